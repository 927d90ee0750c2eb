/- Package script's Put. Condition: numbers are numbers, texts not too long. -/
import Derived.Test.YtjilbcefikbihaaScIxQ
import Derived.Test.YtjilbcefikbihaaScSameQ
namespace Go.Proofs.Ytjilbcefikbihaa
open Go.RowKit
set_option linter.unusedVariables false
def zeroK (k : Int) : SaV := { SaV.zero with k := k }
def fmOf (n : Nat) : FmV := formsL.getD n (allF [])
/-- what Put tells -/
def putV (a : SaV) : List Nat × Int :=
  if 0 ≤ a.k ∧ a.k < 9 then
    if a = (fmOf a.k.toNat).keep a (zeroK a.k) then [a.k.toNat] ++ (fmOf a.k.toNat).enc a |> fun l => (l, 0) else ([], 5)
  else ([], 5)
set_option maxRecDepth 100000 in
set_option maxHeartbeats 8000000 in
theorem sc_put_kind (a : SaV) (sv : Value) (w : World) (hk : ¬ (0 ≤ a.k ∧ a.k < 9)) :
    Calls Try.prog 8 #[.agg #[.int .i64 a.k, .int .i64 a.c, .int .u64 a.t, .string a.d, .int .i64 a.n, .int .i64 a.mk, .int .i64 a.mt, .int .u64 a.mh, .int .i64 a.pf, .int .u64 a.pq, .int .u64 a.pt, .string a.pd, .string a.mp, sv]] w fun x w' => x = .returned (.tuple #[.string ⟨#[]⟩, .int .i64 5]) ∧ Below w.heap.size w w' := by
  have HB : Hid (Below w.heap.size w (w.alloc (.cells #[.int .i64 a.k, .int .i64 a.c, .int .u64 a.t, .string a.d, .int .i64 a.n, .int .i64 a.mk, .int .i64 a.mt, .int .u64 a.mh, .int .i64 a.pf, .int .u64 a.pq, .int .u64 a.pt, .string a.pd, .string a.mp, sv] 29))) := Lib.hid (Kq.below_alloc _ _)
  by_cases h0 : a.k < 0
  · have t0 : decide (a.k < 0) = true := decide_eq_true h0
    clear hk h0
    go_enter Try.func8, Try.ntmps8
    go_wp2
    go_ret2
    exact ⟨rfl, HB.out⟩
  · have t0 : decide (a.k < 0) = false := decide_eq_false h0
    have t1 : decide (9 ≤ a.k) = true := decide_eq_true (by omega)
    clear hk h0
    go_enter Try.func8, Try.ntmps8
    go_wp2
    go_ret2
    exact ⟨rfl, HB.out⟩
theorem keepL_ws (a : SaV) : ∀ (l : List FmV) (h : ∀ F ∈ l, ∀ z, (F.keep a z).ws = z.ws) (z : SaV), (keepL l a z).ws = z.ws
  | [], _, _ => rfl
  | f :: l, h, z => (keepL_ws a l (fun F hF => h F (List.mem_cons_of_mem _ hF)) (f.keep a z)).trans (h f List.mem_cons_self z)
theorem keepWs (n : Nat) (hn : n < 9) (a z : SaV) : ((fmOf n).keep a z).ws = a.ws ∨ ((fmOf n).keep a z).ws = z.ws := by
  have : n = 0 ∨ n = 1 ∨ n = 2 ∨ n = 3 ∨ n = 4 ∨ n = 5 ∨ n = 6 ∨ n = 7 ∨ n = 8 := by omega
  rcases this with rfl | rfl | rfl | rfl | rfl | rfl | rfl | rfl | rfl
  · right; show (keepL [fC, fT, fD] a z).ws = z.ws; rfl
  · right; show (fC.keep a z).ws = z.ws; rfl
  · right; show (keepL [] a z).ws = z.ws; rfl
  · right; show (fN.keep a z).ws = z.ws; rfl
  · right; show (fN.keep a z).ws = z.ws; rfl
  · right; show (fN.keep a z).ws = z.ws; rfl
  · right
    refine keepL_ws a fMs (fun F hF z => ?_) z
    simp only [fMs, List.mem_cons, List.not_mem_nil, or_false] at hF
    rcases hF with rfl | rfl | rfl | rfl | rfl | rfl | rfl | rfl <;> rfl
  · right; show (fN.keep a z).ws = z.ws; rfl
  · left; show (wrF.keep a z).ws = a.ws; rfl
def FmV.by256 (F : FmV) : Prop := F.cap ≤ 100000 * 2 ∧ ∀ a : SaV, a.wf → F.ok a → ∀ b ∈ F.enc a, b < 256
theorem sm_256 (g : SaV → Int) (s : SaV → Int → SaV) : (smF g s).by256 := by
  refine ⟨(by show 1 ≤ 200000; decide), fun a _ hok b hb => ?_⟩
  have h1 : 0 ≤ g a ∧ g a ≤ 255 := hok
  have h2 : b = (g a).toNat := List.mem_singleton.1 hb
  omega
theorem nu_256 (g : SaV → Int) (s : SaV → Int → SaV) : (nuF g s).by256 := ⟨(by show 8 ≤ 200000; decide), fun a _ _ b hb => num8_lt _ b hb⟩
theorem hi2_lt (n : Nat) (h : n ≤ 65535) : ∀ b ∈ hi2 n, b < 256 := by
  intro b hb
  simp only [hi2, List.mem_cons, List.not_mem_nil, or_false] at hb
  rcases hb with rfl | rfl <;> omega
theorem tx_256 (g : SaV → ByteArray) (s : SaV → ByteArray → SaV) : (txF g s).by256 := by
  refine ⟨(by show 65537 ≤ 200000; decide), fun a _ hok b hb => ?_⟩
  rcases List.mem_append.1 hb with h | h
  · exact hi2_lt _ hok b h
  · exact nl_lt _ b h
theorem encW_lt : ∀ (l : List (Bool × Int)), okW l → ∀ b ∈ encW l, b < 256
  | [], _, b, hb => by cases hb
  | x :: l, h, b, hb => by
    have h0 := h x List.mem_cons_self
    rcases List.mem_append.1 hb with h1 | h1
    · rcases List.mem_append.1 h1 with h2 | h2
      · have := List.mem_singleton.1 h2; split at this <;> omega
      · exact hi2_lt _ (by omega) b h2
    · exact encW_lt l (fun y hy => h y (List.mem_cons_of_mem _ hy)) b h1
theorem wr_256 : wrF.by256 := by
  refine ⟨by decide, fun a _ hok b hb => ?_⟩
  obtain ⟨h1, h2⟩ : a.ws.length ≤ 255 ∧ okW a.ws := hok
  rcases List.mem_append.1 hb with h | h
  · have := List.mem_singleton.1 h; omega
  · exact encW_lt _ h2 b h
theorem encFL_lt : ∀ (l : List FmV), (∀ F ∈ l, F.by256) → ∀ a : SaV, a.wf → okL l a → ∀ b ∈ encFL l a, b < 256
  | [], _, _, _, _, b, hb => by cases hb
  | f :: l, h, a, hwf, hok, b, hb => by
    rcases List.mem_append.1 hb with h1 | h1
    · exact (h f List.mem_cons_self).2 a hwf hok.1 b h1
    · exact encFL_lt l (fun F hF => h F (List.mem_cons_of_mem _ hF)) a hwf hok.2 b h1
theorem keepsHi (n : Nat) (hn : n < 9) (a : SaV) : (fmOf n).cap ≤ 900000 ∧ (a.wf → (fmOf n).ok a → ∀ b ∈ (fmOf n).enc a, b < 256) := by
  have hf : ∀ F ∈ fMs, F.by256 := fun F hF => by
    simp only [fMs, List.mem_cons, List.not_mem_nil, or_false] at hF
    rcases hF with rfl | rfl | rfl | rfl | rfl | rfl | rfl | rfl
    · exact sm_256 _ _
    · exact sm_256 _ _
    · exact nu_256 _ _
    · exact sm_256 _ _
    · exact nu_256 _ _
    · exact nu_256 _ _
    · exact tx_256 _ _
    · exact tx_256 _ _
  have hs : ∀ F ∈ [fC, fT, fD], F.by256 := fun F hF => by
    simp only [List.mem_cons, List.not_mem_nil, or_false] at hF
    rcases hF with rfl | rfl | rfl
    · exact sm_256 _ _
    · exact nu_256 _ _
    · exact tx_256 _ _
  have : n = 0 ∨ n = 1 ∨ n = 2 ∨ n = 3 ∨ n = 4 ∨ n = 5 ∨ n = 6 ∨ n = 7 ∨ n = 8 := by omega
  rcases this with rfl | rfl | rfl | rfl | rfl | rfl | rfl | rfl | rfl
  · exact ⟨by decide, fun h1 h2 => encFL_lt _ hs a h1 h2⟩
  · exact ⟨by decide, fun h1 h2 => (show fC.by256 from sm_256 _ _).2 a h1 h2⟩
  · exact ⟨by decide, fun h1 h2 b hb => by cases hb⟩
  · exact ⟨by decide, fun h1 h2 => (show fN.by256 from sm_256 _ _).2 a h1 h2⟩
  · exact ⟨by decide, fun h1 h2 => (show fN.by256 from sm_256 _ _).2 a h1 h2⟩
  · exact ⟨by decide, fun h1 h2 => (show fN.by256 from sm_256 _ _).2 a h1 h2⟩
  · exact ⟨by decide, fun h1 h2 => encFL_lt _ hf a h1 h2⟩
  · exact ⟨by decide, fun h1 h2 => (show fN.by256 from sm_256 _ _).2 a h1 h2⟩
  · exact ⟨by decide, fun h1 h2 => wr_256.2 a h1 h2⟩
end Go.Proofs.Ytjilbcefikbihaa
