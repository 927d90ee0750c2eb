/- Merged: ScPut, ScEn. Package script's Put. Condition: numbers are numbers, texts not too long. Entries as mathematics; a row of entries in memory. Condition: none. -/
import Derived.Test.YtjilbcefikbihaaScIxQ
import Derived.Test.YtjilbcefikbihaaScSameQ
import Derived.WalkSpells
import Derived.Test.YtjilbcefikbihaaRowGQ
namespace Go.Proofs.Ytjilbcefikbihaa
open Go.RowKit
set_option linter.unusedVariables false
def zeroK (k : Int) : SaV := { SaV.zero with k := k }
def fmOf (n : Nat) : FmV := formsL.getD n (allF [])
/-- what Put tells -/
def putV (a : SaV) : List Nat × Int :=
  if 0 ≤ a.k ∧ a.k < 9 then
    if a = (fmOf a.k.toNat).keep a (zeroK a.k) then [a.k.toNat] ++ (fmOf a.k.toNat).enc a |> fun l => (l, 0) else ([], 5)
  else ([], 5)
set_option maxRecDepth 100000 in
set_option maxHeartbeats 8000000 in
theorem sc_put_kind (a : SaV) (sv : Value) (w : World) (hk : ¬ (0 ≤ a.k ∧ a.k < 9)) :
    Calls Try.prog 8 #[.agg #[.int .i64 a.k, .int .i64 a.c, .int .u64 a.t, .string a.d, .int .i64 a.n, .int .i64 a.mk, .int .i64 a.mt, .int .u64 a.mh, .int .i64 a.pf, .int .u64 a.pq, .int .u64 a.pt, .string a.pd, .string a.mp, sv]] w fun x w' => x = .returned (.tuple #[.string ⟨#[]⟩, .int .i64 5]) ∧ Below w.heap.size w w' := by
  have HB : Hid (Below w.heap.size w (w.alloc (.cells #[.int .i64 a.k, .int .i64 a.c, .int .u64 a.t, .string a.d, .int .i64 a.n, .int .i64 a.mk, .int .i64 a.mt, .int .u64 a.mh, .int .i64 a.pf, .int .u64 a.pq, .int .u64 a.pt, .string a.pd, .string a.mp, sv] 29))) := Lib.hid (Kq.below_alloc _ _)
  by_cases h0 : a.k < 0
  · have t0 : decide (a.k < 0) = true := decide_eq_true h0
    clear hk h0
    go_enter Try.func8, Try.ntmps8
    go_wp2
    go_ret2
    exact ⟨rfl, HB.out⟩
  · have t0 : decide (a.k < 0) = false := decide_eq_false h0
    have t1 : decide (9 ≤ a.k) = true := decide_eq_true (by omega)
    clear hk h0
    go_enter Try.func8, Try.ntmps8
    go_wp2
    go_ret2
    exact ⟨rfl, HB.out⟩
theorem keepL_ws (a : SaV) : ∀ (l : List FmV) (h : ∀ F ∈ l, ∀ z, (F.keep a z).ws = z.ws) (z : SaV), (keepL l a z).ws = z.ws
  | [], _, _ => rfl
  | f :: l, h, z => (keepL_ws a l (fun F hF => h F (List.mem_cons_of_mem _ hF)) (f.keep a z)).trans (h f List.mem_cons_self z)
theorem keepWs (n : Nat) (hn : n < 9) (a z : SaV) : ((fmOf n).keep a z).ws = a.ws ∨ ((fmOf n).keep a z).ws = z.ws := by
  have : n = 0 ∨ n = 1 ∨ n = 2 ∨ n = 3 ∨ n = 4 ∨ n = 5 ∨ n = 6 ∨ n = 7 ∨ n = 8 := by omega
  rcases this with rfl | rfl | rfl | rfl | rfl | rfl | rfl | rfl | rfl
  · right; show (keepL [fC, fT, fD] a z).ws = z.ws; rfl
  · right; show (fC.keep a z).ws = z.ws; rfl
  · right; show (keepL [] a z).ws = z.ws; rfl
  · right; show (fN.keep a z).ws = z.ws; rfl
  · right; show (fN.keep a z).ws = z.ws; rfl
  · right; show (fN.keep a z).ws = z.ws; rfl
  · right
    refine keepL_ws a fMs (fun F hF z => ?_) z
    simp only [fMs, List.mem_cons, List.not_mem_nil, or_false] at hF
    rcases hF with rfl | rfl | rfl | rfl | rfl | rfl | rfl | rfl <;> rfl
  · right; show (fN.keep a z).ws = z.ws; rfl
  · left; show (wrF.keep a z).ws = a.ws; rfl
def FmV.by256 (F : FmV) : Prop := F.cap ≤ 100000 * 2 ∧ ∀ a : SaV, a.wf → F.ok a → ∀ b ∈ F.enc a, b < 256
theorem sm_256 (g : SaV → Int) (s : SaV → Int → SaV) : (smF g s).by256 := by
  refine ⟨(by show 1 ≤ 200000; decide), fun a _ hok b hb => ?_⟩
  have h1 : 0 ≤ g a ∧ g a ≤ 255 := hok
  have h2 : b = (g a).toNat := List.mem_singleton.1 hb
  omega
theorem nu_256 (g : SaV → Int) (s : SaV → Int → SaV) : (nuF g s).by256 := ⟨(by show 8 ≤ 200000; decide), fun a _ _ b hb => num8_lt _ b hb⟩
theorem hi2_lt (n : Nat) (h : n ≤ 65535) : ∀ b ∈ hi2 n, b < 256 := by
  intro b hb
  simp only [hi2, List.mem_cons, List.not_mem_nil, or_false] at hb
  rcases hb with rfl | rfl <;> omega
theorem tx_256 (g : SaV → ByteArray) (s : SaV → ByteArray → SaV) : (txF g s).by256 := by
  refine ⟨(by show 65537 ≤ 200000; decide), fun a _ hok b hb => ?_⟩
  rcases List.mem_append.1 hb with h | h
  · exact hi2_lt _ hok b h
  · exact nl_lt _ b h
theorem encW_lt : ∀ (l : List (Bool × Int)), okW l → ∀ b ∈ encW l, b < 256
  | [], _, b, hb => by cases hb
  | x :: l, h, b, hb => by
    have h0 := h x List.mem_cons_self
    rcases List.mem_append.1 hb with h1 | h1
    · rcases List.mem_append.1 h1 with h2 | h2
      · have := List.mem_singleton.1 h2; split at this <;> omega
      · exact hi2_lt _ (by omega) b h2
    · exact encW_lt l (fun y hy => h y (List.mem_cons_of_mem _ hy)) b h1
theorem wr_256 : wrF.by256 := by
  refine ⟨by decide, fun a _ hok b hb => ?_⟩
  obtain ⟨h1, h2⟩ : a.ws.length ≤ 255 ∧ okW a.ws := hok
  rcases List.mem_append.1 hb with h | h
  · have := List.mem_singleton.1 h; omega
  · exact encW_lt _ h2 b h
theorem encFL_lt : ∀ (l : List FmV), (∀ F ∈ l, F.by256) → ∀ a : SaV, a.wf → okL l a → ∀ b ∈ encFL l a, b < 256
  | [], _, _, _, _, b, hb => by cases hb
  | f :: l, h, a, hwf, hok, b, hb => by
    rcases List.mem_append.1 hb with h1 | h1
    · exact (h f List.mem_cons_self).2 a hwf hok.1 b h1
    · exact encFL_lt l (fun F hF => h F (List.mem_cons_of_mem _ hF)) a hwf hok.2 b h1
theorem keepsHi (n : Nat) (hn : n < 9) (a : SaV) : (fmOf n).cap ≤ 900000 ∧ (a.wf → (fmOf n).ok a → ∀ b ∈ (fmOf n).enc a, b < 256) := by
  have hf : ∀ F ∈ fMs, F.by256 := fun F hF => by
    simp only [fMs, List.mem_cons, List.not_mem_nil, or_false] at hF
    rcases hF with rfl | rfl | rfl | rfl | rfl | rfl | rfl | rfl
    · exact sm_256 _ _
    · exact sm_256 _ _
    · exact nu_256 _ _
    · exact sm_256 _ _
    · exact nu_256 _ _
    · exact nu_256 _ _
    · exact tx_256 _ _
    · exact tx_256 _ _
  have hs : ∀ F ∈ [fC, fT, fD], F.by256 := fun F hF => by
    simp only [List.mem_cons, List.not_mem_nil, or_false] at hF
    rcases hF with rfl | rfl | rfl
    · exact sm_256 _ _
    · exact nu_256 _ _
    · exact tx_256 _ _
  have : n = 0 ∨ n = 1 ∨ n = 2 ∨ n = 3 ∨ n = 4 ∨ n = 5 ∨ n = 6 ∨ n = 7 ∨ n = 8 := by omega
  rcases this with rfl | rfl | rfl | rfl | rfl | rfl | rfl | rfl | rfl
  · exact ⟨by decide, fun h1 h2 => encFL_lt _ hs a h1 h2⟩
  · exact ⟨by decide, fun h1 h2 => (show fC.by256 from sm_256 _ _).2 a h1 h2⟩
  · exact ⟨by decide, fun h1 h2 b hb => by cases hb⟩
  · exact ⟨by decide, fun h1 h2 => (show fN.by256 from sm_256 _ _).2 a h1 h2⟩
  · exact ⟨by decide, fun h1 h2 => (show fN.by256 from sm_256 _ _).2 a h1 h2⟩
  · exact ⟨by decide, fun h1 h2 => (show fN.by256 from sm_256 _ _).2 a h1 h2⟩
  · exact ⟨by decide, fun h1 h2 => encFL_lt _ hf a h1 h2⟩
  · exact ⟨by decide, fun h1 h2 => (show fN.by256 from sm_256 _ _).2 a h1 h2⟩
  · exact ⟨by decide, fun h1 h2 => wr_256.2 a h1 h2⟩
end Go.Proofs.Ytjilbcefikbihaa
namespace Go.Proofs.Ytjilbcefikbihaa
open Go.RowKit
set_option linter.unusedVariables false
/-- a text that stands at the end of another one -/
def Suf (t s : ByteArray) : Prop := ∃ k, k ≤ s.size ∧ nl t = (nl s).drop k
theorem Suf.refl (s : ByteArray) : Suf s s := ⟨0, Nat.zero_le _, by rw [List.drop_zero]⟩
theorem Suf.none (s : ByteArray) : Suf ⟨#[]⟩ s := ⟨s.size, Nat.le_refl _, by rw [List.drop_eq_nil_of_le (by rw [nl_length]; exact Nat.le_refl _)]; rfl⟩
theorem Suf.size {t s : ByteArray} (h : Suf t s) : t.size ≤ s.size := by
  obtain ⟨k, hk, e⟩ := h
  have := congrArg List.length e
  rw [List.length_drop, nl_length, nl_length] at this
  omega
theorem Suf.trans {u t s : ByteArray} (h : Suf u t) (h2 : Suf t s) : Suf u s := by
  obtain ⟨k, hk, e⟩ := h
  obtain ⟨m, hm, f⟩ := h2
  have := congrArg List.length f
  rw [List.length_drop, nl_length, nl_length] at this
  exact ⟨m + k, by omega, by rw [e, f, List.drop_drop]⟩
theorem Suf.eq {t s : ByteArray} (h : Suf t s) : t = s.extract (s.size - t.size) s.size := by
  obtain ⟨k, hk, e⟩ := h
  have hl := congrArg List.length e
  rw [List.length_drop, nl_length, nl_length] at hl
  apply nl_inj
  have hd : s.size - t.size = k := by omega
  rw [nl_extract, hd, e, List.take_of_length_le (by rw [List.length_drop, nl_length]; exact Nat.le_refl _)]
theorem raw_suf (e : Int) (s : ByteArray) (n : Int) : Suf (WireM.raw e s n).2.2 s := by
  by_cases h : n < 0 ∨ (s.size : Int) < n
  · rw [WireM.raw_bad e s n h]; exact Suf.refl s
  · by_cases he : e = 0
    · subst he
      obtain ⟨m, rfl⟩ := Int.eq_ofNat_of_zero_le (show 0 ≤ n by omega)
      rw [WireM.raw_ok s m (by omega)]
      refine ⟨m, by omega, ?_⟩
      rw [nl_extract, List.take_of_length_le (by rw [List.length_drop, nl_length]; exact Nat.le_refl _)]
    · rw [WireM.raw_stuck e s n he]; exact Suf.refl s
theorem byteF_suf (e : Int) (s : ByteArray) : Suf (byteF e s).2.2 s := raw_suf e s _
theorem numF_suf (e : Int) (s : ByteArray) : Suf (numF e s).2.2 s := raw_suf e s _
theorem textF_suf (e : Int) (s : ByteArray) : Suf (textF e s).2.2 s := (raw_suf _ _ _).trans (raw_suf e s _)
theorem pairF_suf (e : Int) (s : ByteArray) : Suf (pairF e s).2.2 s := (byteF_suf _ _).trans (byteF_suf e s)
theorem getW_suf : ∀ (n : Nat) (e : Int) (s : ByteArray), Suf (getW n e s).2.2 s
  | 0, _, s => Suf.refl s
  | n + 1, e, s => (getW_suf n _ _).trans ((pairF_suf _ _).trans (byteF_suf e s))
def FmV.suf (F : FmV) : Prop := ∀ a e b, Suf (F.get a e b).2.2 b
theorem getL_suf : ∀ (l : List FmV), (∀ F ∈ l, F.suf) → ∀ a e b, Suf (getL l a e b).2.2 b
  | [], _, _, _, b => Suf.refl b
  | f :: l, h, a, e, b => (getL_suf l (fun F hF => h F (List.mem_cons_of_mem _ hF)) _ _ _).trans (h f List.mem_cons_self a e b)
theorem sm_suf (g : SaV → Int) (s : SaV → Int → SaV) : (smF g s).suf := fun a e b => byteF_suf e b
theorem nu_suf (g : SaV → Int) (s : SaV → Int → SaV) : (nuF g s).suf := fun a e b => numF_suf e b
theorem tx_suf (g : SaV → ByteArray) (s : SaV → ByteArray → SaV) : (txF g s).suf := fun a e b => textF_suf e b
theorem wr_suf : wrF.suf := fun a e b => (getW_suf _ _ _).trans (byteF_suf e b)
theorem fm_suf (n : Nat) (hn : n < 9) : (fmOf n).suf := by
  have hf : ∀ F ∈ fMs, F.suf := fun F hF => by
    simp only [fMs, List.mem_cons, List.not_mem_nil, or_false] at hF
    rcases hF with rfl | rfl | rfl | rfl | rfl | rfl | rfl | rfl
    · exact sm_suf _ _
    · exact sm_suf _ _
    · exact nu_suf _ _
    · exact sm_suf _ _
    · exact nu_suf _ _
    · exact nu_suf _ _
    · exact tx_suf _ _
    · exact tx_suf _ _
  have hs : ∀ F ∈ [fC, fT, fD], F.suf := fun F hF => by
    simp only [List.mem_cons, List.not_mem_nil, or_false] at hF
    rcases hF with rfl | rfl | rfl
    · exact sm_suf _ _
    · exact nu_suf _ _
    · exact tx_suf _ _
  have : n = 0 ∨ n = 1 ∨ n = 2 ∨ n = 3 ∨ n = 4 ∨ n = 5 ∨ n = 6 ∨ n = 7 ∨ n = 8 := by omega
  rcases this with rfl | rfl | rfl | rfl | rfl | rfl | rfl | rfl | rfl
  · exact getL_suf _ hs
  · exact (show fC.suf from sm_suf _ _)
  · exact getL_suf [] (fun F hF => by cases hF)
  · exact (show fN.suf from sm_suf _ _)
  · exact (show fN.suf from sm_suf _ _)
  · exact (show fN.suf from sm_suf _ _)
  · exact getL_suf _ hf
  · exact (show fN.suf from sm_suf _ _)
  · exact wr_suf
/-- the entry at the front, and what is left -/
def entStep (s : ByteArray) : (SaV × Int) × ByteArray :=
  if (byteF 0 s).1 < 9 then
    if ((fmOf (byteF 0 s).1.toNat).get (zeroK (byteF 0 s).1) (byteF 0 s).2.1 (byteF 0 s).2.2).2.1 = 0 then ((((fmOf (byteF 0 s).1.toNat).get (zeroK (byteF 0 s).1) (byteF 0 s).2.1 (byteF 0 s).2.2).1, 0), ((fmOf (byteF 0 s).1.toNat).get (zeroK (byteF 0 s).1) (byteF 0 s).2.1 (byteF 0 s).2.2).2.2)
    else ((SaV.zero, ((fmOf (byteF 0 s).1.toNat).get (zeroK (byteF 0 s).1) (byteF 0 s).2.1 (byteF 0 s).2.2).2.1), ⟨#[]⟩)
  else ((SaV.zero, 5), (byteF 0 s).2.2)
def entG : Nat → ByteArray → List (SaV × Int)
  | 0, _ => []
  | n + 1, s => if s.size = 0 then [] else (entStep s).1 :: entG n (entStep s).2
def entF (s : ByteArray) : List (SaV × Int) := entG s.size s
theorem byteF_val (e : Int) (s : ByteArray) : 0 ≤ (byteF e s).1 ∧ (byteF e s).1 < 256 := by
  have h := whole_lt e s 1
  unfold byteF
  dsimp only
  omega
theorem byteF_some (s : ByteArray) (h : s.size ≠ 0) : (byteF 0 s).2.1 = 0 ∧ (byteF 0 s).2.2.size < s.size := by
  unfold byteF
  rw [WireM.raw_ok s 1 (by omega)]
  refine ⟨rfl, ?_⟩
  show (s.extract 1 s.size).size < s.size
  rw [ByteArray.size_extract]; omega
theorem entStep_lt (s : ByteArray) (h : s.size ≠ 0) : (entStep s).2.size < s.size := by
  have hb := (byteF_some s h).2
  have hv := byteF_val 0 s
  unfold entStep
  by_cases h9 : (byteF 0 s).1 < 9
  · rw [if_pos h9]
    have hs := (fm_suf (byteF 0 s).1.toNat (by omega) (zeroK (byteF 0 s).1) (byteF 0 s).2.1 (byteF 0 s).2.2).size
    by_cases he : ((fmOf (byteF 0 s).1.toNat).get (zeroK (byteF 0 s).1) (byteF 0 s).2.1 (byteF 0 s).2.2).2.1 = 0
    · rw [if_pos he]; exact Nat.lt_of_le_of_lt hs hb
    · rw [if_neg he]; show 0 < s.size; omega
  · rw [if_neg h9]; exact hb
theorem entG_more : ∀ (n m : Nat) (s : ByteArray), s.size ≤ n → s.size ≤ m → entG n s = entG m s
  | 0, 0, _, _, _ => rfl
  | 0, m + 1, s, h, _ => by unfold entG; rw [if_pos (by omega)]
  | n + 1, 0, s, _, h => by unfold entG; rw [if_pos (by omega)]
  | n + 1, m + 1, s, h1, h2 => by
    unfold entG
    by_cases h : s.size = 0
    · rw [if_pos h, if_pos h]
    · rw [if_neg h, if_neg h]
      have := entStep_lt s h
      rw [entG_more n m _ (by omega) (by omega)]
theorem entF_zero (s : ByteArray) (h : s.size = 0) : entF s = [] := by unfold entF; rw [h]; rfl
theorem entF_step (s : ByteArray) (h : s.size ≠ 0) : entF s = (entStep s).1 :: entF (entStep s).2 := by
  have hl := entStep_lt s h
  unfold entF
  obtain ⟨n, hn⟩ : ∃ n, s.size = n + 1 := ⟨s.size - 1, by omega⟩
  rw [hn]
  show (if s.size = 0 then [] else _) = _
  rw [if_neg h, entG_more n _ _ (by omega) (Nat.le_refl _)]
theorem entF_len (s : ByteArray) : (entF s).length ≤ s.size := by
  suffices h : ∀ n s, (entG n s).length ≤ n from h _ s
  intro n
  induction n with
  | zero => intro s; exact Nat.zero_le _
  | succ n ih =>
    intro s
    unfold entG
    split
    · exact Nat.zero_le _
    · exact Nat.succ_le_succ (ih _)
/-- an entry in memory: the act, the slice of its writes, the error -/
structure EnX where
  a : SaV
  A : Option Addr
  c : Nat
  e : Int
def EnX.sl (x : EnX) : Value := .slice x.A x.a.ws.length x.c
def EnX.out (x : EnX) : SaV × Int := (x.a, x.e)
def enE : Kq.Elt EnX := ⟨15, fun x => x.a.cells x.sl [.int .i64 x.e], fun _ => rfl, fun x u hu => by
  simp only [SaV.cells, EnX.sl, List.cons_append, List.nil_append, List.mem_cons, List.not_mem_nil, or_false] at hu
  rcases hu with rfl | rfl | rfl | rfl | rfl | rfl | rfl | rfl | rfl | rfl | rfl | rfl | rfl | rfl | rfl <;> rfl, by decide⟩
/-- entries in memory -/
def EnsAt (w : World) (A : Option Addr) (xs : List EnX) : Prop := enE.At w A xs ∧ ∀ x ∈ xs, WsAt w x.sl x.a.ws
theorem EnsAt.below {w w' : World} {A : Option Addr} {xs : List EnX} (h : EnsAt w A xs) (hb : Below w.heap.size w w') : EnsAt w' A xs :=
  ⟨h.1.below hb, fun x hx => (h.2 x hx).keeps (S := fun _ => False) (keeps_any hb) (fun _ _ => id)⟩
theorem infoEn : (Try.prog.info? 64).map (fun i => (i.zero, i.size, i.bytes)) = some (some (.agg ⟨SaV.zero.cells (.slice none 0 0) [.int .i64 0]⟩), 15, 160) := by kernel_rfl
end Go.Proofs.Ytjilbcefikbihaa
