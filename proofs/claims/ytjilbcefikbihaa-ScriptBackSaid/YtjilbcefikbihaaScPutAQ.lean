/- Put, whatever the act. Condition: its numbers are numbers, its texts and writes not too long. -/
import Derived.Test.YtjilbcefikbihaaScBkQ
namespace Go.Proofs.Ytjilbcefikbihaa
open Go.RowKit
set_option linter.unusedVariables false
theorem sc_put_all (a : SaV) (sv : Value) (w : World) (hws : WsAt w sv a.ws) (hsl : ∀ b, sBlk sv = some b → b < w.heap.size) (hwf : a.wf) :
    Calls Try.prog 8 #[.agg #[.int .i64 a.k, .int .i64 a.c, .int .u64 a.t, .string a.d, .int .i64 a.n, .int .i64 a.mk, .int .i64 a.mt, .int .u64 a.mh, .int .i64 a.pf, .int .u64 a.pq, .int .u64 a.pt, .string a.pd, .string a.mp, sv]] w fun x w' => Below w.heap.size w w' ∧
      (PutOk a → x = .returned (.tuple #[.string (txt (encA a)), .int .i64 0])) ∧ (¬ PutOk a → ∃ e : Int, e ≠ 0 ∧ x = .returned (.tuple #[.string ⟨#[]⟩, .int .i64 e])) := by
  by_cases hk : 0 ≤ a.k ∧ a.k < 9
  · obtain ⟨n, hn⟩ : ∃ n, n = a.k.toNat := ⟨_, rfl⟩
    have hz : ((n : Nat) : Int) = a.k := by rw [hn]; exact Int.toNat_of_nonneg hk.1
    refine (sc_put a sv n w (by omega) hz.symm hws hsl hwf).mono ?_
    rintro x w' ⟨hb, h1, h2, h3⟩
    rw [hz, hn] at h1 h2 h3
    refine ⟨hb, fun h => h3 h.keep h.ok, fun h => ?_⟩
    by_cases hq : a = (fmOf a.k.toNat).keep a (zeroK a.k)
    · exact ⟨1, by decide, h2 hq (fun ho => h ⟨hk, hwf, hq, ho⟩)⟩
    · exact ⟨5, by decide, h1 hq⟩
  · refine (sc_put_kind a sv w hk).mono ?_
    rintro x w' ⟨rfl, hb⟩
    exact ⟨hb, fun h => absurd h.k hk, fun h => ⟨5, by decide, rfl⟩⟩
def FmV.len (F : FmV) : Prop := ∀ a : SaV, a.wf → F.ok a → (F.enc a).length ≤ F.cap
theorem sm_len (g : SaV → Int) (s : SaV → Int → SaV) : (smF g s).len := fun a _ _ => Nat.le_refl 1
theorem nu_len (g : SaV → Int) (s : SaV → Int → SaV) : (nuF g s).len := fun a _ _ => Nat.le_refl 8
theorem tx_len (g : SaV → ByteArray) (s : SaV → ByteArray → SaV) : (txF g s).len := fun a _ h => by
  have h1 : (g a).size ≤ 65535 := h
  show (hi2 (g a).size ++ nl (g a)).length ≤ 65537
  rw [List.length_append, nl_length]
  show 2 + _ ≤ _
  omega
theorem encW_len : ∀ l : List (Bool × Int), (encW l).length = 3 * l.length
  | [] => rfl
  | x :: l => by
    show ([if x.1 then 1 else 0] ++ hi2 x.2.toNat ++ encW l).length = 3 * (l.length + 1)
    rw [List.length_append, List.length_append, encW_len l]
    show 1 + 2 + _ = _
    omega
theorem wr_len : wrF.len := fun a _ h => by
  obtain ⟨h1, h2⟩ : a.ws.length ≤ 255 ∧ okW a.ws := h
  show ([a.ws.length] ++ encW a.ws).length ≤ 200000
  rw [List.length_append, encW_len]
  show 1 + _ ≤ _
  omega
theorem encFL_len : ∀ (l : List FmV), (∀ F ∈ l, F.len) → ∀ a : SaV, a.wf → okL l a → (encFL l a).length ≤ capL l
  | [], _, _, _, _ => Nat.le_refl 0
  | f :: l, h, a, hwf, hok => by
    show (f.enc a ++ encFL l a).length ≤ f.cap + capL l
    rw [List.length_append]
    have h1 := h f List.mem_cons_self a hwf hok.1
    have h2 := encFL_len l (fun F hF => h F (List.mem_cons_of_mem _ hF)) a hwf hok.2
    omega
theorem allF_len (l : List FmV) (h : ∀ F ∈ l, F.len) : (allF l).len := fun a hwf hok => encFL_len l h a hwf hok
theorem fm_len (n : Nat) (hn : n < 9) : (fmOf n).len := by
  have hf : ∀ F ∈ fMs, F.len := fun F hF => by
    simp only [fMs, List.mem_cons, List.not_mem_nil, or_false] at hF
    rcases hF with rfl | rfl | rfl | rfl | rfl | rfl | rfl | rfl
    · exact sm_len _ _
    · exact sm_len _ _
    · exact nu_len _ _
    · exact sm_len _ _
    · exact nu_len _ _
    · exact nu_len _ _
    · exact tx_len _ _
    · exact tx_len _ _
  have hs : ∀ F ∈ [fC, fT, fD], F.len := fun F hF => by
    simp only [List.mem_cons, List.not_mem_nil, or_false] at hF
    rcases hF with rfl | rfl | rfl
    · exact sm_len _ _
    · exact nu_len _ _
    · exact tx_len _ _
  have : n = 0 ∨ n = 1 ∨ n = 2 ∨ n = 3 ∨ n = 4 ∨ n = 5 ∨ n = 6 ∨ n = 7 ∨ n = 8 := by omega
  rcases this with rfl | rfl | rfl | rfl | rfl | rfl | rfl | rfl | rfl
  · exact allF_len [fC, fT, fD] hs
  · exact (show fC.len from sm_len _ _)
  · exact allF_len [] (fun F hF => by cases hF)
  · exact (show fN.len from sm_len _ _)
  · exact (show fN.len from sm_len _ _)
  · exact (show fN.len from sm_len _ _)
  · exact allF_len fMs hf
  · exact (show fN.len from sm_len _ _)
  · exact wr_len
theorem encA_len (a : SaV) (h : PutOk a) : (encA a).length ≤ 900001 := by
  have hk := h.k
  have h1 := fm_len a.k.toNat (by omega) a h.wf h.ok
  have h2 := (keepsHi a.k.toNat (by omega) a).1
  unfold encA
  rw [List.length_append]
  show 1 + _ ≤ _
  omega
theorem encAs_len : ∀ (l : List SaV), (∀ a ∈ l, PutOk a) → (l.flatMap encA).length ≤ l.length * 900001
  | [], _ => Nat.zero_le _
  | a :: l, h => by
    have h1 := encA_len a (h a List.mem_cons_self)
    have h2 := encAs_len l (fun b hb => h b (List.mem_cons_of_mem _ hb))
    show (encA a ++ l.flatMap encA).length ≤ (l.length + 1) * 900001
    rw [List.length_append]; omega
theorem CoV.enc_len (c : CoV) : c.enc.length = 39 := by
  unfold CoV.enc CoV.pre
  rfl
end Go.Proofs.Ytjilbcefikbihaa
