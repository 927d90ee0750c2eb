/- Plain mathematics: a packet's bytes are told by themselves. No condition. -/
import Derived.Test.YtkdommljaciahaaPkM
import Derived.Test.YtkdommljaciahaaPkPut
namespace Go.Proofs.Ytkdommljaciahaa
open Go.RowKit
set_option linter.unusedVariables false
theorem encP_len (p : PkV) : (encP p).length = 19 + p.d.size := by
  simp [encP, num8, hi2, nl_length]; omega
theorem encP_take (p : PkV) (m : List Nat) : (encP p ++ m).take 1 = [p.f.toNat] ∧ ((encP p ++ m).drop 1).take 8 = num8 p.q.toNat ∧ ((encP p ++ m).drop 9).take 8 = num8 p.t.toNat ∧ ((encP p ++ m).drop 17).take 2 = hi2 p.d.size ∧ (encP p ++ m).drop 19 = nl p.d ++ m := by
  simp [encP, num8, hi2]
theorem get_cut (p : PkV) (s : ByteArray) (n : Nat) (hn : n < (encP p).length) (hs : nl s = (encP p).take n) : getOf 0 s = (PkV.zero, 6, (gX 0 s).2.2) := by
  have hl : (nl s).length = n := by rw [hs, List.length_take]; omega
  have h6 : (gX 0 s).2.1 = 6 := by
    refine get_six s ?_
    by_cases h : n < 19
    · exact Or.inl (by omega)
    · refine Or.inr ?_
      have h17 := (encP_take p []).2.2.2.1
      rw [List.append_nil] at h17
      have : ((nl s).drop 17).take 2 = hi2 p.d.size := by
        rw [hs, List.drop_take, List.take_take, Nat.min_eq_left (by omega), h17]
      rw [this, val_hi2]
      rw [encP_len] at hn
      omega
  unfold getOf
  rw [h6, if_neg (by decide)]
theorem get_whole (p : PkV) (hok : PkOk p) (hq : 0 ≤ p.q ∧ p.q < 18446744073709551616) (ht : 0 ≤ p.t ∧ p.t < 18446744073709551616) (s more : ByteArray) (hs : nl s = encP p ++ nl more) :
    getOf 0 s = (p, 0, (gX 0 s).2.2) ∧ (gX 0 s).2.2.size = more.size := by
  obtain ⟨h1, h2, h3, h4, h5⟩ := encP_take p (nl more)
  rw [← hs] at h1 h2 h3 h4 h5
  have hl : (nl s).length = 19 + p.d.size + more.size := by rw [hs, List.length_append, encP_len, nl_length]
  have hv : WireM.val (((nl s).drop 17).take 2) = p.d.size := by rw [h4, val_hi2]
  obtain ⟨g1, g2, g3, g4⟩ := get_all s (by rw [hv]; omega)
  rw [hv] at g3 g4
  rw [h5] at g3
  have hd : (gX 0 s).1 = p.d := by
    apply nl_inj
    rw [g3, ← nl_length p.d, List.take_left]
  have hf0 := hok.1
  have hP : gP 0 s = p := by
    rw [g2, h1, h2, h3, hd, val_one, val_num8 _ (by unfold M64; omega), val_num8 _ (by unfold M64; omega)]
    obtain ⟨f, q, t, d⟩ := p
    simp only at hf0 hq ht ⊢
    rw [Int.toNat_of_nonneg hf0, Int.toNat_of_nonneg hq.1, Int.toNat_of_nonneg ht.1]
  refine ⟨?_, ?_⟩
  · unfold getOf
    rw [g1, if_pos rfl, hP, if_pos hok]
  · have := between_size g4 (Nat.le_refl _)
    rw [this, hl]; omega
end Go.Proofs.Ytkdommljaciahaa
