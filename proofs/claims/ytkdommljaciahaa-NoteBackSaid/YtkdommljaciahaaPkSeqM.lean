/- Small lemmas on a reader of eight bytes; a reader that is new. No condition. -/
import Derived.WalkSpells
import Derived.Test.YtkdommljaciahaaPkKey
namespace Go.Proofs.Ytkdommljaciahaa
open Go.RowKit
set_option linter.unusedVariables false
theorem end_of (t : ByteArray) : endOf (WireM.raw 0 t (8 : Nat)).2.1 (WireM.raw 0 t (8 : Nat)).2.2 = if t.size = 8 then 0 else if t.size < 8 then 6 else 7 := by
  by_cases h : t.size < 8
  · have e : WireM.raw 0 t ((8 : Nat) : Int) = (⟨#[]⟩, 6, t) := by rw [WireM.raw_bad 0 t _ (Or.inr (by omega))]; rfl
    rw [e, if_neg (by omega), if_pos h]
    rfl
  · rw [WireM.raw_ok t 8 (by omega), if_neg h]
    unfold endOf
    simp only [if_true]
    have hz : (t.extract 8 t.size).size = t.size - 8 := by simp
    rw [hz]
    by_cases h8 : t.size = 8
    · rw [if_pos (by omega), if_pos h8]
    · rw [if_neg (by omega), if_neg h8]
theorem val_of (t : ByteArray) (h : t.size = 8) : WireM.val (nl (WireM.raw 0 t (8 : Nat)).1) = WireM.val (nl t) := by
  rw [WireM.raw_ok t 8 (by omega)]
  congr 1
  show nl (t.extract 0 8) = nl t
  rw [nl_extract, List.drop_zero, List.take_of_length_le (by rw [nl_length]; omega)]
theorem rd_fresh {w w' : World} {S : Nat → Prop} (h : Kq.Keeps S w w') (hS : ∀ k, S k → w.heap.size ≤ k) (B : Nat) (hB : B ≤ w.heap.size) : Below B w w' :=
  h.below hB (fun k _ hk => Nat.le_trans hB (hS k hk))
end Go.Proofs.Ytkdommljaciahaa
