/- Contract of frame.Parts. No condition. -/
import Derived.WalkSpells
import Derived.Test.YtfbjfleagilikaaFrM
namespace Go.Proofs.Ytfbjfleagilikaa
open Go.RowKit
set_option linter.unusedVariables false
theorem nParts_eq (a b : Nat) (ha : 64 ≤ a) : nParts a b = if 1 < (b + (a - 25) - 1) / (a - 25) then (b + (a - 25) - 1) / (a - 25) else 1 := by
  unfold nParts
  split <;> omega
theorem quo_parts (a b : Nat) (ha : 64 ≤ a) (hb : b ≤ 4096) (h5 : a ≤ 512) : ((b : Int) + ((a : Int) - 25) - 1).tdiv ((a : Int) - 25) = (((b + (a - 25) - 1) / (a - 25) : Nat) : Int) := by
  rw [show (b : Int) + ((a : Int) - 25) - 1 = ((b + (a - 25) - 1 : Nat) : Int) by omega, show (a : Int) - 25 = ((a - 25 : Nat) : Int) by omega]
  exact (Int.ofNat_tdiv _ _).symm
set_option maxRecDepth 100000 in
theorem fr_parts_no (a b : Int) (w : World) (h : ¬ (FrSz a ∧ 0 ≤ b ∧ b ≤ 4096)) : Calls Try.prog 12 #[.int .i64 a, .int .i64 b] w fun x w' => x = .returned (.int .i64 0) ∧ w = w' := by
  by_cases h0 : a < 64
  · have d0 : decide (a < 64) = true := decide_eq_true h0
    clear h h0
    go_enter Try.func12, Try.ntmps12
    go_wp2
    go_ret
    exact ⟨rfl, rfl⟩
  have d0 : decide (a < 64) = false := decide_eq_false h0
  by_cases h1 : 512 < a
  · have d1 : decide (512 < a) = true := decide_eq_true h1
    clear h h0 h1
    go_enter Try.func12, Try.ntmps12
    go_wp2
    go_ret
    exact ⟨rfl, rfl⟩
  have d1 : decide (512 < a) = false := decide_eq_false h1
  by_cases h2 : b < 0
  · have d2 : decide (b < 0) = true := decide_eq_true h2
    clear h h0 h1 h2
    go_enter Try.func12, Try.ntmps12
    go_wp2
    go_ret
    exact ⟨rfl, rfl⟩
  have d2 : decide (b < 0) = false := decide_eq_false h2
  have h3 : 4096 < b := by unfold FrSz at h; omega
  have d3 : decide (4096 < b) = true := decide_eq_true h3
  clear h h0 h1 h2 h3
  go_enter Try.func12, Try.ntmps12
  go_wp2
  go_ret
  exact ⟨rfl, rfl⟩
set_option maxRecDepth 100000 in
theorem fr_parts_ok (a b : Nat) (w : World) (ha : 64 ≤ a) (h5 : a ≤ 512) (hb : b ≤ 4096) : Calls Try.prog 12 #[.int .i64 (a : Int), .int .i64 (b : Int)] w fun x w' => x = .returned (.int .i64 ((nParts a b : Nat) : Int)) ∧ w = w' := by
  have d0 : decide ((a : Int) < 64) = false := decide_eq_false (by omega)
  have e0 : decide (a < 64) = false := decide_eq_false (by omega)
  have d1 : decide ((512 : Int) < (a : Int)) = false := decide_eq_false (by omega)
  have e1 : decide (512 < a) = false := decide_eq_false (by omega)
  have d2 : decide ((b : Int) < 0) = false := decide_eq_false (by omega)
  have d3 : decide ((4096 : Int) < (b : Int)) = false := decide_eq_false (by omega)
  have e3 : decide (4096 < b) = false := decide_eq_false (by omega)
  have z0 : ((a : Int) - 25 == 0) = false := by simp; omega
  have hq := quo_parts a b ha hb h5
  have hql : (b + (a - 25) - 1) / (a - 25) ≤ 5000 := Nat.le_trans (Nat.div_le_self _ _) (by omega)
  have HN := Lib.hid (nParts_eq a b ha)
  generalize (b + (a - 25) - 1) / (a - 25) = q at *
  by_cases hc : 1 < q
  · have c0 : decide ((1 : Int) < (q : Int)) = true := decide_eq_true (by omega)
    have HN : Hid (nParts a b = q) := Lib.hid (by rw [HN.out, if_pos hc])
    rw [HN.out]
    go_enter Try.func12, Try.ntmps12
    go_wp2
    go_ret
    exact ⟨rfl, rfl⟩
  · have c0 : decide ((1 : Int) < (q : Int)) = false := decide_eq_false (by omega)
    have HN : Hid (nParts a b = 1) := Lib.hid (by rw [HN.out, if_neg hc])
    rw [HN.out]
    go_enter Try.func12, Try.ntmps12
    go_wp2
    go_ret
    exact ⟨rfl, rfl⟩
theorem fr_parts (a b : Int) (w : World) : Calls Try.prog 12 #[.int .i64 a, .int .i64 b] w fun x w' => x = .returned (.int .i64 (frParts a b)) ∧ w = w' := by
  unfold frParts
  by_cases h : FrSz a ∧ 0 ≤ b ∧ b ≤ 4096
  · rw [if_pos h]
    obtain ⟨⟨h1, h2⟩, h3, h4⟩ := h
    obtain ⟨n, rfl⟩ := Int.eq_ofNat_of_zero_le (show 0 ≤ a by omega)
    obtain ⟨m, rfl⟩ := Int.eq_ofNat_of_zero_le h3
    exact fr_parts_ok n m w (by omega) (by omega) (by omega)
  · rw [if_neg h]
    exact fr_parts_no a b w h
end Go.Proofs.Ytfbjfleagilikaa
