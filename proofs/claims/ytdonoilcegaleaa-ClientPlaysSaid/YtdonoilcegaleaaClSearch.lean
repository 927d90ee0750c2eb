/- Contract of sort.Search at the client's test. Condition: the test's own contract. -/
import Derived.WalkSpells
import Derived.Outline
import Derived.Deep.QuietTactic
import Derived.BigQuiet
import Derived.Test.YtdonoilcegaleaaChecked
import Derived.Test.YtdonoilcegaleaaObj
namespace Go.Proofs.Ytdonoilcegaleaa
open Go.RowKit
set_option linter.unusedVariables false
set_option maxRecDepth 100000 in
set_option maxHeartbeats 1000000 in
theorem search_ok (n p : Nat) (hp : p ≤ n) (hn : n ≤ 1000000) (x y : Value) (w : World)
    (KF : ∀ q i, i < n → Calls Try.prog 22 #[.int .i64 (i : Int), x, y] (w.drewN q) fun e w' => e = .returned (.bool (decide (p ≤ i))) ∧ ∃ r, w' = w.drewN r) :
    Calls Try.prog 21 #[.int .i64 (n : Int), .func (.func 22) #[] #[x, y]] w fun e w' => e = .returned (.int .i64 (p : Int)) ∧ ∃ r, w' = w.drewN r := by
  have HF := Lib.hid KF
  clear KF
  go_enter Try.func21, Try.ntmps21
  go_wp2
  go_loopw [5, 6] (fun u v wr => ∃ i j r : Nat, u = .int .i64 (i : Int) ∧ v = .int .i64 (j : Int) ∧ i ≤ p ∧ p ≤ j ∧ j ≤ n ∧ wr = w.drewN r) (fun u v _ => (intOf v - intOf u).toNat)
  case atStart => exact ⟨0, n, 0, rfl, rfl, Nat.zero_le _, hp, Nat.le_refl _, rfl⟩
  case round =>
    obtain ⟨i, j, r, rfl, rfl, hi, hj, hjn, rfl⟩ := hrel
    by_cases hij : i < j
    · obtain ⟨h, hh⟩ : ∃ h, h = (i + j) / 2 := ⟨_, rfl⟩
      have hhn : h < n := by omega
      have hib : i ≤ h := by omega
      have hjb : h < j := by omega
      have m1 : wrap64 ((i : Int) + (j : Int)) = ((i + j : Nat) : Int) := by rw [IntWalk.wrap64_in _ (by omega)]; omega
      have m2 : IntKind.i64.wrap ((i : Int) + (j : Int)) = ((i + j : Nat) : Int) := by rw [IntWalk.i64_in _ (by omega)]; omega
      go_wp2_with fail
      rw [show ((i : Int) + (j : Int)) / 2 = (h : Int) by omega]
      refine (HF.out r h hhn).mono ?_
      rintro e w' ⟨rfl, r', rfl⟩
      by_cases hph : p ≤ h
      · have d0 : decide (p ≤ h) = true := decide_eq_true hph
        clear hh m1 m2
        go_wp2
        go_roundw
        case rel => exact ⟨i, h, r', rfl, rfl, hi, hph, by omega, rfl⟩
        case measure => simp [intOf]; omega
      · have d0 : decide (p ≤ h) = false := decide_eq_false hph
        clear hh m1 m2
        go_wp2
        go_roundw
        case rel => exact ⟨h + 1, j, r', by go_num, rfl, by omega, hj, hjn, rfl⟩
        case measure => simp [intOf]; omega
    · obtain rfl : i = p := by omega
      go_wp2
      go_ret
      exact ⟨rfl, r, rfl⟩
end Go.Proofs.Ytdonoilcegaleaa
