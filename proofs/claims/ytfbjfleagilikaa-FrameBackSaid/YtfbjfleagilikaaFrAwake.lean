/- The document's example of layer 5. No condition. -/
import Derived.WalkSpells
import Derived.Test.YtfbjfleagilikaaFrParts
namespace Go.Proofs.Ytfbjfleagilikaa
open Go.RowKit
set_option linter.unusedVariables false
set_option maxRecDepth 100000 in
theorem fr_awake (w : World) : Calls Try.prog 8 #[] w fun x w' => x = .returned (.bool true) ∧ w = w' := by
  have e1 : frParts 64 40 = 2 := by decide
  have e2 : frParts 64 39 = 1 := by decide
  have K1 := Lib.hid (fun w => fr_parts 64 40 w)
  have K2 := Lib.hid (fun w => fr_parts 64 39 w)
  rw [e1] at K1
  rw [e2] at K2
  clear e1 e2
  go_enter Try.func8, Try.ntmps8
  go_wp2_with fail
  refine (K1.out _).mono ?_
  rintro x w1 ⟨rfl, rfl⟩
  go_wp2_with fail
  refine (K2.out _).mono ?_
  rintro x w2 ⟨rfl, rfl⟩
  go_wp2
  go_ret
  exact ⟨rfl, rfl⟩
end Go.Proofs.Ytfbjfleagilikaa
