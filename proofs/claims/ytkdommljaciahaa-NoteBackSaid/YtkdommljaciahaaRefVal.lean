/- Contract of carrackref03.Value: a number of bytes. Condition: eight bytes at most. -/
import Derived.WalkSpells
import Derived.Test.YtkdommljaciahaaWireRd2
namespace Go.Proofs.Ytkdommljaciahaa
open Go.RowKit
set_option linter.unusedVariables false
theorem val_step (v : Nat) (b : UInt8) (hv : v < 256 ^ 7) : IntKind.u64.wrap ((v : Int) * 256 + ((b.toNat : Nat) : Int)) = ((v * 256 + b.toNat : Nat) : Int) := by
  have hb := b.toNat_lt
  rw [IntWalk.u64_in _ (by omega)]; omega
theorem val_one_byte (b : UInt8) : IntKind.u64.wrap ((b.toNat : Nat) : Int) = ((b.toNat : Nat) : Int) := by
  have hb := b.toNat_lt
  exact IntWalk.u64_in _ (by omega)
theorem val_mul (v : Nat) (hv : v < 256 ^ 7) : IntKind.u64.wrap ((v : Int) * 256) = ((v : Int) * 256) := IntWalk.u64_in _ (by omega)
end Go.Proofs.Ytkdommljaciahaa
