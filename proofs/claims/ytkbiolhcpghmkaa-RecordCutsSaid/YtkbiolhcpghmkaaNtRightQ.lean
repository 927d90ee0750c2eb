/- Contracts of carrackref14.Right, RightItem. Condition: sizes. -/
import Derived.WalkSpells
import Derived.Deep.RegionHeld
import Derived.Test.YtkbiolhcpghmkaaTbMQ
namespace Go.Proofs.Ytkbiolhcpghmkaa
open Go.RowKit
set_option linter.unusedVariables false
instance (k f q t : Int) (d : ByteArray) : Decidable (NtOk k f q t d) := by unfold NtOk; infer_instance
instance (marks : List Int) (n : NtV) : Decidable (EnOk marks n) := by unfold EnOk; infer_instance
end Go.Proofs.Ytkbiolhcpghmkaa
