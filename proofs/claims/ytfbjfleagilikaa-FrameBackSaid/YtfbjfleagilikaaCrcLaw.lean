/- What the laws of crc lean on: the document's example. No condition. -/
import Derived.Test.YtfbjfleagilikaaCrcLawM
namespace Go.Proofs.Ytfbjfleagilikaa
open Go.RowKit
theorem example_sum : CrcM.upd 0 (nl ⟨#[49, 50, 51, 52, 53, 54, 55, 56, 57]⟩) = 3421780262 := by decide +kernel
end Go.Proofs.Ytfbjfleagilikaa
