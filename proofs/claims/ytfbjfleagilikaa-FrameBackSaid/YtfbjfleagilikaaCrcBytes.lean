/- Contract of crc.Bytes: it tells the bytes of a sum; no condition but that the number fits. -/
import Derived.Test.YtfbjfleagilikaaChecked
import Derived.WalkKit
import Derived.WalkLawsBesides
import Derived.Lib.Hide
import Derived.Test.YtfbjfleagilikaaCrcMath
import Derived.Test.YtfbjfleagilikaaTxt
import Derived.Test.YtfbjfleagilikaaKit
namespace Go.Proofs.Ytfbjfleagilikaa
open Go.RowKit
set_option maxRecDepth 100000 in
theorem crc_bytes (x : Nat) (w : World) : Calls Try.prog 28 #[.int .u32 (x : Int)] w fun e w' => e = .returned (.string (txt (CrcM.bytes x))) ∧ Below w.heap.size w w' := by
  have hcv := Kq.conv_bytes (P := Try.prog) (w.alloc (Obj.cells #[Value.int IntKind.u8 ((x : Int) % 256), Value.int IntKind.u8 ((x : Int) / 256 % 256), Value.int IntKind.u8 ((x : Int) / 65536 % 256), Value.int IntKind.u8 ((x : Int) / 16777216 % 256)] 5))
    (src := 37) (dst := 9) ⟨w.heap.size, 0, none⟩ ((CrcM.bytes x).map UInt8.ofNat) 4 Try.underlying37 Try.underlying5 Try.underlying9
    (fun j v hj => Kq.cell_new _ _ _ (by
      rw [← hj, ← List.getElem?_toArray]
      congr 1
      simp [CrcM.bytes]))
  simp only [List.length_map, CrcM.bytes_length] at hcv
  go_enter Try.func28, Try.ntmps28
  go_wp2
  go_ret
  exact ⟨rfl, Kq.below_alloc _ _⟩
end Go.Proofs.Ytfbjfleagilikaa
