/- string(make([]byte, n)). Condition: n is small. -/
import Derived.WalkSpells
import Derived.Outline
import Derived.Laws.MakeOwn
import Derived.Test.YtdonoilcegaleaaTxt
import Derived.Test.YtdonoilcegaleaaClLooks
namespace Go.Proofs.Ytdonoilcegaleaa
open Go.RowKit
set_option linter.unusedVariables false
theorem infoU8 : (Try.prog.info? 5).map (fun i => (i.zero, i.size, i.bytes)) = some (some (.int .u8 0), 1, 1) := by kernel_rfl
def zrow (n : Nat) : Array Value := madeCells (Value.int IntKind.u8 0).cells n
theorem mk_bytes (w : World) (z : Int) (n : Nat) (hz : z = (n : Int)) (hn : n ≤ 3000000) :
    (Instr.makeSlice 48 (.int .i64 z) (.int .i64 z)).run Try.prog w = .ok (.slice (some ⟨w.heap.size, 0, none⟩) n n) (w.alloc (.cells (zrow n) 5)) := by
  obtain ⟨i0, hi, hz0, hz1, hz2⟩ := info_parts infoU8
  subst hz
  have := run_makeSlice (P := Try.prog) w 48 5 i0 (.int .u8 0) Try.underlying48 hi hz0 .i64 .i64 (n : Int) (n : Int) (by omega) (Int.le_refl _) (by rw [hz1]; simp; omega) (by rw [hz2]; omega) (by omega)
  rw [hz1] at this
  simpa [zrow] using this
theorem zrow_cells (n : Nat) : zrow n = ((List.replicate n 0).map fun (b : Nat) => Value.int .u8 (b : Int)).toArray := by
  unfold zrow
  apply Array.toList_inj.1
  rw [show (Value.int IntKind.u8 0).cells = #[Value.int IntKind.u8 0] from rfl, toList_madeCells_one]
  simp
theorem cv_zeros (n : Nat) (w : World) : (convert 48 9 (.slice (some ⟨w.heap.size, 0, none⟩) n n)).run Try.prog (w.alloc (.cells (zrow n) 5)) = .ok (.string (txt (List.replicate n 0))) (w.alloc (.cells (zrow n) 5)) := by
  have := Kq.conv_bytes (P := Try.prog) (w.alloc (.cells (zrow n) 5)) (src := 48) (dst := 9) (e := 5) ⟨w.heap.size, 0, none⟩ ((List.replicate n 0).map UInt8.ofNat) n Try.underlying48 Try.underlying5 Try.underlying9 (fun j v hj => Kq.cell_new _ _ _ (by
    rw [zrow_cells, List.getElem?_toArray, ← hj]
    simp))
  rw [List.length_map, List.length_replicate] at this
  exact this
end Go.Proofs.Ytdonoilcegaleaa
