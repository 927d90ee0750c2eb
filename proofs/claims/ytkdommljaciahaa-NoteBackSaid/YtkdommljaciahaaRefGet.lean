/- Contract of carrackref10.Get. Condition: a text of at most 1000 bytes. -/
import Derived.WalkSpells
import Derived.Deep.RegionHeld
import Derived.Deep.DrawnRows
import Derived.Test.YtkdommljaciahaaRefVal
import Derived.Test.YtkdommljaciahaaRefRight
namespace Go.Proofs.Ytkdommljaciahaa
open Go.RowKit
set_option linter.unusedVariables false
def RGet (p : PkV) (n e : Int) (w : World) (x : Ending) (w' : World) : Prop := x = .returned (.tuple #[p.val, .int .i64 n, .int .i64 e]) ∧ Below w.heap.size w w'
theorem PB.below {w w' : World} {H : Nat} {f q t : Int} {d : ByteArray} (h : PB w H f q t d) (hb : Below w.heap.size w w') : PB w' H f q t d := ⟨Kq.below_blk hb h.blk (Kq.blk_lt h.blk)⟩
theorem two_packets (w : World) (f q t : Int) (d : ByteArray) : PB (((w.alloc (Obj.cells #[Value.int IntKind.i64 0, Value.int IntKind.u64 0, Value.int IntKind.u64 0, Value.string ⟨#[]⟩] 28)).alloc (Obj.cells #[Value.int IntKind.i64 f, Value.int IntKind.u64 q, Value.int IntKind.u64 t, Value.string d] 28)).drew) (w.heap.size + 1) f q t d ∧
    PB (((w.alloc (Obj.cells #[Value.int IntKind.i64 0, Value.int IntKind.u64 0, Value.int IntKind.u64 0, Value.string ⟨#[]⟩] 28)).alloc (Obj.cells #[Value.int IntKind.i64 f, Value.int IntKind.u64 q, Value.int IntKind.u64 t, Value.string d] 28)).drew) w.heap.size 0 0 0 ⟨#[]⟩ ∧
    Below w.heap.size w (((w.alloc (Obj.cells #[Value.int IntKind.i64 0, Value.int IntKind.u64 0, Value.int IntKind.u64 0, Value.string ⟨#[]⟩] 28)).alloc (Obj.cells #[Value.int IntKind.i64 f, Value.int IntKind.u64 q, Value.int IntKind.u64 t, Value.string d] 28)).drew) := by
  refine ⟨⟨?_⟩, ⟨?_⟩, ?_⟩
  · have := Kq.blk_new (w.alloc (Obj.cells #[Value.int IntKind.i64 0, Value.int IntKind.u64 0, Value.int IntKind.u64 0, Value.string ⟨#[]⟩] 28)) #[Value.int IntKind.i64 f, Value.int IntKind.u64 q, Value.int IntKind.u64 t, Value.string d] 28 (0, 0)
    rw [World.size_alloc] at this
    exact this
  · show ((w.alloc _).alloc _).heap[w.heap.size]? = _
    rw [Below.heap_alloc _ _ _ (by simp)]
    exact Kq.blk_new _ _ _ _
  · exact ((Kq.below_alloc w _).trans ((Kq.below_alloc _ _).mono (Kq.below_alloc w _).size)).drew
def LongPost (p : PkV) (n : Nat) (w : World) (x : Ending) (w' : World) : Prop := if PkOk p then RGet p ((19 + n : Nat) : Int) 0 w x w' else RGet PkV.zero 0 5 w x w'
attribute [local go_sem ↓] Go.wp_at_zero Go.wp_at_succ
end Go.Proofs.Ytkdommljaciahaa
