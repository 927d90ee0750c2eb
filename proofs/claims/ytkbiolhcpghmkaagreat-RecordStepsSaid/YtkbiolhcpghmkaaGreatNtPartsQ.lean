/- Contracts of the closures note.PutNotes$1, note.PutItems$1 (a mark and a packet of a note, of an item). No condition. -/
import Derived.WalkSpells
import Derived.Outline
import Derived.StillTailTactics
import Derived.Test.YtkbiolhcpghmkaaGreatBetwQ
import Derived.Test.YtkbiolhcpghmkaaGreatRefValQ
namespace Go.Proofs.YtkbiolhcpghmkaaGreat
open Go.RowKit
set_option linter.unusedVariables false
set_option maxRecDepth 100000 in
set_option maxHeartbeats 2000000 in
theorem nt_parts (k f q t : Int) (d : ByteArray) (w : World) :
    Calls Tryz.prog 57 #[.agg #[.int .i64 k, .int .i64 f, .int .u64 q, .int .u64 t, .string d]] w fun x w' => x = .returned (.tuple #[.int .i64 k, .agg #[.int .i64 f, .int .u64 q, .int .u64 t, .string d]]) ∧ Below w.heap.size w w' := by
  obtain ⟨w0, hw0⟩ : ∃ z, z = (w.alloc (.cells #[.int .i64 k, .int .i64 f, .int .u64 q, .int .u64 t, .string d] 46)).alloc (.cells #[.int .i64 0, .int .u64 0, .int .u64 0, .string ⟨#[]⟩] 44) := ⟨_, rfl⟩
  have hb0 : Below w.heap.size w w0 := by
    rw [hw0]
    exact (Kq.below_alloc _ _).trans ((Kq.below_alloc _ _).mono (by simp))
  have n0 : w0.heap[w.heap.size]? = some (.cells #[.int .i64 k, .int .i64 f, .int .u64 q, .int .u64 t, .string d] 46 (0, 0)) := by
    rw [hw0]
    exact Kq.below_blk (Kq.below_alloc _ _) (Kq.blk_new _ _ _ _) (by simp)
  have z0 : w0.heap[w.heap.size + 1]? = some (.cells #[.int .i64 0, .int .u64 0, .int .u64 0, .string ⟨#[]⟩] 44 (0, 0)) := by
    rw [hw0]
    have := Kq.blk_new (w.alloc (.cells #[.int .i64 k, .int .i64 f, .int .u64 q, .int .u64 t, .string d] 46)) #[.int .i64 0, .int .u64 0, .int .u64 0, .string ⟨#[]⟩] 44 (0, 0)
    rwa [World.size_alloc] at this
  have a0 := Kq.blk_cell n0 0
  have a1 := Kq.blk_cell n0 1
  have a2 := Kq.blk_cell n0 2
  have a3 := Kq.blk_cell n0 3
  have a4 := Kq.blk_cell n0 4
  have y0 := Kq.blk_cell z0 0
  have y1 := Kq.blk_cell z0 1
  have y2 := Kq.blk_cell z0 2
  have y3 := Kq.blk_cell z0 3
  have u0 := Kq.blk_free z0 0
  have u1 := Kq.blk_free z0 1
  have u2 := Kq.blk_free z0 2
  have u3 := Kq.blk_free z0 3
  simp only [List.getElem?_toArray, List.getElem?_cons_zero, List.getElem?_cons_succ] at a0 a1 a2 a3 a4 y0 y1 y2 y3
  have HZ := Lib.hid (And.intro hb0 z0)
  clear hb0 z0 n0
  have HW := Lib.hid hw0
  clear hw0
  go_enter Tryz.func57, Tryz.ntmps57
  go_wp2
  rw [← HW.out]
  go_still_tail 5, (by kernel_rfl)
  change wpList _ _ _ _ _ w0.drew
  go_wp2
  have HD : Hid (((((w0.setCell ⟨w.heap.size + 1, 0, none⟩ (.int .i64 f)).setCell ⟨w.heap.size + 1, 1, none⟩ (.int .u64 q)).setCell ⟨w.heap.size + 1, 2, none⟩ (.int .u64 t)).setCell ⟨w.heap.size + 1, 3, none⟩ (.string d)).drew.heap[w.heap.size + 1]? = some (.cells #[.int .i64 f, .int .u64 q, .int .u64 t, .string d] 44 (0, 0)) ∧ Below w.heap.size w ((((w0.setCell ⟨w.heap.size + 1, 0, none⟩ (.int .i64 f)).setCell ⟨w.heap.size + 1, 1, none⟩ (.int .u64 q)).setCell ⟨w.heap.size + 1, 2, none⟩ (.int .u64 t)).setCell ⟨w.heap.size + 1, 3, none⟩ (.string d)).drew) :=
    Lib.hid ⟨Kq.blk_set (Kq.blk_set (Kq.blk_set (Kq.blk_set HZ.out.2 0 _) 1 _) 2 _) 3 _, (((((HZ.out.1).setCell (by simp) _).setCell (by simp) _).setCell (by simp) _).setCell (by simp) _).drew⟩
  generalize hwl : ((((w0.setCell ⟨w.heap.size + 1, 0, none⟩ (.int .i64 f)).setCell ⟨w.heap.size + 1, 1, none⟩ (.int .u64 q)).setCell ⟨w.heap.size + 1, 2, none⟩ (.int .u64 t)).setCell ⟨w.heap.size + 1, 3, none⟩ (.string d)).drew = wl at *
  have r0 := Kq.blk_cell HD.out.1 0
  have r1 := Kq.blk_cell HD.out.1 1
  have r2 := Kq.blk_cell HD.out.1 2
  have r3 := Kq.blk_cell HD.out.1 3
  simp only [List.getElem?_toArray, List.getElem?_cons_zero, List.getElem?_cons_succ] at r0 r1 r2 r3
  refine bodyPost_ret (v := .tuple #[.int .i64 k, .agg #[.int .i64 f, .int .u64 q, .int .u64 t, .string d]]) (by simp [results, Tryz.results57, go_sem, r0, r1, r2, r3]) rfl ?_
  exact ⟨rfl, HD.out.2⟩
set_option maxRecDepth 100000 in
set_option maxHeartbeats 2000000 in
theorem it_parts (k f q t : Int) (d : ByteArray) (w : World) :
    Calls Tryz.prog 55 #[.agg #[.int .i64 f, .int .u64 q, .int .u64 t, .string d, .int .i64 k]] w fun x w' => x = .returned (.tuple #[.int .i64 k, .agg #[.int .i64 f, .int .u64 q, .int .u64 t, .string d]]) ∧ Below w.heap.size w w' := by
  obtain ⟨w0, hw0⟩ : ∃ z, z = (w.alloc (.cells #[.int .i64 f, .int .u64 q, .int .u64 t, .string d, .int .i64 k] 51)).alloc (.cells #[.int .i64 0, .int .u64 0, .int .u64 0, .string ⟨#[]⟩] 44) := ⟨_, rfl⟩
  have hb0 : Below w.heap.size w w0 := by
    rw [hw0]
    exact (Kq.below_alloc _ _).trans ((Kq.below_alloc _ _).mono (by simp))
  have n0 : w0.heap[w.heap.size]? = some (.cells #[.int .i64 f, .int .u64 q, .int .u64 t, .string d, .int .i64 k] 51 (0, 0)) := by
    rw [hw0]
    exact Kq.below_blk (Kq.below_alloc _ _) (Kq.blk_new _ _ _ _) (by simp)
  have z0 : w0.heap[w.heap.size + 1]? = some (.cells #[.int .i64 0, .int .u64 0, .int .u64 0, .string ⟨#[]⟩] 44 (0, 0)) := by
    rw [hw0]
    have := Kq.blk_new (w.alloc (.cells #[.int .i64 f, .int .u64 q, .int .u64 t, .string d, .int .i64 k] 51)) #[.int .i64 0, .int .u64 0, .int .u64 0, .string ⟨#[]⟩] 44 (0, 0)
    rwa [World.size_alloc] at this
  have a0 := Kq.blk_cell n0 0
  have a1 := Kq.blk_cell n0 1
  have a2 := Kq.blk_cell n0 2
  have a3 := Kq.blk_cell n0 3
  have a4 := Kq.blk_cell n0 4
  have y0 := Kq.blk_cell z0 0
  have y1 := Kq.blk_cell z0 1
  have y2 := Kq.blk_cell z0 2
  have y3 := Kq.blk_cell z0 3
  have u0 := Kq.blk_free z0 0
  have u1 := Kq.blk_free z0 1
  have u2 := Kq.blk_free z0 2
  have u3 := Kq.blk_free z0 3
  simp only [List.getElem?_toArray, List.getElem?_cons_zero, List.getElem?_cons_succ] at a0 a1 a2 a3 a4 y0 y1 y2 y3
  have HZ := Lib.hid (And.intro hb0 z0)
  clear hb0 z0 n0
  have HW := Lib.hid hw0
  clear hw0
  go_enter Tryz.func55, Tryz.ntmps55
  go_wp2
  rw [← HW.out]
  go_still_tail 5, (by kernel_rfl)
  change wpList _ _ _ _ _ w0.drew
  go_wp2
  have HD : Hid (((((w0.setCell ⟨w.heap.size + 1, 0, none⟩ (.int .i64 f)).setCell ⟨w.heap.size + 1, 1, none⟩ (.int .u64 q)).setCell ⟨w.heap.size + 1, 2, none⟩ (.int .u64 t)).setCell ⟨w.heap.size + 1, 3, none⟩ (.string d)).drew.heap[w.heap.size + 1]? = some (.cells #[.int .i64 f, .int .u64 q, .int .u64 t, .string d] 44 (0, 0)) ∧ Below w.heap.size w ((((w0.setCell ⟨w.heap.size + 1, 0, none⟩ (.int .i64 f)).setCell ⟨w.heap.size + 1, 1, none⟩ (.int .u64 q)).setCell ⟨w.heap.size + 1, 2, none⟩ (.int .u64 t)).setCell ⟨w.heap.size + 1, 3, none⟩ (.string d)).drew) :=
    Lib.hid ⟨Kq.blk_set (Kq.blk_set (Kq.blk_set (Kq.blk_set HZ.out.2 0 _) 1 _) 2 _) 3 _, (((((HZ.out.1).setCell (by simp) _).setCell (by simp) _).setCell (by simp) _).setCell (by simp) _).drew⟩
  generalize hwl : ((((w0.setCell ⟨w.heap.size + 1, 0, none⟩ (.int .i64 f)).setCell ⟨w.heap.size + 1, 1, none⟩ (.int .u64 q)).setCell ⟨w.heap.size + 1, 2, none⟩ (.int .u64 t)).setCell ⟨w.heap.size + 1, 3, none⟩ (.string d)).drew = wl at *
  have r0 := Kq.blk_cell HD.out.1 0
  have r1 := Kq.blk_cell HD.out.1 1
  have r2 := Kq.blk_cell HD.out.1 2
  have r3 := Kq.blk_cell HD.out.1 3
  simp only [List.getElem?_toArray, List.getElem?_cons_zero, List.getElem?_cons_succ] at r0 r1 r2 r3
  refine bodyPost_ret (v := .tuple #[.int .i64 k, .agg #[.int .i64 f, .int .u64 q, .int .u64 t, .string d]]) (by simp [results, Tryz.results55, go_sem, r0, r1, r2, r3]) rfl ?_
  exact ⟨rfl, HD.out.2⟩
end Go.Proofs.YtkbiolhcpghmkaaGreat
