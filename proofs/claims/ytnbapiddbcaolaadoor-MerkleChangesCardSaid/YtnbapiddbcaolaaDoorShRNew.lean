/- Contract of carrackref01.New. No condition. -/
import Derived.Test.YtnbapiddbcaolaaDoorShRDig
namespace Go.Proofs.YtnbapiddbcaolaaDoor
open Go.RowKit
set_option linter.unusedVariables false
def NewPost (w : World) (e : Ending) (w' : World) : Prop := ∃ P, e = .returned (.pointer (some ⟨P, 0, none⟩)) ∧ BookAt w' P ∧ Below w.heap.size w w'
set_option maxRecDepth 100000 in
set_option maxHeartbeats 1000000 in
theorem r_new (w : World) : Calls Tryd.prog 11 #[] w (NewPost w) := by
  go_enter Tryd.func11, Tryd.ntmps11
  go_wp2_with fail
  refine (r_constants w).mono ?_
  rintro e w1 ⟨A, ca, B, cb, rfl, hA, hA1, hB, hB1, hK, hH, hb1⟩
  have H1 := Lib.hid (show WordsAt w1 A Sh.K ∧ WordsAt w1 B (toL Sh.H0) ∧ Below w.heap.size w w1 from ⟨⟨hA1, hK⟩, ⟨hB1, hH⟩, hb1⟩)
  clear hA hA1 hB hB1 hK hH hb1
  have hmm := @run_makeMap Tryd.prog
  go_wp2
  have hb2 := (Kq.below_alloc w1 (.map #[] 0))
  have hb3 := hb2.trans ((Kq.below_alloc (w1.alloc (.map #[] 0)) (.cells #[.slice (some ⟨A, 0, none⟩) 64 ca, .slice (some ⟨B, 0, none⟩) 8 cb, .map (some w1.heap.size), .bool false] 52)).mono hb2.size)
  have HBK : Hid (BookAt ((w1.alloc (.map #[] 0)).alloc (.cells #[.slice (some ⟨A, 0, none⟩) 64 ca, .slice (some ⟨B, 0, none⟩) 8 cb, .map (some w1.heap.size), .bool false] 52)) (w1.heap.size + 1) ∧ Below w.heap.size w ((w1.alloc (.map #[] 0)).alloc (.cells #[.slice (some ⟨A, 0, none⟩) 64 ca, .slice (some ⟨B, 0, none⟩) 8 cb, .map (some w1.heap.size), .bool false] 52))) := Lib.hid (by
    have hn := Kq.blk_new (w1.alloc (.map #[] 0)) #[.slice (some ⟨A, 0, none⟩) 64 ca, .slice (some ⟨B, 0, none⟩) 8 cb, .map (some w1.heap.size), .bool false] 52 (0, 0)
    rw [show (w1.alloc (.map #[] 0)).heap.size = w1.heap.size + 1 by simp] at hn
    exact ⟨⟨⟨A, ca, B, cb, Kq.blk_cell hn 0, Kq.blk_cell hn 1, H1.out.1.below hb3, H1.out.2.1.below hb3⟩, Kq.blk_lt hn⟩, H1.out.2.2.trans (hb3.mono H1.out.2.2.size)⟩)
  clear hb2 hb3 hmm
  go_ret
  exact ⟨_, rfl, HBK.out.1, HBK.out.2⟩
end Go.Proofs.YtnbapiddbcaolaaDoor
