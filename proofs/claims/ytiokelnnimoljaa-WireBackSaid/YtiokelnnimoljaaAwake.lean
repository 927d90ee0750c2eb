/- Contract of carracklaw03.awake: the document's example. Condition: none. -/
import Derived.WalkSpells
import Derived.Test.YtiokelnnimoljaaWireText
namespace Go.Proofs.Ytiokelnnimoljaa
open Go.RowKit
set_option linter.unusedVariables false
/-- a writer that was just declared -/
theorem wr_new (w : World) : Wr (w.alloc (.cells #[.int .i64 0, .slice none 0 0] 30 (0, 0))) w.heap.size w.heap.size 0 (.slice none 0 0) [] := by
  refine ⟨Kq.blk_new _ _ _ _, ?_, (fun k hk => by cases hk), ?_⟩
  · exact ⟨rfl, Or.inl ⟨rfl, rfl⟩⟩
  · exact (Kq.below_alloc w _).size
/-- what a fresh writer's calls leave below is as it was -/
theorem WrMid.below {w wr : World} {v : Value} {e : Int} {l : List Nat} {o : Obj} {base : Nat} (h : WrMid (w.alloc o) base w.heap.size (.slice none 0 0) e v l wr) : Below w.heap.size w wr :=
  (Kq.below_alloc w o).trans (h.keeps.below (Kq.below_alloc w o).size (fun k _ hk => by
    rcases hk with rfl | hk
    · exact Nat.le_refl _
    · cases hk))
def awakeRow : List Nat := [3] ++ hi2 2 ++ [97, 98] ++ num8 258
theorem awake_txt : txt awakeRow = ⟨#[3, 0, 2, 97, 98, 0, 0, 0, 0, 0, 0, 1, 2]⟩ := by rfl
set_option maxRecDepth 100000 in
set_option maxHeartbeats 800000 in
theorem awake (w : World) :
    Calls Try.prog 8 #[] w fun x w' => x = .returned (.bool true) ∧ Below w.heap.size w w' := by
  have HT := Lib.hid awake_txt
  go_enter Try.func8, Try.ntmps8
  go_wp2_with fail
  refine (wr_byte_ok _ _ _ _ _ 3 _ (wr_new w) (by decide) (by decide)).mono ?_
  rintro x w2 hp
  obtain ⟨v2, M2⟩ := (WrMid.start (wr_new w)).step hp.any
  obtain ⟨rfl, -⟩ := hp
  go_wp2_with fail
  refine (wr_text_ok _ _ _ _ _ ⟨#[97, 98]⟩ _ M2.it (by decide) (by decide)).mono ?_
  rintro x w3 hp
  obtain ⟨v3, M3⟩ := M2.step hp
  obtain ⟨rfl, -⟩ := hp
  clear M2
  go_wp2_with fail
  refine (wr_number _ _ _ _ _ 258 _ M3.it (by decide) (by decide)).mono ?_
  rintro x w4 hp
  obtain ⟨v4, M4⟩ := M3.step hp
  obtain ⟨rfl, -⟩ := hp
  clear M3
  have hB := M4.below
  have HB := Lib.hid hB
  clear hB
  go_wp2_with fail
  refine (wr_bytes_ok _ _ _ awakeRow _ M4.it (by decide)).mono ?_
  rintro x w5 ⟨rfl, rfl⟩
  rw [HT.out]
  clear M4
  go_wp2
  go_ret
  exact ⟨rfl, HB.out⟩
end Go.Proofs.Ytiokelnnimoljaa
