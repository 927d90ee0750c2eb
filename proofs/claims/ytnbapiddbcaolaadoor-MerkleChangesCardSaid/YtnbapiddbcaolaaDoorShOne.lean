/- Contracts of sha.Sum at one text, and at two. Condition: the constants lie where they lie; sizes. -/
import Derived.Test.YtnbapiddbcaolaaDoorShSum
namespace Go.Proofs.YtnbapiddbcaolaaDoor
open Go.RowKit
set_option linter.unusedVariables false
def dgT (s : ByteArray) : ByteArray := txt (Sh.digest (nl s))
theorem dgT_size (s : ByteArray) : (dgT s).size = 32 := by
  unfold dgT Sh.digest
  rw [txt_size]
  show (Sh.out _).length = 32
  simp [Sh.out, Sh.be4]
theorem sum_text (s : ByteArray) (w : World) (hl : LaidOk w) (hs : s.size ≤ 100000) :
    Calls Tryd.prog 26 #[.slice (some ⟨w.heap.size, 0, none⟩) 1 1] (w.alloc (.cells #[.string s] 9)) fun x w' => x = .returned (.string (dgT s)) ∧ Below w.heap.size w w' := by
  have hb := Kq.below_alloc w (.cells #[.string s] 9)
  have hp : PartsAt (w.alloc (.cells #[.string s] 9)) (some ⟨w.heap.size, 0, none⟩) [s] := fun i hi => by
    refine ⟨w.heap.size, 0, rfl, by simp, ?_⟩
    rw [Kq.blk_cell (Kq.blk_new w _ _ _) (0 + i)]
    rcases i with _ | i
    · rfl
    · simp at hi
  refine (sh_sum (some ⟨w.heap.size, 0, none⟩) 1 [s] _ hp (hl.later hb) (by simp) (by simp [nls, nl]; omega)).mono ?_
  rintro x w' ⟨rfl, hb2⟩
  exact ⟨by simp [dgT, nls], hb.trans (hb2.mono hb.size)⟩
theorem sum_texts (a s : ByteArray) (w : World) (hl : LaidOk w) (hs : a.size + s.size ≤ 100000) :
    Calls Tryd.prog 26 #[.slice (some ⟨w.heap.size, 0, none⟩) 2 2] (w.alloc (.cells #[.string a, .string s] 9)) fun x w' => x = .returned (.string (dgT (a ++ s))) ∧ Below w.heap.size w w' := by
  have hb := Kq.below_alloc w (.cells #[.string a, .string s] 9)
  have hp : PartsAt (w.alloc (.cells #[.string a, .string s] 9)) (some ⟨w.heap.size, 0, none⟩) [a, s] := fun i hi => by
    refine ⟨w.heap.size, 0, rfl, by simp, ?_⟩
    rw [Kq.blk_cell (Kq.blk_new w _ _ _) (0 + i)]
    rcases i with _ | _ | i
    · rfl
    · rfl
    · simp at hi; omega
  refine (sh_sum (some ⟨w.heap.size, 0, none⟩) 2 [a, s] _ hp (hl.later hb) (by simp) (by simp [nls, nl]; omega)).mono ?_
  rintro x w' ⟨rfl, hb2⟩
  exact ⟨by simp [dgT, nls, nl_append], hb.trans (hb2.mono hb.size)⟩
end Go.Proofs.YtnbapiddbcaolaaDoor
