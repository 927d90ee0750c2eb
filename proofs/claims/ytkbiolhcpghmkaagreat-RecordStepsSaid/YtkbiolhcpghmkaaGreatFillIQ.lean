/- An item's block filled. No condition. -/
import Derived.WalkSpells
import Derived.Outline
import Derived.Test.YtkbiolhcpghmkaaGreatTwoFQ
import Derived.Test.YtkbiolhcpghmkaaGreatRowGQ
namespace Go.Proofs.YtkbiolhcpghmkaaGreat
open Go.RowKit Go.Kq
set_option linter.unusedVariables false
def fillI (w : World) (X : Nat) (f q t : Int) (d : ByteArray) (k : Int) : World := ((((w.setCell ⟨X, 0, none⟩ (.int .i64 f)).setCell ⟨X, 1, none⟩ (.int .u64 q)).setCell ⟨X, 2, none⟩ (.int .u64 t)).setCell ⟨X, 3, none⟩ (.string d)).setCell ⟨X, 4, none⟩ (.int .i64 k)
theorem fillI_blk {w : World} {X : Nat} {a0 a1 a2 a3 a4 : Value} {T : TypeId} (h : w.heap[X]? = some (.cells #[a0, a1, a2, a3, a4] T (0, 0))) (f q t : Int) (d : ByteArray) (k : Int) : (fillI w X f q t d k).heap[X]? = some (.cells #[.int .i64 f, .int .u64 q, .int .u64 t, .string d, .int .i64 k] T (0, 0)) :=
  Kq.blk_set (Kq.blk_set (Kq.blk_set (Kq.blk_set (Kq.blk_set h 0 (.int .i64 f)) 1 (.int .u64 q)) 2 (.int .u64 t)) 3 (.string d)) 4 (.int .i64 k)
theorem fillI_keeps (w : World) (X : Nat) (f q t : Int) (d : ByteArray) (k : Int) : Kq.Keeps (· = X) w (fillI w X f q t d k) := by
  unfold fillI
  exact ((((Kq.Keeps.setCell (S := (· = X)) w ⟨X, 0, none⟩ _ rfl).trans (Kq.Keeps.setCell (S := (· = X)) _ ⟨X, 1, none⟩ _ rfl)).trans (Kq.Keeps.setCell (S := (· = X)) _ ⟨X, 2, none⟩ _ rfl)).trans (Kq.Keeps.setCell (S := (· = X)) _ ⟨X, 3, none⟩ _ rfl)).trans (Kq.Keeps.setCell (S := (· = X)) _ ⟨X, 4, none⟩ _ rfl)
end Go.Proofs.YtkbiolhcpghmkaaGreat
