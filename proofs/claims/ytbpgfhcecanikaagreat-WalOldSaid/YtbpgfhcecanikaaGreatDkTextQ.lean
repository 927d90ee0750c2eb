/- Contracts of carrackref04.Act.Text, carracklaw04.few. Condition: the act's text is short. -/
import Derived.WalkSpells
import Derived.Outline
import Derived.Deep.RegionHeld
import Derived.Test.YtbpgfhcecanikaaGreatRowGQ
namespace Go.Proofs.YtbpgfhcecanikaaGreat
open Go.RowKit
set_option linter.unusedVariables false
def actLen (x : Int) : Nat := if x < 0 then 0 else if 600 < x then 600 else x.toNat
theorem actLen_le (x : Int) : actLen x ≤ 600 := by unfold actLen; split; omega; split <;> omega
def actText (s : ByteArray) (long : Int) : ByteArray := (s ++ txt (List.replicate (actLen long) 0)).extract 0 (actLen long)
theorem actText_size (s : ByteArray) (long : Int) : (actText s long).size = actLen long := by
  unfold actText
  rw [ByteArray.size_extract, ByteArray.size_append, txt_size, List.length_replicate]
  omega
theorem keep3 {z0 : World} {b : Nat} {x y u : Value} {s : ByteArray} {v : Value} {t : TypeId} {o : Obj} (h : z0.heap[b]? = some (.cells #[x, y, u, .string s, v] t (0, 0))) : (z0.alloc o).drew.cell? ⟨b, 3, none⟩ = some (.string s) :=
  Kq.blk_cell (Kq.below_blk (Kq.below_alloc z0 o) h (Kq.blk_lt h)) 3
/-- are calls few, and a disk small? -/
def fewOk (a b : Int) (l : List ActV) : Prop := DkRight a b ∧ b ≤ 64 ∧ l.length ≤ 60 ∧ ∀ c ∈ l, c.s.size ≤ 1000 ∧ c.l.length ≤ 100
end Go.Proofs.YtbpgfhcecanikaaGreat
