/- Contract of carracklaw01.join. Condition: sizes. -/
import Derived.WalkSpells
import Derived.Outline
import Derived.Test.YtnbapiddbcaolaaDoorChecked
import Derived.Test.YtnbapiddbcaolaaDoorTxt
import Derived.Test.YtnbapiddbcaolaaDoorShTurn
namespace Go.Proofs.YtnbapiddbcaolaaDoor
open Go.RowKit
set_option linter.unusedVariables false
/-- texts, one behind the other -/
def cat (l : List ByteArray) : ByteArray := l.foldl (· ++ ·) ⟨#[]⟩
theorem cat_snoc (l : List ByteArray) (s : ByteArray) : cat (l ++ [s]) = cat l ++ s := by simp [cat]
/-- texts at an address -/
def PartsAt (w : World) (A : Option Addr) (l : List ByteArray) : Prop := ∀ i (h : i < l.length), ∃ g o, A = some ⟨g, o, none⟩ ∧ g < w.heap.size ∧ w.cell? ⟨g, o + i, none⟩ = some (.string l[i])
theorem PartsAt.below {w w' : World} {A : Option Addr} {l : List ByteArray} (h : PartsAt w A l) (hb : Below w.heap.size w w') : PartsAt w' A l := fun i hi => by
  obtain ⟨g, o, e, hg, hc⟩ := h i hi
  exact ⟨g, o, e, Nat.lt_of_lt_of_le hg hb.size, (hb.cell (p := ⟨g, o + i, none⟩) hg).trans hc⟩
end Go.Proofs.YtnbapiddbcaolaaDoor
