/- Merged: TbDrop, TbFit. Contracts of table's Drop, Copy. Condition: names that may be. Contract of table's Fit. Condition: notes of the arguments. -/
import Derived.WalkSpells
import Derived.Outline
import Derived.Deep.RegionHeld
import Derived.Deep.QuietTactic
import Derived.BigQuiet
import Derived.Shelf.SlMaps.Clone
import Derived.Test.YtkbiolhcpghmkaaGreatTbPQ
import Derived.Test.YtkbiolhcpghmkaaGreatHeldLastQ
import Derived.Test.YtkbiolhcpghmkaaGreatTbWaysQ
namespace Go.Proofs.YtkbiolhcpghmkaaGreat
open Go.RowKit Go.Maps Go.Kq
set_option linter.unusedVariables false
section
variable (w : World) (O : Nat → Prop) (B : Nat) (s : TbV)
def CpB (w : World) (B M : Nat) (r : Nat) : Prop := w.cell? ⟨B, 0, none⟩ = some (.int .i64 (r : Int)) ∧ w.cell? ⟨B, 1, none⟩ = some (.map (some M))
end
end Go.Proofs.YtkbiolhcpghmkaaGreat
namespace Go.Proofs.YtkbiolhcpghmkaaGreat
open Go.RowKit Go.Maps Go.Kq
set_option linter.unusedVariables false
theorem apps_take (s : TbV) (l : List NtV) (j : Nat) (h : j < l.length) : appsV s (l.take (j + 1)) = (appV (appsV s (l.take j)) l[j]).1 := by
  rw [List.take_succ_eq_append_getElem h, appsV_snoc]
/-- behind j notes that fit -/
structure FitI (w wr : World) (B' : Nat) (s : TbV) (l : List NtV) (j : Nat) : Prop where
  le : j ≤ l.length
  tb : ∃ O, TbP wr O B' (appsV s (l.take j)) ∧ ∀ k, O k → w.heap.size ≤ k ∧ k < wr.heap.size
  fits : ∀ i (hi : i < l.length), i < j → (appV (appsV s (l.take i)) l[i]).2 = 0
  bel : Below w.heap.size w wr
end Go.Proofs.YtkbiolhcpghmkaaGreat
