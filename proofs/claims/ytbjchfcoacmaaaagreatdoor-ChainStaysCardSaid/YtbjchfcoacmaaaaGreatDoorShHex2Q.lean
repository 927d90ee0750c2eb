/- Contract of sha.Hex. Condition: sizes. -/
import Derived.WalkSpells
import Derived.Outline
import Derived.Test.YtbjchfcoacmaaaaGreatDoorChecked
import Derived.Test.YtbjchfcoacmaaaaGreatDoorWireMQ
import Derived.Test.YtbjchfcoacmaaaaGreatDoorShHexQ
namespace Go.Proofs.YtbjchfcoacmaaaaGreatDoor
open Go.RowKit
set_option linter.unusedVariables false
def shcells (l : List Nat) : List Value := l.map fun (b : Nat) => Value.int .u8 (b : Int)
/-- a row of one's own as a text -/
theorem conv_own {w : World} {base n : Nat} {v : Value} {l : List Nat} (h : w.ownsRow base 5 1 v n (shcells l)) (hn : n = l.length) (hl : ∀ b ∈ l, b < 256) :
    (convert 157 9 v).run Tryz.prog w = .ok (.string (txt l)) w := by
  subst hn
  rcases h.2 with ⟨rfl, h0⟩ | ⟨g, cap, cur, rfl, _, hb, _, _, _, ht⟩
  · have : l = [] := List.eq_nil_of_length_eq_zero h0
    subst this
    exact Kq.conv_bytes_none w 0 Tryz.underlying157 Tryz.underlying5 Tryz.underlying9
  · have hr : Kq.Row w g l := by
      refine ⟨fun j hj => ?_, fun j hj => Kq.blk_free hb j⟩
      have e : (shcells l)[j]? = some (.int .u8 ((l[j] : Nat) : Int)) := by simp [shcells, List.getElem?_eq_getElem hj]
      rw [Kq.blk_cell hb j, ← Array.getElem?_toList, ← e, ← ht, List.getElem?_take, if_pos (by omega)]
    exact hr.text hl cap Tryz.underlying157 Tryz.underlying5 Tryz.underlying9
end Go.Proofs.YtbjchfcoacmaaaaGreatDoor
