/- Merged: ShJoin, Common. Contract of carracklaw01.join. Condition: sizes. Small laws that several layers' texts share. No condition. -/
import Derived.WalkSpells
import Derived.Outline
import Derived.Test.YtbjchfcoacmaaaaGreatDoorChecked
import Derived.Test.YtbjchfcoacmaaaaGreatDoorWireMQ
import Derived.Test.YtbjchfcoacmaaaaGreatDoorPfSeQ
import Derived.Deep.QuietTactic
import Derived.Test.YtbjchfcoacmaaaaGreatDoorObjQ
namespace Go.Proofs.YtbjchfcoacmaaaaGreatDoor
open Go.RowKit
set_option linter.unusedVariables false
/-- texts at an address -/
def PartsAt (w : World) (A : Option Addr) (l : List ByteArray) : Prop := ∀ i (h : i < l.length), ∃ g o, A = some ⟨g, o, none⟩ ∧ g < w.heap.size ∧ w.cell? ⟨g, o + i, none⟩ = some (.string l[i])
theorem PartsAt.below {w w' : World} {A : Option Addr} {l : List ByteArray} (h : PartsAt w A l) (hb : Below w.heap.size w w') : PartsAt w' A l := fun i hi => by
  obtain ⟨g, o, e, hg, hc⟩ := h i hi
  exact ⟨g, o, e, Nat.lt_of_lt_of_le hg hb.size, (hb.cell (p := ⟨g, o + i, none⟩) hg).trans hc⟩
end Go.Proofs.YtbjchfcoacmaaaaGreatDoor
namespace Go.Proofs.YtbjchfcoacmaaaaGreatDoor
open Go.RowKit
theorem below_drewN {B : Nat} {a w : World} (h : Below B a w) (n : Nat) : Below B a (w.drewN n) := ⟨h.os, h.tape, h.output, h.size, h.block⟩
/-- texts in memory -/
structure StrsAt (w : World) (A : Option Addr) (l : List ByteArray) : Prop where
  at_ : ∀ j (h : j < l.length), ∃ g o, A = some ⟨g, o, none⟩ ∧ g < w.heap.size ∧ w.cell? ⟨g, o + j, none⟩ = some (.string l[j])
theorem StrsAt.below {w w' : World} {A : Option Addr} {l : List ByteArray} (h : StrsAt w A l) (hb : Below w.heap.size w w') : StrsAt w' A l :=
  ⟨fun j hj => by
    obtain ⟨g, o, hA, hg, h1⟩ := h.at_ j hj
    exact ⟨g, o, hA, Nat.lt_of_lt_of_le hg hb.size, (hb.cell (p := ⟨g, o + j, none⟩) hg).trans h1⟩⟩
end Go.Proofs.YtbjchfcoacmaaaaGreatDoor
