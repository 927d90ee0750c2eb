/- Merged: ShJoin, NtSameN. Contract of carracklaw01.join. Condition: sizes. Contract of carrackref13.Notes of like lists. Condition: lengths. -/
import Derived.WalkSpells
import Derived.Outline
import Derived.Test.YtbjchfcoacmaaaaGreatDoorChecked
import Derived.Test.YtbjchfcoacmaaaaGreatDoorWireMQ
import Derived.Test.YtbjchfcoacmaaaaGreatDoorPfSeQ
import Derived.Deep.QuietTactic
import Derived.BigQuiet
import Derived.Test.YtbjchfcoacmaaaaGreatDoorNtValQ
import Derived.Test.YtbjchfcoacmaaaaGreatDoorCommonQ
namespace Go.Proofs.YtbjchfcoacmaaaaGreatDoor
open Go.RowKit
set_option linter.unusedVariables false
/-- texts at an address -/
def PartsAt (w : World) (A : Option Addr) (l : List ByteArray) : Prop := ∀ i (h : i < l.length), ∃ g o, A = some ⟨g, o, none⟩ ∧ g < w.heap.size ∧ w.cell? ⟨g, o + i, none⟩ = some (.string l[i])
theorem PartsAt.below {w w' : World} {A : Option Addr} {l : List ByteArray} (h : PartsAt w A l) (hb : Below w.heap.size w w') : PartsAt w' A l := fun i hi => by
  obtain ⟨g, o, e, hg, hc⟩ := h i hi
  exact ⟨g, o, e, Nat.lt_of_lt_of_le hg hb.size, (hb.cell (p := ⟨g, o + i, none⟩) hg).trans hc⟩
end Go.Proofs.YtbjchfcoacmaaaaGreatDoor
namespace Go.Proofs.YtbjchfcoacmaaaaGreatDoor
open Go.RowKit
set_option linter.unusedVariables false
set_option maxRecDepth 100000 in
set_option maxHeartbeats 4000000 in
theorem same_notes (A B : Option Addr) (ca cb : Nat) (l : List NtV) (w : World) (hA : EnAt NtV.nc w A l) (hB : EnAt NtV.nc w B l) (hl : l.length ≤ 300) :
    Calls Tryz.prog 18 #[.slice A l.length ca, .slice B l.length cb] w fun x w' => x = .returned (.bool true) ∧ Below w.heap.size w w' := by
  have HA := Lib.hid hA
  have HB := Lib.hid hB
  have d0 : ((l.length : Int) != (l.length : Int)) = false := by simp
  clear hA hB
  go_enter Tryz.func18, Tryz.ntmps18
  go_wp2
  go_loopw [5] (fun i wr => ∃ j : Nat, j ≤ l.length ∧ i = .int .i64 (j : Int) ∧ Below w.heap.size w wr) (fun i _ => l.length - (intOf i).toNat)
  case atStart => exact ⟨0, by omega, rfl, Below.refl _ _⟩
  case round =>
    obtain ⟨j, hj, rfl, hbl⟩ := hrel
    by_cases hlt : j < l.length
    · obtain ⟨b, off, rfl, hb, hc⟩ := (HA.out.below hbl) j hlt
      obtain ⟨b2, off2, rfl, hb2, hc2⟩ := (HB.out.below hbl) j hlt
      obtain ⟨n, hn⟩ : ∃ n, n = l[j] := ⟨_, rfl⟩
      rw [← hn] at hc hc2
      have c0 := hc 0 (by omega)
      have c1 := hc 1 (by omega)
      have c2 := hc 2 (by omega)
      have c3 := hc 3 (by omega)
      have c4 := hc 4 (by omega)
      have e0 := hc2 0 (by omega)
      have e1 := hc2 1 (by omega)
      have e2 := hc2 2 (by omega)
      have e3 := hc2 3 (by omega)
      have e4 := hc2 4 (by omega)
      simp only [NtV.nc, List.getElem?_cons_zero, List.getElem?_cons_succ, Nat.add_zero] at c0 c1 c2 c3 c4 e0 e1 e2 e3 e4
      have HB' := Lib.hid hbl
      have HLT := Lib.hid hlt
      have hi0 : (j : Int) < (l.length : Int) := by omega
      clear hc hc2 hb hb2 hn hbl
      go_wp2
      go_quiet (fail)
      generalize hwq : wr.drewN nq = wq
      have HQ : Hid (Below w.heap.size w wq) := Lib.hid (by rw [← hwq]; exact below_drewN HB'.out nq)
      clear hwq HB' c0 c1 c2 c3 c4 e0 e1 e2 e3 e4
      go_wp2
      go_roundw
      case rel => exact ⟨j + 1, HLT.out, by go_num, HQ.out⟩
      case measure => have := HLT.out; simp [intOf]; omega
    · obtain rfl : j = l.length := by omega
      have HB' := Lib.hid hbl
      clear hbl
      go_wp2
      go_ret
      exact ⟨rfl, HB'.out⟩
end Go.Proofs.YtbjchfcoacmaaaaGreatDoor
