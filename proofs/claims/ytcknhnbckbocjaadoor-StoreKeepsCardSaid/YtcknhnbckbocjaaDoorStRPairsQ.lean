/- Contract of carrackref11.Pairs at like lists. Condition: sizes. -/
import Derived.WalkSpells
import Derived.Outline
import Derived.Deep.QuietTactic
import Derived.BigQuiet
import Derived.Test.YtcknhnbckbocjaaDoorStMapQ
namespace Go.Proofs.YtcknhnbckbocjaaDoor
open Go.RowKit
set_option linter.unusedVariables false
set_option maxRecDepth 100000 in
set_option maxHeartbeats 1000000 in
theorem sr_pairs (l : List PairV) (A C : Option Addr) (ca cc : Nat) (w : World) (hn : l.length ≤ 1000000) (hA : PsAt w A l) (hC : PsAt w C l) :
    Calls Tryd.prog 21 #[.slice A l.length ca, .slice C l.length cc] w fun x w' => x = .returned (.bool true) ∧ ∃ n, w' = w.drewN n := by
  have HA := Lib.hid (And.intro hA hC)
  have HN := Lib.hid hn
  have e0 : ((l.length : Int) != (l.length : Int)) = false := by simp
  clear hA hC
  go_enter Tryd.func21, Tryd.ntmps21
  go_wp2
  go_loopw [5] (fun u wr => ∃ j m : Nat, j ≤ l.length ∧ u = .int .i64 (j : Int) ∧ wr = w.drewN m) (fun u _ => l.length - (intOf u).toNat)
  case atStart => exact ⟨0, 0, by omega, rfl, rfl⟩
  case round =>
    obtain ⟨j, m, hj, rfl, rfl⟩ := hrel
    have hn' := HN.out
    by_cases hlt : j < l.length
    · obtain ⟨b, off, rfl, hb, d0, d1⟩ := HA.out.1 j hlt
      obtain ⟨b', off', rfl, hb', d2, d3⟩ := HA.out.2 j hlt
      obtain ⟨x, hx⟩ : ∃ x, x = l[j].1 := ⟨_, rfl⟩
      obtain ⟨y, hy⟩ : ∃ y, y = l[j].2 := ⟨_, rfl⟩
      rw [← hx] at d0 d2
      rw [← hy] at d1 d3
      have HLT := Lib.hid hlt
      have hi0 : (j : Int) < (l.length : Int) := by omega
      clear hx hy hlt
      go_wp2
      go_quiet (fail)
      go_wp2
      go_roundw
      case rel => exact ⟨j + 1, _, HLT.out, by go_num, rfl⟩
      case measure => have := HLT.out; simp [intOf]; omega
    · obtain rfl : j = l.length := by omega
      clear hlt
      go_wp2
      go_ret
      exact ⟨rfl, m, rfl⟩
end Go.Proofs.YtcknhnbckbocjaaDoor
