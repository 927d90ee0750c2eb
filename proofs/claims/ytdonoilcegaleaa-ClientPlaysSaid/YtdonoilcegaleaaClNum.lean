/- Contract of carracklaw12.numbers at rows that are alike. No condition. -/
import Derived.WalkSpells
import Derived.Outline
import Derived.Deep.QuietTactic
import Derived.BigQuiet
import Derived.Test.YtdonoilcegaleaaClInv
namespace Go.Proofs.Ytdonoilcegaleaa
open Go.RowKit Go.Cl
set_option linter.unusedVariables false
set_option maxRecDepth 100000 in
set_option maxHeartbeats 1000000 in
theorem num_same (hs : List Nat) (A B : Option Addr) (ca cb : Nat) (w : World) (hn : hs.length ≤ 1000000) (ha : ∀ j (hj : j < hs.length), ∃ g, A = some ⟨g, 0, none⟩ ∧ w.cell? ⟨g, j, none⟩ = some (.int .u64 (hs[j] : Int))) (hb : ∀ j (hj : j < hs.length), ∃ g, B = some ⟨g, 0, none⟩ ∧ w.cell? ⟨g, j, none⟩ = some (.int .u64 (hs[j] : Int))) :
    Calls Try.prog 17 #[.slice A hs.length ca, .slice B hs.length cb] w fun e w' => e = .returned (.bool true) ∧ ∃ r, w' = w.drewN r := by
  have HA := Lib.hid ha
  have HB := Lib.hid hb
  clear ha hb
  go_enter Try.func17, Try.ntmps17
  go_wp2
  go_loopw [5] (fun i wr => ∃ k r : Nat, k ≤ hs.length ∧ i = .int .i64 (k : Int) ∧ wr = w.drewN r) (fun i _ => hs.length - (intOf i).toNat)
  case atStart => exact ⟨0, 0, Nat.zero_le _, rfl, rfl⟩
  case round =>
    obtain ⟨k, r, hk, rfl, rfl⟩ := hrel
    by_cases hlk : k < hs.length
    · obtain ⟨g1, rfl, c1⟩ := HA.out k hlk
      obtain ⟨g2, rfl, c2⟩ := HB.out k hlk
      generalize hs[k] = z at *
      go_wp2
      go_quiet (fail)
      go_wp2
      go_roundw
      case rel => exact ⟨k + 1, r + nq, by omega, by go_num, rfl⟩
      case measure => simp [intOf]; omega
    · go_wp2
      go_ret
      exact ⟨rfl, r, rfl⟩
end Go.Proofs.Ytdonoilcegaleaa
