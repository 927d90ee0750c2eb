/- Contract of carrackref05.Texts. Condition: sizes. -/
import Derived.WalkSpells
import Derived.Deep.LoopGhost
import Derived.Deep.QuietTactic
import Derived.BigQuiet
import Derived.Test.YtclloplkbajebaaDoorCommonQ
namespace Go.Proofs.YtclloplkbajebaaDoor
open Go.RowKit
set_option linter.unusedVariables false
set_option linter.unusedSimpArgs false
set_option maxRecDepth 100000 in
set_option maxHeartbeats 1000000 in
theorem rf_texts (A B : Option Addr) (ca cb : Nat) (l m : List ByteArray) (w : World) (hl : l.length ≤ 100000) (hm : m.length ≤ 100000) (hA : StrsAt w A l) (hB : StrsAt w B m) :
    Calls Tryd.prog 43 #[.slice A l.length ca, .slice B m.length cb] w fun e w' => e = .returned (.bool (decide (l = m))) ∧ Below w.heap.size w w' := by
  by_cases hlm : l.length = m.length
  · have d0 : ((l.length : Int) != (m.length : Int)) = false := by simp [hlm]
    have d0' : (l.length != m.length) = false := by simp [hlm]
    have HLM := Lib.hid hlm
    have HAB := Lib.hid (And.intro hA hB)
    clear hlm hA hB
    go_enter Tryd.func43, Tryd.ntmps43
    go_wp2
    clear d0 d0'
    go_loopw [5] (fun i wr => ∃ j : Nat, j ≤ l.length ∧ i = .int .i64 (j : Int) ∧ l.take j = m.take j ∧ Below w.heap.size w wr) (fun i _ => l.length - (intOf i).toNat)
    case atStart => exact ⟨0, Nat.zero_le _, rfl, rfl, Below.refl _ _⟩
    case round =>
      obtain ⟨j, hj, rfl, htk, hb⟩ := hrel
      have HB := Lib.hid hb
      have HT := Lib.hid htk
      clear hb htk
      by_cases hlt : j < l.length
      · have hltm : j < m.length := by rw [← HLM.out]; exact hlt
        obtain ⟨g1, o1, rfl, h1, c1⟩ := HAB.out.1.at_ j hlt
        obtain ⟨g2, o2, rfl, h2, c2⟩ := HAB.out.2.at_ j hltm
        have k1 := (HB.out.cell (p := ⟨g1, o1 + j, none⟩) h1).trans c1
        have k2 := (HB.out.cell (p := ⟨g2, o2 + j, none⟩) h2).trans c2
        have HS : Hid (l.take (j + 1) = m.take (j + 1) ↔ l[j] = m[j]) := Lib.hid (by
          rw [List.take_succ_eq_append_getElem hlt, List.take_succ_eq_append_getElem hltm, HT.out]
          constructor
          · intro h
            have := List.append_cancel_left h
            simpa using this
          · intro h; rw [h])
        have HNE : Hid (l = m → l[j] = m[j]) := Lib.hid (fun h => by subst h; rfl)
        generalize l[j] = x at *
        generalize m[j] = y at *
        have b1 : (j : Int) < (m.length : Int) := by omega
        have b2 : (j : Int) < (l.length : Int) := by omega
        clear c1 c2 h1 h2
        by_cases hq : x = y
        · have t0 : (!(x.toList == y.toList)) = false := by rw [hq]; simp
          have HQ := Lib.hid (HS.out.2 hq)
          clear hq
          go_wp2
          go_quiet (fail)
          go_wp2
          go_roundw
          case rel => first | exact ⟨j + 1, by omega, by go_num, HQ.out, below_drewN HB.out _⟩ | ((repeat apply Exists.intro); exact ⟨⟨j + 1, by omega, by go_num, HQ.out, below_drewN HB.out _⟩, rfl⟩)
          case measure => simp [intOf]; omega
        · have t0 : (!(x.toList == y.toList)) = true := by rw [eq_text, decide_eq_false (fun e => hq (nl_inj e))]; rfl
          have HQ : Hid (decide (l = m) = false) := Lib.hid (decide_eq_false (fun h => hq (HNE.out h)))
          clear hq
          go_wp2
          go_quiet (fail)
          go_wp2
          go_ret
          exact ⟨by rw [HQ.out]; rfl, below_drewN HB.out _⟩
      · obtain rfl : j = l.length := by omega
        have HQ : Hid (decide (l = m) = true) := Lib.hid (decide_eq_true (by
          have := HT.out
          rwa [List.take_length, HLM.out, List.take_length] at this))
        clear hlt
        go_wp2
        go_ret
        exact ⟨by rw [HQ.out]; rfl, HB.out⟩
  · have d0 : ((l.length : Int) != (m.length : Int)) = true := by simp; omega
    have d0' : (l.length != m.length) = true := by simp; omega
    have HQ : Hid (decide (l = m) = false) := Lib.hid (decide_eq_false (fun h => hlm (by rw [h])))
    clear hlm
    go_enter Tryd.func43, Tryd.ntmps43
    go_wp2
    go_ret
    exact ⟨by rw [HQ.out]; rfl, Below.refl _ _⟩
end Go.Proofs.YtclloplkbajebaaDoor
