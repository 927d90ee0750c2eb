/- Contracts of model.isState, Follows, Reached; carrackref22.Follows. Condition: the table of states lies where it lies. -/
import Derived.WalkSpells
import Derived.Outline
import Derived.Deep.QuietTactic
import Derived.Test.YtlbeaknegfnpkaaDoorMdLaid
namespace Go.Proofs.YtlbeaknegfnpkaaDoor
open Go.RowKit
set_option linter.unusedVariables false
set_option maxRecDepth 100000 in
set_option maxHeartbeats 1000000 in
theorem md_isState (n : Int) (w : World) : Calls Tryd.prog 19 #[.int .i64 n] w fun x w' => x = .returned (.bool (isS n)) ∧ w' = w := by
  by_cases h0 : 0 ≤ n
  · have d0 : decide (0 ≤ n) = true := decide_eq_true h0
    by_cases h1 : n < 5
    · have d1 : decide (n < 5) = true := decide_eq_true h1
      have e : isS n = true := decide_eq_true ⟨h0, h1⟩
      rw [e]
      clear h0 h1
      go_enter Tryd.func19, Tryd.ntmps19
      go_wp2
      go_ret
      exact ⟨rfl, rfl⟩
    · have d1 : decide (n < 5) = false := decide_eq_false h1
      have e : isS n = false := decide_eq_false (fun h => h1 h.2)
      rw [e]
      clear h0 h1
      go_enter Tryd.func19, Tryd.ntmps19
      go_wp2
      go_ret
      exact ⟨rfl, rfl⟩
  · have d0 : decide (0 ≤ n) = false := decide_eq_false h0
    have e : isS n = false := decide_eq_false (fun h => h0 h.1)
    rw [e]
    clear h0
    go_enter Tryd.func19, Tryd.ntmps19
    go_wp2
    go_ret
    exact ⟨rfl, rfl⟩
set_option maxRecDepth 100000 in
set_option maxHeartbeats 1000000 in
theorem md_follows (a b : Int) (w : World) (hL : LaidOk w) : Calls Tryd.prog 8 #[.int .i64 a, .int .i64 b] w fun x w' => x = .returned (.bool (folB a b)) ∧ w' = w := by
  have HL := Lib.hid hL
  clear hL
  by_cases ha : isS a = true
  · by_cases hb : isS b = true
    · have h1 := of_decide_eq_true ha
      have h2 := of_decide_eq_true hb
      obtain ⟨i, rfl⟩ := Int.eq_ofNat_of_zero_le h1.1
      obtain ⟨j, rfl⟩ := Int.eq_ofNat_of_zero_le h2.1
      have c := HL.out.cells i j (by omega) (by omega)
      have s1 : (i : Int) < 5 := by omega
      have s2 : (j : Int) < 5 := by omega
      generalize folB (i : Int) (j : Int) = r at *
      have HA := Lib.hid ha
      have HB := Lib.hid hb
      clear ha hb h1 h2
      go_enter Tryd.func8, Tryd.ntmps8
      go_wp2_with fail
      refine (md_isState _ w).mono ?_
      rintro x w1 ⟨rfl, rfl⟩
      rw [HA.out]
      go_wp2_with fail
      refine (md_isState _ w1).mono ?_
      rintro x w2 ⟨rfl, rfl⟩
      rw [HB.out]
      go_wp2
      go_ret
      exact ⟨rfl, rfl⟩
    · have hb' : isS b = false := by simpa using hb
      have e : folB a b = false := by
        rw [Bool.eq_false_iff]
        intro h
        have := fol_in h
        have := of_decide_eq_false hb'
        omega
      rw [e]
      clear e hb
      have HA := Lib.hid ha
      have HB := Lib.hid hb'
      clear ha hb'
      go_enter Tryd.func8, Tryd.ntmps8
      go_wp2_with fail
      refine (md_isState _ w).mono ?_
      rintro x w1 ⟨rfl, rfl⟩
      rw [HA.out]
      go_wp2_with fail
      refine (md_isState _ w1).mono ?_
      rintro x w2 ⟨rfl, rfl⟩
      rw [HB.out]
      go_wp2
      go_ret
      exact ⟨rfl, rfl⟩
  · have ha' : isS a = false := by simpa using ha
    have e : folB a b = false := by
      rw [Bool.eq_false_iff]
      intro h
      have := fol_in h
      have := of_decide_eq_false ha'
      omega
    rw [e]
    clear e ha
    have HA := Lib.hid ha'
    clear ha'
    go_enter Tryd.func8, Tryd.ntmps8
    go_wp2_with fail
    refine (md_isState _ w).mono ?_
    rintro x w1 ⟨rfl, rfl⟩
    rw [HA.out]
    go_wp2
    go_ret
    exact ⟨rfl, rfl⟩
set_option maxRecDepth 100000 in
set_option maxHeartbeats 4000000 in
theorem md_reached_in : ∀ (n : Nat) (a b : Nat) (w : World), a < 5 → b < 5 → 5 - a ≤ n → LaidOk w → Calls Tryd.prog 10 #[.int .i64 (a : Int), .int .i64 (b : Int)] w fun x w' => x = .returned (.bool (rchB a b)) ∧ w' = w
  | 0, a, b, w, ha, hb, hn, hL => by omega
  | n + 1, a, b, w, ha, hb, hn, hL => by
    have IH := Lib.hid (md_reached_in n)
    have HL := Lib.hid hL
    have HA : Hid (isS (a : Int) = true) := Lib.hid (decide_eq_true ⟨by omega, by omega⟩)
    have HB : Hid (isS (b : Int) = true) := Lib.hid (decide_eq_true ⟨by omega, by omega⟩)
    have HN := Lib.hid (And.intro ha (And.intro hb hn))
    have s1 : (a : Int) < 5 := by omega
    clear hL ha hb hn
    by_cases hab : a = b
    · subst hab
      have e : rchB (a : Int) (a : Int) = true := by rw [rch_self]; exact HA.out
      rw [e]
      clear e
      go_enter Tryd.func10, Tryd.ntmps10
      go_wp2_with fail
      refine (md_isState _ w).mono ?_
      rintro x w1 ⟨rfl, rfl⟩
      rw [HA.out]
      go_wp2_with fail
      refine (md_isState _ w1).mono ?_
      rintro x w2 ⟨rfl, rfl⟩
      rw [HA.out]
      go_wp2
      go_ret
      exact ⟨rfl, rfl⟩
    · have q1 : ((a : Int) == (b : Int)) = false := by rw [beq_eq_false_iff_ne]; omega
      have q1' : (a == b) = false := by rw [beq_eq_false_iff_ne]; exact hab
      have HNE := Lib.hid hab
      clear hab
      go_enter Tryd.func10, Tryd.ntmps10
      go_wp2_with fail
      refine (md_isState _ w).mono ?_
      rintro x w1 ⟨rfl, rfl⟩
      rw [HA.out]
      go_wp2_with fail
      refine (md_isState _ w1).mono ?_
      rintro x w2 ⟨rfl, rfl⟩
      rw [HB.out]
      go_wp2
      go_loop [17] (fun i => ∃ j : Nat, j ≤ 5 ∧ i = .int .i64 (j : Int) ∧ ∀ c : Nat, c < j → folB a c = true → rchB c b = false) (fun i => 5 - (intOf i).toNat)
      case atStart => exact ⟨0, by omega, rfl, fun c hc => absurd hc (Nat.not_lt_zero _)⟩
      case round =>
        obtain ⟨j, hj, rfl, hup⟩ := hrel
        have HUP := Lib.hid hup
        clear hup
        by_cases hlt : j < 5
        · have hi0 : (j : Int) < 5 := by omega
          have c := HL.out.cells a j HN.out.1 hlt
          have HJ := Lib.hid hlt
          cases hf : folB (a : Int) (j : Int) with
          | false =>
            rw [hf] at c
            have HF := Lib.hid hf
            clear hf
            go_wp2
            go_round
            case rel =>
              refine ⟨j + 1, HJ.out, by go_num, fun c hc hfc => ?_⟩
              rcases Nat.lt_or_ge c j with h' | h'
              · exact HUP.out c h' hfc
              · have : c = j := by omega
                subst this
                rw [HF.out] at hfc; cases hfc
            case measure => have := HJ.out; simp [intOf]; omega
          | true =>
            rw [hf] at c
            have HF := Lib.hid hf
            clear hf
            go_wp2_with fail
            refine (IH.out j b w2 HJ.out HN.out.2.1 (by have := fol_in HF.out; have := HN.out; omega) HL.out).mono ?_
            rintro x w3 ⟨rfl, rfl⟩
            cases hr : rchB (j : Int) (b : Int) with
            | true =>
              have HR : Hid (rchB (a : Int) (b : Int) = true) := Lib.hid (rch_step HF.out hr)
              clear hr
              go_wp2
              go_ret
              exact ⟨by rw [HR.out]; rfl, rfl⟩
            | false =>
              have HR := Lib.hid hr
              clear hr
              go_wp2
              go_round
              case rel =>
                refine ⟨j + 1, HJ.out, by go_num, fun c hc hfc => ?_⟩
                rcases Nat.lt_or_ge c j with h' | h'
                · exact HUP.out c h' hfc
                · have : c = j := by omega
                  subst this
                  exact HR.out
              case measure => have := HJ.out; simp [intOf]; omega
        · obtain rfl : j = 5 := by omega
          have HR : Hid (rchB (a : Int) (b : Int) = false) := Lib.hid (rch_none (by have := HNE.out; omega) HUP.out)
          clear hlt
          go_wp2
          go_ret
          exact ⟨by rw [HR.out]; rfl, rfl⟩
set_option maxRecDepth 100000 in
set_option maxHeartbeats 1000000 in
theorem md_reached (a b : Int) (w : World) (hL : LaidOk w) : Calls Tryd.prog 10 #[.int .i64 a, .int .i64 b] w fun x w' => x = .returned (.bool (rchB a b)) ∧ w' = w := by
  by_cases ha : isS a = true
  · by_cases hb : isS b = true
    · have h1 := of_decide_eq_true ha
      have h2 := of_decide_eq_true hb
      obtain ⟨i, rfl⟩ := Int.eq_ofNat_of_zero_le h1.1
      obtain ⟨j, rfl⟩ := Int.eq_ofNat_of_zero_le h2.1
      exact md_reached_in 5 i j w (by omega) (by omega) (by omega) hL
    · have hb' : isS b = false := by simpa using hb
      rw [rch_out (Or.inr hb')]
      have HA := Lib.hid ha
      have HB := Lib.hid hb'
      clear ha hb' hb hL
      go_enter Tryd.func10, Tryd.ntmps10
      go_wp2_with fail
      refine (md_isState _ w).mono ?_
      rintro x w1 ⟨rfl, rfl⟩
      rw [HA.out]
      go_wp2_with fail
      refine (md_isState _ w1).mono ?_
      rintro x w2 ⟨rfl, rfl⟩
      rw [HB.out]
      go_wp2
      go_ret
      exact ⟨rfl, rfl⟩
  · have ha' : isS a = false := by simpa using ha
    rw [rch_out (Or.inl ha')]
    have HA := Lib.hid ha'
    clear ha' ha hL
    go_enter Tryd.func10, Tryd.ntmps10
    go_wp2_with fail
    refine (md_isState _ w).mono ?_
    rintro x w1 ⟨rfl, rfl⟩
    rw [HA.out]
    go_wp2
    go_ret
    exact ⟨rfl, rfl⟩
end Go.Proofs.YtlbeaknegfnpkaaDoor
