/- Contracts of carracklaw14.few. No condition. -/
import Derived.WalkSpells
import Derived.Test.YtkdommljaciahaaNtPut
namespace Go.Proofs.Ytkdommljaciahaa
open Go.RowKit
set_option linter.unusedVariables false
def Few (l m : List NtV) : Prop := l.length ≤ 300 ∧ m.length ≤ 300 ∧ (∀ n ∈ l, n.d.size ≤ 300) ∧ ∀ n ∈ m, n.d.size ≤ 300
instance (l m : List NtV) : Decidable (Few l m) := by unfold Few; infer_instance
set_option maxRecDepth 100000 in
set_option maxHeartbeats 4000000 in
theorem few14 (A B : Option Addr) (ca cb : Nat) (l m : List NtV) (w : World) (hA : EnAt NtV.nc w A l) (hB : EnAt NtV.ic w B m) :
    Calls Try.prog 7 #[.slice A l.length ca, .slice B m.length cb] w fun x w' => x = .returned (.bool (decide (Few l m))) ∧ w = w' := by
  have HA := Lib.hid hA
  have HB := Lib.hid hB
  clear hA hB
  by_cases h1 : 300 < l.length
  · have d1 : decide ((300 : Int) < (l.length : Int)) = true := decide_eq_true (by omega)
    have d2 : decide (300 < l.length) = true := decide_eq_true h1
    have HF : Hid (decide (Few l m) = false) := Lib.hid (decide_eq_false (fun h => by have := h.1; omega))
    clear h1
    go_enter Try.func7, Try.ntmps7
    go_wp2
    go_ret
    exact ⟨by rw [HF.out]; rfl, rfl⟩
  have d1 : decide ((300 : Int) < (l.length : Int)) = false := decide_eq_false (by omega)
  have d2 : decide (300 < l.length) = false := decide_eq_false h1
  by_cases h2 : 300 < m.length
  · have d3 : decide ((300 : Int) < (m.length : Int)) = true := decide_eq_true (by omega)
    have d4 : decide (300 < m.length) = true := decide_eq_true h2
    have HF : Hid (decide (Few l m) = false) := Lib.hid (decide_eq_false (fun h => by have := h.2.1; omega))
    clear h1 h2
    go_enter Try.func7, Try.ntmps7
    go_wp2
    go_ret
    exact ⟨by rw [HF.out]; rfl, rfl⟩
  have d3 : decide ((300 : Int) < (m.length : Int)) = false := decide_eq_false (by omega)
  have d4 : decide (300 < m.length) = false := decide_eq_false h2
  have HL : Hid (l.length ≤ 300) := Lib.hid (by omega)
  have HM : Hid (m.length ≤ 300) := Lib.hid (by omega)
  clear h1 h2
  go_enter Try.func7, Try.ntmps7
  go_wp2
  go_loop [5] (fun i => ∃ j : Nat, j ≤ l.length ∧ i = .int .i64 (j : Int) ∧ ∀ i (hi : i < l.length), i < j → l[i].d.size ≤ 300) (fun i => l.length - (intOf i).toNat)
  case atStart => exact ⟨0, by omega, rfl, fun i hi h => absurd h (Nat.not_lt_zero _)⟩
  case round =>
    obtain ⟨j, hj, rfl, hup⟩ := hrel
    have HUP := Lib.hid hup
    clear hup
    have hl300 := HL.out
    by_cases hlt : j < l.length
    · obtain ⟨b, o, rfl, hb, hc⟩ := HA.out j hlt
      have c4 := hc 4 (by omega)
      obtain ⟨n, hn⟩ : ∃ n, n = l[j] := ⟨_, rfl⟩
      rw [← hn] at c4
      simp only [NtV.nc, List.getElem?_cons_zero, List.getElem?_cons_succ] at c4
      have HN := Lib.hid hn
      have HLT := Lib.hid hlt
      clear hc hb hn
      by_cases hs : 300 < n.d.size
      · have t0 : decide ((300 : Int) < (n.d.size : Int)) = true := decide_eq_true (by omega)
        have t1 : decide (300 < n.d.size) = true := decide_eq_true hs
        have HF : Hid (decide (Few l m) = false) := Lib.hid (decide_eq_false (fun h => by have := h.2.2.1 n (by rw [HN.out]; exact List.getElem_mem _); omega))
        clear hs
        go_wp2
        go_ret
        exact ⟨by rw [HF.out]; rfl, rfl⟩
      · have t0 : decide ((300 : Int) < (n.d.size : Int)) = false := decide_eq_false (by omega)
        have t1 : decide (300 < n.d.size) = false := decide_eq_false hs
        have HS := Lib.hid (Nat.not_lt.1 hs)
        clear hs
        go_wp2
        go_round
        case rel =>
          refine ⟨j + 1, HLT.out, by go_num, fun i hi h => ?_⟩
          rcases Nat.lt_or_ge i j with h' | h'
          · exact HUP.out i hi h'
          · have : i = j := by omega
            subst this
            rw [← HN.out]
            exact HS.out
        case measure => have := HLT.out; simp [intOf]; omega
    · obtain rfl : j = l.length := by omega
      have HALL : Hid (∀ n ∈ l, n.d.size ≤ 300) := Lib.hid (fun n hn => by
        obtain ⟨i, hi, rfl⟩ := List.getElem_of_mem hn
        exact HUP.out i hi hi)
      clear HUP
      go_wp2
      go_loop [6] (fun i => ∃ j : Nat, j ≤ m.length ∧ i = .int .i64 (j : Int) ∧ ∀ i (hi : i < m.length), i < j → m[i].d.size ≤ 300) (fun i => m.length - (intOf i).toNat)
      case atStart => exact ⟨0, by omega, rfl, fun i hi h => absurd h (Nat.not_lt_zero _)⟩
      case round =>
        obtain ⟨k, hk, rfl, hup⟩ := hrel
        have HUP := Lib.hid hup
        clear hup
        have hm300 := HM.out
        by_cases hlt2 : k < m.length
        · obtain ⟨b, o, rfl, hb, hc⟩ := HB.out k hlt2
          have c3 := hc 3 (by omega)
          obtain ⟨n, hn⟩ : ∃ n, n = m[k] := ⟨_, rfl⟩
          rw [← hn] at c3
          simp only [NtV.ic, List.getElem?_cons_zero, List.getElem?_cons_succ] at c3
          have HN := Lib.hid hn
          have HLT := Lib.hid hlt2
          clear hc hb hn
          by_cases hs : 300 < n.d.size
          · have t0 : decide ((300 : Int) < (n.d.size : Int)) = true := decide_eq_true (by omega)
            have t1 : decide (300 < n.d.size) = true := decide_eq_true hs
            have HF : Hid (decide (Few l m) = false) := Lib.hid (decide_eq_false (fun h => by have := h.2.2.2 n (by rw [HN.out]; exact List.getElem_mem _); omega))
            clear hs
            go_wp2
            go_ret
            exact ⟨by rw [HF.out]; rfl, rfl⟩
          · have t0 : decide ((300 : Int) < (n.d.size : Int)) = false := decide_eq_false (by omega)
            have t1 : decide (300 < n.d.size) = false := decide_eq_false hs
            have HS := Lib.hid (Nat.not_lt.1 hs)
            clear hs
            go_wp2
            go_round
            case rel =>
              refine ⟨k + 1, HLT.out, by go_num, fun i hi h => ?_⟩
              rcases Nat.lt_or_ge i k with h' | h'
              · exact HUP.out i hi h'
              · have : i = k := by omega
                subst this
                rw [← HN.out]
                exact HS.out
            case measure => have := HLT.out; simp [intOf]; omega
        · obtain rfl : k = m.length := by omega
          have HF : Hid (decide (Few l m) = true) := Lib.hid (decide_eq_true ⟨HL.out, HM.out, HALL.out, fun n hn => by
            obtain ⟨i, hi, rfl⟩ := List.getElem_of_mem hn
            exact HUP.out i hi hi⟩)
          go_wp2
          go_ret
          exact ⟨by rw [HF.out]; rfl, rfl⟩
end Go.Proofs.Ytkdommljaciahaa
