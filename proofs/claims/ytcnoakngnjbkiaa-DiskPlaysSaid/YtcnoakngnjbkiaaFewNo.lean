/- Contract of carracklaw04.few where calls are many. No condition. -/
import Derived.WalkSpells
import Derived.Outline
import Derived.Test.YtcnoakngnjbkiaaDkText
namespace Go.Proofs.Ytcnoakngnjbkiaa
open Go.RowKit
set_option linter.unusedVariables false
set_option maxRecDepth 100000 in
set_option maxHeartbeats 2000000 in
theorem few_bad (a b : Int) (A : Option Addr) (cap : Nat) (l : List ActV) (w : World) (hf : ¬ DkRight a b) :
    Calls Try.prog 16 #[.int .i64 a, .int .i64 b, .slice A l.length cap] w fun x w' => x = .returned (.bool false) ∧ w = w' := by
  have HF := Lib.hid hf
  clear hf
  go_enter Try.func16, Try.ntmps16
  go_wp2_with fail
  refine (dk_right_bad a b _ HF.out).mono ?_
  rintro x w1 ⟨rfl, rfl⟩
  go_wp2
  go_ret
  exact ⟨rfl, rfl⟩
set_option maxRecDepth 100000 in
set_option maxHeartbeats 2000000 in
theorem few_wide (a b : Int) (A : Option Addr) (cap : Nat) (l : List ActV) (w : World) (hf : DkRight a b) (h : 64 < b) :
    Calls Try.prog 16 #[.int .i64 a, .int .i64 b, .slice A l.length cap] w fun x w' => x = .returned (.bool false) ∧ w = w' := by
  have d0 : decide ((64 : Int) < b) = true := decide_eq_true h
  have HF := Lib.hid hf
  clear hf h
  go_enter Try.func16, Try.ntmps16
  go_wp2_with fail
  refine (dk_right_ok a b _ HF.out).mono ?_
  rintro x w1 ⟨rfl, rfl⟩
  go_wp2
  go_ret
  exact ⟨rfl, rfl⟩
set_option maxRecDepth 100000 in
set_option maxHeartbeats 2000000 in
theorem few_long (a b : Int) (A : Option Addr) (cap : Nat) (l : List ActV) (w : World) (hf : DkRight a b) (h : ¬ 64 < b) (hl : 60 < l.length) :
    Calls Try.prog 16 #[.int .i64 a, .int .i64 b, .slice A l.length cap] w fun x w' => x = .returned (.bool false) ∧ w = w' := by
  have d0 : decide ((64 : Int) < b) = false := decide_eq_false h
  have d1 : decide ((60 : Int) < (l.length : Int)) = true := decide_eq_true (by omega)
  have d2 : decide (60 < l.length) = true := decide_eq_true hl
  have HF := Lib.hid hf
  clear hf h hl
  go_enter Try.func16, Try.ntmps16
  go_wp2_with fail
  refine (dk_right_ok a b _ HF.out).mono ?_
  rintro x w1 ⟨rfl, rfl⟩
  go_wp2
  go_ret
  exact ⟨rfl, rfl⟩
set_option maxRecDepth 100000 in
set_option maxHeartbeats 4000000 in
theorem few_big (a b : Int) (A : Option Addr) (cap : Nat) (l : List ActV) (w : World) (hc : ActsAt w A l) (hf : DkRight a b) (h : ¬ 64 < b) (hl : ¬ 60 < l.length) (hbad : ¬ ∀ j (hj : j < l.length), l[j].s.size ≤ 1000 ∧ l[j].l.length ≤ 100) :
    Calls Try.prog 16 #[.int .i64 a, .int .i64 b, .slice A l.length cap] w fun x w' => x = .returned (.bool false) ∧ w = w' := by
  have d0 : decide ((64 : Int) < b) = false := decide_eq_false h
  have d1 : decide ((60 : Int) < (l.length : Int)) = false := decide_eq_false (by omega)
  have d2 : decide (60 < l.length) = false := decide_eq_false hl
  have HF := Lib.hid hf
  have HC := Lib.hid hc
  have HL : Hid (l.length ≤ 60) := Lib.hid (by omega)
  have HBAD := Lib.hid hbad
  clear hf hc h hl hbad
  go_enter Try.func16, Try.ntmps16
  go_wp2_with fail
  refine (dk_right_ok a b _ HF.out).mono ?_
  rintro x w1 ⟨rfl, rfl⟩
  go_wp2
  go_loop [7] (fun i => ∃ j : Nat, j ≤ l.length ∧ i = .int .i64 (j : Int) ∧ ∀ i (hi : i < l.length), i < j → l[i].s.size ≤ 1000 ∧ l[i].l.length ≤ 100) (fun i => l.length - (intOf i).toNat)
  case atStart => exact ⟨0, by omega, rfl, fun i hi h => absurd h (Nat.not_lt_zero _)⟩
  case round =>
    obtain ⟨j, hj, rfl, hup⟩ := hrel
    have HUP := Lib.hid hup
    clear hup
    by_cases hlt : j < l.length
    · obtain ⟨g, o, rfl, hg, hact⟩ := HC.out j hlt
      have c3 := hact.c3
      have c4 := hact.c4
      have hl60 := HL.out
      obtain ⟨c, hcc⟩ : ∃ c, c = l[j] := ⟨_, rfl⟩
      rw [← hcc] at c3 c4
      have HCC := Lib.hid hcc
      clear hact hg hcc
      by_cases hs : 1000 < c.s.size
      · have t0 : decide ((1000 : Int) < (c.s.size : Int)) = true := decide_eq_true (by omega)
        have t1 : decide (1000 < c.s.size) = true := decide_eq_true hs
        clear hs
        go_wp2
        go_ret
        exact ⟨rfl, rfl⟩
      · have t0 : decide ((1000 : Int) < (c.s.size : Int)) = false := decide_eq_false (by omega)
        have t1 : decide (1000 < c.s.size) = false := decide_eq_false hs
        by_cases hll : 100 < c.l.length
        · have t2 : decide ((100 : Int) < (c.l.length : Int)) = true := decide_eq_true (by omega)
          have t3 : decide (100 < c.l.length) = true := decide_eq_true hll
          clear hs hll
          go_wp2
          go_ret
          exact ⟨rfl, rfl⟩
        · have t2 : decide ((100 : Int) < (c.l.length : Int)) = false := decide_eq_false (by omega)
          have t3 : decide (100 < c.l.length) = false := decide_eq_false hll
          have HS := Lib.hid (And.intro (Nat.not_lt.1 hs) (Nat.not_lt.1 hll))
          clear hs hll
          go_wp2
          go_round
          case rel =>
            refine ⟨j + 1, by omega, by go_num, fun i hi h => ?_⟩
            rcases Nat.lt_or_ge i j with h' | h'
            · exact HUP.out i hi h'
            · have : i = j := by omega
              subst this
              rw [← HCC.out]
              exact HS.out
          case measure => simp [intOf]; omega
    · exact absurd (fun i hi => HUP.out i hi (by omega)) HBAD.out
theorem few_no (a b : Int) (A : Option Addr) (cap : Nat) (l : List ActV) (w : World) (hc : ActsAt w A l) (hf : ¬ fewOk a b l) :
    Calls Try.prog 16 #[.int .i64 a, .int .i64 b, .slice A l.length cap] w fun x w' => x = .returned (.bool false) ∧ w = w' := by
  by_cases h1 : DkRight a b
  · by_cases h2 : 64 < b
    · exact few_wide a b A cap l w h1 h2
    · by_cases h3 : 60 < l.length
      · exact few_long a b A cap l w h1 h2 h3
      · refine few_big a b A cap l w hc h1 h2 h3 (fun h => hf ⟨h1, by omega, by omega, fun c hcl => ?_⟩)
        obtain ⟨i, hi, rfl⟩ := List.getElem_of_mem hcl
        exact h i hi
  · exact few_bad a b A cap l w h1
end Go.Proofs.Ytcnoakngnjbkiaa
