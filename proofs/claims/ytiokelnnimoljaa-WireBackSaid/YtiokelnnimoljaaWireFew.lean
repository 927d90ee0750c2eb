/- Contract of carracklaw03.few: are calls not too much? Condition: texts within the reach of memory. -/
import Derived.WalkSpells
import Derived.Test.YtiokelnnimoljaaCall4
namespace Go.Proofs.Ytiokelnnimoljaa
open Go.RowKit
set_option linter.unusedVariables false
def total (l : List CallV) : Nat := (l.map fun c => c.s.size).sum
theorem total_succ (l : List CallV) (k : Nat) (h : k < l.length) : total (l.take (k + 1)) = total (l.take k) + l[k].s.size := by
  unfold total; rw [List.take_succ_eq_append_getElem h, List.map_append, List.sum_append]; simp
theorem total_le (l : List CallV) (k : Nat) : total (l.take k) ≤ total l := by
  conv => rhs; rw [← List.take_append_drop k l]
  simp [total, -List.take_append_drop]
def fewOk (l : List CallV) : Prop := total l ≤ 70000 ∧ l.length ≤ 101
set_option maxRecDepth 100000 in
set_option maxHeartbeats 800000 in
theorem few_ok (a : Option Addr) (cap : Nat) (l : List CallV) (w : World) (hl : l.length ≤ maxLen) (hc : CallsAt w a l) (hf : fewOk l) :
    Calls Try.prog 9 #[.slice a l.length cap] w fun x w' => x = .returned (.bool true) ∧ w = w' := by
  obtain ⟨hf1, hf2⟩ := hf
  have HC := Lib.hid hc
  clear hc
  go_enter Try.func9, Try.ntmps9
  go_wp2
  go_loop [3, 4] (fun n i => ∃ k : Nat, k ≤ l.length ∧ i = .int .i64 k ∧ n = .int .i64 (total (l.take k) : Nat)) (fun _ i => l.length - (intOf i).toNat)
  case atStart => exact ⟨0, by omega, rfl, rfl⟩
  case round =>
    obtain ⟨k, hk, rfl, rfl⟩ := hrel
    by_cases hlt : k < l.length
    · obtain ⟨b, off, rfl, hb, hcell⟩ := HC.out k hlt
      have c3 := hcell.c3
      have hs := Lib.hid (total_succ l k hlt)
      have h1 := total_le l (k + 1)
      have h2 : total (l.take (k + 1)) = total (l.take k) + l[k].s.size := total_succ l k hlt
      have h3 : total (l.take k) + l[k].s.size ≤ 70000 := by omega
      clear h1 h2
      generalize total (l.take k) = v at *
      go_wp2
      go_round
      case rel => exact ⟨k + 1, by omega, by go_num, by rw [hs.out, Int.natCast_add]⟩
      case measure => simp [intOf]; omega
    · have hk' : k = l.length := Nat.le_antisymm hk (Nat.not_lt.1 hlt)
      subst hk'
      go_wp2
      go_ret
      exact ⟨rfl, rfl⟩
set_option maxRecDepth 100000 in
set_option maxHeartbeats 800000 in
theorem few_no (a : Option Addr) (cap : Nat) (l : List CallV) (w : World) (hl : l.length ≤ maxLen) (hc : CallsAt w a l) (hf : ¬ fewOk l) :
    Calls Try.prog 9 #[.slice a l.length cap] w fun x w' => x = .returned (.bool false) ∧ w = w' := by
  have HC := Lib.hid hc
  have HF := Lib.hid hf
  unfold maxLen at hl
  clear hc hf
  go_enter Try.func9, Try.ntmps9
  go_wp2
  go_loop [3, 4] (fun n i => ∃ k : Nat, k ≤ l.length ∧ i = .int .i64 k ∧ n = .int .i64 (total (l.take k) : Nat) ∧ total (l.take k) ≤ 70000 ∧ k ≤ 101) (fun _ i => l.length - (intOf i).toNat)
  case atStart => exact ⟨0, by omega, rfl, rfl, Nat.zero_le _, by omega⟩
  case round =>
    obtain ⟨k, hk, rfl, rfl, hn, hk1⟩ := hrel
    by_cases hlt : k < l.length
    · obtain ⟨b, off, rfl, hb, hcell⟩ := HC.out k hlt
      have c3 := hcell.c3
      have hr := hcell.w3
      unfold reachBytes at hr
      have hs := Lib.hid (total_succ l k hlt)
      generalize total (l.take k) = v at *
      by_cases hbig : 70000 < v + l[k].s.size
      · have hd : decide ((70000 : Int) < (v : Int) + (l[k].s.size : Int)) = true := by simp; omega
        go_wp2
        go_ret
        exact ⟨rfl, rfl⟩
      · have hd : decide ((70000 : Int) < (v : Int) + (l[k].s.size : Int)) = false := by simp; omega
        by_cases hk2 : 100 < k
        · have hd2 : decide ((100 : Int) < (k : Int)) = true := by simp; omega
          go_wp2
          go_ret
          exact ⟨rfl, rfl⟩
        · have hd2 : decide ((100 : Int) < (k : Int)) = false := by simp; omega
          go_wp2
          go_round
          case rel => exact ⟨k + 1, by omega, by go_num, by rw [hs.out, Int.natCast_add], by rw [hs.out]; omega, by omega⟩
          case measure => simp [intOf]; omega
    · have hk' : k = l.length := Nat.le_antisymm hk (Nat.not_lt.1 hlt)
      subst hk'
      rw [List.take_length] at hn
      exact absurd ⟨hn, hk1⟩ HF.out
end Go.Proofs.Ytiokelnnimoljaa
