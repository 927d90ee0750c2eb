/- carracklaw20.NetOrder: what its walks share. No condition. -/
import Derived.WalkSpells
import Derived.Outline
import Derived.Test.YtahijpfmpdjceaaNtTake
import Derived.Test.YtahijpfmpdjceaaNtAwake
import Derived.Test.YtahijpfmpdjceaaNetMovesGoM
namespace Go.Proofs.Ytahijpfmpdjceaa.netOrder
open Go.RowKit
set_option linter.unusedVariables false
set_option maxRecDepth 100000 in
set_option maxHeartbeats 1000000 in
theorem long (A : Option Addr) (cap : Nat) (l : List MsgV) (k t : Int) (W : World) (hl : 400 < l.length) :
    Calls Try.prog 4 #[.slice A l.length cap, .int .i64 k, .int .i64 t] W fun e w' => e = .returned (.bool true) ∧ Below W.heap.size W w' := by
  have d0 : decide ((400 : Int) < (l.length : Int)) = true := decide_eq_true (by omega)
  have d1 : decide (400 < l.length) = true := decide_eq_true hl
  clear hl
  go_enter Try.func4, Try.ntmps4
  go_wp2_with fail
  refine (awake _).mono ?_
  rintro x w1 ⟨rfl, b1⟩
  have H1 := Lib.hid b1
  clear b1
  go_wp2
  go_ret
  exact ⟨rfl, H1.out⟩
theorem mv_up (A B C : List MsgV) (m : MsgV) (hB : 0 < B.length) : moveL A.length (A.length + B.length) m (A ++ ([m] ++ (B ++ C))) = A ++ (B ++ ([m] ++ C)) := by
  unfold moveL
  rw [if_pos (by omega)]
  have e1 : (A ++ ([m] ++ (B ++ C))).take A.length = A := List.take_left
  have e2 : (A ++ ([m] ++ (B ++ C))).drop (A.length + 1) = B ++ C := by rw [List.drop_append, List.drop_of_length_le (by omega)]; simp
  have e3 : (A ++ ([m] ++ (B ++ C))).drop (A.length + B.length + 1) = C := by
    rw [show A.length + B.length + 1 = A.length + 1 + B.length by omega, ← List.drop_drop, e2]; exact List.drop_left
  rw [e1, e2, e3, show A.length + B.length - A.length = B.length by omega, List.take_left]
  simp
theorem mv_down (A B C : List MsgV) (m : MsgV) : moveL (A.length + B.length) A.length m (A ++ (B ++ ([m] ++ C))) = A ++ ([m] ++ (B ++ C)) := by
  unfold moveL
  rw [if_neg (by omega)]
  have e1 : (A ++ (B ++ ([m] ++ C))).take A.length = A := List.take_left
  have e2 : (A ++ (B ++ ([m] ++ C))).drop A.length = B ++ ([m] ++ C) := List.drop_left
  have e3 : (A ++ (B ++ ([m] ++ C))).drop (A.length + B.length + 1) = C := by
    rw [show A.length + B.length + 1 = A.length + (B.length + 1) by omega, ← List.drop_drop, e2, ← List.drop_drop, List.drop_left]; rfl
  rw [e1, e2, e3, show A.length + B.length - A.length = B.length by omega, List.take_left]
  simp
theorem moveL_back {k t : Nat} {ms : List MsgV} (hk : k < ms.length) (ht : t < ms.length) : moveL t k (moveL k t ms[k]! ms)[t]! (moveL k t ms[k]! ms) = ms := by
  have e1 : (moveL k t ms[k]! ms)[t]! = ms[k]! := by
    rw [getElem!_pos _ t (by rw [moveL_length hk ht]; exact ht)]
    exact netMoves.moveL_at hk ht _
  rw [e1, getElem!_pos ms k hk]
  rcases Nat.lt_or_ge k t with h | h
  · obtain ⟨A, B, C, m, rfl, rfl, hB⟩ : ∃ A B C m, ms = A ++ ([m] ++ (B ++ C)) ∧ k = A.length ∧ t = A.length + B.length := by
      refine ⟨ms.take k, (ms.drop (k + 1)).take (t - k), (ms.drop (k + 1)).drop (t - k), ms[k], ?_, ?_, ?_⟩
      · rw [List.take_append_drop, List.singleton_append, List.getElem_cons_drop, List.take_append_drop]
      · rw [List.length_take]; omega
      · rw [List.length_take, List.length_take, List.length_drop]; omega
    subst hB
    have em : (A ++ ([m] ++ (B ++ C)))[A.length]'hk = m := by rw [List.getElem_append_right (Nat.le_refl _)]; simp
    rw [em, mv_up A B C m (by omega), mv_down A B C m]
  · obtain ⟨A, B, C, m, rfl, rfl, hB⟩ : ∃ A B C m, ms = A ++ (B ++ ([m] ++ C)) ∧ t = A.length ∧ k = A.length + B.length := by
      refine ⟨ms.take t, (ms.drop t).take (k - t), ms.drop (k + 1), ms[k], ?_, ?_, ?_⟩
      · have e : (ms.drop t).drop (k - t) = ms.drop k := by rw [List.drop_drop]; congr 1; omega
        rw [List.singleton_append, List.getElem_cons_drop, ← e, List.take_append_drop, List.take_append_drop]
      · rw [List.length_take]; omega
      · rw [List.length_take, List.length_take, List.length_drop]; omega
    subst hB
    have em : (A ++ (B ++ ([m] ++ C)))[A.length + B.length]'hk = m := by rw [List.getElem_append_right (by omega), List.getElem_append_right (by omega)]; simp
    rw [em, mv_down A B C m]
    rcases Nat.eq_zero_or_pos B.length with h0 | h0
    · have : B = [] := List.length_eq_zero_iff.1 h0
      subst this
      have := mv_down A [] C m
      simpa using this
    · exact mv_up A B C m h0
theorem takeF_zero {ms : List MsgV} (j : Nat) (hj : j < ms.length) : takeF 0 (ms.drop j) = (ms[j], 0, ms.drop (j + 1)) := by
  unfold takeF
  have h0 : 0 < (ms.drop j).length := by rw [List.length_drop]; omega
  rw [if_pos (by unfold hasF; exact decide_eq_true (by omega))]
  have e : (ms.drop j)[(0 : Int).toNat]! = ms[j] := by
    show (ms.drop j)[0]! = ms[j]
    rw [getElem!_pos _ 0 h0, List.getElem_drop]; rfl
  rw [e]
  show (ms[j], 0, (ms.drop j).take 0 ++ (ms.drop j).drop (0 + 1)) = _
  rw [List.take_zero, List.nil_append, List.drop_drop]
theorem takeF_none {ms : List MsgV} : takeF 0 (ms.drop ms.length) = (zeroM, 3, []) := by
  rw [List.drop_length]
  rfl
end Go.Proofs.Ytahijpfmpdjceaa.netOrder
