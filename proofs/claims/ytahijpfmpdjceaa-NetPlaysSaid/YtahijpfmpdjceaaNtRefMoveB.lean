/- Contract of the reference's net: Move refused. Condition: sizes. -/
import Derived.WalkSpells
import Derived.Outline
import Derived.Deep.QuietTactic
import Derived.Test.YtahijpfmpdjceaaNtRefTwice
namespace Go.Proofs.Ytahijpfmpdjceaa
open Go.RowKit
set_option linter.unusedVariables false
set_option maxRecDepth 100000 in
set_option maxHeartbeats 1000000 in
theorem rt_move_a (base R : Nat) (v : Value) (ms : List MsgV) (k t : Int) (w : World) (h : RtS w base R v ms) (hk : k < 0) :
    Calls Try.prog 17 #[.pointer (some ⟨R, 0, none⟩), .int .i64 k, .int .i64 t] w fun e w' => e = .returned (.int .i64 3) ∧ w' = w := by
  obtain ⟨LA, lcap, rfl, -, -, -⟩ := h.at
  have c0 := h.c0
  have d1 : decide (k < 0) = true := decide_eq_true hk
  clear h hk
  go_enter Try.func17, Try.ntmps17
  go_wp2
  go_ret
  exact ⟨rfl, rfl⟩
set_option maxRecDepth 100000 in
set_option maxHeartbeats 1000000 in
theorem rt_move_b (base R : Nat) (v : Value) (ms : List MsgV) (k t : Int) (w : World) (h : RtS w base R v ms) (hk : 0 ≤ k ∧ (ms.length : Int) ≤ k) :
    Calls Try.prog 17 #[.pointer (some ⟨R, 0, none⟩), .int .i64 k, .int .i64 t] w fun e w' => e = .returned (.int .i64 3) ∧ w' = w := by
  obtain ⟨LA, lcap, rfl, -, -, -⟩ := h.at
  have c0 := h.c0
  have d1 : decide (k < 0) = false := decide_eq_false (by omega)
  have d2 : decide ((ms.length : Int) ≤ k) = true := decide_eq_true hk.2
  clear h hk
  go_enter Try.func17, Try.ntmps17
  go_wp2
  go_ret
  exact ⟨rfl, rfl⟩
set_option maxRecDepth 100000 in
set_option maxHeartbeats 1000000 in
theorem rt_move_c (base R : Nat) (v : Value) (ms : List MsgV) (k t : Int) (w : World) (h : RtS w base R v ms) (hk : 0 ≤ k ∧ k < (ms.length : Int) ∧ t < 0) :
    Calls Try.prog 17 #[.pointer (some ⟨R, 0, none⟩), .int .i64 k, .int .i64 t] w fun e w' => e = .returned (.int .i64 3) ∧ w' = w := by
  obtain ⟨LA, lcap, rfl, -, -, -⟩ := h.at
  have c0 := h.c0
  have d1 : decide (k < 0) = false := decide_eq_false (by omega)
  have d2 : decide ((ms.length : Int) ≤ k) = false := decide_eq_false (by omega)
  have d3 : decide (t < 0) = true := decide_eq_true hk.2.2
  clear h hk
  go_enter Try.func17, Try.ntmps17
  go_wp2
  go_ret
  exact ⟨rfl, rfl⟩
set_option maxRecDepth 100000 in
set_option maxHeartbeats 1000000 in
theorem rt_move_d (base R : Nat) (v : Value) (ms : List MsgV) (k t : Int) (w : World) (h : RtS w base R v ms) (hk : 0 ≤ k ∧ k < (ms.length : Int) ∧ 0 ≤ t ∧ (ms.length : Int) ≤ t) :
    Calls Try.prog 17 #[.pointer (some ⟨R, 0, none⟩), .int .i64 k, .int .i64 t] w fun e w' => e = .returned (.int .i64 3) ∧ w' = w := by
  obtain ⟨LA, lcap, rfl, -, -, -⟩ := h.at
  have c0 := h.c0
  have d1 : decide (k < 0) = false := decide_eq_false (by omega)
  have d2 : decide ((ms.length : Int) ≤ k) = false := decide_eq_false (by omega)
  have d3 : decide (t < 0) = false := decide_eq_false (by omega)
  have d4 : decide ((ms.length : Int) ≤ t) = true := decide_eq_true hk.2.2.2
  clear h hk
  go_enter Try.func17, Try.ntmps17
  go_wp2
  go_ret
  exact ⟨rfl, rfl⟩
end Go.Proofs.Ytahijpfmpdjceaa
