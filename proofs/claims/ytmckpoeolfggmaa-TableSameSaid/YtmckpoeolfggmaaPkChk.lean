/- A packet, and the contract of packet.Check. No condition. -/
import Derived.WalkSpells
import Derived.Test.YtmckpoeolfggmaaTxt
import Derived.Test.YtmckpoeolfggmaaObj
namespace Go.Proofs.Ytmckpoeolfggmaa
open Go.RowKit
set_option linter.unusedVariables false
/-- a packet -/
structure PkV where
  f : Int
  q : Int
  t : Int
  d : ByteArray
def PkV.val (p : PkV) : Value := .agg #[.int .i64 p.f, .int .u64 p.q, .int .u64 p.t, .string p.d]
def PkOk (p : PkV) : Prop := 0 ≤ p.f ∧ p.f ≤ 1 ∧ p.q ≠ 0 ∧ p.t ≠ 0 ∧ p.d.size ≤ 64
instance (p : PkV) : Decidable (PkOk p) := by unfold PkOk; infer_instance
set_option maxRecDepth 100000 in
set_option maxHeartbeats 1000000 in
theorem pk_check_ok (f q t : Int) (d : ByteArray) (w : World) (h : PkOk ⟨f, q, t, d⟩) :
    Calls Try.prog 50 #[.agg #[.int .i64 f, .int .u64 q, .int .u64 t, .string d]] w fun x w' => x = .returned (.int .i64 0) ∧ Below w.heap.size w w' := by
  obtain ⟨h1, h2, h3, h4, h5⟩ := h
  simp only at h1 h2 h3 h4 h5
  have e1 : decide (f < 0) = false := decide_eq_false (by omega)
  have e2 : decide (1 < f) = false := decide_eq_false (by omega)
  have e3 : (q == 0) = false := by simpa using h3
  have e4 : (t == 0) = false := by simpa using h4
  have e5 : decide (64 < (d.size : Int)) = false := decide_eq_false (by omega)
  clear h3 h4
  go_enter Try.func50, Try.ntmps50
  go_wp2
  go_ret
  exact ⟨rfl, Kq.below_alloc _ _⟩
set_option maxRecDepth 100000 in
set_option maxHeartbeats 1000000 in
theorem pk_check_bad (f q t : Int) (d : ByteArray) (w : World) (h : ¬ PkOk ⟨f, q, t, d⟩) :
    Calls Try.prog 50 #[.agg #[.int .i64 f, .int .u64 q, .int .u64 t, .string d]] w fun x w' => x = .returned (.int .i64 1) ∧ Below w.heap.size w w' := by
  have H := Lib.hid h
  clear h
  by_cases h1 : f < 0
  · have e1 : decide (f < 0) = true := decide_eq_true h1
    go_enter Try.func50, Try.ntmps50
    go_wp2
    go_ret
    exact ⟨rfl, Kq.below_alloc _ _⟩
  have e1 : decide (f < 0) = false := decide_eq_false h1
  by_cases h2 : 1 < f
  · have e2 : decide (1 < f) = true := decide_eq_true h2
    go_enter Try.func50, Try.ntmps50
    go_wp2
    go_ret
    exact ⟨rfl, Kq.below_alloc _ _⟩
  have e2 : decide (1 < f) = false := decide_eq_false h2
  by_cases h3 : q = 0
  · subst h3
    go_enter Try.func50, Try.ntmps50
    go_wp2
    go_ret
    exact ⟨rfl, Kq.below_alloc _ _⟩
  have e3 : (q == 0) = false := by simpa using h3
  by_cases h4 : t = 0
  · subst h4
    clear h3
    go_enter Try.func50, Try.ntmps50
    go_wp2
    go_ret
    exact ⟨rfl, Kq.below_alloc _ _⟩
  have e4 : (t == 0) = false := by simpa using h4
  have h5 : 64 < d.size := by
    refine Nat.lt_of_not_le fun h5 => H.out ⟨by show 0 ≤ f; omega, by show f ≤ 1; omega, h3, h4, h5⟩
  have e5 : decide (64 < (d.size : Int)) = true := decide_eq_true (by omega)
  clear h3 h4
  go_enter Try.func50, Try.ntmps50
  go_wp2
  go_ret
  exact ⟨rfl, Kq.below_alloc _ _⟩
end Go.Proofs.Ytmckpoeolfggmaa
