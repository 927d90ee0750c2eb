/- Contracts of note.Check, note.By. No condition. -/
import Derived.WalkSpells
import Derived.Test.YtmckpoeolfggmaaPkChk
namespace Go.Proofs.Ytmckpoeolfggmaa
open Go.RowKit
set_option linter.unusedVariables false
def ntArg (k f q t : Int) (d : ByteArray) : Value := .agg #[.int .i64 k, .int .i64 f, .int .u64 q, .int .u64 t, .string d]
def NtOk (k f q t : Int) (d : ByteArray) : Prop := 1 ≤ k ∧ k ≤ 4 ∧ PkOk ⟨f, q, t, d⟩
section
variable (k f q t : Int) (d : ByteArray) (w : World)
set_option maxRecDepth 100000 in
set_option maxHeartbeats 1000000 in
theorem nt_check_ok (h : NtOk k f q t d) :
    Calls Try.prog 42 #[.agg #[.int .i64 k, .int .i64 f, .int .u64 q, .int .u64 t, .string d]] w fun x w' => x = .returned (.int .i64 0) ∧ Below w.heap.size w w' := by
  have d1 : decide (k < 1) = false := decide_eq_false (by have := h.1; omega)
  have d2 : decide (4 < k) = false := decide_eq_false (by have := h.2.1; omega)
  have H := Lib.hid h.2.2
  clear h
  go_enter Try.func42, Try.ntmps42
  go_wp2_with fail
  refine (pk_check_ok f q t d _ H.out).mono ?_
  rintro x w2 ⟨rfl, b2⟩
  have HB := Lib.hid ((Kq.below_alloc w _).trans (b2.mono (Kq.below_alloc w _).size))
  clear b2
  go_wp2
  go_ret
  exact ⟨rfl, HB.out⟩
set_option maxRecDepth 100000 in
set_option maxHeartbeats 1000000 in
theorem nt_check_bad (h : ¬ NtOk k f q t d) :
    Calls Try.prog 42 #[.agg #[.int .i64 k, .int .i64 f, .int .u64 q, .int .u64 t, .string d]] w fun x w' => x = .returned (.int .i64 1) ∧ Below w.heap.size w w' := by
  have H := Lib.hid h
  clear h
  by_cases h1 : k < 1
  · have d1 : decide (k < 1) = true := decide_eq_true h1
    go_enter Try.func42, Try.ntmps42
    go_wp2
    go_ret
    exact ⟨rfl, Kq.below_alloc _ _⟩
  have d1 : decide (k < 1) = false := decide_eq_false h1
  by_cases h2 : 4 < k
  · have d2 : decide (4 < k) = true := decide_eq_true h2
    go_enter Try.func42, Try.ntmps42
    go_wp2
    go_ret
    exact ⟨rfl, Kq.below_alloc _ _⟩
  have d2 : decide (4 < k) = false := decide_eq_false h2
  have HP : Hid (¬ PkOk ⟨f, q, t, d⟩) := Lib.hid (fun hp => H.out ⟨by omega, by omega, hp⟩)
  clear h1 h2
  go_enter Try.func42, Try.ntmps42
  go_wp2_with fail
  refine (pk_check_bad f q t d _ HP.out).mono ?_
  rintro x w2 ⟨rfl, b2⟩
  have HB := Lib.hid ((Kq.below_alloc w _).trans (b2.mono (Kq.below_alloc w _).size))
  clear b2
  go_wp2
  go_ret
  exact ⟨rfl, HB.out⟩
/-- which chain notes it -/
def byOf (k f : Int) : Int := if k = 2 then 1 - f else f
end
end Go.Proofs.Ytmckpoeolfggmaa
