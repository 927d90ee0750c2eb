/- Contracts of note.Check, note.By. No condition. -/
import Derived.WalkSpells
import Derived.Test.YtkdommljaciahaaPkChk
namespace Go.Proofs.Ytkdommljaciahaa
open Go.RowKit
set_option linter.unusedVariables false
def ntArg (k f q t : Int) (d : ByteArray) : Value := .agg #[.int .i64 k, .int .i64 f, .int .u64 q, .int .u64 t, .string d]
def NtOk (k f q t : Int) (d : ByteArray) : Prop := 1 ≤ k ∧ k ≤ 4 ∧ PkOk ⟨f, q, t, d⟩
section
variable (k f q t : Int) (d : ByteArray) (w : World)
set_option maxRecDepth 100000 in
set_option maxHeartbeats 1000000 in
theorem nt_check_ok (h : NtOk k f q t d) :
    Calls Try.prog 18 #[.agg #[.int .i64 k, .int .i64 f, .int .u64 q, .int .u64 t, .string d]] w fun x w' => x = .returned (.int .i64 0) ∧ Below w.heap.size w w' := by
  have d1 : decide (k < 1) = false := decide_eq_false (by have := h.1; omega)
  have d2 : decide (4 < k) = false := decide_eq_false (by have := h.2.1; omega)
  have H := Lib.hid h.2.2
  clear h
  go_enter Try.func18, Try.ntmps18
  go_wp2_with fail
  refine (pk_check_ok f q t d _ H.out).mono ?_
  rintro x w2 ⟨rfl, b2⟩
  have HB := Lib.hid ((Kq.below_alloc w _).trans (b2.mono (Kq.below_alloc w _).size))
  clear b2
  go_wp2
  go_ret
  exact ⟨rfl, HB.out⟩
set_option maxRecDepth 100000 in
set_option maxHeartbeats 1000000 in
theorem nt_check_bad (h : ¬ NtOk k f q t d) :
    Calls Try.prog 18 #[.agg #[.int .i64 k, .int .i64 f, .int .u64 q, .int .u64 t, .string d]] w fun x w' => x = .returned (.int .i64 1) ∧ Below w.heap.size w w' := by
  have H := Lib.hid h
  clear h
  by_cases h1 : k < 1
  · have d1 : decide (k < 1) = true := decide_eq_true h1
    go_enter Try.func18, Try.ntmps18
    go_wp2
    go_ret
    exact ⟨rfl, Kq.below_alloc _ _⟩
  have d1 : decide (k < 1) = false := decide_eq_false h1
  by_cases h2 : 4 < k
  · have d2 : decide (4 < k) = true := decide_eq_true h2
    go_enter Try.func18, Try.ntmps18
    go_wp2
    go_ret
    exact ⟨rfl, Kq.below_alloc _ _⟩
  have d2 : decide (4 < k) = false := decide_eq_false h2
  have HP : Hid (¬ PkOk ⟨f, q, t, d⟩) := Lib.hid (fun hp => H.out ⟨by omega, by omega, hp⟩)
  clear h1 h2
  go_enter Try.func18, Try.ntmps18
  go_wp2_with fail
  refine (pk_check_bad f q t d _ HP.out).mono ?_
  rintro x w2 ⟨rfl, b2⟩
  have HB := Lib.hid ((Kq.below_alloc w _).trans (b2.mono (Kq.below_alloc w _).size))
  clear b2
  go_wp2
  go_ret
  exact ⟨rfl, HB.out⟩
/-- which chain notes it -/
def byOf (k f : Int) : Int := if k = 2 then 1 - f else f
set_option maxRecDepth 100000 in
set_option maxHeartbeats 1000000 in
theorem nt_by_bad (h : ¬ NtOk k f q t d) :
    Calls Try.prog 20 #[.agg #[.int .i64 k, .int .i64 f, .int .u64 q, .int .u64 t, .string d]] w fun x w' => x = .returned (.int .i64 (-1)) ∧ Below w.heap.size w w' := by
  have H := Lib.hid h
  clear h
  go_enter Try.func20, Try.ntmps20
  go_wp2_with fail
  refine (nt_check_bad k f q t d _ H.out).mono ?_
  rintro x w2 ⟨rfl, b2⟩
  have HB := Lib.hid ((Kq.below_alloc w _).trans (b2.mono (Kq.below_alloc w _).size))
  clear b2
  go_wp2
  go_ret
  exact ⟨rfl, HB.out⟩
set_option maxRecDepth 100000 in
set_option maxHeartbeats 1000000 in
theorem nt_by_ok (h : NtOk k f q t d) :
    Calls Try.prog 20 #[.agg #[.int .i64 k, .int .i64 f, .int .u64 q, .int .u64 t, .string d]] w fun x w' => x = .returned (.int .i64 (byOf k f)) ∧ Below w.heap.size w w' := by
  have H := Lib.hid h
  have hf0 : 0 ≤ f := h.2.2.1
  have hf1 : f ≤ 1 := h.2.2.2.1
  clear h
  have HN : Hid ((w.alloc (Obj.cells #[Value.int IntKind.i64 k, Value.int IntKind.i64 f, Value.int IntKind.u64 q, Value.int IntKind.u64 t, Value.string d] 30)).heap[w.heap.size]? = some (.cells #[.int .i64 k, .int .i64 f, .int .u64 q, .int .u64 t, .string d] 30 (0, 0))) := Lib.hid (Kq.blk_new _ _ _ _)
  by_cases h2 : k = 2
  · have HY : Hid (byOf k f = 1 - f) := Lib.hid (if_pos h2)
    subst h2
    go_enter Try.func20, Try.ntmps20
    go_wp2_with fail
    refine (nt_check_ok 2 f q t d _ H.out).mono ?_
    rintro x w2 ⟨rfl, b2⟩
    have c0 : w2.cell? ⟨w.heap.size, 0, none⟩ = some (.int .i64 2) := Kq.blk_cell (Kq.below_blk b2 HN.out (Kq.blk_lt HN.out)) 0
    have c1 : w2.cell? ⟨w.heap.size, 1, none⟩ = some (.int .i64 f) := Kq.blk_cell (Kq.below_blk b2 HN.out (Kq.blk_lt HN.out)) 1
    have HB := Lib.hid ((Kq.below_alloc w _).trans (b2.mono (Kq.below_alloc w _).size))
    clear b2
    go_wp2
    go_ret
    exact ⟨by rw [HY.out]; rfl, HB.out⟩
  · have HY : Hid (byOf k f = f) := Lib.hid (if_neg h2)
    have e2 : (k == 2) = false := by simpa using h2
    clear h2
    go_enter Try.func20, Try.ntmps20
    go_wp2_with fail
    refine (nt_check_ok k f q t d _ H.out).mono ?_
    rintro x w2 ⟨rfl, b2⟩
    have c0 : w2.cell? ⟨w.heap.size, 0, none⟩ = some (.int .i64 k) := Kq.blk_cell (Kq.below_blk b2 HN.out (Kq.blk_lt HN.out)) 0
    have c1 : w2.cell? ⟨w.heap.size, 1, none⟩ = some (.int .i64 f) := Kq.blk_cell (Kq.below_blk b2 HN.out (Kq.blk_lt HN.out)) 1
    have HB := Lib.hid ((Kq.below_alloc w _).trans (b2.mono (Kq.below_alloc w _).size))
    clear b2
    go_wp2
    go_ret
    exact ⟨by rw [HY.out]; rfl, HB.out⟩
end
end Go.Proofs.Ytkdommljaciahaa
