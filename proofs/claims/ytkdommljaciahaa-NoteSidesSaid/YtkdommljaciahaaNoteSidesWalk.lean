/- carracklaw14.NoteSides walked. No condition. -/
import Derived.WalkSpells
import Derived.Test.YtkdommljaciahaaNoteAwake
import Derived.Test.YtkdommljaciahaaPkOpen
namespace Go.Proofs.Ytkdommljaciahaa.noteSides
open Go.RowKit
set_option linter.unusedVariables false
/-- the packet's box -/
structure PA (w : World) (H : Nat) (f q t : Int) (d : ByteArray) : Prop where
  blk : w.heap[H]? = some (.cells #[.int .i64 f, .int .u64 q, .int .u64 t, .string d] 28 (0, 0))
structure NA (w : World) (H : Nat) (k f q t : Int) (d : ByteArray) : Prop where
  blk : w.heap[H]? = some (.cells #[.int .i64 k, .int .i64 f, .int .u64 q, .int .u64 t, .string d] 30 (0, 0))
theorem PA.later {w w' : World} {H : Nat} {f q t : Int} {d : ByteArray} (h : PA w H f q t d) (hb : Below w.heap.size w w') : PA w' H f q t d := ⟨Kq.below_blk hb h.blk (Kq.blk_lt h.blk)⟩
theorem NA.later {w w' : World} {H : Nat} {k f q t : Int} {d : ByteArray} (h : NA w H k f q t d) (hb : Below w.heap.size w w') : NA w' H k f q t d := ⟨Kq.below_blk hb h.blk (Kq.blk_lt h.blk)⟩
set_option maxRecDepth 100000 in
set_option maxHeartbeats 1000000 in
theorem early (k f q t : Int) (d : ByteArray) (W : World) (h : 300 < d.size) :
    Calls Try.prog 5 #[.agg #[.int .i64 f, .int .u64 q, .int .u64 t, .string d], .int .i64 k] W fun x w' => x = .returned (.bool true) ∧ Below W.heap.size W w' := by
  have d1 : decide ((300 : Int) < (d.size : Int)) = true := decide_eq_true (by omega)
  go_enter Try.func5, Try.ntmps5
  go_wp2_with fail
  have H0 : Hid (PA (W.alloc (Obj.cells #[Value.int IntKind.i64 f, Value.int IntKind.u64 q, Value.int IntKind.u64 t, Value.string d] 28)) W.heap.size f q t d ∧ Below W.heap.size W (W.alloc (Obj.cells #[Value.int IntKind.i64 f, Value.int IntKind.u64 q, Value.int IntKind.u64 t, Value.string d] 28))) := Lib.hid ⟨⟨Kq.blk_new _ _ _ _⟩, Kq.below_alloc _ _⟩
  refine (awake _).mono ?_
  rintro x w1 ⟨rfl, b1⟩
  have H1 := Lib.hid (And.intro (H0.out.1.later b1) (H0.out.2.trans (b1.mono H0.out.2.size)))
  clear b1 H0
  have c0 : w1.cell? ⟨W.heap.size, 0, none⟩ = some (.int .i64 f) := Kq.blk_cell H1.out.1.blk 0
  have c1 : w1.cell? ⟨W.heap.size, 1, none⟩ = some (.int .u64 q) := Kq.blk_cell H1.out.1.blk 1
  have c2 : w1.cell? ⟨W.heap.size, 2, none⟩ = some (.int .u64 t) := Kq.blk_cell H1.out.1.blk 2
  have c3 : w1.cell? ⟨W.heap.size, 3, none⟩ = some (.string d) := Kq.blk_cell H1.out.1.blk 3
  go_wp2
  go_ret
  exact ⟨rfl, H1.out.2⟩
set_option maxRecDepth 100000 in
set_option maxHeartbeats 1000000 in
theorem bq (k f q t : Int) (d : ByteArray) (W : World) (h3 : ¬ 300 < d.size) (hq : ¬ 0 < q) (hq0 : 0 ≤ q) :
    Calls Try.prog 5 #[.agg #[.int .i64 f, .int .u64 q, .int .u64 t, .string d], .int .i64 k] W fun x w' => x = .returned (.bool true) ∧ Below W.heap.size W w' := by
  have HOK : Hid (¬ NtOk k f q t d) := Lib.hid (fun hx => by obtain ⟨x1, x2, x3, x4, x5, x6, x7⟩ := hx; simp only at x3 x4 x5 x6 x7; omega)
  have d300 : decide ((300 : Int) < (d.size : Int)) = false := decide_eq_false (by omega)
  have eq1 : decide (0 < q) = false := decide_eq_false hq
  clear hq hq0 h3
  go_enter Try.func5, Try.ntmps5
  go_wp2_with fail
  have H0 : Hid (PA (W.alloc (Obj.cells #[Value.int IntKind.i64 f, Value.int IntKind.u64 q, Value.int IntKind.u64 t, Value.string d] 28)) W.heap.size f q t d ∧ Below W.heap.size W (W.alloc (Obj.cells #[Value.int IntKind.i64 f, Value.int IntKind.u64 q, Value.int IntKind.u64 t, Value.string d] 28))) := Lib.hid ⟨⟨Kq.blk_new _ _ _ _⟩, Kq.below_alloc _ _⟩
  refine (awake _).mono ?_
  rintro x w1 ⟨rfl, b1⟩
  have H1 := Lib.hid (And.intro (H0.out.1.later b1) (H0.out.2.trans (b1.mono H0.out.2.size)))
  clear b1 H0
  have c0 : w1.cell? ⟨W.heap.size, 0, none⟩ = some (.int .i64 f) := Kq.blk_cell H1.out.1.blk 0
  have c1 : w1.cell? ⟨W.heap.size, 1, none⟩ = some (.int .u64 q) := Kq.blk_cell H1.out.1.blk 1
  have c2 : w1.cell? ⟨W.heap.size, 2, none⟩ = some (.int .u64 t) := Kq.blk_cell H1.out.1.blk 2
  have c3 : w1.cell? ⟨W.heap.size, 3, none⟩ = some (.string d) := Kq.blk_cell H1.out.1.blk 3
  have lt1 := Kq.blk_lt H1.out.1.blk
  have ne1 : ¬ W.heap.size = w1.heap.size := Nat.ne_of_lt lt1
  have ne2 : ¬ w1.heap.size = W.heap.size := fun h => ne1 h.symm
  go_wp2_with fail
  have H2 : Hid (PA (w1.alloc (Obj.cells #[Value.int IntKind.i64 k, Value.int IntKind.i64 f, Value.int IntKind.u64 q, Value.int IntKind.u64 t, Value.string d] 30)) W.heap.size f q t d ∧ NA (w1.alloc (Obj.cells #[Value.int IntKind.i64 k, Value.int IntKind.i64 f, Value.int IntKind.u64 q, Value.int IntKind.u64 t, Value.string d] 30)) w1.heap.size k f q t d ∧ Below W.heap.size W (w1.alloc (Obj.cells #[Value.int IntKind.i64 k, Value.int IntKind.i64 f, Value.int IntKind.u64 q, Value.int IntKind.u64 t, Value.string d] 30))) := Lib.hid ⟨H1.out.1.later (Kq.below_alloc w1 _), ⟨Kq.blk_new _ _ _ _⟩, H1.out.2.trans ((Kq.below_alloc w1 _).mono H1.out.2.size)⟩
  refine (nt_by_bad k f q t d _ HOK.out).mono ?_
  rintro x w2 ⟨rfl, b2⟩
  have H3 := Lib.hid (And.intro (H2.out.1.later b2) (And.intro (H2.out.2.1.later b2) (H2.out.2.2.trans (b2.mono H2.out.2.2.size))))
  clear b2 H2 H1 c0 c1 c2 c3 ne1 ne2 lt1
  generalize w1.heap.size = NB at *
  have c0 : w2.cell? ⟨W.heap.size, 0, none⟩ = some (.int .i64 f) := Kq.blk_cell H3.out.1.blk 0
  have c1 : w2.cell? ⟨W.heap.size, 1, none⟩ = some (.int .u64 q) := Kq.blk_cell H3.out.1.blk 1
  have c2 : w2.cell? ⟨W.heap.size, 2, none⟩ = some (.int .u64 t) := Kq.blk_cell H3.out.1.blk 2
  have c3 : w2.cell? ⟨W.heap.size, 3, none⟩ = some (.string d) := Kq.blk_cell H3.out.1.blk 3
  have n0 : w2.cell? ⟨NB, 0, none⟩ = some (.int .i64 k) := Kq.blk_cell H3.out.2.1.blk 0
  have n1 : w2.cell? ⟨NB, 1, none⟩ = some (.int .i64 f) := Kq.blk_cell H3.out.2.1.blk 1
  have n2 : w2.cell? ⟨NB, 2, none⟩ = some (.int .u64 q) := Kq.blk_cell H3.out.2.1.blk 2
  have n3 : w2.cell? ⟨NB, 3, none⟩ = some (.int .u64 t) := Kq.blk_cell H3.out.2.1.blk 3
  have n4 : w2.cell? ⟨NB, 4, none⟩ = some (.string d) := Kq.blk_cell H3.out.2.1.blk 4
  go_wp2_with fail
  refine (nt_check_bad k f q t d _ HOK.out).mono ?_
  rintro x w3 ⟨rfl, b3⟩
  have H4 := Lib.hid (And.intro (H3.out.1.later b3) (H3.out.2.2.trans (b3.mono H3.out.2.2.size)))
  clear b3 H3 c0 c1 c2 c3 n0 n1 n2 n3 n4
  have c0 : w3.cell? ⟨W.heap.size, 0, none⟩ = some (.int .i64 f) := Kq.blk_cell H4.out.1.blk 0
  go_wp2
  go_ret
  exact ⟨rfl, H4.out.2⟩
set_option maxRecDepth 100000 in
set_option maxHeartbeats 1000000 in
theorem bt (k f q t : Int) (d : ByteArray) (W : World) (h3 : ¬ 300 < d.size) (hq : 0 < q) (ht : ¬ 0 < t) (ht0 : 0 ≤ t) :
    Calls Try.prog 5 #[.agg #[.int .i64 f, .int .u64 q, .int .u64 t, .string d], .int .i64 k] W fun x w' => x = .returned (.bool true) ∧ Below W.heap.size W w' := by
  have HOK : Hid (¬ NtOk k f q t d) := Lib.hid (fun hx => by obtain ⟨x1, x2, x3, x4, x5, x6, x7⟩ := hx; simp only at x3 x4 x5 x6 x7; omega)
  have d300 : decide ((300 : Int) < (d.size : Int)) = false := decide_eq_false (by omega)
  have eq1 : decide (0 < q) = true := decide_eq_true hq
  have et1 : decide (0 < t) = false := decide_eq_false ht
  clear hq ht ht0 h3
  go_enter Try.func5, Try.ntmps5
  go_wp2_with fail
  have H0 : Hid (PA (W.alloc (Obj.cells #[Value.int IntKind.i64 f, Value.int IntKind.u64 q, Value.int IntKind.u64 t, Value.string d] 28)) W.heap.size f q t d ∧ Below W.heap.size W (W.alloc (Obj.cells #[Value.int IntKind.i64 f, Value.int IntKind.u64 q, Value.int IntKind.u64 t, Value.string d] 28))) := Lib.hid ⟨⟨Kq.blk_new _ _ _ _⟩, Kq.below_alloc _ _⟩
  refine (awake _).mono ?_
  rintro x w1 ⟨rfl, b1⟩
  have H1 := Lib.hid (And.intro (H0.out.1.later b1) (H0.out.2.trans (b1.mono H0.out.2.size)))
  clear b1 H0
  have c0 : w1.cell? ⟨W.heap.size, 0, none⟩ = some (.int .i64 f) := Kq.blk_cell H1.out.1.blk 0
  have c1 : w1.cell? ⟨W.heap.size, 1, none⟩ = some (.int .u64 q) := Kq.blk_cell H1.out.1.blk 1
  have c2 : w1.cell? ⟨W.heap.size, 2, none⟩ = some (.int .u64 t) := Kq.blk_cell H1.out.1.blk 2
  have c3 : w1.cell? ⟨W.heap.size, 3, none⟩ = some (.string d) := Kq.blk_cell H1.out.1.blk 3
  have lt1 := Kq.blk_lt H1.out.1.blk
  have ne1 : ¬ W.heap.size = w1.heap.size := Nat.ne_of_lt lt1
  have ne2 : ¬ w1.heap.size = W.heap.size := fun h => ne1 h.symm
  go_wp2_with fail
  have H2 : Hid (PA (w1.alloc (Obj.cells #[Value.int IntKind.i64 k, Value.int IntKind.i64 f, Value.int IntKind.u64 q, Value.int IntKind.u64 t, Value.string d] 30)) W.heap.size f q t d ∧ NA (w1.alloc (Obj.cells #[Value.int IntKind.i64 k, Value.int IntKind.i64 f, Value.int IntKind.u64 q, Value.int IntKind.u64 t, Value.string d] 30)) w1.heap.size k f q t d ∧ Below W.heap.size W (w1.alloc (Obj.cells #[Value.int IntKind.i64 k, Value.int IntKind.i64 f, Value.int IntKind.u64 q, Value.int IntKind.u64 t, Value.string d] 30))) := Lib.hid ⟨H1.out.1.later (Kq.below_alloc w1 _), ⟨Kq.blk_new _ _ _ _⟩, H1.out.2.trans ((Kq.below_alloc w1 _).mono H1.out.2.size)⟩
  refine (nt_by_bad k f q t d _ HOK.out).mono ?_
  rintro x w2 ⟨rfl, b2⟩
  have H3 := Lib.hid (And.intro (H2.out.1.later b2) (And.intro (H2.out.2.1.later b2) (H2.out.2.2.trans (b2.mono H2.out.2.2.size))))
  clear b2 H2 H1 c0 c1 c2 c3 ne1 ne2 lt1
  generalize w1.heap.size = NB at *
  have c0 : w2.cell? ⟨W.heap.size, 0, none⟩ = some (.int .i64 f) := Kq.blk_cell H3.out.1.blk 0
  have c1 : w2.cell? ⟨W.heap.size, 1, none⟩ = some (.int .u64 q) := Kq.blk_cell H3.out.1.blk 1
  have c2 : w2.cell? ⟨W.heap.size, 2, none⟩ = some (.int .u64 t) := Kq.blk_cell H3.out.1.blk 2
  have c3 : w2.cell? ⟨W.heap.size, 3, none⟩ = some (.string d) := Kq.blk_cell H3.out.1.blk 3
  have n0 : w2.cell? ⟨NB, 0, none⟩ = some (.int .i64 k) := Kq.blk_cell H3.out.2.1.blk 0
  have n1 : w2.cell? ⟨NB, 1, none⟩ = some (.int .i64 f) := Kq.blk_cell H3.out.2.1.blk 1
  have n2 : w2.cell? ⟨NB, 2, none⟩ = some (.int .u64 q) := Kq.blk_cell H3.out.2.1.blk 2
  have n3 : w2.cell? ⟨NB, 3, none⟩ = some (.int .u64 t) := Kq.blk_cell H3.out.2.1.blk 3
  have n4 : w2.cell? ⟨NB, 4, none⟩ = some (.string d) := Kq.blk_cell H3.out.2.1.blk 4
  go_wp2_with fail
  refine (nt_check_bad k f q t d _ HOK.out).mono ?_
  rintro x w3 ⟨rfl, b3⟩
  have H4 := Lib.hid (And.intro (H3.out.1.later b3) (H3.out.2.2.trans (b3.mono H3.out.2.2.size)))
  clear b3 H3 c0 c1 c2 c3 n0 n1 n2 n3 n4
  have c0 : w3.cell? ⟨W.heap.size, 0, none⟩ = some (.int .i64 f) := Kq.blk_cell H4.out.1.blk 0
  go_wp2
  go_ret
  exact ⟨rfl, H4.out.2⟩
set_option maxRecDepth 100000 in
set_option maxHeartbeats 1000000 in
theorem bd (k f q t : Int) (d : ByteArray) (W : World) (h3 : ¬ 300 < d.size) (hq : 0 < q) (ht : 0 < t) (hd : 64 < d.size) :
    Calls Try.prog 5 #[.agg #[.int .i64 f, .int .u64 q, .int .u64 t, .string d], .int .i64 k] W fun x w' => x = .returned (.bool true) ∧ Below W.heap.size W w' := by
  have HOK : Hid (¬ NtOk k f q t d) := Lib.hid (fun hx => by obtain ⟨x1, x2, x3, x4, x5, x6, x7⟩ := hx; simp only at x3 x4 x5 x6 x7; omega)
  have d300 : decide ((300 : Int) < (d.size : Int)) = false := decide_eq_false (by omega)
  have eq1 : decide (0 < q) = true := decide_eq_true hq
  have et1 : decide (0 < t) = true := decide_eq_true ht
  have ed1 : decide ((d.size : Int) ≤ 64) = false := decide_eq_false (by omega)
  clear hq ht hd h3
  go_enter Try.func5, Try.ntmps5
  go_wp2_with fail
  have H0 : Hid (PA (W.alloc (Obj.cells #[Value.int IntKind.i64 f, Value.int IntKind.u64 q, Value.int IntKind.u64 t, Value.string d] 28)) W.heap.size f q t d ∧ Below W.heap.size W (W.alloc (Obj.cells #[Value.int IntKind.i64 f, Value.int IntKind.u64 q, Value.int IntKind.u64 t, Value.string d] 28))) := Lib.hid ⟨⟨Kq.blk_new _ _ _ _⟩, Kq.below_alloc _ _⟩
  refine (awake _).mono ?_
  rintro x w1 ⟨rfl, b1⟩
  have H1 := Lib.hid (And.intro (H0.out.1.later b1) (H0.out.2.trans (b1.mono H0.out.2.size)))
  clear b1 H0
  have c0 : w1.cell? ⟨W.heap.size, 0, none⟩ = some (.int .i64 f) := Kq.blk_cell H1.out.1.blk 0
  have c1 : w1.cell? ⟨W.heap.size, 1, none⟩ = some (.int .u64 q) := Kq.blk_cell H1.out.1.blk 1
  have c2 : w1.cell? ⟨W.heap.size, 2, none⟩ = some (.int .u64 t) := Kq.blk_cell H1.out.1.blk 2
  have c3 : w1.cell? ⟨W.heap.size, 3, none⟩ = some (.string d) := Kq.blk_cell H1.out.1.blk 3
  have lt1 := Kq.blk_lt H1.out.1.blk
  have ne1 : ¬ W.heap.size = w1.heap.size := Nat.ne_of_lt lt1
  have ne2 : ¬ w1.heap.size = W.heap.size := fun h => ne1 h.symm
  go_wp2_with fail
  have H2 : Hid (PA (w1.alloc (Obj.cells #[Value.int IntKind.i64 k, Value.int IntKind.i64 f, Value.int IntKind.u64 q, Value.int IntKind.u64 t, Value.string d] 30)) W.heap.size f q t d ∧ NA (w1.alloc (Obj.cells #[Value.int IntKind.i64 k, Value.int IntKind.i64 f, Value.int IntKind.u64 q, Value.int IntKind.u64 t, Value.string d] 30)) w1.heap.size k f q t d ∧ Below W.heap.size W (w1.alloc (Obj.cells #[Value.int IntKind.i64 k, Value.int IntKind.i64 f, Value.int IntKind.u64 q, Value.int IntKind.u64 t, Value.string d] 30))) := Lib.hid ⟨H1.out.1.later (Kq.below_alloc w1 _), ⟨Kq.blk_new _ _ _ _⟩, H1.out.2.trans ((Kq.below_alloc w1 _).mono H1.out.2.size)⟩
  refine (nt_by_bad k f q t d _ HOK.out).mono ?_
  rintro x w2 ⟨rfl, b2⟩
  have H3 := Lib.hid (And.intro (H2.out.1.later b2) (And.intro (H2.out.2.1.later b2) (H2.out.2.2.trans (b2.mono H2.out.2.2.size))))
  clear b2 H2 H1 c0 c1 c2 c3 ne1 ne2 lt1
  generalize w1.heap.size = NB at *
  have c0 : w2.cell? ⟨W.heap.size, 0, none⟩ = some (.int .i64 f) := Kq.blk_cell H3.out.1.blk 0
  have c1 : w2.cell? ⟨W.heap.size, 1, none⟩ = some (.int .u64 q) := Kq.blk_cell H3.out.1.blk 1
  have c2 : w2.cell? ⟨W.heap.size, 2, none⟩ = some (.int .u64 t) := Kq.blk_cell H3.out.1.blk 2
  have c3 : w2.cell? ⟨W.heap.size, 3, none⟩ = some (.string d) := Kq.blk_cell H3.out.1.blk 3
  have n0 : w2.cell? ⟨NB, 0, none⟩ = some (.int .i64 k) := Kq.blk_cell H3.out.2.1.blk 0
  have n1 : w2.cell? ⟨NB, 1, none⟩ = some (.int .i64 f) := Kq.blk_cell H3.out.2.1.blk 1
  have n2 : w2.cell? ⟨NB, 2, none⟩ = some (.int .u64 q) := Kq.blk_cell H3.out.2.1.blk 2
  have n3 : w2.cell? ⟨NB, 3, none⟩ = some (.int .u64 t) := Kq.blk_cell H3.out.2.1.blk 3
  have n4 : w2.cell? ⟨NB, 4, none⟩ = some (.string d) := Kq.blk_cell H3.out.2.1.blk 4
  go_wp2_with fail
  refine (nt_check_bad k f q t d _ HOK.out).mono ?_
  rintro x w3 ⟨rfl, b3⟩
  have H4 := Lib.hid (And.intro (H3.out.1.later b3) (H3.out.2.2.trans (b3.mono H3.out.2.2.size)))
  clear b3 H3 c0 c1 c2 c3 n0 n1 n2 n3 n4
  have c0 : w3.cell? ⟨W.heap.size, 0, none⟩ = some (.int .i64 f) := Kq.blk_cell H4.out.1.blk 0
  go_wp2
  go_ret
  exact ⟨rfl, H4.out.2⟩
set_option maxRecDepth 100000 in
set_option maxHeartbeats 1000000 in
theorem bf (k f q t : Int) (d : ByteArray) (W : World) (h3 : ¬ 300 < d.size) (hq : 0 < q) (ht : 0 < t) (hd : ¬ 64 < d.size) (hf : f < 0 ∨ 1 < f) :
    Calls Try.prog 5 #[.agg #[.int .i64 f, .int .u64 q, .int .u64 t, .string d], .int .i64 k] W fun x w' => x = .returned (.bool true) ∧ Below W.heap.size W w' := by
  have HOK : Hid (¬ NtOk k f q t d) := Lib.hid (fun hx => by obtain ⟨x1, x2, x3, x4, x5, x6, x7⟩ := hx; simp only at x3 x4 x5 x6 x7; omega)
  have d300 : decide ((300 : Int) < (d.size : Int)) = false := decide_eq_false (by omega)
  have eq1 : decide (0 < q) = true := decide_eq_true hq
  have et1 : decide (0 < t) = true := decide_eq_true ht
  have ed1 : decide ((d.size : Int) ≤ 64) = true := decide_eq_true (by omega)
  have ef0 : (f == 0) = false := by simp; omega
  have ef1 : (f == 1) = false := by simp; omega
  clear hq ht hd h3 hf
  go_enter Try.func5, Try.ntmps5
  go_wp2_with fail
  have H0 : Hid (PA (W.alloc (Obj.cells #[Value.int IntKind.i64 f, Value.int IntKind.u64 q, Value.int IntKind.u64 t, Value.string d] 28)) W.heap.size f q t d ∧ Below W.heap.size W (W.alloc (Obj.cells #[Value.int IntKind.i64 f, Value.int IntKind.u64 q, Value.int IntKind.u64 t, Value.string d] 28))) := Lib.hid ⟨⟨Kq.blk_new _ _ _ _⟩, Kq.below_alloc _ _⟩
  refine (awake _).mono ?_
  rintro x w1 ⟨rfl, b1⟩
  have H1 := Lib.hid (And.intro (H0.out.1.later b1) (H0.out.2.trans (b1.mono H0.out.2.size)))
  clear b1 H0
  have c0 : w1.cell? ⟨W.heap.size, 0, none⟩ = some (.int .i64 f) := Kq.blk_cell H1.out.1.blk 0
  have c1 : w1.cell? ⟨W.heap.size, 1, none⟩ = some (.int .u64 q) := Kq.blk_cell H1.out.1.blk 1
  have c2 : w1.cell? ⟨W.heap.size, 2, none⟩ = some (.int .u64 t) := Kq.blk_cell H1.out.1.blk 2
  have c3 : w1.cell? ⟨W.heap.size, 3, none⟩ = some (.string d) := Kq.blk_cell H1.out.1.blk 3
  have lt1 := Kq.blk_lt H1.out.1.blk
  have ne1 : ¬ W.heap.size = w1.heap.size := Nat.ne_of_lt lt1
  have ne2 : ¬ w1.heap.size = W.heap.size := fun h => ne1 h.symm
  go_wp2_with fail
  have H2 : Hid (PA (w1.alloc (Obj.cells #[Value.int IntKind.i64 k, Value.int IntKind.i64 f, Value.int IntKind.u64 q, Value.int IntKind.u64 t, Value.string d] 30)) W.heap.size f q t d ∧ NA (w1.alloc (Obj.cells #[Value.int IntKind.i64 k, Value.int IntKind.i64 f, Value.int IntKind.u64 q, Value.int IntKind.u64 t, Value.string d] 30)) w1.heap.size k f q t d ∧ Below W.heap.size W (w1.alloc (Obj.cells #[Value.int IntKind.i64 k, Value.int IntKind.i64 f, Value.int IntKind.u64 q, Value.int IntKind.u64 t, Value.string d] 30))) := Lib.hid ⟨H1.out.1.later (Kq.below_alloc w1 _), ⟨Kq.blk_new _ _ _ _⟩, H1.out.2.trans ((Kq.below_alloc w1 _).mono H1.out.2.size)⟩
  refine (nt_by_bad k f q t d _ HOK.out).mono ?_
  rintro x w2 ⟨rfl, b2⟩
  have H3 := Lib.hid (And.intro (H2.out.1.later b2) (And.intro (H2.out.2.1.later b2) (H2.out.2.2.trans (b2.mono H2.out.2.2.size))))
  clear b2 H2 H1 c0 c1 c2 c3 ne1 ne2 lt1
  generalize w1.heap.size = NB at *
  have c0 : w2.cell? ⟨W.heap.size, 0, none⟩ = some (.int .i64 f) := Kq.blk_cell H3.out.1.blk 0
  have c1 : w2.cell? ⟨W.heap.size, 1, none⟩ = some (.int .u64 q) := Kq.blk_cell H3.out.1.blk 1
  have c2 : w2.cell? ⟨W.heap.size, 2, none⟩ = some (.int .u64 t) := Kq.blk_cell H3.out.1.blk 2
  have c3 : w2.cell? ⟨W.heap.size, 3, none⟩ = some (.string d) := Kq.blk_cell H3.out.1.blk 3
  have n0 : w2.cell? ⟨NB, 0, none⟩ = some (.int .i64 k) := Kq.blk_cell H3.out.2.1.blk 0
  have n1 : w2.cell? ⟨NB, 1, none⟩ = some (.int .i64 f) := Kq.blk_cell H3.out.2.1.blk 1
  have n2 : w2.cell? ⟨NB, 2, none⟩ = some (.int .u64 q) := Kq.blk_cell H3.out.2.1.blk 2
  have n3 : w2.cell? ⟨NB, 3, none⟩ = some (.int .u64 t) := Kq.blk_cell H3.out.2.1.blk 3
  have n4 : w2.cell? ⟨NB, 4, none⟩ = some (.string d) := Kq.blk_cell H3.out.2.1.blk 4
  go_wp2_with fail
  refine (nt_check_bad k f q t d _ HOK.out).mono ?_
  rintro x w3 ⟨rfl, b3⟩
  have H4 := Lib.hid (And.intro (H3.out.1.later b3) (H3.out.2.2.trans (b3.mono H3.out.2.2.size)))
  clear b3 H3 c0 c1 c2 c3 n0 n1 n2 n3 n4
  have c0 : w3.cell? ⟨W.heap.size, 0, none⟩ = some (.int .i64 f) := Kq.blk_cell H4.out.1.blk 0
  go_wp2
  go_ret
  exact ⟨rfl, H4.out.2⟩
set_option maxRecDepth 100000 in
set_option maxHeartbeats 1000000 in
theorem bka (k f q t : Int) (d : ByteArray) (W : World) (h3 : ¬ 300 < d.size) (hq : 0 < q) (ht : 0 < t) (hd : ¬ 64 < d.size) (hf : f = 0) (hk1 : ¬ 1 ≤ k) :
    Calls Try.prog 5 #[.agg #[.int .i64 f, .int .u64 q, .int .u64 t, .string d], .int .i64 k] W fun x w' => x = .returned (.bool true) ∧ Below W.heap.size W w' := by
  have HOK : Hid (¬ NtOk k f q t d) := Lib.hid (fun hx => by obtain ⟨x1, x2, x3, x4, x5, x6, x7⟩ := hx; simp only at x3 x4 x5 x6 x7; omega)
  have d300 : decide ((300 : Int) < (d.size : Int)) = false := decide_eq_false (by omega)
  have eq1 : decide (0 < q) = true := decide_eq_true hq
  have et1 : decide (0 < t) = true := decide_eq_true ht
  have ed1 : decide ((d.size : Int) ≤ 64) = true := decide_eq_true (by omega)
  have ef0 : (f == 0) = true := by simp [hf]
  have ek1 : decide (1 ≤ k) = false := decide_eq_false hk1
  have HF := Lib.hid hf
  clear hf hk1 hq ht hd h3
  go_enter Try.func5, Try.ntmps5
  go_wp2_with fail
  have H0 : Hid (PA (W.alloc (Obj.cells #[Value.int IntKind.i64 f, Value.int IntKind.u64 q, Value.int IntKind.u64 t, Value.string d] 28)) W.heap.size f q t d ∧ Below W.heap.size W (W.alloc (Obj.cells #[Value.int IntKind.i64 f, Value.int IntKind.u64 q, Value.int IntKind.u64 t, Value.string d] 28))) := Lib.hid ⟨⟨Kq.blk_new _ _ _ _⟩, Kq.below_alloc _ _⟩
  refine (awake _).mono ?_
  rintro x w1 ⟨rfl, b1⟩
  have H1 := Lib.hid (And.intro (H0.out.1.later b1) (H0.out.2.trans (b1.mono H0.out.2.size)))
  clear b1 H0
  have c0 : w1.cell? ⟨W.heap.size, 0, none⟩ = some (.int .i64 f) := Kq.blk_cell H1.out.1.blk 0
  have c1 : w1.cell? ⟨W.heap.size, 1, none⟩ = some (.int .u64 q) := Kq.blk_cell H1.out.1.blk 1
  have c2 : w1.cell? ⟨W.heap.size, 2, none⟩ = some (.int .u64 t) := Kq.blk_cell H1.out.1.blk 2
  have c3 : w1.cell? ⟨W.heap.size, 3, none⟩ = some (.string d) := Kq.blk_cell H1.out.1.blk 3
  have lt1 := Kq.blk_lt H1.out.1.blk
  have ne1 : ¬ W.heap.size = w1.heap.size := Nat.ne_of_lt lt1
  have ne2 : ¬ w1.heap.size = W.heap.size := fun h => ne1 h.symm
  go_wp2_with fail
  have H2 : Hid (PA (w1.alloc (Obj.cells #[Value.int IntKind.i64 k, Value.int IntKind.i64 f, Value.int IntKind.u64 q, Value.int IntKind.u64 t, Value.string d] 30)) W.heap.size f q t d ∧ NA (w1.alloc (Obj.cells #[Value.int IntKind.i64 k, Value.int IntKind.i64 f, Value.int IntKind.u64 q, Value.int IntKind.u64 t, Value.string d] 30)) w1.heap.size k f q t d ∧ Below W.heap.size W (w1.alloc (Obj.cells #[Value.int IntKind.i64 k, Value.int IntKind.i64 f, Value.int IntKind.u64 q, Value.int IntKind.u64 t, Value.string d] 30))) := Lib.hid ⟨H1.out.1.later (Kq.below_alloc w1 _), ⟨Kq.blk_new _ _ _ _⟩, H1.out.2.trans ((Kq.below_alloc w1 _).mono H1.out.2.size)⟩
  refine (nt_by_bad k f q t d _ HOK.out).mono ?_
  rintro x w2 ⟨rfl, b2⟩
  have H3 := Lib.hid (And.intro (H2.out.1.later b2) (And.intro (H2.out.2.1.later b2) (H2.out.2.2.trans (b2.mono H2.out.2.2.size))))
  clear b2 H2 H1 c0 c1 c2 c3 ne1 ne2 lt1
  generalize w1.heap.size = NB at *
  have c0 : w2.cell? ⟨W.heap.size, 0, none⟩ = some (.int .i64 f) := Kq.blk_cell H3.out.1.blk 0
  have c1 : w2.cell? ⟨W.heap.size, 1, none⟩ = some (.int .u64 q) := Kq.blk_cell H3.out.1.blk 1
  have c2 : w2.cell? ⟨W.heap.size, 2, none⟩ = some (.int .u64 t) := Kq.blk_cell H3.out.1.blk 2
  have c3 : w2.cell? ⟨W.heap.size, 3, none⟩ = some (.string d) := Kq.blk_cell H3.out.1.blk 3
  have n0 : w2.cell? ⟨NB, 0, none⟩ = some (.int .i64 k) := Kq.blk_cell H3.out.2.1.blk 0
  have n1 : w2.cell? ⟨NB, 1, none⟩ = some (.int .i64 f) := Kq.blk_cell H3.out.2.1.blk 1
  have n2 : w2.cell? ⟨NB, 2, none⟩ = some (.int .u64 q) := Kq.blk_cell H3.out.2.1.blk 2
  have n3 : w2.cell? ⟨NB, 3, none⟩ = some (.int .u64 t) := Kq.blk_cell H3.out.2.1.blk 3
  have n4 : w2.cell? ⟨NB, 4, none⟩ = some (.string d) := Kq.blk_cell H3.out.2.1.blk 4
  go_wp2_with fail
  refine (nt_check_bad k f q t d _ HOK.out).mono ?_
  rintro x w3 ⟨rfl, b3⟩
  have H4 := Lib.hid (And.intro (H3.out.1.later b3) (H3.out.2.2.trans (b3.mono H3.out.2.2.size)))
  clear b3 H3 c0 c1 c2 c3 n0 n1 n2 n3 n4
  have c0 : w3.cell? ⟨W.heap.size, 0, none⟩ = some (.int .i64 f) := Kq.blk_cell H4.out.1.blk 0
  go_wp2
  go_ret
  exact ⟨rfl, H4.out.2⟩
set_option maxRecDepth 100000 in
set_option maxHeartbeats 1000000 in
theorem bla (k f q t : Int) (d : ByteArray) (W : World) (h3 : ¬ 300 < d.size) (hq : 0 < q) (ht : 0 < t) (hd : ¬ 64 < d.size) (hf : f = 0) (hk1 : 1 ≤ k) (hk4 : ¬ k ≤ 4) :
    Calls Try.prog 5 #[.agg #[.int .i64 f, .int .u64 q, .int .u64 t, .string d], .int .i64 k] W fun x w' => x = .returned (.bool true) ∧ Below W.heap.size W w' := by
  have HOK : Hid (¬ NtOk k f q t d) := Lib.hid (fun hx => by obtain ⟨x1, x2, x3, x4, x5, x6, x7⟩ := hx; simp only at x3 x4 x5 x6 x7; omega)
  have d300 : decide ((300 : Int) < (d.size : Int)) = false := decide_eq_false (by omega)
  have eq1 : decide (0 < q) = true := decide_eq_true hq
  have et1 : decide (0 < t) = true := decide_eq_true ht
  have ed1 : decide ((d.size : Int) ≤ 64) = true := decide_eq_true (by omega)
  have ef0 : (f == 0) = true := by simp [hf]
  have ek1 : decide (1 ≤ k) = true := decide_eq_true hk1
  have el1 : decide (k ≤ 4) = false := decide_eq_false hk4
  have HF := Lib.hid hf
  clear hf hk1 hk4 hq ht hd h3
  go_enter Try.func5, Try.ntmps5
  go_wp2_with fail
  have H0 : Hid (PA (W.alloc (Obj.cells #[Value.int IntKind.i64 f, Value.int IntKind.u64 q, Value.int IntKind.u64 t, Value.string d] 28)) W.heap.size f q t d ∧ Below W.heap.size W (W.alloc (Obj.cells #[Value.int IntKind.i64 f, Value.int IntKind.u64 q, Value.int IntKind.u64 t, Value.string d] 28))) := Lib.hid ⟨⟨Kq.blk_new _ _ _ _⟩, Kq.below_alloc _ _⟩
  refine (awake _).mono ?_
  rintro x w1 ⟨rfl, b1⟩
  have H1 := Lib.hid (And.intro (H0.out.1.later b1) (H0.out.2.trans (b1.mono H0.out.2.size)))
  clear b1 H0
  have c0 : w1.cell? ⟨W.heap.size, 0, none⟩ = some (.int .i64 f) := Kq.blk_cell H1.out.1.blk 0
  have c1 : w1.cell? ⟨W.heap.size, 1, none⟩ = some (.int .u64 q) := Kq.blk_cell H1.out.1.blk 1
  have c2 : w1.cell? ⟨W.heap.size, 2, none⟩ = some (.int .u64 t) := Kq.blk_cell H1.out.1.blk 2
  have c3 : w1.cell? ⟨W.heap.size, 3, none⟩ = some (.string d) := Kq.blk_cell H1.out.1.blk 3
  have lt1 := Kq.blk_lt H1.out.1.blk
  have ne1 : ¬ W.heap.size = w1.heap.size := Nat.ne_of_lt lt1
  have ne2 : ¬ w1.heap.size = W.heap.size := fun h => ne1 h.symm
  go_wp2_with fail
  have H2 : Hid (PA (w1.alloc (Obj.cells #[Value.int IntKind.i64 k, Value.int IntKind.i64 f, Value.int IntKind.u64 q, Value.int IntKind.u64 t, Value.string d] 30)) W.heap.size f q t d ∧ NA (w1.alloc (Obj.cells #[Value.int IntKind.i64 k, Value.int IntKind.i64 f, Value.int IntKind.u64 q, Value.int IntKind.u64 t, Value.string d] 30)) w1.heap.size k f q t d ∧ Below W.heap.size W (w1.alloc (Obj.cells #[Value.int IntKind.i64 k, Value.int IntKind.i64 f, Value.int IntKind.u64 q, Value.int IntKind.u64 t, Value.string d] 30))) := Lib.hid ⟨H1.out.1.later (Kq.below_alloc w1 _), ⟨Kq.blk_new _ _ _ _⟩, H1.out.2.trans ((Kq.below_alloc w1 _).mono H1.out.2.size)⟩
  refine (nt_by_bad k f q t d _ HOK.out).mono ?_
  rintro x w2 ⟨rfl, b2⟩
  have H3 := Lib.hid (And.intro (H2.out.1.later b2) (And.intro (H2.out.2.1.later b2) (H2.out.2.2.trans (b2.mono H2.out.2.2.size))))
  clear b2 H2 H1 c0 c1 c2 c3 ne1 ne2 lt1
  generalize w1.heap.size = NB at *
  have c0 : w2.cell? ⟨W.heap.size, 0, none⟩ = some (.int .i64 f) := Kq.blk_cell H3.out.1.blk 0
  have c1 : w2.cell? ⟨W.heap.size, 1, none⟩ = some (.int .u64 q) := Kq.blk_cell H3.out.1.blk 1
  have c2 : w2.cell? ⟨W.heap.size, 2, none⟩ = some (.int .u64 t) := Kq.blk_cell H3.out.1.blk 2
  have c3 : w2.cell? ⟨W.heap.size, 3, none⟩ = some (.string d) := Kq.blk_cell H3.out.1.blk 3
  have n0 : w2.cell? ⟨NB, 0, none⟩ = some (.int .i64 k) := Kq.blk_cell H3.out.2.1.blk 0
  have n1 : w2.cell? ⟨NB, 1, none⟩ = some (.int .i64 f) := Kq.blk_cell H3.out.2.1.blk 1
  have n2 : w2.cell? ⟨NB, 2, none⟩ = some (.int .u64 q) := Kq.blk_cell H3.out.2.1.blk 2
  have n3 : w2.cell? ⟨NB, 3, none⟩ = some (.int .u64 t) := Kq.blk_cell H3.out.2.1.blk 3
  have n4 : w2.cell? ⟨NB, 4, none⟩ = some (.string d) := Kq.blk_cell H3.out.2.1.blk 4
  go_wp2_with fail
  refine (nt_check_bad k f q t d _ HOK.out).mono ?_
  rintro x w3 ⟨rfl, b3⟩
  have H4 := Lib.hid (And.intro (H3.out.1.later b3) (H3.out.2.2.trans (b3.mono H3.out.2.2.size)))
  clear b3 H3 c0 c1 c2 c3 n0 n1 n2 n3 n4
  have c0 : w3.cell? ⟨W.heap.size, 0, none⟩ = some (.int .i64 f) := Kq.blk_cell H4.out.1.blk 0
  go_wp2
  go_ret
  exact ⟨rfl, H4.out.2⟩
set_option maxRecDepth 100000 in
set_option maxHeartbeats 1000000 in
theorem gar (k f q t : Int) (d : ByteArray) (W : World) (h3 : ¬ 300 < d.size) (hq : 0 < q) (ht : 0 < t) (hd : ¬ 64 < d.size) (hf : f = 0) (hk1 : 1 ≤ k) (hk4 : k ≤ 4) (hr : k = 2) :
    Calls Try.prog 5 #[.agg #[.int .i64 f, .int .u64 q, .int .u64 t, .string d], .int .i64 k] W fun x w' => x = .returned (.bool true) ∧ Below W.heap.size W w' := by
  have HOK : Hid (NtOk k f q t d) := Lib.hid ⟨hk1, hk4, by show 0 ≤ f; omega, by show f ≤ 1; omega, by show q ≠ 0; omega, by show t ≠ 0; omega, by show d.size ≤ 64; omega⟩
  have d300 : decide ((300 : Int) < (d.size : Int)) = false := decide_eq_false (by omega)
  have eq1 : decide (0 < q) = true := decide_eq_true hq
  have et1 : decide (0 < t) = true := decide_eq_true ht
  have ed1 : decide ((d.size : Int) ≤ 64) = true := decide_eq_true (by omega)
  have ef0 : (f == 0) = true := by simp [hf]
  have ek1 : decide (1 ≤ k) = true := decide_eq_true hk1
  have el1 : decide (k ≤ 4) = true := decide_eq_true hk4
  have HBY : Hid (byOf k f = 1) := Lib.hid (by unfold byOf; rw [if_pos hr, hf]; rfl)
  have ek2 : (k != 2) = false := by simp [hr]
  have ek3 : (k == 2) = true := by simp [hr]
  have HYB : Hid (∀ w : World, Calls Try.prog 20 #[.agg #[.int .i64 k, .int .i64 f, .int .u64 q, .int .u64 t, .string d]] w fun x w' => x = .returned (.int .i64 1) ∧ Below w.heap.size w w') := Lib.hid (fun w => by have := nt_by_ok k f q t d w HOK.out; rw [HBY.out] at this; exact this)
  have eby : (((1 : Int)) == f) = false := by simp [hf]
  have HF := Lib.hid hf
  clear hf hk1 hk4 hq ht hd h3 hr
  go_enter Try.func5, Try.ntmps5
  go_wp2_with fail
  have H0 : Hid (PA (W.alloc (Obj.cells #[Value.int IntKind.i64 f, Value.int IntKind.u64 q, Value.int IntKind.u64 t, Value.string d] 28)) W.heap.size f q t d ∧ Below W.heap.size W (W.alloc (Obj.cells #[Value.int IntKind.i64 f, Value.int IntKind.u64 q, Value.int IntKind.u64 t, Value.string d] 28))) := Lib.hid ⟨⟨Kq.blk_new _ _ _ _⟩, Kq.below_alloc _ _⟩
  refine (awake _).mono ?_
  rintro x w1 ⟨rfl, b1⟩
  have H1 := Lib.hid (And.intro (H0.out.1.later b1) (H0.out.2.trans (b1.mono H0.out.2.size)))
  clear b1 H0
  have c0 : w1.cell? ⟨W.heap.size, 0, none⟩ = some (.int .i64 f) := Kq.blk_cell H1.out.1.blk 0
  have c1 : w1.cell? ⟨W.heap.size, 1, none⟩ = some (.int .u64 q) := Kq.blk_cell H1.out.1.blk 1
  have c2 : w1.cell? ⟨W.heap.size, 2, none⟩ = some (.int .u64 t) := Kq.blk_cell H1.out.1.blk 2
  have c3 : w1.cell? ⟨W.heap.size, 3, none⟩ = some (.string d) := Kq.blk_cell H1.out.1.blk 3
  have lt1 := Kq.blk_lt H1.out.1.blk
  have ne1 : ¬ W.heap.size = w1.heap.size := Nat.ne_of_lt lt1
  have ne2 : ¬ w1.heap.size = W.heap.size := fun h => ne1 h.symm
  go_wp2_with fail
  have H2 : Hid (PA (w1.alloc (Obj.cells #[Value.int IntKind.i64 k, Value.int IntKind.i64 f, Value.int IntKind.u64 q, Value.int IntKind.u64 t, Value.string d] 30)) W.heap.size f q t d ∧ NA (w1.alloc (Obj.cells #[Value.int IntKind.i64 k, Value.int IntKind.i64 f, Value.int IntKind.u64 q, Value.int IntKind.u64 t, Value.string d] 30)) w1.heap.size k f q t d ∧ Below W.heap.size W (w1.alloc (Obj.cells #[Value.int IntKind.i64 k, Value.int IntKind.i64 f, Value.int IntKind.u64 q, Value.int IntKind.u64 t, Value.string d] 30))) := Lib.hid ⟨H1.out.1.later (Kq.below_alloc w1 _), ⟨Kq.blk_new _ _ _ _⟩, H1.out.2.trans ((Kq.below_alloc w1 _).mono H1.out.2.size)⟩
  refine (HYB.out _).mono ?_
  rintro x w2 ⟨rfl, b2⟩
  have H3 := Lib.hid (And.intro (H2.out.1.later b2) (And.intro (H2.out.2.1.later b2) (H2.out.2.2.trans (b2.mono H2.out.2.2.size))))
  clear b2 H2 H1 c0 c1 c2 c3 ne1 ne2 lt1
  generalize w1.heap.size = NB at *
  have c0 : w2.cell? ⟨W.heap.size, 0, none⟩ = some (.int .i64 f) := Kq.blk_cell H3.out.1.blk 0
  have c1 : w2.cell? ⟨W.heap.size, 1, none⟩ = some (.int .u64 q) := Kq.blk_cell H3.out.1.blk 1
  have c2 : w2.cell? ⟨W.heap.size, 2, none⟩ = some (.int .u64 t) := Kq.blk_cell H3.out.1.blk 2
  have c3 : w2.cell? ⟨W.heap.size, 3, none⟩ = some (.string d) := Kq.blk_cell H3.out.1.blk 3
  have n0 : w2.cell? ⟨NB, 0, none⟩ = some (.int .i64 k) := Kq.blk_cell H3.out.2.1.blk 0
  have n1 : w2.cell? ⟨NB, 1, none⟩ = some (.int .i64 f) := Kq.blk_cell H3.out.2.1.blk 1
  have n2 : w2.cell? ⟨NB, 2, none⟩ = some (.int .u64 q) := Kq.blk_cell H3.out.2.1.blk 2
  have n3 : w2.cell? ⟨NB, 3, none⟩ = some (.int .u64 t) := Kq.blk_cell H3.out.2.1.blk 3
  have n4 : w2.cell? ⟨NB, 4, none⟩ = some (.string d) := Kq.blk_cell H3.out.2.1.blk 4
  go_wp2_with fail
  refine (nt_check_ok k f q t d _ HOK.out).mono ?_
  rintro x w3 ⟨rfl, b3⟩
  have H4 := Lib.hid (And.intro (H3.out.1.later b3) (H3.out.2.2.trans (b3.mono H3.out.2.2.size)))
  clear b3 H3 c0 c1 c2 c3 n0 n1 n2 n3 n4
  have c0 : w3.cell? ⟨W.heap.size, 0, none⟩ = some (.int .i64 f) := Kq.blk_cell H4.out.1.blk 0
  go_wp2
  go_ret
  exact ⟨rfl, H4.out.2⟩
set_option maxRecDepth 100000 in
set_option maxHeartbeats 1000000 in
theorem gas (k f q t : Int) (d : ByteArray) (W : World) (h3 : ¬ 300 < d.size) (hq : 0 < q) (ht : 0 < t) (hd : ¬ 64 < d.size) (hf : f = 0) (hk1 : 1 ≤ k) (hk4 : k ≤ 4) (hr : k ≠ 2) :
    Calls Try.prog 5 #[.agg #[.int .i64 f, .int .u64 q, .int .u64 t, .string d], .int .i64 k] W fun x w' => x = .returned (.bool true) ∧ Below W.heap.size W w' := by
  have HOK : Hid (NtOk k f q t d) := Lib.hid ⟨hk1, hk4, by show 0 ≤ f; omega, by show f ≤ 1; omega, by show q ≠ 0; omega, by show t ≠ 0; omega, by show d.size ≤ 64; omega⟩
  have d300 : decide ((300 : Int) < (d.size : Int)) = false := decide_eq_false (by omega)
  have eq1 : decide (0 < q) = true := decide_eq_true hq
  have et1 : decide (0 < t) = true := decide_eq_true ht
  have ed1 : decide ((d.size : Int) ≤ 64) = true := decide_eq_true (by omega)
  have ef0 : (f == 0) = true := by simp [hf]
  have ek1 : decide (1 ≤ k) = true := decide_eq_true hk1
  have el1 : decide (k ≤ 4) = true := decide_eq_true hk4
  have HBY : Hid (byOf k f = 0) := Lib.hid (by unfold byOf; rw [if_neg hr, hf])
  have ek2 : (k != 2) = true := by simp [hr]
  have ek3 : (k == 2) = false := by simp [hr]
  have HYB : Hid (∀ w : World, Calls Try.prog 20 #[.agg #[.int .i64 k, .int .i64 f, .int .u64 q, .int .u64 t, .string d]] w fun x w' => x = .returned (.int .i64 0) ∧ Below w.heap.size w w') := Lib.hid (fun w => by have := nt_by_ok k f q t d w HOK.out; rw [HBY.out] at this; exact this)
  have eby : (((0 : Int)) == f) = true := by simp [hf]
  have HF := Lib.hid hf
  clear hf hk1 hk4 hq ht hd h3 hr
  go_enter Try.func5, Try.ntmps5
  go_wp2_with fail
  have H0 : Hid (PA (W.alloc (Obj.cells #[Value.int IntKind.i64 f, Value.int IntKind.u64 q, Value.int IntKind.u64 t, Value.string d] 28)) W.heap.size f q t d ∧ Below W.heap.size W (W.alloc (Obj.cells #[Value.int IntKind.i64 f, Value.int IntKind.u64 q, Value.int IntKind.u64 t, Value.string d] 28))) := Lib.hid ⟨⟨Kq.blk_new _ _ _ _⟩, Kq.below_alloc _ _⟩
  refine (awake _).mono ?_
  rintro x w1 ⟨rfl, b1⟩
  have H1 := Lib.hid (And.intro (H0.out.1.later b1) (H0.out.2.trans (b1.mono H0.out.2.size)))
  clear b1 H0
  have c0 : w1.cell? ⟨W.heap.size, 0, none⟩ = some (.int .i64 f) := Kq.blk_cell H1.out.1.blk 0
  have c1 : w1.cell? ⟨W.heap.size, 1, none⟩ = some (.int .u64 q) := Kq.blk_cell H1.out.1.blk 1
  have c2 : w1.cell? ⟨W.heap.size, 2, none⟩ = some (.int .u64 t) := Kq.blk_cell H1.out.1.blk 2
  have c3 : w1.cell? ⟨W.heap.size, 3, none⟩ = some (.string d) := Kq.blk_cell H1.out.1.blk 3
  have lt1 := Kq.blk_lt H1.out.1.blk
  have ne1 : ¬ W.heap.size = w1.heap.size := Nat.ne_of_lt lt1
  have ne2 : ¬ w1.heap.size = W.heap.size := fun h => ne1 h.symm
  go_wp2_with fail
  have H2 : Hid (PA (w1.alloc (Obj.cells #[Value.int IntKind.i64 k, Value.int IntKind.i64 f, Value.int IntKind.u64 q, Value.int IntKind.u64 t, Value.string d] 30)) W.heap.size f q t d ∧ NA (w1.alloc (Obj.cells #[Value.int IntKind.i64 k, Value.int IntKind.i64 f, Value.int IntKind.u64 q, Value.int IntKind.u64 t, Value.string d] 30)) w1.heap.size k f q t d ∧ Below W.heap.size W (w1.alloc (Obj.cells #[Value.int IntKind.i64 k, Value.int IntKind.i64 f, Value.int IntKind.u64 q, Value.int IntKind.u64 t, Value.string d] 30))) := Lib.hid ⟨H1.out.1.later (Kq.below_alloc w1 _), ⟨Kq.blk_new _ _ _ _⟩, H1.out.2.trans ((Kq.below_alloc w1 _).mono H1.out.2.size)⟩
  refine (HYB.out _).mono ?_
  rintro x w2 ⟨rfl, b2⟩
  have H3 := Lib.hid (And.intro (H2.out.1.later b2) (And.intro (H2.out.2.1.later b2) (H2.out.2.2.trans (b2.mono H2.out.2.2.size))))
  clear b2 H2 H1 c0 c1 c2 c3 ne1 ne2 lt1
  generalize w1.heap.size = NB at *
  have c0 : w2.cell? ⟨W.heap.size, 0, none⟩ = some (.int .i64 f) := Kq.blk_cell H3.out.1.blk 0
  have c1 : w2.cell? ⟨W.heap.size, 1, none⟩ = some (.int .u64 q) := Kq.blk_cell H3.out.1.blk 1
  have c2 : w2.cell? ⟨W.heap.size, 2, none⟩ = some (.int .u64 t) := Kq.blk_cell H3.out.1.blk 2
  have c3 : w2.cell? ⟨W.heap.size, 3, none⟩ = some (.string d) := Kq.blk_cell H3.out.1.blk 3
  have n0 : w2.cell? ⟨NB, 0, none⟩ = some (.int .i64 k) := Kq.blk_cell H3.out.2.1.blk 0
  have n1 : w2.cell? ⟨NB, 1, none⟩ = some (.int .i64 f) := Kq.blk_cell H3.out.2.1.blk 1
  have n2 : w2.cell? ⟨NB, 2, none⟩ = some (.int .u64 q) := Kq.blk_cell H3.out.2.1.blk 2
  have n3 : w2.cell? ⟨NB, 3, none⟩ = some (.int .u64 t) := Kq.blk_cell H3.out.2.1.blk 3
  have n4 : w2.cell? ⟨NB, 4, none⟩ = some (.string d) := Kq.blk_cell H3.out.2.1.blk 4
  go_wp2_with fail
  refine (nt_check_ok k f q t d _ HOK.out).mono ?_
  rintro x w3 ⟨rfl, b3⟩
  have H4 := Lib.hid (And.intro (H3.out.1.later b3) (H3.out.2.2.trans (b3.mono H3.out.2.2.size)))
  clear b3 H3 c0 c1 c2 c3 n0 n1 n2 n3 n4
  have c0 : w3.cell? ⟨W.heap.size, 0, none⟩ = some (.int .i64 f) := Kq.blk_cell H4.out.1.blk 0
  go_wp2
  go_ret
  exact ⟨rfl, H4.out.2⟩
set_option maxRecDepth 100000 in
set_option maxHeartbeats 1000000 in
theorem bkb (k f q t : Int) (d : ByteArray) (W : World) (h3 : ¬ 300 < d.size) (hq : 0 < q) (ht : 0 < t) (hd : ¬ 64 < d.size) (hf : f = 1) (hk1 : ¬ 1 ≤ k) :
    Calls Try.prog 5 #[.agg #[.int .i64 f, .int .u64 q, .int .u64 t, .string d], .int .i64 k] W fun x w' => x = .returned (.bool true) ∧ Below W.heap.size W w' := by
  have HOK : Hid (¬ NtOk k f q t d) := Lib.hid (fun hx => by obtain ⟨x1, x2, x3, x4, x5, x6, x7⟩ := hx; simp only at x3 x4 x5 x6 x7; omega)
  have d300 : decide ((300 : Int) < (d.size : Int)) = false := decide_eq_false (by omega)
  have eq1 : decide (0 < q) = true := decide_eq_true hq
  have et1 : decide (0 < t) = true := decide_eq_true ht
  have ed1 : decide ((d.size : Int) ≤ 64) = true := decide_eq_true (by omega)
  have ef0 : (f == 0) = false := by simp [hf]
  have ef1 : (f == 1) = true := by simp [hf]
  have ek1 : decide (1 ≤ k) = false := decide_eq_false hk1
  have HF := Lib.hid hf
  clear hf hk1 hq ht hd h3
  go_enter Try.func5, Try.ntmps5
  go_wp2_with fail
  have H0 : Hid (PA (W.alloc (Obj.cells #[Value.int IntKind.i64 f, Value.int IntKind.u64 q, Value.int IntKind.u64 t, Value.string d] 28)) W.heap.size f q t d ∧ Below W.heap.size W (W.alloc (Obj.cells #[Value.int IntKind.i64 f, Value.int IntKind.u64 q, Value.int IntKind.u64 t, Value.string d] 28))) := Lib.hid ⟨⟨Kq.blk_new _ _ _ _⟩, Kq.below_alloc _ _⟩
  refine (awake _).mono ?_
  rintro x w1 ⟨rfl, b1⟩
  have H1 := Lib.hid (And.intro (H0.out.1.later b1) (H0.out.2.trans (b1.mono H0.out.2.size)))
  clear b1 H0
  have c0 : w1.cell? ⟨W.heap.size, 0, none⟩ = some (.int .i64 f) := Kq.blk_cell H1.out.1.blk 0
  have c1 : w1.cell? ⟨W.heap.size, 1, none⟩ = some (.int .u64 q) := Kq.blk_cell H1.out.1.blk 1
  have c2 : w1.cell? ⟨W.heap.size, 2, none⟩ = some (.int .u64 t) := Kq.blk_cell H1.out.1.blk 2
  have c3 : w1.cell? ⟨W.heap.size, 3, none⟩ = some (.string d) := Kq.blk_cell H1.out.1.blk 3
  have lt1 := Kq.blk_lt H1.out.1.blk
  have ne1 : ¬ W.heap.size = w1.heap.size := Nat.ne_of_lt lt1
  have ne2 : ¬ w1.heap.size = W.heap.size := fun h => ne1 h.symm
  go_wp2_with fail
  have H2 : Hid (PA (w1.alloc (Obj.cells #[Value.int IntKind.i64 k, Value.int IntKind.i64 f, Value.int IntKind.u64 q, Value.int IntKind.u64 t, Value.string d] 30)) W.heap.size f q t d ∧ NA (w1.alloc (Obj.cells #[Value.int IntKind.i64 k, Value.int IntKind.i64 f, Value.int IntKind.u64 q, Value.int IntKind.u64 t, Value.string d] 30)) w1.heap.size k f q t d ∧ Below W.heap.size W (w1.alloc (Obj.cells #[Value.int IntKind.i64 k, Value.int IntKind.i64 f, Value.int IntKind.u64 q, Value.int IntKind.u64 t, Value.string d] 30))) := Lib.hid ⟨H1.out.1.later (Kq.below_alloc w1 _), ⟨Kq.blk_new _ _ _ _⟩, H1.out.2.trans ((Kq.below_alloc w1 _).mono H1.out.2.size)⟩
  refine (nt_by_bad k f q t d _ HOK.out).mono ?_
  rintro x w2 ⟨rfl, b2⟩
  have H3 := Lib.hid (And.intro (H2.out.1.later b2) (And.intro (H2.out.2.1.later b2) (H2.out.2.2.trans (b2.mono H2.out.2.2.size))))
  clear b2 H2 H1 c0 c1 c2 c3 ne1 ne2 lt1
  generalize w1.heap.size = NB at *
  have c0 : w2.cell? ⟨W.heap.size, 0, none⟩ = some (.int .i64 f) := Kq.blk_cell H3.out.1.blk 0
  have c1 : w2.cell? ⟨W.heap.size, 1, none⟩ = some (.int .u64 q) := Kq.blk_cell H3.out.1.blk 1
  have c2 : w2.cell? ⟨W.heap.size, 2, none⟩ = some (.int .u64 t) := Kq.blk_cell H3.out.1.blk 2
  have c3 : w2.cell? ⟨W.heap.size, 3, none⟩ = some (.string d) := Kq.blk_cell H3.out.1.blk 3
  have n0 : w2.cell? ⟨NB, 0, none⟩ = some (.int .i64 k) := Kq.blk_cell H3.out.2.1.blk 0
  have n1 : w2.cell? ⟨NB, 1, none⟩ = some (.int .i64 f) := Kq.blk_cell H3.out.2.1.blk 1
  have n2 : w2.cell? ⟨NB, 2, none⟩ = some (.int .u64 q) := Kq.blk_cell H3.out.2.1.blk 2
  have n3 : w2.cell? ⟨NB, 3, none⟩ = some (.int .u64 t) := Kq.blk_cell H3.out.2.1.blk 3
  have n4 : w2.cell? ⟨NB, 4, none⟩ = some (.string d) := Kq.blk_cell H3.out.2.1.blk 4
  go_wp2_with fail
  refine (nt_check_bad k f q t d _ HOK.out).mono ?_
  rintro x w3 ⟨rfl, b3⟩
  have H4 := Lib.hid (And.intro (H3.out.1.later b3) (H3.out.2.2.trans (b3.mono H3.out.2.2.size)))
  clear b3 H3 c0 c1 c2 c3 n0 n1 n2 n3 n4
  have c0 : w3.cell? ⟨W.heap.size, 0, none⟩ = some (.int .i64 f) := Kq.blk_cell H4.out.1.blk 0
  go_wp2
  go_ret
  exact ⟨rfl, H4.out.2⟩
set_option maxRecDepth 100000 in
set_option maxHeartbeats 1000000 in
theorem blb (k f q t : Int) (d : ByteArray) (W : World) (h3 : ¬ 300 < d.size) (hq : 0 < q) (ht : 0 < t) (hd : ¬ 64 < d.size) (hf : f = 1) (hk1 : 1 ≤ k) (hk4 : ¬ k ≤ 4) :
    Calls Try.prog 5 #[.agg #[.int .i64 f, .int .u64 q, .int .u64 t, .string d], .int .i64 k] W fun x w' => x = .returned (.bool true) ∧ Below W.heap.size W w' := by
  have HOK : Hid (¬ NtOk k f q t d) := Lib.hid (fun hx => by obtain ⟨x1, x2, x3, x4, x5, x6, x7⟩ := hx; simp only at x3 x4 x5 x6 x7; omega)
  have d300 : decide ((300 : Int) < (d.size : Int)) = false := decide_eq_false (by omega)
  have eq1 : decide (0 < q) = true := decide_eq_true hq
  have et1 : decide (0 < t) = true := decide_eq_true ht
  have ed1 : decide ((d.size : Int) ≤ 64) = true := decide_eq_true (by omega)
  have ef0 : (f == 0) = false := by simp [hf]
  have ef1 : (f == 1) = true := by simp [hf]
  have ek1 : decide (1 ≤ k) = true := decide_eq_true hk1
  have el1 : decide (k ≤ 4) = false := decide_eq_false hk4
  have HF := Lib.hid hf
  clear hf hk1 hk4 hq ht hd h3
  go_enter Try.func5, Try.ntmps5
  go_wp2_with fail
  have H0 : Hid (PA (W.alloc (Obj.cells #[Value.int IntKind.i64 f, Value.int IntKind.u64 q, Value.int IntKind.u64 t, Value.string d] 28)) W.heap.size f q t d ∧ Below W.heap.size W (W.alloc (Obj.cells #[Value.int IntKind.i64 f, Value.int IntKind.u64 q, Value.int IntKind.u64 t, Value.string d] 28))) := Lib.hid ⟨⟨Kq.blk_new _ _ _ _⟩, Kq.below_alloc _ _⟩
  refine (awake _).mono ?_
  rintro x w1 ⟨rfl, b1⟩
  have H1 := Lib.hid (And.intro (H0.out.1.later b1) (H0.out.2.trans (b1.mono H0.out.2.size)))
  clear b1 H0
  have c0 : w1.cell? ⟨W.heap.size, 0, none⟩ = some (.int .i64 f) := Kq.blk_cell H1.out.1.blk 0
  have c1 : w1.cell? ⟨W.heap.size, 1, none⟩ = some (.int .u64 q) := Kq.blk_cell H1.out.1.blk 1
  have c2 : w1.cell? ⟨W.heap.size, 2, none⟩ = some (.int .u64 t) := Kq.blk_cell H1.out.1.blk 2
  have c3 : w1.cell? ⟨W.heap.size, 3, none⟩ = some (.string d) := Kq.blk_cell H1.out.1.blk 3
  have lt1 := Kq.blk_lt H1.out.1.blk
  have ne1 : ¬ W.heap.size = w1.heap.size := Nat.ne_of_lt lt1
  have ne2 : ¬ w1.heap.size = W.heap.size := fun h => ne1 h.symm
  go_wp2_with fail
  have H2 : Hid (PA (w1.alloc (Obj.cells #[Value.int IntKind.i64 k, Value.int IntKind.i64 f, Value.int IntKind.u64 q, Value.int IntKind.u64 t, Value.string d] 30)) W.heap.size f q t d ∧ NA (w1.alloc (Obj.cells #[Value.int IntKind.i64 k, Value.int IntKind.i64 f, Value.int IntKind.u64 q, Value.int IntKind.u64 t, Value.string d] 30)) w1.heap.size k f q t d ∧ Below W.heap.size W (w1.alloc (Obj.cells #[Value.int IntKind.i64 k, Value.int IntKind.i64 f, Value.int IntKind.u64 q, Value.int IntKind.u64 t, Value.string d] 30))) := Lib.hid ⟨H1.out.1.later (Kq.below_alloc w1 _), ⟨Kq.blk_new _ _ _ _⟩, H1.out.2.trans ((Kq.below_alloc w1 _).mono H1.out.2.size)⟩
  refine (nt_by_bad k f q t d _ HOK.out).mono ?_
  rintro x w2 ⟨rfl, b2⟩
  have H3 := Lib.hid (And.intro (H2.out.1.later b2) (And.intro (H2.out.2.1.later b2) (H2.out.2.2.trans (b2.mono H2.out.2.2.size))))
  clear b2 H2 H1 c0 c1 c2 c3 ne1 ne2 lt1
  generalize w1.heap.size = NB at *
  have c0 : w2.cell? ⟨W.heap.size, 0, none⟩ = some (.int .i64 f) := Kq.blk_cell H3.out.1.blk 0
  have c1 : w2.cell? ⟨W.heap.size, 1, none⟩ = some (.int .u64 q) := Kq.blk_cell H3.out.1.blk 1
  have c2 : w2.cell? ⟨W.heap.size, 2, none⟩ = some (.int .u64 t) := Kq.blk_cell H3.out.1.blk 2
  have c3 : w2.cell? ⟨W.heap.size, 3, none⟩ = some (.string d) := Kq.blk_cell H3.out.1.blk 3
  have n0 : w2.cell? ⟨NB, 0, none⟩ = some (.int .i64 k) := Kq.blk_cell H3.out.2.1.blk 0
  have n1 : w2.cell? ⟨NB, 1, none⟩ = some (.int .i64 f) := Kq.blk_cell H3.out.2.1.blk 1
  have n2 : w2.cell? ⟨NB, 2, none⟩ = some (.int .u64 q) := Kq.blk_cell H3.out.2.1.blk 2
  have n3 : w2.cell? ⟨NB, 3, none⟩ = some (.int .u64 t) := Kq.blk_cell H3.out.2.1.blk 3
  have n4 : w2.cell? ⟨NB, 4, none⟩ = some (.string d) := Kq.blk_cell H3.out.2.1.blk 4
  go_wp2_with fail
  refine (nt_check_bad k f q t d _ HOK.out).mono ?_
  rintro x w3 ⟨rfl, b3⟩
  have H4 := Lib.hid (And.intro (H3.out.1.later b3) (H3.out.2.2.trans (b3.mono H3.out.2.2.size)))
  clear b3 H3 c0 c1 c2 c3 n0 n1 n2 n3 n4
  have c0 : w3.cell? ⟨W.heap.size, 0, none⟩ = some (.int .i64 f) := Kq.blk_cell H4.out.1.blk 0
  go_wp2
  go_ret
  exact ⟨rfl, H4.out.2⟩
set_option maxRecDepth 100000 in
set_option maxHeartbeats 1000000 in
theorem gbr (k f q t : Int) (d : ByteArray) (W : World) (h3 : ¬ 300 < d.size) (hq : 0 < q) (ht : 0 < t) (hd : ¬ 64 < d.size) (hf : f = 1) (hk1 : 1 ≤ k) (hk4 : k ≤ 4) (hr : k = 2) :
    Calls Try.prog 5 #[.agg #[.int .i64 f, .int .u64 q, .int .u64 t, .string d], .int .i64 k] W fun x w' => x = .returned (.bool true) ∧ Below W.heap.size W w' := by
  have HOK : Hid (NtOk k f q t d) := Lib.hid ⟨hk1, hk4, by show 0 ≤ f; omega, by show f ≤ 1; omega, by show q ≠ 0; omega, by show t ≠ 0; omega, by show d.size ≤ 64; omega⟩
  have d300 : decide ((300 : Int) < (d.size : Int)) = false := decide_eq_false (by omega)
  have eq1 : decide (0 < q) = true := decide_eq_true hq
  have et1 : decide (0 < t) = true := decide_eq_true ht
  have ed1 : decide ((d.size : Int) ≤ 64) = true := decide_eq_true (by omega)
  have ef0 : (f == 0) = false := by simp [hf]
  have ef1 : (f == 1) = true := by simp [hf]
  have ek1 : decide (1 ≤ k) = true := decide_eq_true hk1
  have el1 : decide (k ≤ 4) = true := decide_eq_true hk4
  have HBY : Hid (byOf k f = 0) := Lib.hid (by unfold byOf; rw [if_pos hr, hf]; rfl)
  have ek2 : (k != 2) = false := by simp [hr]
  have ek3 : (k == 2) = true := by simp [hr]
  have HYB : Hid (∀ w : World, Calls Try.prog 20 #[.agg #[.int .i64 k, .int .i64 f, .int .u64 q, .int .u64 t, .string d]] w fun x w' => x = .returned (.int .i64 0) ∧ Below w.heap.size w w') := Lib.hid (fun w => by have := nt_by_ok k f q t d w HOK.out; rw [HBY.out] at this; exact this)
  have eby : (((0 : Int)) == f) = false := by simp [hf]
  have HF := Lib.hid hf
  clear hf hk1 hk4 hq ht hd h3 hr
  go_enter Try.func5, Try.ntmps5
  go_wp2_with fail
  have H0 : Hid (PA (W.alloc (Obj.cells #[Value.int IntKind.i64 f, Value.int IntKind.u64 q, Value.int IntKind.u64 t, Value.string d] 28)) W.heap.size f q t d ∧ Below W.heap.size W (W.alloc (Obj.cells #[Value.int IntKind.i64 f, Value.int IntKind.u64 q, Value.int IntKind.u64 t, Value.string d] 28))) := Lib.hid ⟨⟨Kq.blk_new _ _ _ _⟩, Kq.below_alloc _ _⟩
  refine (awake _).mono ?_
  rintro x w1 ⟨rfl, b1⟩
  have H1 := Lib.hid (And.intro (H0.out.1.later b1) (H0.out.2.trans (b1.mono H0.out.2.size)))
  clear b1 H0
  have c0 : w1.cell? ⟨W.heap.size, 0, none⟩ = some (.int .i64 f) := Kq.blk_cell H1.out.1.blk 0
  have c1 : w1.cell? ⟨W.heap.size, 1, none⟩ = some (.int .u64 q) := Kq.blk_cell H1.out.1.blk 1
  have c2 : w1.cell? ⟨W.heap.size, 2, none⟩ = some (.int .u64 t) := Kq.blk_cell H1.out.1.blk 2
  have c3 : w1.cell? ⟨W.heap.size, 3, none⟩ = some (.string d) := Kq.blk_cell H1.out.1.blk 3
  have lt1 := Kq.blk_lt H1.out.1.blk
  have ne1 : ¬ W.heap.size = w1.heap.size := Nat.ne_of_lt lt1
  have ne2 : ¬ w1.heap.size = W.heap.size := fun h => ne1 h.symm
  go_wp2_with fail
  have H2 : Hid (PA (w1.alloc (Obj.cells #[Value.int IntKind.i64 k, Value.int IntKind.i64 f, Value.int IntKind.u64 q, Value.int IntKind.u64 t, Value.string d] 30)) W.heap.size f q t d ∧ NA (w1.alloc (Obj.cells #[Value.int IntKind.i64 k, Value.int IntKind.i64 f, Value.int IntKind.u64 q, Value.int IntKind.u64 t, Value.string d] 30)) w1.heap.size k f q t d ∧ Below W.heap.size W (w1.alloc (Obj.cells #[Value.int IntKind.i64 k, Value.int IntKind.i64 f, Value.int IntKind.u64 q, Value.int IntKind.u64 t, Value.string d] 30))) := Lib.hid ⟨H1.out.1.later (Kq.below_alloc w1 _), ⟨Kq.blk_new _ _ _ _⟩, H1.out.2.trans ((Kq.below_alloc w1 _).mono H1.out.2.size)⟩
  refine (HYB.out _).mono ?_
  rintro x w2 ⟨rfl, b2⟩
  have H3 := Lib.hid (And.intro (H2.out.1.later b2) (And.intro (H2.out.2.1.later b2) (H2.out.2.2.trans (b2.mono H2.out.2.2.size))))
  clear b2 H2 H1 c0 c1 c2 c3 ne1 ne2 lt1
  generalize w1.heap.size = NB at *
  have c0 : w2.cell? ⟨W.heap.size, 0, none⟩ = some (.int .i64 f) := Kq.blk_cell H3.out.1.blk 0
  have c1 : w2.cell? ⟨W.heap.size, 1, none⟩ = some (.int .u64 q) := Kq.blk_cell H3.out.1.blk 1
  have c2 : w2.cell? ⟨W.heap.size, 2, none⟩ = some (.int .u64 t) := Kq.blk_cell H3.out.1.blk 2
  have c3 : w2.cell? ⟨W.heap.size, 3, none⟩ = some (.string d) := Kq.blk_cell H3.out.1.blk 3
  have n0 : w2.cell? ⟨NB, 0, none⟩ = some (.int .i64 k) := Kq.blk_cell H3.out.2.1.blk 0
  have n1 : w2.cell? ⟨NB, 1, none⟩ = some (.int .i64 f) := Kq.blk_cell H3.out.2.1.blk 1
  have n2 : w2.cell? ⟨NB, 2, none⟩ = some (.int .u64 q) := Kq.blk_cell H3.out.2.1.blk 2
  have n3 : w2.cell? ⟨NB, 3, none⟩ = some (.int .u64 t) := Kq.blk_cell H3.out.2.1.blk 3
  have n4 : w2.cell? ⟨NB, 4, none⟩ = some (.string d) := Kq.blk_cell H3.out.2.1.blk 4
  go_wp2_with fail
  refine (nt_check_ok k f q t d _ HOK.out).mono ?_
  rintro x w3 ⟨rfl, b3⟩
  have H4 := Lib.hid (And.intro (H3.out.1.later b3) (H3.out.2.2.trans (b3.mono H3.out.2.2.size)))
  clear b3 H3 c0 c1 c2 c3 n0 n1 n2 n3 n4
  have c0 : w3.cell? ⟨W.heap.size, 0, none⟩ = some (.int .i64 f) := Kq.blk_cell H4.out.1.blk 0
  go_wp2
  go_ret
  exact ⟨rfl, H4.out.2⟩
set_option maxRecDepth 100000 in
set_option maxHeartbeats 1000000 in
theorem gbs (k f q t : Int) (d : ByteArray) (W : World) (h3 : ¬ 300 < d.size) (hq : 0 < q) (ht : 0 < t) (hd : ¬ 64 < d.size) (hf : f = 1) (hk1 : 1 ≤ k) (hk4 : k ≤ 4) (hr : k ≠ 2) :
    Calls Try.prog 5 #[.agg #[.int .i64 f, .int .u64 q, .int .u64 t, .string d], .int .i64 k] W fun x w' => x = .returned (.bool true) ∧ Below W.heap.size W w' := by
  have HOK : Hid (NtOk k f q t d) := Lib.hid ⟨hk1, hk4, by show 0 ≤ f; omega, by show f ≤ 1; omega, by show q ≠ 0; omega, by show t ≠ 0; omega, by show d.size ≤ 64; omega⟩
  have d300 : decide ((300 : Int) < (d.size : Int)) = false := decide_eq_false (by omega)
  have eq1 : decide (0 < q) = true := decide_eq_true hq
  have et1 : decide (0 < t) = true := decide_eq_true ht
  have ed1 : decide ((d.size : Int) ≤ 64) = true := decide_eq_true (by omega)
  have ef0 : (f == 0) = false := by simp [hf]
  have ef1 : (f == 1) = true := by simp [hf]
  have ek1 : decide (1 ≤ k) = true := decide_eq_true hk1
  have el1 : decide (k ≤ 4) = true := decide_eq_true hk4
  have HBY : Hid (byOf k f = 1) := Lib.hid (by unfold byOf; rw [if_neg hr, hf])
  have ek2 : (k != 2) = true := by simp [hr]
  have ek3 : (k == 2) = false := by simp [hr]
  have HYB : Hid (∀ w : World, Calls Try.prog 20 #[.agg #[.int .i64 k, .int .i64 f, .int .u64 q, .int .u64 t, .string d]] w fun x w' => x = .returned (.int .i64 1) ∧ Below w.heap.size w w') := Lib.hid (fun w => by have := nt_by_ok k f q t d w HOK.out; rw [HBY.out] at this; exact this)
  have eby : (((1 : Int)) == f) = true := by simp [hf]
  have HF := Lib.hid hf
  clear hf hk1 hk4 hq ht hd h3 hr
  go_enter Try.func5, Try.ntmps5
  go_wp2_with fail
  have H0 : Hid (PA (W.alloc (Obj.cells #[Value.int IntKind.i64 f, Value.int IntKind.u64 q, Value.int IntKind.u64 t, Value.string d] 28)) W.heap.size f q t d ∧ Below W.heap.size W (W.alloc (Obj.cells #[Value.int IntKind.i64 f, Value.int IntKind.u64 q, Value.int IntKind.u64 t, Value.string d] 28))) := Lib.hid ⟨⟨Kq.blk_new _ _ _ _⟩, Kq.below_alloc _ _⟩
  refine (awake _).mono ?_
  rintro x w1 ⟨rfl, b1⟩
  have H1 := Lib.hid (And.intro (H0.out.1.later b1) (H0.out.2.trans (b1.mono H0.out.2.size)))
  clear b1 H0
  have c0 : w1.cell? ⟨W.heap.size, 0, none⟩ = some (.int .i64 f) := Kq.blk_cell H1.out.1.blk 0
  have c1 : w1.cell? ⟨W.heap.size, 1, none⟩ = some (.int .u64 q) := Kq.blk_cell H1.out.1.blk 1
  have c2 : w1.cell? ⟨W.heap.size, 2, none⟩ = some (.int .u64 t) := Kq.blk_cell H1.out.1.blk 2
  have c3 : w1.cell? ⟨W.heap.size, 3, none⟩ = some (.string d) := Kq.blk_cell H1.out.1.blk 3
  have lt1 := Kq.blk_lt H1.out.1.blk
  have ne1 : ¬ W.heap.size = w1.heap.size := Nat.ne_of_lt lt1
  have ne2 : ¬ w1.heap.size = W.heap.size := fun h => ne1 h.symm
  go_wp2_with fail
  have H2 : Hid (PA (w1.alloc (Obj.cells #[Value.int IntKind.i64 k, Value.int IntKind.i64 f, Value.int IntKind.u64 q, Value.int IntKind.u64 t, Value.string d] 30)) W.heap.size f q t d ∧ NA (w1.alloc (Obj.cells #[Value.int IntKind.i64 k, Value.int IntKind.i64 f, Value.int IntKind.u64 q, Value.int IntKind.u64 t, Value.string d] 30)) w1.heap.size k f q t d ∧ Below W.heap.size W (w1.alloc (Obj.cells #[Value.int IntKind.i64 k, Value.int IntKind.i64 f, Value.int IntKind.u64 q, Value.int IntKind.u64 t, Value.string d] 30))) := Lib.hid ⟨H1.out.1.later (Kq.below_alloc w1 _), ⟨Kq.blk_new _ _ _ _⟩, H1.out.2.trans ((Kq.below_alloc w1 _).mono H1.out.2.size)⟩
  refine (HYB.out _).mono ?_
  rintro x w2 ⟨rfl, b2⟩
  have H3 := Lib.hid (And.intro (H2.out.1.later b2) (And.intro (H2.out.2.1.later b2) (H2.out.2.2.trans (b2.mono H2.out.2.2.size))))
  clear b2 H2 H1 c0 c1 c2 c3 ne1 ne2 lt1
  generalize w1.heap.size = NB at *
  have c0 : w2.cell? ⟨W.heap.size, 0, none⟩ = some (.int .i64 f) := Kq.blk_cell H3.out.1.blk 0
  have c1 : w2.cell? ⟨W.heap.size, 1, none⟩ = some (.int .u64 q) := Kq.blk_cell H3.out.1.blk 1
  have c2 : w2.cell? ⟨W.heap.size, 2, none⟩ = some (.int .u64 t) := Kq.blk_cell H3.out.1.blk 2
  have c3 : w2.cell? ⟨W.heap.size, 3, none⟩ = some (.string d) := Kq.blk_cell H3.out.1.blk 3
  have n0 : w2.cell? ⟨NB, 0, none⟩ = some (.int .i64 k) := Kq.blk_cell H3.out.2.1.blk 0
  have n1 : w2.cell? ⟨NB, 1, none⟩ = some (.int .i64 f) := Kq.blk_cell H3.out.2.1.blk 1
  have n2 : w2.cell? ⟨NB, 2, none⟩ = some (.int .u64 q) := Kq.blk_cell H3.out.2.1.blk 2
  have n3 : w2.cell? ⟨NB, 3, none⟩ = some (.int .u64 t) := Kq.blk_cell H3.out.2.1.blk 3
  have n4 : w2.cell? ⟨NB, 4, none⟩ = some (.string d) := Kq.blk_cell H3.out.2.1.blk 4
  go_wp2_with fail
  refine (nt_check_ok k f q t d _ HOK.out).mono ?_
  rintro x w3 ⟨rfl, b3⟩
  have H4 := Lib.hid (And.intro (H3.out.1.later b3) (H3.out.2.2.trans (b3.mono H3.out.2.2.size)))
  clear b3 H3 c0 c1 c2 c3 n0 n1 n2 n3 n4
  have c0 : w3.cell? ⟨W.heap.size, 0, none⟩ = some (.int .i64 f) := Kq.blk_cell H4.out.1.blk 0
  go_wp2
  go_ret
  exact ⟨rfl, H4.out.2⟩
theorem noteSides_walk (v : Value) (k : Int) {W : World} (hd : ∃ x : PkV, v = x.val ∧ PkFits x) (wk : (Lit.int .i64 k).wf = true) :
    Calls Try.prog 5 #[v, .int .i64 k] W fun x w' => x = .returned (.bool true) ∧ Below W.heap.size W w' := by
  obtain ⟨⟨f, q, t, d⟩, rfl, hf⟩ := hd
  have hq0 : 0 ≤ q := hf.q.1
  have ht0 : 0 ≤ t := hf.t.1
  by_cases h3 : 300 < d.size
  · exact early k f q t d W h3
  by_cases hqn : ¬ 0 < q
  · exact bq k f q t d W h3 hqn hq0
  have hq : 0 < q := Decidable.not_not.1 hqn
  by_cases htn : ¬ 0 < t
  · exact bt k f q t d W h3 hq htn ht0
  have ht : 0 < t := Decidable.not_not.1 htn
  by_cases hd : 64 < d.size
  · exact bd k f q t d W h3 hq ht hd
  by_cases hfb : f < 0 ∨ 1 < f
  · exact bf k f q t d W h3 hq ht hd hfb
  have h01 : f = 0 ∨ f = 1 := by omega
  rcases h01 with h0 | h0
  · by_cases hk1 : 1 ≤ k
    · by_cases hk4 : k ≤ 4
      · by_cases hr : k = 2
        · exact gar k f q t d W h3 hq ht hd h0 hk1 hk4 hr
        · exact gas k f q t d W h3 hq ht hd h0 hk1 hk4 hr
      · exact bla k f q t d W h3 hq ht hd h0 hk1 hk4
    · exact bka k f q t d W h3 hq ht hd h0 hk1
  · by_cases hk1 : 1 ≤ k
    · by_cases hk4 : k ≤ 4
      · by_cases hr : k = 2
        · exact gbr k f q t d W h3 hq ht hd h0 hk1 hk4 hr
        · exact gbs k f q t d W h3 hq ht hd h0 hk1 hk4 hr
      · exact blb k f q t d W h3 hq ht hd h0 hk1 hk4
    · exact bkb k f q t d W h3 hq ht hd h0 hk1
end Go.Proofs.Ytkdommljaciahaa.noteSides
