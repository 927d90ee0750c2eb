/- carracklaw14.NotePuts walked. No condition. -/
import Derived.WalkSpells
import Derived.Deep.RegionHeld
import Derived.Test.YtkdommljaciahaaNoteAwake
import Derived.Test.YtkdommljaciahaaNtBytes
import Derived.Test.YtkdommljaciahaaNtFew
import Derived.Test.YtkdommljaciahaaNtOpen
namespace Go.Proofs.Ytkdommljaciahaa.notePuts
open Go.RowKit
set_option linter.unusedVariables false
/-- the law's boxes -/
structure LW (W w : World) (A B : Option Addr) (ca cb : Nat) (l m : List NtV) (a i : Int) (n : NtV) : Prop where
  b0 : w.heap[W.heap.size]? = some (.cells #[.slice A l.length ca] 22 (0, 0))
  b1 : w.heap[W.heap.size + 1]? = some (.cells #[.slice B m.length cb] 23 (0, 0))
  b2 : QB w (W.heap.size + 2) a i
  b3 : w.heap[W.heap.size + 3]? = some (.cells #[.int .i64 n.k, .int .i64 n.f, .int .u64 n.q, .int .u64 n.t, .string n.d] 30 (0, 0))
  eA : EnAt NtV.nc w A l
  eB : EnAt NtV.ic w B m
  bel : Below W.heap.size W w
variable {W w w' : World} {A B : Option Addr} {ca cb : Nat} {l m : List NtV} {a i : Int} {n : NtV}
theorem LW.below (h : LW W w A B ca cb l m a i n) (hb : Below w.heap.size w w') : LW W w' A B ca cb l m a i n :=
  ⟨Kq.below_blk hb h.b0 (Kq.blk_lt h.b0), Kq.below_blk hb h.b1 (Kq.blk_lt h.b1), ⟨Kq.below_blk hb h.b2.blk (Kq.blk_lt h.b2.blk)⟩, Kq.below_blk hb h.b3 (Kq.blk_lt h.b3), h.eA.below hb, h.eB.below hb, h.bel.trans (hb.mono h.bel.size)⟩
theorem LW.drew (h : LW W w A B ca cb l m a i n) : LW W w.drew A B ca cb l m a i n := ⟨h.b0, h.b1, ⟨h.b2.blk⟩, h.b3, h.eA, h.eB, h.bel.drew⟩
theorem LW.start (hA : EnAt NtV.nc W A l) (hB : EnAt NtV.ic W B m) :
    LW W ((((W.alloc (.cells #[.slice A l.length ca] 22)).alloc (.cells #[.slice B m.length cb] 23)).alloc (.cells #[.int .u64 a, .int .i64 i] 26)).alloc (.cells #[.int .i64 n.k, .int .i64 n.f, .int .u64 n.q, .int .u64 n.t, .string n.d] 30)) A B ca cb l m a i n := by
  have x1 := Kq.below_alloc W (.cells #[.slice A l.length ca] 22)
  have n1 := Kq.blk_new W #[.slice A l.length ca] 22 (0, 0)
  have z1 : (W.alloc (.cells #[.slice A l.length ca] 22)).heap.size = W.heap.size + 1 := by simp
  generalize W.alloc (.cells #[.slice A l.length ca] 22) = w1 at *
  have x2 := Kq.below_alloc w1 (.cells #[.slice B m.length cb] 23)
  have n2 := Kq.blk_new w1 #[.slice B m.length cb] 23 (0, 0)
  have z2 : (w1.alloc (.cells #[.slice B m.length cb] 23)).heap.size = W.heap.size + 2 := by simp [z1]
  generalize w1.alloc (.cells #[.slice B m.length cb] 23) = w2 at *
  have x3 := Kq.below_alloc w2 (.cells #[.int .u64 a, .int .i64 i] 26)
  have n3 := Kq.blk_new w2 #[.int .u64 a, .int .i64 i] 26 (0, 0)
  have z3 : (w2.alloc (.cells #[.int .u64 a, .int .i64 i] 26)).heap.size = W.heap.size + 3 := by simp [z2]
  generalize w2.alloc (.cells #[.int .u64 a, .int .i64 i] 26) = w3 at *
  have x4 := Kq.below_alloc w3 (.cells #[.int .i64 n.k, .int .i64 n.f, .int .u64 n.q, .int .u64 n.t, .string n.d] 30)
  have n4 := Kq.blk_new w3 #[.int .i64 n.k, .int .i64 n.f, .int .u64 n.q, .int .u64 n.t, .string n.d] 30 (0, 0)
  generalize w3.alloc (.cells #[.int .i64 n.k, .int .i64 n.f, .int .u64 n.q, .int .u64 n.t, .string n.d] 30) = w4 at *
  rw [z1] at n2
  rw [z2] at n3
  rw [z3] at n4
  refine ⟨?_, ?_, ⟨?_⟩, n4, ?_, ?_, ?_⟩
  · exact Kq.below_blk x4 (Kq.below_blk x3 (Kq.below_blk x2 n1 (by omega)) (by omega)) (by omega)
  · exact Kq.below_blk x4 (Kq.below_blk x3 n2 (by omega)) (by omega)
  · exact Kq.below_blk x4 n3 (by omega)
  · exact (((hA.below x1).below x2).below x3).below x4
  · exact (((hB.below x1).below x2).below x3).below x4
  · exact ((x1.trans (x2.mono (by omega))).trans (x3.mono (by omega))).trans (x4.mono (by omega))
/-- the note's five cells -/
def NBox (w' : World) (X : Nat) (n : NtV) : Prop := w'.cell? ⟨X, 0, none⟩ = some (.int .i64 n.k) ∧ w'.cell? ⟨X, 1, none⟩ = some (.int .i64 n.f) ∧ w'.cell? ⟨X, 2, none⟩ = some (.int .u64 n.q) ∧ w'.cell? ⟨X, 3, none⟩ = some (.int .u64 n.t) ∧ w'.cell? ⟨X, 4, none⟩ = some (.string n.d)
theorem LW.box (h : LW W w A B ca cb l m a i n) : NBox w (W.heap.size + 3) n := ⟨Kq.blk_cell h.b3 0, Kq.blk_cell h.b3 1, Kq.blk_cell h.b3 2, Kq.blk_cell h.b3 3, Kq.blk_cell h.b3 4⟩
set_option maxRecDepth 100000 in
set_option maxHeartbeats 4000000 in
theorem early (A B : Option Addr) (ca cb : Nat) (l m : List NtV) (a i : Int) (n : NtV) (W : World) (hA : EnAt NtV.nc W A l) (hB : EnAt NtV.ic W B m) (h : ¬ (Few l m ∧ n.d.size ≤ 300)) :
    Calls Try.prog 3 #[.slice A l.length ca, .slice B m.length cb, .agg #[.int .u64 a, .int .i64 i], .agg #[.int .i64 n.k, .int .i64 n.f, .int .u64 n.q, .int .u64 n.t, .string n.d]] W fun x w' => x = .returned (.bool true) ∧ Below W.heap.size W w' := by
  have H1 := Lib.hid (LW.start (a := a) (i := i) (n := n) (ca := ca) (cb := cb) hA hB)
  have HH := Lib.hid h
  clear hA hB h
  go_enter Try.func3, Try.ntmps3
  go_wp2_with fail
  refine (awake _).mono ?_
  rintro x w1 ⟨rfl, b1⟩
  have H2 := Lib.hid (H1.out.below b1)
  clear b1 H1
  have c0 := Kq.blk_cell H2.out.b0 0
  have c1 := Kq.blk_cell H2.out.b1 0
  have c4 := H2.out.box.2.2.2.2
  simp only [List.getElem?_toArray, List.getElem?_cons_zero] at c0 c1
  go_wp2_with fail
  refine (few14 A B ca cb l m _ H2.out.eA H2.out.eB).mono ?_
  rintro x w2 ⟨rfl, rfl⟩
  by_cases hf : Few l m
  · have d0 : decide (Few l m) = true := decide_eq_true hf
    rw [d0]
    have d1 : decide ((300 : Int) < (n.d.size : Int)) = true := decide_eq_true (by have hx : ¬ n.d.size ≤ 300 := fun h => HH.out ⟨hf, h⟩; omega)
    have d2 : decide (300 < n.d.size) = true := decide_eq_true (by have hx : ¬ n.d.size ≤ 300 := fun h => HH.out ⟨hf, h⟩; omega)
    clear hf d0
    go_wp2
    go_ret
    exact ⟨rfl, H2.out.bel⟩
  · have d0 : decide (Few l m) = false := decide_eq_false hf
    rw [d0]
    clear hf d0
    go_wp2
    go_ret
    exact ⟨rfl, H2.out.bel⟩
def okB (n : NtV) : Bool := decide (NtOk n.k n.f n.q n.t n.d)
set_option maxRecDepth 100000 in
set_option maxHeartbeats 8000000 in
theorem main (A B : Option Addr) (ca cb : Nat) (l m : List NtV) (a i : Int) (n : NtV) (W : World) (hA : EnAt NtV.nc W A l) (hB : EnAt NtV.ic W B m) (h : Few l m ∧ n.d.size ≤ 300) (hl : ∀ x ∈ l, x.wf) (hm : ∀ x ∈ m, x.wf) (ha : 0 ≤ a ∧ a < 18446744073709551616) (hn : n.wf) :
    Calls Try.prog 3 #[.slice A l.length ca, .slice B m.length cb, .agg #[.int .u64 a, .int .i64 i], .agg #[.int .i64 n.k, .int .i64 n.f, .int .u64 n.q, .int .u64 n.t, .string n.d]] W fun x w' => x = .returned (.bool true) ∧ Below W.heap.size W w' := by
  have H1 := Lib.hid (LW.start (a := a) (i := i) (n := n) (ca := ca) (cb := cb) hA hB)
  have HH := Lib.hid (And.intro h (And.intro hl (And.intro hm (And.intro ha hn))))
  have d0 : Hid (decide (Few l m) = true) := Lib.hid (decide_eq_true h.1)
  have d1 : decide ((300 : Int) < (n.d.size : Int)) = false := decide_eq_false (by omega)
  have d2 : decide (300 < n.d.size) = false := decide_eq_false (by omega)
  clear hA hB h hl hm ha hn
  go_enter Try.func3, Try.ntmps3
  go_wp2_with fail
  refine (awake _).mono ?_
  rintro x w1 ⟨rfl, b1⟩
  have H2 := Lib.hid (H1.out.below b1)
  clear b1 H1
  have c0 := Kq.blk_cell H2.out.b0 0
  have c1 := Kq.blk_cell H2.out.b1 0
  have c4 := H2.out.box.2.2.2.2
  simp only [List.getElem?_toArray, List.getElem?_cons_zero] at c0 c1
  go_wp2_with fail
  refine (few14 A B ca cb l m _ H2.out.eA H2.out.eB).mono ?_
  rintro x w2 ⟨rfl, rfl⟩
  rw [d0.out]
  go_wp2_with fail
  refine (bt_notes (W.heap.size) A ca l _ 22 H2.out.b0 H2.out.eA HH.out.2.1 HH.out.1.1.1).mono ?_
  rintro x w3 ⟨rfl, b3⟩
  have H3 := Lib.hid (H2.out.below b3)
  clear b3 H2 c0 c1 c4
  have c0 := Kq.blk_cell H3.out.b0 0
  simp only [List.getElem?_toArray, List.getElem?_cons_zero] at c0
  go_wp2_with fail
  refine (r14_notes A ca l _ H3.out.eA HH.out.2.1).mono ?_
  rintro x w4 ⟨rfl, b4⟩
  have H4 := Lib.hid (H3.out.below b4)
  clear b4 H3 c0
  go_wp2_with fail
  refine (bt_items (W.heap.size + 1) B cb m _ 23 H4.out.b1 H4.out.eB HH.out.2.2.1 HH.out.1.1.2.1).mono ?_
  rintro x w5 ⟨rfl, b5⟩
  have H5 := Lib.hid (H4.out.below b5)
  clear b5 H4
  have c1 := Kq.blk_cell H5.out.b1 0
  simp only [List.getElem?_toArray, List.getElem?_cons_zero] at c1
  go_wp2_with fail
  refine (r14_items B cb m _ H5.out.eB HH.out.2.2.1).mono ?_
  rintro x w6 ⟨rfl, b6⟩
  have H6 := Lib.hid (H5.out.below b6)
  clear b6 H5 c1
  go_wp2_with fail
  refine (bt_place (W.heap.size + 2) a i _ H6.out.b2 HH.out.2.2.2.1).mono ?_
  rintro x w7 ⟨rfl, b7⟩
  have H7 := Lib.hid (H6.out.below b7)
  clear b7 H6
  have c0 := H7.out.b2.c0
  have c1 := H7.out.b2.c1
  go_wp2_with fail
  refine (r14_place a i _ HH.out.2.2.2.1).mono ?_
  rintro x w8 ⟨rfl, b8⟩
  have H8 := Lib.hid (H7.out.below b8)
  clear b8 H7 c0 c1
  go_wp2
  generalize listT [1, 2, 3, 4] l = T1 at *
  generalize listT [1, 2] m = T2 at *
  generalize listE [1, 2, 3, 4] l = E1 at *
  generalize listE [1, 2] m = E2 at *
  generalize placeT a i = T3 at *
  generalize placeE i = E3 at *
  have HC : Hid (∀ w, Calls Try.prog 18 #[.agg #[.int .i64 n.k, .int .i64 n.f, .int .u64 n.q, .int .u64 n.t, .string n.d]] w fun x w' => x = .returned (.int .i64 (if okB n then 0 else 1)) ∧ Below w.heap.size w w') := Lib.hid (fun w => by
    by_cases hx : NtOk n.k n.f n.q n.t n.d
    · rw [show okB n = true from decide_eq_true hx]; exact nt_check_ok _ _ _ _ _ w hx
    · rw [show okB n = false from decide_eq_false hx]; exact nt_check_bad _ _ _ _ _ w hx)
  have HR : Hid (∀ w, Calls Try.prog 19 #[.agg #[.int .i64 n.k, .int .i64 n.f, .int .u64 n.q, .int .u64 n.t, .string n.d]] w fun x w' => x = .returned (.bool (okB n)) ∧ Below w.heap.size w w') := Lib.hid (fun w => by
    by_cases hx : NtOk n.k n.f n.q n.t n.d
    · rw [show okB n = true from decide_eq_true hx]; exact r14_right_ok n w hx HH.out.2.2.2.2
    · rw [show okB n = false from decide_eq_false hx]; exact r14_right_bad n w hx HH.out.2.2.2.2)
  obtain ⟨by_, hby⟩ : ∃ z : Int, z = if NtOk n.k n.f n.q n.t n.d then byOf n.k n.f else -1 := ⟨_, rfl⟩
  have HY1 : Hid (∀ w, Calls Try.prog 20 #[.agg #[.int .i64 n.k, .int .i64 n.f, .int .u64 n.q, .int .u64 n.t, .string n.d]] w fun x w' => x = .returned (.int .i64 by_) ∧ Below w.heap.size w w') := Lib.hid (fun w => by
    rw [hby]
    by_cases hx : NtOk n.k n.f n.q n.t n.d
    · rw [if_pos hx]; exact nt_by_ok _ _ _ _ _ w hx
    · rw [if_neg hx]; exact nt_by_bad _ _ _ _ _ w hx)
  have HY2 : Hid (∀ w, Calls Try.prog 21 #[.agg #[.int .i64 n.k, .int .i64 n.f, .int .u64 n.q, .int .u64 n.t, .string n.d]] w fun x w' => x = .returned (.int .i64 by_) ∧ Below w.heap.size w w') := Lib.hid (fun w => by
    rw [hby]
    exact r14_by n w HH.out.2.2.2.2)
  have HBL := Lib.hid (show ((if okB n then (0 : Int) else 1) == 0) = okB n by cases okB n <;> rfl)
  generalize (if okB n then (0 : Int) else 1) = cc at *
  generalize okB n = ob at *
  clear hby
  have HD := Lib.hid H8.out.drew
  clear H8
  refine wp_region_held_drew (S := fun w' => NBox w' (W.heap.size + 3) n) (by kernel_rfl) HD.out.box (fun hS0 => ?_)
  generalize w8.drew = z0 at *
  unfold NBox at hS0
  dsimp only [NBox]
  have e1 : (T1.toList == T1.toList) = true := by simp
  have e2 : (T2.toList == T2.toList) = true := by simp
  have e3 : (T3.toList == T3.toList) = true := by simp
  refine wpAnyH_take (i := 0) (v := ?_) rfl (by kernel_rfl) (by kernel_rfl) (by kernel_rfl) (fun _ _ _ h => h) (Or.inl ⟨by kernel_rfl, ?_⟩) (by assumption) ?_
  rotate_left
  · intro w hSw; (try dsimp only at hSw); go_simp; (try with_reducible rfl)
  refine wpAnyH_take (i := 1) (v := ?_) rfl (by kernel_rfl) (by kernel_rfl) (by kernel_rfl) (fun _ _ _ h => h) (Or.inl ⟨by kernel_rfl, ?_⟩) (by assumption) ?_
  rotate_left
  · intro w hSw; (try dsimp only at hSw); go_simp; (try with_reducible rfl)
  refine wpAnyH_take (i := 2) (v := ?_) rfl (by kernel_rfl) (by kernel_rfl) (by kernel_rfl) (fun _ _ _ h => h) (Or.inl ⟨by kernel_rfl, ?_⟩) (by assumption) ?_
  rotate_left
  · intro w hSw; (try dsimp only at hSw); go_simp; (try with_reducible rfl)
  refine wpAnyH_take (i := 3) (v := ?_) rfl (by kernel_rfl) (by kernel_rfl) (by kernel_rfl) (fun _ _ _ h => h) (Or.inl ⟨by kernel_rfl, ?_⟩) (by assumption) ?_
  rotate_left
  · intro w hSw; (try dsimp only at hSw); go_simp; (try with_reducible rfl)
  refine wpAnyH_take (i := 4) (v := ?_) rfl (by kernel_rfl) (by kernel_rfl) (by kernel_rfl) (fun _ _ _ h => h) (Or.inl ⟨by kernel_rfl, ?_⟩) (by assumption) ?_
  rotate_left
  · intro w hSw; (try dsimp only at hSw); go_simp; (try with_reducible rfl)
  refine wpAnyH_take (i := 5) (v := ?_) rfl (by kernel_rfl) (by kernel_rfl) (by kernel_rfl) (fun _ _ _ h => h) (Or.inl ⟨by kernel_rfl, ?_⟩) (by assumption) ?_
  rotate_left
  · intro w hSw; (try dsimp only at hSw); go_simp; (try with_reducible rfl)
  refine wpAnyH_take (i := 6) (v := ?_) rfl (by kernel_rfl) (by kernel_rfl) (by kernel_rfl) (fun _ _ _ h => h) (Or.inl ⟨by kernel_rfl, ?_⟩) (by assumption) ?_
  rotate_left
  · intro w hSw; (try dsimp only at hSw); go_simp; (try with_reducible rfl)
  refine wpAnyH_take (i := 7) (v := ?_) rfl (by kernel_rfl) (by kernel_rfl) (by kernel_rfl) (fun _ _ _ h => h) (Or.inl ⟨by kernel_rfl, ?_⟩) (by assumption) ?_
  rotate_left
  · intro w hSw; (try dsimp only at hSw); go_simp; (try with_reducible rfl)
  refine wpAnyH_take (i := 8) (v := ?_) rfl (by kernel_rfl) (by kernel_rfl) (by kernel_rfl) (fun _ _ _ h => h) (Or.inl ⟨by kernel_rfl, ?_⟩) (by assumption) ?_
  rotate_left
  · intro w hSw; (try dsimp only at hSw); go_simp; (try with_reducible rfl)
  refine wpAnyH_take (i := 9) (v := ?_) rfl (by kernel_rfl) (by kernel_rfl) (by kernel_rfl) (fun _ _ _ h => h) (Or.inl ⟨by kernel_rfl, ?_⟩) (by assumption) ?_
  rotate_left
  · intro w hSw; (try dsimp only at hSw); go_simp; (try with_reducible rfl)
  refine wpAnyH_take (i := 10) (v := ?_) rfl (by kernel_rfl) (by kernel_rfl) (by kernel_rfl) (fun _ _ _ h => h) (Or.inl ⟨by kernel_rfl, ?_⟩) (by assumption) ?_
  rotate_left
  · intro w hSw; (try dsimp only at hSw); go_simp; (try with_reducible rfl)
  refine wpAnyH_take (i := 11) (v := ?_) rfl (by kernel_rfl) (by kernel_rfl) (by kernel_rfl) (fun _ _ _ h => h) (Or.inl ⟨by kernel_rfl, ?_⟩) (by assumption) ?_
  rotate_left
  · intro w hSw; (try dsimp only at hSw); go_simp; (try with_reducible rfl)
  refine wpAnyH_take (i := 12) (v := ?_) rfl (by kernel_rfl) (by kernel_rfl) (by kernel_rfl) (fun _ _ _ h => h) (Or.inl ⟨by kernel_rfl, ?_⟩) (by assumption) ?_
  rotate_left
  · intro w hSw; (try dsimp only at hSw); go_simp; (try with_reducible rfl)
  refine wpAnyH_take (i := 13) (v := ?_) rfl (by kernel_rfl) (by kernel_rfl) (by kernel_rfl) (fun _ _ _ h => h) (Or.inl ⟨by kernel_rfl, ?_⟩) (by assumption) ?_
  rotate_left
  · intro w hSw; (try dsimp only at hSw); go_simp; (try with_reducible rfl)
  refine wpAnyH_take (i := 14) (v := ?_) rfl (by kernel_rfl) (by kernel_rfl) (by kernel_rfl) (fun _ _ _ h => h) (Or.inl ⟨by kernel_rfl, ?_⟩) (by assumption) ?_
  rotate_left
  · intro w hSw; (try dsimp only at hSw); go_simp; (try with_reducible rfl)
  refine wpAnyH_take (i := 15) (v := ?_) rfl (by kernel_rfl) (by kernel_rfl) (by kernel_rfl) (fun _ _ _ h => h) (Or.inl ⟨by kernel_rfl, ?_⟩) (by assumption) ?_
  rotate_left
  · intro w hSw; (try dsimp only at hSw); go_simp; (try with_reducible rfl)
  refine wpAnyH_take (i := 16) (v := ?_) rfl (by kernel_rfl) (by kernel_rfl) (by kernel_rfl) (fun _ _ _ h => h) (Or.inl ⟨by kernel_rfl, ?_⟩) (by assumption) ?_
  rotate_left
  · intro w hSw; (try dsimp only at hSw); go_simp; (try with_reducible rfl)
  refine wpAnyH_take (i := 17) (v := ?_) rfl (by kernel_rfl) (by kernel_rfl) (by kernel_rfl) (fun _ _ _ h => h) (Or.inl ⟨by kernel_rfl, ?_⟩) (by assumption) ?_
  rotate_left
  · intro w hSw; (try dsimp only at hSw); go_simp; (try with_reducible rfl)
  refine wpAnyH_take (i := 18) (v := ?_) rfl (by kernel_rfl) (by kernel_rfl) (by kernel_rfl) (fun _ _ _ h => h) (Or.inl ⟨by kernel_rfl, ?_⟩) (by assumption) ?_
  rotate_left
  · intro w hSw; (try dsimp only at hSw); go_simp; (try with_reducible rfl)
  refine wpAnyH_take (i := 19) (v := ?_) rfl (by kernel_rfl) (by kernel_rfl) (by kernel_rfl) (fun _ _ _ h => h) (Or.inl ⟨by kernel_rfl, ?_⟩) (by assumption) ?_
  rotate_left
  · intro w hSw; (try dsimp only at hSw); go_simp; (try with_reducible rfl)
  refine wpAnyH_take (i := 20) (v := ?_) rfl (by kernel_rfl) (by kernel_rfl) (by kernel_rfl) (fun _ _ _ h => h) (Or.inl ⟨by kernel_rfl, ?_⟩) (by assumption) ?_
  rotate_left
  · intro w hSw; (try dsimp only at hSw); go_simp; (try with_reducible rfl)
  refine wpAnyH_take (i := 21) (v := ?_) rfl (by kernel_rfl) (by kernel_rfl) (by kernel_rfl) (fun _ _ _ h => h) (Or.inl ⟨by kernel_rfl, ?_⟩) (by assumption) ?_
  rotate_left
  · intro w hSw; (try dsimp only at hSw); go_simp; (try with_reducible rfl)
  refine wpAnyH_take (i := 22) (v := ?_) rfl (by kernel_rfl) (by kernel_rfl) (by kernel_rfl) (fun _ _ _ h => h) (Or.inl ⟨by kernel_rfl, ?_⟩) (by assumption) ?_
  rotate_left
  · intro w hSw; (try dsimp only at hSw); go_simp; (try with_reducible rfl)
  refine wpAnyH_take (i := 23) (v := ?_) rfl (by kernel_rfl) (by kernel_rfl) (by kernel_rfl) (fun _ _ _ h => h) (Or.inl ⟨by kernel_rfl, ?_⟩) (by assumption) ?_
  rotate_left
  · intro w hSw; (try dsimp only at hSw); go_simp; (try with_reducible rfl)
  refine wpAnyH_take (i := 24) (v := ?_) rfl (by kernel_rfl) (by kernel_rfl) (by kernel_rfl) (fun _ _ _ h => h) (Or.inl ⟨by kernel_rfl, ?_⟩) (by assumption) ?_
  rotate_left
  · intro w hSw; (try dsimp only at hSw); go_simp; (try with_reducible rfl)
  refine wpAnyH_take (i := 25) (v := ?_) rfl (by kernel_rfl) (by kernel_rfl) (by kernel_rfl) (fun _ _ _ h => h) (Or.inl ⟨by kernel_rfl, ?_⟩) (by assumption) ?_
  rotate_left
  · intro w hSw; (try dsimp only at hSw); go_simp; (try with_reducible rfl)
  refine wpAnyH_take (i := 26) (v := ?_) rfl (by kernel_rfl) (by kernel_rfl) (by kernel_rfl) (fun _ _ _ h => h) (Or.inl ⟨by kernel_rfl, ?_⟩) (by assumption) ?_
  rotate_left
  · intro w hSw; (try dsimp only at hSw); go_simp; (try with_reducible rfl)
  refine wpAnyH_take (i := 27) (v := ?_) rfl (by kernel_rfl) (by kernel_rfl) (by kernel_rfl) (fun _ _ _ h => h) (Or.inl ⟨by kernel_rfl, ?_⟩) (by assumption) ?_
  rotate_left
  · intro w hSw; (try dsimp only at hSw); go_simp; (try with_reducible rfl)
  refine wpAnyH_take (i := 28) (v := ?_) rfl (by kernel_rfl) (by kernel_rfl) (by kernel_rfl) (fun _ _ _ h => h) (Or.inl ⟨by kernel_rfl, ?_⟩) (by assumption) ?_
  rotate_left
  · intro w hSw; (try dsimp only at hSw); go_simp; (try with_reducible rfl)
  refine wpAnyH_take (i := 29) (v := ?_) rfl (by kernel_rfl) (by kernel_rfl) (by kernel_rfl) (fun _ _ _ h => h) (Or.inl ⟨by kernel_rfl, ?_⟩) (by assumption) ?_
  rotate_left
  · intro w hSw; (try dsimp only at hSw); go_simp; (try with_reducible rfl)
  refine wpAnyH_take (i := 32) (v := ?_) rfl (by kernel_rfl) (by kernel_rfl) (by kernel_rfl) (fun _ _ _ h => h) (Or.inl ⟨by kernel_rfl, ?_⟩) (by assumption) ?_
  rotate_left
  · intro w hSw; (try dsimp only at hSw); go_simp; (try with_reducible rfl)
  refine wpAnyH_ready (rs := [30]) (by kernel_rfl) (by simp) ?_
  refine AllReadyH.cons rfl (fun K hK => ?_) AllReadyH.nil
  go_simp
  refine (HC.out _).mono ?_
  rintro x zz ⟨rfl, hb1⟩
  have HD1 := Lib.hid (HD.out.below hb1)
  clear hb1 HD hS0
  refine hK.out _ _ HD1.out.box (fun hS0 => ?_)
  clear hK K
  have hbl := HBL.out
  refine wpAnyH_take (i := 31) (v := ?_) rfl (by kernel_rfl) (by kernel_rfl) (by kernel_rfl) (fun _ _ _ h => h) (Or.inl ⟨by kernel_rfl, ?_⟩) (by assumption) ?_
  rotate_left
  · intro w hSw; (try dsimp only at hSw); go_simp; (try with_reducible rfl)
  refine wpAnyH_ready (rs := [33]) (by kernel_rfl) (by simp) ?_
  refine AllReadyH.cons rfl (fun K hK => ?_) AllReadyH.nil
  go_simp
  refine (HR.out _).mono ?_
  rintro x zz ⟨rfl, hb1⟩
  have HD2 := Lib.hid (HD1.out.below hb1)
  clear hb1 HD1 hS0
  refine hK.out _ _ HD2.out.box (fun hS0 => ?_)
  clear hK K
  have eb : (ob == ob) = true := by simp
  have ey : (by_ == by_) = true := by simp
  refine wpAnyH_take (i := 34) (v := ?_) rfl (by kernel_rfl) (by kernel_rfl) (by kernel_rfl) (fun _ _ _ h => h) (Or.inl ⟨by kernel_rfl, ?_⟩) (by assumption) ?_
  rotate_left
  · intro w hSw; (try dsimp only at hSw); go_simp; (try with_reducible rfl)
  refine wpAnyH_take (i := 35) (v := ?_) rfl (by kernel_rfl) (by kernel_rfl) (by kernel_rfl) (fun _ _ _ h => h) (Or.inl ⟨by kernel_rfl, ?_⟩) (by assumption) ?_
  rotate_left
  · intro w hSw; (try dsimp only at hSw); go_simp; (try with_reducible rfl)
  refine wpAnyH_take (i := 36) (v := ?_) rfl (by kernel_rfl) (by kernel_rfl) (by kernel_rfl) (fun _ _ _ h => h) (Or.inl ⟨by kernel_rfl, ?_⟩) (by assumption) ?_
  rotate_left
  · intro w hSw; (try dsimp only at hSw); go_simp; (try with_reducible rfl)
  refine wpAnyH_take (i := 37) (v := ?_) rfl (by kernel_rfl) (by kernel_rfl) (by kernel_rfl) (fun _ _ _ h => h) (Or.inl ⟨by kernel_rfl, ?_⟩) (by assumption) ?_
  rotate_left
  · intro w hSw; (try dsimp only at hSw); go_simp; (try with_reducible rfl)
  refine wpAnyH_take (i := 39) (v := ?_) rfl (by kernel_rfl) (by kernel_rfl) (by kernel_rfl) (fun _ _ _ h => h) (Or.inl ⟨by kernel_rfl, ?_⟩) (by assumption) ?_
  rotate_left
  · intro w hSw; (try dsimp only at hSw); go_simp; (try with_reducible rfl)
  refine wpAnyH_ready (rs := [38]) (by kernel_rfl) (by simp) ?_
  refine AllReadyH.cons rfl (fun K hK => ?_) AllReadyH.nil
  go_simp
  refine (HY1.out _).mono ?_
  rintro x zz ⟨rfl, hb1⟩
  have HD3 := Lib.hid (HD2.out.below hb1)
  clear hb1 HD2 hS0
  refine hK.out _ _ HD3.out.box (fun hS0 => ?_)
  clear hK K
  refine wpAnyH_ready (rs := [40]) (by kernel_rfl) (by simp) ?_
  refine AllReadyH.cons rfl (fun K hK => ?_) AllReadyH.nil
  go_simp
  refine (HY2.out _).mono ?_
  rintro x zz ⟨rfl, hb1⟩
  have HD4 := Lib.hid (HD3.out.below hb1)
  clear hb1 HD3 hS0
  refine hK.out _ _ HD4.out.box (fun hS0 => ?_)
  clear hK K
  refine wpAnyH_take (i := 41) (v := ?_) rfl (by kernel_rfl) (by kernel_rfl) (by kernel_rfl) (fun _ _ _ h => h) (Or.inl ⟨by kernel_rfl, ?_⟩) (by assumption) ?_
  rotate_left
  · intro w hSw; (try dsimp only at hSw); go_simp; (try with_reducible rfl)
  refine wpAnyH_take (i := 42) (v := ?_) rfl (by kernel_rfl) (by kernel_rfl) (by kernel_rfl) (fun _ _ _ h => h) (Or.inl ⟨by kernel_rfl, ?_⟩) (by assumption) ?_
  rotate_left
  · intro w hSw; (try dsimp only at hSw); go_simp; (try with_reducible rfl)
  refine wpAnyH_take (i := 43) (v := ?_) rfl (by kernel_rfl) (by kernel_rfl) (by kernel_rfl) (fun _ _ _ h => h) (Or.inl ⟨by kernel_rfl, ?_⟩) (by assumption) ?_
  rotate_left
  · intro w hSw; (try dsimp only at hSw); go_simp; (try with_reducible rfl)
  refine wpAnyH_done (by kernel_rfl) ?_ _
  go_wp2
  go_ret
  exact ⟨rfl, HD4.out.bel⟩
theorem notePuts_walk (v0 v1 v2 v3 : Value) {W : World} (h0 : ∃ A cap l, v0 = .slice A l.length cap ∧ l.length ≤ cap ∧ (A = none → l.length = 0) ∧ EnAt NtV.nc W A l ∧ ∀ n ∈ l, n.wf) (h1 : ∃ A cap l, v1 = .slice A l.length cap ∧ l.length ≤ cap ∧ (A = none → l.length = 0) ∧ EnAt NtV.ic W A l ∧ ∀ n ∈ l, n.wf)
    (h2 : ∃ a i : Int, v2 = .agg #[.int .u64 a, .int .i64 i] ∧ 0 ≤ a ∧ a < 18446744073709551616) (h3 : ∃ n : NtV, v3 = .agg #[.int .i64 n.k, .int .i64 n.f, .int .u64 n.q, .int .u64 n.t, .string n.d] ∧ n.wf) :
    Calls Try.prog 3 #[v0, v1, v2, v3] W fun x w' => x = .returned (.bool true) ∧ Below W.heap.size W w' := by
  obtain ⟨A, ca, l, rfl, -, -, hA, hl⟩ := h0
  obtain ⟨B, cb, m, rfl, -, -, hB, hm⟩ := h1
  obtain ⟨a, i, rfl, ha⟩ := h2
  obtain ⟨n, rfl, hn⟩ := h3
  by_cases h : Few l m ∧ n.d.size ≤ 300
  · exact main A B ca cb l m a i n W hA hB h hl hm ha hn
  · exact early A B ca cb l m a i n W hA hB h
end Go.Proofs.Ytkdommljaciahaa.notePuts
