/- Contracts of disk.New, carrackref04.Right. No condition. -/
import Derived.WalkSpells
import Derived.Outline
import Derived.Laws.MakeOwn
import Derived.Test.YtcnoakngnjbkiaaTxt
import Derived.Test.YtcnoakngnjbkiaaObj
namespace Go.Proofs.Ytcnoakngnjbkiaa
open Go.RowKit
set_option linter.unusedVariables false
def DkRight (a b : Int) : Prop := 64 ≤ a ∧ a ≤ 512 ∧ 1 ≤ b ∧ b ≤ 4096
set_option maxRecDepth 100000 in
set_option maxHeartbeats 1000000 in
theorem dk_right_ok (a b : Int) (w : World) (h : DkRight a b) : Calls Try.prog 11 #[.int .i64 a, .int .i64 b] w fun x w' => x = .returned (.bool true) ∧ w = w' := by
  have d1 : decide (64 ≤ a) = true := decide_eq_true h.1
  have d2 : decide (a ≤ 512) = true := decide_eq_true h.2.1
  have d3 : decide (1 ≤ b) = true := decide_eq_true h.2.2.1
  have d4 : decide (b ≤ 4096) = true := decide_eq_true h.2.2.2
  clear h
  go_enter Try.func11, Try.ntmps11
  go_wp2
  go_ret
  exact ⟨rfl, rfl⟩
set_option maxRecDepth 100000 in
set_option maxHeartbeats 1000000 in
theorem dk_right_bad (a b : Int) (w : World) (h : ¬ DkRight a b) : Calls Try.prog 11 #[.int .i64 a, .int .i64 b] w fun x w' => x = .returned (.bool false) ∧ w = w' := by
  have H := Lib.hid h
  clear h
  by_cases h1 : 64 ≤ a
  · have d1 : decide (64 ≤ a) = true := decide_eq_true h1
    by_cases h2 : a ≤ 512
    · have d2 : decide (a ≤ 512) = true := decide_eq_true h2
      by_cases h3 : 1 ≤ b
      · have d3 : decide (1 ≤ b) = true := decide_eq_true h3
        have d4 : decide (b ≤ 4096) = false := decide_eq_false (fun h4 => H.out ⟨h1, h2, h3, h4⟩)
        clear h1 h2 h3
        go_enter Try.func11, Try.ntmps11
        go_wp2
        go_ret
        exact ⟨rfl, rfl⟩
      · have d3 : decide (1 ≤ b) = false := decide_eq_false h3
        clear h1 h2 h3
        go_enter Try.func11, Try.ntmps11
        go_wp2
        go_ret
        exact ⟨rfl, rfl⟩
    · have d2 : decide (a ≤ 512) = false := decide_eq_false h2
      clear h1 h2
      go_enter Try.func11, Try.ntmps11
      go_wp2
      go_ret
      exact ⟨rfl, rfl⟩
  · have d1 : decide (64 ≤ a) = false := decide_eq_false h1
    clear h1
    go_enter Try.func11, Try.ntmps11
    go_wp2
    go_ret
    exact ⟨rfl, rfl⟩
theorem infoU8 : (Try.prog.info? 5).map (fun i => (i.zero, i.size, i.bytes)) = some (some (.int .u8 0), 1, 1) := by kernel_rfl
/-- a row of zeros, as make lays it -/
def zrow (n : Nat) : Array Value := madeCells (Value.int IntKind.u8 0).cells n
theorem zrow_get (n j : Nat) (h : j < n) : (zrow n)[j]? = some (.int .u8 0) := by
  unfold zrow madeCells
  simp [Value.cells, h, Nat.mod_one]
theorem mk_bytes (w : World) (z : Int) (n : Nat) (hz : z = (n : Int)) (hn : n ≤ 3000000) :
    (Instr.makeSlice 31 (.int .i64 z) (.int .i64 z)).run Try.prog w = .ok (.slice (some ⟨w.heap.size, 0, none⟩) n n) (w.alloc (.cells (zrow n) 5)) := by
  obtain ⟨i0, hi, hz0, hz1, hz2⟩ := info_parts infoU8
  subst hz
  have := run_makeSlice (P := Try.prog) w 31 5 i0 (.int .u8 0) Try.underlying31 hi hz0 .i64 .i64 (n : Int) (n : Int) (by omega) (Int.le_refl _) (by rw [hz1]; simp; omega) (by rw [hz2]; omega) (by omega)
  rw [hz1] at this
  simpa [zrow] using this
/-- a disk in memory: its block, its bytes' block -/
structure Dk (w : World) (B S : Nat) (a b : Int) (n : Nat) (buf : Value) (armed : Int) : Prop where
  blk : w.heap[B]? = some (.cells #[.int .i64 a, .int .i64 b, .slice (some ⟨S, 0, none⟩) n n, buf, .int .i64 armed] 34 (0, 0))
theorem prod_le (a b : Int) (h : DkRight a b) : 0 ≤ a * b ∧ a * b ≤ 2097152 := by
  obtain ⟨h1, h2, h3, h4⟩ := h
  refine ⟨Int.mul_nonneg (by omega) (by omega), ?_⟩
  calc a * b ≤ 512 * b := Int.mul_le_mul_of_nonneg_right h2 (by omega)
    _ ≤ 512 * 4096 := Int.mul_le_mul_of_nonneg_left h4 (by omega)
def NewPost (a b : Int) (n : Nat) (w : World) (x : Ending) (w' : World) : Prop :=
  x = .returned (.tuple #[.pointer (some ⟨w.heap.size + 1, 0, none⟩), .int .i64 0]) ∧ Dk w' (w.heap.size + 1) w.heap.size a b n (.slice none 0 0) 0 ∧ w'.heap[w.heap.size]? = some (.cells (zrow n) 5 (0, 0)) ∧ Below w.heap.size w w'
set_option maxRecDepth 100000 in
set_option maxHeartbeats 1000000 in
theorem dk_new_ok (a b : Int) (n : Nat) (w : World) (h : DkRight a b) (hn : a * b = (n : Int)) : Calls Try.prog 10 #[.int .i64 a, .int .i64 b] w (NewPost a b n w) := by
  have d1 : decide (a < 64) = false := decide_eq_false (by have := h.1; omega)
  have d2 : decide (512 < a) = false := decide_eq_false (by have := h.2.1; omega)
  have d3 : decide (b < 1) = false := decide_eq_false (by have := h.2.2.1; omega)
  have d4 : decide (4096 < b) = false := decide_eq_false (by have := h.2.2.2; omega)
  have hp := prod_le a b h
  have hw : wrap64 (a * b) = (n : Int) := by rw [← hn]; exact IntWalk.wrap64_in (a * b) (by omega)
  have hmk := fun w => mk_bytes w (wrap64 (a * b)) n hw (by omega)
  have HH := Lib.hid (And.intro h hn)
  clear h hn hp hw
  go_enter Try.func10, Try.ntmps10
  go_wp2
  go_ret2
  refine ⟨rfl, ⟨?_⟩, ?_, ?_⟩
  · have := Kq.blk_new (w.alloc (.cells (zrow n) 5)) #[.int .i64 a, .int .i64 b, .slice (some ⟨w.heap.size, 0, none⟩) n n, .slice none 0 0, .int .i64 0] 34 (0, 0)
    rw [World.size_alloc] at this
    exact this
  · rw [Below.heap_alloc _ _ _ (by simp)]
    exact Kq.blk_new _ _ _ _
  · exact (Kq.below_alloc w _).trans ((Kq.below_alloc _ _).mono (Kq.below_alloc w _).size)
set_option maxRecDepth 100000 in
set_option maxHeartbeats 1000000 in
theorem dk_new_bad (a b : Int) (w : World) (h : ¬ DkRight a b) : Calls Try.prog 10 #[.int .i64 a, .int .i64 b] w fun x w' => x = .returned (.tuple #[.pointer none, .int .i64 1]) ∧ w = w' := by
  have H := Lib.hid h
  clear h
  by_cases h1 : a < 64
  · have d1 : decide (a < 64) = true := decide_eq_true h1
    clear h1
    go_enter Try.func10, Try.ntmps10
    go_wp2
    go_ret2
    exact ⟨rfl, rfl⟩
  have d1 : decide (a < 64) = false := decide_eq_false h1
  by_cases h2 : 512 < a
  · have d2 : decide (512 < a) = true := decide_eq_true h2
    clear h1 h2
    go_enter Try.func10, Try.ntmps10
    go_wp2
    go_ret2
    exact ⟨rfl, rfl⟩
  have d2 : decide (512 < a) = false := decide_eq_false h2
  by_cases h3 : b < 1
  · have d3 : decide (b < 1) = true := decide_eq_true h3
    clear h1 h2 h3
    go_enter Try.func10, Try.ntmps10
    go_wp2
    go_ret2
    exact ⟨rfl, rfl⟩
  have d3 : decide (b < 1) = false := decide_eq_false h3
  have d4 : decide (4096 < b) = true := decide_eq_true (by
    refine Int.lt_of_not_ge (fun h4 => H.out ⟨by omega, by omega, by omega, h4⟩))
  clear h1 h2 h3
  go_enter Try.func10, Try.ntmps10
  go_wp2
  go_ret2
  exact ⟨rfl, rfl⟩
end Go.Proofs.Ytcnoakngnjbkiaa
