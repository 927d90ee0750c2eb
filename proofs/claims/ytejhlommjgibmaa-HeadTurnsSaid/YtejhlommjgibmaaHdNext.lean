/- Contracts of head.Next, carrackref06.Next. No condition but that numbers fit. -/
import Derived.WalkSpells
import Derived.Test.YtejhlommjgibmaaHdRNew
namespace Go.Proofs.Ytejhlommjgibmaa
open Go.RowKit
set_option linter.unusedVariables false
def nxG (g : Nat) : Nat := if g + 1 = M64 then 0 else g + 1
def nxS (g : Nat) (sg : Int) : Int := if g + 1 = M64 then 0 else if sg = 0 then 1 else 0
def nxE (g : Nat) : Int := if g + 1 = M64 then 12 else 0
theorem nx_test (g : Nat) (h : g < M64) (hn : ¬ g + 1 = M64) : ((g : Int) == 18446744073709551615) = false := by
  rw [beq_eq_false_iff_ne]; unfold M64 at *; omega
theorem nx_wrap (g : Nat) (h : g < M64) (hn : ¬ g + 1 = M64) : IntKind.u64.wrap ((g : Int) + 1) = ((g + 1 : Nat) : Int) := by
  rw [IntWalk.u64_in _ (by unfold M64 at *; omega)]; omega
theorem nx_test1 (g : Nat) (h : g + 1 = M64) : ((g : Int) == 18446744073709551615) = true := by
  rw [beq_iff_eq]; unfold M64 at *; omega
theorem nx_wrap1 (g : Nat) (h : g + 1 = M64) : IntKind.u64.wrap ((g : Int) + 1) = 0 := by
  rw [IntKind.wrap_u64]; unfold M64 at *; omega
/-- two blocks of a call's own -/
theorem two_new (w : World) (cs ds : Array Value) (t u : TypeId) : ((w.alloc (.cells cs t)).alloc (.cells ds u)).heap[w.heap.size]? = some (.cells cs t (0, 0)) ∧ ((w.alloc (.cells cs t)).alloc (.cells ds u)).heap[w.heap.size + 1]? = some (.cells ds u (0, 0)) ∧ Below w.heap.size w ((w.alloc (.cells cs t)).alloc (.cells ds u)) := by
  have h1 := Kq.blk_new (w.alloc (.cells cs t)) ds u (0, 0)
  rw [World.size_alloc] at h1
  refine ⟨?_, h1, (Kq.below_alloc w _).trans ((Kq.below_alloc _ _).mono (Kq.below_alloc w _).size)⟩
  rw [Below.heap_alloc _ _ _ (by simp)]
  exact Kq.blk_new _ _ _ _
set_option maxRecDepth 100000 in
set_option maxHeartbeats 1000000 in
theorem hd_next (g : Nat) (sg : Int) (w : World) (h : g < M64) :
    Calls Try.prog 11 #[.agg #[.int .u64 (g : Int), .int .i64 sg]] w fun x w' => x = .returned (.tuple #[.agg #[.int .u64 ((nxG g : Nat) : Int), .int .i64 (nxS g sg)], .int .i64 (nxE g)]) ∧ Below w.heap.size w w' := by
  by_cases hn : g + 1 = M64
  · have HR : Hid (nxG g = 0 ∧ nxS g sg = 0 ∧ nxE g = 12) := Lib.hid ⟨if_pos hn, if_pos hn, if_pos hn⟩
    have t0 := nx_test1 g hn
    rw [HR.out.1, HR.out.2.1, HR.out.2.2]
    clear hn h
    go_enter Try.func11, Try.ntmps11
    go_wp2
    refine bodyPost_ret (v := .tuple #[.agg #[.int .u64 0, .int .i64 0], .int .i64 12]) (by simp [results, Try.results11, go_sem]) rfl ?_
    exact ⟨rfl, (two_new w _ _ _ _).2.2⟩
  · have t0 := nx_test g h hn
    have tw := nx_wrap g h hn
    by_cases hs : sg = 0
    · have HR : Hid (nxG g = g + 1 ∧ nxS g sg = 1 ∧ nxE g = 0) := Lib.hid ⟨if_neg hn, by unfold nxS; rw [if_neg hn, if_pos hs], if_neg hn⟩
      rw [HR.out.1, HR.out.2.1, HR.out.2.2]
      subst hs
      clear hn h HR
      generalize ((g + 1 : Nat) : Int) = g1 at *
      go_enter Try.func11, Try.ntmps11
      go_wp2
      refine bodyPost_ret (v := .tuple #[.agg #[.int .u64 g1, .int .i64 1], .int .i64 0]) (by simp [results, Try.results11, go_sem]) rfl ?_
      exact ⟨rfl, (two_new w _ _ _ _).2.2.trans ((Kq.below_alloc _ _).mono (two_new w _ _ _ _).2.2.size)⟩
    · have HR : Hid (nxG g = g + 1 ∧ nxS g sg = 0 ∧ nxE g = 0) := Lib.hid ⟨if_neg hn, by unfold nxS; rw [if_neg hn, if_neg hs], if_neg hn⟩
      rw [HR.out.1, HR.out.2.1, HR.out.2.2]
      have ts : (sg == 0) = false := by simpa using hs
      clear hn h HR hs
      generalize ((g + 1 : Nat) : Int) = g1 at *
      go_enter Try.func11, Try.ntmps11
      go_wp2
      refine bodyPost_ret (v := .tuple #[.agg #[.int .u64 g1, .int .i64 0], .int .i64 0]) (by simp [results, Try.results11, go_sem]) rfl ?_
      exact ⟨rfl, (two_new w _ _ _ _).2.2.trans ((Kq.below_alloc _ _).mono (two_new w _ _ _ _).2.2.size)⟩
set_option maxRecDepth 100000 in
set_option maxHeartbeats 1000000 in
theorem rf_next (g : Nat) (sg : Int) (w : World) (h : g < M64) :
    Calls Try.prog 12 #[.agg #[.int .u64 (g : Int), .int .i64 sg]] w fun x w' => x = .returned (.tuple #[.agg #[.int .u64 ((nxG g : Nat) : Int), .int .i64 (nxS g sg)], .int .i64 (nxE g)]) ∧ Below w.heap.size w w' := by
  by_cases hn : g + 1 = M64
  · have HR : Hid (nxG g = 0 ∧ nxS g sg = 0 ∧ nxE g = 12) := Lib.hid ⟨if_pos hn, if_pos hn, if_pos hn⟩
    have tw := nx_wrap1 g hn
    rw [HR.out.1, HR.out.2.1, HR.out.2.2]
    clear hn h
    go_enter Try.func12, Try.ntmps12
    go_wp2
    refine bodyPost_ret (v := .tuple #[.agg #[.int .u64 0, .int .i64 0], .int .i64 12]) (by simp [results, Try.results12, go_sem]) rfl ?_
    exact ⟨rfl, (two_new w _ _ _ _).2.2⟩
  · have tw := nx_wrap g h hn
    have tz : (((g + 1 : Nat) : Int) == 0) = false := by simp; omega
    by_cases hs : sg = 0
    · have HR : Hid (nxG g = g + 1 ∧ nxS g sg = 1 ∧ nxE g = 0) := Lib.hid ⟨if_neg hn, by unfold nxS; rw [if_neg hn, if_pos hs], if_neg hn⟩
      rw [HR.out.1, HR.out.2.1, HR.out.2.2]
      subst hs
      clear hn h HR
      generalize ((g + 1 : Nat) : Int) = g1 at *
      go_enter Try.func12, Try.ntmps12
      go_wp2
      refine bodyPost_ret (v := .tuple #[.agg #[.int .u64 g1, .int .i64 1], .int .i64 0]) (by simp [results, Try.results12, go_sem]) rfl ?_
      exact ⟨rfl, (two_new w _ _ _ _).2.2⟩
    · have HR : Hid (nxG g = g + 1 ∧ nxS g sg = 0 ∧ nxE g = 0) := Lib.hid ⟨if_neg hn, by unfold nxS; rw [if_neg hn, if_neg hs], if_neg hn⟩
      rw [HR.out.1, HR.out.2.1, HR.out.2.2]
      have ts : (sg == 0) = false := by simpa using hs
      clear hn h HR hs
      generalize ((g + 1 : Nat) : Int) = g1 at *
      go_enter Try.func12, Try.ntmps12
      go_wp2
      refine bodyPost_ret (v := .tuple #[.agg #[.int .u64 g1, .int .i64 0], .int .i64 0]) (by simp [results, Try.results12, go_sem]) rfl ?_
      exact ⟨rfl, (two_new w _ _ _ _).2.2⟩
end Go.Proofs.Ytejhlommjgibmaa
