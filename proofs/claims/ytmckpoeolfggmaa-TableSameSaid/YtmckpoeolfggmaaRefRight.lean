/- Contract of carrackref10.Right. Condition: sequence and timeout are not negative. -/
import Derived.WalkSpells
import Derived.Test.YtmckpoeolfggmaaPkChk
namespace Go.Proofs.Ytmckpoeolfggmaa
open Go.RowKit
set_option linter.unusedVariables false
set_option maxRecDepth 100000 in
set_option maxHeartbeats 1000000 in
theorem ref_right_ok (f q t : Int) (d : ByteArray) (w : World) (h : PkOk ⟨f, q, t, d⟩) (hq : 0 ≤ q) (ht : 0 ≤ t) :
    Calls Try.prog 51 #[.agg #[.int .i64 f, .int .u64 q, .int .u64 t, .string d]] w fun x w' => x = .returned (.bool true) ∧ Below w.heap.size w w' := by
  obtain ⟨h1, h2, h3, h4, h5⟩ := h
  simp only at h1 h2 h3 h4 h5
  have e3 : decide (0 < q) = true := decide_eq_true (by omega)
  have e4 : decide (0 < t) = true := decide_eq_true (by omega)
  have e5 : decide ((d.size : Int) ≤ 64) = true := decide_eq_true (by omega)
  have e6 : ¬ 64 < d.size := by omega
  clear h3 h4
  have h01 : f = 0 ∨ f = 1 := by omega
  clear h1 h2
  rcases h01 with rfl | rfl
  · go_enter Try.func51, Try.ntmps51
    go_wp2
    go_ret
    exact ⟨rfl, Kq.below_alloc _ _⟩
  · go_enter Try.func51, Try.ntmps51
    go_wp2
    go_ret
    exact ⟨rfl, Kq.below_alloc _ _⟩
set_option maxRecDepth 100000 in
set_option maxHeartbeats 2000000 in
theorem ref_right_bad (f q t : Int) (d : ByteArray) (w : World) (h : ¬ PkOk ⟨f, q, t, d⟩) (hq : 0 ≤ q) (ht : 0 ≤ t) :
    Calls Try.prog 51 #[.agg #[.int .i64 f, .int .u64 q, .int .u64 t, .string d]] w fun x w' => x = .returned (.bool false) ∧ Below w.heap.size w w' := by
  have H := Lib.hid h
  clear h
  by_cases h0 : f = 0 ∨ f = 1
  · have H0 := Lib.hid h0
    by_cases h3 : 0 < q
    · by_cases h4 : 0 < t
      · have h5 : 64 < d.size := by
          refine Nat.lt_of_not_le fun h5 => H.out ⟨?_, ?_, ?_, ?_, h5⟩
          · show 0 ≤ f; omega
          · show f ≤ 1; omega
          · show q ≠ 0; omega
          · show t ≠ 0; omega
        have e3 : decide (0 < q) = true := decide_eq_true h3
        have e4 : decide (0 < t) = true := decide_eq_true h4
        have e5 : decide ((d.size : Int) ≤ 64) = false := decide_eq_false (by omega)
        rcases h0 with rfl | rfl
        · go_enter Try.func51, Try.ntmps51
          go_wp2
          go_ret
          exact ⟨rfl, Kq.below_alloc _ _⟩
        · go_enter Try.func51, Try.ntmps51
          go_wp2
          go_ret
          exact ⟨rfl, Kq.below_alloc _ _⟩
      · have e3 : decide (0 < q) = true := decide_eq_true h3
        have e4 : decide (0 < t) = false := decide_eq_false h4
        rcases h0 with rfl | rfl
        · go_enter Try.func51, Try.ntmps51
          go_wp2
          go_ret
          exact ⟨rfl, Kq.below_alloc _ _⟩
        · go_enter Try.func51, Try.ntmps51
          go_wp2
          go_ret
          exact ⟨rfl, Kq.below_alloc _ _⟩
    · have e3 : decide (0 < q) = false := decide_eq_false h3
      rcases h0 with rfl | rfl
      · go_enter Try.func51, Try.ntmps51
        go_wp2
        go_ret
        exact ⟨rfl, Kq.below_alloc _ _⟩
      · go_enter Try.func51, Try.ntmps51
        go_wp2
        go_ret
        exact ⟨rfl, Kq.below_alloc _ _⟩
  · have n0 : (f == 0) = false := by simp; omega
    have n1 : (f == 1) = false := by simp; omega
    clear h0
    go_enter Try.func51, Try.ntmps51
    go_wp2
    go_ret
    exact ⟨rfl, Kq.below_alloc _ _⟩
end Go.Proofs.Ytmckpoeolfggmaa
