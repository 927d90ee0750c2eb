/- Contracts of carrackref14.Right, RightItem. Condition: sizes. -/
import Derived.WalkSpells
import Derived.Deep.RegionHeld
import Derived.Test.YtkbiolhcpghmkaaGreatRefValQ
namespace Go.Proofs.YtkbiolhcpghmkaaGreat
open Go.RowKit
set_option linter.unusedVariables false
instance (k f q t : Int) (d : ByteArray) : Decidable (NtOk k f q t d) := by unfold NtOk; infer_instance
instance (marks : List Int) (n : NtV) : Decidable (EnOk marks n) := by unfold EnOk; infer_instance
set_option maxRecDepth 100000 in
set_option maxHeartbeats 1000000 in
theorem r14_right_ok (n : NtV) (w : World) (h : 1 ≤ n.k ∧ n.k ≤ 4 ∧ PkOk n.p) (hwf : n.wf) :
    Calls Tryz.prog 70 #[.agg #[.int .i64 n.k, .int .i64 n.f, .int .u64 n.q, .int .u64 n.t, .string n.d]] w fun x w' => x = .returned (.bool true) ∧ Below w.heap.size w w' := by
  obtain ⟨k, f, q, t, d⟩ := n
  simp only at h hwf ⊢
  have d1 : decide (1 ≤ k) = true := decide_eq_true h.1
  have d2 : decide (k ≤ 4) = true := decide_eq_true h.2.1
  have H := Lib.hid (And.intro h.2.2 hwf)
  have HB := Lib.hid (Kq.below_alloc w (.cells #[.int .i64 k, .int .i64 f, .int .u64 q, .int .u64 t, .string d] 46))
  clear h hwf
  go_enter Tryz.func70, Tryz.ntmps70
  go_wp2_with fail
  refine (ref_right_ok f q t d _ H.out.1 H.out.2.1.1 H.out.2.2.1).mono ?_
  rintro x w2 ⟨rfl, b2⟩
  have HB2 := Lib.hid (HB.out.trans (b2.mono HB.out.size))
  clear b2 HB
  go_wp2
  go_ret
  exact ⟨rfl, HB2.out⟩
set_option maxRecDepth 100000 in
set_option maxHeartbeats 1000000 in
theorem r14_right_bad (n : NtV) (w : World) (h : ¬ (1 ≤ n.k ∧ n.k ≤ 4 ∧ PkOk n.p)) (hwf : n.wf) :
    Calls Tryz.prog 70 #[.agg #[.int .i64 n.k, .int .i64 n.f, .int .u64 n.q, .int .u64 n.t, .string n.d]] w fun x w' => x = .returned (.bool false) ∧ Below w.heap.size w w' := by
  obtain ⟨k, f, q, t, d⟩ := n
  simp only at h hwf ⊢
  have HB := Lib.hid (Kq.below_alloc w (.cells #[.int .i64 k, .int .i64 f, .int .u64 q, .int .u64 t, .string d] 46))
  have H := Lib.hid (And.intro h hwf)
  clear h hwf
  by_cases h1 : 1 ≤ k
  · have d1 : decide (1 ≤ k) = true := decide_eq_true h1
    by_cases h2 : k ≤ 4
    · have d2 : decide (k ≤ 4) = true := decide_eq_true h2
      have HP : Hid (¬ PkOk ⟨f, q, t, d⟩) := Lib.hid (fun hp => H.out.1 ⟨h1, h2, hp⟩)
      go_enter Tryz.func70, Tryz.ntmps70
      go_wp2_with fail
      refine (ref_right_bad f q t d _ HP.out H.out.2.1.1 H.out.2.2.1).mono ?_
      rintro x w2 ⟨rfl, b2⟩
      have HB2 := Lib.hid (HB.out.trans (b2.mono HB.out.size))
      clear b2 HB
      go_wp2
      go_ret
      exact ⟨rfl, HB2.out⟩
    · have d2 : decide (k ≤ 4) = false := decide_eq_false h2
      go_enter Tryz.func70, Tryz.ntmps70
      go_wp2
      go_ret
      exact ⟨rfl, HB.out⟩
  · have d1 : decide (1 ≤ k) = false := decide_eq_false h1
    go_enter Tryz.func70, Tryz.ntmps70
    go_wp2
    go_ret
    exact ⟨rfl, HB.out⟩
set_option maxRecDepth 100000 in
set_option maxHeartbeats 1000000 in
theorem r14_item_ok (n : NtV) (w : World) (h : (n.k = 1 ∨ n.k = 2) ∧ PkOk n.p) (hwf : n.wf) :
    Calls Tryz.prog 46 #[.agg #[.int .i64 n.f, .int .u64 n.q, .int .u64 n.t, .string n.d, .int .i64 n.k]] w fun x w' => x = .returned (.bool true) ∧ Below w.heap.size w w' := by
  obtain ⟨k, f, q, t, d⟩ := n
  simp only at h hwf ⊢
  have H := Lib.hid (And.intro h.2 hwf)
  have HB := Lib.hid (Kq.below_alloc w (.cells #[.int .i64 f, .int .u64 q, .int .u64 t, .string d, .int .i64 k] 51))
  have hk := h.1
  clear h hwf
  rcases hk with rfl | rfl
  all_goals
    go_enter Tryz.func46, Tryz.ntmps46
    go_wp2_with fail
    refine (ref_right_ok f q t d _ H.out.1 H.out.2.1.1 H.out.2.2.1).mono ?_
    rintro x w2 ⟨rfl, b2⟩
    have HB2 := Lib.hid (HB.out.trans (b2.mono HB.out.size))
    clear b2 HB
    go_wp2
    go_ret
    exact ⟨rfl, HB2.out⟩
set_option maxRecDepth 100000 in
set_option maxHeartbeats 1000000 in
theorem r14_item_bad (n : NtV) (w : World) (h : ¬ ((n.k = 1 ∨ n.k = 2) ∧ PkOk n.p)) (hwf : n.wf) :
    Calls Tryz.prog 46 #[.agg #[.int .i64 n.f, .int .u64 n.q, .int .u64 n.t, .string n.d, .int .i64 n.k]] w fun x w' => x = .returned (.bool false) ∧ Below w.heap.size w w' := by
  obtain ⟨k, f, q, t, d⟩ := n
  simp only at h hwf ⊢
  have HB := Lib.hid (Kq.below_alloc w (.cells #[.int .i64 f, .int .u64 q, .int .u64 t, .string d, .int .i64 k] 51))
  have H := Lib.hid (And.intro h hwf)
  clear h hwf
  by_cases hk : k = 1 ∨ k = 2
  · have HP : Hid (¬ PkOk ⟨f, q, t, d⟩) := Lib.hid (fun hp => H.out.1 ⟨hk, hp⟩)
    rcases hk with rfl | rfl
    all_goals
      go_enter Tryz.func46, Tryz.ntmps46
      go_wp2_with fail
      refine (ref_right_bad f q t d _ HP.out H.out.2.1.1 H.out.2.2.1).mono ?_
      rintro x w2 ⟨rfl, b2⟩
      have HB2 := Lib.hid (HB.out.trans (b2.mono HB.out.size))
      clear b2 HB
      go_wp2
      go_ret
      exact ⟨rfl, HB2.out⟩
  · have e1 : (k == 1) = false := by simp only [beq_eq_false_iff_ne]; exact fun h => hk (Or.inl h)
    have e2 : (k == 2) = false := by simp only [beq_eq_false_iff_ne]; exact fun h => hk (Or.inr h)
    clear hk
    go_enter Tryz.func46, Tryz.ntmps46
    go_wp2
    go_ret
    exact ⟨rfl, HB.out⟩
end Go.Proofs.YtkbiolhcpghmkaaGreat
