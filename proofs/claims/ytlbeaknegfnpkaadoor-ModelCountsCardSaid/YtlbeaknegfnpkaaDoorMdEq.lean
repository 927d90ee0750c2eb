/- Equality of packets. No condition. -/
import Derived.WalkSpells
import Derived.Outline
import Derived.Test.YtlbeaknegfnpkaaDoorMdM
import Derived.Laws.StructEq
import Derived.ProofKit
import Derived.Test.YtlbeaknegfnpkaaDoorChecked
namespace Go.Proofs.YtlbeaknegfnpkaaDoor
open Go.RowKit
set_option linter.unusedVariables false
theorem pt_ext {p q : PtV} (h1 : p.f = q.f) (h2 : p.q = q.q) (h3 : p.t = q.t) (h4 : p.d = q.d) : p = q := by
  obtain ⟨a1, a2, a3, a4⟩ := p
  obtain ⟨b1, b2, b3, b4⟩ := q
  simp only at h1 h2 h3 h4
  rw [h1, h2, h3, h4]
theorem ba_beq {s t : ByteArray} : (s.toList == t.toList) = decide (s = t) := by
  by_cases h : s = t
  · subst h; simp
  · rw [decide_eq_false h, beq_eq_false_iff_ne]
    intro e
    rw [ByteArray.toList_eq, ByteArray.toList_eq] at e
    exact h (ByteArray.ext (Array.toList_inj.1 e))
set_option maxRecDepth 100000 in
theorem pt_eql (p q : PtV) (w : World) : (binOp .eql 32 (.agg #[.int .i64 p.f, .int .u64 p.q, .int .u64 p.t, .string p.d]) (.agg #[.int .i64 q.f, .int .u64 q.q, .int .u64 q.t, .string q.d])).run Tryd.prog w = .ok (.bool (decide (p = q))) w := by
  have e : decide (p = q) = (decide (p.f = q.f) && (decide (p.q = q.q) && (decide (p.t = q.t) && decide (p.d = q.d)))) := by
    rw [← Bool.decide_and, ← Bool.decide_and, ← Bool.decide_and, decide_eq_decide]
    constructor
    · rintro rfl; exact ⟨rfl, rfl, rfl, rfl⟩
    · rintro ⟨h1, h2, h3, h4⟩; exact pt_ext h1 h2 h3 h4
  rw [e]
  have hs : Tryd.prog.stoodInHeld 32 = false := by kernel_rfl
  by_cases h1 : p.f = q.f
  · by_cases h2 : p.q = q.q
    · by_cases h3 : p.t = q.t
      · by_cases h4 : p.d = q.d <;> simp [go_sem, h1, h2, h3, h4, hs, Tryd.underlying32, Tryd.underlying3, Tryd.underlying30, Tryd.underlying9, ba_beq]
      · simp [go_sem, h1, h2, h3, hs, Tryd.underlying32, Tryd.underlying3, Tryd.underlying30, Tryd.underlying9]
    · simp [go_sem, h1, h2, hs, Tryd.underlying32, Tryd.underlying3, Tryd.underlying30, Tryd.underlying9]
  · simp [go_sem, h1, hs, Tryd.underlying32, Tryd.underlying3, Tryd.underlying30, Tryd.underlying9]
theorem pt_neq (p q : PtV) (w : World) : (binOp .neq 32 (.agg #[.int .i64 p.f, .int .u64 p.q, .int .u64 p.t, .string p.d]) (.agg #[.int .i64 q.f, .int .u64 q.q, .int .u64 q.t, .string q.d])).run Tryd.prog w = .ok (.bool (!decide (p = q))) w := by
  have h := pt_eql p q w
  rw [run_eql_struct] at h
  rw [run_neq_struct]
  revert h
  generalize (Op.equalIn 10000 32 (.agg #[.int .i64 p.f, .int .u64 p.q, .int .u64 p.t, .string p.d]) (.agg #[.int .i64 q.f, .int .u64 q.q, .int .u64 q.t, .string q.d])).run Tryd.prog w = r
  intro h
  cases r with
  | ok b w1 =>
    simp only [Result.andThen_ok, Result.ok.injEq, Value.bool.injEq] at h ⊢
    rw [h.1, h.2]
    exact ⟨rfl, rfl⟩
  | halt x w1 => cases h
end Go.Proofs.YtlbeaknegfnpkaaDoor
