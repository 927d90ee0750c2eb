/- A packet among the arguments, opened: what a walk is told of it. No condition. -/
import Derived.Test.YtkdommljaciahaaChecked
import Derived.Lib.SmallJoins
import Derived.SizedLaws
import Derived.Test.YtkdommljaciahaaPkChk
namespace Go.Proofs.Ytkdommljaciahaa
open Go.RowKit Go.ChangeShapes Go.WideShapes Go.Deep Go.Joins
set_option linter.unusedVariables false
/-- a packet's numbers fit -/
structure PkFits (p : PkV) : Prop where
  q : 0 ≤ p.q ∧ p.q < 18446744073709551616
  t : 0 ≤ p.t ∧ p.t < 18446744073709551616
  d : p.d.size ≤ reachBytes
set_option maxRecDepth 100000 in
theorem pk_open {H : Type} {enc : TypeId × Value → H} {W : World} {base : Nat} {v : Value} {d : DataW H} {p : List MemPlace}
    (hval : Value.okWide Try.prog W .any base 28 v) (h : DataW.Trod enc Try.prog W 0 (fun _ => true) true 28 v d p) (hz : ∀ n ∈ d.weights Try.prog 28, n ≤ reachBytes) :
    ∃ x : PkV, v = x.val ∧ PkFits x := by
  obtain ⟨v0, v1, v2, v3, y0, y1, y2, y3, n, rfl, hd, -, t0, t1, t2, t3⟩ := open_agg4 Try.underlying28 (by kernel_rfl) (by kernel_rfl) hval h
  obtain ⟨z0, e0, _, w0⟩ := DataW.trod_int Try.underlying3 t0
  obtain ⟨z1, e1, _, w1⟩ := DataW.trod_int Try.underlying24 t1
  obtain ⟨z2, e2, _, w2⟩ := DataW.trod_int Try.underlying24 t2
  obtain ⟨z3, e3, y3e, w3⟩ := DataW.trod_string Try.underlying9 t3
  simp only [List.cons.injEq, and_true] at e0 e1 e2 e3
  subst e0 e1 e2 e3
  refine ⟨⟨z0, z1, z2, z3⟩, rfl, ?_, ?_, ?_⟩
  · show 0 ≤ z1 ∧ z1 < 18446744073709551616
    simp [Lit.wf, IntKind.min, IntKind.max, IntKind.signed, IntKind.bits] at w1; omega
  · show 0 ≤ z2 ∧ z2 < 18446744073709551616
    simp [Lit.wf, IntKind.min, IntKind.max, IntKind.signed, IntKind.bits] at w2; omega
  · refine hz _ ?_
    rw [hd, y3e]
    have e2 := Try.underlying28
    simp [DataW.weights, e2, DataW.weightsEach]
end Go.Proofs.Ytkdommljaciahaa
