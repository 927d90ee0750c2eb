/- A table's acts among the arguments, opened. No condition. -/
import Derived.Test.YtmckpoeolfggmaaChecked
import Derived.Lib.SmallJoins
import Derived.Deep.Slices
import Derived.SizedLaws
import Derived.Test.YtmckpoeolfggmaaTrodKit
import Derived.Test.YtmckpoeolfggmaaNtOpen
import Derived.Test.YtmckpoeolfggmaaTwDo
namespace Go.Proofs.Ytmckpoeolfggmaa
open Go.RowKit Go.ChangeShapes Go.WideShapes Go.Deep Go.Joins
set_option linter.unusedVariables false
section
variable {H : Type} {enc : TypeId × Value → H} {W : World}
/-- six cells that are read as an act -/
theorem act_cells {base : Nat} {spare : Nat → Bool} {held : Bool} {fuel : Nat} {c0 c1 c2 c3 c4 c5 : Value} {x : DataW H × List MemPlace}
    (h : DataW.trod enc Try.prog W base spare held fuel 42 [c0, c1, c2, c3, c4, c5] = some x) : ∃ a : AcV, [c0, c1, c2, c3, c4, c5] = a.c ∧ a.wf := by
  have k0 : Try.prog.cellsOf 4 = 1 := by kernel_rfl
  have k1 : Try.prog.cellsOf 3 = 1 := by kernel_rfl
  have k2 : Try.prog.cellsOf 9 = 1 := by kernel_rfl
  have k3 : Try.prog.cellsOf 23 = 1 := by kernel_rfl
  have k4 : Try.prog.cellsOf 38 = 4 := by kernel_rfl
  have k5 : Try.prog.cellsOf 40 = 5 := by kernel_rfl
  obtain ⟨y, y', m, tb, tn⟩ := trod_two Try.underlying42 h
  simp only [k0, k5, List.drop_zero, List.drop_succ_cons, List.take_succ_cons, List.take_zero] at tb tn
  obtain ⟨y0, y1, n', t0, t1⟩ := trod_two Try.underlying40 tn
  simp only [k1, k4, List.drop_zero, List.drop_succ_cons, List.take_succ_cons, List.take_zero] at t0 t1
  obtain ⟨u0, u1, u2, u3, n2, s0, s1, s2, s3⟩ := trod_four Try.underlying38 t1
  simp only [k1, k2, k3, List.drop_zero, List.drop_succ_cons, List.take_succ_cons, List.take_zero] at s0 s1 s2 s3
  obtain ⟨b, e, _⟩ := DataW.trod_bool Try.underlying4 tb
  obtain ⟨z0, e0, _, _⟩ := DataW.trod_int Try.underlying3 t0
  obtain ⟨z1, e1, _, g1⟩ := DataW.trod_int Try.underlying3 s0
  obtain ⟨z2, e2, _, g2⟩ := DataW.trod_int Try.underlying23 s1
  obtain ⟨z3, e3, _, g3⟩ := DataW.trod_int Try.underlying23 s2
  obtain ⟨z4, e4, _, _⟩ := DataW.trod_string Try.underlying9 s3
  simp only [List.cons.injEq, and_true] at e e0 e1 e2 e3 e4
  subst e e0 e1 e2 e3 e4
  exact ⟨⟨b, ⟨z0, z1, z2, z3, z4⟩⟩, rfl, ⟨u64_fits g2, u64_fits g3⟩, g1, g2⟩
instance : Inhabited AcV := ⟨⟨false, default⟩⟩
set_option maxRecDepth 100000 in
theorem acts15_open {base : Nat} {v : Value} {d : DataW H} {p : List MemPlace}
    (hval : Value.okWide Try.prog W .any base 22 v) (h : DataW.Trod enc Try.prog W 0 (fun _ => true) true 22 v d p) (_hz : ∀ n ∈ d.weights Try.prog 22, n ≤ reachBytes) :
    ∃ A cap l, v = .slice A l.length cap ∧ l.length ≤ cap ∧ acE.Lo W W.heap.size A l ∧ ∀ n ∈ l, n.wf := by
  obtain ⟨a, len, cap, rfl⟩ := okWide_slice Try.underlying22 hval
  obtain ⟨fuel, hf⟩ := h
  have hc8 : Try.prog.cellsOf 42 = 6 := by kernel_rfl
  rcases open_slice Try.underlying22 hf with ⟨hcs, _⟩ | ⟨x, len', cap', m, n, D, Pl, hcs, _, hl, hm, hmm, hx, hel⟩
  · simp [Value.cells] at hcs
    obtain ⟨rfl, rfl, rfl⟩ := hcs
    exact ⟨none, 0, [], rfl, Nat.zero_le _, fun i hi => absurd hi (Nat.not_lt_zero _), fun n hn => by cases hn⟩
  · simp [Value.cells] at hcs
    obtain ⟨rfl, rfl, rfl⟩ := hcs
    simp only [if_true] at hmm
    subst hmm
    by_cases h0 : len = 0
    · subst h0
      exact ⟨some x, _, [], rfl, Nat.zero_le _, fun i hi => absurd hi (Nat.not_lt_zero _), fun n hn => by cases hn⟩
    obtain ⟨b, off, rfl⟩ : ∃ b off, x = ⟨b, off, none⟩ := by
      obtain ⟨cs, h1, _⟩ := hel 0 (by omega)
      rw [hc8, Nat.zero_mul] at h1
      exact head_flat (by decide) h1
    have key : ∀ i, i < len → ∃ c : AcV, c.wf ∧ b < W.heap.size ∧ ∀ j, j < 6 → W.cell? ⟨b, off + i * 6 + j, none⟩ = c.c[j]? := by
      intro i hi
      obtain ⟨cs, h1, h2⟩ := hel i (Nat.lt_of_lt_of_le hi hl)
      rw [hc8, Kq.Elt.add_flat] at h1
      obtain ⟨_, hlen, hcell⟩ := World.cells?_some h1
      match cs, hlen with
      | [c0, c1, c2, c3, c4, c5], _ =>
        obtain ⟨c, hc, hwf⟩ := act_cells h2
        have q0 := hcell 0 (by omega)
        simp only [Kq.Elt.add_flat, Nat.add_zero, List.getElem?_cons_zero] at q0
        refine ⟨c, hwf, cell_lt q0, fun j hj => ?_⟩
        have q := hcell j hj
        rw [Kq.Elt.add_flat] at q
        rw [q, hc]
    obtain ⟨f, hf'⟩ := choose_lt key
    refine ⟨some ⟨b, off, none⟩, m, (List.range len).map f, by simp, by simp; omega, fun i hi => ?_, fun n hn => ?_⟩
    · have hi' : i < len := by simpa using hi
      obtain ⟨_, hlt, q⟩ := hf' i hi'
      refine ⟨b, off, rfl, hlt, hlt, fun j hj => ?_⟩
      have q2 := q j hj
      simp only [List.getElem_map, List.getElem_range]
      exact q2
    · obtain ⟨i, hi, rfl⟩ := List.mem_map.1 hn
      exact (hf' i (List.mem_range.1 hi)).1
set_option maxRecDepth 100000 in
/-- a packet -/
theorem pk15_open {base : Nat} {v : Value} {d : DataW H} {p : List MemPlace}
    (hval : Value.okWide Try.prog W .any base 38 v) (h : DataW.Trod enc Try.prog W 0 (fun _ => true) true 38 v d p) (_hz : ∀ n ∈ d.weights Try.prog 38, n ≤ reachBytes) :
    ∃ f q t : Int, ∃ d : ByteArray, v = .agg #[.int .i64 f, .int .u64 q, .int .u64 t, .string d] ∧ nmW (f, q) ∧ NtV.wf ⟨0, f, q, t, d⟩ := by
  have k1 : Try.prog.cellsOf 3 = 1 := by kernel_rfl
  have k2 : Try.prog.cellsOf 9 = 1 := by kernel_rfl
  have k3 : Try.prog.cellsOf 23 = 1 := by kernel_rfl
  obtain ⟨cs, rfl, hsz⟩ := okWide_struct Try.underlying38 hval
  obtain ⟨c0, c1, c2, c3, rfl⟩ : ∃ c0 c1 c2 c3, cs = #[c0, c1, c2, c3] := by
    have h4 := hsz.trans (show _ = 4 by kernel_rfl)
    obtain ⟨l⟩ := cs
    match l, h4 with
    | [x0, x1, x2, x3], _ => exact ⟨x0, x1, x2, x3, rfl⟩
  obtain ⟨fuel, hf⟩ := h
  obtain ⟨u0, u1, u2, u3, n2, s0, s1, s2, s3⟩ := trod_four Try.underlying38 hf
  simp only [Value.cells, k1, k2, k3, List.drop_zero, List.drop_succ_cons, List.take_succ_cons, List.take_zero] at s0 s1 s2 s3
  obtain ⟨z1, e1, _, g1⟩ := DataW.trod_int Try.underlying3 s0
  obtain ⟨z2, e2, _, g2⟩ := DataW.trod_int Try.underlying23 s1
  obtain ⟨z3, e3, _, g3⟩ := DataW.trod_int Try.underlying23 s2
  obtain ⟨z4, e4, _, _⟩ := DataW.trod_string Try.underlying9 s3
  simp only [List.cons.injEq, and_true] at e1 e2 e3 e4
  subst e1 e2 e3 e4
  exact ⟨z1, z2, z3, z4, rfl, ⟨g1, g2⟩, u64_fits g2, u64_fits g3⟩
end
end Go.Proofs.Ytmckpoeolfggmaa
