/- The chains' calls among the arguments, opened; two numbers. No condition. -/
import Derived.Test.YtbjchfcoacmaaaaGreatDoorChecked
import Derived.Lib.SmallJoins
import Derived.Deep.Slices
import Derived.SizedLaws
import Derived.OpenShut
import Derived.WideKeyPair
import Derived.Test.YtbjchfcoacmaaaaGreatDoorTrodKitQ
import Derived.Test.YtbjchfcoacmaaaaGreatDoorCaMQ
namespace Go.Proofs.YtbjchfcoacmaaaaGreatDoor
open Go.RowKit Go.ChangeShapes Go.WideShapes Go.Deep Go.Joins
set_option linter.unusedVariables false
section
variable {H : Type} {enc : TypeId × Value → H} {W : World}
theorem u64_natC {z : Int} (h : (Lit.int .u64 z).wf = true) : ∃ n : Nat, z = (n : Int) ∧ n < 18446744073709551616 := by
  simp [Lit.wf, IntKind.min, IntKind.max, IntKind.signed, IntKind.bits] at h
  exact ⟨z.toNat, by omega, by omega⟩
theorem trod_six {P : Program} {w : World} {base : Nat} {spare : Nat → Bool} {held : Bool} {t : TypeId} {f0 f1 f2 f3 f4 f5 : Field} {fuel : Nat} {cs : List Value} {x : DataW H × List MemPlace} (ht : P.underlying t = some (.struct #[f0, f1, f2, f3, f4, f5])) (h : DataW.trod enc P w base spare held fuel t cs = some x) :
    ∃ y0 y1 y2 y3 y4 y5 n, DataW.trod enc P w base spare held n f0.type ((cs.drop f0.offset).take (P.cellsOf f0.type)) = some y0 ∧ DataW.trod enc P w base spare held n f1.type ((cs.drop f1.offset).take (P.cellsOf f1.type)) = some y1 ∧
      DataW.trod enc P w base spare held n f2.type ((cs.drop f2.offset).take (P.cellsOf f2.type)) = some y2 ∧ DataW.trod enc P w base spare held n f3.type ((cs.drop f3.offset).take (P.cellsOf f3.type)) = some y3 ∧
      DataW.trod enc P w base spare held n f4.type ((cs.drop f4.offset).take (P.cellsOf f4.type)) = some y4 ∧ DataW.trod enc P w base spare held n f5.type ((cs.drop f5.offset).take (P.cellsOf f5.type)) = some y5 := by
  obtain ⟨xs, n, _, rfl, hl, hlen, hf⟩ := DataW.trod_struct ht h
  match xs, hlen with
  | [y0, y1, y2, y3, y4, y5], _ => exact ⟨y0, y1, y2, y3, y4, y5, n, by simpa using hf 0 f0 rfl, by simpa using hf 1 f1 rfl, by simpa using hf 2 f2 rfl, by simpa using hf 3 f3 rfl, by simpa using hf 4 f4 rfl, by simpa using hf 5 f5 rfl⟩
/-- nine cells that are read as a call -/
theorem ca_cells {base : Nat} {spare : Nat → Bool} {held : Bool} {fuel : Nat} {c0 c1 c2 c3 c4 c5 c6 c7 c8 : Value} {x : DataW H × List MemPlace}
    (h : DataW.trod enc Tryz.prog W base spare held fuel 50 [c0, c1, c2, c3, c4, c5, c6, c7, c8] = some x) : ∃ a : CaV, [c0, c1, c2, c3, c4, c5, c6, c7, c8] = a.cells ∧ a.wf := by
  have k0 : Tryz.prog.cellsOf 4 = 1 := by kernel_rfl
  have k1 : Tryz.prog.cellsOf 3 = 1 := by kernel_rfl
  have k2 : Tryz.prog.cellsOf 9 = 1 := by kernel_rfl
  have k3 : Tryz.prog.cellsOf 22 = 1 := by kernel_rfl
  have k4 : Tryz.prog.cellsOf 46 = 4 := by kernel_rfl
  obtain ⟨y0, y1, y2, y3, y4, y5, m, t0, t1, t2, t3, t4, t5⟩ := trod_six Tryz.underlying50 h
  simp only [k0, k1, k2, k3, k4, List.drop_zero, List.drop_succ_cons, List.take_succ_cons, List.take_zero] at t0 t1 t2 t3 t4 t5
  obtain ⟨u0, u1, u2, u3, n2, s0, s1, s2, s3⟩ := trod_four Tryz.underlying46 t4
  simp only [k1, k2, k3, List.drop_zero, List.drop_succ_cons, List.take_succ_cons, List.take_zero] at s0 s1 s2 s3
  obtain ⟨z0, e0, _, _⟩ := DataW.trod_int Tryz.underlying3 t0
  obtain ⟨z1, e1, _, _⟩ := DataW.trod_int Tryz.underlying3 t1
  obtain ⟨z2, e2, _, g2⟩ := DataW.trod_int Tryz.underlying22 t2
  obtain ⟨z3, e3, _, _⟩ := DataW.trod_string Tryz.underlying9 t3
  obtain ⟨z4, e4, _, _⟩ := DataW.trod_int Tryz.underlying3 s0
  obtain ⟨z5, e5, _, g5⟩ := DataW.trod_int Tryz.underlying22 s1
  obtain ⟨z6, e6, _, g6⟩ := DataW.trod_int Tryz.underlying22 s2
  obtain ⟨z7, e7, _, _⟩ := DataW.trod_string Tryz.underlying9 s3
  obtain ⟨z8, e8, _⟩ := DataW.trod_bool Tryz.underlying4 t5
  obtain ⟨n2, rfl, l2⟩ := u64_natC g2
  obtain ⟨n5, rfl, l5⟩ := u64_natC g5
  obtain ⟨n6, rfl, l6⟩ := u64_natC g6
  simp only [List.cons.injEq, and_true] at e0 e1 e2 e3 e4 e5 e6 e7 e8
  subst e0 e1 e2 e3 e4 e5 e6 e7 e8
  exact ⟨⟨z0, z1, n2, z3, z4, n5, n6, z7, z8⟩, rfl, l2, l5, l6⟩
instance : Inhabited CaV := ⟨⟨0, 0, 0, ⟨#[]⟩, 0, 0, 0, ⟨#[]⟩, false⟩⟩
set_option maxRecDepth 100000 in
theorem cas_open {base : Nat} {v : Value} {d : DataW H} {p : List MemPlace}
    (hval : Value.okWide Tryz.prog W .any base 41 v) (h : DataW.Trod enc Tryz.prog W 0 (fun _ => true) true 41 v d p) (_hz : ∀ n ∈ d.weights Tryz.prog 41, n ≤ reachBytes) :
    ∃ A cap l, v = .slice A l.length cap ∧ l.length ≤ cap ∧ caE.Lo W W.heap.size A l ∧ ∀ n ∈ l, n.wf := by
  obtain ⟨a, len, cap, rfl⟩ := okWide_slice Tryz.underlying41 hval
  obtain ⟨fuel, hf⟩ := h
  have hc8 : Tryz.prog.cellsOf 50 = 9 := by kernel_rfl
  rcases open_slice Tryz.underlying41 hf with ⟨hcs, _⟩ | ⟨x, len', cap', m, n, D, Pl, hcs, _, hl, hm, hmm, hx, hel⟩
  · simp [Value.cells] at hcs
    obtain ⟨rfl, rfl, rfl⟩ := hcs
    exact ⟨none, 0, [], rfl, Nat.zero_le _, fun i hi => absurd hi (Nat.not_lt_zero _), fun n hn => by cases hn⟩
  · simp [Value.cells] at hcs
    obtain ⟨rfl, rfl, rfl⟩ := hcs
    simp only [if_true] at hmm
    subst hmm
    by_cases h0 : len = 0
    · subst h0
      exact ⟨some x, _, [], rfl, Nat.zero_le _, fun i hi => absurd hi (Nat.not_lt_zero _), fun n hn => by cases hn⟩
    obtain ⟨b, off, rfl⟩ : ∃ b off, x = ⟨b, off, none⟩ := by
      obtain ⟨cs, h1, _⟩ := hel 0 (by omega)
      rw [hc8, Nat.zero_mul] at h1
      exact head_flat (by decide) h1
    have key : ∀ i, i < len → ∃ c : CaV, c.wf ∧ b < W.heap.size ∧ ∀ j, j < 9 → W.cell? ⟨b, off + i * 9 + j, none⟩ = c.cells[j]? := by
      intro i hi
      obtain ⟨cs, h1, h2⟩ := hel i (Nat.lt_of_lt_of_le hi hl)
      rw [hc8, Kq.Elt.add_flat] at h1
      obtain ⟨_, hlen, hcell⟩ := World.cells?_some h1
      match cs, hlen with
      | [c0, c1, c2, c3, c4, c5, c6, c7, c8], _ =>
        obtain ⟨c, hc, hwf⟩ := ca_cells h2
        have q0 := hcell 0 (by omega)
        simp only [Kq.Elt.add_flat, Nat.add_zero, List.getElem?_cons_zero] at q0
        refine ⟨c, hwf, cell_lt q0, fun j hj => ?_⟩
        have := hcell j (by omega)
        rw [Kq.Elt.add_flat] at this
        rw [this, hc]
    obtain ⟨f, hf'⟩ := choose_lt key
    refine ⟨some ⟨b, off, none⟩, m, (List.range len).map f, by simp, by simp; omega, fun i hi => ?_, fun n hn => ?_⟩
    · have hi' : i < len := by simpa using hi
      obtain ⟨_, hlt, q⟩ := hf' i hi'
      refine ⟨b, off, rfl, hlt, hlt, fun j hj => ?_⟩
      have hj' : j < 9 := hj
      have := q j hj'
      simpa [caE] using this
    · obtain ⟨i, hi, rfl⟩ := List.mem_map.1 hn
      exact (hf' i (List.mem_range.1 hi)).1
theorem trod_array2C {P : Program} {w : World} {base : Nat} {spare : Nat → Bool} {held : Bool} {t e : TypeId} {fuel : Nat} {c0 c1 : Value} {x : DataW H × List MemPlace} (ht : P.underlying t = some (.array 2 e)) (hce : P.cellsOf e = 1)
    (h : DataW.trod enc P w base spare held fuel t [c0, c1] = some x) :
    ∃ y0 y1 n, DataW.trod enc P w base spare held n e [c0] = some y0 ∧ DataW.trod enc P w base spare held n e [c1] = some y1 := by
  obtain ⟨xs, m, _, rfl, hl, hlen, hf⟩ := DataW.trod_array ht h
  match xs, hlen with
  | [y0, y1], _ => exact ⟨y0, y1, m, by simpa [hce] using hf 0 (by omega), by simpa [hce] using hf 1 (by omega)⟩
set_option maxRecDepth 100000 in
theorem arr2_open {base : Nat} {v : Value} {d : DataW H} {p : List MemPlace}
    (hval : Value.okWide Tryz.prog W .any base 40 v) (h : DataW.Trod enc Tryz.prog W 0 (fun _ => true) true 40 v d p) (_hz : ∀ n ∈ d.weights Tryz.prog 40, n ≤ reachBytes) :
    ∃ a b : Nat, v = .agg #[.int .u64 (a : Int), .int .u64 (b : Int)] ∧ a < 18446744073709551616 ∧ b < 18446744073709551616 := by
  have k3 : Tryz.prog.cellsOf 22 = 1 := by kernel_rfl
  have k2 : Tryz.prog.cellsOf 40 = 2 := by kernel_rfl
  obtain ⟨cs, rfl, hsz⟩ : ∃ cs, v = .agg cs ∧ cs.size = Tryz.prog.cellsOf 40 := by
    simp only [Value.okWide, Tryz.underlying40] at hval
    obtain ⟨cs, h1, h2, _⟩ := hval
    exact ⟨cs, h1, h2⟩
  rw [k2] at hsz
  obtain ⟨c0, c1, rfl⟩ : ∃ c0 c1, cs = #[c0, c1] := by
    obtain ⟨l⟩ := cs
    match l, hsz with
    | [x0, x1], _ => exact ⟨x0, x1, rfl⟩
  obtain ⟨fuel, hf⟩ := h
  obtain ⟨y0, y1, n, t0, t1⟩ := trod_array2C Tryz.underlying40 k3 hf
  obtain ⟨z0, e0, _, g0⟩ := DataW.trod_int Tryz.underlying22 t0
  obtain ⟨z1, e1, _, g1⟩ := DataW.trod_int Tryz.underlying22 t1
  obtain ⟨n0, rfl, l0⟩ := u64_natC g0
  obtain ⟨n1, rfl, l1⟩ := u64_natC g1
  simp only [List.cons.injEq, and_true] at e0 e1
  subst e0 e1
  exact ⟨n0, n1, rfl, l0, l1⟩
end
end Go.Proofs.YtbjchfcoacmaaaaGreatDoor
