/- Notes, items, a note, a place among the arguments, opened. No condition. -/
import Derived.Test.YtkbiolhcpghmkaaGreatChecked
import Derived.Lib.SmallJoins
import Derived.Deep.Slices
import Derived.SizedLaws
import Derived.Test.YtkbiolhcpghmkaaGreatTrodKitQ
import Derived.Test.YtkbiolhcpghmkaaGreatRefValQ
import Derived.Test.YtkbiolhcpghmkaaGreatRowGQ
namespace Go.Proofs.YtkbiolhcpghmkaaGreat
open Go.RowKit Go.ChangeShapes Go.WideShapes Go.Deep Go.Joins
set_option linter.unusedVariables false
instance instInhNtO : Inhabited NtV := ⟨⟨0, 0, 0, 0, ⟨#[]⟩⟩⟩
section
variable {H : Type} {enc : TypeId × Value → H} {W : World}
theorem u64_fits {z : Int} (h : (Lit.int .u64 z).wf = true) : 0 ≤ z ∧ z < 18446744073709551616 := by
  simp [Lit.wf, IntKind.min, IntKind.max, IntKind.signed, IntKind.bits] at h; omega
theorem array_five {α : Type} {a : Array α} (h : a.size = 5) : ∃ x0 x1 x2 x3 x4, a = #[x0, x1, x2, x3, x4] := by
  obtain ⟨l⟩ := a
  match l, h with
  | [x0, x1, x2, x3, x4], _ => exact ⟨x0, x1, x2, x3, x4, rfl⟩
/-- five cells that are read as a note -/
theorem note_cells {base : Nat} {spare : Nat → Bool} {held : Bool} {fuel : Nat} {c0 c1 c2 c3 c4 : Value} {x : DataW H × List MemPlace}
    (h : DataW.trod enc Tryz.prog W base spare held fuel 46 [c0, c1, c2, c3, c4] = some x) : ∃ n : NtV, [c0, c1, c2, c3, c4] = n.nc ∧ n.wf := by
  have k1 : Tryz.prog.cellsOf 3 = 1 := by kernel_rfl
  have k2 : Tryz.prog.cellsOf 9 = 1 := by kernel_rfl
  have k3 : Tryz.prog.cellsOf 22 = 1 := by kernel_rfl
  have k4 : Tryz.prog.cellsOf 44 = 4 := by kernel_rfl
  obtain ⟨y0, y1, n', t0, t1⟩ := trod_two Tryz.underlying46 h
  simp only [k1, k4, List.drop_zero, List.drop_succ_cons, List.take_succ_cons, List.take_zero] at t0 t1
  obtain ⟨u0, u1, u2, u3, n2, s0, s1, s2, s3⟩ := trod_four Tryz.underlying44 t1
  simp only [k1, k2, k3, List.drop_zero, List.drop_succ_cons, List.take_succ_cons, List.take_zero] at s0 s1 s2 s3
  obtain ⟨z0, e0, _, _⟩ := DataW.trod_int Tryz.underlying3 t0
  obtain ⟨z1, e1, _, _⟩ := DataW.trod_int Tryz.underlying3 s0
  obtain ⟨z2, e2, _, g2⟩ := DataW.trod_int Tryz.underlying22 s1
  obtain ⟨z3, e3, _, g3⟩ := DataW.trod_int Tryz.underlying22 s2
  obtain ⟨z4, e4, _, _⟩ := DataW.trod_string Tryz.underlying9 s3
  simp only [List.cons.injEq, and_true] at e0 e1 e2 e3 e4
  subst e0 e1 e2 e3 e4
  exact ⟨⟨z0, z1, z2, z3, z4⟩, rfl, u64_fits g2, u64_fits g3⟩
theorem item_cells {base : Nat} {spare : Nat → Bool} {held : Bool} {fuel : Nat} {c0 c1 c2 c3 c4 : Value} {x : DataW H × List MemPlace}
    (h : DataW.trod enc Tryz.prog W base spare held fuel 51 [c0, c1, c2, c3, c4] = some x) : ∃ n : NtV, [c0, c1, c2, c3, c4] = n.ic ∧ n.wf := by
  have k1 : Tryz.prog.cellsOf 3 = 1 := by kernel_rfl
  have k2 : Tryz.prog.cellsOf 9 = 1 := by kernel_rfl
  have k3 : Tryz.prog.cellsOf 22 = 1 := by kernel_rfl
  have k4 : Tryz.prog.cellsOf 44 = 4 := by kernel_rfl
  obtain ⟨y0, y1, n', t1, t0⟩ := trod_two Tryz.underlying51 h
  simp only [k1, k4, List.drop_zero, List.drop_succ_cons, List.take_succ_cons, List.take_zero] at t0 t1
  obtain ⟨u0, u1, u2, u3, n2, s0, s1, s2, s3⟩ := trod_four Tryz.underlying44 t1
  simp only [k1, k2, k3, List.drop_zero, List.drop_succ_cons, List.take_succ_cons, List.take_zero] at s0 s1 s2 s3
  obtain ⟨z0, e0, _, _⟩ := DataW.trod_int Tryz.underlying3 t0
  obtain ⟨z1, e1, _, _⟩ := DataW.trod_int Tryz.underlying3 s0
  obtain ⟨z2, e2, _, g2⟩ := DataW.trod_int Tryz.underlying22 s1
  obtain ⟨z3, e3, _, g3⟩ := DataW.trod_int Tryz.underlying22 s2
  obtain ⟨z4, e4, _, _⟩ := DataW.trod_string Tryz.underlying9 s3
  simp only [List.cons.injEq, and_true] at e0 e1 e2 e3 e4
  subst e0 e1 e2 e3 e4
  exact ⟨⟨z0, z1, z2, z3, z4⟩, rfl, u64_fits g2, u64_fits g3⟩
set_option maxRecDepth 100000 in
theorem note_open {base : Nat} {v : Value} {d : DataW H} {p : List MemPlace}
    (hval : Value.okWide Tryz.prog W .any base 46 v) (h : DataW.Trod enc Tryz.prog W 0 (fun _ => true) true 46 v d p) (_hz : ∀ n ∈ d.weights Tryz.prog 46, n ≤ reachBytes) :
    ∃ n : NtV, v = .agg #[.int .i64 n.k, .int .i64 n.f, .int .u64 n.q, .int .u64 n.t, .string n.d] ∧ n.wf := by
  obtain ⟨cs, rfl, hsz⟩ := okWide_struct Tryz.underlying46 hval
  obtain ⟨c0, c1, c2, c3, c4, rfl⟩ := array_five (hsz.trans (by kernel_rfl))
  obtain ⟨fuel, hf⟩ := h
  obtain ⟨n, hn, hwf⟩ := note_cells hf
  simp only [NtV.nc, List.cons.injEq, and_true] at hn
  obtain ⟨rfl, rfl, rfl, rfl, rfl⟩ := hn
  exact ⟨n, rfl, hwf⟩
set_option maxRecDepth 100000 in
theorem place_open {base : Nat} {v : Value} {d : DataW H} {p : List MemPlace}
    (hval : Value.okWide Tryz.prog W .any base 24 v) (h : DataW.Trod enc Tryz.prog W 0 (fun _ => true) true 24 v d p) (_hz : ∀ n ∈ d.weights Tryz.prog 24, n ≤ reachBytes) :
    ∃ a i : Int, v = .agg #[.int .u64 a, .int .i64 i] ∧ 0 ≤ a ∧ a < 18446744073709551616 := by
  obtain ⟨v0, v1, y0, y1, n, rfl, hd, -, t0, t1⟩ := open_agg2 Tryz.underlying24 (by kernel_rfl) (by kernel_rfl) hval h
  obtain ⟨z0, e0, _, g0⟩ := DataW.trod_int Tryz.underlying22 t0
  obtain ⟨z1, e1, _, _⟩ := DataW.trod_int Tryz.underlying3 t1
  simp only [List.cons.injEq, and_true] at e0 e1
  subst e0 e1
  exact ⟨z0, z1, rfl, u64_fits g0⟩
set_option maxRecDepth 100000 in
theorem notes_open {base : Nat} {v : Value} {d : DataW H} {p : List MemPlace}
    (hval : Value.okWide Tryz.prog W .any base 29 v) (h : DataW.Trod enc Tryz.prog W 0 (fun _ => true) true 29 v d p) (_hz : ∀ n ∈ d.weights Tryz.prog 29, n ≤ reachBytes) :
    ∃ A cap l, v = .slice A l.length cap ∧ l.length ≤ cap ∧ (A = none → l.length = 0) ∧ EnAt NtV.nc W A l ∧ ∀ n ∈ l, n.wf := by
  obtain ⟨a, len, cap, rfl⟩ := okWide_slice Tryz.underlying29 hval
  obtain ⟨fuel, hf⟩ := h
  have hc8 : Tryz.prog.cellsOf 46 = 5 := by kernel_rfl
  rcases open_slice Tryz.underlying29 hf with ⟨hcs, _⟩ | ⟨x, len', cap', m, n, D, Pl, hcs, _, hl, hm, hmm, hx, hel⟩
  · simp [Value.cells] at hcs
    obtain ⟨rfl, rfl, rfl⟩ := hcs
    exact ⟨none, 0, [], rfl, Nat.zero_le _, fun _ => rfl, fun i hi => absurd hi (Nat.not_lt_zero _), fun n hn => by cases hn⟩
  · simp [Value.cells] at hcs
    obtain ⟨rfl, rfl, rfl⟩ := hcs
    simp only [if_true] at hmm
    subst hmm
    by_cases h0 : len = 0
    · subst h0
      exact ⟨some x, _, [], rfl, Nat.zero_le _, fun _ => rfl, fun i hi => absurd hi (Nat.not_lt_zero _), fun n hn => by cases hn⟩
    obtain ⟨b, off, rfl⟩ : ∃ b off, x = ⟨b, off, none⟩ := by
      obtain ⟨cs, h1, _⟩ := hel 0 (by omega)
      rw [hc8, Nat.zero_mul] at h1
      exact head_flat (by decide) h1
    have key : ∀ i, i < len → ∃ c : NtV, c.wf ∧ b < W.heap.size ∧ ∀ j, j < 5 → W.cell? ⟨b, off + i * 5 + j, none⟩ = c.nc[j]? := by
      intro i hi
      obtain ⟨cs, h1, h2⟩ := hel i (Nat.lt_of_lt_of_le hi hl)
      rw [hc8, Kq.Elt.add_flat] at h1
      obtain ⟨_, hlen, hcell⟩ := World.cells?_some h1
      match cs, hlen with
      | [c0, c1, c2, c3, c4], _ =>
        obtain ⟨c, hc, hwf⟩ := note_cells h2
        have q0 := hcell 0 (by omega)
        simp only [Kq.Elt.add_flat, Nat.add_zero, List.getElem?_cons_zero] at q0
        refine ⟨c, hwf, cell_lt q0, fun j hj => ?_⟩
        have q := hcell j hj
        rw [Kq.Elt.add_flat] at q
        rw [q, hc]
    obtain ⟨f, hf'⟩ := choose_lt key
    refine ⟨some ⟨b, off, none⟩, m, (List.range len).map f, by simp, by simp; omega, (fun e => by cases e), fun i hi => ?_, fun n hn => ?_⟩
    · have hi' : i < len := by simpa using hi
      obtain ⟨_, hlt, q⟩ := hf' i hi'
      exact ⟨b, off, rfl, hlt, fun j hj => by simpa using q j hj⟩
    · obtain ⟨i, hi, rfl⟩ := List.mem_map.1 hn
      exact (hf' i (List.mem_range.1 hi)).1
set_option maxRecDepth 100000 in
theorem items_open {base : Nat} {v : Value} {d : DataW H} {p : List MemPlace}
    (hval : Value.okWide Tryz.prog W .any base 26 v) (h : DataW.Trod enc Tryz.prog W 0 (fun _ => true) true 26 v d p) (_hz : ∀ n ∈ d.weights Tryz.prog 26, n ≤ reachBytes) :
    ∃ A cap l, v = .slice A l.length cap ∧ l.length ≤ cap ∧ (A = none → l.length = 0) ∧ EnAt NtV.ic W A l ∧ ∀ n ∈ l, n.wf := by
  obtain ⟨a, len, cap, rfl⟩ := okWide_slice Tryz.underlying26 hval
  obtain ⟨fuel, hf⟩ := h
  have hc8 : Tryz.prog.cellsOf 51 = 5 := by kernel_rfl
  rcases open_slice Tryz.underlying26 hf with ⟨hcs, _⟩ | ⟨x, len', cap', m, n, D, Pl, hcs, _, hl, hm, hmm, hx, hel⟩
  · simp [Value.cells] at hcs
    obtain ⟨rfl, rfl, rfl⟩ := hcs
    exact ⟨none, 0, [], rfl, Nat.zero_le _, fun _ => rfl, fun i hi => absurd hi (Nat.not_lt_zero _), fun n hn => by cases hn⟩
  · simp [Value.cells] at hcs
    obtain ⟨rfl, rfl, rfl⟩ := hcs
    simp only [if_true] at hmm
    subst hmm
    by_cases h0 : len = 0
    · subst h0
      exact ⟨some x, _, [], rfl, Nat.zero_le _, fun _ => rfl, fun i hi => absurd hi (Nat.not_lt_zero _), fun n hn => by cases hn⟩
    obtain ⟨b, off, rfl⟩ : ∃ b off, x = ⟨b, off, none⟩ := by
      obtain ⟨cs, h1, _⟩ := hel 0 (by omega)
      rw [hc8, Nat.zero_mul] at h1
      exact head_flat (by decide) h1
    have key : ∀ i, i < len → ∃ c : NtV, c.wf ∧ b < W.heap.size ∧ ∀ j, j < 5 → W.cell? ⟨b, off + i * 5 + j, none⟩ = c.ic[j]? := by
      intro i hi
      obtain ⟨cs, h1, h2⟩ := hel i (Nat.lt_of_lt_of_le hi hl)
      rw [hc8, Kq.Elt.add_flat] at h1
      obtain ⟨_, hlen, hcell⟩ := World.cells?_some h1
      match cs, hlen with
      | [c0, c1, c2, c3, c4], _ =>
        obtain ⟨c, hc, hwf⟩ := item_cells h2
        have q0 := hcell 0 (by omega)
        simp only [Kq.Elt.add_flat, Nat.add_zero, List.getElem?_cons_zero] at q0
        refine ⟨c, hwf, cell_lt q0, fun j hj => ?_⟩
        have q := hcell j hj
        rw [Kq.Elt.add_flat] at q
        rw [q, hc]
    obtain ⟨f, hf'⟩ := choose_lt key
    refine ⟨some ⟨b, off, none⟩, m, (List.range len).map f, by simp, by simp; omega, (fun e => by cases e), fun i hi => ?_, fun n hn => ?_⟩
    · have hi' : i < len := by simpa using hi
      obtain ⟨_, hlt, q⟩ := hf' i hi'
      exact ⟨b, off, rfl, hlt, fun j hj => by simpa using q j hj⟩
    · obtain ⟨i, hi, rfl⟩ := List.mem_map.1 hn
      exact (hf' i (List.mem_range.1 hi)).1
end
end Go.Proofs.YtkbiolhcpghmkaaGreat
