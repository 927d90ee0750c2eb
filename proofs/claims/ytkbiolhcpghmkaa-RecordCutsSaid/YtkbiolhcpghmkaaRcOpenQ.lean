/- A state, a record, records among the arguments, opened. No condition. -/
import Derived.Test.YtkbiolhcpghmkaaChecked
import Derived.Lib.SmallJoins
import Derived.Deep.Slices
import Derived.SizedLaws
import Derived.OpenShut
import Derived.Test.YtkbiolhcpghmkaaNtOpenQ
import Derived.Test.YtkbiolhcpghmkaaRcCutQ
import Derived.Test.YtkbiolhcpghmkaaRcFewQ
namespace Go.Proofs.Ytkbiolhcpghmkaa
open Go.RowKit Go.ChangeShapes Go.WideShapes Go.Deep Go.Joins
set_option linter.unusedVariables false
/-- a state's numbers, its list in memory -/
structure DaL (w : World) (A : Option Addr) (d : DaV) : Prop where
  p0 : d.p0.wf
  p1 : d.p1.wf
  l : EnAt NtV.ic w A d.l
  lw : ∀ n ∈ d.l, n.wf
/-- a record's numbers, its lists in memory -/
structure RecL (w : World) (A : Option Addr) (C : Option Addr) (r : ReV) : Prop where
  d : DaL w A r.d
  p : r.p.wf
  ns : EnAt NtV.nc w C r.ns
  nw : ∀ n ∈ r.ns, n.wf
theorem RecL.few {w : World} {A C : Option Addr} {r : ReV} (h : RecL w A C r) (h1 : r.d.l.length ≤ 300) (h2 : r.ns.length ≤ 300) : RecW w A C r := ⟨h.d.p0, h.d.p1, h.p, h.d.l, h.ns, h.d.lw, h.nw, h1, h2⟩
section
variable {H : Type} {enc : TypeId × Value → H} {W : World}
set_option maxRecDepth 100000 in
theorem notes_raw {fuel : Nat} {cv : Value} {x : DataW H × List MemPlace} (hf : DataW.trod enc Try.prog W 0 (fun _ => true) true fuel 33 [cv] = some x) :
    ∃ A cap l, cv = .slice A l.length cap ∧ l.length ≤ cap ∧ EnAt NtV.nc W A l ∧ ∀ n ∈ l, n.wf := by
  have hc8 : Try.prog.cellsOf 53 = 5 := by kernel_rfl
  rcases open_slice Try.underlying33 hf with ⟨hcs, _⟩ | ⟨x, len', cap', m, n, D, Pl, hcs, _, hl, hm, hmm, hx, hel⟩
  · simp only [List.cons.injEq, and_true] at hcs
    subst hcs
    exact ⟨none, 0, [], rfl, Nat.zero_le _, fun i hi => absurd hi (Nat.not_lt_zero _), fun n hn => by cases hn⟩
  · simp only [List.cons.injEq, and_true] at hcs
    subst hcs
    simp only [if_true] at hmm
    subst hmm
    by_cases h0 : len' = 0
    · subst h0
      exact ⟨some x, _, [], rfl, Nat.zero_le _, fun i hi => absurd hi (Nat.not_lt_zero _), fun n hn => by cases hn⟩
    obtain ⟨b, off, rfl⟩ : ∃ b off, x = ⟨b, off, none⟩ := by
      obtain ⟨cs, h1, _⟩ := hel 0 (by omega)
      rw [hc8, Nat.zero_mul] at h1
      exact head_flat (by decide) h1
    have key : ∀ i, i < len' → ∃ c : NtV, c.wf ∧ b < W.heap.size ∧ ∀ j, j < 5 → W.cell? ⟨b, off + i * 5 + j, none⟩ = c.nc[j]? := by
      intro i hi
      obtain ⟨cs, h1, h2⟩ := hel i (Nat.lt_of_lt_of_le hi hl)
      rw [hc8, Kq.Elt.add_flat] at h1
      obtain ⟨_, hlen, hcell⟩ := World.cells?_some h1
      match cs, hlen with
      | [c0, c1, c2, c3, c4], _ =>
        obtain ⟨c, hc, hwf⟩ := note_cells h2
        have q0 := hcell 0 (by omega)
        simp only [Kq.Elt.add_flat, Nat.add_zero, List.getElem?_cons_zero] at q0
        refine ⟨c, hwf, cell_lt q0, fun j hj => ?_⟩
        have q := hcell j hj
        rw [Kq.Elt.add_flat] at q
        rw [q, hc]
    obtain ⟨f, hf'⟩ := choose_lt key
    refine ⟨some ⟨b, off, none⟩, m, (List.range len').map f, by simp, by simp; omega, fun i hi => ?_, fun n hn => ?_⟩
    · have hi' : i < len' := by simpa using hi
      obtain ⟨_, hlt, q⟩ := hf' i hi'
      exact ⟨b, off, rfl, hlt, fun j hj => by have h := q j hj; simp only [List.getElem_map, List.getElem_range]; exact h⟩
    · obtain ⟨i, hi, rfl⟩ := List.mem_map.1 hn
      exact (hf' i (List.mem_range.1 hi)).1
set_option maxRecDepth 100000 in
theorem items_raw {fuel : Nat} {cv : Value} {x : DataW H × List MemPlace} (hf : DataW.trod enc Try.prog W 0 (fun _ => true) true fuel 30 [cv] = some x) :
    ∃ A cap l, cv = .slice A l.length cap ∧ l.length ≤ cap ∧ EnAt NtV.ic W A l ∧ ∀ n ∈ l, n.wf := by
  have hc8 : Try.prog.cellsOf 55 = 5 := by kernel_rfl
  rcases open_slice Try.underlying30 hf with ⟨hcs, _⟩ | ⟨x, len', cap', m, n, D, Pl, hcs, _, hl, hm, hmm, hx, hel⟩
  · simp only [List.cons.injEq, and_true] at hcs
    subst hcs
    exact ⟨none, 0, [], rfl, Nat.zero_le _, fun i hi => absurd hi (Nat.not_lt_zero _), fun n hn => by cases hn⟩
  · simp only [List.cons.injEq, and_true] at hcs
    subst hcs
    simp only [if_true] at hmm
    subst hmm
    by_cases h0 : len' = 0
    · subst h0
      exact ⟨some x, _, [], rfl, Nat.zero_le _, fun i hi => absurd hi (Nat.not_lt_zero _), fun n hn => by cases hn⟩
    obtain ⟨b, off, rfl⟩ : ∃ b off, x = ⟨b, off, none⟩ := by
      obtain ⟨cs, h1, _⟩ := hel 0 (by omega)
      rw [hc8, Nat.zero_mul] at h1
      exact head_flat (by decide) h1
    have key : ∀ i, i < len' → ∃ c : NtV, c.wf ∧ b < W.heap.size ∧ ∀ j, j < 5 → W.cell? ⟨b, off + i * 5 + j, none⟩ = c.ic[j]? := by
      intro i hi
      obtain ⟨cs, h1, h2⟩ := hel i (Nat.lt_of_lt_of_le hi hl)
      rw [hc8, Kq.Elt.add_flat] at h1
      obtain ⟨_, hlen, hcell⟩ := World.cells?_some h1
      match cs, hlen with
      | [c0, c1, c2, c3, c4], _ =>
        obtain ⟨c, hc, hwf⟩ := item_cells h2
        have q0 := hcell 0 (by omega)
        simp only [Kq.Elt.add_flat, Nat.add_zero, List.getElem?_cons_zero] at q0
        refine ⟨c, hwf, cell_lt q0, fun j hj => ?_⟩
        have q := hcell j hj
        rw [Kq.Elt.add_flat] at q
        rw [q, hc]
    obtain ⟨f, hf'⟩ := choose_lt key
    refine ⟨some ⟨b, off, none⟩, m, (List.range len').map f, by simp, by simp; omega, fun i hi => ?_, fun n hn => ?_⟩
    · have hi' : i < len' := by simpa using hi
      obtain ⟨_, hlt, q⟩ := hf' i hi'
      exact ⟨b, off, rfl, hlt, fun j hj => by have h := q j hj; simp only [List.getElem_map, List.getElem_range]; exact h⟩
    · obtain ⟨i, hi, rfl⟩ := List.mem_map.1 hn
      exact (hf' i (List.mem_range.1 hi)).1
theorem plc_raw {fuel : Nat} {c0 c1 : Value} {x : DataW H × List MemPlace} (h : DataW.trod enc Try.prog W 0 (fun _ => true) true fuel 28 [c0, c1] = some x) : ∃ p : PlV, c0 = .int .u64 p.h ∧ c1 = .int .i64 p.i ∧ p.wf := by
  have k1 : Try.prog.cellsOf 3 = 1 := by kernel_rfl
  have k3 : Try.prog.cellsOf 26 = 1 := by kernel_rfl
  obtain ⟨y0, y1, n', t0, t1⟩ := trod_two Try.underlying28 h
  simp only [k1, k3, List.drop_zero, List.drop_succ_cons, List.take_succ_cons, List.take_zero] at t0 t1
  obtain ⟨z0, e0, _, g0⟩ := DataW.trod_int Try.underlying26 t0
  obtain ⟨z1, e1, _, g1⟩ := DataW.trod_int Try.underlying3 t1
  simp only [List.cons.injEq, and_true] at e0 e1
  exact ⟨⟨z0, z1⟩, e0, e1, g0, g1⟩
theorem plcs_raw {fuel : Nat} {c0 c1 c2 c3 : Value} {x : DataW H × List MemPlace} (h : DataW.trod enc Try.prog W 0 (fun _ => true) true fuel 29 [c0, c1, c2, c3] = some x) : ∃ p q : PlV, c0 = .int .u64 p.h ∧ c1 = .int .i64 p.i ∧ c2 = .int .u64 q.h ∧ c3 = .int .i64 q.i ∧ p.wf ∧ q.wf := by
  have k2 : Try.prog.cellsOf 28 = 2 := by kernel_rfl
  obtain ⟨xs, m, rfl, rfl, hl, hlen, hel⟩ := DataW.trod_array Try.underlying29 h
  match xs, hlen with
  | [y0, y1], _ =>
    have t0 := hel 0 (by decide)
    have t1 := hel 1 (by decide)
    simp only [k2, Nat.zero_mul, Nat.one_mul, List.drop_zero, List.drop_succ_cons, List.take_succ_cons, List.take_zero, List.getElem?_cons_zero, List.getElem?_cons_succ] at t0 t1
    obtain ⟨p, e0, e1, hp⟩ := plc_raw t0
    obtain ⟨q, e2, e3, hq⟩ := plc_raw t1
    exact ⟨p, q, e0, e1, e2, e3, hp, hq⟩
theorem dmn_raw {fuel : Nat} {c0 c1 c2 c3 c4 : Value} {x : DataW H × List MemPlace} (h : DataW.trod enc Try.prog W 0 (fun _ => true) true fuel 32 [c0, c1, c2, c3, c4] = some x) :
    ∃ (A : Option Addr) (ca : Nat) (d : DaV), [c0, c1, c2, c3, c4] = [.int .u64 d.p0.h, .int .i64 d.p0.i, .int .u64 d.p1.h, .int .i64 d.p1.i, .slice A d.l.length ca] ∧ d.l.length ≤ ca ∧ DaL W A d := by
  have k1 : Try.prog.cellsOf 29 = 4 := by kernel_rfl
  have k3 : Try.prog.cellsOf 30 = 1 := by kernel_rfl
  obtain ⟨y0, y1, n', t0, t1⟩ := trod_two Try.underlying32 h
  simp only [k1, k3, List.drop_zero, List.drop_succ_cons, List.take_succ_cons, List.take_zero] at t0 t1
  obtain ⟨p, q, rfl, rfl, rfl, rfl, hp, hq⟩ := plcs_raw t0
  obtain ⟨A, cap, l, rfl, hlc, hat, hw⟩ := items_raw t1
  exact ⟨A, cap, ⟨p, q, l⟩, rfl, hlc, hp, hq, hat, hw⟩
theorem rcd_raw {fuel : Nat} {c0 c1 c2 c3 c4 c5 c6 c7 c8 c9 : Value} {x : DataW H × List MemPlace} (h : DataW.trod enc Try.prog W 0 (fun _ => true) true fuel 35 [c0, c1, c2, c3, c4, c5, c6, c7, c8, c9] = some x) :
    ∃ (A : Option Addr) (ca : Nat) (C : Option Addr) (cc : Nat) (r : ReV), [c0, c1, c2, c3, c4, c5, c6, c7, c8, c9] = [.int .i64 r.k, .int .u64 r.d.p0.h, .int .i64 r.d.p0.i, .int .u64 r.d.p1.h, .int .i64 r.d.p1.i, .slice A r.d.l.length ca, .int .i64 r.c, .int .u64 r.p.h, .int .i64 r.p.i, .slice C r.ns.length cc] ∧ RecL W A C r := by
  have k0 : Try.prog.cellsOf 3 = 1 := by kernel_rfl
  have k1 : Try.prog.cellsOf 32 = 5 := by kernel_rfl
  have k2 : Try.prog.cellsOf 28 = 2 := by kernel_rfl
  have k3 : Try.prog.cellsOf 33 = 1 := by kernel_rfl
  obtain ⟨y0, y1, y2, y3, y4, n', t0, t1, t2, t3, t4⟩ := trod_five Try.underlying35 h
  simp only [k0, k1, k2, k3, List.drop_zero, List.drop_succ_cons, List.take_succ_cons, List.take_zero] at t0 t1 t2 t3 t4
  obtain ⟨z0, e0, _, g0⟩ := DataW.trod_int Try.underlying3 t0
  obtain ⟨z1, e1, _, g1⟩ := DataW.trod_int Try.underlying3 t2
  simp only [List.cons.injEq, and_true] at e0 e1
  obtain ⟨A, ca, d, e2, hca, hd⟩ := dmn_raw t1
  obtain ⟨p, rfl, rfl, hp⟩ := plc_raw t3
  obtain ⟨C, cc, ns, rfl, hcc, hat, hw⟩ := notes_raw t4
  simp only [List.cons.injEq, and_true] at e2
  obtain ⟨rfl, rfl, rfl, rfl, rfl⟩ := e2
  subst e0 e1
  exact ⟨A, ca, C, cc, ⟨z0, d, z1, p, ns⟩, rfl, hd, hp, hat, hw⟩
theorem array_ten {α : Type} {a : Array α} (h : a.size = 10) : ∃ x0 x1 x2 x3 x4 x5 x6 x7 x8 x9, a = #[x0, x1, x2, x3, x4, x5, x6, x7, x8, x9] := by
  obtain ⟨l⟩ := a
  match l, h with
  | [x0, x1, x2, x3, x4, x5, x6, x7, x8, x9], _ => exact ⟨x0, x1, x2, x3, x4, x5, x6, x7, x8, x9, rfl⟩
set_option maxRecDepth 100000 in
theorem daemon_open {base : Nat} {v : Value} {d : DataW H} {p : List MemPlace}
    (hval : Value.okWide Try.prog W .any base 32 v) (h : DataW.Trod enc Try.prog W 0 (fun _ => true) true 32 v d p) (_hz : ∀ n ∈ d.weights Try.prog 32, n ≤ reachBytes) :
    ∃ (A : Option Addr) (ca : Nat) (d : DaV), v = daV d A ca ∧ DaL W A d := by
  obtain ⟨cs, rfl, hsz⟩ := okWide_struct Try.underlying32 hval
  obtain ⟨c0, c1, c2, c3, c4, rfl⟩ := array_five (hsz.trans (by kernel_rfl))
  obtain ⟨fuel, hf⟩ := h
  obtain ⟨A, ca, d, e, _, hd⟩ := dmn_raw hf
  simp only [List.cons.injEq, and_true] at e
  obtain ⟨rfl, rfl, rfl, rfl, rfl⟩ := e
  exact ⟨A, ca, d, rfl, hd⟩
set_option maxRecDepth 100000 in
theorem record_open {base : Nat} {v : Value} {d : DataW H} {p : List MemPlace}
    (hval : Value.okWide Try.prog W .any base 35 v) (h : DataW.Trod enc Try.prog W 0 (fun _ => true) true 35 v d p) (_hz : ∀ n ∈ d.weights Try.prog 35, n ≤ reachBytes) :
    ∃ (A : Option Addr) (ca : Nat) (C : Option Addr) (cc : Nat) (r : ReV), v = reV r A ca C cc ∧ RecL W A C r := by
  obtain ⟨cs, rfl, hsz⟩ := okWide_struct Try.underlying35 hval
  obtain ⟨c0, c1, c2, c3, c4, c5, c6, c7, c8, c9, rfl⟩ := array_ten (hsz.trans (by kernel_rfl))
  obtain ⟨fuel, hf⟩ := h
  obtain ⟨A, ca, C, cc, r, e, hd⟩ := rcd_raw hf
  simp only [List.cons.injEq, and_true] at e
  obtain ⟨rfl, rfl, rfl, rfl, rfl, rfl, rfl, rfl, rfl, rfl⟩ := e
  exact ⟨A, ca, C, cc, r, rfl, hd⟩
end
/-- a record with where its lists lie -/
structure ReW where
  r : ReV
  a : Option Addr
  ca : Nat
  c : Option Addr
  cc : Nat
instance : Inhabited ReW := ⟨⟨⟨0, ⟨PlV.z, PlV.z, []⟩, 0, PlV.z, []⟩, none, 0, none, 0⟩⟩
def ReW.cs (x : ReW) : List Value := [.int .i64 x.r.k, .int .u64 x.r.d.p0.h, .int .i64 x.r.d.p0.i, .int .u64 x.r.d.p1.h, .int .i64 x.r.d.p1.i, .slice x.a x.r.d.l.length x.ca, .int .i64 x.r.c, .int .u64 x.r.p.h, .int .i64 x.r.p.i, .slice x.c x.r.ns.length x.cc]
/-- records in memory -/
def RecsAt (w : World) (G : Option Addr) (l : List ReW) : Prop := ∀ j (h : j < l.length), ∃ b off, G = some ⟨b, off, none⟩ ∧ b < w.heap.size ∧ (∀ i, i < 10 → w.cell? ⟨b, off + j * 10 + i, none⟩ = (l[j].cs)[i]?) ∧ RecL w l[j].a l[j].c l[j].r
section
variable {H : Type} {enc : TypeId × Value → H} {W : World}
set_option maxRecDepth 100000 in
theorem records_open {base : Nat} {v : Value} {d : DataW H} {p : List MemPlace}
    (hval : Value.okWide Try.prog W .any base 22 v) (h : DataW.Trod enc Try.prog W 0 (fun _ => true) true 22 v d p) (_hz : ∀ n ∈ d.weights Try.prog 22, n ≤ reachBytes) :
    ∃ A cap, ∃ l : List ReW, v = .slice A l.length cap ∧ l.length ≤ cap ∧ RecsAt W A l := by
  obtain ⟨a, len, cap, rfl⟩ := okWide_slice Try.underlying22 hval
  obtain ⟨fuel, hf⟩ := h
  have hc8 : Try.prog.cellsOf 35 = 10 := by kernel_rfl
  rcases open_slice Try.underlying22 hf with ⟨hcs, _⟩ | ⟨x, len', cap', m, n, D, Pl, hcs, _, hl, hm, hmm, hx, hel⟩
  · simp [Value.cells] at hcs
    obtain ⟨rfl, rfl, rfl⟩ := hcs
    exact ⟨none, 0, [], rfl, Nat.zero_le _, fun i hi => absurd hi (Nat.not_lt_zero _)⟩
  · simp [Value.cells] at hcs
    obtain ⟨rfl, rfl, rfl⟩ := hcs
    simp only [if_true] at hmm
    subst hmm
    by_cases h0 : len = 0
    · subst h0
      exact ⟨some x, _, [], rfl, Nat.zero_le _, fun i hi => absurd hi (Nat.not_lt_zero _)⟩
    obtain ⟨b, off, rfl⟩ : ∃ b off, x = ⟨b, off, none⟩ := by
      obtain ⟨cs, h1, _⟩ := hel 0 (by omega)
      rw [hc8, Nat.zero_mul] at h1
      exact head_flat (by decide) h1
    have key : ∀ i, i < len → ∃ c : ReW, b < W.heap.size ∧ (∀ j, j < 10 → W.cell? ⟨b, off + i * 10 + j, none⟩ = (c.cs)[j]?) ∧ RecL W c.a c.c c.r := by
      intro i hi
      obtain ⟨cs, h1, h2⟩ := hel i (Nat.lt_of_lt_of_le hi hl)
      rw [hc8, Kq.Elt.add_flat] at h1
      obtain ⟨_, hlen, hcell⟩ := World.cells?_some h1
      match cs, hlen with
      | [c0, c1, c2, c3, c4, c5, c6, c7, c8, c9], _ =>
        obtain ⟨A, ca, C, cc, r, e, hd⟩ := rcd_raw h2
        have q0 := hcell 0 (by omega)
        simp only [Kq.Elt.add_flat, Nat.add_zero, List.getElem?_cons_zero] at q0
        refine ⟨⟨r, A, ca, C, cc⟩, cell_lt q0, fun j hj => ?_, hd⟩
        have q := hcell j hj
        rw [Kq.Elt.add_flat] at q
        rw [q, e]; rfl
    obtain ⟨f, hf'⟩ := choose_lt key
    refine ⟨some ⟨b, off, none⟩, m, (List.range len).map f, by simp, by simp; omega, fun i hi => ?_⟩
    have hi' : i < len := by simpa using hi
    obtain ⟨hlt, q, hd⟩ := hf' i hi'
    exact ⟨b, off, rfl, hlt, fun j hj => by have h := q j hj; simp only [List.getElem_map, List.getElem_range]; exact h, by simp only [List.getElem_map, List.getElem_range]; exact hd⟩
end
end Go.Proofs.Ytkbiolhcpghmkaa
