/- Merged: RcOpen, RwM. A state, a record, records among the arguments, opened. No condition. Mathematics of RecordWhole; states and texts beside a box that changes. No condition. -/
import Derived.Test.YtkbiolhcpghmkaaGreatChecked
import Derived.Lib.SmallJoins
import Derived.Deep.Slices
import Derived.SizedLaws
import Derived.OpenShut
import Derived.Test.YtkbiolhcpghmkaaGreatNtOpenQ
import Derived.Test.YtkbiolhcpghmkaaGreatRcParQ
import Derived.Test.YtkbiolhcpghmkaaGreatRcFewQ
import Derived.Test.YtkbiolhcpghmkaaGreatRcAwakeQ
namespace Go.Proofs.YtkbiolhcpghmkaaGreat
open Go.RowKit Go.ChangeShapes Go.WideShapes Go.Deep Go.Joins
set_option linter.unusedVariables false
/-- a state's numbers, its list in memory -/
structure DaL (w : World) (A : Option Addr) (d : DaV) : Prop where
  p0 : d.p0.wf
  p1 : d.p1.wf
  l : EnAt NtV.ic w A d.l
  lw : ∀ n ∈ d.l, n.wf
/-- a record's numbers, its lists in memory -/
structure RecL (w : World) (A : Option Addr) (C : Option Addr) (r : ReV) : Prop where
  d : DaL w A r.d
  p : r.p.wf
  ns : EnAt NtV.nc w C r.ns
  nw : ∀ n ∈ r.ns, n.wf
theorem RecL.few {w : World} {A C : Option Addr} {r : ReV} (h : RecL w A C r) (h1 : r.d.l.length ≤ 300) (h2 : r.ns.length ≤ 300) : RecW w A C r := ⟨h.d.p0, h.d.p1, h.p, h.d.l, h.ns, h.d.lw, h.nw, h1, h2⟩
section
variable {H : Type} {enc : TypeId × Value → H} {W : World}
set_option maxRecDepth 100000 in
theorem notes_raw {fuel : Nat} {cv : Value} {x : DataW H × List MemPlace} (hf : DataW.trod enc Tryz.prog W 0 (fun _ => true) true fuel 29 [cv] = some x) :
    ∃ A cap l, cv = .slice A l.length cap ∧ l.length ≤ cap ∧ EnAt NtV.nc W A l ∧ ∀ n ∈ l, n.wf := by
  have hc8 : Tryz.prog.cellsOf 46 = 5 := by kernel_rfl
  rcases open_slice Tryz.underlying29 hf with ⟨hcs, _⟩ | ⟨x, len', cap', m, n, D, Pl, hcs, _, hl, hm, hmm, hx, hel⟩
  · simp only [List.cons.injEq, and_true] at hcs
    subst hcs
    exact ⟨none, 0, [], rfl, Nat.zero_le _, fun i hi => absurd hi (Nat.not_lt_zero _), fun n hn => by cases hn⟩
  · simp only [List.cons.injEq, and_true] at hcs
    subst hcs
    simp only [if_true] at hmm
    subst hmm
    by_cases h0 : len' = 0
    · subst h0
      exact ⟨some x, _, [], rfl, Nat.zero_le _, fun i hi => absurd hi (Nat.not_lt_zero _), fun n hn => by cases hn⟩
    obtain ⟨b, off, rfl⟩ : ∃ b off, x = ⟨b, off, none⟩ := by
      obtain ⟨cs, h1, _⟩ := hel 0 (by omega)
      rw [hc8, Nat.zero_mul] at h1
      exact head_flat (by decide) h1
    have key : ∀ i, i < len' → ∃ c : NtV, c.wf ∧ b < W.heap.size ∧ ∀ j, j < 5 → W.cell? ⟨b, off + i * 5 + j, none⟩ = c.nc[j]? := by
      intro i hi
      obtain ⟨cs, h1, h2⟩ := hel i (Nat.lt_of_lt_of_le hi hl)
      rw [hc8, Kq.Elt.add_flat] at h1
      obtain ⟨_, hlen, hcell⟩ := World.cells?_some h1
      match cs, hlen with
      | [c0, c1, c2, c3, c4], _ =>
        obtain ⟨c, hc, hwf⟩ := note_cells h2
        have q0 := hcell 0 (by omega)
        simp only [Kq.Elt.add_flat, Nat.add_zero, List.getElem?_cons_zero] at q0
        refine ⟨c, hwf, cell_lt q0, fun j hj => ?_⟩
        have q := hcell j hj
        rw [Kq.Elt.add_flat] at q
        rw [q, hc]
    obtain ⟨f, hf'⟩ := choose_lt key
    refine ⟨some ⟨b, off, none⟩, m, (List.range len').map f, by simp, by simp; omega, fun i hi => ?_, fun n hn => ?_⟩
    · have hi' : i < len' := by simpa using hi
      obtain ⟨_, hlt, q⟩ := hf' i hi'
      exact ⟨b, off, rfl, hlt, fun j hj => by have h := q j hj; simp only [List.getElem_map, List.getElem_range]; exact h⟩
    · obtain ⟨i, hi, rfl⟩ := List.mem_map.1 hn
      exact (hf' i (List.mem_range.1 hi)).1
set_option maxRecDepth 100000 in
theorem items_raw {fuel : Nat} {cv : Value} {x : DataW H × List MemPlace} (hf : DataW.trod enc Tryz.prog W 0 (fun _ => true) true fuel 26 [cv] = some x) :
    ∃ A cap l, cv = .slice A l.length cap ∧ l.length ≤ cap ∧ EnAt NtV.ic W A l ∧ ∀ n ∈ l, n.wf := by
  have hc8 : Tryz.prog.cellsOf 51 = 5 := by kernel_rfl
  rcases open_slice Tryz.underlying26 hf with ⟨hcs, _⟩ | ⟨x, len', cap', m, n, D, Pl, hcs, _, hl, hm, hmm, hx, hel⟩
  · simp only [List.cons.injEq, and_true] at hcs
    subst hcs
    exact ⟨none, 0, [], rfl, Nat.zero_le _, fun i hi => absurd hi (Nat.not_lt_zero _), fun n hn => by cases hn⟩
  · simp only [List.cons.injEq, and_true] at hcs
    subst hcs
    simp only [if_true] at hmm
    subst hmm
    by_cases h0 : len' = 0
    · subst h0
      exact ⟨some x, _, [], rfl, Nat.zero_le _, fun i hi => absurd hi (Nat.not_lt_zero _), fun n hn => by cases hn⟩
    obtain ⟨b, off, rfl⟩ : ∃ b off, x = ⟨b, off, none⟩ := by
      obtain ⟨cs, h1, _⟩ := hel 0 (by omega)
      rw [hc8, Nat.zero_mul] at h1
      exact head_flat (by decide) h1
    have key : ∀ i, i < len' → ∃ c : NtV, c.wf ∧ b < W.heap.size ∧ ∀ j, j < 5 → W.cell? ⟨b, off + i * 5 + j, none⟩ = c.ic[j]? := by
      intro i hi
      obtain ⟨cs, h1, h2⟩ := hel i (Nat.lt_of_lt_of_le hi hl)
      rw [hc8, Kq.Elt.add_flat] at h1
      obtain ⟨_, hlen, hcell⟩ := World.cells?_some h1
      match cs, hlen with
      | [c0, c1, c2, c3, c4], _ =>
        obtain ⟨c, hc, hwf⟩ := item_cells h2
        have q0 := hcell 0 (by omega)
        simp only [Kq.Elt.add_flat, Nat.add_zero, List.getElem?_cons_zero] at q0
        refine ⟨c, hwf, cell_lt q0, fun j hj => ?_⟩
        have q := hcell j hj
        rw [Kq.Elt.add_flat] at q
        rw [q, hc]
    obtain ⟨f, hf'⟩ := choose_lt key
    refine ⟨some ⟨b, off, none⟩, m, (List.range len').map f, by simp, by simp; omega, fun i hi => ?_, fun n hn => ?_⟩
    · have hi' : i < len' := by simpa using hi
      obtain ⟨_, hlt, q⟩ := hf' i hi'
      exact ⟨b, off, rfl, hlt, fun j hj => by have h := q j hj; simp only [List.getElem_map, List.getElem_range]; exact h⟩
    · obtain ⟨i, hi, rfl⟩ := List.mem_map.1 hn
      exact (hf' i (List.mem_range.1 hi)).1
theorem plc_raw {fuel : Nat} {c0 c1 : Value} {x : DataW H × List MemPlace} (h : DataW.trod enc Tryz.prog W 0 (fun _ => true) true fuel 24 [c0, c1] = some x) : ∃ p : PlV, c0 = .int .u64 p.h ∧ c1 = .int .i64 p.i ∧ p.wf := by
  have k1 : Tryz.prog.cellsOf 3 = 1 := by kernel_rfl
  have k3 : Tryz.prog.cellsOf 22 = 1 := by kernel_rfl
  obtain ⟨y0, y1, n', t0, t1⟩ := trod_two Tryz.underlying24 h
  simp only [k1, k3, List.drop_zero, List.drop_succ_cons, List.take_succ_cons, List.take_zero] at t0 t1
  obtain ⟨z0, e0, _, g0⟩ := DataW.trod_int Tryz.underlying22 t0
  obtain ⟨z1, e1, _, g1⟩ := DataW.trod_int Tryz.underlying3 t1
  simp only [List.cons.injEq, and_true] at e0 e1
  exact ⟨⟨z0, z1⟩, e0, e1, g0, g1⟩
theorem plcs_raw {fuel : Nat} {c0 c1 c2 c3 : Value} {x : DataW H × List MemPlace} (h : DataW.trod enc Tryz.prog W 0 (fun _ => true) true fuel 25 [c0, c1, c2, c3] = some x) : ∃ p q : PlV, c0 = .int .u64 p.h ∧ c1 = .int .i64 p.i ∧ c2 = .int .u64 q.h ∧ c3 = .int .i64 q.i ∧ p.wf ∧ q.wf := by
  have k2 : Tryz.prog.cellsOf 24 = 2 := by kernel_rfl
  obtain ⟨xs, m, rfl, rfl, hl, hlen, hel⟩ := DataW.trod_array Tryz.underlying25 h
  match xs, hlen with
  | [y0, y1], _ =>
    have t0 := hel 0 (by decide)
    have t1 := hel 1 (by decide)
    simp only [k2, Nat.zero_mul, Nat.one_mul, List.drop_zero, List.drop_succ_cons, List.take_succ_cons, List.take_zero, List.getElem?_cons_zero, List.getElem?_cons_succ] at t0 t1
    obtain ⟨p, e0, e1, hp⟩ := plc_raw t0
    obtain ⟨q, e2, e3, hq⟩ := plc_raw t1
    exact ⟨p, q, e0, e1, e2, e3, hp, hq⟩
theorem dmn_raw {fuel : Nat} {c0 c1 c2 c3 c4 : Value} {x : DataW H × List MemPlace} (h : DataW.trod enc Tryz.prog W 0 (fun _ => true) true fuel 28 [c0, c1, c2, c3, c4] = some x) :
    ∃ (A : Option Addr) (ca : Nat) (d : DaV), [c0, c1, c2, c3, c4] = [.int .u64 d.p0.h, .int .i64 d.p0.i, .int .u64 d.p1.h, .int .i64 d.p1.i, .slice A d.l.length ca] ∧ d.l.length ≤ ca ∧ DaL W A d := by
  have k1 : Tryz.prog.cellsOf 25 = 4 := by kernel_rfl
  have k3 : Tryz.prog.cellsOf 26 = 1 := by kernel_rfl
  obtain ⟨y0, y1, n', t0, t1⟩ := trod_two Tryz.underlying28 h
  simp only [k1, k3, List.drop_zero, List.drop_succ_cons, List.take_succ_cons, List.take_zero] at t0 t1
  obtain ⟨p, q, rfl, rfl, rfl, rfl, hp, hq⟩ := plcs_raw t0
  obtain ⟨A, cap, l, rfl, hlc, hat, hw⟩ := items_raw t1
  exact ⟨A, cap, ⟨p, q, l⟩, rfl, hlc, hp, hq, hat, hw⟩
theorem rcd_raw {fuel : Nat} {c0 c1 c2 c3 c4 c5 c6 c7 c8 c9 : Value} {x : DataW H × List MemPlace} (h : DataW.trod enc Tryz.prog W 0 (fun _ => true) true fuel 31 [c0, c1, c2, c3, c4, c5, c6, c7, c8, c9] = some x) :
    ∃ (A : Option Addr) (ca : Nat) (C : Option Addr) (cc : Nat) (r : ReV), [c0, c1, c2, c3, c4, c5, c6, c7, c8, c9] = [.int .i64 r.k, .int .u64 r.d.p0.h, .int .i64 r.d.p0.i, .int .u64 r.d.p1.h, .int .i64 r.d.p1.i, .slice A r.d.l.length ca, .int .i64 r.c, .int .u64 r.p.h, .int .i64 r.p.i, .slice C r.ns.length cc] ∧ RecL W A C r := by
  have k0 : Tryz.prog.cellsOf 3 = 1 := by kernel_rfl
  have k1 : Tryz.prog.cellsOf 28 = 5 := by kernel_rfl
  have k2 : Tryz.prog.cellsOf 24 = 2 := by kernel_rfl
  have k3 : Tryz.prog.cellsOf 29 = 1 := by kernel_rfl
  obtain ⟨y0, y1, y2, y3, y4, n', t0, t1, t2, t3, t4⟩ := trod_five Tryz.underlying31 h
  simp only [k0, k1, k2, k3, List.drop_zero, List.drop_succ_cons, List.take_succ_cons, List.take_zero] at t0 t1 t2 t3 t4
  obtain ⟨z0, e0, _, g0⟩ := DataW.trod_int Tryz.underlying3 t0
  obtain ⟨z1, e1, _, g1⟩ := DataW.trod_int Tryz.underlying3 t2
  simp only [List.cons.injEq, and_true] at e0 e1
  obtain ⟨A, ca, d, e2, hca, hd⟩ := dmn_raw t1
  obtain ⟨p, rfl, rfl, hp⟩ := plc_raw t3
  obtain ⟨C, cc, ns, rfl, hcc, hat, hw⟩ := notes_raw t4
  simp only [List.cons.injEq, and_true] at e2
  obtain ⟨rfl, rfl, rfl, rfl, rfl⟩ := e2
  subst e0 e1
  exact ⟨A, ca, C, cc, ⟨z0, d, z1, p, ns⟩, rfl, hd, hp, hat, hw⟩
theorem array_ten {α : Type} {a : Array α} (h : a.size = 10) : ∃ x0 x1 x2 x3 x4 x5 x6 x7 x8 x9, a = #[x0, x1, x2, x3, x4, x5, x6, x7, x8, x9] := by
  obtain ⟨l⟩ := a
  match l, h with
  | [x0, x1, x2, x3, x4, x5, x6, x7, x8, x9], _ => exact ⟨x0, x1, x2, x3, x4, x5, x6, x7, x8, x9, rfl⟩
set_option maxRecDepth 100000 in
theorem daemon_open {base : Nat} {v : Value} {d : DataW H} {p : List MemPlace}
    (hval : Value.okWide Tryz.prog W .any base 28 v) (h : DataW.Trod enc Tryz.prog W 0 (fun _ => true) true 28 v d p) (_hz : ∀ n ∈ d.weights Tryz.prog 28, n ≤ reachBytes) :
    ∃ (A : Option Addr) (ca : Nat) (d : DaV), v = daV d A ca ∧ DaL W A d := by
  obtain ⟨cs, rfl, hsz⟩ := okWide_struct Tryz.underlying28 hval
  obtain ⟨c0, c1, c2, c3, c4, rfl⟩ := array_five (hsz.trans (by kernel_rfl))
  obtain ⟨fuel, hf⟩ := h
  obtain ⟨A, ca, d, e, _, hd⟩ := dmn_raw hf
  simp only [List.cons.injEq, and_true] at e
  obtain ⟨rfl, rfl, rfl, rfl, rfl⟩ := e
  exact ⟨A, ca, d, rfl, hd⟩
set_option maxRecDepth 100000 in
theorem record_open {base : Nat} {v : Value} {d : DataW H} {p : List MemPlace}
    (hval : Value.okWide Tryz.prog W .any base 31 v) (h : DataW.Trod enc Tryz.prog W 0 (fun _ => true) true 31 v d p) (_hz : ∀ n ∈ d.weights Tryz.prog 31, n ≤ reachBytes) :
    ∃ (A : Option Addr) (ca : Nat) (C : Option Addr) (cc : Nat) (r : ReV), v = reV r A ca C cc ∧ RecL W A C r := by
  obtain ⟨cs, rfl, hsz⟩ := okWide_struct Tryz.underlying31 hval
  obtain ⟨c0, c1, c2, c3, c4, c5, c6, c7, c8, c9, rfl⟩ := array_ten (hsz.trans (by kernel_rfl))
  obtain ⟨fuel, hf⟩ := h
  obtain ⟨A, ca, C, cc, r, e, hd⟩ := rcd_raw hf
  simp only [List.cons.injEq, and_true] at e
  obtain ⟨rfl, rfl, rfl, rfl, rfl, rfl, rfl, rfl, rfl, rfl⟩ := e
  exact ⟨A, ca, C, cc, r, rfl, hd⟩
end
/-- a record with where its lists lie -/
structure ReW where
  r : ReV
  a : Option Addr
  ca : Nat
  c : Option Addr
  cc : Nat
instance : Inhabited ReW := ⟨⟨⟨0, ⟨PlV.z, PlV.z, []⟩, 0, PlV.z, []⟩, none, 0, none, 0⟩⟩
def ReW.cs (x : ReW) : List Value := [.int .i64 x.r.k, .int .u64 x.r.d.p0.h, .int .i64 x.r.d.p0.i, .int .u64 x.r.d.p1.h, .int .i64 x.r.d.p1.i, .slice x.a x.r.d.l.length x.ca, .int .i64 x.r.c, .int .u64 x.r.p.h, .int .i64 x.r.p.i, .slice x.c x.r.ns.length x.cc]
/-- records in memory -/
def RecsAt (w : World) (G : Option Addr) (l : List ReW) : Prop := ∀ j (h : j < l.length), ∃ b off, G = some ⟨b, off, none⟩ ∧ b < w.heap.size ∧ (∀ i, i < 10 → w.cell? ⟨b, off + j * 10 + i, none⟩ = (l[j].cs)[i]?) ∧ RecL w l[j].a l[j].c l[j].r
section
variable {H : Type} {enc : TypeId × Value → H} {W : World}
end
end Go.Proofs.YtkbiolhcpghmkaaGreat
namespace Go.Proofs.YtkbiolhcpghmkaaGreat
open Go.RowKit Go.Kq
set_option linter.unusedVariables false
theorem stepsV_app (room : Int) : ∀ (a b : List ReV) (d : DaV), (stepsV room d a).1 = 0 → stepsV room d (a ++ b) = stepsV room (stepsV room d a).2 b
  | [], b, d, h => rfl
  | q :: a, b, d, h => by
    have e : stepsV room d (q :: a) = if (stepV d room q).1 ≠ 0 then ((stepV d room q).1, d) else stepsV room (stepV d room q).2 a := rfl
    have e2 : stepsV room d ((q :: a) ++ b) = if (stepV d room q).1 ≠ 0 then ((stepV d room q).1, d) else stepsV room (stepV d room q).2 (a ++ b) := rfl
    by_cases g : (stepV d room q).1 = 0
    · rw [if_neg (by simp [g])] at e e2
      rw [e] at h ⊢
      rw [e2]
      exact stepsV_app room a b _ h
    · rw [if_pos g] at e
      rw [e] at h
      exact absurd h g
theorem stepsV_pre (room : Int) : ∀ (a b : List ReV) (d : DaV), (stepsV room d (a ++ b)).1 = 0 → (stepsV room d a).1 = 0
  | [], b, d, h => rfl
  | q :: a, b, d, h => by
    have e : stepsV room d (q :: a) = if (stepV d room q).1 ≠ 0 then ((stepV d room q).1, d) else stepsV room (stepV d room q).2 a := rfl
    have e2 : stepsV room d ((q :: a) ++ b) = if (stepV d room q).1 ≠ 0 then ((stepV d room q).1, d) else stepsV room (stepV d room q).2 (a ++ b) := rfl
    by_cases g : (stepV d room q).1 = 0
    · rw [if_neg (by simp [g])] at e e2
      rw [e2] at h
      rw [e]
      exact stepsV_pre room a b _ h
    · rw [if_pos g] at e2
      rw [e2] at h
      exact absurd h g
/-- a state in the midst makes those ahead of it play no part -/
theorem late_same {room : Int} {rs : List ReV} {n : Nat} (hnum : ∀ r ∈ rs, RcNum r) (h0 : (replayV room rs).1 = 0) (hn : n < rs.length) (hk : n = 0 ∨ (rs[n]'hn).k = 1) : replayV room (rs.drop n) = replayV room rs := by
  rcases hk with rfl | hk
  · rw [List.drop_zero]
  · by_cases hz : n = 0
    · subst hz; rw [List.drop_zero]
    obtain ⟨q, t, rfl, hq, e⟩ := repl_front h0
    obtain ⟨m, rfl⟩ : ∃ m, n = m + 1 := ⟨n - 1, by omega⟩
    have hm : m < t.length := by simpa using hn
    have hk' : (t[m]'hm).k = 1 := by simpa using hk
    have ht : t = t.take m ++ t[m] :: t.drop (m + 1) := by rw [← List.drop_eq_getElem_cons hm, List.take_append_drop]
    have hd : (q :: t).drop (m + 1) = t[m] :: t.drop (m + 1) := by rw [List.drop_succ_cons, List.drop_eq_getElem_cons hm]
    have hqk : q.k = 1 := by
      unfold nextE at hq
      by_cases g : q.k = 1
      · exact g
      · rw [if_neg g] at hq; cases hq
    have hqc : chkV q.d room = 0 := by
      unfold nextE at hq
      rw [if_pos hqk] at hq; exact hq
    have hall : (stepsV room q.d (t.take m ++ t[m] :: t.drop (m + 1))).1 = 0 := by rw [← ht, ← e]; exact h0
    have hpre := stepsV_pre room _ _ _ hall
    have happ := stepsV_app room _ (t[m] :: t.drop (m + 1)) _ hpre
    have hnumt : ∀ r ∈ t, RcNum r := fun r hr => hnum r (List.mem_cons_of_mem _ hr)
    have hpn := stepsV_num room (t.take m) q.d (hnum q (List.mem_cons_self ..)).d hqc (fun r hr => hnumt r (List.mem_of_mem_take hr)) hpre
    generalize (stepsV room q.d (t.take m)).2 = d at *
    have hall2 : (stepsV room d (t[m] :: t.drop (m + 1))).1 = 0 := by rw [← happ]; exact hall
    have es : stepsV room d (t[m] :: t.drop (m + 1)) = if (stepV d room t[m]).1 ≠ 0 then ((stepV d room t[m]).1, d) else stepsV room (stepV d room t[m]).2 (t.drop (m + 1)) := rfl
    have hs0 : (stepV d room t[m]).1 = 0 := by
      by_cases g : (stepV d room t[m]).1 = 0
      · exact g
      · rw [if_pos g] at es; rw [es] at hall2; exact absurd hall2 g
    rw [if_neg (by simp [hs0])] at es
    obtain ⟨_, _, ⟨_, g4, g5⟩ | ⟨g3, _⟩⟩ := step_zero hpn.1 (hnumt _ (List.getElem_mem hm)) hs0
    · have hne : nextE t[m] room = 0 := by unfold nextE; rw [if_pos hk']; exact g5
      rw [hd, repl_cons hne, e]
      conv => rhs; rw [ht]
      rw [happ, es, g4]
    · rw [hk'] at g3; cases g3
/-- a text of a record's, as an element -/
def txE : Kq.Elt ReV := ⟨1, fun r => [.string (txt (encR r))], fun _ => rfl, fun x u hu => by
  simp only [List.mem_cons, List.not_mem_nil, or_false] at hu
  subst hu; rfl, by decide⟩
theorem txE_at {w : World} {A : Option Addr} {l : List ReV} (h : txE.At w A l) : TxAt w A l := fun j hj => by
  obtain ⟨b, off, e, h1, h2⟩ := h j hj
  have h3 := h2 0 (by decide)
  refine ⟨b, off, e, h1, ?_⟩
  simpa [txE] using h3
theorem TxAt.keeps {w w' : World} {b off : Nat} {rs : List ReV} {S : Nat → Prop} (h : TxAt w (some ⟨b, off, none⟩) rs) (hk : Kq.Keeps S w w') (hS : ¬ S b) : TxAt w' (some ⟨b, off, none⟩) rs := fun j hj => by
  obtain ⟨b', off', e, h1, h2⟩ := h j hj
  have hq : b = b' ∧ off = off' := by simpa using e
  obtain ⟨rfl, rfl⟩ := hq
  refine ⟨_, _, rfl, Nat.lt_of_lt_of_le h1 hk.size, ?_⟩
  rw [← h2]; unfold World.cell?; rw [hk.block _ h1 hS]
theorem TxAt.drop {w : World} {b off : Nat} {rs : List ReV} (h : TxAt w (some ⟨b, off, none⟩) rs) (k : Nat) : TxAt w (some ⟨b, off + k, none⟩) (rs.drop k) := fun j hj => by
  have hl := List.length_drop (i := k) (l := rs)
  obtain ⟨b', off', e, h1, h2⟩ := h (k + j) (by omega)
  have hq : b = b' ∧ off = off' := by simpa using e
  obtain ⟨rfl, rfl⟩ := hq
  refine ⟨_, _, rfl, h1, ?_⟩
  rw [List.getElem_drop, ← h2]
  congr 2
  omega
theorem infoTx : (Tryz.prog.info? 9).map (fun i => (i.zero, i.size, i.bytes)) = some (some (.string ⟨#[]⟩), 1, 16) := by kernel_rfl
/-- a state in a box, its list elsewhere -/
structure BoxD (w : World) (X : Nat) (A : Option Addr) (c : Nat) (d : DaV) (Y : Nat → Prop) : Prop where
  x : DaX w X A c d
  w' : DaW w A d
  f : 0 < d.l.length → ∀ b off, A = some ⟨b, off, none⟩ → ¬ Y b
theorem BoxD.below {w v : World} {X : Nat} {A : Option Addr} {c : Nat} {d : DaV} {Y : Nat → Prop} (h : BoxD w X A c d Y) (hb : Below w.heap.size w v) : BoxD v X A c d Y := ⟨Kq.below_blk hb h.x (Kq.blk_lt h.x), h.w'.below hb, h.f⟩
theorem BoxD.keeps {w v : World} {X : Nat} {A : Option Addr} {c : Nat} {d : DaV} {Y : Nat → Prop} (h : BoxD w X A c d Y) (hk : Kq.Keeps Y w v) (hX : ¬ Y X) : BoxD v X A c d Y :=
  ⟨hk.blk h.x hX, ⟨h.w'.p0, h.w'.p1, (by
    rcases Nat.eq_zero_or_pos d.l.length with h0 | h0
    · exact fun j hj => by omega
    · exact h.w'.l.keeps hk (h.f h0)), h.w'.lw, h.w'.ll⟩, h.f⟩
/-- what Replay, Step tell, in whichever case -/
theorem DaP.box {w w' : World} {e : Int} {d : DaV} {x : Ending} (h : DaP w e d x w') (hn : e = 0 → DaNum d ∧ d.l.length ≤ 300) : ∃ (gd : DaV) (A : Option Addr) (c : Nat), x = .returned (.tuple #[daV gd A c, .int .i64 e]) ∧ DaW w' A gd ∧ (e ≠ 0 → gd = ⟨PlV.z, PlV.z, []⟩) ∧ (e = 0 → gd = d) ∧ ∀ b off, A = some ⟨b, off, none⟩ → w.heap.size ≤ b ∧ b < w'.heap.size := by
  rcases h.2 with ⟨h0, rfl⟩ | ⟨h0, A', c', rfl, hat, hge⟩
  · exact ⟨⟨PlV.z, PlV.z, []⟩, none, 0, rfl, ⟨plz_wf, plz_wf, enAt_nil _ _ _, (by intro n h; cases h), by decide⟩, fun _ => rfl, fun h => absurd h h0, fun b off e => by cases e⟩
  · obtain ⟨h1, h2⟩ := hn h0
    exact ⟨d, A', c', by rw [h0], ⟨h1.p0, h1.p1, hat, h1.lw, h2⟩, fun h => absurd h0 h, fun _ => rfl, hge⟩
theorem repl_num {room : Int} {rs : List ReV} (hnum : ∀ r ∈ rs, RcNum r) (h0 : (replayV room rs).1 = 0) : DaNum (replayV room rs).2 ∧ chkV (replayV room rs).2 room = 0 := by
  obtain ⟨q, t, rfl, hq, e⟩ := repl_front h0
  have hqk : q.k = 1 := by
    unfold nextE at hq
    by_cases g : q.k = 1
    · exact g
    · rw [if_neg g] at hq; cases hq
  have hqc : chkV q.d room = 0 := by
    unfold nextE at hq
    rw [if_pos hqk] at hq; exact hq
  rw [e] at h0 ⊢
  exact stepsV_num room t q.d (hnum q (List.mem_cons_self ..)).d hqc (fun r hr => hnum r (List.mem_cons_of_mem _ hr)) h0
theorem chk_len {room : Int} {d : DaV} (hn : DaNum d) (h : chkV d room = 0) : d.l.length ≤ 300 := by
  have h2 := (chk_tb hn h).2
  exact Nat.le_trans h2.len (Nat.le_trans h2.r40 (by decide))
end Go.Proofs.YtkbiolhcpghmkaaGreat
