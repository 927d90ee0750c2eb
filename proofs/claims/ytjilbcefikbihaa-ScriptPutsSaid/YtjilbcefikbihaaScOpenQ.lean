/- Acts, a configuration, replies among the arguments, opened. No condition. -/
import Derived.Test.YtjilbcefikbihaaChecked
import Derived.Lib.SmallJoins
import Derived.Deep.Slices
import Derived.SizedLaws
import Derived.OpenShut
import Derived.Test.YtjilbcefikbihaaTrodKitQ
import Derived.Test.YtjilbcefikbihaaScEnQ
import Derived.Test.YtjilbcefikbihaaScCfgQ
import Derived.Test.YtjilbcefikbihaaScByQ
namespace Go.Proofs.Ytjilbcefikbihaa
open Go.RowKit Go.ChangeShapes Go.WideShapes Go.Deep Go.Joins
set_option linter.unusedVariables false
set_option linter.unusedSimpArgs false
instance : Inhabited EnX := ⟨⟨SaV.zero, none, 0, 0⟩⟩
instance : Inhabited RpV := ⟨⟨0, 0, 0, []⟩⟩
structure SaV.wn (a : SaV) : Prop where
  t : 0 ≤ a.t ∧ a.t < 18446744073709551616
  mh : 0 ≤ a.mh ∧ a.mh < 18446744073709551616
  pq : 0 ≤ a.pq ∧ a.pq < 18446744073709551616
  pt : 0 ≤ a.pt ∧ a.pt < 18446744073709551616
section
variable {H : Type} {enc : TypeId × Value → H} {W : World}
theorem u64_fitsS {z : Int} (h : (Lit.int .u64 z).wf = true) : 0 ≤ z ∧ z < 18446744073709551616 := by
  simp [Lit.wf, IntKind.min, IntKind.max, IntKind.signed, IntKind.bits] at h; omega
theorem trod_sevenS {P : Program} {w : World} {base : Nat} {spare : Nat → Bool} {held : Bool} {t : TypeId} {f0 f1 f2 f3 f4 f5 f6 : Field} {fuel : Nat} {cs : List Value} {x : DataW H × List MemPlace} (ht : P.underlying t = some (.struct #[f0, f1, f2, f3, f4, f5, f6])) (h : DataW.trod enc P w base spare held fuel t cs = some x) :
    ∃ y0 y1 y2 y3 y4 y5 y6 n, DataW.trod enc P w base spare held n f0.type ((cs.drop f0.offset).take (P.cellsOf f0.type)) = some y0 ∧ DataW.trod enc P w base spare held n f1.type ((cs.drop f1.offset).take (P.cellsOf f1.type)) = some y1 ∧ DataW.trod enc P w base spare held n f2.type ((cs.drop f2.offset).take (P.cellsOf f2.type)) = some y2 ∧ DataW.trod enc P w base spare held n f3.type ((cs.drop f3.offset).take (P.cellsOf f3.type)) = some y3 ∧ DataW.trod enc P w base spare held n f4.type ((cs.drop f4.offset).take (P.cellsOf f4.type)) = some y4 ∧ DataW.trod enc P w base spare held n f5.type ((cs.drop f5.offset).take (P.cellsOf f5.type)) = some y5 ∧ DataW.trod enc P w base spare held n f6.type ((cs.drop f6.offset).take (P.cellsOf f6.type)) = some y6 := by
  obtain ⟨xs, n, _, rfl, hl, hlen, hf⟩ := DataW.trod_struct ht h
  match xs, hlen with
  | [y0, y1, y2, y3, y4, y5, y6], _ => exact ⟨y0, y1, y2, y3, y4, y5, y6, n, by simpa using hf 0 f0 rfl, by simpa using hf 1 f1 rfl, by simpa using hf 2 f2 rfl, by simpa using hf 3 f3 rfl, by simpa using hf 4 f4 rfl, by simpa using hf 5 f5 rfl, by simpa using hf 6 f6 rfl⟩
theorem array_14 {α : Type} {a : Array α} (h : a.size = 14) : ∃ x0 x1 x2 x3 x4 x5 x6 x7 x8 x9 x10 x11 x12 x13, a = #[x0, x1, x2, x3, x4, x5, x6, x7, x8, x9, x10, x11, x12, x13] := by
  obtain ⟨l⟩ := a
  match l, h with
  | [x0, x1, x2, x3, x4, x5, x6, x7, x8, x9, x10, x11, x12, x13], _ => exact ⟨x0, x1, x2, x3, x4, x5, x6, x7, x8, x9, x10, x11, x12, x13, rfl⟩
theorem array_9 {α : Type} {a : Array α} (h : a.size = 9) : ∃ x0 x1 x2 x3 x4 x5 x6 x7 x8, a = #[x0, x1, x2, x3, x4, x5, x6, x7, x8] := by
  obtain ⟨l⟩ := a
  match l, h with
  | [x0, x1, x2, x3, x4, x5, x6, x7, x8], _ => exact ⟨x0, x1, x2, x3, x4, x5, x6, x7, x8, rfl⟩
theorem wt_raw {fuel : Nat} {c0 c1 : Value} {x : DataW H × List MemPlace} (h : DataW.trod enc Try.prog W 0 (fun _ => true) true fuel 87 [c0, c1] = some x) : ∃ p : Bool × Int, c0 = .bool p.1 ∧ c1 = .int .i64 p.2 := by
  have k1 : Try.prog.cellsOf 3 = 1 := by kernel_rfl
  have k3 : Try.prog.cellsOf 4 = 1 := by kernel_rfl
  obtain ⟨y0, y1, n', t0, t1⟩ := trod_two Try.underlying87 h
  simp only [k1, k3, List.drop_zero, List.drop_succ_cons, List.take_succ_cons, List.take_zero] at t0 t1
  obtain ⟨z0, e0, _⟩ := DataW.trod_bool Try.underlying4 t0
  obtain ⟨z1, e1, _, _⟩ := DataW.trod_int Try.underlying3 t1
  simp only [List.cons.injEq, and_true] at e0 e1
  exact ⟨(z0, z1), e0, e1⟩
set_option maxRecDepth 100000 in
theorem wts_raw {fuel : Nat} {cv : Value} {x : DataW H × List MemPlace} (hf : DataW.trod enc Try.prog W 0 (fun _ => true) true fuel 27 [cv] = some x) :
    ∃ A cap l, cv = .slice A (List.length l) cap ∧ WsAt W (.slice A l.length cap) l ∧ ∀ b, sBlk (.slice A l.length cap) = some b → b < W.heap.size := by
  have hc8 : Try.prog.cellsOf 87 = 2 := by kernel_rfl
  rcases open_slice Try.underlying27 hf with ⟨hcs, _⟩ | ⟨x, len', cap', m, n, D, Pl, hcs, _, hl, hm, hmm, hx, hel⟩
  · simp only [List.cons.injEq, and_true] at hcs
    subst hcs
    exact ⟨none, 0, [], rfl, ⟨none, 0, rfl, fun i hi => absurd hi (Nat.not_lt_zero _)⟩, fun b h => by cases h⟩
  · simp only [List.cons.injEq, and_true] at hcs
    subst hcs
    simp only [if_true] at hmm
    subst hmm
    have hbl : ∀ b, sBlk (.slice (some x) len' m) = some b → b < W.heap.size := by
      intro b0 h
      have hb := own_sB h
      by_cases hc : len' = 0 ∧ m = 0
      · have : sBlk (.slice (some x) len' m) = none := if_pos hc
        rw [this] at h; cases h
      · obtain ⟨cs, h1, h2⟩ := hel 0 (by omega)
        rw [hc8, Nat.zero_mul] at h1
        obtain ⟨b, off, rfl⟩ := head_flat (by decide) h1
        rw [Kq.Elt.add_flat] at h1
        obtain ⟨_, hlen, hcell⟩ := World.cells?_some h1
        match cs, hlen with
        | [c0, c1], _ =>
          have q0 := hcell 0 (by omega)
          simp only [Kq.Elt.add_flat, Nat.add_zero, List.getElem?_cons_zero] at q0
          injection hb with hb
          rw [← hb]; exact cell_lt q0
    by_cases h0 : len' = 0
    · subst h0
      exact ⟨some x, m, [], rfl, ⟨_, _, rfl, fun i hi => absurd hi (Nat.not_lt_zero _)⟩, hbl⟩
    obtain ⟨b, off, rfl⟩ : ∃ b off, x = ⟨b, off, none⟩ := by
      obtain ⟨cs, h1, _⟩ := hel 0 (by omega)
      rw [hc8, Nat.zero_mul] at h1
      exact head_flat (by decide) h1
    have key : ∀ i, i < len' → ∃ c : Bool × Int, b < W.heap.size ∧ W.cell? ⟨b, off + i * 2, none⟩ = some (.bool c.1) ∧ W.cell? ⟨b, off + i * 2 + 1, none⟩ = some (.int .i64 c.2) := by
      intro i hi
      obtain ⟨cs, h1, h2⟩ := hel i (Nat.lt_of_lt_of_le hi hl)
      rw [hc8, Kq.Elt.add_flat] at h1
      obtain ⟨_, hlen, hcell⟩ := World.cells?_some h1
      match cs, hlen with
      | [c0, c1], _ =>
        obtain ⟨c, rfl, rfl⟩ := wt_raw h2
        have q0 := hcell 0 (by omega)
        have q1 := hcell 1 (by omega)
        simp only [Kq.Elt.add_flat, Nat.add_zero, List.getElem?_cons_zero, List.getElem?_cons_succ] at q0 q1
        exact ⟨c, cell_lt q0, q0, q1⟩
    obtain ⟨f, hf'⟩ := choose_lt key
    refine ⟨some ⟨b, off, none⟩, m, (List.range len').map f, by simp, ⟨_, _, rfl, fun i hi => ?_⟩, by simpa using hbl⟩
    have hi' : i < len' := by simpa using hi
    obtain ⟨hlt, q0, q1⟩ := hf' i hi'
    exact ⟨b, off, rfl, hlt, by simp only [List.getElem_map, List.getElem_range]; exact q0, by simp only [List.getElem_map, List.getElem_range]; exact q1⟩
set_option maxRecDepth 100000 in
theorem act_raw {fuel : Nat} {c0 c1 c2 c3 c4 c5 c6 c7 c8 c9 c10 c11 c12 c13 : Value} {x : DataW H × List MemPlace} (h : DataW.trod enc Try.prog W 0 (fun _ => true) true fuel 29 [c0, c1, c2, c3, c4, c5, c6, c7, c8, c9, c10, c11, c12, c13] = some x) :
    ∃ e : EnX, [c0, c1, c2, c3, c4, c5, c6, c7, c8, c9, c10, c11, c12, c13] = e.a.cells e.sl [] ∧ WsAt W e.sl e.a.ws ∧ e.a.wn ∧ ∀ b, sBlk e.sl = some b → b < W.heap.size := by
  have k0 : Try.prog.cellsOf 3 = 1 := by kernel_rfl
  have k1 : Try.prog.cellsOf 9 = 1 := by kernel_rfl
  have k2 : Try.prog.cellsOf 22 = 1 := by kernel_rfl
  have k3 : Try.prog.cellsOf 24 = 4 := by kernel_rfl
  have k4 : Try.prog.cellsOf 26 = 8 := by kernel_rfl
  have k5 : Try.prog.cellsOf 27 = 1 := by kernel_rfl
  obtain ⟨y0, y1, y2, y3, y4, y5, y6, n', t0, t1, t2, t3, t4, t5, t6⟩ := trod_sevenS Try.underlying29 h
  simp only [k0, k1, k2, k4, k5, List.drop_zero, List.drop_succ_cons, List.take_succ_cons, List.take_zero] at t0 t1 t2 t3 t4 t5 t6
  obtain ⟨u0, u1, u2, u3, u4, n2, s0, s1, s2, s3, s4⟩ := trod_five Try.underlying26 t5
  simp only [k0, k1, k2, k3, List.drop_zero, List.drop_succ_cons, List.take_succ_cons, List.take_zero] at s0 s1 s2 s3 s4
  obtain ⟨v0, v1, v2, v3, n3, r0, r1, r2, r3⟩ := trod_four Try.underlying24 s3
  simp only [k0, k1, k2, List.drop_zero, List.drop_succ_cons, List.take_succ_cons, List.take_zero] at r0 r1 r2 r3
  obtain ⟨z0, e0, _, _⟩ := DataW.trod_int Try.underlying3 t0
  obtain ⟨z1, e1, _, _⟩ := DataW.trod_int Try.underlying3 t1
  obtain ⟨z2, e2, _, g2⟩ := DataW.trod_int Try.underlying22 t2
  obtain ⟨z3, e3, _, _⟩ := DataW.trod_string Try.underlying9 t3
  obtain ⟨z4, e4, _, _⟩ := DataW.trod_int Try.underlying3 t4
  obtain ⟨z5, e5, _, _⟩ := DataW.trod_int Try.underlying3 s0
  obtain ⟨z6, e6, _, _⟩ := DataW.trod_int Try.underlying3 s1
  obtain ⟨z7, e7, _, g7⟩ := DataW.trod_int Try.underlying22 s2
  obtain ⟨z8, e8, _, _⟩ := DataW.trod_int Try.underlying3 r0
  obtain ⟨z9, e9, _, g9⟩ := DataW.trod_int Try.underlying22 r1
  obtain ⟨za, ea, _, ga⟩ := DataW.trod_int Try.underlying22 r2
  obtain ⟨zb, eb, _, _⟩ := DataW.trod_string Try.underlying9 r3
  obtain ⟨zc, ec, _, _⟩ := DataW.trod_string Try.underlying9 s4
  obtain ⟨A, cap, ws, ed, hat, hbl⟩ := wts_raw t6
  simp only [List.cons.injEq, and_true] at e0 e1 e2 e3 e4 e5 e6 e7 e8 e9 ea eb ec
  subst e0 e1 e2 e3 e4 e5 e6 e7 e8 e9 ea eb ec ed
  exact ⟨⟨⟨z0, z1, z2, z3, z4, z5, z6, z7, z8, z9, za, zb, zc, ws⟩, A, cap, 0⟩, rfl, hat, ⟨u64_fitsS g2, u64_fitsS g7, u64_fitsS g9, u64_fitsS ga⟩, hbl⟩
set_option maxRecDepth 100000 in
theorem act_open {base : Nat} {v : Value} {d : DataW H} {p : List MemPlace}
    (hval : Value.okWide Try.prog W .any base 29 v) (h : DataW.Trod enc Try.prog W 0 (fun _ => true) true 29 v d p) (_hz : ∀ n ∈ d.weights Try.prog 29, n ≤ reachBytes) :
    ∃ e : EnX, v = .agg ⟨e.a.cells e.sl []⟩ ∧ WsAt W e.sl e.a.ws ∧ e.a.wn ∧ ∀ b, sBlk e.sl = some b → b < W.heap.size := by
  obtain ⟨cs, rfl, hsz⟩ := okWide_struct Try.underlying29 hval
  obtain ⟨c0, c1, c2, c3, c4, c5, c6, c7, c8, c9, c10, c11, c12, c13, rfl⟩ := array_14 (hsz.trans (by kernel_rfl))
  obtain ⟨fuel, hf⟩ := h
  obtain ⟨e, he, hw⟩ := act_raw hf
  exact ⟨e, by rw [← he], hw⟩
/-- acts in memory -/
def ActsAt (w : World) (A : Option Addr) (l : List EnX) : Prop := ∀ j (h : j < l.length), ∃ b off, A = some ⟨b, off, none⟩ ∧ b < w.heap.size ∧ (∀ i, i < 14 → w.cell? ⟨b, off + j * 14 + i, none⟩ = (l[j].a.cells l[j].sl [])[i]?) ∧ WsAt w l[j].sl l[j].a.ws ∧ l[j].a.wn ∧ ∀ b, sBlk l[j].sl = some b → b < w.heap.size
set_option maxRecDepth 100000 in
theorem acts_open {base : Nat} {v : Value} {d : DataW H} {p : List MemPlace}
    (hval : Value.okWide Try.prog W .any base 59 v) (h : DataW.Trod enc Try.prog W 0 (fun _ => true) true 59 v d p) (_hz : ∀ n ∈ d.weights Try.prog 59, n ≤ reachBytes) :
    ∃ A cap, ∃ l : List EnX, v = .slice A l.length cap ∧ ActsAt W A l := by
  obtain ⟨a, len, cap, rfl⟩ := okWide_slice Try.underlying59 hval
  obtain ⟨fuel, hf⟩ := h
  have hc8 : Try.prog.cellsOf 29 = 14 := by kernel_rfl
  rcases open_slice Try.underlying59 hf with ⟨hcs, _⟩ | ⟨x, len', cap', m, n, D, Pl, hcs, _, hl, hm, hmm, hx, hel⟩
  · simp [Value.cells] at hcs
    obtain ⟨rfl, rfl, rfl⟩ := hcs
    exact ⟨none, 0, [], rfl, fun i hi => absurd hi (Nat.not_lt_zero _)⟩
  · simp [Value.cells] at hcs
    obtain ⟨rfl, rfl, rfl⟩ := hcs
    simp only [if_true] at hmm
    subst hmm
    by_cases h0 : len = 0
    · subst h0
      exact ⟨some x, _, [], rfl, fun i hi => absurd hi (Nat.not_lt_zero _)⟩
    obtain ⟨b, off, rfl⟩ : ∃ b off, x = ⟨b, off, none⟩ := by
      obtain ⟨cs, h1, _⟩ := hel 0 (by omega)
      rw [hc8, Nat.zero_mul] at h1
      exact head_flat (by decide) h1
    have key : ∀ i, i < len → ∃ c : EnX, b < W.heap.size ∧ (∀ j, j < 14 → W.cell? ⟨b, off + i * 14 + j, none⟩ = (c.a.cells c.sl [])[j]?) ∧ WsAt W c.sl c.a.ws ∧ c.a.wn ∧ ∀ b, sBlk c.sl = some b → b < W.heap.size := by
      intro i hi
      obtain ⟨cs, h1, h2⟩ := hel i (Nat.lt_of_lt_of_le hi hl)
      rw [hc8, Kq.Elt.add_flat] at h1
      obtain ⟨_, hlen, hcell⟩ := World.cells?_some h1
      match cs, hlen with
      | [c0, c1, c2, c3, c4, c5, c6, c7, c8, c9, c10, c11, c12, c13], _ =>
        obtain ⟨e, he, hw⟩ := act_raw h2
        have q0 := hcell 0 (by omega)
        simp only [Kq.Elt.add_flat, Nat.add_zero, List.getElem?_cons_zero] at q0
        refine ⟨e, cell_lt q0, fun j hj => ?_, hw⟩
        have q := hcell j hj
        rw [Kq.Elt.add_flat] at q
        rw [q, he]
    obtain ⟨f, hf'⟩ := choose_lt key
    refine ⟨some ⟨b, off, none⟩, m, (List.range len).map f, by simp, fun i hi => ?_⟩
    have hi' : i < len := by simpa using hi
    obtain ⟨hlt, q, hd⟩ := hf' i hi'
    exact ⟨b, off, rfl, hlt, fun j hj => by have h := q j hj; simp only [List.getElem_map, List.getElem_range]; exact h, by simp only [List.getElem_map, List.getElem_range]; exact hd⟩
theorem pair_raw {fuel : Nat} {c0 c1 : Value} {x : DataW H × List MemPlace} (h : DataW.trod enc Try.prog W 0 (fun _ => true) true fuel 30 [c0, c1] = some x) : ∃ p q : Int, c0 = .int .u64 p ∧ c1 = .int .u64 q ∧ (0 ≤ p ∧ p < 18446744073709551616) ∧ (0 ≤ q ∧ q < 18446744073709551616) := by
  have k2 : Try.prog.cellsOf 22 = 1 := by kernel_rfl
  obtain ⟨xs, m, rfl, rfl, hl, hlen, hel⟩ := DataW.trod_array Try.underlying30 h
  match xs, hlen with
  | [y0, y1], _ =>
    have t0 := hel 0 (by decide)
    have t1 := hel 1 (by decide)
    simp only [k2, Nat.zero_mul, Nat.one_mul, List.drop_zero, List.drop_succ_cons, List.take_succ_cons, List.take_zero, List.getElem?_cons_zero, List.getElem?_cons_succ] at t0 t1
    obtain ⟨p, e0, _, hp⟩ := DataW.trod_int Try.underlying22 t0
    obtain ⟨q, e1, _, hq⟩ := DataW.trod_int Try.underlying22 t1
    simp only [List.cons.injEq, and_true] at e0 e1
    exact ⟨p, q, e0, e1, u64_fitsS hp, u64_fitsS hq⟩
set_option maxRecDepth 100000 in
theorem config_open {base : Nat} {v : Value} {d : DataW H} {p : List MemPlace}
    (hval : Value.okWide Try.prog W .any base 32 v) (h : DataW.Trod enc Try.prog W 0 (fun _ => true) true 32 v d p) (_hz : ∀ n ∈ d.weights Try.prog 32, n ≤ reachBytes) :
    ∃ c : CoV, v = .agg #[.int .i64 c.sec, .int .i64 c.secs, .int .i64 c.tb, .int .i64 c.bt, .int .i64 c.sc, .int .u64 c.h0, .int .u64 c.h1, .int .u64 c.s0, .int .u64 c.s1] ∧ c.wf := by
  obtain ⟨cs, rfl, hsz⟩ := okWide_struct Try.underlying32 hval
  obtain ⟨c0, c1, c2, c3, c4, c5, c6, c7, c8, rfl⟩ := array_9 (hsz.trans (by kernel_rfl))
  obtain ⟨fuel, hf0⟩ := h
  have hf : DataW.trod enc Try.prog W 0 (fun _ => true) true fuel 32 [c0, c1, c2, c3, c4, c5, c6, c7, c8] = some (d, p) := hf0
  have k0 : Try.prog.cellsOf 3 = 1 := by kernel_rfl
  have k1 : Try.prog.cellsOf 30 = 2 := by kernel_rfl
  obtain ⟨y0, y1, y2, y3, y4, y5, y6, n', t0, t1, t2, t3, t4, t5, t6⟩ := trod_sevenS Try.underlying32 hf
  simp only [k0, k1, List.drop_zero, List.drop_succ_cons, List.take_succ_cons, List.take_zero] at t0 t1 t2 t3 t4 t5 t6
  obtain ⟨z0, e0, _, _⟩ := DataW.trod_int Try.underlying3 t0
  obtain ⟨z1, e1, _, _⟩ := DataW.trod_int Try.underlying3 t1
  obtain ⟨z2, e2, _, _⟩ := DataW.trod_int Try.underlying3 t2
  obtain ⟨z3, e3, _, _⟩ := DataW.trod_int Try.underlying3 t3
  obtain ⟨z4, e4, _, _⟩ := DataW.trod_int Try.underlying3 t4
  obtain ⟨h0, h1, rfl, rfl, g0, g1⟩ := pair_raw t5
  obtain ⟨s0, s1, rfl, rfl, g2, g3⟩ := pair_raw t6
  simp only [List.cons.injEq, and_true] at e0 e1 e2 e3 e4
  subst e0 e1 e2 e3 e4
  exact ⟨⟨z0, z1, z2, z3, z4, h0, h1, s0, s1⟩, rfl, g0, g1, g2, g3⟩
set_option maxRecDepth 100000 in
theorem cods_raw {fuel : Nat} {cv : Value} {x : DataW H × List MemPlace} (hf : DataW.trod enc Try.prog W 0 (fun _ => true) true fuel 37 [cv] = some x) :
    ∃ A cap l, cv = .slice A (List.length l) cap ∧ l.length ≤ cap ∧ CodAt W A l := by
  have hc8 : Try.prog.cellsOf 36 = 1 := by kernel_rfl
  rcases open_slice Try.underlying37 hf with ⟨hcs, _⟩ | ⟨x, len', cap', m, n, D, Pl, hcs, _, hl, hm, hmm, hx, hel⟩
  · simp only [List.cons.injEq, and_true] at hcs
    subst hcs
    exact ⟨none, 0, [], rfl, Nat.zero_le _, fun i hi => absurd hi (Nat.not_lt_zero _)⟩
  · simp only [List.cons.injEq, and_true] at hcs
    subst hcs
    simp only [if_true] at hmm
    subst hmm
    by_cases h0 : len' = 0
    · subst h0
      exact ⟨some x, _, [], rfl, Nat.zero_le _, fun i hi => absurd hi (Nat.not_lt_zero _)⟩
    obtain ⟨b, off, rfl⟩ : ∃ b off, x = ⟨b, off, none⟩ := by
      obtain ⟨cs, h1, _⟩ := hel 0 (by omega)
      rw [hc8, Nat.zero_mul] at h1
      exact head_flat (by decide) h1
    have key : ∀ i, i < len' → ∃ c : Int, b < W.heap.size ∧ W.cell? ⟨b, off + i, none⟩ = some (.int .i64 c) := by
      intro i hi
      obtain ⟨cs, h1, h2⟩ := hel i (Nat.lt_of_lt_of_le hi hl)
      rw [hc8, Kq.Elt.add_flat] at h1
      obtain ⟨_, hlen, hcell⟩ := World.cells?_some h1
      match cs, hlen with
      | [c0], _ =>
        obtain ⟨c, e, _, _⟩ := DataW.trod_int Try.underlying36 h2
        simp only [List.cons.injEq, and_true] at e
        subst e
        have q0 := hcell 0 (by omega)
        simp only [Kq.Elt.add_flat, Nat.add_zero, Nat.mul_one, List.getElem?_cons_zero] at q0
        exact ⟨c, cell_lt q0, q0⟩
    obtain ⟨f, hf'⟩ := choose_lt key
    refine ⟨some ⟨b, off, none⟩, m, (List.range len').map f, by simp, by simp; omega, fun i hi => ?_⟩
    have hi' : i < len' := by simpa using hi
    obtain ⟨hlt, q0⟩ := hf' i hi'
    exact ⟨b, off, rfl, hlt, by simp only [List.getElem_map, List.getElem_range]; exact q0⟩
set_option maxRecDepth 100000 in
theorem replies_open {base : Nat} {v : Value} {d : DataW H} {p : List MemPlace}
    (hval : Value.okWide Try.prog W .any base 33 v) (h : DataW.Trod enc Try.prog W 0 (fun _ => true) true 33 v d p) (_hz : ∀ n ∈ d.weights Try.prog 33, n ≤ reachBytes) :
    ∃ A cap, ∃ l : List RpV, v = .slice A l.length cap ∧ RpsAt W A l ∧ ∀ r ∈ l, 0 ≤ r.q ∧ r.q < 18446744073709551616 := by
  obtain ⟨a, len, cap, rfl⟩ := okWide_slice Try.underlying33 hval
  obtain ⟨fuel, hf⟩ := h
  have hc8 : Try.prog.cellsOf 39 = 4 := by kernel_rfl
  rcases open_slice Try.underlying33 hf with ⟨hcs, _⟩ | ⟨x, len', cap', m, n, D, Pl, hcs, _, hl, hm, hmm, hx, hel⟩
  · simp [Value.cells] at hcs
    obtain ⟨rfl, rfl, rfl⟩ := hcs
    exact ⟨none, 0, [], rfl, fun i hi => absurd hi (Nat.not_lt_zero _), fun r hr => by cases hr⟩
  · simp [Value.cells] at hcs
    obtain ⟨rfl, rfl, rfl⟩ := hcs
    simp only [if_true] at hmm
    subst hmm
    by_cases h0 : len = 0
    · subst h0
      exact ⟨some x, _, [], rfl, fun i hi => absurd hi (Nat.not_lt_zero _), fun r hr => by cases hr⟩
    obtain ⟨b, off, rfl⟩ : ∃ b off, x = ⟨b, off, none⟩ := by
      obtain ⟨cs, h1, _⟩ := hel 0 (by omega)
      rw [hc8, Nat.zero_mul] at h1
      exact head_flat (by decide) h1
    have key : ∀ i, i < len → ∃ c : RpV, b < W.heap.size ∧ (0 ≤ c.q ∧ c.q < 18446744073709551616) ∧ ∃ CA cp, W.cell? ⟨b, off + i * 4, none⟩ = some (.int .i64 c.e) ∧ W.cell? ⟨b, off + i * 4 + 1, none⟩ = some (.int .u64 c.q) ∧ W.cell? ⟨b, off + i * 4 + 2, none⟩ = some (.int .i64 c.n) ∧ W.cell? ⟨b, off + i * 4 + 3, none⟩ = some (.slice CA c.cs.length cp) ∧ c.cs.length ≤ cp ∧ CodAt W CA c.cs := by
      intro i hi
      obtain ⟨cs, h1, h2⟩ := hel i (Nat.lt_of_lt_of_le hi hl)
      rw [hc8, Kq.Elt.add_flat] at h1
      obtain ⟨_, hlen, hcell⟩ := World.cells?_some h1
      match cs, hlen with
      | [c0, c1, c2, c3], _ =>
        have k0 : Try.prog.cellsOf 3 = 1 := by kernel_rfl
        have k1 : Try.prog.cellsOf 36 = 1 := by kernel_rfl
        have k2 : Try.prog.cellsOf 22 = 1 := by kernel_rfl
        have k3 : Try.prog.cellsOf 37 = 1 := by kernel_rfl
        obtain ⟨y0, y1, y2, y3, n', t0, t1, t2, t3⟩ := trod_four Try.underlying39 h2
        simp only [k0, k1, k2, k3, List.drop_zero, List.drop_succ_cons, List.take_succ_cons, List.take_zero] at t0 t1 t2 t3
        obtain ⟨z0, e0, _, _⟩ := DataW.trod_int Try.underlying36 t0
        obtain ⟨z1, e1, _, g1⟩ := DataW.trod_int Try.underlying22 t1
        obtain ⟨z2, e2, _, _⟩ := DataW.trod_int Try.underlying3 t2
        obtain ⟨CA, cp, l, e3, hcp, hcod⟩ := cods_raw t3
        simp only [List.cons.injEq, and_true] at e0 e1 e2
        subst e0 e1 e2 e3
        have q0 := hcell 0 (by omega)
        have q1 := hcell 1 (by omega)
        have q2 := hcell 2 (by omega)
        have q3 := hcell 3 (by omega)
        simp only [Kq.Elt.add_flat, Nat.add_zero, List.getElem?_cons_zero, List.getElem?_cons_succ] at q0 q1 q2 q3
        exact ⟨⟨z0, z1, z2, l⟩, cell_lt q0, u64_fitsS g1, CA, cp, q0, q1, q2, q3, hcp, hcod⟩
    obtain ⟨f, hf'⟩ := choose_lt key
    refine ⟨some ⟨b, off, none⟩, m, (List.range len).map f, by simp, fun i hi => ?_, fun r hr => ?_⟩
    · have hi' : i < len := by simpa using hi
      obtain ⟨hlt, _, CA, cp, q0, q1, q2, q3, q4, q5⟩ := hf' i hi'
      refine ⟨b, off, CA, cp, rfl, hlt, ?_⟩
      simp only [List.getElem_map, List.getElem_range]
      exact ⟨q0, q1, q2, q3, q4, q5⟩
    · obtain ⟨i, hi, rfl⟩ := List.mem_map.1 hr
      exact (hf' i (List.mem_range.1 hi)).2.1
end
end Go.Proofs.Ytjilbcefikbihaa
