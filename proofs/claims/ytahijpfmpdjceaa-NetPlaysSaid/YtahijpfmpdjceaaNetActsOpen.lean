/- A slice of carrackref20.Act among the arguments, opened: its slices of messages too. No condition. -/
import Derived.Test.YtahijpfmpdjceaaChecked
import Derived.Lib.SmallJoins
import Derived.Deep.Slices
import Derived.SizedLaws
import Derived.Test.YtahijpfmpdjceaaMsgsOpen
namespace Go.Proofs.Ytahijpfmpdjceaa
open Go.RowKit Go.ChangeShapes Go.WideShapes Go.Deep Go.Joins
set_option linter.unusedVariables false
/-- what a message's parts may be -/
structure MsgV.wf (c : MsgV) : Prop where
  w0 : (Lit.int .i64 c.kind).wf = true
  w1 : (Lit.int .i64 c.to).wf = true
  w2 : (Lit.int .u64 c.ht).wf = true
  w3 : (Lit.int .i64 c.fr).wf = true
  w4 : (Lit.int .u64 c.sq).wf = true
  w5 : (Lit.int .u64 c.tm).wf = true
  w6 : c.d.size ≤ maxLen
  w7 : c.p.size ≤ maxLen
structure NAct where
  kind : Int
  k : Int
  to : Int
  la : Option Addr
  lcap : Nat
  l : List MsgV
instance : Inhabited NAct := ⟨⟨0, 0, 0, none, 0, []⟩⟩
structure IsNAct (w : World) (b o : Nat) (c : NAct) : Prop where
  c0 : w.cell? ⟨b, o, none⟩ = some (.int .i64 c.kind)
  c1 : w.cell? ⟨b, o + 1, none⟩ = some (.int .i64 c.k)
  c2 : w.cell? ⟨b, o + 2, none⟩ = some (.int .i64 c.to)
  c3 : w.cell? ⟨b, o + 3, none⟩ = some (.slice c.la c.l.length c.lcap)
  wk : (Lit.int .i64 c.k).wf = true
  wt : (Lit.int .i64 c.to).wf = true
  cap : c.l.length ≤ c.lcap
  nil : c.la = none → c.l.length = 0
  wf : ∀ m ∈ c.l, m.wf
  ms : MsAt w c.la c.l
def NActsAt (w : World) (a : Option Addr) (l : List NAct) : Prop := ∀ i (h : i < l.length), ∃ b off, a = some ⟨b, off, none⟩ ∧ b < w.heap.size ∧ IsNAct w b (off + i * 4) l[i]
theorem IsNAct.later {w w' : World} {b o : Nat} {c : NAct} (h : IsNAct w b o c) (hb : Below w.heap.size w w') (hlt : b < w.heap.size) : IsNAct w' b o c :=
  ⟨(hb.cell (p := ⟨b, o, none⟩) hlt).trans h.c0, (hb.cell (p := ⟨b, o + 1, none⟩) hlt).trans h.c1, (hb.cell (p := ⟨b, o + 2, none⟩) hlt).trans h.c2, (hb.cell (p := ⟨b, o + 3, none⟩) hlt).trans h.c3, h.wk, h.wt, h.cap, h.nil, h.wf, h.ms.below hb⟩
theorem NActsAt.later {w w' : World} {a : Option Addr} {l : List NAct} (h : NActsAt w a l) (hb : Below w.heap.size w w') : NActsAt w' a l := fun i hi => by
  obtain ⟨b, off, ha, hlt, hc⟩ := h i hi
  exact ⟨b, off, ha, Nat.lt_of_lt_of_le hlt hb.size, hc.later hb hlt⟩
section
variable {H : Type} {enc : TypeId × Value → H} {W : World}
set_option maxRecDepth 100000 in
theorem msgs_raw {fuel : Nat} {v : Value} {x : DataW H × List MemPlace} (hf : DataW.trod enc Try.prog W 0 (fun _ => true) true fuel 28 [v] = some x) :
    ∃ A cap l, v = .slice A l.length cap ∧ l.length ≤ cap ∧ (A = none → l.length = 0) ∧ (∀ m ∈ l, MsgV.wf m) ∧ MsAt W A l := by
  have hc8 : Try.prog.cellsOf 39 = 8 := by kernel_rfl
  have k1 : Try.prog.cellsOf 3 = 1 := by kernel_rfl
  have k2 : Try.prog.cellsOf 9 = 1 := by kernel_rfl
  have k3 : Try.prog.cellsOf 35 = 1 := by kernel_rfl
  have k4 : Try.prog.cellsOf 37 = 4 := by kernel_rfl
  rcases open_slice Try.underlying28 hf with ⟨hcs, _⟩ | ⟨x, len, cap', m, n, D, Pl, hcs, _, hl, hm, hmm, hx, hel⟩
  · simp only [List.cons.injEq, and_true] at hcs
    subst hcs
    exact ⟨none, 0, [], rfl, Nat.zero_le _, fun _ => rfl, (fun m hm => by cases hm), fun i hi => absurd hi (Nat.not_lt_zero _)⟩
  · simp only [List.cons.injEq, and_true] at hcs
    subst hcs
    simp only [if_true] at hmm
    subst hmm
    by_cases h0 : len = 0
    · subst h0
      exact ⟨some x, _, [], rfl, Nat.zero_le _, fun _ => rfl, (fun m hm => by cases hm), fun i hi => absurd hi (Nat.not_lt_zero _)⟩
    obtain ⟨b, off, rfl⟩ : ∃ b off, x = ⟨b, off, none⟩ := by
      obtain ⟨cs, h1, _⟩ := hel 0 (by omega)
      rw [hc8, Nat.zero_mul] at h1
      exact head_flat (by decide) h1
    have key : ∀ i, i < len → ∃ c : MsgV, c.wf ∧ b < W.heap.size ∧ ∀ j, j < 8 → W.cell? ⟨b, off + i * 8 + j, none⟩ = c.cells[j]? := by
      intro i hi
      obtain ⟨cs, h1, h2⟩ := hel i (Nat.lt_of_lt_of_le hi hl)
      rw [hc8, add_flat] at h1
      obtain ⟨_, hlen, hcell⟩ := World.cells?_some h1
      obtain ⟨y0, y1, y2, y3, y4, n', t0, t1, t2, t3, t4⟩ := trod_five Try.underlying39 h2
      match cs, hlen with
      | [c0, c1, c2, c3, c4, c5, c6, c7], _ =>
        simp only [k1, k2, k3, k4, List.drop_zero, List.drop_succ_cons, List.take_succ_cons, List.take_zero] at t0 t1 t2 t3 t4
        obtain ⟨u0, u1, u2, u3, n2, s0, s1, s2, s3⟩ := trod_four Try.underlying37 t3
        simp only [k1, k2, k3, List.drop_zero, List.drop_succ_cons, List.take_succ_cons, List.take_zero] at s0 s1 s2 s3
        obtain ⟨z0, e0, _, w0⟩ := DataW.trod_int Try.underlying3 t0
        obtain ⟨z1, e1, _, w1⟩ := DataW.trod_int Try.underlying3 t1
        obtain ⟨z2, e2, _, w2⟩ := DataW.trod_int Try.underlying35 t2
        obtain ⟨z3, e3, _, w3⟩ := DataW.trod_int Try.underlying3 s0
        obtain ⟨z4, e4, _, w4⟩ := DataW.trod_int Try.underlying35 s1
        obtain ⟨z5, e5, _, w5⟩ := DataW.trod_int Try.underlying35 s2
        obtain ⟨z6, e6, _, w6⟩ := DataW.trod_string Try.underlying9 s3
        obtain ⟨z7, e7, _, w7⟩ := DataW.trod_string Try.underlying9 t4
        simp only [List.cons.injEq, and_true] at e0 e1 e2 e3 e4 e5 e6 e7
        subst e0 e1 e2 e3 e4 e5 e6 e7
        have q0 := hcell 0 (by omega)
        simp only [add_flat, Nat.add_zero, List.getElem?_cons_zero] at q0
        refine ⟨⟨z0, z1, z2, z3, z4, z5, z6, z7⟩, ⟨w0, w1, w2, w3, w4, w5, w6, w7⟩, cell_lt q0, fun j hj => ?_⟩
        have q := hcell j hj
        rw [add_flat] at q
        rw [q]
        rfl
    obtain ⟨f, hf'⟩ := choose_lt key
    refine ⟨some ⟨b, off, none⟩, m, (List.range len).map f, by simp, by simp; omega, (fun e => by cases e), (fun c hc => ?_), fun i hi => ?_⟩
    · simp only [List.mem_map, List.mem_range] at hc
      obtain ⟨i, hi, rfl⟩ := hc
      exact (hf' i hi).1
    have hi' : i < len := by simpa using hi
    obtain ⟨_, hlt, q⟩ := hf' i hi'
    exact ⟨b, off, rfl, hlt, fun j hj => by simpa using q j hj⟩
set_option maxRecDepth 100000 in
theorem nacts_open {base : Nat} {v : Value} {d : DataW H} {p : List MemPlace}
    (hval : Value.okWide Try.prog W .any base 22 v) (h : DataW.Trod enc Try.prog W 0 (fun _ => true) true 22 v d p) (_hz : ∀ n ∈ d.weights Try.prog 22, n ≤ reachBytes) :
    ∃ A cap l, v = .slice A l.length cap ∧ l.length ≤ maxLen ∧ NActsAt W A l := by
  obtain ⟨a, len, cap, rfl⟩ := okWide_slice Try.underlying22 hval
  obtain ⟨fuel, hf⟩ := h
  have hc4 : Try.prog.cellsOf 32 = 4 := by kernel_rfl
  have k1 : Try.prog.cellsOf 3 = 1 := by kernel_rfl
  have k3 : Try.prog.cellsOf 28 = 1 := by kernel_rfl
  rcases open_slice Try.underlying22 hf with ⟨hcs, _⟩ | ⟨x, len', cap', m, n, D, Pl, hcs, _, hl, hm, hmm, hx, hel⟩
  · simp [Value.cells] at hcs
    obtain ⟨rfl, rfl, rfl⟩ := hcs
    exact ⟨none, 0, [], rfl, Nat.zero_le _, fun i hi => absurd hi (Nat.not_lt_zero _)⟩
  · simp [Value.cells] at hcs
    obtain ⟨rfl, rfl, rfl⟩ := hcs
    simp only [if_true] at hmm
    subst hmm
    by_cases h0 : len = 0
    · subst h0
      exact ⟨some x, _, [], rfl, Nat.zero_le _, fun i hi => absurd hi (Nat.not_lt_zero _)⟩
    obtain ⟨b, off, rfl⟩ : ∃ b off, x = ⟨b, off, none⟩ := by
      obtain ⟨cs, h1, _⟩ := hel 0 (by omega)
      rw [hc4, Nat.zero_mul] at h1
      exact head_flat (by decide) h1
    have key : ∀ i, i < len → ∃ c : NAct, b < W.heap.size ∧ IsNAct W b (off + i * 4) c := by
      intro i hi
      obtain ⟨cs, h1, h2⟩ := hel i (Nat.lt_of_lt_of_le hi hl)
      rw [hc4, add_flat] at h1
      obtain ⟨_, hlen, hcell⟩ := World.cells?_some h1
      obtain ⟨y0, y1, y2, y3, n', t0, t1, t2, t3⟩ := trod_four Try.underlying32 h2
      match cs, hlen with
      | [c0, c1, c2, c3], _ =>
        simp only [k1, k3, List.drop_zero, List.drop_succ_cons, List.take_succ_cons, List.take_zero] at t0 t1 t2 t3
        obtain ⟨z0, e0, _, _⟩ := DataW.trod_int Try.underlying3 t0
        obtain ⟨z1, e1, _, w1⟩ := DataW.trod_int Try.underlying3 t1
        obtain ⟨z2, e2, _, w2⟩ := DataW.trod_int Try.underlying3 t2
        obtain ⟨LA, lcap, ll, e3, hlc, hnil, hwf, hms⟩ := msgs_raw t3
        simp only [List.cons.injEq, and_true] at e0 e1 e2
        subst e0 e1 e2 e3
        have q0 := hcell 0 (by omega)
        have q1 := hcell 1 (by omega)
        have q2 := hcell 2 (by omega)
        have q3 := hcell 3 (by omega)
        simp only [add_flat, Nat.add_zero, List.getElem?_cons_zero, List.getElem?_cons_succ] at q0 q1 q2 q3
        exact ⟨⟨z0, z1, z2, LA, lcap, ll⟩, cell_lt q0, q0, q1, q2, q3, w1, w2, hlc, hnil, hwf, hms⟩
    obtain ⟨f, hf'⟩ := choose_lt key
    refine ⟨some ⟨b, off, none⟩, m, (List.range len).map f, by simp, by simp; omega, fun i hi => ?_⟩
    have hi' : i < len := by simpa using hi
    obtain ⟨hlt, hc⟩ := hf' i hi'
    exact ⟨b, off, rfl, hlt, by simpa using hc⟩
end
end Go.Proofs.Ytahijpfmpdjceaa
