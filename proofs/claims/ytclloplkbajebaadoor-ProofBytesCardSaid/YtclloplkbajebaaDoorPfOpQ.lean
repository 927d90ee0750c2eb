/- A proof among the arguments, opened. No condition. -/
import Derived.Test.YtclloplkbajebaaDoorChecked
import Derived.Lib.SmallJoins
import Derived.Deep.Slices
import Derived.SizedLaws
import Derived.Test.YtclloplkbajebaaDoorPfLwQ
import Derived.Test.YtclloplkbajebaaDoorPfAQ
namespace Go.Proofs.YtclloplkbajebaaDoor
open Go.RowKit Go.ChangeShapes Go.WideShapes Go.Deep Go.Joins
set_option linter.unusedVariables false
section
variable {H : Type} {enc : TypeId × Value → H} {W : World}
theorem array_two9 {α : Type} {a : Array α} (h : a.size = 2) : ∃ x0 x1, a = #[x0, x1] := by
  obtain ⟨l⟩ := a
  match l, h with
  | [x0, x1], _ => exact ⟨x0, x1, rfl⟩
theorem path_raw {fuel : Nat} {c : Value} {x : DataW H × List MemPlace} (hf : DataW.trod enc Tryd.prog W 0 (fun _ => true) true fuel 28 [c] = some x) :
    ∃ A cap, ∃ ps : List ByteArray, c = .slice A ps.length cap ∧ ps.length ≤ cap ∧ TxN W (fun k => W.heap.size ≤ k) A ps := by
  rcases open_strings Tryd.underlying28 Tryd.underlying9 (by kernel_rfl) hf with ⟨hcs, _⟩ | ⟨a, len, cap, ss, hcs, _, hl, hm, hss, hx, hcell, _⟩
  · simp only [List.cons.injEq, and_true] at hcs
    subst hcs
    exact ⟨none, 0, [], rfl, Nat.zero_le _, TxN.nil⟩
  · simp only [List.cons.injEq, and_true] at hcs
    subst hcs
    simp only [if_true] at hss
    have hlen : (ss.take len).length = len := by rw [List.length_take]; omega
    refine ⟨some a, cap, ss.take len, by rw [hlen], by rw [hlen]; omega, fun j hj => ?_⟩
    rw [hlen] at hj
    have hc := hcell j (by omega)
    obtain ⟨b, off, spot⟩ := a
    have hsp : spot = none := by
      have := World.cell?_spot (hcell 0 (by omega))
      simpa [Addr.add] using this
    subst hsp
    rw [add_flatB] at hc
    have hlt := cell_lt hc
    refine ⟨b, off, rfl, Nat.not_le.2 hlt, hlt, ?_⟩
    rw [hc, List.getD_eq_getElem?_getD, List.getElem?_eq_getElem (by omega)]
    simp
instance : Inhabited LfW := ⟨⟨⟨0, 0, ⟨#[]⟩, ⟨#[]⟩, []⟩, none, 0⟩⟩
set_option maxRecDepth 100000 in
theorem proof_open {base : Nat} {v : Value} {d : DataW H} {p : List MemPlace}
    (hval : Value.okWide Tryd.prog W .any base 24 v) (h : DataW.Trod enc Tryd.prog W 0 (fun _ => true) true 24 v d p) (_hz : ∀ n ∈ d.weights Tryd.prog 24, n ≤ reachBytes) :
    ∃ ab A cap ls, v = .agg #[.bool ab, .slice A (List.length ls) cap] ∧ List.length ls ≤ maxLen ∧ LfsN W (fun k => W.heap.size ≤ k) A ls := by
  have k0 : Tryd.prog.cellsOf 4 = 1 := by kernel_rfl
  have k1 : Tryd.prog.cellsOf 3 = 1 := by kernel_rfl
  have k2 : Tryd.prog.cellsOf 9 = 1 := by kernel_rfl
  have k3 : Tryd.prog.cellsOf 27 = 2 := by kernel_rfl
  have k4 : Tryd.prog.cellsOf 28 = 1 := by kernel_rfl
  have k5 : Tryd.prog.cellsOf 22 = 1 := by kernel_rfl
  have hc5 : Tryd.prog.cellsOf 30 = 5 := by kernel_rfl
  obtain ⟨cs, rfl, hsz⟩ := okWide_struct Tryd.underlying24 hval
  obtain ⟨c0, c1, rfl⟩ := array_two9 (hsz.trans (by kernel_rfl))
  obtain ⟨fuel, hf⟩ := h
  obtain ⟨y0, y1, n', t0, t1⟩ := trod_two Tryd.underlying24 hf
  simp only [Value.cells, k0, k5, List.drop_zero, List.drop_succ_cons, List.take_succ_cons, List.take_zero] at t0 t1
  obtain ⟨ab, e0, _⟩ := DataW.trod_bool Tryd.underlying4 t0
  simp only [List.cons.injEq, and_true] at e0
  subst e0
  rcases open_slice Tryd.underlying22 t1 with ⟨hcs, _⟩ | ⟨x, len, cap, m, n, D, Pl, hcs, _, hl, hm, hmm, hx, hel⟩
  · simp only [List.cons.injEq, and_true] at hcs
    subst hcs
    exact ⟨ab, none, 0, [], rfl, Nat.zero_le _, LfsN.nil⟩
  · simp only [List.cons.injEq, and_true] at hcs
    subst hcs
    simp only [if_true] at hmm
    subst hmm
    by_cases h0 : len = 0
    · subst h0
      exact ⟨ab, some x, _, [], rfl, Nat.zero_le _, LfsN.nil⟩
    obtain ⟨b, off, rfl⟩ : ∃ b off, x = ⟨b, off, none⟩ := by
      obtain ⟨cs, h1, _⟩ := hel 0 (by omega)
      rw [hc5, Nat.zero_mul] at h1
      exact head_flat (by decide) h1
    have key : ∀ i, i < len → ∃ c : LfW, b < W.heap.size ∧ IsLf W b (off + i * 5) c ∧ TxN W (fun k => W.heap.size ≤ k) c.a c.l.p ∧ c.l.p.length ≤ c.cap := by
      intro i hi
      obtain ⟨cs, h1, h2⟩ := hel i (Nat.lt_of_lt_of_le hi hl)
      rw [hc5, add_flatB] at h1
      obtain ⟨_, hlen, hcell⟩ := World.cells?_some h1
      match cs, hlen with
      | [c0, c1, c2, c3, c4], _ =>
        obtain ⟨y0, y1, y2, y3, n', t0, t1, t2, t3⟩ := trod_four Tryd.underlying30 h2
        simp only [k1, k3, k4, List.drop_zero, List.drop_succ_cons, List.take_succ_cons, List.take_zero] at t0 t1 t2 t3
        obtain ⟨u0, u1, n2, s0, s1⟩ := trod_two Tryd.underlying27 t2
        simp only [k2, List.drop_zero, List.drop_succ_cons, List.take_succ_cons, List.take_zero] at s0 s1
        obtain ⟨z0, e0, _, _⟩ := DataW.trod_int Tryd.underlying3 t0
        obtain ⟨z1, e1, _, _⟩ := DataW.trod_int Tryd.underlying3 t1
        obtain ⟨z2, e2, _, _⟩ := DataW.trod_string Tryd.underlying9 s0
        obtain ⟨z3, e3, _, _⟩ := DataW.trod_string Tryd.underlying9 s1
        obtain ⟨PA, pcap, ps, e4, hpc, htx⟩ := path_raw t3
        simp only [List.cons.injEq, and_true] at e0 e1 e2 e3
        subst e0 e1 e2 e3 e4
        have q0 := hcell 0 (by omega)
        have q1 := hcell 1 (by omega)
        have q2 := hcell 2 (by omega)
        have q3 := hcell 3 (by omega)
        have q4 := hcell 4 (by omega)
        simp only [add_flatB, Nat.add_zero, List.getElem?_cons_zero, List.getElem?_cons_succ] at q0 q1 q2 q3 q4
        exact ⟨⟨⟨z0, z1, z2, z3, ps⟩, PA, pcap⟩, cell_lt q0, ⟨q0, q1, q2, q3, q4⟩, htx, hpc⟩
    obtain ⟨f, hf'⟩ := choose_lt key
    refine ⟨ab, some ⟨b, off, none⟩, m, (List.range len).map f, by simp, by simp; omega, fun i hi => ?_⟩
    have hi' : i < len := by simpa using hi
    obtain ⟨hlt, q0, q1, q2⟩ := hf' i hi'
    exact ⟨b, off, rfl, Nat.not_le.2 hlt, hlt, by simpa using q0, by simpa using q1, by simpa using q2⟩
end
end Go.Proofs.YtclloplkbajebaaDoor
