/- Merged: TrodKit, MkOpen, PfLw. Small laws on values that are read as data. No condition. Pairs among the arguments, opened. No condition. What the laws of layer 9 hold: a list, the constants. No condition. -/
import Derived.Test.YtclloplkbajebaaDoorChecked
import Derived.Lib.SmallJoins
import Derived.Deep.Slices
import Derived.SizedLaws
import Derived.Test.YtclloplkbajebaaDoorRkAQ
import Derived.Test.YtclloplkbajebaaDoorPfAwQ
namespace Go.Proofs.YtclloplkbajebaaDoor
open Go.RowKit Go.ChangeShapes Go.WideShapes Go.Deep Go.Joins
set_option linter.unusedVariables false
theorem cell_lt {w : World} {b o : Nat} {v : Value} (h : w.cell? ⟨b, o, none⟩ = some v) : b < w.heap.size := by
  rcases Nat.lt_or_ge b w.heap.size with h' | h'
  · exact h'
  · simp [World.cell?, Array.getElem?_eq_none h'] at h
theorem head_flat {w : World} {base n : Nat} {x : Addr} {cs : List Value} (hn : 0 < n) (h : w.cells? base (x.add 0) n = some cs) : ∃ b off, x = ⟨b, off, none⟩ := by
  obtain ⟨_, hl, hc⟩ := World.cells?_some h
  have h0 := hc 0 hn
  have e : (x.add 0).add 0 = x := by unfold Addr.add; simp
  rw [e, List.getElem?_eq_getElem (by omega)] at h0
  obtain ⟨b, off, spot⟩ := x
  have := World.cell?_spot h0
  simp only at this
  subst this
  exact ⟨b, off, rfl⟩
section
variable {H : Type} {enc : TypeId × Value → H} {W : World}
theorem trod_five {P : Program} {w : World} {base : Nat} {spare : Nat → Bool} {held : Bool} {t : TypeId} {f0 f1 f2 f3 f4 : Field} {fuel : Nat} {cs : List Value} {x : DataW H × List MemPlace} (ht : P.underlying t = some (.struct #[f0, f1, f2, f3, f4])) (h : DataW.trod enc P w base spare held fuel t cs = some x) :
    ∃ y0 y1 y2 y3 y4 n, DataW.trod enc P w base spare held n f0.type ((cs.drop f0.offset).take (P.cellsOf f0.type)) = some y0 ∧ DataW.trod enc P w base spare held n f1.type ((cs.drop f1.offset).take (P.cellsOf f1.type)) = some y1 ∧
      DataW.trod enc P w base spare held n f2.type ((cs.drop f2.offset).take (P.cellsOf f2.type)) = some y2 ∧ DataW.trod enc P w base spare held n f3.type ((cs.drop f3.offset).take (P.cellsOf f3.type)) = some y3 ∧
      DataW.trod enc P w base spare held n f4.type ((cs.drop f4.offset).take (P.cellsOf f4.type)) = some y4 := by
  obtain ⟨xs, n, _, rfl, hl, hlen, hf⟩ := DataW.trod_struct ht h
  match xs, hlen with
  | [y0, y1, y2, y3, y4], _ => exact ⟨y0, y1, y2, y3, y4, n, by simpa using hf 0 f0 rfl, by simpa using hf 1 f1 rfl, by simpa using hf 2 f2 rfl, by simpa using hf 3 f3 rfl, by simpa using hf 4 f4 rfl⟩
theorem trod_two {P : Program} {w : World} {base : Nat} {spare : Nat → Bool} {held : Bool} {t : TypeId} {f0 f1 : Field} {fuel : Nat} {cs : List Value} {x : DataW H × List MemPlace} (ht : P.underlying t = some (.struct #[f0, f1])) (h : DataW.trod enc P w base spare held fuel t cs = some x) :
    ∃ y0 y1 n, DataW.trod enc P w base spare held n f0.type ((cs.drop f0.offset).take (P.cellsOf f0.type)) = some y0 ∧ DataW.trod enc P w base spare held n f1.type ((cs.drop f1.offset).take (P.cellsOf f1.type)) = some y1 := by
  obtain ⟨xs, n, _, rfl, hl, hlen, hf⟩ := DataW.trod_struct ht h
  match xs, hlen with
  | [y0, y1], _ => exact ⟨y0, y1, n, by simpa using hf 0 f0 rfl, by simpa using hf 1 f1 rfl⟩
theorem trod_four {P : Program} {w : World} {base : Nat} {spare : Nat → Bool} {held : Bool} {t : TypeId} {f0 f1 f2 f3 : Field} {fuel : Nat} {cs : List Value} {x : DataW H × List MemPlace} (ht : P.underlying t = some (.struct #[f0, f1, f2, f3])) (h : DataW.trod enc P w base spare held fuel t cs = some x) :
    ∃ y0 y1 y2 y3 n, DataW.trod enc P w base spare held n f0.type ((cs.drop f0.offset).take (P.cellsOf f0.type)) = some y0 ∧ DataW.trod enc P w base spare held n f1.type ((cs.drop f1.offset).take (P.cellsOf f1.type)) = some y1 ∧
      DataW.trod enc P w base spare held n f2.type ((cs.drop f2.offset).take (P.cellsOf f2.type)) = some y2 ∧ DataW.trod enc P w base spare held n f3.type ((cs.drop f3.offset).take (P.cellsOf f3.type)) = some y3 := by
  obtain ⟨xs, n, _, rfl, hl, hlen, hf⟩ := DataW.trod_struct ht h
  match xs, hlen with
  | [y0, y1, y2, y3], _ => exact ⟨y0, y1, y2, y3, n, by simpa using hf 0 f0 rfl, by simpa using hf 1 f1 rfl, by simpa using hf 2 f2 rfl, by simpa using hf 3 f3 rfl⟩
end
end Go.Proofs.YtclloplkbajebaaDoor
namespace Go.Proofs.YtclloplkbajebaaDoor
open Go.RowKit Go.ChangeShapes Go.WideShapes Go.Deep Go.Joins
set_option linter.unusedVariables false
section
variable {H : Type} {enc : TypeId × Value → H} {W : World}
theorem add_flatB (b off i : Nat) : (⟨b, off, none⟩ : Addr).add i = ⟨b, off + i, none⟩ := by unfold Addr.add; split <;> simp_all
set_option maxRecDepth 100000 in
theorem pairs_open {base : Nat} {v : Value} {d : DataW H} {p : List MemPlace}
    (hval : Value.okWide Tryd.prog W .any base 42 v) (h : DataW.Trod enc Tryd.prog W 0 (fun _ => true) true 42 v d p) (_hz : ∀ n ∈ d.weights Tryd.prog 42, n ≤ reachBytes) :
    ∃ A cap l, v = .slice A l.length cap ∧ l.length ≤ cap ∧ PsLo W W.heap.size A l := by
  obtain ⟨a, len, cap, rfl⟩ := okWide_slice Tryd.underlying42 hval
  obtain ⟨fuel, hf⟩ := h
  have hc8 : Tryd.prog.cellsOf 27 = 2 := by kernel_rfl
  have k2 : Tryd.prog.cellsOf 9 = 1 := by kernel_rfl
  rcases open_slice Tryd.underlying42 hf with ⟨hcs, _⟩ | ⟨x, len', cap', m, n, D, Pl, hcs, _, hl, hm, hmm, hx, hel⟩
  · simp [Value.cells] at hcs
    obtain ⟨rfl, rfl, rfl⟩ := hcs
    exact ⟨none, 0, [], rfl, Nat.zero_le _, fun i hi => absurd hi (Nat.not_lt_zero _)⟩
  · simp [Value.cells] at hcs
    obtain ⟨rfl, rfl, rfl⟩ := hcs
    simp only [if_true] at hmm
    subst hmm
    by_cases h0 : len = 0
    · subst h0
      exact ⟨some x, _, [], rfl, Nat.zero_le _, fun i hi => absurd hi (Nat.not_lt_zero _)⟩
    obtain ⟨b, off, rfl⟩ : ∃ b off, x = ⟨b, off, none⟩ := by
      obtain ⟨cs, h1, _⟩ := hel 0 (by omega)
      rw [hc8, Nat.zero_mul] at h1
      exact head_flat (by decide) h1
    have key : ∀ i, i < len → ∃ c : PairV, b < W.heap.size ∧ W.cell? ⟨b, off + i * 2, none⟩ = some (.string c.1) ∧ W.cell? ⟨b, off + i * 2 + 1, none⟩ = some (.string c.2) := by
      intro i hi
      obtain ⟨cs, h1, h2⟩ := hel i (Nat.lt_of_lt_of_le hi hl)
      rw [hc8, add_flatB] at h1
      obtain ⟨_, hlen, hcell⟩ := World.cells?_some h1
      match cs, hlen with
      | [c0, c1], _ =>
        obtain ⟨y0, y1, n', t0, t1⟩ := trod_two Tryd.underlying27 h2
        simp only [k2, List.drop_zero, List.drop_succ_cons, List.take_succ_cons, List.take_zero] at t0 t1
        obtain ⟨z0, e0, _, _⟩ := DataW.trod_string Tryd.underlying9 t0
        obtain ⟨z1, e1, _, _⟩ := DataW.trod_string Tryd.underlying9 t1
        simp only [List.cons.injEq, and_true] at e0 e1
        subst e0 e1
        have q0 := hcell 0 (by omega)
        have q1 := hcell 1 (by omega)
        simp only [add_flatB, Nat.add_zero, List.getElem?_cons_zero, List.getElem?_cons_succ] at q0 q1
        exact ⟨(z0, z1), cell_lt q0, q0, q1⟩
    have : Inhabited PairV := ⟨(⟨#[]⟩, ⟨#[]⟩)⟩
    obtain ⟨f, hf'⟩ := choose_lt key
    refine ⟨some ⟨b, off, none⟩, m, (List.range len).map f, by simp, by simp; omega, fun i hi => ?_⟩
    have hi' : i < len := by simpa using hi
    obtain ⟨hlt, q0, q1⟩ := hf' i hi'
    exact ⟨b, off, rfl, hlt, hlt, by simpa using q0, by simpa using q1⟩
end
end Go.Proofs.YtclloplkbajebaaDoor
namespace Go.Proofs.YtclloplkbajebaaDoor
open Go.RowKit
set_option linter.unusedVariables false
/-- the law's list in memory, and the constants -/
structure L9 (W w : World) (A : Option Addr) (l : List PairV) : Prop where
  a : PsLo W W.heap.size A l
  laid : LaidOk W
  bel : Below W.heap.size W w
section
variable {W w w' : World} {A : Option Addr} {l : List PairV}
theorem L9.below (h : L9 W w A l) (hb : Below w.heap.size w w') : L9 W w' A l := ⟨h.a, h.laid, h.bel.trans (hb.mono h.bel.size)⟩
theorem L9.pa (h : L9 W w A l) : PsAt w A l := (h.a.below h.bel).at
theorem L9.lo (h : L9 W w A l) : PsLo w W.heap.size A l := h.a.below h.bel
theorem L9.ok (h : L9 W w A l) : LaidOk w := h.laid.later h.bel
end
theorem pfB_len {p : PfV} (h : PfMay p) : (txt (pfB p)).size ≤ 2000 := by
  rw [txt_size]
  have := lsB_len p.ls h.2
  have := h.1
  simp only [pfB, List.length_append, List.length_cons, List.length_nil]; omega
theorem presV_yes {l : List PairV} {key : ByteArray} (h : isIn l key = true) : presV l key = (pfHas l key, 0) := if_pos h
theorem presV_no {l : List PairV} {key : ByteArray} (h : isIn l key = false) : presV l key = (⟨false, []⟩, 3) := if_neg (by rw [h]; decide)
/-- what Present or Absent tells with no leaf -/
theorem PfPost.none {w w' : World} {r : PfV × Int} {x : Ending} (h : PfPost w r x w') (hr : r.1.ls = []) : ∃ A cap, x = .returned (.tuple #[.agg #[.bool r.1.ab, .slice A 0 cap], .int .i64 r.2]) ∧ Below w.heap.size w w' := by
  obtain ⟨A, cap, ls, rfl, h1, _, _, h2⟩ := h
  have : ls.length = 0 := by rw [← vals_len, h1, hr]; rfl
  exact ⟨A, cap, by rw [this], h2⟩
end Go.Proofs.YtclloplkbajebaaDoor
