/- Merged: TrodKit, StFew, StActs. Small laws on values that are read as data. No condition. carracklaw11's few. No condition. A store's acts among the arguments, opened. No condition. -/
import Derived.Test.YtcknhnbckbocjaaDoorChecked
import Derived.Lib.SmallJoins
import Derived.Deep.Slices
import Derived.SizedLaws
import Derived.WalkSpells
import Derived.Outline
import Derived.Test.YtcknhnbckbocjaaDoorRowGQ
import Derived.Test.YtcknhnbckbocjaaDoorStMapQ
namespace Go.Proofs.YtcknhnbckbocjaaDoor
open Go.RowKit Go.ChangeShapes Go.WideShapes Go.Deep Go.Joins
set_option linter.unusedVariables false
theorem cell_lt {w : World} {b o : Nat} {v : Value} (h : w.cell? ⟨b, o, none⟩ = some v) : b < w.heap.size := by
  rcases Nat.lt_or_ge b w.heap.size with h' | h'
  · exact h'
  · simp [World.cell?, Array.getElem?_eq_none h'] at h
theorem head_flat {w : World} {base n : Nat} {x : Addr} {cs : List Value} (hn : 0 < n) (h : w.cells? base (x.add 0) n = some cs) : ∃ b off, x = ⟨b, off, none⟩ := by
  obtain ⟨_, hl, hc⟩ := World.cells?_some h
  have h0 := hc 0 hn
  have e : (x.add 0).add 0 = x := by unfold Addr.add; simp
  rw [e, List.getElem?_eq_getElem (by omega)] at h0
  obtain ⟨b, off, spot⟩ := x
  have := World.cell?_spot h0
  simp only at this
  subst this
  exact ⟨b, off, rfl⟩
section
variable {H : Type} {enc : TypeId × Value → H} {W : World}
theorem trod_five {P : Program} {w : World} {base : Nat} {spare : Nat → Bool} {held : Bool} {t : TypeId} {f0 f1 f2 f3 f4 : Field} {fuel : Nat} {cs : List Value} {x : DataW H × List MemPlace} (ht : P.underlying t = some (.struct #[f0, f1, f2, f3, f4])) (h : DataW.trod enc P w base spare held fuel t cs = some x) :
    ∃ y0 y1 y2 y3 y4 n, DataW.trod enc P w base spare held n f0.type ((cs.drop f0.offset).take (P.cellsOf f0.type)) = some y0 ∧ DataW.trod enc P w base spare held n f1.type ((cs.drop f1.offset).take (P.cellsOf f1.type)) = some y1 ∧
      DataW.trod enc P w base spare held n f2.type ((cs.drop f2.offset).take (P.cellsOf f2.type)) = some y2 ∧ DataW.trod enc P w base spare held n f3.type ((cs.drop f3.offset).take (P.cellsOf f3.type)) = some y3 ∧
      DataW.trod enc P w base spare held n f4.type ((cs.drop f4.offset).take (P.cellsOf f4.type)) = some y4 := by
  obtain ⟨xs, n, _, rfl, hl, hlen, hf⟩ := DataW.trod_struct ht h
  match xs, hlen with
  | [y0, y1, y2, y3, y4], _ => exact ⟨y0, y1, y2, y3, y4, n, by simpa using hf 0 f0 rfl, by simpa using hf 1 f1 rfl, by simpa using hf 2 f2 rfl, by simpa using hf 3 f3 rfl, by simpa using hf 4 f4 rfl⟩
theorem trod_two {P : Program} {w : World} {base : Nat} {spare : Nat → Bool} {held : Bool} {t : TypeId} {f0 f1 : Field} {fuel : Nat} {cs : List Value} {x : DataW H × List MemPlace} (ht : P.underlying t = some (.struct #[f0, f1])) (h : DataW.trod enc P w base spare held fuel t cs = some x) :
    ∃ y0 y1 n, DataW.trod enc P w base spare held n f0.type ((cs.drop f0.offset).take (P.cellsOf f0.type)) = some y0 ∧ DataW.trod enc P w base spare held n f1.type ((cs.drop f1.offset).take (P.cellsOf f1.type)) = some y1 := by
  obtain ⟨xs, n, _, rfl, hl, hlen, hf⟩ := DataW.trod_struct ht h
  match xs, hlen with
  | [y0, y1], _ => exact ⟨y0, y1, n, by simpa using hf 0 f0 rfl, by simpa using hf 1 f1 rfl⟩
theorem trod_four {P : Program} {w : World} {base : Nat} {spare : Nat → Bool} {held : Bool} {t : TypeId} {f0 f1 f2 f3 : Field} {fuel : Nat} {cs : List Value} {x : DataW H × List MemPlace} (ht : P.underlying t = some (.struct #[f0, f1, f2, f3])) (h : DataW.trod enc P w base spare held fuel t cs = some x) :
    ∃ y0 y1 y2 y3 n, DataW.trod enc P w base spare held n f0.type ((cs.drop f0.offset).take (P.cellsOf f0.type)) = some y0 ∧ DataW.trod enc P w base spare held n f1.type ((cs.drop f1.offset).take (P.cellsOf f1.type)) = some y1 ∧
      DataW.trod enc P w base spare held n f2.type ((cs.drop f2.offset).take (P.cellsOf f2.type)) = some y2 ∧ DataW.trod enc P w base spare held n f3.type ((cs.drop f3.offset).take (P.cellsOf f3.type)) = some y3 := by
  obtain ⟨xs, n, _, rfl, hl, hlen, hf⟩ := DataW.trod_struct ht h
  match xs, hlen with
  | [y0, y1, y2, y3], _ => exact ⟨y0, y1, y2, y3, n, by simpa using hf 0 f0 rfl, by simpa using hf 1 f1 rfl, by simpa using hf 2 f2 rfl, by simpa using hf 3 f3 rfl⟩
end
end Go.Proofs.YtcknhnbckbocjaaDoor
namespace Go.Proofs.YtcknhnbckbocjaaDoor
open Go.RowKit
set_option linter.unusedVariables false
/-- a call of a store -/
structure ActV where
  kd : Int
  k : ByteArray
  v : ByteArray
def AcE : Kq.Elt ActV := ⟨3, fun a => [.int .i64 a.kd, .string a.k, .string a.v], fun _ => rfl, fun x u hu => by
  simp only [List.mem_cons, List.not_mem_nil, or_false] at hu
  rcases hu with rfl | rfl | rfl <;> rfl, by decide⟩
def Few11 (l : List ActV) : Prop := l.length ≤ 60 ∧ ∀ a ∈ l, a.k.size ≤ 300 ∧ a.v.size ≤ 300
instance (l : List ActV) : Decidable (Few11 l) := by unfold Few11; infer_instance
set_option maxRecDepth 100000 in
set_option maxHeartbeats 1000000 in
theorem few11 (l : List ActV) (A : Option Addr) (cap : Nat) (w : World) (hA : AcE.At w A l) :
    Calls Tryd.prog 9 #[.slice A l.length cap] w fun x w' => x = .returned (.bool (decide (Few11 l))) ∧ w' = w := by
  by_cases h60 : 60 < l.length
  · have d1 : decide ((60 : Int) < (l.length : Int)) = true := decide_eq_true (by omega)
    have d2 : decide (60 < l.length) = true := decide_eq_true h60
    have HE : Hid (decide (Few11 l) = false) := Lib.hid (decide_eq_false (fun h => by have := h.1; omega))
    clear h60 hA
    go_enter Tryd.func9, Tryd.ntmps9
    go_wp2
    go_ret
    exact ⟨by rw [HE.out]; rfl, rfl⟩
  have d1 : decide ((60 : Int) < (l.length : Int)) = false := decide_eq_false (by omega)
  have d2 : decide (60 < l.length) = false := decide_eq_false h60
  have HA := Lib.hid hA
  have H60 : Hid (l.length ≤ 60) := Lib.hid (by omega)
  clear hA h60
  go_enter Tryd.func9, Tryd.ntmps9
  go_wp2
  clear d1 d2
  go_loopw [3] (fun u wr => ∃ j : Nat, j ≤ l.length ∧ u = .int .i64 (j : Int) ∧ wr = w ∧ ∀ i (h : i < l.length), i < j → l[i].k.size ≤ 300 ∧ l[i].v.size ≤ 300) (fun u _ => l.length - (intOf u).toNat)
  case atStart => exact ⟨0, by omega, rfl, rfl, fun i _ h => absurd h (Nat.not_lt_zero _)⟩
  case round =>
    obtain ⟨j, hj, rfl, rfl, hup⟩ := hrel
    have hn := H60.out
    have HUP := Lib.hid hup
    clear hup
    by_cases hlt : j < l.length
    · obtain ⟨b, off, rfl, hb, hc⟩ := HA.out j hlt
      obtain ⟨x, hx⟩ : ∃ x, x = l[j] := ⟨_, rfl⟩
      rw [← hx] at hc
      have HX := Lib.hid hx
      have HLT := Lib.hid hlt
      have c1 := hc 1 (by decide)
      have c2 := hc 2 (by decide)
      have hi0 : (j : Int) < (l.length : Int) := by omega
      obtain ⟨kd, k, v⟩ := x
      rw [show AcE.n = 3 from rfl] at c1 c2
      have c1' : wr.cell? ⟨b, off + j * 3 + 1, none⟩ = some (.string k) := c1
      have c2' : wr.cell? ⟨b, off + j * 3 + 2, none⟩ = some (.string v) := c2
      clear hx hb hc c1 c2
      by_cases k0 : 300 < k.size
      · have e1 : decide ((300 : Int) < (k.size : Int)) = true := decide_eq_true (by omega)
        have e2 : decide (300 < k.size) = true := decide_eq_true k0
        have HE : Hid (decide (Few11 l) = false) := Lib.hid (decide_eq_false (fun h => by
          have := (h.2 _ (List.getElem_mem HLT.out)).1
          rw [← HX.out] at this
          simp only at this
          omega))
        clear k0
        go_wp2
        go_ret
        exact ⟨by rw [HE.out]; rfl, rfl⟩
      have e1 : decide ((300 : Int) < (k.size : Int)) = false := decide_eq_false (by omega)
      have e2 : decide (300 < k.size) = false := decide_eq_false k0
      by_cases v0 : 300 < v.size
      · have e3 : decide ((300 : Int) < (v.size : Int)) = true := decide_eq_true (by omega)
        have e4 : decide (300 < v.size) = true := decide_eq_true v0
        have HE : Hid (decide (Few11 l) = false) := Lib.hid (decide_eq_false (fun h => by
          have := (h.2 _ (List.getElem_mem HLT.out)).2
          rw [← HX.out] at this
          simp only at this
          omega))
        clear k0 v0
        go_wp2
        go_ret
        exact ⟨by rw [HE.out]; rfl, rfl⟩
      have e3 : decide ((300 : Int) < (v.size : Int)) = false := decide_eq_false (by omega)
      have e4 : decide (300 < v.size) = false := decide_eq_false v0
      have HS : Hid (k.size ≤ 300 ∧ v.size ≤ 300) := Lib.hid (by omega)
      clear k0 v0
      go_wp2
      go_roundw
      case rel =>
        refine ⟨j + 1, HLT.out, by go_num, by first | trivial | rfl, fun i hi h => ?_⟩
        rcases Nat.lt_or_ge i j with h' | h'
        · exact HUP.out i hi h'
        · obtain rfl : i = j := by omega
          rw [← HX.out]; exact HS.out
      case measure => have := HLT.out; simp [intOf]; omega
    · obtain rfl : j = l.length := by omega
      have HE : Hid (decide (Few11 l) = true) := Lib.hid (decide_eq_true ⟨H60.out, fun a ha => by
        obtain ⟨i, hi, rfl⟩ := List.getElem_of_mem ha
        exact HUP.out i hi hi⟩)
      clear hlt
      go_wp2
      go_ret
      exact ⟨by rw [HE.out]; rfl, rfl⟩
end Go.Proofs.YtcknhnbckbocjaaDoor
namespace Go.Proofs.YtcknhnbckbocjaaDoor
open Go.RowKit Go.ChangeShapes Go.WideShapes Go.Deep Go.Joins
set_option linter.unusedVariables false
section
variable {H : Type} {enc : TypeId × Value → H} {W : World}
theorem add_flatT (b off i : Nat) : (⟨b, off, none⟩ : Addr).add i = ⟨b, off + i, none⟩ := by unfold Addr.add; split <;> simp_all
theorem trod_threeS {P : Program} {w : World} {base : Nat} {spare : Nat → Bool} {held : Bool} {t : TypeId} {f0 f1 f2 : Field} {fuel : Nat} {cs : List Value} {x : DataW H × List MemPlace} (ht : P.underlying t = some (.struct #[f0, f1, f2])) (h : DataW.trod enc P w base spare held fuel t cs = some x) :
    ∃ y0 y1 y2 n, DataW.trod enc P w base spare held n f0.type ((cs.drop f0.offset).take (P.cellsOf f0.type)) = some y0 ∧ DataW.trod enc P w base spare held n f1.type ((cs.drop f1.offset).take (P.cellsOf f1.type)) = some y1 ∧
      DataW.trod enc P w base spare held n f2.type ((cs.drop f2.offset).take (P.cellsOf f2.type)) = some y2 := by
  obtain ⟨xs, n, _, rfl, hl, hlen, hf⟩ := DataW.trod_struct ht h
  match xs, hlen with
  | [y0, y1, y2], _ => exact ⟨y0, y1, y2, n, by simpa using hf 0 f0 rfl, by simpa using hf 1 f1 rfl, by simpa using hf 2 f2 rfl⟩
set_option maxRecDepth 100000 in
theorem sacts_open {base : Nat} {v : Value} {d : DataW H} {p : List MemPlace}
    (hval : Value.okWide Tryd.prog W .any base 23 v) (h : DataW.Trod enc Tryd.prog W 0 (fun _ => true) true 23 v d p) (_hz : ∀ n ∈ d.weights Tryd.prog 23, n ≤ reachBytes) :
    ∃ A cap l, v = .slice A l.length cap ∧ l.length ≤ cap ∧ AcE.Lo W W.heap.size A l := by
  obtain ⟨a, len, cap, rfl⟩ := okWide_slice Tryd.underlying23 hval
  obtain ⟨fuel, hf⟩ := h
  have hc8 : Tryd.prog.cellsOf 32 = 3 := by kernel_rfl
  have k2 : Tryd.prog.cellsOf 9 = 1 := by kernel_rfl
  have k3 : Tryd.prog.cellsOf 3 = 1 := by kernel_rfl
  rcases open_slice Tryd.underlying23 hf with ⟨hcs, _⟩ | ⟨x, len', cap', m, n, D, Pl, hcs, _, hl, hm, hmm, hx, hel⟩
  · simp [Value.cells] at hcs
    obtain ⟨rfl, rfl, rfl⟩ := hcs
    exact ⟨none, 0, [], rfl, Nat.zero_le _, fun i hi => absurd hi (Nat.not_lt_zero _)⟩
  · simp [Value.cells] at hcs
    obtain ⟨rfl, rfl, rfl⟩ := hcs
    simp only [if_true] at hmm
    subst hmm
    by_cases h0 : len = 0
    · subst h0
      exact ⟨some x, _, [], rfl, Nat.zero_le _, fun i hi => absurd hi (Nat.not_lt_zero _)⟩
    obtain ⟨b, off, rfl⟩ : ∃ b off, x = ⟨b, off, none⟩ := by
      obtain ⟨cs, h1, _⟩ := hel 0 (by omega)
      rw [hc8, Nat.zero_mul] at h1
      exact head_flat (by decide) h1
    have key : ∀ i, i < len → ∃ c : ActV, b < W.heap.size ∧ W.cell? ⟨b, off + i * 3, none⟩ = some (.int .i64 c.kd) ∧ W.cell? ⟨b, off + i * 3 + 1, none⟩ = some (.string c.k) ∧ W.cell? ⟨b, off + i * 3 + 2, none⟩ = some (.string c.v) := by
      intro i hi
      obtain ⟨cs, h1, h2⟩ := hel i (Nat.lt_of_lt_of_le hi hl)
      rw [hc8, add_flatT] at h1
      obtain ⟨_, hlen, hcell⟩ := World.cells?_some h1
      match cs, hlen with
      | [c0, c1, c2], _ =>
        obtain ⟨y0, y1, y2, n', t0, t1, t2⟩ := trod_threeS Tryd.underlying32 h2
        simp only [k2, k3, List.drop_zero, List.drop_succ_cons, List.take_succ_cons, List.take_zero] at t0 t1 t2
        obtain ⟨z0, e0, _, _⟩ := DataW.trod_int Tryd.underlying3 t0
        obtain ⟨z1, e1, _, _⟩ := DataW.trod_string Tryd.underlying9 t1
        obtain ⟨z2, e2, _, _⟩ := DataW.trod_string Tryd.underlying9 t2
        simp only [List.cons.injEq, and_true] at e0 e1 e2
        subst e0 e1 e2
        have q0 := hcell 0 (by omega)
        have q1 := hcell 1 (by omega)
        have q2 := hcell 2 (by omega)
        simp only [add_flatT, Nat.add_zero, List.getElem?_cons_zero, List.getElem?_cons_succ] at q0 q1 q2
        exact ⟨⟨z0, z1, z2⟩, cell_lt q0, q0, q1, q2⟩
    have : Inhabited ActV := ⟨⟨0, ⟨#[]⟩, ⟨#[]⟩⟩⟩
    obtain ⟨f, hf'⟩ := choose_lt key
    refine ⟨some ⟨b, off, none⟩, m, (List.range len).map f, by simp, by simp; omega, fun i hi => ?_⟩
    have hi' : i < len := by simpa using hi
    obtain ⟨hlt, q0, q1, q2⟩ := hf' i hi'
    refine ⟨b, off, rfl, hlt, hlt, fun j hj => ?_⟩
    have hj3 : j < 3 := hj
    have : j = 0 ∨ j = 1 ∨ j = 2 := by omega
    rcases this with rfl | rfl | rfl
    · simpa [AcE] using q0
    · simpa [AcE] using q1
    · simpa [AcE] using q2
end
end Go.Proofs.YtcknhnbckbocjaaDoor
