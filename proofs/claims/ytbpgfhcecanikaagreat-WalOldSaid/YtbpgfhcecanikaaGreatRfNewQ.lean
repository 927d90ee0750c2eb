/- Merged: LwA, RfKeep, RfNew. The law's acts: opened; contracts of lasts and few. Condition: sizes. The reference's disk in memory; contracts of its fails, Arm. Condition: what is armed is an int. Contract of carrackref04.New. Condition: what may be. -/
import Derived.Test.YtbpgfhcecanikaaGreatChecked
import Derived.WalkSpells
import Derived.Outline
import Derived.Lib.SmallJoins
import Derived.Deep.Slices
import Derived.SizedLaws
import Derived.Test.YtbpgfhcecanikaaGreatRowGQ
import Derived.Test.YtbpgfhcecanikaaGreatDkCrash2Q
import Derived.Test.YtbpgfhcecanikaaGreatDkTwoQ
import Derived.Test.YtbpgfhcecanikaaGreatDkInvQ
namespace Go.Proofs.YtbpgfhcecanikaaGreat
open Go.RowKit Go.ChangeShapes Go.WideShapes Go.Deep Go.Joins
set_option linter.unusedVariables false
structure ActW where
  kind : Int
  n : Int
  s : ByteArray
  la : Option Addr
  lcap : Nat
  l : List Bool
  ta : Option Addr
  tcap : Nat
  t : List Int
instance : Inhabited ActW := ⟨⟨0, 0, ⟨#[]⟩, none, 0, [], none, 0, []⟩⟩
def ActW.cells (c : ActW) : Array Value := #[.int .i64 c.kind, .int .i64 c.n, .string c.s, .slice c.la c.l.length c.lcap, .slice c.ta c.t.length c.tcap]
def ActW.val (c : ActW) : Value := .agg #[.int .i64 c.kind, .int .i64 c.n, .string c.s, .slice c.la c.l.length c.lcap, .slice c.ta c.t.length c.tcap]
/-- values of one cell each, in a row -/
def OneAt (w : World) (A : Option Addr) (l : List Value) : Prop := ∀ j (h : j < l.length), ∃ g o, A = some ⟨g, o, none⟩ ∧ g < w.heap.size ∧ w.cell? ⟨g, o + j, none⟩ = some l[j]
theorem OneAt.below {w w' : World} {A : Option Addr} {l : List Value} (h : OneAt w A l) (hb : Below w.heap.size w w') : OneAt w' A l := fun j hj => by
  obtain ⟨g, o, e, h1, h2⟩ := h j hj
  exact ⟨g, o, e, Nat.lt_of_lt_of_le h1 hb.size, (hb.cell (p := ⟨g, o + j, none⟩) h1).trans h2⟩
structure IsActW (w : World) (b o : Nat) (c : ActW) : Prop where
  c0 : w.cell? ⟨b, o, none⟩ = some (.int .i64 c.kind)
  c1 : w.cell? ⟨b, o + 1, none⟩ = some (.int .i64 c.n)
  c2 : w.cell? ⟨b, o + 2, none⟩ = some (.string c.s)
  c3 : w.cell? ⟨b, o + 3, none⟩ = some (.slice c.la c.l.length c.lcap)
  c4 : w.cell? ⟨b, o + 4, none⟩ = some (.slice c.ta c.t.length c.tcap)
  w1 : (Lit.int .i64 c.n).wf = true
  w2 : c.s.size ≤ maxLen
  bo : OneAt w c.la (c.l.map fun x => .bool x)
  ti : OneAt w c.ta (c.t.map fun x => .int .i64 x)
def ActsAtW (w : World) (a : Option Addr) (l : List ActW) : Prop := ∀ i (h : i < l.length), ∃ b off, a = some ⟨b, off, none⟩ ∧ b < w.heap.size ∧ IsActW w b (off + i * 5) l[i]
theorem IsActW.later {w w' : World} {b o : Nat} {c : ActW} (h : IsActW w b o c) (hb : Below w.heap.size w w') (hlt : b < w.heap.size) : IsActW w' b o c :=
  ⟨(hb.cell (p := ⟨b, o, none⟩) hlt).trans h.c0, (hb.cell (p := ⟨b, o + 1, none⟩) hlt).trans h.c1, (hb.cell (p := ⟨b, o + 2, none⟩) hlt).trans h.c2, (hb.cell (p := ⟨b, o + 3, none⟩) hlt).trans h.c3, (hb.cell (p := ⟨b, o + 4, none⟩) hlt).trans h.c4, h.w1, h.w2, h.bo.below hb, h.ti.below hb⟩
theorem ActsAtW.later {w w' : World} {a : Option Addr} {l : List ActW} (h : ActsAtW w a l) (hb : Below w.heap.size w w') : ActsAtW w' a l := fun i hi => by
  obtain ⟨b, off, ha, hlt, hc⟩ := h i hi
  exact ⟨b, off, ha, Nat.lt_of_lt_of_le hlt hb.size, hc.later hb hlt⟩
section
variable {H : Type} {enc : TypeId × Value → H} {W : World}
set_option maxRecDepth 100000 in
theorem ones_raw {fuel : Nat} {T E : TypeId} {α : Type} {val : α → Value} {v : Value} {x : DataW H × List MemPlace} (hT : Tryz.prog.underlying T = some (.slice E)) (hc : Tryz.prog.cellsOf E = 1)
    (hd : ∀ {fuel : Nat} {cs : List Value} {x : DataW H × List MemPlace}, DataW.trod enc Tryz.prog W 0 (fun _ => true) true fuel E cs = some x → ∃ z, cs = [val z]) (hi : Inhabited α) (hf : DataW.trod enc Tryz.prog W 0 (fun _ => true) true fuel T [v] = some x) :
    ∃ A cap, ∃ l : List α, v = .slice A l.length cap ∧ l.length ≤ maxLen ∧ OneAt W A (l.map val) := by
  rcases open_slice hT hf with ⟨hcs, _⟩ | ⟨a, len, cap, m, n, D, Pl, hcs, _, hl, hm, hmm, hx, hel⟩
  · simp only [List.cons.injEq, and_true] at hcs
    subst hcs
    exact ⟨none, 0, [], rfl, Nat.zero_le _, fun j hj => by cases hj⟩
  · simp only [List.cons.injEq, and_true] at hcs
    subst hcs
    simp only [if_true] at hmm
    subst hmm
    by_cases h0 : len = 0
    · subst h0
      exact ⟨some a, _, [], rfl, Nat.zero_le _, fun j hj => by cases hj⟩
    obtain ⟨b, off, rfl⟩ : ∃ b off, a = ⟨b, off, none⟩ := by
      obtain ⟨cs, h1, _⟩ := hel 0 (by omega)
      rw [hc, Nat.zero_mul] at h1
      exact head_flat (by decide) h1
    have key : ∀ i, i < len → ∃ c : α, b < W.heap.size ∧ W.cell? ⟨b, off + i, none⟩ = some (val c) := by
      intro i hi
      obtain ⟨cs, h1, h2⟩ := hel i (Nat.lt_of_lt_of_le hi hl)
      rw [hc, add_flat, Nat.mul_one] at h1
      obtain ⟨_, hlen, hcell⟩ := World.cells?_some h1
      obtain ⟨z, rfl⟩ := hd h2
      have q0 := hcell 0 (by omega)
      simp only [add_flat, Nat.add_zero, List.getElem?_cons_zero] at q0
      exact ⟨z, cell_lt q0, q0⟩
    haveI := hi
    obtain ⟨f, hf'⟩ := choose_lt key
    refine ⟨some ⟨b, off, none⟩, m, (List.range len).map f, by simp, by simp; omega, fun i hi => ?_⟩
    have hi' : i < len := by simpa using hi
    obtain ⟨hlt, q0⟩ := hf' i hi'
    exact ⟨b, off, rfl, hlt, by simpa using q0⟩
set_option maxRecDepth 100000 in
theorem actsW_open {base : Nat} {v : Value} {d : DataW H} {p : List MemPlace}
    (hval : Value.okWide Tryz.prog W .any base 22 v) (h : DataW.Trod enc Tryz.prog W 0 (fun _ => true) true 22 v d p) (_hz : ∀ n ∈ d.weights Tryz.prog 22, n ≤ reachBytes) :
    ∃ A cap l, v = .slice A l.length cap ∧ l.length ≤ maxLen ∧ ActsAtW W A l := by
  obtain ⟨a, len, cap, rfl⟩ := okWide_slice Tryz.underlying22 hval
  obtain ⟨fuel, hf⟩ := h
  have hc5 : Tryz.prog.cellsOf 31 = 5 := by kernel_rfl
  have k1 : Tryz.prog.cellsOf 3 = 1 := by kernel_rfl
  have k2 : Tryz.prog.cellsOf 9 = 1 := by kernel_rfl
  have k3 : Tryz.prog.cellsOf 28 = 1 := by kernel_rfl
  have k4 : Tryz.prog.cellsOf 29 = 1 := by kernel_rfl
  have k5 : Tryz.prog.cellsOf 4 = 1 := by kernel_rfl
  rcases open_slice Tryz.underlying22 hf with ⟨hcs, _⟩ | ⟨x, len', cap', m, n, D, Pl, hcs, _, hl, hm, hmm, hx, hel⟩
  · simp [Value.cells] at hcs
    obtain ⟨rfl, rfl, rfl⟩ := hcs
    exact ⟨none, 0, [], rfl, Nat.zero_le _, fun i hi => absurd hi (Nat.not_lt_zero _)⟩
  · simp [Value.cells] at hcs
    obtain ⟨rfl, rfl, rfl⟩ := hcs
    simp only [if_true] at hmm
    subst hmm
    by_cases h0 : len = 0
    · subst h0
      exact ⟨some x, _, [], rfl, Nat.zero_le _, fun i hi => absurd hi (Nat.not_lt_zero _)⟩
    obtain ⟨b, off, rfl⟩ : ∃ b off, x = ⟨b, off, none⟩ := by
      obtain ⟨cs, h1, _⟩ := hel 0 (by omega)
      rw [hc5, Nat.zero_mul] at h1
      exact head_flat (by decide) h1
    have key : ∀ i, i < len → ∃ c : ActW, b < W.heap.size ∧ IsActW W b (off + i * 5) c := by
      intro i hi
      obtain ⟨cs, h1, h2⟩ := hel i (Nat.lt_of_lt_of_le hi hl)
      rw [hc5, add_flat] at h1
      obtain ⟨_, hlen, hcell⟩ := World.cells?_some h1
      obtain ⟨y0, y1, y2, y3, y4, n', t0, t1, t2, t3, t4⟩ := trod_five Tryz.underlying31 h2
      match cs, hlen with
      | [c0, c1, c2, c3, c4], _ =>
        simp only [k1, k2, k3, k4, List.drop_zero, List.drop_succ_cons, List.take_succ_cons, List.take_zero] at t0 t1 t2 t3 t4
        obtain ⟨z0, e0, _, _⟩ := DataW.trod_int Tryz.underlying3 t0
        obtain ⟨z1, e1, _, w1⟩ := DataW.trod_int Tryz.underlying3 t1
        obtain ⟨z2, e2, _, w2⟩ := DataW.trod_string Tryz.underlying9 t2
        obtain ⟨LA, lcap, ll, e3, _, hbo⟩ := ones_raw (val := fun x : Bool => Value.bool x) Tryz.underlying28 k5 (fun h => by obtain ⟨z, e, _⟩ := DataW.trod_bool Tryz.underlying4 h; exact ⟨z, e⟩) ⟨false⟩ t3
        obtain ⟨TA, tcap, tl, e4, _, hti⟩ := ones_raw (val := fun x : Int => Value.int .i64 x) Tryz.underlying29 k1 (fun h => by obtain ⟨z, e, _⟩ := DataW.trod_int Tryz.underlying3 h; exact ⟨z, e⟩) ⟨0⟩ t4
        simp only [List.cons.injEq, and_true] at e0 e1 e2
        subst e0 e1 e2 e3 e4
        have q0 := hcell 0 (by omega)
        have q1 := hcell 1 (by omega)
        have q2 := hcell 2 (by omega)
        have q3 := hcell 3 (by omega)
        have q4 := hcell 4 (by omega)
        simp only [add_flat, Nat.add_zero, List.getElem?_cons_zero, List.getElem?_cons_succ] at q0 q1 q2 q3 q4
        exact ⟨⟨z0, z1, z2, LA, lcap, ll, TA, tcap, tl⟩, cell_lt q0, q0, q1, q2, q3, q4, w1, w2, hbo, hti⟩
    obtain ⟨f, hf'⟩ := choose_lt key
    refine ⟨some ⟨b, off, none⟩, m, (List.range len).map f, by simp, by simp; omega, fun i hi => ?_⟩
    have hi' : i < len := by simpa using hi
    obtain ⟨hlt, hc⟩ := hf' i hi'
    exact ⟨b, off, rfl, hlt, by simpa using hc⟩
end
/-- what a crash lets last -/
def lastsF (l : List Bool) (t : List Int) : Nat → List (Bool × Int)
  | 0 => []
  | j + 1 => lastsF l t j ++ [(l.getD j false, t.getD j 0)]
theorem lastsF_length (l : List Bool) (t : List Int) : ∀ j, (lastsF l t j).length = j
  | 0 => rfl
  | j + 1 => by rw [lastsF, List.length_append, lastsF_length l t j]; rfl
def awE : Kq.Elt (Bool × Int) := ⟨2, fun x => [.bool x.1, .int .i64 x.2], fun _ => rfl, fun x u hu => by
  simp only [List.mem_cons, List.not_mem_nil, or_false] at hu
  rcases hu with rfl | rfl <;> rfl, by decide⟩
theorem awE_cw {w : World} {A : Option Addr} {l : List (Bool × Int)} (h : awE.At w A l) : CwAt w A l := ⟨fun j hj => by
  obtain ⟨b, off, e, h1, h2⟩ := h j hj
  exact ⟨b, off, e, h1, h2 0 (by decide), h2 1 (by decide)⟩⟩
theorem own_belowL {w w' : World} {base size : Nat} {e : TypeId} {v : Value} {n : Nat} {xs : List Value} (h : w.ownsRow base e size v n xs) (hb : Below w.heap.size w w') : w'.ownsRow base e size v n xs := by
  obtain ⟨h1, h2⟩ := h
  refine ⟨h1, h2.imp id ?_⟩
  rintro ⟨g, cap, cur, hv, h3, h4, h5⟩
  exact ⟨g, cap, cur, hv, h3, Kq.below_blk hb h4 (Kq.blk_lt h4), h5⟩
theorem grown_belowL {w1 w2 : World} {base size : Nat} {e : TypeId} {v : Value} {n : Nat} {xs : List Value} (h : w1.ownsRow base e size v n xs) (hg : w1.grownBy w2 v.ownBlock) (hb : base ≤ w1.heap.size) : Below base w1 w2 :=
  (Kq.Keeps.grown (S := fun j => v.ownBlock = some j) hg (fun k _ e => e)).below hb (fun k _ e => own_ge h e)
theorem own_ne {w : World} {base size n X : Nat} {v : Value} {xs : List Value} {cs : Array Value} (h : w.ownsRow base 59 size v n xs) (hx : w.heap[X]? = some (.cells cs 31 (0, 0))) : v.ownBlock ≠ some X := fun e => by
  rcases h.2 with ⟨rfl, _⟩ | ⟨g, cap, cur, rfl, _, hb, _⟩
  · cases e
  · have : g = X := by simpa [Value.ownBlock] using e
    subst this
    rw [hx] at hb
    simp at hb
def LaC (w : World) (X : Nat) (c : ActW) : Prop := w.heap[X]? = some (.cells c.cells 31 (0, 0))
set_option maxRecDepth 100000 in
set_option maxHeartbeats 2000000 in
theorem lw_lasts (c : ActW) (w : World) (hl : c.l.length ≤ 100) (ht : c.t.length ≤ 100) (hB : OneAt w c.la (c.l.map fun x => .bool x)) (hT : OneAt w c.ta (c.t.map fun x => .int .i64 x)) :
    Calls Tryz.prog 35 #[c.val] w fun x w' => ∃ A cap, x = .returned (.slice A c.l.length cap) ∧ CwAt w' A (lastsF c.l c.t c.l.length) ∧ (∀ g o, A = some ⟨g, o, none⟩ → w.heap.size ≤ g) ∧ Below w.heap.size w w' := by
  obtain ⟨i0, hi0, hz0, hz1, hz2⟩ := info_parts infoAw
  obtain ⟨w1, hw1⟩ : ∃ z, z = w.alloc (.cells c.cells 31) := ⟨_, rfl⟩
  obtain ⟨X, hX⟩ : ∃ z, z = w.heap.size := ⟨_, rfl⟩
  have hb1 : Below w.heap.size w w1 := by rw [hw1]; exact Kq.below_alloc _ _
  have hx1 : LaC w1 X c := by unfold LaC; rw [hw1, hX]; exact Kq.blk_new _ _ _ _
  have HA := Lib.hid (And.intro hB hT)
  have HW1 := Lib.hid (And.intro hw1 hX)
  have H1 := Lib.hid (And.intro hx1 hb1)
  obtain ⟨kind, n, s, la, lcap, l, ta, tcap, t⟩ := c
  simp only at hl ht HA
  unfold ActW.cells at HW1
  simp only at HW1
  unfold ActW.val
  simp only
  clear hw1 hX hb1 hx1 hB hT
  go_enter Tryz.func35, Tryz.ntmps35
  go_wp2
  rw [← HW1.out.1, ← HW1.out.2]
  go_loopw [3, 4] (fun u i wr => ∃ j : Nat, j ≤ l.length ∧ i = .int .i64 (j : Int) ∧ wr.ownsRow w.heap.size 59 2 u j (awE.flat (lastsF l t j)) ∧ LaC wr X ⟨kind, n, s, la, lcap, l, ta, tcap, t⟩ ∧ Below w.heap.size w wr) (fun _ i _ => l.length - (intOf i).toNat)
  case atStart => exact ⟨0, Nat.zero_le _, rfl, World.ownsRow_nil _ _ _ _, H1.out.1, H1.out.2⟩
  case round =>
    obtain ⟨j, hj, rfl, hown, hx, hbl⟩ := hrel
    have x3 := Kq.blk_cell hx 3
    have x4 := Kq.blk_cell hx 4
    unfold ActW.cells at x3 x4
    simp only [List.getElem?_toArray, List.getElem?_cons_zero, List.getElem?_cons_succ] at x3 x4
    by_cases hlt : j < l.length
    · have hi0' : (j : Int) < (l.length : Int) := by omega
      have hd : decide ((j : Int) < (l.length : Int)) = true := decide_eq_true hi0'
      have hd' : decide (j < l.length) = true := decide_eq_true hlt
      obtain ⟨g, o, rfl, hg, hc⟩ := HA.out.1.below hbl j (by simpa using hlt)
      have hc' : wr.cell? ⟨g, o + j, none⟩ = some (.bool l[j]) := by simpa using hc
      have hgd : l.getD j false = l[j] := by simp [List.getD, hlt]
      obtain ⟨bb, hbb⟩ : ∃ z, z = l[j] := ⟨_, rfl⟩
      rw [← hbb] at hc' hgd
      obtain ⟨a', n', c', rfl⟩ := Kq.own_shape hown
      have hww : wrap64 ((j : Int) + 1) = ((j + 1 : Nat) : Int) := by rw [IntWalk.wrap64_in _ (by omega)]; omega
      have hgn : g ≠ wr.heap.size := by omega
      have hXn : X ≠ wr.heap.size := by have := Kq.blk_lt hx; omega
      have hXl : X < wr.heap.size := Kq.blk_lt hx
      have HO := Lib.hid (And.intro hown (And.intro hx hbl))
      have HLT := Lib.hid hlt
      by_cases hlt2 : j < t.length
      · have ht0' : (j : Int) < (t.length : Int) := by omega
        have hdt : decide ((j : Int) < (t.length : Int)) = true := decide_eq_true ht0'
        have hdt' : decide (j < t.length) = true := decide_eq_true hlt2
        obtain ⟨tg, to_, rfl, htg, htc⟩ := HA.out.2.below hbl j (by simpa using hlt2)
        have htc' : wr.cell? ⟨tg, to_ + j, none⟩ = some (.int .i64 t[j]) := by simpa using htc
        have htd : t.getD j 0 = t[j] := by simp [List.getD, hlt2]
        obtain ⟨tt, htt⟩ : ∃ z, z = t[j] := ⟨_, rfl⟩
        rw [← htt] at htc' htd
        have htgn : tg ≠ wr.heap.size := by omega
        have HN : Hid (lastsF l t (j + 1) = lastsF l t j ++ [(bb, tt)]) := Lib.hid (by rw [lastsF, hgd, htd])
        clear hown hx hbl hc htc hbb htt hgd htd
        have HAL : Hid (awE.At ((wr.alloc (.cells #[.bool bb, .int .i64 tt] 59)).alloc (.cells #[.bool bb, .int .i64 tt] 59)) (some ⟨wr.heap.size + 1, 0, none⟩) [(bb, tt)] ∧ ((wr.alloc (.cells #[.bool bb, .int .i64 tt] 59)).alloc (.cells #[.bool bb, .int .i64 tt] 59)).ownsRow w.heap.size 59 2 (.slice a' n' c') j (awE.flat (lastsF l t j)) ∧ Below w.heap.size w ((wr.alloc (.cells #[.bool bb, .int .i64 tt] 59)).alloc (.cells #[.bool bb, .int .i64 tt] 59)) ∧ Below wr.heap.size wr ((wr.alloc (.cells #[.bool bb, .int .i64 tt] 59)).alloc (.cells #[.bool bb, .int .i64 tt] 59))) := Lib.hid ⟨by have h := Kq.Elt.made_one (E := awE) (bb, tt) (wr.alloc (.cells #[.bool bb, .int .i64 tt] 59)) 59; rw [World.size_alloc] at h; exact h, own_belowL (own_belowL HO.out.1 (Kq.below_alloc _ _)) (Kq.below_alloc _ _), (HO.out.2.2.trans ((Kq.below_alloc _ _).mono HO.out.2.2.size)).trans ((Kq.below_alloc _ _).mono (by rw [World.size_alloc]; have := HO.out.2.2.size; omega)), (Kq.below_alloc _ _).trans ((Kq.below_alloc _ _).mono (by rw [World.size_alloc]; omega))⟩
        go_wp2_with (at_builtin; refine Kq.wpList_append_any _ rfl (.tmp 30) (.tmp 32) 76 76 rfl w.heap.size 59 i0 (.agg #[.bool false, .int .i64 0]) 2 16 Tryz.underlying76 hi0 hz0 hz1 hz2 rfl (by decide) (.slice a' n' c') j (awE.flat (lastsF l t j)) rfl HAL.out.2.1 (.slice (some ⟨wr.heap.size + 1, 0, none⟩) 1 1) 1 (awE.flat [(bb, tt)]) rfl (HAL.out.1.src Tryz.underlying76 1) ?h1 ?h2 HAL.out.2.2.1.size ?_)
        case h1 => unfold maxLen; omega
        case h2 => omega
        intro v' z2 hown2 hgrow hfresh
        obtain ⟨a2, n2, c2, rfl⟩ := Kq.own_shape hown2
        have hbg := grown_belowL HAL.out.2.1 hgrow HAL.out.2.2.1.size
        have hX2 : LaC z2 X ⟨kind, n, s, some ⟨g, o, none⟩, lcap, l, some ⟨tg, to_, none⟩, tcap, t⟩ := by
          have h1 : LaC ((wr.alloc (.cells #[.bool bb, .int .i64 tt] 59)).alloc (.cells #[.bool bb, .int .i64 tt] 59)) X ⟨kind, n, s, some ⟨g, o, none⟩, lcap, l, some ⟨tg, to_, none⟩, tcap, t⟩ := Kq.below_blk HAL.out.2.2.2 HO.out.2.1 (Kq.blk_lt HO.out.2.1)
          exact (Kq.Keeps.grown (S := fun k => w.heap.size ≤ k ∧ k ≠ X) hgrow (fun k _ e => ⟨own_ge HAL.out.2.1 e, fun e2 => own_ne HO.out.1 HO.out.2.1 (e2 ▸ e)⟩)).blk h1 (fun h => h.2 rfl)
        have HD2 : Hid (z2.ownsRow w.heap.size 59 2 (.slice a2 n2 c2) (j + 1) (awE.flat (lastsF l t (j + 1))) ∧ LaC z2 X ⟨kind, n, s, some ⟨g, o, none⟩, lcap, l, some ⟨tg, to_, none⟩, tcap, t⟩ ∧ Below w.heap.size w z2) := Lib.hid ⟨by rw [HN.out, awE.flat_append]; exact hown2, hX2, HAL.out.2.2.1.trans hbg⟩
        clear hown2 hgrow hfresh hbg HAL hX2
        go_wp2
        rw [hww] at *
        go_roundw
        case rel => exact ⟨j + 1, HLT.out, rfl, HD2.out⟩
        case measure => have := HLT.out; simp [intOf]; omega
      · have ht0' : ¬ (j : Int) < (t.length : Int) := by omega
        have hdt : decide ((j : Int) < (t.length : Int)) = false := decide_eq_false ht0'
        have hdt' : decide (j < t.length) = false := decide_eq_false hlt2
        have htd : t.getD j 0 = 0 := by simp [List.getD, List.getElem?_eq_none (Nat.not_lt.1 hlt2)]
        have HN : Hid (lastsF l t (j + 1) = lastsF l t j ++ [(bb, 0)]) := Lib.hid (by rw [lastsF, hgd, htd])
        clear hown hx hbl hc hbb hgd htd
        have HAL : Hid (awE.At ((wr.alloc (.cells #[.bool bb, .int .i64 0] 59)).alloc (.cells #[.bool bb, .int .i64 0] 59)) (some ⟨wr.heap.size + 1, 0, none⟩) [(bb, 0)] ∧ ((wr.alloc (.cells #[.bool bb, .int .i64 0] 59)).alloc (.cells #[.bool bb, .int .i64 0] 59)).ownsRow w.heap.size 59 2 (.slice a' n' c') j (awE.flat (lastsF l t j)) ∧ Below w.heap.size w ((wr.alloc (.cells #[.bool bb, .int .i64 0] 59)).alloc (.cells #[.bool bb, .int .i64 0] 59)) ∧ Below wr.heap.size wr ((wr.alloc (.cells #[.bool bb, .int .i64 0] 59)).alloc (.cells #[.bool bb, .int .i64 0] 59))) := Lib.hid ⟨by have h := Kq.Elt.made_one (E := awE) (bb, 0) (wr.alloc (.cells #[.bool bb, .int .i64 0] 59)) 59; rw [World.size_alloc] at h; exact h, own_belowL (own_belowL HO.out.1 (Kq.below_alloc _ _)) (Kq.below_alloc _ _), (HO.out.2.2.trans ((Kq.below_alloc _ _).mono HO.out.2.2.size)).trans ((Kq.below_alloc _ _).mono (by rw [World.size_alloc]; have := HO.out.2.2.size; omega)), (Kq.below_alloc _ _).trans ((Kq.below_alloc _ _).mono (by rw [World.size_alloc]; omega))⟩
        go_wp2_with (at_builtin; refine Kq.wpList_append_any _ rfl (.tmp 30) (.tmp 32) 76 76 rfl w.heap.size 59 i0 (.agg #[.bool false, .int .i64 0]) 2 16 Tryz.underlying76 hi0 hz0 hz1 hz2 rfl (by decide) (.slice a' n' c') j (awE.flat (lastsF l t j)) rfl HAL.out.2.1 (.slice (some ⟨wr.heap.size + 1, 0, none⟩) 1 1) 1 (awE.flat [(bb, 0)]) rfl (HAL.out.1.src Tryz.underlying76 1) ?h1 ?h2 HAL.out.2.2.1.size ?_)
        case h1 => unfold maxLen; omega
        case h2 => omega
        intro v' z2 hown2 hgrow hfresh
        obtain ⟨a2, n2, c2, rfl⟩ := Kq.own_shape hown2
        have hbg := grown_belowL HAL.out.2.1 hgrow HAL.out.2.2.1.size
        have hX2 : LaC z2 X ⟨kind, n, s, some ⟨g, o, none⟩, lcap, l, ta, tcap, t⟩ := by
          have h1 : LaC ((wr.alloc (.cells #[.bool bb, .int .i64 0] 59)).alloc (.cells #[.bool bb, .int .i64 0] 59)) X ⟨kind, n, s, some ⟨g, o, none⟩, lcap, l, ta, tcap, t⟩ := Kq.below_blk HAL.out.2.2.2 HO.out.2.1 (Kq.blk_lt HO.out.2.1)
          exact (Kq.Keeps.grown (S := fun k => w.heap.size ≤ k ∧ k ≠ X) hgrow (fun k _ e => ⟨own_ge HAL.out.2.1 e, fun e2 => own_ne HO.out.1 HO.out.2.1 (e2 ▸ e)⟩)).blk h1 (fun h => h.2 rfl)
        have HD2 : Hid (z2.ownsRow w.heap.size 59 2 (.slice a2 n2 c2) (j + 1) (awE.flat (lastsF l t (j + 1))) ∧ LaC z2 X ⟨kind, n, s, some ⟨g, o, none⟩, lcap, l, ta, tcap, t⟩ ∧ Below w.heap.size w z2) := Lib.hid ⟨by rw [HN.out, awE.flat_append]; exact hown2, hX2, HAL.out.2.2.1.trans hbg⟩
        clear hown2 hgrow hfresh hbg HAL hX2
        go_wp2
        rw [hww] at *
        go_roundw
        case rel => exact ⟨j + 1, HLT.out, rfl, HD2.out⟩
        case measure => have := HLT.out; simp [intOf]; omega
    · obtain rfl : j = l.length := by omega
      have hd : decide ((l.length : Int) < (l.length : Int)) = false := decide_eq_false (by omega)
      have hd' : decide (l.length < l.length) = false := decide_eq_false (by omega)
      have hown' : wr.ownsRow w.heap.size 59 2 u3 (lastsF l t l.length).length (awE.flat (lastsF l t l.length)) := by rw [lastsF_length]; exact hown
      obtain ⟨A, cap, rfl, _, hat, hge, _⟩ := Kq.Elt.own_at (E := awE) hown'
      rw [lastsF_length] at *
      have HF := Lib.hid (And.intro (awE_cw hat) (And.intro hge hbl))
      clear hown hown' hat hge hbl hx hlt
      go_wp2
      go_ret
      exact ⟨A, cap, rfl, HF.out⟩
end Go.Proofs.YtbpgfhcecanikaaGreat
namespace Go.Proofs.YtbpgfhcecanikaaGreat
open Go.RowKit
set_option linter.unusedVariables false
structure RfS (w : World) (base R : Nat) (a b : Nat) (buf : Value) (ws : List (Int × ByteArray)) (armed : Int) (st : List Nat) : Prop where
  blk : w.heap[R]? = some (.cells #[.int .i64 a, .int .i64 b, .string (txt st), buf, .int .i64 armed] 44 (0, 0))
  own : w.ownsRow base 113 2 buf ws.length (wcells ws)
  ne : ∀ k, buf.ownBlock = some k → k ≠ R
  base : base ≤ w.heap.size
section
variable {w : World} {base R a b : Nat} {buf : Value} {ws : List (Int × ByteArray)} {armed : Int} {st : List Nat} (h : RfS w base R a b buf ws armed st)
include h
theorem RfS.c0 : w.cell? ⟨R, 0, none⟩ = some (.int .i64 a) := Kq.blk_cell h.blk 0
theorem RfS.c1 : w.cell? ⟨R, 1, none⟩ = some (.int .i64 b) := Kq.blk_cell h.blk 1
theorem RfS.c2 : w.cell? ⟨R, 2, none⟩ = some (.string (txt st)) := Kq.blk_cell h.blk 2
theorem RfS.c3 : w.cell? ⟨R, 3, none⟩ = some buf := Kq.blk_cell h.blk 3
theorem RfS.c4 : w.cell? ⟨R, 4, none⟩ = some (.int .i64 armed) := Kq.blk_cell h.blk 4
theorem RfS.fz (i : Nat) : w.frozen? ⟨R, i, none⟩ = false := Kq.blk_free h.blk i
theorem RfS.keeps {P : Nat → Prop} {w' : World} (hk : Kq.Keeps P w w') (hR : ¬ P R) (hP : ∀ k, buf.ownBlock = some k → ¬ P k) : RfS w' base R a b buf ws armed st := by
  refine ⟨hk.blk h.blk hR, ?_, h.ne, Nat.le_trans h.base hk.size⟩
  obtain ⟨h1, h2⟩ := h.own
  refine ⟨h1, h2.imp id ?_⟩
  rintro ⟨g, cap, cur, hv, h3, h4, h5⟩
  exact ⟨g, cap, cur, hv, h3, hk.blk h4 (hP g (by rw [hv]; rfl)), h5⟩
theorem RfS.below {w' : World} (hb : Below w.heap.size w w') : RfS w' base R a b buf ws armed st :=
  h.keeps (P := fun _ => False) (Kq.Keeps.of_below hb (fun j h1 h2 => absurd h1 (Nat.not_le.2 h2))) id (fun _ _ => id)
theorem RfS.setArmed (n : Int) : RfS (w.setCell ⟨R, 4, none⟩ (.int .i64 n)) base R a b buf ws n st ∧ Kq.Keeps (· = R) w (w.setCell ⟨R, 4, none⟩ (.int .i64 n)) := by
  refine ⟨⟨Kq.blk_set h.blk 4 _, ?_, h.ne, by simpa [World.setCell] using h.base⟩, Kq.Keeps.setCell _ _ _ rfl⟩
  obtain ⟨h1, h2⟩ := h.own
  refine ⟨h1, h2.imp id ?_⟩
  rintro ⟨g, cap, cur, hv, h3, h4, h5⟩
  exact ⟨g, cap, cur, hv, h3, by rw [Below.heap_setCell _ _ _ _ (h.ne g (by rw [hv]; rfl))]; exact h4, h5⟩
end
set_option maxRecDepth 100000 in
theorem rf_fails0 (base R a b : Nat) (buf : Value) (ws : List (Int × ByteArray)) (st : List Nat) (w : World) (h : RfS w base R a b buf ws 0 st) :
    Calls Tryz.prog 92 #[.pointer (some ⟨R, 0, none⟩)] w fun x w' => x = .returned (.bool false) ∧ w = w' := by
  have c4 := h.c4
  clear h
  go_enter Tryz.func92, Tryz.ntmps92
  go_wp2
  go_ret
  exact ⟨rfl, rfl⟩
set_option maxRecDepth 100000 in
theorem rf_fails (base R a b : Nat) (buf : Value) (ws : List (Int × ByteArray)) (armed : Nat) (st : List Nat) (w : World) (h : RfS w base R a b buf ws (armed : Int) st) (ha : armed ≤ 9223372036854775807) :
    Calls Tryz.prog 92 #[.pointer (some ⟨R, 0, none⟩)] w fun x w' => x = .returned (.bool (decide (armed = 1))) ∧ RfS w' base R a b buf ws ((armed - 1 : Nat) : Int) st ∧ Kq.Keeps (· = R) w w' := by
  rcases armed with _ | armed
  · refine (rf_fails0 base R a b buf ws st w h).mono ?_
    rintro x w' ⟨rfl, rfl⟩
    exact ⟨rfl, h, Kq.Keeps.refl _ _⟩
  · have c4 := h.c4
    have f4 := h.fz 4
    have HP := Lib.hid (h.setArmed (armed : Int))
    have d0 : decide ((0 : Int) < ((armed + 1 : Nat) : Int)) = true := decide_eq_true (by omega)
    have d1 : (((armed + 1 : Nat) : Int) == 1) = decide (armed + 1 = 1) := by rw [Bool.eq_iff_iff]; simp; omega
    have d2 : decide (((armed + 1 : Nat) : Int) = 1) = decide (armed + 1 = 1) := by rw [Bool.eq_iff_iff]; simp; omega
    have hs : wrap64 (((armed + 1 : Nat) : Int) - 1) = (armed : Int) := by rw [IntWalk.wrap64_in _ (by omega)]; omega
    have hs2 : IntKind.i64.wrap (((armed + 1 : Nat) : Int) - 1) = (armed : Int) := by rw [IntWalk.i64_in _ (by omega)]; omega
    clear h
    generalize ((armed + 1 : Nat) : Int) = A at *
    generalize hq : decide (armed + 1 = 1) = q at *
    clear hq
    go_enter Tryz.func92, Tryz.ntmps92
    go_wp2
    go_ret
    exact ⟨by simp_all, HP.out.1, HP.out.2⟩
theorem RfS.setTwice {w : World} {base R a b : Nat} {buf : Value} {ws : List (Int × ByteArray)} {armed : Int} {st : List Nat} (h : RfS w base R a b buf ws armed st) (n m : Int) : RfS ((w.setCell ⟨R, 4, none⟩ (.int .i64 n)).setCell ⟨R, 4, none⟩ (.int .i64 m)) base R a b buf ws m st ∧ Kq.Keeps (· = R) w ((w.setCell ⟨R, 4, none⟩ (.int .i64 n)).setCell ⟨R, 4, none⟩ (.int .i64 m)) :=
  ⟨((h.setArmed n).1.setArmed m).1, (h.setArmed n).2.trans ((h.setArmed n).1.setArmed m).2⟩
set_option maxRecDepth 100000 in
theorem rf_arm_up (base R a b : Nat) (buf : Value) (ws : List (Int × ByteArray)) (armed : Int) (m : Nat) (st : List Nat) (w : World) (h : RfS w base R a b buf ws armed st) :
    Calls Tryz.prog 34 #[.pointer (some ⟨R, 0, none⟩), .int .i64 (m : Int)] w fun x w' => x = .returned (.tuple #[]) ∧ RfS w' base R a b buf ws (m : Int) st ∧ Kq.Keeps (· = R) w w' := by
  have HP := Lib.hid (h.setArmed (m : Int))
  have c4 := h.c4
  have f4 := h.fz 4
  clear h
  go_enter Tryz.func34, Tryz.ntmps34
  go_wp2
  all_goals (go_end0; exact ⟨rfl, HP.out.1, HP.out.2⟩)
set_option maxRecDepth 100000 in
theorem rf_arm_down (base R a b : Nat) (buf : Value) (ws : List (Int × ByteArray)) (armed n : Int) (st : List Nat) (w : World) (h : RfS w base R a b buf ws armed st) (hn : n < 0) :
    Calls Tryz.prog 34 #[.pointer (some ⟨R, 0, none⟩), .int .i64 n] w fun x w' => x = .returned (.tuple #[]) ∧ RfS w' base R a b buf ws 0 st ∧ Kq.Keeps (· = R) w w' := by
  have HP := Lib.hid (h.setTwice n 0)
  have c4 := h.c4
  have f4 := h.fz 4
  have c4' := (h.setArmed n).1.c4
  have f4' := (h.setArmed n).1.fz 4
  have d0 : decide (n < 0) = true := decide_eq_true hn
  clear h hn
  go_enter Tryz.func34, Tryz.ntmps34
  go_wp2
  all_goals (go_end0; exact ⟨rfl, HP.out.1, HP.out.2⟩)
theorem rf_arm (base R a b : Nat) (buf : Value) (ws : List (Int × ByteArray)) (armed n : Int) (st : List Nat) (w : World) (h : RfS w base R a b buf ws armed st) :
    Calls Tryz.prog 34 #[.pointer (some ⟨R, 0, none⟩), .int .i64 n] w fun x w' => x = .returned (.tuple #[]) ∧ RfS w' base R a b buf ws ((n.toNat : Nat) : Int) st ∧ Kq.Keeps (· = R) w w' := by
  by_cases h0 : 0 ≤ n
  · obtain ⟨m, rfl⟩ := Int.eq_ofNat_of_zero_le h0
    exact rf_arm_up base R a b buf ws armed m st w h
  · rw [show n.toNat = 0 by omega]
    exact rf_arm_down base R a b buf ws armed n st w h (by omega)
end Go.Proofs.YtbpgfhcecanikaaGreat
namespace Go.Proofs.YtbpgfhcecanikaaGreat
open Go.RowKit
set_option linter.unusedVariables false
set_option maxRecDepth 100000 in
set_option maxHeartbeats 1000000 in
theorem rf_new (a b : Nat) (w : World) (h : DkRight a b) : Calls Tryz.prog 28 #[.int .i64 (a : Int), .int .i64 (b : Int)] w fun x w' => x = .returned (.pointer (some ⟨w.heap.size + 1, 0, none⟩)) ∧ RfS w' w.heap.size (w.heap.size + 1) a b (.slice none 0 0) [] 0 (List.replicate (a * b) 0) ∧ Below w.heap.size w w' := by
  have hp := prod_le a b h
  have hw : wrap64 ((a : Int) * (b : Int)) = ((a * b : Nat) : Int) := by rw [IntWalk.wrap64_in _ (by omega)]; simp
  have hnn : a * b ≤ 3000000 := by
    have e : ((a * b : Nat) : Int) = (a : Int) * (b : Int) := Int.natCast_mul a b
    omega
  have hmk := fun w => mk_bytes w (wrap64 ((a : Int) * (b : Int))) (a * b) hw hnn
  have hcv := fun w => cv_zeros (a * b) w
  clear h hp hw hnn
  go_enter Tryz.func28, Tryz.ntmps28
  go_wp2
  go_ret
  refine ⟨rfl, ⟨?_, World.ownsRow_nil _ _ _ _, (fun k hk => by cases hk), (by have := (Kq.below_alloc w (.cells (zrow (a * b)) 5)).size; exact Nat.le_trans this (Kq.below_alloc _ _).size)⟩, ?_⟩
  · have := Kq.blk_new (w.alloc (.cells (zrow (a * b)) 5)) #[.int .i64 a, .int .i64 b, .string (txt (List.replicate (a * b) 0)), .slice none 0 0, .int .i64 0] 44 (0, 0)
    rw [World.size_alloc] at this
    exact this
  · exact (Kq.below_alloc w _).trans ((Kq.below_alloc _ _).mono (Kq.below_alloc w _).size)
end Go.Proofs.YtbpgfhcecanikaaGreat
