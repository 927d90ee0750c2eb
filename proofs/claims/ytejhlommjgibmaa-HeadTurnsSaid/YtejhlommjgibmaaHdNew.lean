/- Contracts of head.Newest, carrackref06.Newest. No condition but that lengths are ints. -/
import Derived.WalkSpells
import Derived.Test.YtejhlommjgibmaaHdRGet
namespace Go.Proofs.Ytejhlommjgibmaa
open Go.RowKit
set_option linter.unusedVariables false
theorem hd_get' (a : Int) (s : ByteArray) (w : World) (hs : s.size ≤ maxLen) :
    Calls Try.prog 13 #[.int .i64 a, .string s] w fun x w' => x = .returned (HdRes a.toNat s) ∧ Below w.heap.size w w' := hd_get a s w hs
theorem hdErr_ne (a : Nat) (s : ByteArray) : (hdErr a s == 0) = false := by
  unfold hdErr
  split
  · split
    · split <;> rfl
    · rfl
  · rfl
theorem res_bad {a : Nat} {s : ByteArray} (h : hdGoodB a s = false) : HdRes a s = .tuple #[.agg #[.int .u64 0, .int .i64 0], .int .i64 (hdErr a s)] := by
  unfold HdRes; simp only [h, Bool.false_eq_true, if_false]; rfl
/-- texts in memory -/
structure StrsAt (w : World) (A : Option Addr) (l : List ByteArray) : Prop where
  at_ : ∀ j (h : j < l.length), ∃ g o, A = some ⟨g, o, none⟩ ∧ g < w.heap.size ∧ w.cell? ⟨g, o + j, none⟩ = some (.string l[j])
theorem StrsAt.below {w w' : World} {A : Option Addr} {l : List ByteArray} (h : StrsAt w A l) (hb : Below w.heap.size w w') : StrsAt w' A l :=
  ⟨fun j hj => by
    obtain ⟨g, o, hA, hg, h1⟩ := h.at_ j hj
    exact ⟨g, o, hA, Nat.lt_of_lt_of_le hg hb.size, (hb.cell (p := ⟨g, o + j, none⟩) hg).trans h1⟩⟩
/-- the newest of the first sectors: generation, segment, place -/
def nwStep (a : Nat) (st : Nat × Nat × Int) (s : ByteArray) (i : Nat) : Nat × Nat × Int :=
  if hdGoodB a s = true ∧ (st.2.2 < 0 ∨ st.1 < gOf s) then (gOf s, sOf s, (i : Int)) else st
def nw (a : Nat) (l : List ByteArray) : Nat → Nat × Nat × Int
  | 0 => (0, 0, -1)
  | i + 1 => nwStep a (nw a l i) (l.getD i ⟨#[]⟩) i
theorem nw_inv (a : Nat) (l : List ByteArray) : ∀ i, ((nw a l i).2.2 < 0 ∧ nw a l i = (0, 0, -1)) ∨ (0 ≤ (nw a l i).2.2 ∧ 0 < (nw a l i).1)
  | 0 => Or.inl ⟨by show (-1 : Int) < 0; decide, rfl⟩
  | i + 1 => by
    unfold nw nwStep
    split
    · rename_i h
      exact Or.inr ⟨Int.natCast_nonneg _, (good_of h.1).hg.1⟩
    · exact nw_inv a l i
theorem nw_succ (a : Nat) (l : List ByteArray) (i : Nat) (h : i < l.length) : nw a l (i + 1) = nwStep a (nw a l i) l[i] i := by
  rw [nw, List.getD_eq_getElem?_getD, List.getElem?_eq_getElem h]; rfl
/-- in the midst of Newest: the result's block, the best one's -/
structure NS (w wr : World) (R Bb : Nat) (g sg : Int) : Prop where
  r : wr.heap[R]? = some (.cells #[.int .u64 0, .int .i64 0] 29 (0, 0))
  b : wr.heap[Bb]? = some (.cells #[.int .u64 g, .int .i64 sg] 29 (0, 0))
  ne : R ≠ Bb
  hb : w.heap.size ≤ Bb
  hr : w.heap.size ≤ R
  bel : Below w.heap.size w wr
theorem NS.below {w wr w' : World} {R Bb : Nat} {g sg : Int} (h : NS w wr R Bb g sg) (hb : Below wr.heap.size wr w') : NS w w' R Bb g sg :=
  ⟨Kq.below_blk hb h.r (Kq.blk_lt h.r), Kq.below_blk hb h.b (Kq.blk_lt h.b), h.ne, h.hb, h.hr, h.bel.trans (hb.mono h.bel.size)⟩
theorem NS.fill {w wr : World} {R Bb : Nat} {g sg : Int} (h : NS w wr R Bb g sg) (g' sg' : Int) : NS w (fill2 wr Bb g' sg') R Bb g' sg' :=
  ⟨(fill2_keeps wr Bb g' sg').blk h.r h.ne, fill2_blk h.b g' sg', h.ne, h.hb, h.hr, h.bel.trans ((fill2_keeps wr Bb g' sg').below h.bel.size (fun k _ e => by subst e; exact h.hb))⟩
set_option maxRecDepth 100000 in
set_option maxHeartbeats 4000000 in
theorem hd_newest (a : Int) (A : Option Addr) (cap : Nat) (l : List ByteArray) (w : World) (hl : l.length ≤ 1000000) (hs : ∀ s ∈ l, s.size ≤ maxLen) (hc : StrsAt w A l) :
    Calls Try.prog 9 #[.int .i64 a, .slice A l.length cap] w fun x w' => x = .returned (.tuple #[.agg #[.int .u64 (((nw a.toNat l l.length).1 : Nat) : Int), .int .i64 (((nw a.toNat l l.length).2.1 : Nat) : Int)], .int .i64 (nw a.toNat l l.length).2.2]) ∧ Below w.heap.size w w' := by
  have HC := Lib.hid hc
  have HS := Lib.hid hs
  clear hc hs
  have HN0 : Hid (NS w ((w.alloc (.cells #[.int .u64 0, .int .i64 0] 29)).alloc (.cells #[.int .u64 0, .int .i64 0] 29)) w.heap.size (w.heap.size + 1) 0 0) := Lib.hid (by
    have h1 := Kq.blk_new (w.alloc (.cells #[.int .u64 0, .int .i64 0] 29)) #[.int .u64 0, .int .i64 0] 29 (0, 0)
    rw [World.size_alloc] at h1
    refine ⟨?_, h1, by omega, by omega, by omega, (Kq.below_alloc w _).trans ((Kq.below_alloc _ _).mono (Kq.below_alloc w _).size)⟩
    rw [Below.heap_alloc _ _ _ (by simp)]
    exact Kq.blk_new _ _ _ _)
  go_enter Try.func9, Try.ntmps9
  go_wp2
  go_loopw [7, 14] (fun pv i wr => ∃ j : Nat, j ≤ l.length ∧ i = .int .i64 (j : Int) ∧ pv = .int .i64 (nw a.toNat l j).2.2 ∧ NS w wr w.heap.size (w.heap.size + 1) (((nw a.toNat l j).1 : Nat) : Int) (((nw a.toNat l j).2.1 : Nat) : Int)) (fun _ i _ => l.length - (intOf i).toNat)
  case atStart => exact ⟨0, by omega, rfl, rfl, HN0.out⟩
  case round =>
    obtain ⟨j, hj, rfl, rfl, hns⟩ := hrel
    have HNS := Lib.hid hns
    clear hns
    have HINV := Lib.hid (nw_inv a.toNat l j)
    by_cases hlt : j < l.length
    · have HST := Lib.hid (nw_succ a.toNat l j hlt)
      have HSZ := Lib.hid (HS.out l[j] (List.getElem_mem _))
      obtain ⟨G, o, rfl, hG, hcell⟩ := HC.out.at_ j hlt
      have hst : wr.cell? ⟨G, o + j, none⟩ = some (.string l[j]) := (HNS.out.bel.cell (p := ⟨G, o + j, none⟩) hG).trans hcell
      clear hG hcell
      obtain ⟨s, hs⟩ : ∃ s, s = l[j] := ⟨_, rfl⟩
      rw [← hs] at hst HST HSZ
      clear hs
      have dj : decide ((0 : Int) ≤ (j : Int)) = true := decide_eq_true (by omega)
      obtain ⟨n, hn⟩ : ∃ n, n = nw a.toNat l j := ⟨_, rfl⟩
      rw [← hn] at HNS HINV HST ⊢
      clear hn
      obtain ⟨g, sg, at_⟩ := n
      simp only at HNS HINV HST ⊢
      go_wp2_with fail
      refine (hd_get' a s _ HSZ.out).mono ?_
      cases hb : hdGoodB a.toNat s with
      | false =>
        rw [res_bad hb]
        have he := hdErr_ne a.toNat s
        rintro x w5 ⟨rfl, b5⟩
        have H5 := Lib.hid ((HNS.out.below b5).below (Kq.below_alloc w5 (.cells #[.int .u64 0, .int .i64 0] 29)))
        have HX : Hid (nw a.toNat l (j + 1) = (g, sg, at_)) := Lib.hid (by rw [HST.out, nwStep, if_neg (fun h => by rw [hb] at h; cases h.1)])
        generalize hdErr a.toNat s = er at *
        clear b5 hb hst
        go_wp2
        go_roundw
        case rel => exact ⟨j + 1, by omega, by go_num, by rw [HX.out], by rw [HX.out]; exact H5.out⟩
        case measure => simp [intOf]; omega
      | true =>
        rw [res_good hb]
        rintro x w5 ⟨rfl, b5⟩
        have H5 := Lib.hid ((HNS.out.below b5).below (Kq.below_alloc w5 (.cells #[.int .u64 ((gOf s : Nat) : Int), .int .i64 ((sOf s : Nat) : Int)] 29)))
        have H5b := Lib.hid (HNS.out.below b5)
        have c0 : w5.cell? ⟨w.heap.size + 1, 0, none⟩ = some (.int .u64 ((g : Nat) : Int)) := Kq.blk_cell H5b.out.b 0
        have c1 : w5.cell? ⟨w.heap.size + 1, 1, none⟩ = some (.int .i64 ((sg : Nat) : Int)) := Kq.blk_cell H5b.out.b 1
        have f0 := Kq.blk_free H5b.out.b 0
        have f1 := Kq.blk_free H5b.out.b 1
        have hBlt : w.heap.size + 1 < w5.heap.size := Kq.blk_lt H5b.out.b
        have hne1 : ¬ w5.heap.size = w.heap.size + 1 := by omega
        have hne2 : ¬ w.heap.size + 1 = w5.heap.size := by omega
        clear b5 hst
        have HFL := Lib.hid ((H5b.out.fill ((gOf s : Nat) : Int) ((sOf s : Nat) : Int)).below (Kq.below_alloc _ (.cells #[.int .u64 ((gOf s : Nat) : Int), .int .i64 ((sOf s : Nat) : Int)] 29)))
        by_cases hat : at_ < 0
        · have h0 : g = 0 ∧ sg = 0 ∧ at_ = -1 := by
            rcases HINV.out with ⟨_, h⟩ | ⟨h, _⟩
            · simp only [Prod.mk.injEq] at h; exact h
            · omega
          obtain ⟨rfl, rfl, rfl⟩ := h0
          have HX : Hid (nw a.toNat l (j + 1) = (gOf s, sOf s, (j : Int))) := Lib.hid (by rw [HST.out, nwStep, if_pos ⟨hb, Or.inl (by decide)⟩])
          have c0 : w5.cell? ⟨w.heap.size + 1, 0, none⟩ = some (.int .u64 0) := c0
          have c1 : w5.cell? ⟨w.heap.size + 1, 1, none⟩ = some (.int .i64 0) := c1
          clear hb hat
          go_wp2
          go_roundw
          case rel => exact ⟨j + 1, by omega, by go_num, by rw [HX.out], by rw [HX.out]; exact HFL.out⟩
          case measure => simp [intOf]; omega
        · have hg : 0 < g := by
            rcases HINV.out with ⟨h, _⟩ | ⟨_, h⟩
            · omega
            · exact h
          have g0 : ((g : Int) == 0) = false := by simp; omega
          have g1 : (g == 0) = false := by simp; omega
          have a0 : decide (at_ < 0) = false := decide_eq_false hat
          by_cases hgt : g < gOf s
          · have t0 : decide (g < gOf s) = true := decide_eq_true hgt
            have t1 : decide ((g : Int) < ((gOf s : Nat) : Int)) = true := decide_eq_true (by omega)
            have HX : Hid (nw a.toNat l (j + 1) = (gOf s, sOf s, (j : Int))) := Lib.hid (by rw [HST.out, nwStep, if_pos ⟨hb, Or.inr hgt⟩])
            clear hb hat hg hgt
            go_wp2
            go_roundw
            case rel => exact ⟨j + 1, by omega, by go_num, by rw [HX.out], by rw [HX.out]; exact HFL.out⟩
            case measure => simp [intOf]; omega
          · have t0 : decide (g < gOf s) = false := decide_eq_false hgt
            have t1 : decide ((g : Int) < ((gOf s : Nat) : Int)) = false := decide_eq_false (by omega)
            have HX : Hid (nw a.toNat l (j + 1) = (g, sg, at_)) := Lib.hid (by rw [HST.out, nwStep, if_neg (fun h => h.2.elim hat hgt)])
            clear hb hat hg hgt
            go_wp2
            go_roundw
            case rel => exact ⟨j + 1, by omega, by go_num, by rw [HX.out], by rw [HX.out]; exact H5.out⟩
            case measure => simp [intOf]; omega
    · have hk' : j = l.length := Nat.le_antisymm hj (Nat.not_lt.1 hlt)
      subst hk'
      obtain ⟨g, sg, at_, hn⟩ : ∃ g sg at_, nw a.toNat l l.length = (g, sg, at_) := ⟨_, _, _, rfl⟩
      have HQ := Lib.hid hn
      rw [hn] at HNS ⊢
      clear hn HINV
      simp only at HNS ⊢
      have c0 := Kq.blk_cell HNS.out.b 0
      have c1 := Kq.blk_cell HNS.out.b 1
      have r0 := Kq.blk_cell HNS.out.r 0
      have r1 := Kq.blk_cell HNS.out.r 1
      have q0 := Kq.blk_free HNS.out.r 0
      have q1 := Kq.blk_free HNS.out.r 1
      go_wp2
      change bodyPost _ _ _ _ _ (fill2 wr w.heap.size (g : Int) (sg : Int))
      have p1 := fill2_blk HNS.out.r (g : Int) (sg : Int)
      have p2 := fill2_keeps wr w.heap.size (g : Int) (sg : Int)
      generalize fill2 wr w.heap.size (g : Int) (sg : Int) = z at *
      have z0 := Kq.blk_cell p1 0
      have z1 := Kq.blk_cell p1 1
      refine bodyPost_ret (v := .tuple #[.agg #[.int .u64 (g : Int), .int .i64 (sg : Int)], .int .i64 at_]) (by simp [results, Try.results9, go_sem, z0, z1]) rfl ?_
      exact ⟨by rw [HQ.out], HNS.out.bel.trans (p2.below HNS.out.bel.size (fun k _ e => by subst e; exact Nat.le_refl _))⟩
end Go.Proofs.Ytejhlommjgibmaa
