/- Merged: HdNew, WlD, WrA. Contracts of head.Newest, carrackref06.Newest. No condition but that lengths are ints. Contract of a log's find. Condition: sizes. Contracts of carrackref07.Segment, base, put. Condition: sizes. -/
import Derived.WalkSpells
import Derived.Test.YtbpgfhcecanikaaGreatCommonQ
import Derived.Test.YtbpgfhcecanikaaGreatHdRGetQ
import Derived.Outline
import Derived.Deep.QuietTactic
import Derived.Deep.RegionHeld
import Derived.Test.YtbpgfhcecanikaaGreatWlBQ
import Derived.Test.YtbpgfhcecanikaaGreatWrNewQ
namespace Go.Proofs.YtbpgfhcecanikaaGreat
open Go.RowKit
set_option linter.unusedVariables false
theorem hd_get' (a : Int) (s : ByteArray) (w : World) (hs : s.size ≤ maxLen) :
    Calls Tryz.prog 79 #[.int .i64 a, .string s] w fun x w' => x = .returned (HdRes a.toNat s) ∧ Below w.heap.size w w' := hd_get a s w hs
theorem hdErr_ne (a : Nat) (s : ByteArray) : (hdErr a s == 0) = false := by
  unfold hdErr
  split
  · split
    · split <;> rfl
    · rfl
  · rfl
theorem res_bad {a : Nat} {s : ByteArray} (h : hdGoodB a s = false) : HdRes a s = .tuple #[.agg #[.int .u64 0, .int .i64 0], .int .i64 (hdErr a s)] := by
  unfold HdRes; simp only [h, Bool.false_eq_true, if_false]; rfl
/-- the newest of the first sectors: generation, segment, place -/
def nwStep (a : Nat) (st : Nat × Nat × Int) (s : ByteArray) (i : Nat) : Nat × Nat × Int :=
  if hdGoodB a s = true ∧ (st.2.2 < 0 ∨ st.1 < gOf s) then (gOf s, sOf s, (i : Int)) else st
def nw (a : Nat) (l : List ByteArray) : Nat → Nat × Nat × Int
  | 0 => (0, 0, -1)
  | i + 1 => nwStep a (nw a l i) (l.getD i ⟨#[]⟩) i
theorem nw_inv (a : Nat) (l : List ByteArray) : ∀ i, ((nw a l i).2.2 < 0 ∧ nw a l i = (0, 0, -1)) ∨ (0 ≤ (nw a l i).2.2 ∧ 0 < (nw a l i).1)
  | 0 => Or.inl ⟨by show (-1 : Int) < 0; decide, rfl⟩
  | i + 1 => by
    unfold nw nwStep
    split
    · rename_i h
      exact Or.inr ⟨Int.natCast_nonneg _, (good_of h.1).hg.1⟩
    · exact nw_inv a l i
theorem nw_succ (a : Nat) (l : List ByteArray) (i : Nat) (h : i < l.length) : nw a l (i + 1) = nwStep a (nw a l i) l[i] i := by
  rw [nw, List.getD_eq_getElem?_getD, List.getElem?_eq_getElem h]; rfl
/-- in the midst of Newest: the result's block, the best one's -/
structure NS (w wr : World) (R Bb : Nat) (g sg : Int) : Prop where
  r : wr.heap[R]? = some (.cells #[.int .u64 0, .int .i64 0] 84 (0, 0))
  b : wr.heap[Bb]? = some (.cells #[.int .u64 g, .int .i64 sg] 84 (0, 0))
  ne : R ≠ Bb
  hb : w.heap.size ≤ Bb
  hr : w.heap.size ≤ R
  bel : Below w.heap.size w wr
theorem NS.below {w wr w' : World} {R Bb : Nat} {g sg : Int} (h : NS w wr R Bb g sg) (hb : Below wr.heap.size wr w') : NS w w' R Bb g sg :=
  ⟨Kq.below_blk hb h.r (Kq.blk_lt h.r), Kq.below_blk hb h.b (Kq.blk_lt h.b), h.ne, h.hb, h.hr, h.bel.trans (hb.mono h.bel.size)⟩
theorem NS.fill {w wr : World} {R Bb : Nat} {g sg : Int} (h : NS w wr R Bb g sg) (g' sg' : Int) : NS w (fill2 wr Bb g' sg') R Bb g' sg' :=
  ⟨(fill2_keeps wr Bb g' sg').blk h.r h.ne, fill2_blk h.b g' sg', h.ne, h.hb, h.hr, h.bel.trans ((fill2_keeps wr Bb g' sg').below h.bel.size (fun k _ e => by subst e; exact h.hb))⟩
set_option maxRecDepth 100000 in
set_option maxHeartbeats 4000000 in
theorem hd_newest (a : Int) (A : Option Addr) (cap : Nat) (l : List ByteArray) (w : World) (hl : l.length ≤ 1000000) (hs : ∀ s ∈ l, s.size ≤ maxLen) (hc : StrsAt w A l) :
    Calls Tryz.prog 63 #[.int .i64 a, .slice A l.length cap] w fun x w' => x = .returned (.tuple #[.agg #[.int .u64 (((nw a.toNat l l.length).1 : Nat) : Int), .int .i64 (((nw a.toNat l l.length).2.1 : Nat) : Int)], .int .i64 (nw a.toNat l l.length).2.2]) ∧ Below w.heap.size w w' := by
  have HC := Lib.hid hc
  have HS := Lib.hid hs
  clear hc hs
  have HN0 : Hid (NS w ((w.alloc (.cells #[.int .u64 0, .int .i64 0] 84)).alloc (.cells #[.int .u64 0, .int .i64 0] 84)) w.heap.size (w.heap.size + 1) 0 0) := Lib.hid (by
    have h1 := Kq.blk_new (w.alloc (.cells #[.int .u64 0, .int .i64 0] 84)) #[.int .u64 0, .int .i64 0] 84 (0, 0)
    rw [World.size_alloc] at h1
    refine ⟨?_, h1, by omega, by omega, by omega, (Kq.below_alloc w _).trans ((Kq.below_alloc _ _).mono (Kq.below_alloc w _).size)⟩
    rw [Below.heap_alloc _ _ _ (by simp)]
    exact Kq.blk_new _ _ _ _)
  go_enter Tryz.func63, Tryz.ntmps63
  go_wp2
  go_loopw [7, 14] (fun pv i wr => ∃ j : Nat, j ≤ l.length ∧ i = .int .i64 (j : Int) ∧ pv = .int .i64 (nw a.toNat l j).2.2 ∧ NS w wr w.heap.size (w.heap.size + 1) (((nw a.toNat l j).1 : Nat) : Int) (((nw a.toNat l j).2.1 : Nat) : Int)) (fun _ i _ => l.length - (intOf i).toNat)
  case atStart => exact ⟨0, by omega, rfl, rfl, HN0.out⟩
  case round =>
    obtain ⟨j, hj, rfl, rfl, hns⟩ := hrel
    have HNS := Lib.hid hns
    clear hns
    have HINV := Lib.hid (nw_inv a.toNat l j)
    by_cases hlt : j < l.length
    · have HST := Lib.hid (nw_succ a.toNat l j hlt)
      have HSZ := Lib.hid (HS.out l[j] (List.getElem_mem _))
      obtain ⟨G, o, rfl, hG, hcell⟩ := HC.out.at_ j hlt
      have hst : wr.cell? ⟨G, o + j, none⟩ = some (.string l[j]) := (HNS.out.bel.cell (p := ⟨G, o + j, none⟩) hG).trans hcell
      clear hG hcell
      obtain ⟨s, hs⟩ : ∃ s, s = l[j] := ⟨_, rfl⟩
      rw [← hs] at hst HST HSZ
      clear hs
      have dj : decide ((0 : Int) ≤ (j : Int)) = true := decide_eq_true (by omega)
      obtain ⟨n, hn⟩ : ∃ n, n = nw a.toNat l j := ⟨_, rfl⟩
      rw [← hn] at HNS HINV HST ⊢
      clear hn
      obtain ⟨g, sg, at_⟩ := n
      simp only at HNS HINV HST ⊢
      go_wp2_with fail
      refine (hd_get' a s _ HSZ.out).mono ?_
      cases hb : hdGoodB a.toNat s with
      | false =>
        rw [res_bad hb]
        have he := hdErr_ne a.toNat s
        rintro x w5 ⟨rfl, b5⟩
        have H5 := Lib.hid ((HNS.out.below b5).below (Kq.below_alloc w5 (.cells #[.int .u64 0, .int .i64 0] 84)))
        have HX : Hid (nw a.toNat l (j + 1) = (g, sg, at_)) := Lib.hid (by rw [HST.out, nwStep, if_neg (fun h => by rw [hb] at h; cases h.1)])
        generalize hdErr a.toNat s = er at *
        clear b5 hb hst
        go_wp2
        go_roundw
        case rel => exact ⟨j + 1, by omega, by go_num, by rw [HX.out], by rw [HX.out]; exact H5.out⟩
        case measure => simp [intOf]; omega
      | true =>
        rw [res_good hb]
        rintro x w5 ⟨rfl, b5⟩
        have H5 := Lib.hid ((HNS.out.below b5).below (Kq.below_alloc w5 (.cells #[.int .u64 ((gOf s : Nat) : Int), .int .i64 ((sOf s : Nat) : Int)] 84)))
        have H5b := Lib.hid (HNS.out.below b5)
        have c0 : w5.cell? ⟨w.heap.size + 1, 0, none⟩ = some (.int .u64 ((g : Nat) : Int)) := Kq.blk_cell H5b.out.b 0
        have c1 : w5.cell? ⟨w.heap.size + 1, 1, none⟩ = some (.int .i64 ((sg : Nat) : Int)) := Kq.blk_cell H5b.out.b 1
        have f0 := Kq.blk_free H5b.out.b 0
        have f1 := Kq.blk_free H5b.out.b 1
        have hBlt : w.heap.size + 1 < w5.heap.size := Kq.blk_lt H5b.out.b
        have hne1 : ¬ w5.heap.size = w.heap.size + 1 := by omega
        have hne2 : ¬ w.heap.size + 1 = w5.heap.size := by omega
        clear b5 hst
        have HFL := Lib.hid ((H5b.out.fill ((gOf s : Nat) : Int) ((sOf s : Nat) : Int)).below (Kq.below_alloc _ (.cells #[.int .u64 ((gOf s : Nat) : Int), .int .i64 ((sOf s : Nat) : Int)] 84)))
        by_cases hat : at_ < 0
        · have h0 : g = 0 ∧ sg = 0 ∧ at_ = -1 := by
            rcases HINV.out with ⟨_, h⟩ | ⟨h, _⟩
            · simp only [Prod.mk.injEq] at h; exact h
            · omega
          obtain ⟨rfl, rfl, rfl⟩ := h0
          have HX : Hid (nw a.toNat l (j + 1) = (gOf s, sOf s, (j : Int))) := Lib.hid (by rw [HST.out, nwStep, if_pos ⟨hb, Or.inl (by decide)⟩])
          have c0 : w5.cell? ⟨w.heap.size + 1, 0, none⟩ = some (.int .u64 0) := c0
          have c1 : w5.cell? ⟨w.heap.size + 1, 1, none⟩ = some (.int .i64 0) := c1
          clear hb hat
          go_wp2
          go_roundw
          case rel => exact ⟨j + 1, by omega, by go_num, by rw [HX.out], by rw [HX.out]; exact HFL.out⟩
          case measure => simp [intOf]; omega
        · have hg : 0 < g := by
            rcases HINV.out with ⟨h, _⟩ | ⟨_, h⟩
            · omega
            · exact h
          have g0 : ((g : Int) == 0) = false := by simp; omega
          have g1 : (g == 0) = false := by simp; omega
          have a0 : decide (at_ < 0) = false := decide_eq_false hat
          by_cases hgt : g < gOf s
          · have t0 : decide (g < gOf s) = true := decide_eq_true hgt
            have t1 : decide ((g : Int) < ((gOf s : Nat) : Int)) = true := decide_eq_true (by omega)
            have HX : Hid (nw a.toNat l (j + 1) = (gOf s, sOf s, (j : Int))) := Lib.hid (by rw [HST.out, nwStep, if_pos ⟨hb, Or.inr hgt⟩])
            clear hb hat hg hgt
            go_wp2
            go_roundw
            case rel => exact ⟨j + 1, by omega, by go_num, by rw [HX.out], by rw [HX.out]; exact HFL.out⟩
            case measure => simp [intOf]; omega
          · have t0 : decide (g < gOf s) = false := decide_eq_false hgt
            have t1 : decide ((g : Int) < ((gOf s : Nat) : Int)) = false := decide_eq_false (by omega)
            have HX : Hid (nw a.toNat l (j + 1) = (g, sg, at_)) := Lib.hid (by rw [HST.out, nwStep, if_neg (fun h => h.2.elim hat hgt)])
            clear hb hat hg hgt
            go_wp2
            go_roundw
            case rel => exact ⟨j + 1, by omega, by go_num, by rw [HX.out], by rw [HX.out]; exact H5.out⟩
            case measure => simp [intOf]; omega
    · have hk' : j = l.length := Nat.le_antisymm hj (Nat.not_lt.1 hlt)
      subst hk'
      obtain ⟨g, sg, at_, hn⟩ : ∃ g sg at_, nw a.toNat l l.length = (g, sg, at_) := ⟨_, _, _, rfl⟩
      have HQ := Lib.hid hn
      rw [hn] at HNS ⊢
      clear hn HINV
      simp only at HNS ⊢
      have c0 := Kq.blk_cell HNS.out.b 0
      have c1 := Kq.blk_cell HNS.out.b 1
      have r0 := Kq.blk_cell HNS.out.r 0
      have r1 := Kq.blk_cell HNS.out.r 1
      have q0 := Kq.blk_free HNS.out.r 0
      have q1 := Kq.blk_free HNS.out.r 1
      go_wp2
      change bodyPost _ _ _ _ _ (fill2 wr w.heap.size (g : Int) (sg : Int))
      have p1 := fill2_blk HNS.out.r (g : Int) (sg : Int)
      have p2 := fill2_keeps wr w.heap.size (g : Int) (sg : Int)
      generalize fill2 wr w.heap.size (g : Int) (sg : Int) = z at *
      have z0 := Kq.blk_cell p1 0
      have z1 := Kq.blk_cell p1 1
      refine bodyPost_ret (v := .tuple #[.agg #[.int .u64 (g : Int), .int .i64 (sg : Int)], .int .i64 at_]) (by simp [results, Tryz.results63, go_sem, z0, z1]) rfl ?_
      exact ⟨by rw [HQ.out], HNS.out.bel.trans (p2.below HNS.out.bel.size (fun k _ e => by subst e; exact Nat.le_refl _))⟩
end Go.Proofs.YtbpgfhcecanikaaGreat
namespace Go.Proofs.YtbpgfhcecanikaaGreat
open Go.RowKit
set_option linter.unusedVariables false
/-- what the first two sectors tell of heads -/
def nwF (a b : Nat) (ws : List (Int × ByteArray)) (st : List Nat) : Nat × Nat × Int := nw a [txt (textF a b ws st 0 1), txt (textF a b ws st 1 1)] 2
/-- what find makes of a disk; its code -/
def fdF (a b : Nat) (ws : List (Int × ByteArray)) (ar : Nat) (st : List Nat) : List (Int × ByteArray) × Nat × List Nat × Int := if (nwF a b ws st).2.2 < 0 then phF a b 1 0 1 ws ar st else (ws, ar, st, 0)
/-- what find makes of a log -/
def fdV (a b : Nat) (ws : List (Int × ByteArray)) (ar : Nat) (st : List Nat) (v : WalV) : WalV := if (nwF a b ws st).2.2 < 0 then headV v 1 0 1 (phF a b 1 0 1 ws ar st).2.2.2 else { v with g := (nwF a b ws st).1, sg := (nwF a b ws st).2.1, slot := (nwF a b ws st).2.2.toNat }
theorem made_two (w : World) (s t : ByteArray) : StrsAt (w.alloc (.cells #[.string s, .string t] 9)) (some ⟨w.heap.size, 0, none⟩) [s, t] := ⟨fun j hj => by
  have h2 : j < 2 := by simpa using hj
  have hj0 : j = 0 ∨ j = 1 := by omega
  rcases hj0 with rfl | rfl
  · exact ⟨_, 0, rfl, by simp, by simp⟩
  · exact ⟨_, 0, rfl, by simp, by simp⟩⟩
set_option maxRecDepth 100000 in
set_option maxHeartbeats 2000000 in
theorem wl_find {w : World} {base B S a b R N : Nat} {buf : Value} {ws : List (Int × ByteArray)} {ar : Nat} {st : List Nat} {v : WalV} (h : WlS w base B S a b R buf ws ar st v) (ho : StOk a b N ws ar st) (hN : N + 220 ≤ 1000000) (hn : a * b ≤ 3000000) (ha : 64 ≤ a) (ha2 : a ≤ 512) (hb : 4 ≤ b) (hb2 : b ≤ 5000) :
    Calls Tryz.prog 42 #[.pointer (some ⟨R, 0, none⟩)] w fun x w' => x = .returned (.int .i64 (fdF a b ws ar st).2.2.2) ∧ WoP w base B S a b R buf (fdF a b ws ar st).1 (fdF a b ws ar st).2.1 (fdF a b ws ar st).2.2.1 (fdV a b ws ar st v) w' := by
  have HH := Lib.hid (And.intro h (And.intro ho (And.intro hN (And.intro hn (And.intro ha ha2)))))
  have HT := Lib.hid (fun (wx : World) (hx : WlS wx base B S a b R buf ws ar st v) (k : Nat) (hk : k ≤ 1) => wl_text (N := N) hx ho (by omega) hn (by omega) ha2 k 1 (by omega) (by omega))
  have c0 := h.c0
  have d0 := h.d.d.c0
  have d1 := h.d.d.c1
  have HTS : Hid (∀ k, (txt (textF a b ws st k 1)).size ≤ maxLen) := Lib.hid (fun k => by
    have h1 := textF_length ho k 1
    rw [← nl_length, nl_txt _ (textF_lt k 1)]
    unfold maxLen; omega)
  have HNW : Hid (nwF a b ws st = nw a [txt (textF a b ws st 0 1), txt (textF a b ws st 1 1)] 2) := Lib.hid rfl
  have HFF : Hid ((nwF a b ws st).2.2 < 0 → fdF a b ws ar st = phF a b 1 0 1 ws ar st ∧ fdV a b ws ar st v = headV v 1 0 1 (phF a b 1 0 1 ws ar st).2.2.2) := Lib.hid (fun h => ⟨if_pos h, if_pos h⟩)
  have HFG : Hid (¬ (nwF a b ws st).2.2 < 0 → fdF a b ws ar st = (ws, ar, st, 0) ∧ fdV a b ws ar st v = { v with g := (nwF a b ws st).1, sg := (nwF a b ws st).2.1, slot := (nwF a b ws st).2.2.toNat }) := Lib.hid (fun h => ⟨if_neg h, if_neg h⟩)
  clear h ho hN hn ha ha2 hb hb2
  go_enter Tryz.func42, Tryz.ntmps42
  go_wp2_with fail
  refine (dk_size (a : Int) (b : Int) w).mono ?_
  rintro x w1 ⟨rfl, hb1⟩
  have H1 := Lib.hid (And.intro (HH.out.1.below hb1) hb1)
  clear hb1 c0 d0 d1
  go_wp2_with fail
  refine (HT.out w1 H1.out.1 0 (by decide)).mono ?_
  rintro x w2 ⟨rfl, hb2⟩
  have H2 := Lib.hid (And.intro (H1.out.1.below hb2) (H1.out.2.trans (hb2.mono H1.out.2.size)))
  clear hb2 H1
  go_wp2_with fail
  refine (HT.out w2 H2.out.1 1 (by decide)).mono ?_
  rintro x w3 ⟨rfl, hb3⟩
  have H3 := Lib.hid (And.intro (H2.out.1.below hb3) (H2.out.2.trans (hb3.mono H2.out.2.size)))
  clear hb3 H2 HT
  have HS0 := Lib.hid (HTS.out 0)
  have HS1 := Lib.hid (HTS.out 1)
  clear HTS
  generalize txt (textF a b ws st 0 1) = T0 at *
  generalize txt (textF a b ws st 1 1) = T1 at *
  go_wp2_with fail
  have hb4 := Kq.below_alloc w3 (.cells #[.string T0, .string T1] 9)
  have H4 := Lib.hid (And.intro (H3.out.1.below hb4) (H3.out.2.trans (hb4.mono H3.out.2.size)))
  have HST := Lib.hid (made_two w3 T0 T1)
  clear hb4 H3
  refine (hd_newest (a : Int) (some ⟨w3.heap.size, 0, none⟩) 2 [T0, T1] _ (by simp) (fun s hs => by
    simp only [List.mem_cons, List.not_mem_nil, or_false] at hs
    rcases hs with rfl | rfl
    · exact HS0.out
    · exact HS1.out) HST.out).mono ?_
  rintro x w5 ⟨rfl, hb5⟩
  have H5 := Lib.hid (And.intro (H4.out.1.below hb5) (H4.out.2.trans (hb5.mono H4.out.2.size)))
  clear hb5 H4 HST HS0 HS1
  have hnn : nw (Int.toNat (a : Int)) [T0, T1] [T0, T1].length = nwF a b ws st := by rw [HNW.out]; rfl
  rw [hnn]
  clear hnn HNW
  obtain ⟨y, hy⟩ : ∃ y, y = nwF a b ws st := ⟨_, rfl⟩
  have HY := Lib.hid hy
  rw [← hy] at HFF HFG ⊢
  have HINV : Hid ((y.2.2 < 0 ∧ y = (0, 0, -1)) ∨ (0 ≤ y.2.2 ∧ 0 < y.1)) := Lib.hid (by rw [hy]; exact nw_inv a _ 2)
  clear hy
  obtain ⟨ng, ns, nk⟩ := y
  simp only at HFF HFG ⊢
  have hb6 := Kq.below_alloc w5 (.cells #[.int .u64 (ng : Int), .int .i64 (ns : Int)] 84)
  have H6 := Lib.hid (And.intro (H5.out.1.below hb6) (H5.out.2.trans (hb6.mono H5.out.2.size)))
  by_cases hlt : nk < 0
  · have hd : decide (nk < 0) = true := decide_eq_true hlt
    have HF := Lib.hid (HFF.out hlt)
    clear hlt hb6 HFF HFG
    go_wp2_with fail
    refine (wl_putHead (N := N) H6.out.1 HH.out.2.1 (by have := HH.out.2.2.1; omega) HH.out.2.2.2.1 HH.out.2.2.2.2.1 HH.out.2.2.2.2.2 1 0 1 (by decide) (by decide) (by decide) (by decide)).mono ?_
    rintro x w7 ⟨rfl, hwo⟩
    have HP := Lib.hid (WoP.from H6.out.2 hwo)
    clear hwo
    obtain ⟨c, hc⟩ : ∃ c, c = (phF a b 1 0 1 ws ar st).2.2.2 := ⟨_, rfl⟩
    rw [← hc]
    have HC := Lib.hid hc
    clear hc
    go_wp2
    go_ret
    exact ⟨by rw [HF.out.1, ← HC.out]; rfl, by rw [HF.out.1, HF.out.2]; exact HP.out⟩
  · have hd : decide (nk < 0) = false := decide_eq_false hlt
    have HF := Lib.hid (HFG.out (by omega))
    obtain ⟨k, rfl⟩ := Int.eq_ofNat_of_zero_le (show 0 ≤ nk by omega)
    have W5 := H5.out.1
    have W6 := H6.out.1
    have f1 := W5.fz 1
    have f2 := W5.fz 2
    have f3 := W5.fz 3
    have g1 := W6.fz 1
    have g2 := W6.fz 2
    have g3 := W6.fz 3
    have k1 := W5.c1
    have k2 := W5.c2
    have k3 := W5.c3
    have j1 := W6.c1
    have j2 := W6.c2
    have j3 := W6.c3
    have hRl := W5.lt
    have hne : R ≠ w5.heap.size := by omega
    obtain ⟨w7, hw7⟩ : ∃ z, z = ((w5.setCell ⟨R, 1, none⟩ (.int .u64 (ng : Int))).setCell ⟨R, 2, none⟩ (.int .i64 (ns : Int))).setCell ⟨R, 3, none⟩ (.int .i64 (k : Int)) := ⟨_, rfl⟩
    have hk7 : Kq.Keeps (· = R) w5 w7 := by
      rw [hw7]
      exact ((Kq.Keeps.setCell (S := (· = R)) _ ⟨R, 1, none⟩ _ rfl).trans (Kq.Keeps.setCell (S := (· = R)) _ ⟨R, 2, none⟩ _ rfl)).trans (Kq.Keeps.setCell (S := (· = R)) _ ⟨R, 3, none⟩ _ rfl)
    have hb7 : w7.heap[R]? = some (.cells (({ v with g := ng, sg := ns, slot := k } : WalV).cells B) 86 (0, 0)) := by
      rw [hw7]
      exact Kq.blk_set (Kq.blk_set (Kq.blk_set W5.blk 1 _) 2 _) 3 _
    have HP : Hid (∀ o, WoP w base B S a b R buf ws ar st { v with g := ng, sg := ns, slot := k } (w7.alloc o)) := Lib.hid (fun o =>
      (WoP.from H5.out.2 (⟨buf, W5.set hk7 hb7, hk7.mono (fun _ _ e => Or.inr e), fun j hj => Or.inl hj⟩ : WoP w5 base B S a b R buf ws ar st { v with g := ng, sg := ns, slot := k } w7)).below (Kq.below_alloc w7 o))
    have HW := Lib.hid hw7
    clear hlt hb6 HFF HFG W5 W6 hk7 hb7 hw7
    go_wp2
    rw [← HW.out]
    go_ret
    exact ⟨by rw [HF.out.1]; rfl, by rw [HF.out.1, HF.out.2]; exact HP.out _⟩
end Go.Proofs.YtbpgfhcecanikaaGreat
namespace Go.Proofs.YtbpgfhcecanikaaGreat
open Go.RowKit
set_option linter.unusedVariables false
set_option maxRecDepth 100000 in
set_option maxHeartbeats 1000000 in
theorem rv_segment {w : World} {base R a b : Nat} {buf : Value} {ws : List (Int × ByteArray)} {ar : Int} {st : List Nat} (h : RfS w base R a b buf ws ar st) (hb : 4 ≤ b) (hb2 : b ≤ 1000000) :
    Calls Tryz.prog 18 #[.pointer (some ⟨R, 0, none⟩)] w fun x w' => x = .returned (.int .i64 (segN b : Nat)) ∧ w = w' := by
  have d1 := h.c1
  obtain ⟨m, hm⟩ : ∃ m, m = b - 2 := ⟨_, rfl⟩
  have hw : IntKind.i64.wrap ((b : Int) - 2) = (m : Int) := by rw [IntWalk.i64_in _ (by omega)]; omega
  obtain ⟨s, hs⟩ : ∃ s, s = segN b := ⟨_, rfl⟩
  have hs2 : s = m / 2 := by rw [hs, hm]; rfl
  have hd : Int.tdiv (m : Int) 2 = (s : Int) := by rw [hs2, Int.tdiv_eq_ediv_of_nonneg (by omega)]; omega
  have hw2 : IntKind.i64.wrap (s : Int) = (s : Int) := IntWalk.i64_in _ (by omega)
  rw [← hs]
  have HX := Lib.hid (And.intro hm hs2)
  clear hm hs hs2 h
  go_enter Tryz.func18, Tryz.ntmps18
  go_wp2
  go_ret
  first | exact ⟨rfl, rfl⟩ | exact ⟨by simp, rfl⟩
set_option maxRecDepth 100000 in
set_option maxHeartbeats 1000000 in
theorem rv_base {w : World} {base R a b : Nat} {buf : Value} {ws : List (Int × ByteArray)} {ar : Int} {st : List Nat} (h : RfS w base R a b buf ws ar st) (hb : 4 ≤ b) (hb2 : b ≤ 1000000) (g : Int) (sg : Nat) (hsg : sg ≤ 1) :
    Calls Tryz.prog 58 #[.pointer (some ⟨R, 0, none⟩), .agg #[.int .u64 g, .int .i64 (sg : Int)]] w fun x w' => x = .returned (.int .i64 ((2 + sg * segN b : Nat) : Int)) ∧ Below w.heap.size w w' := by
  have hb1 := Kq.below_alloc w (.cells #[.int .u64 g, .int .i64 (sg : Int)] 48)
  have H1 := Lib.hid (h.below hb1)
  have HB := Lib.hid hb1
  have HBB := Lib.hid (And.intro hb hb2)
  have hsl : segN b ≤ 1000000 := by unfold segN; omega
  clear hb1 h hb hb2
  have h01 : sg = 0 ∨ sg = 1 := by omega
  rcases h01 with rfl | rfl
  · go_enter Tryz.func58, Tryz.ntmps58
    go_wp2
    go_ret
    exact ⟨by simp, HB.out⟩
  · obtain ⟨s, hs⟩ : ∃ s, s = segN b := ⟨_, rfl⟩
    have HS := Lib.hid hs
    rw [← hs] at hsl
    obtain ⟨r, hr⟩ : ∃ r, r = 2 + s := ⟨_, rfl⟩
    have hw : IntKind.i64.wrap (2 + (s : Int)) = (r : Int) := by rw [IntWalk.i64_in _ (by omega)]; omega
    have HR : Hid ((2 + 1 * segN b : Nat) = r) := Lib.hid (by rw [hr, hs]; omega)
    clear hs hr
    go_enter Tryz.func58, Tryz.ntmps58
    go_wp2_with fail
    refine (rv_segment H1.out HBB.out.1 HBB.out.2).mono ?_
    rintro x w2 ⟨rfl, rfl⟩
    rw [← HS.out]
    go_wp2
    go_ret
    exact ⟨by rw [HR.out]; rfl, HB.out⟩
theorem RoP.comp {w w1 w' : World} {base R a b : Nat} {buf buf1 : Value} {ws : List (Int × ByteArray)} {ar : Nat} {st : List Nat} (h2 : Kq.Keeps (· = R) w w1) (h3 : ∀ j, buf1.ownBlock = some j → buf.ownBlock = some j ∨ w.heap.size ≤ j) (k : RoP w1 base R a b buf1 ws ar st w') : RoP w base R a b buf ws ar st w' := by
  obtain ⟨buf2, k1, k2, k3⟩ := k
  exact ⟨buf2, k1, h2.trans k2, fun j hj => by
    rcases k3 j hj with e | e
    · exact h3 j e
    · exact Or.inr (Nat.le_trans h2.size e)⟩
set_option maxRecDepth 100000 in
set_option maxHeartbeats 2000000 in
theorem rv_put {w : World} {base R a b N : Nat} {buf : Value} {ws : List (Int × ByteArray)} {ar : Nat} {st : List Nat} (h : RfS w base R a b buf ws (ar : Int) st) (ho : StOk a b N ws ar st) (A : Option Addr) (cap : Nat) (l : List ByteArray) (hN : N + l.length + 10 ≤ 1000000) (hn : a * b ≤ 3000000) (k : Nat) (hk : k ≤ 10000) (hA : StrsAt w A l) (hAo : ∀ g o, 0 < l.length → A = some ⟨g, o, none⟩ → ¬ g = R) (hl : l.length ≤ 10000) :
    Calls Tryz.prog 57 #[.pointer (some ⟨R, 0, none⟩), .int .i64 (k : Int), .slice A l.length cap] w fun x w' => x = .returned (.int .i64 (layF a b k l ws ar st).2.2.2) ∧ RoP w base R a b buf (layF a b k l ws ar st).1 (layF a b k l ws ar st).2.1 (layF a b k l ws ar st).2.2.1 w' := by
  have H := Lib.hid (And.intro h (And.intro ho (And.intro hA hAo)))
  have HN := Lib.hid (And.intro hN hn)
  clear h ho hA hAo hN hn
  go_enter Tryz.func57, Tryz.ntmps57
  go_wp2
  go_loopw [7] (fun i wr => ∃ j : Nat, ∃ wsj : List (Int × ByteArray), ∃ arj : Nat, j ≤ l.length ∧ i = .int .i64 (j : Int) ∧ layF a b k l ws ar st = layF a b (k + j) (l.drop j) wsj arj st ∧ RoP w base R a b buf wsj arj st wr ∧ StOk a b (N + j) wsj arj st) (fun i _ => l.length - (intOf i).toNat)
  case atStart => exact ⟨0, ws, ar, Nat.zero_le _, rfl, rfl, ⟨buf, H.out.1, Kq.Keeps.refl _ _, fun j hj => Or.inl hj⟩, H.out.2.1⟩
  case round =>
    obtain ⟨j, wsj, arj, hj, rfl, heq, hwo, hso⟩ := hrel
    obtain ⟨buf1, W1, K1, F1⟩ := hwo
    by_cases hlt : j < l.length
    · have hi0 : (j : Int) < (l.length : Int) := by omega
      have hAt := H.out.2.2.1.keepsW K1 H.out.2.2.2
      obtain ⟨g, o, rfl, -, cs⟩ := hAt.at_ j hlt
      obtain ⟨s, hs⟩ : ∃ s, s = l[j] := ⟨_, rfl⟩
      rw [← hs] at cs
      obtain ⟨x, hx⟩ : ∃ x, x = k + j := ⟨_, rfl⟩
      have hw1 : IntKind.i64.wrap ((k : Int) + (j : Int)) = (x : Int) := by rw [IntWalk.i64_in _ (by omega)]; omega
      have HLT := Lib.hid hlt
      have heqx : layF a b k l ws ar st = layF a b x (l.drop j) wsj arj st := by rw [hx]; exact heq
      have HW := Lib.hid (And.intro W1 (And.intro K1 (And.intro F1 (And.intro hso (And.intro heqx (And.intro hs hx))))))
      clear W1 K1 F1 hso heq heqx hAt hs hx
      go_wp2_with fail
      refine (rf_write_all base R a b buf1 wsj arj st (x : Int) s wr HW.out.1 (by have := HW.out.2.2.2.1.nw; have := HN.out.1; omega) HW.out.2.2.2.1.ar).mono ?_
      rintro y w2 ⟨rfl, hd⟩
      have HD := Lib.hid hd
      have HST := Lib.hid (fun (hc : (wrF a b ((k + j : Nat) : Int) (l[j]'HLT.out) wsj arj).2.2 = 0) => layF_step (a := a) (b := b) (k := k) HLT.out (st := st) hc)
      have HSP := Lib.hid (fun (hc : (wrF a b ((k + j : Nat) : Int) (l[j]'HLT.out) wsj arj).2.2 ≠ 0) => layF_stop (a := a) (b := b) (k := k) HLT.out (st := st) hc)
      have HOK := Lib.hid (wrF_ok HW.out.2.2.2.1 (x : Int) s)
      rw [← HW.out.2.2.2.2.2.1, ← HW.out.2.2.2.2.2.2] at HST HSP
      clear hd cs hw1
      generalize wrF a b (x : Int) s wsj arj = y at *
      obtain ⟨ws2, ar2, c⟩ := y
      simp only at HD HST HSP HOK
      by_cases hc0 : c = 0
      · subst hc0
        have HE := Lib.hid (HST.out rfl)
        clear HST HSP
        go_wp2
        go_roundw
        case rel => exact ⟨j + 1, ws2, ar2, HLT.out, by go_num, HW.out.2.2.2.2.1.trans (by rw [HE.out]), RoP.comp HW.out.2.1 HW.out.2.2.1 HD.out, HOK.out⟩
        case measure => have := HLT.out; simp [intOf]; omega
      · have HE := Lib.hid (HSP.out hc0)
        have hcb : (c == 0) = false := beq_eq_false_iff_ne.2 hc0
        have hcn : (c != 0) = true := by rw [bne_iff_ne]; exact hc0
        clear HST HSP
        go_wp2
        go_ret
        exact ⟨by rw [HW.out.2.2.2.2.1, HE.out]; rfl, by rw [HW.out.2.2.2.2.1, HE.out]; exact RoP.comp HW.out.2.1 HW.out.2.2.1 HD.out⟩
    · obtain rfl : j = l.length := by omega
      rw [List.drop_length] at heq
      have HW := Lib.hid (And.intro W1 (And.intro K1 (And.intro F1 (And.intro hso heq))))
      clear W1 K1 F1 hso heq hlt
      go_wp2_with fail
      refine (rf_flush_all base R a b buf1 wsj arj st wr HW.out.1 (HW.out.2.2.2.1.up (by have := HN.out.1; omega)) HN.out.2).mono ?_
      rintro y w2 ⟨rfl, hd⟩
      have HD := Lib.hid hd
      have HE : Hid (layF a b k l ws ar st = flF a wsj arj st) := Lib.hid HW.out.2.2.2.2
      clear hd
      have hfl : (if arj = 1 then (wsj, 0, st, (13 : Int)) else ([], arj - 1, flushB a wsj st, 0)) = flF a wsj arj st := rfl
      rw [hfl] at HD ⊢
      rw [← HE.out] at HD ⊢
      have HD2 : Hid (RoP w base R a b buf (layF a b k l ws ar st).1 (layF a b k l ws ar st).2.1 (layF a b k l ws ar st).2.2.1 w2) := Lib.hid (RoP.comp HW.out.2.1 HW.out.2.2.1 HD.out)
      obtain ⟨c, hc⟩ : ∃ c, c = (layF a b k l ws ar st).2.2.2 := ⟨_, rfl⟩
      rw [← hc]
      have HC := Lib.hid hc
      clear hfl hc HD
      go_wp2
      go_ret
      exact ⟨by rw [← HC.out]; rfl, HD2.out⟩
end Go.Proofs.YtbpgfhcecanikaaGreat
