/- Merged: MkChange, MkEq, MkChTail, MkMid. carracklaw08.MerkleChanges: the mathematics, and the early ways out. Condition: the constants lie where they lie. Contract of carracklaw08.pairs: are two lists of pairs one. No condition. carracklaw08.MerkleChanges: what its tail asks, of any two lists. Condition: the constants lie where they lie. carracklaw08.MerkleChanges: what its third arm makes, step by step. No condition. -/
import Derived.WalkSpells
import Derived.Outline
import Derived.Deep.QuietTactic
import Derived.Test.YtnbapiddbcaolaaDoorMkC
import Derived.Test.YtnbapiddbcaolaaDoorMkOpen
import Derived.Test.YtnbapiddbcaolaaDoorMkCut
import Derived.Deep.LoopGhost
import Derived.BigQuiet
import Derived.Test.YtnbapiddbcaolaaDoorCommon
import Derived.Test.YtnbapiddbcaolaaDoorMkA
import Derived.Test.YtnbapiddbcaolaaDoorMkSub
namespace Go.Proofs.YtnbapiddbcaolaaDoor
open Go.RowKit
set_option linter.unusedVariables false
namespace merkleChanges
/-- the law's list in memory, and the constants -/
structure LO (W w : World) (A : Option Addr) (l : List PairV) : Prop where
  a : PsLo W W.heap.size A l
  laid : LaidOk W
  bel : Below W.heap.size W w
variable {W w w' : World} {A : Option Addr} {l : List PairV}
theorem LO.below (h : LO W w A l) (hb : Below w.heap.size w w') : LO W w' A l := ⟨h.a, h.laid, h.bel.trans (hb.mono h.bel.size)⟩
theorem LO.belowW (h : LO W w A l) (hb : Below W.heap.size w w') : LO W w' A l := ⟨h.a, h.laid, h.bel.trans hb⟩
theorem LO.pl (h : LO W w A l) : PsLo w W.heap.size A l := h.a.below h.bel
theorem LO.pa (h : LO W w A l) : PsAt w A l := h.pl.at
theorem LO.ok (h : LO W w A l) : LaidOk w := h.laid.later h.bel
def rootT (l : List PairV) : ByteArray := dgT (topT l.length (digL l))
theorem root_apart (l m : List PairV) (hl : Small l) (hm : Small m) (h1 : l.length ≤ 1000) (h2 : m.length ≤ 1000) (hr : rootT l = rootT m) (hne : l ≠ m) : Clash (askR m ++ (askR l ++ [])) := by
  unfold rootT at hr
  rcases apart_or (topT l.length (digL l)) (topT m.length (digL m)) (askR m ++ (askR l ++ [])) (by simp [askR]) (by simp [askR]) hr with e | e
  · obtain ⟨e1, e2⟩ := topT_inj e (by unfold M64; omega) (by unfold M64; omega)
    rcases apart l.length l m (Nat.le_refl _) e1 hl hm e2 with g | g
    · exact absurd g hne
    · exact g.mono (fun t ht => by
        rcases List.mem_append.1 ht with h | h <;> simp [askR, h])
  · exact e
theorem small_of {l : List PairV} (hc : chkE l = 0) : Small l := fun p hp => by have := chk_small hc p hp; omega
theorem askR_len (l : List PairV) : (askR l).length ≤ 2 * l.length + 1 := by
  unfold askR
  by_cases h : 1 ≤ l.length
  · have := askL_len _ l (Nat.le_refl _) h
    rw [List.length_cons]; omega
  · obtain rfl : l = [] := List.eq_nil_of_length_eq_zero (by omega)
    simp [askL, askF]
/-- the guards say no -/
structure Gd (l : List PairV) (a : Int) (s : ByteArray) : Prop where
  few : FewP l
  chk : chkE l = 0
  lo : 0 ≤ a
  hi : a < (l.length : Int)
  val : s.size ≤ 64
set_option maxRecDepth 100000 in
set_option maxHeartbeats 4000000 in
theorem early (A : Option Addr) (ca : Nat) (l : List PairV) (a : Int) (s : ByteArray) (h : Int) (W : World) (hO : LO W W A l) (hno : ¬ Gd l a s) :
    Calls Tryd.prog 8 #[.slice A l.length ca, .int .i64 a, .string s, .int .u8 h] W fun x w' => x = .returned (.bool true) ∧ Below W.heap.size W w' := by
  have H := Lib.hid hO
  have HNO := Lib.hid hno
  clear hO hno
  go_enter Tryd.func8, Tryd.ntmps8
  go_wp2_with fail
  refine (awake08 W H.out.ok).mono ?_
  rintro x w1 ⟨rfl, b1⟩
  have H1 := Lib.hid (H.out.below b1)
  clear b1 H
  go_wp2_with fail
  refine (few08 l A ca w1 H1.out.pa).mono ?_
  rintro x w2 ⟨rfl, rfl⟩
  by_cases f1 : FewP l
  · rw [decide_eq_true f1]
    have HF := Lib.hid f1
    clear f1
    go_wp2_with fail
    refine (rk_check l A ca w1 H1.out.pa HF.out.1).mono ?_
    rintro x w3 ⟨rfl, b3⟩
    have H3 := Lib.hid (H1.out.below b3)
    clear b3 H1
    by_cases c1 : chkE l = 0
    · rw [c1]
      have HC := Lib.hid c1
      clear c1
      by_cases h0 : a < 0
      · have d0 : decide (a < 0) = true := decide_eq_true h0
        clear h0
        go_wp2
        go_ret
        exact ⟨rfl, H3.out.bel⟩
      have d0 : decide (a < 0) = false := decide_eq_false h0
      by_cases h1 : (l.length : Int) ≤ a
      · have d1 : decide ((l.length : Int) ≤ a) = true := decide_eq_true h1
        clear h0 h1
        go_wp2
        go_ret
        exact ⟨rfl, H3.out.bel⟩
      have d1 : decide ((l.length : Int) ≤ a) = false := decide_eq_false h1
      have h2 : 64 < s.size := Nat.lt_of_not_le fun hv => HNO.out ⟨HF.out, HC.out, by omega, by omega, hv⟩
      have d2 : decide ((64 : Int) < (s.size : Int)) = true := decide_eq_true (by omega)
      have d2' : decide (64 < s.size) = true := decide_eq_true h2
      clear h0 h1 h2
      go_wp2
      go_ret
      exact ⟨rfl, H3.out.bel⟩
    · have c1' : (chkE l != 0) = true := by rw [bne_iff_ne]; exact c1
      generalize chkE l = cl at *
      clear c1
      go_wp2
      go_ret
      exact ⟨rfl, H3.out.bel⟩
  · rw [decide_eq_false f1]
    clear f1
    go_wp2
    go_ret
    exact ⟨rfl, H1.out.bel⟩
end merkleChanges
end Go.Proofs.YtnbapiddbcaolaaDoor
namespace Go.Proofs.YtnbapiddbcaolaaDoor
open Go.RowKit
set_option linter.unusedVariables false
set_option linter.unusedSimpArgs false
theorem texts_ne {x y : ByteArray} (h : x ≠ y) : (x.toList == y.toList) = false := by
  rw [beq_eq_false_iff_ne]
  intro e
  rw [Lib.toList_data, Lib.toList_data] at e
  exact h (ByteArray.ext (Array.toList_inj.1 e))
set_option maxRecDepth 100000 in
set_option maxHeartbeats 2000000 in
theorem lw_pairs (A B : Option Addr) (ca cb : Nat) (l m : List PairV) (w : World) (hl : l.length ≤ 100000) (hm : m.length ≤ 100000) (hA : PsAt w A l) (hB : PsAt w B m) :
    Calls Tryd.prog 25 #[.slice A l.length ca, .slice B m.length cb] w fun e w' => e = .returned (.bool (decide (l = m))) ∧ Below w.heap.size w w' := by
  by_cases hlm : l.length = m.length
  · have d0 : ((l.length : Int) != (m.length : Int)) = false := by simp [hlm]
    have d0' : (l.length != m.length) = false := by simp [hlm]
    have HLM := Lib.hid hlm
    have HAB := Lib.hid (And.intro hA hB)
    clear hlm hA hB
    go_enter Tryd.func25, Tryd.ntmps25
    go_wp2
    clear d0 d0'
    go_loopw [5] (fun i wr => ∃ j : Nat, j ≤ l.length ∧ i = .int .i64 (j : Int) ∧ l.take j = m.take j ∧ Below w.heap.size w wr) (fun i _ => l.length - (intOf i).toNat)
    case atStart => exact ⟨0, Nat.zero_le _, rfl, rfl, Below.refl _ _⟩
    case round =>
      obtain ⟨j, hj, rfl, htk, hb⟩ := hrel
      have HB := Lib.hid hb
      have HT := Lib.hid htk
      clear hb htk
      by_cases hlt : j < l.length
      · have hltm : j < m.length := by rw [← HLM.out]; exact hlt
        obtain ⟨g1, o1, rfl, h1, c1, c1'⟩ := HAB.out.1 j hlt
        obtain ⟨g2, o2, rfl, h2, c2, c2'⟩ := HAB.out.2 j hltm
        have k1 := (HB.out.cell (p := ⟨g1, o1 + j * 2, none⟩) h1).trans c1
        have k2 := (HB.out.cell (p := ⟨g2, o2 + j * 2, none⟩) h2).trans c2
        have k3 := (HB.out.cell (p := ⟨g1, o1 + j * 2 + 1, none⟩) h1).trans c1'
        have k4 := (HB.out.cell (p := ⟨g2, o2 + j * 2 + 1, none⟩) h2).trans c2'
        have HS : Hid (l.take (j + 1) = m.take (j + 1) ↔ l[j] = m[j]) := Lib.hid (by
          rw [List.take_succ_eq_append_getElem hlt, List.take_succ_eq_append_getElem hltm, HT.out]
          constructor
          · intro h
            have := List.append_cancel_left h
            simpa using this
          · intro h; rw [h])
        have HNE : Hid (l = m → l[j] = m[j]) := Lib.hid (fun h => by subst h; rfl)
        obtain ⟨x, hx⟩ : ∃ x, x = l[j] := ⟨_, rfl⟩
        obtain ⟨y, hy⟩ : ∃ y, y = m[j] := ⟨_, rfl⟩
        rw [← hx] at k1 k3 HS HNE
        rw [← hy] at k2 k4 HS HNE
        have b1 : (j : Int) < (m.length : Int) := by omega
        have b2 : (j : Int) < (l.length : Int) := by omega
        clear c1 c2 c1' c2' h1 h2 hx hy
        obtain ⟨x1, x2⟩ := x
        obtain ⟨y1, y2⟩ := y
        simp only at k1 k2 k3 k4
        by_cases hq1 : x1 = y1
        · by_cases hq2 : x2 = y2
          · have t1 : (x1.toList == y1.toList) = true := by rw [hq1]; simp
            have t2 : (x2.toList == y2.toList) = true := by rw [hq2]; simp
            have HQ := Lib.hid (HS.out.2 (by rw [hq1, hq2]))
            clear hq1 hq2
            go_wp2
            go_quiet (fail)
            go_wp2
            go_roundw
            case rel => first | exact ⟨j + 1, by omega, by go_num, HQ.out, below_drewN HB.out _⟩ | ((repeat apply Exists.intro); exact ⟨⟨j + 1, by omega, by go_num, HQ.out, below_drewN HB.out _⟩, rfl⟩)
            case measure => simp [intOf]; omega
          · have t1 : (x1.toList == y1.toList) = true := by rw [hq1]; simp
            have t2 := texts_ne hq2
            have HQ : Hid (decide (l = m) = false) := Lib.hid (decide_eq_false (fun h => hq2 (Prod.mk.inj (HNE.out h)).2))
            clear hq1 hq2
            go_wp2
            go_quiet (fail)
            go_wp2
            go_ret
            exact ⟨by rw [HQ.out]; rfl, below_drewN HB.out _⟩
        · have t1 := texts_ne hq1
          have HQ : Hid (decide (l = m) = false) := Lib.hid (decide_eq_false (fun h => hq1 (Prod.mk.inj (HNE.out h)).1))
          clear hq1
          go_wp2
          go_quiet (fail)
          go_wp2
          go_ret
          exact ⟨by rw [HQ.out]; rfl, below_drewN HB.out _⟩
      · obtain rfl : j = l.length := by omega
        have HQ : Hid (decide (l = m) = true) := Lib.hid (decide_eq_true (by
          have := HT.out
          rwa [List.take_length, HLM.out, List.take_length] at this))
        clear hlt
        go_wp2
        go_ret
        exact ⟨by rw [HQ.out]; rfl, HB.out⟩
  · have d0 : ((l.length : Int) != (m.length : Int)) = true := by simp; omega
    have d0' : (l.length != m.length) = true := by simp; omega
    have HQ : Hid (decide (l = m) = false) := Lib.hid (decide_eq_false (fun h => hlm (by rw [h])))
    clear hlm
    go_enter Tryd.func25, Tryd.ntmps25
    go_wp2
    go_ret
    exact ⟨by rw [HQ.out]; rfl, Below.refl _ _⟩
end Go.Proofs.YtnbapiddbcaolaaDoor
namespace Go.Proofs.YtnbapiddbcaolaaDoor
open Go.RowKit
set_option linter.unusedVariables false
namespace merkleChanges
/-- the law's list, the changed one (made by the world V), and the constants -/
structure LV (W V w : World) (A B : Option Addr) (l m : List PairV) : Prop where
  a : PsLo W W.heap.size A l
  b : PsAt V B m
  laid : LaidOk W
  bw : Below W.heap.size W w
  bv : Below V.heap.size V w
variable {W V w w' : World} {A B : Option Addr} {l m : List PairV}
theorem PsAt.lo (h : PsAt w B m) : PsLo w w.heap.size B m := fun j hj => by
  obtain ⟨b, off, rfl, h1, h2, h3⟩ := h j hj
  exact ⟨b, off, rfl, h1, h1, h2, h3⟩
theorem PsLo.raise {w : World} {lo lo' : Nat} {A : Option Addr} {l : List PairV} (h : PsLo w lo A l) (hl : lo ≤ lo') : PsLo w lo' A l := fun j hj => by
  obtain ⟨b, off, rfl, h0, h1, h2, h3⟩ := h j hj
  exact ⟨b, off, rfl, Nat.lt_of_lt_of_le h0 hl, h1, h2, h3⟩
theorem LV.start (h : LO W V A l) (hb : PsAt V B m) : LV W V V A B l m := ⟨h.a, hb, h.laid, h.bel, Below.refl _ _⟩
theorem LV.below (h : LV W V w A B l m) (hb : Below w.heap.size w w') : LV W V w' A B l m := ⟨h.a, h.b, h.laid, h.bw.trans (hb.mono h.bw.size), h.bv.trans (hb.mono h.bv.size)⟩
theorem bel_keeps {lo hi B : Nat} (hb : Below B W w) (hB : B ≤ W.heap.size) (hk : Kq.Keeps (fun k => lo ≤ k ∧ k < hi) w w') (hlo : B ≤ lo) : Below B W w' :=
  ⟨hk.os.trans hb.os, hk.tape.trans hb.tape, hk.output.trans hb.output, Nat.le_trans hb.size hk.size, fun k hk' => by rw [hk.block k (Nat.lt_of_lt_of_le (Nat.lt_of_lt_of_le hk' hB) hb.size) (fun h => by omega), hb.block k hk']⟩
theorem LV.keeps {lo hi : Nat} (h : LV W V w A B l m) (hk : Kq.Keeps (fun k => lo ≤ k ∧ k < hi) w w') (hw : W.heap.size ≤ lo) (hv : V.heap.size ≤ lo) : LV W V w' A B l m :=
  ⟨h.a, h.b, h.laid, bel_keeps h.bw (Nat.le_refl _) hk hw, bel_keeps h.bv (Nat.le_refl _) hk hv⟩
theorem LV.pa (h : LV W V w A B l m) : PsAt w A l := (h.a.below h.bw).at
theorem LV.pb (h : LV W V w A B l m) : PsAt w B m := h.b.below h.bv
theorem LV.ok (h : LV W V w A B l m) : LaidOk w := h.laid.later h.bw
theorem LV.loA (h : LV W V w A B l m) {lo : Nat} (hl : W.heap.size ≤ lo) : PsLo w lo A l := PsLo.raise (h.a.below h.bw) hl
theorem LV.loB (h : LV W V w A B l m) {lo : Nat} (hl : V.heap.size ≤ lo) : PsLo w lo B m := PsLo.raise ((PsAt.lo h.b).below h.bv) hl
/-- the sizes of the two -/
structure Sz (l m : List PairV) (n : Nat) (ca cm : Nat) : Prop where
  small1 : Small l
  small2 : Small m
  fit1 : Fit l
  fit2 : Fit m
  len1 : l.length ≤ 40
  len2 : m.length ≤ 41
  eqn : n = m.length
  cap1 : l.length ≤ ca
  cap2 : n ≤ cm
theorem root_l {ca cm n : Nat} (hz : Sz l m n ca cm) (w : World) (h : LV W V w A B l m) : Calls Tryd.prog 14 #[.slice A l.length ca] w fun x w' => x = .returned (.string (rootT l)) ∧ Below w.heap.size w w' :=
  mk_root l A ca w (by have := hz.len1; omega) hz.fit1 h.pa h.ok hz.cap1
theorem root_m {ca cm n : Nat} (hz : Sz l m n ca cm) (w : World) (h : LV W V w A B l m) : Calls Tryd.prog 14 #[.slice B n cm] w fun x w' => x = .returned (.string (rootT m)) ∧ Below w.heap.size w w' := by
  obtain ⟨h1, h2, f1, f2, h3, h4, rfl, h6, h7⟩ := hz
  exact mk_root m B cm w (by omega) f2 h.pb h.ok h7
theorem eq_lm {ca cm n : Nat} (hz : Sz l m n ca cm) (w : World) (h : LV W V w A B l m) : Calls Tryd.prog 25 #[.slice A l.length ca, .slice B n cm] w fun x w' => x = .returned (.bool (decide (l = m))) ∧ Below w.heap.size w w' := by
  obtain ⟨h1, h2, f1, f2, h3, h4, rfl, h6, h7⟩ := hz
  exact lw_pairs A B ca cm l m w (by omega) (by omega) h.pa h.pb
/-- with the book beside them -/
structure BV (W V w : World) (A B : Option Addr) (l m : List PairV) (lo hi P : Nat) (U : List ByteArray) : Prop where
  v : LV W V w A B l m
  bk : BookW w lo hi P U
  ww : W.heap.size ≤ lo
  vv : V.heap.size ≤ lo
  lw : lo ≤ w.heap.size
  hw : hi ≤ w.heap.size
theorem BV.start {P : Nat} (h : LV W V w A B l m) (hb : BookW w' w.heap.size w'.heap.size P []) (hbl : Below w.heap.size w w') : BV W V w' A B l m w.heap.size w'.heap.size P [] :=
  ⟨h.below hbl, hb, h.bw.size, h.bv.size, hbl.size, Nat.le_refl _⟩
theorem rk_l {ca cm n lo hi P : Nat} (hz : Sz l m n ca cm) (w : World) (h : BV W V w A B l m lo hi P []) : Calls Tryd.prog 15 #[.pointer (some ⟨P, 0, none⟩), .slice A l.length ca] w fun x w' => x = .returned (.string (rootT l)) ∧ BV W V w' A B l m lo hi P (askR l ++ []) :=
  (rk_root lo hi P [] l A ca w (by have := hz.len1; omega) hz.fit1 (h.v.loA h.ww) h.bk h.hw h.lw hz.cap1 (by have := hz.len1; simp; omega)).mono fun x w' hx =>
    ⟨hx.1, h.v.keeps hx.2.2 h.ww h.vv, hx.2.1, h.ww, h.vv, Nat.le_trans h.lw hx.2.2.size, Nat.le_trans h.hw hx.2.2.size⟩
theorem rk_m {ca cm n lo hi P : Nat} (hz : Sz l m n ca cm) (w : World) (h : BV W V w A B l m lo hi P (askR l ++ [])) : Calls Tryd.prog 15 #[.pointer (some ⟨P, 0, none⟩), .slice B n cm] w fun x w' => x = .returned (.string (rootT m)) ∧ BV W V w' A B l m lo hi P (askR m ++ (askR l ++ [])) := by
  obtain ⟨h1, h2, f1, f2, h3, h4, rfl, h6, h7⟩ := hz
  exact (rk_root lo hi P (askR l ++ []) m B cm w (by omega) f2 (h.v.loB h.vv) h.bk h.hw h.lw h7 (by have := askR_len l; rw [List.append_nil]; omega)).mono fun x w' hx =>
    ⟨hx.1, h.v.keeps hx.2.2 h.ww h.vv, hx.2.1, h.ww, h.vv, Nat.le_trans h.lw hx.2.2.size, Nat.le_trans h.hw hx.2.2.size⟩
theorem marked {ca cm n lo hi P : Nat} (hz : Sz l m n ca cm) (h : BV W V w A B l m lo hi P (askR m ++ (askR l ++ []))) (hr : rootT l = rootT m) (hne : l ≠ m) : w.cell? ⟨P, 3, none⟩ = some (.bool true) := by
  obtain ⟨t, ht, u, hu, hd, hn⟩ := root_apart l m hz.small1 hz.small2 (by have := hz.len1; omega) (by have := hz.len2; omega) hr hne
  exact book_markedW h.bk ht hu hd hn
end merkleChanges
end Go.Proofs.YtnbapiddbcaolaaDoor
namespace Go.Proofs.YtnbapiddbcaolaaDoor
open Go.RowKit
set_option linter.unusedVariables false
def MidP (w cur : World) : Prop := Kq.Keeps (fun j => w.heap.size ≤ j) w cur
theorem MidP.refl (w : World) : MidP w w := Kq.Keeps.refl _ _
theorem MidP.size {w cur : World} (h : MidP w cur) : w.heap.size ≤ cur.heap.size := Kq.Keeps.size h
theorem MidP.below {w cur : World} (h : MidP w cur) : Below w.heap.size w cur := Kq.Keeps.below h (Nat.le_refl _) (fun k _ hk => hk)
theorem MidP.alloc {w cur : World} (h : MidP w cur) (o : Obj) : MidP w (cur.alloc o) := Kq.Keeps.trans h (Kq.Keeps.alloc _ _ _)
theorem MidP.grown {w cur nxt : World} {row : Option Nat} (h : MidP w cur) (hg : cur.grownBy nxt row) (hr : ∀ j, row = some j → w.heap.size ≤ j) : MidP w nxt := Kq.Keeps.trans h (Kq.Keeps.grown hg (fun j _ hj => hr j hj))
theorem PsAt.grownP {cur nxt : World} {row : Option Nat} {l : List PairV} {c : Nat} (h : PsAt cur (some ⟨c, 0, none⟩) l) (hg : cur.grownBy nxt row) (hne : row ≠ some c) : PsAt nxt (some ⟨c, 0, none⟩) l := fun j hj => by
  obtain ⟨b, off, e, h1, h2, h3⟩ := h j hj
  have hq : c = b ∧ 0 = off := by simpa using e
  obtain ⟨rfl, rfl⟩ := hq
  obtain ⟨o, ho⟩ : ∃ o, cur.heap[c]? = some o := ⟨_, Array.getElem?_eq_getElem h1⟩
  have hb : nxt.heap[c]? = cur.heap[c]? := hg.block c h1 (fun e => hne e.symm)
  have hc : ∀ k, nxt.cell? ⟨c, k, none⟩ = cur.cell? ⟨c, k, none⟩ := fun k => by
    unfold World.cell?
    simp only [hb]
  exact ⟨c, 0, rfl, Nat.lt_of_lt_of_le h1 hg.size, by rw [hc]; exact h2, by rw [hc]; exact h3⟩
theorem made_pair (w : World) (k s : ByteArray) : PsAt (w.alloc (.cells #[.string k, .string s] 36)) (some ⟨w.heap.size, 0, none⟩) [(k, s)] := fun j hj => by
  have hj0 : j = 0 := by simpa using hj
  subst hj0
  exact ⟨_, 0, rfl, by simp, by simp, by simp⟩
namespace merkleChanges
/-- the third arm's list -/
theorem third {W wd : World} {A : Option Addr} {l : List PairV} {a1 ca : Nat} {s KZ : ByteArray} (hO : LO W wd A l) (hf : FewP l) (hc : chkE l = 0) (hs : s.size ≤ 64) (hk : KZ.size ≤ 16) (ha : a1 ≤ l.length) (hca : l.length ≤ ca) (v : Value) (w' : World) (hm : MidP wd w')
    (hown : w'.ownsRow wd.heap.size 36 2 v (a1 + 1 + (l.length - a1)) (pcells (l.take a1 ++ [(KZ, s)] ++ l.drop a1))) (m : List PairV) (hme : m = l.take a1 ++ [(KZ, s)] ++ l.drop a1) :
    ∃ B cp, v = .slice B m.length cp ∧ (Sz l m m.length ca cp ∧ LV W w' w' A B l m) := by
  have hlen : a1 + 1 + (l.length - a1) = m.length := by rw [hme]; simp; omega
  rw [← hme, hlen] at hown
  obtain ⟨B, cp, rfl, hcp, hps⟩ := row_pairs hown
  have sl := small_of hc
  have fl := hf.fit
  have l40 := hf.1
  have hsub : ∀ q ∈ m, q ∈ l ∨ q = (KZ, s) := fun q hq => by
    rw [hme] at hq
    rcases List.mem_append.1 hq with h | h
    · rcases List.mem_append.1 h with h | h
      · exact Or.inl (List.mem_of_mem_take h)
      · exact Or.inr (by simpa using h)
    · exact Or.inl (List.mem_of_mem_drop h)
  refine ⟨B, cp, rfl, ⟨sl, fun q hq => ?_, fl, fun q hq => ?_, l40, by rw [← hlen]; omega, rfl, hca, hcp⟩, LV.start (hO.below hm.below) hps⟩
  · rcases hsub q hq with h | rfl
    · exact sl q h
    · show KZ.size < 256; omega
  · rcases hsub q hq with h | rfl
    · exact fl q h
    · show KZ.size + s.size ≤ 90000; omega
end merkleChanges
end Go.Proofs.YtnbapiddbcaolaaDoor
