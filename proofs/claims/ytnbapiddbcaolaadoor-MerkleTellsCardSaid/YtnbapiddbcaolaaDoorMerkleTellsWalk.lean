/- carracklaw08.MerkleTells walked. Condition: the constants lie where they lie. -/
import Derived.WalkSpells
import Derived.Outline
import Derived.Deep.RegionHeld
import Derived.Test.YtnbapiddbcaolaaDoorMkC
import Derived.Test.YtnbapiddbcaolaaDoorRkP
import Derived.Test.YtnbapiddbcaolaaDoorMkOpen
import Derived.Test.YtnbapiddbcaolaaDoorRfTexts
namespace Go.Proofs.YtnbapiddbcaolaaDoor
open Go.RowKit
set_option linter.unusedVariables false
namespace merkleTells
theorem row_strs {w : World} {base : Nat} {v : Value} {ps : List ByteArray} (h : w.ownsRow base 9 1 v ps.length (scells ps)) : ∃ A cap, v = .slice A ps.length cap ∧ StrsAt w A ps ∧ ∀ g o, A = some ⟨g, o, none⟩ → base ≤ g := by
  rcases h.2 with ⟨rfl, h0⟩ | ⟨g, cap, cur, rfl, hge, hb, hc, _, _, ht⟩
  · exact ⟨none, 0, by rw [h0], ⟨fun j hj => by omega⟩, fun g o e => by cases e⟩
  · refine ⟨_, cap, rfl, ⟨fun j hj => ⟨g, 0, rfl, Kq.blk_lt hb, ?_⟩⟩, fun g' o e => by simp at e; omega⟩
    have h1 : (scells ps)[j]? = some (.string ps[j]) := by simp [scells, hj]
    rw [Nat.zero_add, Kq.blk_cell hb, ← h1, ← ht, List.getElem?_take, if_pos (by omega), Array.getElem?_toList]
def PathAt (w : World) (ps : List ByteArray) (x : Ending) (w' : World) : Prop := ∃ A cap, x = .returned (.slice A ps.length cap) ∧ StrsAt w' A ps ∧ Below w.heap.size w w' ∧ ∀ g o, A = some ⟨g, o, none⟩ → w.heap.size ≤ g
theorem PathPost.at {w : World} {ps : List ByteArray} {x : Ending} {w' : World} (h : PathPost w ps x w') : PathAt w ps x w' := by
  obtain ⟨v, rfl, hown, hb⟩ := h
  obtain ⟨A, cap, rfl, hp, hg⟩ := row_strs hown
  exact ⟨A, cap, rfl, hp, hb, hg⟩
def RPathAt (w : World) (lo hi : Nat) (ps : List ByteArray) (x : Ending) (w' : World) : Prop := ∃ A cap, x = .returned (.slice A ps.length cap) ∧ StrsAt w' A ps ∧ Kq.Keeps (fun k => lo ≤ k ∧ k < hi) w w'
theorem RPathPost.at {w : World} {lo hi P : Nat} {U ps : List ByteArray} {x : Ending} {w' : World} (h : RPathPost w lo hi P U ps x w') : RPathAt w lo hi ps x w' := by
  obtain ⟨v, rfl, hown, _, hk⟩ := h
  obtain ⟨A, cap, rfl, hp, _⟩ := row_strs hown
  exact ⟨A, cap, rfl, hp, hk⟩
theorem strs_keeps {w w' : World} {A : Option Addr} {ps : List ByteArray} {S : Nat → Prop} (h : StrsAt w A ps) (hk : Kq.Keeps S w w') (hS : ∀ g o, A = some ⟨g, o, none⟩ → ¬ S g) : StrsAt w' A ps := ⟨fun j hj => by
  obtain ⟨g, o, rfl, hg, hc⟩ := h.at_ j hj
  exact ⟨g, o, rfl, Nat.lt_of_lt_of_le hg hk.size, (World.cell?_of_block (hk.block g hg (hS g o rfl))).trans hc⟩⟩
def pathI (l : List PairV) (i : Int) : List ByteArray := if 0 ≤ i ∧ i < (l.length : Int) then pathL l i.toNat else []
theorem pathI_len (l : List PairV) (i : Int) : (pathI l i).length ≤ l.length := by
  unfold pathI
  split
  · exact pathL_len _ l _ (Nat.le_refl _)
  · simp
theorem mk_pathI (l : List PairV) (i : Int) (A : Option Addr) (cap : Nat) (w : World) (hm : l.length ≤ 1000000) (hf : Fit l) (hA : PsAt w A l) (hL : LaidOk w) (hcap : l.length ≤ cap) :
    Calls Tryd.prog 21 #[.slice A l.length cap, .int .i64 i] w (PathPost w (pathI l i)) := by
  unfold pathI
  by_cases h : 0 ≤ i ∧ i < (l.length : Int)
  · rw [if_pos h]
    obtain ⟨j, rfl⟩ := Int.eq_ofNat_of_zero_le h.1
    rw [Int.toNat_natCast]
    exact mk_path l.length l j A cap w (Nat.le_refl _) hm hf hA hL hcap (by omega)
  · rw [if_neg h]
    exact path_bad A l.length cap i w (by omega)
theorem rk_pathI (l : List PairV) (i : Int) (A : Option Addr) (cap lo hi P : Nat) (T : List ByteArray) (w : World) (hm : l.length ≤ 1000000) (hf : Fit l) (hA : PsLo w lo A l) (hB : BookW w lo hi P T) (hhi : hi ≤ w.heap.size) (hlo : lo ≤ w.heap.size) (hcap : l.length ≤ cap) (hT : T.length + 2 * l.length ≤ 1000) :
    Calls Tryd.prog 22 #[.pointer (some ⟨P, 0, none⟩), .slice A l.length cap, .int .i64 i] w (RPathAt w lo hi (pathI l i)) := by
  unfold pathI
  by_cases h : 0 ≤ i ∧ i < (l.length : Int)
  · rw [if_pos h]
    obtain ⟨j, rfl⟩ := Int.eq_ofNat_of_zero_le h.1
    rw [Int.toNat_natCast]
    exact (rk_path l.length l j A cap lo hi P T w (Nat.le_refl _) hm hf hA hB hhi hlo hcap (by omega) hT).mono (fun x w' h => RPathPost.at h)
  · rw [if_neg h]
    exact (rpath_bad A l.length cap lo hi P T i w hB (by omega)).mono (fun x w' h => RPathPost.at h)
/-- the law's list in memory, and the constants -/
structure LO (W w : World) (A : Option Addr) (l : List PairV) : Prop where
  a : PsLo W W.heap.size A l
  laid : LaidOk W
  bel : Below W.heap.size W w
variable {W w w' : World} {A : Option Addr} {l : List PairV} {lo hi P : Nat} {U U' : List ByteArray}
theorem LO.below (h : LO W w A l) (hb : Below w.heap.size w w') : LO W w' A l := ⟨h.a, h.laid, h.bel.trans (hb.mono h.bel.size)⟩
theorem LO.pl (h : LO W w A l) : PsLo w W.heap.size A l := h.a.below h.bel
theorem LO.pa (h : LO W w A l) : PsAt w A l := h.pl.at
theorem LO.ok (h : LO W w A l) : LaidOk w := h.laid.later h.bel
theorem LO.keeps (h : LO W w A l) (hk : Kq.Keeps (fun k => lo ≤ k ∧ k < hi) w w') (hlo : W.heap.size ≤ lo) : LO W w' A l :=
  ⟨h.a, h.laid, by
    have hb := h.bel
    exact ⟨hk.os.trans hb.os, hk.tape.trans hb.tape, hk.output.trans hb.output, Nat.le_trans hb.size hk.size, fun k hk' => by rw [hk.block k (Nat.lt_of_lt_of_le hk' hb.size) (fun h => by omega), hb.block k hk']⟩⟩
/-- and the book beside them -/
structure SB (W w : World) (A : Option Addr) (l : List PairV) (lo hi P : Nat) (U : List ByteArray) : Prop where
  o : LO W w A l
  bk : BookW w lo hi P U
  wlo : W.heap.size ≤ lo
  lw : lo ≤ w.heap.size
  hw : hi ≤ w.heap.size
theorem SB.below (h : SB W w A l lo hi P U) (hb : Below w.heap.size w w') : SB W w' A l lo hi P U := ⟨h.o.below hb, h.bk.below hb, h.wlo, Nat.le_trans h.lw hb.size, Nat.le_trans h.hw hb.size⟩
theorem SB.keeps (h : SB W w A l lo hi P U) (hk : Kq.Keeps (fun k => lo ≤ k ∧ k < hi) w w') (hb : BookW w' lo hi P U') : SB W w' A l lo hi P U' := ⟨h.o.keeps hk h.wlo, hb, h.wlo, Nat.le_trans h.lw hk.size, Nat.le_trans h.hw hk.size⟩
theorem SB.pl (h : SB W w A l lo hi P U) : PsLo w lo A l := fun j hj => by
  obtain ⟨b, off, rfl, h0, h1, h2, h3⟩ := h.o.pl j hj
  exact ⟨b, off, rfl, Nat.lt_of_lt_of_le h0 h.wlo, h1, h2, h3⟩
theorem askR_len (l : List PairV) : (askR l).length ≤ 2 * l.length + 1 := by
  unfold askR
  by_cases h : 1 ≤ l.length
  · have := askL_len _ l (Nat.le_refl _) h
    rw [List.length_cons]; omega
  · obtain rfl : l = [] := List.eq_nil_of_length_eq_zero (by omega)
    simp [askL, askF]
def PBox (w' : World) (b o : Nat) (p : PairV) : Prop := w'.cell? ⟨b, o, none⟩ = some (.string p.1) ∧ w'.cell? ⟨b, o + 1, none⟩ = some (.string p.2)
set_option maxRecDepth 100000 in
set_option maxHeartbeats 1000000 in
theorem early (A : Option Addr) (ca : Nat) (l : List PairV) (idx cnt : Int) (d : ByteArray) (W : World) (h : LO W W A l) (hno : ¬ (FewP l ∧ d.size ≤ 300)) :
    Calls Tryd.prog 3 #[.slice A l.length ca, .int .i64 idx, .int .i64 cnt, .string d] W fun x w' => x = .returned (.bool true) ∧ Below W.heap.size W w' := by
  have H := Lib.hid h
  have HNO := Lib.hid hno
  clear h hno
  go_enter Tryd.func3, Tryd.ntmps3
  go_wp2_with fail
  refine (awake08 W H.out.ok).mono ?_
  rintro x w1 ⟨rfl, b1⟩
  have H1 := Lib.hid (H.out.below b1)
  clear b1 H
  go_wp2_with fail
  refine (few08 l A ca w1 H1.out.pa).mono ?_
  rintro x w2 ⟨rfl, rfl⟩
  by_cases f1 : FewP l
  · rw [decide_eq_true f1]
    have h2 : 300 < d.size := Nat.lt_of_not_le fun h => HNO.out ⟨f1, h⟩
    have d2 : decide ((300 : Int) < (d.size : Int)) = true := decide_eq_true (by omega)
    have d2' : decide (300 < d.size) = true := decide_eq_true h2
    clear f1 h2
    go_wp2
    go_ret
    exact ⟨rfl, H1.out.bel⟩
  · rw [decide_eq_false f1]
    clear f1
    go_wp2
    go_ret
    exact ⟨rfl, H1.out.bel⟩
set_option maxRecDepth 100000 in
set_option maxHeartbeats 8000000 in
theorem main (A : Option Addr) (ca : Nat) (l : List PairV) (idx cnt : Int) (d : ByteArray) (W : World) (h : LO W W A l) (hf : FewP l) (hds : d.size ≤ 300) (hca : l.length ≤ ca) (hcnt : cnt ≤ 9223372036854775807) :
    Calls Tryd.prog 3 #[.slice A l.length ca, .int .i64 idx, .int .i64 cnt, .string d] W fun x w' => x = .returned (.bool true) ∧ Below W.heap.size W w' := by
  have H := Lib.hid h
  have HF := Lib.hid (And.intro hf (And.intro hds (And.intro hca hcnt)))
  have d1 : Hid (decide (FewP l) = true) := Lib.hid (decide_eq_true hf)
  have d2 : decide ((300 : Int) < (d.size : Int)) = false := decide_eq_false (by omega)
  have d2' : decide (300 < d.size) = false := decide_eq_false (by omega)
  have HL := Lib.hid (show l.length ≤ 40 from hf.1)
  clear h hf hca hcnt hds
  go_enter Tryd.func3, Tryd.ntmps3
  go_wp2_with fail
  refine (awake08 W H.out.ok).mono ?_
  rintro x w1 ⟨rfl, b1⟩
  have H1 := Lib.hid (H.out.below b1)
  clear b1 H
  go_wp2_with fail
  refine (few08 l A ca w1 H1.out.pa).mono ?_
  rintro x w2 ⟨rfl, rfl⟩
  rw [d1.out]
  go_wp2_with fail
  refine (r_booknewW w1).mono ?_
  rintro x w2 ⟨P, rfl, hbk, hb2⟩
  have HX2 : Hid (∃ lo hi, SB W w2 A l lo hi P [] ∧ True) := Lib.hid ⟨w1.heap.size, w2.heap.size, ⟨H1.out.below hb2, hbk, H1.out.bel.size, hb2.size, Nat.le_refl _⟩, trivial⟩
  clear hbk hb2 H1
  obtain ⟨lo, hi, hsb, -⟩ := HX2.out
  have H2 := Lib.hid hsb
  clear hsb HX2
  go_wp2_with fail
  refine (mk_check l A ca w2 H2.out.o.pa HL.out).mono ?_
  rintro x w3 ⟨rfl, b3⟩
  have H3 := Lib.hid (H2.out.below b3)
  clear b3 H2
  go_wp2_with fail
  refine (rk_check l A ca w3 H3.out.o.pa HL.out).mono ?_
  rintro x w4 ⟨rfl, b4⟩
  have H4 := Lib.hid (H3.out.below b4)
  clear b4 H3
  have qc : (chkE l != chkE l) = false := by simp
  generalize chkE l = ce at *
  go_wp2_with fail
  refine (mk_root l A ca w4 (by have := HL.out; omega) HF.out.1.fit H4.out.o.pa H4.out.o.ok HF.out.2.2.1).mono ?_
  rintro x w5 ⟨rfl, b5⟩
  have H5 := Lib.hid (H4.out.below b5)
  clear b5 H4
  have HRR := Lib.hid (fun w => rk_root lo hi P [] l A ca w (by have := HL.out; omega) HF.out.1.fit)
  obtain ⟨RT, hRT⟩ : ∃ RT, RT = dgT (topT l.length (digL l)) := ⟨_, rfl⟩
  rw [← hRT]
  rw [← hRT] at HRR
  clear hRT
  go_wp2_with fail
  refine (HRR.out w5 H5.out.pl H5.out.bk H5.out.hw H5.out.lw HF.out.2.2.1 (by have := HL.out; simp; omega)).mono ?_
  rintro x w6 ⟨rfl, hbk, hkp⟩
  have H6 := Lib.hid (H5.out.keeps hkp hbk)
  clear hbk hkp H5 HRR
  have HU1 : Hid ((askR l ++ []).length ≤ 81) := Lib.hid (by have h1 := askR_len l; have := HL.out; rw [List.append_nil]; omega)
  generalize askR l ++ [] = U1 at *
  have er : (RT.toList != RT.toList) = false := by simp
  have er2 : (RT.toList == RT.toList) = true := by simp
  go_wp2_with fail
  refine (mk_top cnt d w6 H6.out.o.ok HF.out.2.2.2 (by have := HF.out.2.1; omega)).mono ?_
  rintro x w7 ⟨rfl, b7⟩
  have H7 := Lib.hid (H6.out.below b7)
  clear b7 H6
  have HTT := Lib.hid (fun w hB hlo => rk_top lo hi P U1 cnt d w hB hlo (by have := HU1.out; omega) HF.out.2.2.2 (by have := HF.out.2.1; omega))
  generalize topT cnt.toNat d = TT at *
  obtain ⟨DT, hDT⟩ : ∃ DT, DT = dgT TT := ⟨_, rfl⟩
  rw [← hDT]
  rw [← hDT] at HTT
  clear hDT
  go_wp2_with fail
  refine (HTT.out w7 H7.out.bk H7.out.lw).mono ?_
  rintro x w8 ⟨rfl, hbk, hkp⟩
  have H8 := Lib.hid (H7.out.keeps hkp hbk)
  clear hbk hkp H7 HTT
  have HU2 : Hid ((TT :: U1).length ≤ 82) := Lib.hid (by have := HU1.out; rw [List.length_cons]; omega)
  generalize TT :: U1 = U2 at *
  clear HU1
  have es : (DT.toList != DT.toList) = false := by simp
  have es2 : (DT.toList == DT.toList) = true := by simp
  have HPI := Lib.hid (fun w' hA hL => mk_pathI l idx A ca w' (by have := HL.out; omega) HF.out.1.fit hA hL HF.out.2.2.1)
  have HRI := Lib.hid (fun T w' hA hB h1 h2 (hT : List.length T ≤ 90) => rk_pathI l idx A ca lo hi P T w' (by have := HL.out; omega) HF.out.1.fit hA hB h1 h2 HF.out.2.2.1 (by have := HL.out; omega))
  have HPL : Hid ((pathI l idx).length ≤ 100000) := Lib.hid (by have := pathI_len l idx; have := HL.out; omega)
  obtain ⟨ps, hps⟩ : ∃ ps, ps = pathI l idx := ⟨_, rfl⟩
  rw [← hps] at HPI HRI HPL
  clear hps
  have HTX := Lib.hid (fun X Y ca cb w (hX : StrsAt w X ps) (hY : StrsAt w Y ps) => rf_texts X Y ca cb ps ps w HPL.out HPL.out hX hY)
  have HTE : Hid (decide (ps = ps) = true) := Lib.hid (decide_eq_true rfl)
  rw [HTE.out] at HTX
  clear HTE HPL
  by_cases hz : l.length = 0
  · have z0 : ((l.length : Int)) = 0 := by omega
    have z1 : decide ((0 : Int) < (l.length : Int)) = false := decide_eq_false (by omega)
    have z2 : decide (0 < l.length) = false := decide_eq_false (by omega)
    have HLZ := Lib.hid (And.intro hz z0)
    clear hz z0
    go_wp2
    have HD := Lib.hid (H8.out.below (Below.refl _ _).drew)
    refine wp_region_held_drew (S := fun w' => True) (by kernel_rfl) trivial (fun hS0 => ?_)
    generalize w8.drew = z0 at *
    refine wpAnyH_take (i := 0) (v := ?_) rfl (by kernel_rfl) (by kernel_rfl) (by kernel_rfl) (fun _ _ _ h => h) (Or.inl ⟨by kernel_rfl, ?_⟩) (by assumption) ?_
    rotate_left
    · intro w hSw; (try dsimp only at hSw); go_simp; (try with_reducible rfl)
    refine wpAnyH_take (i := 1) (v := ?_) rfl (by kernel_rfl) (by kernel_rfl) (by kernel_rfl) (fun _ _ _ h => h) (Or.inl ⟨by kernel_rfl, ?_⟩) (by assumption) ?_
    rotate_left
    · intro w hSw; (try dsimp only at hSw); go_simp; (try with_reducible rfl)
    refine wpAnyH_take (i := 2) (v := ?_) rfl (by kernel_rfl) (by kernel_rfl) (by kernel_rfl) (fun _ _ _ h => h) (Or.inl ⟨by kernel_rfl, ?_⟩) (by assumption) ?_
    rotate_left
    · intro w hSw; (try dsimp only at hSw); go_simp; (try with_reducible rfl)
    refine wpAnyH_take (i := 3) (v := ?_) rfl (by kernel_rfl) (by kernel_rfl) (by kernel_rfl) (fun _ _ _ h => h) (Or.inl ⟨by kernel_rfl, ?_⟩) (by assumption) ?_
    rotate_left
    · intro w hSw; (try dsimp only at hSw); go_simp; (try with_reducible rfl)
    refine wpAnyH_take (i := 4) (v := undef) rfl (by kernel_rfl) (by kernel_rfl) (by kernel_rfl) (fun _ _ _ h => h) (Or.inr ⟨by kernel_rfl, rfl⟩) (by assumption) ?_
    refine wpAnyH_take (i := 5) (v := undef) rfl (by kernel_rfl) (by kernel_rfl) (by kernel_rfl) (fun _ _ _ h => h) (Or.inr ⟨by kernel_rfl, rfl⟩) (by assumption) ?_
    refine wpAnyH_take (i := 6) (v := undef) rfl (by kernel_rfl) (by kernel_rfl) (by kernel_rfl) (fun _ _ _ h => h) (Or.inr ⟨by kernel_rfl, rfl⟩) (by assumption) ?_
    refine wpAnyH_take (i := 7) (v := undef) rfl (by kernel_rfl) (by kernel_rfl) (by kernel_rfl) (fun _ _ _ h => h) (Or.inr ⟨by kernel_rfl, rfl⟩) (by assumption) ?_
    refine wpAnyH_take (i := 8) (v := undef) rfl (by kernel_rfl) (by kernel_rfl) (by kernel_rfl) (fun _ _ _ h => h) (Or.inr ⟨by kernel_rfl, rfl⟩) (by assumption) ?_
    refine wpAnyH_take (i := 9) (v := undef) rfl (by kernel_rfl) (by kernel_rfl) (by kernel_rfl) (fun _ _ _ h => h) (Or.inr ⟨by kernel_rfl, rfl⟩) (by assumption) ?_
    refine wpAnyH_take (i := 10) (v := undef) rfl (by kernel_rfl) (by kernel_rfl) (by kernel_rfl) (fun _ _ _ h => h) (Or.inr ⟨by kernel_rfl, rfl⟩) (by assumption) ?_
    refine wpAnyH_take (i := 11) (v := undef) rfl (by kernel_rfl) (by kernel_rfl) (by kernel_rfl) (fun _ _ _ h => h) (Or.inr ⟨by kernel_rfl, rfl⟩) (by assumption) ?_
    refine wpAnyH_take (i := 12) (v := undef) rfl (by kernel_rfl) (by kernel_rfl) (by kernel_rfl) (fun _ _ _ h => h) (Or.inr ⟨by kernel_rfl, rfl⟩) (by assumption) ?_
    refine wpAnyH_take (i := 13) (v := undef) rfl (by kernel_rfl) (by kernel_rfl) (by kernel_rfl) (fun _ _ _ h => h) (Or.inr ⟨by kernel_rfl, rfl⟩) (by assumption) ?_
    refine wpAnyH_take (i := 14) (v := ?_) rfl (by kernel_rfl) (by kernel_rfl) (by kernel_rfl) (fun _ _ _ h => h) (Or.inl ⟨by kernel_rfl, ?_⟩) (by assumption) ?_
    rotate_left
    · intro w hSw; (try dsimp only at hSw); go_simp; (try with_reducible rfl)
    refine wpAnyH_done (by kernel_rfl) ?_ _
    go_simp
    have HZ := HD
    have HUZ : Hid (U2.length ≤ 83) := Lib.hid (by have := HU2.out; omega)
    go_wp2_with fail
    refine (HPI.out _ HZ.out.o.pa HZ.out.o.ok).mono ?_
    rintro x w9 hpp
    obtain ⟨PA, pc, rfl, hpa, hb9, hge⟩ := PathPost.at hpp
    have H9 := Lib.hid (And.intro (HZ.out.below hb9) (And.intro hpa (fun g o e => Nat.le_trans HZ.out.hw (hge g o e))))
    clear hpp hpa hb9 hge HZ
    go_wp2_with fail
    refine (HRI.out _ w9 H9.out.1.pl H9.out.1.bk H9.out.1.hw H9.out.1.lw (by have := HUZ.out; omega)).mono ?_
    rintro x w10 ⟨PB, pd, rfl, hpb, hkp⟩
    have H10 : Hid (LO W w10 A l ∧ StrsAt w10 PA ps ∧ StrsAt w10 PB ps) := Lib.hid ⟨H9.out.1.o.keeps hkp H9.out.1.wlo, strs_keeps H9.out.2.1 hkp (fun g o e h => by have := H9.out.2.2 g o e; omega), hpb⟩
    clear hpb hkp H9
    go_wp2_with fail
    refine (HTX.out PA PB pc pd w10 H10.out.2.1 H10.out.2.2).mono ?_
    rintro x w11 ⟨rfl, hb11⟩
    have H11 := Lib.hid (H10.out.1.below hb11)
    clear hb11 H10
    go_wp2
    go_ret
    exact ⟨rfl, H11.out.bel⟩
  · have z1 : decide ((0 : Int) < (l.length : Int)) = true := decide_eq_true (by omega)
    have z2 : decide (0 < l.length) = true := decide_eq_true (by omega)
    have z3 : 0 < l.length := by omega
    obtain ⟨b, off, rfl, hb, c0, c1⟩ := H8.out.o.pa 0 (by omega)
    obtain ⟨p, hp⟩ : ∃ p, p = l[0] := ⟨_, rfl⟩
    rw [← hp] at c0 c1
    have HSZ : Hid (p.1.size + p.2.size ≤ 90000) := Lib.hid (HF.out.1.fit p (by rw [hp]; exact List.getElem_mem _))
    clear hp hz
    obtain ⟨k, v⟩ := p
    simp only [Nat.zero_mul, Nat.add_zero] at c0 c1
    have HML := Lib.hid (fun w' hk => mk_leaf (k, v) w' hk HSZ.out)
    have HRL := Lib.hid (fun w' hB h1 h2 => rk_leaf lo hi P U2 (k, v) w' hB h1 h2 (by have := HU2.out; omega) HSZ.out)
    obtain ⟨DL, hDL⟩ : ∃ DL, DL = dgT (leafT (k, v)) := ⟨_, rfl⟩
    rw [← hDL] at HML HRL
    clear hDL
    have HU3 : Hid ((leafT (k, v) :: U2).length ≤ 83) := Lib.hid (by have := HU2.out; rw [List.length_cons]; omega)
    generalize leafT (k, v) :: U2 = U3 at *
    have HD : Hid (SB W w8.drew (some ⟨b, off, none⟩) l lo hi P U2 ∧ PBox w8.drew b off (k, v) ∧ b < w8.drew.heap.size) := Lib.hid ⟨H8.out.below (Below.refl _ _).drew, ⟨c0, c1⟩, hb⟩
    have HBL : Hid (b < lo) := Lib.hid (by
      obtain ⟨b', o', e, h1, _⟩ := H8.out.pl 0 z3
      have hq : b = b' := by simp at e; exact e.1
      omega)
    clear c0 c1 hb H8
    go_wp2
    refine wp_region_held_drew (S := fun w' => PBox w' b off (k, v)) (by kernel_rfl) HD.out.2.1 (fun hS0 => ?_)
    generalize w8.drew = z0 at *
    unfold PBox at hS0
    dsimp only [PBox]
    (try dsimp only at hS0)
    refine wpAnyH_take (i := 0) (v := ?_) rfl (by kernel_rfl) (by kernel_rfl) (by kernel_rfl) (fun _ _ _ h => h) (Or.inl ⟨by kernel_rfl, ?_⟩) (by assumption) ?_
    rotate_left
    · intro w hSw; (try dsimp only at hSw); go_simp; (try with_reducible rfl)
    refine wpAnyH_take (i := 1) (v := ?_) rfl (by kernel_rfl) (by kernel_rfl) (by kernel_rfl) (fun _ _ _ h => h) (Or.inl ⟨by kernel_rfl, ?_⟩) (by assumption) ?_
    rotate_left
    · intro w hSw; (try dsimp only at hSw); go_simp; (try with_reducible rfl)
    refine wpAnyH_take (i := 2) (v := ?_) rfl (by kernel_rfl) (by kernel_rfl) (by kernel_rfl) (fun _ _ _ h => h) (Or.inl ⟨by kernel_rfl, ?_⟩) (by assumption) ?_
    rotate_left
    · intro w hSw; (try dsimp only at hSw); go_simp; (try with_reducible rfl)
    refine wpAnyH_take (i := 3) (v := ?_) rfl (by kernel_rfl) (by kernel_rfl) (by kernel_rfl) (fun _ _ _ h => h) (Or.inl ⟨by kernel_rfl, ?_⟩) (by assumption) ?_
    rotate_left
    · intro w hSw; (try dsimp only at hSw); go_simp; (try with_reducible rfl)
    refine wpAnyH_take (i := 4) (v := ?_) rfl (by kernel_rfl) (by kernel_rfl) (by kernel_rfl) (fun _ _ _ h => h) (Or.inl ⟨by kernel_rfl, ?_⟩) (by assumption) ?_
    rotate_left
    · intro w hSw; (try dsimp only at hSw); go_simp; (try with_reducible rfl)
    refine wpAnyH_take (i := 5) (v := ?_) rfl (by kernel_rfl) (by kernel_rfl) (by kernel_rfl) (fun _ _ _ h => h) (Or.inl ⟨by kernel_rfl, ?_⟩) (by assumption) ?_
    rotate_left
    · intro w hSw; (try dsimp only at hSw); go_simp; (try with_reducible rfl)
    refine wpAnyH_take (i := 6) (v := ?_) rfl (by kernel_rfl) (by kernel_rfl) (by kernel_rfl) (fun _ _ _ h => h) (Or.inl ⟨by kernel_rfl, ?_⟩) (by assumption) ?_
    rotate_left
    · intro w hSw; (try dsimp only at hSw); go_simp; (try with_reducible rfl)
    refine wpAnyH_take (i := 8) (v := ?_) rfl (by kernel_rfl) (by kernel_rfl) (by kernel_rfl) (fun _ _ _ h => h) (Or.inl ⟨by kernel_rfl, ?_⟩) (by assumption) ?_
    rotate_left
    · intro w hSw; (try dsimp only at hSw); go_simp; (try with_reducible rfl)
    refine wpAnyH_take (i := 9) (v := ?_) rfl (by kernel_rfl) (by kernel_rfl) (by kernel_rfl) (fun _ _ _ h => h) (Or.inl ⟨by kernel_rfl, ?_⟩) (by assumption) ?_
    rotate_left
    · intro w hSw; (try dsimp only at hSw); go_simp; (try with_reducible rfl)
    refine wpAnyH_take (i := 10) (v := ?_) rfl (by kernel_rfl) (by kernel_rfl) (by kernel_rfl) (fun _ _ _ h => h) (Or.inl ⟨by kernel_rfl, ?_⟩) (by assumption) ?_
    rotate_left
    · intro w hSw; (try dsimp only at hSw); go_simp; (try with_reducible rfl)
    refine wpAnyH_take (i := 11) (v := ?_) rfl (by kernel_rfl) (by kernel_rfl) (by kernel_rfl) (fun _ _ _ h => h) (Or.inl ⟨by kernel_rfl, ?_⟩) (by assumption) ?_
    rotate_left
    · intro w hSw; (try dsimp only at hSw); go_simp; (try with_reducible rfl)
    refine wpAnyH_ready (rs := [7]) (by kernel_rfl) (by simp) ?_
    refine AllReadyH.cons rfl (fun K hK => ?_) AllReadyH.nil
    go_simp
    refine (HML.out z0 HD.out.1.o.ok).mono ?_
    rintro x z1' ⟨rfl, hb1⟩
    have HD1 : Hid (SB W z1' (some ⟨b, off, none⟩) l lo hi P U2 ∧ PBox z1' b off (k, v) ∧ b < z1'.heap.size) := Lib.hid ⟨HD.out.1.below hb1, ⟨(hb1.cell (p := ⟨b, off, none⟩) HD.out.2.2).trans HD.out.2.1.1, (hb1.cell (p := ⟨b, off + 1, none⟩) HD.out.2.2).trans HD.out.2.1.2⟩, Nat.lt_of_lt_of_le HD.out.2.2 hb1.size⟩
    clear hb1 HD hS0
    refine hK.out _ _ HD1.out.2.1 (fun hS0 => ?_)
    clear hK K
    refine wpAnyH_ready (rs := [12]) (by kernel_rfl) (by simp) ?_
    refine AllReadyH.cons rfl (fun K hK => ?_) AllReadyH.nil
    go_simp
    refine (HRL.out z1' HD1.out.1.bk HD1.out.1.hw HD1.out.1.lw).mono ?_
    rintro x z2' ⟨rfl, hbk, hkp⟩
    have HD2 : Hid (SB W z2' (some ⟨b, off, none⟩) l lo hi P U3 ∧ PBox z2' b off (k, v)) := Lib.hid ⟨HD1.out.1.keeps hkp hbk, by
      have hbb := hkp.block b HD1.out.2.2 (fun h => by have := HBL.out; omega)
      exact ⟨by rw [World.cell?_of_block hbb]; exact HD1.out.2.1.1, by rw [World.cell?_of_block hbb]; exact HD1.out.2.1.2⟩⟩
    clear hbk hkp HD1 hS0
    refine hK.out _ _ HD2.out.2 (fun hS0 => ?_)
    clear hK K
    refine wpAnyH_take (i := 13) (v := ?_) rfl (by kernel_rfl) (by kernel_rfl) (by kernel_rfl) (fun _ _ _ h => h) (Or.inl ⟨by kernel_rfl, ?_⟩) (by assumption) ?_
    rotate_left
    · intro w hSw; (try dsimp only at hSw); go_simp; (try with_reducible rfl)
    refine wpAnyH_take (i := 14) (v := ?_) rfl (by kernel_rfl) (by kernel_rfl) (by kernel_rfl) (fun _ _ _ h => h) (Or.inl ⟨by kernel_rfl, ?_⟩) (by assumption) ?_
    rotate_left
    · intro w hSw; (try dsimp only at hSw); go_simp; (try with_reducible rfl)
    refine wpAnyH_done (by kernel_rfl) ?_ _
    go_simp
    have el : (DL.toList != DL.toList) = false := by simp
    have el2 : (DL.toList == DL.toList) = true := by simp
    have HZ := Lib.hid HD2.out.1
    have HUZ : Hid (U3.length ≤ 83) := HU3
    clear HD2 HU3 hS0
    go_wp2_with fail
    refine (HPI.out _ HZ.out.o.pa HZ.out.o.ok).mono ?_
    rintro x w9 hpp
    obtain ⟨PA, pc, rfl, hpa, hb9, hge⟩ := PathPost.at hpp
    have H9 := Lib.hid (And.intro (HZ.out.below hb9) (And.intro hpa (fun g o e => Nat.le_trans HZ.out.hw (hge g o e))))
    clear hpp hpa hb9 hge HZ
    go_wp2_with fail
    refine (HRI.out _ w9 H9.out.1.pl H9.out.1.bk H9.out.1.hw H9.out.1.lw (by have := HUZ.out; omega)).mono ?_
    rintro x w10 ⟨PB, pd, rfl, hpb, hkp⟩
    have H10 : Hid (LO W w10 (some ⟨b, off, none⟩) l ∧ StrsAt w10 PA ps ∧ StrsAt w10 PB ps) := Lib.hid ⟨H9.out.1.o.keeps hkp H9.out.1.wlo, strs_keeps H9.out.2.1 hkp (fun g o e h => by have := H9.out.2.2 g o e; omega), hpb⟩
    clear hpb hkp H9
    go_wp2_with fail
    refine (HTX.out PA PB pc pd w10 H10.out.2.1 H10.out.2.2).mono ?_
    rintro x w11 ⟨rfl, hb11⟩
    have H11 := Lib.hid (H10.out.1.below hb11)
    clear hb11 H10
    go_wp2
    go_ret
    exact ⟨rfl, H11.out.bel⟩
theorem int_max {n : Int} (h : (Lit.int .i64 n).wf = true) : n ≤ 9223372036854775807 := by
  simp [Lit.wf, IntKind.min, IntKind.max, IntKind.signed, IntKind.bits] at h; omega
theorem merkleTells_walk (v0 : Value) (idx cnt : Int) (d : ByteArray) {W : World} (h0 : ∃ A cap l, v0 = .slice A l.length cap ∧ l.length ≤ cap ∧ PsLo W W.heap.size A l) (_ : (Lit.int .i64 idx).wf = true) (hc : (Lit.int .i64 cnt).wf = true) (_ : d.size ≤ maxLen) (w : World) (e : W = w) (hL : LaidOk w) :
    Calls Tryd.prog 3 #[v0, .int .i64 idx, .int .i64 cnt, .string d] w fun x w' => x = .returned (.bool true) ∧ Below w.heap.size w w' := by
  subst e
  obtain ⟨A, ca, l, rfl, hca, hA⟩ := h0
  by_cases hg : FewP l ∧ d.size ≤ 300
  · exact main A ca l idx cnt d W ⟨hA, hL, Below.refl _ _⟩ hg.1 hg.2 hca (int_max hc)
  · exact early A ca l idx cnt d W ⟨hA, hL, Below.refl _ _⟩ hg
end merkleTells
end Go.Proofs.YtnbapiddbcaolaaDoor
