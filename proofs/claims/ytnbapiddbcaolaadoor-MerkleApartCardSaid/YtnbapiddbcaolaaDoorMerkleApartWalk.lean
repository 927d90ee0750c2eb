/- carracklaw08.MerkleApart walked. Condition: the constants lie where they lie. -/
import Derived.WalkSpells
import Derived.WalkLawsBesides
import Derived.Outline
import Derived.Deep.QuietTactic
import Derived.BigQuiet
import Derived.Test.YtnbapiddbcaolaaDoorMkC
import Derived.Test.YtnbapiddbcaolaaDoorMkOpen
namespace Go.Proofs.YtnbapiddbcaolaaDoor
open Go.RowKit
set_option linter.unusedVariables false
namespace merkleApart
/-- the law's lists in memory, and the constants -/
structure LL (W w : World) (A B : Option Addr) (l m : List PairV) : Prop where
  a : PsLo W W.heap.size A l
  b : PsLo W W.heap.size B m
  laid : LaidOk W
  bel : Below W.heap.size W w
variable {W w w' : World} {A B : Option Addr} {l m : List PairV}
theorem LL.below (h : LL W w A B l m) (hb : Below w.heap.size w w') : LL W w' A B l m := ⟨h.a, h.b, h.laid, h.bel.trans (hb.mono h.bel.size)⟩
theorem LL.keeps {lo hi : Nat} (h : LL W w A B l m) (hk : Kq.Keeps (fun k => lo ≤ k ∧ k < hi) w w') (hlo : W.heap.size ≤ lo) : LL W w' A B l m :=
  ⟨h.a, h.b, h.laid, by
    have hb := h.bel
    exact ⟨hk.os.trans hb.os, hk.tape.trans hb.tape, hk.output.trans hb.output, Nat.le_trans hb.size hk.size, fun k hk' => by rw [hk.block k (Nat.lt_of_lt_of_le hk' hb.size) (fun h => by omega), hb.block k hk']⟩⟩
theorem PsLo.bel {W w : World} {A : Option Addr} {l : List PairV} (h : PsLo W W.heap.size A l) (hb : Below W.heap.size W w) : PsLo w W.heap.size A l := h.below hb
theorem PsLo.raise {w : World} {lo lo' : Nat} {A : Option Addr} {l : List PairV} (h : PsLo w lo A l) (hl : lo ≤ lo') : PsLo w lo' A l := fun j hj => by
  obtain ⟨b, off, rfl, h0, h1, h2, h3⟩ := h j hj
  exact ⟨b, off, rfl, Nat.lt_of_lt_of_le h0 hl, h1, h2, h3⟩
theorem LL.pa (h : LL W w A B l m) : PsAt w A l := (h.a.below h.bel).at
theorem LL.pb (h : LL W w A B l m) : PsAt w B m := (h.b.below h.bel).at
theorem LL.ok (h : LL W w A B l m) : LaidOk w := h.laid.later h.bel
theorem LL.loA (h : LL W w A B l m) {lo : Nat} (hl : W.heap.size ≤ lo) : PsLo w lo A l := PsLo.raise (h.a.below h.bel) hl
theorem LL.loB (h : LL W w A B l m) {lo : Nat} (hl : W.heap.size ≤ lo) : PsLo w lo B m := PsLo.raise (h.b.below h.bel) hl
/-- the guards say no -/
def Go_ (l m : List PairV) : Prop := FewP l ∧ FewP m ∧ chkE l = 0 ∧ chkE m = 0
set_option maxRecDepth 100000 in
set_option maxHeartbeats 4000000 in
theorem early (A B : Option Addr) (ca cb : Nat) (l m : List PairV) (W : World) (h : LL W W A B l m) (hno : ¬ Go_ l m) :
    Calls Tryd.prog 7 #[.slice A l.length ca, .slice B m.length cb] W fun x w' => x = .returned (.bool true) ∧ Below W.heap.size W w' := by
  have H := Lib.hid h
  have HNO := Lib.hid hno
  clear h hno
  go_enter Tryd.func7, Tryd.ntmps7
  go_wp2_with fail
  refine (awake08 W H.out.ok).mono ?_
  rintro x w1 ⟨rfl, b1⟩
  have H1 := Lib.hid (H.out.below b1)
  clear b1 H
  go_wp2_with fail
  refine (few08 l A ca w1 H1.out.pa).mono ?_
  rintro x w2 ⟨rfl, rfl⟩
  by_cases f1 : FewP l
  · rw [decide_eq_true f1]
    go_wp2_with fail
    refine (few08 m B cb w1 H1.out.pb).mono ?_
    rintro x w2 ⟨rfl, rfl⟩
    by_cases f2 : FewP m
    · rw [decide_eq_true f2]
      have HF := Lib.hid (And.intro f1 f2)
      clear f1 f2
      go_wp2_with fail
      refine (rk_check l A ca w1 H1.out.pa HF.out.1.1).mono ?_
      rintro x w3 ⟨rfl, b3⟩
      have H3 := Lib.hid (H1.out.below b3)
      clear b3 H1
      by_cases c1 : chkE l = 0
      · rw [c1]
        have HC1 := Lib.hid c1
        clear c1
        go_wp2_with fail
        refine (rk_check m B cb w3 H3.out.pb HF.out.2.1).mono ?_
        rintro x w4 ⟨rfl, b4⟩
        have H4 := Lib.hid (H3.out.below b4)
        clear b4 H3
        have c2 : (chkE m != 0) = true := by
          rw [bne_iff_ne]; exact fun h => HNO.out ⟨HF.out.1, HF.out.2, HC1.out, h⟩
        generalize chkE m = cm at *
        go_wp2
        go_ret
        exact ⟨rfl, H4.out.bel⟩
      · have c1' : (chkE l != 0) = true := by rw [bne_iff_ne]; exact c1
        generalize chkE l = cl at *
        clear c1
        go_wp2
        go_ret
        exact ⟨rfl, H3.out.bel⟩
    · rw [decide_eq_false f2]
      clear f1 f2
      go_wp2
      go_ret
      exact ⟨rfl, H1.out.bel⟩
  · rw [decide_eq_false f1]
    clear f1
    go_wp2
    go_ret
    exact ⟨rfl, H1.out.bel⟩
def rootT (l : List PairV) : ByteArray := dgT (topT l.length (digL l))
theorem root_apart (l m : List PairV) (hl : Small l) (hm : Small m) (h1 : l.length ≤ 1000) (h2 : m.length ≤ 1000) (hr : rootT l = rootT m) (hne : l ≠ m) : Clash (askR m ++ (askR l ++ [])) := by
  unfold rootT at hr
  rcases apart_or (topT l.length (digL l)) (topT m.length (digL m)) (askR m ++ (askR l ++ [])) (by simp [askR]) (by simp [askR]) hr with e | e
  · obtain ⟨e1, e2⟩ := topT_inj e (by unfold M64; omega) (by unfold M64; omega)
    rcases apart l.length l m (Nat.le_refl _) e1 hl hm e2 with g | g
    · exact absurd g hne
    · exact g.mono (fun t ht => by
        rcases List.mem_append.1 ht with h | h <;> simp [askR, h])
  · exact e
theorem small_of {l : List PairV} (h : FewP l) (hc : chkE l = 0) : Small l := fun p hp => by have := chk_small hc p hp; omega
theorem askR_len (l : List PairV) : (askR l).length ≤ 2 * l.length + 1 := by
  unfold askR
  by_cases h : 1 ≤ l.length
  · have := askL_len _ l (Nat.le_refl _) h
    rw [List.length_cons]; omega
  · obtain rfl : l = [] := List.eq_nil_of_length_eq_zero (by omega)
    simp [askL, askF]
set_option maxRecDepth 100000 in
set_option maxHeartbeats 1000000 in
theorem apartLen (A B : Option Addr) (ca cb : Nat) (l m : List PairV) (W : World) (h : LL W W A B l m) (hyes : Go_ l m) (hca : l.length ≤ ca) (hcb : m.length ≤ cb) (hne : l.length ≠ m.length) :
    Calls Tryd.prog 7 #[.slice A l.length ca, .slice B m.length cb] W fun x w' => x = .returned (.bool true) ∧ Below W.heap.size W w' := by
  have H := Lib.hid h
  have HY := Lib.hid hyes
  have HCA := Lib.hid (And.intro hca hcb)
  have d1 : Hid (decide (FewP l) = true) := Lib.hid (decide_eq_true hyes.1)
  have d2 : Hid (decide (FewP m) = true) := Lib.hid (decide_eq_true hyes.2.1)
  have HL40 := Lib.hid (show l.length ≤ 40 ∧ m.length ≤ 40 from ⟨hyes.1.1, hyes.2.1.1⟩)
  clear h hyes hca hcb
  go_enter Tryd.func7, Tryd.ntmps7
  go_wp2_with fail
  refine (awake08 W H.out.ok).mono ?_
  rintro x w1 ⟨rfl, b1⟩
  have H1 := Lib.hid (H.out.below b1)
  clear b1 H
  go_wp2_with fail
  refine (few08 l A ca w1 H1.out.pa).mono ?_
  rintro x w2 ⟨rfl, rfl⟩
  rw [d1.out]
  go_wp2_with fail
  refine (few08 m B cb w1 H1.out.pb).mono ?_
  rintro x w2 ⟨rfl, rfl⟩
  rw [d2.out]
  go_wp2_with fail
  refine (rk_check l A ca w1 H1.out.pa HL40.out.1).mono ?_
  rintro x w3 ⟨rfl, b3⟩
  rw [HY.out.2.2.1]
  have H3 := Lib.hid (H1.out.below b3)
  clear b3 H1
  go_wp2_with fail
  refine (rk_check m B cb w3 H3.out.pb HL40.out.2).mono ?_
  rintro x w4 ⟨rfl, b4⟩
  rw [HY.out.2.2.2]
  have H4 := Lib.hid (H3.out.below b4)
  clear b4 H3
  have q1 : ((l.length : Int) == (m.length : Int)) = false := by rw [beq_eq_false_iff_ne]; omega
  have HNE : Hid (l ≠ m) := Lib.hid (fun e => hne (by rw [e]))
  clear hne
  go_wp2
  go_loop [5, 6] (fun b i => b = .bool false ∧ i = .int .i64 0) (fun _ _ => 0)
  case atStart => exact ⟨rfl, rfl⟩
  case round =>
    obtain ⟨rfl, rfl⟩ := hrel
    clear q1
    go_wp2_with fail
    refine (mk_root l A ca _ (by have := HL40.out.1; omega) HY.out.1.fit H4.out.pa H4.out.ok HCA.out.1).mono ?_
    rintro x w6 ⟨rfl, b6⟩
    have H6 := Lib.hid (H4.out.below b6)
    clear b6 H4
    have hrl : dgT (topT l.length (digL l)) = rootT l := rfl
    rw [hrl]
    clear hrl
    go_wp2_with fail
    refine (mk_root m B cb _ (by have := HL40.out.2; omega) HY.out.2.1.fit H6.out.pb H6.out.ok HCA.out.2).mono ?_
    rintro x w7 ⟨rfl, b7⟩
    have H7 := Lib.hid (H6.out.below b7)
    clear b7 H6
    have hrm : dgT (topT m.length (digL m)) = rootT m := rfl
    rw [hrm]
    clear hrm
    by_cases hs : rootT l = rootT m
    · have HCL := Lib.hid (root_apart l m (small_of HY.out.1 HY.out.2.2.1) (small_of HY.out.2.1 HY.out.2.2.2) (by have := HL40.out.1; omega) (by have := HL40.out.2; omega) hs HNE.out)
      have hs' : ((rootT l).toList == (rootT m).toList) = true := by rw [hs]; simp
      clear hs
      generalize rootT l = RL at *
      generalize rootT m = RM at *
      go_wp2_with fail
      refine (r_booknewW w7).mono ?_
      rintro x w8 ⟨P, rfl, hbk, hb8⟩
      have H8 := Lib.hid (show LL W w8 A B l m ∧ BookW w8 w7.heap.size w8.heap.size P [] ∧ W.heap.size ≤ w7.heap.size ∧ w7.heap.size ≤ w8.heap.size from ⟨H7.out.below hb8, hbk, H7.out.bel.size, hb8.size⟩)
      clear hbk hb8 H7
      obtain ⟨hi, hhi⟩ : ∃ hi, hi = w8.heap.size := ⟨_, rfl⟩
      have HHI := Lib.hid hhi
      clear hhi
      go_wp2_with fail
      refine (rk_root w7.heap.size hi P [] l A ca w8 (by have := HL40.out.1; omega) HY.out.1.fit (H8.out.1.loA H8.out.2.2.1) (by rw [HHI.out]; exact H8.out.2.1) (by rw [HHI.out]; exact Nat.le_refl _) H8.out.2.2.2 HCA.out.1 (by have := HL40.out.1; simp; omega)).mono ?_
      rintro x w9 ⟨rfl, hbk, hkp⟩
      have H9 := Lib.hid (show LL W w9 A B l m ∧ BookW w9 w7.heap.size hi P (askR l ++ []) ∧ W.heap.size ≤ w7.heap.size ∧ w7.heap.size ≤ w9.heap.size ∧ hi ≤ w9.heap.size from ⟨H8.out.1.keeps hkp H8.out.2.2.1, hbk, H8.out.2.2.1, Nat.le_trans H8.out.2.2.2 hkp.size, by rw [HHI.out]; exact hkp.size⟩)
      clear hbk hkp H8
      go_wp2_with fail
      refine (rk_root w7.heap.size hi P (askR l ++ []) m B cb w9 (by have := HL40.out.2; omega) HY.out.2.1.fit (H9.out.1.loB H9.out.2.2.1) H9.out.2.1 H9.out.2.2.2.2 H9.out.2.2.2.1 HCA.out.2 (by have h1 := HL40.out.1; have h2 := HL40.out.2; have h3 := askR_len l; rw [List.append_nil]; omega)).mono ?_
      rintro x w10 ⟨rfl, hbk, hkp⟩
      have H10 := Lib.hid (show LL W w10 A B l m from H9.out.1.keeps hkp H9.out.2.2.1)
      have c3 : w10.cell? ⟨P, 3, none⟩ = some (.bool true) := by
        obtain ⟨t, ht, u, hu, hd, hne⟩ := HCL.out
        exact book_markedW hbk ht hu hd hne
      clear hbk hkp H9 HCL
      go_wp2
      go_ret
      exact ⟨rfl, H10.out.bel⟩
    · have hs' : ((rootT l).toList == (rootT m).toList) = false := by
        rw [beq_eq_false_iff_ne]
        intro e
        rw [Lib.toList_data, Lib.toList_data] at e
        exact hs (ByteArray.ext (Array.toList_inj.1 e))
      clear hs
      generalize rootT l = RL at *
      generalize rootT m = RM at *
      go_wp2
      go_ret
      exact ⟨rfl, H7.out.bel⟩
set_option maxRecDepth 100000 in
set_option maxHeartbeats 1000000 in
theorem same (A B : Option Addr) (ca cb : Nat) (l : List PairV) (W : World) (h : LL W W A B l l) (hyes : Go_ l l) (hca : l.length ≤ ca) (hcb : l.length ≤ cb)  :
    Calls Tryd.prog 7 #[.slice A l.length ca, .slice B l.length cb] W fun x w' => x = .returned (.bool true) ∧ Below W.heap.size W w' := by
  have H := Lib.hid h
  have HY := Lib.hid hyes
  have HCA := Lib.hid (And.intro hca hcb)
  have d1 : Hid (decide (FewP l) = true) := Lib.hid (decide_eq_true hyes.1)
  have d2 : Hid (decide (FewP l) = true) := Lib.hid (decide_eq_true hyes.2.1)
  have HL40 := Lib.hid (show l.length ≤ 40 ∧ l.length ≤ 40 from ⟨hyes.1.1, hyes.2.1.1⟩)
  clear h hyes hca hcb
  go_enter Tryd.func7, Tryd.ntmps7
  go_wp2_with fail
  refine (awake08 W H.out.ok).mono ?_
  rintro x w1 ⟨rfl, b1⟩
  have H1 := Lib.hid (H.out.below b1)
  clear b1 H
  go_wp2_with fail
  refine (few08 l A ca w1 H1.out.pa).mono ?_
  rintro x w2 ⟨rfl, rfl⟩
  rw [d1.out]
  go_wp2_with fail
  refine (few08 l B cb w1 H1.out.pb).mono ?_
  rintro x w2 ⟨rfl, rfl⟩
  rw [d2.out]
  go_wp2_with fail
  refine (rk_check l A ca w1 H1.out.pa HL40.out.1).mono ?_
  rintro x w3 ⟨rfl, b3⟩
  rw [HY.out.2.2.1]
  have H3 := Lib.hid (H1.out.below b3)
  clear b3 H1
  go_wp2_with fail
  refine (rk_check l B cb w3 H3.out.pb HL40.out.2).mono ?_
  rintro x w4 ⟨rfl, b4⟩
  rw [HY.out.2.2.2]
  have H4 := Lib.hid (H3.out.below b4)
  clear b4 H3
  have q1 : ((l.length : Int) == (l.length : Int)) = true := by simp
  go_wp2
  go_loopw [5, 6] (fun b i wr => ∃ j : Nat, j ≤ l.length ∧ b = .bool true ∧ i = .int .i64 (j : Int) ∧ LL W wr A B l l) (fun _ i _ => l.length - (intOf i).toNat)
  case atStart => exact ⟨0, by omega, rfl, rfl, H4.out⟩
  case round =>
    obtain ⟨j, hj, rfl, rfl, hll⟩ := hrel
    have H5 := Lib.hid hll
    have hl40 := HL40.out.1
    by_cases hlt : j < l.length
    · obtain ⟨b, off, rfl, hb, c0, c1⟩ := hll.pa j hlt
      obtain ⟨b2, off2, rfl, hb2, e0, e1⟩ := hll.pb j hlt
      obtain ⟨p, hp⟩ : ∃ p, p = l[j] := ⟨_, rfl⟩
      rw [← hp] at c0 c1 e0 e1
      have hi0 : (j : Int) < (l.length : Int) := by omega
      have hi1 : decide ((j : Int) < (l.length : Int)) = true := decide_eq_true hi0
      have hi2 : decide (j < l.length) = true := decide_eq_true hlt
      have HLT := Lib.hid hlt
      clear hll hb hb2 hp
      obtain ⟨k, v⟩ := p
      simp only at c0 c1 e0 e1
      have x1 : (k.toList == k.toList) = true := by simp
      have x2 : (v.toList == v.toList) = true := by simp
      go_wp2
      go_quiet (fail)
      generalize hwq : wr.drewN nq = wq
      have HQ : Hid (LL W wq _ _ l l) := Lib.hid (H5.out.below (by rw [← hwq]; exact below_drewN (Below.refl _ _) nq))
      clear hwq c0 c1 e0 e1 H5
      go_wp2
      go_roundw
      case rel => exact ⟨j + 1, HLT.out, by first | rfl | simp, by go_num, HQ.out⟩
      case measure => have := HLT.out; simp [intOf]; omega
    · obtain rfl : j = l.length := by omega
      have hi1 : decide ((l.length : Int) < (l.length : Int)) = false := decide_eq_false (by omega)
      have hi2 : decide (l.length < l.length) = false := decide_eq_false hlt
      clear hll hlt
      go_wp2_with fail
      refine (mk_root l A ca _ (by have := HL40.out.1; omega) HY.out.1.fit H5.out.pa H5.out.ok HCA.out.1).mono ?_
      rintro x w6 ⟨rfl, b6⟩
      have H6 := Lib.hid (H5.out.below b6)
      clear b6 H5
      have hrl : dgT (topT l.length (digL l)) = rootT l := rfl
      rw [hrl]
      clear hrl
      go_wp2_with fail
      refine (mk_root l B cb _ (by have := HL40.out.2; omega) HY.out.2.1.fit H6.out.pb H6.out.ok HCA.out.2).mono ?_
      rintro x w7 ⟨rfl, b7⟩
      have H7 := Lib.hid (H6.out.below b7)
      clear b7 H6
      have hrm : dgT (topT l.length (digL l)) = rootT l := rfl
      rw [hrm]
      clear hrm
      have x1 : ((rootT l).toList == (rootT l).toList) = true := by simp
      generalize rootT l = RL at *
      go_wp2
      go_ret
      exact ⟨rfl, H7.out.bel⟩
set_option maxRecDepth 100000 in
set_option maxHeartbeats 1000000 in
theorem apartOne (A B : Option Addr) (ca cb : Nat) (l m : List PairV) (W : World) (h : LL W W A B l m) (hyes : Go_ l m) (hca : l.length ≤ ca) (hcb : m.length ≤ cb) (hlen : l.length = m.length) (hne : l ≠ m) :
    Calls Tryd.prog 7 #[.slice A l.length ca, .slice B m.length cb] W fun x w' => x = .returned (.bool true) ∧ Below W.heap.size W w' := by
  have H := Lib.hid h
  have HY := Lib.hid hyes
  have HCA := Lib.hid (And.intro hca hcb)
  have d1 : Hid (decide (FewP l) = true) := Lib.hid (decide_eq_true hyes.1)
  have d2 : Hid (decide (FewP m) = true) := Lib.hid (decide_eq_true hyes.2.1)
  have HL40 := Lib.hid (show l.length ≤ 40 ∧ m.length ≤ 40 from ⟨hyes.1.1, hyes.2.1.1⟩)
  have HNE := Lib.hid hne
  have HLEN := Lib.hid hlen
  clear h hyes hca hcb hne hlen
  go_enter Tryd.func7, Tryd.ntmps7
  go_wp2_with fail
  refine (awake08 W H.out.ok).mono ?_
  rintro x w1 ⟨rfl, b1⟩
  have H1 := Lib.hid (H.out.below b1)
  clear b1 H
  go_wp2_with fail
  refine (few08 l A ca w1 H1.out.pa).mono ?_
  rintro x w2 ⟨rfl, rfl⟩
  rw [d1.out]
  go_wp2_with fail
  refine (few08 m B cb w1 H1.out.pb).mono ?_
  rintro x w2 ⟨rfl, rfl⟩
  rw [d2.out]
  go_wp2_with fail
  refine (rk_check l A ca w1 H1.out.pa HL40.out.1).mono ?_
  rintro x w3 ⟨rfl, b3⟩
  rw [HY.out.2.2.1]
  have H3 := Lib.hid (H1.out.below b3)
  clear b3 H1
  go_wp2_with fail
  refine (rk_check m B cb w3 H3.out.pb HL40.out.2).mono ?_
  rintro x w4 ⟨rfl, b4⟩
  rw [HY.out.2.2.2]
  have H4 := Lib.hid (H3.out.below b4)
  clear b4 H3
  have q1 : ((l.length : Int) == (m.length : Int)) = true := by have := HLEN.out; rw [beq_iff_eq]; omega
  go_wp2
  go_loopw [5, 6] (fun b i wr => ∃ j : Nat, j ≤ l.length ∧ i = .int .i64 (j : Int) ∧ LL W wr A B l m ∧ ((b = .bool false) ∨ (b = .bool true ∧ l.take j = m.take j))) (fun _ i _ => l.length - (intOf i).toNat)
  case atStart => exact ⟨0, by omega, rfl, H4.out, Or.inr ⟨rfl, rfl⟩⟩
  case round =>
    obtain ⟨j, hj, rfl, hll, hc⟩ := hrel
    have H5 := Lib.hid hll
    have hl40 := HL40.out.1
    clear q1
    rcases hc with rfl | ⟨rfl, hpre⟩
    case inl =>
      clear hll
      go_wp2_with fail
      refine (mk_root l A ca _ (by have := HL40.out.1; omega) HY.out.1.fit H5.out.pa H5.out.ok HCA.out.1).mono ?_
      rintro x w6 ⟨rfl, b6⟩
      have H6 := Lib.hid (H5.out.below b6)
      clear b6 H5
      have hrl : dgT (topT l.length (digL l)) = rootT l := rfl
      rw [hrl]
      clear hrl
      go_wp2_with fail
      refine (mk_root m B cb _ (by have := HL40.out.2; omega) HY.out.2.1.fit H6.out.pb H6.out.ok HCA.out.2).mono ?_
      rintro x w7 ⟨rfl, b7⟩
      have H7 := Lib.hid (H6.out.below b7)
      clear b7 H6
      have hrm : dgT (topT m.length (digL m)) = rootT m := rfl
      rw [hrm]
      clear hrm
      by_cases hs : rootT l = rootT m
      · have HCL := Lib.hid (root_apart l m (small_of HY.out.1 HY.out.2.2.1) (small_of HY.out.2.1 HY.out.2.2.2) (by have := HL40.out.1; omega) (by have := HL40.out.2; omega) hs HNE.out)
        have hs' : ((rootT l).toList == (rootT m).toList) = true := by rw [hs]; simp
        clear hs
        generalize rootT l = RL at *
        generalize rootT m = RM at *
        go_wp2_with fail
        refine (r_booknewW w7).mono ?_
        rintro x w8 ⟨P, rfl, hbk, hb8⟩
        have H8 := Lib.hid (show LL W w8 A B l m ∧ BookW w8 w7.heap.size w8.heap.size P [] ∧ W.heap.size ≤ w7.heap.size ∧ w7.heap.size ≤ w8.heap.size from ⟨H7.out.below hb8, hbk, H7.out.bel.size, hb8.size⟩)
        clear hbk hb8 H7
        obtain ⟨hi, hhi⟩ : ∃ hi, hi = w8.heap.size := ⟨_, rfl⟩
        have HHI := Lib.hid hhi
        clear hhi
        go_wp2_with fail
        refine (rk_root w7.heap.size hi P [] l A ca w8 (by have := HL40.out.1; omega) HY.out.1.fit (H8.out.1.loA H8.out.2.2.1) (by rw [HHI.out]; exact H8.out.2.1) (by rw [HHI.out]; exact Nat.le_refl _) H8.out.2.2.2 HCA.out.1 (by have := HL40.out.1; simp; omega)).mono ?_
        rintro x w9 ⟨rfl, hbk, hkp⟩
        have H9 := Lib.hid (show LL W w9 A B l m ∧ BookW w9 w7.heap.size hi P (askR l ++ []) ∧ W.heap.size ≤ w7.heap.size ∧ w7.heap.size ≤ w9.heap.size ∧ hi ≤ w9.heap.size from ⟨H8.out.1.keeps hkp H8.out.2.2.1, hbk, H8.out.2.2.1, Nat.le_trans H8.out.2.2.2 hkp.size, by rw [HHI.out]; exact hkp.size⟩)
        clear hbk hkp H8
        go_wp2_with fail
        refine (rk_root w7.heap.size hi P (askR l ++ []) m B cb w9 (by have := HL40.out.2; omega) HY.out.2.1.fit (H9.out.1.loB H9.out.2.2.1) H9.out.2.1 H9.out.2.2.2.2 H9.out.2.2.2.1 HCA.out.2 (by have h1 := HL40.out.1; have h2 := HL40.out.2; have h3 := askR_len l; rw [List.append_nil]; omega)).mono ?_
        rintro x w10 ⟨rfl, hbk, hkp⟩
        have H10 := Lib.hid (show LL W w10 A B l m from H9.out.1.keeps hkp H9.out.2.2.1)
        have c3 : w10.cell? ⟨P, 3, none⟩ = some (.bool true) := by
          obtain ⟨t, ht, u, hu, hd, hne⟩ := HCL.out
          exact book_markedW hbk ht hu hd hne
        clear hbk hkp H9 HCL
        go_wp2
        go_ret
        exact ⟨rfl, H10.out.bel⟩
      · have hs' : ((rootT l).toList == (rootT m).toList) = false := by
          rw [beq_eq_false_iff_ne]
          intro e
          rw [Lib.toList_data, Lib.toList_data] at e
          exact hs (ByteArray.ext (Array.toList_inj.1 e))
        clear hs
        generalize rootT l = RL at *
        generalize rootT m = RM at *
        go_wp2
        go_ret
        exact ⟨rfl, H7.out.bel⟩
    case inr =>
      have hlt : j < l.length := by
        refine Nat.lt_of_not_le fun h => HNE.out ?_
        have e := hpre
        rwa [List.take_of_length_le h, List.take_of_length_le (by have := HLEN.out; omega)] at e
      have hlt2 : j < m.length := by have := HLEN.out; omega
      obtain ⟨b, off, rfl, hb, c0, c1⟩ := hll.pa j hlt
      obtain ⟨b2, off2, rfl, hb2, e0, e1⟩ := hll.pb j hlt2
      obtain ⟨p, hp⟩ : ∃ p, p = l[j] := ⟨_, rfl⟩
      obtain ⟨q, hq⟩ : ∃ q, q = m[j] := ⟨_, rfl⟩
      rw [← hp] at c0 c1
      rw [← hq] at e0 e1
      have hi0 : (j : Int) < (l.length : Int) := by omega
      have hi3 : (j : Int) < (m.length : Int) := by omega
      have hi1 : decide ((j : Int) < (l.length : Int)) = true := decide_eq_true hi0
      have hi2 : decide (j < l.length) = true := decide_eq_true hlt
      have HLT := Lib.hid hlt
      have HPR : Hid (p = q → l.take (j + 1) = m.take (j + 1)) := Lib.hid (fun e => by
        rw [List.take_succ_eq_append_getElem hlt, List.take_succ_eq_append_getElem hlt2, hpre, ← hp, ← hq, e])
      clear hll hb hb2 hp hq hpre
      obtain ⟨k, v⟩ := p
      obtain ⟨k2, v2⟩ := q
      simp only at c0 c1 e0 e1
      by_cases hk : k = k2
      · have x1 : (k.toList == k2.toList) = true := by rw [hk]; simp
        by_cases hv : v = v2
        · have x2 : (v.toList == v2.toList) = true := by rw [hv]; simp
          have HPS : Hid (l.take (j + 1) = m.take (j + 1)) := Lib.hid (HPR.out (by rw [hk, hv]))
          clear hk hv
          go_wp2
          go_quiet (fail)
          generalize hwq : wr.drewN nq = wq
          have HQ : Hid (LL W wq _ _ l m) := Lib.hid (H5.out.below (by rw [← hwq]; exact below_drewN (Below.refl _ _) nq))
          clear hwq c0 c1 e0 e1 H5
          go_wp2
          go_roundw
          case rel => exact ⟨j + 1, HLT.out, by go_num, HQ.out, Or.inr ⟨by first | rfl | simp, HPS.out⟩⟩
          case measure => have := HLT.out; simp [intOf]; omega
        · have x2 : (v.toList == v2.toList) = false := by
            rw [beq_eq_false_iff_ne]
            intro e
            rw [Lib.toList_data, Lib.toList_data] at e
            exact hv (ByteArray.ext (Array.toList_inj.1 e))
          clear hv hk
          go_wp2
          go_quiet (fail)
          generalize hwq : wr.drewN nq = wq
          have HQ : Hid (LL W wq _ _ l m) := Lib.hid (H5.out.below (by rw [← hwq]; exact below_drewN (Below.refl _ _) nq))
          clear hwq c0 c1 e0 e1 H5
          go_wp2
          go_roundw
          case rel => exact ⟨j + 1, HLT.out, by go_num, HQ.out, Or.inl (by first | rfl | simp)⟩
          case measure => have := HLT.out; simp [intOf]; omega
      · have x1 : (k.toList == k2.toList) = false := by
          rw [beq_eq_false_iff_ne]
          intro e
          rw [Lib.toList_data, Lib.toList_data] at e
          exact hk (ByteArray.ext (Array.toList_inj.1 e))
        clear hk
        go_wp2
        go_quiet (fail)
        generalize hwq : wr.drewN nq = wq
        have HQ : Hid (LL W wq _ _ l m) := Lib.hid (H5.out.below (by rw [← hwq]; exact below_drewN (Below.refl _ _) nq))
        clear hwq c0 c1 e0 e1 H5
        go_wp2
        go_roundw
        case rel => exact ⟨j + 1, HLT.out, by go_num, HQ.out, Or.inl (by first | rfl | simp)⟩
        case measure => have := HLT.out; simp [intOf]; omega
theorem merkleApart_walk (v0 v1 : Value) {W : World} (h0 : ∃ A cap l, v0 = .slice A l.length cap ∧ l.length ≤ cap ∧ PsLo W W.heap.size A l) (h1 : ∃ A cap l, v1 = .slice A l.length cap ∧ l.length ≤ cap ∧ PsLo W W.heap.size A l) (w : World) (e : W = w) (hL : LaidOk w) :
    Calls Tryd.prog 7 #[v0, v1] w fun x w' => x = .returned (.bool true) ∧ Below w.heap.size w w' := by
  subst e
  obtain ⟨A, ca, l, rfl, hca, hA⟩ := h0
  obtain ⟨B, cb, m, rfl, hcb, hB⟩ := h1
  have h : LL W W A B l m := ⟨hA, hB, hL, Below.refl _ _⟩
  by_cases hg : Go_ l m
  · by_cases he : l = m
    · subst he
      exact same A B ca cb l W h hg hca hcb
    · by_cases hl : l.length = m.length
      · exact apartOne A B ca cb l m W h hg hca hcb hl he
      · exact apartLen A B ca cb l m W h hg hca hcb hl
  · exact early A B ca cb l m W h hg
end merkleApart
end Go.Proofs.YtnbapiddbcaolaaDoor
