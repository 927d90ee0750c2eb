/- carracklaw11.StoreBack walked. Condition: the constants lie where they lie. -/
import Derived.WalkSpells
import Derived.Outline
import Derived.Deep.QuietTactic
import Derived.BigQuiet
import Derived.Test.YtcknhnbckbocjaaDoorStTwoQ
namespace Go.Proofs.YtcknhnbckbocjaaDoor
open Go.RowKit
set_option linter.unusedVariables false
namespace storeBack
def Yes (f : Nat) (l : List ActV) (k v : ByteArray) : Prop := Few11 l ∧ k.size ≤ 300 ∧ v.size ≤ 300 ∧ f ≤ 4611686018427387904
set_option maxRecDepth 100000 in
set_option maxHeartbeats 1000000 in
theorem early (f : Nat) (k v : ByteArray) (A : Option Addr) (ca : Nat) (l : List ActV) (W : World) (h : Gr W W A l) (hno : ¬ Yes f l k v) :
    Calls Tryd.prog 6 #[.int .u64 (f : Int), .slice A l.length ca, .string k, .string v] W fun x w' => x = .returned (.bool true) ∧ Below W.heap.size W w' := by
  have HG := Lib.hid (And.intro h hno)
  clear h hno
  go_enter Tryd.func6, Tryd.ntmps6
  go_wp2_with fail
  refine (awake11 W).mono ?_
  rintro x w1 ⟨rfl, b1⟩
  have H1 := Lib.hid (HG.out.1.far b1)
  clear b1
  go_wp2_with fail
  refine (few11 l A ca w1 H1.out.at).mono ?_
  rintro x w1 ⟨rfl, rfl⟩
  by_cases f1 : Few11 l
  · rw [decide_eq_true f1]
    by_cases k1 : 300 < k.size
    · have d1 : decide ((300 : Int) < (k.size : Int)) = true := decide_eq_true (by omega)
      have d1' : decide (300 < k.size) = true := decide_eq_true k1
      clear f1 k1
      go_wp2
      go_ret
      exact ⟨rfl, H1.out.bel⟩
    have d1 : decide ((300 : Int) < (k.size : Int)) = false := decide_eq_false (by omega)
    have d1' : decide (300 < k.size) = false := decide_eq_false k1
    by_cases v1 : 300 < v.size
    · have d2 : decide ((300 : Int) < (v.size : Int)) = true := decide_eq_true (by omega)
      have d2' : decide (300 < v.size) = true := decide_eq_true v1
      clear f1 k1 v1
      go_wp2
      go_ret
      exact ⟨rfl, H1.out.bel⟩
    have d2 : decide ((300 : Int) < (v.size : Int)) = false := decide_eq_false (by omega)
    have d2' : decide (300 < v.size) = false := decide_eq_false v1
    have g1 : 4611686018427387904 < f := Nat.lt_of_not_le (fun h => HG.out.2 ⟨f1, by omega, by omega, h⟩)
    have d3 : decide ((4611686018427387904 : Int) < (f : Int)) = true := decide_eq_true (by omega)
    have d3' : decide (4611686018427387904 < f) = true := decide_eq_true g1
    clear f1 k1 v1 g1
    go_wp2
    go_ret
    exact ⟨rfl, H1.out.bel⟩
  · rw [decide_eq_false f1]
    clear f1
    go_wp2
    go_ret
    exact ⟨rfl, H1.out.bel⟩
/-- what a round keeps -/
def Rnd (W w : World) (A : Option Addr) (l : List ActV) (f B1 B2 C1 C2 j : Nat) : Prop := Gr W w A l ∧ Quad W.heap.size w B1 B2 C1 C2 (runV f l j) (runV f l j)
set_option maxRecDepth 100000 in
set_option maxHeartbeats 2000000 in
theorem main (f : Nat) (k v : ByteArray) (A : Option Addr) (ca : Nat) (l : List ActV) (W : World) (h : Gr W W A l) (hyes : Yes f l k v) :
    Calls Tryd.prog 6 #[.int .u64 (f : Int), .slice A l.length ca, .string k, .string v] W fun x w' => x = .returned (.bool true) ∧ Below W.heap.size W w' := by
  have HG := Lib.hid (And.intro h hyes)
  have hk := hyes.2.1
  have hv := hyes.2.2.1
  have hf := hyes.2.2.2
  have d0 := decide_eq_true hyes.1
  have d1 : decide ((300 : Int) < (k.size : Int)) = false := decide_eq_false (by omega)
  have d1' : decide (300 < k.size) = false := decide_eq_false (by omega)
  have d2 : decide ((300 : Int) < (v.size : Int)) = false := decide_eq_false (by omega)
  have d2' : decide (300 < v.size) = false := decide_eq_false (by omega)
  have d3 : decide ((4611686018427387904 : Int) < (f : Int)) = false := decide_eq_false (by omega)
  have d3' : decide (4611686018427387904 < f) = false := decide_eq_false (by omega)
  have HF : Hid (f < 18446744073709551616) := Lib.hid (by omega)
  have HL : Hid (l.length ≤ 60) := Lib.hid hyes.1.1
  clear h hyes hk hv hf
  go_enter Tryd.func6, Tryd.ntmps6
  go_wp2_with fail
  refine (awake11 W).mono ?_
  rintro x w1 ⟨rfl, b1⟩
  have H1 := Lib.hid (HG.out.1.far b1)
  clear b1
  go_wp2_with fail
  refine (few11 l A ca w1 H1.out.at).mono ?_
  rintro x w1 ⟨rfl, rfl⟩
  rw [d0]
  go_wp2_with fail
  refine (st_new f w1).mono ?_
  rintro x w2 ⟨B1, rfl, p2, b2⟩
  have H2 := Lib.hid (And.intro p2 (H1.out.far b2))
  clear p2 b2 d0 d1 d1' d2 d2' d3 d3'
  go_wp2_with fail
  refine (st_new f w2).mono ?_
  rintro x w3 ⟨C1, rfl, p3, b3⟩
  have H3 : Hid (St2 W.heap.size w3 B1 C1 (newV f) (newV f) ∧ Gr W w3 A l) := Lib.hid ⟨St2.made H2.out.1 (fun k hk => ⟨Nat.le_trans H1.out.size hk.1, hk.2⟩) H2.out.2.size b3 p3, H2.out.2.far b3⟩
  clear p3 b3 H2 H1
  go_wp2_with fail
  refine (sr_new f w3).mono ?_
  rintro x w4 ⟨B2, rfl, p4, b4⟩
  have H4 := Lib.hid (And.intro p4 (And.intro b4 (H3.out.2.far b4)))
  clear p4 b4
  go_wp2_with fail
  refine (sr_new f w4).mono ?_
  rintro x w5 ⟨C2, rfl, p5, b5⟩
  have H5 : Hid (Rnd W w5 A l f B1 B2 C1 C2 0) := Lib.hid ⟨H4.out.2.2.far b5, Quad.made H3.out.1 H3.out.2.size H4.out.1 H4.out.2.1 p5 b5⟩
  clear p5 b5 H4 H3
  go_wp2
  go_loopw [13] (fun i wr => ∃ j : Nat, j ≤ l.length ∧ i = .int .i64 (j : Int) ∧ Rnd W wr A l f B1 B2 C1 C2 j) (fun i _ => l.length - (intOf i).toNat)
  case atStart => exact ⟨0, by omega, rfl, H5.out⟩
  case round =>
    obtain ⟨j, hj, rfl, hr⟩ := hrel
    have HR := Lib.hid hr
    have h60 := HL.out
    clear hr H5
    by_cases hlt : j < l.length
    · obtain ⟨b, off, rfl, hc⟩ := HR.out.1.acts_ j hlt
      obtain ⟨a, ha⟩ : ∃ a, a = l[j] := ⟨_, rfl⟩
      rw [← ha] at hc
      have HA : Hid (a.k.size ≤ 300 ∧ a.v.size ≤ 300) := Lib.hid (by rw [ha]; exact HG.out.2.1.2 _ (List.getElem_mem hlt))
      have HC := Lib.hid hc
      have hi0 : (j : Int) < (l.length : Int) := by omega
      have HS := Lib.hid (runV_succ f l j hlt)
      rw [← ha] at HS
      have HLT := Lib.hid hlt
      have hj6 : j ≤ 60 := by omega
      clear hlt ha hc hj h60
      obtain ⟨s, hs⟩ : ∃ s, s = runV f l j := ⟨_, rfl⟩
      have HQ : Hid (StOk s ∧ runV f l (j + 1) = actV s a.kd a.k a.v ∧ Quad W.heap.size wr B1 B2 C1 C2 s s) := Lib.hid (by rw [hs]; exact ⟨runV_ok HF.out l j, HS.out, HR.out.2⟩)
      clear hs HS
      obtain ⟨c0, c1, c2⟩ := HC.out _ HR.out.1
      go_wp2_with fail
      refine (qd_do HQ.out.2.2 HR.out.1.size HQ.out.1 a HA.out.1 HA.out.2).mono ?_
      rintro x w5 ⟨rfl, p5, b5⟩
      have H5 := Lib.hid (And.intro p5 (HR.out.1.near b5))
      clear p5 b5 c0 c1 c2
      obtain ⟨c0, c1, c2⟩ := HC.out _ H5.out.2
      go_wp2_with fail
      refine (qd_do H5.out.1.swap H5.out.2.size HQ.out.1 a HA.out.1 HA.out.2).mono ?_
      rintro x w6 ⟨rfl, p6, b6⟩
      have H6 := Lib.hid (And.intro p6.swap (H5.out.2.near b6))
      clear p6 b6 c0 c1 c2 H5
      go_wp2
      go_roundw
      case rel => exact ⟨j + 1, HLT.out, by go_num, H6.out.2, by rw [HQ.out.2.1]; exact H6.out.1⟩
      case measure => have := HLT.out; simp [intOf]; omega
    · obtain rfl : j = l.length := by omega
      have d0 : decide ((l.length : Int) < (l.length : Int)) = false := decide_eq_false (by omega)
      clear hlt hj h60
      obtain ⟨s, hs⟩ : ∃ s, s = runV f l l.length := ⟨_, rfl⟩
      have HQ : Hid (StOk s ∧ St2 W.heap.size wr B1 C1 s s ∧ Gr W wr A l) := Lib.hid (by rw [hs]; exact ⟨runV_ok HF.out l _, HR.out.2.st2, HR.out.1⟩)
      clear hs HR
      have HK : Hid (k.size ≤ maxLen ∧ k.size ≤ 300 ∧ v.size ≤ 300) := Lib.hid (by have := HG.out.2; unfold Yes at this; unfold maxLen; omega)
      have HO1 := Lib.hid (setV_ok HQ.out.1 k v)
      go_wp2_with fail
      refine (s2_get HQ.out.2.1 k HK.out.1).mono ?_
      rintro x wr ⟨rfl, rfl⟩
      obtain ⟨u, hu⟩ : ∃ u, u = lk s.now k := ⟨_, rfl⟩
      rw [← hu]
      have HU := Lib.hid hu
      clear hu
      obtain ⟨g, hg⟩ : ∃ g, g = u.getD ⟨#[]⟩ := ⟨_, rfl⟩
      obtain ⟨q, hq⟩ : ∃ q, q = u.isSome := ⟨_, rfl⟩
      rw [← hg, ← hq]
      have HGQ := Lib.hid (And.intro hg hq)
      clear hg hq
      go_wp2_with fail
      refine (s2_set HQ.out.2.1 HQ.out.2.2.size HQ.out.1 k v HK.out.2.1 HK.out.2.2).mono ?_
      rintro x w6 ⟨rfl, p6, b6⟩
      have H6 := Lib.hid (And.intro p6 (HQ.out.2.2.near b6))
      clear p6 b6
      by_cases hz : (setV s k v).2 = 0
      · obtain ⟨hbk, hs1⟩ := setV_zero hz
        have HBK := Lib.hid hbk
        rw [hz]
        rw [hs1] at HO1 H6
        have HLK : Hid (lk (insP s.now k v) k = some v) := Lib.hid (by rw [lk_ins, if_pos rfl])
        obtain ⟨s1, hs1'⟩ : ∃ s1 : StV, s1 = { s with now := insP s.now k v } := ⟨_, rfl⟩
        rw [← hs1'] at HO1 H6
        have HS1 := Lib.hid hs1'
        clear hbk hs1 hz hs1'
        go_wp2_with fail
        refine (s2_get H6.out.1 k HK.out.1).mono ?_
        rintro x w6 ⟨rfl, rfl⟩
        have hlk : lk s1.now k = some v := by rw [HS1.out]; exact HLK.out
        rw [hlk]
        have HLK1 := Lib.hid hlk
        clear hlk
        have hvv : (v.toList == v.toList) = true := by simp
        cases q with
        | true =>
          have HGU : Hid (lk s.now k = some g) := Lib.hid (by
            have h1 := HU.out
            have h2 := HGQ.out
            cases u with
            | none => exact absurd (show true = false from h2.2) (by decide)
            | some y => rw [← h1, h2.1]; rfl)
          have HSET : Hid (setV s1 k g = (s, 0)) := Lib.hid (by
            have hm := HQ.out.1.now.2.2 _ (lk_mem _ _ _ HGU.out)
            rw [setV_there (badKV_of HBK.out hm.2.2) (by rw [HLK1.out]; simp), HS1.out]
            show (({ s with now := insP (insP s.now k v) k g } : StV), (0 : Int)) = (s, 0)
            rw [ins_back HQ.out.1.now.2.1 v HGU.out])
          have HGS : Hid (g.size ≤ 300) := Lib.hid (by have hm : g.size ≤ 64 := (HQ.out.1.now.2.2 _ (lk_mem _ _ _ HGU.out)).2.2; omega)
          go_wp2_with fail
          refine (s2_set H6.out.1 H6.out.2.size HO1.out k g HK.out.2.1 HGS.out).mono ?_
          rintro x w7 ⟨rfl, p7, b7⟩
          rw [HSET.out] at p7 ⊢
          have H7 : Hid (St2 W.heap.size w7 B1 C1 s s ∧ Gr W w7 A l) := Lib.hid ⟨p7, H6.out.2.near b7⟩
          clear p7 b7 H6 HSET HGU HGS HLK1 HS1 HO1
          obtain ⟨s2, n2, e2, hr2⟩ : ∃ s2 n2 e2, comV s = (s2, n2, e2) := ⟨_, _, _, rfl⟩
          have hcr : comR s = .tuple #[.int .u64 (n2 : Int), .int .i64 e2] := by unfold comR; rw [hr2]
          have HC2 : Hid (StOk s2 ∧ n2 < 18446744073709551616) := Lib.hid (by have h1 := comV_ok HQ.out.1; have h2 := comV_lt HQ.out.1; rw [hr2] at h1 h2; exact ⟨h1, h2⟩)
          have HR2 := Lib.hid (And.intro hr2 hcr)
          clear hr2 hcr
          go_wp2_with fail
          refine (s2_com H7.out.1 H7.out.2.size HQ.out.1).mono ?_
          rintro x w8 ⟨rfl, p8, b8⟩
          rw [HR2.out.1] at p8
          rw [HR2.out.2]
          have H8 : Hid (St2 W.heap.size w8 B1 C1 s2 s ∧ Gr W w8 A l) := Lib.hid ⟨p8, H7.out.2.near b8⟩
          clear p8 b8 H7
          go_wp2_with fail
          refine (s2_com H8.out.1.swap H8.out.2.size HQ.out.1).mono ?_
          rintro x w9 ⟨rfl, p9, b9⟩
          rw [HR2.out.1] at p9
          rw [HR2.out.2]
          have H9 : Hid (St2 W.heap.size w9 B1 C1 s2 s2 ∧ Gr W w9 A l) := Lib.hid ⟨p9.swap, H8.out.2.near b9⟩
          clear p9 b9 H8
          obtain ⟨R, hR⟩ : ∃ R, R = (rootV s2 n2).1 := ⟨_, rfl⟩
          have HRT := Lib.hid hR
          clear hR
          go_wp2_with fail
          refine (s2_root H9.out.1 HC2.out.1 n2 HC2.out.2 H9.out.2.ok).mono ?_
          rintro x w10 ⟨rfl, p10, b10⟩
          rw [← HRT.out]
          have H10 : Hid (St2 W.heap.size w10 B1 C1 s2 s2 ∧ Gr W w10 A l) := Lib.hid ⟨p10, H9.out.2.far b10⟩
          clear p10 b10 H9
          go_wp2_with fail
          refine (s2_root H10.out.1.swap HC2.out.1 n2 HC2.out.2 H10.out.2.ok).mono ?_
          rintro x w11 ⟨rfl, p11, b11⟩
          rw [← HRT.out]
          have H11 : Hid (St2 W.heap.size w11 B1 C1 s2 s2 ∧ Gr W w11 A l) := Lib.hid ⟨p11.swap, H10.out.2.far b11⟩
          clear p11 b11 H10
          have t1 : (e2 == e2) = true := by simp
          have t2 : ((n2 : Int) == (n2 : Int)) = true := by simp
          have t3 : (R.toList == R.toList) = true := by simp
          have t4 : ((s2.now.length : Int) == (s2.now.length : Int)) = true := by simp
          go_wp2_with fail
          refine (s2_len H11.out.1).mono ?_
          rintro x w11 ⟨rfl, rfl⟩
          go_wp2_with fail
          refine (s2_len H11.out.1.swap).mono ?_
          rintro x w11 ⟨rfl, rfl⟩
          go_wp2
          go_ret
          exact ⟨by simp, H11.out.2.bel⟩
        | false =>
          have HGU : Hid (lk s.now k = none) := Lib.hid (by
            have h1 := HU.out
            have h2 := HGQ.out
            cases u with
            | none => exact h1.symm
            | some y => exact absurd (show false = true from h2.2) (by decide))
          have HDEL : Hid (delV s1 k = (s, 0)) := Lib.hid (by
            rw [delV_there (by rw [HLK1.out]; simp), HS1.out]
            show (({ s with now := delP (insP s.now k v) k } : StV), (0 : Int)) = (s, 0)
            rw [del_back HQ.out.1.now.2.1 v HGU.out])
          go_wp2_with fail
          refine (s2_del H6.out.1 H6.out.2.size HO1.out k HK.out.2.1).mono ?_
          rintro x w7 ⟨rfl, p7, b7⟩
          rw [HDEL.out] at p7 ⊢
          have H7 : Hid (St2 W.heap.size w7 B1 C1 s s ∧ Gr W w7 A l) := Lib.hid ⟨p7, H6.out.2.near b7⟩
          clear p7 b7 H6 HDEL HGU HLK1 HS1 HO1
          obtain ⟨s2, n2, e2, hr2⟩ : ∃ s2 n2 e2, comV s = (s2, n2, e2) := ⟨_, _, _, rfl⟩
          have hcr : comR s = .tuple #[.int .u64 (n2 : Int), .int .i64 e2] := by unfold comR; rw [hr2]
          have HC2 : Hid (StOk s2 ∧ n2 < 18446744073709551616) := Lib.hid (by have h1 := comV_ok HQ.out.1; have h2 := comV_lt HQ.out.1; rw [hr2] at h1 h2; exact ⟨h1, h2⟩)
          have HR2 := Lib.hid (And.intro hr2 hcr)
          clear hr2 hcr
          go_wp2_with fail
          refine (s2_com H7.out.1 H7.out.2.size HQ.out.1).mono ?_
          rintro x w8 ⟨rfl, p8, b8⟩
          rw [HR2.out.1] at p8
          rw [HR2.out.2]
          have H8 : Hid (St2 W.heap.size w8 B1 C1 s2 s ∧ Gr W w8 A l) := Lib.hid ⟨p8, H7.out.2.near b8⟩
          clear p8 b8 H7
          go_wp2_with fail
          refine (s2_com H8.out.1.swap H8.out.2.size HQ.out.1).mono ?_
          rintro x w9 ⟨rfl, p9, b9⟩
          rw [HR2.out.1] at p9
          rw [HR2.out.2]
          have H9 : Hid (St2 W.heap.size w9 B1 C1 s2 s2 ∧ Gr W w9 A l) := Lib.hid ⟨p9.swap, H8.out.2.near b9⟩
          clear p9 b9 H8
          obtain ⟨R, hR⟩ : ∃ R, R = (rootV s2 n2).1 := ⟨_, rfl⟩
          have HRT := Lib.hid hR
          clear hR
          go_wp2_with fail
          refine (s2_root H9.out.1 HC2.out.1 n2 HC2.out.2 H9.out.2.ok).mono ?_
          rintro x w10 ⟨rfl, p10, b10⟩
          rw [← HRT.out]
          have H10 : Hid (St2 W.heap.size w10 B1 C1 s2 s2 ∧ Gr W w10 A l) := Lib.hid ⟨p10, H9.out.2.far b10⟩
          clear p10 b10 H9
          go_wp2_with fail
          refine (s2_root H10.out.1.swap HC2.out.1 n2 HC2.out.2 H10.out.2.ok).mono ?_
          rintro x w11 ⟨rfl, p11, b11⟩
          rw [← HRT.out]
          have H11 : Hid (St2 W.heap.size w11 B1 C1 s2 s2 ∧ Gr W w11 A l) := Lib.hid ⟨p11.swap, H10.out.2.far b11⟩
          clear p11 b11 H10
          have t1 : (e2 == e2) = true := by simp
          have t2 : ((n2 : Int) == (n2 : Int)) = true := by simp
          have t3 : (R.toList == R.toList) = true := by simp
          have t4 : ((s2.now.length : Int) == (s2.now.length : Int)) = true := by simp
          go_wp2_with fail
          refine (s2_len H11.out.1).mono ?_
          rintro x w11 ⟨rfl, rfl⟩
          go_wp2_with fail
          refine (s2_len H11.out.1.swap).mono ?_
          rintro x w11 ⟨rfl, rfl⟩
          go_wp2
          go_ret
          exact ⟨by simp, H11.out.2.bel⟩
      · have hz' : ((setV s k v).2 != 0) = true := by rw [bne_iff_ne]; exact hz
        generalize (setV s k v).2 = zz at *
        clear hz
        go_wp2
        go_ret
        exact ⟨rfl, H6.out.2.bel⟩
theorem _root_.Go.Proofs.YtcknhnbckbocjaaDoor.storeBack_walk (f : Int) (v1 : Value) (k v : ByteArray) {W : World} (wf0 : (Lit.int .u64 f).wf = true) (h1 : ∃ A cap l, v1 = .slice A l.length cap ∧ l.length ≤ cap ∧ AcE.Lo W W.heap.size A l) (_ : k.size ≤ maxLen) (_ : v.size ≤ maxLen) (w : World) (e : W = w) (hL : LaidOk w) :
    Calls Tryd.prog 6 #[.int .u64 f, v1, .string k, .string v] w fun x w' => x = .returned (.bool true) ∧ Below w.heap.size w w' := by
  subst e
  obtain ⟨A, ca, l, rfl, hca, hA⟩ := h1
  obtain ⟨n, rfl, hn⟩ := u64_natS wf0
  by_cases hg : Yes n l k v
  · exact main n k v A ca l W ⟨hL, hA, Below.refl _ _⟩ hg
  · exact early n k v A ca l W ⟨hL, hA, Below.refl _ _⟩ hg
end storeBack
end Go.Proofs.YtcknhnbckbocjaaDoor
