/- carracklaw11.StoreKeeps walked. Condition: the constants lie where they lie. -/
import Derived.WalkSpells
import Derived.Outline
import Derived.Deep.RegionHeld
import Derived.Deep.QuietTactic
import Derived.BigQuiet
import Derived.Test.YtcknhnbckbocjaaDoorStKeepQ
import Derived.Test.YtcknhnbckbocjaaDoorStRPairsQ
import Derived.Test.YtcknhnbckbocjaaDoorHeldLastQ
namespace Go.Proofs.YtcknhnbckbocjaaDoor
open Go.RowKit
set_option linter.unusedVariables false
theorem infoSl : (Tryd.prog.info? 35).map (fun i => (i.zero, i.size, i.bytes)) = some (some (.slice none 0 0), 1, 24) := by kernel_rfl
namespace storeKeeps
def Yes (l m : List ActV) : Prop := Few11 l ∧ Few11 m
/-- both lists of acts -/
def Gm (W w : World) (A : Option Addr) (l : List ActV) (A2 : Option Addr) (m : List ActV) : Prop := Gr W w A l ∧ Gr W w A2 m
theorem Gm.far {W w w' : World} {A A2 : Option Addr} {l m : List ActV} (h : Gm W w A l A2 m) (hb : Below w.heap.size w w') : Gm W w' A l A2 m := ⟨h.1.far hb, h.2.far hb⟩
theorem Gm.near {W w w' : World} {A A2 : Option Addr} {l m : List ActV} (h : Gm W w A l A2 m) (hb : Below W.heap.size w w') : Gm W w' A l A2 m := ⟨h.1.near hb, h.2.near hb⟩
theorem Gm.fb {W w w' : World} {A A2 : Option Addr} {l m : List ActV} {F : Nat → Prop} (h : Gm W w A l A2 m) (hb : Fb F w w') (hF : ∀ k, k < W.heap.size → F k) : Gm W w' A l A2 m := h.near (Kq.Keeps.below hb h.1.size (fun k _ hn => Nat.le_of_not_lt (fun hl => hn (hF k hl))))
set_option maxRecDepth 100000 in
set_option maxHeartbeats 1000000 in
theorem early (f : Nat) (A A2 : Option Addr) (ca c2 : Nat) (l m : List ActV) (W : World) (h : Gm W W A l A2 m) (hno : ¬ Yes l m) :
    Calls Tryd.prog 4 #[.int .u64 (f : Int), .slice A l.length ca, .slice A2 m.length c2] W fun x w' => x = .returned (.bool true) ∧ Below W.heap.size W w' := by
  have HG := Lib.hid (And.intro h hno)
  clear h hno
  go_enter Tryd.func4, Tryd.ntmps4
  go_wp2_with fail
  refine (awake11 W).mono ?_
  rintro x w1 ⟨rfl, b1⟩
  have H1 := Lib.hid (HG.out.1.far b1)
  clear b1
  go_wp2_with fail
  refine (few11 l A ca w1 H1.out.1.at).mono ?_
  rintro x w1 ⟨rfl, rfl⟩
  by_cases f1 : Few11 l
  · rw [decide_eq_true f1]
    go_wp2_with fail
    refine (few11 m A2 c2 w1 H1.out.2.at).mono ?_
    rintro x w1 ⟨rfl, rfl⟩
    rw [decide_eq_false (fun h => HG.out.2 ⟨f1, h⟩)]
    clear f1
    go_wp2
    go_ret
    exact ⟨rfl, H1.out.1.bel⟩
  · rw [decide_eq_false f1]
    clear f1
    go_wp2
    go_ret
    exact ⟨rfl, H1.out.1.bel⟩
def Rnd (W w : World) (A : Option Addr) (l : List ActV) (A2 : Option Addr) (m : List ActV) (f B1 B2 j : Nat) : Prop := Gm W w A l A2 m ∧ Both W w B1 B2 (runV f l j)
/-- behind j more acts -/
def Rm (W wE w : World) (F : Nat → Prop) (A : Option Addr) (l : List ActV) (A2 : Option Addr) (m : List ActV) (s : StV) (B1 B2 j : Nat) : Prop := Gm W w A l A2 m ∧ Duo F w B1 B2 (actsV s (m.take j)) (actsV s (m.take j)) ∧ Fb F wE w ∧ FrW F w
theorem acts_succ (s : StV) (l : List ActV) (j : Nat) (h : j < l.length) : actsV s (l.take (j + 1)) = actV (actsV s (l.take j)) l[j].kd l[j].k l[j].v := by
  rw [List.take_succ_eq_append_getElem h, actsV_snoc]
set_option maxRecDepth 100000 in
set_option maxHeartbeats 2000000 in
theorem main (f : Nat) (A A2 : Option Addr) (ca c2 : Nat) (l m : List ActV) (W : World) (h : Gm W W A l A2 m) (hyes : Yes l m) (hf : f < 18446744073709551616) :
    Calls Tryd.prog 4 #[.int .u64 (f : Int), .slice A l.length ca, .slice A2 m.length c2] W fun x w' => x = .returned (.bool true) ∧ Below W.heap.size W w' := by
  have HG := Lib.hid (And.intro h hyes)
  have HF := Lib.hid hf
  have HL : Hid (l.length ≤ 60 ∧ m.length ≤ 60) := Lib.hid ⟨hyes.1.1, hyes.2.1⟩
  clear h hyes hf
  go_enter Tryd.func4, Tryd.ntmps4
  go_wp2_with fail
  refine (awake11 W).mono ?_
  rintro x w1 ⟨rfl, b1⟩
  have H1 := Lib.hid (HG.out.1.far b1)
  clear b1
  go_wp2_with fail
  refine (few11 l A ca w1 H1.out.1.at).mono ?_
  rintro x w1 ⟨rfl, rfl⟩
  rw [decide_eq_true HG.out.2.1]
  go_wp2_with fail
  refine (few11 m A2 c2 w1 H1.out.2.at).mono ?_
  rintro x w1 ⟨rfl, rfl⟩
  rw [decide_eq_true HG.out.2.2]
  go_wp2_with fail
  refine (st_new f w1).mono ?_
  rintro x w2 ⟨B1, rfl, p2, b2⟩
  have H2 := Lib.hid (And.intro p2 (H1.out.far b2))
  clear p2 b2
  go_wp2_with fail
  refine (sr_new f w2).mono ?_
  rintro x w3 ⟨B2, rfl, p3, b3⟩
  have H3 : Hid (Rnd W w3 A l A2 m f B1 B2 0) := Lib.hid ⟨H2.out.2.far b3, Duo.start H2.out.1 (fun k hk => ⟨Nat.not_lt.2 (Nat.le_trans H1.out.1.size hk.1), hk.2⟩) (fun k hk => Nat.lt_of_lt_of_le hk H2.out.2.1.size) p3 b3⟩
  clear p3 b3 H2 H1
  go_wp2
  go_loopw [9] (fun i wr => ∃ j : Nat, j ≤ l.length ∧ i = .int .i64 (j : Int) ∧ Rnd W wr A l A2 m f B1 B2 j) (fun i _ => l.length - (intOf i).toNat)
  case atStart => exact ⟨0, by omega, rfl, H3.out⟩
  case round =>
    obtain ⟨j, hj, rfl, hr⟩ := hrel
    have HR := Lib.hid hr
    have h60 := HL.out.1
    clear hr H3
    by_cases hlt : j < l.length
    · obtain ⟨b, off, rfl, hc⟩ := HR.out.1.1.acts_ j hlt
      obtain ⟨a, ha⟩ : ∃ a, a = l[j] := ⟨_, rfl⟩
      rw [← ha] at hc
      have HA : Hid (a.k.size ≤ 300 ∧ a.v.size ≤ 300) := Lib.hid (by rw [ha]; exact HG.out.2.1.2 _ (List.getElem_mem hlt))
      have hi0 : (j : Int) < (l.length : Int) := by omega
      have HS := Lib.hid (runV_succ f l j hlt)
      rw [← ha] at HS
      have HLT := Lib.hid hlt
      have hj6 : j ≤ 60 := by omega
      obtain ⟨c0, c1, cc2⟩ := hc _ HR.out.1.1
      clear hlt ha hc hj h60
      go_wp2_with fail
      refine (bo_do HR.out.2 HR.out.1.1.size (runV_ok HF.out l j) a HA.out.1 HA.out.2).mono ?_
      rintro x w5 ⟨rfl, p5, b5⟩
      have H5 : Hid (Rnd W w5 (some ⟨b, off, none⟩) l A2 m f B1 B2 (j + 1)) := Lib.hid (by unfold Rnd; rw [HS.out]; exact ⟨HR.out.1.near b5, p5⟩)
      clear p5 b5 c0 c1 cc2
      go_wp2
      go_roundw
      case rel => exact ⟨j + 1, HLT.out, by go_num, H5.out⟩
      case measure => have := HLT.out; simp [intOf]; omega
    · obtain rfl : j = l.length := by omega
      have d0 : decide ((l.length : Int) < (l.length : Int)) = false := decide_eq_false (by omega)
      have HGR := Lib.hid (And.intro (runV_grow HF.out l l.length) (runV_few HF.out l l.length))
      clear hlt hj h60
      obtain ⟨s, hs⟩ : ∃ s, s = runV f l l.length := ⟨_, rfl⟩
      have HQ : Hid (StOk s ∧ Both W wr B1 B2 s ∧ Gm W wr A l A2 m ∧ FewN s 60) := Lib.hid (by rw [hs]; exact ⟨runV_ok HF.out l _, HR.out.2, HR.out.1, ⟨by have := HGR.out.2.1; have := HL.out; omega, fun b hb => by have := HGR.out.2.2 b hb; have := HL.out; omega⟩⟩)
      obtain ⟨n, hn⟩ : ∃ n, n = s.blks.length := ⟨_, rfl⟩
      obtain ⟨h, hh⟩ : ∃ h, h = s.height := ⟨_, rfl⟩
      have HN : Hid (n = s.blks.length ∧ h = s.height ∧ 1 ≤ n ∧ n ≤ 61 ∧ h = s.first + (n - 1) ∧ h < 18446744073709551616) := Lib.hid (by
        have h1 := HGR.out.1
        rw [← hs] at h1
        have h2 := HL.out
        have h3 := HQ.out.1.top
        have h4 : h = s.first + (n - 1) := by rw [hh, hn]; rfl
        have h5 := HQ.out.1.one
        exact ⟨hn, hh, by omega, by omega, h4, by omega⟩)
      clear hs HR HGR hn hh
      go_wp2_with fail
      refine (bo_height HQ.out.2.1).mono ?_
      rintro x wr ⟨rfl, rfl⟩
      rw [← HN.out.2.1]
      go_wp2_with fail
      refine (bo_blocks HQ.out.2.1).mono ?_
      rintro x wr ⟨rfl, rfl⟩
      rw [← HN.out.1]
      have hn1 := HN.out.2.2.1
      have hn6 := HN.out.2.2.2.1
      have q1 : decide ((n : Int) < 1) = false := decide_eq_false (by omega)
      have q1' : decide (n < 1) = false := decide_eq_false (by omega)
      have q1'' : decide (n = 0) = false := decide_eq_false (by omega)
      have q2 : decide ((100 : Int) < (n : Int)) = false := decide_eq_false (by omega)
      have q2' : decide (100 < n) = false := decide_eq_false (by omega)
      clear hn1 hn6
      go_wp2
      obtain ⟨S1, hS1⟩ : ∃ S1, S1 = wr.heap.size := ⟨_, rfl⟩
      obtain ⟨wS, hwS⟩ : ∃ wS, wS = wr := ⟨_, rfl⟩
      have HWS : Hid (Both W wS B1 B2 s ∧ Gm W wS A l A2 m ∧ S1 = wS.heap.size) := Lib.hid (by rw [hwS]; exact ⟨HQ.out.2.1, HQ.out.2.2.1, hS1⟩)
      have HQS : Hid (StOk s ∧ FewN s 60) := Lib.hid ⟨HQ.out.1, HQ.out.2.2.2⟩
      have HBS : Hid (Below S1 wS wr) := Lib.hid (by rw [hwS]; exact Below.refl _ _)
      clear hS1 hwS HQ q1 q1' q1'' q2 q2' d0
      obtain ⟨i0, hi0, hz0, hz1, hz2⟩ := info_partsB infoSl
      obtain ⟨j0, hj0, hy0, hy1, hy2⟩ := info_partsB infoStr
      have HI := Lib.hid (And.intro hi0 (And.intro hz0 (And.intro hz1 (And.intro hz2 (And.intro hj0 (And.intro hy0 (And.intro hy1 hy2)))))))
      clear hi0 hz0 hz1 hz2 hj0 hy0 hy1 hy2
      obtain ⟨L, hL⟩ : ∃ L : Nat → List PairV, L = fun i => (atV s (h - i)).1 := ⟨_, rfl⟩
      obtain ⟨R, hR⟩ : ∃ R : Nat → ByteArray, R = fun i => (rootV s (h - i)).1 := ⟨_, rfl⟩
      have HLR : Hid (∀ i, i < n → atV s (h - i) = (L i, 0) ∧ rootV s (h - i) = (R i, 0) ∧ R i = rootP (L i) ∧ smallP (L i) ∧ (L i).length ≤ 60 ∧ s.first ≤ h - i ∧ h - i ≤ s.height) := Lib.hid (fun i hi => by
        have h1 := HN.out
        have g1 : s.first ≤ h - i := by omega
        have g2 : h - i ≤ s.height := by omega
        have e1 := at_good g1 g2
        have e2 := root_good g1 g2
        rw [hL, hR]
        refine ⟨Prod.ext rfl e1, (by show rootV s (h - i) = ((rootV s (h - i)).1, 0); rw [e2]), (by show (rootV s (h - i)).1 = rootP (atV s (h - i)).1; rw [e2]), atV_small HQS.out.1 _, atV_few HQS.out.2 _, g1, g2⟩)
      clear hL hR
      go_loopw [12, 13, 14] (fun vw vr i wr => ∃ k : Nat, ∃ es rs, k ≤ n ∧ es.length = k ∧ rs.length = k ∧ i = .int .i64 (k : Int) ∧ KI S1 wr L R es rs vw vr ∧ Below S1 wS wr) (fun _ _ i _ => n - (intOf i).toNat)
      case atStart => exact ⟨0, [], [], by omega, rfl, rfl, rfl, KI.nil _ _ _ _, HBS.out⟩
      case round =>
        obtain ⟨k, es, rs, hk, hes, hrs, rfl, hki, hbw⟩ := hrel
        have hn1 := HN.out.2.2.1
        have hn6 := HN.out.2.2.2.1
        clear HBS
        by_cases hlt : k < n
        · have HK : Hid (es.length = k ∧ rs.length = k ∧ KI S1 wr L R es rs u12 u13 ∧ Below S1 wS wr ∧ S1 ≤ wr.heap.size) := Lib.hid ⟨hes, hrs, hki, hbw, by rw [HWS.out.2.2]; exact hbw.size⟩
          have HLT := Lib.hid hlt
          have hHN := HN.out
          have hi0 : (k : Int) < (n : Int) := by omega
          obtain ⟨H, hH⟩ : ∃ H, H = h - k := ⟨_, rfl⟩
          have hw1 : IntKind.u64.wrap (k : Int) = (k : Int) := by rw [IntWalk.u64_in _ (by omega)]
          have hw2 : IntKind.u64.wrap ((h : Int) - (k : Int)) = (H : Int) := by rw [IntWalk.u64_in _ (by omega)]; omega
          have HH : Hid (H < 18446744073709551616 ∧ H = h - k) := Lib.hid ⟨by omega, hH⟩
          have hk6 : k ≤ 61 := by omega
          obtain ⟨g1, g2, g3, g4, g5, -, -⟩ := HLR.out k hlt
          rw [← hH] at g1 g2
          obtain ⟨Lk, hLk⟩ : ∃ Lk, Lk = L k := ⟨_, rfl⟩
          obtain ⟨Rk, hRk⟩ : ∃ Rk, Rk = R k := ⟨_, rfl⟩
          rw [← hLk, ← hRk] at g3
          rw [← hLk] at g1 g4 g5
          rw [← hRk] at g2
          have HG1 := Lib.hid (And.intro g1 (And.intro g2 (And.intro g3 (And.intro g4 (And.intro g5 (And.intro hLk hRk))))))
          clear g1 g2 g3 g4 g5 hLk hRk hHN hlt hes hrs hki hbw hk hH hn1 hn6
          have HB4 : Hid (Both W wr B1 B2 s ∧ Gm W wr A l A2 m) := Lib.hid (by
            have hb : Below wS.heap.size wS wr := by rw [← HWS.out.2.2]; exact HK.out.2.2.2.1
            exact ⟨HWS.out.1.below hb, HWS.out.2.1.far hb⟩)
          go_wp2_with fail
          refine (bo_at HB4.out.1 HQS.out.1 H HH.out.1).mono ?_
          rintro x w4 ⟨v, rfl, ⟨A4, c4, rfl, hc4, ps4, hn4⟩, b4⟩
          rw [HG1.out.1] at hc4 ps4
          rw [HG1.out.1]
          simp only at hc4 ps4
          have H4 : Hid (Below wr.heap.size wr w4 ∧ Lk.length ≤ c4 ∧ PsAt w4 A4 Lk ∧ (∀ b off, A4 = some ⟨b, off, none⟩ → wr.heap.size ≤ b ∧ b < w4.heap.size) ∧ Both W w4 B1 B2 s ∧ Gm W w4 A l A2 m) := Lib.hid ⟨b4, hc4, ps4, hn4, HB4.out.1.below b4, HB4.out.2.far b4⟩
          clear b4 hc4 ps4 hn4
          go_wp2_with fail
          refine (bo_root H4.out.2.2.2.2.1 HQS.out.1 H HH.out.1 H4.out.2.2.2.2.2.1.ok).mono ?_
          rintro x w5 ⟨rfl, b5⟩
          rw [HG1.out.2.1]
          have H5 : Hid (Below wr.heap.size wr w5 ∧ PsAt w5 A4 Lk ∧ Gm W w5 A l A2 m ∧ w4.heap.size ≤ w5.heap.size) := Lib.hid ⟨H4.out.1.trans (b5.mono H4.out.1.size), H4.out.2.2.1.below b5, H4.out.2.2.2.2.2.far b5, b5.size⟩
          clear b5
          have t1 : (Rk.toList == Rk.toList) = true := by simp
          go_wp2_with fail
          refine (mk_checkN Lk A4 c4 w5 H5.out.2.1 (by have := HG1.out.2.2.2.2.1; omega)).mono ?_
          rintro x w6 ⟨rfl, b6⟩
          rw [smallP_chk HG1.out.2.2.2.1]
          have H6 : Hid (Below wr.heap.size wr w6 ∧ PsAt w6 A4 Lk ∧ Gm W w6 A l A2 m ∧ w4.heap.size ≤ w6.heap.size) := Lib.hid ⟨H5.out.1.trans (b6.mono H5.out.1.size), H5.out.2.1.below b6, H5.out.2.2.1.far b6, Nat.le_trans H5.out.2.2.2 b6.size⟩
          clear b6
          go_wp2_with fail
          refine (mk_root Lk A4 c4 w6 (by have := HG1.out.2.2.2.2.1; omega) HG1.out.2.2.2.1.fit H6.out.2.1 H6.out.2.2.1.1.ok H4.out.2.1).mono ?_
          rintro x w7 ⟨rfl, b7⟩
          rw [show dgT (topT Lk.length (digL Lk)) = Rk from HG1.out.2.2.1.symm]
          have H7 : Hid (KI S1 w7 L R es rs u12 u13 ∧ EnX S1 w7 (L es.length) (A4, Lk.length, c4) u12 u13 ∧ Below wr.heap.size wr w7) := Lib.hid (by
            have hb7 := H6.out.1.trans (b7.mono H6.out.1.size)
            refine ⟨HK.out.2.2.1.below hb7, ⟨by rw [HK.out.1, ← HG1.out.2.2.2.2.2.1], by rw [HK.out.1, ← HG1.out.2.2.2.2.2.1]; exact H4.out.2.1, by rw [HK.out.1, ← HG1.out.2.2.2.2.2.1]; exact H6.out.2.1.below b7, fun b off e => ?_⟩, hb7⟩
            have h1 := H4.out.2.2.2.1 b off e
            have h2 := HK.out.2.2.2.2
            refine ⟨by omega, Nat.lt_of_lt_of_le h1.2 (Nat.le_trans H6.out.2.2.2 b7.size), fun e2 => ?_, fun e2 => ?_⟩
            · have := own_ltK HK.out.2.2.1.rw_ e2; omega
            · have := own_ltK HK.out.2.2.1.rr e2; omega)
          clear b7 H6 H5 H4 HB4
          have b8 := Kq.below_alloc w7 (.cells #[.slice A4 Lk.length c4] 35)
          have HAL : Hid (KI S1 (w7.alloc (.cells #[.slice A4 Lk.length c4] 35)) L R es rs u12 u13 ∧ EnX S1 (w7.alloc (.cells #[.slice A4 Lk.length c4] 35)) (L es.length) (A4, Lk.length, c4) u12 u13 ∧ Below wr.heap.size wr (w7.alloc (.cells #[.slice A4 Lk.length c4] 35)) ∧ SlE.At (w7.alloc (.cells #[.slice A4 Lk.length c4] 35)) (some ⟨w7.heap.size, 0, none⟩) [(A4, Lk.length, c4)]) := Lib.hid ⟨H7.out.1.below b8, H7.out.2.1.below b8, H7.out.2.2.trans (b8.mono H7.out.2.2.size), by exact Kq.Elt.made_one (E := SlE) (A4, Lk.length, c4) w7 35⟩
          have HOW : Hid ((w7.alloc (.cells #[.slice A4 Lk.length c4] 35)).ownsRow S1 35 1 u12 k (SlE.flat es)) := Lib.hid (by have := HAL.out.1.rw_; rw [HK.out.1] at this; exact this)
          clear b8 H7
          go_wp2_with (at_builtin; refine Kq.wpList_append_any _ rfl (.tmp 104) (.tmp 106) 36 36 rfl S1 35 i0 (.slice none 0 0) 1 24 Tryd.underlying36 HI.out.1 HI.out.2.1 HI.out.2.2.1 HI.out.2.2.2.1 rfl (by decide) u12 k (SlE.flat es) rfl HOW.out (.slice (some ⟨w7.heap.size, 0, none⟩) 1 1) 1 (SlE.flat [(A4, Lk.length, c4)]) rfl (HAL.out.2.2.2.src Tryd.underlying36 1) ?h1 ?h2 ?h3 ?_)
          case h1 => unfold maxLen; omega
          case h2 => omega
          case h3 => exact Nat.le_trans HK.out.2.2.2.2 HAL.out.2.2.1.size
          intro vw' w9 hown hgrow hfresh
          have H9 : Hid (KI S1 w9 L R (es ++ [(A4, Lk.length, c4)]) rs vw' u13 ∧ Below S1 wr w9 ∧ wr.heap.size ≤ w9.heap.size) := Lib.hid (by
            have hs1 := HK.out.2.2.2.2
            refine ⟨HAL.out.1.addW HAL.out.2.1 (by rw [HK.out.1]; exact hown) hgrow (fun k e => by simpa using hfresh k e), below_past (HAL.out.2.2.1.mono hs1) (Kq.Keeps.grown (S := fun k => S1 ≤ k) hgrow (fun k _ e => own_geB HAL.out.1.rw_ e)) hs1 (fun k _ e => e), Nat.le_trans HAL.out.2.2.1.size hgrow.size⟩)
          clear hown hgrow hfresh HAL HOW
          have b10 := Kq.below_alloc w9 (.cells #[.string Rk] 9)
          have HAL : Hid (KI S1 (w9.alloc (.cells #[.string Rk] 9)) L R (es ++ [(A4, Lk.length, c4)]) rs vw' u13 ∧ Below S1 wr (w9.alloc (.cells #[.string Rk] 9)) ∧ SrE.At (w9.alloc (.cells #[.string Rk] 9)) (some ⟨w9.heap.size, 0, none⟩) [Rk] ∧ S1 ≤ (w9.alloc (.cells #[.string Rk] 9)).heap.size) := Lib.hid ⟨H9.out.1.below b10, H9.out.2.1.trans (b10.mono (Nat.le_trans HK.out.2.2.2.2 H9.out.2.2)), by exact Kq.Elt.made_one (E := SrE) Rk w9 9, Nat.le_trans HK.out.2.2.2.2 (Nat.le_trans H9.out.2.2 b10.size)⟩
          have HOW : Hid ((w9.alloc (.cells #[.string Rk] 9)).ownsRow S1 9 1 u13 k (SrE.flat rs)) := Lib.hid (by have := HAL.out.1.rr; rw [HK.out.2.1] at this; exact this)
          clear b10 H9
          go_wp2_with (at_builtin; refine Kq.wpList_append_any _ rfl (.tmp 108) (.tmp 110) 54 54 rfl S1 9 j0 (.string ⟨#[]⟩) 1 16 Tryd.underlying54 HI.out.2.2.2.2.1 HI.out.2.2.2.2.2.1 HI.out.2.2.2.2.2.2.1 HI.out.2.2.2.2.2.2.2 rfl (by decide) u13 k (SrE.flat rs) rfl HOW.out (.slice (some ⟨w9.heap.size, 0, none⟩) 1 1) 1 (SrE.flat [Rk]) rfl (HAL.out.2.2.1.src Tryd.underlying54 1) ?h4 ?h5 ?h6 ?_)
          case h4 => unfold maxLen; omega
          case h5 => omega
          case h6 => exact HAL.out.2.2.2
          intro vr' w11 hown hgrow hfresh
          have H11 : Hid (KI S1 w11 L R (es ++ [(A4, Lk.length, c4)]) (rs ++ [Rk]) vw' vr' ∧ Below S1 wS w11) := Lib.hid (by
            refine ⟨HAL.out.1.addR (by rw [HK.out.2.1]; exact HG1.out.2.2.2.2.2.2) (by rw [HK.out.2.1]; exact hown) hgrow (fun k e => by simpa using hfresh k e), HK.out.2.2.2.1.trans (below_past HAL.out.2.1 (Kq.Keeps.grown (S := fun k => S1 ≤ k) hgrow (fun k _ e => own_geB HAL.out.1.rr e)) HK.out.2.2.2.2 (fun k _ e => e))⟩)
          clear hown hgrow hfresh HAL HOW
          go_wp2
          go_roundw
          case rel => exact ⟨k + 1, _, _, HLT.out, by rw [List.length_append, HK.out.1]; rfl, by rw [List.length_append, HK.out.2.1]; rfl, by go_num, H11.out.1, H11.out.2⟩
          case measure => have := HLT.out; simp [intOf]; omega
        · obtain rfl : k = n := by omega
          have d0 : decide ((k : Int) < (k : Int)) = false := decide_eq_false (by omega)
          have hKW := hki.rw_
          have hKR := hki.rr
          obtain ⟨Aw, cw, hvw, hcw, hatw, hgew, -⟩ := Kq.Elt.own_at hKW
          obtain ⟨Ar, cr, hvr, hcr, hatr, hger, -⟩ := Kq.Elt.own_at hKR
          obtain ⟨S2, hS2⟩ : ∃ S2, S2 = wr.heap.size := ⟨_, rfl⟩
          obtain ⟨F, hF⟩ : ∃ F : Nat → Prop, F = fun k => k < W.heap.size ∨ (S1 ≤ k ∧ k < S2) := ⟨_, rfl⟩
          have hbS : Below wS.heap.size wS wr := by rw [← HWS.out.2.2]; exact hbw
          have HE : Hid (Duo F wr B1 B2 s s ∧ Gm W wr A l A2 m ∧ FrW F wr ∧ ∀ k, k < W.heap.size → F k) := Lib.hid (by
            refine ⟨Duo.wide HWS.out.1 hbS (fun k hk => ?_), HWS.out.2.1.far hbS, fun k hk => ?_, fun k hk => by rw [hF]; exact Or.inl hk⟩
            · rw [hF] at hk
              rcases hk with hk | hk
              · exact Or.inl hk
              · exact Or.inr (by rw [← HWS.out.2.2]; exact hk.1)
            · rw [hF] at hk
              have := (HWS.out.2.1.far hbS).1.size
              rcases hk with hk | hk <;> omega)
          have hpos : 0 < es.length := by have := HN.out.2.2.1; omega
          have hposr : 0 < rs.length := by have := HN.out.2.2.1; omega
          obtain ⟨gw, ow, rfl, -, -⟩ := hatw 0 hpos
          obtain ⟨gr, or_, rfl, -, -⟩ := hatr 0 hposr
          rw [hes] at hvw
          rw [hrs] at hvr
          have HRD : Hid (∀ w', Fb F wr w' → ∀ i (hi : i < es.length), i < k → w'.cell? ⟨gw, ow + i, none⟩ = some (.slice es[i].1 (L i).length es[i].2.2) ∧ w'.cell? ⟨gr, or_ + i, none⟩ = some (.string (R i)) ∧ PsAt w' es[i].1 (L i)) := Lib.hid (fun w' hfb i hi hik => by
            have hFi : ∀ g, S1 ≤ g → g < wr.heap.size → w'.heap[g]? = wr.heap[g]? := fun g h1 h2 => hfb.block g h2 (fun hn => hn (by rw [hF]; exact Or.inr ⟨h1, by omega⟩))
            obtain ⟨g1, o1, e1, l1, q1⟩ := hatw i hi
            obtain ⟨g2, o2, e2, l2, q2⟩ := hatr i (by omega)
            injection e1 with e1
            injection e1 with e1 e1'
            injection e2 with e2
            injection e2 with e2 e2'
            subst e1 e1' e2 e2'
            have en := hki.en i hi
            have w1 := q1 0 (by decide)
            have w2 := q2 0 (by decide)
            have n1 : ow + i * SlE.n + 0 = ow + i := by show ow + i * 1 + 0 = ow + i; omega
            have n2 : or_ + i * SrE.n + 0 = or_ + i := by show or_ + i * 1 + 0 = or_ + i; omega
            rw [n1] at w1
            rw [n2] at w2
            refine ⟨?_, ?_, ?_⟩
            · rw [World.cell?_of_block (hFi gw (hgew gw ow rfl) l1), w1]
              show some (Value.slice es[i].1 es[i].2.1 es[i].2.2) = _
              rw [en.len]
            · rw [World.cell?_of_block (hFi gr (hger gr or_ rfl) l2), w2]
              show some (Value.string (rs[i]'(by omega))) = _
              rw [hki.rs_ i (by omega)]
            · intro j hj
              obtain ⟨b, off, e, p1, p2, p3⟩ := en.at_ j hj
              have h1 := hFi b (en.blk b off e).1 p1
              exact ⟨b, off, e, Nat.lt_of_lt_of_le p1 hfb.sz, by rw [World.cell?_of_block h1]; exact p2, by rw [World.cell?_of_block h1]; exact p3⟩)
          obtain ⟨wE, hwE⟩ : ∃ wE, wE = wr := ⟨_, rfl⟩
          rw [← hwE] at HRD
          have HEK : Hid (Rm W wE wr F A l A2 m s B1 B2 0) := Lib.hid (by rw [hwE]; exact ⟨HE.out.2.1, HE.out.1, Kq.Keeps.refl _ _, HE.out.2.2.1⟩)
          have HFW : Hid (∀ k, k < W.heap.size → F k) := Lib.hid HE.out.2.2.2
          have HES := Lib.hid hes
          subst hvw hvr
          clear hKW hKR hcw hatw hgew hcr hatr hger hS2 hF hbS hpos hposr hwE HE hki hbw hes hrs hlt hk hn1 hn6
          go_wp2
          go_loopw [19] (fun i wr => ∃ j : Nat, j ≤ m.length ∧ i = .int .i64 (j : Int) ∧ Rm W wE wr F A l A2 m s B1 B2 j) (fun i _ => m.length - (intOf i).toNat)
          case atStart => exact ⟨0, by omega, rfl, HEK.out⟩
          case round =>
            obtain ⟨j, hj, rfl, hr⟩ := hrel
            have HR := Lib.hid hr
            have h60 := HL.out.2
            clear hr HEK d0
            by_cases hlt : j < m.length
            · obtain ⟨b, off, rfl, hc⟩ := HR.out.1.2.acts_ j hlt
              obtain ⟨a, ha⟩ : ∃ a, a = m[j] := ⟨_, rfl⟩
              rw [← ha] at hc
              have HA : Hid (a.k.size ≤ 300 ∧ a.v.size ≤ 300) := Lib.hid (by rw [ha]; exact HG.out.2.2.2 _ (List.getElem_mem hlt))
              have hi0 : (j : Int) < (m.length : Int) := by omega
              have HS := Lib.hid (acts_succ s m j hlt)
              rw [← ha] at HS
              have HLT := Lib.hid hlt
              have hj6 : j ≤ 60 := by omega
              obtain ⟨c0, c1, cc2⟩ := hc _ HR.out.1.2
              clear hlt ha hc hj h60
              go_wp2_with fail
              refine (st_do F wr B1 B2 _ HR.out.2.1 HR.out.2.2.2 (actsV_ok _ _ HQS.out.1) a.kd a.k a.v HA.out.1 HA.out.2).mono ?_
              rintro x w5 ⟨rfl, p5, b5⟩
              have H5 : Hid (Rm W wE w5 F A l (some ⟨b, off, none⟩) m s B1 B2 (j + 1)) := Lib.hid (by unfold Rm; rw [HS.out]; exact ⟨HR.out.1.fb b5 HFW.out, p5, HR.out.2.2.1.tr b5, HR.out.2.2.2.later b5.sz⟩)
              clear p5 b5 c0 c1 cc2
              go_wp2
              go_roundw
              case rel => exact ⟨j + 1, HLT.out, by go_num, H5.out⟩
              case measure => have := HLT.out; simp [intOf]; omega
            · obtain rfl : j = m.length := by omega
              have d1 : decide ((m.length : Int) < (m.length : Int)) = false := decide_eq_false (by omega)
              clear hlt hj h60
              obtain ⟨s3, hs3⟩ : ∃ s3, s3 = actsV s m := ⟨_, rfl⟩
              have HS3 : Hid (StOk s3 ∧ (∀ i, i < k → atV s3 (h - i) = (L i, 0) ∧ rootV s3 (h - i) = (R i, 0)) ∧ s3.first = s.first ∧ s.blks.length ≤ s3.blks.length) := Lib.hid (by
                rw [hs3]
                refine ⟨actsV_ok _ _ HQS.out.1, fun i hi => ?_, actsV_first _ _, (actsV_grow m s HQS.out.1).2.2⟩
                have g := HLR.out i hi
                exact ⟨(acts_at m HQS.out.1 g.2.2.2.2.2.1 g.2.2.2.2.2.2).trans g.1, (acts_root m HQS.out.1 g.2.2.2.2.2.1 g.2.2.2.2.2.2).trans g.2.1⟩)
              have H4 : Hid (Gm W wr A l A2 m ∧ Duo F wr B1 B2 s3 s3 ∧ Fb F wE wr ∧ FrW F wr) := Lib.hid (by
                have h1 := HR.out.2.1
                rw [List.take_length, ← hs3] at h1
                exact ⟨HR.out.1, h1, HR.out.2.2.1, HR.out.2.2.2⟩)
              clear hs3 HR
              go_wp2
              go_loopw [20] (fun i wr => ∃ j : Nat, j ≤ k ∧ i = .int .i64 (j : Int) ∧ Gm W wr A l A2 m ∧ Duo F wr B1 B2 s3 s3 ∧ Fb F wE wr ∧ FrW F wr) (fun i _ => k - (intOf i).toNat)
              case atStart => exact ⟨0, by omega, rfl, H4.out⟩
              case round =>
                obtain ⟨j, hj, rfl, hr⟩ := hrel
                have HR := Lib.hid hr
                have hkn := HN.out.2.2.2.1
                clear hr H4 d1
                by_cases hlt : j < k
                · have hHN := HN.out
                  have hi0 : (j : Int) < (k : Int) := by omega
                  obtain ⟨H, hH⟩ : ∃ H, H = h - j := ⟨_, rfl⟩
                  have hw1 : IntKind.u64.wrap (j : Int) = (j : Int) := by rw [IntWalk.u64_in _ (by omega)]
                  have hw2 : IntKind.u64.wrap ((h : Int) - (j : Int)) = (H : Int) := by rw [IntWalk.u64_in _ (by omega)]; omega
                  have HH : Hid (H < 18446744073709551616) := Lib.hid (by omega)
                  have hj6 : j ≤ 61 := by omega
                  obtain ⟨g1, g2⟩ := HS3.out.2.1 j hlt
                  rw [← hH] at g1 g2
                  have g5 := (HLR.out j hlt).2.2.2.2.1
                  have hjes : j < es.length := by rw [HES.out]; exact hlt
                  have HLT := Lib.hid hlt
                  obtain ⟨Lk, hLk⟩ : ∃ Lk, Lk = L j := ⟨_, rfl⟩
                  obtain ⟨Rk, hRk⟩ : ∃ Rk, Rk = R j := ⟨_, rfl⟩
                  obtain ⟨ex, hex⟩ : ∃ ex, ex = es[j] := ⟨_, rfl⟩
                  have HCL : Hid (∀ w', Fb F wE w' → w'.cell? ⟨gw, ow + j, none⟩ = some (.slice ex.1 Lk.length ex.2.2) ∧ w'.cell? ⟨gr, or_ + j, none⟩ = some (.string Rk) ∧ PsAt w' ex.1 Lk) := Lib.hid (fun w' hf => by
                    rw [hex, hLk, hRk]; exact HRD.out w' hf j hjes hlt)
                  rw [← hLk] at g1 g5
                  rw [← hRk] at g2
                  have HG1 := Lib.hid (And.intro g1 (And.intro g2 g5))
                  clear g1 g2 g5 hLk hRk hHN hlt hjes hex hj hH hkn
                  go_wp2_with fail
                  refine (df_at HR.out.2.1 HS3.out.1 H HH.out).mono ?_
                  rintro x w4 ⟨v, rfl, ⟨A4, c4, rfl, hc4, ps4, hn4⟩, b4⟩
                  rw [HG1.out.1] at ps4
                  rw [HG1.out.1]
                  simp only at ps4
                  have H4 : Hid (PsAt w4 A4 Lk ∧ Gm W w4 A l A2 m ∧ Duo F w4 B1 B2 s3 s3 ∧ Fb F wE w4 ∧ FrW F w4) := Lib.hid ⟨ps4, HR.out.1.far b4, Duo.below HR.out.2.1 b4, HR.out.2.2.1.tr (Fb.of b4 HR.out.2.2.2), HR.out.2.2.2.later b4.size⟩
                  clear b4 hc4 ps4 hn4
                  go_wp2_with fail
                  refine (df_root H4.out.2.2.1 HS3.out.1 H HH.out H4.out.2.1.1.ok).mono ?_
                  rintro x w5 ⟨rfl, b5⟩
                  rw [HG1.out.2.1]
                  have H5 : Hid (PsAt w5 A4 Lk ∧ Gm W w5 A l A2 m ∧ Duo F w5 B1 B2 s3 s3 ∧ Fb F wE w5 ∧ FrW F w5) := Lib.hid ⟨H4.out.1.below b5, H4.out.2.1.far b5, Duo.below H4.out.2.2.1 b5, H4.out.2.2.2.1.tr (Fb.of b5 H4.out.2.2.2.2), H4.out.2.2.2.2.later b5.size⟩
                  clear b5 H4
                  have t1 : (Rk.toList == Rk.toList) = true := by simp
                  obtain ⟨c0, c1, -⟩ := HCL.out _ H5.out.2.2.2.1
                  have HPL : Hid (Lk.length ≤ 1000000) := Lib.hid (by have := HG1.out.2.2; omega)
                  go_wp2_with fail
                  refine (sr_pairs Lk A4 ex.1 c4 ex.2.2 w5 HPL.out H5.out.1 (HCL.out _ H5.out.2.2.2.1).2.2).mono ?_
                  rintro x w6 ⟨rfl, n6, hw6⟩
                  have H6 : Hid (Gm W w6 A l A2 m ∧ Duo F w6 B1 B2 s3 s3 ∧ Fb F wE w6 ∧ FrW F w6) := Lib.hid (by
                    have hb : Below w5.heap.size w5 w6 := by rw [hw6]; exact below_drewN (Below.refl _ _) _
                    exact ⟨H5.out.2.1.far hb, Duo.below H5.out.2.2.1 hb, H5.out.2.2.2.1.tr (Fb.of hb H5.out.2.2.2.2), H5.out.2.2.2.2.later hb.size⟩)
                  clear hw6 H5 c0 c1
                  go_wp2
                  go_roundw
                  case rel => exact ⟨j + 1, HLT.out, by go_num, H6.out⟩
                  case measure => have := HLT.out; simp [intOf]; omega
                · obtain rfl : j = k := by omega
                  have d2 : decide ((j : Int) < (j : Int)) = false := decide_eq_false (by omega)
                  clear hlt hj hkn
                  obtain ⟨h3, hh3⟩ : ∃ h3, h3 = s3.height := ⟨_, rfl⟩
                  obtain ⟨q3, hq3⟩ : ∃ q3, q3 = s3.blks.length := ⟨_, rfl⟩
                  have hx : h3 = s3.first + (q3 - 1) := by rw [hh3, hq3]; rfl
                  have hN := HN.out
                  have hS3 := HS3.out.2.2
                  have htop := HS3.out.1.top
                  have hfew := HS3.out.1.few
                  rw [← hq3] at hS3 htop hfew
                  obtain ⟨D, hD⟩ : ∃ D, D = q3 - j := ⟨_, rfl⟩
                  have hw1 : IntKind.u64.wrap ((h3 : Int) - (h : Int)) = (D : Int) := by rw [IntWalk.u64_in _ (by omega)]; omega
                  have hw2 : wrap64 ((q3 : Int) - (j : Int)) = (D : Int) := by unfold wrap64; omega
                  have hw3 : IntKind.u64.wrap (D : Int) = (D : Int) := by rw [IntWalk.u64_in _ (by omega)]
                  have t1 : ((D : Int) == (D : Int)) = true := by simp
                  have HX := Lib.hid (And.intro hh3 hq3)
                  clear hh3 hq3 hx hN hS3 htop hfew hD
                  go_wp2_with fail
                  refine (df_height HR.out.2.1).mono ?_
                  rintro x wr ⟨rfl, rfl⟩
                  rw [← HX.out.1]
                  go_wp2_with fail
                  refine (df_blocks HR.out.2.1).mono ?_
                  rintro x wr ⟨rfl, rfl⟩
                  rw [← HX.out.2]
                  go_wp2
                  go_ret
                  exact ⟨by simp, HR.out.1.1.bel⟩
theorem _root_.Go.Proofs.YtcknhnbckbocjaaDoor.storeKeeps_walk (f : Int) (v1 v2 : Value) {W : World} (wf0 : (Lit.int .u64 f).wf = true) (h1 : ∃ A cap l, v1 = .slice A l.length cap ∧ l.length ≤ cap ∧ AcE.Lo W W.heap.size A l) (h2 : ∃ A cap l, v2 = .slice A l.length cap ∧ l.length ≤ cap ∧ AcE.Lo W W.heap.size A l) (w : World) (e : W = w) (hL : LaidOk w) :
    Calls Tryd.prog 4 #[.int .u64 f, v1, v2] w fun x w' => x = .returned (.bool true) ∧ Below w.heap.size w w' := by
  subst e
  obtain ⟨A, ca, l, rfl, hca, hA⟩ := h1
  obtain ⟨A2, c2, m, rfl, hc2, hA2⟩ := h2
  obtain ⟨n, rfl, hn⟩ := u64_natS wf0
  by_cases hg : Yes l m
  · exact main n A A2 ca c2 l m W ⟨⟨hL, hA, Below.refl _ _⟩, ⟨hL, hA2, Below.refl _ _⟩⟩ hg hn
  · exact early n A A2 ca c2 l m W ⟨⟨hL, hA, Below.refl _ _⟩, ⟨hL, hA2, Below.refl _ _⟩⟩ hg
end storeKeeps
end Go.Proofs.YtcknhnbckbocjaaDoor
