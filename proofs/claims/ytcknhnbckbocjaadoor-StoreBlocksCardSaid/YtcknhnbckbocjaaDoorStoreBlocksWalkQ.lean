/- carracklaw11.StoreBlocks walked. Condition: the constants lie where they lie. -/
import Derived.WalkSpells
import Derived.Outline
import Derived.Deep.QuietTactic
import Derived.BigQuiet
import Derived.Test.YtcknhnbckbocjaaDoorStLawQ
namespace Go.Proofs.YtcknhnbckbocjaaDoor
open Go.RowKit
set_option linter.unusedVariables false
namespace storeBlocks
set_option maxRecDepth 100000 in
set_option maxHeartbeats 1000000 in
theorem early (f : Nat) (H : Nat) (A : Option Addr) (ca : Nat) (l : List ActV) (W : World) (h : Gr W W A l) (hno : ¬ Few11 l) :
    Calls Tryd.prog 7 #[.int .u64 (f : Int), .slice A l.length ca, .int .u64 (H : Int)] W fun x w' => x = .returned (.bool true) ∧ Below W.heap.size W w' := by
  have HG := Lib.hid (And.intro h hno)
  clear h hno
  go_enter Tryd.func7, Tryd.ntmps7
  go_wp2_with fail
  refine (awake11 W).mono ?_
  rintro x w1 ⟨rfl, b1⟩
  have H1 := Lib.hid (HG.out.1.far b1)
  clear b1
  go_wp2_with fail
  refine (few11 l A ca w1 H1.out.at).mono ?_
  rintro x w1 ⟨rfl, rfl⟩
  rw [decide_eq_false HG.out.2]
  go_wp2
  go_ret
  exact ⟨rfl, H1.out.bel⟩
theorem act_same {s : StV} (hs : StOk s) (kd : Int) (k v : ByteArray) (h : (actV s kd k v).height = s.height) : (actV s kd k v).blks.length = s.blks.length := by
  have h1 := actV_first s kd k v
  have h2 := actV_grow hs kd k v
  have h3 := hs.one
  unfold StV.height at h
  omega
theorem act_more {s : StV} (hs : StOk s) (kd : Int) (k v : ByteArray) (h : (actV s kd k v).height ≠ s.height) : (actV s kd k v).blks.length = s.blks.length + 1 := by
  have h1 := actV_first s kd k v
  have h2 := actV_grow hs kd k v
  have h3 := hs.one
  unfold StV.height at h
  omega
theorem at_in {s : StV} {f n H : Nat} (h1 : s.first = f) (h2 : s.blks.length = n + 1) (h3 : f ≤ H) (h4 : H - f ≤ n) : (atV s H).2 = 0 ∧ (rootV s H).2 = 0 ∧ (rootV s H).1.size = 32 := by
  have hh := StV.height_of h1 h2
  have e : (atV s H).2 = 0 := by unfold atV; rw [if_pos ⟨by omega, by omega⟩]
  refine ⟨e, ?_, ?_⟩
  · unfold rootV; rw [if_pos e]
  · unfold rootV; rw [if_pos e]; exact rootP_size _
theorem at_out {s : StV} {f n H : Nat} (h1 : s.first = f) (h2 : s.blks.length = n + 1) (h3 : ¬ (f ≤ H ∧ H - f ≤ n)) : atV s H = ([], 3) ∧ rootV s H = (⟨#[]⟩, 3) := by
  have hh := StV.height_of h1 h2
  have e : atV s H = ([], 3) := by unfold atV; rw [if_neg (by omega)]
  refine ⟨e, ?_⟩
  unfold rootV; rw [e]; rfl
/-- what a round keeps -/
def Rnd (W w : World) (A : Option Addr) (l : List ActV) (f B1 B2 j n : Nat) : Prop := (runV f l j).blks.length = n + 1 ∧ Gr W w A l ∧ Both W w B1 B2 (runV f l j)
set_option maxRecDepth 100000 in
set_option maxHeartbeats 2000000 in
theorem main (f : Nat) (H : Nat) (A : Option Addr) (ca : Nat) (l : List ActV) (W : World) (h : Gr W W A l) (hyes : Few11 l) (hf : f < 18446744073709551616) (hH : H < 18446744073709551616) :
    Calls Tryd.prog 7 #[.int .u64 (f : Int), .slice A l.length ca, .int .u64 (H : Int)] W fun x w' => x = .returned (.bool true) ∧ Below W.heap.size W w' := by
  have HG := Lib.hid (And.intro h hyes)
  have HF := Lib.hid (And.intro hf hH)
  clear h hyes hf hH
  go_enter Tryd.func7, Tryd.ntmps7
  go_wp2_with fail
  refine (awake11 W).mono ?_
  rintro x w1 ⟨rfl, b1⟩
  have H1 := Lib.hid (HG.out.1.far b1)
  clear b1
  go_wp2_with fail
  refine (few11 l A ca w1 H1.out.at).mono ?_
  rintro x w1 ⟨rfl, rfl⟩
  rw [decide_eq_true HG.out.2]
  go_wp2_with fail
  refine (st_new f w1).mono ?_
  rintro x w2 ⟨B1, rfl, p2, b2⟩
  have H2 := Lib.hid (And.intro p2 (And.intro b2 (H1.out.far b2)))
  clear p2 b2
  go_wp2_with fail
  refine (sr_new f w2).mono ?_
  rintro x w3 ⟨B2, rfl, p3, b3⟩
  have H3 : Hid (Rnd W w3 A l f B1 B2 0 0) := Lib.hid ⟨rfl, H2.out.2.2.far b3, Duo.start H2.out.1 (fun k hk => ⟨Nat.not_lt.2 (Nat.le_trans H1.out.size hk.1), hk.2⟩) (fun k hk => Nat.lt_of_lt_of_le hk H2.out.2.2.size) p3 b3⟩
  clear p3 b3 H2 H1
  go_wp2
  go_loopw [9, 10] (fun c i wr => ∃ j n : Nat, j ≤ l.length ∧ i = .int .i64 (j : Int) ∧ c = .int .i64 (n : Int) ∧ Rnd W wr A l f B1 B2 j n) (fun _ i _ => l.length - (intOf i).toNat)
  case atStart => exact ⟨0, 0, by omega, rfl, rfl, H3.out⟩
  case round =>
    obtain ⟨j, n, hj, rfl, rfl, hr⟩ := hrel
    have HR := Lib.hid hr
    have h60 : l.length ≤ 60 := HG.out.2.1
    have hn60 : n ≤ 60 := by have := runV_grow HF.out.1 l j; have := hr.1; omega
    have HJ := Lib.hid (And.intro hj (And.intro h60 hn60))
    clear hr H3
    by_cases hlt : j < l.length
    · obtain ⟨b, off, rfl, hb, c0, c1, c2⟩ := HR.out.2.1.act j hlt
      obtain ⟨a, ha⟩ : ∃ a, a = l[j] := ⟨_, rfl⟩
      rw [← ha] at c0 c1 c2
      have HA : Hid (a.k.size ≤ 300 ∧ a.v.size ≤ 300) := Lib.hid (by rw [ha]; exact HG.out.2.2 _ (List.getElem_mem hlt))
      have hi0 : (j : Int) < (l.length : Int) := by omega
      have HS := Lib.hid (runV_succ f l j hlt)
      rw [← ha] at HS
      have HLT := Lib.hid hlt
      have hj6 : j ≤ 60 := by omega
      clear hlt ha hb hj h60
      obtain ⟨s, hs⟩ : ∃ s, s = runV f l j := ⟨_, rfl⟩
      have HQ : Hid (StOk s ∧ s.blks.length = n + 1 ∧ runV f l (j + 1) = actV s a.kd a.k a.v ∧ Both W wr B1 B2 s) := Lib.hid (by rw [hs]; exact ⟨runV_ok HF.out.1 l j, HR.out.1, HS.out, HR.out.2.2⟩)
      clear hs HS
      obtain ⟨t, ht⟩ : ∃ t, t = s.height := ⟨_, rfl⟩
      obtain ⟨t', ht'⟩ : ∃ t', t' = (actV s a.kd a.k a.v).height := ⟨_, rfl⟩
      have HT := Lib.hid (And.intro ht ht')
      clear ht ht'
      go_wp2_with fail
      refine (bo_height HQ.out.2.2.2).mono ?_
      rintro x wr ⟨rfl, rfl⟩
      rw [← HT.out.1]
      go_wp2_with fail
      refine (bo_do HQ.out.2.2.2 HR.out.2.1.size HQ.out.1 a HA.out.1 HA.out.2).mono ?_
      rintro x w5 ⟨rfl, p5, b5⟩
      have H5 := Lib.hid (And.intro p5 (HR.out.2.1.near b5))
      clear p5 b5
      go_wp2_with fail
      refine (bo_height H5.out.1).mono ?_
      rintro x w5 ⟨rfl, rfl⟩
      rw [← HT.out.2]
      by_cases he : t' = t
      · have e1 : ((t' : Int) != (t : Int)) = false := by simp [he]
        have HN : Hid ((actV s a.kd a.k a.v).blks.length = n + 1) := Lib.hid (by rw [act_same HQ.out.1 _ _ _ (by rw [← HT.out.1, ← HT.out.2]; exact he)]; exact HQ.out.2.1)
        clear he
        go_wp2
        go_roundw
        case rel => exact ⟨j + 1, n, HLT.out, by go_num, rfl, by rw [HQ.out.2.2.1]; exact HN.out, H5.out.2, by rw [HQ.out.2.2.1]; exact H5.out.1⟩
        case measure => have := HLT.out; simp [intOf]; omega
      · have e1 : ((t' : Int) != (t : Int)) = true := by rw [bne_iff_ne]; omega
        have HN : Hid ((actV s a.kd a.k a.v).blks.length = n + 1 + 1) := Lib.hid (by rw [act_more HQ.out.1 _ _ _ (by rw [← HT.out.1, ← HT.out.2]; exact he), HQ.out.2.1])
        clear he
        go_wp2
        go_roundw
        case rel => exact ⟨j + 1, n + 1, HLT.out, by go_num, by go_num, by rw [HQ.out.2.2.1]; exact HN.out, H5.out.2, by rw [HQ.out.2.2.1]; exact H5.out.1⟩
        case measure => have := HLT.out; simp [intOf]; omega
    · obtain rfl : j = l.length := by omega
      have d0 : decide ((l.length : Int) < (l.length : Int)) = false := decide_eq_false (by omega)
      clear hlt
      obtain ⟨s, hs⟩ : ∃ s, s = runV f l l.length := ⟨_, rfl⟩
      have HQ : Hid (StOk s ∧ s.blks.length = n + 1 ∧ s.first = f ∧ Both W wr B1 B2 s ∧ Gr W wr A l) := Lib.hid (by rw [hs]; exact ⟨runV_ok HF.out.1 l _, HR.out.1, runV_first f l _, HR.out.2.2, HR.out.2.1⟩)
      clear hs HR
      have hH := HF.out.2
      have hf := HF.out.1
      have hfn : f + n < 18446744073709551616 := by
        have h1 := HQ.out.1.top
        have h2 := HQ.out.2
        omega
      have HH : Hid (s.height = f + n) := Lib.hid (StV.height_of HQ.out.2.2.1 HQ.out.2.1)
      have hwn : IntKind.u64.wrap (n : Int) = (n : Int) := by rw [IntWalk.u64_in _ (by omega)]
      have hwf : IntKind.u64.wrap ((((f + n : Nat)) : Int) - (f : Int)) = (n : Int) := by rw [IntWalk.u64_in _ (by omega)]; omega
      obtain ⟨T, hT⟩ : ∃ T, T = f + n := ⟨_, rfl⟩
      rw [← hT] at hwf HH
      have HIO : Hid ((f ≤ H ∧ H - f ≤ n → (atV s H).2 = 0 ∧ (rootV s H).2 = 0 ∧ (rootV s H).1.size = 32) ∧ (¬ (f ≤ H ∧ H - f ≤ n) → atV s H = ([], 3) ∧ rootV s H = (⟨#[]⟩, 3))) := Lib.hid ⟨fun h => at_in HQ.out.2.2.1 HQ.out.2.1 h.1 h.2, at_out HQ.out.2.2.1 HQ.out.2.1⟩
      have hwN : wrap64 ((n : Int) + 1) = (((n + 1 : Nat)) : Int) := by unfold wrap64; omega
      obtain ⟨N1, hN1⟩ : ∃ N1, N1 = n + 1 := ⟨_, rfl⟩
      rw [← hN1] at hwN
      have e8 : ((N1 : Int) != (N1 : Int)) = false := by simp
      have e9 : ((n : Int) != (n : Int)) = false := by simp
      have HN1 := Lib.hid hN1
      clear hT hN1 hj h60
      by_cases hin : f ≤ H ∧ H - f ≤ n
      · obtain ⟨a0, r0, r1⟩ := HIO.out.1 hin
        have d1 : decide ((f : Int) ≤ (H : Int)) = true := decide_eq_true (by omega)
        have d1' : decide (f ≤ H) = true := decide_eq_true (by omega)
        have hw2 : IntKind.u64.wrap ((H : Int) - (f : Int)) = ((H - f : Nat) : Int) := by rw [IntWalk.u64_in _ (by omega)]; omega
        obtain ⟨D, hD⟩ : ∃ D, D = H - f := ⟨_, rfl⟩
        rw [← hD] at hw2
        have d2 : decide ((D : Int) ≤ (n : Int)) = true := decide_eq_true (by omega)
        have d2' : decide (D ≤ n) = true := decide_eq_true (by omega)
        have HA0 := Lib.hid (And.intro a0 (And.intro r0 r1))
        clear a0 r0 r1 hD hin HIO hfn hH hf hn60
        have H3 : Hid (Both W wr B1 B2 s ∧ Gr W wr A l) := Lib.hid ⟨HQ.out.2.2.2.1, HQ.out.2.2.2.2⟩
        have HQ' : Hid (StOk s ∧ s.blks.length = N1) := Lib.hid (by rw [HN1.out]; exact ⟨HQ.out.1, HQ.out.2.1⟩)
        clear HQ
        go_wp2_with fail
        refine (bo_at H3.out.1 HQ'.out.1 H HF.out.2).mono ?_
        rintro x w4 ⟨v, rfl, ⟨A4, c4, rfl, -, -, -⟩, b4⟩
        rw [HA0.out.1]
        have H4 : Hid (Both W w4 B1 B2 s ∧ Gr W w4 A l) := Lib.hid ⟨H3.out.1.below b4, H3.out.2.far b4⟩
        clear b4 H3
        go_wp2_with fail
        refine (bo_root H4.out.1 HQ'.out.1 H HF.out.2 H4.out.2.ok).mono ?_
        rintro x w5 ⟨rfl, b5⟩
        rw [show Value.tuple #[.string (rootV s H).1, .int .i64 (rootV s H).2] = Value.tuple #[.string (rootV s H).1, .int .i64 0] by rw [HA0.out.2.1]]
        have H5 : Hid (Both W w5 B1 B2 s ∧ Gr W w5 A l) := Lib.hid ⟨H4.out.1.below b5, H4.out.2.far b5⟩
        clear b5 H4
        obtain ⟨R, hR⟩ : ∃ R, R = (rootV s H).1 := ⟨_, rfl⟩
        rw [← hR]
        have hrs : R.size = 32 := by rw [hR]; exact HA0.out.2.2
        clear hR
        go_wp2_with fail
        refine (bo_blocks H5.out.1).mono ?_
        rintro x w5 ⟨rfl, rfl⟩
        rw [HQ'.out.2]
        go_wp2_with fail
        refine (bo_height H5.out.1).mono ?_
        rintro x w5 ⟨rfl, rfl⟩
        rw [HH.out]
        go_wp2
        go_ret
        exact ⟨by first | rfl | simp [hrs], H5.out.2.bel⟩
      · obtain ⟨a0, r0⟩ := HIO.out.2 hin
        have HA0 := Lib.hid (And.intro a0 r0)
        by_cases h1 : f ≤ H
        · have d1 : decide ((f : Int) ≤ (H : Int)) = true := decide_eq_true (by omega)
          have d1' : decide (f ≤ H) = true := decide_eq_true (by omega)
          have hw2 : IntKind.u64.wrap ((H : Int) - (f : Int)) = ((H - f : Nat) : Int) := by rw [IntWalk.u64_in _ (by omega)]; omega
          obtain ⟨D, hD⟩ : ∃ D, D = H - f := ⟨_, rfl⟩
          rw [← hD] at hw2
          have d2 : decide ((D : Int) ≤ (n : Int)) = false := decide_eq_false (by omega)
          have d2' : decide (D ≤ n) = false := decide_eq_false (by omega)
          clear a0 r0 hD hin HIO hfn hH hf hn60 h1
          have H3 : Hid (Both W wr B1 B2 s ∧ Gr W wr A l) := Lib.hid ⟨HQ.out.2.2.2.1, HQ.out.2.2.2.2⟩
          have HQ' : Hid (StOk s ∧ s.blks.length = N1) := Lib.hid (by rw [HN1.out]; exact ⟨HQ.out.1, HQ.out.2.1⟩)
          clear HQ
          go_wp2_with fail
          refine (bo_at H3.out.1 HQ'.out.1 H HF.out.2).mono ?_
          rintro x w4 ⟨v, rfl, ⟨A4, c4, rfl, -, -, -⟩, b4⟩
          rw [HA0.out.1]
          have H4 : Hid (Both W w4 B1 B2 s ∧ Gr W w4 A l) := Lib.hid ⟨H3.out.1.below b4, H3.out.2.far b4⟩
          clear b4 H3
          go_wp2_with fail
          refine (bo_root H4.out.1 HQ'.out.1 H HF.out.2 H4.out.2.ok).mono ?_
          rintro x w5 ⟨rfl, b5⟩
          rw [HA0.out.2]
          have H5 : Hid (Both W w5 B1 B2 s ∧ Gr W w5 A l) := Lib.hid ⟨H4.out.1.below b5, H4.out.2.far b5⟩
          clear b5 H4
          skip
          go_wp2_with fail
          refine (bo_blocks H5.out.1).mono ?_
          rintro x w5 ⟨rfl, rfl⟩
          rw [HQ'.out.2]
          go_wp2_with fail
          refine (bo_height H5.out.1).mono ?_
          rintro x w5 ⟨rfl, rfl⟩
          rw [HH.out]
          go_wp2
          go_ret
          exact ⟨by first | rfl | simp [hrs], H5.out.2.bel⟩
        · have d1 : decide ((f : Int) ≤ (H : Int)) = false := decide_eq_false (by omega)
          have d1' : decide (f ≤ H) = false := decide_eq_false (by omega)
          clear a0 r0 hin HIO hfn hH hf hn60 h1
          have H3 : Hid (Both W wr B1 B2 s ∧ Gr W wr A l) := Lib.hid ⟨HQ.out.2.2.2.1, HQ.out.2.2.2.2⟩
          have HQ' : Hid (StOk s ∧ s.blks.length = N1) := Lib.hid (by rw [HN1.out]; exact ⟨HQ.out.1, HQ.out.2.1⟩)
          clear HQ
          go_wp2_with fail
          refine (bo_at H3.out.1 HQ'.out.1 H HF.out.2).mono ?_
          rintro x w4 ⟨v, rfl, ⟨A4, c4, rfl, -, -, -⟩, b4⟩
          rw [HA0.out.1]
          have H4 : Hid (Both W w4 B1 B2 s ∧ Gr W w4 A l) := Lib.hid ⟨H3.out.1.below b4, H3.out.2.far b4⟩
          clear b4 H3
          go_wp2_with fail
          refine (bo_root H4.out.1 HQ'.out.1 H HF.out.2 H4.out.2.ok).mono ?_
          rintro x w5 ⟨rfl, b5⟩
          rw [HA0.out.2]
          have H5 : Hid (Both W w5 B1 B2 s ∧ Gr W w5 A l) := Lib.hid ⟨H4.out.1.below b5, H4.out.2.far b5⟩
          clear b5 H4
          skip
          go_wp2_with fail
          refine (bo_blocks H5.out.1).mono ?_
          rintro x w5 ⟨rfl, rfl⟩
          rw [HQ'.out.2]
          go_wp2_with fail
          refine (bo_height H5.out.1).mono ?_
          rintro x w5 ⟨rfl, rfl⟩
          rw [HH.out]
          go_wp2
          go_ret
          exact ⟨by first | rfl | simp [hrs], H5.out.2.bel⟩
theorem _root_.Go.Proofs.YtcknhnbckbocjaaDoor.storeBlocks_walk (f : Int) (v1 : Value) (H : Int) {W : World} (wf0 : (Lit.int .u64 f).wf = true) (h1 : ∃ A cap l, v1 = .slice A l.length cap ∧ l.length ≤ cap ∧ AcE.Lo W W.heap.size A l) (wf2 : (Lit.int .u64 H).wf = true) (w : World) (e : W = w) (hL : LaidOk w) :
    Calls Tryd.prog 7 #[.int .u64 f, v1, .int .u64 H] w fun x w' => x = .returned (.bool true) ∧ Below w.heap.size w w' := by
  subst e
  obtain ⟨A, ca, l, rfl, hca, hA⟩ := h1
  obtain ⟨n, rfl, hn⟩ := u64_natS wf0
  obtain ⟨m, rfl, hm⟩ := u64_natS wf2
  by_cases hg : Few11 l
  · exact main n m A ca l W ⟨hL, hA, Below.refl _ _⟩ hg hn hm
  · exact early n m A ca l W ⟨hL, hA, Below.refl _ _⟩ hg
end storeBlocks
end Go.Proofs.YtcknhnbckbocjaaDoor
