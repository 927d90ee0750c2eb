/- carracklaw06.HeadTurns walked. No condition. -/
import Derived.WalkSpells
import Derived.Outline
import Derived.Deep.QuietTactic
import Derived.BigQuiet
import Derived.Test.YtejhlommjgibmaaHtM
namespace Go.Proofs.Ytejhlommjgibmaa.headTurns
open Go.RowKit
set_option linter.unusedVariables false
def tw0 (a g k : Nat) : ByteArray := if k % 2 = 0 then wasT a g k else prvT a g k
def tw1 (a g k : Nat) : ByteArray := if k % 2 = 0 then prvT a g k else wasT a g k
set_option maxRecDepth 100000 in
set_option maxHeartbeats 2000000 in
theorem early (a g n t : Int) (W : World) (hg : 0 ≤ g) (h : ¬ (64 ≤ a ∧ a ≤ 512 ∧ 0 < g ∧ g ≤ 1152921504606846976)) :
    Calls Try.prog 5 #[.int .i64 a, .int .u64 g, .int .u8 n, .int .u16 t] W fun x w' => x = .returned (.bool true) ∧ Below W.heap.size W w' := by
  have H := Lib.hid h
  clear h
  by_cases h1 : 64 ≤ a
  · have d1 : decide (a < 64) = false := decide_eq_false (by omega)
    by_cases h2 : a ≤ 512
    · have d2 : decide ((512 : Int) < a) = false := decide_eq_false (by omega)
      by_cases h3 : g = 0
      · subst h3
        clear h1 h2 hg
        go_enter Try.func5, Try.ntmps5
        go_wp2_with fail
        refine (awake _).mono ?_
        rintro x w1 ⟨rfl, b1⟩
        have H1 := Lib.hid b1
        clear b1
        go_wp2
        go_ret
        exact ⟨rfl, H1.out⟩
      · have d3 : (g == 0) = false := by simpa using h3
        have d4 : decide ((1152921504606846976 : Int) < g) = true := decide_eq_true (by have := H.out; omega)
        clear h1 h2 h3 hg
        go_enter Try.func5, Try.ntmps5
        go_wp2_with fail
        refine (awake _).mono ?_
        rintro x w1 ⟨rfl, b1⟩
        have H1 := Lib.hid b1
        clear b1
        go_wp2
        go_ret
        exact ⟨rfl, H1.out⟩
    · have d2 : decide ((512 : Int) < a) = true := decide_eq_true (by omega)
      clear h1 h2 hg
      go_enter Try.func5, Try.ntmps5
      go_wp2_with fail
      refine (awake _).mono ?_
      rintro x w1 ⟨rfl, b1⟩
      have H1 := Lib.hid b1
      clear b1
      go_wp2
      go_ret
      exact ⟨rfl, H1.out⟩
  · have d1 : decide (a < 64) = true := decide_eq_true (by omega)
    clear h1 hg
    go_enter Try.func5, Try.ntmps5
    go_wp2_with fail
    refine (awake _).mono ?_
    rintro x w1 ⟨rfl, b1⟩
    have H1 := Lib.hid b1
    clear b1
    go_wp2
    go_ret
    exact ⟨rfl, H1.out⟩
set_option maxRecDepth 100000 in
set_option maxHeartbeats 16000000 in
theorem main (a g : Nat) (n t : Nat) (W : World) (h64 : 64 ≤ a) (h512 : a ≤ 512) (hg0 : 0 < g) (hg : g ≤ 1152921504606846976) (hn : n < 256) (ht : t < 65536) :
    Calls Try.prog 5 #[.int .i64 (a : Int), .int .u64 (g : Int), .int .u8 (n : Int), .int .u16 (t : Int)] W fun x w' => x = .returned (.bool true) ∧ Below W.heap.size W w' := by
  have d0 : decide ((a : Int) < 64) = false := decide_eq_false (by omega)
  have d1 : decide ((512 : Int) < (a : Int)) = false := decide_eq_false (by omega)
  have e0 : decide (a < 64) = false := decide_eq_false (by omega)
  have e1 : decide (512 < a) = false := decide_eq_false (by omega)
  have g0 : ((g : Int) == 0) = false := by simp; omega
  have g1 : (g == 0) = false := by simp; omega
  have g2 : decide ((1152921504606846976 : Int) < (g : Int)) = false := decide_eq_false (by omega)
  have g3 : decide (1152921504606846976 < g) = false := decide_eq_false (by omega)
  have HDM := Lib.hid (fun k (hk : k ≤ 20) => (⟨h64, h512, hg0, hg, hk⟩ : Dom a g k))
  have HA := Lib.hid (And.intro h64 h512)
  have HT := Lib.hid ht
  clear hg0 hg h64 h512 ht
  go_enter Try.func5, Try.ntmps5
  go_wp2_with fail
  refine (awake _).mono ?_
  rintro x w1 ⟨rfl, b1⟩
  have HTS0 : Hid (TS W ((w1.alloc (.cells #[.int .u64 (g : Int), .int .i64 0] 29)).alloc (.cells #[.string ⟨#[]⟩, .string ⟨#[]⟩] 47)) w1.heap.size (w1.heap.size + 1) ((g + 0 : Nat) : Int) ((0 % 2 : Nat) : Int) (tw0 a g 0) (tw1 a g 0)) :=
    Lib.hid (by
      obtain ⟨q1, q2, q3⟩ := two_new w1 #[.int .u64 (g : Int), .int .i64 0] #[.string ⟨#[]⟩, .string ⟨#[]⟩] 29 47
      have hsz := b1.size
      exact ⟨q1, q2, by omega, hsz, by omega, b1.trans (q3.mono hsz)⟩)
  clear b1
  go_wp2
  clear d0 d1 e0 e1 g0 g1 g2 g3
  generalize w1.heap.size + 1 = TB at *
  generalize w1.heap.size = HB at *
  go_loopw [11] (fun i wr => ∃ k : Nat, k ≤ n % 9 + 2 ∧ i = .int .i64 (k : Int) ∧ TS W wr HB TB ((g + k : Nat) : Int) ((k % 2 : Nat) : Int) (tw0 a g k) (tw1 a g k)) (fun i _ => (n % 9 + 2) - (intOf i).toNat)
  case atStart => exact ⟨0, by omega, rfl, HTS0.out⟩
  case round =>
    clear HTS0
    obtain ⟨k, hk, rfl, hts⟩ := hrel
    by_cases hlt : k < n % 9 + 2
    · have HD := Lib.hid (HDM.out k (by omega))
      have dk : decide ((k : Int) < (n : Int) % 9 + 2) = true := decide_eq_true (by omega)
      have dk2 : decide (k < n % 9 + 2) = true := decide_eq_true hlt
      have HLT := Lib.hid hlt
      clear hlt
      obtain ⟨GK, hGK⟩ : ∃ GK, GK = g + k := ⟨_, rfl⟩
      have HGK := Lib.hid hGK
      rw [← hGK] at hts
      clear hGK
      obtain ⟨S, hS⟩ : ∃ S, S = Sx a g k := ⟨_, rfl⟩
      have HS := Lib.hid hS
      obtain ⟨Wx, hWx⟩ : ∃ Wx, Wx = wasT a g k := ⟨_, rfl⟩
      have HWX := Lib.hid hWx
      obtain ⟨Pv, hPv⟩ : ∃ Pv, Pv = prvT a g k := ⟨_, rfl⟩
      have HPV := Lib.hid hPv
      have HSS : Hid (S.size = a ∧ Pv.size ≤ a ∧ Wx.size ≤ a) := Lib.hid ⟨by rw [hS]; exact (HD.out.good k (by omega)).2.2.2, by
        rw [hPv, prvT]; split
        · rw [(HD.out.good (k - 1) (by omega)).2.2.2]; exact Nat.le_refl _
        · exact Nat.zero_le _, by
        rw [hWx, wasT]; split
        · rw [(HD.out.good (k - 2) (by omega)).2.2.2]; exact Nat.le_refl _
        · exact Nat.zero_le _⟩
      have HMX : Hid (S.size ≤ maxLen ∧ Pv.size ≤ maxLen ∧ Wx.size ≤ maxLen) := Lib.hid (by have := HSS.out; have := HA.out; unfold maxLen; omega)
      clear hS hWx hPv
      have TONAT : Hid (((a : Int)).toNat = a) := Lib.hid (Int.toNat_natCast a)
      by_cases hp : k % 2 = 0
      · skip
        have HP := Lib.hid hp
        have kp1 : (k : Int) % 2 = 0 := by omega
        have kp2 : (k : Int).tmod 2 = 0 := by rw [Int.tmod_eq_emod_of_nonneg (by omega)]; omega
        rw [hp, show tw0 a g k = Wx by unfold tw0; rw [if_pos hp, HWX.out], show tw1 a g k = Pv by unfold tw1; rw [if_pos hp, HPV.out]] at hts
        have HTS : Hid (TS W wr HB TB (GK : Int) 0 Wx Pv) := Lib.hid hts
        have hput : Hid (∀ w : World, Calls Try.prog 7 #[.int .i64 (a : Int), .agg #[.int .u64 (GK : Int), .int .i64 0]] w fun x w' => x = .returned (.tuple #[.string S, .int .i64 0]) ∧ Below w.heap.size w w') := Lib.hid (fun w => by
          have := hd_put_ok a (g + k) (k % 2) w (HD.out.ok k) (HD.out.lt k (by omega))
          rw [HP.out, ← HGK.out] at this
          rw [HS.out]
          unfold Sx
          rw [HP.out, ← HGK.out]
          exact this)
        have HNW : Hid (nw a [S, Pv] 2 = (GK, 0, 0)) := Lib.hid (by rw [HS.out, HPV.out, HGK.out]; exact (newest0 HD.out).trans (by rw [HP.out]))
        have HNX : Hid (nxG GK = GK + 1 ∧ nxS GK 0 = 1) := Lib.hid (by
          have hm : ¬ GK + 1 = M64 := by have := HD.out.lt (k + 1) (by omega); have := HGK.out; omega
          exact ⟨if_neg hm, by unfold nxS; rw [if_neg hm]; rfl⟩)
        have hnxt : Hid (∀ w : World, Calls Try.prog 11 #[.agg #[.int .u64 (GK : Int), .int .i64 0]] w fun x w' => x = .returned (.tuple #[.agg #[.int .u64 ((GK + 1 : Nat) : Int), .int .i64 1], .int .i64 (nxE GK)]) ∧ Below w.heap.size w w') := Lib.hid (fun w => by
          have := hd_next GK 0 w (by have := HD.out.lt k (by omega); have := HGK.out; omega)
          rw [HNX.out.1, HNX.out.2] at this
          exact this)
        have HNXT : Hid (∀ w, TS W w HB TB ((GK + 1 : Nat) : Int) 1 S Pv → TS W w HB TB ((g + (k + 1) : Nat) : Int) (((k + 1) % 2 : Nat) : Int) (tw0 a g (k + 1)) (tw1 a g (k + 1))) := Lib.hid (fun w hw => by
          have e1 : GK + 1 = g + (k + 1) := by have := HGK.out; omega
          have e2 : (k + 1) % 2 = 1 := by have := HP.out; omega
          rw [← e1, e2, show tw0 a g (k + 1) = S by unfold tw0; rw [if_neg (by omega), prv_succ, HS.out], show tw1 a g (k + 1) = Pv by unfold tw1; rw [if_neg (by omega), was_succ, HPV.out]]
          exact hw)
        clear hp hts
        have c0 := Kq.blk_cell HTS.out.h 0
        have c1 := Kq.blk_cell HTS.out.h 1
        go_wp2_with fail
        refine (hput.out _).mono ?_
        rintro x w2 ⟨rfl, b2⟩
        have T2 := Lib.hid (HTS.out.below b2)
        have T2s := Lib.hid (T2.out.set0 S)
        clear b2 c0 c1 HTS
        have c0 := Kq.blk_cell T2.out.t 0
        have c1 := Kq.blk_cell T2.out.t 1
        have f0 := Kq.blk_free T2.out.t 0
        clear dk dk2
        go_wp2_with fail
        have hst := strs_two (w2.setCell ⟨TB, 0, none⟩ (.string S)) S Pv 9
        rw [size_set] at hst
        refine (hd_newest a (some ⟨w2.heap.size, 0, none⟩) 2 [S, Pv] _ (by simp) (by intro s hs; simp at hs; rcases hs with rfl | rfl; exact HMX.out.1; exact HMX.out.2.1) hst).mono ?_
        clear hst
        rw [TONAT.out, show nw a [S, Pv] [S, Pv].length = _ from HNW.out]
        rintro x w3 ⟨rfl, b3⟩
        have T3 := Lib.hid ((T2s.out.below (Kq.below_alloc _ (.cells #[.string S, .string Pv] 9))).below b3)
        have T3b := Lib.hid (T3.out.below (Kq.below_alloc w3 (.cells #[.int .u64 (GK : Int), .int .i64 0] 29)))
        clear b3 c0 c1 f0 T2 T2s
        have c0 := Kq.blk_cell T3.out.h 0
        have c1 := Kq.blk_cell T3.out.h 1
        have hlt3 := Kq.blk_lt T3.out.h
        have ha0 : ¬ (a : Int) = 0 := by have := HA.out; omega
        have ha1 : ¬ a = 0 := by have := HA.out; omega
        have htw : IntKind.i64.wrap (t : Int) = (t : Int) := IntWalk.i64_in _ (by have := HT.out; omega)
        have htm : (t : Int) % (a : Int) = ((t % a : Nat) : Int) := by omega
        have htm2 : (t : Int).tmod (a : Int) = ((t % a : Nat) : Int) := by rw [Int.tmod_eq_emod_of_nonneg (by omega)]; omega
        have HMA := Lib.hid (show t % a < a from Nat.mod_lt _ (by have := HA.out; omega))
        obtain ⟨m, hm⟩ : ∃ m, m = t % a := ⟨_, rfl⟩
        rw [← hm] at htm htm2 HMA
        clear hm
        by_cases h2 : 2 ≤ k
        · have HWS : Hid (Wx.size = a) := Lib.hid (by rw [HWX.out, wasT, if_pos h2]; exact (HD.out.good (k - 2) (by omega)).2.2.2)
          have HK2 := Lib.hid h2
          have ws : ((Wx.size : Int) == (a : Int)) = true := by rw [HWS.out]; simp
          have ws2 : (Wx.size == a) = true := by rw [HWS.out]; simp
          clear h2
          have hmS : (m : Int) ≤ (S.size : Int) := by have := HSS.out.1; have := HMA.out; omega
          have hmW : (m : Int) ≤ (Wx.size : Int) := by have := HWS.out; have := HMA.out; omega
          have hsS : S.size ≤ 512 := by have := HSS.out.1; have := HA.out; omega
          have hsW : Wx.size ≤ 512 := by have := HWS.out; have := HA.out; omega
          have d0 := Kq.blk_cell T3b.out.t 0
          have d1 := Kq.blk_cell T3b.out.t 1
          go_wp2
          go_quiet (fail)
          clear ws ws2 htm htm2 htw ha0 ha1 c0 c1 hlt3 d0 d1
          obtain ⟨bd, hbd⟩ : ∃ bd, bd = S.extract 0 m ++ Wx.extract m Wx.size := ⟨_, rfl⟩
          have HBD : Hid (bd.size = a) := Lib.hid (by rw [hbd, ByteArray.size_append, ByteArray.size_extract, ByteArray.size_extract]; have := HSS.out.1; have := HWS.out; have := HMA.out; omega)
          have HBM : Hid (bd.size ≤ maxLen) := Lib.hid (by rw [HBD.out]; have := HA.out; unfold maxLen; omega)
          rw [← hbd]
          clear hbd hmS hmW hsS hsW
          generalize hwq : (w3.alloc (Obj.cells #[Value.int IntKind.u64 (GK : Int), Value.int IntKind.i64 0] 29)).drewN nq = wq
          have T4 : Hid (TS W wq HB TB (GK : Int) 0 S Pv) := Lib.hid (by rw [← hwq]; exact T3b.out.below (below_drewN (Below.refl _ _) nq))
          clear hwq T3b T3 nq
          have d0 := Kq.blk_cell T4.out.t 0
          have d1 := Kq.blk_cell T4.out.t 1
          go_wp2
          go_quiet (fail)
          clear d0 d1
          generalize hwq : wq.drewN nq = wv
          have T5 : Hid (TS W wv HB TB (GK : Int) 0 S Pv) := Lib.hid (by rw [← hwq]; exact T4.out.below (below_drewN (Below.refl _ _) nq))
          clear hwq T4 nq
          go_wp2_with fail
          refine (hd_newest a (some ⟨wv.heap.size, 0, none⟩) 2 [bd, Pv] _ (by simp) (by intro s hs; simp at hs; rcases hs with rfl | rfl; exact HBM.out; exact HMX.out.2.1) (strs_two wv bd Pv _)).mono ?_
          obtain ⟨G2, s2, at2, hQ⟩ : ∃ G2 s2 at2, nw a [bd, Pv] 2 = (G2, s2, at2) := ⟨_, _, _, rfl⟩
          have HTN : Hid (Torn a g k bd (G2, s2, at2)) := Lib.hid (by rw [← hQ, HPV.out]; exact torn0 HD.out HK2.out bd)
          rw [TONAT.out, show nw a [bd, Pv] [bd, Pv].length = _ from hQ]
          clear hQ
          rintro x w4 ⟨rfl, b4⟩
          have T6 := Lib.hid ((T5.out.below (Kq.below_alloc wv (.cells #[.string bd, .string Pv] 9))).below b4)
          have T6b := Lib.hid (T6.out.below (Kq.below_alloc w4 (.cells #[.int .u64 (G2 : Int), .int .i64 (s2 : Int)] 29)))
          have N6 := Lib.hid (Kq.blk_new w4 #[.int .u64 (G2 : Int), .int .i64 (s2 : Int)] 29 (0, 0))
          clear b4 T5
          have c0 := Kq.blk_cell T6.out.h 0
          have hlt4 := Kq.blk_lt T6.out.h
          have HGP := Lib.hid (show 1 ≤ GK from by have := HGK.out; have := HD.out.g0; omega)
          have HNQ : Hid (∀ (x y : ByteArray), x ≠ y → (x.toList == y.toList) = false) := Lib.hid (fun x y hxy => by rw [eq_text]; exact decide_eq_false (fun e => hxy (nl_inj e)))
          cases hb : hdGoodB a bd with
          | false =>
            have HG2 : Hid (G2 = GK - 1) := Lib.hid (by have := HTN.out.no hb; simp only at this; have := HGK.out; omega)
            have her := hdErr_ne a bd
            have HRB := Lib.hid (res_bad (a := a) (s := bd) hb)
            clear hb
            have x1 : ((G2 : Int) != (GK : Int)) = true := by have := HG2.out; have := HGP.out; simp; omega
            have x2 : ((G2 : Int) == (GK : Int)) = false := by have := HG2.out; have := HGP.out; simp; omega
            have x3 : (G2 == GK) = false := by have := HG2.out; have := HGP.out; simp; omega
            have ws1 : IntKind.u64.wrap ((GK : Int) - 1) = (G2 : Int) := by rw [IntWalk.u64_in _ (by have := HG2.out; have := HGP.out; have := HGK.out; have := HD.out.g1; have := HD.out.k1; omega)]; have := HG2.out; have := HGP.out; omega
            generalize hdErr a bd = er at *
            go_wp2_with fail
            refine (hd_get' a bd _ HBM.out).mono ?_
            rw [TONAT.out, HRB.out]
            rintro x w5 ⟨rfl, b5⟩
            have T7 := Lib.hid (T6b.out.below b5)
            have N7 := Lib.hid (Kq.below_blk b5 N6.out (Kq.blk_lt N6.out))
            have T7b := Lib.hid (T7.out.below (Kq.below_alloc w5 (.cells #[.int .u64 0, .int .i64 0] 29)))
            have hlt5 := Kq.blk_lt N7.out
            have hlt6 := Kq.blk_lt T7.out.h
            clear b5 c0 hlt4
            generalize w4.heap.size = GB at *
            have c0 := Kq.blk_cell T7.out.h 0
            have c1 := Kq.blk_cell T7.out.h 1
            have n0 := Kq.blk_cell N7.out 0
            go_wp2_with fail
            refine (hnxt.out _).mono ?_
            rintro x w6 ⟨rfl, b6⟩
            have T8 := Lib.hid (T7b.out.below b6)
            clear b6 c0 c1 n0 hlt5 hlt6 T7b T7
            have HNF := Lib.hid (HNXT.out _ (T8.out.fill ((GK + 1 : Nat) : Int) 1))
            have c0 := Kq.blk_cell T8.out.h 0
            have c1 := Kq.blk_cell T8.out.h 1
            have f0 := Kq.blk_free T8.out.h 0
            have f1 := Kq.blk_free T8.out.h 1
            clear kp1 kp2 x1 x2 x3 ws1 her
            go_wp2
            go_roundw
            case rel => exact ⟨k + 1, by have := HLT.out; omega, by go_num, HNF.out⟩
            case measure => have := HLT.out; simp [intOf]; omega
          | true =>
            have HRG := Lib.hid (res_good (a := a) (s := bd) hb)
            by_cases q1 : bd = S
            · have HG2 : Hid (G2 = GK) := Lib.hid (by have := HTN.out.same (q1.trans HS.out); simp only at this; have := HGK.out; omega)
              have e2 : G2 = GK := HG2.out
              subst e2
              subst q1
              clear hb
              go_wp2_with fail
              refine (hd_get' a bd _ HBM.out).mono ?_
              rw [TONAT.out, HRG.out]
              rintro x w5 ⟨rfl, b5⟩
              have T7 := Lib.hid (T6b.out.below b5)
              have N7 := Lib.hid (Kq.below_blk b5 N6.out (Kq.blk_lt N6.out))
              have T7b := Lib.hid (T7.out.below (Kq.below_alloc w5 (.cells #[.int .u64 ((gOf bd : Nat) : Int), .int .i64 ((sOf bd : Nat) : Int)] 29)))
              have hlt5 := Kq.blk_lt N7.out
              have hlt6 := Kq.blk_lt T7.out.h
              clear b5 c0 hlt4
              generalize w4.heap.size = GB at *
              have c0 := Kq.blk_cell T7.out.h 0
              have c1 := Kq.blk_cell T7.out.h 1
              have n0 := Kq.blk_cell N7.out 0
              go_wp2_with fail
              refine (hnxt.out _).mono ?_
              rintro x w6 ⟨rfl, b6⟩
              have T8 := Lib.hid (T7b.out.below b6)
              clear b6 c0 c1 n0 hlt5 hlt6 T7b T7
              have HNF := Lib.hid (HNXT.out _ (T8.out.fill ((G2 + 1 : Nat) : Int) 1))
              have c0 := Kq.blk_cell T8.out.h 0
              have c1 := Kq.blk_cell T8.out.h 1
              have f0 := Kq.blk_free T8.out.h 0
              have f1 := Kq.blk_free T8.out.h 1
              clear kp1 kp2
              go_wp2
              go_roundw
              case rel => exact ⟨k + 1, by have := HLT.out; omega, by go_num, HNF.out⟩
              case measure => have := HLT.out; simp [intOf]; omega
            · have tS := HNQ.out bd S q1
              by_cases q2 : bd = Wx
              · have HG2 : Hid (G2 = GK - 1) := Lib.hid (by have := HTN.out.old (q2.trans HWX.out); simp only at this; have := HGK.out; omega)
                subst q2
                clear hb q1
                have x1 : ((G2 : Int) != (GK : Int)) = true := by have := HG2.out; have := HGP.out; simp; omega
                have x2 : ((G2 : Int) == (GK : Int)) = false := by have := HG2.out; have := HGP.out; simp; omega
                have x3 : (G2 == GK) = false := by have := HG2.out; have := HGP.out; simp; omega
                have ws1 : IntKind.u64.wrap ((GK : Int) - 1) = (G2 : Int) := by rw [IntWalk.u64_in _ (by have := HG2.out; have := HGP.out; have := HGK.out; have := HD.out.g1; have := HD.out.k1; omega)]; have := HG2.out; have := HGP.out; omega
                go_wp2_with fail
                refine (hd_get' a bd _ HBM.out).mono ?_
                rw [TONAT.out, HRG.out]
                rintro x w5 ⟨rfl, b5⟩
                have T7 := Lib.hid (T6b.out.below b5)
                have N7 := Lib.hid (Kq.below_blk b5 N6.out (Kq.blk_lt N6.out))
                have T7b := Lib.hid (T7.out.below (Kq.below_alloc w5 (.cells #[.int .u64 ((gOf bd : Nat) : Int), .int .i64 ((sOf bd : Nat) : Int)] 29)))
                have hlt5 := Kq.blk_lt N7.out
                have hlt6 := Kq.blk_lt T7.out.h
                clear b5 c0 hlt4
                generalize w4.heap.size = GB at *
                have c0 := Kq.blk_cell T7.out.h 0
                have c1 := Kq.blk_cell T7.out.h 1
                have n0 := Kq.blk_cell N7.out 0
                go_wp2_with fail
                refine (hnxt.out _).mono ?_
                rintro x w6 ⟨rfl, b6⟩
                have T8 := Lib.hid (T7b.out.below b6)
                clear b6 c0 c1 n0 hlt5 hlt6 T7b T7
                have HNF := Lib.hid (HNXT.out _ (T8.out.fill ((GK + 1 : Nat) : Int) 1))
                have c0 := Kq.blk_cell T8.out.h 0
                have c1 := Kq.blk_cell T8.out.h 1
                have f0 := Kq.blk_free T8.out.h 0
                have f1 := Kq.blk_free T8.out.h 1
                clear kp1 kp2 x1 x2 x3 ws1 tS
                go_wp2
                go_roundw
                case rel => exact ⟨k + 1, by have := HLT.out; omega, by go_num, HNF.out⟩
                case measure => have := HLT.out; simp [intOf]; omega
              · have tW := HNQ.out bd Wx q2
                clear hb q1 q2
                by_cases r1 : G2 = GK
                · subst r1
                  go_wp2_with fail
                  refine (hd_get' a bd _ HBM.out).mono ?_
                  rw [TONAT.out, HRG.out]
                  rintro x w5 ⟨rfl, b5⟩
                  have T7 := Lib.hid (T6b.out.below b5)
                  have N7 := Lib.hid (Kq.below_blk b5 N6.out (Kq.blk_lt N6.out))
                  have T7b := Lib.hid (T7.out.below (Kq.below_alloc w5 (.cells #[.int .u64 ((gOf bd : Nat) : Int), .int .i64 ((sOf bd : Nat) : Int)] 29)))
                  have hlt5 := Kq.blk_lt N7.out
                  have hlt6 := Kq.blk_lt T7.out.h
                  clear b5 c0 hlt4
                  generalize w4.heap.size = GB at *
                  have c0 := Kq.blk_cell T7.out.h 0
                  have c1 := Kq.blk_cell T7.out.h 1
                  have n0 := Kq.blk_cell N7.out 0
                  go_wp2
                  go_ret
                  exact ⟨rfl, T7b.out.bel⟩
                · have x1 : ((G2 : Int) != (GK : Int)) = true := by simp; omega
                  have x2 : ((G2 : Int) == (GK : Int)) = false := by simp; omega
                  have x3 : (G2 == GK) = false := by simpa using r1
                  by_cases r2 : G2 = GK - 1
                  · have HG2 := Lib.hid r2
                    have ws1 : IntKind.u64.wrap ((GK : Int) - 1) = (G2 : Int) := by rw [IntWalk.u64_in _ (by have := HG2.out; have := HGP.out; have := HGK.out; have := HD.out.g1; have := HD.out.k1; omega)]; have := HG2.out; have := HGP.out; omega
                    clear r1 r2
                    go_wp2_with fail
                    refine (hd_get' a bd _ HBM.out).mono ?_
                    rw [TONAT.out, HRG.out]
                    rintro x w5 ⟨rfl, b5⟩
                    have T7 := Lib.hid (T6b.out.below b5)
                    have N7 := Lib.hid (Kq.below_blk b5 N6.out (Kq.blk_lt N6.out))
                    have T7b := Lib.hid (T7.out.below (Kq.below_alloc w5 (.cells #[.int .u64 ((gOf bd : Nat) : Int), .int .i64 ((sOf bd : Nat) : Int)] 29)))
                    have hlt5 := Kq.blk_lt N7.out
                    have hlt6 := Kq.blk_lt T7.out.h
                    clear b5 c0 hlt4
                    generalize w4.heap.size = GB at *
                    have c0 := Kq.blk_cell T7.out.h 0
                    have c1 := Kq.blk_cell T7.out.h 1
                    have n0 := Kq.blk_cell N7.out 0
                    go_wp2
                    go_ret
                    exact ⟨rfl, T7b.out.bel⟩
                  · obtain ⟨GM, hGM⟩ : ∃ GM, GM = GK - 1 := ⟨_, rfl⟩
                    have ws1 : IntKind.u64.wrap ((GK : Int) - 1) = (GM : Int) := by rw [IntWalk.u64_in _ (by have := HGP.out; have := HGK.out; have := HD.out.g1; have := HD.out.k1; omega)]; have := HGP.out; omega
                    have y1 : ((G2 : Int) != (GM : Int)) = true := by simp; omega
                    have y2 : ((G2 : Int) == (GM : Int)) = false := by simp; omega
                    have y3 : (G2 == GM) = false := by simp; omega
                    clear r1 r2 hGM
                    go_wp2_with fail
                    refine (hd_get' a bd _ HBM.out).mono ?_
                    rw [TONAT.out, HRG.out]
                    rintro x w5 ⟨rfl, b5⟩
                    have T7 := Lib.hid (T6b.out.below b5)
                    have N7 := Lib.hid (Kq.below_blk b5 N6.out (Kq.blk_lt N6.out))
                    have T7b := Lib.hid (T7.out.below (Kq.below_alloc w5 (.cells #[.int .u64 ((gOf bd : Nat) : Int), .int .i64 ((sOf bd : Nat) : Int)] 29)))
                    have hlt5 := Kq.blk_lt N7.out
                    have hlt6 := Kq.blk_lt T7.out.h
                    clear b5 c0 hlt4
                    generalize w4.heap.size = GB at *
                    have c0 := Kq.blk_cell T7.out.h 0
                    have c1 := Kq.blk_cell T7.out.h 1
                    have n0 := Kq.blk_cell N7.out 0
                    go_wp2
                    go_ret
                    exact ⟨rfl, T7b.out.bel⟩
        · have HWS : Hid (Wx = ⟨#[]⟩) := Lib.hid (by rw [HWX.out, wasT, if_neg h2])
          have ws : ((Wx.size : Int) == (a : Int)) = false := by rw [HWS.out]; have := HA.out; simp; intro e; have : (⟨#[]⟩ : ByteArray).size = 0 := rfl; omega
          have ws2 : (Wx.size == a) = false := by rw [HWS.out]; have := HA.out; simp; intro e; have : (⟨#[]⟩ : ByteArray).size = 0 := rfl; omega
          clear h2
          go_wp2_with fail
          refine (hnxt.out _).mono ?_
          rintro x w6 ⟨rfl, b6⟩
          have T6 := Lib.hid (T3b.out.below b6)
          clear b6 c0 c1 hlt3 T3b T3 ws ws2 htm htm2 htw ha0 ha1
          have HNF := Lib.hid (HNXT.out _ (T6.out.fill ((GK + 1 : Nat) : Int) 1))
          have c0 := Kq.blk_cell T6.out.h 0
          have c1 := Kq.blk_cell T6.out.h 1
          have f0 := Kq.blk_free T6.out.h 0
          have f1 := Kq.blk_free T6.out.h 1
          clear kp1 kp2
          go_wp2
          go_roundw
          case rel => exact ⟨k + 1, by have := HLT.out; omega, by go_num, HNF.out⟩
          case measure => have := HLT.out; simp [intOf]; omega
      · have hp : k % 2 = 1 := by omega
        have HP := Lib.hid hp
        have kp1 : (k : Int) % 2 = 1 := by omega
        have kp2 : (k : Int).tmod 2 = 1 := by rw [Int.tmod_eq_emod_of_nonneg (by omega)]; omega
        rw [hp, show tw0 a g k = Pv by unfold tw0; rw [if_neg (by omega), HPV.out], show tw1 a g k = Wx by unfold tw1; rw [if_neg (by omega), HWX.out]] at hts
        have HTS : Hid (TS W wr HB TB (GK : Int) 1 Pv Wx) := Lib.hid hts
        have hput : Hid (∀ w : World, Calls Try.prog 7 #[.int .i64 (a : Int), .agg #[.int .u64 (GK : Int), .int .i64 1]] w fun x w' => x = .returned (.tuple #[.string S, .int .i64 0]) ∧ Below w.heap.size w w') := Lib.hid (fun w => by
          have := hd_put_ok a (g + k) (k % 2) w (HD.out.ok k) (HD.out.lt k (by omega))
          rw [HP.out, ← HGK.out] at this
          rw [HS.out]
          unfold Sx
          rw [HP.out, ← HGK.out]
          exact this)
        have HNW : Hid (nw a [Pv, S] 2 = (GK, 1, 1)) := Lib.hid (by rw [HS.out, HPV.out, HGK.out]; exact (newest1 HD.out (by omega)).trans (by rw [HP.out]))
        have HNX : Hid (nxG GK = GK + 1 ∧ nxS GK 1 = 0) := Lib.hid (by
          have hm : ¬ GK + 1 = M64 := by have := HD.out.lt (k + 1) (by omega); have := HGK.out; omega
          exact ⟨if_neg hm, by unfold nxS; rw [if_neg hm]; rfl⟩)
        have hnxt : Hid (∀ w : World, Calls Try.prog 11 #[.agg #[.int .u64 (GK : Int), .int .i64 1]] w fun x w' => x = .returned (.tuple #[.agg #[.int .u64 ((GK + 1 : Nat) : Int), .int .i64 0], .int .i64 (nxE GK)]) ∧ Below w.heap.size w w') := Lib.hid (fun w => by
          have := hd_next GK 1 w (by have := HD.out.lt k (by omega); have := HGK.out; omega)
          rw [HNX.out.1, HNX.out.2] at this
          exact this)
        have HNXT : Hid (∀ w, TS W w HB TB ((GK + 1 : Nat) : Int) 0 Pv S → TS W w HB TB ((g + (k + 1) : Nat) : Int) (((k + 1) % 2 : Nat) : Int) (tw0 a g (k + 1)) (tw1 a g (k + 1))) := Lib.hid (fun w hw => by
          have e1 : GK + 1 = g + (k + 1) := by have := HGK.out; omega
          have e2 : (k + 1) % 2 = 0 := by have := HP.out; omega
          rw [← e1, e2, show tw0 a g (k + 1) = Pv by unfold tw0; rw [if_pos e2, was_succ, HPV.out], show tw1 a g (k + 1) = S by unfold tw1; rw [if_pos e2, prv_succ, HS.out]]
          exact hw)
        clear hp hts
        have c0 := Kq.blk_cell HTS.out.h 0
        have c1 := Kq.blk_cell HTS.out.h 1
        go_wp2_with fail
        refine (hput.out _).mono ?_
        rintro x w2 ⟨rfl, b2⟩
        have T2 := Lib.hid (HTS.out.below b2)
        have T2s := Lib.hid (T2.out.set1 S)
        clear b2 c0 c1 HTS
        have c0 := Kq.blk_cell T2.out.t 0
        have c1 := Kq.blk_cell T2.out.t 1
        have f0 := Kq.blk_free T2.out.t 1
        clear dk dk2
        go_wp2_with fail
        have hst := strs_two (w2.setCell ⟨TB, 1, none⟩ (.string S)) Pv S 9
        rw [size_set] at hst
        refine (hd_newest a (some ⟨w2.heap.size, 0, none⟩) 2 [Pv, S] _ (by simp) (by intro s hs; simp at hs; rcases hs with rfl | rfl; exact HMX.out.2.1; exact HMX.out.1) hst).mono ?_
        clear hst
        rw [TONAT.out, show nw a [Pv, S] [Pv, S].length = _ from HNW.out]
        rintro x w3 ⟨rfl, b3⟩
        have T3 := Lib.hid ((T2s.out.below (Kq.below_alloc _ (.cells #[.string Pv, .string S] 9))).below b3)
        have T3b := Lib.hid (T3.out.below (Kq.below_alloc w3 (.cells #[.int .u64 (GK : Int), .int .i64 1] 29)))
        clear b3 c0 c1 f0 T2 T2s
        have c0 := Kq.blk_cell T3.out.h 0
        have c1 := Kq.blk_cell T3.out.h 1
        have hlt3 := Kq.blk_lt T3.out.h
        have ha0 : ¬ (a : Int) = 0 := by have := HA.out; omega
        have ha1 : ¬ a = 0 := by have := HA.out; omega
        have htw : IntKind.i64.wrap (t : Int) = (t : Int) := IntWalk.i64_in _ (by have := HT.out; omega)
        have htm : (t : Int) % (a : Int) = ((t % a : Nat) : Int) := by omega
        have htm2 : (t : Int).tmod (a : Int) = ((t % a : Nat) : Int) := by rw [Int.tmod_eq_emod_of_nonneg (by omega)]; omega
        have HMA := Lib.hid (show t % a < a from Nat.mod_lt _ (by have := HA.out; omega))
        obtain ⟨m, hm⟩ : ∃ m, m = t % a := ⟨_, rfl⟩
        rw [← hm] at htm htm2 HMA
        clear hm
        by_cases h2 : 2 ≤ k
        · have HWS : Hid (Wx.size = a) := Lib.hid (by rw [HWX.out, wasT, if_pos h2]; exact (HD.out.good (k - 2) (by omega)).2.2.2)
          have HK2 := Lib.hid h2
          have ws : ((Wx.size : Int) == (a : Int)) = true := by rw [HWS.out]; simp
          have ws2 : (Wx.size == a) = true := by rw [HWS.out]; simp
          clear h2
          have hmS : (m : Int) ≤ (S.size : Int) := by have := HSS.out.1; have := HMA.out; omega
          have hmW : (m : Int) ≤ (Wx.size : Int) := by have := HWS.out; have := HMA.out; omega
          have hsS : S.size ≤ 512 := by have := HSS.out.1; have := HA.out; omega
          have hsW : Wx.size ≤ 512 := by have := HWS.out; have := HA.out; omega
          have d0 := Kq.blk_cell T3b.out.t 0
          have d1 := Kq.blk_cell T3b.out.t 1
          go_wp2
          go_quiet (fail)
          clear ws ws2 htm htm2 htw ha0 ha1 c0 c1 hlt3 d0 d1
          obtain ⟨bd, hbd⟩ : ∃ bd, bd = S.extract 0 m ++ Wx.extract m Wx.size := ⟨_, rfl⟩
          have HBD : Hid (bd.size = a) := Lib.hid (by rw [hbd, ByteArray.size_append, ByteArray.size_extract, ByteArray.size_extract]; have := HSS.out.1; have := HWS.out; have := HMA.out; omega)
          have HBM : Hid (bd.size ≤ maxLen) := Lib.hid (by rw [HBD.out]; have := HA.out; unfold maxLen; omega)
          rw [← hbd]
          clear hbd hmS hmW hsS hsW
          generalize hwq : (w3.alloc (Obj.cells #[Value.int IntKind.u64 (GK : Int), Value.int IntKind.i64 1] 29)).drewN nq = wq
          have T4 : Hid (TS W wq HB TB (GK : Int) 1 Pv S) := Lib.hid (by rw [← hwq]; exact T3b.out.below (below_drewN (Below.refl _ _) nq))
          clear hwq T3b T3 nq
          have d0 := Kq.blk_cell T4.out.t 0
          have d1 := Kq.blk_cell T4.out.t 1
          go_wp2
          go_quiet (fail)
          clear d0 d1
          generalize hwq : wq.drewN nq = wv
          have T5 : Hid (TS W wv HB TB (GK : Int) 1 Pv S) := Lib.hid (by rw [← hwq]; exact T4.out.below (below_drewN (Below.refl _ _) nq))
          clear hwq T4 nq
          go_wp2_with fail
          refine (hd_newest a (some ⟨wv.heap.size, 0, none⟩) 2 [Pv, bd] _ (by simp) (by intro s hs; simp at hs; rcases hs with rfl | rfl; exact HMX.out.2.1; exact HBM.out) (strs_two wv Pv bd _)).mono ?_
          obtain ⟨G2, s2, at2, hQ⟩ : ∃ G2 s2 at2, nw a [Pv, bd] 2 = (G2, s2, at2) := ⟨_, _, _, rfl⟩
          have HTN : Hid (Torn a g k bd (G2, s2, at2)) := Lib.hid (by rw [← hQ, HPV.out]; exact torn1 HD.out HK2.out bd)
          rw [TONAT.out, show nw a [Pv, bd] [Pv, bd].length = _ from hQ]
          clear hQ
          rintro x w4 ⟨rfl, b4⟩
          have T6 := Lib.hid ((T5.out.below (Kq.below_alloc wv (.cells #[.string Pv, .string bd] 9))).below b4)
          have T6b := Lib.hid (T6.out.below (Kq.below_alloc w4 (.cells #[.int .u64 (G2 : Int), .int .i64 (s2 : Int)] 29)))
          have N6 := Lib.hid (Kq.blk_new w4 #[.int .u64 (G2 : Int), .int .i64 (s2 : Int)] 29 (0, 0))
          clear b4 T5
          have c0 := Kq.blk_cell T6.out.h 0
          have hlt4 := Kq.blk_lt T6.out.h
          have HGP := Lib.hid (show 1 ≤ GK from by have := HGK.out; have := HD.out.g0; omega)
          have HNQ : Hid (∀ (x y : ByteArray), x ≠ y → (x.toList == y.toList) = false) := Lib.hid (fun x y hxy => by rw [eq_text]; exact decide_eq_false (fun e => hxy (nl_inj e)))
          cases hb : hdGoodB a bd with
          | false =>
            have HG2 : Hid (G2 = GK - 1) := Lib.hid (by have := HTN.out.no hb; simp only at this; have := HGK.out; omega)
            have her := hdErr_ne a bd
            have HRB := Lib.hid (res_bad (a := a) (s := bd) hb)
            clear hb
            have x1 : ((G2 : Int) != (GK : Int)) = true := by have := HG2.out; have := HGP.out; simp; omega
            have x2 : ((G2 : Int) == (GK : Int)) = false := by have := HG2.out; have := HGP.out; simp; omega
            have x3 : (G2 == GK) = false := by have := HG2.out; have := HGP.out; simp; omega
            have ws1 : IntKind.u64.wrap ((GK : Int) - 1) = (G2 : Int) := by rw [IntWalk.u64_in _ (by have := HG2.out; have := HGP.out; have := HGK.out; have := HD.out.g1; have := HD.out.k1; omega)]; have := HG2.out; have := HGP.out; omega
            generalize hdErr a bd = er at *
            go_wp2_with fail
            refine (hd_get' a bd _ HBM.out).mono ?_
            rw [TONAT.out, HRB.out]
            rintro x w5 ⟨rfl, b5⟩
            have T7 := Lib.hid (T6b.out.below b5)
            have N7 := Lib.hid (Kq.below_blk b5 N6.out (Kq.blk_lt N6.out))
            have T7b := Lib.hid (T7.out.below (Kq.below_alloc w5 (.cells #[.int .u64 0, .int .i64 0] 29)))
            have hlt5 := Kq.blk_lt N7.out
            have hlt6 := Kq.blk_lt T7.out.h
            clear b5 c0 hlt4
            generalize w4.heap.size = GB at *
            have c0 := Kq.blk_cell T7.out.h 0
            have c1 := Kq.blk_cell T7.out.h 1
            have n0 := Kq.blk_cell N7.out 0
            go_wp2_with fail
            refine (hnxt.out _).mono ?_
            rintro x w6 ⟨rfl, b6⟩
            have T8 := Lib.hid (T7b.out.below b6)
            clear b6 c0 c1 n0 hlt5 hlt6 T7b T7
            have HNF := Lib.hid (HNXT.out _ (T8.out.fill ((GK + 1 : Nat) : Int) 0))
            have c0 := Kq.blk_cell T8.out.h 0
            have c1 := Kq.blk_cell T8.out.h 1
            have f0 := Kq.blk_free T8.out.h 0
            have f1 := Kq.blk_free T8.out.h 1
            clear kp1 kp2 x1 x2 x3 ws1 her
            go_wp2
            go_roundw
            case rel => exact ⟨k + 1, by have := HLT.out; omega, by go_num, HNF.out⟩
            case measure => have := HLT.out; simp [intOf]; omega
          | true =>
            have HRG := Lib.hid (res_good (a := a) (s := bd) hb)
            by_cases q1 : bd = S
            · have HG2 : Hid (G2 = GK) := Lib.hid (by have := HTN.out.same (q1.trans HS.out); simp only at this; have := HGK.out; omega)
              have e2 : G2 = GK := HG2.out
              subst e2
              subst q1
              clear hb
              go_wp2_with fail
              refine (hd_get' a bd _ HBM.out).mono ?_
              rw [TONAT.out, HRG.out]
              rintro x w5 ⟨rfl, b5⟩
              have T7 := Lib.hid (T6b.out.below b5)
              have N7 := Lib.hid (Kq.below_blk b5 N6.out (Kq.blk_lt N6.out))
              have T7b := Lib.hid (T7.out.below (Kq.below_alloc w5 (.cells #[.int .u64 ((gOf bd : Nat) : Int), .int .i64 ((sOf bd : Nat) : Int)] 29)))
              have hlt5 := Kq.blk_lt N7.out
              have hlt6 := Kq.blk_lt T7.out.h
              clear b5 c0 hlt4
              generalize w4.heap.size = GB at *
              have c0 := Kq.blk_cell T7.out.h 0
              have c1 := Kq.blk_cell T7.out.h 1
              have n0 := Kq.blk_cell N7.out 0
              go_wp2_with fail
              refine (hnxt.out _).mono ?_
              rintro x w6 ⟨rfl, b6⟩
              have T8 := Lib.hid (T7b.out.below b6)
              clear b6 c0 c1 n0 hlt5 hlt6 T7b T7
              have HNF := Lib.hid (HNXT.out _ (T8.out.fill ((G2 + 1 : Nat) : Int) 0))
              have c0 := Kq.blk_cell T8.out.h 0
              have c1 := Kq.blk_cell T8.out.h 1
              have f0 := Kq.blk_free T8.out.h 0
              have f1 := Kq.blk_free T8.out.h 1
              clear kp1 kp2
              go_wp2
              go_roundw
              case rel => exact ⟨k + 1, by have := HLT.out; omega, by go_num, HNF.out⟩
              case measure => have := HLT.out; simp [intOf]; omega
            · have tS := HNQ.out bd S q1
              by_cases q2 : bd = Wx
              · have HG2 : Hid (G2 = GK - 1) := Lib.hid (by have := HTN.out.old (q2.trans HWX.out); simp only at this; have := HGK.out; omega)
                subst q2
                clear hb q1
                have x1 : ((G2 : Int) != (GK : Int)) = true := by have := HG2.out; have := HGP.out; simp; omega
                have x2 : ((G2 : Int) == (GK : Int)) = false := by have := HG2.out; have := HGP.out; simp; omega
                have x3 : (G2 == GK) = false := by have := HG2.out; have := HGP.out; simp; omega
                have ws1 : IntKind.u64.wrap ((GK : Int) - 1) = (G2 : Int) := by rw [IntWalk.u64_in _ (by have := HG2.out; have := HGP.out; have := HGK.out; have := HD.out.g1; have := HD.out.k1; omega)]; have := HG2.out; have := HGP.out; omega
                go_wp2_with fail
                refine (hd_get' a bd _ HBM.out).mono ?_
                rw [TONAT.out, HRG.out]
                rintro x w5 ⟨rfl, b5⟩
                have T7 := Lib.hid (T6b.out.below b5)
                have N7 := Lib.hid (Kq.below_blk b5 N6.out (Kq.blk_lt N6.out))
                have T7b := Lib.hid (T7.out.below (Kq.below_alloc w5 (.cells #[.int .u64 ((gOf bd : Nat) : Int), .int .i64 ((sOf bd : Nat) : Int)] 29)))
                have hlt5 := Kq.blk_lt N7.out
                have hlt6 := Kq.blk_lt T7.out.h
                clear b5 c0 hlt4
                generalize w4.heap.size = GB at *
                have c0 := Kq.blk_cell T7.out.h 0
                have c1 := Kq.blk_cell T7.out.h 1
                have n0 := Kq.blk_cell N7.out 0
                go_wp2_with fail
                refine (hnxt.out _).mono ?_
                rintro x w6 ⟨rfl, b6⟩
                have T8 := Lib.hid (T7b.out.below b6)
                clear b6 c0 c1 n0 hlt5 hlt6 T7b T7
                have HNF := Lib.hid (HNXT.out _ (T8.out.fill ((GK + 1 : Nat) : Int) 0))
                have c0 := Kq.blk_cell T8.out.h 0
                have c1 := Kq.blk_cell T8.out.h 1
                have f0 := Kq.blk_free T8.out.h 0
                have f1 := Kq.blk_free T8.out.h 1
                clear kp1 kp2 x1 x2 x3 ws1 tS
                go_wp2
                go_roundw
                case rel => exact ⟨k + 1, by have := HLT.out; omega, by go_num, HNF.out⟩
                case measure => have := HLT.out; simp [intOf]; omega
              · have tW := HNQ.out bd Wx q2
                clear hb q1 q2
                by_cases r1 : G2 = GK
                · subst r1
                  go_wp2_with fail
                  refine (hd_get' a bd _ HBM.out).mono ?_
                  rw [TONAT.out, HRG.out]
                  rintro x w5 ⟨rfl, b5⟩
                  have T7 := Lib.hid (T6b.out.below b5)
                  have N7 := Lib.hid (Kq.below_blk b5 N6.out (Kq.blk_lt N6.out))
                  have T7b := Lib.hid (T7.out.below (Kq.below_alloc w5 (.cells #[.int .u64 ((gOf bd : Nat) : Int), .int .i64 ((sOf bd : Nat) : Int)] 29)))
                  have hlt5 := Kq.blk_lt N7.out
                  have hlt6 := Kq.blk_lt T7.out.h
                  clear b5 c0 hlt4
                  generalize w4.heap.size = GB at *
                  have c0 := Kq.blk_cell T7.out.h 0
                  have c1 := Kq.blk_cell T7.out.h 1
                  have n0 := Kq.blk_cell N7.out 0
                  go_wp2
                  go_ret
                  exact ⟨rfl, T7b.out.bel⟩
                · have x1 : ((G2 : Int) != (GK : Int)) = true := by simp; omega
                  have x2 : ((G2 : Int) == (GK : Int)) = false := by simp; omega
                  have x3 : (G2 == GK) = false := by simpa using r1
                  by_cases r2 : G2 = GK - 1
                  · have HG2 := Lib.hid r2
                    have ws1 : IntKind.u64.wrap ((GK : Int) - 1) = (G2 : Int) := by rw [IntWalk.u64_in _ (by have := HG2.out; have := HGP.out; have := HGK.out; have := HD.out.g1; have := HD.out.k1; omega)]; have := HG2.out; have := HGP.out; omega
                    clear r1 r2
                    go_wp2_with fail
                    refine (hd_get' a bd _ HBM.out).mono ?_
                    rw [TONAT.out, HRG.out]
                    rintro x w5 ⟨rfl, b5⟩
                    have T7 := Lib.hid (T6b.out.below b5)
                    have N7 := Lib.hid (Kq.below_blk b5 N6.out (Kq.blk_lt N6.out))
                    have T7b := Lib.hid (T7.out.below (Kq.below_alloc w5 (.cells #[.int .u64 ((gOf bd : Nat) : Int), .int .i64 ((sOf bd : Nat) : Int)] 29)))
                    have hlt5 := Kq.blk_lt N7.out
                    have hlt6 := Kq.blk_lt T7.out.h
                    clear b5 c0 hlt4
                    generalize w4.heap.size = GB at *
                    have c0 := Kq.blk_cell T7.out.h 0
                    have c1 := Kq.blk_cell T7.out.h 1
                    have n0 := Kq.blk_cell N7.out 0
                    go_wp2
                    go_ret
                    exact ⟨rfl, T7b.out.bel⟩
                  · obtain ⟨GM, hGM⟩ : ∃ GM, GM = GK - 1 := ⟨_, rfl⟩
                    have ws1 : IntKind.u64.wrap ((GK : Int) - 1) = (GM : Int) := by rw [IntWalk.u64_in _ (by have := HGP.out; have := HGK.out; have := HD.out.g1; have := HD.out.k1; omega)]; have := HGP.out; omega
                    have y1 : ((G2 : Int) != (GM : Int)) = true := by simp; omega
                    have y2 : ((G2 : Int) == (GM : Int)) = false := by simp; omega
                    have y3 : (G2 == GM) = false := by simp; omega
                    clear r1 r2 hGM
                    go_wp2_with fail
                    refine (hd_get' a bd _ HBM.out).mono ?_
                    rw [TONAT.out, HRG.out]
                    rintro x w5 ⟨rfl, b5⟩
                    have T7 := Lib.hid (T6b.out.below b5)
                    have N7 := Lib.hid (Kq.below_blk b5 N6.out (Kq.blk_lt N6.out))
                    have T7b := Lib.hid (T7.out.below (Kq.below_alloc w5 (.cells #[.int .u64 ((gOf bd : Nat) : Int), .int .i64 ((sOf bd : Nat) : Int)] 29)))
                    have hlt5 := Kq.blk_lt N7.out
                    have hlt6 := Kq.blk_lt T7.out.h
                    clear b5 c0 hlt4
                    generalize w4.heap.size = GB at *
                    have c0 := Kq.blk_cell T7.out.h 0
                    have c1 := Kq.blk_cell T7.out.h 1
                    have n0 := Kq.blk_cell N7.out 0
                    go_wp2
                    go_ret
                    exact ⟨rfl, T7b.out.bel⟩
        · have HWS : Hid (Wx = ⟨#[]⟩) := Lib.hid (by rw [HWX.out, wasT, if_neg h2])
          have ws : ((Wx.size : Int) == (a : Int)) = false := by rw [HWS.out]; have := HA.out; simp; intro e; have : (⟨#[]⟩ : ByteArray).size = 0 := rfl; omega
          have ws2 : (Wx.size == a) = false := by rw [HWS.out]; have := HA.out; simp; intro e; have : (⟨#[]⟩ : ByteArray).size = 0 := rfl; omega
          clear h2
          go_wp2_with fail
          refine (hnxt.out _).mono ?_
          rintro x w6 ⟨rfl, b6⟩
          have T6 := Lib.hid (T3b.out.below b6)
          clear b6 c0 c1 hlt3 T3b T3 ws ws2 htm htm2 htw ha0 ha1
          have HNF := Lib.hid (HNXT.out _ (T6.out.fill ((GK + 1 : Nat) : Int) 0))
          have c0 := Kq.blk_cell T6.out.h 0
          have c1 := Kq.blk_cell T6.out.h 1
          have f0 := Kq.blk_free T6.out.h 0
          have f1 := Kq.blk_free T6.out.h 1
          clear kp1 kp2
          go_wp2
          go_roundw
          case rel => exact ⟨k + 1, by have := HLT.out; omega, by go_num, HNF.out⟩
          case measure => have := HLT.out; simp [intOf]; omega
    · have hk' : k = n % 9 + 2 := Nat.le_antisymm hk (Nat.not_lt.1 hlt)
      have dk : decide ((k : Int) < (n : Int) % 9 + 2) = false := decide_eq_false (by omega)
      have dk2 : decide (k < n % 9 + 2) = false := decide_eq_false hlt
      have HB2 := Lib.hid hts.bel
      clear hk' hlt hts
      go_wp2
      go_ret
      exact ⟨rfl, HB2.out⟩
theorem headTurns_walk (a g n t : Int) (wa : (Lit.int .i64 a).wf = true) (wg : (Lit.int .u64 g).wf = true) (wn : (Lit.int .u8 n).wf = true) (wt : (Lit.int .u16 t).wf = true) (W : World) :
    Calls Try.prog 5 #[.int .i64 a, .int .u64 g, .int .u8 n, .int .u16 t] W fun x w' => x = .returned (.bool true) ∧ Below W.heap.size W w' := by
  have hg : 0 ≤ g := by simp [Lit.wf, IntKind.min, IntKind.max, IntKind.signed, IntKind.bits] at wg; omega
  have hn : 0 ≤ n ∧ n < 256 := by simp [Lit.wf, IntKind.min, IntKind.max, IntKind.signed, IntKind.bits] at wn; omega
  have ht : 0 ≤ t ∧ t < 65536 := by simp [Lit.wf, IntKind.min, IntKind.max, IntKind.signed, IntKind.bits] at wt; omega
  by_cases h : 64 ≤ a ∧ a ≤ 512 ∧ 0 < g ∧ g ≤ 1152921504606846976
  · obtain ⟨a', rfl⟩ := Int.eq_ofNat_of_zero_le (show 0 ≤ a by omega)
    obtain ⟨g', rfl⟩ := Int.eq_ofNat_of_zero_le hg
    obtain ⟨n', rfl⟩ := Int.eq_ofNat_of_zero_le hn.1
    obtain ⟨t', rfl⟩ := Int.eq_ofNat_of_zero_le ht.1
    exact main a' g' n' t' W (by omega) (by omega) (by omega) (by omega) (by omega) (by omega)
  · exact early a g n t W hg h
end Go.Proofs.Ytejhlommjgibmaa.headTurns
