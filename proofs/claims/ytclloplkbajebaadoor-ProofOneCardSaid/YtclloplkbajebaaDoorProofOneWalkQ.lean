/- carracklaw09.ProofOne walked. Condition: the constants lie where they lie. -/
import Derived.WalkSpells
import Derived.Outline
import Derived.Test.YtclloplkbajebaaDoorPfJQ
namespace Go.Proofs.YtclloplkbajebaaDoor
open Go.RowKit
set_option linter.unusedVariables false
namespace proofOne
def Ok (l : List PairV) (key s : ByteArray) : Prop := Few9 l ∧ s.size ≤ 3000 ∧ key.size ≤ 16
set_option maxRecDepth 100000 in
set_option maxHeartbeats 1000000 in
theorem early (A : Option Addr) (ca : Nat) (l : List PairV) (key s : ByteArray) (W : World) (h : L9 W W A l) (hno : ¬ Ok l key s) :
    Calls Tryd.prog 8 #[.slice A l.length ca, .string key, .string s] W fun x w' => x = .returned (.bool true) ∧ Below W.heap.size W w' := by
  have H := Lib.hid h
  have HNO := Lib.hid hno
  clear h hno
  go_enter Tryd.func8, Tryd.ntmps8
  go_wp2_with fail
  refine (awake09 W H.out.ok).mono ?_
  rintro x w1 ⟨rfl, b1⟩
  have H1 := Lib.hid (H.out.below b1)
  clear b1 H
  go_wp2_with fail
  refine (few09 l A ca w1 H1.out.pa).mono ?_
  rintro x w2 ⟨rfl, b2⟩
  have H2 := Lib.hid (H1.out.below b2)
  clear b2 H1
  by_cases f1 : Few9 l
  · rw [decide_eq_true f1]
    have HF := Lib.hid f1
    clear f1
    by_cases k1 : 3000 < s.size
    · have d1 : decide ((3000 : Int) < (s.size : Int)) = true := decide_eq_true (by omega)
      have d2 : decide (3000 < s.size) = true := decide_eq_true k1
      clear k1
      go_wp2
      go_ret
      exact ⟨rfl, H2.out.bel⟩
    have d1 : decide ((3000 : Int) < (s.size : Int)) = false := decide_eq_false (by omega)
    have d2 : decide (3000 < s.size) = false := decide_eq_false k1
    have k2 : 16 < key.size := by
      by_cases g : 16 < key.size
      · exact g
      · exact absurd ⟨HF.out, by omega, by omega⟩ HNO.out
    have d3 : decide ((16 : Int) < (key.size : Int)) = true := decide_eq_true (by omega)
    have d4 : decide (16 < key.size) = true := decide_eq_true k2
    clear k1 k2
    go_wp2
    go_ret
    exact ⟨rfl, H2.out.bel⟩
  · rw [decide_eq_false f1]
    clear f1
    go_wp2
    go_ret
    exact ⟨rfl, H2.out.bel⟩
set_option maxRecDepth 100000 in
set_option maxHeartbeats 1000000 in
theorem main (A : Option Addr) (ca : Nat) (l : List PairV) (key s : ByteArray) (W : World) (h : L9 W W A l) (hok : Ok l key s) (hca : l.length ≤ ca) :
    Calls Tryd.prog 8 #[.slice A l.length ca, .string key, .string s] W fun x w' => x = .returned (.bool true) ∧ Below W.heap.size W w' := by
  obtain ⟨hf, hs, hk⟩ := hok
  have H := Lib.hid h
  have hl40 := hf.1
  have HPR := Lib.hid (fun w h1 h2 => pf_present l A ca key w (by omega) (chk_sorted hf.2) hf.fit h1 h2 hca)
  have HRT := Lib.hid (fun w h1 h2 => mk_root l A ca w (by omega) hf.fit h1 h2 hca)
  have HBR := Lib.hid (fun lo hi P w h1 h2 h3 h4 => rk_root lo hi P [] l A ca w (by omega) hf.fit h1 h2 h3 h4 hca (by simp only [List.length_nil]; omega))
  have HRL : Hid (dgT (topT l.length (digL l)) = rootL l) := Lib.hid rfl
  rw [HRL.out] at HRT HBR
  have d0 : Hid (decide (Few9 l) = true) := Lib.hid (decide_eq_true hf)
  have d1 : decide ((3000 : Int) < (s.size : Int)) = false := decide_eq_false (by omega)
  have d2 : decide (3000 < s.size) = false := decide_eq_false (by omega)
  have d3 : decide ((16 : Int) < (key.size : Int)) = false := decide_eq_false (by omega)
  have d4 : decide (16 < key.size) = false := decide_eq_false (by omega)
  have HF := Lib.hid hf
  have HS : Hid (s.size ≤ 100000) := Lib.hid (by omega)
  obtain ⟨RT, hRT⟩ : ∃ RT, RT = rootL l := ⟨_, rfl⟩
  rw [← hRT] at HRT HBR
  have HRR := Lib.hid hRT
  clear h hf hk hs hca hl40 hRT HRL
  go_enter Tryd.func8, Tryd.ntmps8
  go_wp2_with fail
  refine (awake09 W H.out.ok).mono ?_
  rintro x w1 ⟨rfl, b1⟩
  have H1 := Lib.hid (H.out.below b1)
  clear b1 H
  go_wp2_with fail
  refine (few09 l A ca w1 H1.out.pa).mono ?_
  rintro x w2 ⟨rfl, b2⟩
  rw [d0.out]
  have H2 := Lib.hid (H1.out.below b2)
  clear b2 H1 d0
  go_wp2_with fail
  refine (HPR.out w2 H2.out.pa H2.out.ok).mono ?_
  intro x w4 hpost
  clear d1 d2 d3 d4 HPR
  obtain ⟨is, his⟩ : ∃ is, is = isIn l key := ⟨_, rfl⟩
  cases is with
  | false =>
    rw [presV_no his.symm] at hpost
    obtain ⟨A2, cap2, rfl, b4⟩ := hpost.none rfl
    have H5 := Lib.hid ((H2.out.below b4).below (Kq.below_alloc w4 (.cells #[.bool false, .slice A2 0 cap2] 24)))
    clear hpost his b4
    go_wp2
    go_ret
    exact ⟨rfl, H5.out.bel⟩
  | true =>
    have HIS := Lib.hid his.symm
    have HMAY := Lib.hid (pfHas_may HF.out.2 HF.out.1 his.symm)
    rw [presV_yes his.symm] at hpost
    obtain ⟨A2, cap2, ls, rfl, hv, hcp, hA2, b4⟩ := hpost
    have hl1 : ls.length = 1 := by rw [← vals_len, hv]; rfl
    obtain ⟨x, rfl⟩ := List.length_eq_one_iff.1 hl1
    have hxl : x.l = mkLf l (plc l key) := by
      have : [x.l] = [mkLf l (plc l key)] := hv
      injection this
    simp only [List.length_cons, List.length_nil, Nat.zero_add]
    have hpv : (pfHas l key).ab = false := rfl
    rw [hpv]
    have b5 := Kq.below_alloc w4 (.cells #[.bool false, .slice A2 1 cap2] 24)
    have H5 : Hid (L9 W (w4.alloc (.cells #[.bool false, .slice A2 1 cap2] 24)) A l ∧ PBk (w4.alloc (.cells #[.bool false, .slice A2 1 cap2] 24)) w4.heap.size false (.slice A2 1 cap2) ∧ LfsN (w4.alloc (.cells #[.bool false, .slice A2 1 cap2] 24)) (fun k => k < w2.heap.size) A2 [x]) := Lib.hid ⟨(H2.out.below b4).below b5, ⟨Kq.blk_new _ _ _ _⟩, hA2.below b5⟩
    have HXL := Lib.hid hxl
    clear his hv hcp hA2 b4 hl1 hpv b5 H2 hxl
    obtain ⟨M, hM⟩ : ∃ M, M = txt (pfB (pfHas l key)) := ⟨_, rfl⟩
    have HBY : Hid (Calls Tryd.prog 10 #[.agg #[.bool false, .slice A2 1 cap2]] (w4.alloc (.cells #[.bool false, .slice A2 1 cap2] 24)) (BsPost (w4.alloc (.cells #[.bool false, .slice A2 1 cap2] 24)) (M, 0))) := Lib.hid (by
      have := pf_bytes _ false A2 cap2 [x] _ H5.out.2.2 (by simp) (fun z hz => by rw [List.mem_singleton] at hz; rw [hz, HXL.out]; have := pathL_few l (plc l key) HF.out.1; show (pathL l (plc l key)).length ≤ 1000; omega)
      have e : (⟨false, vals [x]⟩ : PfV) = pfHas l key := by unfold pfHas; rw [← HXL.out]; rfl
      rw [e, (parse_bytes HMAY.out).1, ← hM] at this
      exact this)
    have HPM : Hid ((pfParse M).1 = pfHas l key ∧ M = txt (pfB (pfHas l key))) := Lib.hid ⟨by rw [hM, (parse_bytes HMAY.out).2], hM⟩
    clear hM
    go_wp2_with fail
    refine HBY.out.mono ?_
    rintro x' w6 ⟨rfl, b6⟩
    have H6 : Hid (L9 W w6 A l ∧ PBk w6 w4.heap.size false (.slice A2 1 cap2) ∧ LfsN w6 (fun k => k < w2.heap.size) A2 [x]) := Lib.hid ⟨H5.out.1.below b6, H5.out.2.1.below b6, H5.out.2.2.below b6⟩
    clear b6 H5 HBY
    have c1 := H6.out.2.1.c1
    go_wp2_with fail
    refine (HRT.out w6 H6.out.1.pa H6.out.1.ok).mono ?_
    rintro x' w7 ⟨rfl, b7⟩
    have H7 : Hid (L9 W w7 A l ∧ PBk w7 w4.heap.size false (.slice A2 1 cap2) ∧ LfsN w7 (fun k => k < w2.heap.size) A2 [x]) := Lib.hid ⟨H6.out.1.below b7, H6.out.2.1.below b7, H6.out.2.2.below b7⟩
    clear b7 H6 HRT c1
    have c1 := H7.out.2.1.c1
    obtain ⟨b, off, rfl, -, -, hc⟩ := H7.out.2.2.head
    have c3 := hc.c3
    obtain ⟨V, hV⟩ : ∃ V, V = x.l.v := ⟨_, rfl⟩
    rw [← hV] at c3
    have HV : Hid (V = (mkLf l (plc l key)).v) := Lib.hid (by rw [hV, HXL.out])
    obtain ⟨HB, hHB⟩ : ∃ B, B = hasP RT key V (pfParse s).1 := ⟨_, rfl⟩
    have HPH := Lib.hid (pf_has RT s key V w7 HS.out H7.out.1.ok)
    rw [← hHB] at HPH
    have HHB := Lib.hid hHB
    clear hc hV hHB
    go_wp2_with fail
    refine HPH.out.mono ?_
    rintro x' w8 ⟨rfl, b8⟩
    have H8 := Lib.hid (H7.out.1.below b8)
    clear b8 H7 HPH c1 c3
    by_cases hsm : s = M
    · have HE : Hid (HB = true) := Lib.hid (by rw [HHB.out, hsm, HPM.out.1, HRR.out, has_made HF.out.1 HIS.out V, ← HV.out]; exact decide_eq_true rfl)
      subst hsm
      obtain rfl : HB = true := HE.out
      have e1 : (s.toList == s.toList) = true := by simp
      go_wp2
      go_ret
      exact ⟨rfl, H8.out.bel⟩
    · have e1 : (s.toList == M.toList) = false := by rw [beq_eq_false_iff_ne]; exact fun h => hsm (toList_inj h)
      have e2 : (s.toList != M.toList) = true := by rw [bne_iff_ne]; exact fun h => hsm (toList_inj h)
      have HSM := Lib.hid hsm
      clear hsm
      cases HB with
      | false =>
        go_wp2
        go_ret
        exact ⟨rfl, H8.out.bel⟩
      | true =>
        have HCL : Hid (Clash (askH (pfParse s).1 (askR l ++ []))) := Lib.hid (by
          rw [HRR.out] at HHB
          have hp := has_parts HHB.out.symm
          unfold askH
          rw [if_pos hp]
          have hm := parse_may (s := s) (Or.inr hp.2)
          rcases has_sound (T := askR l ++ []) hm.1 HF.out.2 HF.out.1 (fun t ht => List.mem_append_left _ ht) HHB.out.symm with g | ⟨i, hi, e, hkv⟩
          · exact g
          · exfalso
            obtain ⟨hpl, hke⟩ := isIn_of HIS.out
            have hi2 : i = plc l key := at_one (chk_sorted HF.out.2) hi hpl (by rw [hke, hkv])
            have e2 : (pfParse s).1 = pfHas l key := by rw [e, hi2]; rfl
            apply HSM.out
            rw [HPM.out.2, ← e2, hm.2, txt_nl9])
        have HAL : Hid ((askR l ++ []).length ≤ 700) := Lib.hid (by rw [List.append_nil]; have := askR_len l HF.out.1; omega)
        go_wp2_with fail
        refine (r_booknewW w8).mono ?_
        rintro x' w9 ⟨P, rfl, hbk, hbl⟩
        have H9 := Lib.hid (H8.out.book hbk hbl)
        clear hbk hbl H8
        generalize w8.heap.size = lo at *
        generalize w9.heap.size = hi at *
        go_wp2_with fail
        refine (HBR.out lo hi P w9 H9.out.a H9.out.bk H9.out.hhi H9.out.hlo).mono ?_
        rintro x' w10 ⟨rfl, hbk, hkp⟩
        have H10 := Lib.hid (H9.out.ask hbk hkp)
        clear hbk hkp H9 HBR
        go_wp2_with fail
        refine (rq_has RT s key V lo hi P _ w10 HS.out H10.out.bk H10.out.hhi H10.out.hlo HAL.out).mono ?_
        rintro x' w11 ⟨rfl, hbk, hkp⟩
        have H11 := Lib.hid (H10.out.ask hbk hkp)
        clear hbk hkp H10
        have c3 := H11.out.mark HCL.out
        go_wp2
        go_ret
        exact ⟨rfl, H11.out.bel⟩
theorem proofOne_walk (v0 : Value) (key s : ByteArray) {W : World} (h0 : ∃ A cap l, v0 = .slice A l.length cap ∧ l.length ≤ cap ∧ PsLo W W.heap.size A l) (h1 : key.size ≤ maxLen) (h2 : s.size ≤ maxLen) (w : World) (e : W = w) (hL : LaidOk w) :
    Calls Tryd.prog 8 #[v0, .string key, .string s] w fun x w' => x = .returned (.bool true) ∧ Below w.heap.size w w' := by
  subst e
  obtain ⟨A, ca, l, rfl, hca, hA⟩ := h0
  by_cases hg : Ok l key s
  · exact main A ca l key s W ⟨hA, hL, Below.refl _ _⟩ hg hca
  · exact early A ca l key s W ⟨hA, hL, Below.refl _ _⟩ hg
end proofOne
end Go.Proofs.YtclloplkbajebaaDoor
