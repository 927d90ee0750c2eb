/- carracklaw09.ProofBack walked. Condition: the constants lie where they lie. -/
import Derived.WalkSpells
import Derived.Outline
import Derived.Test.YtclloplkbajebaaDoorPfLwQ
namespace Go.Proofs.YtclloplkbajebaaDoor
open Go.RowKit
set_option linter.unusedVariables false
namespace proofBack
def Ok (l : List PairV) (key other : ByteArray) : Prop := Few9 l ∧ (1 ≤ key.size ∧ key.size ≤ 16) ∧ other.size ≤ 300
set_option maxRecDepth 100000 in
set_option maxHeartbeats 1000000 in
theorem early (A : Option Addr) (ca : Nat) (l : List PairV) (key other : ByteArray) (W : World) (h : L9 W W A l) (hno : ¬ Ok l key other) :
    Calls Tryd.prog 6 #[.slice A l.length ca, .string key, .string other] W fun x w' => x = .returned (.bool true) ∧ Below W.heap.size W w' := by
  have H := Lib.hid h
  have HNO := Lib.hid hno
  clear h hno
  go_enter Tryd.func6, Tryd.ntmps6
  go_wp2_with fail
  refine (awake09 W H.out.ok).mono ?_
  rintro x w1 ⟨rfl, b1⟩
  have H1 := Lib.hid (H.out.below b1)
  clear b1 H
  go_wp2_with fail
  refine (few09 l A ca w1 H1.out.pa).mono ?_
  rintro x w2 ⟨rfl, b2⟩
  have H2 := Lib.hid (H1.out.below b2)
  clear b2 H1
  by_cases f1 : Few9 l
  · rw [decide_eq_true f1]
    have HF := Lib.hid f1
    clear f1
    by_cases k1 : key.size < 1
    · have d1 : decide ((key.size : Int) < 1) = true := decide_eq_true (by omega)
      have d2 : decide (key.size < 1) = true := decide_eq_true k1
      clear k1
      go_wp2
      go_ret
      exact ⟨rfl, H2.out.bel⟩
    have d1 : decide ((key.size : Int) < 1) = false := decide_eq_false (by omega)
    have d2 : decide (key.size < 1) = false := decide_eq_false k1
    by_cases k2 : 16 < key.size
    · have d3 : decide ((16 : Int) < (key.size : Int)) = true := decide_eq_true (by omega)
      have d4 : decide (16 < key.size) = true := decide_eq_true k2
      clear k1 k2
      go_wp2
      go_ret
      exact ⟨rfl, H2.out.bel⟩
    have d3 : decide ((16 : Int) < (key.size : Int)) = false := decide_eq_false (by omega)
    have d4 : decide (16 < key.size) = false := decide_eq_false k2
    have k3 : 300 < other.size := by
      have h := HNO.out
      unfold Ok at h
      by_cases g : 300 < other.size
      · exact g
      · exact absurd ⟨HF.out, ⟨by omega, by omega⟩, by omega⟩ h
    have d5 : decide ((300 : Int) < (other.size : Int)) = true := decide_eq_true (by omega)
    have d6 : decide (300 < other.size) = true := decide_eq_true k3
    clear k1 k2 k3
    go_wp2
    go_ret
    exact ⟨rfl, H2.out.bel⟩
  · rw [decide_eq_false f1]
    clear f1
    go_wp2
    go_ret
    exact ⟨rfl, H2.out.bel⟩
set_option maxRecDepth 100000 in
set_option maxHeartbeats 2000000 in
theorem main (A : Option Addr) (ca : Nat) (l : List PairV) (key other : ByteArray) (W : World) (h : L9 W W A l) (hok : Ok l key other) (hca : l.length ≤ ca) :
    Calls Tryd.prog 6 #[.slice A l.length ca, .string key, .string other] W fun x w' => x = .returned (.bool true) ∧ Below W.heap.size W w' := by
  obtain ⟨hf, ⟨hk1, hk2⟩, ho⟩ := hok
  have H := Lib.hid h
  have HK : Hid (isKeyB key = true) := Lib.hid (decide_eq_true ⟨hk1, hk2⟩)
  have hl40 := hf.1
  have HPR := Lib.hid (fun w h1 h2 => pf_present l A ca key w (by omega) (chk_sorted hf.2) hf.fit h1 h2 hca)
  have HAB := Lib.hid (fun w h1 h2 => pf_absent l A ca key w (by omega) (chk_sorted hf.2) hf.fit h1 h2 hca)
  have HRT := Lib.hid (fun w h1 h2 => mk_root l A ca w (by omega) hf.fit h1 h2 hca)
  have HRL : Hid (dgT (topT l.length (digL l)) = rootL l) := Lib.hid rfl
  rw [HRL.out] at HRT
  have d0 : Hid (decide (Few9 l) = true) := Lib.hid (decide_eq_true hf)
  have d1 : decide ((key.size : Int) < 1) = false := decide_eq_false (by omega)
  have d2 : decide (key.size < 1) = false := decide_eq_false (by omega)
  have d3 : decide ((16 : Int) < (key.size : Int)) = false := decide_eq_false (by omega)
  have d4 : decide (16 < key.size) = false := decide_eq_false (by omega)
  have d5 : decide ((300 : Int) < (other.size : Int)) = false := decide_eq_false (by omega)
  have d6 : decide (300 < other.size) = false := decide_eq_false (by omega)
  have HF := Lib.hid hf
  obtain ⟨RT, hRT⟩ : ∃ RT, RT = rootL l := ⟨_, rfl⟩
  rw [← hRT] at HRT
  have HRR := Lib.hid hRT
  clear h hf hk1 hk2 ho hca hl40 hRT HRL
  go_enter Tryd.func6, Tryd.ntmps6
  go_wp2_with fail
  refine (awake09 W H.out.ok).mono ?_
  rintro x w1 ⟨rfl, b1⟩
  have H1 := Lib.hid (H.out.below b1)
  clear b1 H
  go_wp2_with fail
  refine (few09 l A ca w1 H1.out.pa).mono ?_
  rintro x w2 ⟨rfl, b2⟩
  rw [d0.out]
  have H2 := Lib.hid (H1.out.below b2)
  clear b2 H1 d0
  go_wp2_with fail
  refine (HRT.out w2 H2.out.pa H2.out.ok).mono ?_
  rintro x w3 ⟨rfl, b3⟩
  have H3 := Lib.hid (H2.out.below b3)
  clear b3 H2 HRT d1 d2 d3 d4 d5 d6
  go_wp2_with fail
  refine (HPR.out w3 H3.out.pa H3.out.ok).mono ?_
  intro x w4 hpost
  obtain ⟨is, his⟩ : ∃ is, is = isIn l key := ⟨_, rfl⟩
  cases is with
  | true =>
    have HIS := Lib.hid his.symm
    have HMAY := Lib.hid (pfHas_may HF.out.2 HF.out.1 his.symm)
    rw [presV_yes his.symm] at hpost
    obtain ⟨A2, cap2, ls, rfl, hv, hcp, hA2, b4⟩ := hpost
    have hl1 : ls.length = 1 := by rw [← vals_len, hv]; rfl
    obtain ⟨x, rfl⟩ := List.length_eq_one_iff.1 hl1
    have hxl : x.l = mkLf l (plc l key) := by
      have : [x.l] = [mkLf l (plc l key)] := hv
      injection this
    simp only [List.length_cons, List.length_nil, Nat.zero_add]
    have hpv : (pfHas l key).ab = false := rfl
    rw [hpv]
    have b5 := Kq.below_alloc w4 (.cells #[.bool false, .slice A2 1 cap2] 24)
    have H5 : Hid (L9 W (w4.alloc (.cells #[.bool false, .slice A2 1 cap2] 24)) A l ∧ PBk (w4.alloc (.cells #[.bool false, .slice A2 1 cap2] 24)) w4.heap.size false (.slice A2 1 cap2) ∧ LfsN (w4.alloc (.cells #[.bool false, .slice A2 1 cap2] 24)) (fun k => k < w3.heap.size) A2 [x]) := Lib.hid ⟨(H3.out.below b4).below b5, ⟨Kq.blk_new _ _ _ _⟩, hA2.below b5⟩
    have HXL := Lib.hid hxl
    clear his hv hcp hA2 b4 hl1 hpv b5 H3 hxl
    go_wp2_with fail
    refine (HAB.out _ H5.out.1.pa H5.out.1.ok).mono ?_
    intro x' w6 hpost2
    rw [absV_in HK.out HIS.out] at hpost2
    obtain ⟨A3, cap3, rfl, b6⟩ := hpost2.none rfl
    have b7 := Kq.below_alloc w6 (.cells #[.bool false, .slice A3 0 cap3] 24)
    have H7 : Hid (L9 W (w6.alloc (.cells #[.bool false, .slice A3 0 cap3] 24)) A l ∧ PBk (w6.alloc (.cells #[.bool false, .slice A3 0 cap3] 24)) w4.heap.size false (.slice A2 1 cap2) ∧ LfsN (w6.alloc (.cells #[.bool false, .slice A3 0 cap3] 24)) (fun k => k < w3.heap.size) A2 [x]) := Lib.hid ⟨(H5.out.1.below b6).below b7, (H5.out.2.1.below b6).below b7, (H5.out.2.2.below b6).below b7⟩
    clear hpost2 b6 b7 H5 HAB HPR
    have c0 := H7.out.2.1.c0
    have c1 := H7.out.2.1.c1
    obtain ⟨S, hS⟩ : ∃ S, S = txt (pfB (pfHas l key)) := ⟨_, rfl⟩
    have HBY : Hid (Calls Tryd.prog 10 #[.agg #[.bool false, .slice A2 1 cap2]] (w6.alloc (.cells #[.bool false, .slice A3 0 cap3] 24)) (BsPost (w6.alloc (.cells #[.bool false, .slice A3 0 cap3] 24)) (S, 0))) := Lib.hid (by
      have := pf_bytes _ false A2 cap2 [x] _ H7.out.2.2 (by simp) (fun z hz => by rw [List.mem_singleton] at hz; rw [hz, HXL.out]; have := pathL_few l (plc l key) HF.out.1; show (pathL l (plc l key)).length ≤ 1000; omega)
      have e : (⟨false, vals [x]⟩ : PfV) = pfHas l key := by unfold pfHas; rw [← HXL.out]; rfl
      rw [e, (parse_bytes HMAY.out).1, ← hS] at this
      exact this)
    have HPS : Hid ((pfParse S).1 = pfHas l key ∧ S.size ≤ 100000) := Lib.hid ⟨by rw [hS, (parse_bytes HMAY.out).2], by rw [hS]; have := pfB_len HMAY.out; omega⟩
    clear hS
    go_wp2_with fail
    refine HBY.out.mono ?_
    rintro x' w8 ⟨rfl, b8⟩
    have H8 : Hid (L9 W w8 A l ∧ PBk w8 w4.heap.size false (.slice A2 1 cap2) ∧ LfsN w8 (fun k => k < w3.heap.size) A2 [x]) := Lib.hid ⟨H7.out.1.below b8, H7.out.2.1.below b8, H7.out.2.2.below b8⟩
    clear b8 H7 HBY c0 c1
    have c0 := H8.out.2.1.c0
    have c1 := H8.out.2.1.c1
    obtain ⟨b, off, rfl, -, -, hc⟩ := H8.out.2.2.head
    have c3 := hc.c3
    obtain ⟨V, hV⟩ : ∃ V, V = x.l.v := ⟨_, rfl⟩
    rw [← hV] at c3
    have HHAS : Hid (∀ o : ByteArray, hasP RT key o (pfParse S).1 = decide (o = V)) := Lib.hid (fun o => by rw [HPS.out.1, HRR.out, has_made HF.out.1 HIS.out o, hV, HXL.out])
    have HLK : Hid (lacksP RT key (pfParse S).1 = false) := Lib.hid (by rw [HPS.out.1]; exact lacksP_ab _ _ _ rfl)
    clear hc hV
    go_wp2_with fail
    refine (pf_has RT S key V w8 HPS.out.2 H8.out.1.ok).mono ?_
    rintro x' w9 ⟨rfl, b9⟩
    rw [HHAS.out V, decide_eq_true rfl]
    have H9 := Lib.hid (H8.out.1.below b9)
    clear b9 H8 c0 c1 c3
    go_wp2_with fail
    refine (pf_lacks RT S key w9 HPS.out.2 H9.out.ok).mono ?_
    rintro x' w10 ⟨rfl, b10⟩
    rw [HLK.out]
    have H10 := Lib.hid (H9.out.below b10)
    clear b10 H9
    by_cases hov : other = V
    · subst hov
      have e1 : (other.toList == other.toList) = true := by simp
      go_wp2
      go_ret
      exact ⟨rfl, H10.out.bel⟩
    · have e1 : (other.toList == V.toList) = false := by rw [beq_eq_false_iff_ne]; exact fun h => hov (toList_inj h)
      have HOV : Hid (decide (other = V) = false) := Lib.hid (decide_eq_false hov)
      clear hov
      go_wp2_with fail
      refine (pf_has RT S key other w10 HPS.out.2 H10.out.ok).mono ?_
      rintro x' w11 ⟨rfl, b11⟩
      rw [HHAS.out other, HOV.out]
      have H11 := Lib.hid (H10.out.below b11)
      clear b11 H10
      go_wp2
      go_ret
      exact ⟨rfl, H11.out.bel⟩
  | false =>
    have HIS := Lib.hid his.symm
    have HMAY := Lib.hid (pfNot_may (key := key) HF.out.2 HF.out.1)
    rw [presV_no his.symm] at hpost
    obtain ⟨A2, cap2, rfl, b4⟩ := hpost.none rfl
    have b5 := Kq.below_alloc w4 (.cells #[.bool false, .slice A2 0 cap2] 24)
    have H5 : Hid (L9 W (w4.alloc (.cells #[.bool false, .slice A2 0 cap2] 24)) A l) := Lib.hid ((H3.out.below b4).below b5)
    clear hpost his b4 b5 H3
    go_wp2_with fail
    refine (HAB.out _ H5.out.pa H5.out.ok).mono ?_
    intro x' w6 hpost2
    rw [absV_ok HK.out HIS.out] at hpost2
    obtain ⟨A3, cap3, ls, rfl, hv, hcp, hA3, b6⟩ := hpost2
    have hpv : (pfNot l key).ab = true := rfl
    rw [hpv]
    have b7 := Kq.below_alloc w6 (.cells #[.bool true, .slice A3 ls.length cap3] 24)
    have hvn : vals ls = (pfNot l key).ls := hv
    have H7 : Hid (L9 W (w6.alloc (.cells #[.bool true, .slice A3 ls.length cap3] 24)) A l ∧ PBk (w6.alloc (.cells #[.bool true, .slice A3 ls.length cap3] 24)) w6.heap.size true (.slice A3 ls.length cap3)) := Lib.hid ⟨(H5.out.below b6).below b7, ⟨Kq.blk_new _ _ _ _⟩⟩
    obtain ⟨S, hS⟩ : ∃ S, S = txt (pfB (pfNot l key)) := ⟨_, rfl⟩
    have hn2 : ls.length ≤ 2 := by rw [← vals_len, hvn]; exact HMAY.out.1
    have HBY : Hid (Calls Tryd.prog 10 #[.agg #[.bool true, .slice A3 ls.length cap3]] (w6.alloc (.cells #[.bool true, .slice A3 ls.length cap3] 24)) (BsPost (w6.alloc (.cells #[.bool true, .slice A3 ls.length cap3] 24)) (S, 0))) := Lib.hid (by
      have := pf_bytes _ true A3 cap3 ls _ (hA3.below b7) (by omega) (fun z hz => by have := (HMAY.out.2 z.l (by rw [← hvn]; exact List.mem_map_of_mem hz)).n; omega)
      have e : (⟨true, vals ls⟩ : PfV) = pfNot l key := by rw [hvn]; rfl
      rw [e, (parse_bytes HMAY.out).1, ← hS] at this
      exact this)
    have HPS : Hid ((pfParse S).1 = pfNot l key ∧ S.size ≤ 100000) := Lib.hid ⟨by rw [hS, (parse_bytes HMAY.out).2], by rw [hS]; have := pfB_len HMAY.out; omega⟩
    clear hS hv hcp hA3 b6 hpv b7 hvn H5 HAB HPR
    have hn2' : ls.length ≤ 9223372036854775807 := by omega
    have c0 := H7.out.2.c0
    have c1 := H7.out.2.c1
    go_wp2_with fail
    refine HBY.out.mono ?_
    rintro x' w8 ⟨rfl, b8⟩
    have H8 := Lib.hid (H7.out.1.below b8)
    clear b8 H7 HBY c0 c1
    have HHAS : Hid (∀ o : ByteArray, hasP RT key o (pfParse S).1 = false) := Lib.hid (fun o => by rw [HPS.out.1]; exact hasP_ab _ _ _ _ rfl)
    have HLK : Hid (lacksP RT key (pfParse S).1 = true) := Lib.hid (by rw [HPS.out.1, HRR.out]; exact lacks_made HF.out.2 HF.out.1 HK.out HIS.out)
    go_wp2_with fail
    refine (pf_lacks RT S key w8 HPS.out.2 H8.out.ok).mono ?_
    rintro x' w9 ⟨rfl, b9⟩
    rw [HLK.out]
    have H9 := Lib.hid (H8.out.below b9)
    clear b9 H8
    go_wp2_with fail
    refine (pf_has RT S key other w9 HPS.out.2 H9.out.ok).mono ?_
    rintro x' w10 ⟨rfl, b10⟩
    rw [HHAS.out other]
    have H10 := Lib.hid (H9.out.below b10)
    clear b10 H9
    go_wp2
    go_ret
    exact ⟨rfl, H10.out.bel⟩
theorem proofBack_walk (v0 : Value) (key other : ByteArray) {W : World} (h0 : ∃ A cap l, v0 = .slice A l.length cap ∧ l.length ≤ cap ∧ PsLo W W.heap.size A l) (h1 : key.size ≤ maxLen) (h2 : other.size ≤ maxLen) (w : World) (e : W = w) (hL : LaidOk w) :
    Calls Tryd.prog 6 #[v0, .string key, .string other] w fun x w' => x = .returned (.bool true) ∧ Below w.heap.size w w' := by
  subst e
  obtain ⟨A, ca, l, rfl, hca, hA⟩ := h0
  by_cases hg : Ok l key other
  · exact main A ca l key other W ⟨hA, hL, Below.refl _ _⟩ hg hca
  · exact early A ca l key other W ⟨hA, hL, Below.refl _ _⟩ hg
end proofBack
end Go.Proofs.YtclloplkbajebaaDoor
