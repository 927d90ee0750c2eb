/- carracklaw09.ProofSound walked. Condition: the constants lie where they lie. -/
import Derived.WalkSpells
import Derived.Outline
import Derived.Test.YtclloplkbajebaaDoorPfJQ
namespace Go.Proofs.YtclloplkbajebaaDoor
open Go.RowKit
set_option linter.unusedVariables false
namespace proofSound
def Ok (l : List PairV) (s key value : ByteArray) : Prop := Few9 l ∧ s.size ≤ 3000 ∧ key.size ≤ 16 ∧ value.size ≤ 64
set_option maxRecDepth 100000 in
set_option maxHeartbeats 1000000 in
theorem early (A : Option Addr) (ca : Nat) (l : List PairV) (s key value : ByteArray) (W : World) (h : L9 W W A l) (hno : ¬ Ok l s key value) :
    Calls Tryd.prog 7 #[.slice A l.length ca, .string s, .string key, .string value] W fun x w' => x = .returned (.bool true) ∧ Below W.heap.size W w' := by
  have H := Lib.hid h
  have HNO := Lib.hid hno
  clear h hno
  go_enter Tryd.func7, Tryd.ntmps7
  go_wp2_with fail
  refine (awake09 W H.out.ok).mono ?_
  rintro x w1 ⟨rfl, b1⟩
  have H1 := Lib.hid (H.out.below b1)
  clear b1 H
  go_wp2_with fail
  refine (few09 l A ca w1 H1.out.pa).mono ?_
  rintro x w2 ⟨rfl, b2⟩
  have H2 := Lib.hid (H1.out.below b2)
  clear b2 H1
  by_cases f1 : Few9 l
  · rw [decide_eq_true f1]
    have HF := Lib.hid f1
    clear f1
    by_cases k1 : 3000 < s.size
    · have d1 : decide ((3000 : Int) < (s.size : Int)) = true := decide_eq_true (by omega)
      have d2 : decide (3000 < s.size) = true := decide_eq_true k1
      clear k1
      go_wp2
      go_ret
      exact ⟨rfl, H2.out.bel⟩
    have d1 : decide ((3000 : Int) < (s.size : Int)) = false := decide_eq_false (by omega)
    have d2 : decide (3000 < s.size) = false := decide_eq_false k1
    by_cases k2 : 16 < key.size
    · have d3 : decide ((16 : Int) < (key.size : Int)) = true := decide_eq_true (by omega)
      have d4 : decide (16 < key.size) = true := decide_eq_true k2
      clear k1 k2
      go_wp2
      go_ret
      exact ⟨rfl, H2.out.bel⟩
    have d3 : decide ((16 : Int) < (key.size : Int)) = false := decide_eq_false (by omega)
    have d4 : decide (16 < key.size) = false := decide_eq_false k2
    have k3 : 64 < value.size := by
      by_cases g : 64 < value.size
      · exact g
      · exact absurd ⟨HF.out, by omega, by omega, by omega⟩ HNO.out
    have d5 : decide ((64 : Int) < (value.size : Int)) = true := decide_eq_true (by omega)
    have d6 : decide (64 < value.size) = true := decide_eq_true k3
    clear k1 k2 k3
    go_wp2
    go_ret
    exact ⟨rfl, H2.out.bel⟩
  · rw [decide_eq_false f1]
    clear f1
    go_wp2
    go_ret
    exact ⟨rfl, H2.out.bel⟩
/-- where the key was found last, so far -/
def LastAt (l : List PairV) (key : ByteArray) (j : Nat) (t : Int) : Prop := (t = -1 ∧ ∀ q (h : q < l.length), q < j → l[q].1 ≠ key) ∨ ∃ q : Nat, ∃ h : q < l.length, t = (q : Int) ∧ l[q].1 = key
set_option maxRecDepth 100000 in
set_option maxHeartbeats 1000000 in
theorem main (A : Option Addr) (ca : Nat) (l : List PairV) (s key value : ByteArray) (W : World) (h : L9 W W A l) (hok : Ok l s key value) (hca : l.length ≤ ca) :
    Calls Tryd.prog 7 #[.slice A l.length ca, .string s, .string key, .string value] W fun x w' => x = .returned (.bool true) ∧ Below W.heap.size W w' := by
  obtain ⟨hf, hs, hk, hv⟩ := hok
  have H := Lib.hid h
  have hl40 := hf.1
  have HRT := Lib.hid (fun w h1 h2 => mk_root l A ca w (by omega) hf.fit h1 h2 hca)
  have HBR := Lib.hid (fun lo hi P w h1 h2 h3 h4 => rk_root lo hi P [] l A ca w (by omega) hf.fit h1 h2 h3 h4 hca (by simp only [List.length_nil]; omega))
  have HRL : Hid (dgT (topT l.length (digL l)) = rootL l) := Lib.hid rfl
  rw [HRL.out] at HRT HBR
  have d0 : Hid (decide (Few9 l) = true) := Lib.hid (decide_eq_true hf)
  have d1 : decide ((3000 : Int) < (s.size : Int)) = false := decide_eq_false (by omega)
  have d2 : decide (3000 < s.size) = false := decide_eq_false (by omega)
  have d3 : decide ((16 : Int) < (key.size : Int)) = false := decide_eq_false (by omega)
  have d4 : decide (16 < key.size) = false := decide_eq_false (by omega)
  have d5 : decide ((64 : Int) < (value.size : Int)) = false := decide_eq_false (by omega)
  have d6 : decide (64 < value.size) = false := decide_eq_false (by omega)
  have HF := Lib.hid hf
  have HS : Hid (s.size ≤ 100000) := Lib.hid (by omega)
  obtain ⟨RT, hRT⟩ : ∃ RT, RT = rootL l := ⟨_, rfl⟩
  rw [← hRT] at HRT HBR
  have HRR := Lib.hid hRT
  clear h hf hk hs hv hca hl40 hRT HRL
  go_enter Tryd.func7, Tryd.ntmps7
  go_wp2_with fail
  refine (awake09 W H.out.ok).mono ?_
  rintro x w1 ⟨rfl, b1⟩
  have H1 := Lib.hid (H.out.below b1)
  clear b1 H
  go_wp2_with fail
  refine (few09 l A ca w1 H1.out.pa).mono ?_
  rintro x w2 ⟨rfl, b2⟩
  rw [d0.out]
  have H2 := Lib.hid (H1.out.below b2)
  clear b2 H1 d0
  go_wp2_with fail
  refine (HRT.out w2 H2.out.pa H2.out.ok).mono ?_
  rintro x w3 ⟨rfl, b3⟩
  have H3 := Lib.hid (H2.out.below b3)
  clear b3 H2 HRT d1 d2 d3 d4 d5 d6
  go_wp2
  go_loop [10, 11] (fun u i => ∃ (j : Nat) (t : Int), j ≤ l.length ∧ u = .int .i64 t ∧ i = .int .i64 (j : Int) ∧ LastAt l key j t) (fun _ i => l.length - (intOf i).toNat)
  case atStart => exact ⟨0, -1, by omega, rfl, rfl, Or.inl ⟨rfl, fun q _ hq => absurd hq (Nat.not_lt_zero _)⟩⟩
  case round =>
    obtain ⟨j, t, hj, rfl, rfl, hla⟩ := hrel
    have hl40 := HF.out.1
    by_cases hlt : j < l.length
    · obtain ⟨b, off, rfl, -, c0, -⟩ := H3.out.pa j hlt
      obtain ⟨k, hk⟩ : ∃ k, k = l[j].1 := ⟨_, rfl⟩
      rw [← hk] at c0
      have HK := Lib.hid hk
      have HLA := Lib.hid hla
      have HLT := Lib.hid hlt
      have hi0 : (j : Int) < (l.length : Int) := by omega
      clear hk hla
      by_cases he : k = key
      · have HN : Hid (LastAt l key (j + 1) (j : Int)) := Lib.hid (Or.inr ⟨j, HLT.out, rfl, by rw [← HK.out]; exact he⟩)
        subst he
        have e1 : (k.toList == k.toList) = true := by simp
        go_wp2
        go_round
        case rel => exact ⟨j + 1, (j : Int), HLT.out, rfl, by go_num, HN.out⟩
        case measure => have := HLT.out; simp [intOf]; omega
      · have e1 : (k.toList == key.toList) = false := by rw [beq_eq_false_iff_ne]; exact fun h => he (toList_inj h)
        have HN : Hid (LastAt l key (j + 1) t) := Lib.hid (by
          rcases HLA.out with ⟨h1, h2⟩ | h1
          · refine Or.inl ⟨h1, fun q hq h => ?_⟩
            rcases Nat.lt_or_ge q j with h' | h'
            · exact h2 q hq h'
            · obtain rfl : q = j := by omega
              rw [← HK.out]; exact he
          · exact Or.inr h1)
        clear he
        go_wp2
        go_round
        case rel => exact ⟨j + 1, t, HLT.out, rfl, by go_num, HN.out⟩
        case measure => have := HLT.out; simp [intOf]; omega
    · obtain rfl : j = l.length := by omega
      obtain ⟨HB, hHB⟩ : ∃ B, B = hasP RT key value (pfParse s).1 := ⟨_, rfl⟩
      obtain ⟨LBB, hLB⟩ : ∃ B, B = lacksP RT key (pfParse s).1 := ⟨_, rfl⟩
      have HPH := Lib.hid (pf_has RT s key value w3 HS.out H3.out.ok)
      have HPL := Lib.hid (fun w hl => pf_lacks RT s key w HS.out hl)
      rw [← hHB] at HPH
      rw [← hLB] at HPL
      have HHB := Lib.hid hHB
      have HLB := Lib.hid hLB
      clear hHB hLB
      have HT2 : Hid (∀ t ∈ askR l, t ∈ askR [] ++ (askR l ++ [])) := Lib.hid (fun t ht => List.mem_append_right _ (List.mem_append_left _ ht))
      have HTN : Hid (topT 0 ⟨#[]⟩ ∈ askH (pfParse s).1 (askR [] ++ (askR l ++ []))) := Lib.hid (askH_old _ _ _ (List.mem_append_left _ (by unfold askR; simp [digL_nil])))
      have HTH : Hid (∀ t ∈ askR l, t ∈ askH (pfParse s).1 (askR [] ++ (askR l ++ []))) := Lib.hid (fun t ht => askH_old _ _ _ (HT2.out t ht))
      have HCH : Hid (HB = true → (∀ i (hi : i < l.length), l[i] ≠ (key, value)) → Clash (askK key (pfParse s).1 (askH (pfParse s).1 (askR [] ++ (askR l ++ []))))) := Lib.hid (fun h1 h2 => (clash_has HF.out.2 HF.out.1 HT2.out (by rw [← HRR.out, ← HHB.out]; exact h1) h2).mono (askK_old _ _ _))
      have HCK : Hid (LBB = true → ∀ q (hq : q < l.length), l[q].1 = key → Clash (askK key (pfParse s).1 (askH (pfParse s).1 (askR [] ++ (askR l ++ []))))) := Lib.hid (fun h1 q hq h2 => clash_lacks HF.out.2 HF.out.1 HTH.out HTN.out (by rw [← HRR.out, ← HLB.out]; exact h1) hq h2)
      have HL1 : Hid ((askR l ++ []).length ≤ 81 ∧ (askR [] ++ (askR l ++ [])).length ≤ 162 ∧ (askH (pfParse s).1 (askR [] ++ (askR l ++ []))).length ≤ 700) := Lib.hid (by
        have h1 := askR_len l HF.out.1
        have h2 := askR_len [] (by simp)
        have h3 := askH_le (s := s) (askR [] ++ (askR l ++ []))
        simp only [List.length_append, List.length_nil] at h3 ⊢
        omega)
      clear HRR HHB HLB HT2 HTN HTH
      rcases hla with ⟨rfl, hnone⟩ | ⟨q, hq, rfl, hqk⟩
      · have HN : Hid (∀ i (hi : i < l.length), l[i] ≠ (key, value)) := Lib.hid (fun i hi e => hnone i hi hi (by rw [e]))
        clear hnone
        cases HB with
        | false =>
          go_wp2_with fail
          refine HPH.out.mono ?_
          rintro x w4 ⟨rfl, b4⟩
          have H4 := Lib.hid (H3.out.below b4)
          clear b4 HPH H3
          go_wp2_with fail
          refine (HPL.out w4 H4.out.ok).mono ?_
          rintro x w5 ⟨rfl, b5⟩
          have H5 := Lib.hid (H4.out.below b5)
          clear b5 HPL H4
          cases LBB
          all_goals
            go_wp2
            go_ret
            exact ⟨rfl, H5.out.bel⟩
        | true =>
          have HCL := Lib.hid (HCH.out rfl HN.out)
          clear HCH HCK HN
          go_wp2_with fail
          refine HPH.out.mono ?_
          rintro x w4 ⟨rfl, b4⟩
          have H4 := Lib.hid (H3.out.below b4)
          clear b4 HPH H3
          go_wp2_with fail
          refine (HPL.out w4 H4.out.ok).mono ?_
          rintro x w5 ⟨rfl, b5⟩
          have H5 := Lib.hid (H4.out.below b5)
          clear b5 HPL H4
          cases LBB
          all_goals
            go_wp2_with fail
            refine (r_booknewW w5).mono ?_
            rintro x w6 ⟨P, rfl, hbk, hbl⟩
            have H6 := Lib.hid (H5.out.book hbk hbl)
            clear hbk hbl H5
            generalize w5.heap.size = lo at *
            generalize w6.heap.size = hi at *
            go_wp2_with fail
            refine (HBR.out lo hi P w6 H6.out.a H6.out.bk H6.out.hhi H6.out.hlo).mono ?_
            rintro x w7 ⟨rfl, hbk, hkp⟩
            have H7 := Lib.hid (H6.out.ask hbk hkp)
            clear hbk hkp H6 HBR
            go_wp2_with fail
            refine (rk_root lo hi P (askR l ++ []) [] none 0 w7 (by simp) (fun p hp => by cases hp) (fun j hj => absurd hj (by simp)) H7.out.bk H7.out.hhi H7.out.hlo (by simp) (by have := HL1.out.1; simp only [List.length_nil]; omega)).mono ?_
            rintro x w8 ⟨rfl, hbk, hkp⟩
            have H8 := Lib.hid (H7.out.ask hbk hkp)
            clear hbk hkp H7
            go_wp2_with fail
            refine (rq_has RT s key value lo hi P _ w8 HS.out H8.out.bk H8.out.hhi H8.out.hlo (by have := HL1.out.2.1; omega)).mono ?_
            rintro x w9 ⟨rfl, hbk, hkp⟩
            have H9 := Lib.hid (H8.out.ask hbk hkp)
            clear hbk hkp H8
            go_wp2_with fail
            refine (rq_lacks RT s key lo hi P _ w9 HS.out H9.out.bk H9.out.hhi H9.out.hlo HL1.out.2.2).mono ?_
            rintro x w10 ⟨rfl, hbk, hkp⟩
            have H10 := Lib.hid (H9.out.ask hbk hkp)
            clear hbk hkp H9
            have c3 := H10.out.mark HCL.out
            go_wp2
            go_ret
            exact ⟨rfl, H10.out.bel⟩
      · have HQ := Lib.hid (And.intro hq hqk)
        obtain ⟨b, off, rfl, hb, -, c1⟩ := H3.out.pa q hq
        obtain ⟨v, hv⟩ : ∃ v, v = l[q].2 := ⟨_, rfl⟩
        rw [← hv] at c1
        have hi0 : (q : Int) < (l.length : Int) := by omega
        have HVQ := Lib.hid hv
        have HCQ := Lib.hid (fun h => HCK.out h q hq hqk)
        have HNV : Hid (v ≠ value → ∀ i (hi : i < l.length), l[i] ≠ (key, value)) := Lib.hid (fun hne i hi e => hne (by
          have hiq : i = q := at_one (chk_sorted HF.out.2) hi HQ.out.1 (by rw [e]; exact HQ.out.2.symm)
          subst hiq
          rw [HVQ.out, e]))
        clear hv hqk HCK
        cases HB with
        | false =>
          cases LBB with
          | false =>
            go_wp2_with fail
            refine HPH.out.mono ?_
            rintro x w4 ⟨rfl, b4⟩
            have H4 := Lib.hid (H3.out.below b4)
            clear b4 HPH H3
            go_wp2_with fail
            refine (HPL.out w4 H4.out.ok).mono ?_
            rintro x w5 ⟨rfl, b5⟩
            have H5 := Lib.hid (H4.out.below b5)
            clear b5 HPL H4
            go_wp2
            go_ret
            exact ⟨rfl, H5.out.bel⟩
          | true =>
            have HCL := Lib.hid (HCQ.out rfl)
            clear HCH HCQ HNV
            go_wp2_with fail
            refine HPH.out.mono ?_
            rintro x w4 ⟨rfl, b4⟩
            have H4 := Lib.hid (H3.out.below b4)
            clear b4 HPH H3
            go_wp2_with fail
            refine (HPL.out w4 H4.out.ok).mono ?_
            rintro x w5 ⟨rfl, b5⟩
            have H5 := Lib.hid (H4.out.below b5)
            clear b5 HPL H4
            go_wp2_with fail
            refine (r_booknewW w5).mono ?_
            rintro x w6 ⟨P, rfl, hbk, hbl⟩
            have H6 := Lib.hid (H5.out.book hbk hbl)
            clear hbk hbl H5
            generalize w5.heap.size = lo at *
            generalize w6.heap.size = hi at *
            go_wp2_with fail
            refine (HBR.out lo hi P w6 H6.out.a H6.out.bk H6.out.hhi H6.out.hlo).mono ?_
            rintro x w7 ⟨rfl, hbk, hkp⟩
            have H7 := Lib.hid (H6.out.ask hbk hkp)
            clear hbk hkp H6 HBR
            go_wp2_with fail
            refine (rk_root lo hi P (askR l ++ []) [] none 0 w7 (by simp) (fun p hp => by cases hp) (fun j hj => absurd hj (by simp)) H7.out.bk H7.out.hhi H7.out.hlo (by simp) (by have := HL1.out.1; simp only [List.length_nil]; omega)).mono ?_
            rintro x w8 ⟨rfl, hbk, hkp⟩
            have H8 := Lib.hid (H7.out.ask hbk hkp)
            clear hbk hkp H7
            go_wp2_with fail
            refine (rq_has RT s key value lo hi P _ w8 HS.out H8.out.bk H8.out.hhi H8.out.hlo (by have := HL1.out.2.1; omega)).mono ?_
            rintro x w9 ⟨rfl, hbk, hkp⟩
            have H9 := Lib.hid (H8.out.ask hbk hkp)
            clear hbk hkp H8
            go_wp2_with fail
            refine (rq_lacks RT s key lo hi P _ w9 HS.out H9.out.bk H9.out.hhi H9.out.hlo HL1.out.2.2).mono ?_
            rintro x w10 ⟨rfl, hbk, hkp⟩
            have H10 := Lib.hid (H9.out.ask hbk hkp)
            clear hbk hkp H9
            have c3 := H10.out.mark HCL.out
            go_wp2
            go_ret
            exact ⟨rfl, H10.out.bel⟩
        | true =>
          have HCH2 := Lib.hid (HCH.out rfl)
          clear HCH
          have HC1 : Hid (∀ w4 : World, Below w3.heap.size w3 w4 → w4.cell? ⟨b, off + q * 2 + 1, none⟩ = some (.string v)) := Lib.hid (fun w4 hb4 => (hb4.cell (p := ⟨b, off + q * 2 + 1, none⟩) hb).trans c1)
          clear c1
          go_wp2_with fail
          refine HPH.out.mono ?_
          rintro x w4 ⟨rfl, b4⟩
          have H4 := Lib.hid (H3.out.below b4)
          have c1 := HC1.out w4 b4
          clear b4 HPH H3 HC1 hb
          by_cases hvv : v = value
          · have hvs := hvv.symm
            subst hvs
            have e1 : (value.toList == value.toList) = true := by simp
            cases LBB with
            | false =>
              go_wp2_with fail
              refine (HPL.out w4 H4.out.ok).mono ?_
              rintro x w5 ⟨rfl, b5⟩
              have H5 := Lib.hid (H4.out.below b5)
              clear b5 HPL H4
              go_wp2
              go_ret
              exact ⟨rfl, H5.out.bel⟩
            | true =>
              have HCL := Lib.hid (HCQ.out rfl)
              clear HCH2 HCQ HNV
              go_wp2_with fail
              refine (HPL.out w4 H4.out.ok).mono ?_
              rintro x w5 ⟨rfl, b5⟩
              have H5 := Lib.hid (H4.out.below b5)
              clear b5 HPL H4
              go_wp2_with fail
              refine (r_booknewW w5).mono ?_
              rintro x w6 ⟨P, rfl, hbk, hbl⟩
              have H6 := Lib.hid (H5.out.book hbk hbl)
              clear hbk hbl H5
              generalize w5.heap.size = lo at *
              generalize w6.heap.size = hi at *
              go_wp2_with fail
              refine (HBR.out lo hi P w6 H6.out.a H6.out.bk H6.out.hhi H6.out.hlo).mono ?_
              rintro x w7 ⟨rfl, hbk, hkp⟩
              have H7 := Lib.hid (H6.out.ask hbk hkp)
              clear hbk hkp H6 HBR
              go_wp2_with fail
              refine (rk_root lo hi P (askR l ++ []) [] none 0 w7 (by simp) (fun p hp => by cases hp) (fun j hj => absurd hj (by simp)) H7.out.bk H7.out.hhi H7.out.hlo (by simp) (by have := HL1.out.1; simp only [List.length_nil]; omega)).mono ?_
              rintro x w8 ⟨rfl, hbk, hkp⟩
              have H8 := Lib.hid (H7.out.ask hbk hkp)
              clear hbk hkp H7
              go_wp2_with fail
              refine (rq_has RT s key value lo hi P _ w8 HS.out H8.out.bk H8.out.hhi H8.out.hlo (by have := HL1.out.2.1; omega)).mono ?_
              rintro x w9 ⟨rfl, hbk, hkp⟩
              have H9 := Lib.hid (H8.out.ask hbk hkp)
              clear hbk hkp H8
              go_wp2_with fail
              refine (rq_lacks RT s key lo hi P _ w9 HS.out H9.out.bk H9.out.hhi H9.out.hlo HL1.out.2.2).mono ?_
              rintro x w10 ⟨rfl, hbk, hkp⟩
              have H10 := Lib.hid (H9.out.ask hbk hkp)
              clear hbk hkp H9
              have c3 := H10.out.mark HCL.out
              go_wp2
              go_ret
              exact ⟨rfl, H10.out.bel⟩
          · have e1 : (v.toList == value.toList) = false := by rw [beq_eq_false_iff_ne]; exact fun h => hvv (toList_inj h)
            have HCL := Lib.hid (HCH2.out (HNV.out hvv))
            clear HCH2 HCQ HNV hvv
            go_wp2_with fail
            refine (HPL.out w4 H4.out.ok).mono ?_
            rintro x w5 ⟨rfl, b5⟩
            have H5 := Lib.hid (H4.out.below b5)
            clear b5 HPL H4
            cases LBB
            all_goals
              go_wp2_with fail
              refine (r_booknewW w5).mono ?_
              rintro x w6 ⟨P, rfl, hbk, hbl⟩
              have H6 := Lib.hid (H5.out.book hbk hbl)
              clear hbk hbl H5
              generalize w5.heap.size = lo at *
              generalize w6.heap.size = hi at *
              go_wp2_with fail
              refine (HBR.out lo hi P w6 H6.out.a H6.out.bk H6.out.hhi H6.out.hlo).mono ?_
              rintro x w7 ⟨rfl, hbk, hkp⟩
              have H7 := Lib.hid (H6.out.ask hbk hkp)
              clear hbk hkp H6 HBR
              go_wp2_with fail
              refine (rk_root lo hi P (askR l ++ []) [] none 0 w7 (by simp) (fun p hp => by cases hp) (fun j hj => absurd hj (by simp)) H7.out.bk H7.out.hhi H7.out.hlo (by simp) (by have := HL1.out.1; simp only [List.length_nil]; omega)).mono ?_
              rintro x w8 ⟨rfl, hbk, hkp⟩
              have H8 := Lib.hid (H7.out.ask hbk hkp)
              clear hbk hkp H7
              go_wp2_with fail
              refine (rq_has RT s key value lo hi P _ w8 HS.out H8.out.bk H8.out.hhi H8.out.hlo (by have := HL1.out.2.1; omega)).mono ?_
              rintro x w9 ⟨rfl, hbk, hkp⟩
              have H9 := Lib.hid (H8.out.ask hbk hkp)
              clear hbk hkp H8
              go_wp2_with fail
              refine (rq_lacks RT s key lo hi P _ w9 HS.out H9.out.bk H9.out.hhi H9.out.hlo HL1.out.2.2).mono ?_
              rintro x w10 ⟨rfl, hbk, hkp⟩
              have H10 := Lib.hid (H9.out.ask hbk hkp)
              clear hbk hkp H9
              have c3 := H10.out.mark HCL.out
              go_wp2
              go_ret
              exact ⟨rfl, H10.out.bel⟩
theorem proofSound_walk (v0 : Value) (s key value : ByteArray) {W : World} (h0 : ∃ A cap l, v0 = .slice A l.length cap ∧ l.length ≤ cap ∧ PsLo W W.heap.size A l) (h1 : s.size ≤ maxLen) (h2 : key.size ≤ maxLen) (h3 : value.size ≤ maxLen) (w : World) (e : W = w) (hL : LaidOk w) :
    Calls Tryd.prog 7 #[v0, .string s, .string key, .string value] w fun x w' => x = .returned (.bool true) ∧ Below w.heap.size w w' := by
  subst e
  obtain ⟨A, ca, l, rfl, hca, hA⟩ := h0
  by_cases hg : Ok l s key value
  · exact main A ca l s key value W ⟨hA, hL, Below.refl _ _⟩ hg hca
  · exact early A ca l s key value W ⟨hA, hL, Below.refl _ _⟩ hg
end proofSound
end Go.Proofs.YtclloplkbajebaaDoor
