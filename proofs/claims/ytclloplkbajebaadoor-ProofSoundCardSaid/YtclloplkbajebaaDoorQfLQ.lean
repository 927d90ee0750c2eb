/- Contract of carrackref09.Lacks. Condition: sizes. -/
import Derived.WalkSpells
import Derived.Outline
import Derived.Deep.QuietTactic
import Derived.BigQuiet
import Derived.Test.YtclloplkbajebaaDoorQfHQ
namespace Go.Proofs.YtclloplkbajebaaDoor
open Go.RowKit
set_option linter.unusedVariables false
set_option linter.unusedSimpArgs false
theorem gt_eq (a b : List UInt8) : (!Op.bytesLess a b && !(a == b)) = Op.bytesLess b a := by
  rw [less_not a b]
  cases h : Op.bytesLess b a with
  | false =>
    cases e : b == a with
    | false => rfl
    | true =>
      have h2 : b = a := by simpa using e
      subst h2
      simp
  | true =>
    have hn : (a == b) = false := by
      rw [beq_eq_false_iff_ne]
      intro e
      subst e
      rw [bl_irr] at h
      cases h
    rw [hn]; rfl
theorem key_facts (key : ByteArray) : (isKeyB key = true → ¬ key.size < 1 ∧ ¬ 16 < key.size) ∧ (isKeyB key = false → key.size < 1 ∨ 16 < key.size) := by
  unfold isKeyB
  refine ⟨fun h => ?_, fun h => ?_⟩
  · have := of_decide_eq_true h; omega
  · have := of_decide_eq_false h; omega
set_option maxRecDepth 100000 in
set_option maxHeartbeats 2000000 in
theorem rq_lacks (root s key : ByteArray) (lo hi P : Nat) (T : List ByteArray) (w : World) (hs : s.size ≤ 100000) (hB : BookW w lo hi P T) (hhi : hi ≤ w.heap.size) (hlo : lo ≤ w.heap.size) (hT : T.length ≤ 700) :
    Calls Tryd.prog 24 #[.pointer (some ⟨P, 0, none⟩), .string root, .string s, .string key] w (QcPost w lo hi P (askK key (pfParse s).1 T) (lacksP root key (pfParse s).1)) := by
  have HP := Lib.hid (rq_parse s w hs)
  have HB := Lib.hid (And.intro hB (And.intro hhi (And.intro hlo hT)))
  obtain ⟨H, hH⟩ : ∃ H, H = lacksP root key (pfParse s).1 := ⟨_, rfl⟩
  obtain ⟨U, hU⟩ : ∃ U, U = askK key (pfParse s).1 T := ⟨_, rfl⟩
  have HH := Lib.hid (And.intro hH hU)
  rw [← hH, ← hU]
  have hkf := key_facts key
  clear hs hH hU hB hhi hlo hT
  go_enter Tryd.func24, Tryd.ntmps24
  go_wp2_with fail
  refine HP.out.mono ?_
  intro x w2 hpost
  rcases hpost.open_ with ⟨e1, A, cap, rfl, hb⟩ | ⟨A, cap, ls, rfl, hok⟩
  · have HE : Hid (QcPost w lo hi P U H (.returned (.bool false)) (w2.alloc (.cells #[.bool false, .slice A 0 cap] 24))) := Lib.hid (by
      have h1 : H = false := by rw [HH.out.1, e1]; rfl
      have h2 : U = T := by rw [HH.out.2, e1]; exact askK_no T (Or.inl rfl)
      rw [h1, h2]
      exact ⟨rfl, HB.out.1.below (hb.trans ((Kq.below_alloc _ _).mono hb.size)), keeps_below (hb.trans ((Kq.below_alloc _ _).mono hb.size))⟩)
    clear hpost e1 hb HH HP hkf
    go_wp2
    go_ret
    exact HE.out
  · have HOK := Lib.hid hok
    obtain ⟨ab, hab⟩ : ∃ ab, ab = (pfParse s).1.ab := ⟨_, rfl⟩
    have HAB := Lib.hid hab
    have hn := hok.n
    rw [← hab]
    have HQ := Lib.hid (Qs.start HB.out.1 HB.out.2.1 HB.out.2.2.1 hok.bel hok.at_ ab ls.length cap)
    clear hpost hab hok HP
    cases ab with
    | false =>
      have HE : Hid (QcPost w lo hi P U H (.returned (.bool false)) (w2.alloc (.cells #[.bool false, .slice A ls.length cap] 24))) := Lib.hid (by
        have h1 : H = false := by rw [HH.out.1]; exact lacksP_ab _ _ _ HAB.out.symm
        have h2 : U = T := by rw [HH.out.2]; exact askK_no T (Or.inl HAB.out.symm)
        rw [h1, h2]
        exact HQ.out.post false)
      clear hn hkf
      go_wp2
      go_ret
      exact HE.out
    | true =>
      obtain ⟨KB, hKB⟩ : ∃ KB, KB = isKeyB key := ⟨_, rfl⟩
      rw [← hKB] at hkf
      have HKB := Lib.hid hKB
      clear hKB
      cases KB with
      | false =>
        have HE : Hid (QcPost w lo hi P U H (.returned (.bool false)) (w2.alloc (.cells #[.bool true, .slice A ls.length cap] 24))) := Lib.hid (by
          have h1 : H = false := by rw [HH.out.1]; exact lacksP_key _ _ _ HKB.out.symm
          have h2 : U = T := by rw [HH.out.2]; exact askK_no T (Or.inr HKB.out.symm)
          rw [h1, h2]
          exact HQ.out.post false)
        have hk2 := hkf.2 rfl
        by_cases k1 : key.size < 1
        · have d1 : decide ((key.size : Int) < 1) = true := decide_eq_true (by omega)
          have d2 : decide (key.size < 1) = true := decide_eq_true k1
          clear hn hkf hk2 k1
          go_wp2
          go_ret
          exact HE.out
        · have d1 : decide ((key.size : Int) < 1) = false := decide_eq_false (by omega)
          have d2 : decide (key.size < 1) = false := decide_eq_false k1
          have d3 : decide ((16 : Int) < (key.size : Int)) = true := decide_eq_true (by omega)
          have d4 : decide (16 < key.size) = true := decide_eq_true (by omega)
          clear hn hkf hk2 k1
          go_wp2
          go_ret
          exact HE.out
      | true =>
        have hk2 := hkf.1 rfl
        have d1 : decide ((key.size : Int) < 1) = false := decide_eq_false (by omega)
        have d2 : decide (key.size < 1) = false := decide_eq_false hk2.1
        have d3 : decide ((16 : Int) < (key.size : Int)) = false := decide_eq_false (by omega)
        have d4 : decide (16 < key.size) = false := decide_eq_false hk2.2
        have HPP : Hid ((pfParse s).1 = ⟨true, vals ls⟩) := Lib.hid (by rw [HOK.out.v, HAB.out])
        have HU : Hid (U = if ls.length = 0 then askR [] ++ T else askCl (vals ls) T) := Lib.hid (by
          rw [HH.out.2, HPP.out]
          unfold askK
          rw [if_pos ⟨rfl, HKB.out.symm⟩]
          simp only [vals_len])
        have HCL := Lib.hid (rq_climbs root true A cap lo hi P T ls _ HQ.out.bk HQ.out.hi_ HQ.out.lo_ HQ.out.lf hn HOK.out.may HB.out.2.2.2)
        have c0 := HQ.out.pb.c0
        have c1 := HQ.out.pb.c1
        clear hkf hk2
        rcases ls with _ | ⟨x, _ | ⟨y, _ | ⟨z, ls⟩⟩⟩
        · have HV : Hid (H = decide (root = rootL [])) := Lib.hid (by
            rw [HH.out.1, HPP.out]
            show (isKeyB key && _) = _
            rw [← HKB.out, Bool.true_and])
          have HU0 : Hid (U = askR [] ++ T) := Lib.hid (by rw [HU.out]; rfl)
          simp only [List.length_nil] at HQ HCL ⊢
          have HCB : Hid (clB root (vals []) = true ∧ askCl (vals []) T = T) := Lib.hid ⟨rfl, rfl⟩
          rw [HCB.out.1, HCB.out.2] at HCL
          go_wp2_with fail
          refine HCL.out.mono ?_
          rintro zz w5 ⟨rfl, hbk, hkp⟩
          have H5 := Lib.hid (HQ.out.ask hbk hkp)
          clear hbk hkp HCL HQ c0 c1 d1 d2 d3 d4 hn
          have c1 := H5.out.pb.c1
          have HR := Lib.hid (rk_root lo hi P T [] none 0 w5 (by simp) (fun p hp => by cases hp) (fun j hj => absurd hj (by simp)) H5.out.bk H5.out.hi_ H5.out.lo_ (by simp) (by have := HB.out.2.2.2; simp only [List.length_nil]; omega))
          have HRL : Hid (dgT (topT ([] : List PairV).length (digL [])) = rootL []) := Lib.hid rfl
          rw [HRL.out, ← HU0.out] at HR
          obtain ⟨RN, hRN⟩ : ∃ RN, RN = rootL [] := ⟨_, rfl⟩
          rw [← hRN] at HR HV
          simp only [List.length_nil] at HR
          clear HRL hRN
          go_wp2_with fail
          refine HR.out.mono ?_
          rintro zz w6 ⟨rfl, hbk, hkp⟩
          have H6 := Lib.hid (H5.out.ask hbk hkp)
          clear hbk hkp HR H5 c1
          have HEQ : Hid ((root.toList == RN.toList) = decide (root = RN)) := Lib.hid (by
            by_cases h : root = RN
            · subst h; simp
            · rw [decide_eq_false h, beq_eq_false_iff_ne]; exact fun e => h (toList_inj e))
          go_wp2
          go_ret
          rw [HEQ.out, ← HV.out]
          exact H6.out.post H
        · have HV : Hid (H = (outB key x.l && clB root [x.l])) := Lib.hid (by
            rw [HH.out.1, HPP.out]
            show ((isKeyB key && _) && _) = _
            rw [← HKB.out, Bool.true_and])
          have HU0 : Hid (U = askCl [x.l] T) := Lib.hid (by rw [HU.out]; rfl)
          have HI := Lib.hid (HOK.out.may x (by simp)).int
          simp only [List.length_cons, List.length_nil, Nat.zero_add] at HQ HCL ⊢
          have HVX : Hid (vals [x] = [x.l]) := Lib.hid rfl
          rw [HVX.out, ← HU0.out] at HCL
          obtain ⟨CB, hCB⟩ : ∃ CB, CB = clB root [x.l] := ⟨_, rfl⟩
          rw [← hCB] at HCL HV
          clear hCB HVX
          go_wp2_with fail
          refine HCL.out.mono ?_
          rintro zz w5 ⟨rfl, hbk, hkp⟩
          have H5 := Lib.hid (HQ.out.ask hbk hkp)
          clear hbk hkp HCL HQ c0 c1 d1 d2 d3 d4 hn
          have c1 := H5.out.pb.c1
          cases CB with
          | false =>
            have HE : Hid (H = false) := Lib.hid (by rw [HV.out]; simp)
            go_wp2
            go_ret
            rw [HE.out]
            exact H5.out.post false
          | true =>
            obtain ⟨b, off, rfl, -, -, hc⟩ := H5.out.lf.head
            obtain ⟨q0, q1, q2, q3, q4⟩ := hc
            obtain ⟨⟨i, c, k, v, p⟩, a, cp⟩ := x
            simp only at q0 q1 q2 q3 q4 HV
            obtain ⟨i0, i1, i2, i3⟩ := HI.out
            simp only at i0 i1 i2 i3
            have hw : IntKind.i64.wrap (c - 1) = c - 1 := IntWalk.i64_in _ (by omega)
            obtain ⟨B2, hB2⟩ : ∃ B, (k.toList == key.toList) = B := ⟨_, rfl⟩
            obtain ⟨B4, hB4⟩ : ∃ B, Op.bytesLess k.toList key.toList = B := ⟨_, rfl⟩
            have HV2 : Hid (H = (((!B4 && !B2) && decide (i = 0)) || (B4 && decide (i = c - 1)))) := Lib.hid (by rw [HV.out, Bool.and_true]; unfold outB ltT; rw [← gt_eq k.toList key.toList, hB2, hB4])
            have HDR := Lib.hid (fun n => H5.out.drewN n)
            clear HV
            by_cases h1 : i = 0
            · subst h1
              have HD1 : Hid (decide ((0 : Int) = 0) = true) := Lib.hid rfl
              by_cases h3 : (0 : Int) = c - 1
              · have e3 : ((0 : Int) == c - 1) = true := by rw [beq_iff_eq]; exact h3
                have HD3 : Hid (decide ((0 : Int) = c - 1) = true) := Lib.hid (decide_eq_true h3)
                rw [HD1.out, HD3.out] at HV2
                obtain rfl : c = 1 := by omega
                clear h3 e3 HD3
                cases B2 <;> cases B4
                all_goals
                  have HE := Lib.hid HV2.out
                  simp only [Bool.not_true, Bool.not_false, Bool.and_true, Bool.and_false, Bool.false_and, Bool.true_and, Bool.and_self, Bool.or_false, Bool.or_true, Bool.false_or, Bool.true_or, Bool.or_self] at HE
                  go_wp2
                  go_quiet (fail)
                  go_wp2
                  go_ret
                  rw [HE.out]
                  exact (HDR.out _).post _
              · have e3 : ((0 : Int) == c - 1) = false := by rw [beq_eq_false_iff_ne]; exact h3
                have HD3 : Hid (decide ((0 : Int) = c - 1) = false) := Lib.hid (decide_eq_false h3)
                rw [HD1.out, HD3.out] at HV2
                clear h3 HD3
                cases B2 <;> cases B4
                all_goals
                  have HE := Lib.hid HV2.out
                  simp only [Bool.not_true, Bool.not_false, Bool.and_true, Bool.and_false, Bool.false_and, Bool.true_and, Bool.and_self, Bool.or_false, Bool.or_true, Bool.false_or, Bool.true_or, Bool.or_self] at HE
                  go_wp2
                  go_quiet (fail)
                  go_wp2
                  go_ret
                  rw [HE.out]
                  exact (HDR.out _).post _
            · have e1 : (i == 0) = false := by rw [beq_eq_false_iff_ne]; exact h1
              have HD1 : Hid (decide (i = 0) = false) := Lib.hid (decide_eq_false h1)
              by_cases h3 : i = c - 1
              · have e3 : (i == c - 1) = true := by rw [beq_iff_eq]; exact h3
                have HD3 : Hid (decide (i = c - 1) = true) := Lib.hid (decide_eq_true h3)
                rw [HD1.out, HD3.out] at HV2
                clear h1 h3
                cases B2 <;> cases B4
                all_goals
                  have HE := Lib.hid HV2.out
                  simp only [Bool.not_true, Bool.not_false, Bool.and_true, Bool.and_false, Bool.false_and, Bool.true_and, Bool.and_self, Bool.or_false, Bool.or_true, Bool.false_or, Bool.true_or, Bool.or_self] at HE
                  go_wp2
                  go_quiet (fail)
                  go_wp2
                  go_ret
                  rw [HE.out]
                  exact (HDR.out _).post _
              · have e3 : (i == c - 1) = false := by rw [beq_eq_false_iff_ne]; exact h3
                have HD3 : Hid (decide (i = c - 1) = false) := Lib.hid (decide_eq_false h3)
                rw [HD1.out, HD3.out] at HV2
                clear h1 h3
                cases B2 <;> cases B4
                all_goals
                  have HE := Lib.hid HV2.out
                  simp only [Bool.not_true, Bool.not_false, Bool.and_true, Bool.and_false, Bool.false_and, Bool.true_and, Bool.and_self, Bool.or_false, Bool.or_true, Bool.false_or, Bool.true_or, Bool.or_self] at HE
                  go_wp2
                  go_quiet (fail)
                  go_wp2
                  go_ret
                  rw [HE.out]
                  exact (HDR.out _).post _
        · have HV : Hid (H = (betB key x.l y.l && clB root [x.l, y.l])) := Lib.hid (by
            rw [HH.out.1, HPP.out]
            show ((isKeyB key && _) && _) = _
            rw [← HKB.out, Bool.true_and])
          have HU0 : Hid (U = askCl [x.l, y.l] T) := Lib.hid (by rw [HU.out]; rfl)
          have HI := Lib.hid (And.intro (HOK.out.may x (by simp)).int (HOK.out.may y (by simp)).int)
          simp only [List.length_cons, List.length_nil, Nat.zero_add, Nat.reduceAdd] at HQ HCL ⊢
          have HVX : Hid (vals [x, y] = [x.l, y.l]) := Lib.hid rfl
          rw [HVX.out, ← HU0.out] at HCL
          obtain ⟨CB, hCB⟩ : ∃ CB, CB = clB root [x.l, y.l] := ⟨_, rfl⟩
          rw [← hCB] at HCL HV
          clear hCB HVX
          go_wp2_with fail
          refine HCL.out.mono ?_
          rintro zz w5 ⟨rfl, hbk, hkp⟩
          have H5 := Lib.hid (HQ.out.ask hbk hkp)
          clear hbk hkp HCL HQ c0 c1 d1 d2 d3 d4 hn
          have c1 := H5.out.pb.c1
          cases CB with
          | false =>
            have HE : Hid (H = false) := Lib.hid (by rw [HV.out]; simp)
            go_wp2
            go_ret
            rw [HE.out]
            exact H5.out.post false
          | true =>
            obtain ⟨b, off, rfl, -, -, hc, hc'⟩ := H5.out.lf.two
            obtain ⟨q0, q1, q2, q3, q4⟩ := hc
            obtain ⟨r0, r1, r2, r3, r4⟩ := hc'
            obtain ⟨⟨i, c, k, v, p⟩, a, cp⟩ := x
            obtain ⟨⟨i', c', k', v', p'⟩, a', cp'⟩ := y
            simp only [Nat.add_assoc, Nat.reduceAdd] at q0 q1 q2 q3 q4 r0 r1 r2 r3 r4 HV
            obtain ⟨⟨i0, i1, i2, i3⟩, -⟩ := HI.out
            simp only at i0 i1 i2 i3
            have hw : IntKind.i64.wrap (i + 1) = i + 1 := IntWalk.i64_in _ (by omega)
            by_cases h1 : c = c'
            · subst h1
              have e1 : (c == c) = true := by simp
              by_cases h2 : i' = i + 1
              · subst h2
                have e2 : (i + 1 == i + 1) = true := by simp
                obtain ⟨B3, hB3⟩ : ∃ B, Op.bytesLess k.toList key.toList = B := ⟨_, rfl⟩
                obtain ⟨B4, hB4⟩ : ∃ B, Op.bytesLess k'.toList key.toList = B := ⟨_, rfl⟩
                obtain ⟨B5, hB5⟩ : ∃ B, (k'.toList == key.toList) = B := ⟨_, rfl⟩
                have HE : Hid (H = (B3 && (!B4 && !B5))) := Lib.hid (by
                  rw [HV.out, Bool.and_true]; unfold betB ltT
                  rw [← gt_eq k'.toList key.toList, hB3, hB4, hB5, decide_eq_true rfl, decide_eq_true rfl]; rfl)
                clear HV
                cases B3 <;> cases B4 <;> cases B5
                all_goals
                  simp only [Bool.not_true, Bool.not_false, Bool.and_true, Bool.and_false, Bool.and_self, Bool.false_and, Bool.true_and] at HE
                  have HDR := Lib.hid (fun n => H5.out.drewN n)
                  go_wp2
                  go_quiet (fail)
                  go_wp2
                  go_ret
                  rw [HE.out]
                  exact (HDR.out _).post _
              · have e2 : (i' == i + 1) = false := by rw [beq_eq_false_iff_ne]; exact h2
                have HE : Hid (H = false) := Lib.hid (by
                  have h3 : ¬ i + 1 = i' := fun h => h2 h.symm
                  rw [HV.out]; unfold betB; simp [h3])
                clear h2 HV
                have HDR := Lib.hid (fun n => H5.out.drewN n)
                go_wp2
                go_quiet (fail)
                go_wp2
                go_ret
                rw [HE.out]
                exact (HDR.out _).post _
            · have e1 : (c == c') = false := by rw [beq_eq_false_iff_ne]; exact h1
              have HE : Hid (H = false) := Lib.hid (by rw [HV.out]; unfold betB; simp [h1])
              clear h1 HV
              have HDR := Lib.hid (fun n => H5.out.drewN n)
              go_wp2
              go_quiet (fail)
              go_wp2
              go_ret
              rw [HE.out]
              exact (HDR.out _).post _
        · exact absurd hn (by simp)
end Go.Proofs.YtclloplkbajebaaDoor
