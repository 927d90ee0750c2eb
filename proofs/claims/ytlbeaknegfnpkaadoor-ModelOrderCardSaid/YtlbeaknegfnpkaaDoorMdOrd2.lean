/- carracklaw22.ModelOrder, some of its ways. Condition: the table of states lies where it lies. -/
import Derived.WalkSpells
import Derived.Outline
import Derived.Deep.QuietTactic
import Derived.Test.YtlbeaknegfnpkaaDoorMdOrder
namespace Go.Proofs.YtlbeaknegfnpkaaDoor
open Go.RowKit
set_option linter.unusedVariables false
open modelOrder in
set_option maxRecDepth 100000 in
set_option maxHeartbeats 8000000 in
theorem path_tff {W : World} (v0 : Value) (a b c : Int) (h0 : ∃ x : PtV, v0 = x.val ∧ x.wf) (wa : (Lit.int .i64 a).wf = true) (wb : (Lit.int .i64 b).wf = true) (wc : (Lit.int .i64 c).wf = true) (w : World) (e : W = w) (hL : LaidOk w) (hrab : rchB a b = true) (hab : a ≠ b) (hrbc : rchB b c = false) :
    Calls Tryd.prog 4 #[v0, .int .i64 a, .int .i64 b, .int .i64 c] w fun x w' => x = .returned (.bool true) ∧ Below w.heap.size w w' := by
  subst e
  have HRAB := Lib.hid hrab
  have HAB := Lib.hid hab
  have HRBC := Lib.hid hrbc
  clear hrab hab hrbc
  obtain ⟨p, rfl, hp⟩ := h0
  have HP := Lib.hid (And.intro hp (And.intro wa (And.intro wb wc)))
  have HL := Lib.hid hL
  clear hp wa wb wc hL
  unfold PtV.val
  go_enter Tryd.func4, Tryd.ntmps4
  go_wp2_with fail
  have H0 : Hid (OW W (W.alloc (.cells #[.int .i64 p.f, .int .u64 p.q, .int .u64 p.t, .string p.d] 32)) W.heap.size p) := Lib.hid ⟨Kq.blk_new _ _ _ _, HL.out.below (Kq.below_alloc _ _), Kq.below_alloc _ _⟩
  generalize (W.alloc (.cells #[.int .i64 p.f, .int .u64 p.q, .int .u64 p.t, .string p.d] 32)) = w0 at *
  obtain ⟨X, hX⟩ : ∃ X, X = W.heap.size := ⟨_, rfl⟩
  rw [← hX] at H0
  rw [← hX]
  clear hX
  refine (awake22 w0 H0.out.laid).mono ?_
  rintro x w1 ⟨rfl, rfl⟩
  have q0 := @rch_self a
  have qt := @rch_trans a b c
  have qa := @rch_anti a b
  have qf := @fol_rch a b
  have q34 : (a = 3 ∨ a = 4) → rchB a b = true → a = b := fun h1 h2 => by
    have := of_decide_eq_true h2
    omega
  have HQ := Lib.hid (And.intro q0 (And.intro qt (And.intro qa (And.intro qf q34))))
  clear q0 qt qa qf q34
  go_wp2_with fail
  refine (md_one X p a w1 H0.out).mono ?_
  rintro x w2 ⟨b2, rfl, o2, hb⟩
  have H2 := Lib.hid (H0.out.below hb)
  have O2 := Lib.hid o2
  clear o2
  clear hb H0
  go_wp2_with fail
  refine (md_one X p a w2 H2.out).mono ?_
  rintro x w3 ⟨b3, rfl, o3, hb⟩
  have H3 := Lib.hid (H2.out.below hb)
  have O3 := Lib.hid o3
  clear o3
  have P3 := Lib.hid (O2.out.below hb)
  clear hb H2 O2
  go_wp2_with fail
  refine (st_two X p HP.out.1 a a HP.out.2.1 HP.out.2.1 b2 b3 w3 H3.out P3.out O3.out).mono ?_
  rintro x w4 ⟨rfl, hb⟩
  have H4 := Lib.hid (H3.out.below hb)
  clear hb H3 P3 O3
  rw [HQ.out.1]
  go_wp2_with fail
  refine (md_right a w4).mono ?_
  rintro x w5 ⟨rfl, rfl⟩
  generalize isS a = sa
  go_wp2_with fail
  refine (md_one X p a w5 H4.out).mono ?_
  rintro x w6 ⟨b6, rfl, o6, hb⟩
  have H6 := Lib.hid (H4.out.below hb)
  have O6 := Lib.hid o6
  clear o6
  clear hb H4
  go_wp2_with fail
  refine (st_nil X p HP.out.1 a HP.out.2.1 b6 w6 H6.out O6.out).mono ?_
  rintro x w7 ⟨rfl, hb⟩
  have H7 := Lib.hid (H6.out.below hb)
  clear hb H6 O6
  go_wp2_with fail
  refine (md_one X p a w7 H7.out).mono ?_
  rintro x w8 ⟨b8, rfl, o8, hb⟩
  have H8 := Lib.hid (H7.out.below hb)
  have O8 := Lib.hid o8
  clear o8
  clear hb H7
  go_wp2_with fail
  refine (st_non X p HP.out.1 a HP.out.2.1 b8 w8 H8.out O8.out).mono ?_
  rintro x w9 ⟨rfl, hb⟩
  have H9 := Lib.hid (H8.out.below hb)
  clear hb H8 O8
  go_wp2_with fail
  refine (md_one X p a w9 H9.out).mono ?_
  rintro x w10 ⟨b10, rfl, o10, hb⟩
  have H10 := Lib.hid (H9.out.below hb)
  have O10 := Lib.hid o10
  clear o10
  clear hb H9
  go_wp2_with fail
  refine (md_one X p b w10 H10.out).mono ?_
  rintro x w11 ⟨b11, rfl, o11, hb⟩
  have H11 := Lib.hid (H10.out.below hb)
  have O11 := Lib.hid o11
  clear o11
  have P11 := Lib.hid (O10.out.below hb)
  clear hb H10 O10
  go_wp2_with fail
  refine (st_two X p HP.out.1 a b HP.out.2.1 HP.out.2.2.1 b10 b11 w11 H11.out P11.out O11.out).mono ?_
  rintro x w12 ⟨rfl, hb⟩
  have H12 := Lib.hid (H11.out.below hb)
  clear hb H11 P11 O11
  rw [HRAB.out]
  go_wp2_with fail
  refine (md_one X p b w12 H12.out).mono ?_
  rintro x w13 ⟨b13, rfl, o13, hb⟩
  have H13 := Lib.hid (H12.out.below hb)
  have O13 := Lib.hid o13
  clear o13
  clear hb H12
  go_wp2_with fail
  refine (md_one X p c w13 H13.out).mono ?_
  rintro x w14 ⟨b14, rfl, o14, hb⟩
  have H14 := Lib.hid (H13.out.below hb)
  have O14 := Lib.hid o14
  clear o14
  have P14 := Lib.hid (O13.out.below hb)
  clear hb H13 O13
  go_wp2_with fail
  refine (st_two X p HP.out.1 b c HP.out.2.2.1 HP.out.2.2.2 b13 b14 w14 H14.out P14.out O14.out).mono ?_
  rintro x w15 ⟨rfl, hb⟩
  have H15 := Lib.hid (H14.out.below hb)
  clear hb H14 P14 O14
  rw [HRBC.out]
  have eab : (a == b) = false := beq_eq_false_iff_ne.2 HAB.out
  go_wp2_with fail
  refine (md_one X p a w15 H15.out).mono ?_
  rintro x w16 ⟨b16, rfl, o16, hb⟩
  have H16 := Lib.hid (H15.out.below hb)
  have O16 := Lib.hid o16
  clear o16
  clear hb H15
  go_wp2_with fail
  refine (md_one X p b w16 H16.out).mono ?_
  rintro x w17 ⟨b17, rfl, o17, hb⟩
  have H17 := Lib.hid (H16.out.below hb)
  have O17 := Lib.hid o17
  clear o17
  have P17 := Lib.hid (O16.out.below hb)
  clear hb H16 O16
  go_wp2_with fail
  refine (st_two X p HP.out.1 a b HP.out.2.1 HP.out.2.2.1 b16 b17 w17 H17.out P17.out O17.out).mono ?_
  rintro x w18 ⟨rfl, hb⟩
  have H18 := Lib.hid (H17.out.below hb)
  clear hb H17 P17 O17
  rw [HRAB.out]
  go_wp2_with fail
  refine (md_one X p b w18 H18.out).mono ?_
  rintro x w19 ⟨b19, rfl, o19, hb⟩
  have H19 := Lib.hid (H18.out.below hb)
  have O19 := Lib.hid o19
  clear o19
  clear hb H18
  go_wp2_with fail
  refine (md_one X p a w19 H19.out).mono ?_
  rintro x w20 ⟨b20, rfl, o20, hb⟩
  have H20 := Lib.hid (H19.out.below hb)
  have O20 := Lib.hid o20
  clear o20
  have P20 := Lib.hid (O19.out.below hb)
  clear hb H19 O19
  go_wp2_with fail
  refine (st_two X p HP.out.1 b a HP.out.2.2.1 HP.out.2.1 b19 b20 w20 H20.out P20.out O20.out).mono ?_
  rintro x w21 ⟨rfl, hb⟩
  have H21 := Lib.hid (H20.out.below hb)
  clear hb H20 P20 O20
  have hba : rchB b a = false := by
    rw [Bool.eq_false_iff]; intro h; exact HAB.out (HQ.out.2.2.1 HRAB.out h)
  rw [hba]
  clear hba
  by_cases h34 : a = 3 ∨ a = 4
  · skip
    rcases h34 with h3 | h4
    · skip
      exact absurd (HQ.out.2.2.2.2 (Or.inl h3) HRAB.out) HAB.out
    · skip
      exact absurd (HQ.out.2.2.2.2 (Or.inr h4) HRAB.out) HAB.out
  · skip
    have e3 : (a == 3) = false := beq_eq_false_iff_ne.2 (fun h => h34 (Or.inl h))
    have e4 : (a == 4) = false := beq_eq_false_iff_ne.2 (fun h => h34 (Or.inr h))
    have n3 : ¬ a = 3 := fun h => h34 (Or.inl h)
    have n4 : ¬ a = 4 := fun h => h34 (Or.inr h)
    have b3 : (a != 3) = true := by rw [bne_iff_ne]; exact n3
    have b4 : (a != 4) = true := by rw [bne_iff_ne]; exact n4
    clear h34
    cases hf : folB a b with
    | true =>
      have hr := HQ.out.2.2.2.1 hf
      have HF := Lib.hid hf
      clear hf
      go_wp2_with fail
      refine (md_follows a b w21 H21.out.laid).mono ?_
      rintro x w22 ⟨rfl, rfl⟩
      rw [HF.out]
      have HR := Lib.hid hr
      clear hr
      go_wp2_with fail
      refine (md_reached a b w22 H21.out.laid).mono ?_
      rintro x w23 ⟨rfl, rfl⟩
      rw [HR.out]
      go_wp2
      go_ret
      exact ⟨rfl, H21.out.bel⟩
    | false =>
      have HF := Lib.hid hf
      clear hf
      go_wp2_with fail
      refine (md_follows a b w21 H21.out.laid).mono ?_
      rintro x w24 ⟨rfl, rfl⟩
      rw [HF.out]
      go_wp2
      go_ret
      exact ⟨rfl, H21.out.bel⟩
open modelOrder in
set_option maxRecDepth 100000 in
set_option maxHeartbeats 8000000 in
theorem path_tft {W : World} (v0 : Value) (a b c : Int) (h0 : ∃ x : PtV, v0 = x.val ∧ x.wf) (wa : (Lit.int .i64 a).wf = true) (wb : (Lit.int .i64 b).wf = true) (wc : (Lit.int .i64 c).wf = true) (w : World) (e : W = w) (hL : LaidOk w) (hrab : rchB a b = true) (hab : a = b) (hrbc : rchB b c = false) :
    Calls Tryd.prog 4 #[v0, .int .i64 a, .int .i64 b, .int .i64 c] w fun x w' => x = .returned (.bool true) ∧ Below w.heap.size w w' := by
  subst e
  subst hab
  have HRAB := Lib.hid hrab
  have HRBC := Lib.hid hrbc
  clear hrab hrbc
  obtain ⟨p, rfl, hp⟩ := h0
  have HP := Lib.hid (And.intro hp (And.intro wa (And.intro wb wc)))
  have HL := Lib.hid hL
  clear hp wa wb wc hL
  unfold PtV.val
  go_enter Tryd.func4, Tryd.ntmps4
  go_wp2_with fail
  have H0 : Hid (OW W (W.alloc (.cells #[.int .i64 p.f, .int .u64 p.q, .int .u64 p.t, .string p.d] 32)) W.heap.size p) := Lib.hid ⟨Kq.blk_new _ _ _ _, HL.out.below (Kq.below_alloc _ _), Kq.below_alloc _ _⟩
  generalize (W.alloc (.cells #[.int .i64 p.f, .int .u64 p.q, .int .u64 p.t, .string p.d] 32)) = w0 at *
  obtain ⟨X, hX⟩ : ∃ X, X = W.heap.size := ⟨_, rfl⟩
  rw [← hX] at H0
  rw [← hX]
  clear hX
  refine (awake22 w0 H0.out.laid).mono ?_
  rintro x w1 ⟨rfl, rfl⟩
  have q0 := @rch_self a
  have qt := @rch_trans a a c
  have qa := @rch_anti a a
  have qf := @fol_rch a a
  have q34 : (a = 3 ∨ a = 4) → rchB a a = true → a = a := fun h1 h2 => by
    have := of_decide_eq_true h2
    omega
  have HQ := Lib.hid (And.intro q0 (And.intro qt (And.intro qa (And.intro qf q34))))
  clear q0 qt qa qf q34
  go_wp2_with fail
  refine (md_one X p a w1 H0.out).mono ?_
  rintro x w2 ⟨b2, rfl, o2, hb⟩
  have H2 := Lib.hid (H0.out.below hb)
  have O2 := Lib.hid o2
  clear o2
  clear hb H0
  go_wp2_with fail
  refine (md_one X p a w2 H2.out).mono ?_
  rintro x w3 ⟨b3, rfl, o3, hb⟩
  have H3 := Lib.hid (H2.out.below hb)
  have O3 := Lib.hid o3
  clear o3
  have P3 := Lib.hid (O2.out.below hb)
  clear hb H2 O2
  go_wp2_with fail
  refine (st_two X p HP.out.1 a a HP.out.2.1 HP.out.2.1 b2 b3 w3 H3.out P3.out O3.out).mono ?_
  rintro x w4 ⟨rfl, hb⟩
  have H4 := Lib.hid (H3.out.below hb)
  clear hb H3 P3 O3
  rw [HQ.out.1]
  go_wp2_with fail
  refine (md_right a w4).mono ?_
  rintro x w5 ⟨rfl, rfl⟩
  generalize isS a = sa
  go_wp2_with fail
  refine (md_one X p a w5 H4.out).mono ?_
  rintro x w6 ⟨b6, rfl, o6, hb⟩
  have H6 := Lib.hid (H4.out.below hb)
  have O6 := Lib.hid o6
  clear o6
  clear hb H4
  go_wp2_with fail
  refine (st_nil X p HP.out.1 a HP.out.2.1 b6 w6 H6.out O6.out).mono ?_
  rintro x w7 ⟨rfl, hb⟩
  have H7 := Lib.hid (H6.out.below hb)
  clear hb H6 O6
  go_wp2_with fail
  refine (md_one X p a w7 H7.out).mono ?_
  rintro x w8 ⟨b8, rfl, o8, hb⟩
  have H8 := Lib.hid (H7.out.below hb)
  have O8 := Lib.hid o8
  clear o8
  clear hb H7
  go_wp2_with fail
  refine (st_non X p HP.out.1 a HP.out.2.1 b8 w8 H8.out O8.out).mono ?_
  rintro x w9 ⟨rfl, hb⟩
  have H9 := Lib.hid (H8.out.below hb)
  clear hb H8 O8
  go_wp2_with fail
  refine (md_one X p a w9 H9.out).mono ?_
  rintro x w10 ⟨b10, rfl, o10, hb⟩
  have H10 := Lib.hid (H9.out.below hb)
  have O10 := Lib.hid o10
  clear o10
  clear hb H9
  go_wp2_with fail
  refine (md_one X p a w10 H10.out).mono ?_
  rintro x w11 ⟨b11, rfl, o11, hb⟩
  have H11 := Lib.hid (H10.out.below hb)
  have O11 := Lib.hid o11
  clear o11
  have P11 := Lib.hid (O10.out.below hb)
  clear hb H10 O10
  go_wp2_with fail
  refine (st_two X p HP.out.1 a a HP.out.2.1 HP.out.2.1 b10 b11 w11 H11.out P11.out O11.out).mono ?_
  rintro x w12 ⟨rfl, hb⟩
  have H12 := Lib.hid (H11.out.below hb)
  clear hb H11 P11 O11
  rw [HRAB.out]
  go_wp2_with fail
  refine (md_one X p a w12 H12.out).mono ?_
  rintro x w13 ⟨b13, rfl, o13, hb⟩
  have H13 := Lib.hid (H12.out.below hb)
  have O13 := Lib.hid o13
  clear o13
  clear hb H12
  go_wp2_with fail
  refine (md_one X p c w13 H13.out).mono ?_
  rintro x w14 ⟨b14, rfl, o14, hb⟩
  have H14 := Lib.hid (H13.out.below hb)
  have O14 := Lib.hid o14
  clear o14
  have P14 := Lib.hid (O13.out.below hb)
  clear hb H13 O13
  go_wp2_with fail
  refine (st_two X p HP.out.1 a c HP.out.2.1 HP.out.2.2.2 b13 b14 w14 H14.out P14.out O14.out).mono ?_
  rintro x w15 ⟨rfl, hb⟩
  have H15 := Lib.hid (H14.out.below hb)
  clear hb H14 P14 O14
  rw [HRBC.out]
  by_cases h34 : a = 3 ∨ a = 4
  · skip
    rcases h34 with h3 | h4
    · skip
      subst h3
      cases hf : folB 3 3 with
      | true =>
        have hr := HQ.out.2.2.2.1 hf
        have HF := Lib.hid hf
        clear hf
        go_wp2_with fail
        refine (md_follows 3 3 w15 H15.out.laid).mono ?_
        rintro x w16 ⟨rfl, rfl⟩
        rw [HF.out]
        have HR := Lib.hid hr
        clear hr
        go_wp2_with fail
        refine (md_reached 3 3 w16 H15.out.laid).mono ?_
        rintro x w17 ⟨rfl, rfl⟩
        rw [HR.out]
        go_wp2
        go_ret
        exact ⟨rfl, H15.out.bel⟩
      | false =>
        have HF := Lib.hid hf
        clear hf
        go_wp2_with fail
        refine (md_follows 3 3 w15 H15.out.laid).mono ?_
        rintro x w18 ⟨rfl, rfl⟩
        rw [HF.out]
        go_wp2
        go_ret
        exact ⟨rfl, H15.out.bel⟩
    · skip
      subst h4
      cases hf : folB 4 4 with
      | true =>
        have hr := HQ.out.2.2.2.1 hf
        have HF := Lib.hid hf
        clear hf
        go_wp2_with fail
        refine (md_follows 4 4 w15 H15.out.laid).mono ?_
        rintro x w19 ⟨rfl, rfl⟩
        rw [HF.out]
        have HR := Lib.hid hr
        clear hr
        go_wp2_with fail
        refine (md_reached 4 4 w19 H15.out.laid).mono ?_
        rintro x w20 ⟨rfl, rfl⟩
        rw [HR.out]
        go_wp2
        go_ret
        exact ⟨rfl, H15.out.bel⟩
      | false =>
        have HF := Lib.hid hf
        clear hf
        go_wp2_with fail
        refine (md_follows 4 4 w15 H15.out.laid).mono ?_
        rintro x w21 ⟨rfl, rfl⟩
        rw [HF.out]
        go_wp2
        go_ret
        exact ⟨rfl, H15.out.bel⟩
  · skip
    have e3 : (a == 3) = false := beq_eq_false_iff_ne.2 (fun h => h34 (Or.inl h))
    have e4 : (a == 4) = false := beq_eq_false_iff_ne.2 (fun h => h34 (Or.inr h))
    have n3 : ¬ a = 3 := fun h => h34 (Or.inl h)
    have n4 : ¬ a = 4 := fun h => h34 (Or.inr h)
    have b3 : (a != 3) = true := by rw [bne_iff_ne]; exact n3
    have b4 : (a != 4) = true := by rw [bne_iff_ne]; exact n4
    clear h34
    cases hf : folB a a with
    | true =>
      have hr := HQ.out.2.2.2.1 hf
      have HF := Lib.hid hf
      clear hf
      go_wp2_with fail
      refine (md_follows a a w15 H15.out.laid).mono ?_
      rintro x w22 ⟨rfl, rfl⟩
      rw [HF.out]
      have HR := Lib.hid hr
      clear hr
      go_wp2_with fail
      refine (md_reached a a w22 H15.out.laid).mono ?_
      rintro x w23 ⟨rfl, rfl⟩
      rw [HR.out]
      go_wp2
      go_ret
      exact ⟨rfl, H15.out.bel⟩
    | false =>
      have HF := Lib.hid hf
      clear hf
      go_wp2_with fail
      refine (md_follows a a w15 H15.out.laid).mono ?_
      rintro x w24 ⟨rfl, rfl⟩
      rw [HF.out]
      go_wp2
      go_ret
      exact ⟨rfl, H15.out.bel⟩
end Go.Proofs.YtlbeaknegfnpkaaDoor
