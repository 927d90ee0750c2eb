/- carracklaw10.PacketBack walked: unlike packets. Condition: the constants lie where they lie. -/
import Derived.WalkSpells
import Derived.Deep.RegionHeld
import Derived.Test.YtclepgpaifaneaaDoorHeldMono
import Derived.Test.YtclepgpaifaneaaDoorPkBackA
import Derived.Test.YtclepgpaifaneaaDoorWireJoinsRd
namespace Go.Proofs.YtclepgpaifaneaaDoor.packetBack
open Go.RowKit
set_option linter.unusedVariables false
set_option linter.unusedSimpArgs false
set_option maxRecDepth 100000 in
set_option maxHeartbeats 20000000 in
theorem diff0 (f q t f2 q2 t2 : Int) (d d2 a b : ByteArray) (W : World) (hL : LaidOk W) (h0 : ¬ 300 < d.size) (h1 : ¬ 300 < d2.size) (h2 : ¬ 300 < a.size) (h3 : ¬ 300 < b.size) (hp0 : PkOk ⟨f, q, t, d⟩) (hp1 : 0 ≤ q ∧ q < 18446744073709551616) (hp2 : 0 ≤ t ∧ t < 18446744073709551616) (hq0 : PkOk ⟨f2, q2, t2, d2⟩) (hq1 : 0 ≤ q2 ∧ q2 < 18446744073709551616) (hq2 : 0 ≤ t2 ∧ t2 < 18446744073709551616) (hx : ¬ f = f2 ∨ (f = f2 ∧ ¬ q = q2) ∨ (f = f2 ∧ q = q2 ∧ ¬ t = t2) ∨ (f = f2 ∧ q = q2 ∧ t = t2 ∧ ¬ d.toList = d2.toList)) (hne : comT ⟨f, q, t, d⟩ ≠ comT ⟨f2, q2, t2, d2⟩) (k1 : dgT (comT ⟨f, q, t, d⟩) ≠ dgT (comT ⟨f2, q2, t2, d2⟩)) (k2 : dgT (ansT ⟨f, q, t, d⟩) ≠ dgT (ansT ⟨f2, q2, t2, d2⟩)) (k3 : dgT (comT ⟨f, q, t, d⟩) ≠ dgT (ansT ⟨f2, q2, t2, d2⟩)) :
    Calls Tryd.prog 3 #[.agg #[.int .i64 f, .int .u64 q, .int .u64 t, .string d], .agg #[.int .i64 f2, .int .u64 q2, .int .u64 t2, .string d2], .string a, .string b] W fun x w' => x = .returned (.bool true) ∧ Below W.heap.size W w' := by
  have HL := Lib.hid hL
  clear hL
  have HP := Lib.hid (And.intro hp0 (And.intro hp1 hp2))
  clear hp0 hp1 hp2
  have HQ := Lib.hid (And.intro hq0 (And.intro hq1 hq2))
  clear hq0 hq1 hq2
  have hz1 := comT_size _ HP.out.1
  have hz2 := comT_size _ HQ.out.1
  obtain ⟨xc, hxc⟩ : ∃ x, x = dgT (comT ⟨f, q, t, d⟩) := ⟨_, rfl⟩
  have KC : Hid (∀ w, TwoP W w ⟨f, q, t, d⟩ ⟨f2, q2, t2, d2⟩ → Calls Tryd.prog 14 #[.agg #[.int .i64 f, .int .u64 q, .int .u64 t, .string d]] w fun x w' => x = .returned (.string xc) ∧ TwoP W w' ⟨f, q, t, d⟩ ⟨f2, q2, t2, d2⟩) := Lib.hid (fun w h => (pk_commit f q t d w (HL.out.later h.bel) HP.out.1 HP.out.2.1 HP.out.2.2).mono (fun x w' hx => ⟨by rw [hxc]; exact hx.1, h.below hx.2⟩))
  have Exc := Lib.hid hxc
  clear hxc
  obtain ⟨xd, hxd⟩ : ∃ x, x = dgT (comT ⟨f2, q2, t2, d2⟩) := ⟨_, rfl⟩
  have KD : Hid (∀ w, TwoP W w ⟨f, q, t, d⟩ ⟨f2, q2, t2, d2⟩ → Calls Tryd.prog 14 #[.agg #[.int .i64 f2, .int .u64 q2, .int .u64 t2, .string d2]] w fun x w' => x = .returned (.string xd) ∧ TwoP W w' ⟨f, q, t, d⟩ ⟨f2, q2, t2, d2⟩) := Lib.hid (fun w h => (pk_commit f2 q2 t2 d2 w (HL.out.later h.bel) HQ.out.1 HQ.out.2.1 HQ.out.2.2).mono (fun x w' hx => ⟨by rw [hxd]; exact hx.1, h.below hx.2⟩))
  have Exd := Lib.hid hxd
  clear hxd
  obtain ⟨xa, hxa⟩ : ∃ x, x = dgT (ansT ⟨f, q, t, d⟩) := ⟨_, rfl⟩
  have KA : Hid (∀ w, TwoP W w ⟨f, q, t, d⟩ ⟨f2, q2, t2, d2⟩ → Calls Tryd.prog 15 #[.agg #[.int .i64 f, .int .u64 q, .int .u64 t, .string d]] w fun x w' => x = .returned (.string xa) ∧ TwoP W w' ⟨f, q, t, d⟩ ⟨f2, q2, t2, d2⟩) := Lib.hid (fun w h => (pk_answer f q t d w (HL.out.later h.bel) HP.out.1 HP.out.2.1 HP.out.2.2).mono (fun x w' hx => ⟨by rw [hxa]; exact hx.1, h.below hx.2⟩))
  have Exa := Lib.hid hxa
  clear hxa
  obtain ⟨xb, hxb⟩ : ∃ x, x = dgT (ansT ⟨f2, q2, t2, d2⟩) := ⟨_, rfl⟩
  have KB : Hid (∀ w, TwoP W w ⟨f, q, t, d⟩ ⟨f2, q2, t2, d2⟩ → Calls Tryd.prog 15 #[.agg #[.int .i64 f2, .int .u64 q2, .int .u64 t2, .string d2]] w fun x w' => x = .returned (.string xb) ∧ TwoP W w' ⟨f, q, t, d⟩ ⟨f2, q2, t2, d2⟩) := Lib.hid (fun w h => (pk_answer f2 q2 t2 d2 w (HL.out.later h.bel) HQ.out.1 HQ.out.2.1 HQ.out.2.2).mono (fun x w' hx => ⟨by rw [hxb]; exact hx.1, h.below hx.2⟩))
  have Exb := Lib.hid hxb
  clear hxb
  have ec : ((comT ⟨f, q, t, d⟩).toList == (comT ⟨f2, q2, t2, d2⟩).toList) = false := (same_dec _ _).trans (decide_eq_false hne)
  rw [← Exc.out, ← Exd.out] at k1
  have n1 : (xc.toList == xd.toList) = false := (same_dec _ _).trans (decide_eq_false k1)
  rw [← Exa.out, ← Exb.out] at k2
  have n2 : (xa.toList == xb.toList) = false := (same_dec _ _).trans (decide_eq_false k2)
  rw [← Exc.out, ← Exb.out] at k3
  have n3 : (xc.toList == xb.toList) = false := (same_dec _ _).trans (decide_eq_false k3)
  clear k1
  clear k2
  clear k3
  have HX := Lib.hid hx
  clear hx hne
  have dd0 : decide ((300 : Int) < (d.size : Int)) = false := decide_eq_false (by omega)
  have dd1 : decide ((300 : Int) < (d2.size : Int)) = false := decide_eq_false (by omega)
  have dd2 : decide ((300 : Int) < (a.size : Int)) = false := decide_eq_false (by omega)
  have dd3 : decide ((300 : Int) < (b.size : Int)) = false := decide_eq_false (by omega)
  go_enter Tryd.func3, Tryd.ntmps3
  go_wp2_with fail
  have H0 := Lib.hid (TwoP.start W f q t f2 q2 t2 d d2)
  refine (awake _).mono ?_
  rintro x w1 ⟨rfl, b1⟩
  have H1 := Lib.hid (H0.out.below b1)
  clear b1 H0
  have c3 := H1.out.a.c3
  have e3 := H1.out.b.c3
  go_wp2_with fail
  have HW : Hid (Wr (w1.alloc (.cells #[.int .i64 0, .slice none 0 0] 31 (0, 0))) w1.heap.size w1.heap.size 0 (.slice none 0 0) []) := Lib.hid (wr_new w1)
  clear c3 e3
  refine (wr_raw w1.heap.size w1.heap.size 0 _ [] a _ HW.out (by (try simp only [List.length_append, nl_length, encP_len, List.length_nil]); omega)).mono ?_
  rintro x w2 hp
  obtain ⟨v2, M2⟩ := (WrMid.start HW.out).step hp.any
  obtain ⟨rfl, -⟩ := hp
  rw [List.nil_append] at M2
  have H2 := Lib.hid (And.intro M2 (H1.out.below M2.fromB))
  clear M2 HW
  have c0 := H2.out.2.a.c0
  have c1 := H2.out.2.a.c1
  have c2 := H2.out.2.a.c2
  have c3 := H2.out.2.a.c3
  go_wp2_with fail
  refine (pk_put_ok_e w1.heap.size w1.heap.size 0 _ _ f q t d _ H2.out.1.it HP.out.1 HP.out.2.1 HP.out.2.2 (by (try simp only [List.length_append, nl_length, encP_len, List.length_nil]); omega)).mono ?_
  rintro x w3 hp
  obtain ⟨v3, M3⟩ := H2.out.1.step hp
  obtain ⟨rfl, -⟩ := hp
  have H3 := Lib.hid (And.intro M3 (H1.out.below M3.fromB))
  clear M3 H2
  clear c0 c1 c2 c3
  have e0 := H3.out.2.b.c0
  have e1 := H3.out.2.b.c1
  have e2 := H3.out.2.b.c2
  have e3 := H3.out.2.b.c3
  go_wp2_with fail
  refine (pk_put_ok_e w1.heap.size w1.heap.size 0 _ _ f2 q2 t2 d2 _ H3.out.1.it HQ.out.1 HQ.out.2.1 HQ.out.2.2 (by (try simp only [List.length_append, nl_length, encP_len, List.length_nil]); omega)).mono ?_
  rintro x w4 hp
  obtain ⟨v4, M4⟩ := H3.out.1.step hp
  obtain ⟨rfl, -⟩ := hp
  have H4 := Lib.hid (And.intro M4 (H1.out.below M4.fromB))
  clear M4 H3
  clear e0 e1 e2 e3
  go_wp2_with fail
  refine (wr_raw w1.heap.size w1.heap.size 0 _ _ b _ H4.out.1.it (by (try simp only [List.length_append, nl_length, encP_len, List.length_nil]); omega)).mono ?_
  rintro x w5 hp
  obtain ⟨v5, M5⟩ := H4.out.1.step hp.any
  obtain ⟨rfl, -⟩ := hp
  have H5 := Lib.hid (And.intro M5 (H1.out.below M5.fromB))
  clear M5 H4
  go_wp2_with fail
  refine (wr_bytes_ok w1.heap.size w1.heap.size _ _ _ H5.out.1.it (four_lt a b _ _ HP.out.1 HQ.out.1)).mono ?_
  rintro x w6 ⟨rfl, rfl⟩
  have H6 := Lib.hid H5.out.2
  clear H5
  have HF := Lib.hid (four_texts a b _ _ HP.out.1 HQ.out.1)
  rw [HF.out]
  clear HF
  have HG1 := Lib.hid (fun r => get_next ⟨f, q, t, d⟩ HP.out.1 HP.out.2.1 HP.out.2.2 r)
  have HG2 := Lib.hid (fun r => get_next ⟨f2, q2, t2, d2⟩ HQ.out.1 HQ.out.2.1 HQ.out.2.2 r)
  obtain ⟨cp, hcp⟩ : ∃ s, s = comT ⟨f, q, t, d⟩ := ⟨_, rfl⟩
  obtain ⟨cq, hcq⟩ : ∃ s, s = comT ⟨f2, q2, t2, d2⟩ := ⟨_, rfl⟩
  rw [← hcp, ← hcq]
  rw [← hcp] at hz1 HG1 ec
  rw [← hcq] at hz2 HG2 ec
  have HCP := Lib.hid hcp
  have HCQ := Lib.hid hcq
  clear hcp hcq
  have zs2 : Hid ((cq ++ b).size ≤ 400) := Lib.hid (by rw [ByteArray.size_append]; omega)
  have zs1 : Hid ((cp ++ (cq ++ b)).size ≤ 500) := Lib.hid (by have := zs2.out; rw [ByteArray.size_append]; omega)
  have zs0 : Hid ((a ++ (cp ++ (cq ++ b))).size ≤ 900) := Lib.hid (by have := zs1.out; rw [ByteArray.size_append]; omega)
  have HZ := Lib.hid (And.intro hz1 hz2)
  clear hz1 hz2
  have HR0 := Lib.hid (fun B w h => raw_first2 B a (cp ++ (cq ++ b)) w h (by have := zs0.out; unfold maxLen; omega))
  generalize a ++ (cp ++ (cq ++ b)) = s0 at *
  have c0 := H6.out.a.c0
  have c1 := H6.out.a.c1
  have c2 := H6.out.a.c2
  have c3 := H6.out.a.c3
  have e0 := H6.out.b.c0
  have e1 := H6.out.b.c1
  have e2 := H6.out.b.c2
  have e3 := H6.out.b.c3
  go_wp2_with fail
  refine (pk_check_ok f q t d _ HP.out.1).mono ?_
  rintro x w7 ⟨rfl, b7⟩
  have H7 := Lib.hid (H6.out.below b7)
  clear b7 H6
  clear c0 c1 c2 c3 e0 e1 e2 e3
  have c0 := H7.out.a.c0
  have c1 := H7.out.a.c1
  have c2 := H7.out.a.c2
  have c3 := H7.out.a.c3
  have e0 := H7.out.b.c0
  have e1 := H7.out.b.c1
  have e2 := H7.out.b.c2
  have e3 := H7.out.b.c3
  go_wp2_with fail
  refine (pk_check_ok f2 q2 t2 d2 _ HQ.out.1).mono ?_
  rintro x w8 ⟨rfl, b8⟩
  have H8 := Lib.hid (H7.out.below b8)
  clear b8 H7
  clear c0 c1 c2 c3 e0 e1 e2 e3
  go_wp2_with fail
  refine (rd_new s0 w8).mono ?_
  rintro x w9 ⟨rfl, R9, b9⟩
  have H9 := Lib.hid (And.intro R9 (And.intro (H8.out.below b9) H8.out.lt))
  clear R9 b9 H8
  generalize w8.heap.size = B at *
  go_wp2_with fail
  refine wp_region_held_drew (S := fun w' => TwoC w' W.heap.size f q t d f2 q2 t2 d2) (by kernel_rfl) H9.out.2.1.drew.cells (fun hS0 => ?_)
  have HD := Lib.hid (show Rd w9.drew B 0 s0 ∧ TwoP W w9.drew ⟨f, q, t, d⟩ ⟨f2, q2, t2, d2⟩ ∧ W.heap.size + 2 ≤ B from ⟨H9.out.1, H9.out.2.1.drew, H9.out.2.2⟩)
  clear H9
  generalize w9.drew = wd at *
  unfold TwoC at hS0
  dsimp only [TwoC]
  refine wpAnyH_take (i := 0) (v := ?_) rfl (by kernel_rfl) (by kernel_rfl) (by kernel_rfl) (fun _ _ _ h => h) (Or.inl ⟨by kernel_rfl, ?_⟩) (by assumption) ?_
  rotate_left
  · intro w hSw; (try dsimp only at hSw); go_simp; (try with_reducible rfl)
  refine wpAnyH_take (i := 1) (v := ?_) rfl (by kernel_rfl) (by kernel_rfl) (by kernel_rfl) (fun _ _ _ h => h) (Or.inl ⟨by kernel_rfl, ?_⟩) (by assumption) ?_
  rotate_left
  · intro w hSw; (try dsimp only at hSw); go_simp; (try with_reducible rfl)
  refine wpAnyH_take (i := 2) (v := ?_) rfl (by kernel_rfl) (by kernel_rfl) (by kernel_rfl) (fun _ _ _ h => h) (Or.inl ⟨by kernel_rfl, ?_⟩) (by assumption) ?_
  rotate_left
  · intro w hSw; (try dsimp only at hSw); go_simp; (try with_reducible rfl)
  refine wpAnyH_take (i := 3) (v := ?_) rfl (by kernel_rfl) (by kernel_rfl) (by kernel_rfl) (fun _ _ _ h => h) (Or.inl ⟨by kernel_rfl, ?_⟩) (by assumption) ?_
  rotate_left
  · intro w hSw; (try dsimp only at hSw); go_simp; (try with_reducible rfl)
  refine wpAnyH_take (i := 4) (v := ?_) rfl (by kernel_rfl) (by kernel_rfl) (by kernel_rfl) (fun _ _ _ h => h) (Or.inl ⟨by kernel_rfl, ?_⟩) (by assumption) ?_
  rotate_left
  · intro w hSw; (try dsimp only at hSw); go_simp; (try with_reducible rfl)
  refine wpAnyH_take (i := 5) (v := ?_) rfl (by kernel_rfl) (by kernel_rfl) (by kernel_rfl) (fun _ _ _ h => h) (Or.inl ⟨by kernel_rfl, ?_⟩) (by assumption) ?_
  rotate_left
  · intro w hSw; (try dsimp only at hSw); go_simp; (try with_reducible rfl)
  refine wpAnyH_take (i := 6) (v := ?_) rfl (by kernel_rfl) (by kernel_rfl) (by kernel_rfl) (fun _ _ _ h => h) (Or.inl ⟨by kernel_rfl, ?_⟩) (by assumption) ?_
  rotate_left
  · intro w hSw; (try dsimp only at hSw); go_simp; (try with_reducible rfl)
  refine wpAnyH_take (i := 7) (v := ?_) rfl (by kernel_rfl) (by kernel_rfl) (by kernel_rfl) (fun _ _ _ h => h) (Or.inl ⟨by kernel_rfl, ?_⟩) (by assumption) ?_
  rotate_left
  · intro w hSw; (try dsimp only at hSw); go_simp; (try with_reducible rfl)
  refine wpAnyH_take (i := 8) (v := ?_) rfl (by kernel_rfl) (by kernel_rfl) (by kernel_rfl) (fun _ _ _ h => h) (Or.inl ⟨by kernel_rfl, ?_⟩) (by assumption) ?_
  rotate_left
  · intro w hSw; (try dsimp only at hSw); go_simp; (try with_reducible rfl)
  refine wpAnyH_take (i := 9) (v := ?_) rfl (by kernel_rfl) (by kernel_rfl) (by kernel_rfl) (fun _ _ _ h => h) (Or.inl ⟨by kernel_rfl, ?_⟩) (by assumption) ?_
  rotate_left
  · intro w hSw; (try dsimp only at hSw); go_simp; (try with_reducible rfl)
  refine wpAnyH_take (i := 11) (v := ?_) rfl (by kernel_rfl) (by kernel_rfl) (by kernel_rfl) (fun _ _ _ h => h) (Or.inl ⟨by kernel_rfl, ?_⟩) (by assumption) ?_
  rotate_left
  · intro w hSw; (try dsimp only at hSw); go_simp; (try with_reducible rfl)
  refine wpAnyH_ready (rs := [10]) (by kernel_rfl) (by simp) ?_
  refine AllReadyH.cons rfl (fun K hK => ?_) AllReadyH.nil
  go_simp
  refine (HR0.out B _ HD.out.1).mono ?_
  rintro x w10 ⟨rfl, R10, k10⟩
  have H10 := Lib.hid (And.intro R10 (And.intro (HD.out.2.1.keep k10 HD.out.2.2) HD.out.2.2))
  clear R10 k10 HD hS0
  refine hK.out _ _ H10.out.2.1.cells (fun hS0 => ?_)
  clear hK K
  unfold TwoC at hS0
  refine wpAnyH_take (i := 12) (v := ?_) rfl (by kernel_rfl) (by kernel_rfl) (by kernel_rfl) (fun _ _ _ h => h) (Or.inl ⟨by kernel_rfl, ?_⟩) (by assumption) ?_
  rotate_left
  · intro w hSw; (try dsimp only at hSw); go_simp; (try with_reducible rfl)
  refine wpAnyH_take (i := 13) (v := ?_) rfl (by kernel_rfl) (by kernel_rfl) (by kernel_rfl) (fun _ _ _ h => h) (Or.inl ⟨by kernel_rfl, ?_⟩) (by assumption) ?_
  rotate_left
  · intro w hSw; (try dsimp only at hSw); go_simp; (try with_reducible rfl)
  refine wpAnyH_take (i := 14) (v := ?_) rfl (by kernel_rfl) (by kernel_rfl) (by kernel_rfl) (fun _ _ _ h => h) (Or.inl ⟨by kernel_rfl, ?_⟩) (by assumption) ?_
  rotate_left
  · intro w hSw; (try dsimp only at hSw); go_simp; (try with_reducible rfl)
  refine wpAnyH_take (i := 15) (v := ?_) rfl (by kernel_rfl) (by kernel_rfl) (by kernel_rfl) (fun _ _ _ h => h) (Or.inl ⟨by kernel_rfl, ?_⟩) (by assumption) ?_
  rotate_left
  · intro w hSw; (try dsimp only at hSw); go_simp; (try with_reducible rfl)
  refine wpAnyH_take (i := 17) (v := ?_) rfl (by kernel_rfl) (by kernel_rfl) (by kernel_rfl) (fun _ _ _ h => h) (Or.inl ⟨by kernel_rfl, ?_⟩) (by assumption) ?_
  rotate_left
  · intro w hSw; (try dsimp only at hSw); go_simp; (try with_reducible rfl)
  refine wpAnyH_ready (rs := [16]) (by kernel_rfl) (by simp) ?_
  refine AllReadyH.cons rfl (fun K hK => ?_) AllReadyH.nil
  go_simp
  refine (pk_get B 0 (cp ++ (cq ++ b)) _ H10.out.1 (by have := zs1.out; unfold maxLen; omega)).mono ?_
  intro x w11 hp
  unfold GetPost at hp
  rw [HG1.out (cq ++ b)] at hp
  obtain ⟨rfl, R11, k11⟩ := hp
  have H11 := Lib.hid (And.intro R11 (And.intro (H10.out.2.1.keep k11 H10.out.2.2) H10.out.2.2))
  clear R11 k11 H10 hS0
  refine hK.out _ _ H11.out.2.1.cells (fun hS0 => ?_)
  clear hK K
  unfold TwoC at hS0
  dsimp only [PkV.val]
  refine wpAnyH_take (i := 18) (v := ?_) rfl (by kernel_rfl) (by kernel_rfl) (by kernel_rfl) (fun _ _ _ h => h) (Or.inl ⟨by kernel_rfl, ?_⟩) (by assumption) ?_
  rotate_left
  · intro w hSw; (try dsimp only at hSw); go_simp; (try with_reducible rfl)
  refine wpAnyH_take (i := 19) (v := ?_) rfl (by kernel_rfl) (by kernel_rfl) (by kernel_rfl) (fun _ _ _ h => h) (Or.inl ⟨by kernel_rfl, ?_⟩) (by assumption) ?_
  rotate_left
  · intro w hSw; (try dsimp only at hSw); go_simp; (try with_reducible rfl)
  refine wpAnyH_take (i := 20) (v := ?_) rfl (by kernel_rfl) (by kernel_rfl) (by kernel_rfl) (fun _ _ _ h => h) (Or.inl ⟨by kernel_rfl, ?_⟩) (by assumption) ?_
  rotate_left
  · intro w hSw; (try dsimp only at hSw); go_simp; (try with_reducible rfl)
  refine wpAnyH_take (i := 21) (v := ?_) rfl (by kernel_rfl) (by kernel_rfl) (by kernel_rfl) (fun _ _ _ h => h) (Or.inl ⟨by kernel_rfl, ?_⟩) (by assumption) ?_
  rotate_left
  · intro w hSw; (try dsimp only at hSw); go_simp; (try with_reducible rfl)
  refine wpAnyH_take (i := 23) (v := ?_) rfl (by kernel_rfl) (by kernel_rfl) (by kernel_rfl) (fun _ _ _ h => h) (Or.inl ⟨by kernel_rfl, ?_⟩) (by assumption) ?_
  rotate_left
  · intro w hSw; (try dsimp only at hSw); go_simp; (try with_reducible rfl)
  refine wpAnyH_ready (rs := [22]) (by kernel_rfl) (by simp) ?_
  refine AllReadyH.cons rfl (fun K hK => ?_) AllReadyH.nil
  go_simp
  refine (pk_get B 0 (cq ++ b) _ H11.out.1 (by have := zs2.out; unfold maxLen; omega)).mono ?_
  intro x w12 hp
  unfold GetPost at hp
  rw [HG2.out b] at hp
  obtain ⟨rfl, R12, k12⟩ := hp
  have H12 := Lib.hid (And.intro R12 (And.intro (H11.out.2.1.keep k12 H11.out.2.2) H11.out.2.2))
  clear R12 k12 H11 hS0
  refine hK.out _ _ H12.out.2.1.cells (fun hS0 => ?_)
  clear hK K
  unfold TwoC at hS0
  dsimp only [PkV.val]
  refine wpAnyH_take (i := 24) (v := ?_) rfl (by kernel_rfl) (by kernel_rfl) (by kernel_rfl) (fun _ _ _ h => h) (Or.inl ⟨by kernel_rfl, ?_⟩) (by assumption) ?_
  rotate_left
  · intro w hSw; (try dsimp only at hSw); go_simp; (try with_reducible rfl)
  refine wpAnyH_take (i := 25) (v := ?_) rfl (by kernel_rfl) (by kernel_rfl) (by kernel_rfl) (fun _ _ _ h => h) (Or.inl ⟨by kernel_rfl, ?_⟩) (by assumption) ?_
  rotate_left
  · intro w hSw; (try dsimp only at hSw); go_simp; (try with_reducible rfl)
  refine wpAnyH_take (i := 26) (v := ?_) rfl (by kernel_rfl) (by kernel_rfl) (by kernel_rfl) (fun _ _ _ h => h) (Or.inl ⟨by kernel_rfl, ?_⟩) (by assumption) ?_
  rotate_left
  · intro w hSw; (try dsimp only at hSw); go_simp; (try with_reducible rfl)
  refine wpAnyH_take (i := 27) (v := ?_) rfl (by kernel_rfl) (by kernel_rfl) (by kernel_rfl) (fun _ _ _ h => h) (Or.inl ⟨by kernel_rfl, ?_⟩) (by assumption) ?_
  rotate_left
  · intro w hSw; (try dsimp only at hSw); go_simp; (try with_reducible rfl)
  refine wpAnyH_take (i := 28) (v := ?_) rfl (by kernel_rfl) (by kernel_rfl) (by kernel_rfl) (fun _ _ _ h => h) (Or.inl ⟨by kernel_rfl, ?_⟩) (by assumption) ?_
  rotate_left
  · intro w hSw; (try dsimp only at hSw); go_simp; (try with_reducible rfl)
  refine wpAnyH_take (i := 29) (v := ?_) rfl (by kernel_rfl) (by kernel_rfl) (by kernel_rfl) (fun _ _ _ h => h) (Or.inl ⟨by kernel_rfl, ?_⟩) (by assumption) ?_
  rotate_left
  · intro w hSw; (try dsimp only at hSw); go_simp; (try with_reducible rfl)
  refine wpAnyH_take (i := 31) (v := ?_) rfl (by kernel_rfl) (by kernel_rfl) (by kernel_rfl) (fun _ _ _ h => h) (Or.inl ⟨by kernel_rfl, ?_⟩) (by assumption) ?_
  rotate_left
  · intro w hSw; (try dsimp only at hSw); go_simp; (try with_reducible rfl)
  refine wpAnyH_ready (rs := [30]) (by kernel_rfl) (by simp) ?_
  refine AllReadyH.cons rfl (fun K hK => ?_) AllReadyH.nil
  go_simp
  refine (raw_rest B b _ H12.out.1 (by unfold maxLen; omega)).mono ?_
  rintro x w13 ⟨rfl, R13, k13⟩
  have H13 := Lib.hid (And.intro R13 (And.intro (H12.out.2.1.keep k13 H12.out.2.2) H12.out.2.2))
  clear R13 k13 H12 hS0
  refine hK.out _ _ H13.out.2.1.cells (fun hS0 => ?_)
  clear hK K
  unfold TwoC at hS0
  refine wpAnyH_take (i := 32) (v := ?_) rfl (by kernel_rfl) (by kernel_rfl) (by kernel_rfl) (fun _ _ _ h => h) (Or.inl ⟨by kernel_rfl, ?_⟩) (by assumption) ?_
  rotate_left
  · intro w hSw; (try dsimp only at hSw); go_simp; (try with_reducible rfl)
  refine wpAnyH_take (i := 33) (v := ?_) rfl (by kernel_rfl) (by kernel_rfl) (by kernel_rfl) (fun _ _ _ h => h) (Or.inl ⟨by kernel_rfl, ?_⟩) (by assumption) ?_
  rotate_left
  · intro w hSw; (try dsimp only at hSw); go_simp; (try with_reducible rfl)
  refine wpAnyH_take (i := 34) (v := ?_) rfl (by kernel_rfl) (by kernel_rfl) (by kernel_rfl) (fun _ _ _ h => h) (Or.inl ⟨by kernel_rfl, ?_⟩) (by assumption) ?_
  rotate_left
  · intro w hSw; (try dsimp only at hSw); go_simp; (try with_reducible rfl)
  refine wpAnyH_take (i := 35) (v := ?_) rfl (by kernel_rfl) (by kernel_rfl) (by kernel_rfl) (fun _ _ _ h => h) (Or.inl ⟨by kernel_rfl, ?_⟩) (by assumption) ?_
  rotate_left
  · intro w hSw; (try dsimp only at hSw); go_simp; (try with_reducible rfl)
  refine wpAnyH_ready (rs := [36]) (by kernel_rfl) (by simp) ?_
  refine AllReadyH.cons rfl (fun K hK => ?_) AllReadyH.nil
  go_simp
  refine (rd_end B 0 ⟨#[]⟩ _ H13.out.1).mono ?_
  rintro x w14 ⟨rfl, rfl⟩
  refine hK.out _ _ H13.out.2.1.cells (fun hS0 => ?_)
  clear hK K
  unfold TwoC at hS0
  refine wpAnyH_take (i := 37) (v := ?_) rfl (by kernel_rfl) (by kernel_rfl) (by kernel_rfl) (fun _ _ _ h => h) (Or.inl ⟨by kernel_rfl, ?_⟩) (by assumption) ?_
  rotate_left
  · intro w hSw; (try dsimp only at hSw); go_simp; (try with_reducible rfl)
  refine wpAnyH_take (i := 38) (v := ?_) rfl (by kernel_rfl) (by kernel_rfl) (by kernel_rfl) (fun _ _ _ h => h) (Or.inl ⟨by kernel_rfl, ?_⟩) (by assumption) ?_
  rotate_left
  · intro w hSw; (try dsimp only at hSw); go_simp; (try with_reducible rfl)
  refine wpAnyH_done (by kernel_rfl) ?_ _
  have H14 := Lib.hid H13.out.2.1
  clear H13 hS0
  have c0 := H14.out.a.c0
  have c1 := H14.out.a.c1
  have c2 := H14.out.a.c2
  have c3 := H14.out.a.c3
  have e0 := H14.out.b.c0
  have e1 := H14.out.b.c1
  have e2 := H14.out.b.c2
  have e3 := H14.out.b.c3
  go_wp2_with fail
  refine (pk_bytes_ok f q t d _ HP.out.1 HP.out.2.1 HP.out.2.2).mono ?_
  rintro x w15 ⟨rfl, b15⟩
  have H15 := Lib.hid (H14.out.below b15)
  clear b15 H14
  have hcp : txt (encP ⟨f, q, t, d⟩) = cp := HCP.out.symm
  rw [hcp]
  clear hcp
  clear c0 c1 c2 c3 e0 e1 e2 e3
  have c0 := H15.out.a.c0
  have c1 := H15.out.a.c1
  have c2 := H15.out.a.c2
  have c3 := H15.out.a.c3
  have e0 := H15.out.b.c0
  have e1 := H15.out.b.c1
  have e2 := H15.out.b.c2
  have e3 := H15.out.b.c3
  go_wp2_with fail
  refine (pk_bytes_ok f2 q2 t2 d2 _ HQ.out.1 HQ.out.2.1 HQ.out.2.2).mono ?_
  rintro x w16 ⟨rfl, b16⟩
  have H16 := Lib.hid (H15.out.below b16)
  clear b16 H15
  have hcq : txt (encP ⟨f2, q2, t2, d2⟩) = cq := HCQ.out.symm
  rw [hcq]
  clear hcq
  clear c0 c1 c2 c3 e0 e1 e2 e3
  have c0 := H16.out.a.c0
  have c1 := H16.out.a.c1
  have c2 := H16.out.a.c2
  have c3 := H16.out.a.c3
  have e0 := H16.out.b.c0
  have e1 := H16.out.b.c1
  have e2 := H16.out.b.c2
  have e3 := H16.out.b.c3
  rcases HX.out with hx | ⟨g1, hx⟩ | ⟨g1, g2, hx⟩ | ⟨g1, g2, g3, hx⟩
  · skip
    clear HX
    go_wp2_with fail
    refine wp_region_held_drew (S := fun w' => TwoC w' W.heap.size _ _ _ _ _ _ _ _) (by kernel_rfl) H16.out.drew.cells (fun hS0 => ?_)
    have HE := Lib.hid H16.out.drew
    clear H16
    generalize w16.drew = we at *
    unfold TwoC at hS0
    dsimp only [TwoC]
    clear c0 c1 c2 c3 e0 e1 e2 e3
    refine wpAnyH_take (i := 0) (v := ?_) rfl (by kernel_rfl) (by kernel_rfl) (by kernel_rfl) (fun _ _ _ h => h) (Or.inl ⟨by kernel_rfl, ?_⟩) (by assumption) ?_
    rotate_left
    · intro w hSw; (try dsimp only at hSw); go_simp; (try with_reducible rfl)
    refine wpAnyH_take (i := 1) (v := ?_) rfl (by kernel_rfl) (by kernel_rfl) (by kernel_rfl) (fun _ _ _ h => h) (Or.inl ⟨by kernel_rfl, ?_⟩) (by assumption) ?_
    rotate_left
    · intro w hSw; (try dsimp only at hSw); go_simp; (try with_reducible rfl)
    refine wpAnyH_take (i := 2) (v := ?_) rfl (by kernel_rfl) (by kernel_rfl) (by kernel_rfl) (fun _ _ _ h => h) (Or.inl ⟨by kernel_rfl, ?_⟩) (by assumption) ?_
    rotate_left
    · intro w hSw; (try dsimp only at hSw); go_simp; (try with_reducible rfl)
    refine wpAnyH_take (i := 3) (v := ?_) rfl (by kernel_rfl) (by kernel_rfl) (by kernel_rfl) (fun _ _ _ h => h) (Or.inl ⟨by kernel_rfl, ?_⟩) (by assumption) ?_
    rotate_left
    · intro w hSw; (try dsimp only at hSw); go_simp; (try with_reducible rfl)
    refine wpAnyH_take (i := 4) (v := ?_) rfl (by kernel_rfl) (by kernel_rfl) (by kernel_rfl) (fun _ _ _ h => h) (Or.inl ⟨by kernel_rfl, ?_⟩) (by assumption) ?_
    rotate_left
    · intro w hSw; (try dsimp only at hSw); go_simp; (try with_reducible rfl)
    refine wpAnyH_take (i := 6) (v := ?_) rfl (by kernel_rfl) (by kernel_rfl) (by kernel_rfl) (fun _ _ _ h => h) (Or.inl ⟨by kernel_rfl, ?_⟩) (by assumption) ?_
    rotate_left
    · intro w hSw; (try dsimp only at hSw); go_simp; (try with_reducible rfl)
    refine wpAnyH_ready (rs := [5]) (by kernel_rfl) (by simp) ?_
    refine AllReadyH.cons rfl (fun K hK => ?_) AllReadyH.nil
    go_simp
    refine (KC.out _ HE.out).mono ?_
    rintro x w17 ⟨rfl, hk17⟩
    have H17 := Lib.hid hk17
    clear hk17 HE hS0
    refine hK.out _ _ H17.out.cells (fun hS0 => ?_)
    clear hK K
    unfold TwoC at hS0
    refine wpAnyH_ready (rs := [7]) (by kernel_rfl) (by simp) ?_
    refine AllReadyH.cons rfl (fun K hK => ?_) AllReadyH.nil
    go_simp
    refine (KD.out _ H17.out).mono ?_
    rintro x w18 ⟨rfl, hk18⟩
    have H18 := Lib.hid hk18
    clear hk18 H17 hS0
    refine hK.out _ _ H18.out.cells (fun hS0 => ?_)
    clear hK K
    unfold TwoC at hS0
    refine wpAnyH_take (i := 8) (v := ?_) rfl (by kernel_rfl) (by kernel_rfl) (by kernel_rfl) (fun _ _ _ h => h) (Or.inl ⟨by kernel_rfl, ?_⟩) (by assumption) ?_
    rotate_left
    · intro w hSw; (try dsimp only at hSw); go_simp; (try with_reducible rfl)
    refine wpAnyH_take (i := 9) (v := ?_) rfl (by kernel_rfl) (by kernel_rfl) (by kernel_rfl) (fun _ _ _ h => h) (Or.inl ⟨by kernel_rfl, ?_⟩) (by assumption) ?_
    rotate_left
    · intro w hSw; (try dsimp only at hSw); go_simp; (try with_reducible rfl)
    refine wpAnyH_take (i := 10) (v := ?_) rfl (by kernel_rfl) (by kernel_rfl) (by kernel_rfl) (fun _ _ _ h => h) (Or.inl ⟨by kernel_rfl, ?_⟩) (by assumption) ?_
    rotate_left
    · intro w hSw; (try dsimp only at hSw); go_simp; (try with_reducible rfl)
    refine wpAnyH_take (i := 12) (v := ?_) rfl (by kernel_rfl) (by kernel_rfl) (by kernel_rfl) (fun _ _ _ h => h) (Or.inl ⟨by kernel_rfl, ?_⟩) (by assumption) ?_
    rotate_left
    · intro w hSw; (try dsimp only at hSw); go_simp; (try with_reducible rfl)
    refine wpAnyH_ready (rs := [11]) (by kernel_rfl) (by simp) ?_
    refine AllReadyH.cons rfl (fun K hK => ?_) AllReadyH.nil
    go_simp
    refine (KA.out _ H18.out).mono ?_
    rintro x w19 ⟨rfl, hk19⟩
    have H19 := Lib.hid hk19
    clear hk19 H18 hS0
    refine hK.out _ _ H19.out.cells (fun hS0 => ?_)
    clear hK K
    unfold TwoC at hS0
    refine wpAnyH_ready (rs := [13]) (by kernel_rfl) (by simp) ?_
    refine AllReadyH.cons rfl (fun K hK => ?_) AllReadyH.nil
    go_simp
    refine (KB.out _ H19.out).mono ?_
    rintro x w20 ⟨rfl, hk20⟩
    have H20 := Lib.hid hk20
    clear hk20 H19 hS0
    refine hK.out _ _ H20.out.cells (fun hS0 => ?_)
    clear hK K
    unfold TwoC at hS0
    refine wpAnyH_take (i := 14) (v := ?_) rfl (by kernel_rfl) (by kernel_rfl) (by kernel_rfl) (fun _ _ _ h => h) (Or.inl ⟨by kernel_rfl, ?_⟩) (by assumption) ?_
    rotate_left
    · intro w hSw; (try dsimp only at hSw); go_simp; (try with_reducible rfl)
    refine wpAnyH_take (i := 15) (v := ?_) rfl (by kernel_rfl) (by kernel_rfl) (by kernel_rfl) (fun _ _ _ h => h) (Or.inl ⟨by kernel_rfl, ?_⟩) (by assumption) ?_
    rotate_left
    · intro w hSw; (try dsimp only at hSw); go_simp; (try with_reducible rfl)
    refine wpAnyH_take (i := 16) (v := ?_) rfl (by kernel_rfl) (by kernel_rfl) (by kernel_rfl) (fun _ _ _ h => h) (Or.inl ⟨by kernel_rfl, ?_⟩) (by assumption) ?_
    rotate_left
    · intro w hSw; (try dsimp only at hSw); go_simp; (try with_reducible rfl)
    refine wpAnyH_take (i := 17) (v := ?_) rfl (by kernel_rfl) (by kernel_rfl) (by kernel_rfl) (fun _ _ _ h => h) (Or.inl ⟨by kernel_rfl, ?_⟩) (by assumption) ?_
    rotate_left
    · intro w hSw; (try dsimp only at hSw); go_simp; (try with_reducible rfl)
    refine wpAnyH_take (i := 19) (v := ?_) rfl (by kernel_rfl) (by kernel_rfl) (by kernel_rfl) (fun _ _ _ h => h) (Or.inl ⟨by kernel_rfl, ?_⟩) (by assumption) ?_
    rotate_left
    · intro w hSw; (try dsimp only at hSw); go_simp; (try with_reducible rfl)
    refine wpAnyH_ready (rs := [18]) (by kernel_rfl) (by simp) ?_
    refine AllReadyH.cons rfl (fun K hK => ?_) AllReadyH.nil
    go_simp
    refine (KC.out _ H20.out).mono ?_
    rintro x w21 ⟨rfl, hk21⟩
    have H21 := Lib.hid hk21
    clear hk21 H20 hS0
    refine hK.out _ _ H21.out.cells (fun hS0 => ?_)
    clear hK K
    unfold TwoC at hS0
    refine wpAnyH_ready (rs := [20]) (by kernel_rfl) (by simp) ?_
    refine AllReadyH.cons rfl (fun K hK => ?_) AllReadyH.nil
    go_simp
    refine (KB.out _ H21.out).mono ?_
    rintro x w22 ⟨rfl, hk22⟩
    have H22 := Lib.hid hk22
    clear hk22 H21 hS0
    refine hK.out _ _ H22.out.cells (fun hS0 => ?_)
    clear hK K
    unfold TwoC at hS0
    refine wpAnyH_take (i := 21) (v := ?_) rfl (by kernel_rfl) (by kernel_rfl) (by kernel_rfl) (fun _ _ _ h => h) (Or.inl ⟨by kernel_rfl, ?_⟩) (by assumption) ?_
    rotate_left
    · intro w hSw; (try dsimp only at hSw); go_simp; (try with_reducible rfl)
    refine wpAnyH_take (i := 22) (v := ?_) rfl (by kernel_rfl) (by kernel_rfl) (by kernel_rfl) (fun _ _ _ h => h) (Or.inl ⟨by kernel_rfl, ?_⟩) (by assumption) ?_
    rotate_left
    · intro w hSw; (try dsimp only at hSw); go_simp; (try with_reducible rfl)
    refine wpAnyH_take (i := 23) (v := ?_) rfl (by kernel_rfl) (by kernel_rfl) (by kernel_rfl) (fun _ _ _ h => h) (Or.inl ⟨by kernel_rfl, ?_⟩) (by assumption) ?_
    rotate_left
    · intro w hSw; (try dsimp only at hSw); go_simp; (try with_reducible rfl)
    refine wpAnyH_done (by kernel_rfl) ?_ _
    clear hS0
    have c0 := H22.out.a.c0
    have c1 := H22.out.a.c1
    have c2 := H22.out.a.c2
    have c3 := H22.out.a.c3
    have e0 := H22.out.b.c0
    have e1 := H22.out.b.c1
    have e2 := H22.out.b.c2
    have e3 := H22.out.b.c3
    go_wp2_with fail
    go_quiet (fail)
    have H23 := Lib.hid (H22.out.below (below_drewN (Below.refl _ _) nq))
    generalize w22.drewN nq = w23 at *
    clear H22
    clear c0 c1 c2 c3 e0 e1 e2 e3
    go_wp2
    go_ret
    exact ⟨rfl, H23.out.bel⟩
  · skip
    clear HX
    subst g1
    go_wp2_with fail
    refine wp_region_held_drew (S := fun w' => TwoC w' W.heap.size _ _ _ _ _ _ _ _) (by kernel_rfl) H16.out.drew.cells (fun hS0 => ?_)
    have HE := Lib.hid H16.out.drew
    clear H16
    generalize w16.drew = we at *
    unfold TwoC at hS0
    dsimp only [TwoC]
    clear c0 c1 c2 c3 e0 e1 e2 e3
    refine wpAnyH_take (i := 0) (v := ?_) rfl (by kernel_rfl) (by kernel_rfl) (by kernel_rfl) (fun _ _ _ h => h) (Or.inl ⟨by kernel_rfl, ?_⟩) (by assumption) ?_
    rotate_left
    · intro w hSw; (try dsimp only at hSw); go_simp; (try with_reducible rfl)
    refine wpAnyH_take (i := 1) (v := ?_) rfl (by kernel_rfl) (by kernel_rfl) (by kernel_rfl) (fun _ _ _ h => h) (Or.inl ⟨by kernel_rfl, ?_⟩) (by assumption) ?_
    rotate_left
    · intro w hSw; (try dsimp only at hSw); go_simp; (try with_reducible rfl)
    refine wpAnyH_take (i := 2) (v := ?_) rfl (by kernel_rfl) (by kernel_rfl) (by kernel_rfl) (fun _ _ _ h => h) (Or.inl ⟨by kernel_rfl, ?_⟩) (by assumption) ?_
    rotate_left
    · intro w hSw; (try dsimp only at hSw); go_simp; (try with_reducible rfl)
    refine wpAnyH_take (i := 3) (v := ?_) rfl (by kernel_rfl) (by kernel_rfl) (by kernel_rfl) (fun _ _ _ h => h) (Or.inl ⟨by kernel_rfl, ?_⟩) (by assumption) ?_
    rotate_left
    · intro w hSw; (try dsimp only at hSw); go_simp; (try with_reducible rfl)
    refine wpAnyH_take (i := 4) (v := ?_) rfl (by kernel_rfl) (by kernel_rfl) (by kernel_rfl) (fun _ _ _ h => h) (Or.inl ⟨by kernel_rfl, ?_⟩) (by assumption) ?_
    rotate_left
    · intro w hSw; (try dsimp only at hSw); go_simp; (try with_reducible rfl)
    refine wpAnyH_take (i := 6) (v := ?_) rfl (by kernel_rfl) (by kernel_rfl) (by kernel_rfl) (fun _ _ _ h => h) (Or.inl ⟨by kernel_rfl, ?_⟩) (by assumption) ?_
    rotate_left
    · intro w hSw; (try dsimp only at hSw); go_simp; (try with_reducible rfl)
    refine wpAnyH_ready (rs := [5]) (by kernel_rfl) (by simp) ?_
    refine AllReadyH.cons rfl (fun K hK => ?_) AllReadyH.nil
    go_simp
    refine (KC.out _ HE.out).mono ?_
    rintro x w17 ⟨rfl, hk17⟩
    have H17 := Lib.hid hk17
    clear hk17 HE hS0
    refine hK.out _ _ H17.out.cells (fun hS0 => ?_)
    clear hK K
    unfold TwoC at hS0
    refine wpAnyH_ready (rs := [7]) (by kernel_rfl) (by simp) ?_
    refine AllReadyH.cons rfl (fun K hK => ?_) AllReadyH.nil
    go_simp
    refine (KD.out _ H17.out).mono ?_
    rintro x w18 ⟨rfl, hk18⟩
    have H18 := Lib.hid hk18
    clear hk18 H17 hS0
    refine hK.out _ _ H18.out.cells (fun hS0 => ?_)
    clear hK K
    unfold TwoC at hS0
    refine wpAnyH_take (i := 8) (v := ?_) rfl (by kernel_rfl) (by kernel_rfl) (by kernel_rfl) (fun _ _ _ h => h) (Or.inl ⟨by kernel_rfl, ?_⟩) (by assumption) ?_
    rotate_left
    · intro w hSw; (try dsimp only at hSw); go_simp; (try with_reducible rfl)
    refine wpAnyH_take (i := 9) (v := ?_) rfl (by kernel_rfl) (by kernel_rfl) (by kernel_rfl) (fun _ _ _ h => h) (Or.inl ⟨by kernel_rfl, ?_⟩) (by assumption) ?_
    rotate_left
    · intro w hSw; (try dsimp only at hSw); go_simp; (try with_reducible rfl)
    refine wpAnyH_take (i := 10) (v := ?_) rfl (by kernel_rfl) (by kernel_rfl) (by kernel_rfl) (fun _ _ _ h => h) (Or.inl ⟨by kernel_rfl, ?_⟩) (by assumption) ?_
    rotate_left
    · intro w hSw; (try dsimp only at hSw); go_simp; (try with_reducible rfl)
    refine wpAnyH_take (i := 12) (v := ?_) rfl (by kernel_rfl) (by kernel_rfl) (by kernel_rfl) (fun _ _ _ h => h) (Or.inl ⟨by kernel_rfl, ?_⟩) (by assumption) ?_
    rotate_left
    · intro w hSw; (try dsimp only at hSw); go_simp; (try with_reducible rfl)
    refine wpAnyH_ready (rs := [11]) (by kernel_rfl) (by simp) ?_
    refine AllReadyH.cons rfl (fun K hK => ?_) AllReadyH.nil
    go_simp
    refine (KA.out _ H18.out).mono ?_
    rintro x w19 ⟨rfl, hk19⟩
    have H19 := Lib.hid hk19
    clear hk19 H18 hS0
    refine hK.out _ _ H19.out.cells (fun hS0 => ?_)
    clear hK K
    unfold TwoC at hS0
    refine wpAnyH_ready (rs := [13]) (by kernel_rfl) (by simp) ?_
    refine AllReadyH.cons rfl (fun K hK => ?_) AllReadyH.nil
    go_simp
    refine (KB.out _ H19.out).mono ?_
    rintro x w20 ⟨rfl, hk20⟩
    have H20 := Lib.hid hk20
    clear hk20 H19 hS0
    refine hK.out _ _ H20.out.cells (fun hS0 => ?_)
    clear hK K
    unfold TwoC at hS0
    refine wpAnyH_take (i := 14) (v := ?_) rfl (by kernel_rfl) (by kernel_rfl) (by kernel_rfl) (fun _ _ _ h => h) (Or.inl ⟨by kernel_rfl, ?_⟩) (by assumption) ?_
    rotate_left
    · intro w hSw; (try dsimp only at hSw); go_simp; (try with_reducible rfl)
    refine wpAnyH_take (i := 15) (v := ?_) rfl (by kernel_rfl) (by kernel_rfl) (by kernel_rfl) (fun _ _ _ h => h) (Or.inl ⟨by kernel_rfl, ?_⟩) (by assumption) ?_
    rotate_left
    · intro w hSw; (try dsimp only at hSw); go_simp; (try with_reducible rfl)
    refine wpAnyH_take (i := 16) (v := ?_) rfl (by kernel_rfl) (by kernel_rfl) (by kernel_rfl) (fun _ _ _ h => h) (Or.inl ⟨by kernel_rfl, ?_⟩) (by assumption) ?_
    rotate_left
    · intro w hSw; (try dsimp only at hSw); go_simp; (try with_reducible rfl)
    refine wpAnyH_take (i := 17) (v := ?_) rfl (by kernel_rfl) (by kernel_rfl) (by kernel_rfl) (fun _ _ _ h => h) (Or.inl ⟨by kernel_rfl, ?_⟩) (by assumption) ?_
    rotate_left
    · intro w hSw; (try dsimp only at hSw); go_simp; (try with_reducible rfl)
    refine wpAnyH_take (i := 19) (v := ?_) rfl (by kernel_rfl) (by kernel_rfl) (by kernel_rfl) (fun _ _ _ h => h) (Or.inl ⟨by kernel_rfl, ?_⟩) (by assumption) ?_
    rotate_left
    · intro w hSw; (try dsimp only at hSw); go_simp; (try with_reducible rfl)
    refine wpAnyH_ready (rs := [18]) (by kernel_rfl) (by simp) ?_
    refine AllReadyH.cons rfl (fun K hK => ?_) AllReadyH.nil
    go_simp
    refine (KC.out _ H20.out).mono ?_
    rintro x w21 ⟨rfl, hk21⟩
    have H21 := Lib.hid hk21
    clear hk21 H20 hS0
    refine hK.out _ _ H21.out.cells (fun hS0 => ?_)
    clear hK K
    unfold TwoC at hS0
    refine wpAnyH_ready (rs := [20]) (by kernel_rfl) (by simp) ?_
    refine AllReadyH.cons rfl (fun K hK => ?_) AllReadyH.nil
    go_simp
    refine (KB.out _ H21.out).mono ?_
    rintro x w22 ⟨rfl, hk22⟩
    have H22 := Lib.hid hk22
    clear hk22 H21 hS0
    refine hK.out _ _ H22.out.cells (fun hS0 => ?_)
    clear hK K
    unfold TwoC at hS0
    refine wpAnyH_take (i := 21) (v := ?_) rfl (by kernel_rfl) (by kernel_rfl) (by kernel_rfl) (fun _ _ _ h => h) (Or.inl ⟨by kernel_rfl, ?_⟩) (by assumption) ?_
    rotate_left
    · intro w hSw; (try dsimp only at hSw); go_simp; (try with_reducible rfl)
    refine wpAnyH_take (i := 22) (v := ?_) rfl (by kernel_rfl) (by kernel_rfl) (by kernel_rfl) (fun _ _ _ h => h) (Or.inl ⟨by kernel_rfl, ?_⟩) (by assumption) ?_
    rotate_left
    · intro w hSw; (try dsimp only at hSw); go_simp; (try with_reducible rfl)
    refine wpAnyH_take (i := 23) (v := ?_) rfl (by kernel_rfl) (by kernel_rfl) (by kernel_rfl) (fun _ _ _ h => h) (Or.inl ⟨by kernel_rfl, ?_⟩) (by assumption) ?_
    rotate_left
    · intro w hSw; (try dsimp only at hSw); go_simp; (try with_reducible rfl)
    refine wpAnyH_done (by kernel_rfl) ?_ _
    clear hS0
    have c0 := H22.out.a.c0
    have c1 := H22.out.a.c1
    have c2 := H22.out.a.c2
    have c3 := H22.out.a.c3
    have e0 := H22.out.b.c0
    have e1 := H22.out.b.c1
    have e2 := H22.out.b.c2
    have e3 := H22.out.b.c3
    go_wp2_with fail
    go_quiet (fail)
    have H23 := Lib.hid (H22.out.below (below_drewN (Below.refl _ _) nq))
    generalize w22.drewN nq = w23 at *
    clear H22
    clear c0 c1 c2 c3 e0 e1 e2 e3
    go_wp2
    go_ret
    exact ⟨rfl, H23.out.bel⟩
  · skip
    clear HX
    subst g1
    subst g2
    go_wp2_with fail
    refine wp_region_held_drew (S := fun w' => TwoC w' W.heap.size _ _ _ _ _ _ _ _) (by kernel_rfl) H16.out.drew.cells (fun hS0 => ?_)
    have HE := Lib.hid H16.out.drew
    clear H16
    generalize w16.drew = we at *
    unfold TwoC at hS0
    dsimp only [TwoC]
    clear c0 c1 c2 c3 e0 e1 e2 e3
    refine wpAnyH_take (i := 0) (v := ?_) rfl (by kernel_rfl) (by kernel_rfl) (by kernel_rfl) (fun _ _ _ h => h) (Or.inl ⟨by kernel_rfl, ?_⟩) (by assumption) ?_
    rotate_left
    · intro w hSw; (try dsimp only at hSw); go_simp; (try with_reducible rfl)
    refine wpAnyH_take (i := 1) (v := ?_) rfl (by kernel_rfl) (by kernel_rfl) (by kernel_rfl) (fun _ _ _ h => h) (Or.inl ⟨by kernel_rfl, ?_⟩) (by assumption) ?_
    rotate_left
    · intro w hSw; (try dsimp only at hSw); go_simp; (try with_reducible rfl)
    refine wpAnyH_take (i := 2) (v := ?_) rfl (by kernel_rfl) (by kernel_rfl) (by kernel_rfl) (fun _ _ _ h => h) (Or.inl ⟨by kernel_rfl, ?_⟩) (by assumption) ?_
    rotate_left
    · intro w hSw; (try dsimp only at hSw); go_simp; (try with_reducible rfl)
    refine wpAnyH_take (i := 3) (v := ?_) rfl (by kernel_rfl) (by kernel_rfl) (by kernel_rfl) (fun _ _ _ h => h) (Or.inl ⟨by kernel_rfl, ?_⟩) (by assumption) ?_
    rotate_left
    · intro w hSw; (try dsimp only at hSw); go_simp; (try with_reducible rfl)
    refine wpAnyH_take (i := 4) (v := ?_) rfl (by kernel_rfl) (by kernel_rfl) (by kernel_rfl) (fun _ _ _ h => h) (Or.inl ⟨by kernel_rfl, ?_⟩) (by assumption) ?_
    rotate_left
    · intro w hSw; (try dsimp only at hSw); go_simp; (try with_reducible rfl)
    refine wpAnyH_take (i := 6) (v := ?_) rfl (by kernel_rfl) (by kernel_rfl) (by kernel_rfl) (fun _ _ _ h => h) (Or.inl ⟨by kernel_rfl, ?_⟩) (by assumption) ?_
    rotate_left
    · intro w hSw; (try dsimp only at hSw); go_simp; (try with_reducible rfl)
    refine wpAnyH_ready (rs := [5]) (by kernel_rfl) (by simp) ?_
    refine AllReadyH.cons rfl (fun K hK => ?_) AllReadyH.nil
    go_simp
    refine (KC.out _ HE.out).mono ?_
    rintro x w17 ⟨rfl, hk17⟩
    have H17 := Lib.hid hk17
    clear hk17 HE hS0
    refine hK.out _ _ H17.out.cells (fun hS0 => ?_)
    clear hK K
    unfold TwoC at hS0
    refine wpAnyH_ready (rs := [7]) (by kernel_rfl) (by simp) ?_
    refine AllReadyH.cons rfl (fun K hK => ?_) AllReadyH.nil
    go_simp
    refine (KD.out _ H17.out).mono ?_
    rintro x w18 ⟨rfl, hk18⟩
    have H18 := Lib.hid hk18
    clear hk18 H17 hS0
    refine hK.out _ _ H18.out.cells (fun hS0 => ?_)
    clear hK K
    unfold TwoC at hS0
    refine wpAnyH_take (i := 8) (v := ?_) rfl (by kernel_rfl) (by kernel_rfl) (by kernel_rfl) (fun _ _ _ h => h) (Or.inl ⟨by kernel_rfl, ?_⟩) (by assumption) ?_
    rotate_left
    · intro w hSw; (try dsimp only at hSw); go_simp; (try with_reducible rfl)
    refine wpAnyH_take (i := 9) (v := ?_) rfl (by kernel_rfl) (by kernel_rfl) (by kernel_rfl) (fun _ _ _ h => h) (Or.inl ⟨by kernel_rfl, ?_⟩) (by assumption) ?_
    rotate_left
    · intro w hSw; (try dsimp only at hSw); go_simp; (try with_reducible rfl)
    refine wpAnyH_take (i := 10) (v := ?_) rfl (by kernel_rfl) (by kernel_rfl) (by kernel_rfl) (fun _ _ _ h => h) (Or.inl ⟨by kernel_rfl, ?_⟩) (by assumption) ?_
    rotate_left
    · intro w hSw; (try dsimp only at hSw); go_simp; (try with_reducible rfl)
    refine wpAnyH_take (i := 12) (v := ?_) rfl (by kernel_rfl) (by kernel_rfl) (by kernel_rfl) (fun _ _ _ h => h) (Or.inl ⟨by kernel_rfl, ?_⟩) (by assumption) ?_
    rotate_left
    · intro w hSw; (try dsimp only at hSw); go_simp; (try with_reducible rfl)
    refine wpAnyH_ready (rs := [11]) (by kernel_rfl) (by simp) ?_
    refine AllReadyH.cons rfl (fun K hK => ?_) AllReadyH.nil
    go_simp
    refine (KA.out _ H18.out).mono ?_
    rintro x w19 ⟨rfl, hk19⟩
    have H19 := Lib.hid hk19
    clear hk19 H18 hS0
    refine hK.out _ _ H19.out.cells (fun hS0 => ?_)
    clear hK K
    unfold TwoC at hS0
    refine wpAnyH_ready (rs := [13]) (by kernel_rfl) (by simp) ?_
    refine AllReadyH.cons rfl (fun K hK => ?_) AllReadyH.nil
    go_simp
    refine (KB.out _ H19.out).mono ?_
    rintro x w20 ⟨rfl, hk20⟩
    have H20 := Lib.hid hk20
    clear hk20 H19 hS0
    refine hK.out _ _ H20.out.cells (fun hS0 => ?_)
    clear hK K
    unfold TwoC at hS0
    refine wpAnyH_take (i := 14) (v := ?_) rfl (by kernel_rfl) (by kernel_rfl) (by kernel_rfl) (fun _ _ _ h => h) (Or.inl ⟨by kernel_rfl, ?_⟩) (by assumption) ?_
    rotate_left
    · intro w hSw; (try dsimp only at hSw); go_simp; (try with_reducible rfl)
    refine wpAnyH_take (i := 15) (v := ?_) rfl (by kernel_rfl) (by kernel_rfl) (by kernel_rfl) (fun _ _ _ h => h) (Or.inl ⟨by kernel_rfl, ?_⟩) (by assumption) ?_
    rotate_left
    · intro w hSw; (try dsimp only at hSw); go_simp; (try with_reducible rfl)
    refine wpAnyH_take (i := 16) (v := ?_) rfl (by kernel_rfl) (by kernel_rfl) (by kernel_rfl) (fun _ _ _ h => h) (Or.inl ⟨by kernel_rfl, ?_⟩) (by assumption) ?_
    rotate_left
    · intro w hSw; (try dsimp only at hSw); go_simp; (try with_reducible rfl)
    refine wpAnyH_take (i := 17) (v := ?_) rfl (by kernel_rfl) (by kernel_rfl) (by kernel_rfl) (fun _ _ _ h => h) (Or.inl ⟨by kernel_rfl, ?_⟩) (by assumption) ?_
    rotate_left
    · intro w hSw; (try dsimp only at hSw); go_simp; (try with_reducible rfl)
    refine wpAnyH_take (i := 19) (v := ?_) rfl (by kernel_rfl) (by kernel_rfl) (by kernel_rfl) (fun _ _ _ h => h) (Or.inl ⟨by kernel_rfl, ?_⟩) (by assumption) ?_
    rotate_left
    · intro w hSw; (try dsimp only at hSw); go_simp; (try with_reducible rfl)
    refine wpAnyH_ready (rs := [18]) (by kernel_rfl) (by simp) ?_
    refine AllReadyH.cons rfl (fun K hK => ?_) AllReadyH.nil
    go_simp
    refine (KC.out _ H20.out).mono ?_
    rintro x w21 ⟨rfl, hk21⟩
    have H21 := Lib.hid hk21
    clear hk21 H20 hS0
    refine hK.out _ _ H21.out.cells (fun hS0 => ?_)
    clear hK K
    unfold TwoC at hS0
    refine wpAnyH_ready (rs := [20]) (by kernel_rfl) (by simp) ?_
    refine AllReadyH.cons rfl (fun K hK => ?_) AllReadyH.nil
    go_simp
    refine (KB.out _ H21.out).mono ?_
    rintro x w22 ⟨rfl, hk22⟩
    have H22 := Lib.hid hk22
    clear hk22 H21 hS0
    refine hK.out _ _ H22.out.cells (fun hS0 => ?_)
    clear hK K
    unfold TwoC at hS0
    refine wpAnyH_take (i := 21) (v := ?_) rfl (by kernel_rfl) (by kernel_rfl) (by kernel_rfl) (fun _ _ _ h => h) (Or.inl ⟨by kernel_rfl, ?_⟩) (by assumption) ?_
    rotate_left
    · intro w hSw; (try dsimp only at hSw); go_simp; (try with_reducible rfl)
    refine wpAnyH_take (i := 22) (v := ?_) rfl (by kernel_rfl) (by kernel_rfl) (by kernel_rfl) (fun _ _ _ h => h) (Or.inl ⟨by kernel_rfl, ?_⟩) (by assumption) ?_
    rotate_left
    · intro w hSw; (try dsimp only at hSw); go_simp; (try with_reducible rfl)
    refine wpAnyH_take (i := 23) (v := ?_) rfl (by kernel_rfl) (by kernel_rfl) (by kernel_rfl) (fun _ _ _ h => h) (Or.inl ⟨by kernel_rfl, ?_⟩) (by assumption) ?_
    rotate_left
    · intro w hSw; (try dsimp only at hSw); go_simp; (try with_reducible rfl)
    refine wpAnyH_done (by kernel_rfl) ?_ _
    clear hS0
    have c0 := H22.out.a.c0
    have c1 := H22.out.a.c1
    have c2 := H22.out.a.c2
    have c3 := H22.out.a.c3
    have e0 := H22.out.b.c0
    have e1 := H22.out.b.c1
    have e2 := H22.out.b.c2
    have e3 := H22.out.b.c3
    go_wp2_with fail
    go_quiet (fail)
    have H23 := Lib.hid (H22.out.below (below_drewN (Below.refl _ _) nq))
    generalize w22.drewN nq = w23 at *
    clear H22
    clear c0 c1 c2 c3 e0 e1 e2 e3
    go_wp2
    go_ret
    exact ⟨rfl, H23.out.bel⟩
  · skip
    clear HX
    subst g1
    subst g2
    subst g3
    go_wp2_with fail
    refine wp_region_held_drew (S := fun w' => TwoC w' W.heap.size _ _ _ _ _ _ _ _) (by kernel_rfl) H16.out.drew.cells (fun hS0 => ?_)
    have HE := Lib.hid H16.out.drew
    clear H16
    generalize w16.drew = we at *
    unfold TwoC at hS0
    dsimp only [TwoC]
    clear c0 c1 c2 c3 e0 e1 e2 e3
    refine wpAnyH_take (i := 0) (v := ?_) rfl (by kernel_rfl) (by kernel_rfl) (by kernel_rfl) (fun _ _ _ h => h) (Or.inl ⟨by kernel_rfl, ?_⟩) (by assumption) ?_
    rotate_left
    · intro w hSw; (try dsimp only at hSw); go_simp; (try with_reducible rfl)
    refine wpAnyH_take (i := 1) (v := ?_) rfl (by kernel_rfl) (by kernel_rfl) (by kernel_rfl) (fun _ _ _ h => h) (Or.inl ⟨by kernel_rfl, ?_⟩) (by assumption) ?_
    rotate_left
    · intro w hSw; (try dsimp only at hSw); go_simp; (try with_reducible rfl)
    refine wpAnyH_take (i := 2) (v := ?_) rfl (by kernel_rfl) (by kernel_rfl) (by kernel_rfl) (fun _ _ _ h => h) (Or.inl ⟨by kernel_rfl, ?_⟩) (by assumption) ?_
    rotate_left
    · intro w hSw; (try dsimp only at hSw); go_simp; (try with_reducible rfl)
    refine wpAnyH_take (i := 3) (v := ?_) rfl (by kernel_rfl) (by kernel_rfl) (by kernel_rfl) (fun _ _ _ h => h) (Or.inl ⟨by kernel_rfl, ?_⟩) (by assumption) ?_
    rotate_left
    · intro w hSw; (try dsimp only at hSw); go_simp; (try with_reducible rfl)
    refine wpAnyH_take (i := 4) (v := ?_) rfl (by kernel_rfl) (by kernel_rfl) (by kernel_rfl) (fun _ _ _ h => h) (Or.inl ⟨by kernel_rfl, ?_⟩) (by assumption) ?_
    rotate_left
    · intro w hSw; (try dsimp only at hSw); go_simp; (try with_reducible rfl)
    refine wpAnyH_take (i := 6) (v := ?_) rfl (by kernel_rfl) (by kernel_rfl) (by kernel_rfl) (fun _ _ _ h => h) (Or.inl ⟨by kernel_rfl, ?_⟩) (by assumption) ?_
    rotate_left
    · intro w hSw; (try dsimp only at hSw); go_simp; (try with_reducible rfl)
    refine wpAnyH_ready (rs := [5]) (by kernel_rfl) (by simp) ?_
    refine AllReadyH.cons rfl (fun K hK => ?_) AllReadyH.nil
    go_simp
    refine (KC.out _ HE.out).mono ?_
    rintro x w17 ⟨rfl, hk17⟩
    have H17 := Lib.hid hk17
    clear hk17 HE hS0
    refine hK.out _ _ H17.out.cells (fun hS0 => ?_)
    clear hK K
    unfold TwoC at hS0
    refine wpAnyH_ready (rs := [7]) (by kernel_rfl) (by simp) ?_
    refine AllReadyH.cons rfl (fun K hK => ?_) AllReadyH.nil
    go_simp
    refine (KD.out _ H17.out).mono ?_
    rintro x w18 ⟨rfl, hk18⟩
    have H18 := Lib.hid hk18
    clear hk18 H17 hS0
    refine hK.out _ _ H18.out.cells (fun hS0 => ?_)
    clear hK K
    unfold TwoC at hS0
    refine wpAnyH_take (i := 8) (v := ?_) rfl (by kernel_rfl) (by kernel_rfl) (by kernel_rfl) (fun _ _ _ h => h) (Or.inl ⟨by kernel_rfl, ?_⟩) (by assumption) ?_
    rotate_left
    · intro w hSw; (try dsimp only at hSw); go_simp; (try with_reducible rfl)
    refine wpAnyH_take (i := 9) (v := ?_) rfl (by kernel_rfl) (by kernel_rfl) (by kernel_rfl) (fun _ _ _ h => h) (Or.inl ⟨by kernel_rfl, ?_⟩) (by assumption) ?_
    rotate_left
    · intro w hSw; (try dsimp only at hSw); go_simp; (try with_reducible rfl)
    refine wpAnyH_take (i := 10) (v := ?_) rfl (by kernel_rfl) (by kernel_rfl) (by kernel_rfl) (fun _ _ _ h => h) (Or.inl ⟨by kernel_rfl, ?_⟩) (by assumption) ?_
    rotate_left
    · intro w hSw; (try dsimp only at hSw); go_simp; (try with_reducible rfl)
    refine wpAnyH_take (i := 12) (v := ?_) rfl (by kernel_rfl) (by kernel_rfl) (by kernel_rfl) (fun _ _ _ h => h) (Or.inl ⟨by kernel_rfl, ?_⟩) (by assumption) ?_
    rotate_left
    · intro w hSw; (try dsimp only at hSw); go_simp; (try with_reducible rfl)
    refine wpAnyH_ready (rs := [11]) (by kernel_rfl) (by simp) ?_
    refine AllReadyH.cons rfl (fun K hK => ?_) AllReadyH.nil
    go_simp
    refine (KA.out _ H18.out).mono ?_
    rintro x w19 ⟨rfl, hk19⟩
    have H19 := Lib.hid hk19
    clear hk19 H18 hS0
    refine hK.out _ _ H19.out.cells (fun hS0 => ?_)
    clear hK K
    unfold TwoC at hS0
    refine wpAnyH_ready (rs := [13]) (by kernel_rfl) (by simp) ?_
    refine AllReadyH.cons rfl (fun K hK => ?_) AllReadyH.nil
    go_simp
    refine (KB.out _ H19.out).mono ?_
    rintro x w20 ⟨rfl, hk20⟩
    have H20 := Lib.hid hk20
    clear hk20 H19 hS0
    refine hK.out _ _ H20.out.cells (fun hS0 => ?_)
    clear hK K
    unfold TwoC at hS0
    refine wpAnyH_take (i := 14) (v := ?_) rfl (by kernel_rfl) (by kernel_rfl) (by kernel_rfl) (fun _ _ _ h => h) (Or.inl ⟨by kernel_rfl, ?_⟩) (by assumption) ?_
    rotate_left
    · intro w hSw; (try dsimp only at hSw); go_simp; (try with_reducible rfl)
    refine wpAnyH_take (i := 15) (v := ?_) rfl (by kernel_rfl) (by kernel_rfl) (by kernel_rfl) (fun _ _ _ h => h) (Or.inl ⟨by kernel_rfl, ?_⟩) (by assumption) ?_
    rotate_left
    · intro w hSw; (try dsimp only at hSw); go_simp; (try with_reducible rfl)
    refine wpAnyH_take (i := 16) (v := ?_) rfl (by kernel_rfl) (by kernel_rfl) (by kernel_rfl) (fun _ _ _ h => h) (Or.inl ⟨by kernel_rfl, ?_⟩) (by assumption) ?_
    rotate_left
    · intro w hSw; (try dsimp only at hSw); go_simp; (try with_reducible rfl)
    refine wpAnyH_take (i := 17) (v := ?_) rfl (by kernel_rfl) (by kernel_rfl) (by kernel_rfl) (fun _ _ _ h => h) (Or.inl ⟨by kernel_rfl, ?_⟩) (by assumption) ?_
    rotate_left
    · intro w hSw; (try dsimp only at hSw); go_simp; (try with_reducible rfl)
    refine wpAnyH_take (i := 19) (v := ?_) rfl (by kernel_rfl) (by kernel_rfl) (by kernel_rfl) (fun _ _ _ h => h) (Or.inl ⟨by kernel_rfl, ?_⟩) (by assumption) ?_
    rotate_left
    · intro w hSw; (try dsimp only at hSw); go_simp; (try with_reducible rfl)
    refine wpAnyH_ready (rs := [18]) (by kernel_rfl) (by simp) ?_
    refine AllReadyH.cons rfl (fun K hK => ?_) AllReadyH.nil
    go_simp
    refine (KC.out _ H20.out).mono ?_
    rintro x w21 ⟨rfl, hk21⟩
    have H21 := Lib.hid hk21
    clear hk21 H20 hS0
    refine hK.out _ _ H21.out.cells (fun hS0 => ?_)
    clear hK K
    unfold TwoC at hS0
    refine wpAnyH_ready (rs := [20]) (by kernel_rfl) (by simp) ?_
    refine AllReadyH.cons rfl (fun K hK => ?_) AllReadyH.nil
    go_simp
    refine (KB.out _ H21.out).mono ?_
    rintro x w22 ⟨rfl, hk22⟩
    have H22 := Lib.hid hk22
    clear hk22 H21 hS0
    refine hK.out _ _ H22.out.cells (fun hS0 => ?_)
    clear hK K
    unfold TwoC at hS0
    refine wpAnyH_take (i := 21) (v := ?_) rfl (by kernel_rfl) (by kernel_rfl) (by kernel_rfl) (fun _ _ _ h => h) (Or.inl ⟨by kernel_rfl, ?_⟩) (by assumption) ?_
    rotate_left
    · intro w hSw; (try dsimp only at hSw); go_simp; (try with_reducible rfl)
    refine wpAnyH_take (i := 22) (v := ?_) rfl (by kernel_rfl) (by kernel_rfl) (by kernel_rfl) (fun _ _ _ h => h) (Or.inl ⟨by kernel_rfl, ?_⟩) (by assumption) ?_
    rotate_left
    · intro w hSw; (try dsimp only at hSw); go_simp; (try with_reducible rfl)
    refine wpAnyH_take (i := 23) (v := ?_) rfl (by kernel_rfl) (by kernel_rfl) (by kernel_rfl) (fun _ _ _ h => h) (Or.inl ⟨by kernel_rfl, ?_⟩) (by assumption) ?_
    rotate_left
    · intro w hSw; (try dsimp only at hSw); go_simp; (try with_reducible rfl)
    refine wpAnyH_done (by kernel_rfl) ?_ _
    clear hS0
    have c0 := H22.out.a.c0
    have c1 := H22.out.a.c1
    have c2 := H22.out.a.c2
    have c3 := H22.out.a.c3
    have e0 := H22.out.b.c0
    have e1 := H22.out.b.c1
    have e2 := H22.out.b.c2
    have e3 := H22.out.b.c3
    go_wp2_with fail
    go_quiet (fail)
    have H23 := Lib.hid (H22.out.below (below_drewN (Below.refl _ _) nq))
    generalize w22.drewN nq = w23 at *
    clear H22
    clear c0 c1 c2 c3 e0 e1 e2 e3
    go_wp2
    go_ret
    exact ⟨rfl, H23.out.bel⟩
end Go.Proofs.YtclepgpaifaneaaDoor.packetBack
