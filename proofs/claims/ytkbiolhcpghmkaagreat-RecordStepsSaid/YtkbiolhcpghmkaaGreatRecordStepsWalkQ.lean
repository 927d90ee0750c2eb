/- carracklaw17.RecordSteps walked. No condition. -/
import Derived.WalkSpells
import Derived.Outline
import Derived.Deep.RegionHeld
import Derived.Test.YtkbiolhcpghmkaaGreatRsStepQ
import Derived.Test.YtkbiolhcpghmkaaGreatRcAwakeQ
import Derived.Test.YtkbiolhcpghmkaaGreatRwMQ
import Derived.Test.YtkbiolhcpghmkaaGreatRcPlBQ
namespace Go.Proofs.YtkbiolhcpghmkaaGreat
open Go.RowKit Go.Kq
set_option linter.unusedVariables false
namespace recordSteps
theorem DaQ.box {w w' : World} {e : Int} {d : DaV} {x : Ending} (h : DaQ w e d x w') : ∃ (gd : DaV) (A : Option Addr) (c : Nat), x = .returned (.tuple #[daV gd A c, .int .i64 e]) ∧ EnAt NtV.ic w' A gd.l ∧ (e ≠ 0 → gd = ⟨PlV.z, PlV.z, []⟩) ∧ (e = 0 → gd = d) := by
  rcases h.2 with ⟨h0, rfl⟩ | ⟨h0, A', c', rfl, hat⟩
  · exact ⟨⟨PlV.z, PlV.z, []⟩, none, 0, rfl, enAt_nil _ _ _, fun _ => rfl, fun h => absurd h h0⟩
  · exact ⟨d, A', c', by rw [h0], hat, fun h => absurd h0 h, fun _ => rfl⟩
set_option maxRecDepth 100000 in
set_option maxHeartbeats 4000000 in
theorem main (A : Option Addr) (ca : Nat) (d : DaV) (room : Int) (D : Option Addr) (cd : Nat) (C : Option Addr) (cc : Nat) (r : ReV) (W : World) (hd : DaL W A d) (hr : RecL W D C r) :
    Calls Tryz.prog 3 #[daV d A ca, .int .i64 room, reV r D cd C cc] W fun x w' => x = .returned (.bool true) ∧ Below W.heap.size W w' := by
  have H0 := Lib.hid (PlB.new W A ca D cd C cc d r)
  have HG := Lib.hid (And.intro hd hr)
  clear hd hr
  obtain ⟨w0, hw0⟩ : ∃ z, z = ((W.alloc (.cells #[.int .u64 d.p0.h, .int .i64 d.p0.i, .int .u64 d.p1.h, .int .i64 d.p1.i, .slice A d.l.length ca] 28)).alloc (.cells #[.int .i64 r.k, .int .u64 r.d.p0.h, .int .i64 r.d.p0.i, .int .u64 r.d.p1.h, .int .i64 r.d.p1.i, .slice D r.d.l.length cd, .int .i64 r.c, .int .u64 r.p.h, .int .i64 r.p.i, .slice C r.ns.length cc] 31)) := ⟨_, rfl⟩
  rw [← hw0] at H0
  obtain ⟨X2, hX2⟩ : ∃ X, X = W.heap.size + 1 := ⟨_, rfl⟩
  obtain ⟨X1, hX1⟩ : ∃ X, X = W.heap.size := ⟨_, rfl⟩
  rw [← hX2] at H0
  replace H0 : Hid (PlB w0 X1 X2 A ca D cd C cc d r ∧ Below W.heap.size W w0) := by rw [hX1]; exact H0
  obtain ⟨p0, p1, l⟩ := d
  obtain ⟨k, ⟨q0, q1, m⟩, c, p, ns⟩ := r
  simp only at hw0
  unfold daV reV
  go_enter Tryz.func3, Tryz.ntmps3
  go_wp2_with fail
  rw [← hw0, ← hX2, ← hX1]
  have HXX := Lib.hid (And.intro hX1 hX2)
  clear hw0 hX1 hX2
  refine (awake17 w0).mono ?_
  rintro x w1 ⟨rfl, b1⟩
  have H1 : Hid (PlB w1 X1 X2 A ca D cd C cc ⟨p0, p1, l⟩ ⟨k, ⟨q0, q1, m⟩, c, p, ns⟩ ∧ Below W.heap.size W w1) := Lib.hid ⟨H0.out.1.below b1, H0.out.2.trans (b1.mono H0.out.2.size)⟩
  clear b1 H0
  obtain ⟨c0, c1, c2, c3, c4, c5, c6, c7, c8, c9⟩ := RecAt.of H1.out.1.r
  simp only at c0 c1 c2 c3 c4 c5 c6 c7 c8 c9
  go_wp2_with fail
  refine (few17 D cd C cc ⟨k, ⟨q0, q1, m⟩, c, p, ns⟩ w1 (HG.out.2.d.l.below H1.out.2) (HG.out.2.ns.below H1.out.2)).mono ?_
  rintro x w2 ⟨rfl, b2⟩
  have H2 : Hid (PlB w2 X1 X2 A ca D cd C cc ⟨p0, p1, l⟩ ⟨k, ⟨q0, q1, m⟩, c, p, ns⟩ ∧ Below W.heap.size W w2) := Lib.hid ⟨H1.out.1.below b2, H1.out.2.trans (b2.mono H1.out.2.size)⟩
  clear b2 H1 c0 c1 c2 c3 c4 c5 c6 c7 c8 c9
  by_cases hf : FewR ⟨k, ⟨q0, q1, m⟩, c, p, ns⟩
  case neg =>
    rw [decide_eq_false hf]
    clear hf
    go_wp2
    go_ret
    exact ⟨rfl, H2.out.2⟩
  rw [decide_eq_true hf]
  have HF := Lib.hid hf
  clear hf
  have t0 := Kq.blk_cell H2.out.1.d 0
  have t1 := Kq.blk_cell H2.out.1.d 1
  have t2 := Kq.blk_cell H2.out.1.d 2
  have t3 := Kq.blk_cell H2.out.1.d 3
  have t4 := Kq.blk_cell H2.out.1.d 4
  simp only at t0 t1 t2 t3 t4
  go_wp2_with fail
  refine (few17 A ca none 0 ⟨0, ⟨p0, p1, l⟩, 0, PlV.z, []⟩ w2 (HG.out.1.l.below H2.out.2) (enAt_nil _ _ _)).mono ?_
  rintro x w3 ⟨rfl, b3⟩
  have H3 : Hid (PlB w3 X1 X2 A ca D cd C cc ⟨p0, p1, l⟩ ⟨k, ⟨q0, q1, m⟩, c, p, ns⟩ ∧ Below W.heap.size W w3) := Lib.hid ⟨H2.out.1.below b3, H2.out.2.trans (b3.mono H2.out.2.size)⟩
  clear b3 H2 t0 t1 t2 t3 t4
  by_cases hf : FewR ⟨0, ⟨p0, p1, l⟩, 0, PlV.z, []⟩
  case neg =>
    rw [decide_eq_false hf]
    clear hf
    go_wp2
    go_ret
    exact ⟨rfl, H3.out.2⟩
  rw [decide_eq_true hf]
  have HW : Hid (∀ w', Below W.heap.size W w' → DaW w' A ⟨p0, p1, l⟩ ∧ RecW w' D C ⟨k, ⟨q0, q1, m⟩, c, p, ns⟩) := Lib.hid (fun w' hb => ⟨⟨HG.out.1.p0, HG.out.1.p1, HG.out.1.l.below hb, HG.out.1.lw, hf.1.2⟩, (HG.out.2.few HF.out.1.2 HF.out.1.1).below hb⟩)
  clear hf
  have t0 := Kq.blk_cell H3.out.1.d 0
  have t1 := Kq.blk_cell H3.out.1.d 1
  have t2 := Kq.blk_cell H3.out.1.d 2
  have t3 := Kq.blk_cell H3.out.1.d 3
  have t4 := Kq.blk_cell H3.out.1.d 4
  simp only at t0 t1 t2 t3 t4
  obtain ⟨c0, c1, c2, c3, c4, c5, c6, c7, c8, c9⟩ := RecAt.of H3.out.1.r
  simp only at c0 c1 c2 c3 c4 c5 c6 c7 c8 c9
  go_wp2_with fail
  clear t0 t1 t2 t3 t4 c0 c1 c2 c3 c4 c5 c6 c7 c8 c9
  refine (rec_step A ca ⟨p0, p1, l⟩ room D cd C cc ⟨k, ⟨q0, q1, m⟩, c, p, ns⟩ w3 (HW.out w3 H3.out.2).1 (HW.out w3 H3.out.2).2).mono ?_
  intro x w5 hx
  obtain ⟨sv, hsv⟩ : ∃ sv, sv = stepV ⟨p0, p1, l⟩ room ⟨k, ⟨q0, q1, m⟩, c, p, ns⟩ := ⟨_, rfl⟩
  rw [← hsv] at hx
  have HSV := Lib.hid hsv
  have hnum : sv.1 = 0 → DaNum sv.2 ∧ chkV sv.2 room = 0 := fun h => by
    rw [hsv] at h ⊢
    exact step_num (HW.out w3 H3.out.2).1.num (HW.out w3 H3.out.2).2.num h
  obtain ⟨e, dv⟩ := sv
  simp only at hx hnum
  obtain ⟨gd, A1, c1, rfl, hgw, hg1, hg2, -⟩ := hx.box (fun h => ⟨(hnum h).1, chk_len (hnum h).1 (hnum h).2⟩)
  have H5 : Hid (PlB w5 X1 X2 A ca D cd C cc ⟨p0, p1, l⟩ ⟨k, ⟨q0, q1, m⟩, c, p, ns⟩ ∧ Below W.heap.size W w5 ∧ DaW w5 A1 gd) := Lib.hid ⟨H3.out.1.below hx.1, H3.out.2.trans (hx.1.mono H3.out.2.size), hgw⟩
  have HGD := Lib.hid (And.intro hg1 hg2)
  clear hx hgw hg1 hg2 hnum hsv H3
  obtain ⟨w6, hw6⟩ : ∃ z, z = w5.alloc (.cells #[.int .u64 gd.p0.h, .int .i64 gd.p0.i, .int .u64 gd.p1.h, .int .i64 gd.p1.i, .slice A1 gd.l.length c1] 28) := ⟨_, rfl⟩
  obtain ⟨X7, hX7⟩ : ∃ X, X = w5.heap.size := ⟨_, rfl⟩
  have H6 : Hid (PlB w6 X1 X2 A ca D cd C cc ⟨p0, p1, l⟩ ⟨k, ⟨q0, q1, m⟩, c, p, ns⟩ ∧ Below W.heap.size W w6 ∧ DaW w6 A1 gd ∧ DaX w6 X7 A1 c1 gd) := Lib.hid (by
    have hb := Kq.below_alloc w5 (.cells #[.int .u64 gd.p0.h, .int .i64 gd.p0.i, .int .u64 gd.p1.h, .int .i64 gd.p1.i, .slice A1 gd.l.length c1] 28)
    have hr := Kq.blk_new w5 #[.int .u64 gd.p0.h, .int .i64 gd.p0.i, .int .u64 gd.p1.h, .int .i64 gd.p1.i, .slice A1 gd.l.length c1] 28 (0, 0)
    rw [← hw6] at hb
    rw [← hw6, ← hX7] at hr
    exact ⟨H5.out.1.below hb, H5.out.2.1.trans (hb.mono H5.out.2.1.size), H5.out.2.2.below hb, hr⟩)
  have t0 := Kq.blk_cell H6.out.1.d 0
  have t1 := Kq.blk_cell H6.out.1.d 1
  have t2 := Kq.blk_cell H6.out.1.d 2
  have t3 := Kq.blk_cell H6.out.1.d 3
  have t4 := Kq.blk_cell H6.out.1.d 4
  simp only at t0 t1 t2 t3 t4
  obtain ⟨c0, c1, c2, c3, c4, c5, c6, c7, c8, c9⟩ := RecAt.of H6.out.1.r
  simp only at c0 c1 c2 c3 c4 c5 c6 c7 c8 c9
  rw [hw6] at t0 t1 t2 t3 t4 c0 c1 c2 c3 c4 c5 c6 c7 c8 c9
  unfold daV
  go_wp2_with fail
  rw [← hw6, ← hX7]
  clear hw6 hX7 t0 t1 t2 t3 t4 c0 c1 c2 c3 c4 c5 c6 c7 c8 c9 H5
  refine (rs_step A ca ⟨p0, p1, l⟩ room D cd C cc ⟨k, ⟨q0, q1, m⟩, c, p, ns⟩ w6 (HW.out w6 H6.out.2.1).1 (HW.out w6 H6.out.2.1).2).mono ?_
  intro x w7 hx
  rw [← HSV.out] at hx
  simp only at hx
  obtain ⟨g2, A2, c2, rfl, hat, hg1, hg2⟩ := DaQ.box hx
  obtain rfl : gd = g2 := by
    by_cases h : e = 0
    · rw [hg2 h, HGD.out.2 h]
    · rw [hg1 h, HGD.out.1 h]
  obtain ⟨w8, hw8⟩ : ∃ z, z = w7.alloc (.cells #[.int .u64 gd.p0.h, .int .i64 gd.p0.i, .int .u64 gd.p1.h, .int .i64 gd.p1.i, .slice A2 gd.l.length c2] 28) := ⟨_, rfl⟩
  obtain ⟨X9, hX9⟩ : ∃ X, X = w7.heap.size := ⟨_, rfl⟩
  have H8 : Hid (PlB w8 X1 X2 A ca D cd C cc ⟨p0, p1, l⟩ ⟨k, ⟨q0, q1, m⟩, c, p, ns⟩ ∧ Below W.heap.size W w8 ∧ DaW w8 A1 gd ∧ DaX w8 X7 A1 c1 gd ∧ EnAt NtV.ic w8 A2 gd.l ∧ DaX w8 X9 A2 c2 gd) := Lib.hid (by
    have hb := Kq.below_alloc w7 (.cells #[.int .u64 gd.p0.h, .int .i64 gd.p0.i, .int .u64 gd.p1.h, .int .i64 gd.p1.i, .slice A2 gd.l.length c2] 28)
    have hr := Kq.blk_new w7 #[.int .u64 gd.p0.h, .int .i64 gd.p0.i, .int .u64 gd.p1.h, .int .i64 gd.p1.i, .slice A2 gd.l.length c2] 28 (0, 0)
    rw [← hw8] at hb
    rw [← hw8, ← hX9] at hr
    have h7 := Kq.below_blk hx.1 H6.out.2.2.2 (Kq.blk_lt H6.out.2.2.2)
    exact ⟨(H6.out.1.below hx.1).below hb, (H6.out.2.1.trans (hx.1.mono H6.out.2.1.size)).trans (hb.mono (Nat.le_trans H6.out.2.1.size hx.1.size)), (H6.out.2.2.1.below hx.1).below hb, Kq.below_blk hb h7 (Kq.blk_lt h7), hat.below hb, hr⟩)
  clear hx hat hg1 hg2 H6
  have HCL : Hid (∀ w', Below w8.heap.size w8 w' → (w'.cell? ⟨X1, 0, none⟩ = some (.int .u64 p0.h) ∧ w'.cell? ⟨X1, 1, none⟩ = some (.int .i64 p0.i) ∧ w'.cell? ⟨X1, 2, none⟩ = some (.int .u64 p1.h) ∧ w'.cell? ⟨X1, 3, none⟩ = some (.int .i64 p1.i) ∧ w'.cell? ⟨X1, 4, none⟩ = some (.slice A l.length ca) ∧ w'.cell? ⟨X7, 0, none⟩ = some (.int .u64 gd.p0.h) ∧ w'.cell? ⟨X7, 1, none⟩ = some (.int .i64 gd.p0.i) ∧ w'.cell? ⟨X7, 2, none⟩ = some (.int .u64 gd.p1.h) ∧ w'.cell? ⟨X7, 3, none⟩ = some (.int .i64 gd.p1.i) ∧ w'.cell? ⟨X7, 4, none⟩ = some (.slice A1 gd.l.length c1) ∧ w'.cell? ⟨X9, 0, none⟩ = some (.int .u64 gd.p0.h) ∧ w'.cell? ⟨X9, 1, none⟩ = some (.int .i64 gd.p0.i) ∧ w'.cell? ⟨X9, 2, none⟩ = some (.int .u64 gd.p1.h) ∧ w'.cell? ⟨X9, 3, none⟩ = some (.int .i64 gd.p1.i) ∧ w'.cell? ⟨X9, 4, none⟩ = some (.slice A2 gd.l.length c2)) ∧ Below W.heap.size W w' ∧ DaW w' A1 gd ∧ EnAt NtV.ic w' A2 gd.l) := Lib.hid (fun w' hb => by
    have h1 := (H8.out.1.below hb).d
    have h7 := Kq.below_blk hb H8.out.2.2.2.1 (Kq.blk_lt H8.out.2.2.2.1)
    have h9 := Kq.below_blk hb H8.out.2.2.2.2.2 (Kq.blk_lt H8.out.2.2.2.2.2)
    exact ⟨⟨Kq.blk_cell h1 0, Kq.blk_cell h1 1, Kq.blk_cell h1 2, Kq.blk_cell h1 3, Kq.blk_cell h1 4, Kq.blk_cell h7 0, Kq.blk_cell h7 1, Kq.blk_cell h7 2, Kq.blk_cell h7 3, Kq.blk_cell h7 4, Kq.blk_cell h9 0, Kq.blk_cell h9 1, Kq.blk_cell h9 2, Kq.blk_cell h9 3, Kq.blk_cell h9 4⟩, H8.out.2.1.trans (hb.mono H8.out.2.1.size), H8.out.2.2.1.below hb, H8.out.2.2.2.2.1.below hb⟩)
  unfold daV
  go_wp2
  rw [← hw8, ← hX9]
  clear hw8 hX9
  refine wp_region_held_drew (S := fun w' => w'.cell? ⟨X1, 0, none⟩ = some (.int .u64 p0.h) ∧ w'.cell? ⟨X1, 1, none⟩ = some (.int .i64 p0.i) ∧ w'.cell? ⟨X1, 2, none⟩ = some (.int .u64 p1.h) ∧ w'.cell? ⟨X1, 3, none⟩ = some (.int .i64 p1.i) ∧ w'.cell? ⟨X1, 4, none⟩ = some (.slice A l.length ca) ∧ w'.cell? ⟨X7, 0, none⟩ = some (.int .u64 gd.p0.h) ∧ w'.cell? ⟨X7, 1, none⟩ = some (.int .i64 gd.p0.i) ∧ w'.cell? ⟨X7, 2, none⟩ = some (.int .u64 gd.p1.h) ∧ w'.cell? ⟨X7, 3, none⟩ = some (.int .i64 gd.p1.i) ∧ w'.cell? ⟨X7, 4, none⟩ = some (.slice A1 gd.l.length c1) ∧ w'.cell? ⟨X9, 0, none⟩ = some (.int .u64 gd.p0.h) ∧ w'.cell? ⟨X9, 1, none⟩ = some (.int .i64 gd.p0.i) ∧ w'.cell? ⟨X9, 2, none⟩ = some (.int .u64 gd.p1.h) ∧ w'.cell? ⟨X9, 3, none⟩ = some (.int .i64 gd.p1.i) ∧ w'.cell? ⟨X9, 4, none⟩ = some (.slice A2 gd.l.length c2)) (by kernel_rfl) (HCL.out _ (Below.refl _ _).drew).1 (fun hS0 => ?_)
  obtain ⟨wd, hwd⟩ : ∃ z, z = w8.drew := ⟨_, rfl⟩
  have HDW : Hid (Below w8.heap.size w8 wd) := Lib.hid (by rw [hwd]; exact (Below.refl _ _).drew)
  rw [← hwd] at hS0 ⊢
  clear hwd
  refine wpAnyH_take (i := 0) (v := ?_) rfl (by kernel_rfl) (by kernel_rfl) (by kernel_rfl) (fun _ _ _ h => h) (Or.inl ⟨by kernel_rfl, ?_⟩) (by assumption) ?_
  rotate_left
  · intro w hSw; (try dsimp only at hSw); go_simp; (try with_reducible rfl)
  refine wpAnyH_take (i := 1) (v := ?_) rfl (by kernel_rfl) (by kernel_rfl) (by kernel_rfl) (fun _ _ _ h => h) (Or.inl ⟨by kernel_rfl, ?_⟩) (by assumption) ?_
  rotate_left
  · intro w hSw; (try dsimp only at hSw); go_simp; (try with_reducible rfl)
  refine wpAnyH_ready (rs := [2]) (by kernel_rfl) (by simp) ?_
  refine AllReadyH.cons rfl (fun K hK => ?_) AllReadyH.nil
  go_simp
  refine (same_state A1 A2 c1 c2 gd wd H8.out.2.2.1.p0 H8.out.2.2.1.p1 (HCL.out wd HDW.out).2.2.1.l (HCL.out wd HDW.out).2.2.2 H8.out.2.2.1.ll).mono ?_
  rintro x w9 ⟨rfl, b9⟩
  have H9 := Lib.hid (HDW.out.trans (b9.mono HDW.out.size))
  clear b9 hS0
  refine hK.out _ _ (HCL.out _ H9.out).1 (fun hS0 => ?_)
  clear hK K
  refine wpAnyH_take (i := 3) (v := ?_) rfl (by kernel_rfl) (by kernel_rfl) (by kernel_rfl) (fun _ _ _ h => h) (Or.inl ⟨by kernel_rfl, ?_⟩) (by assumption) ?_
  rotate_left
  · intro w hSw; (try dsimp only at hSw); go_simp; (try with_reducible rfl)
  refine wpAnyH_take (i := 4) (v := ?_) rfl (by kernel_rfl) (by kernel_rfl) (by kernel_rfl) (fun _ _ _ h => h) (Or.inl ⟨by kernel_rfl, ?_⟩) (by assumption) ?_
  rotate_left
  · intro w hSw; (try dsimp only at hSw); go_simp; (try with_reducible rfl)
  refine wpAnyH_take (i := 5) (v := ?_) rfl (by kernel_rfl) (by kernel_rfl) (by kernel_rfl) (fun _ _ _ h => h) (Or.inl ⟨by kernel_rfl, ?_⟩) (by assumption) ?_
  rotate_left
  · intro w hSw; (try dsimp only at hSw); go_simp; (try with_reducible rfl)
  refine wpAnyH_take (i := 6) (v := ?_) rfl (by kernel_rfl) (by kernel_rfl) (by kernel_rfl) (fun _ _ _ h => h) (Or.inl ⟨by kernel_rfl, ?_⟩) (by assumption) ?_
  rotate_left
  · intro w hSw; (try dsimp only at hSw); go_simp; (try with_reducible rfl)
  refine wpAnyH_take (i := 7) (v := ?_) rfl (by kernel_rfl) (by kernel_rfl) (by kernel_rfl) (fun _ _ _ h => h) (Or.inl ⟨by kernel_rfl, ?_⟩) (by assumption) ?_
  rotate_left
  · intro w hSw; (try dsimp only at hSw); go_simp; (try with_reducible rfl)
  refine wpAnyH_take (i := 8) (v := ?_) rfl (by kernel_rfl) (by kernel_rfl) (by kernel_rfl) (fun _ _ _ h => h) (Or.inl ⟨by kernel_rfl, ?_⟩) (by assumption) ?_
  rotate_left
  · intro w hSw; (try dsimp only at hSw); go_simp; (try with_reducible rfl)
  refine wpAnyH_take (i := 9) (v := ?_) rfl (by kernel_rfl) (by kernel_rfl) (by kernel_rfl) (fun _ _ _ h => h) (Or.inl ⟨by kernel_rfl, ?_⟩) (by assumption) ?_
  rotate_left
  · intro w hSw; (try dsimp only at hSw); go_simp; (try with_reducible rfl)
  refine wpAnyH_take (i := 10) (v := ?_) rfl (by kernel_rfl) (by kernel_rfl) (by kernel_rfl) (fun _ _ _ h => h) (Or.inl ⟨by kernel_rfl, ?_⟩) (by assumption) ?_
  rotate_left
  · intro w hSw; (try dsimp only at hSw); go_simp; (try with_reducible rfl)
  refine wpAnyH_take (i := 12) (v := ?_) rfl (by kernel_rfl) (by kernel_rfl) (by kernel_rfl) (fun _ _ _ h => h) (Or.inl ⟨by kernel_rfl, ?_⟩) (by assumption) ?_
  rotate_left
  · intro w hSw; (try dsimp only at hSw); go_simp; (try with_reducible rfl)
  refine wpAnyH_take (i := 13) (v := ?_) rfl (by kernel_rfl) (by kernel_rfl) (by kernel_rfl) (fun _ _ _ h => h) (Or.inl ⟨by kernel_rfl, ?_⟩) (by assumption) ?_
  rotate_left
  · intro w hSw; (try dsimp only at hSw); go_simp; (try with_reducible rfl)
  refine wpAnyH_ready (rs := [11]) (by kernel_rfl) (by simp) ?_
  refine AllReadyH.cons rfl (fun K hK => ?_) AllReadyH.nil
  go_simp
  refine (rec_check A ca ⟨p0, p1, l⟩ room w9 (HW.out w9 (HCL.out _ H9.out).2.1).1).mono ?_
  rintro x w10 ⟨rfl, b10⟩
  have H10 := Lib.hid (H9.out.trans (b10.mono H9.out.size))
  clear b10 hS0
  refine hK.out _ _ (HCL.out _ H10.out).1 (fun hS0 => ?_)
  clear hK K
  refine wpAnyH_ready (rs := [14]) (by kernel_rfl) (by simp) ?_
  refine AllReadyH.cons rfl (fun K hK => ?_) AllReadyH.nil
  go_simp
  refine (rs_check A ca ⟨p0, p1, l⟩ room w10 (HW.out w10 (HCL.out _ H10.out).2.1).1).mono ?_
  rintro x w11 ⟨rfl, b11⟩
  have H11 := Lib.hid (H10.out.trans (b11.mono H10.out.size))
  clear b11 hS0
  obtain ⟨ck, hck⟩ : ∃ ck, ck = chkV ⟨p0, p1, l⟩ room := ⟨_, rfl⟩
  rw [← hck]
  clear hck
  refine hK.out _ _ (HCL.out _ H11.out).1 (fun hS0 => ?_)
  clear hK K
  refine wpAnyH_take (i := 15) (v := ?_) rfl (by kernel_rfl) (by kernel_rfl) (by kernel_rfl) (fun _ _ _ h => h) (Or.inl ⟨by kernel_rfl, ?_⟩) (by assumption) ?_
  rotate_left
  · intro w hSw; (try dsimp only at hSw); go_simp; (try with_reducible rfl)
  refine wpAnyH_take (i := 16) (v := ?_) rfl (by kernel_rfl) (by kernel_rfl) (by kernel_rfl) (fun _ _ _ h => h) (Or.inl ⟨by kernel_rfl, ?_⟩) (by assumption) ?_
  rotate_left
  · intro w hSw; (try dsimp only at hSw); go_simp; (try with_reducible rfl)
  refine wpAnyH_take (i := 17) (v := ?_) rfl (by kernel_rfl) (by kernel_rfl) (by kernel_rfl) (fun _ _ _ h => h) (Or.inl ⟨by kernel_rfl, ?_⟩) (by assumption) ?_
  rotate_left
  · intro w hSw; (try dsimp only at hSw); go_simp; (try with_reducible rfl)
  refine wpAnyH_done (by kernel_rfl) ?_ _
  clear hS0
  have H12 := Lib.hid (HCL.out _ H11.out).2.1
  go_simp
  go_wp2
  go_ret
  exact ⟨by simp, H12.out⟩
end recordSteps
theorem recordSteps_walk {W : World} (v0 : Value) (a1 : Int) (v2 : Value) (hd0 : ∃ (A : Option Addr) (ca : Nat) (d : DaV), v0 = daV d A ca ∧ DaL W A d) (w1 : (Lit.int .i64 a1).wf = true) (hd2 : ∃ (A : Option Addr) (ca : Nat) (C : Option Addr) (cc : Nat) (r : ReV), v2 = reV r A ca C cc ∧ RecL W A C r) :
    Calls Tryz.prog 3 #[v0, .int .i64 a1, v2] W fun x w' => x = .returned (.bool true) ∧ Below W.heap.size W w' := by
  obtain ⟨A, ca, d, rfl, hd⟩ := hd0
  obtain ⟨D, cd, C, cc, r, rfl, hr⟩ := hd2
  exact recordSteps.main A ca d a1 D cd C cc r W hd hr
end Go.Proofs.YtkbiolhcpghmkaaGreat
