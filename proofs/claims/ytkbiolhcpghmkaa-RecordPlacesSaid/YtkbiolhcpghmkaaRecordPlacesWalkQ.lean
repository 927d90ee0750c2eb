/- carracklaw17.RecordPlaces walked. No condition. -/
import Derived.WalkSpells
import Derived.Outline
import Derived.Deep.RegionHeld
import Derived.Deep.QuietTactic
import Derived.BigQuiet
import Derived.Test.YtkbiolhcpghmkaaRcAwakeQ
import Derived.Test.YtkbiolhcpghmkaaRcOpenQ
namespace Go.Proofs.Ytkbiolhcpghmkaa
open Go.RowKit Go.Kq
set_option linter.unusedVariables false
/-- a state's and a record's box -/
structure PlB (w : World) (X1 X2 : Nat) (A : Option Addr) (ca : Nat) (D : Option Addr) (cd : Nat) (C : Option Addr) (cc : Nat) (d : DaV) (r : ReV) : Prop where
  d : DaX w X1 A ca d
  r : RecX w X2 D cd C cc r
theorem PlB.below {w w' : World} {X1 X2 : Nat} {A : Option Addr} {ca : Nat} {D : Option Addr} {cd : Nat} {C : Option Addr} {cc : Nat} {d : DaV} {r : ReV} (h : PlB w X1 X2 A ca D cd C cc d r) (hb : Below w.heap.size w w') : PlB w' X1 X2 A ca D cd C cc d r := ⟨Kq.below_blk hb h.d (Kq.blk_lt h.d), Kq.below_blk hb h.r (Kq.blk_lt h.r)⟩
theorem PlB.new (w : World) (A : Option Addr) (ca : Nat) (D : Option Addr) (cd : Nat) (C : Option Addr) (cc : Nat) (d : DaV) (r : ReV) : PlB ((w.alloc (.cells #[.int .u64 d.p0.h, .int .i64 d.p0.i, .int .u64 d.p1.h, .int .i64 d.p1.i, .slice A d.l.length ca] 32)).alloc (.cells #[.int .i64 r.k, .int .u64 r.d.p0.h, .int .i64 r.d.p0.i, .int .u64 r.d.p1.h, .int .i64 r.d.p1.i, .slice D r.d.l.length cd, .int .i64 r.c, .int .u64 r.p.h, .int .i64 r.p.i, .slice C r.ns.length cc] 35)) w.heap.size (w.heap.size + 1) A ca D cd C cc d r ∧ Below w.heap.size w ((w.alloc (.cells #[.int .u64 d.p0.h, .int .i64 d.p0.i, .int .u64 d.p1.h, .int .i64 d.p1.i, .slice A d.l.length ca] 32)).alloc (.cells #[.int .i64 r.k, .int .u64 r.d.p0.h, .int .i64 r.d.p0.i, .int .u64 r.d.p1.h, .int .i64 r.d.p1.i, .slice D r.d.l.length cd, .int .i64 r.c, .int .u64 r.p.h, .int .i64 r.p.i, .slice C r.ns.length cc] 35)) := by
  have ha := Kq.below_alloc w (.cells #[.int .u64 d.p0.h, .int .i64 d.p0.i, .int .u64 d.p1.h, .int .i64 d.p1.i, .slice A d.l.length ca] 32)
  have hra := Kq.blk_new w #[.int .u64 d.p0.h, .int .i64 d.p0.i, .int .u64 d.p1.h, .int .i64 d.p1.i, .slice A d.l.length ca] 32 (0, 0)
  have hb := Kq.below_alloc (w.alloc (.cells #[.int .u64 d.p0.h, .int .i64 d.p0.i, .int .u64 d.p1.h, .int .i64 d.p1.i, .slice A d.l.length ca] 32)) (.cells #[.int .i64 r.k, .int .u64 r.d.p0.h, .int .i64 r.d.p0.i, .int .u64 r.d.p1.h, .int .i64 r.d.p1.i, .slice D r.d.l.length cd, .int .i64 r.c, .int .u64 r.p.h, .int .i64 r.p.i, .slice C r.ns.length cc] 35)
  have hrb := Kq.blk_new (w.alloc (.cells #[.int .u64 d.p0.h, .int .i64 d.p0.i, .int .u64 d.p1.h, .int .i64 d.p1.i, .slice A d.l.length ca] 32)) #[.int .i64 r.k, .int .u64 r.d.p0.h, .int .i64 r.d.p0.i, .int .u64 r.d.p1.h, .int .i64 r.d.p1.i, .slice D r.d.l.length cd, .int .i64 r.c, .int .u64 r.p.h, .int .i64 r.p.i, .slice C r.ns.length cc] 35 (0, 0)
  rw [World.size_alloc] at hrb
  exact ⟨⟨Kq.below_blk hb hra (Kq.blk_lt hra), hrb⟩, ha.trans (hb.mono ha.size)⟩
theorem pl_neq (p q : PlV) (w : World) : (binOp .neq 28 (.agg #[.int .u64 p.h, .int .i64 p.i]) (.agg #[.int .u64 q.h, .int .i64 q.i])).run Try.prog w = .ok (.bool (!decide (p = q))) w := by
  have h := pl_eql p q w
  rw [run_eql_struct] at h
  rw [run_neq_struct]
  revert h
  generalize (Op.equalIn 10000 28 (.agg #[.int .u64 p.h, .int .i64 p.i]) (.agg #[.int .u64 q.h, .int .i64 q.i])).run Try.prog w = r
  intro h
  cases r with
  | ok b w1 =>
    simp only [Result.andThen_ok, Result.ok.injEq, Value.bool.injEq] at h ⊢
    rw [h.1, h.2]
    exact ⟨rfl, rfl⟩
  | halt x w1 => cases h
namespace recordPlaces
set_option maxRecDepth 100000 in
set_option maxHeartbeats 4000000 in
theorem main (A : Option Addr) (ca : Nat) (d : DaV) (room : Int) (D : Option Addr) (cd : Nat) (C : Option Addr) (cc : Nat) (r : ReV) (W : World) (hd : DaL W A d) (hr : RecL W D C r) :
    Calls Try.prog 4 #[daV d A ca, .int .i64 room, reV r D cd C cc] W fun x w' => x = .returned (.bool true) ∧ Below W.heap.size W w' := by
  have H0 := Lib.hid (PlB.new W A ca D cd C cc d r)
  have HG := Lib.hid (And.intro hd hr)
  clear hd hr
  obtain ⟨w0, hw0⟩ : ∃ z, z = ((W.alloc (.cells #[.int .u64 d.p0.h, .int .i64 d.p0.i, .int .u64 d.p1.h, .int .i64 d.p1.i, .slice A d.l.length ca] 32)).alloc (.cells #[.int .i64 r.k, .int .u64 r.d.p0.h, .int .i64 r.d.p0.i, .int .u64 r.d.p1.h, .int .i64 r.d.p1.i, .slice D r.d.l.length cd, .int .i64 r.c, .int .u64 r.p.h, .int .i64 r.p.i, .slice C r.ns.length cc] 35)) := ⟨_, rfl⟩
  rw [← hw0] at H0
  obtain ⟨X2, hX2⟩ : ∃ X, X = W.heap.size + 1 := ⟨_, rfl⟩
  obtain ⟨X1, hX1⟩ : ∃ X, X = W.heap.size := ⟨_, rfl⟩
  rw [← hX2] at H0
  replace H0 : Hid (PlB w0 X1 X2 A ca D cd C cc d r ∧ Below W.heap.size W w0) := by rw [hX1]; exact H0
  obtain ⟨p0, p1, l⟩ := d
  obtain ⟨k, ⟨q0, q1, m⟩, c, p, ns⟩ := r
  simp only at hw0
  unfold daV reV
  go_enter Try.func4, Try.ntmps4
  go_wp2_with fail
  rw [← hw0, ← hX2, ← hX1]
  have HXX := Lib.hid (And.intro hX1 hX2)
  clear hw0 hX1 hX2
  refine (awake17 w0).mono ?_
  rintro x w1 ⟨rfl, b1⟩
  have H1 : Hid (PlB w1 X1 X2 A ca D cd C cc ⟨p0, p1, l⟩ ⟨k, ⟨q0, q1, m⟩, c, p, ns⟩ ∧ Below W.heap.size W w1) := Lib.hid ⟨H0.out.1.below b1, H0.out.2.trans (b1.mono H0.out.2.size)⟩
  clear b1 H0
  obtain ⟨c0, c1, c2, c3, c4, c5, c6, c7, c8, c9⟩ := RecAt.of H1.out.1.r
  simp only at c0 c1 c2 c3 c4 c5 c6 c7 c8 c9
  go_wp2_with fail
  refine (few17 D cd C cc ⟨k, ⟨q0, q1, m⟩, c, p, ns⟩ w1 (HG.out.2.d.l.below H1.out.2) (HG.out.2.ns.below H1.out.2)).mono ?_
  rintro x w2 ⟨rfl, b2⟩
  have H2 : Hid (PlB w2 X1 X2 A ca D cd C cc ⟨p0, p1, l⟩ ⟨k, ⟨q0, q1, m⟩, c, p, ns⟩ ∧ Below W.heap.size W w2) := Lib.hid ⟨H1.out.1.below b2, H1.out.2.trans (b2.mono H1.out.2.size)⟩
  clear b2 H1 c0 c1 c2 c3 c4 c5 c6 c7 c8 c9
  by_cases hf : FewR ⟨k, ⟨q0, q1, m⟩, c, p, ns⟩
  case neg =>
    rw [decide_eq_false hf]
    clear hf
    go_wp2
    go_ret
    exact ⟨rfl, H2.out.2⟩
  rw [decide_eq_true hf]
  have HF := Lib.hid hf
  clear hf
  have t0 := Kq.blk_cell H2.out.1.d 0
  have t1 := Kq.blk_cell H2.out.1.d 1
  have t2 := Kq.blk_cell H2.out.1.d 2
  have t3 := Kq.blk_cell H2.out.1.d 3
  have t4 := Kq.blk_cell H2.out.1.d 4
  simp only at t0 t1 t2 t3 t4
  go_wp2_with fail
  refine (few17 A ca none 0 ⟨0, ⟨p0, p1, l⟩, 0, PlV.z, []⟩ w2 (HG.out.1.l.below H2.out.2) (enAt_nil _ _ _)).mono ?_
  rintro x w3 ⟨rfl, b3⟩
  have H3 : Hid (PlB w3 X1 X2 A ca D cd C cc ⟨p0, p1, l⟩ ⟨k, ⟨q0, q1, m⟩, c, p, ns⟩ ∧ Below W.heap.size W w3) := Lib.hid ⟨H2.out.1.below b3, H2.out.2.trans (b3.mono H2.out.2.size)⟩
  clear b3 H2 t0 t1 t2 t3 t4
  by_cases hf : FewR ⟨0, ⟨p0, p1, l⟩, 0, PlV.z, []⟩
  case neg =>
    rw [decide_eq_false hf]
    clear hf
    go_wp2
    go_ret
    exact ⟨rfl, H3.out.2⟩
  rw [decide_eq_true hf]
  have HW : Hid (∀ w', Below W.heap.size W w' → DaW w' A ⟨p0, p1, l⟩ ∧ RecW w' D C ⟨k, ⟨q0, q1, m⟩, c, p, ns⟩) := Lib.hid (fun w' hb => ⟨⟨HG.out.1.p0, HG.out.1.p1, HG.out.1.l.below hb, HG.out.1.lw, hf.1.2⟩, (HG.out.2.few HF.out.1.2 HF.out.1.1).below hb⟩)
  clear hf
  have t0 := Kq.blk_cell H3.out.1.d 0
  have t1 := Kq.blk_cell H3.out.1.d 1
  have t2 := Kq.blk_cell H3.out.1.d 2
  have t3 := Kq.blk_cell H3.out.1.d 3
  have t4 := Kq.blk_cell H3.out.1.d 4
  simp only at t0 t1 t2 t3 t4
  go_wp2_with fail
  refine (rec_check A ca ⟨p0, p1, l⟩ room w3 (HW.out w3 H3.out.2).1).mono ?_
  rintro x w4 ⟨rfl, b4⟩
  have H4 : Hid (PlB w4 X1 X2 A ca D cd C cc ⟨p0, p1, l⟩ ⟨k, ⟨q0, q1, m⟩, c, p, ns⟩ ∧ Below W.heap.size W w4) := Lib.hid ⟨H3.out.1.below b4, H3.out.2.trans (b4.mono H3.out.2.size)⟩
  clear b4 H3 t0 t1 t2 t3 t4
  obtain ⟨e, he⟩ : ∃ e, e = chkV ⟨p0, p1, l⟩ room := ⟨_, rfl⟩
  rw [← he]
  have HE := Lib.hid he
  clear he
  by_cases e0 : e = 0
  case neg =>
    have e1 : (e != 0) = true := by rw [bne_iff_ne]; exact e0
    clear e0
    go_wp2
    go_ret
    exact ⟨rfl, H4.out.2⟩
  have HC0 : Hid (chkV ⟨p0, p1, l⟩ room = 0) := Lib.hid (by rw [← HE.out]; exact e0)
  subst e0
  clear HE
  have t0 := Kq.blk_cell H4.out.1.d 0
  have t1 := Kq.blk_cell H4.out.1.d 1
  have t2 := Kq.blk_cell H4.out.1.d 2
  have t3 := Kq.blk_cell H4.out.1.d 3
  have t4 := Kq.blk_cell H4.out.1.d 4
  simp only at t0 t1 t2 t3 t4
  obtain ⟨c0, c1, c2, c3, c4, c5, c6, c7, c8, c9⟩ := RecAt.of H4.out.1.r
  simp only at c0 c1 c2 c3 c4 c5 c6 c7 c8 c9
  go_wp2_with fail
  refine (rec_step A ca ⟨p0, p1, l⟩ room D cd C cc ⟨k, ⟨q0, q1, m⟩, c, p, ns⟩ w4 (HW.out w4 H4.out.2).1 (HW.out w4 H4.out.2).2).mono ?_
  rintro x w5 ⟨b5, hx⟩
  have H5 : Hid (PlB w5 X1 X2 A ca D cd C cc ⟨p0, p1, l⟩ ⟨k, ⟨q0, q1, m⟩, c, p, ns⟩ ∧ Below W.heap.size W w5) := Lib.hid ⟨H4.out.1.below b5, H4.out.2.trans (b5.mono H4.out.2.size)⟩
  have HSZ : Hid (∀ h : (stepV ⟨p0, p1, l⟩ room ⟨k, ⟨q0, q1, m⟩, c, p, ns⟩).1 = 0, _) := Lib.hid (fun h => And.intro (step_num (HW.out w4 H4.out.2).1.num (HW.out w4 H4.out.2).2.num h) (step_zero (HW.out w4 H4.out.2).1.num (HW.out w4 H4.out.2).2.num h))
  clear b5 H4 t0 t1 t2 t3 t4 c0 c1 c2 c3 c4 c5 c6 c7 c8 c9
  obtain ⟨sv, hsv⟩ : ∃ sv, sv = stepV ⟨p0, p1, l⟩ room ⟨k, ⟨q0, q1, m⟩, c, p, ns⟩ := ⟨_, rfl⟩
  rw [← hsv] at hx HSZ
  clear hsv
  obtain ⟨e, ⟨s0, s1, sl⟩⟩ := sv
  simp only at hx HSZ
  rcases hx with ⟨e0, rfl⟩ | ⟨e0, A', c', rfl, hat, hge⟩
  · have e1 : (e != 0) = true := by rw [bne_iff_ne]; exact e0
    clear e0 HSZ
    obtain ⟨w6, hw6⟩ : ∃ z, z = w5.alloc (.cells #[.int .u64 0, .int .i64 0, .int .u64 0, .int .i64 0, .slice none 0 0] 32) := ⟨_, rfl⟩
    obtain ⟨X7, hX7⟩ : ∃ X, X = w5.heap.size := ⟨_, rfl⟩
    have H7 : Hid (PlB w6 X1 X2 A ca D cd C cc ⟨p0, p1, l⟩ ⟨k, ⟨q0, q1, m⟩, c, p, ns⟩ ∧ Below W.heap.size W w6 ∧ w6.heap[X7]? = some (.cells #[.int .u64 0, .int .i64 0, .int .u64 0, .int .i64 0, .slice none 0 0] 32 (0, 0)) ∧ Below w5.heap.size w5 w6) := Lib.hid (by
      have hb := Kq.below_alloc w5 (.cells #[.int .u64 0, .int .i64 0, .int .u64 0, .int .i64 0, .slice none 0 0] 32)
      have hr := Kq.blk_new w5 #[.int .u64 0, .int .i64 0, .int .u64 0, .int .i64 0, .slice none 0 0] 32 (0, 0)
      rw [← hw6, ← hX7] at hr
      rw [← hw6] at hb
      exact ⟨H5.out.1.below hb, H5.out.2.trans (hb.mono H5.out.2.size), hr, hb⟩)
    have x0 := Kq.blk_cell H7.out.2.2.1 0
    have x1 := Kq.blk_cell H7.out.2.2.1 1
    have x2 := Kq.blk_cell H7.out.2.2.1 2
    have x3 := Kq.blk_cell H7.out.2.2.1 3
    have x4 := Kq.blk_cell H7.out.2.2.1 4
    rw [hw6, hX7] at x0 x1 x2 x3 x4
    unfold daZ
    go_wp2_with fail
    rw [← hw6]
    clear x0 x1 x2 x3 x4 hw6 hX7 H5
    refine (same_state none none 0 0 ⟨PlV.z, PlV.z, []⟩ w6 plz_wf plz_wf (enAt_nil _ _ _) (enAt_nil _ _ _) (by decide)).mono ?_
    rintro x w8 ⟨rfl, b8⟩
    have H8 := Lib.hid (H7.out.2.1.trans (b8.mono H7.out.2.1.size))
    clear b8
    go_wp2
    go_ret
    exact ⟨rfl, H8.out⟩
  · subst e0
    obtain ⟨⟨hn, hck⟩, hz⟩ := HSZ.out rfl
    have HN := Lib.hid (And.intro hn (And.intro hck hz))
    have HAT := Lib.hid hat
    clear hn hck hz HSZ hat hge
    obtain ⟨w6, hw6⟩ : ∃ z, z = w5.alloc (.cells #[.int .u64 s0.h, .int .i64 s0.i, .int .u64 s1.h, .int .i64 s1.i, .slice A' sl.length c'] 32) := ⟨_, rfl⟩
    obtain ⟨X7, hX7⟩ : ∃ X, X = w5.heap.size := ⟨_, rfl⟩
    have H7 : Hid (PlB w6 X1 X2 A ca D cd C cc ⟨p0, p1, l⟩ ⟨k, ⟨q0, q1, m⟩, c, p, ns⟩ ∧ Below W.heap.size W w6 ∧ w6.heap[X7]? = some (.cells #[.int .u64 s0.h, .int .i64 s0.i, .int .u64 s1.h, .int .i64 s1.i, .slice A' sl.length c'] 32 (0, 0)) ∧ Below w5.heap.size w5 w6) := Lib.hid (by
      have hb := Kq.below_alloc w5 (.cells #[.int .u64 s0.h, .int .i64 s0.i, .int .u64 s1.h, .int .i64 s1.i, .slice A' sl.length c'] 32)
      have hr := Kq.blk_new w5 #[.int .u64 s0.h, .int .i64 s0.i, .int .u64 s1.h, .int .i64 s1.i, .slice A' sl.length c'] 32 (0, 0)
      rw [← hw6, ← hX7] at hr
      rw [← hw6] at hb
      exact ⟨H5.out.1.below hb, H5.out.2.trans (hb.mono H5.out.2.size), hr, hb⟩)
    have x0 := Kq.blk_cell H7.out.2.2.1 0
    have x1 := Kq.blk_cell H7.out.2.2.1 1
    have x2 := Kq.blk_cell H7.out.2.2.1 2
    have x3 := Kq.blk_cell H7.out.2.2.1 3
    have x4 := Kq.blk_cell H7.out.2.2.1 4
    rw [hw6, hX7] at x0 x1 x2 x3 x4
    unfold daV
    simp only
    go_wp2_with fail
    rw [← hw6, ← hX7]
    clear x0 x1 x2 x3 x4 hw6
    have HL40 : Hid (sl.length ≤ 40) := Lib.hid (by
      have h3 := (chk_tb HN.out.1 HN.out.2.1).2
      exact Nat.le_trans h3.len h3.r40)
    refine (rec_check A' c' ⟨s0, s1, sl⟩ room w6 ⟨HN.out.1.p0, HN.out.1.p1, HAT.out.below H7.out.2.2.2, HN.out.1.lw, Nat.le_trans HL40.out (by decide)⟩).mono ?_
    rintro x w8 ⟨rfl, b8⟩
    rw [HN.out.2.1]
    have H8 : Hid (PlB w8 X1 X2 A ca D cd C cc ⟨p0, p1, l⟩ ⟨k, ⟨q0, q1, m⟩, c, p, ns⟩ ∧ Below W.heap.size W w8 ∧ w8.heap[X7]? = some (.cells #[.int .u64 s0.h, .int .i64 s0.i, .int .u64 s1.h, .int .i64 s1.i, .slice A' sl.length c'] 32 (0, 0)) ∧ EnAt NtV.ic w8 A' sl) := Lib.hid ⟨H7.out.1.below b8, H7.out.2.1.trans (b8.mono H7.out.2.1.size), Kq.below_blk b8 H7.out.2.2.1 (Kq.blk_lt H7.out.2.2.1), (HAT.out.below H7.out.2.2.2).below b8⟩
    clear b8 H7 H5 HAT hX7
    have x0 := Kq.blk_cell H8.out.2.2.1 0
    have x1 := Kq.blk_cell H8.out.2.2.1 1
    have x2 := Kq.blk_cell H8.out.2.2.1 2
    have x3 := Kq.blk_cell H8.out.2.2.1 3
    have x4 := Kq.blk_cell H8.out.2.2.1 4
    have t0 := Kq.blk_cell H8.out.1.d 0
    have t1 := Kq.blk_cell H8.out.1.d 1
    have t2 := Kq.blk_cell H8.out.1.d 2
    have t3 := Kq.blk_cell H8.out.1.d 3
    have t4 := Kq.blk_cell H8.out.1.d 4
    simp only at t0 t1 t2 t3 t4
    obtain ⟨c0, c1, c2, c3, c4, c5, c6, c7, c8, c9⟩ := RecAt.of H8.out.1.r
    simp only at c0 c1 c2 c3 c4 c5 c6 c7 c8 c9
    rcases HN.out.2.2.2.2 with ⟨hk, hd2, hck⟩ | ⟨hk, hc01, hd2, hsc⟩
    · have hk' : k = 1 := hk
      have hd3 : (⟨s0, s1, sl⟩ : DaV) = ⟨q0, q1, m⟩ := hd2
      injection hd3 with g0 g1 g2
      subst hk' g0 g1 g2
      clear hd2 hck hk
      go_wp2_with fail
      refine (same_state A' D c' cd ⟨s0, s1, sl⟩ w8 HN.out.1.p0 HN.out.1.p1 H8.out.2.2.2 (HW.out w8 H8.out.2.1).2.l (Nat.le_trans HL40.out (by decide))).mono ?_
      rintro x w9 ⟨rfl, b9⟩
      have H9 := Lib.hid (H8.out.2.1.trans (b9.mono H8.out.2.1.size))
      clear b9 x0 x1 x2 x3 x4 t0 t1 t2 t3 t4 c0 c1 c2 c3 c4 c5 c6 c7 c8 c9
      go_wp2
      go_ret
      exact ⟨rfl, H9.out⟩
    · have hk' : k = 2 := hk
      subst hk'
      have HSC := Lib.hid hd2
      clear hk hd2 hsc
      have hc01' : c = 0 ∨ c = 1 := hc01
      clear hc01
      rcases hc01' with hcz | hcz
      · subst hcz
        have hd3 : p = s0 ∧ p1 = s1 ∧ sl = (scV ⟨room.toNat, l⟩ ns).1.l := by
          have h := HSC.out
          have h' : (⟨s0, s1, sl⟩ : DaV) = ⟨p, p1, (scV ⟨room.toNat, l⟩ ns).1.l⟩ := h
          injection h' with g0 g1 g2
          exact ⟨g0.symm, g1.symm, g2⟩
        obtain ⟨g0, g1, g2⟩ := hd3
        have HG2 := Lib.hid g2
        subst g0 g1
        clear g2 HSC
        have nq1 := fun wx => pl_neq p p wx
        have nq2 := fun wx => pl_neq p1 p1 wx
        rw [decide_eq_true rfl] at nq1 nq2
        go_wp2
        go_quiet (fail)
        generalize hwq : w8.drewN nq = wq
        have hbq : Below w8.heap.size w8 wq := by rw [← hwq]; exact below_drewN (Below.refl _ _) nq
        have H9 : Hid (PlB wq X1 X2 A ca D cd C cc ⟨p0, p1, l⟩ ⟨2, ⟨q0, q1, m⟩, 0, p, ns⟩ ∧ Below W.heap.size W wq ∧ wq.heap[X7]? = some (.cells #[.int .u64 p.h, .int .i64 p.i, .int .u64 p1.h, .int .i64 p1.i, .slice A' sl.length c'] 32 (0, 0)) ∧ EnAt NtV.ic wq A' sl) := Lib.hid ⟨H8.out.1.below hbq, H8.out.2.1.trans (hbq.mono H8.out.2.1.size), Kq.below_blk hbq H8.out.2.2.1 (Kq.blk_lt H8.out.2.2.1), H8.out.2.2.2.below hbq⟩
        clear hwq hbq nq1 nq2 x0 x1 x2 x3 x4 t0 t1 t2 t3 t4 c0 c1 c2 c3 c4 c5 c6 c7 c8 c9 H8
        have x0 := Kq.blk_cell H9.out.2.2.1 0
        have x1 := Kq.blk_cell H9.out.2.2.1 1
        have x2 := Kq.blk_cell H9.out.2.2.1 2
        have x3 := Kq.blk_cell H9.out.2.2.1 3
        have x4 := Kq.blk_cell H9.out.2.2.1 4
        have t4 := Kq.blk_cell H9.out.1.d 4
        have c9 := (RecAt.of H9.out.1.r).2.2.2.2.2.2.2.2.2
        simp only at t4 c9
        by_cases hns : ns = []
        · subst hns
          have hsl : sl = l := HG2.out
          subst hsl
          clear HG2
          simp only [List.length_nil] at c9 ⊢
          go_wp2_with fail
          refine (same_state A' A c' ca ⟨p, p1, sl⟩ wq HN.out.1.p0 HN.out.1.p1 H9.out.2.2.2 (HW.out wq H9.out.2.1).1.l (Nat.le_trans HL40.out (by decide))).mono ?_
          rintro x w9 ⟨rfl, b9⟩
          have H10 := Lib.hid (H9.out.2.1.trans (b9.mono H9.out.2.1.size))
          clear b9 x0 x1 x2 x3 x4 t4 c9
          go_wp2
          go_ret
          exact ⟨rfl, H10.out⟩
        · have hp : 0 < ns.length := List.length_pos_iff.2 hns
          have e1 : decide ((0 : Int) < (ns.length : Int)) = true := decide_eq_true (by omega)
          have e2 : decide (0 < ns.length) = true := decide_eq_true hp
          clear hns hp
          go_wp2
          go_ret
          exact ⟨rfl, H9.out.2.1⟩
      · subst hcz
        have hd3 : p0 = s0 ∧ p = s1 ∧ sl = (scV ⟨room.toNat, l⟩ ns).1.l := by
          have h := HSC.out
          have h' : (⟨s0, s1, sl⟩ : DaV) = ⟨p0, p, (scV ⟨room.toNat, l⟩ ns).1.l⟩ := h
          injection h' with g0 g1 g2
          exact ⟨g0.symm, g1.symm, g2⟩
        obtain ⟨g0, g1, g2⟩ := hd3
        have HG2 := Lib.hid g2
        subst g0 g1
        clear g2 HSC
        have nq1 := fun wx => pl_neq p p wx
        have nq2 := fun wx => pl_neq p0 p0 wx
        rw [decide_eq_true rfl] at nq1 nq2
        go_wp2
        go_quiet (fail)
        generalize hwq : w8.drewN nq = wq
        have hbq : Below w8.heap.size w8 wq := by rw [← hwq]; exact below_drewN (Below.refl _ _) nq
        have H9 : Hid (PlB wq X1 X2 A ca D cd C cc ⟨p0, p1, l⟩ ⟨2, ⟨q0, q1, m⟩, 1, p, ns⟩ ∧ Below W.heap.size W wq ∧ wq.heap[X7]? = some (.cells #[.int .u64 p0.h, .int .i64 p0.i, .int .u64 p.h, .int .i64 p.i, .slice A' sl.length c'] 32 (0, 0)) ∧ EnAt NtV.ic wq A' sl) := Lib.hid ⟨H8.out.1.below hbq, H8.out.2.1.trans (hbq.mono H8.out.2.1.size), Kq.below_blk hbq H8.out.2.2.1 (Kq.blk_lt H8.out.2.2.1), H8.out.2.2.2.below hbq⟩
        clear hwq hbq nq1 nq2 x0 x1 x2 x3 x4 t0 t1 t2 t3 t4 c0 c1 c2 c3 c4 c5 c6 c7 c8 c9 H8
        have x0 := Kq.blk_cell H9.out.2.2.1 0
        have x1 := Kq.blk_cell H9.out.2.2.1 1
        have x2 := Kq.blk_cell H9.out.2.2.1 2
        have x3 := Kq.blk_cell H9.out.2.2.1 3
        have x4 := Kq.blk_cell H9.out.2.2.1 4
        have t4 := Kq.blk_cell H9.out.1.d 4
        have c9 := (RecAt.of H9.out.1.r).2.2.2.2.2.2.2.2.2
        simp only at t4 c9
        by_cases hns : ns = []
        · subst hns
          have hsl : sl = l := HG2.out
          subst hsl
          clear HG2
          simp only [List.length_nil] at c9 ⊢
          go_wp2_with fail
          refine (same_state A' A c' ca ⟨p0, p, sl⟩ wq HN.out.1.p0 HN.out.1.p1 H9.out.2.2.2 (HW.out wq H9.out.2.1).1.l (Nat.le_trans HL40.out (by decide))).mono ?_
          rintro x w9 ⟨rfl, b9⟩
          have H10 := Lib.hid (H9.out.2.1.trans (b9.mono H9.out.2.1.size))
          clear b9 x0 x1 x2 x3 x4 t4 c9
          go_wp2
          go_ret
          exact ⟨rfl, H10.out⟩
        · have hp : 0 < ns.length := List.length_pos_iff.2 hns
          have e1 : decide ((0 : Int) < (ns.length : Int)) = true := decide_eq_true (by omega)
          have e2 : decide (0 < ns.length) = true := decide_eq_true hp
          clear hns hp
          go_wp2
          go_ret
          exact ⟨rfl, H9.out.2.1⟩
end recordPlaces
theorem recordPlaces_walk {W : World} (v0 : Value) (a1 : Int) (v2 : Value) (hd0 : ∃ (A : Option Addr) (ca : Nat) (d : DaV), v0 = daV d A ca ∧ DaL W A d) (w1 : (Lit.int .i64 a1).wf = true) (hd2 : ∃ (A : Option Addr) (ca : Nat) (C : Option Addr) (cc : Nat) (r : ReV), v2 = reV r A ca C cc ∧ RecL W A C r) :
    Calls Try.prog 4 #[v0, .int .i64 a1, v2] W fun x w' => x = .returned (.bool true) ∧ Below W.heap.size W w' := by
  obtain ⟨A, ca, d, rfl, hd⟩ := hd0
  obtain ⟨D, cd, C, cc, r, rfl, hr⟩ := hd2
  exact recordPlaces.main A ca d a1 D cd C cc r W hd hr
end Go.Proofs.Ytkbiolhcpghmkaa
