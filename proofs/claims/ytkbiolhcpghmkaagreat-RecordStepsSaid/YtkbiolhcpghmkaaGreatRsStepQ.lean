/- Contract of the document's Step. Condition: a state, a record of the arguments. -/
import Derived.WalkSpells
import Derived.Outline
import Derived.Deep.RegionHeld
import Derived.Test.YtkbiolhcpghmkaaGreatRcPlBQ
import Derived.Test.YtkbiolhcpghmkaaGreatRsBytesQ
import Derived.Test.YtkbiolhcpghmkaaGreatRsOneQ
import Derived.Test.YtkbiolhcpghmkaaGreatRwMQ
namespace Go.Proofs.YtkbiolhcpghmkaaGreat
open Go.RowKit Go.Kq
set_option linter.unusedVariables false
/-- what the document's Step tells -/
def DaQ (w : World) (e : Int) (d : DaV) (x : Ending) (w' : World) : Prop := Below w.heap.size w w' ∧ ((e ≠ 0 ∧ x = .returned (.tuple #[daZ, .int .i64 e])) ∨ (e = 0 ∧ ∃ A' c', x = .returned (.tuple #[daV d A' c', .int .i64 0]) ∧ EnAt NtV.ic w' A' d.l))
set_option maxRecDepth 100000 in
set_option maxHeartbeats 4000000 in
theorem rs_step (A : Option Addr) (ca : Nat) (d : DaV) (room : Int) (D : Option Addr) (cd : Nat) (C : Option Addr) (cc : Nat) (r : ReV) (w : World) (hd : DaW w A d) (hr : RecW w D C r) :
    Calls Tryz.prog 7 #[.agg #[.int .u64 d.p0.h, .int .i64 d.p0.i, .int .u64 d.p1.h, .int .i64 d.p1.i, .slice A d.l.length ca], .int .i64 room, .agg #[.int .i64 r.k, .int .u64 r.d.p0.h, .int .i64 r.d.p0.i, .int .u64 r.d.p1.h, .int .i64 r.d.p1.i, .slice D r.d.l.length cd, .int .i64 r.c, .int .u64 r.p.h, .int .i64 r.p.i, .slice C r.ns.length cc]] w (DaQ w (stepV d room r).1 (stepV d room r).2) := by
  obtain ⟨X1, hX1⟩ : ∃ X, X = w.heap.size := ⟨_, rfl⟩
  obtain ⟨X2, hX2⟩ : ∃ X, X = w.heap.size + 1 := ⟨_, rfl⟩
  obtain ⟨R, hR⟩ : ∃ X, X = w.heap.size + 1 + 1 := ⟨_, rfl⟩
  obtain ⟨w1, hw1⟩ : ∃ z, z = ((w.alloc (.cells #[.int .u64 d.p0.h, .int .i64 d.p0.i, .int .u64 d.p1.h, .int .i64 d.p1.i, .slice A d.l.length ca] 28)).alloc (.cells #[.int .i64 r.k, .int .u64 r.d.p0.h, .int .i64 r.d.p0.i, .int .u64 r.d.p1.h, .int .i64 r.d.p1.i, .slice D r.d.l.length cd, .int .i64 r.c, .int .u64 r.p.h, .int .i64 r.p.i, .slice C r.ns.length cc] 31)).alloc (.cells #[.int .u64 0, .int .i64 0, .int .u64 0, .int .i64 0, .slice none 0 0] 28) := ⟨_, rfl⟩
  have H1 : Hid (Below w.heap.size w w1 ∧ StB w1 X1 X2 R A ca D cd C cc d r) := Lib.hid (by
    have ha := Kq.below_alloc w (.cells #[.int .u64 d.p0.h, .int .i64 d.p0.i, .int .u64 d.p1.h, .int .i64 d.p1.i, .slice A d.l.length ca] 28)
    have hra := Kq.blk_new w #[.int .u64 d.p0.h, .int .i64 d.p0.i, .int .u64 d.p1.h, .int .i64 d.p1.i, .slice A d.l.length ca] 28 (0, 0)
    rw [← hX1] at hra
    have hb := Kq.below_alloc (w.alloc (.cells #[.int .u64 d.p0.h, .int .i64 d.p0.i, .int .u64 d.p1.h, .int .i64 d.p1.i, .slice A d.l.length ca] 28)) (.cells #[.int .i64 r.k, .int .u64 r.d.p0.h, .int .i64 r.d.p0.i, .int .u64 r.d.p1.h, .int .i64 r.d.p1.i, .slice D r.d.l.length cd, .int .i64 r.c, .int .u64 r.p.h, .int .i64 r.p.i, .slice C r.ns.length cc] 31)
    have hrb := Kq.blk_new (w.alloc (.cells #[.int .u64 d.p0.h, .int .i64 d.p0.i, .int .u64 d.p1.h, .int .i64 d.p1.i, .slice A d.l.length ca] 28)) #[.int .i64 r.k, .int .u64 r.d.p0.h, .int .i64 r.d.p0.i, .int .u64 r.d.p1.h, .int .i64 r.d.p1.i, .slice D r.d.l.length cd, .int .i64 r.c, .int .u64 r.p.h, .int .i64 r.p.i, .slice C r.ns.length cc] 31 (0, 0)
    rw [World.size_alloc, ← hX2] at hrb
    obtain ⟨wb, hwb⟩ : ∃ z, z = (w.alloc (.cells #[.int .u64 d.p0.h, .int .i64 d.p0.i, .int .u64 d.p1.h, .int .i64 d.p1.i, .slice A d.l.length ca] 28)).alloc (.cells #[.int .i64 r.k, .int .u64 r.d.p0.h, .int .i64 r.d.p0.i, .int .u64 r.d.p1.h, .int .i64 r.d.p1.i, .slice D r.d.l.length cd, .int .i64 r.c, .int .u64 r.p.h, .int .i64 r.p.i, .slice C r.ns.length cc] 31) := ⟨_, rfl⟩
    have hsz : wb.heap.size = w.heap.size + 1 + 1 := by rw [hwb]; simp
    rw [← hwb] at hb hrb hw1
    have hc := Kq.below_alloc wb (.cells #[.int .u64 0, .int .i64 0, .int .u64 0, .int .i64 0, .slice none 0 0] 28)
    have hrc := Kq.blk_new wb #[.int .u64 0, .int .i64 0, .int .u64 0, .int .i64 0, .slice none 0 0] 28 (0, 0)
    rw [hsz, ← hR] at hrc
    rw [← hw1] at hc hrc
    have hab := Kq.below_blk hb hra (Kq.blk_lt hra)
    exact ⟨(ha.trans (hb.mono ha.size)).trans (hc.mono (by rw [hsz]; omega)), Kq.below_blk hc hab (Kq.blk_lt hab), Kq.below_blk hc hrb (Kq.blk_lt hrb), hrc⟩)
  have HX : Hid (w.heap.size = X1 ∧ X2 = X1 + 1 ∧ R = X1 + 2) := Lib.hid (by omega)
  have HD := Lib.hid (And.intro hd hr)
  clear hd hr
  obtain ⟨p0, p1, l⟩ := d
  obtain ⟨k, ⟨q0, q1, m⟩, c, p, ns⟩ := r
  go_enter Tryz.func7, Tryz.ntmps7
  go_wp2_with fail
  rw [← hR, ← hX2, ← hX1, ← hw1]
  clear hw1 hR hX2 hX1
  refine (rs_check A ca ⟨p0, p1, l⟩ room w1 (HD.out.1.below H1.out.1)).mono ?_
  rintro x w2 ⟨rfl, b2⟩
  have H2 : Hid (Below w.heap.size w w2 ∧ StB w2 X1 X2 R A ca D cd C cc ⟨p0, p1, l⟩ ⟨k, ⟨q0, q1, m⟩, c, p, ns⟩) := Lib.hid ⟨H1.out.1.trans (b2.mono H1.out.1.size), H1.out.2.below b2⟩
  obtain ⟨e, he⟩ : ∃ e, e = chkV ⟨p0, p1, l⟩ room := ⟨_, rfl⟩
  rw [← he]
  have HEV := Lib.hid he
  clear b2 H1 he
  have z0 := Kq.blk_cell H2.out.2.z 0
  have z1 := Kq.blk_cell H2.out.2.z 1
  have z2 := Kq.blk_cell H2.out.2.z 2
  have z3 := Kq.blk_cell H2.out.2.z 3
  have z4 := Kq.blk_cell H2.out.2.z 4
  have f0 := Kq.blk_free H2.out.2.z 0
  have f1 := Kq.blk_free H2.out.2.z 1
  have f2 := Kq.blk_free H2.out.2.z 2
  have f3 := Kq.blk_free H2.out.2.z 3
  have f4 := Kq.blk_free H2.out.2.z 4
  by_cases e0 : e = 0
  case neg =>
    have e1 : (e != 0) = true := by rw [bne_iff_ne]; exact e0
    have HE0 : Hid (stepV ⟨p0, p1, l⟩ room ⟨k, ⟨q0, q1, m⟩, c, p, ns⟩ = (e, ⟨p0, p1, l⟩) ∧ e ≠ 0) := Lib.hid ⟨by unfold stepV; rw [← HEV.out, if_pos e0], e0⟩
    clear e0
    go_wp2
    clear z0 z1 z2 z3 z4 f0 f1 f2 f3 f4
    change bodyPost _ _ _ _ _ (fillD w2 R 0 0 0 0 (.slice none 0 0))
    have p1' := fillD_blk H2.out.2.z 0 0 0 0 (.slice none 0 0)
    have p2' := fillD_keeps w2 R 0 0 0 0 (.slice none 0 0)
    generalize fillD w2 R 0 0 0 0 (.slice none 0 0) = z at *
    have z0 := Kq.blk_cell p1' 0
    have z1 := Kq.blk_cell p1' 1
    have z2 := Kq.blk_cell p1' 2
    have z3 := Kq.blk_cell p1' 3
    have z4 := Kq.blk_cell p1' 4
    refine bodyPost_ret (v := .tuple #[daZ, .int .i64 e]) (by simp [results, Tryz.results7, go_sem, z0, z1, z2, z3, z4, daZ]) rfl ?_
    rw [HE0.out.1]
    exact ⟨H2.out.1.trans (p2'.below H2.out.1.size (fun k _ h => by have h2 : k = R := h; have := HX.out; omega)), Or.inl ⟨HE0.out.2, rfl⟩⟩
  have HCH : Hid (chkV ⟨p0, p1, l⟩ room = 0) := Lib.hid (by rw [← HEV.out]; exact e0)
  subst e0
  clear z0 z1 z2 z3 z4 f0 f1 f2 f3 f4 HEV
  obtain ⟨c0, c1, c2, c3, c4, c5, c6, c7, c8, c9⟩ := RecAt.of H2.out.2.r
  simp only at c0 c1 c2 c3 c4 c5 c6 c7 c8 c9
  go_wp2_with fail
  refine (rs_bytes D cd C cc ⟨k, ⟨q0, q1, m⟩, c, p, ns⟩ w2 (HD.out.2.below H2.out.1)).mono ?_
  rintro x w3 ⟨⟨tt, rfl⟩, b3⟩
  have H3 : Hid (Below w.heap.size w w3 ∧ StB w3 X1 X2 R A ca D cd C cc ⟨p0, p1, l⟩ ⟨k, ⟨q0, q1, m⟩, c, p, ns⟩) := Lib.hid ⟨H2.out.1.trans (b3.mono H2.out.1.size), H2.out.2.below b3⟩
  obtain ⟨e', he'⟩ : ∃ e', e' = recE ⟨k, ⟨q0, q1, m⟩, c, p, ns⟩ := ⟨_, rfl⟩
  rw [← he']
  have HEV' := Lib.hid he'
  clear b3 H2 he' c0 c1 c2 c3 c4 c5 c6 c7 c8 c9
  have z0 := Kq.blk_cell H3.out.2.z 0
  have z1 := Kq.blk_cell H3.out.2.z 1
  have z2 := Kq.blk_cell H3.out.2.z 2
  have z3 := Kq.blk_cell H3.out.2.z 3
  have z4 := Kq.blk_cell H3.out.2.z 4
  have f0 := Kq.blk_free H3.out.2.z 0
  have f1 := Kq.blk_free H3.out.2.z 1
  have f2 := Kq.blk_free H3.out.2.z 2
  have f3 := Kq.blk_free H3.out.2.z 3
  have f4 := Kq.blk_free H3.out.2.z 4
  by_cases e0 : e' = 0
  case neg =>
    have e2 : (e' != 0) = true := by rw [bne_iff_ne]; exact e0
    have HE0 : Hid (stepV ⟨p0, p1, l⟩ room ⟨k, ⟨q0, q1, m⟩, c, p, ns⟩ = (1, ⟨p0, p1, l⟩)) := Lib.hid (by
      have h1 : recE ⟨k, ⟨q0, q1, m⟩, c, p, ns⟩ = 1 := by
        by_cases g : RecOk ⟨k, ⟨q0, q1, m⟩, c, p, ns⟩
        · exact absurd (HEV'.out.trans (if_pos g)) e0
        · exact if_neg g
      unfold stepV
      rw [HCH.out, if_neg (by simp), h1, if_pos (by decide)])
    clear e0
    go_wp2
    clear z0 z1 z2 z3 z4 f0 f1 f2 f3 f4
    change bodyPost _ _ _ _ _ (fillD w3 R 0 0 0 0 (.slice none 0 0))
    have p1' := fillD_blk H3.out.2.z 0 0 0 0 (.slice none 0 0)
    have p2' := fillD_keeps w3 R 0 0 0 0 (.slice none 0 0)
    generalize fillD w3 R 0 0 0 0 (.slice none 0 0) = z at *
    have z0 := Kq.blk_cell p1' 0
    have z1 := Kq.blk_cell p1' 1
    have z2 := Kq.blk_cell p1' 2
    have z3 := Kq.blk_cell p1' 3
    have z4 := Kq.blk_cell p1' 4
    refine bodyPost_ret (v := .tuple #[daZ, .int .i64 1]) (by simp [results, Tryz.results7, go_sem, z0, z1, z2, z3, z4, daZ]) rfl ?_
    rw [HE0.out]
    exact ⟨H3.out.1.trans (p2'.below H3.out.1.size (fun k _ h => by have h2 : k = R := h; have := HX.out; omega)), Or.inl ⟨show ¬ ((1 : Int) = 0) by decide, rfl⟩⟩
  have HBY : Hid (recE ⟨k, ⟨q0, q1, m⟩, c, p, ns⟩ = 0 ∧ RecOk ⟨k, ⟨q0, q1, m⟩, c, p, ns⟩) := Lib.hid (by
    have h : recE ⟨k, ⟨q0, q1, m⟩, c, p, ns⟩ = 0 := by rw [← HEV'.out]; exact e0
    refine ⟨h, ?_⟩
    unfold recE at h
    by_cases g : RecOk ⟨k, ⟨q0, q1, m⟩, c, p, ns⟩
    · exact g
    · rw [if_neg g] at h; cases h)
  subst e0
  clear HEV' z0 z1 z2 z3 z4 f0 f1 f2 f3 f4
  obtain ⟨c0, c1, c2, c3, c4, c5, c6, c7, c8, c9⟩ := RecAt.of H3.out.2.r
  simp only at c0 c1 c2 c3 c4 c5 c6 c7 c8 c9
  by_cases hk : k = 1
  · have hk1 : (k == 1) = true := by rw [hk]; rfl
    have HST : Hid (stepV ⟨p0, p1, l⟩ room ⟨k, ⟨q0, q1, m⟩, c, p, ns⟩ = (chkV ⟨q0, q1, m⟩ room, ⟨q0, q1, m⟩)) := Lib.hid (by unfold stepV; rw [HCH.out, if_neg (by simp), HBY.out.1, if_neg (by simp), if_pos hk])
    clear hk
    go_wp2_with fail
    clear c0 c1 c2 c3 c4 c5 c6 c7 c8 c9
    refine (rs_check D cd ⟨q0, q1, m⟩ room w3 ⟨HD.out.2.p0, HD.out.2.p1, HD.out.2.l.below H3.out.1, HD.out.2.lw, HD.out.2.ll⟩).mono ?_
    rintro x w4 ⟨rfl, b4⟩
    have H4 : Hid (Below w.heap.size w w4 ∧ StB w4 X1 X2 R A ca D cd C cc ⟨p0, p1, l⟩ ⟨k, ⟨q0, q1, m⟩, c, p, ns⟩) := Lib.hid ⟨H3.out.1.trans (b4.mono H3.out.1.size), H3.out.2.below b4⟩
    clear b4
    obtain ⟨g, hg⟩ : ∃ g, g = chkV ⟨q0, q1, m⟩ room := ⟨_, rfl⟩
    rw [← hg]
    have HG := Lib.hid hg
    clear hg
    have z0 := Kq.blk_cell H4.out.2.z 0
    have z1 := Kq.blk_cell H4.out.2.z 1
    have z2 := Kq.blk_cell H4.out.2.z 2
    have z3 := Kq.blk_cell H4.out.2.z 3
    have z4 := Kq.blk_cell H4.out.2.z 4
    have f0 := Kq.blk_free H4.out.2.z 0
    have f1 := Kq.blk_free H4.out.2.z 1
    have f2 := Kq.blk_free H4.out.2.z 2
    have f3 := Kq.blk_free H4.out.2.z 3
    have f4 := Kq.blk_free H4.out.2.z 4
    by_cases g0 : g = 0
    case neg =>
      have e1 : (g != 0) = true := by rw [bne_iff_ne]; exact g0
      have HG0 := Lib.hid g0
      clear g0
      go_wp2
      clear z0 z1 z2 z3 z4 f0 f1 f2 f3 f4
      change bodyPost _ _ _ _ _ (fillD w4 R 0 0 0 0 (.slice none 0 0))
      have p1' := fillD_blk H4.out.2.z 0 0 0 0 (.slice none 0 0)
      have p2' := fillD_keeps w4 R 0 0 0 0 (.slice none 0 0)
      generalize fillD w4 R 0 0 0 0 (.slice none 0 0) = z at *
      have z0 := Kq.blk_cell p1' 0
      have z1 := Kq.blk_cell p1' 1
      have z2 := Kq.blk_cell p1' 2
      have z3 := Kq.blk_cell p1' 3
      have z4 := Kq.blk_cell p1' 4
      refine bodyPost_ret (v := .tuple #[daZ, .int .i64 g]) (by simp [results, Tryz.results7, go_sem, z0, z1, z2, z3, z4, daZ]) rfl ?_
      rw [HST.out, ← HG.out]
      exact ⟨H4.out.1.trans (p2'.below H4.out.1.size (fun k _ h => by have h2 : k = R := h; have := HX.out; omega)), Or.inl ⟨HG0.out, rfl⟩⟩
    have HG0 : Hid (chkV ⟨q0, q1, m⟩ room = 0) := Lib.hid (by rw [← HG.out]; exact g0)
    subst g0
    clear HG
    obtain ⟨c0, c1, c2, c3, c4, c5, c6, c7, c8, c9⟩ := RecAt.of H4.out.2.r
    simp only at c0 c1 c2 c3 c4 c5 c6 c7 c8 c9
    go_wp2
    clear z0 z1 z2 z3 z4 f0 f1 f2 f3 f4 c0 c1 c2 c3 c4 c5 c6 c7 c8 c9
    change bodyPost _ _ _ _ _ (fillD w4 R q0.h q0.i q1.h q1.i (.slice D m.length cd))
    have p1' := fillD_blk H4.out.2.z q0.h q0.i q1.h q1.i (.slice D m.length cd)
    have p2' := fillD_keeps w4 R q0.h q0.i q1.h q1.i (.slice D m.length cd)
    generalize fillD w4 R q0.h q0.i q1.h q1.i (.slice D m.length cd) = z at *
    have z0 := Kq.blk_cell p1' 0
    have z1 := Kq.blk_cell p1' 1
    have z2 := Kq.blk_cell p1' 2
    have z3 := Kq.blk_cell p1' 3
    have z4 := Kq.blk_cell p1' 4
    refine bodyPost_ret (v := .tuple #[daV ⟨q0, q1, m⟩ D cd, .int .i64 0]) (by simp [results, Tryz.results7, go_sem, z0, z1, z2, z3, z4, daV]) rfl ?_
    rw [HST.out, HG0.out]
    have hbz := H4.out.1.trans (p2'.below H4.out.1.size (fun k _ h => by have h2 : k = R := h; have := HX.out; omega))
    exact ⟨hbz, Or.inr ⟨rfl, D, cd, rfl, HD.out.2.l.below hbz⟩⟩
  · have hk1 : (k == 1) = false := beq_eq_false_iff_ne.2 hk
    have HST : Hid (stepV ⟨p0, p1, l⟩ room ⟨k, ⟨q0, q1, m⟩, c, p, ns⟩ = ((scV ⟨room.toNat, l⟩ ns).2, putP ⟨p0, p1, l⟩ c p (scV ⟨room.toNat, l⟩ ns).1.l)) := Lib.hid (by unfold stepV; rw [HCH.out, if_neg (by simp), HBY.out.1, if_neg (by simp), if_neg hk])
    have HC01 : Hid (c = 0 ∨ c = 1) := Lib.hid (by
      rcases HBY.out.2.1 with h | h
      · exact absurd h.1 hk
      · exact h.2.2.2.1)
    clear hk
    have t4 := Kq.blk_cell H3.out.2.d 4
    simp only at t4
    go_wp2_with fail
    clear c0 c1 c2 c3 c4 c5 c6 c7 c8 c9 t4
    refine (rt_of w3 room l A ca (HD.out.1.l.below H3.out.1) HD.out.1.lw HD.out.1.ll).mono ?_
    rintro x w4 ⟨b4, hx⟩
    obtain ⟨B, rfl, htb⟩ : ∃ B, x = .returned (.tuple #[.pointer (some ⟨B, 0, none⟩), .int .i64 0]) ∧ RtP w4 (fun k => w3.heap.size ≤ k ∧ k < w4.heap.size) B ⟨room.toNat, l⟩ := by
      have hofl := (chk_zero HCH.out).2
      simp only at hofl
      rcases hx with ⟨e, he, hv, _⟩ | ⟨B, acc, hv, hx, htb⟩
      · rw [hofl] at hv
        exact absurd (congrArg Prod.fst hv).symm he
      · rw [hofl] at hv
        injection hv with _ h2
        injection h2 with h3
        subst h3
        exact ⟨B, hx, htb⟩
    have HTB : Hid (TbOk ⟨room.toNat, l⟩) := Lib.hid (chk_tb HD.out.1.num HCH.out).2
    have H4 : Hid (Below w.heap.size w w4 ∧ StB w4 X1 X2 R A ca D cd C cc ⟨p0, p1, l⟩ ⟨k, ⟨q0, q1, m⟩, c, p, ns⟩ ∧ OneR (· < w3.heap.size) w4 B ⟨room.toNat, l⟩ ∧ w3.heap.size ≤ w4.heap.size ∧ w.heap.size ≤ w3.heap.size ∧ R < w3.heap.size) := Lib.hid ⟨H3.out.1.trans (b4.mono H3.out.1.size), H3.out.2.below b4, ⟨_, htb, fun k hk => ⟨Nat.not_lt.2 hk.1, hk.2⟩⟩, b4.size, H3.out.1.size, Kq.blk_lt H3.out.2.z⟩
    clear b4 hx htb
    have c9 := (RecAt.of H4.out.2.1.r).2.2.2.2.2.2.2.2.2
    simp only at c9
    go_wp2_with fail
    clear c9
    refine (rs_apply (V := (· < w3.heap.size)) w4 B ⟨room.toNat, l⟩ C cc ns H4.out.2.2.1 (fun k hk => Nat.lt_of_lt_of_le hk H4.out.2.2.2.1) HTB.out (HD.out.2.ns.below H4.out.1) (fun g o h0 e => by
      obtain ⟨b2, o2, e2, hlt2, _⟩ := (HD.out.2.ns.below H3.out.1) 0 h0
      rw [show C = some ⟨g, o, none⟩ from e] at e2
      injection e2 with e3
      injection e3 with e4 e5
      show g < w3.heap.size
      omega) HD.out.2.nw (Nat.le_trans HD.out.2.nl (by decide))).mono ?_
    rintro x w5 ⟨⟨i5, rfl⟩, h5, f5⟩
    have hX := HX.out
    have H5 : Hid (Below w.heap.size w w5 ∧ StB w5 X1 X2 R A ca D cd C cc ⟨p0, p1, l⟩ ⟨k, ⟨q0, q1, m⟩, c, p, ns⟩ ∧ OneR (· < w3.heap.size) w5 B (scV ⟨room.toNat, l⟩ ns).1) := Lib.hid (by
      have hr := H4.out.2.2.2.2.2
      refine ⟨H4.out.1.trans (f5.below H4.out.1.size (fun k _ h => Nat.le_trans H4.out.2.2.2.2.1 (Nat.le_of_not_lt h))), H4.out.2.1.keeps f5 (fun h => h (by show X1 < w3.heap.size; omega)) (fun h => h (by show X2 < w3.heap.size; omega)) (fun h => h hr), h5⟩)
    clear h5 f5 hX
    obtain ⟨sv, hsv⟩ : ∃ sv, sv = scV ⟨room.toNat, l⟩ ns := ⟨_, rfl⟩
    rw [← hsv] at H5 HST ⊢
    clear hsv
    obtain ⟨⟨rm, sl⟩, e3⟩ := sv
    simp only at H5 HST ⊢
    have z0 := Kq.blk_cell H5.out.2.1.z 0
    have z1 := Kq.blk_cell H5.out.2.1.z 1
    have z2 := Kq.blk_cell H5.out.2.1.z 2
    have z3 := Kq.blk_cell H5.out.2.1.z 3
    have z4 := Kq.blk_cell H5.out.2.1.z 4
    have f0 := Kq.blk_free H5.out.2.1.z 0
    have f1 := Kq.blk_free H5.out.2.1.z 1
    have f2 := Kq.blk_free H5.out.2.1.z 2
    have f3 := Kq.blk_free H5.out.2.1.z 3
    have f4 := Kq.blk_free H5.out.2.1.z 4
    by_cases g3 : e3 = 0
    case neg =>
      have e4 : (e3 != 0) = true := by rw [bne_iff_ne]; exact g3
      have HE3 := Lib.hid g3
      clear g3
      go_wp2
      clear z0 z1 z2 z3 z4 f0 f1 f2 f3 f4
      change bodyPost _ _ _ _ _ (fillD w5 R 0 0 0 0 (.slice none 0 0))
      have p1' := fillD_blk H5.out.2.1.z 0 0 0 0 (.slice none 0 0)
      have p2' := fillD_keeps w5 R 0 0 0 0 (.slice none 0 0)
      generalize fillD w5 R 0 0 0 0 (.slice none 0 0) = z at *
      have z0 := Kq.blk_cell p1' 0
      have z1 := Kq.blk_cell p1' 1
      have z2 := Kq.blk_cell p1' 2
      have z3 := Kq.blk_cell p1' 3
      have z4 := Kq.blk_cell p1' 4
      refine bodyPost_ret (v := .tuple #[daZ, .int .i64 e3]) (by simp [results, Tryz.results7, go_sem, z0, z1, z2, z3, z4, daZ]) rfl ?_
      rw [HST.out]
      exact ⟨H5.out.1.trans (p2'.below H5.out.1.size (fun k _ h => by have h2 : k = R := h; have := HX.out; omega)), Or.inl ⟨HE3.out, rfl⟩⟩
    subst g3
    obtain ⟨O, ⟨An, cn, hrt⟩, hO⟩ := H5.out.2.2
    have HRT := Lib.hid hrt
    have HNR : Hid (∀ b off, An = some ⟨b, off, none⟩ → b ≠ R) := Lib.hid (fun b off e h => by
      have h1 := (hO b (hrt.o b off e).1).1
      have h2 := H4.out.2.2.2.2.2
      exact h1 (by show b < w3.heap.size; omega))
    clear hO hrt z0 z1 z2 z3 z4 f0 f1 f2 f3 f4
    have HCL : Hid (∀ w', Below w5.heap.size w5 w' → (w'.cell? ⟨X1, 0, none⟩ = some (.int .u64 p0.h) ∧ w'.cell? ⟨X1, 1, none⟩ = some (.int .i64 p0.i) ∧ w'.cell? ⟨X1, 2, none⟩ = some (.int .u64 p1.h) ∧ w'.cell? ⟨X1, 3, none⟩ = some (.int .i64 p1.i) ∧ w'.cell? ⟨B, 0, none⟩ = some (.slice An sl.length cn)) ∧ Below w.heap.size w w' ∧ StB w' X1 X2 R A ca D cd C cc ⟨p0, p1, l⟩ ⟨k, ⟨q0, q1, m⟩, c, p, ns⟩ ∧ EnAt NtV.ic w' An sl) := Lib.hid (fun w' hb => by
      have h1 := H5.out.2.1.below hb
      have h2 := HRT.out.blk
      have h3 := Kq.below_blk hb h2 (Kq.blk_lt h2)
      exact ⟨⟨Kq.blk_cell h1.d 0, Kq.blk_cell h1.d 1, Kq.blk_cell h1.d 2, Kq.blk_cell h1.d 3, Kq.blk_cell h3 0⟩, H5.out.1.trans (hb.mono H5.out.1.size), h1, HRT.out.at_.below hb⟩)
    go_wp2
    refine wp_region_held_drew (S := fun w' => w'.cell? ⟨X1, 0, none⟩ = some (.int .u64 p0.h) ∧ w'.cell? ⟨X1, 1, none⟩ = some (.int .i64 p0.i) ∧ w'.cell? ⟨X1, 2, none⟩ = some (.int .u64 p1.h) ∧ w'.cell? ⟨X1, 3, none⟩ = some (.int .i64 p1.i) ∧ w'.cell? ⟨B, 0, none⟩ = some (.slice An sl.length cn)) (by kernel_rfl) (HCL.out _ (Below.refl _ _).drew).1 (fun hS0 => ?_)
    obtain ⟨wd, hwd⟩ : ∃ z, z = w5.drew := ⟨_, rfl⟩
    have HDW : Hid (Below w5.heap.size w5 wd) := Lib.hid (by rw [hwd]; exact (Below.refl _ _).drew)
    rw [← hwd] at hS0 ⊢
    clear hwd
    refine wpAnyH_take (i := 0) (v := ?_) rfl (by kernel_rfl) (by kernel_rfl) (by kernel_rfl) (fun _ _ _ h => h) (Or.inl ⟨by kernel_rfl, ?_⟩) (by assumption) ?_
    rotate_left
    · intro w hSw; (try dsimp only at hSw); go_simp; (try with_reducible rfl)
    refine wpAnyH_take (i := 1) (v := ?_) rfl (by kernel_rfl) (by kernel_rfl) (by kernel_rfl) (fun _ _ _ h => h) (Or.inl ⟨by kernel_rfl, ?_⟩) (by assumption) ?_
    rotate_left
    · intro w hSw; (try dsimp only at hSw); go_simp; (try with_reducible rfl)
    refine wpAnyH_take (i := 2) (v := ?_) rfl (by kernel_rfl) (by kernel_rfl) (by kernel_rfl) (fun _ _ _ h => h) (Or.inl ⟨by kernel_rfl, ?_⟩) (by assumption) ?_
    rotate_left
    · intro w hSw; (try dsimp only at hSw); go_simp; (try with_reducible rfl)
    refine wpAnyH_take (i := 3) (v := ?_) rfl (by kernel_rfl) (by kernel_rfl) (by kernel_rfl) (fun _ _ _ h => h) (Or.inl ⟨by kernel_rfl, ?_⟩) (by assumption) ?_
    rotate_left
    · intro w hSw; (try dsimp only at hSw); go_simp; (try with_reducible rfl)
    refine wpAnyH_take (i := 4) (v := ?_) rfl (by kernel_rfl) (by kernel_rfl) (by kernel_rfl) (fun _ _ _ h => h) (Or.inl ⟨by kernel_rfl, ?_⟩) (by assumption) ?_
    rotate_left
    · intro w hSw; (try dsimp only at hSw); go_simp; (try with_reducible rfl)
    refine wpAnyH_take (i := 5) (v := ?_) rfl (by kernel_rfl) (by kernel_rfl) (by kernel_rfl) (fun _ _ _ h => h) (Or.inl ⟨by kernel_rfl, ?_⟩) (by assumption) ?_
    rotate_left
    · intro w hSw; (try dsimp only at hSw); go_simp; (try with_reducible rfl)
    refine wpAnyH_take (i := 6) (v := ?_) rfl (by kernel_rfl) (by kernel_rfl) (by kernel_rfl) (fun _ _ _ h => h) (Or.inl ⟨by kernel_rfl, ?_⟩) (by assumption) ?_
    rotate_left
    · intro w hSw; (try dsimp only at hSw); go_simp; (try with_reducible rfl)
    refine wpAnyH_ready (rs := [7]) (by kernel_rfl) (by simp) ?_
    refine AllReadyH.cons rfl (fun K hK => ?_) AllReadyH.nil
    go_simp
    obtain ⟨we, hwe⟩ : ∃ z, z = wd.alloc (.cells #[.int .u64 0, .int .i64 0, .int .u64 0, .int .i64 0, .slice none 0 0] 28) := ⟨_, rfl⟩
    obtain ⟨X6, hX6⟩ : ∃ X, X = wd.heap.size := ⟨_, rfl⟩
    have HWE : Hid (Below w5.heap.size w5 we ∧ we.heap[X6]? = some (.cells #[.int .u64 0, .int .i64 0, .int .u64 0, .int .i64 0, .slice none 0 0] 28 (0, 0)) ∧ w5.heap.size ≤ X6) := Lib.hid (by
      have hb := Kq.below_alloc wd (.cells #[.int .u64 0, .int .i64 0, .int .u64 0, .int .i64 0, .slice none 0 0] 28)
      have hr := Kq.blk_new wd #[.int .u64 0, .int .i64 0, .int .u64 0, .int .i64 0, .slice none 0 0] 28 (0, 0)
      rw [← hwe] at hb hr
      rw [← hX6] at hr
      exact ⟨HDW.out.trans (hb.mono HDW.out.size), hr, by rw [hX6]; exact HDW.out.size⟩)
    rw [← hwe, ← hX6]
    clear hwe hX6 hS0
    refine hK.out _ _ (HCL.out we HWE.out.1).1 (fun hS0 => ?_)
    clear hK K
    have x0 := Kq.blk_cell HWE.out.2.1 0
    have x1 := Kq.blk_cell HWE.out.2.1 1
    have x2 := Kq.blk_cell HWE.out.2.1 2
    have x3 := Kq.blk_cell HWE.out.2.1 3
    have x4 := Kq.blk_cell HWE.out.2.1 4
    have g0 := Kq.blk_free HWE.out.2.1 0
    have g1 := Kq.blk_free HWE.out.2.1 1
    have g2 := Kq.blk_free HWE.out.2.1 2
    have g3 := Kq.blk_free HWE.out.2.1 3
    have g4 := Kq.blk_free HWE.out.2.1 4
    refine wpAnyH_ready (rs := [8]) (by kernel_rfl) (by simp) ?_
    refine AllReadyH.cons rfl (fun K hK => ?_) AllReadyH.nil
    go_simp
    clear x0 x1 x2 x3 x4 g0 g1 g2 g3 g4
    obtain ⟨wf, hwf⟩ : ∃ z, z = fillD we X6 p0.h p0.i p1.h p1.i (.slice An sl.length cn) := ⟨_, rfl⟩
    have HWF : Hid (Below w5.heap.size w5 wf ∧ wf.heap[X6]? = some (.cells #[.int .u64 p0.h, .int .i64 p0.i, .int .u64 p1.h, .int .i64 p1.i, .slice An sl.length cn] 28 (0, 0))) := Lib.hid (by
      have p1' := fillD_blk HWE.out.2.1 p0.h p0.i p1.h p1.i (.slice An sl.length cn)
      have p2' := fillD_keeps we X6 p0.h p0.i p1.h p1.i (.slice An sl.length cn)
      rw [← hwf] at p1' p2'
      exact ⟨HWE.out.1.trans (p2'.below HWE.out.1.size (fun k _ h => by rw [show k = X6 from h]; exact HWE.out.2.2)), p1'⟩)
    rw [show ((((we.setCell ⟨X6, 0, none⟩ (.int .u64 p0.h)).setCell ⟨X6, 1, none⟩ (.int .i64 p0.i)).setCell ⟨X6, 2, none⟩ (.int .u64 p1.h)).setCell ⟨X6, 3, none⟩ (.int .i64 p1.i)).setCell ⟨X6, 4, none⟩ (.slice An sl.length cn) = wf from hwf.symm]
    clear hwf hS0
    refine hK.out _ _ (HCL.out wf HWF.out.1).1 (fun hS0 => ?_)
    clear hK K
    refine wpAnyH_done (by kernel_rfl) ?_ _
    clear hS0
    go_simp
    have HW6 := Lib.hid (HCL.out wf HWF.out.1).2
    have HX6 : Hid (w5.heap.size ≤ X6 ∧ R < w5.heap.size ∧ X2 < w5.heap.size) := Lib.hid ⟨HWE.out.2.2, Kq.blk_lt H5.out.2.1.z, Kq.blk_lt H5.out.2.1.r⟩
    clear HWE HCL HDW
    rcases HC01.out with hc | hc
    · subst hc
      have HPP : Hid (putP ⟨p0, p1, l⟩ 0 p sl = ⟨p, p1, sl⟩) := Lib.hid (by unfold putP; simp)
      obtain ⟨c0, c1, c2, c3, c4, c5, c6, c7, c8, c9⟩ := RecAt.of HW6.out.2.1.r
      simp only at c0 c1 c2 c3 c4 c5 c6 c7 c8 c9
      have y0 := Kq.blk_cell HWF.out.2 0
      have y1 := Kq.blk_cell HWF.out.2 1
      have k0 := Kq.blk_free HWF.out.2 0
      have k1 := Kq.blk_free HWF.out.2 1
      have k1' := Kq.blk_free (Kq.blk_set HWF.out.2 0 (.int .u64 p.h)) 1
      have y1' := Kq.blk_cell (Kq.blk_set HWF.out.2 0 (.int .u64 p.h)) 1
      obtain ⟨wg, hwg⟩ : ∃ z, z = (wf.setCell ⟨X6, 0, none⟩ (.int .u64 p.h)).setCell ⟨X6, 1, none⟩ (.int .i64 p.i) := ⟨_, rfl⟩
      have HG : Hid (Below w.heap.size w wg ∧ wg.heap[X6]? = some (.cells #[.int .u64 p.h, .int .i64 p.i, .int .u64 p1.h, .int .i64 p1.i, .slice An sl.length cn] 28 (0, 0)) ∧ wg.heap[R]? = some (.cells #[.int .u64 0, .int .i64 0, .int .u64 0, .int .i64 0, .slice none 0 0] 28 (0, 0)) ∧ EnAt NtV.ic wg An sl) := Lib.hid (by
        have hk6 : Kq.Keeps (· = X6) wf wg := by rw [hwg]; exact (Kq.Keeps.setCell (S := (· = X6)) _ _ _ rfl).trans (Kq.Keeps.setCell (S := (· = X6)) _ _ _ rfl)
        have hx6 := Kq.blk_set (Kq.blk_set HWF.out.2 0 (.int .u64 p.h)) 1 (.int .i64 p.i)
        rw [← hwg] at hx6
        have h6 := HX6.out
        have hws : w.heap.size ≤ w5.heap.size := H5.out.1.size
        refine ⟨HW6.out.1.trans (hk6.below HW6.out.1.size (fun k _ h => by rw [show k = X6 from h]; omega)), hx6, hk6.blk HW6.out.2.1.z (fun h => by have h2 : R = X6 := h; omega), HW6.out.2.2.keeps hk6 (fun g o e h => by
          have h2 : g = X6 := h
          have h3 := (HRT.out.o g o e).2.1
          omega)⟩)
      have z0 := Kq.blk_cell HG.out.2.2.1 0
      have z1 := Kq.blk_cell HG.out.2.2.1 1
      have z2 := Kq.blk_cell HG.out.2.2.1 2
      have z3 := Kq.blk_cell HG.out.2.2.1 3
      have z4 := Kq.blk_cell HG.out.2.2.1 4
      have f0 := Kq.blk_free HG.out.2.2.1 0
      have f1 := Kq.blk_free HG.out.2.2.1 1
      have f2 := Kq.blk_free HG.out.2.2.1 2
      have f3 := Kq.blk_free HG.out.2.2.1 3
      have f4 := Kq.blk_free HG.out.2.2.1 4
      have x0 := Kq.blk_cell HG.out.2.1 0
      have x1 := Kq.blk_cell HG.out.2.1 1
      have x2 := Kq.blk_cell HG.out.2.1 2
      have x3 := Kq.blk_cell HG.out.2.1 3
      have x4 := Kq.blk_cell HG.out.2.1 4
      rw [hwg] at x0 x1 x2 x3 x4 z0 z1 z2 z3 z4 f0 f1 f2 f3 f4
      go_wp2
      rw [← hwg]
      clear hwg x0 x1 x2 x3 x4 z0 z1 z2 z3 z4 f0 f1 f2 f3 f4 y0 y1 y1' k0 k1 k1' c0 c1 c2 c3 c4 c5 c6 c7 c8 c9
      change bodyPost _ _ _ _ _ (fillD wg R p.h p.i p1.h p1.i (.slice An sl.length cn))
      have p1' := fillD_blk HG.out.2.2.1 p.h p.i p1.h p1.i (.slice An sl.length cn)
      have p2' := fillD_keeps wg R p.h p.i p1.h p1.i (.slice An sl.length cn)
      generalize fillD wg R p.h p.i p1.h p1.i (.slice An sl.length cn) = z at *
      have z0 := Kq.blk_cell p1' 0
      have z1 := Kq.blk_cell p1' 1
      have z2 := Kq.blk_cell p1' 2
      have z3 := Kq.blk_cell p1' 3
      have z4 := Kq.blk_cell p1' 4
      refine bodyPost_ret (v := .tuple #[daV ⟨p, p1, sl⟩ An cn, .int .i64 0]) (by simp [results, Tryz.results7, go_sem, z0, z1, z2, z3, z4, daV]) rfl ?_
      rw [HST.out, HPP.out]
      refine ⟨HG.out.1.trans (p2'.below HG.out.1.size (fun k _ h => by have h2 : k = R := h; have := HX.out; omega)), Or.inr ⟨rfl, An, cn, rfl, HG.out.2.2.2.keeps p2' (fun g o e h => by
        have h2 : g = R := h
        exact HNR.out g o e h2)⟩⟩
    · subst hc
      have HPP : Hid (putP ⟨p0, p1, l⟩ 1 p sl = ⟨p0, p, sl⟩) := Lib.hid (by unfold putP; simp)
      obtain ⟨c0, c1, c2, c3, c4, c5, c6, c7, c8, c9⟩ := RecAt.of HW6.out.2.1.r
      simp only at c0 c1 c2 c3 c4 c5 c6 c7 c8 c9
      have y0 := Kq.blk_cell HWF.out.2 2
      have y1 := Kq.blk_cell HWF.out.2 3
      have k0 := Kq.blk_free HWF.out.2 2
      have k1 := Kq.blk_free HWF.out.2 3
      have k1' := Kq.blk_free (Kq.blk_set HWF.out.2 2 (.int .u64 p.h)) 3
      have y1' := Kq.blk_cell (Kq.blk_set HWF.out.2 2 (.int .u64 p.h)) 3
      obtain ⟨wg, hwg⟩ : ∃ z, z = (wf.setCell ⟨X6, 2, none⟩ (.int .u64 p.h)).setCell ⟨X6, 3, none⟩ (.int .i64 p.i) := ⟨_, rfl⟩
      have HG : Hid (Below w.heap.size w wg ∧ wg.heap[X6]? = some (.cells #[.int .u64 p0.h, .int .i64 p0.i, .int .u64 p.h, .int .i64 p.i, .slice An sl.length cn] 28 (0, 0)) ∧ wg.heap[R]? = some (.cells #[.int .u64 0, .int .i64 0, .int .u64 0, .int .i64 0, .slice none 0 0] 28 (0, 0)) ∧ EnAt NtV.ic wg An sl) := Lib.hid (by
        have hk6 : Kq.Keeps (· = X6) wf wg := by rw [hwg]; exact (Kq.Keeps.setCell (S := (· = X6)) _ _ _ rfl).trans (Kq.Keeps.setCell (S := (· = X6)) _ _ _ rfl)
        have hx6 := Kq.blk_set (Kq.blk_set HWF.out.2 2 (.int .u64 p.h)) 3 (.int .i64 p.i)
        rw [← hwg] at hx6
        have h6 := HX6.out
        have hws : w.heap.size ≤ w5.heap.size := H5.out.1.size
        refine ⟨HW6.out.1.trans (hk6.below HW6.out.1.size (fun k _ h => by rw [show k = X6 from h]; omega)), hx6, hk6.blk HW6.out.2.1.z (fun h => by have h2 : R = X6 := h; omega), HW6.out.2.2.keeps hk6 (fun g o e h => by
          have h2 : g = X6 := h
          have h3 := (HRT.out.o g o e).2.1
          omega)⟩)
      have z0 := Kq.blk_cell HG.out.2.2.1 0
      have z1 := Kq.blk_cell HG.out.2.2.1 1
      have z2 := Kq.blk_cell HG.out.2.2.1 2
      have z3 := Kq.blk_cell HG.out.2.2.1 3
      have z4 := Kq.blk_cell HG.out.2.2.1 4
      have f0 := Kq.blk_free HG.out.2.2.1 0
      have f1 := Kq.blk_free HG.out.2.2.1 1
      have f2 := Kq.blk_free HG.out.2.2.1 2
      have f3 := Kq.blk_free HG.out.2.2.1 3
      have f4 := Kq.blk_free HG.out.2.2.1 4
      have x0 := Kq.blk_cell HG.out.2.1 0
      have x1 := Kq.blk_cell HG.out.2.1 1
      have x2 := Kq.blk_cell HG.out.2.1 2
      have x3 := Kq.blk_cell HG.out.2.1 3
      have x4 := Kq.blk_cell HG.out.2.1 4
      rw [hwg] at x0 x1 x2 x3 x4 z0 z1 z2 z3 z4 f0 f1 f2 f3 f4
      go_wp2
      rw [← hwg]
      clear hwg x0 x1 x2 x3 x4 z0 z1 z2 z3 z4 f0 f1 f2 f3 f4 y0 y1 y1' k0 k1 k1' c0 c1 c2 c3 c4 c5 c6 c7 c8 c9
      change bodyPost _ _ _ _ _ (fillD wg R p0.h p0.i p.h p.i (.slice An sl.length cn))
      have p1' := fillD_blk HG.out.2.2.1 p0.h p0.i p.h p.i (.slice An sl.length cn)
      have p2' := fillD_keeps wg R p0.h p0.i p.h p.i (.slice An sl.length cn)
      generalize fillD wg R p0.h p0.i p.h p.i (.slice An sl.length cn) = z at *
      have z0 := Kq.blk_cell p1' 0
      have z1 := Kq.blk_cell p1' 1
      have z2 := Kq.blk_cell p1' 2
      have z3 := Kq.blk_cell p1' 3
      have z4 := Kq.blk_cell p1' 4
      refine bodyPost_ret (v := .tuple #[daV ⟨p0, p, sl⟩ An cn, .int .i64 0]) (by simp [results, Tryz.results7, go_sem, z0, z1, z2, z3, z4, daV]) rfl ?_
      rw [HST.out, HPP.out]
      refine ⟨HG.out.1.trans (p2'.below HG.out.1.size (fun k _ h => by have h2 : k = R := h; have := HX.out; omega)), Or.inr ⟨rfl, An, cn, rfl, HG.out.2.2.2.keeps p2' (fun g o e h => by
        have h2 : g = R := h
        exact HNR.out g o e h2)⟩⟩
end Go.Proofs.YtkbiolhcpghmkaaGreat
