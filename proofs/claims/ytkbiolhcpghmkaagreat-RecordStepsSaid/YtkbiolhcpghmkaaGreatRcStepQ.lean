/- Contract of record's Step. Condition: a state, a record of the arguments. -/
import Derived.WalkSpells
import Derived.Outline
import Derived.Deep.RegionHeld
import Derived.Test.YtkbiolhcpghmkaaGreatRcFewQ
namespace Go.Proofs.YtkbiolhcpghmkaaGreat
open Go.RowKit Go.Kq
set_option linter.unusedVariables false
theorem ofV_none {r : Int} {l : List NtV} (h : (ofV r l).2 = none) : (ofV r l).1 ≠ 0 := by
  unfold ofV at h ⊢
  by_cases h1 : ¬ (1 ≤ r ∧ r ≤ 40)
  · rw [if_pos h1]; decide
  · rw [if_neg h1] at h ⊢
    by_cases h2 : ¬ ∀ n ∈ l, ItOk n
    · rw [if_pos h2]; decide
    · rw [if_neg h2] at h ⊢
      cases e : ofL [] l with
      | none => show (4 : Int) ≠ 0; decide
      | some acc =>
        rw [e] at h
        show (if r < (l.length : Int) then ((2 : Int), (none : Option (List NtV))) else (0, some acc)).1 ≠ 0
        have h' : (if r < (l.length : Int) then ((2 : Int), (none : Option (List NtV))) else (0, some acc)).2 = none := h
        by_cases g : r < (l.length : Int)
        · rw [if_pos g]; decide
        · rw [if_neg g] at h'; cases h'
theorem ofV_some {r : Int} {l acc : List NtV} (h : (ofV r l).2 = some acc) : (ofV r l).1 = 0 := by
  unfold ofV at h ⊢
  by_cases h1 : ¬ (1 ≤ r ∧ r ≤ 40)
  · rw [if_pos h1] at h; cases h
  · rw [if_neg h1] at h ⊢
    by_cases h2 : ¬ ∀ n ∈ l, ItOk n
    · rw [if_pos h2] at h; cases h
    · rw [if_neg h2] at h ⊢
      cases e : ofL [] l with
      | none => rw [e] at h; cases h
      | some b =>
        rw [e] at h
        show (if r < (l.length : Int) then ((2 : Int), (none : Option (List NtV))) else (0, some b)).1 = 0
        have h' : (if r < (l.length : Int) then ((2 : Int), (none : Option (List NtV))) else (0, some b)).2 = some acc := h
        by_cases g : r < (l.length : Int)
        · rw [if_pos g] at h'; cases h'
        · rw [if_neg g]
theorem chk_zero {d : DaV} {r : Int} (h : chkV d r = 0) : (d.p0.ok ∧ d.p1.ok) ∧ ofV r d.l = (0, some d.l) := by
  unfold chkV at h
  by_cases h1 : d.p0.ok ∧ d.p1.ok
  · rw [if_pos h1] at h
    refine ⟨h1, ?_⟩
    cases e : (ofV r d.l).2 with
    | none => rw [e] at h; exact absurd h (ofV_none e)
    | some acc =>
      rw [e] at h
      have h2 : (if acc = d.l then (0 : Int) else 15) = 0 := h
      by_cases g : acc = d.l
      · exact Prod.ext (ofV_some e) (by rw [e, g])
      · rw [if_neg g] at h2; cases h2
  · rw [if_neg h1] at h; cases h
/-- the places behind a scan's record -/
def putP (d : DaV) (c : Int) (p : PlV) (l : List NtV) : DaV := if c = 0 then ⟨p, d.p1, l⟩ else ⟨d.p0, p, l⟩
/-- the state behind a record -/
def stepV (d : DaV) (room : Int) (r : ReV) : Int × DaV :=
  if chkV d room ≠ 0 then (chkV d room, d) else if recE r ≠ 0 then (recE r, d) else if r.k = 1 then (chkV r.d room, r.d)
  else ((scV ⟨room.toNat, d.l⟩ r.ns).2, putP d r.c r.p (scV ⟨room.toNat, d.l⟩ r.ns).1.l)
/-- the three blocks of Step -/
structure StB (w : World) (X1 X2 R : Nat) (A : Option Addr) (ca : Nat) (D : Option Addr) (cd : Nat) (C : Option Addr) (cc : Nat) (d : DaV) (r : ReV) : Prop where
  d : DaX w X1 A ca d
  r : RecX w X2 D cd C cc r
  z : w.heap[R]? = some (.cells #[.int .u64 0, .int .i64 0, .int .u64 0, .int .i64 0, .slice none 0 0] 28 (0, 0))
theorem StB.below {w w' : World} {X1 X2 R : Nat} {A : Option Addr} {ca : Nat} {D : Option Addr} {cd : Nat} {C : Option Addr} {cc : Nat} {d : DaV} {r : ReV} (h : StB w X1 X2 R A ca D cd C cc d r) (hb : Below w.heap.size w w') : StB w' X1 X2 R A ca D cd C cc d r := ⟨Kq.below_blk hb h.d (Kq.blk_lt h.d), Kq.below_blk hb h.r (Kq.blk_lt h.r), Kq.below_blk hb h.z (Kq.blk_lt h.z)⟩
theorem StB.keeps {w w' : World} {X1 X2 R : Nat} {A : Option Addr} {ca : Nat} {D : Option Addr} {cd : Nat} {C : Option Addr} {cc : Nat} {d : DaV} {r : ReV} {S : Nat → Prop} (h : StB w X1 X2 R A ca D cd C cc d r) (hk : Kq.Keeps S w w') (h1 : ¬ S X1) (h2 : ¬ S X2) (h3 : ¬ S R) : StB w' X1 X2 R A ca D cd C cc d r := ⟨hk.blk h.d h1, hk.blk h.r h2, hk.blk h.z h3⟩
set_option maxRecDepth 100000 in
set_option maxHeartbeats 4000000 in
theorem rec_step (A : Option Addr) (ca : Nat) (d : DaV) (room : Int) (D : Option Addr) (cd : Nat) (C : Option Addr) (cc : Nat) (r : ReV) (w : World) (hd : DaW w A d) (hr : RecW w D C r) :
    Calls Tryz.prog 6 #[.agg #[.int .u64 d.p0.h, .int .i64 d.p0.i, .int .u64 d.p1.h, .int .i64 d.p1.i, .slice A d.l.length ca], .int .i64 room, .agg #[.int .i64 r.k, .int .u64 r.d.p0.h, .int .i64 r.d.p0.i, .int .u64 r.d.p1.h, .int .i64 r.d.p1.i, .slice D r.d.l.length cd, .int .i64 r.c, .int .u64 r.p.h, .int .i64 r.p.i, .slice C r.ns.length cc]] w (DaP w (stepV d room r).1 (stepV d room r).2) := by
  obtain ⟨X1, hX1⟩ : ∃ X, X = w.heap.size := ⟨_, rfl⟩
  obtain ⟨X2, hX2⟩ : ∃ X, X = w.heap.size + 1 := ⟨_, rfl⟩
  obtain ⟨R, hR⟩ : ∃ X, X = w.heap.size + 1 + 1 := ⟨_, rfl⟩
  obtain ⟨w1, hw1⟩ : ∃ z, z = ((w.alloc (.cells #[.int .u64 d.p0.h, .int .i64 d.p0.i, .int .u64 d.p1.h, .int .i64 d.p1.i, .slice A d.l.length ca] 28)).alloc (.cells #[.int .i64 r.k, .int .u64 r.d.p0.h, .int .i64 r.d.p0.i, .int .u64 r.d.p1.h, .int .i64 r.d.p1.i, .slice D r.d.l.length cd, .int .i64 r.c, .int .u64 r.p.h, .int .i64 r.p.i, .slice C r.ns.length cc] 31)).alloc (.cells #[.int .u64 0, .int .i64 0, .int .u64 0, .int .i64 0, .slice none 0 0] 28) := ⟨_, rfl⟩
  have H1 : Hid (Below w.heap.size w w1 ∧ StB w1 X1 X2 R A ca D cd C cc d r) := Lib.hid (by
    have ha := Kq.below_alloc w (.cells #[.int .u64 d.p0.h, .int .i64 d.p0.i, .int .u64 d.p1.h, .int .i64 d.p1.i, .slice A d.l.length ca] 28)
    have hra := Kq.blk_new w #[.int .u64 d.p0.h, .int .i64 d.p0.i, .int .u64 d.p1.h, .int .i64 d.p1.i, .slice A d.l.length ca] 28 (0, 0)
    rw [← hX1] at hra
    have hb := Kq.below_alloc (w.alloc (.cells #[.int .u64 d.p0.h, .int .i64 d.p0.i, .int .u64 d.p1.h, .int .i64 d.p1.i, .slice A d.l.length ca] 28)) (.cells #[.int .i64 r.k, .int .u64 r.d.p0.h, .int .i64 r.d.p0.i, .int .u64 r.d.p1.h, .int .i64 r.d.p1.i, .slice D r.d.l.length cd, .int .i64 r.c, .int .u64 r.p.h, .int .i64 r.p.i, .slice C r.ns.length cc] 31)
    have hrb := Kq.blk_new (w.alloc (.cells #[.int .u64 d.p0.h, .int .i64 d.p0.i, .int .u64 d.p1.h, .int .i64 d.p1.i, .slice A d.l.length ca] 28)) #[.int .i64 r.k, .int .u64 r.d.p0.h, .int .i64 r.d.p0.i, .int .u64 r.d.p1.h, .int .i64 r.d.p1.i, .slice D r.d.l.length cd, .int .i64 r.c, .int .u64 r.p.h, .int .i64 r.p.i, .slice C r.ns.length cc] 31 (0, 0)
    rw [World.size_alloc, ← hX2] at hrb
    obtain ⟨wb, hwb⟩ : ∃ z, z = (w.alloc (.cells #[.int .u64 d.p0.h, .int .i64 d.p0.i, .int .u64 d.p1.h, .int .i64 d.p1.i, .slice A d.l.length ca] 28)).alloc (.cells #[.int .i64 r.k, .int .u64 r.d.p0.h, .int .i64 r.d.p0.i, .int .u64 r.d.p1.h, .int .i64 r.d.p1.i, .slice D r.d.l.length cd, .int .i64 r.c, .int .u64 r.p.h, .int .i64 r.p.i, .slice C r.ns.length cc] 31) := ⟨_, rfl⟩
    have hsz : wb.heap.size = w.heap.size + 1 + 1 := by rw [hwb]; simp
    rw [← hwb] at hb hrb hw1
    have hc := Kq.below_alloc wb (.cells #[.int .u64 0, .int .i64 0, .int .u64 0, .int .i64 0, .slice none 0 0] 28)
    have hrc := Kq.blk_new wb #[.int .u64 0, .int .i64 0, .int .u64 0, .int .i64 0, .slice none 0 0] 28 (0, 0)
    rw [hsz, ← hR] at hrc
    rw [← hw1] at hc hrc
    have hab := Kq.below_blk hb hra (Kq.blk_lt hra)
    exact ⟨(ha.trans (hb.mono ha.size)).trans (hc.mono (by rw [hsz]; omega)), Kq.below_blk hc hab (Kq.blk_lt hab), Kq.below_blk hc hrb (Kq.blk_lt hrb), hrc⟩)
  have HX : Hid (w.heap.size = X1 ∧ X2 = X1 + 1 ∧ R = X1 + 2) := Lib.hid (by omega)
  have HD := Lib.hid (And.intro hd hr)
  clear hd hr
  obtain ⟨p0, p1, l⟩ := d
  obtain ⟨k, ⟨q0, q1, m⟩, c, p, ns⟩ := r
  go_enter Tryz.func6, Tryz.ntmps6
  go_wp2_with fail
  rw [← hR, ← hX2, ← hX1, ← hw1]
  clear hw1 hR hX2 hX1
  refine (rec_check A ca ⟨p0, p1, l⟩ room w1 (HD.out.1.below H1.out.1)).mono ?_
  rintro x w2 ⟨rfl, b2⟩
  have H2 : Hid (Below w.heap.size w w2 ∧ StB w2 X1 X2 R A ca D cd C cc ⟨p0, p1, l⟩ ⟨k, ⟨q0, q1, m⟩, c, p, ns⟩) := Lib.hid ⟨H1.out.1.trans (b2.mono H1.out.1.size), H1.out.2.below b2⟩
  obtain ⟨e, he⟩ : ∃ e, e = chkV ⟨p0, p1, l⟩ room := ⟨_, rfl⟩
  rw [← he]
  have HEV := Lib.hid he
  clear b2 H1 he
  have z0 := Kq.blk_cell H2.out.2.z 0
  have z1 := Kq.blk_cell H2.out.2.z 1
  have z2 := Kq.blk_cell H2.out.2.z 2
  have z3 := Kq.blk_cell H2.out.2.z 3
  have z4 := Kq.blk_cell H2.out.2.z 4
  have f0 := Kq.blk_free H2.out.2.z 0
  have f1 := Kq.blk_free H2.out.2.z 1
  have f2 := Kq.blk_free H2.out.2.z 2
  have f3 := Kq.blk_free H2.out.2.z 3
  have f4 := Kq.blk_free H2.out.2.z 4
  by_cases e0 : e = 0
  case neg =>
    have e1 : (e != 0) = true := by rw [bne_iff_ne]; exact e0
    have HE0 : Hid (stepV ⟨p0, p1, l⟩ room ⟨k, ⟨q0, q1, m⟩, c, p, ns⟩ = (e, ⟨p0, p1, l⟩) ∧ e ≠ 0) := Lib.hid ⟨by unfold stepV; rw [← HEV.out, if_pos e0], e0⟩
    clear e0
    go_wp2
    clear z0 z1 z2 z3 z4 f0 f1 f2 f3 f4
    change bodyPost _ _ _ _ _ (fillD w2 R 0 0 0 0 (.slice none 0 0))
    have p1' := fillD_blk H2.out.2.z 0 0 0 0 (.slice none 0 0)
    have p2' := fillD_keeps w2 R 0 0 0 0 (.slice none 0 0)
    generalize fillD w2 R 0 0 0 0 (.slice none 0 0) = z at *
    have z0 := Kq.blk_cell p1' 0
    have z1 := Kq.blk_cell p1' 1
    have z2 := Kq.blk_cell p1' 2
    have z3 := Kq.blk_cell p1' 3
    have z4 := Kq.blk_cell p1' 4
    refine bodyPost_ret (v := .tuple #[daZ, .int .i64 e]) (by simp [results, Tryz.results6, go_sem, z0, z1, z2, z3, z4, daZ]) rfl ?_
    rw [HE0.out.1]
    exact ⟨H2.out.1.trans (p2'.below H2.out.1.size (fun k _ h => by have h2 : k = R := h; have := HX.out; omega)), Or.inl ⟨HE0.out.2, rfl⟩⟩
  have e1 : (e != 0) = false := by rw [e0]; rfl
  have HCH : Hid (chkV ⟨p0, p1, l⟩ room = 0) := Lib.hid (by rw [← HEV.out]; exact e0)
  clear e0
  obtain ⟨c0, c1, c2, c3, c4, c5, c6, c7, c8, c9⟩ := RecAt.of H2.out.2.r
  simp only at c0 c1 c2 c3 c4 c5 c6 c7 c8 c9
  go_wp2_with fail
  refine (rec_bytes D cd C cc ⟨k, ⟨q0, q1, m⟩, c, p, ns⟩ w2 (HD.out.2.below H2.out.1)).mono ?_
  rintro x w3 ⟨rfl, b3⟩
  have H3 : Hid (Below w.heap.size w w3 ∧ StB w3 X1 X2 R A ca D cd C cc ⟨p0, p1, l⟩ ⟨k, ⟨q0, q1, m⟩, c, p, ns⟩) := Lib.hid ⟨H2.out.1.trans (b3.mono H2.out.1.size), H2.out.2.below b3⟩
  obtain ⟨e', he'⟩ : ∃ e', e' = recE ⟨k, ⟨q0, q1, m⟩, c, p, ns⟩ := ⟨_, rfl⟩
  obtain ⟨tt, htt⟩ : ∃ tt, tt = recT ⟨k, ⟨q0, q1, m⟩, c, p, ns⟩ := ⟨_, rfl⟩
  rw [← he', ← htt]
  have HEV' := Lib.hid he'
  clear b3 H2 he' htt z0 z1 z2 z3 z4 f0 f1 f2 f3 f4 c0 c1 c2 c3 c4 c5 c6 c7 c8 c9
  have z0 := Kq.blk_cell H3.out.2.z 0
  have z1 := Kq.blk_cell H3.out.2.z 1
  have z2 := Kq.blk_cell H3.out.2.z 2
  have z3 := Kq.blk_cell H3.out.2.z 3
  have z4 := Kq.blk_cell H3.out.2.z 4
  have f0 := Kq.blk_free H3.out.2.z 0
  have f1 := Kq.blk_free H3.out.2.z 1
  have f2 := Kq.blk_free H3.out.2.z 2
  have f3 := Kq.blk_free H3.out.2.z 3
  have f4 := Kq.blk_free H3.out.2.z 4
  by_cases e0 : e' = 0
  case neg =>
    have e2 : (e' != 0) = true := by rw [bne_iff_ne]; exact e0
    have HE0 : Hid (stepV ⟨p0, p1, l⟩ room ⟨k, ⟨q0, q1, m⟩, c, p, ns⟩ = (e', ⟨p0, p1, l⟩) ∧ e' ≠ 0) := Lib.hid ⟨by unfold stepV; rw [HCH.out, if_neg (by simp), ← HEV'.out, if_pos e0], e0⟩
    clear e0
    go_wp2
    clear z0 z1 z2 z3 z4 f0 f1 f2 f3 f4
    change bodyPost _ _ _ _ _ (fillD w3 R 0 0 0 0 (.slice none 0 0))
    have p1' := fillD_blk H3.out.2.z 0 0 0 0 (.slice none 0 0)
    have p2' := fillD_keeps w3 R 0 0 0 0 (.slice none 0 0)
    generalize fillD w3 R 0 0 0 0 (.slice none 0 0) = z at *
    have z0 := Kq.blk_cell p1' 0
    have z1 := Kq.blk_cell p1' 1
    have z2 := Kq.blk_cell p1' 2
    have z3 := Kq.blk_cell p1' 3
    have z4 := Kq.blk_cell p1' 4
    refine bodyPost_ret (v := .tuple #[daZ, .int .i64 e']) (by simp [results, Tryz.results6, go_sem, z0, z1, z2, z3, z4, daZ]) rfl ?_
    rw [HE0.out.1]
    exact ⟨H3.out.1.trans (p2'.below H3.out.1.size (fun k _ h => by have h2 : k = R := h; have := HX.out; omega)), Or.inl ⟨HE0.out.2, rfl⟩⟩
  have e2 : (e' != 0) = false := by rw [e0]; rfl
  have HBY : Hid (recE ⟨k, ⟨q0, q1, m⟩, c, p, ns⟩ = 0 ∧ RecOk ⟨k, ⟨q0, q1, m⟩, c, p, ns⟩) := Lib.hid (by
    have h : recE ⟨k, ⟨q0, q1, m⟩, c, p, ns⟩ = 0 := by rw [← HEV'.out]; exact e0
    refine ⟨h, ?_⟩
    unfold recE at h
    by_cases g : RecOk ⟨k, ⟨q0, q1, m⟩, c, p, ns⟩
    · exact g
    · rw [if_neg g] at h; cases h)
  clear e0
  obtain ⟨c0, c1, c2, c3, c4, c5, c6, c7, c8, c9⟩ := RecAt.of H3.out.2.r
  simp only at c0 c1 c2 c3 c4 c5 c6 c7 c8 c9
  by_cases hk : k = 1
  · have hk1 : (k == 1) = true := by rw [hk]; rfl
    have HST : Hid (stepV ⟨p0, p1, l⟩ room ⟨k, ⟨q0, q1, m⟩, c, p, ns⟩ = (chkV ⟨q0, q1, m⟩ room, ⟨q0, q1, m⟩)) := Lib.hid (by unfold stepV; rw [HCH.out, if_neg (by simp), HBY.out.1, if_neg (by simp), if_pos hk])
    clear hk
    go_wp2_with fail
    refine (rec_begin D cd ⟨q0, q1, m⟩ room w3 ⟨HD.out.2.p0, HD.out.2.p1, HD.out.2.l.below H3.out.1, HD.out.2.lw, HD.out.2.ll⟩).mono ?_
    rintro x w4 ⟨b4, hx⟩
    have H4 : Hid (Below w.heap.size w w4 ∧ StB w4 X1 X2 R A ca D cd C cc ⟨p0, p1, l⟩ ⟨k, ⟨q0, q1, m⟩, c, p, ns⟩ ∧ R < w3.heap.size ∧ w.heap.size ≤ w3.heap.size) := Lib.hid ⟨H3.out.1.trans (b4.mono H3.out.1.size), H3.out.2.below b4, Kq.blk_lt H3.out.2.z, H3.out.1.size⟩
    clear b4 z0 z1 z2 z3 z4 f0 f1 f2 f3 f4 c0 c1 c2 c3 c4 c5 c6 c7 c8 c9
    have z0 := Kq.blk_cell H4.out.2.1.z 0
    have z1 := Kq.blk_cell H4.out.2.1.z 1
    have z2 := Kq.blk_cell H4.out.2.1.z 2
    have z3 := Kq.blk_cell H4.out.2.1.z 3
    have z4 := Kq.blk_cell H4.out.2.1.z 4
    have f0 := Kq.blk_free H4.out.2.1.z 0
    have f1 := Kq.blk_free H4.out.2.1.z 1
    have f2 := Kq.blk_free H4.out.2.1.z 2
    have f3 := Kq.blk_free H4.out.2.1.z 3
    have f4 := Kq.blk_free H4.out.2.1.z 4
    obtain ⟨g, hg⟩ : ∃ g, g = chkV ⟨q0, q1, m⟩ room := ⟨_, rfl⟩
    rw [← hg] at hx
    have HG := Lib.hid hg
    clear hg
    rcases hx with ⟨g0, rfl⟩ | ⟨g0, A', c', rfl, hat, hge⟩
    · have HG0 := Lib.hid g0
      clear g0
      unfold daZ
      go_wp2
      clear z0 z1 z2 z3 z4 f0 f1 f2 f3 f4
      change bodyPost _ _ _ _ _ (fillD w4 R 0 0 0 0 (.slice none 0 0))
      have p1' := fillD_blk H4.out.2.1.z 0 0 0 0 (.slice none 0 0)
      have p2' := fillD_keeps w4 R 0 0 0 0 (.slice none 0 0)
      generalize fillD w4 R 0 0 0 0 (.slice none 0 0) = z at *
      have z0 := Kq.blk_cell p1' 0
      have z1 := Kq.blk_cell p1' 1
      have z2 := Kq.blk_cell p1' 2
      have z3 := Kq.blk_cell p1' 3
      have z4 := Kq.blk_cell p1' 4
      refine bodyPost_ret (v := .tuple #[daZ, .int .i64 g]) (by simp [results, Tryz.results6, go_sem, z0, z1, z2, z3, z4, daZ]) rfl ?_
      rw [HST.out]
      show DaP w (chkV ⟨q0, q1, m⟩ room) _ _ _
      rw [← HG.out]
      exact ⟨H4.out.1.trans (p2'.below H4.out.1.size (fun k _ h => by have h2 : k = R := h; have := HX.out; omega)), Or.inl ⟨HG0.out, rfl⟩⟩
    · have HAT : Hid (EnAt NtV.ic w4 A' m ∧ (∀ b off, A' = some ⟨b, off, none⟩ → w3.heap.size ≤ b ∧ b < w4.heap.size) ∧ g = 0) := Lib.hid ⟨hat, hge, g0⟩
      clear hat hge g0
      unfold daV
      simp only
      go_wp2
      clear z0 z1 z2 z3 z4 f0 f1 f2 f3 f4
      change bodyPost _ _ _ _ _ (fillD w4 R q0.h q0.i q1.h q1.i (.slice A' m.length c'))
      have p1' := fillD_blk H4.out.2.1.z q0.h q0.i q1.h q1.i (.slice A' m.length c')
      have p2' := fillD_keeps w4 R q0.h q0.i q1.h q1.i (.slice A' m.length c')
      generalize fillD w4 R q0.h q0.i q1.h q1.i (.slice A' m.length c') = z at *
      have z0 := Kq.blk_cell p1' 0
      have z1 := Kq.blk_cell p1' 1
      have z2 := Kq.blk_cell p1' 2
      have z3 := Kq.blk_cell p1' 3
      have z4 := Kq.blk_cell p1' 4
      refine bodyPost_ret (v := .tuple #[daV ⟨q0, q1, m⟩ A' c', .int .i64 0]) (by simp [results, Tryz.results6, go_sem, z0, z1, z2, z3, z4, daV]) rfl ?_
      rw [HST.out]
      refine ⟨H4.out.1.trans (p2'.below H4.out.1.size (fun k _ h => by have h2 : k = R := h; have := HX.out; omega)), Or.inr ⟨HG.out.symm.trans HAT.out.2.2, A', c', rfl, HAT.out.1.keeps p2' (fun g o e h => by have h1 := (HAT.out.2.1 g o e).1; have h2 : g = R := h; have := H4.out.2.2.1; omega), fun b off e => ?_⟩⟩
      have h1 := HAT.out.2.1 b off e; have h2 := H4.out.2.2.2; have h3 := p2'.size
      exact ⟨by omega, by omega⟩
  · have hk1 : (k == 1) = false := beq_eq_false_iff_ne.2 hk
    have HST : Hid (stepV ⟨p0, p1, l⟩ room ⟨k, ⟨q0, q1, m⟩, c, p, ns⟩ = ((scV ⟨room.toNat, l⟩ ns).2, putP ⟨p0, p1, l⟩ c p (scV ⟨room.toNat, l⟩ ns).1.l)) := Lib.hid (by unfold stepV; rw [HCH.out, if_neg (by simp), HBY.out.1, if_neg (by simp), if_neg hk])
    have HC01 : Hid (c = 0 ∨ c = 1) := Lib.hid (by
      rcases HBY.out.2.1 with h | h
      · exact absurd h.1 hk
      · exact h.2.2.2.1)
    have HOF := Lib.hid (chk_zero HCH.out).2
    clear hk
    have d4 := Kq.blk_cell H3.out.2.d 4
    simp only at d4
    go_wp2_with fail
    refine (tb_of w3 room l A ca (HD.out.1.l.below H3.out.1) HD.out.1.lw (by have := HD.out.1.ll; simp only at this; omega)).mono ?_
    rintro x w4 ⟨b4, hx⟩
    have H4 : Hid (Below w.heap.size w w4 ∧ StB w4 X1 X2 R A ca D cd C cc ⟨p0, p1, l⟩ ⟨k, ⟨q0, q1, m⟩, c, p, ns⟩ ∧ R < w3.heap.size ∧ w.heap.size ≤ w3.heap.size) := Lib.hid ⟨H3.out.1.trans (b4.mono H3.out.1.size), H3.out.2.below b4, Kq.blk_lt H3.out.2.z, H3.out.1.size⟩
    rcases hx with ⟨g, hg, hv, -⟩ | ⟨B, acc, hv, rfl, htb, htok⟩
    · rw [HOF.out] at hv
      injection hv with h1 h2
      cases h2
    obtain rfl : acc = l := by rw [HOF.out] at hv; injection hv with h1 h2; injection h2 with h2; exact h2.symm
    have HT : Hid (OneT (· < w3.heap.size) w4 B ⟨room.toNat, acc⟩ ∧ TbOk ⟨room.toNat, acc⟩ ∧ FrW (· < w3.heap.size) w4) := Lib.hid ⟨⟨_, htb, fun k hk => ⟨Nat.not_lt.2 hk.1, hk.2⟩⟩, htok, fun k hk => Nat.lt_of_lt_of_le hk b4.size⟩
    clear hv b4 htb htok d4 z0 z1 z2 z3 z4 f0 f1 f2 f3 f4 c0 c1 c2 c3 c4 c5 c6 c7 c8 c9
    obtain ⟨c0, c1, c2, c3, c4, c5, c6, c7, c8, c9⟩ := RecAt.of H4.out.2.1.r
    simp only at c0 c1 c2 c3 c4 c5 c6 c7 c8 c9
    go_wp2_with fail
    refine (sc_apply w4 B ⟨room.toNat, acc⟩ C cc ns HT.out.1 HT.out.2.2 HT.out.2.1 (HD.out.2.ns.below H4.out.1) (fun g o h0 e => by
      obtain ⟨b, off, e2, hlt, _⟩ := HD.out.2.ns 0 h0
      rw [e] at e2
      simp only [Option.some.injEq, Addr.mk.injEq] at e2
      have := H4.out.2.2.2; show g < _; omega) HD.out.2.nw (by have := HD.out.2.nl; simp only at this; omega)).mono ?_
    rintro x w5 ⟨⟨i, rfl⟩, hone, hfb⟩
    obtain ⟨s3, hs3⟩ : ∃ s3, s3 = (scV ⟨room.toNat, acc⟩ ns).1 := ⟨_, rfl⟩
    obtain ⟨e3, he3⟩ : ∃ e3, e3 = (scV ⟨room.toNat, acc⟩ ns).2 := ⟨_, rfl⟩
    rw [← hs3] at hone
    rw [← he3]
    have HSC : Hid (stepV ⟨p0, p1, acc⟩ room ⟨k, ⟨q0, q1, m⟩, c, p, ns⟩ = (e3, putP ⟨p0, p1, acc⟩ c p s3.l) ∧ TbOk s3) := Lib.hid ⟨by rw [HST.out, ← hs3, ← he3], by rw [hs3]; exact scV_ok ns _ HT.out.2.1 HD.out.2.nw⟩
    have H5 : Hid (Below w.heap.size w w5 ∧ StB w5 X1 X2 R A ca D cd C cc ⟨p0, p1, acc⟩ ⟨k, ⟨q0, q1, m⟩, c, p, ns⟩ ∧ R < w3.heap.size ∧ w.heap.size ≤ w3.heap.size ∧ OneT (· < w3.heap.size) w5 B s3) := Lib.hid ⟨H4.out.1.trans (Kq.Keeps.below hfb H4.out.1.size (fun k _ h => Nat.le_trans H4.out.2.2.2 (Nat.le_of_not_lt h))), H4.out.2.1.keeps hfb (fun h => h (by have := HX.out; have := H4.out.2.2.1; show X1 < _; omega)) (fun h => h (by have := HX.out; have := H4.out.2.2.1; show X2 < _; omega)) (fun h => h H4.out.2.2.1), H4.out.2.2.1, H4.out.2.2.2, hone⟩
    clear hs3 he3 hone hfb H4 HT c0 c1 c2 c3 c4 c5 c6 c7 c8 c9
    have z0 := Kq.blk_cell H5.out.2.1.z 0
    have z1 := Kq.blk_cell H5.out.2.1.z 1
    have z2 := Kq.blk_cell H5.out.2.1.z 2
    have z3 := Kq.blk_cell H5.out.2.1.z 3
    have z4 := Kq.blk_cell H5.out.2.1.z 4
    have f0 := Kq.blk_free H5.out.2.1.z 0
    have f1 := Kq.blk_free H5.out.2.1.z 1
    have f2 := Kq.blk_free H5.out.2.1.z 2
    have f3 := Kq.blk_free H5.out.2.1.z 3
    have f4 := Kq.blk_free H5.out.2.1.z 4
    by_cases g3 : e3 = 0
    case neg =>
      have e4 : (e3 != 0) = true := by rw [bne_iff_ne]; exact g3
      have HE3 := Lib.hid g3
      clear g3
      go_wp2
      clear z0 z1 z2 z3 z4 f0 f1 f2 f3 f4
      change bodyPost _ _ _ _ _ (fillD w5 R 0 0 0 0 (.slice none 0 0))
      have p1' := fillD_blk H5.out.2.1.z 0 0 0 0 (.slice none 0 0)
      have p2' := fillD_keeps w5 R 0 0 0 0 (.slice none 0 0)
      generalize fillD w5 R 0 0 0 0 (.slice none 0 0) = z at *
      have z0 := Kq.blk_cell p1' 0
      have z1 := Kq.blk_cell p1' 1
      have z2 := Kq.blk_cell p1' 2
      have z3 := Kq.blk_cell p1' 3
      have z4 := Kq.blk_cell p1' 4
      refine bodyPost_ret (v := .tuple #[daZ, .int .i64 e3]) (by simp [results, Tryz.results6, go_sem, z0, z1, z2, z3, z4, daZ]) rfl ?_
      rw [HSC.out.1]
      exact ⟨H5.out.1.trans (p2'.below H5.out.1.size (fun k _ h => by have h2 : k = R := h; have := HX.out; omega)), Or.inl ⟨HE3.out, rfl⟩⟩
    have e4 : (e3 != 0) = false := by rw [g3]; rfl
    have HE3 := Lib.hid g3
    clear g3
    have hc01 := HC01.out
    clear HST
    rcases hc01 with rfl | rfl
    · have HPP : Hid (putP ⟨p0, p1, acc⟩ 0 p s3.l = ⟨p, p1, s3.l⟩) := Lib.hid (by unfold putP; simp)
      have k0 := Kq.blk_free H5.out.2.1.d 0
      have k1 := Kq.blk_free H5.out.2.1.d 1
      have k0' := Kq.blk_free (Kq.blk_set H5.out.2.1.d 0 (.int .u64 p.h)) 1
      have y0 := Kq.blk_cell H5.out.2.1.d 0
      have y1 := Kq.blk_cell H5.out.2.1.d 1
      have y1' := Kq.blk_cell (Kq.blk_set H5.out.2.1.d 0 (.int .u64 p.h)) 1
      obtain ⟨c0, c1, c2, c3, c4, c5, c6, c7, c8, c9⟩ := RecAt.of H5.out.2.1.r
      simp only at c0 c1 c2 c3 c4 c5 c6 c7 c8 c9 y0 y1
      have hk6 : Kq.Keeps (· = X1) w5 ((w5.setCell ⟨X1, 0, none⟩ (.int .u64 p.h)).setCell ⟨X1, 1, none⟩ (.int .i64 p.i)) := (Kq.Keeps.setCell (S := (· = X1)) _ _ _ rfl).trans (Kq.Keeps.setCell (S := (· = X1)) _ _ _ rfl)
      have hx6 := Kq.blk_set (Kq.blk_set H5.out.2.1.d 0 (.int .u64 p.h)) 1 (.int .i64 p.i)
      have H6 : Hid (Below w.heap.size w ((w5.setCell ⟨X1, 0, none⟩ (.int .u64 p.h)).setCell ⟨X1, 1, none⟩ (.int .i64 p.i)) ∧ ((w5.setCell ⟨X1, 0, none⟩ (.int .u64 p.h)).setCell ⟨X1, 1, none⟩ (.int .i64 p.i)).heap[X1]? = some (.cells #[.int .u64 p.h, .int .i64 p.i, .int .u64 p1.h, .int .i64 p1.i, .slice A acc.length ca] 28 (0, 0)) ∧ ((w5.setCell ⟨X1, 0, none⟩ (.int .u64 p.h)).setCell ⟨X1, 1, none⟩ (.int .i64 p.i)).heap[R]? = some (.cells #[.int .u64 0, .int .i64 0, .int .u64 0, .int .i64 0, .slice none 0 0] 28 (0, 0)) ∧ OneT (· < w3.heap.size) ((w5.setCell ⟨X1, 0, none⟩ (.int .u64 p.h)).setCell ⟨X1, 1, none⟩ (.int .i64 p.i)) B s3 ∧ X1 < w3.heap.size) := Lib.hid ⟨H5.out.1.trans (hk6.below H5.out.1.size (fun k _ e => by have e2 : k = X1 := e; have := HX.out; omega)), hx6, hk6.blk H5.out.2.1.z (fun e => by have e2 : R = X1 := e; have := HX.out; omega), H5.out.2.2.2.2.keeps hk6 (fun k e => by have e2 : k = X1 := e; have := HX.out; have := H5.out.2.2.1; show k < _; omega), by have := HX.out; have := H5.out.2.2.1; omega⟩
      clear hk6 hx6 z0 z1 z2 z3 z4 f0 f1 f2 f3 f4
      go_wp2_with fail
      clear k0 k1 k0' y0 y1 y1' c0 c1 c2 c3 c4 c5 c6 c7 c8 c9
      obtain ⟨w6, hw6⟩ : ∃ z, z = ((w5.setCell ⟨X1, 0, none⟩ (.int .u64 p.h)).setCell ⟨X1, 1, none⟩ (.int .i64 p.i)) := ⟨_, rfl⟩
      rw [← hw6] at H6 ⊢
      clear hw6
      refine (ot_items H6.out.2.2.2.1 HSC.out.2).mono ?_
      rintro x w7 ⟨v, rfl, ⟨A7, c7, rfl, -, hat7, hge7⟩, b7⟩
      have hx7 := Kq.below_blk b7 H6.out.2.1 (Kq.blk_lt H6.out.2.1)
      have hr7 := Kq.below_blk b7 H6.out.2.2.1 (Kq.blk_lt H6.out.2.2.1)
      have hx8 := Kq.blk_set hx7 4 (.slice A7 s3.l.length c7)
      have hks : Kq.Keeps (· = X1) w7 (w7.setCell ⟨X1, 4, none⟩ (.slice A7 s3.l.length c7)) := Kq.Keeps.setCell _ _ _ rfl
      have hr8 := hks.blk hr7 (fun e => by have e2 : R = X1 := e; have := HX.out; omega)
      have H8 : Hid ((w7.setCell ⟨X1, 4, none⟩ (.slice A7 s3.l.length c7)).heap[R]? = some (.cells #[.int .u64 0, .int .i64 0, .int .u64 0, .int .i64 0, .slice none 0 0] 28 (0, 0)) ∧ EnAt NtV.ic w7 A7 s3.l ∧ (∀ b off, A7 = some ⟨b, off, none⟩ → w6.heap.size ≤ b ∧ b < w7.heap.size) ∧ Below w.heap.size w w7 ∧ X1 < w6.heap.size ∧ R < w6.heap.size) := Lib.hid ⟨hr8, hat7, hge7, H6.out.1.trans (b7.mono H6.out.1.size), Kq.blk_lt H6.out.2.1, Kq.blk_lt H6.out.2.2.1⟩
      have g4 := Kq.blk_cell hx7 4
      have k4 := Kq.blk_free hx7 4
      have x0 := Kq.blk_cell hx8 0
      have x1 := Kq.blk_cell hx8 1
      have x2 := Kq.blk_cell hx8 2
      have x3 := Kq.blk_cell hx8 3
      have x4 := Kq.blk_cell hx8 4
      have z0 := Kq.blk_cell hr8 0
      have z1 := Kq.blk_cell hr8 1
      have z2 := Kq.blk_cell hr8 2
      have z3 := Kq.blk_cell hr8 3
      have z4 := Kq.blk_cell hr8 4
      have f0 := Kq.blk_free hr8 0
      have f1 := Kq.blk_free hr8 1
      have f2 := Kq.blk_free hr8 2
      have f3 := Kq.blk_free hr8 3
      have f4 := Kq.blk_free hr8 4
      clear hx7 hr7 hx8 hks hr8 hat7 hge7 b7
      go_wp2
      clear z0 z1 z2 z3 z4 f0 f1 f2 f3 f4 x0 x1 x2 x3 x4 g4 k4
      change bodyPost _ _ _ _ _ (fillD (w7.setCell ⟨X1, 4, none⟩ (.slice A7 s3.l.length c7)) R p.h p.i p1.h p1.i (.slice A7 s3.l.length c7))
      have p1' := fillD_blk H8.out.1 p.h p.i p1.h p1.i (.slice A7 s3.l.length c7)
      have p2' := (Kq.Keeps.mono (Kq.Keeps.setCell (S := (· = X1)) w7 ⟨X1, 4, none⟩ (.slice A7 s3.l.length c7) rfl) (T := fun k => k = X1 ∨ k = R) (fun k _ h => Or.inl h)).trans ((fillD_keeps (w7.setCell ⟨X1, 4, none⟩ (.slice A7 s3.l.length c7)) R p.h p.i p1.h p1.i (.slice A7 s3.l.length c7)).mono (fun k _ h => Or.inr h))
      generalize fillD (w7.setCell ⟨X1, 4, none⟩ (.slice A7 s3.l.length c7)) R p.h p.i p1.h p1.i (.slice A7 s3.l.length c7) = z at *
      have z0 := Kq.blk_cell p1' 0
      have z1 := Kq.blk_cell p1' 1
      have z2 := Kq.blk_cell p1' 2
      have z3 := Kq.blk_cell p1' 3
      have z4 := Kq.blk_cell p1' 4
      refine bodyPost_ret (v := .tuple #[daV ⟨p, p1, s3.l⟩ A7 c7, .int .i64 0]) (by simp [results, Tryz.results6, go_sem, z0, z1, z2, z3, z4, daV]) rfl ?_
      rw [HSC.out.1, HPP.out]
      refine ⟨H8.out.2.2.2.1.trans (p2'.below H8.out.2.2.2.1.size (fun k _ h => ?_)), Or.inr ⟨HE3.out, A7, c7, rfl, H8.out.2.1.keeps p2' (fun g o e h => ?_), fun b off e => ?_⟩⟩
      · have h1 := HX.out
        rcases h with h | h <;> omega
      · have h1 := (H8.out.2.2.1 g o e).1; have h2 := H8.out.2.2.2.2
        rcases h with h | h <;> omega
      · have h1 := H8.out.2.2.1 b off e; have h4 := p2'.size; have h5 := H6.out.1.size
        exact ⟨by omega, by omega⟩
    · have HPP : Hid (putP ⟨p0, p1, acc⟩ 1 p s3.l = ⟨p0, p, s3.l⟩) := Lib.hid (by unfold putP; simp)
      have k0 := Kq.blk_free H5.out.2.1.d 2
      have k1 := Kq.blk_free H5.out.2.1.d 3
      have k0' := Kq.blk_free (Kq.blk_set H5.out.2.1.d 2 (.int .u64 p.h)) 3
      have y0 := Kq.blk_cell H5.out.2.1.d 2
      have y1 := Kq.blk_cell H5.out.2.1.d 3
      have y1' := Kq.blk_cell (Kq.blk_set H5.out.2.1.d 2 (.int .u64 p.h)) 3
      obtain ⟨c0, c1, c2, c3, c4, c5, c6, c7, c8, c9⟩ := RecAt.of H5.out.2.1.r
      simp only at c0 c1 c2 c3 c4 c5 c6 c7 c8 c9 y0 y1
      have hk6 : Kq.Keeps (· = X1) w5 ((w5.setCell ⟨X1, 2, none⟩ (.int .u64 p.h)).setCell ⟨X1, 3, none⟩ (.int .i64 p.i)) := (Kq.Keeps.setCell (S := (· = X1)) _ _ _ rfl).trans (Kq.Keeps.setCell (S := (· = X1)) _ _ _ rfl)
      have hx6 := Kq.blk_set (Kq.blk_set H5.out.2.1.d 2 (.int .u64 p.h)) 3 (.int .i64 p.i)
      have H6 : Hid (Below w.heap.size w ((w5.setCell ⟨X1, 2, none⟩ (.int .u64 p.h)).setCell ⟨X1, 3, none⟩ (.int .i64 p.i)) ∧ ((w5.setCell ⟨X1, 2, none⟩ (.int .u64 p.h)).setCell ⟨X1, 3, none⟩ (.int .i64 p.i)).heap[X1]? = some (.cells #[.int .u64 p0.h, .int .i64 p0.i, .int .u64 p.h, .int .i64 p.i, .slice A acc.length ca] 28 (0, 0)) ∧ ((w5.setCell ⟨X1, 2, none⟩ (.int .u64 p.h)).setCell ⟨X1, 3, none⟩ (.int .i64 p.i)).heap[R]? = some (.cells #[.int .u64 0, .int .i64 0, .int .u64 0, .int .i64 0, .slice none 0 0] 28 (0, 0)) ∧ OneT (· < w3.heap.size) ((w5.setCell ⟨X1, 2, none⟩ (.int .u64 p.h)).setCell ⟨X1, 3, none⟩ (.int .i64 p.i)) B s3 ∧ X1 < w3.heap.size) := Lib.hid ⟨H5.out.1.trans (hk6.below H5.out.1.size (fun k _ e => by have e2 : k = X1 := e; have := HX.out; omega)), hx6, hk6.blk H5.out.2.1.z (fun e => by have e2 : R = X1 := e; have := HX.out; omega), H5.out.2.2.2.2.keeps hk6 (fun k e => by have e2 : k = X1 := e; have := HX.out; have := H5.out.2.2.1; show k < _; omega), by have := HX.out; have := H5.out.2.2.1; omega⟩
      clear hk6 hx6 z0 z1 z2 z3 z4 f0 f1 f2 f3 f4
      go_wp2_with fail
      clear k0 k1 k0' y0 y1 y1' c0 c1 c2 c3 c4 c5 c6 c7 c8 c9
      obtain ⟨w6, hw6⟩ : ∃ z, z = ((w5.setCell ⟨X1, 2, none⟩ (.int .u64 p.h)).setCell ⟨X1, 3, none⟩ (.int .i64 p.i)) := ⟨_, rfl⟩
      rw [← hw6] at H6 ⊢
      clear hw6
      refine (ot_items H6.out.2.2.2.1 HSC.out.2).mono ?_
      rintro x w7 ⟨v, rfl, ⟨A7, c7, rfl, -, hat7, hge7⟩, b7⟩
      have hx7 := Kq.below_blk b7 H6.out.2.1 (Kq.blk_lt H6.out.2.1)
      have hr7 := Kq.below_blk b7 H6.out.2.2.1 (Kq.blk_lt H6.out.2.2.1)
      have hx8 := Kq.blk_set hx7 4 (.slice A7 s3.l.length c7)
      have hks : Kq.Keeps (· = X1) w7 (w7.setCell ⟨X1, 4, none⟩ (.slice A7 s3.l.length c7)) := Kq.Keeps.setCell _ _ _ rfl
      have hr8 := hks.blk hr7 (fun e => by have e2 : R = X1 := e; have := HX.out; omega)
      have H8 : Hid ((w7.setCell ⟨X1, 4, none⟩ (.slice A7 s3.l.length c7)).heap[R]? = some (.cells #[.int .u64 0, .int .i64 0, .int .u64 0, .int .i64 0, .slice none 0 0] 28 (0, 0)) ∧ EnAt NtV.ic w7 A7 s3.l ∧ (∀ b off, A7 = some ⟨b, off, none⟩ → w6.heap.size ≤ b ∧ b < w7.heap.size) ∧ Below w.heap.size w w7 ∧ X1 < w6.heap.size ∧ R < w6.heap.size) := Lib.hid ⟨hr8, hat7, hge7, H6.out.1.trans (b7.mono H6.out.1.size), Kq.blk_lt H6.out.2.1, Kq.blk_lt H6.out.2.2.1⟩
      have g4 := Kq.blk_cell hx7 4
      have k4 := Kq.blk_free hx7 4
      have x0 := Kq.blk_cell hx8 0
      have x1 := Kq.blk_cell hx8 1
      have x2 := Kq.blk_cell hx8 2
      have x3 := Kq.blk_cell hx8 3
      have x4 := Kq.blk_cell hx8 4
      have z0 := Kq.blk_cell hr8 0
      have z1 := Kq.blk_cell hr8 1
      have z2 := Kq.blk_cell hr8 2
      have z3 := Kq.blk_cell hr8 3
      have z4 := Kq.blk_cell hr8 4
      have f0 := Kq.blk_free hr8 0
      have f1 := Kq.blk_free hr8 1
      have f2 := Kq.blk_free hr8 2
      have f3 := Kq.blk_free hr8 3
      have f4 := Kq.blk_free hr8 4
      clear hx7 hr7 hx8 hks hr8 hat7 hge7 b7
      go_wp2
      clear z0 z1 z2 z3 z4 f0 f1 f2 f3 f4 x0 x1 x2 x3 x4 g4 k4
      change bodyPost _ _ _ _ _ (fillD (w7.setCell ⟨X1, 4, none⟩ (.slice A7 s3.l.length c7)) R p0.h p0.i p.h p.i (.slice A7 s3.l.length c7))
      have p1' := fillD_blk H8.out.1 p0.h p0.i p.h p.i (.slice A7 s3.l.length c7)
      have p2' := (Kq.Keeps.mono (Kq.Keeps.setCell (S := (· = X1)) w7 ⟨X1, 4, none⟩ (.slice A7 s3.l.length c7) rfl) (T := fun k => k = X1 ∨ k = R) (fun k _ h => Or.inl h)).trans ((fillD_keeps (w7.setCell ⟨X1, 4, none⟩ (.slice A7 s3.l.length c7)) R p0.h p0.i p.h p.i (.slice A7 s3.l.length c7)).mono (fun k _ h => Or.inr h))
      generalize fillD (w7.setCell ⟨X1, 4, none⟩ (.slice A7 s3.l.length c7)) R p0.h p0.i p.h p.i (.slice A7 s3.l.length c7) = z at *
      have z0 := Kq.blk_cell p1' 0
      have z1 := Kq.blk_cell p1' 1
      have z2 := Kq.blk_cell p1' 2
      have z3 := Kq.blk_cell p1' 3
      have z4 := Kq.blk_cell p1' 4
      refine bodyPost_ret (v := .tuple #[daV ⟨p0, p, s3.l⟩ A7 c7, .int .i64 0]) (by simp [results, Tryz.results6, go_sem, z0, z1, z2, z3, z4, daV]) rfl ?_
      rw [HSC.out.1, HPP.out]
      refine ⟨H8.out.2.2.2.1.trans (p2'.below H8.out.2.2.2.1.size (fun k _ h => ?_)), Or.inr ⟨HE3.out, A7, c7, rfl, H8.out.2.1.keeps p2' (fun g o e h => ?_), fun b off e => ?_⟩⟩
      · have h1 := HX.out
        rcases h with h | h <;> omega
      · have h1 := (H8.out.2.2.1 g o e).1; have h2 := H8.out.2.2.2.2
        rcases h with h | h <;> omega
      · have h1 := H8.out.2.2.1 b off e; have h4 := p2'.size; have h5 := H6.out.1.size
        exact ⟨by omega, by omega⟩
end Go.Proofs.YtkbiolhcpghmkaaGreat
