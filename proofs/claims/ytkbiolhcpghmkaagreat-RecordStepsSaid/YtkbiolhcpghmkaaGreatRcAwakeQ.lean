/- Merged: RcReplay, RcAwake. Contract of record's Replay on records' own bytes: the walk. Condition: the texts stand in a list. The document's example of record. No condition. -/
import Derived.WalkSpells
import Derived.Outline
import Derived.Test.YtkbiolhcpghmkaaGreatRcPlBQ
import Derived.Deep.QuietTactic
import Derived.BigQuiet
import Derived.Test.YtkbiolhcpghmkaaGreatRcFewQ
namespace Go.Proofs.YtkbiolhcpghmkaaGreat
open Go.RowKit Go.Kq
set_option linter.unusedVariables false
set_option maxRecDepth 100000 in
set_option maxHeartbeats 4000000 in
theorem rec_replay (room : Int) (G : Option Addr) (cap : Nat) (rs : List ReV) (w : World) (hG : TxAt w G rs) (hok : ∀ r ∈ rs, RecOk r ∧ RcNum r) (hl : rs.length ≤ 1000) :
    Calls Tryz.prog 12 #[.int .i64 room, .slice G rs.length cap] w (DaP w (replayV room rs).1 (replayV room rs).2) := by
  obtain ⟨X, hX⟩ : ∃ X, X = w.heap.size := ⟨_, rfl⟩
  obtain ⟨R, hR⟩ : ∃ X, X = w.heap.size + 1 := ⟨_, rfl⟩
  obtain ⟨D, hD⟩ : ∃ X, X = w.heap.size + 1 + 1 := ⟨_, rfl⟩
  obtain ⟨w1, hw1⟩ : ∃ z, z = (w.alloc (.cells #[.int .i64 room] 3)).alloc (.cells #[.int .u64 0, .int .i64 0, .int .u64 0, .int .i64 0, .slice none 0 0] 28) := ⟨_, rfl⟩
  have H1 : Hid (RpB w w1 X R room ∧ w1.heap.size = D) := Lib.hid (by
    have ha := Kq.below_alloc w (.cells #[.int .i64 room] 3)
    have hra := Kq.blk_new w #[.int .i64 room] 3 (0, 0)
    have hb := Kq.below_alloc (w.alloc (.cells #[.int .i64 room] 3)) (.cells #[.int .u64 0, .int .i64 0, .int .u64 0, .int .i64 0, .slice none 0 0] 28)
    have hrb := Kq.blk_new (w.alloc (.cells #[.int .i64 room] 3)) #[.int .u64 0, .int .i64 0, .int .u64 0, .int .i64 0, .slice none 0 0] 28 (0, 0)
    rw [World.size_alloc, ← hR] at hrb
    rw [← hX] at hra
    have hsz : w1.heap.size = w.heap.size + 1 + 1 := by rw [hw1]; simp
    rw [← hw1] at hb hrb
    have hxa := Kq.below_blk hb hra (Kq.blk_lt hra)
    exact ⟨⟨ha.trans (hb.mono ha.size), Kq.blk_cell hxa 0, Kq.blk_lt hxa, hrb⟩, by rw [hsz, hD]⟩)
  have HN : Hid (w.heap.size = X ∧ R = X + 1 ∧ D = X + 2) := Lib.hid (by omega)
  have HG := Lib.hid (And.intro hG hok)
  have HL := Lib.hid hl
  clear hG hok
  by_cases hz : rs = []
  · subst hz
    clear hl
    have z0 := Kq.blk_cell H1.out.1.r 0
    have z1 := Kq.blk_cell H1.out.1.r 1
    have z2 := Kq.blk_cell H1.out.1.r 2
    have z3 := Kq.blk_cell H1.out.1.r 3
    have z4 := Kq.blk_cell H1.out.1.r 4
    have f0 := Kq.blk_free H1.out.1.r 0
    have f1 := Kq.blk_free H1.out.1.r 1
    have f2 := Kq.blk_free H1.out.1.r 2
    have f3 := Kq.blk_free H1.out.1.r 3
    have f4 := Kq.blk_free H1.out.1.r 4
    rw [hw1, hR] at z0 z1 z2 z3 z4 f0 f1 f2 f3 f4
    rw [List.length_nil]
    go_enter Tryz.func12, Tryz.ntmps12
    go_wp2
    rw [← hR, ← hw1]
    clear hw1 hR z0 z1 z2 z3 z4 f0 f1 f2 f3 f4
    have z0 := Kq.blk_cell H1.out.1.r 0
    have z1 := Kq.blk_cell H1.out.1.r 1
    have z2 := Kq.blk_cell H1.out.1.r 2
    have z3 := Kq.blk_cell H1.out.1.r 3
    have z4 := Kq.blk_cell H1.out.1.r 4
    refine bodyPost_ret (v := .tuple #[daZ, .int .i64 3]) (by simp [results, Tryz.results12, go_sem, z0, z1, z2, z3, z4, daZ]) rfl ?_
    exact ⟨H1.out.1.bel, Or.inl ⟨show ¬ ((3 : Int) = 0) by decide, rfl⟩⟩
  have hz0 : 0 < rs.length := List.length_pos_iff.2 hz
  have e0 : ((rs.length : Int) == 0) = false := beq_eq_false_iff_ne.2 (by omega)
  have e0' : (rs.length == 0) = false := beq_eq_false_iff_ne.2 (by omega)
  have HZ := Lib.hid hz0
  obtain ⟨w2, hw2⟩ : ∃ z, z = w1.alloc (.cells #[.int .u64 0, .int .i64 0, .int .u64 0, .int .i64 0, .slice none 0 0] 28) := ⟨_, rfl⟩
  have H2 : Hid (RpB w w2 X R room ∧ w2.heap[D]? = some (.cells #[.int .u64 0, .int .i64 0, .int .u64 0, .int .i64 0, .slice none 0 0] 28 (0, 0))) := Lib.hid (by
    have hb := Kq.below_alloc w1 (.cells #[.int .u64 0, .int .i64 0, .int .u64 0, .int .i64 0, .slice none 0 0] 28)
    have hrb := Kq.blk_new w1 #[.int .u64 0, .int .i64 0, .int .u64 0, .int .i64 0, .slice none 0 0] 28 (0, 0)
    rw [H1.out.2] at hrb
    rw [← hw2] at hb hrb
    exact ⟨H1.out.1.below hb, hrb⟩)
  clear H1
  rw [hw1] at hw2
  clear hw1 w1 hz hz0
  go_enter Tryz.func12, Tryz.ntmps12
  go_wp2
  rw [← hw2, ← hD, ← hR, ← hX]
  clear hw2 hX hR hD e0 e0'
  go_loopw [7, 19] (fun f i wr => ∃ j : Nat, j ≤ rs.length ∧ i = .int .i64 (j : Int) ∧ RpB w wr X R room ∧ ((j = 0 ∧ f = .func (.func 28) #[] #[.pointer (some ⟨X, 0, none⟩)] ∧ wr.heap[D]? = some (.cells #[.int .u64 0, .int .i64 0, .int .u64 0, .int .i64 0, .slice none 0 0] 28 (0, 0))) ∨ (0 < j ∧ f = .func (.func 30) #[] #[.pointer (some ⟨D, 0, none⟩), .pointer (some ⟨X, 0, none⟩)] ∧ ∃ d A c, replayV room (rs.take j) = (0, d) ∧ RpD w wr D A c d))) (fun _ i _ => rs.length - (intOf i).toNat)
  case atStart => exact ⟨0, Nat.zero_le _, rfl, H2.out.1, Or.inl ⟨rfl, rfl, H2.out.2⟩⟩
  case round =>
    obtain ⟨j, hj, rfl, hB, hst⟩ := hrel
    by_cases hlt : j < rs.length
    · obtain ⟨r, hr⟩ : ∃ r, r = rs[j] := ⟨_, rfl⟩
      obtain ⟨gb, go', rfl, hgl, hc⟩ := (HG.out.1.below hB.bel) j hlt
      rw [← hr] at hc
      have HRR : Hid (RecOk r ∧ RcNum r) := Lib.hid (HG.out.2 r (by rw [hr]; exact List.getElem_mem _))
      have HTK : Hid (rs.take (j + 1) = rs.take j ++ [r] ∧ rs = rs.take j ++ r :: rs.drop (j + 1)) := Lib.hid (by
        rw [hr]
        refine ⟨List.take_succ_eq_append_getElem hlt, ?_⟩
        rw [← List.drop_eq_getElem_cons hlt, List.take_append_drop])
      have HLT := Lib.hid hlt
      have HST := Lib.hid hst
      have HB := Lib.hid hB
      have e1 : decide ((j : Int) < (rs.length : Int)) = true := decide_eq_true (by omega)
      have e1' : decide (j < rs.length) = true := decide_eq_true hlt
      clear hr hst hB hlt hj
      go_wp2_with fail
      clear hc hgl e1 e1'
      refine (rec_parse r wr HRR.out.1 HRR.out.2).mono ?_
      rintro x w2 ⟨A, ca, C, cc, rfl, hrw, b2⟩
      have H2 : Hid (RpB w w2 X R room ∧ RecW w2 A C r ∧ Below wr.heap.size wr w2) := Lib.hid ⟨HB.out.below b2, hrw, b2⟩
      clear hrw b2 HB
      obtain ⟨w3, hw3⟩ : ∃ z, z = w2.alloc (.cells #[.int .i64 r.k, .int .u64 r.d.p0.h, .int .i64 r.d.p0.i, .int .u64 r.d.p1.h, .int .i64 r.d.p1.i, .slice A r.d.l.length ca, .int .i64 r.c, .int .u64 r.p.h, .int .i64 r.p.i, .slice C r.ns.length cc] 31) := ⟨_, rfl⟩
      have H3 : Hid (RpB w w3 X R room ∧ RecW w3 A C r ∧ RecAt w3 w2.heap.size A ca C cc r ∧ Below wr.heap.size wr w3) := Lib.hid (by
        have hb := Kq.below_alloc w2 (.cells #[.int .i64 r.k, .int .u64 r.d.p0.h, .int .i64 r.d.p0.i, .int .u64 r.d.p1.h, .int .i64 r.d.p1.i, .slice A r.d.l.length ca, .int .i64 r.c, .int .u64 r.p.h, .int .i64 r.p.i, .slice C r.ns.length cc] 31)
        have hrb := Kq.blk_new w2 #[.int .i64 r.k, .int .u64 r.d.p0.h, .int .i64 r.d.p0.i, .int .u64 r.d.p1.h, .int .i64 r.d.p1.i, .slice A r.d.l.length ca, .int .i64 r.c, .int .u64 r.p.h, .int .i64 r.p.i, .slice C r.ns.length cc] 31 (0, 0)
        rw [← hw3] at hb hrb
        exact ⟨H2.out.1.below hb, H2.out.2.1.below hb, RecAt.of hrb, H2.out.2.2.trans (hb.mono H2.out.2.2.size)⟩)
      clear H2
      unfold reV
      obtain ⟨k, ⟨q0, q1, m⟩, c, p, ns⟩ := r
      obtain ⟨c0, c1, c2, c3, c4, c5, c6, c7, c8, c9⟩ := H3.out.2.2.1
      simp only at c0 c1 c2 c3 c4 c5 c6 c7 c8 c9 hw3 ⊢
      rw [hw3] at c0 c1 c2 c3 c4 c5 c6 c7 c8 c9
      -- BEGIN-TAIL
      rcases HST.out with ⟨hj0, rfl, hdz⟩ | ⟨hj0, rfl, d, A0, cA, hrep, hrd⟩
      · have HDZ := Lib.hid (Kq.below_blk H3.out.2.2.2 hdz (Kq.blk_lt hdz))
        have HTK0 : Hid (rs.take (j + 1) = [⟨k, ⟨q0, q1, m⟩, c, p, ns⟩] ∧ ∃ rest, rs = ⟨k, ⟨q0, q1, m⟩, c, p, ns⟩ :: rest) := Lib.hid (by
          have h1 := HTK.out.1
          have h2 := HTK.out.2
          have e0 : rs.take j = [] := by rw [hj0]; rfl
          rw [e0] at h1 h2
          exact ⟨h1, _, h2⟩)
        have HEV : Hid (nextE ⟨k, ⟨q0, q1, m⟩, c, p, ns⟩ room ≠ 0 → (replayV room rs).1 = nextE ⟨k, ⟨q0, q1, m⟩, c, p, ns⟩ room) := Lib.hid (fun h => by
          obtain ⟨rest, h2⟩ := HTK0.out.2
          rw [h2]; exact repl_bad1 h)
        have HPR : Hid (nextE ⟨k, ⟨q0, q1, m⟩, c, p, ns⟩ room = 0 → replayV room (rs.take (j + 1)) = (0, (⟨k, ⟨q0, q1, m⟩, c, p, ns⟩ : ReV).d) ∧ DaNum (⟨k, ⟨q0, q1, m⟩, c, p, ns⟩ : ReV).d ∧ (⟨k, ⟨q0, q1, m⟩, c, p, ns⟩ : ReV).d.l.length ≤ 40) := Lib.hid (fun h => by
          rw [HTK0.out.1, repl_one h]
          have hk : k = 1 := by
            unfold nextE at h
            by_cases g : k = 1
            · exact g
            · rw [if_neg g] at h; cases h
          have h2 : chkV ⟨q0, q1, m⟩ room = 0 := by
            unfold nextE at h
            rw [if_pos hk] at h; exact h
          have h3 := (chk_tb HRR.out.2.d h2).2
          exact ⟨rfl, HRR.out.2.d, Nat.le_trans h3.len h3.r40⟩)
        clear hdz hj0 HST HTK HTK0
        go_wp2_with fail
        rw [← hw3]
        clear c0 c1 c2 c3 c4 c5 c6 c7 c8 c9 hw3
        refine (rec_next1 X room A ca C cc ⟨k, ⟨q0, q1, m⟩, c, p, ns⟩ w3 H3.out.1.x H3.out.1.xl H3.out.2.1).mono ?_
        intro x w4 hx
        have HD := Lib.hid hx
        have HH4 : Hid (RpB w w4 X R room ∧ w4.heap[D]? = some (.cells #[.int .u64 0, .int .i64 0, .int .u64 0, .int .i64 0, .slice none 0 0] 28 (0, 0)) ∧ Below w3.heap.size w3 w4 ∧ D < w3.heap.size ∧ w.heap.size ≤ w3.heap.size) := Lib.hid ⟨H3.out.1.below hx.1, Kq.below_blk hx.1 HDZ.out (Kq.blk_lt HDZ.out), hx.1, Kq.blk_lt HDZ.out, H3.out.1.bel.size⟩
        have hx2 := hx.2
        clear hx H3 HDZ
        obtain ⟨e, he⟩ : ∃ e, e = nextE ⟨k, ⟨q0, q1, m⟩, c, p, ns⟩ room := ⟨_, rfl⟩
        rw [← he] at hx2 HEV HPR
        clear he HD
        have y0 := Kq.blk_cell HH4.out.2.1 0
        have y1 := Kq.blk_cell HH4.out.2.1 1
        have y2 := Kq.blk_cell HH4.out.2.1 2
        have y3 := Kq.blk_cell HH4.out.2.1 3
        have y4 := Kq.blk_cell HH4.out.2.1 4
        have g0 := Kq.blk_free HH4.out.2.1 0
        have g1 := Kq.blk_free HH4.out.2.1 1
        have g2 := Kq.blk_free HH4.out.2.1 2
        have g3 := Kq.blk_free HH4.out.2.1 3
        have g4 := Kq.blk_free HH4.out.2.1 4
        have HRD : Hid (R ≠ D ∧ X ≠ D ∧ w.heap.size ≤ D ∧ w.heap.size ≤ R) := Lib.hid (by have := HN.out; omega)
        rcases hx2 with ⟨e0, rfl⟩ | ⟨e0, A', c', rfl, hat, hge⟩
        · have hq := (fillD_keeps w4 D 0 0 0 0 (.slice none 0 0)).blk HH4.out.1.r HRD.out.1
          have HQ := Lib.hid hq
          have z0 := Kq.blk_cell hq 0
          have z1 := Kq.blk_cell hq 1
          have z2 := Kq.blk_cell hq 2
          have z3 := Kq.blk_cell hq 3
          have z4 := Kq.blk_cell hq 4
          have f0 := Kq.blk_free hq 0
          have f1 := Kq.blk_free hq 1
          have f2 := Kq.blk_free hq 2
          have f3 := Kq.blk_free hq 3
          have f4 := Kq.blk_free hq 4
          unfold fillD at z0 z1 z2 z3 z4 f0 f1 f2 f3 f4
          have e1 : (e != 0) = true := by rw [bne_iff_ne]; exact e0
          have HE0 : Hid ((replayV room rs).1 = e ∧ e ≠ 0) := Lib.hid ⟨HEV.out e0, e0⟩
          clear hq e0
          unfold daZ
          go_wp2
          clear y0 y1 y2 y3 y4 g0 g1 g2 g3 g4 z0 z1 z2 z3 z4 f0 f1 f2 f3 f4
          change bodyPost _ _ _ _ _ (fillD (fillD w4 D 0 0 0 0 (.slice none 0 0)) R 0 0 0 0 (.slice none 0 0))
          have p1' := fillD_blk HQ.out 0 0 0 0 (.slice none 0 0)
          have p2' := fillD_keeps (fillD w4 D 0 0 0 0 (.slice none 0 0)) R 0 0 0 0 (.slice none 0 0)
          have p3' := fillD_keeps w4 D 0 0 0 0 (.slice none 0 0)
          generalize fillD (fillD w4 D 0 0 0 0 (.slice none 0 0)) R 0 0 0 0 (.slice none 0 0) = z at *
          have z0 := Kq.blk_cell p1' 0
          have z1 := Kq.blk_cell p1' 1
          have z2 := Kq.blk_cell p1' 2
          have z3 := Kq.blk_cell p1' 3
          have z4 := Kq.blk_cell p1' 4
          refine bodyPost_ret (v := .tuple #[daZ, .int .i64 e]) (by simp [results, Tryz.results12, go_sem, z0, z1, z2, z3, z4, daZ]) rfl ?_
          rw [HE0.out.1]
          have k1 := (HH4.out.1.keeps p3' HRD.out.2.1 HRD.out.1 HRD.out.2.2.1).bel
          exact ⟨k1.trans (p2'.below k1.size (fun k _ h => by rw [show k = R from h]; exact HRD.out.2.2.2)), Or.inl ⟨HE0.out.2, rfl⟩⟩
        · have HAT : Hid (EnAt NtV.ic w4 A' (⟨k, ⟨q0, q1, m⟩, c, p, ns⟩ : ReV).d.l ∧ (∀ b off, A' = some ⟨b, off, none⟩ → w3.heap.size ≤ b ∧ b < w4.heap.size)) := Lib.hid ⟨hat, hge⟩
          have HP0 := Lib.hid (HPR.out e0)
          subst e0
          clear hat hge HEV HPR
          obtain ⟨dv, hdv⟩ : ∃ dv, dv = (⟨k, ⟨q0, q1, m⟩, c, p, ns⟩ : ReV).d := ⟨_, rfl⟩
          replace HAT : Hid (EnAt NtV.ic w4 A' dv.l ∧ (∀ b off, A' = some ⟨b, off, none⟩ → w3.heap.size ≤ b ∧ b < w4.heap.size)) := by rw [hdv]; exact HAT
          replace HP0 : Hid (replayV room (rs.take (j + 1)) = (0, dv) ∧ DaNum dv ∧ dv.l.length ≤ 40) := by rw [hdv]; exact HP0
          rw [show daV ((⟨k, ⟨q0, q1, m⟩, c, p, ns⟩ : ReV).d) A' c' = daV dv A' c' from by rw [hdv]]
          clear hdv
          obtain ⟨s0, s1, sl⟩ := dv
          unfold daV
          simp only
          go_wp2
          clear y0 y1 y2 y3 y4 g0 g1 g2 g3 g4
          go_roundw
          case rel =>
            have p1' := fillD_blk HH4.out.2.1 s0.h s0.i s1.h s1.i (.slice A' sl.length c')
            have p2' := fillD_keeps w4 D s0.h s0.i s1.h s1.i (.slice A' sl.length c')
            refine ⟨j + 1, HLT.out, by go_num, HH4.out.1.keeps p2' HRD.out.2.1 HRD.out.1 HRD.out.2.2.1, Or.inr ⟨Nat.succ_pos _, rfl, ⟨s0, s1, sl⟩, A', c', HP0.out.1, p1', ⟨HP0.out.2.1.p0, HP0.out.2.1.p1, HAT.out.1.keeps p2' (fun g o e h => by have h1 := (HAT.out.2 g o e).1; have h2 : g = D := h; have := HH4.out.2.2.2.1; omega), HP0.out.2.1.lw, Nat.le_trans HP0.out.2.2 (by decide)⟩, fun b off e => ?_⟩⟩
            have h1 := HAT.out.2 b off e
            have h2 := HH4.out.2.2.2.1
            exact ⟨by omega, Nat.lt_of_lt_of_le h1.2 p2'.size⟩
          case measure => have := HLT.out; simp [intOf]; omega
      · have HDZ := Lib.hid (hrd.below H3.out.2.2.2).x
        have HRD0 := Lib.hid (hrd.below H3.out.2.2.2).dw
        have HEV : Hid ((stepV d room ⟨k, ⟨q0, q1, m⟩, c, p, ns⟩).1 ≠ 0 → (replayV room rs).1 = (stepV d room ⟨k, ⟨q0, q1, m⟩, c, p, ns⟩).1) := Lib.hid (fun h => by
          rw [HTK.out.2]; exact repl_bad _ hrep h)
        have HPR : Hid ((stepV d room ⟨k, ⟨q0, q1, m⟩, c, p, ns⟩).1 = 0 → replayV room (rs.take (j + 1)) = (0, (stepV d room ⟨k, ⟨q0, q1, m⟩, c, p, ns⟩).2) ∧ DaNum (stepV d room ⟨k, ⟨q0, q1, m⟩, c, p, ns⟩).2 ∧ (stepV d room ⟨k, ⟨q0, q1, m⟩, c, p, ns⟩).2.l.length ≤ 40) := Lib.hid (fun h => by
          rw [HTK.out.1]
          have h2 := step_num hrd.dw.num HRR.out.2 h
          have h3 := (chk_tb h2.1 h2.2).2
          exact ⟨repl_next hrep h, h2.1, Nat.le_trans h3.len h3.r40⟩)
        clear hj0 HST HTK hrep hrd
        go_wp2_with fail
        rw [← hw3]
        clear c0 c1 c2 c3 c4 c5 c6 c7 c8 c9 hw3
        refine (rec_next2 X D room A0 cA d A ca C cc ⟨k, ⟨q0, q1, m⟩, c, p, ns⟩ w3 H3.out.1.x H3.out.1.xl HDZ.out HRD0.out H3.out.2.1).mono ?_
        intro x w4 hx
        unfold DaX at HDZ
        have HD := Lib.hid hx
        have HH4 : Hid (RpB w w4 X R room ∧ w4.heap[D]? = some (.cells #[.int .u64 d.p0.h, .int .i64 d.p0.i, .int .u64 d.p1.h, .int .i64 d.p1.i, .slice A0 d.l.length cA] 28 (0, 0)) ∧ Below w3.heap.size w3 w4 ∧ D < w3.heap.size ∧ w.heap.size ≤ w3.heap.size) := Lib.hid ⟨H3.out.1.below hx.1, Kq.below_blk hx.1 HDZ.out (Kq.blk_lt HDZ.out), hx.1, Kq.blk_lt HDZ.out, H3.out.1.bel.size⟩
        have hx2 := hx.2
        clear hx H3 HDZ
        obtain ⟨e, he⟩ : ∃ e, e = (stepV d room ⟨k, ⟨q0, q1, m⟩, c, p, ns⟩).1 := ⟨_, rfl⟩
        rw [← he] at hx2 HEV HPR
        clear he HD
        have y0 := Kq.blk_cell HH4.out.2.1 0
        have y1 := Kq.blk_cell HH4.out.2.1 1
        have y2 := Kq.blk_cell HH4.out.2.1 2
        have y3 := Kq.blk_cell HH4.out.2.1 3
        have y4 := Kq.blk_cell HH4.out.2.1 4
        have g0 := Kq.blk_free HH4.out.2.1 0
        have g1 := Kq.blk_free HH4.out.2.1 1
        have g2 := Kq.blk_free HH4.out.2.1 2
        have g3 := Kq.blk_free HH4.out.2.1 3
        have g4 := Kq.blk_free HH4.out.2.1 4
        have HRD : Hid (R ≠ D ∧ X ≠ D ∧ w.heap.size ≤ D ∧ w.heap.size ≤ R) := Lib.hid (by have := HN.out; omega)
        rcases hx2 with ⟨e0, rfl⟩ | ⟨e0, A', c', rfl, hat, hge⟩
        · have hq := (fillD_keeps w4 D 0 0 0 0 (.slice none 0 0)).blk HH4.out.1.r HRD.out.1
          have HQ := Lib.hid hq
          have z0 := Kq.blk_cell hq 0
          have z1 := Kq.blk_cell hq 1
          have z2 := Kq.blk_cell hq 2
          have z3 := Kq.blk_cell hq 3
          have z4 := Kq.blk_cell hq 4
          have f0 := Kq.blk_free hq 0
          have f1 := Kq.blk_free hq 1
          have f2 := Kq.blk_free hq 2
          have f3 := Kq.blk_free hq 3
          have f4 := Kq.blk_free hq 4
          unfold fillD at z0 z1 z2 z3 z4 f0 f1 f2 f3 f4
          have e1 : (e != 0) = true := by rw [bne_iff_ne]; exact e0
          have HE0 : Hid ((replayV room rs).1 = e ∧ e ≠ 0) := Lib.hid ⟨HEV.out e0, e0⟩
          clear hq e0
          unfold daZ
          go_wp2
          clear y0 y1 y2 y3 y4 g0 g1 g2 g3 g4 z0 z1 z2 z3 z4 f0 f1 f2 f3 f4
          change bodyPost _ _ _ _ _ (fillD (fillD w4 D 0 0 0 0 (.slice none 0 0)) R 0 0 0 0 (.slice none 0 0))
          have p1' := fillD_blk HQ.out 0 0 0 0 (.slice none 0 0)
          have p2' := fillD_keeps (fillD w4 D 0 0 0 0 (.slice none 0 0)) R 0 0 0 0 (.slice none 0 0)
          have p3' := fillD_keeps w4 D 0 0 0 0 (.slice none 0 0)
          generalize fillD (fillD w4 D 0 0 0 0 (.slice none 0 0)) R 0 0 0 0 (.slice none 0 0) = z at *
          have z0 := Kq.blk_cell p1' 0
          have z1 := Kq.blk_cell p1' 1
          have z2 := Kq.blk_cell p1' 2
          have z3 := Kq.blk_cell p1' 3
          have z4 := Kq.blk_cell p1' 4
          refine bodyPost_ret (v := .tuple #[daZ, .int .i64 e]) (by simp [results, Tryz.results12, go_sem, z0, z1, z2, z3, z4, daZ]) rfl ?_
          rw [HE0.out.1]
          have k1 := (HH4.out.1.keeps p3' HRD.out.2.1 HRD.out.1 HRD.out.2.2.1).bel
          exact ⟨k1.trans (p2'.below k1.size (fun k _ h => by rw [show k = R from h]; exact HRD.out.2.2.2)), Or.inl ⟨HE0.out.2, rfl⟩⟩
        · have HAT : Hid (EnAt NtV.ic w4 A' (stepV d room ⟨k, ⟨q0, q1, m⟩, c, p, ns⟩).2.l ∧ (∀ b off, A' = some ⟨b, off, none⟩ → w3.heap.size ≤ b ∧ b < w4.heap.size)) := Lib.hid ⟨hat, hge⟩
          have HP0 := Lib.hid (HPR.out e0)
          subst e0
          clear hat hge HEV HPR
          obtain ⟨dv, hdv⟩ : ∃ dv, dv = (stepV d room ⟨k, ⟨q0, q1, m⟩, c, p, ns⟩).2 := ⟨_, rfl⟩
          replace HAT : Hid (EnAt NtV.ic w4 A' dv.l ∧ (∀ b off, A' = some ⟨b, off, none⟩ → w3.heap.size ≤ b ∧ b < w4.heap.size)) := by rw [hdv]; exact HAT
          replace HP0 : Hid (replayV room (rs.take (j + 1)) = (0, dv) ∧ DaNum dv ∧ dv.l.length ≤ 40) := by rw [hdv]; exact HP0
          rw [show daV ((stepV d room ⟨k, ⟨q0, q1, m⟩, c, p, ns⟩).2) A' c' = daV dv A' c' from by rw [hdv]]
          clear hdv
          obtain ⟨s0, s1, sl⟩ := dv
          unfold daV
          simp only
          go_wp2
          clear y0 y1 y2 y3 y4 g0 g1 g2 g3 g4
          go_roundw
          case rel =>
            have p1' := fillD_blk HH4.out.2.1 s0.h s0.i s1.h s1.i (.slice A' sl.length c')
            have p2' := fillD_keeps w4 D s0.h s0.i s1.h s1.i (.slice A' sl.length c')
            refine ⟨j + 1, HLT.out, by go_num, HH4.out.1.keeps p2' HRD.out.2.1 HRD.out.1 HRD.out.2.2.1, Or.inr ⟨Nat.succ_pos _, rfl, ⟨s0, s1, sl⟩, A', c', HP0.out.1, p1', ⟨HP0.out.2.1.p0, HP0.out.2.1.p1, HAT.out.1.keeps p2' (fun g o e h => by have h1 := (HAT.out.2 g o e).1; have h2 : g = D := h; have := HH4.out.2.2.2.1; omega), HP0.out.2.1.lw, Nat.le_trans HP0.out.2.2 (by decide)⟩, fun b off e => ?_⟩⟩
            have h1 := HAT.out.2 b off e
            have h2 := HH4.out.2.2.2.1
            exact ⟨by omega, Nat.lt_of_lt_of_le h1.2 p2'.size⟩
          case measure => have := HLT.out; simp [intOf]; omega
    · obtain rfl : j = rs.length := by omega
      have e1 : decide ((rs.length : Int) < (rs.length : Int)) = false := decide_eq_false (by omega)
      have e1' : decide (rs.length < rs.length) = false := decide_eq_false hlt
      have HRD : Hid (R ≠ D ∧ w.heap.size ≤ R) := Lib.hid (by have := HN.out; omega)
      rcases hst with ⟨h0, _, _⟩ | ⟨_, rfl, d, A0, cA, hrep, hrd⟩
      · have := HZ.out; omega
      rw [List.take_length] at hrep
      have HREP := Lib.hid hrep
      have HD := Lib.hid hrd
      have HB := Lib.hid hB
      obtain ⟨p0, p1, l⟩ := d
      have t0 := Kq.blk_cell hrd.x 0
      have t1 := Kq.blk_cell hrd.x 1
      have t2 := Kq.blk_cell hrd.x 2
      have t3 := Kq.blk_cell hrd.x 3
      have t4 := Kq.blk_cell hrd.x 4
      simp only at t0 t1 t2 t3 t4
      have z0 := Kq.blk_cell hB.r 0
      have z1 := Kq.blk_cell hB.r 1
      have z2 := Kq.blk_cell hB.r 2
      have z3 := Kq.blk_cell hB.r 3
      have z4 := Kq.blk_cell hB.r 4
      have f0 := Kq.blk_free hB.r 0
      have f1 := Kq.blk_free hB.r 1
      have f2 := Kq.blk_free hB.r 2
      have f3 := Kq.blk_free hB.r 3
      have f4 := Kq.blk_free hB.r 4
      clear hrep hrd hB hlt hj hl
      go_wp2
      clear t0 t1 t2 t3 t4 z0 z1 z2 z3 z4 f0 f1 f2 f3 f4
      change bodyPost _ _ _ _ _ (fillD wr R p0.h p0.i p1.h p1.i (.slice A0 l.length cA))
      have p1' := fillD_blk HB.out.r p0.h p0.i p1.h p1.i (.slice A0 l.length cA)
      have p2' := fillD_keeps wr R p0.h p0.i p1.h p1.i (.slice A0 l.length cA)
      generalize fillD wr R p0.h p0.i p1.h p1.i (.slice A0 l.length cA) = z at *
      have z0 := Kq.blk_cell p1' 0
      have z1 := Kq.blk_cell p1' 1
      have z2 := Kq.blk_cell p1' 2
      have z3 := Kq.blk_cell p1' 3
      have z4 := Kq.blk_cell p1' 4
      refine bodyPost_ret (v := .tuple #[daV ⟨p0, p1, l⟩ A0 cA, .int .i64 0]) (by simp [results, Tryz.results12, go_sem, z0, z1, z2, z3, z4, daV]) rfl ?_
      rw [HREP.out]
      refine ⟨HB.out.bel.trans (p2'.below HB.out.bel.size (fun k _ h => by rw [show k = R from h]; exact HRD.out.2)), Or.inr ⟨rfl, A0, cA, rfl, HD.out.dw.l.keeps p2' (fun g o e h => ?_), fun b off e => ⟨by have h1 := (HD.out.f b off e).1; have h2 := HN.out; omega, Nat.lt_of_lt_of_le (HD.out.f b off e).2 p2'.size⟩⟩⟩
      have h2 : g = R := h
      have h1 := (HD.out.f g o e).1
      have h3 := HN.out
      omega
end Go.Proofs.YtkbiolhcpghmkaaGreat
namespace Go.Proofs.YtkbiolhcpghmkaaGreat
open Go.RowKit Go.Kq
set_option linter.unusedVariables false
def awN : NtV := ⟨1, 0, 1, 9, ⟨#[]⟩⟩
def awA : ReV := ⟨1, ⟨PlV.z, PlV.z, []⟩, 0, PlV.z, []⟩
def awB : ReV := ⟨2, ⟨PlV.z, PlV.z, []⟩, 0, ⟨5, 1⟩, [awN]⟩
def awD : DaV := ⟨⟨5, 1⟩, PlV.z, [awN]⟩
theorem awN_wf : awN.wf := by unfold NtV.wf awN; simp only; omega
theorem awA_ok : RecOk awA := by
  have h : decide (RecOk awA) = true := by kernel_rfl
  exact of_decide_eq_true h
theorem awB_ok : RecOk awB := by
  have h : decide (RecOk awB) = true := by kernel_rfl
  exact of_decide_eq_true h
theorem awB_num : RcNum awB := ⟨plz_wf, plz_wf, ⟨by decide, by decide⟩, (by intro n h; cases h), fun n h => by
  have h' : n ∈ [awN] := h
  rw [List.mem_singleton.1 h']; exact awN_wf⟩
theorem awA_num : RcNum awA := ⟨plz_wf, plz_wf, plz_wf, (by intro n h; cases h), (by intro n h; cases h)⟩
theorem aw_rep1 : (replayV 2 [awA, awB]).1 = 0 := by kernel_rfl
theorem aw_rep2 : (replayV 2 [awA, awB]).2 = awD := by kernel_rfl
theorem recT_ok {r : ReV} (h : RecOk r) : recT r = txt (encR r) := if_pos h
theorem recE_ok {r : ReV} (h : RecOk r) : recE r = 0 := if_pos h
set_option maxRecDepth 100000 in
set_option maxHeartbeats 4000000 in
theorem awake17 (w : World) : Calls Tryz.prog 4 #[] w fun x w' => x = .returned (.bool true) ∧ Below w.heap.size w w' := by
  obtain ⟨w1, hw1⟩ : ∃ z, z = w.alloc (.cells #[.int .i64 1, .int .i64 0, .int .u64 1, .int .u64 9, .string ⟨#[]⟩] 46) := ⟨_, rfl⟩
  have H1 : Hid (Below w.heap.size w w1 ∧ w1.heap[w.heap.size]? = some (.cells #[.int .i64 1, .int .i64 0, .int .u64 1, .int .u64 9, .string ⟨#[]⟩] 46 (0, 0))) := Lib.hid (by
    have ha := Kq.below_alloc w (.cells #[.int .i64 1, .int .i64 0, .int .u64 1, .int .u64 9, .string ⟨#[]⟩] 46)
    have hr := Kq.blk_new w #[.int .i64 1, .int .i64 0, .int .u64 1, .int .u64 9, .string ⟨#[]⟩] 46 (0, 0)
    rw [← hw1] at ha hr
    exact ⟨ha, hr⟩)
  obtain ⟨N0, hN0⟩ : ∃ N0, N0 = w.heap.size := ⟨_, rfl⟩
  replace H1 : Hid (Below w.heap.size w w1 ∧ w1.heap[N0]? = some (.cells #[.int .i64 1, .int .i64 0, .int .u64 1, .int .u64 9, .string ⟨#[]⟩] 46 (0, 0))) := Lib.hid ⟨H1.out.1, by rw [hN0]; exact H1.out.2⟩
  go_enter Tryz.func4, Tryz.ntmps4
  go_wp2_with fail
  rw [← hw1, ← hN0]
  clear hw1
  have hA := rec_bytes none 0 none 0 awA w1 ⟨plz_wf, plz_wf, plz_wf, enAt_nil _ _ _, enAt_nil _ _ _, (by intro n h; cases h), (by intro n h; cases h), (by decide), (by decide)⟩
  refine hA.mono ?_
  clear hA
  rintro x w2 ⟨rfl, b2⟩
  have H2 : Hid (Below w.heap.size w w2 ∧ w2.heap[N0]? = some (.cells #[.int .i64 1, .int .i64 0, .int .u64 1, .int .u64 9, .string ⟨#[]⟩] 46 (0, 0))) := Lib.hid ⟨H1.out.1.trans (b2.mono H1.out.1.size), Kq.below_blk b2 H1.out.2 (Kq.blk_lt H1.out.2)⟩
  rw [recE_ok awA_ok]
  obtain ⟨ta, hta⟩ : ∃ ta, ta = recT awA := ⟨_, rfl⟩
  rw [← hta]
  have HTA := Lib.hid (hta.trans (recT_ok awA_ok))
  clear b2 H1 hta
  have n0 := Kq.blk_cell H2.out.2 0
  have n1 := Kq.blk_cell H2.out.2 1
  have n2 := Kq.blk_cell H2.out.2 2
  have n3 := Kq.blk_cell H2.out.2 3
  have n4 := Kq.blk_cell H2.out.2 4
  have HN0 := Lib.hid hN0
  clear hN0
  go_wp2_with fail
  obtain ⟨w3, hw3⟩ : ∃ z, z = w2.alloc (.cells #[.int .i64 1, .int .i64 0, .int .u64 1, .int .u64 9, .string ⟨#[]⟩] 46) := ⟨_, rfl⟩
  have H3 : Hid (Below w.heap.size w w3 ∧ w3.heap[N0]? = some (.cells #[.int .i64 1, .int .i64 0, .int .u64 1, .int .u64 9, .string ⟨#[]⟩] 46 (0, 0)) ∧ EnAt NtV.nc w3 (some ⟨w2.heap.size, 0, none⟩) [awN]) := Lib.hid (by
    have hb := Kq.below_alloc w2 (.cells #[.int .i64 1, .int .i64 0, .int .u64 1, .int .u64 9, .string ⟨#[]⟩] 46)
    have hr := Kq.blk_new w2 #[.int .i64 1, .int .i64 0, .int .u64 1, .int .u64 9, .string ⟨#[]⟩] 46 (0, 0)
    rw [← hw3] at hb hr
    refine ⟨H2.out.1.trans (hb.mono H2.out.1.size), Kq.below_blk hb H2.out.2 (Kq.blk_lt H2.out.2), fun j hj => ?_⟩
    have hj0 : j = 0 := by simpa using hj
    subst hj0
    refine ⟨w2.heap.size, 0, rfl, Kq.blk_lt hr, fun i hi => ?_⟩
    rw [show 0 + 0 * 5 + i = i by omega, Kq.blk_cell hr i]
    match i, hi with
    | 0, _ => rfl
    | 1, _ => rfl
    | 2, _ => rfl
    | 3, _ => rfl
    | 4, _ => rfl)
  rw [← hw3]
  clear hw3 n0 n1 n2 n3 n4
  have hB := rec_bytes none 0 (some ⟨w2.heap.size, 0, none⟩) 1 awB w3 ⟨plz_wf, plz_wf, awB_num.p, enAt_nil _ _ _, H3.out.2.2, (by intro n h; cases h), awB_num.nw, (by decide), (by decide)⟩
  refine hB.mono ?_
  clear hB
  rintro x w4 ⟨rfl, b4⟩
  have H4 : Hid (Below w.heap.size w w4 ∧ w4.heap[N0]? = some (.cells #[.int .i64 1, .int .i64 0, .int .u64 1, .int .u64 9, .string ⟨#[]⟩] 46 (0, 0))) := Lib.hid ⟨H3.out.1.trans (b4.mono H3.out.1.size), Kq.below_blk b4 H3.out.2.1 (Kq.blk_lt H3.out.2.1)⟩
  rw [recE_ok awB_ok]
  obtain ⟨tb, htb⟩ : ∃ tb, tb = recT awB := ⟨_, rfl⟩
  rw [← htb]
  have HTB := Lib.hid (htb.trans (recT_ok awB_ok))
  clear b4 H3 H2 htb
  go_wp2_with fail
  obtain ⟨w5, hw5⟩ : ∃ z, z = w4.alloc (.cells #[.string ta, .string tb] 9) := ⟨_, rfl⟩
  have H5 : Hid (Below w.heap.size w w5 ∧ w5.heap[N0]? = some (.cells #[.int .i64 1, .int .i64 0, .int .u64 1, .int .u64 9, .string ⟨#[]⟩] 46 (0, 0)) ∧ TxAt w5 (some ⟨w4.heap.size, 0, none⟩) [awA, awB]) := Lib.hid (by
    have hb := Kq.below_alloc w4 (.cells #[.string ta, .string tb] 9)
    have hr := Kq.blk_new w4 #[.string ta, .string tb] 9 (0, 0)
    rw [← hw5] at hb hr
    refine ⟨H4.out.1.trans (hb.mono H4.out.1.size), Kq.below_blk hb H4.out.2 (Kq.blk_lt H4.out.2), fun j hj => ?_⟩
    refine ⟨w4.heap.size, 0, rfl, Kq.blk_lt hr, ?_⟩
    rw [show 0 + j = j by omega, Kq.blk_cell hr j]
    have hj2 : j < 2 := hj
    match j, hj2 with
    | 0, _ => rw [HTA.out]; rfl
    | 1, _ => rw [HTB.out]; rfl)
  rw [← hw5]
  clear hw5
  have hR := rec_replay 2 (some ⟨w4.heap.size, 0, none⟩) 2 [awA, awB] w5 H5.out.2.2 (fun r hr => by
    simp only [List.mem_cons, List.not_mem_nil, or_false] at hr
    rcases hr with rfl | rfl
    · exact ⟨awA_ok, awA_num⟩
    · exact ⟨awB_ok, awB_num⟩) (by decide)
  rw [aw_rep1, aw_rep2] at hR
  refine hR.mono ?_
  clear hR
  rintro x w6 ⟨b6, ⟨h0, _⟩ | ⟨_, A', c', rfl, hat, _⟩⟩
  · exact absurd rfl h0
  obtain ⟨b, off, rfl, hbl, hc⟩ := hat 0 (by decide)
  have i0 := hc 0 (by omega)
  have i1 := hc 1 (by omega)
  have i2 := hc 2 (by omega)
  have i3 := hc 3 (by omega)
  have i4 := hc 4 (by omega)
  have H6 : Hid (Below w.heap.size w w6 ∧ w6.heap[N0]? = some (.cells #[.int .i64 1, .int .i64 0, .int .u64 1, .int .u64 9, .string ⟨#[]⟩] 46 (0, 0))) := Lib.hid ⟨H5.out.1.trans (b6.mono H5.out.1.size), Kq.below_blk b6 H5.out.2.1 (Kq.blk_lt H5.out.2.1)⟩
  clear b6 hat hc H5 H4
  have n0 := Kq.blk_cell H6.out.2 0
  have n1 := Kq.blk_cell H6.out.2 1
  have n2 := Kq.blk_cell H6.out.2 2
  have n3 := Kq.blk_cell H6.out.2 3
  have n4 := Kq.blk_cell H6.out.2 4
  obtain ⟨w7, hw7⟩ : ∃ z, z = w6.alloc (.cells #[.int .u64 5, .int .i64 1, .int .u64 0, .int .i64 0, .slice (some ⟨b, off, none⟩) 1 c'] 28) := ⟨_, rfl⟩
  have hb7 := Kq.below_alloc w6 (.cells #[.int .u64 5, .int .i64 1, .int .u64 0, .int .i64 0, .slice (some ⟨b, off, none⟩) 1 c'] 28)
  have hr7 := Kq.blk_new w6 #[.int .u64 5, .int .i64 1, .int .u64 0, .int .i64 0, .slice (some ⟨b, off, none⟩) 1 c'] 28 (0, 0)
  rw [← hw7] at hb7 hr7
  have j0 : w7.cell? ⟨b, off, none⟩ = some (.int .i64 0) := (hb7.cell (p := ⟨b, off, none⟩) hbl).trans (by have h : w6.cell? ⟨b, off + 0 * 5 + 0, none⟩ = some (.int .i64 0) := i0; simpa using h)
  have j1 : w7.cell? ⟨b, off + 1, none⟩ = some (.int .u64 1) := (hb7.cell (p := ⟨b, off + 1, none⟩) hbl).trans (by have h : w6.cell? ⟨b, off + 0 * 5 + 1, none⟩ = some (.int .u64 1) := i1; simpa using h)
  have j2 : w7.cell? ⟨b, off + 2, none⟩ = some (.int .u64 9) := (hb7.cell (p := ⟨b, off + 2, none⟩) hbl).trans (by have h : w6.cell? ⟨b, off + 0 * 5 + 2, none⟩ = some (.int .u64 9) := i2; simpa using h)
  have j3 : w7.cell? ⟨b, off + 3, none⟩ = some (.string ⟨#[]⟩) := (hb7.cell (p := ⟨b, off + 3, none⟩) hbl).trans (by have h : w6.cell? ⟨b, off + 0 * 5 + 3, none⟩ = some (.string ⟨#[]⟩) := i3; simpa using h)
  have j4 : w7.cell? ⟨b, off + 4, none⟩ = some (.int .i64 1) := (hb7.cell (p := ⟨b, off + 4, none⟩) hbl).trans (by have h : w6.cell? ⟨b, off + 0 * 5 + 4, none⟩ = some (.int .i64 1) := i4; simpa using h)
  have hnl := Kq.blk_lt H6.out.2
  have m0 := (hb7.cell (p := ⟨N0, 0, none⟩) hnl).trans n0
  have m1 := (hb7.cell (p := ⟨N0, 1, none⟩) hnl).trans n1
  have m2 := (hb7.cell (p := ⟨N0, 2, none⟩) hnl).trans n2
  have m3 := (hb7.cell (p := ⟨N0, 3, none⟩) hnl).trans n3
  have m4 := (hb7.cell (p := ⟨N0, 4, none⟩) hnl).trans n4
  have d0 := Kq.blk_cell hr7 0
  have d1 := Kq.blk_cell hr7 1
  have d2 := Kq.blk_cell hr7 2
  have d3 := Kq.blk_cell hr7 3
  have d4 := Kq.blk_cell hr7 4
  have H7 := Lib.hid (H6.out.1.trans (hb7.mono H6.out.1.size))
  have q1 := fun wx => itm_eql awN awN wx
  have q2 := fun wx => pl_eql ⟨5, 1⟩ ⟨5, 1⟩ wx
  rw [decide_eq_true rfl] at q1 q2
  simp only [awN] at q1
  simp only at q2
  clear n0 n1 n2 n3 n4 i0 i1 i2 i3 i4 hb7 hr7 H6 hnl HTA HTB
  obtain ⟨D0, hD0⟩ : ∃ D0, D0 = w6.heap.size := ⟨_, rfl⟩
  rw [← hD0] at d0 d1 d2 d3 d4
  have HF := Lib.hid (And.intro j0 (And.intro j1 (And.intro j2 (And.intro j3 (And.intro j4 (And.intro m0 (And.intro m1 (And.intro m2 (And.intro m3 (And.intro m4 (And.intro d0 (And.intro d1 (And.intro d2 (And.intro d3 d4))))))))))))))
  have HQ12 := Lib.hid (And.intro q1 q2)
  clear j0 j1 j2 j3 j4 m0 m1 m2 m3 m4 d0 d1 d2 d3 d4 q1 q2
  unfold daV awD PlV.z
  simp only [List.length_cons, List.length_nil]
  go_wp2
  rw [← hw7, ← hD0]
  clear hw7 hD0
  obtain ⟨j0, j1, j2, j3, j4, m0, m1, m2, m3, m4, d0, d1, d2, d3, d4⟩ := HF.out
  obtain ⟨q1, q2⟩ := HQ12.out
  go_quiet (fail)
  generalize hwq : w7.drewN nq = wq
  have HQ : Hid (Below w.heap.size w wq) := Lib.hid (by rw [← hwq]; exact below_drewN H7.out nq)
  clear hwq
  go_wp2
  go_ret
  exact ⟨rfl, HQ.out⟩
end Go.Proofs.YtkbiolhcpghmkaaGreat
