/- Merged: RcAwake, RcSame. The document's example of record. No condition. Contract of carracklaw17.same at like records. Condition: records in memory. -/
import Derived.WalkSpells
import Derived.Outline
import Derived.Deep.QuietTactic
import Derived.BigQuiet
import Derived.Test.YtkbiolhcpghmkaaRcReplayQ
import Derived.Test.YtkbiolhcpghmkaaRcFewQ
import Derived.Test.YtkbiolhcpghmkaaNtSameQ
namespace Go.Proofs.Ytkbiolhcpghmkaa
open Go.RowKit Go.Kq
set_option linter.unusedVariables false
def awN : NtV := ⟨1, 0, 1, 9, ⟨#[]⟩⟩
def awA : ReV := ⟨1, ⟨PlV.z, PlV.z, []⟩, 0, PlV.z, []⟩
def awB : ReV := ⟨2, ⟨PlV.z, PlV.z, []⟩, 0, ⟨5, 1⟩, [awN]⟩
def awD : DaV := ⟨⟨5, 1⟩, PlV.z, [awN]⟩
theorem awN_wf : awN.wf := by unfold NtV.wf awN; simp only; omega
theorem awA_ok : RecOk awA := by
  have h : decide (RecOk awA) = true := by kernel_rfl
  exact of_decide_eq_true h
theorem awB_ok : RecOk awB := by
  have h : decide (RecOk awB) = true := by kernel_rfl
  exact of_decide_eq_true h
theorem awB_num : RcNum awB := ⟨plz_wf, plz_wf, ⟨by decide, by decide⟩, (by intro n h; cases h), fun n h => by
  have h' : n ∈ [awN] := h
  rw [List.mem_singleton.1 h']; exact awN_wf⟩
theorem awA_num : RcNum awA := ⟨plz_wf, plz_wf, plz_wf, (by intro n h; cases h), (by intro n h; cases h)⟩
theorem aw_rep1 : (replayV 2 [awA, awB]).1 = 0 := by kernel_rfl
theorem aw_rep2 : (replayV 2 [awA, awB]).2 = awD := by kernel_rfl
theorem recT_ok {r : ReV} (h : RecOk r) : recT r = txt (encR r) := if_pos h
theorem recE_ok {r : ReV} (h : RecOk r) : recE r = 0 := if_pos h
set_option maxRecDepth 100000 in
set_option maxHeartbeats 4000000 in
theorem awake17 (w : World) : Calls Try.prog 6 #[] w fun x w' => x = .returned (.bool true) ∧ Below w.heap.size w w' := by
  obtain ⟨w1, hw1⟩ : ∃ z, z = w.alloc (.cells #[.int .i64 1, .int .i64 0, .int .u64 1, .int .u64 9, .string ⟨#[]⟩] 53) := ⟨_, rfl⟩
  have H1 : Hid (Below w.heap.size w w1 ∧ w1.heap[w.heap.size]? = some (.cells #[.int .i64 1, .int .i64 0, .int .u64 1, .int .u64 9, .string ⟨#[]⟩] 53 (0, 0))) := Lib.hid (by
    have ha := Kq.below_alloc w (.cells #[.int .i64 1, .int .i64 0, .int .u64 1, .int .u64 9, .string ⟨#[]⟩] 53)
    have hr := Kq.blk_new w #[.int .i64 1, .int .i64 0, .int .u64 1, .int .u64 9, .string ⟨#[]⟩] 53 (0, 0)
    rw [← hw1] at ha hr
    exact ⟨ha, hr⟩)
  obtain ⟨N0, hN0⟩ : ∃ N0, N0 = w.heap.size := ⟨_, rfl⟩
  replace H1 : Hid (Below w.heap.size w w1 ∧ w1.heap[N0]? = some (.cells #[.int .i64 1, .int .i64 0, .int .u64 1, .int .u64 9, .string ⟨#[]⟩] 53 (0, 0))) := Lib.hid ⟨H1.out.1, by rw [hN0]; exact H1.out.2⟩
  go_enter Try.func6, Try.ntmps6
  go_wp2_with fail
  rw [← hw1, ← hN0]
  clear hw1
  have hA := rec_bytes none 0 none 0 awA w1 ⟨plz_wf, plz_wf, plz_wf, enAt_nil _ _ _, enAt_nil _ _ _, (by intro n h; cases h), (by intro n h; cases h), (by decide), (by decide)⟩
  refine hA.mono ?_
  clear hA
  rintro x w2 ⟨rfl, b2⟩
  have H2 : Hid (Below w.heap.size w w2 ∧ w2.heap[N0]? = some (.cells #[.int .i64 1, .int .i64 0, .int .u64 1, .int .u64 9, .string ⟨#[]⟩] 53 (0, 0))) := Lib.hid ⟨H1.out.1.trans (b2.mono H1.out.1.size), Kq.below_blk b2 H1.out.2 (Kq.blk_lt H1.out.2)⟩
  rw [recE_ok awA_ok]
  obtain ⟨ta, hta⟩ : ∃ ta, ta = recT awA := ⟨_, rfl⟩
  rw [← hta]
  have HTA := Lib.hid (hta.trans (recT_ok awA_ok))
  clear b2 H1 hta
  have n0 := Kq.blk_cell H2.out.2 0
  have n1 := Kq.blk_cell H2.out.2 1
  have n2 := Kq.blk_cell H2.out.2 2
  have n3 := Kq.blk_cell H2.out.2 3
  have n4 := Kq.blk_cell H2.out.2 4
  have HN0 := Lib.hid hN0
  clear hN0
  go_wp2_with fail
  obtain ⟨w3, hw3⟩ : ∃ z, z = w2.alloc (.cells #[.int .i64 1, .int .i64 0, .int .u64 1, .int .u64 9, .string ⟨#[]⟩] 53) := ⟨_, rfl⟩
  have H3 : Hid (Below w.heap.size w w3 ∧ w3.heap[N0]? = some (.cells #[.int .i64 1, .int .i64 0, .int .u64 1, .int .u64 9, .string ⟨#[]⟩] 53 (0, 0)) ∧ EnAt NtV.nc w3 (some ⟨w2.heap.size, 0, none⟩) [awN]) := Lib.hid (by
    have hb := Kq.below_alloc w2 (.cells #[.int .i64 1, .int .i64 0, .int .u64 1, .int .u64 9, .string ⟨#[]⟩] 53)
    have hr := Kq.blk_new w2 #[.int .i64 1, .int .i64 0, .int .u64 1, .int .u64 9, .string ⟨#[]⟩] 53 (0, 0)
    rw [← hw3] at hb hr
    refine ⟨H2.out.1.trans (hb.mono H2.out.1.size), Kq.below_blk hb H2.out.2 (Kq.blk_lt H2.out.2), fun j hj => ?_⟩
    have hj0 : j = 0 := by simpa using hj
    subst hj0
    refine ⟨w2.heap.size, 0, rfl, Kq.blk_lt hr, fun i hi => ?_⟩
    rw [show 0 + 0 * 5 + i = i by omega, Kq.blk_cell hr i]
    match i, hi with
    | 0, _ => rfl
    | 1, _ => rfl
    | 2, _ => rfl
    | 3, _ => rfl
    | 4, _ => rfl)
  rw [← hw3]
  clear hw3 n0 n1 n2 n3 n4
  have hB := rec_bytes none 0 (some ⟨w2.heap.size, 0, none⟩) 1 awB w3 ⟨plz_wf, plz_wf, awB_num.p, enAt_nil _ _ _, H3.out.2.2, (by intro n h; cases h), awB_num.nw, (by decide), (by decide)⟩
  refine hB.mono ?_
  clear hB
  rintro x w4 ⟨rfl, b4⟩
  have H4 : Hid (Below w.heap.size w w4 ∧ w4.heap[N0]? = some (.cells #[.int .i64 1, .int .i64 0, .int .u64 1, .int .u64 9, .string ⟨#[]⟩] 53 (0, 0))) := Lib.hid ⟨H3.out.1.trans (b4.mono H3.out.1.size), Kq.below_blk b4 H3.out.2.1 (Kq.blk_lt H3.out.2.1)⟩
  rw [recE_ok awB_ok]
  obtain ⟨tb, htb⟩ : ∃ tb, tb = recT awB := ⟨_, rfl⟩
  rw [← htb]
  have HTB := Lib.hid (htb.trans (recT_ok awB_ok))
  clear b4 H3 H2 htb
  go_wp2_with fail
  obtain ⟨w5, hw5⟩ : ∃ z, z = w4.alloc (.cells #[.string ta, .string tb] 9) := ⟨_, rfl⟩
  have H5 : Hid (Below w.heap.size w w5 ∧ w5.heap[N0]? = some (.cells #[.int .i64 1, .int .i64 0, .int .u64 1, .int .u64 9, .string ⟨#[]⟩] 53 (0, 0)) ∧ TxAt w5 (some ⟨w4.heap.size, 0, none⟩) [awA, awB]) := Lib.hid (by
    have hb := Kq.below_alloc w4 (.cells #[.string ta, .string tb] 9)
    have hr := Kq.blk_new w4 #[.string ta, .string tb] 9 (0, 0)
    rw [← hw5] at hb hr
    refine ⟨H4.out.1.trans (hb.mono H4.out.1.size), Kq.below_blk hb H4.out.2 (Kq.blk_lt H4.out.2), fun j hj => ?_⟩
    refine ⟨w4.heap.size, 0, rfl, Kq.blk_lt hr, ?_⟩
    rw [show 0 + j = j by omega, Kq.blk_cell hr j]
    have hj2 : j < 2 := hj
    match j, hj2 with
    | 0, _ => rw [HTA.out]; rfl
    | 1, _ => rw [HTB.out]; rfl)
  rw [← hw5]
  clear hw5
  have hR := rec_replay 2 (some ⟨w4.heap.size, 0, none⟩) 2 [awA, awB] w5 H5.out.2.2 (fun r hr => by
    simp only [List.mem_cons, List.not_mem_nil, or_false] at hr
    rcases hr with rfl | rfl
    · exact ⟨awA_ok, awA_num⟩
    · exact ⟨awB_ok, awB_num⟩) (by decide)
  rw [aw_rep1, aw_rep2] at hR
  refine hR.mono ?_
  clear hR
  rintro x w6 ⟨b6, ⟨h0, _⟩ | ⟨_, A', c', rfl, hat, _⟩⟩
  · exact absurd rfl h0
  obtain ⟨b, off, rfl, hbl, hc⟩ := hat 0 (by decide)
  have i0 := hc 0 (by omega)
  have i1 := hc 1 (by omega)
  have i2 := hc 2 (by omega)
  have i3 := hc 3 (by omega)
  have i4 := hc 4 (by omega)
  have H6 : Hid (Below w.heap.size w w6 ∧ w6.heap[N0]? = some (.cells #[.int .i64 1, .int .i64 0, .int .u64 1, .int .u64 9, .string ⟨#[]⟩] 53 (0, 0))) := Lib.hid ⟨H5.out.1.trans (b6.mono H5.out.1.size), Kq.below_blk b6 H5.out.2.1 (Kq.blk_lt H5.out.2.1)⟩
  clear b6 hat hc H5 H4
  have n0 := Kq.blk_cell H6.out.2 0
  have n1 := Kq.blk_cell H6.out.2 1
  have n2 := Kq.blk_cell H6.out.2 2
  have n3 := Kq.blk_cell H6.out.2 3
  have n4 := Kq.blk_cell H6.out.2 4
  obtain ⟨w7, hw7⟩ : ∃ z, z = w6.alloc (.cells #[.int .u64 5, .int .i64 1, .int .u64 0, .int .i64 0, .slice (some ⟨b, off, none⟩) 1 c'] 32) := ⟨_, rfl⟩
  have hb7 := Kq.below_alloc w6 (.cells #[.int .u64 5, .int .i64 1, .int .u64 0, .int .i64 0, .slice (some ⟨b, off, none⟩) 1 c'] 32)
  have hr7 := Kq.blk_new w6 #[.int .u64 5, .int .i64 1, .int .u64 0, .int .i64 0, .slice (some ⟨b, off, none⟩) 1 c'] 32 (0, 0)
  rw [← hw7] at hb7 hr7
  have j0 : w7.cell? ⟨b, off, none⟩ = some (.int .i64 0) := (hb7.cell (p := ⟨b, off, none⟩) hbl).trans (by have h : w6.cell? ⟨b, off + 0 * 5 + 0, none⟩ = some (.int .i64 0) := i0; simpa using h)
  have j1 : w7.cell? ⟨b, off + 1, none⟩ = some (.int .u64 1) := (hb7.cell (p := ⟨b, off + 1, none⟩) hbl).trans (by have h : w6.cell? ⟨b, off + 0 * 5 + 1, none⟩ = some (.int .u64 1) := i1; simpa using h)
  have j2 : w7.cell? ⟨b, off + 2, none⟩ = some (.int .u64 9) := (hb7.cell (p := ⟨b, off + 2, none⟩) hbl).trans (by have h : w6.cell? ⟨b, off + 0 * 5 + 2, none⟩ = some (.int .u64 9) := i2; simpa using h)
  have j3 : w7.cell? ⟨b, off + 3, none⟩ = some (.string ⟨#[]⟩) := (hb7.cell (p := ⟨b, off + 3, none⟩) hbl).trans (by have h : w6.cell? ⟨b, off + 0 * 5 + 3, none⟩ = some (.string ⟨#[]⟩) := i3; simpa using h)
  have j4 : w7.cell? ⟨b, off + 4, none⟩ = some (.int .i64 1) := (hb7.cell (p := ⟨b, off + 4, none⟩) hbl).trans (by have h : w6.cell? ⟨b, off + 0 * 5 + 4, none⟩ = some (.int .i64 1) := i4; simpa using h)
  have hnl := Kq.blk_lt H6.out.2
  have m0 := (hb7.cell (p := ⟨N0, 0, none⟩) hnl).trans n0
  have m1 := (hb7.cell (p := ⟨N0, 1, none⟩) hnl).trans n1
  have m2 := (hb7.cell (p := ⟨N0, 2, none⟩) hnl).trans n2
  have m3 := (hb7.cell (p := ⟨N0, 3, none⟩) hnl).trans n3
  have m4 := (hb7.cell (p := ⟨N0, 4, none⟩) hnl).trans n4
  have d0 := Kq.blk_cell hr7 0
  have d1 := Kq.blk_cell hr7 1
  have d2 := Kq.blk_cell hr7 2
  have d3 := Kq.blk_cell hr7 3
  have d4 := Kq.blk_cell hr7 4
  have H7 := Lib.hid (H6.out.1.trans (hb7.mono H6.out.1.size))
  have q1 := fun wx => itm_eql awN awN wx
  have q2 := fun wx => pl_eql ⟨5, 1⟩ ⟨5, 1⟩ wx
  rw [decide_eq_true rfl] at q1 q2
  simp only [awN] at q1
  simp only at q2
  clear n0 n1 n2 n3 n4 i0 i1 i2 i3 i4 hb7 hr7 H6 hnl HTA HTB
  obtain ⟨D0, hD0⟩ : ∃ D0, D0 = w6.heap.size := ⟨_, rfl⟩
  rw [← hD0] at d0 d1 d2 d3 d4
  have HF := Lib.hid (And.intro j0 (And.intro j1 (And.intro j2 (And.intro j3 (And.intro j4 (And.intro m0 (And.intro m1 (And.intro m2 (And.intro m3 (And.intro m4 (And.intro d0 (And.intro d1 (And.intro d2 (And.intro d3 d4))))))))))))))
  have HQ12 := Lib.hid (And.intro q1 q2)
  clear j0 j1 j2 j3 j4 m0 m1 m2 m3 m4 d0 d1 d2 d3 d4 q1 q2
  unfold daV awD PlV.z
  simp only [List.length_cons, List.length_nil]
  go_wp2
  rw [← hw7, ← hD0]
  clear hw7 hD0
  obtain ⟨j0, j1, j2, j3, j4, m0, m1, m2, m3, m4, d0, d1, d2, d3, d4⟩ := HF.out
  obtain ⟨q1, q2⟩ := HQ12.out
  go_quiet (fail)
  generalize hwq : w7.drewN nq = wq
  have HQ : Hid (Below w.heap.size w wq) := Lib.hid (by rw [← hwq]; exact below_drewN H7.out nq)
  clear hwq
  go_wp2
  go_ret
  exact ⟨rfl, HQ.out⟩
end Go.Proofs.Ytkbiolhcpghmkaa
namespace Go.Proofs.Ytkbiolhcpghmkaa
open Go.RowKit Go.Kq
set_option linter.unusedVariables false
set_option maxRecDepth 100000 in
set_option maxHeartbeats 4000000 in
theorem rec_same (A : Option Addr) (ca : Nat) (C : Option Addr) (cc : Nat) (D : Option Addr) (cd : Nat) (E : Option Addr) (ce : Nat) (r : ReV) (w : World) (h1 : RecW w A C r) (h2 : RecW w D E r) :
    Calls Try.prog 14 #[reV r A ca C cc, reV r D cd E ce] w fun x w' => x = .returned (.bool true) ∧ Below w.heap.size w w' := by
  have HH := Lib.hid (And.intro h1 h2)
  clear h1 h2
  obtain ⟨w1, hw1⟩ : ∃ z, z = (w.alloc (.cells #[.int .i64 r.k, .int .u64 r.d.p0.h, .int .i64 r.d.p0.i, .int .u64 r.d.p1.h, .int .i64 r.d.p1.i, .slice A r.d.l.length ca, .int .i64 r.c, .int .u64 r.p.h, .int .i64 r.p.i, .slice C r.ns.length cc] 35)).alloc (.cells #[.int .i64 r.k, .int .u64 r.d.p0.h, .int .i64 r.d.p0.i, .int .u64 r.d.p1.h, .int .i64 r.d.p1.i, .slice D r.d.l.length cd, .int .i64 r.c, .int .u64 r.p.h, .int .i64 r.p.i, .slice E r.ns.length ce] 35) := ⟨_, rfl⟩
  have H1 : Hid (Below w.heap.size w w1 ∧ RecX w1 w.heap.size A ca C cc r ∧ RecX w1 (w.heap.size + 1) D cd E ce r) := Lib.hid (by
    have ha := Kq.below_alloc w (.cells #[.int .i64 r.k, .int .u64 r.d.p0.h, .int .i64 r.d.p0.i, .int .u64 r.d.p1.h, .int .i64 r.d.p1.i, .slice A r.d.l.length ca, .int .i64 r.c, .int .u64 r.p.h, .int .i64 r.p.i, .slice C r.ns.length cc] 35)
    have hra := Kq.blk_new w #[.int .i64 r.k, .int .u64 r.d.p0.h, .int .i64 r.d.p0.i, .int .u64 r.d.p1.h, .int .i64 r.d.p1.i, .slice A r.d.l.length ca, .int .i64 r.c, .int .u64 r.p.h, .int .i64 r.p.i, .slice C r.ns.length cc] 35 (0, 0)
    have hb := Kq.below_alloc (w.alloc (.cells #[.int .i64 r.k, .int .u64 r.d.p0.h, .int .i64 r.d.p0.i, .int .u64 r.d.p1.h, .int .i64 r.d.p1.i, .slice A r.d.l.length ca, .int .i64 r.c, .int .u64 r.p.h, .int .i64 r.p.i, .slice C r.ns.length cc] 35)) (.cells #[.int .i64 r.k, .int .u64 r.d.p0.h, .int .i64 r.d.p0.i, .int .u64 r.d.p1.h, .int .i64 r.d.p1.i, .slice D r.d.l.length cd, .int .i64 r.c, .int .u64 r.p.h, .int .i64 r.p.i, .slice E r.ns.length ce] 35)
    have hrb := Kq.blk_new (w.alloc (.cells #[.int .i64 r.k, .int .u64 r.d.p0.h, .int .i64 r.d.p0.i, .int .u64 r.d.p1.h, .int .i64 r.d.p1.i, .slice A r.d.l.length ca, .int .i64 r.c, .int .u64 r.p.h, .int .i64 r.p.i, .slice C r.ns.length cc] 35)) #[.int .i64 r.k, .int .u64 r.d.p0.h, .int .i64 r.d.p0.i, .int .u64 r.d.p1.h, .int .i64 r.d.p1.i, .slice D r.d.l.length cd, .int .i64 r.c, .int .u64 r.p.h, .int .i64 r.p.i, .slice E r.ns.length ce] 35 (0, 0)
    rw [World.size_alloc] at hrb
    rw [← hw1] at hb hrb
    exact ⟨ha.trans (hb.mono ha.size), Kq.below_blk hb hra (Kq.blk_lt hra), hrb⟩)
  have x0 := Kq.blk_cell H1.out.2.1 0
  have x1 := Kq.blk_cell H1.out.2.1 1
  have x2 := Kq.blk_cell H1.out.2.1 2
  have x3 := Kq.blk_cell H1.out.2.1 3
  have x4 := Kq.blk_cell H1.out.2.1 4
  have x5 := Kq.blk_cell H1.out.2.1 5
  have x6 := Kq.blk_cell H1.out.2.1 6
  have x7 := Kq.blk_cell H1.out.2.1 7
  have x8 := Kq.blk_cell H1.out.2.1 8
  have x9 := Kq.blk_cell H1.out.2.1 9
  have y0 := Kq.blk_cell H1.out.2.2 0
  have y1 := Kq.blk_cell H1.out.2.2 1
  have y2 := Kq.blk_cell H1.out.2.2 2
  have y3 := Kq.blk_cell H1.out.2.2 3
  have y4 := Kq.blk_cell H1.out.2.2 4
  have y5 := Kq.blk_cell H1.out.2.2 5
  have y6 := Kq.blk_cell H1.out.2.2 6
  have y7 := Kq.blk_cell H1.out.2.2 7
  have y8 := Kq.blk_cell H1.out.2.2 8
  have y9 := Kq.blk_cell H1.out.2.2 9
  have hpe := fun wx => pl_eql r.p r.p wx
  rw [decide_eq_true rfl] at hpe
  obtain ⟨k, ⟨p0, p1, l⟩, c, p, ns⟩ := r
  simp only at x0 x1 x2 x3 x4 x5 x6 x7 x8 x9 y0 y1 y2 y3 y4 y5 y6 y7 y8 y9 hpe hw1
  rw [hw1] at x0 x1 x2 x3 x4 x5 x6 x7 x8 x9 y0 y1 y2 y3 y4 y5 y6 y7 y8 y9
  unfold reV
  go_enter Try.func14, Try.ntmps14
  go_wp2_with fail
  rw [← hw1]
  clear x0 x1 x2 x3 x4 x5 x6 x7 x8 x9 y0 y1 y2 y3 y4 y5 y6 y7 y8 y9 hpe hw1
  refine (same_state A D ca cd ⟨p0, p1, l⟩ w1 HH.out.1.p0 HH.out.1.p1 (HH.out.1.l.below H1.out.1) (HH.out.2.l.below H1.out.1) HH.out.1.ll).mono ?_
  rintro x w2 ⟨rfl, b2⟩
  have H2 : Hid (Below w.heap.size w w2 ∧ RecX w2 w.heap.size A ca C cc ⟨k, ⟨p0, p1, l⟩, c, p, ns⟩ ∧ RecX w2 (w.heap.size + 1) D cd E ce ⟨k, ⟨p0, p1, l⟩, c, p, ns⟩) := Lib.hid ⟨H1.out.1.trans (b2.mono H1.out.1.size), Kq.below_blk b2 H1.out.2.1 (Kq.blk_lt H1.out.2.1), Kq.below_blk b2 H1.out.2.2 (Kq.blk_lt H1.out.2.2)⟩
  clear b2 H1
  have x9 := Kq.blk_cell H2.out.2.1 9
  have y9 := Kq.blk_cell H2.out.2.2 9
  simp only at x9 y9
  go_wp2_with fail
  refine (same_notes C E cc ce ns w2 (HH.out.1.ns.below H2.out.1) (HH.out.2.ns.below H2.out.1) HH.out.1.nl).mono ?_
  rintro x w3 ⟨rfl, b3⟩
  have H3 := Lib.hid (H2.out.1.trans (b3.mono H2.out.1.size))
  clear b3 H2 x9 y9
  go_wp2
  go_ret
  exact ⟨rfl, H3.out⟩
def zR : ReV := ⟨0, ⟨PlV.z, PlV.z, []⟩, 0, PlV.z, []⟩
theorem zR_w (w : World) : RecW w none none zR := ⟨plz_wf, plz_wf, plz_wf, enAt_nil _ _ _, enAt_nil _ _ _, (by intro n h; cases h), (by intro n h; cases h), by decide, by decide⟩
end Go.Proofs.Ytkbiolhcpghmkaa
