/- Package script's message. No condition. -/
import Derived.Outline
import Derived.Test.YtjilbcefikbihaaScTxNQ
import Derived.Test.YtjilbcefikbihaaScTxQ
import Derived.Test.YtjilbcefikbihaaScFiQ
import Derived.Test.YtjilbcefikbihaaScPairQ
namespace Go.Proofs.Ytjilbcefikbihaa
open Go.RowKit
set_option linter.unusedVariables false
theorem fMs_good : ∀ F ∈ fMs, ∀ a e s, (F.get a e s).1.ws = a.ws ∧ (F.get a e s).2.2.size ≤ s.size := by
  intro F hF a e s
  simp only [fMs, List.mem_cons, List.not_mem_nil, or_false] at hF
  rcases hF with rfl | rfl | rfl | rfl | rfl | rfl | rfl | rfl
  · exact ⟨rfl, raw_left_size e s _⟩
  · exact ⟨rfl, raw_left_size e s _⟩
  · exact ⟨rfl, raw_left_size e s _⟩
  · exact ⟨rfl, raw_left_size e s _⟩
  · exact ⟨rfl, raw_left_size e s _⟩
  · exact ⟨rfl, raw_left_size e s _⟩
  · exact ⟨rfl, Nat.le_trans (raw_left_size _ _ _) (raw_left_size e s _)⟩
  · exact ⟨rfl, Nat.le_trans (raw_left_size _ _ _) (raw_left_size e s _)⟩
theorem fS_good : ∀ F ∈ [fC, fT, fD], ∀ a e s, (F.get a e s).1.ws = a.ws ∧ (F.get a e s).2.2.size ≤ s.size := by
  intro F hF a e s
  simp only [List.mem_cons, List.not_mem_nil, or_false] at hF
  rcases hF with rfl | rfl | rfl
  · exact ⟨rfl, raw_left_size e s _⟩
  · exact ⟨rfl, raw_left_size e s _⟩
  · exact ⟨rfl, Nat.le_trans (raw_left_size _ _ _) (raw_left_size e s _)⟩
/-- a built row of forms -/
theorem fs_built (lo : Nat) (w : World) (Fs : List FmV) (vs : List Value) (T : TypeId) (n cap : Nat) (hn : n = Fs.length) (hlo : lo ≤ w.heap.size) (h : ∀ j (hj : j < Fs.length), ∃ f1 f2 f3, vs[j * 3]? = some f1 ∧ vs[j * 3 + 1]? = some f2 ∧ vs[j * 3 + 2]? = some f3 ∧ FormIs lo w.heap.size w (.agg #[f1, f2, f3]) Fs[j]) :
    FsIn lo (w.alloc (.cells ⟨vs⟩ T)).heap.size (w.alloc (.cells ⟨vs⟩ T)) (.slice (some ⟨w.heap.size, 0, none⟩) n cap) Fs := by
  have hb := Kq.below_alloc w (.cells ⟨vs⟩ T)
  have hr := Kq.blk_new w ⟨vs⟩ T (0, 0)
  refine ⟨_, cap, by rw [hn], fun j hj => ?_⟩
  obtain ⟨f1, f2, f3, h1, h2, h3, h4⟩ := h j hj
  have hc : ∀ i, (w.alloc (.cells ⟨vs⟩ T)).cell? ⟨w.heap.size, i, none⟩ = vs[i]? := fun i => (Kq.blk_cell hr i).trans (List.getElem?_toArray ..)
  exact ⟨w.heap.size, 0, f1, f2, f3, rfl, hlo, Kq.blk_lt hr, by rw [hc, Nat.zero_add]; exact h1, by rw [hc, Nat.zero_add]; exact h2, by rw [hc, Nat.zero_add]; exact h3, h4.mono (Rng.below (Rng.refl _ _ _) hb (Nat.le_refl _)) (Nat.le_refl _) hb.size (Nat.le_refl _)⟩
theorem FormIs.shape {lo hi : Nat} {w : World} {v : Value} {F : FmV} (h : FormIs lo hi w v F) : ∃ n1 c1 n2 c2 n3 c3, v = .agg #[.func (.func n1) #[] c1, .func (.func n2) #[] c2, .func (.func n3) #[] c3] := by
  obtain ⟨_, f1, f2, f3, rfl, ⟨n1, c1, ⟨rfl, _⟩, _⟩, ⟨n2, c2, ⟨rfl, _⟩, _⟩, ⟨n3, c3, ⟨rfl, _⟩, _⟩⟩ := h
  exact ⟨n1, c1, n2, c2, n3, c3, rfl⟩
set_option maxRecDepth 100000 in
set_option maxHeartbeats 2000000 in
theorem sc_message (w : World) : Calls Try.prog 49 #[] w fun x w' => ∃ v, x = .returned v ∧ FormIs w.heap.size w'.heap.size w' v (allF fMs) ∧ Below w.heap.size w w' := by
  have HB0 : Hid (Below w.heap.size w (w.alloc (.cells #[.nilFunc, .nilFunc, .nilFunc] 69))) := Lib.hid (Kq.below_alloc _ _)
  have HR : Hid ((w.alloc (.cells #[.nilFunc, .nilFunc, .nilFunc] 69)).heap[w.heap.size]? = some (.cells #[.nilFunc, .nilFunc, .nilFunc] 69 (0, 0))) := Lib.hid (Kq.blk_new _ _ _ _)
  obtain ⟨R, hR⟩ : ∃ R, R = w.heap.size := ⟨_, rfl⟩
  obtain ⟨w0, hw0⟩ : ∃ z, z = w.alloc (.cells #[.nilFunc, .nilFunc, .nilFunc] 69) := ⟨_, rfl⟩
  have H0 : Hid (Below R w w0 ∧ w0.heap[R]? = some (.cells #[.nilFunc, .nilFunc, .nilFunc] 69 (0, 0)) ∧ R = w.heap.size) := Lib.hid ⟨by rw [hw0, hR]; exact HB0.out, by rw [hw0, hR]; exact HR.out, hR⟩
  clear HB0 HR
  go_enter Try.func49, Try.ntmps49
  go_wp2_with fail
  rw [← hw0, ← hR]
  clear hw0 hR
  refine (sm_new leMk _ fiMk w0).mono ?_
  rintro x w1 ⟨v1, rfl, p1, b1⟩
  have HP1 := Lib.hid p1
  have HB1 := Lib.hid b1
  obtain ⟨a1, c1, d1, e1, g1, h1, rfl⟩ := p1.shape
  clear p1 b1
  go_wp2_with fail
  refine (sm_new leMt _ fiMt w1).mono ?_
  rintro x w2 ⟨v2, rfl, p2, b2⟩
  have HP2 := Lib.hid p2
  have HB2 := Lib.hid b2
  obtain ⟨a2, c2, d2, e2, g2, h2, rfl⟩ := p2.shape
  clear p2 b2
  go_wp2_with fail
  refine (nu_new leMh (fun a h => h.mh) _ fiMh w2).mono ?_
  rintro x w3 ⟨v3, rfl, p3, b3⟩
  have HP3 := Lib.hid p3
  have HB3 := Lib.hid b3
  obtain ⟨a3, c3, d3, e3, g3, h3, rfl⟩ := p3.shape
  clear p3 b3
  go_wp2_with fail
  refine (sm_new lePf _ fiPf w3).mono ?_
  rintro x w4 ⟨v4, rfl, p4, b4⟩
  have HP4 := Lib.hid p4
  have HB4 := Lib.hid b4
  obtain ⟨a4, c4, d4, e4, g4, h4, rfl⟩ := p4.shape
  clear p4 b4
  go_wp2_with fail
  refine (nu_new lePq (fun a h => h.pq) _ fiPq w4).mono ?_
  rintro x w5 ⟨v5, rfl, p5, b5⟩
  have HP5 := Lib.hid p5
  have HB5 := Lib.hid b5
  obtain ⟨a5, c5, d5, e5, g5, h5, rfl⟩ := p5.shape
  clear p5 b5
  go_wp2_with fail
  refine (nu_new lePt (fun a h => h.pt) _ fiPt w5).mono ?_
  rintro x w6 ⟨v6, rfl, p6, b6⟩
  have HP6 := Lib.hid p6
  have HB6 := Lib.hid b6
  obtain ⟨a6, c6, d6, e6, g6, h6, rfl⟩ := p6.shape
  clear p6 b6
  go_wp2_with fail
  refine (tx_new lePd _ fiPd w6).mono ?_
  rintro x w7 ⟨v7, rfl, p7, b7⟩
  have HP7 := Lib.hid p7
  have HB7 := Lib.hid b7
  obtain ⟨a7, c7, d7, e7, g7, h7, rfl⟩ := p7.shape
  clear p7 b7
  go_wp2_with fail
  refine (tx_new leMp _ fiMp w7).mono ?_
  rintro x w8 ⟨v8, rfl, p8, b8⟩
  have HP8 := Lib.hid p8
  have HB8 := Lib.hid b8
  obtain ⟨a8, c8, d8, e8, g8, h8, rfl⟩ := p8.shape
  clear p8 b8
  have L8 : Hid (Below w8.heap.size w8 w8) := Lib.hid (Below.refl _ _)
  have L7 : Hid (Below w7.heap.size w7 w8) := Lib.hid (HB8.out.trans (L8.out.mono HB8.out.size))
  have L6 : Hid (Below w6.heap.size w6 w8) := Lib.hid (HB7.out.trans (L7.out.mono HB7.out.size))
  have L5 : Hid (Below w5.heap.size w5 w8) := Lib.hid (HB6.out.trans (L6.out.mono HB6.out.size))
  have L4 : Hid (Below w4.heap.size w4 w8) := Lib.hid (HB5.out.trans (L5.out.mono HB5.out.size))
  have L3 : Hid (Below w3.heap.size w3 w8) := Lib.hid (HB4.out.trans (L4.out.mono HB4.out.size))
  have L2 : Hid (Below w2.heap.size w2 w8) := Lib.hid (HB3.out.trans (L3.out.mono HB3.out.size))
  have L1 : Hid (Below w1.heap.size w1 w8) := Lib.hid (HB2.out.trans (L2.out.mono HB2.out.size))
  have L0 : Hid (Below w0.heap.size w0 w8) := Lib.hid (HB1.out.trans (L1.out.mono HB1.out.size))
  obtain ⟨w9, hw9⟩ : ∃ z, z = w8.alloc (.cells ⟨[.func (.func a1) #[] c1, .func (.func d1) #[] e1, .func (.func g1) #[] h1, .func (.func a2) #[] c2, .func (.func d2) #[] e2, .func (.func g2) #[] h2, .func (.func a3) #[] c3, .func (.func d3) #[] e3, .func (.func g3) #[] h3, .func (.func a4) #[] c4, .func (.func d4) #[] e4, .func (.func g4) #[] h4, .func (.func a5) #[] c5, .func (.func d5) #[] e5, .func (.func g5) #[] h5, .func (.func a6) #[] c6, .func (.func d6) #[] e6, .func (.func g6) #[] h6, .func (.func a7) #[] c7, .func (.func d7) #[] e7, .func (.func g7) #[] h7, .func (.func a8) #[] c8, .func (.func d8) #[] e8, .func (.func g8) #[] h8]⟩ 69) := ⟨_, rfl⟩
  obtain ⟨q, hq⟩ : ∃ q, q = w8.heap.size := ⟨_, rfl⟩
  have HL1 : Hid (w0.heap.size ≤ w1.heap.size) := Lib.hid (HB1.out.size)
  have HL2 : Hid (w0.heap.size ≤ w2.heap.size) := Lib.hid (Nat.le_trans HL1.out HB2.out.size)
  have HL3 : Hid (w0.heap.size ≤ w3.heap.size) := Lib.hid (Nat.le_trans HL2.out HB3.out.size)
  have HL4 : Hid (w0.heap.size ≤ w4.heap.size) := Lib.hid (Nat.le_trans HL3.out HB4.out.size)
  have HL5 : Hid (w0.heap.size ≤ w5.heap.size) := Lib.hid (Nat.le_trans HL4.out HB5.out.size)
  have HL6 : Hid (w0.heap.size ≤ w6.heap.size) := Lib.hid (Nat.le_trans HL5.out HB6.out.size)
  have HL7 : Hid (w0.heap.size ≤ w7.heap.size) := Lib.hid (Nat.le_trans HL6.out HB7.out.size)
  have HL8 : Hid (w0.heap.size ≤ w8.heap.size) := Lib.hid (Nat.le_trans HL7.out HB8.out.size)
  have HRS : Hid (R + 1 ≤ w0.heap.size) := Lib.hid (by have := Kq.blk_lt H0.out.2.1; omega)
  have HFS : Hid (FsIn (R + 1) w9.heap.size w9 (.slice (some ⟨q, 0, none⟩) 8 8) fMs) := Lib.hid (by
    rw [hw9, hq]
    refine fs_built (R + 1) w8 fMs [.func (.func a1) #[] c1, .func (.func d1) #[] e1, .func (.func g1) #[] h1, .func (.func a2) #[] c2, .func (.func d2) #[] e2, .func (.func g2) #[] h2, .func (.func a3) #[] c3, .func (.func d3) #[] e3, .func (.func g3) #[] h3, .func (.func a4) #[] c4, .func (.func d4) #[] e4, .func (.func g4) #[] h4, .func (.func a5) #[] c5, .func (.func d5) #[] e5, .func (.func g5) #[] h5, .func (.func a6) #[] c6, .func (.func d6) #[] e6, .func (.func g6) #[] h6, .func (.func a7) #[] c7, .func (.func d7) #[] e7, .func (.func g7) #[] h7, .func (.func a8) #[] c8, .func (.func d8) #[] e8, .func (.func g8) #[] h8] 69 8 8 rfl (Nat.le_trans HRS.out L0.out.size) (fun j hj => ?_)
    have h8 : j < 8 := hj
    have : j = 0 ∨ j = 1 ∨ j = 2 ∨ j = 3 ∨ j = 4 ∨ j = 5 ∨ j = 6 ∨ j = 7 := by omega
    rcases this with rfl | rfl | rfl | rfl | rfl | rfl | rfl | rfl
    · exact ⟨_, _, _, rfl, rfl, rfl, HP1.out.mono (Rng.below (Rng.refl _ _ _) L1.out (Nat.le_refl _)) (Nat.le_trans HRS.out (Nat.le_refl _)) L1.out.size (Nat.le_refl _)⟩
    · exact ⟨_, _, _, rfl, rfl, rfl, HP2.out.mono (Rng.below (Rng.refl _ _ _) L2.out (Nat.le_refl _)) (Nat.le_trans HRS.out (HL1.out)) L2.out.size (Nat.le_refl _)⟩
    · exact ⟨_, _, _, rfl, rfl, rfl, HP3.out.mono (Rng.below (Rng.refl _ _ _) L3.out (Nat.le_refl _)) (Nat.le_trans HRS.out (HL2.out)) L3.out.size (Nat.le_refl _)⟩
    · exact ⟨_, _, _, rfl, rfl, rfl, HP4.out.mono (Rng.below (Rng.refl _ _ _) L4.out (Nat.le_refl _)) (Nat.le_trans HRS.out (HL3.out)) L4.out.size (Nat.le_refl _)⟩
    · exact ⟨_, _, _, rfl, rfl, rfl, HP5.out.mono (Rng.below (Rng.refl _ _ _) L5.out (Nat.le_refl _)) (Nat.le_trans HRS.out (HL4.out)) L5.out.size (Nat.le_refl _)⟩
    · exact ⟨_, _, _, rfl, rfl, rfl, HP6.out.mono (Rng.below (Rng.refl _ _ _) L6.out (Nat.le_refl _)) (Nat.le_trans HRS.out (HL5.out)) L6.out.size (Nat.le_refl _)⟩
    · exact ⟨_, _, _, rfl, rfl, rfl, HP7.out.mono (Rng.below (Rng.refl _ _ _) L7.out (Nat.le_refl _)) (Nat.le_trans HRS.out (HL6.out)) L7.out.size (Nat.le_refl _)⟩
    · exact ⟨_, _, _, rfl, rfl, rfl, HP8.out.mono (Rng.below (Rng.refl _ _ _) L8.out (Nat.le_refl _)) (Nat.le_trans HRS.out (HL7.out)) L8.out.size (Nat.le_refl _)⟩
    )
  have HB9 : Hid (Below w0.heap.size w0 w9 ∧ w9.heap.size = q + 1 ∧ R + 1 ≤ w9.heap.size) := Lib.hid ⟨L0.out.trans (by rw [hw9]; exact (Kq.below_alloc w8 _).mono L0.out.size), by rw [hw9, hq]; simp, by rw [hw9]; exact Nat.le_trans HRS.out (Nat.le_trans L0.out.size (Kq.below_alloc w8 _).size)⟩
  clear HP1 HB1 HP2 HB2 HP3 HB3 HP4 HB4 HP5 HB5 HP6 HB6 HP7 HB7 HP8 HB8
  go_wp2_with fail
  rw [← hw9, ← hq]
  clear hw9 hq
  refine (all_new (R + 1) fMs (by decide) fMs_good _ w9 HB9.out.2.2 HFS.out).mono ?_
  rintro x wa ⟨va, rfl, pa, ba⟩
  obtain ⟨n1, k1, n2, k2, n3, k3, rfl⟩ := pa.shape
  have HA : Hid (wa.heap[R]? = some (.cells #[.nilFunc, .nilFunc, .nilFunc] 69 (0, 0)) ∧ FormIs (R + 1) wa.heap.size wa (.agg #[.func (.func n1) #[] k1, .func (.func n2) #[] k2, .func (.func n3) #[] k3]) (allF fMs) ∧ Below R w wa) := Lib.hid ⟨Kq.below_blk ba (Kq.below_blk HB9.out.1 H0.out.2.1 (Kq.blk_lt H0.out.2.1)) (by have := HB9.out.2.2; omega), pa, H0.out.1.trans ((HB9.out.1.trans (ba.mono HB9.out.1.size)).mono (by have := HRS.out; omega))⟩
  have c0 : wa.cell? ⟨R, 0, none⟩ = some .nilFunc := Kq.blk_cell HA.out.1 0
  have c1 : wa.cell? ⟨R, 1, none⟩ = some .nilFunc := Kq.blk_cell HA.out.1 1
  have c2 : wa.cell? ⟨R, 2, none⟩ = some .nilFunc := Kq.blk_cell HA.out.1 2
  have f0 : wa.frozen? ⟨R, 0, none⟩ = false := Kq.blk_free HA.out.1 0
  have f1 : wa.frozen? ⟨R, 1, none⟩ = false := Kq.blk_free HA.out.1 1
  have f2 : wa.frozen? ⟨R, 2, none⟩ = false := Kq.blk_free HA.out.1 2
  clear pa ba
  go_wp2
  obtain ⟨F1, hF1⟩ : ∃ z, z = Value.func (.func n1) #[] k1 := ⟨_, rfl⟩
  obtain ⟨F2, hF2⟩ : ∃ z, z = Value.func (.func n2) #[] k2 := ⟨_, rfl⟩
  obtain ⟨F3, hF3⟩ : ∃ z, z = Value.func (.func n3) #[] k3 := ⟨_, rfl⟩
  rw [← hF1, ← hF2, ← hF3] at HA
  rw [← hF1, ← hF2, ← hF3]
  obtain ⟨W, hW⟩ : ∃ z, z = ((wa.setCell ⟨R, 0, none⟩ F1).setCell ⟨R, 1, none⟩ F2).setCell ⟨R, 2, none⟩ F3 := ⟨_, rfl⟩
  have HD : Hid (W.heap[R]? = some (.cells #[F1, F2, F3] 69 (0, 0)) ∧ FormIs w.heap.size W.heap.size W (.agg #[F1, F2, F3]) (allF fMs) ∧ Below w.heap.size w W) := Lib.hid (by
    have ks : Kq.Keeps (· = R) wa W := by
      rw [hW]
      have q1 : Kq.Keeps (· = R) wa (wa.setCell ⟨R, 0, none⟩ F1) := Kq.Keeps.setCell _ _ _ rfl
      have q2 : Kq.Keeps (· = R) (wa.setCell ⟨R, 0, none⟩ F1) ((wa.setCell ⟨R, 0, none⟩ F1).setCell ⟨R, 1, none⟩ F2) := Kq.Keeps.setCell _ _ _ rfl
      have q3 : Kq.Keeps (· = R) ((wa.setCell ⟨R, 0, none⟩ F1).setCell ⟨R, 1, none⟩ F2) (((wa.setCell ⟨R, 0, none⟩ F1).setCell ⟨R, 1, none⟩ F2).setCell ⟨R, 2, none⟩ F3) := Kq.Keeps.setCell _ _ _ rfl
      exact (q1.trans q2).trans q3
    refine ⟨?_, ?_, ?_⟩
    · rw [hW]
      exact Kq.blk_set (Kq.blk_set (Kq.blk_set HA.out.1 0 F1) 1 F2) 2 F3
    · refine HA.out.2.1.mono (fun k h1 h2 => ks.block k h2 (fun e => by omega)) (by rw [← H0.out.2.2]; omega) ks.size (Nat.le_refl _)
    · have hk := (Kq.Keeps.of_below (S := fun k => k = R) HA.out.2.2 (fun k h1 h2 => by have := H0.out.2.2; omega)).trans ks
      exact hk.below (Nat.le_refl _) (fun k _ e => by have := H0.out.2.2; omega))
  rw [← hW]
  clear hW hF1 hF2 hF3
  have r0 : W.cell? ⟨R, 0, none⟩ = some F1 := Kq.blk_cell HD.out.1 0
  have r1 : W.cell? ⟨R, 1, none⟩ = some F2 := Kq.blk_cell HD.out.1 1
  have r2 : W.cell? ⟨R, 2, none⟩ = some F3 := Kq.blk_cell HD.out.1 2
  refine bodyPost_ret (v := .agg #[F1, F2, F3]) (by simp [results, Try.results49, go_sem, r0, r1, r2]) rfl ?_
  exact ⟨_, rfl, HD.out.2⟩
end Go.Proofs.Ytjilbcefikbihaa
