/- carrackref23's Put. Condition: numbers are numbers, texts not too long. -/
import Derived.WalkSpells
import Derived.Outline
import Derived.Deep.RegionHeld
import Derived.Deep.MidRow
import Derived.Test.YtjilbcefikbihaaHeldLastQ
import Derived.Test.YtjilbcefikbihaaScRrAQ
import Derived.Test.YtjilbcefikbihaaScRrBQ
import Derived.Test.YtjilbcefikbihaaScRrCQ
import Derived.Test.YtjilbcefikbihaaScRbQ
import Derived.Test.YtjilbcefikbihaaScRq0Q
namespace Go.Proofs.Ytjilbcefikbihaa
open Go.RowKit
set_option linter.unusedVariables false
set_option linter.unusedSimpArgs false
set_option maxRecDepth 100000 in
set_option maxHeartbeats 4000000 in
theorem rq_0_0 (a : SaV) (sv : Value) (w : World) (hk : a.k = 0) (hws : WsAt w sv a.ws) (hwf : a.wf) (hc0 : ¬ (0 ≤ a.c ∧ a.c ≤ 255)) :
    Calls Try.prog 9 #[.agg #[.int .i64 a.k, .int .i64 a.c, .int .u64 a.t, .string a.d, .int .i64 a.n, .int .i64 a.mk, .int .i64 a.mt, .int .u64 a.mh, .int .i64 a.pf, .int .u64 a.pq, .int .u64 a.pt, .string a.pd, .string a.mp, sv]] w fun x w' => Below w.heap.size w w' ∧
      (a ≠ (fmOf 0).keep a (zeroK 0) → x = .returned (.tuple #[.string ⟨#[]⟩, .int .i64 5])) ∧
      (a = (fmOf 0).keep a (zeroK 0) → ¬ (fmOf 0).ok a → x = .returned (.tuple #[.string ⟨#[]⟩, .int .i64 1])) ∧
      (a = (fmOf 0).keep a (zeroK 0) → (fmOf 0).ok a → x = .returned (.tuple #[.string (txt ([0] ++ (fmOf 0).enc a)), .int .i64 0])) := by
  have HC0 := Lib.hid hc0
  clear hc0
  have HRR := Lib.hid (fun (wz : World) (h : WsAt wz sv a.ws) => rr_0 a sv wz hk h)
  rw [hk] at HRR
  rw [hk]
  clear hk
  obtain ⟨P, hP⟩ : ∃ z, z = w.heap.size := ⟨_, rfl⟩
  obtain ⟨w1, hw1⟩ : ∃ z, z = w.alloc (.cells #[.int .i64 0, .int .i64 a.c, .int .u64 a.t, .string a.d, .int .i64 a.n, .int .i64 a.mk, .int .i64 a.mt, .int .u64 a.mh, .int .i64 a.pf, .int .u64 a.pq, .int .u64 a.pt, .string a.pd, .string a.mp, sv] 29) := ⟨_, rfl⟩
  have hb : w1.heap[P]? = some (.cells #[.int .i64 0, .int .i64 a.c, .int .u64 a.t, .string a.d, .int .i64 a.n, .int .i64 a.mk, .int .i64 a.mt, .int .u64 a.mh, .int .i64 a.pf, .int .u64 a.pq, .int .u64 a.pt, .string a.pd, .string a.mp, sv] 29 (0, 0)) := by
    rw [hw1, hP]; exact Kq.blk_new _ _ _ _
  have ba : Below w.heap.size w w1 := by rw [hw1]; exact Kq.below_alloc _ _
  have HWS : Hid (∀ wz, Below w1.heap.size w1 wz → WsAt wz sv a.ws) := Lib.hid (fun wz h => by
    have h2 := hws.keeps (S := fun _ => False) (Kq.Keeps.of_below ba (fun k h1 h2 => absurd h1 (Nat.not_le.2 h2))) (fun _ _ => id)
    exact h2.keeps (S := fun _ => False) (Kq.Keeps.of_below h (fun k h1 h2 => absurd h1 (Nat.not_le.2 h2))) (fun _ _ => id))
  have H1 := Lib.hid (And.intro ba (And.intro hb (Kq.blk_lt hb)))
  have HPW : Hid (w.heap.size ≤ P) := Lib.hid (by omega)
  have HWF := Lib.hid hwf
  have D0 : w1.cell? ⟨P, 0, none⟩ = some (.int .i64 0) := Kq.blk_cell hb 0
  rw [hw1, hP] at D0
  clear hws hwf ba hb
  go_enter Try.func9, Try.ntmps9
  go_wp2_with fail
  rw [← hw1, ← hP]
  clear hw1 hP D0
  refine (HRR.out w1 (HWS.out w1 (Below.refl _ _))).mono ?_
  rintro x w2 ⟨rfl, b2⟩
  have H2 := Lib.hid b2
  by_cases hq : a = (fmOf 0).keep a (zeroK 0)
  case neg =>
    have HQ := Lib.hid hq
    rw [decide_eq_false hq]
    clear hq b2
    go_wp2
    go_ret2
    exact ⟨H1.out.1.trans (H2.out.mono H1.out.1.size), fun _ => rfl, fun h => absurd h HQ.out, fun h => absurd h HQ.out⟩
  have HQ := Lib.hid hq
  rw [decide_eq_true hq]
  clear hq
  have hb := Kq.below_blk b2 H1.out.2.1 H1.out.2.2
  have d0 : w2.cell? ⟨P, 0, none⟩ = some (.int .i64 0) := Kq.blk_cell hb 0
  clear hb b2
  go_wp2_with fail
  clear d0
  have HNK : Hid (∀ wz, Calls Try.prog 24 #[.int .i64 0, .int .i64 1] wz fun x w' => x = .returned (.string (txt [0])) ∧ Below wz.heap.size wz w') := Lib.hid (fun wz => by
    have h := rf_num 0 1 (by decide) wz
    rw [be1_u64] at h
    exact h)
  refine (HNK.out w2).mono ?_
  rintro x w3 ⟨rfl, b3⟩
  have H3 := Lib.hid (H2.out.trans (b3.mono H2.out.size))
  clear b3 HNK H2 HRR
  have hb := Kq.below_blk H3.out H1.out.2.1 H1.out.2.2
  have d0 : w3.cell? ⟨P, 0, none⟩ = some (.int .i64 0) := Kq.blk_cell hb 0
  have d5 : w3.cell? ⟨P, 5, none⟩ = some (.int .i64 a.mk) := Kq.blk_cell hb 5
  have d6 : w3.cell? ⟨P, 6, none⟩ = some (.int .i64 a.mt) := Kq.blk_cell hb 6
  have d7 : w3.cell? ⟨P, 7, none⟩ = some (.int .u64 a.mh) := Kq.blk_cell hb 7
  have d8 : w3.cell? ⟨P, 8, none⟩ = some (.int .i64 a.pf) := Kq.blk_cell hb 8
  have d9 : w3.cell? ⟨P, 9, none⟩ = some (.int .u64 a.pq) := Kq.blk_cell hb 9
  have d10 : w3.cell? ⟨P, 10, none⟩ = some (.int .u64 a.pt) := Kq.blk_cell hb 10
  have d11 : w3.cell? ⟨P, 11, none⟩ = some (.string a.pd) := Kq.blk_cell hb 11
  have d12 : w3.cell? ⟨P, 12, none⟩ = some (.string a.mp) := Kq.blk_cell hb 12
  have hp0 : P < w3.heap.size := Kq.blk_lt hb
  have hp1 : ¬ P = w3.heap.size := by omega
  have hp2 : ¬ P = w3.heap.size + 1 := by omega
  clear hb
  go_wp2_with fail
  go_region
  all_goals
    first
    | (obtain ⟨w4, hw4⟩ : ∃ z, z = ((w3.alloc (.cells #[.int .i64 a.mk, .int .i64 a.mt, .int .u64 a.mh, .int .i64 a.pf, .int .u64 a.pq, .int .u64 a.pt, .string a.pd, .string a.mp] 26)).alloc (.cells #[.int .i64 a.pf, .int .u64 a.pq, .int .u64 a.pt, .string a.pd] 24)).drew := ⟨_, rfl⟩
       rw [← hw4]
       obtain ⟨N, hN⟩ : ∃ z, z = w3.heap.size + 1 := ⟨_, rfl⟩
       obtain ⟨M, hM⟩ : ∃ z, z = w3.heap.size := ⟨_, rfl⟩
       rw [← hN, ← hM]
       have H4 : Hid (Below w3.heap.size w3 w4 ∧ w4.heap[M]? = some (.cells #[.int .i64 a.mk, .int .i64 a.mt, .int .u64 a.mh, .int .i64 a.pf, .int .u64 a.pq, .int .u64 a.pt, .string a.pd, .string a.mp] 26 (0, 0)) ∧ w4.heap[N]? = some (.cells #[.int .i64 a.pf, .int .u64 a.pq, .int .u64 a.pt, .string a.pd] 24 (0, 0))) := Lib.hid (by
         rw [hw4, hM, hN]; exact two_drew _ _ _ _ _)
       clear hw4 hM hN)
    | (obtain ⟨w4, hw4⟩ : ∃ z, z = ((w3.alloc (.cells #[.int .i64 a.pf, .int .u64 a.pq, .int .u64 a.pt, .string a.pd] 24)).alloc (.cells #[.int .i64 a.mk, .int .i64 a.mt, .int .u64 a.mh, .int .i64 a.pf, .int .u64 a.pq, .int .u64 a.pt, .string a.pd, .string a.mp] 26)).drew := ⟨_, rfl⟩
       rw [← hw4]
       obtain ⟨M, hM⟩ : ∃ z, z = w3.heap.size + 1 := ⟨_, rfl⟩
       obtain ⟨N, hN⟩ : ∃ z, z = w3.heap.size := ⟨_, rfl⟩
       rw [← hM, ← hN]
       have H4 : Hid (Below w3.heap.size w3 w4 ∧ w4.heap[M]? = some (.cells #[.int .i64 a.mk, .int .i64 a.mt, .int .u64 a.mh, .int .i64 a.pf, .int .u64 a.pq, .int .u64 a.pt, .string a.pd, .string a.mp] 26 (0, 0)) ∧ w4.heap[N]? = some (.cells #[.int .i64 a.pf, .int .u64 a.pq, .int .u64 a.pt, .string a.pd] 24 (0, 0))) := Lib.hid (by
         rw [hw4, hM, hN]
         obtain ⟨x1, x2, x3⟩ := two_drew w3 #[.int .i64 a.pf, .int .u64 a.pq, .int .u64 a.pt, .string a.pd] #[.int .i64 a.mk, .int .i64 a.mt, .int .u64 a.mh, .int .i64 a.pf, .int .u64 a.pq, .int .u64 a.pt, .string a.pd, .string a.mp] 24 26
         exact ⟨x1, x3, x2⟩)
       clear hw4 hM hN)
    have H5 : Hid (Below w.heap.size w w4 ∧ Below w1.heap.size w1 w4) := Lib.hid ⟨H1.out.1.trans ((H3.out.trans (H4.out.1.mono H3.out.size)).mono H1.out.1.size), H3.out.trans (H4.out.1.mono H3.out.size)⟩
    have hb := Kq.below_blk H5.out.2 H1.out.2.1 H1.out.2.2
    clear d0 d5 d6 d7 d8 d9 d10 d11 d12 hp0 hp1 hp2
    have HP4 : Hid (P < w4.heap.size) := Lib.hid (Kq.blk_lt hb)
    have d0 : w4.cell? ⟨P, 0, none⟩ = some (.int .i64 0) := Kq.blk_cell hb 0
    have d1 : w4.cell? ⟨P, 1, none⟩ = some (.int .i64 a.c) := Kq.blk_cell hb 1
    have d2 : w4.cell? ⟨P, 2, none⟩ = some (.int .u64 a.t) := Kq.blk_cell hb 2
    have d3 : w4.cell? ⟨P, 3, none⟩ = some (.string a.d) := Kq.blk_cell hb 3
    clear hb
    obtain ⟨T0, hT0⟩ : ∃ z, z = txt ([0]) := ⟨_, rfl⟩
    have hz0 : T0.size = 1 := by rw [hT0, txt_size]; rfl
    obtain ⟨T1, hT1⟩ : ∃ z, z = txt (be (u64 a.c) 1) := ⟨_, rfl⟩
    have hz1 : T1.size = 1 := by rw [hT1, txt_size, be_len]
    obtain ⟨T2, hT2⟩ : ∃ z, z = txt (num8 a.t.toNat) := ⟨_, rfl⟩
    have hz2 : T2.size = 8 := by rw [hT2, txt_size]; rfl
    obtain ⟨T3, hT3⟩ : ∃ z, z = txt (be a.d.size 2 ++ nl a.d) := ⟨_, rfl⟩
    have hz3 : T3.size ≤ 70002 := by have := HWF.out.d; rw [hT3, txt_size, List.length_append, be_len, nl_length]; omega
    have g1 : ¬ 9223372036854775807 < T0.size + T1.size := by omega
    have g2 : ¬ 9223372036854775807 < T0.size + T1.size + T2.size := by omega
    have g3 : ¬ 9223372036854775807 < T0.size + T1.size + T2.size + T3.size := by omega
    have g2' : ¬ 9223372036854775807 < (T0 ++ T1).size + T2.size := by simp only [ByteArray.size_append]; omega
    have g3' : ¬ 9223372036854775807 < (T0 ++ T1 ++ T2).size + T3.size := by simp only [ByteArray.size_append]; omega
    have HN1 : Hid (∀ wz, Calls Try.prog 24 #[.int .i64 a.c, .int .i64 1] wz fun x w' => x = .returned (.string T1) ∧ Below wz.heap.size wz w') := Lib.hid (fun wz => by rw [hT1]; exact rf_num a.c 1 (by decide) wz)
    have HN2 : Hid (∀ wz, Calls Try.prog 26 #[.int .u64 a.t, .int .i64 8] wz fun x w' => x = .returned (.string T2) ∧ Below wz.heap.size wz w') := Lib.hid (fun wz => by
      have q := HWF.out.t
      have h := ref_num a.t.toNat 8 wz (by unfold M64; omega) (by decide)
      rw [show ((a.t.toNat : Nat) : Int) = a.t by omega, be8, ← hT2] at h
      exact h)
    have HN3 : Hid (∀ wz, Calls Try.prog 27 #[.string a.d] wz fun x w' => x = .returned (.string T3) ∧ Below wz.heap.size wz w') := Lib.hid (fun wz => by rw [hT3]; exact rf_text a.d HWF.out.d wz)
    have HOK : Hid (¬ (fmOf 0).ok a) := Lib.hid (fun h => by
      obtain ⟨y, _, _, _⟩ := h
      exact HC0.out y)
    rw [← hT0]
    clear hT0 hz0 hT1 hz1 hT2 hz2 hT3 hz3
    go_wp2_with fail
    refine (rf_fits a.c w4).mono ?_
    rintro x w5 ⟨rfl, rfl⟩
    rw [decide_eq_false HC0.out]
    go_wp2
    have hS : w4.drew.cell? ⟨P, 1, none⟩ = some (.int .i64 a.c) ∧ w4.drew.cell? ⟨P, 2, none⟩ = some (.int .u64 a.t) ∧ w4.drew.cell? ⟨P, 3, none⟩ = some (.string a.d) := ⟨d1, d2, d3⟩
    clear d1 d2 d3 d0
    refine wp_region_held_drew (S := fun cur => cur.cell? ⟨P, 1, none⟩ = some (.int .i64 a.c) ∧ cur.cell? ⟨P, 2, none⟩ = some (.int .u64 a.t) ∧ cur.cell? ⟨P, 3, none⟩ = some (.string a.d)) (by kernel_rfl) hS (fun hS0 => ?_)
    obtain ⟨v0, hv0⟩ : ∃ z, z = w4.drew := ⟨_, rfl⟩
    have HDv0 : Hid (Below w4.heap.size w4 v0) := Lib.hid (by rw [hv0]; exact (Below.refl _ _).drew)
    rw [← hv0] at hS0 ⊢
    clear hv0 hS
    refine wpAnyH_take (i := 0) (v := ?_) rfl (by kernel_rfl) (by kernel_rfl) (by kernel_rfl) (fun _ _ _ h => h) (Or.inl ⟨by kernel_rfl, ?_⟩) (by assumption) ?_
    rotate_left
    · intro w hSw; (try dsimp only at hSw); go_simp; (try with_reducible rfl)
    refine wpAnyH_take (i := 1) (v := ?_) rfl (by kernel_rfl) (by kernel_rfl) (by kernel_rfl) (fun _ _ _ h => h) (Or.inl ⟨by kernel_rfl, ?_⟩) (by assumption) ?_
    rotate_left
    · intro w hSw; (try dsimp only at hSw); go_simp; (try with_reducible rfl)
    refine wpAnyH_take (i := 2) (v := ?_) rfl (by kernel_rfl) (by kernel_rfl) (by kernel_rfl) (fun _ _ _ h => h) (Or.inl ⟨by kernel_rfl, ?_⟩) (by assumption) ?_
    rotate_left
    · intro w hSw; (try dsimp only at hSw); go_simp; (try with_reducible rfl)
    refine wpAnyH_take (i := 5) (v := ?_) rfl (by kernel_rfl) (by kernel_rfl) (by kernel_rfl) (fun _ _ _ h => h) (Or.inl ⟨by kernel_rfl, ?_⟩) (by assumption) ?_
    rotate_left
    · intro w hSw; (try dsimp only at hSw); go_simp; (try with_reducible rfl)
    refine wpAnyH_take (i := 6) (v := ?_) rfl (by kernel_rfl) (by kernel_rfl) (by kernel_rfl) (fun _ _ _ h => h) (Or.inl ⟨by kernel_rfl, ?_⟩) (by assumption) ?_
    rotate_left
    · intro w hSw; (try dsimp only at hSw); go_simp; (try with_reducible rfl)
    refine wpAnyH_take (i := 9) (v := ?_) rfl (by kernel_rfl) (by kernel_rfl) (by kernel_rfl) (fun _ _ _ h => h) (Or.inl ⟨by kernel_rfl, ?_⟩) (by assumption) ?_
    rotate_left
    · intro w hSw; (try dsimp only at hSw); go_simp; (try with_reducible rfl)
    refine wpAnyH_take (i := 10) (v := ?_) rfl (by kernel_rfl) (by kernel_rfl) (by kernel_rfl) (fun _ _ _ h => h) (Or.inl ⟨by kernel_rfl, ?_⟩) (by assumption) ?_
    rotate_left
    · intro w hSw; (try dsimp only at hSw); go_simp; (try with_reducible rfl)
    refine wpAnyH_ready (rs := [3]) (by kernel_rfl) (by simp) ?_
    refine AllReadyH.cons rfl (fun K hK => ?_) AllReadyH.nil
    go_simp
    refine (HN1.out v0).mono ?_
    rintro x v1 ⟨rfl, b2⟩
    have hS2 : v1.cell? ⟨P, 1, none⟩ = some (.int .i64 a.c) ∧ v1.cell? ⟨P, 2, none⟩ = some (.int .u64 a.t) ∧ v1.cell? ⟨P, 3, none⟩ = some (.string a.d) := by
      obtain ⟨s0, s1, s2⟩ := hS0
      exact ⟨(b2.cell (p := ⟨P, 1, none⟩) (Nat.lt_of_lt_of_le HP4.out HDv0.out.size)).trans s0, (b2.cell (p := ⟨P, 2, none⟩) (Nat.lt_of_lt_of_le HP4.out HDv0.out.size)).trans s1, (b2.cell (p := ⟨P, 3, none⟩) (Nat.lt_of_lt_of_le HP4.out HDv0.out.size)).trans s2⟩
    have HDv1 : Hid (Below w4.heap.size w4 v1) := Lib.hid (HDv0.out.trans (b2.mono HDv0.out.size))
    clear b2 hS0
    refine hK.out _ _ hS2 (fun hS0 => ?_)
    clear hK K hS2
    refine wpAnyH_take (i := 4) (v := ?_) rfl (by kernel_rfl) (by kernel_rfl) (by kernel_rfl) (fun _ _ _ h => h) (Or.inl ⟨by kernel_rfl, ?_⟩) (by assumption) ?_
    rotate_left
    · intro w hSw; (try dsimp only at hSw); go_simp; (try with_reducible rfl)
    refine wpAnyH_ready (rs := [7]) (by kernel_rfl) (by simp) ?_
    refine AllReadyH.cons rfl (fun K hK => ?_) AllReadyH.nil
    go_simp
    refine (HN2.out v1).mono ?_
    rintro x v2 ⟨rfl, b2⟩
    have hS2 : v2.cell? ⟨P, 1, none⟩ = some (.int .i64 a.c) ∧ v2.cell? ⟨P, 2, none⟩ = some (.int .u64 a.t) ∧ v2.cell? ⟨P, 3, none⟩ = some (.string a.d) := by
      obtain ⟨s0, s1, s2⟩ := hS0
      exact ⟨(b2.cell (p := ⟨P, 1, none⟩) (Nat.lt_of_lt_of_le HP4.out HDv1.out.size)).trans s0, (b2.cell (p := ⟨P, 2, none⟩) (Nat.lt_of_lt_of_le HP4.out HDv1.out.size)).trans s1, (b2.cell (p := ⟨P, 3, none⟩) (Nat.lt_of_lt_of_le HP4.out HDv1.out.size)).trans s2⟩
    have HDv2 : Hid (Below w4.heap.size w4 v2) := Lib.hid (HDv1.out.trans (b2.mono HDv1.out.size))
    clear b2 hS0
    refine hK.out _ _ hS2 (fun hS0 => ?_)
    clear hK K hS2
    refine wpAnyH_take (i := 8) (v := ?_) rfl (by kernel_rfl) (by kernel_rfl) (by kernel_rfl) (fun _ _ _ h => h) (Or.inl ⟨by kernel_rfl, ?_⟩) (by assumption) ?_
    rotate_left
    · intro w hSw; (try dsimp only at hSw); go_simp; (try with_reducible rfl)
    refine wpAnyH_ready (rs := [11]) (by kernel_rfl) (by simp) ?_
    refine AllReadyH.cons rfl (fun K hK => ?_) AllReadyH.nil
    go_simp
    refine (HN3.out v2).mono ?_
    rintro x v3 ⟨rfl, b2⟩
    have hS2 : v3.cell? ⟨P, 1, none⟩ = some (.int .i64 a.c) ∧ v3.cell? ⟨P, 2, none⟩ = some (.int .u64 a.t) ∧ v3.cell? ⟨P, 3, none⟩ = some (.string a.d) := by
      obtain ⟨s0, s1, s2⟩ := hS0
      exact ⟨(b2.cell (p := ⟨P, 1, none⟩) (Nat.lt_of_lt_of_le HP4.out HDv2.out.size)).trans s0, (b2.cell (p := ⟨P, 2, none⟩) (Nat.lt_of_lt_of_le HP4.out HDv2.out.size)).trans s1, (b2.cell (p := ⟨P, 3, none⟩) (Nat.lt_of_lt_of_le HP4.out HDv2.out.size)).trans s2⟩
    have HDv3 : Hid (Below w4.heap.size w4 v3) := Lib.hid (HDv2.out.trans (b2.mono HDv2.out.size))
    clear b2 hS0
    refine hK.out _ _ hS2 (fun hS0 => ?_)
    clear hK K hS2
    refine wpAnyH_take (i := 12) (v := ?_) rfl (by kernel_rfl) (by kernel_rfl) (by kernel_rfl) (fun _ _ _ h => h) (Or.inl ⟨by kernel_rfl, ?_⟩) (by assumption) ?_
    rotate_left
    · intro w hSw; (try dsimp only at hSw); go_simp; (try with_reducible rfl)
    refine wpAnyH_take (i := 13) (v := ?_) rfl (by kernel_rfl) (by kernel_rfl) (by kernel_rfl) (fun _ _ _ h => h) (Or.inl ⟨by kernel_rfl, ?_⟩) (by assumption) ?_
    rotate_left
    · intro w hSw; (try dsimp only at hSw); go_simp; (try with_reducible rfl)
    clear hS0
    refine wpAnyH_done (by kernel_rfl) ?_ _
    go_simp
    go_wp2
    go_ret2
    exact ⟨H5.out.1.trans (HDv3.out.mono H5.out.1.size), fun h => absurd HQ.out h, fun _ _ => rfl, fun _ h => absurd h HOK.out⟩
set_option maxRecDepth 100000 in
set_option maxHeartbeats 4000000 in
theorem rq_0_1 (a : SaV) (sv : Value) (w : World) (hk : a.k = 0) (hws : WsAt w sv a.ws) (hwf : a.wf) (hc0 : 0 ≤ a.c ∧ a.c ≤ 255) (hc1 : ¬ (a.d.size ≤ 65535)) :
    Calls Try.prog 9 #[.agg #[.int .i64 a.k, .int .i64 a.c, .int .u64 a.t, .string a.d, .int .i64 a.n, .int .i64 a.mk, .int .i64 a.mt, .int .u64 a.mh, .int .i64 a.pf, .int .u64 a.pq, .int .u64 a.pt, .string a.pd, .string a.mp, sv]] w fun x w' => Below w.heap.size w w' ∧
      (a ≠ (fmOf 0).keep a (zeroK 0) → x = .returned (.tuple #[.string ⟨#[]⟩, .int .i64 5])) ∧
      (a = (fmOf 0).keep a (zeroK 0) → ¬ (fmOf 0).ok a → x = .returned (.tuple #[.string ⟨#[]⟩, .int .i64 1])) ∧
      (a = (fmOf 0).keep a (zeroK 0) → (fmOf 0).ok a → x = .returned (.tuple #[.string (txt ([0] ++ (fmOf 0).enc a)), .int .i64 0])) := by
  have HC0 := Lib.hid hc0
  clear hc0
  have HC1 := Lib.hid hc1
  clear hc1
  have HRR := Lib.hid (fun (wz : World) (h : WsAt wz sv a.ws) => rr_0 a sv wz hk h)
  rw [hk] at HRR
  rw [hk]
  clear hk
  obtain ⟨P, hP⟩ : ∃ z, z = w.heap.size := ⟨_, rfl⟩
  obtain ⟨w1, hw1⟩ : ∃ z, z = w.alloc (.cells #[.int .i64 0, .int .i64 a.c, .int .u64 a.t, .string a.d, .int .i64 a.n, .int .i64 a.mk, .int .i64 a.mt, .int .u64 a.mh, .int .i64 a.pf, .int .u64 a.pq, .int .u64 a.pt, .string a.pd, .string a.mp, sv] 29) := ⟨_, rfl⟩
  have hb : w1.heap[P]? = some (.cells #[.int .i64 0, .int .i64 a.c, .int .u64 a.t, .string a.d, .int .i64 a.n, .int .i64 a.mk, .int .i64 a.mt, .int .u64 a.mh, .int .i64 a.pf, .int .u64 a.pq, .int .u64 a.pt, .string a.pd, .string a.mp, sv] 29 (0, 0)) := by
    rw [hw1, hP]; exact Kq.blk_new _ _ _ _
  have ba : Below w.heap.size w w1 := by rw [hw1]; exact Kq.below_alloc _ _
  have HWS : Hid (∀ wz, Below w1.heap.size w1 wz → WsAt wz sv a.ws) := Lib.hid (fun wz h => by
    have h2 := hws.keeps (S := fun _ => False) (Kq.Keeps.of_below ba (fun k h1 h2 => absurd h1 (Nat.not_le.2 h2))) (fun _ _ => id)
    exact h2.keeps (S := fun _ => False) (Kq.Keeps.of_below h (fun k h1 h2 => absurd h1 (Nat.not_le.2 h2))) (fun _ _ => id))
  have H1 := Lib.hid (And.intro ba (And.intro hb (Kq.blk_lt hb)))
  have HPW : Hid (w.heap.size ≤ P) := Lib.hid (by omega)
  have HWF := Lib.hid hwf
  have D0 : w1.cell? ⟨P, 0, none⟩ = some (.int .i64 0) := Kq.blk_cell hb 0
  rw [hw1, hP] at D0
  clear hws hwf ba hb
  go_enter Try.func9, Try.ntmps9
  go_wp2_with fail
  rw [← hw1, ← hP]
  clear hw1 hP D0
  refine (HRR.out w1 (HWS.out w1 (Below.refl _ _))).mono ?_
  rintro x w2 ⟨rfl, b2⟩
  have H2 := Lib.hid b2
  by_cases hq : a = (fmOf 0).keep a (zeroK 0)
  case neg =>
    have HQ := Lib.hid hq
    rw [decide_eq_false hq]
    clear hq b2
    go_wp2
    go_ret2
    exact ⟨H1.out.1.trans (H2.out.mono H1.out.1.size), fun _ => rfl, fun h => absurd h HQ.out, fun h => absurd h HQ.out⟩
  have HQ := Lib.hid hq
  rw [decide_eq_true hq]
  clear hq
  have hb := Kq.below_blk b2 H1.out.2.1 H1.out.2.2
  have d0 : w2.cell? ⟨P, 0, none⟩ = some (.int .i64 0) := Kq.blk_cell hb 0
  clear hb b2
  go_wp2_with fail
  clear d0
  have HNK : Hid (∀ wz, Calls Try.prog 24 #[.int .i64 0, .int .i64 1] wz fun x w' => x = .returned (.string (txt [0])) ∧ Below wz.heap.size wz w') := Lib.hid (fun wz => by
    have h := rf_num 0 1 (by decide) wz
    rw [be1_u64] at h
    exact h)
  refine (HNK.out w2).mono ?_
  rintro x w3 ⟨rfl, b3⟩
  have H3 := Lib.hid (H2.out.trans (b3.mono H2.out.size))
  clear b3 HNK H2 HRR
  have hb := Kq.below_blk H3.out H1.out.2.1 H1.out.2.2
  have d0 : w3.cell? ⟨P, 0, none⟩ = some (.int .i64 0) := Kq.blk_cell hb 0
  have d5 : w3.cell? ⟨P, 5, none⟩ = some (.int .i64 a.mk) := Kq.blk_cell hb 5
  have d6 : w3.cell? ⟨P, 6, none⟩ = some (.int .i64 a.mt) := Kq.blk_cell hb 6
  have d7 : w3.cell? ⟨P, 7, none⟩ = some (.int .u64 a.mh) := Kq.blk_cell hb 7
  have d8 : w3.cell? ⟨P, 8, none⟩ = some (.int .i64 a.pf) := Kq.blk_cell hb 8
  have d9 : w3.cell? ⟨P, 9, none⟩ = some (.int .u64 a.pq) := Kq.blk_cell hb 9
  have d10 : w3.cell? ⟨P, 10, none⟩ = some (.int .u64 a.pt) := Kq.blk_cell hb 10
  have d11 : w3.cell? ⟨P, 11, none⟩ = some (.string a.pd) := Kq.blk_cell hb 11
  have d12 : w3.cell? ⟨P, 12, none⟩ = some (.string a.mp) := Kq.blk_cell hb 12
  have hp0 : P < w3.heap.size := Kq.blk_lt hb
  have hp1 : ¬ P = w3.heap.size := by omega
  have hp2 : ¬ P = w3.heap.size + 1 := by omega
  clear hb
  go_wp2_with fail
  go_region
  all_goals
    first
    | (obtain ⟨w4, hw4⟩ : ∃ z, z = ((w3.alloc (.cells #[.int .i64 a.mk, .int .i64 a.mt, .int .u64 a.mh, .int .i64 a.pf, .int .u64 a.pq, .int .u64 a.pt, .string a.pd, .string a.mp] 26)).alloc (.cells #[.int .i64 a.pf, .int .u64 a.pq, .int .u64 a.pt, .string a.pd] 24)).drew := ⟨_, rfl⟩
       rw [← hw4]
       obtain ⟨N, hN⟩ : ∃ z, z = w3.heap.size + 1 := ⟨_, rfl⟩
       obtain ⟨M, hM⟩ : ∃ z, z = w3.heap.size := ⟨_, rfl⟩
       rw [← hN, ← hM]
       have H4 : Hid (Below w3.heap.size w3 w4 ∧ w4.heap[M]? = some (.cells #[.int .i64 a.mk, .int .i64 a.mt, .int .u64 a.mh, .int .i64 a.pf, .int .u64 a.pq, .int .u64 a.pt, .string a.pd, .string a.mp] 26 (0, 0)) ∧ w4.heap[N]? = some (.cells #[.int .i64 a.pf, .int .u64 a.pq, .int .u64 a.pt, .string a.pd] 24 (0, 0))) := Lib.hid (by
         rw [hw4, hM, hN]; exact two_drew _ _ _ _ _)
       clear hw4 hM hN)
    | (obtain ⟨w4, hw4⟩ : ∃ z, z = ((w3.alloc (.cells #[.int .i64 a.pf, .int .u64 a.pq, .int .u64 a.pt, .string a.pd] 24)).alloc (.cells #[.int .i64 a.mk, .int .i64 a.mt, .int .u64 a.mh, .int .i64 a.pf, .int .u64 a.pq, .int .u64 a.pt, .string a.pd, .string a.mp] 26)).drew := ⟨_, rfl⟩
       rw [← hw4]
       obtain ⟨M, hM⟩ : ∃ z, z = w3.heap.size + 1 := ⟨_, rfl⟩
       obtain ⟨N, hN⟩ : ∃ z, z = w3.heap.size := ⟨_, rfl⟩
       rw [← hM, ← hN]
       have H4 : Hid (Below w3.heap.size w3 w4 ∧ w4.heap[M]? = some (.cells #[.int .i64 a.mk, .int .i64 a.mt, .int .u64 a.mh, .int .i64 a.pf, .int .u64 a.pq, .int .u64 a.pt, .string a.pd, .string a.mp] 26 (0, 0)) ∧ w4.heap[N]? = some (.cells #[.int .i64 a.pf, .int .u64 a.pq, .int .u64 a.pt, .string a.pd] 24 (0, 0))) := Lib.hid (by
         rw [hw4, hM, hN]
         obtain ⟨x1, x2, x3⟩ := two_drew w3 #[.int .i64 a.pf, .int .u64 a.pq, .int .u64 a.pt, .string a.pd] #[.int .i64 a.mk, .int .i64 a.mt, .int .u64 a.mh, .int .i64 a.pf, .int .u64 a.pq, .int .u64 a.pt, .string a.pd, .string a.mp] 24 26
         exact ⟨x1, x3, x2⟩)
       clear hw4 hM hN)
    have H5 : Hid (Below w.heap.size w w4 ∧ Below w1.heap.size w1 w4) := Lib.hid ⟨H1.out.1.trans ((H3.out.trans (H4.out.1.mono H3.out.size)).mono H1.out.1.size), H3.out.trans (H4.out.1.mono H3.out.size)⟩
    have hb := Kq.below_blk H5.out.2 H1.out.2.1 H1.out.2.2
    clear d0 d5 d6 d7 d8 d9 d10 d11 d12 hp0 hp1 hp2
    have HP4 : Hid (P < w4.heap.size) := Lib.hid (Kq.blk_lt hb)
    have d0 : w4.cell? ⟨P, 0, none⟩ = some (.int .i64 0) := Kq.blk_cell hb 0
    have d1 : w4.cell? ⟨P, 1, none⟩ = some (.int .i64 a.c) := Kq.blk_cell hb 1
    have d2 : w4.cell? ⟨P, 2, none⟩ = some (.int .u64 a.t) := Kq.blk_cell hb 2
    have d3 : w4.cell? ⟨P, 3, none⟩ = some (.string a.d) := Kq.blk_cell hb 3
    clear hb
    obtain ⟨T0, hT0⟩ : ∃ z, z = txt ([0]) := ⟨_, rfl⟩
    have hz0 : T0.size = 1 := by rw [hT0, txt_size]; rfl
    obtain ⟨T1, hT1⟩ : ∃ z, z = txt (be (u64 a.c) 1) := ⟨_, rfl⟩
    have hz1 : T1.size = 1 := by rw [hT1, txt_size, be_len]
    obtain ⟨T2, hT2⟩ : ∃ z, z = txt (num8 a.t.toNat) := ⟨_, rfl⟩
    have hz2 : T2.size = 8 := by rw [hT2, txt_size]; rfl
    obtain ⟨T3, hT3⟩ : ∃ z, z = txt (be a.d.size 2 ++ nl a.d) := ⟨_, rfl⟩
    have hz3 : T3.size ≤ 70002 := by have := HWF.out.d; rw [hT3, txt_size, List.length_append, be_len, nl_length]; omega
    have g1 : ¬ 9223372036854775807 < T0.size + T1.size := by omega
    have g2 : ¬ 9223372036854775807 < T0.size + T1.size + T2.size := by omega
    have g3 : ¬ 9223372036854775807 < T0.size + T1.size + T2.size + T3.size := by omega
    have g2' : ¬ 9223372036854775807 < (T0 ++ T1).size + T2.size := by simp only [ByteArray.size_append]; omega
    have g3' : ¬ 9223372036854775807 < (T0 ++ T1 ++ T2).size + T3.size := by simp only [ByteArray.size_append]; omega
    have HN1 : Hid (∀ wz, Calls Try.prog 24 #[.int .i64 a.c, .int .i64 1] wz fun x w' => x = .returned (.string T1) ∧ Below wz.heap.size wz w') := Lib.hid (fun wz => by rw [hT1]; exact rf_num a.c 1 (by decide) wz)
    have HN2 : Hid (∀ wz, Calls Try.prog 26 #[.int .u64 a.t, .int .i64 8] wz fun x w' => x = .returned (.string T2) ∧ Below wz.heap.size wz w') := Lib.hid (fun wz => by
      have q := HWF.out.t
      have h := ref_num a.t.toNat 8 wz (by unfold M64; omega) (by decide)
      rw [show ((a.t.toNat : Nat) : Int) = a.t by omega, be8, ← hT2] at h
      exact h)
    have HN3 : Hid (∀ wz, Calls Try.prog 27 #[.string a.d] wz fun x w' => x = .returned (.string T3) ∧ Below wz.heap.size wz w') := Lib.hid (fun wz => by rw [hT3]; exact rf_text a.d HWF.out.d wz)
    have HOK : Hid (¬ (fmOf 0).ok a) := Lib.hid (fun h => by
      obtain ⟨_, _, y, _⟩ := h
      exact HC1.out y)
    rw [← hT0]
    clear hT0 hz0 hT1 hz1 hT2 hz2 hT3 hz3
    have u1 : decide ((a.d.size : Int) ≤ 65535) = false := decide_eq_false (by have := HC1.out; omega)
    have v1_ : decide (a.d.size ≤ 65535) = false := decide_eq_false HC1.out
    go_wp2_with fail
    refine (rf_fits a.c w4).mono ?_
    rintro x w5 ⟨rfl, rfl⟩
    rw [decide_eq_true HC0.out]
    go_wp2
    have hS : w4.drew.cell? ⟨P, 1, none⟩ = some (.int .i64 a.c) ∧ w4.drew.cell? ⟨P, 2, none⟩ = some (.int .u64 a.t) ∧ w4.drew.cell? ⟨P, 3, none⟩ = some (.string a.d) := ⟨d1, d2, d3⟩
    clear d1 d2 d3 d0
    refine wp_region_held_drew (S := fun cur => cur.cell? ⟨P, 1, none⟩ = some (.int .i64 a.c) ∧ cur.cell? ⟨P, 2, none⟩ = some (.int .u64 a.t) ∧ cur.cell? ⟨P, 3, none⟩ = some (.string a.d)) (by kernel_rfl) hS (fun hS0 => ?_)
    obtain ⟨v0, hv0⟩ : ∃ z, z = w4.drew := ⟨_, rfl⟩
    have HDv0 : Hid (Below w4.heap.size w4 v0) := Lib.hid (by rw [hv0]; exact (Below.refl _ _).drew)
    rw [← hv0] at hS0 ⊢
    clear hv0 hS
    refine wpAnyH_take (i := 0) (v := ?_) rfl (by kernel_rfl) (by kernel_rfl) (by kernel_rfl) (fun _ _ _ h => h) (Or.inl ⟨by kernel_rfl, ?_⟩) (by assumption) ?_
    rotate_left
    · intro w hSw; (try dsimp only at hSw); go_simp; (try with_reducible rfl)
    refine wpAnyH_take (i := 1) (v := ?_) rfl (by kernel_rfl) (by kernel_rfl) (by kernel_rfl) (fun _ _ _ h => h) (Or.inl ⟨by kernel_rfl, ?_⟩) (by assumption) ?_
    rotate_left
    · intro w hSw; (try dsimp only at hSw); go_simp; (try with_reducible rfl)
    refine wpAnyH_take (i := 2) (v := ?_) rfl (by kernel_rfl) (by kernel_rfl) (by kernel_rfl) (fun _ _ _ h => h) (Or.inl ⟨by kernel_rfl, ?_⟩) (by assumption) ?_
    rotate_left
    · intro w hSw; (try dsimp only at hSw); go_simp; (try with_reducible rfl)
    refine wpAnyH_take (i := 5) (v := ?_) rfl (by kernel_rfl) (by kernel_rfl) (by kernel_rfl) (fun _ _ _ h => h) (Or.inl ⟨by kernel_rfl, ?_⟩) (by assumption) ?_
    rotate_left
    · intro w hSw; (try dsimp only at hSw); go_simp; (try with_reducible rfl)
    refine wpAnyH_take (i := 6) (v := ?_) rfl (by kernel_rfl) (by kernel_rfl) (by kernel_rfl) (fun _ _ _ h => h) (Or.inl ⟨by kernel_rfl, ?_⟩) (by assumption) ?_
    rotate_left
    · intro w hSw; (try dsimp only at hSw); go_simp; (try with_reducible rfl)
    refine wpAnyH_take (i := 9) (v := ?_) rfl (by kernel_rfl) (by kernel_rfl) (by kernel_rfl) (fun _ _ _ h => h) (Or.inl ⟨by kernel_rfl, ?_⟩) (by assumption) ?_
    rotate_left
    · intro w hSw; (try dsimp only at hSw); go_simp; (try with_reducible rfl)
    refine wpAnyH_take (i := 10) (v := ?_) rfl (by kernel_rfl) (by kernel_rfl) (by kernel_rfl) (fun _ _ _ h => h) (Or.inl ⟨by kernel_rfl, ?_⟩) (by assumption) ?_
    rotate_left
    · intro w hSw; (try dsimp only at hSw); go_simp; (try with_reducible rfl)
    refine wpAnyH_ready (rs := [3]) (by kernel_rfl) (by simp) ?_
    refine AllReadyH.cons rfl (fun K hK => ?_) AllReadyH.nil
    go_simp
    refine (HN1.out v0).mono ?_
    rintro x v1 ⟨rfl, b2⟩
    have hS2 : v1.cell? ⟨P, 1, none⟩ = some (.int .i64 a.c) ∧ v1.cell? ⟨P, 2, none⟩ = some (.int .u64 a.t) ∧ v1.cell? ⟨P, 3, none⟩ = some (.string a.d) := by
      obtain ⟨s0, s1, s2⟩ := hS0
      exact ⟨(b2.cell (p := ⟨P, 1, none⟩) (Nat.lt_of_lt_of_le HP4.out HDv0.out.size)).trans s0, (b2.cell (p := ⟨P, 2, none⟩) (Nat.lt_of_lt_of_le HP4.out HDv0.out.size)).trans s1, (b2.cell (p := ⟨P, 3, none⟩) (Nat.lt_of_lt_of_le HP4.out HDv0.out.size)).trans s2⟩
    have HDv1 : Hid (Below w4.heap.size w4 v1) := Lib.hid (HDv0.out.trans (b2.mono HDv0.out.size))
    clear b2 hS0
    refine hK.out _ _ hS2 (fun hS0 => ?_)
    clear hK K hS2
    refine wpAnyH_take (i := 4) (v := ?_) rfl (by kernel_rfl) (by kernel_rfl) (by kernel_rfl) (fun _ _ _ h => h) (Or.inl ⟨by kernel_rfl, ?_⟩) (by assumption) ?_
    rotate_left
    · intro w hSw; (try dsimp only at hSw); go_simp; (try with_reducible rfl)
    refine wpAnyH_ready (rs := [7]) (by kernel_rfl) (by simp) ?_
    refine AllReadyH.cons rfl (fun K hK => ?_) AllReadyH.nil
    go_simp
    refine (HN2.out v1).mono ?_
    rintro x v2 ⟨rfl, b2⟩
    have hS2 : v2.cell? ⟨P, 1, none⟩ = some (.int .i64 a.c) ∧ v2.cell? ⟨P, 2, none⟩ = some (.int .u64 a.t) ∧ v2.cell? ⟨P, 3, none⟩ = some (.string a.d) := by
      obtain ⟨s0, s1, s2⟩ := hS0
      exact ⟨(b2.cell (p := ⟨P, 1, none⟩) (Nat.lt_of_lt_of_le HP4.out HDv1.out.size)).trans s0, (b2.cell (p := ⟨P, 2, none⟩) (Nat.lt_of_lt_of_le HP4.out HDv1.out.size)).trans s1, (b2.cell (p := ⟨P, 3, none⟩) (Nat.lt_of_lt_of_le HP4.out HDv1.out.size)).trans s2⟩
    have HDv2 : Hid (Below w4.heap.size w4 v2) := Lib.hid (HDv1.out.trans (b2.mono HDv1.out.size))
    clear b2 hS0
    refine hK.out _ _ hS2 (fun hS0 => ?_)
    clear hK K hS2
    refine wpAnyH_take (i := 8) (v := ?_) rfl (by kernel_rfl) (by kernel_rfl) (by kernel_rfl) (fun _ _ _ h => h) (Or.inl ⟨by kernel_rfl, ?_⟩) (by assumption) ?_
    rotate_left
    · intro w hSw; (try dsimp only at hSw); go_simp; (try with_reducible rfl)
    refine wpAnyH_ready (rs := [11]) (by kernel_rfl) (by simp) ?_
    refine AllReadyH.cons rfl (fun K hK => ?_) AllReadyH.nil
    go_simp
    refine (HN3.out v2).mono ?_
    rintro x v3 ⟨rfl, b2⟩
    have hS2 : v3.cell? ⟨P, 1, none⟩ = some (.int .i64 a.c) ∧ v3.cell? ⟨P, 2, none⟩ = some (.int .u64 a.t) ∧ v3.cell? ⟨P, 3, none⟩ = some (.string a.d) := by
      obtain ⟨s0, s1, s2⟩ := hS0
      exact ⟨(b2.cell (p := ⟨P, 1, none⟩) (Nat.lt_of_lt_of_le HP4.out HDv2.out.size)).trans s0, (b2.cell (p := ⟨P, 2, none⟩) (Nat.lt_of_lt_of_le HP4.out HDv2.out.size)).trans s1, (b2.cell (p := ⟨P, 3, none⟩) (Nat.lt_of_lt_of_le HP4.out HDv2.out.size)).trans s2⟩
    have HDv3 : Hid (Below w4.heap.size w4 v3) := Lib.hid (HDv2.out.trans (b2.mono HDv2.out.size))
    clear b2 hS0
    refine hK.out _ _ hS2 (fun hS0 => ?_)
    clear hK K hS2
    refine wpAnyH_take (i := 12) (v := ?_) rfl (by kernel_rfl) (by kernel_rfl) (by kernel_rfl) (fun _ _ _ h => h) (Or.inl ⟨by kernel_rfl, ?_⟩) (by assumption) ?_
    rotate_left
    · intro w hSw; (try dsimp only at hSw); go_simp; (try with_reducible rfl)
    refine wpAnyH_take (i := 13) (v := ?_) rfl (by kernel_rfl) (by kernel_rfl) (by kernel_rfl) (fun _ _ _ h => h) (Or.inl ⟨by kernel_rfl, ?_⟩) (by assumption) ?_
    rotate_left
    · intro w hSw; (try dsimp only at hSw); go_simp; (try with_reducible rfl)
    clear hS0
    refine wpAnyH_done (by kernel_rfl) ?_ _
    go_simp
    go_wp2
    go_ret2
    exact ⟨H5.out.1.trans (HDv3.out.mono H5.out.1.size), fun h => absurd HQ.out h, fun _ _ => rfl, fun _ h => absurd h HOK.out⟩
set_option maxRecDepth 100000 in
set_option maxHeartbeats 4000000 in
theorem rq_0_2 (a : SaV) (sv : Value) (w : World) (hk : a.k = 0) (hws : WsAt w sv a.ws) (hwf : a.wf) (hc0 : 0 ≤ a.c ∧ a.c ≤ 255) (hc1 : a.d.size ≤ 65535) :
    Calls Try.prog 9 #[.agg #[.int .i64 a.k, .int .i64 a.c, .int .u64 a.t, .string a.d, .int .i64 a.n, .int .i64 a.mk, .int .i64 a.mt, .int .u64 a.mh, .int .i64 a.pf, .int .u64 a.pq, .int .u64 a.pt, .string a.pd, .string a.mp, sv]] w fun x w' => Below w.heap.size w w' ∧
      (a ≠ (fmOf 0).keep a (zeroK 0) → x = .returned (.tuple #[.string ⟨#[]⟩, .int .i64 5])) ∧
      (a = (fmOf 0).keep a (zeroK 0) → ¬ (fmOf 0).ok a → x = .returned (.tuple #[.string ⟨#[]⟩, .int .i64 1])) ∧
      (a = (fmOf 0).keep a (zeroK 0) → (fmOf 0).ok a → x = .returned (.tuple #[.string (txt ([0] ++ (fmOf 0).enc a)), .int .i64 0])) := by
  have HC0 := Lib.hid hc0
  clear hc0
  have HC1 := Lib.hid hc1
  clear hc1
  have HRR := Lib.hid (fun (wz : World) (h : WsAt wz sv a.ws) => rr_0 a sv wz hk h)
  rw [hk] at HRR
  rw [hk]
  clear hk
  obtain ⟨P, hP⟩ : ∃ z, z = w.heap.size := ⟨_, rfl⟩
  obtain ⟨w1, hw1⟩ : ∃ z, z = w.alloc (.cells #[.int .i64 0, .int .i64 a.c, .int .u64 a.t, .string a.d, .int .i64 a.n, .int .i64 a.mk, .int .i64 a.mt, .int .u64 a.mh, .int .i64 a.pf, .int .u64 a.pq, .int .u64 a.pt, .string a.pd, .string a.mp, sv] 29) := ⟨_, rfl⟩
  have hb : w1.heap[P]? = some (.cells #[.int .i64 0, .int .i64 a.c, .int .u64 a.t, .string a.d, .int .i64 a.n, .int .i64 a.mk, .int .i64 a.mt, .int .u64 a.mh, .int .i64 a.pf, .int .u64 a.pq, .int .u64 a.pt, .string a.pd, .string a.mp, sv] 29 (0, 0)) := by
    rw [hw1, hP]; exact Kq.blk_new _ _ _ _
  have ba : Below w.heap.size w w1 := by rw [hw1]; exact Kq.below_alloc _ _
  have HWS : Hid (∀ wz, Below w1.heap.size w1 wz → WsAt wz sv a.ws) := Lib.hid (fun wz h => by
    have h2 := hws.keeps (S := fun _ => False) (Kq.Keeps.of_below ba (fun k h1 h2 => absurd h1 (Nat.not_le.2 h2))) (fun _ _ => id)
    exact h2.keeps (S := fun _ => False) (Kq.Keeps.of_below h (fun k h1 h2 => absurd h1 (Nat.not_le.2 h2))) (fun _ _ => id))
  have H1 := Lib.hid (And.intro ba (And.intro hb (Kq.blk_lt hb)))
  have HPW : Hid (w.heap.size ≤ P) := Lib.hid (by omega)
  have HWF := Lib.hid hwf
  have D0 : w1.cell? ⟨P, 0, none⟩ = some (.int .i64 0) := Kq.blk_cell hb 0
  rw [hw1, hP] at D0
  clear hws hwf ba hb
  go_enter Try.func9, Try.ntmps9
  go_wp2_with fail
  rw [← hw1, ← hP]
  clear hw1 hP D0
  refine (HRR.out w1 (HWS.out w1 (Below.refl _ _))).mono ?_
  rintro x w2 ⟨rfl, b2⟩
  have H2 := Lib.hid b2
  by_cases hq : a = (fmOf 0).keep a (zeroK 0)
  case neg =>
    have HQ := Lib.hid hq
    rw [decide_eq_false hq]
    clear hq b2
    go_wp2
    go_ret2
    exact ⟨H1.out.1.trans (H2.out.mono H1.out.1.size), fun _ => rfl, fun h => absurd h HQ.out, fun h => absurd h HQ.out⟩
  have HQ := Lib.hid hq
  rw [decide_eq_true hq]
  clear hq
  have hb := Kq.below_blk b2 H1.out.2.1 H1.out.2.2
  have d0 : w2.cell? ⟨P, 0, none⟩ = some (.int .i64 0) := Kq.blk_cell hb 0
  clear hb b2
  go_wp2_with fail
  clear d0
  have HNK : Hid (∀ wz, Calls Try.prog 24 #[.int .i64 0, .int .i64 1] wz fun x w' => x = .returned (.string (txt [0])) ∧ Below wz.heap.size wz w') := Lib.hid (fun wz => by
    have h := rf_num 0 1 (by decide) wz
    rw [be1_u64] at h
    exact h)
  refine (HNK.out w2).mono ?_
  rintro x w3 ⟨rfl, b3⟩
  have H3 := Lib.hid (H2.out.trans (b3.mono H2.out.size))
  clear b3 HNK H2 HRR
  have hb := Kq.below_blk H3.out H1.out.2.1 H1.out.2.2
  have d0 : w3.cell? ⟨P, 0, none⟩ = some (.int .i64 0) := Kq.blk_cell hb 0
  have d5 : w3.cell? ⟨P, 5, none⟩ = some (.int .i64 a.mk) := Kq.blk_cell hb 5
  have d6 : w3.cell? ⟨P, 6, none⟩ = some (.int .i64 a.mt) := Kq.blk_cell hb 6
  have d7 : w3.cell? ⟨P, 7, none⟩ = some (.int .u64 a.mh) := Kq.blk_cell hb 7
  have d8 : w3.cell? ⟨P, 8, none⟩ = some (.int .i64 a.pf) := Kq.blk_cell hb 8
  have d9 : w3.cell? ⟨P, 9, none⟩ = some (.int .u64 a.pq) := Kq.blk_cell hb 9
  have d10 : w3.cell? ⟨P, 10, none⟩ = some (.int .u64 a.pt) := Kq.blk_cell hb 10
  have d11 : w3.cell? ⟨P, 11, none⟩ = some (.string a.pd) := Kq.blk_cell hb 11
  have d12 : w3.cell? ⟨P, 12, none⟩ = some (.string a.mp) := Kq.blk_cell hb 12
  have hp0 : P < w3.heap.size := Kq.blk_lt hb
  have hp1 : ¬ P = w3.heap.size := by omega
  have hp2 : ¬ P = w3.heap.size + 1 := by omega
  clear hb
  go_wp2_with fail
  go_region
  all_goals
    first
    | (obtain ⟨w4, hw4⟩ : ∃ z, z = ((w3.alloc (.cells #[.int .i64 a.mk, .int .i64 a.mt, .int .u64 a.mh, .int .i64 a.pf, .int .u64 a.pq, .int .u64 a.pt, .string a.pd, .string a.mp] 26)).alloc (.cells #[.int .i64 a.pf, .int .u64 a.pq, .int .u64 a.pt, .string a.pd] 24)).drew := ⟨_, rfl⟩
       rw [← hw4]
       obtain ⟨N, hN⟩ : ∃ z, z = w3.heap.size + 1 := ⟨_, rfl⟩
       obtain ⟨M, hM⟩ : ∃ z, z = w3.heap.size := ⟨_, rfl⟩
       rw [← hN, ← hM]
       have H4 : Hid (Below w3.heap.size w3 w4 ∧ w4.heap[M]? = some (.cells #[.int .i64 a.mk, .int .i64 a.mt, .int .u64 a.mh, .int .i64 a.pf, .int .u64 a.pq, .int .u64 a.pt, .string a.pd, .string a.mp] 26 (0, 0)) ∧ w4.heap[N]? = some (.cells #[.int .i64 a.pf, .int .u64 a.pq, .int .u64 a.pt, .string a.pd] 24 (0, 0))) := Lib.hid (by
         rw [hw4, hM, hN]; exact two_drew _ _ _ _ _)
       clear hw4 hM hN)
    | (obtain ⟨w4, hw4⟩ : ∃ z, z = ((w3.alloc (.cells #[.int .i64 a.pf, .int .u64 a.pq, .int .u64 a.pt, .string a.pd] 24)).alloc (.cells #[.int .i64 a.mk, .int .i64 a.mt, .int .u64 a.mh, .int .i64 a.pf, .int .u64 a.pq, .int .u64 a.pt, .string a.pd, .string a.mp] 26)).drew := ⟨_, rfl⟩
       rw [← hw4]
       obtain ⟨M, hM⟩ : ∃ z, z = w3.heap.size + 1 := ⟨_, rfl⟩
       obtain ⟨N, hN⟩ : ∃ z, z = w3.heap.size := ⟨_, rfl⟩
       rw [← hM, ← hN]
       have H4 : Hid (Below w3.heap.size w3 w4 ∧ w4.heap[M]? = some (.cells #[.int .i64 a.mk, .int .i64 a.mt, .int .u64 a.mh, .int .i64 a.pf, .int .u64 a.pq, .int .u64 a.pt, .string a.pd, .string a.mp] 26 (0, 0)) ∧ w4.heap[N]? = some (.cells #[.int .i64 a.pf, .int .u64 a.pq, .int .u64 a.pt, .string a.pd] 24 (0, 0))) := Lib.hid (by
         rw [hw4, hM, hN]
         obtain ⟨x1, x2, x3⟩ := two_drew w3 #[.int .i64 a.pf, .int .u64 a.pq, .int .u64 a.pt, .string a.pd] #[.int .i64 a.mk, .int .i64 a.mt, .int .u64 a.mh, .int .i64 a.pf, .int .u64 a.pq, .int .u64 a.pt, .string a.pd, .string a.mp] 24 26
         exact ⟨x1, x3, x2⟩)
       clear hw4 hM hN)
    have H5 : Hid (Below w.heap.size w w4 ∧ Below w1.heap.size w1 w4) := Lib.hid ⟨H1.out.1.trans ((H3.out.trans (H4.out.1.mono H3.out.size)).mono H1.out.1.size), H3.out.trans (H4.out.1.mono H3.out.size)⟩
    have hb := Kq.below_blk H5.out.2 H1.out.2.1 H1.out.2.2
    clear d0 d5 d6 d7 d8 d9 d10 d11 d12 hp0 hp1 hp2
    have HP4 : Hid (P < w4.heap.size) := Lib.hid (Kq.blk_lt hb)
    have d0 : w4.cell? ⟨P, 0, none⟩ = some (.int .i64 0) := Kq.blk_cell hb 0
    have d1 : w4.cell? ⟨P, 1, none⟩ = some (.int .i64 a.c) := Kq.blk_cell hb 1
    have d2 : w4.cell? ⟨P, 2, none⟩ = some (.int .u64 a.t) := Kq.blk_cell hb 2
    have d3 : w4.cell? ⟨P, 3, none⟩ = some (.string a.d) := Kq.blk_cell hb 3
    clear hb
    obtain ⟨T0, hT0⟩ : ∃ z, z = txt ([0]) := ⟨_, rfl⟩
    have hz0 : T0.size = 1 := by rw [hT0, txt_size]; rfl
    obtain ⟨T1, hT1⟩ : ∃ z, z = txt (be (u64 a.c) 1) := ⟨_, rfl⟩
    have hz1 : T1.size = 1 := by rw [hT1, txt_size, be_len]
    obtain ⟨T2, hT2⟩ : ∃ z, z = txt (num8 a.t.toNat) := ⟨_, rfl⟩
    have hz2 : T2.size = 8 := by rw [hT2, txt_size]; rfl
    obtain ⟨T3, hT3⟩ : ∃ z, z = txt (be a.d.size 2 ++ nl a.d) := ⟨_, rfl⟩
    have hz3 : T3.size ≤ 70002 := by have := HWF.out.d; rw [hT3, txt_size, List.length_append, be_len, nl_length]; omega
    have g1 : ¬ 9223372036854775807 < T0.size + T1.size := by omega
    have g2 : ¬ 9223372036854775807 < T0.size + T1.size + T2.size := by omega
    have g3 : ¬ 9223372036854775807 < T0.size + T1.size + T2.size + T3.size := by omega
    have g2' : ¬ 9223372036854775807 < (T0 ++ T1).size + T2.size := by simp only [ByteArray.size_append]; omega
    have g3' : ¬ 9223372036854775807 < (T0 ++ T1 ++ T2).size + T3.size := by simp only [ByteArray.size_append]; omega
    have HN1 : Hid (∀ wz, Calls Try.prog 24 #[.int .i64 a.c, .int .i64 1] wz fun x w' => x = .returned (.string T1) ∧ Below wz.heap.size wz w') := Lib.hid (fun wz => by rw [hT1]; exact rf_num a.c 1 (by decide) wz)
    have HN2 : Hid (∀ wz, Calls Try.prog 26 #[.int .u64 a.t, .int .i64 8] wz fun x w' => x = .returned (.string T2) ∧ Below wz.heap.size wz w') := Lib.hid (fun wz => by
      have q := HWF.out.t
      have h := ref_num a.t.toNat 8 wz (by unfold M64; omega) (by decide)
      rw [show ((a.t.toNat : Nat) : Int) = a.t by omega, be8, ← hT2] at h
      exact h)
    have HN3 : Hid (∀ wz, Calls Try.prog 27 #[.string a.d] wz fun x w' => x = .returned (.string T3) ∧ Below wz.heap.size wz w') := Lib.hid (fun wz => by rw [hT3]; exact rf_text a.d HWF.out.d wz)
    have HA : Hid (T0 ++ T1 ++ T2 ++ T3 = txt ([0] ++ (fmOf 0).enc a)) := Lib.hid (by
      have k0 := HC0.out
      have k1 := HC1.out
      have b0 : b256 [0] := fun x hx => by have := List.mem_singleton.1 hx; omega
      have e1 : be (u64 a.c) 1 = [a.c.toNat] := by rw [be1_u64, show (a.c % 256).toNat = a.c.toNat by omega]
      have b1 : b256 [a.c.toNat] := fun x hx => by have := List.mem_singleton.1 hx; omega
      have b2 : b256 (num8 a.t.toNat) := b256_num8 _
      have e3 : be a.d.size 2 = hi2 a.d.size := be2 _ (by omega)
      have b3 : b256 (hi2 a.d.size ++ nl a.d) := b256.app (hi2_lt _ (by omega)) (nl_lt _)
      have p1 := b0.app b1
      have p2 := p1.app b2
      rw [hT0, hT1, hT2, hT3, e1, e3, txt_appS _ _ b0 b1, txt_appS _ _ p1 b2, txt_appS _ _ p2 b3]
      rw [show (fmOf 0).enc a = [a.c.toNat] ++ (num8 a.t.toNat ++ ((hi2 a.d.size ++ nl a.d) ++ [])) from rfl]
      simp only [List.append_assoc, List.append_nil])
    have HOK : Hid ((fmOf 0).ok a) := Lib.hid ⟨HC0.out, trivial, HC1.out, trivial⟩
    rw [← hT0]
    clear hT0 hz0 hT1 hz1 hT2 hz2 hT3 hz3
    have u1 : decide ((a.d.size : Int) ≤ 65535) = true := decide_eq_true (by have := HC1.out; omega)
    have v1_ : decide (a.d.size ≤ 65535) = true := decide_eq_true HC1.out
    go_wp2_with fail
    refine (rf_fits a.c w4).mono ?_
    rintro x w5 ⟨rfl, rfl⟩
    rw [decide_eq_true HC0.out]
    go_wp2
    have hS : w4.drew.cell? ⟨P, 1, none⟩ = some (.int .i64 a.c) ∧ w4.drew.cell? ⟨P, 2, none⟩ = some (.int .u64 a.t) ∧ w4.drew.cell? ⟨P, 3, none⟩ = some (.string a.d) := ⟨d1, d2, d3⟩
    clear d1 d2 d3 d0
    refine wp_region_held_drew (S := fun cur => cur.cell? ⟨P, 1, none⟩ = some (.int .i64 a.c) ∧ cur.cell? ⟨P, 2, none⟩ = some (.int .u64 a.t) ∧ cur.cell? ⟨P, 3, none⟩ = some (.string a.d)) (by kernel_rfl) hS (fun hS0 => ?_)
    obtain ⟨v0, hv0⟩ : ∃ z, z = w4.drew := ⟨_, rfl⟩
    have HDv0 : Hid (Below w4.heap.size w4 v0) := Lib.hid (by rw [hv0]; exact (Below.refl _ _).drew)
    rw [← hv0] at hS0 ⊢
    clear hv0 hS
    refine wpAnyH_take (i := 0) (v := ?_) rfl (by kernel_rfl) (by kernel_rfl) (by kernel_rfl) (fun _ _ _ h => h) (Or.inl ⟨by kernel_rfl, ?_⟩) (by assumption) ?_
    rotate_left
    · intro w hSw; (try dsimp only at hSw); go_simp; (try with_reducible rfl)
    refine wpAnyH_take (i := 1) (v := ?_) rfl (by kernel_rfl) (by kernel_rfl) (by kernel_rfl) (fun _ _ _ h => h) (Or.inl ⟨by kernel_rfl, ?_⟩) (by assumption) ?_
    rotate_left
    · intro w hSw; (try dsimp only at hSw); go_simp; (try with_reducible rfl)
    refine wpAnyH_take (i := 2) (v := ?_) rfl (by kernel_rfl) (by kernel_rfl) (by kernel_rfl) (fun _ _ _ h => h) (Or.inl ⟨by kernel_rfl, ?_⟩) (by assumption) ?_
    rotate_left
    · intro w hSw; (try dsimp only at hSw); go_simp; (try with_reducible rfl)
    refine wpAnyH_take (i := 5) (v := ?_) rfl (by kernel_rfl) (by kernel_rfl) (by kernel_rfl) (fun _ _ _ h => h) (Or.inl ⟨by kernel_rfl, ?_⟩) (by assumption) ?_
    rotate_left
    · intro w hSw; (try dsimp only at hSw); go_simp; (try with_reducible rfl)
    refine wpAnyH_take (i := 6) (v := ?_) rfl (by kernel_rfl) (by kernel_rfl) (by kernel_rfl) (fun _ _ _ h => h) (Or.inl ⟨by kernel_rfl, ?_⟩) (by assumption) ?_
    rotate_left
    · intro w hSw; (try dsimp only at hSw); go_simp; (try with_reducible rfl)
    refine wpAnyH_take (i := 9) (v := ?_) rfl (by kernel_rfl) (by kernel_rfl) (by kernel_rfl) (fun _ _ _ h => h) (Or.inl ⟨by kernel_rfl, ?_⟩) (by assumption) ?_
    rotate_left
    · intro w hSw; (try dsimp only at hSw); go_simp; (try with_reducible rfl)
    refine wpAnyH_take (i := 10) (v := ?_) rfl (by kernel_rfl) (by kernel_rfl) (by kernel_rfl) (fun _ _ _ h => h) (Or.inl ⟨by kernel_rfl, ?_⟩) (by assumption) ?_
    rotate_left
    · intro w hSw; (try dsimp only at hSw); go_simp; (try with_reducible rfl)
    refine wpAnyH_ready (rs := [3]) (by kernel_rfl) (by simp) ?_
    refine AllReadyH.cons rfl (fun K hK => ?_) AllReadyH.nil
    go_simp
    refine (HN1.out v0).mono ?_
    rintro x v1 ⟨rfl, b2⟩
    have hS2 : v1.cell? ⟨P, 1, none⟩ = some (.int .i64 a.c) ∧ v1.cell? ⟨P, 2, none⟩ = some (.int .u64 a.t) ∧ v1.cell? ⟨P, 3, none⟩ = some (.string a.d) := by
      obtain ⟨s0, s1, s2⟩ := hS0
      exact ⟨(b2.cell (p := ⟨P, 1, none⟩) (Nat.lt_of_lt_of_le HP4.out HDv0.out.size)).trans s0, (b2.cell (p := ⟨P, 2, none⟩) (Nat.lt_of_lt_of_le HP4.out HDv0.out.size)).trans s1, (b2.cell (p := ⟨P, 3, none⟩) (Nat.lt_of_lt_of_le HP4.out HDv0.out.size)).trans s2⟩
    have HDv1 : Hid (Below w4.heap.size w4 v1) := Lib.hid (HDv0.out.trans (b2.mono HDv0.out.size))
    clear b2 hS0
    refine hK.out _ _ hS2 (fun hS0 => ?_)
    clear hK K hS2
    refine wpAnyH_take (i := 4) (v := ?_) rfl (by kernel_rfl) (by kernel_rfl) (by kernel_rfl) (fun _ _ _ h => h) (Or.inl ⟨by kernel_rfl, ?_⟩) (by assumption) ?_
    rotate_left
    · intro w hSw; (try dsimp only at hSw); go_simp; (try with_reducible rfl)
    refine wpAnyH_ready (rs := [7]) (by kernel_rfl) (by simp) ?_
    refine AllReadyH.cons rfl (fun K hK => ?_) AllReadyH.nil
    go_simp
    refine (HN2.out v1).mono ?_
    rintro x v2 ⟨rfl, b2⟩
    have hS2 : v2.cell? ⟨P, 1, none⟩ = some (.int .i64 a.c) ∧ v2.cell? ⟨P, 2, none⟩ = some (.int .u64 a.t) ∧ v2.cell? ⟨P, 3, none⟩ = some (.string a.d) := by
      obtain ⟨s0, s1, s2⟩ := hS0
      exact ⟨(b2.cell (p := ⟨P, 1, none⟩) (Nat.lt_of_lt_of_le HP4.out HDv1.out.size)).trans s0, (b2.cell (p := ⟨P, 2, none⟩) (Nat.lt_of_lt_of_le HP4.out HDv1.out.size)).trans s1, (b2.cell (p := ⟨P, 3, none⟩) (Nat.lt_of_lt_of_le HP4.out HDv1.out.size)).trans s2⟩
    have HDv2 : Hid (Below w4.heap.size w4 v2) := Lib.hid (HDv1.out.trans (b2.mono HDv1.out.size))
    clear b2 hS0
    refine hK.out _ _ hS2 (fun hS0 => ?_)
    clear hK K hS2
    refine wpAnyH_take (i := 8) (v := ?_) rfl (by kernel_rfl) (by kernel_rfl) (by kernel_rfl) (fun _ _ _ h => h) (Or.inl ⟨by kernel_rfl, ?_⟩) (by assumption) ?_
    rotate_left
    · intro w hSw; (try dsimp only at hSw); go_simp; (try with_reducible rfl)
    refine wpAnyH_ready (rs := [11]) (by kernel_rfl) (by simp) ?_
    refine AllReadyH.cons rfl (fun K hK => ?_) AllReadyH.nil
    go_simp
    refine (HN3.out v2).mono ?_
    rintro x v3 ⟨rfl, b2⟩
    have hS2 : v3.cell? ⟨P, 1, none⟩ = some (.int .i64 a.c) ∧ v3.cell? ⟨P, 2, none⟩ = some (.int .u64 a.t) ∧ v3.cell? ⟨P, 3, none⟩ = some (.string a.d) := by
      obtain ⟨s0, s1, s2⟩ := hS0
      exact ⟨(b2.cell (p := ⟨P, 1, none⟩) (Nat.lt_of_lt_of_le HP4.out HDv2.out.size)).trans s0, (b2.cell (p := ⟨P, 2, none⟩) (Nat.lt_of_lt_of_le HP4.out HDv2.out.size)).trans s1, (b2.cell (p := ⟨P, 3, none⟩) (Nat.lt_of_lt_of_le HP4.out HDv2.out.size)).trans s2⟩
    have HDv3 : Hid (Below w4.heap.size w4 v3) := Lib.hid (HDv2.out.trans (b2.mono HDv2.out.size))
    clear b2 hS0
    refine hK.out _ _ hS2 (fun hS0 => ?_)
    clear hK K hS2
    refine wpAnyH_take (i := 12) (v := ?_) rfl (by kernel_rfl) (by kernel_rfl) (by kernel_rfl) (fun _ _ _ h => h) (Or.inl ⟨by kernel_rfl, ?_⟩) (by assumption) ?_
    rotate_left
    · intro w hSw; (try dsimp only at hSw); go_simp; (try with_reducible rfl)
    refine wpAnyH_take (i := 13) (v := ?_) rfl (by kernel_rfl) (by kernel_rfl) (by kernel_rfl) (fun _ _ _ h => h) (Or.inl ⟨by kernel_rfl, ?_⟩) (by assumption) ?_
    rotate_left
    · intro w hSw; (try dsimp only at hSw); go_simp; (try with_reducible rfl)
    clear hS0
    refine wpAnyH_done (by kernel_rfl) ?_ _
    go_simp
    rw [HA.out]
    go_wp2
    go_ret2
    exact ⟨H5.out.1.trans (HDv3.out.mono H5.out.1.size), fun h => absurd HQ.out h, fun _ h => absurd HOK.out h, fun _ _ => rfl⟩
end Go.Proofs.Ytjilbcefikbihaa
