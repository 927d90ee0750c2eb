/- carrackref23's Put. Condition: numbers are numbers, texts not too long. -/
import Derived.WalkSpells
import Derived.Outline
import Derived.Deep.RegionHeld
import Derived.Deep.MidRow
import Derived.Test.YtjilbcefikbihaaHeldLastQ
import Derived.Test.YtjilbcefikbihaaScRrAQ
import Derived.Test.YtjilbcefikbihaaScRrBQ
import Derived.Test.YtjilbcefikbihaaScRrCQ
import Derived.Test.YtjilbcefikbihaaScRbQ
import Derived.Test.YtjilbcefikbihaaScRq0Q
namespace Go.Proofs.Ytjilbcefikbihaa
open Go.RowKit
set_option linter.unusedVariables false
set_option linter.unusedSimpArgs false
set_option maxRecDepth 100000 in
set_option maxHeartbeats 4000000 in
theorem rq_6_2 (a : SaV) (sv : Value) (w : World) (hk : a.k = 6) (hws : WsAt w sv a.ws) (hwf : a.wf) (hc0 : 0 ≤ a.mk ∧ a.mk ≤ 255) (hc1 : 0 ≤ a.mt ∧ a.mt ≤ 255) (hc2 : ¬ (0 ≤ a.pf ∧ a.pf ≤ 255)) :
    Calls Try.prog 9 #[.agg #[.int .i64 a.k, .int .i64 a.c, .int .u64 a.t, .string a.d, .int .i64 a.n, .int .i64 a.mk, .int .i64 a.mt, .int .u64 a.mh, .int .i64 a.pf, .int .u64 a.pq, .int .u64 a.pt, .string a.pd, .string a.mp, sv]] w fun x w' => Below w.heap.size w w' ∧
      (a ≠ (fmOf 6).keep a (zeroK 6) → x = .returned (.tuple #[.string ⟨#[]⟩, .int .i64 5])) ∧
      (a = (fmOf 6).keep a (zeroK 6) → ¬ (fmOf 6).ok a → x = .returned (.tuple #[.string ⟨#[]⟩, .int .i64 1])) ∧
      (a = (fmOf 6).keep a (zeroK 6) → (fmOf 6).ok a → x = .returned (.tuple #[.string (txt ([6] ++ (fmOf 6).enc a)), .int .i64 0])) := by
  have HC0 := Lib.hid hc0
  clear hc0
  have HC1 := Lib.hid hc1
  clear hc1
  have HC2 := Lib.hid hc2
  clear hc2
  have HRR := Lib.hid (fun (wz : World) (h : WsAt wz sv a.ws) => rr_6 a sv wz hk h)
  rw [hk] at HRR
  rw [hk]
  clear hk
  obtain ⟨P, hP⟩ : ∃ z, z = w.heap.size := ⟨_, rfl⟩
  obtain ⟨w1, hw1⟩ : ∃ z, z = w.alloc (.cells #[.int .i64 6, .int .i64 a.c, .int .u64 a.t, .string a.d, .int .i64 a.n, .int .i64 a.mk, .int .i64 a.mt, .int .u64 a.mh, .int .i64 a.pf, .int .u64 a.pq, .int .u64 a.pt, .string a.pd, .string a.mp, sv] 29) := ⟨_, rfl⟩
  have hb : w1.heap[P]? = some (.cells #[.int .i64 6, .int .i64 a.c, .int .u64 a.t, .string a.d, .int .i64 a.n, .int .i64 a.mk, .int .i64 a.mt, .int .u64 a.mh, .int .i64 a.pf, .int .u64 a.pq, .int .u64 a.pt, .string a.pd, .string a.mp, sv] 29 (0, 0)) := by
    rw [hw1, hP]; exact Kq.blk_new _ _ _ _
  have ba : Below w.heap.size w w1 := by rw [hw1]; exact Kq.below_alloc _ _
  have HWS : Hid (∀ wz, Below w1.heap.size w1 wz → WsAt wz sv a.ws) := Lib.hid (fun wz h => by
    have h2 := hws.keeps (S := fun _ => False) (Kq.Keeps.of_below ba (fun k h1 h2 => absurd h1 (Nat.not_le.2 h2))) (fun _ _ => id)
    exact h2.keeps (S := fun _ => False) (Kq.Keeps.of_below h (fun k h1 h2 => absurd h1 (Nat.not_le.2 h2))) (fun _ _ => id))
  have H1 := Lib.hid (And.intro ba (And.intro hb (Kq.blk_lt hb)))
  have HPW : Hid (w.heap.size ≤ P) := Lib.hid (by omega)
  have HWF := Lib.hid hwf
  have D0 : w1.cell? ⟨P, 0, none⟩ = some (.int .i64 6) := Kq.blk_cell hb 0
  rw [hw1, hP] at D0
  clear hws hwf ba hb
  go_enter Try.func9, Try.ntmps9
  go_wp2_with fail
  rw [← hw1, ← hP]
  clear hw1 hP D0
  refine (HRR.out w1 (HWS.out w1 (Below.refl _ _))).mono ?_
  rintro x w2 ⟨rfl, b2⟩
  have H2 := Lib.hid b2
  by_cases hq : a = (fmOf 6).keep a (zeroK 6)
  case neg =>
    have HQ := Lib.hid hq
    rw [decide_eq_false hq]
    clear hq b2
    go_wp2
    go_ret2
    exact ⟨H1.out.1.trans (H2.out.mono H1.out.1.size), fun _ => rfl, fun h => absurd h HQ.out, fun h => absurd h HQ.out⟩
  have HQ := Lib.hid hq
  rw [decide_eq_true hq]
  clear hq
  have hb := Kq.below_blk b2 H1.out.2.1 H1.out.2.2
  have d0 : w2.cell? ⟨P, 0, none⟩ = some (.int .i64 6) := Kq.blk_cell hb 0
  clear hb b2
  go_wp2_with fail
  clear d0
  have HNK : Hid (∀ wz, Calls Try.prog 24 #[.int .i64 6, .int .i64 1] wz fun x w' => x = .returned (.string (txt [6])) ∧ Below wz.heap.size wz w') := Lib.hid (fun wz => by
    have h := rf_num 6 1 (by decide) wz
    rw [be1_u64] at h
    exact h)
  refine (HNK.out w2).mono ?_
  rintro x w3 ⟨rfl, b3⟩
  have H3 := Lib.hid (H2.out.trans (b3.mono H2.out.size))
  clear b3 HNK H2 HRR
  have hb := Kq.below_blk H3.out H1.out.2.1 H1.out.2.2
  have d0 : w3.cell? ⟨P, 0, none⟩ = some (.int .i64 6) := Kq.blk_cell hb 0
  have d5 : w3.cell? ⟨P, 5, none⟩ = some (.int .i64 a.mk) := Kq.blk_cell hb 5
  have d6 : w3.cell? ⟨P, 6, none⟩ = some (.int .i64 a.mt) := Kq.blk_cell hb 6
  have d7 : w3.cell? ⟨P, 7, none⟩ = some (.int .u64 a.mh) := Kq.blk_cell hb 7
  have d8 : w3.cell? ⟨P, 8, none⟩ = some (.int .i64 a.pf) := Kq.blk_cell hb 8
  have d9 : w3.cell? ⟨P, 9, none⟩ = some (.int .u64 a.pq) := Kq.blk_cell hb 9
  have d10 : w3.cell? ⟨P, 10, none⟩ = some (.int .u64 a.pt) := Kq.blk_cell hb 10
  have d11 : w3.cell? ⟨P, 11, none⟩ = some (.string a.pd) := Kq.blk_cell hb 11
  have d12 : w3.cell? ⟨P, 12, none⟩ = some (.string a.mp) := Kq.blk_cell hb 12
  have hp0 : P < w3.heap.size := Kq.blk_lt hb
  have hp1 : ¬ P = w3.heap.size := by omega
  have hp2 : ¬ P = w3.heap.size + 1 := by omega
  clear hb
  go_wp2_with fail
  go_region
  all_goals
    first
    | (obtain ⟨w4, hw4⟩ : ∃ z, z = ((w3.alloc (.cells #[.int .i64 a.mk, .int .i64 a.mt, .int .u64 a.mh, .int .i64 a.pf, .int .u64 a.pq, .int .u64 a.pt, .string a.pd, .string a.mp] 26)).alloc (.cells #[.int .i64 a.pf, .int .u64 a.pq, .int .u64 a.pt, .string a.pd] 24)).drew := ⟨_, rfl⟩
       rw [← hw4]
       obtain ⟨N, hN⟩ : ∃ z, z = w3.heap.size + 1 := ⟨_, rfl⟩
       obtain ⟨M, hM⟩ : ∃ z, z = w3.heap.size := ⟨_, rfl⟩
       rw [← hN, ← hM]
       have H4 : Hid (Below w3.heap.size w3 w4 ∧ w4.heap[M]? = some (.cells #[.int .i64 a.mk, .int .i64 a.mt, .int .u64 a.mh, .int .i64 a.pf, .int .u64 a.pq, .int .u64 a.pt, .string a.pd, .string a.mp] 26 (0, 0)) ∧ w4.heap[N]? = some (.cells #[.int .i64 a.pf, .int .u64 a.pq, .int .u64 a.pt, .string a.pd] 24 (0, 0))) := Lib.hid (by
         rw [hw4, hM, hN]; exact two_drew _ _ _ _ _)
       clear hw4 hM hN)
    | (obtain ⟨w4, hw4⟩ : ∃ z, z = ((w3.alloc (.cells #[.int .i64 a.pf, .int .u64 a.pq, .int .u64 a.pt, .string a.pd] 24)).alloc (.cells #[.int .i64 a.mk, .int .i64 a.mt, .int .u64 a.mh, .int .i64 a.pf, .int .u64 a.pq, .int .u64 a.pt, .string a.pd, .string a.mp] 26)).drew := ⟨_, rfl⟩
       rw [← hw4]
       obtain ⟨M, hM⟩ : ∃ z, z = w3.heap.size + 1 := ⟨_, rfl⟩
       obtain ⟨N, hN⟩ : ∃ z, z = w3.heap.size := ⟨_, rfl⟩
       rw [← hM, ← hN]
       have H4 : Hid (Below w3.heap.size w3 w4 ∧ w4.heap[M]? = some (.cells #[.int .i64 a.mk, .int .i64 a.mt, .int .u64 a.mh, .int .i64 a.pf, .int .u64 a.pq, .int .u64 a.pt, .string a.pd, .string a.mp] 26 (0, 0)) ∧ w4.heap[N]? = some (.cells #[.int .i64 a.pf, .int .u64 a.pq, .int .u64 a.pt, .string a.pd] 24 (0, 0))) := Lib.hid (by
         rw [hw4, hM, hN]
         obtain ⟨x1, x2, x3⟩ := two_drew w3 #[.int .i64 a.pf, .int .u64 a.pq, .int .u64 a.pt, .string a.pd] #[.int .i64 a.mk, .int .i64 a.mt, .int .u64 a.mh, .int .i64 a.pf, .int .u64 a.pq, .int .u64 a.pt, .string a.pd, .string a.mp] 24 26
         exact ⟨x1, x3, x2⟩)
       clear hw4 hM hN)
    have H5 : Hid (Below w.heap.size w w4 ∧ Below w1.heap.size w1 w4) := Lib.hid ⟨H1.out.1.trans ((H3.out.trans (H4.out.1.mono H3.out.size)).mono H1.out.1.size), H3.out.trans (H4.out.1.mono H3.out.size)⟩
    have hb := Kq.below_blk H5.out.2 H1.out.2.1 H1.out.2.2
    clear d0 d5 d6 d7 d8 d9 d10 d11 d12 hp0 hp1 hp2
    have HP4 : Hid (P < w4.heap.size) := Lib.hid (Kq.blk_lt hb)
    have d0 : w4.cell? ⟨P, 0, none⟩ = some (.int .i64 6) := Kq.blk_cell hb 0
    clear hb
    have cM0 : w4.cell? ⟨M, 0, none⟩ = some (.int .i64 a.mk) := Kq.blk_cell H4.out.2.1 0
    have cM1 : w4.cell? ⟨M, 1, none⟩ = some (.int .i64 a.mt) := Kq.blk_cell H4.out.2.1 1
    have cM2 : w4.cell? ⟨M, 2, none⟩ = some (.int .u64 a.mh) := Kq.blk_cell H4.out.2.1 2
    have cN0 : w4.cell? ⟨N, 0, none⟩ = some (.int .i64 a.pf) := Kq.blk_cell H4.out.2.2 0
    have cN1 : w4.cell? ⟨N, 1, none⟩ = some (.int .u64 a.pq) := Kq.blk_cell H4.out.2.2 1
    have cN2 : w4.cell? ⟨N, 2, none⟩ = some (.int .u64 a.pt) := Kq.blk_cell H4.out.2.2 2
    have cN3 : w4.cell? ⟨N, 3, none⟩ = some (.string a.pd) := Kq.blk_cell H4.out.2.2 3
    have cM7 : w4.cell? ⟨M, 7, none⟩ = some (.string a.mp) := Kq.blk_cell H4.out.2.1 7
    have HLT : Hid (M < w4.heap.size ∧ N < w4.heap.size) := Lib.hid ⟨Kq.blk_lt H4.out.2.1, Kq.blk_lt H4.out.2.2⟩
    obtain ⟨T0, hT0⟩ : ∃ z, z = txt ([6]) := ⟨_, rfl⟩
    have hz0 : T0.size = 1 := by rw [hT0, txt_size]; rfl
    obtain ⟨T1, hT1⟩ : ∃ z, z = txt (be (u64 a.mk) 1) := ⟨_, rfl⟩
    have hz1 : T1.size = 1 := by rw [hT1, txt_size, be_len]
    obtain ⟨T2, hT2⟩ : ∃ z, z = txt (be (u64 a.mt) 1) := ⟨_, rfl⟩
    have hz2 : T2.size = 1 := by rw [hT2, txt_size, be_len]
    obtain ⟨T3, hT3⟩ : ∃ z, z = txt (num8 a.mh.toNat) := ⟨_, rfl⟩
    have hz3 : T3.size = 8 := by rw [hT3, txt_size]; rfl
    obtain ⟨T4, hT4⟩ : ∃ z, z = txt (be (u64 a.pf) 1) := ⟨_, rfl⟩
    have hz4 : T4.size = 1 := by rw [hT4, txt_size, be_len]
    obtain ⟨T5, hT5⟩ : ∃ z, z = txt (num8 a.pq.toNat) := ⟨_, rfl⟩
    have hz5 : T5.size = 8 := by rw [hT5, txt_size]; rfl
    obtain ⟨T6, hT6⟩ : ∃ z, z = txt (num8 a.pt.toNat) := ⟨_, rfl⟩
    have hz6 : T6.size = 8 := by rw [hT6, txt_size]; rfl
    obtain ⟨T7, hT7⟩ : ∃ z, z = txt (be a.pd.size 2 ++ nl a.pd) := ⟨_, rfl⟩
    have hz7 : T7.size ≤ 70002 := by have := HWF.out.pd; rw [hT7, txt_size, List.length_append, be_len, nl_length]; omega
    obtain ⟨T8, hT8⟩ : ∃ z, z = txt (be a.mp.size 2 ++ nl a.mp) := ⟨_, rfl⟩
    have hz8 : T8.size ≤ 70002 := by have := HWF.out.mp; rw [hT8, txt_size, List.length_append, be_len, nl_length]; omega
    have g1 : ¬ 9223372036854775807 < T0.size + T1.size := by omega
    have g2 : ¬ 9223372036854775807 < T0.size + T1.size + T2.size := by omega
    have g3 : ¬ 9223372036854775807 < T0.size + T1.size + T2.size + T3.size := by omega
    have g4 : ¬ 9223372036854775807 < T0.size + T1.size + T2.size + T3.size + T4.size := by omega
    have g5 : ¬ 9223372036854775807 < T0.size + T1.size + T2.size + T3.size + T4.size + T5.size := by omega
    have g6 : ¬ 9223372036854775807 < T0.size + T1.size + T2.size + T3.size + T4.size + T5.size + T6.size := by omega
    have g7 : ¬ 9223372036854775807 < T0.size + T1.size + T2.size + T3.size + T4.size + T5.size + T6.size + T7.size := by omega
    have g8 : ¬ 9223372036854775807 < T0.size + T1.size + T2.size + T3.size + T4.size + T5.size + T6.size + T7.size + T8.size := by omega
    have g2' : ¬ 9223372036854775807 < (T0 ++ T1).size + T2.size := by simp only [ByteArray.size_append]; omega
    have g3' : ¬ 9223372036854775807 < (T0 ++ T1 ++ T2).size + T3.size := by simp only [ByteArray.size_append]; omega
    have g4' : ¬ 9223372036854775807 < (T0 ++ T1 ++ T2 ++ T3).size + T4.size := by simp only [ByteArray.size_append]; omega
    have g5' : ¬ 9223372036854775807 < (T0 ++ T1 ++ T2 ++ T3 ++ T4).size + T5.size := by simp only [ByteArray.size_append]; omega
    have g6' : ¬ 9223372036854775807 < (T0 ++ T1 ++ T2 ++ T3 ++ T4 ++ T5).size + T6.size := by simp only [ByteArray.size_append]; omega
    have g7' : ¬ 9223372036854775807 < (T0 ++ T1 ++ T2 ++ T3 ++ T4 ++ T5 ++ T6).size + T7.size := by simp only [ByteArray.size_append]; omega
    have g8' : ¬ 9223372036854775807 < (T0 ++ T1 ++ T2 ++ T3 ++ T4 ++ T5 ++ T6 ++ T7).size + T8.size := by simp only [ByteArray.size_append]; omega
    have HN1 : Hid (∀ wz, Calls Try.prog 24 #[.int .i64 a.mk, .int .i64 1] wz fun x w' => x = .returned (.string T1) ∧ Below wz.heap.size wz w') := Lib.hid (fun wz => by rw [hT1]; exact rf_num a.mk 1 (by decide) wz)
    have HN2 : Hid (∀ wz, Calls Try.prog 24 #[.int .i64 a.mt, .int .i64 1] wz fun x w' => x = .returned (.string T2) ∧ Below wz.heap.size wz w') := Lib.hid (fun wz => by rw [hT2]; exact rf_num a.mt 1 (by decide) wz)
    have HN3 : Hid (∀ wz, Calls Try.prog 26 #[.int .u64 a.mh, .int .i64 8] wz fun x w' => x = .returned (.string T3) ∧ Below wz.heap.size wz w') := Lib.hid (fun wz => by
      have q := HWF.out.mh
      have h := ref_num a.mh.toNat 8 wz (by unfold M64; omega) (by decide)
      rw [show ((a.mh.toNat : Nat) : Int) = a.mh by omega, be8, ← hT3] at h
      exact h)
    have HN4 : Hid (∀ wz, Calls Try.prog 24 #[.int .i64 a.pf, .int .i64 1] wz fun x w' => x = .returned (.string T4) ∧ Below wz.heap.size wz w') := Lib.hid (fun wz => by rw [hT4]; exact rf_num a.pf 1 (by decide) wz)
    have HN5 : Hid (∀ wz, Calls Try.prog 26 #[.int .u64 a.pq, .int .i64 8] wz fun x w' => x = .returned (.string T5) ∧ Below wz.heap.size wz w') := Lib.hid (fun wz => by
      have q := HWF.out.pq
      have h := ref_num a.pq.toNat 8 wz (by unfold M64; omega) (by decide)
      rw [show ((a.pq.toNat : Nat) : Int) = a.pq by omega, be8, ← hT5] at h
      exact h)
    have HN6 : Hid (∀ wz, Calls Try.prog 26 #[.int .u64 a.pt, .int .i64 8] wz fun x w' => x = .returned (.string T6) ∧ Below wz.heap.size wz w') := Lib.hid (fun wz => by
      have q := HWF.out.pt
      have h := ref_num a.pt.toNat 8 wz (by unfold M64; omega) (by decide)
      rw [show ((a.pt.toNat : Nat) : Int) = a.pt by omega, be8, ← hT6] at h
      exact h)
    have HN7 : Hid (∀ wz, Calls Try.prog 27 #[.string a.pd] wz fun x w' => x = .returned (.string T7) ∧ Below wz.heap.size wz w') := Lib.hid (fun wz => by rw [hT7]; exact rf_text a.pd HWF.out.pd wz)
    have HN8 : Hid (∀ wz, Calls Try.prog 27 #[.string a.mp] wz fun x w' => x = .returned (.string T8) ∧ Below wz.heap.size wz w') := Lib.hid (fun wz => by rw [hT8]; exact rf_text a.mp HWF.out.mp wz)
    have HOK : Hid (¬ (fmOf 6).ok a) := Lib.hid (fun h => by
      obtain ⟨_, _, _, y, _, _, _, _, _⟩ := h
      exact HC2.out y)
    rw [← hT0]
    clear hT0 hz0 hT1 hz1 hT2 hz2 hT3 hz3 hT4 hz4 hT5 hz5 hT6 hz6 hT7 hz7 hT8 hz8
    go_wp2_with fail
    refine (rf_fits a.mk w4).mono ?_
    rintro x w5 ⟨rfl, rfl⟩
    rw [decide_eq_true HC0.out]
    go_wp2_with fail
    refine (rf_fits a.mt w4).mono ?_
    rintro x w5 ⟨rfl, rfl⟩
    rw [decide_eq_true HC1.out]
    go_wp2_with fail
    refine (rf_fits a.pf w4).mono ?_
    rintro x w5 ⟨rfl, rfl⟩
    rw [decide_eq_false HC2.out]
    go_wp2
    have hS : w4.drew.cell? ⟨M, 0, none⟩ = some (.int .i64 a.mk) ∧ w4.drew.cell? ⟨M, 1, none⟩ = some (.int .i64 a.mt) ∧ w4.drew.cell? ⟨M, 2, none⟩ = some (.int .u64 a.mh) ∧ w4.drew.cell? ⟨N, 0, none⟩ = some (.int .i64 a.pf) ∧ w4.drew.cell? ⟨N, 1, none⟩ = some (.int .u64 a.pq) ∧ w4.drew.cell? ⟨N, 2, none⟩ = some (.int .u64 a.pt) ∧ w4.drew.cell? ⟨N, 3, none⟩ = some (.string a.pd) ∧ w4.drew.cell? ⟨M, 7, none⟩ = some (.string a.mp) := ⟨cM0, cM1, cM2, cN0, cN1, cN2, cN3, cM7⟩
    clear cM0 cM1 cM2 cN0 cN1 cN2 cN3 cM7 d0
    refine wp_region_held_drew (S := fun cur => cur.cell? ⟨M, 0, none⟩ = some (.int .i64 a.mk) ∧ cur.cell? ⟨M, 1, none⟩ = some (.int .i64 a.mt) ∧ cur.cell? ⟨M, 2, none⟩ = some (.int .u64 a.mh) ∧ cur.cell? ⟨N, 0, none⟩ = some (.int .i64 a.pf) ∧ cur.cell? ⟨N, 1, none⟩ = some (.int .u64 a.pq) ∧ cur.cell? ⟨N, 2, none⟩ = some (.int .u64 a.pt) ∧ cur.cell? ⟨N, 3, none⟩ = some (.string a.pd) ∧ cur.cell? ⟨M, 7, none⟩ = some (.string a.mp)) (by kernel_rfl) hS (fun hS0 => ?_)
    obtain ⟨v0, hv0⟩ : ∃ z, z = w4.drew := ⟨_, rfl⟩
    have HDv0 : Hid (Below w4.heap.size w4 v0) := Lib.hid (by rw [hv0]; exact (Below.refl _ _).drew)
    rw [← hv0] at hS0 ⊢
    clear hv0 hS
    refine wpAnyH_take (i := 0) (v := ?_) rfl (by kernel_rfl) (by kernel_rfl) (by kernel_rfl) (fun _ _ _ h => h) (Or.inl ⟨by kernel_rfl, ?_⟩) (by assumption) ?_
    rotate_left
    · intro w hSw; (try dsimp only at hSw); go_simp; (try with_reducible rfl)
    refine wpAnyH_take (i := 1) (v := ?_) rfl (by kernel_rfl) (by kernel_rfl) (by kernel_rfl) (fun _ _ _ h => h) (Or.inl ⟨by kernel_rfl, ?_⟩) (by assumption) ?_
    rotate_left
    · intro w hSw; (try dsimp only at hSw); go_simp; (try with_reducible rfl)
    refine wpAnyH_take (i := 2) (v := ?_) rfl (by kernel_rfl) (by kernel_rfl) (by kernel_rfl) (fun _ _ _ h => h) (Or.inl ⟨by kernel_rfl, ?_⟩) (by assumption) ?_
    rotate_left
    · intro w hSw; (try dsimp only at hSw); go_simp; (try with_reducible rfl)
    refine wpAnyH_take (i := 5) (v := ?_) rfl (by kernel_rfl) (by kernel_rfl) (by kernel_rfl) (fun _ _ _ h => h) (Or.inl ⟨by kernel_rfl, ?_⟩) (by assumption) ?_
    rotate_left
    · intro w hSw; (try dsimp only at hSw); go_simp; (try with_reducible rfl)
    refine wpAnyH_take (i := 6) (v := ?_) rfl (by kernel_rfl) (by kernel_rfl) (by kernel_rfl) (fun _ _ _ h => h) (Or.inl ⟨by kernel_rfl, ?_⟩) (by assumption) ?_
    rotate_left
    · intro w hSw; (try dsimp only at hSw); go_simp; (try with_reducible rfl)
    refine wpAnyH_take (i := 9) (v := ?_) rfl (by kernel_rfl) (by kernel_rfl) (by kernel_rfl) (fun _ _ _ h => h) (Or.inl ⟨by kernel_rfl, ?_⟩) (by assumption) ?_
    rotate_left
    · intro w hSw; (try dsimp only at hSw); go_simp; (try with_reducible rfl)
    refine wpAnyH_take (i := 10) (v := ?_) rfl (by kernel_rfl) (by kernel_rfl) (by kernel_rfl) (fun _ _ _ h => h) (Or.inl ⟨by kernel_rfl, ?_⟩) (by assumption) ?_
    rotate_left
    · intro w hSw; (try dsimp only at hSw); go_simp; (try with_reducible rfl)
    refine wpAnyH_take (i := 13) (v := ?_) rfl (by kernel_rfl) (by kernel_rfl) (by kernel_rfl) (fun _ _ _ h => h) (Or.inl ⟨by kernel_rfl, ?_⟩) (by assumption) ?_
    rotate_left
    · intro w hSw; (try dsimp only at hSw); go_simp; (try with_reducible rfl)
    refine wpAnyH_take (i := 14) (v := ?_) rfl (by kernel_rfl) (by kernel_rfl) (by kernel_rfl) (fun _ _ _ h => h) (Or.inl ⟨by kernel_rfl, ?_⟩) (by assumption) ?_
    rotate_left
    · intro w hSw; (try dsimp only at hSw); go_simp; (try with_reducible rfl)
    refine wpAnyH_take (i := 17) (v := ?_) rfl (by kernel_rfl) (by kernel_rfl) (by kernel_rfl) (fun _ _ _ h => h) (Or.inl ⟨by kernel_rfl, ?_⟩) (by assumption) ?_
    rotate_left
    · intro w hSw; (try dsimp only at hSw); go_simp; (try with_reducible rfl)
    refine wpAnyH_take (i := 18) (v := ?_) rfl (by kernel_rfl) (by kernel_rfl) (by kernel_rfl) (fun _ _ _ h => h) (Or.inl ⟨by kernel_rfl, ?_⟩) (by assumption) ?_
    rotate_left
    · intro w hSw; (try dsimp only at hSw); go_simp; (try with_reducible rfl)
    refine wpAnyH_take (i := 21) (v := ?_) rfl (by kernel_rfl) (by kernel_rfl) (by kernel_rfl) (fun _ _ _ h => h) (Or.inl ⟨by kernel_rfl, ?_⟩) (by assumption) ?_
    rotate_left
    · intro w hSw; (try dsimp only at hSw); go_simp; (try with_reducible rfl)
    refine wpAnyH_take (i := 22) (v := ?_) rfl (by kernel_rfl) (by kernel_rfl) (by kernel_rfl) (fun _ _ _ h => h) (Or.inl ⟨by kernel_rfl, ?_⟩) (by assumption) ?_
    rotate_left
    · intro w hSw; (try dsimp only at hSw); go_simp; (try with_reducible rfl)
    refine wpAnyH_take (i := 25) (v := ?_) rfl (by kernel_rfl) (by kernel_rfl) (by kernel_rfl) (fun _ _ _ h => h) (Or.inl ⟨by kernel_rfl, ?_⟩) (by assumption) ?_
    rotate_left
    · intro w hSw; (try dsimp only at hSw); go_simp; (try with_reducible rfl)
    refine wpAnyH_take (i := 26) (v := ?_) rfl (by kernel_rfl) (by kernel_rfl) (by kernel_rfl) (fun _ _ _ h => h) (Or.inl ⟨by kernel_rfl, ?_⟩) (by assumption) ?_
    rotate_left
    · intro w hSw; (try dsimp only at hSw); go_simp; (try with_reducible rfl)
    refine wpAnyH_take (i := 29) (v := ?_) rfl (by kernel_rfl) (by kernel_rfl) (by kernel_rfl) (fun _ _ _ h => h) (Or.inl ⟨by kernel_rfl, ?_⟩) (by assumption) ?_
    rotate_left
    · intro w hSw; (try dsimp only at hSw); go_simp; (try with_reducible rfl)
    refine wpAnyH_take (i := 30) (v := ?_) rfl (by kernel_rfl) (by kernel_rfl) (by kernel_rfl) (fun _ _ _ h => h) (Or.inl ⟨by kernel_rfl, ?_⟩) (by assumption) ?_
    rotate_left
    · intro w hSw; (try dsimp only at hSw); go_simp; (try with_reducible rfl)
    refine wpAnyH_ready (rs := [3]) (by kernel_rfl) (by simp) ?_
    refine AllReadyH.cons rfl (fun K hK => ?_) AllReadyH.nil
    go_simp
    refine (HN1.out v0).mono ?_
    rintro x v1 ⟨rfl, b2⟩
    have hS2 : v1.cell? ⟨M, 0, none⟩ = some (.int .i64 a.mk) ∧ v1.cell? ⟨M, 1, none⟩ = some (.int .i64 a.mt) ∧ v1.cell? ⟨M, 2, none⟩ = some (.int .u64 a.mh) ∧ v1.cell? ⟨N, 0, none⟩ = some (.int .i64 a.pf) ∧ v1.cell? ⟨N, 1, none⟩ = some (.int .u64 a.pq) ∧ v1.cell? ⟨N, 2, none⟩ = some (.int .u64 a.pt) ∧ v1.cell? ⟨N, 3, none⟩ = some (.string a.pd) ∧ v1.cell? ⟨M, 7, none⟩ = some (.string a.mp) := by
      obtain ⟨s0, s1, s2, s3, s4, s5, s6, s7⟩ := hS0
      exact ⟨(b2.cell (p := ⟨M, 0, none⟩) (Nat.lt_of_lt_of_le HLT.out.1 HDv0.out.size)).trans s0, (b2.cell (p := ⟨M, 1, none⟩) (Nat.lt_of_lt_of_le HLT.out.1 HDv0.out.size)).trans s1, (b2.cell (p := ⟨M, 2, none⟩) (Nat.lt_of_lt_of_le HLT.out.1 HDv0.out.size)).trans s2, (b2.cell (p := ⟨N, 0, none⟩) (Nat.lt_of_lt_of_le HLT.out.2 HDv0.out.size)).trans s3, (b2.cell (p := ⟨N, 1, none⟩) (Nat.lt_of_lt_of_le HLT.out.2 HDv0.out.size)).trans s4, (b2.cell (p := ⟨N, 2, none⟩) (Nat.lt_of_lt_of_le HLT.out.2 HDv0.out.size)).trans s5, (b2.cell (p := ⟨N, 3, none⟩) (Nat.lt_of_lt_of_le HLT.out.2 HDv0.out.size)).trans s6, (b2.cell (p := ⟨M, 7, none⟩) (Nat.lt_of_lt_of_le HLT.out.1 HDv0.out.size)).trans s7⟩
    have HDv1 : Hid (Below w4.heap.size w4 v1) := Lib.hid (HDv0.out.trans (b2.mono HDv0.out.size))
    clear b2 hS0
    refine hK.out _ _ hS2 (fun hS0 => ?_)
    clear hK K hS2
    refine wpAnyH_take (i := 4) (v := ?_) rfl (by kernel_rfl) (by kernel_rfl) (by kernel_rfl) (fun _ _ _ h => h) (Or.inl ⟨by kernel_rfl, ?_⟩) (by assumption) ?_
    rotate_left
    · intro w hSw; (try dsimp only at hSw); go_simp; (try with_reducible rfl)
    refine wpAnyH_ready (rs := [7]) (by kernel_rfl) (by simp) ?_
    refine AllReadyH.cons rfl (fun K hK => ?_) AllReadyH.nil
    go_simp
    refine (HN2.out v1).mono ?_
    rintro x v2 ⟨rfl, b2⟩
    have hS2 : v2.cell? ⟨M, 0, none⟩ = some (.int .i64 a.mk) ∧ v2.cell? ⟨M, 1, none⟩ = some (.int .i64 a.mt) ∧ v2.cell? ⟨M, 2, none⟩ = some (.int .u64 a.mh) ∧ v2.cell? ⟨N, 0, none⟩ = some (.int .i64 a.pf) ∧ v2.cell? ⟨N, 1, none⟩ = some (.int .u64 a.pq) ∧ v2.cell? ⟨N, 2, none⟩ = some (.int .u64 a.pt) ∧ v2.cell? ⟨N, 3, none⟩ = some (.string a.pd) ∧ v2.cell? ⟨M, 7, none⟩ = some (.string a.mp) := by
      obtain ⟨s0, s1, s2, s3, s4, s5, s6, s7⟩ := hS0
      exact ⟨(b2.cell (p := ⟨M, 0, none⟩) (Nat.lt_of_lt_of_le HLT.out.1 HDv1.out.size)).trans s0, (b2.cell (p := ⟨M, 1, none⟩) (Nat.lt_of_lt_of_le HLT.out.1 HDv1.out.size)).trans s1, (b2.cell (p := ⟨M, 2, none⟩) (Nat.lt_of_lt_of_le HLT.out.1 HDv1.out.size)).trans s2, (b2.cell (p := ⟨N, 0, none⟩) (Nat.lt_of_lt_of_le HLT.out.2 HDv1.out.size)).trans s3, (b2.cell (p := ⟨N, 1, none⟩) (Nat.lt_of_lt_of_le HLT.out.2 HDv1.out.size)).trans s4, (b2.cell (p := ⟨N, 2, none⟩) (Nat.lt_of_lt_of_le HLT.out.2 HDv1.out.size)).trans s5, (b2.cell (p := ⟨N, 3, none⟩) (Nat.lt_of_lt_of_le HLT.out.2 HDv1.out.size)).trans s6, (b2.cell (p := ⟨M, 7, none⟩) (Nat.lt_of_lt_of_le HLT.out.1 HDv1.out.size)).trans s7⟩
    have HDv2 : Hid (Below w4.heap.size w4 v2) := Lib.hid (HDv1.out.trans (b2.mono HDv1.out.size))
    clear b2 hS0
    refine hK.out _ _ hS2 (fun hS0 => ?_)
    clear hK K hS2
    refine wpAnyH_take (i := 8) (v := ?_) rfl (by kernel_rfl) (by kernel_rfl) (by kernel_rfl) (fun _ _ _ h => h) (Or.inl ⟨by kernel_rfl, ?_⟩) (by assumption) ?_
    rotate_left
    · intro w hSw; (try dsimp only at hSw); go_simp; (try with_reducible rfl)
    refine wpAnyH_ready (rs := [11]) (by kernel_rfl) (by simp) ?_
    refine AllReadyH.cons rfl (fun K hK => ?_) AllReadyH.nil
    go_simp
    refine (HN3.out v2).mono ?_
    rintro x v3 ⟨rfl, b2⟩
    have hS2 : v3.cell? ⟨M, 0, none⟩ = some (.int .i64 a.mk) ∧ v3.cell? ⟨M, 1, none⟩ = some (.int .i64 a.mt) ∧ v3.cell? ⟨M, 2, none⟩ = some (.int .u64 a.mh) ∧ v3.cell? ⟨N, 0, none⟩ = some (.int .i64 a.pf) ∧ v3.cell? ⟨N, 1, none⟩ = some (.int .u64 a.pq) ∧ v3.cell? ⟨N, 2, none⟩ = some (.int .u64 a.pt) ∧ v3.cell? ⟨N, 3, none⟩ = some (.string a.pd) ∧ v3.cell? ⟨M, 7, none⟩ = some (.string a.mp) := by
      obtain ⟨s0, s1, s2, s3, s4, s5, s6, s7⟩ := hS0
      exact ⟨(b2.cell (p := ⟨M, 0, none⟩) (Nat.lt_of_lt_of_le HLT.out.1 HDv2.out.size)).trans s0, (b2.cell (p := ⟨M, 1, none⟩) (Nat.lt_of_lt_of_le HLT.out.1 HDv2.out.size)).trans s1, (b2.cell (p := ⟨M, 2, none⟩) (Nat.lt_of_lt_of_le HLT.out.1 HDv2.out.size)).trans s2, (b2.cell (p := ⟨N, 0, none⟩) (Nat.lt_of_lt_of_le HLT.out.2 HDv2.out.size)).trans s3, (b2.cell (p := ⟨N, 1, none⟩) (Nat.lt_of_lt_of_le HLT.out.2 HDv2.out.size)).trans s4, (b2.cell (p := ⟨N, 2, none⟩) (Nat.lt_of_lt_of_le HLT.out.2 HDv2.out.size)).trans s5, (b2.cell (p := ⟨N, 3, none⟩) (Nat.lt_of_lt_of_le HLT.out.2 HDv2.out.size)).trans s6, (b2.cell (p := ⟨M, 7, none⟩) (Nat.lt_of_lt_of_le HLT.out.1 HDv2.out.size)).trans s7⟩
    have HDv3 : Hid (Below w4.heap.size w4 v3) := Lib.hid (HDv2.out.trans (b2.mono HDv2.out.size))
    clear b2 hS0
    refine hK.out _ _ hS2 (fun hS0 => ?_)
    clear hK K hS2
    refine wpAnyH_take (i := 12) (v := ?_) rfl (by kernel_rfl) (by kernel_rfl) (by kernel_rfl) (fun _ _ _ h => h) (Or.inl ⟨by kernel_rfl, ?_⟩) (by assumption) ?_
    rotate_left
    · intro w hSw; (try dsimp only at hSw); go_simp; (try with_reducible rfl)
    refine wpAnyH_ready (rs := [15]) (by kernel_rfl) (by simp) ?_
    refine AllReadyH.cons rfl (fun K hK => ?_) AllReadyH.nil
    go_simp
    refine (HN4.out v3).mono ?_
    rintro x v4 ⟨rfl, b2⟩
    have hS2 : v4.cell? ⟨M, 0, none⟩ = some (.int .i64 a.mk) ∧ v4.cell? ⟨M, 1, none⟩ = some (.int .i64 a.mt) ∧ v4.cell? ⟨M, 2, none⟩ = some (.int .u64 a.mh) ∧ v4.cell? ⟨N, 0, none⟩ = some (.int .i64 a.pf) ∧ v4.cell? ⟨N, 1, none⟩ = some (.int .u64 a.pq) ∧ v4.cell? ⟨N, 2, none⟩ = some (.int .u64 a.pt) ∧ v4.cell? ⟨N, 3, none⟩ = some (.string a.pd) ∧ v4.cell? ⟨M, 7, none⟩ = some (.string a.mp) := by
      obtain ⟨s0, s1, s2, s3, s4, s5, s6, s7⟩ := hS0
      exact ⟨(b2.cell (p := ⟨M, 0, none⟩) (Nat.lt_of_lt_of_le HLT.out.1 HDv3.out.size)).trans s0, (b2.cell (p := ⟨M, 1, none⟩) (Nat.lt_of_lt_of_le HLT.out.1 HDv3.out.size)).trans s1, (b2.cell (p := ⟨M, 2, none⟩) (Nat.lt_of_lt_of_le HLT.out.1 HDv3.out.size)).trans s2, (b2.cell (p := ⟨N, 0, none⟩) (Nat.lt_of_lt_of_le HLT.out.2 HDv3.out.size)).trans s3, (b2.cell (p := ⟨N, 1, none⟩) (Nat.lt_of_lt_of_le HLT.out.2 HDv3.out.size)).trans s4, (b2.cell (p := ⟨N, 2, none⟩) (Nat.lt_of_lt_of_le HLT.out.2 HDv3.out.size)).trans s5, (b2.cell (p := ⟨N, 3, none⟩) (Nat.lt_of_lt_of_le HLT.out.2 HDv3.out.size)).trans s6, (b2.cell (p := ⟨M, 7, none⟩) (Nat.lt_of_lt_of_le HLT.out.1 HDv3.out.size)).trans s7⟩
    have HDv4 : Hid (Below w4.heap.size w4 v4) := Lib.hid (HDv3.out.trans (b2.mono HDv3.out.size))
    clear b2 hS0
    refine hK.out _ _ hS2 (fun hS0 => ?_)
    clear hK K hS2
    refine wpAnyH_take (i := 16) (v := ?_) rfl (by kernel_rfl) (by kernel_rfl) (by kernel_rfl) (fun _ _ _ h => h) (Or.inl ⟨by kernel_rfl, ?_⟩) (by assumption) ?_
    rotate_left
    · intro w hSw; (try dsimp only at hSw); go_simp; (try with_reducible rfl)
    refine wpAnyH_ready (rs := [19]) (by kernel_rfl) (by simp) ?_
    refine AllReadyH.cons rfl (fun K hK => ?_) AllReadyH.nil
    go_simp
    refine (HN5.out v4).mono ?_
    rintro x v5 ⟨rfl, b2⟩
    have hS2 : v5.cell? ⟨M, 0, none⟩ = some (.int .i64 a.mk) ∧ v5.cell? ⟨M, 1, none⟩ = some (.int .i64 a.mt) ∧ v5.cell? ⟨M, 2, none⟩ = some (.int .u64 a.mh) ∧ v5.cell? ⟨N, 0, none⟩ = some (.int .i64 a.pf) ∧ v5.cell? ⟨N, 1, none⟩ = some (.int .u64 a.pq) ∧ v5.cell? ⟨N, 2, none⟩ = some (.int .u64 a.pt) ∧ v5.cell? ⟨N, 3, none⟩ = some (.string a.pd) ∧ v5.cell? ⟨M, 7, none⟩ = some (.string a.mp) := by
      obtain ⟨s0, s1, s2, s3, s4, s5, s6, s7⟩ := hS0
      exact ⟨(b2.cell (p := ⟨M, 0, none⟩) (Nat.lt_of_lt_of_le HLT.out.1 HDv4.out.size)).trans s0, (b2.cell (p := ⟨M, 1, none⟩) (Nat.lt_of_lt_of_le HLT.out.1 HDv4.out.size)).trans s1, (b2.cell (p := ⟨M, 2, none⟩) (Nat.lt_of_lt_of_le HLT.out.1 HDv4.out.size)).trans s2, (b2.cell (p := ⟨N, 0, none⟩) (Nat.lt_of_lt_of_le HLT.out.2 HDv4.out.size)).trans s3, (b2.cell (p := ⟨N, 1, none⟩) (Nat.lt_of_lt_of_le HLT.out.2 HDv4.out.size)).trans s4, (b2.cell (p := ⟨N, 2, none⟩) (Nat.lt_of_lt_of_le HLT.out.2 HDv4.out.size)).trans s5, (b2.cell (p := ⟨N, 3, none⟩) (Nat.lt_of_lt_of_le HLT.out.2 HDv4.out.size)).trans s6, (b2.cell (p := ⟨M, 7, none⟩) (Nat.lt_of_lt_of_le HLT.out.1 HDv4.out.size)).trans s7⟩
    have HDv5 : Hid (Below w4.heap.size w4 v5) := Lib.hid (HDv4.out.trans (b2.mono HDv4.out.size))
    clear b2 hS0
    refine hK.out _ _ hS2 (fun hS0 => ?_)
    clear hK K hS2
    refine wpAnyH_take (i := 20) (v := ?_) rfl (by kernel_rfl) (by kernel_rfl) (by kernel_rfl) (fun _ _ _ h => h) (Or.inl ⟨by kernel_rfl, ?_⟩) (by assumption) ?_
    rotate_left
    · intro w hSw; (try dsimp only at hSw); go_simp; (try with_reducible rfl)
    refine wpAnyH_ready (rs := [23]) (by kernel_rfl) (by simp) ?_
    refine AllReadyH.cons rfl (fun K hK => ?_) AllReadyH.nil
    go_simp
    refine (HN6.out v5).mono ?_
    rintro x v6 ⟨rfl, b2⟩
    have hS2 : v6.cell? ⟨M, 0, none⟩ = some (.int .i64 a.mk) ∧ v6.cell? ⟨M, 1, none⟩ = some (.int .i64 a.mt) ∧ v6.cell? ⟨M, 2, none⟩ = some (.int .u64 a.mh) ∧ v6.cell? ⟨N, 0, none⟩ = some (.int .i64 a.pf) ∧ v6.cell? ⟨N, 1, none⟩ = some (.int .u64 a.pq) ∧ v6.cell? ⟨N, 2, none⟩ = some (.int .u64 a.pt) ∧ v6.cell? ⟨N, 3, none⟩ = some (.string a.pd) ∧ v6.cell? ⟨M, 7, none⟩ = some (.string a.mp) := by
      obtain ⟨s0, s1, s2, s3, s4, s5, s6, s7⟩ := hS0
      exact ⟨(b2.cell (p := ⟨M, 0, none⟩) (Nat.lt_of_lt_of_le HLT.out.1 HDv5.out.size)).trans s0, (b2.cell (p := ⟨M, 1, none⟩) (Nat.lt_of_lt_of_le HLT.out.1 HDv5.out.size)).trans s1, (b2.cell (p := ⟨M, 2, none⟩) (Nat.lt_of_lt_of_le HLT.out.1 HDv5.out.size)).trans s2, (b2.cell (p := ⟨N, 0, none⟩) (Nat.lt_of_lt_of_le HLT.out.2 HDv5.out.size)).trans s3, (b2.cell (p := ⟨N, 1, none⟩) (Nat.lt_of_lt_of_le HLT.out.2 HDv5.out.size)).trans s4, (b2.cell (p := ⟨N, 2, none⟩) (Nat.lt_of_lt_of_le HLT.out.2 HDv5.out.size)).trans s5, (b2.cell (p := ⟨N, 3, none⟩) (Nat.lt_of_lt_of_le HLT.out.2 HDv5.out.size)).trans s6, (b2.cell (p := ⟨M, 7, none⟩) (Nat.lt_of_lt_of_le HLT.out.1 HDv5.out.size)).trans s7⟩
    have HDv6 : Hid (Below w4.heap.size w4 v6) := Lib.hid (HDv5.out.trans (b2.mono HDv5.out.size))
    clear b2 hS0
    refine hK.out _ _ hS2 (fun hS0 => ?_)
    clear hK K hS2
    refine wpAnyH_take (i := 24) (v := ?_) rfl (by kernel_rfl) (by kernel_rfl) (by kernel_rfl) (fun _ _ _ h => h) (Or.inl ⟨by kernel_rfl, ?_⟩) (by assumption) ?_
    rotate_left
    · intro w hSw; (try dsimp only at hSw); go_simp; (try with_reducible rfl)
    refine wpAnyH_ready (rs := [27]) (by kernel_rfl) (by simp) ?_
    refine AllReadyH.cons rfl (fun K hK => ?_) AllReadyH.nil
    go_simp
    refine (HN7.out v6).mono ?_
    rintro x v7 ⟨rfl, b2⟩
    have hS2 : v7.cell? ⟨M, 0, none⟩ = some (.int .i64 a.mk) ∧ v7.cell? ⟨M, 1, none⟩ = some (.int .i64 a.mt) ∧ v7.cell? ⟨M, 2, none⟩ = some (.int .u64 a.mh) ∧ v7.cell? ⟨N, 0, none⟩ = some (.int .i64 a.pf) ∧ v7.cell? ⟨N, 1, none⟩ = some (.int .u64 a.pq) ∧ v7.cell? ⟨N, 2, none⟩ = some (.int .u64 a.pt) ∧ v7.cell? ⟨N, 3, none⟩ = some (.string a.pd) ∧ v7.cell? ⟨M, 7, none⟩ = some (.string a.mp) := by
      obtain ⟨s0, s1, s2, s3, s4, s5, s6, s7⟩ := hS0
      exact ⟨(b2.cell (p := ⟨M, 0, none⟩) (Nat.lt_of_lt_of_le HLT.out.1 HDv6.out.size)).trans s0, (b2.cell (p := ⟨M, 1, none⟩) (Nat.lt_of_lt_of_le HLT.out.1 HDv6.out.size)).trans s1, (b2.cell (p := ⟨M, 2, none⟩) (Nat.lt_of_lt_of_le HLT.out.1 HDv6.out.size)).trans s2, (b2.cell (p := ⟨N, 0, none⟩) (Nat.lt_of_lt_of_le HLT.out.2 HDv6.out.size)).trans s3, (b2.cell (p := ⟨N, 1, none⟩) (Nat.lt_of_lt_of_le HLT.out.2 HDv6.out.size)).trans s4, (b2.cell (p := ⟨N, 2, none⟩) (Nat.lt_of_lt_of_le HLT.out.2 HDv6.out.size)).trans s5, (b2.cell (p := ⟨N, 3, none⟩) (Nat.lt_of_lt_of_le HLT.out.2 HDv6.out.size)).trans s6, (b2.cell (p := ⟨M, 7, none⟩) (Nat.lt_of_lt_of_le HLT.out.1 HDv6.out.size)).trans s7⟩
    have HDv7 : Hid (Below w4.heap.size w4 v7) := Lib.hid (HDv6.out.trans (b2.mono HDv6.out.size))
    clear b2 hS0
    refine hK.out _ _ hS2 (fun hS0 => ?_)
    clear hK K hS2
    refine wpAnyH_take (i := 28) (v := ?_) rfl (by kernel_rfl) (by kernel_rfl) (by kernel_rfl) (fun _ _ _ h => h) (Or.inl ⟨by kernel_rfl, ?_⟩) (by assumption) ?_
    rotate_left
    · intro w hSw; (try dsimp only at hSw); go_simp; (try with_reducible rfl)
    refine wpAnyH_ready (rs := [31]) (by kernel_rfl) (by simp) ?_
    refine AllReadyH.cons rfl (fun K hK => ?_) AllReadyH.nil
    go_simp
    refine (HN8.out v7).mono ?_
    rintro x v8 ⟨rfl, b2⟩
    have hS2 : v8.cell? ⟨M, 0, none⟩ = some (.int .i64 a.mk) ∧ v8.cell? ⟨M, 1, none⟩ = some (.int .i64 a.mt) ∧ v8.cell? ⟨M, 2, none⟩ = some (.int .u64 a.mh) ∧ v8.cell? ⟨N, 0, none⟩ = some (.int .i64 a.pf) ∧ v8.cell? ⟨N, 1, none⟩ = some (.int .u64 a.pq) ∧ v8.cell? ⟨N, 2, none⟩ = some (.int .u64 a.pt) ∧ v8.cell? ⟨N, 3, none⟩ = some (.string a.pd) ∧ v8.cell? ⟨M, 7, none⟩ = some (.string a.mp) := by
      obtain ⟨s0, s1, s2, s3, s4, s5, s6, s7⟩ := hS0
      exact ⟨(b2.cell (p := ⟨M, 0, none⟩) (Nat.lt_of_lt_of_le HLT.out.1 HDv7.out.size)).trans s0, (b2.cell (p := ⟨M, 1, none⟩) (Nat.lt_of_lt_of_le HLT.out.1 HDv7.out.size)).trans s1, (b2.cell (p := ⟨M, 2, none⟩) (Nat.lt_of_lt_of_le HLT.out.1 HDv7.out.size)).trans s2, (b2.cell (p := ⟨N, 0, none⟩) (Nat.lt_of_lt_of_le HLT.out.2 HDv7.out.size)).trans s3, (b2.cell (p := ⟨N, 1, none⟩) (Nat.lt_of_lt_of_le HLT.out.2 HDv7.out.size)).trans s4, (b2.cell (p := ⟨N, 2, none⟩) (Nat.lt_of_lt_of_le HLT.out.2 HDv7.out.size)).trans s5, (b2.cell (p := ⟨N, 3, none⟩) (Nat.lt_of_lt_of_le HLT.out.2 HDv7.out.size)).trans s6, (b2.cell (p := ⟨M, 7, none⟩) (Nat.lt_of_lt_of_le HLT.out.1 HDv7.out.size)).trans s7⟩
    have HDv8 : Hid (Below w4.heap.size w4 v8) := Lib.hid (HDv7.out.trans (b2.mono HDv7.out.size))
    clear b2 hS0
    refine hK.out _ _ hS2 (fun hS0 => ?_)
    clear hK K hS2
    refine wpAnyH_take (i := 32) (v := ?_) rfl (by kernel_rfl) (by kernel_rfl) (by kernel_rfl) (fun _ _ _ h => h) (Or.inl ⟨by kernel_rfl, ?_⟩) (by assumption) ?_
    rotate_left
    · intro w hSw; (try dsimp only at hSw); go_simp; (try with_reducible rfl)
    refine wpAnyH_take (i := 33) (v := ?_) rfl (by kernel_rfl) (by kernel_rfl) (by kernel_rfl) (fun _ _ _ h => h) (Or.inl ⟨by kernel_rfl, ?_⟩) (by assumption) ?_
    rotate_left
    · intro w hSw; (try dsimp only at hSw); go_simp; (try with_reducible rfl)
    clear hS0
    refine wpAnyH_done (by kernel_rfl) ?_ _
    go_simp
    go_wp2
    go_ret2
    exact ⟨H5.out.1.trans (HDv8.out.mono H5.out.1.size), fun h => absurd HQ.out h, fun _ _ => rfl, fun _ h => absurd h HOK.out⟩
set_option maxRecDepth 100000 in
set_option maxHeartbeats 4000000 in
theorem rq_6_3 (a : SaV) (sv : Value) (w : World) (hk : a.k = 6) (hws : WsAt w sv a.ws) (hwf : a.wf) (hc0 : 0 ≤ a.mk ∧ a.mk ≤ 255) (hc1 : 0 ≤ a.mt ∧ a.mt ≤ 255) (hc2 : 0 ≤ a.pf ∧ a.pf ≤ 255) (hc3 : ¬ (a.pd.size ≤ 65535)) :
    Calls Try.prog 9 #[.agg #[.int .i64 a.k, .int .i64 a.c, .int .u64 a.t, .string a.d, .int .i64 a.n, .int .i64 a.mk, .int .i64 a.mt, .int .u64 a.mh, .int .i64 a.pf, .int .u64 a.pq, .int .u64 a.pt, .string a.pd, .string a.mp, sv]] w fun x w' => Below w.heap.size w w' ∧
      (a ≠ (fmOf 6).keep a (zeroK 6) → x = .returned (.tuple #[.string ⟨#[]⟩, .int .i64 5])) ∧
      (a = (fmOf 6).keep a (zeroK 6) → ¬ (fmOf 6).ok a → x = .returned (.tuple #[.string ⟨#[]⟩, .int .i64 1])) ∧
      (a = (fmOf 6).keep a (zeroK 6) → (fmOf 6).ok a → x = .returned (.tuple #[.string (txt ([6] ++ (fmOf 6).enc a)), .int .i64 0])) := by
  have HC0 := Lib.hid hc0
  clear hc0
  have HC1 := Lib.hid hc1
  clear hc1
  have HC2 := Lib.hid hc2
  clear hc2
  have HC3 := Lib.hid hc3
  clear hc3
  have HRR := Lib.hid (fun (wz : World) (h : WsAt wz sv a.ws) => rr_6 a sv wz hk h)
  rw [hk] at HRR
  rw [hk]
  clear hk
  obtain ⟨P, hP⟩ : ∃ z, z = w.heap.size := ⟨_, rfl⟩
  obtain ⟨w1, hw1⟩ : ∃ z, z = w.alloc (.cells #[.int .i64 6, .int .i64 a.c, .int .u64 a.t, .string a.d, .int .i64 a.n, .int .i64 a.mk, .int .i64 a.mt, .int .u64 a.mh, .int .i64 a.pf, .int .u64 a.pq, .int .u64 a.pt, .string a.pd, .string a.mp, sv] 29) := ⟨_, rfl⟩
  have hb : w1.heap[P]? = some (.cells #[.int .i64 6, .int .i64 a.c, .int .u64 a.t, .string a.d, .int .i64 a.n, .int .i64 a.mk, .int .i64 a.mt, .int .u64 a.mh, .int .i64 a.pf, .int .u64 a.pq, .int .u64 a.pt, .string a.pd, .string a.mp, sv] 29 (0, 0)) := by
    rw [hw1, hP]; exact Kq.blk_new _ _ _ _
  have ba : Below w.heap.size w w1 := by rw [hw1]; exact Kq.below_alloc _ _
  have HWS : Hid (∀ wz, Below w1.heap.size w1 wz → WsAt wz sv a.ws) := Lib.hid (fun wz h => by
    have h2 := hws.keeps (S := fun _ => False) (Kq.Keeps.of_below ba (fun k h1 h2 => absurd h1 (Nat.not_le.2 h2))) (fun _ _ => id)
    exact h2.keeps (S := fun _ => False) (Kq.Keeps.of_below h (fun k h1 h2 => absurd h1 (Nat.not_le.2 h2))) (fun _ _ => id))
  have H1 := Lib.hid (And.intro ba (And.intro hb (Kq.blk_lt hb)))
  have HPW : Hid (w.heap.size ≤ P) := Lib.hid (by omega)
  have HWF := Lib.hid hwf
  have D0 : w1.cell? ⟨P, 0, none⟩ = some (.int .i64 6) := Kq.blk_cell hb 0
  rw [hw1, hP] at D0
  clear hws hwf ba hb
  go_enter Try.func9, Try.ntmps9
  go_wp2_with fail
  rw [← hw1, ← hP]
  clear hw1 hP D0
  refine (HRR.out w1 (HWS.out w1 (Below.refl _ _))).mono ?_
  rintro x w2 ⟨rfl, b2⟩
  have H2 := Lib.hid b2
  by_cases hq : a = (fmOf 6).keep a (zeroK 6)
  case neg =>
    have HQ := Lib.hid hq
    rw [decide_eq_false hq]
    clear hq b2
    go_wp2
    go_ret2
    exact ⟨H1.out.1.trans (H2.out.mono H1.out.1.size), fun _ => rfl, fun h => absurd h HQ.out, fun h => absurd h HQ.out⟩
  have HQ := Lib.hid hq
  rw [decide_eq_true hq]
  clear hq
  have hb := Kq.below_blk b2 H1.out.2.1 H1.out.2.2
  have d0 : w2.cell? ⟨P, 0, none⟩ = some (.int .i64 6) := Kq.blk_cell hb 0
  clear hb b2
  go_wp2_with fail
  clear d0
  have HNK : Hid (∀ wz, Calls Try.prog 24 #[.int .i64 6, .int .i64 1] wz fun x w' => x = .returned (.string (txt [6])) ∧ Below wz.heap.size wz w') := Lib.hid (fun wz => by
    have h := rf_num 6 1 (by decide) wz
    rw [be1_u64] at h
    exact h)
  refine (HNK.out w2).mono ?_
  rintro x w3 ⟨rfl, b3⟩
  have H3 := Lib.hid (H2.out.trans (b3.mono H2.out.size))
  clear b3 HNK H2 HRR
  have hb := Kq.below_blk H3.out H1.out.2.1 H1.out.2.2
  have d0 : w3.cell? ⟨P, 0, none⟩ = some (.int .i64 6) := Kq.blk_cell hb 0
  have d5 : w3.cell? ⟨P, 5, none⟩ = some (.int .i64 a.mk) := Kq.blk_cell hb 5
  have d6 : w3.cell? ⟨P, 6, none⟩ = some (.int .i64 a.mt) := Kq.blk_cell hb 6
  have d7 : w3.cell? ⟨P, 7, none⟩ = some (.int .u64 a.mh) := Kq.blk_cell hb 7
  have d8 : w3.cell? ⟨P, 8, none⟩ = some (.int .i64 a.pf) := Kq.blk_cell hb 8
  have d9 : w3.cell? ⟨P, 9, none⟩ = some (.int .u64 a.pq) := Kq.blk_cell hb 9
  have d10 : w3.cell? ⟨P, 10, none⟩ = some (.int .u64 a.pt) := Kq.blk_cell hb 10
  have d11 : w3.cell? ⟨P, 11, none⟩ = some (.string a.pd) := Kq.blk_cell hb 11
  have d12 : w3.cell? ⟨P, 12, none⟩ = some (.string a.mp) := Kq.blk_cell hb 12
  have hp0 : P < w3.heap.size := Kq.blk_lt hb
  have hp1 : ¬ P = w3.heap.size := by omega
  have hp2 : ¬ P = w3.heap.size + 1 := by omega
  clear hb
  go_wp2_with fail
  go_region
  all_goals
    first
    | (obtain ⟨w4, hw4⟩ : ∃ z, z = ((w3.alloc (.cells #[.int .i64 a.mk, .int .i64 a.mt, .int .u64 a.mh, .int .i64 a.pf, .int .u64 a.pq, .int .u64 a.pt, .string a.pd, .string a.mp] 26)).alloc (.cells #[.int .i64 a.pf, .int .u64 a.pq, .int .u64 a.pt, .string a.pd] 24)).drew := ⟨_, rfl⟩
       rw [← hw4]
       obtain ⟨N, hN⟩ : ∃ z, z = w3.heap.size + 1 := ⟨_, rfl⟩
       obtain ⟨M, hM⟩ : ∃ z, z = w3.heap.size := ⟨_, rfl⟩
       rw [← hN, ← hM]
       have H4 : Hid (Below w3.heap.size w3 w4 ∧ w4.heap[M]? = some (.cells #[.int .i64 a.mk, .int .i64 a.mt, .int .u64 a.mh, .int .i64 a.pf, .int .u64 a.pq, .int .u64 a.pt, .string a.pd, .string a.mp] 26 (0, 0)) ∧ w4.heap[N]? = some (.cells #[.int .i64 a.pf, .int .u64 a.pq, .int .u64 a.pt, .string a.pd] 24 (0, 0))) := Lib.hid (by
         rw [hw4, hM, hN]; exact two_drew _ _ _ _ _)
       clear hw4 hM hN)
    | (obtain ⟨w4, hw4⟩ : ∃ z, z = ((w3.alloc (.cells #[.int .i64 a.pf, .int .u64 a.pq, .int .u64 a.pt, .string a.pd] 24)).alloc (.cells #[.int .i64 a.mk, .int .i64 a.mt, .int .u64 a.mh, .int .i64 a.pf, .int .u64 a.pq, .int .u64 a.pt, .string a.pd, .string a.mp] 26)).drew := ⟨_, rfl⟩
       rw [← hw4]
       obtain ⟨M, hM⟩ : ∃ z, z = w3.heap.size + 1 := ⟨_, rfl⟩
       obtain ⟨N, hN⟩ : ∃ z, z = w3.heap.size := ⟨_, rfl⟩
       rw [← hM, ← hN]
       have H4 : Hid (Below w3.heap.size w3 w4 ∧ w4.heap[M]? = some (.cells #[.int .i64 a.mk, .int .i64 a.mt, .int .u64 a.mh, .int .i64 a.pf, .int .u64 a.pq, .int .u64 a.pt, .string a.pd, .string a.mp] 26 (0, 0)) ∧ w4.heap[N]? = some (.cells #[.int .i64 a.pf, .int .u64 a.pq, .int .u64 a.pt, .string a.pd] 24 (0, 0))) := Lib.hid (by
         rw [hw4, hM, hN]
         obtain ⟨x1, x2, x3⟩ := two_drew w3 #[.int .i64 a.pf, .int .u64 a.pq, .int .u64 a.pt, .string a.pd] #[.int .i64 a.mk, .int .i64 a.mt, .int .u64 a.mh, .int .i64 a.pf, .int .u64 a.pq, .int .u64 a.pt, .string a.pd, .string a.mp] 24 26
         exact ⟨x1, x3, x2⟩)
       clear hw4 hM hN)
    have H5 : Hid (Below w.heap.size w w4 ∧ Below w1.heap.size w1 w4) := Lib.hid ⟨H1.out.1.trans ((H3.out.trans (H4.out.1.mono H3.out.size)).mono H1.out.1.size), H3.out.trans (H4.out.1.mono H3.out.size)⟩
    have hb := Kq.below_blk H5.out.2 H1.out.2.1 H1.out.2.2
    clear d0 d5 d6 d7 d8 d9 d10 d11 d12 hp0 hp1 hp2
    have HP4 : Hid (P < w4.heap.size) := Lib.hid (Kq.blk_lt hb)
    have d0 : w4.cell? ⟨P, 0, none⟩ = some (.int .i64 6) := Kq.blk_cell hb 0
    clear hb
    have cM0 : w4.cell? ⟨M, 0, none⟩ = some (.int .i64 a.mk) := Kq.blk_cell H4.out.2.1 0
    have cM1 : w4.cell? ⟨M, 1, none⟩ = some (.int .i64 a.mt) := Kq.blk_cell H4.out.2.1 1
    have cM2 : w4.cell? ⟨M, 2, none⟩ = some (.int .u64 a.mh) := Kq.blk_cell H4.out.2.1 2
    have cN0 : w4.cell? ⟨N, 0, none⟩ = some (.int .i64 a.pf) := Kq.blk_cell H4.out.2.2 0
    have cN1 : w4.cell? ⟨N, 1, none⟩ = some (.int .u64 a.pq) := Kq.blk_cell H4.out.2.2 1
    have cN2 : w4.cell? ⟨N, 2, none⟩ = some (.int .u64 a.pt) := Kq.blk_cell H4.out.2.2 2
    have cN3 : w4.cell? ⟨N, 3, none⟩ = some (.string a.pd) := Kq.blk_cell H4.out.2.2 3
    have cM7 : w4.cell? ⟨M, 7, none⟩ = some (.string a.mp) := Kq.blk_cell H4.out.2.1 7
    have HLT : Hid (M < w4.heap.size ∧ N < w4.heap.size) := Lib.hid ⟨Kq.blk_lt H4.out.2.1, Kq.blk_lt H4.out.2.2⟩
    obtain ⟨T0, hT0⟩ : ∃ z, z = txt ([6]) := ⟨_, rfl⟩
    have hz0 : T0.size = 1 := by rw [hT0, txt_size]; rfl
    obtain ⟨T1, hT1⟩ : ∃ z, z = txt (be (u64 a.mk) 1) := ⟨_, rfl⟩
    have hz1 : T1.size = 1 := by rw [hT1, txt_size, be_len]
    obtain ⟨T2, hT2⟩ : ∃ z, z = txt (be (u64 a.mt) 1) := ⟨_, rfl⟩
    have hz2 : T2.size = 1 := by rw [hT2, txt_size, be_len]
    obtain ⟨T3, hT3⟩ : ∃ z, z = txt (num8 a.mh.toNat) := ⟨_, rfl⟩
    have hz3 : T3.size = 8 := by rw [hT3, txt_size]; rfl
    obtain ⟨T4, hT4⟩ : ∃ z, z = txt (be (u64 a.pf) 1) := ⟨_, rfl⟩
    have hz4 : T4.size = 1 := by rw [hT4, txt_size, be_len]
    obtain ⟨T5, hT5⟩ : ∃ z, z = txt (num8 a.pq.toNat) := ⟨_, rfl⟩
    have hz5 : T5.size = 8 := by rw [hT5, txt_size]; rfl
    obtain ⟨T6, hT6⟩ : ∃ z, z = txt (num8 a.pt.toNat) := ⟨_, rfl⟩
    have hz6 : T6.size = 8 := by rw [hT6, txt_size]; rfl
    obtain ⟨T7, hT7⟩ : ∃ z, z = txt (be a.pd.size 2 ++ nl a.pd) := ⟨_, rfl⟩
    have hz7 : T7.size ≤ 70002 := by have := HWF.out.pd; rw [hT7, txt_size, List.length_append, be_len, nl_length]; omega
    obtain ⟨T8, hT8⟩ : ∃ z, z = txt (be a.mp.size 2 ++ nl a.mp) := ⟨_, rfl⟩
    have hz8 : T8.size ≤ 70002 := by have := HWF.out.mp; rw [hT8, txt_size, List.length_append, be_len, nl_length]; omega
    have g1 : ¬ 9223372036854775807 < T0.size + T1.size := by omega
    have g2 : ¬ 9223372036854775807 < T0.size + T1.size + T2.size := by omega
    have g3 : ¬ 9223372036854775807 < T0.size + T1.size + T2.size + T3.size := by omega
    have g4 : ¬ 9223372036854775807 < T0.size + T1.size + T2.size + T3.size + T4.size := by omega
    have g5 : ¬ 9223372036854775807 < T0.size + T1.size + T2.size + T3.size + T4.size + T5.size := by omega
    have g6 : ¬ 9223372036854775807 < T0.size + T1.size + T2.size + T3.size + T4.size + T5.size + T6.size := by omega
    have g7 : ¬ 9223372036854775807 < T0.size + T1.size + T2.size + T3.size + T4.size + T5.size + T6.size + T7.size := by omega
    have g8 : ¬ 9223372036854775807 < T0.size + T1.size + T2.size + T3.size + T4.size + T5.size + T6.size + T7.size + T8.size := by omega
    have g2' : ¬ 9223372036854775807 < (T0 ++ T1).size + T2.size := by simp only [ByteArray.size_append]; omega
    have g3' : ¬ 9223372036854775807 < (T0 ++ T1 ++ T2).size + T3.size := by simp only [ByteArray.size_append]; omega
    have g4' : ¬ 9223372036854775807 < (T0 ++ T1 ++ T2 ++ T3).size + T4.size := by simp only [ByteArray.size_append]; omega
    have g5' : ¬ 9223372036854775807 < (T0 ++ T1 ++ T2 ++ T3 ++ T4).size + T5.size := by simp only [ByteArray.size_append]; omega
    have g6' : ¬ 9223372036854775807 < (T0 ++ T1 ++ T2 ++ T3 ++ T4 ++ T5).size + T6.size := by simp only [ByteArray.size_append]; omega
    have g7' : ¬ 9223372036854775807 < (T0 ++ T1 ++ T2 ++ T3 ++ T4 ++ T5 ++ T6).size + T7.size := by simp only [ByteArray.size_append]; omega
    have g8' : ¬ 9223372036854775807 < (T0 ++ T1 ++ T2 ++ T3 ++ T4 ++ T5 ++ T6 ++ T7).size + T8.size := by simp only [ByteArray.size_append]; omega
    have HN1 : Hid (∀ wz, Calls Try.prog 24 #[.int .i64 a.mk, .int .i64 1] wz fun x w' => x = .returned (.string T1) ∧ Below wz.heap.size wz w') := Lib.hid (fun wz => by rw [hT1]; exact rf_num a.mk 1 (by decide) wz)
    have HN2 : Hid (∀ wz, Calls Try.prog 24 #[.int .i64 a.mt, .int .i64 1] wz fun x w' => x = .returned (.string T2) ∧ Below wz.heap.size wz w') := Lib.hid (fun wz => by rw [hT2]; exact rf_num a.mt 1 (by decide) wz)
    have HN3 : Hid (∀ wz, Calls Try.prog 26 #[.int .u64 a.mh, .int .i64 8] wz fun x w' => x = .returned (.string T3) ∧ Below wz.heap.size wz w') := Lib.hid (fun wz => by
      have q := HWF.out.mh
      have h := ref_num a.mh.toNat 8 wz (by unfold M64; omega) (by decide)
      rw [show ((a.mh.toNat : Nat) : Int) = a.mh by omega, be8, ← hT3] at h
      exact h)
    have HN4 : Hid (∀ wz, Calls Try.prog 24 #[.int .i64 a.pf, .int .i64 1] wz fun x w' => x = .returned (.string T4) ∧ Below wz.heap.size wz w') := Lib.hid (fun wz => by rw [hT4]; exact rf_num a.pf 1 (by decide) wz)
    have HN5 : Hid (∀ wz, Calls Try.prog 26 #[.int .u64 a.pq, .int .i64 8] wz fun x w' => x = .returned (.string T5) ∧ Below wz.heap.size wz w') := Lib.hid (fun wz => by
      have q := HWF.out.pq
      have h := ref_num a.pq.toNat 8 wz (by unfold M64; omega) (by decide)
      rw [show ((a.pq.toNat : Nat) : Int) = a.pq by omega, be8, ← hT5] at h
      exact h)
    have HN6 : Hid (∀ wz, Calls Try.prog 26 #[.int .u64 a.pt, .int .i64 8] wz fun x w' => x = .returned (.string T6) ∧ Below wz.heap.size wz w') := Lib.hid (fun wz => by
      have q := HWF.out.pt
      have h := ref_num a.pt.toNat 8 wz (by unfold M64; omega) (by decide)
      rw [show ((a.pt.toNat : Nat) : Int) = a.pt by omega, be8, ← hT6] at h
      exact h)
    have HN7 : Hid (∀ wz, Calls Try.prog 27 #[.string a.pd] wz fun x w' => x = .returned (.string T7) ∧ Below wz.heap.size wz w') := Lib.hid (fun wz => by rw [hT7]; exact rf_text a.pd HWF.out.pd wz)
    have HN8 : Hid (∀ wz, Calls Try.prog 27 #[.string a.mp] wz fun x w' => x = .returned (.string T8) ∧ Below wz.heap.size wz w') := Lib.hid (fun wz => by rw [hT8]; exact rf_text a.mp HWF.out.mp wz)
    have HOK : Hid (¬ (fmOf 6).ok a) := Lib.hid (fun h => by
      obtain ⟨_, _, _, _, _, _, y, _, _⟩ := h
      exact HC3.out y)
    rw [← hT0]
    clear hT0 hz0 hT1 hz1 hT2 hz2 hT3 hz3 hT4 hz4 hT5 hz5 hT6 hz6 hT7 hz7 hT8 hz8
    have u3 : decide ((a.pd.size : Int) ≤ 65535) = false := decide_eq_false (by have := HC3.out; omega)
    have v3_ : decide (a.pd.size ≤ 65535) = false := decide_eq_false HC3.out
    go_wp2_with fail
    refine (rf_fits a.mk w4).mono ?_
    rintro x w5 ⟨rfl, rfl⟩
    rw [decide_eq_true HC0.out]
    go_wp2_with fail
    refine (rf_fits a.mt w4).mono ?_
    rintro x w5 ⟨rfl, rfl⟩
    rw [decide_eq_true HC1.out]
    go_wp2_with fail
    refine (rf_fits a.pf w4).mono ?_
    rintro x w5 ⟨rfl, rfl⟩
    rw [decide_eq_true HC2.out]
    go_wp2
    have hS : w4.drew.cell? ⟨M, 0, none⟩ = some (.int .i64 a.mk) ∧ w4.drew.cell? ⟨M, 1, none⟩ = some (.int .i64 a.mt) ∧ w4.drew.cell? ⟨M, 2, none⟩ = some (.int .u64 a.mh) ∧ w4.drew.cell? ⟨N, 0, none⟩ = some (.int .i64 a.pf) ∧ w4.drew.cell? ⟨N, 1, none⟩ = some (.int .u64 a.pq) ∧ w4.drew.cell? ⟨N, 2, none⟩ = some (.int .u64 a.pt) ∧ w4.drew.cell? ⟨N, 3, none⟩ = some (.string a.pd) ∧ w4.drew.cell? ⟨M, 7, none⟩ = some (.string a.mp) := ⟨cM0, cM1, cM2, cN0, cN1, cN2, cN3, cM7⟩
    clear cM0 cM1 cM2 cN0 cN1 cN2 cN3 cM7 d0
    refine wp_region_held_drew (S := fun cur => cur.cell? ⟨M, 0, none⟩ = some (.int .i64 a.mk) ∧ cur.cell? ⟨M, 1, none⟩ = some (.int .i64 a.mt) ∧ cur.cell? ⟨M, 2, none⟩ = some (.int .u64 a.mh) ∧ cur.cell? ⟨N, 0, none⟩ = some (.int .i64 a.pf) ∧ cur.cell? ⟨N, 1, none⟩ = some (.int .u64 a.pq) ∧ cur.cell? ⟨N, 2, none⟩ = some (.int .u64 a.pt) ∧ cur.cell? ⟨N, 3, none⟩ = some (.string a.pd) ∧ cur.cell? ⟨M, 7, none⟩ = some (.string a.mp)) (by kernel_rfl) hS (fun hS0 => ?_)
    obtain ⟨v0, hv0⟩ : ∃ z, z = w4.drew := ⟨_, rfl⟩
    have HDv0 : Hid (Below w4.heap.size w4 v0) := Lib.hid (by rw [hv0]; exact (Below.refl _ _).drew)
    rw [← hv0] at hS0 ⊢
    clear hv0 hS
    refine wpAnyH_take (i := 0) (v := ?_) rfl (by kernel_rfl) (by kernel_rfl) (by kernel_rfl) (fun _ _ _ h => h) (Or.inl ⟨by kernel_rfl, ?_⟩) (by assumption) ?_
    rotate_left
    · intro w hSw; (try dsimp only at hSw); go_simp; (try with_reducible rfl)
    refine wpAnyH_take (i := 1) (v := ?_) rfl (by kernel_rfl) (by kernel_rfl) (by kernel_rfl) (fun _ _ _ h => h) (Or.inl ⟨by kernel_rfl, ?_⟩) (by assumption) ?_
    rotate_left
    · intro w hSw; (try dsimp only at hSw); go_simp; (try with_reducible rfl)
    refine wpAnyH_take (i := 2) (v := ?_) rfl (by kernel_rfl) (by kernel_rfl) (by kernel_rfl) (fun _ _ _ h => h) (Or.inl ⟨by kernel_rfl, ?_⟩) (by assumption) ?_
    rotate_left
    · intro w hSw; (try dsimp only at hSw); go_simp; (try with_reducible rfl)
    refine wpAnyH_take (i := 5) (v := ?_) rfl (by kernel_rfl) (by kernel_rfl) (by kernel_rfl) (fun _ _ _ h => h) (Or.inl ⟨by kernel_rfl, ?_⟩) (by assumption) ?_
    rotate_left
    · intro w hSw; (try dsimp only at hSw); go_simp; (try with_reducible rfl)
    refine wpAnyH_take (i := 6) (v := ?_) rfl (by kernel_rfl) (by kernel_rfl) (by kernel_rfl) (fun _ _ _ h => h) (Or.inl ⟨by kernel_rfl, ?_⟩) (by assumption) ?_
    rotate_left
    · intro w hSw; (try dsimp only at hSw); go_simp; (try with_reducible rfl)
    refine wpAnyH_take (i := 9) (v := ?_) rfl (by kernel_rfl) (by kernel_rfl) (by kernel_rfl) (fun _ _ _ h => h) (Or.inl ⟨by kernel_rfl, ?_⟩) (by assumption) ?_
    rotate_left
    · intro w hSw; (try dsimp only at hSw); go_simp; (try with_reducible rfl)
    refine wpAnyH_take (i := 10) (v := ?_) rfl (by kernel_rfl) (by kernel_rfl) (by kernel_rfl) (fun _ _ _ h => h) (Or.inl ⟨by kernel_rfl, ?_⟩) (by assumption) ?_
    rotate_left
    · intro w hSw; (try dsimp only at hSw); go_simp; (try with_reducible rfl)
    refine wpAnyH_take (i := 13) (v := ?_) rfl (by kernel_rfl) (by kernel_rfl) (by kernel_rfl) (fun _ _ _ h => h) (Or.inl ⟨by kernel_rfl, ?_⟩) (by assumption) ?_
    rotate_left
    · intro w hSw; (try dsimp only at hSw); go_simp; (try with_reducible rfl)
    refine wpAnyH_take (i := 14) (v := ?_) rfl (by kernel_rfl) (by kernel_rfl) (by kernel_rfl) (fun _ _ _ h => h) (Or.inl ⟨by kernel_rfl, ?_⟩) (by assumption) ?_
    rotate_left
    · intro w hSw; (try dsimp only at hSw); go_simp; (try with_reducible rfl)
    refine wpAnyH_take (i := 17) (v := ?_) rfl (by kernel_rfl) (by kernel_rfl) (by kernel_rfl) (fun _ _ _ h => h) (Or.inl ⟨by kernel_rfl, ?_⟩) (by assumption) ?_
    rotate_left
    · intro w hSw; (try dsimp only at hSw); go_simp; (try with_reducible rfl)
    refine wpAnyH_take (i := 18) (v := ?_) rfl (by kernel_rfl) (by kernel_rfl) (by kernel_rfl) (fun _ _ _ h => h) (Or.inl ⟨by kernel_rfl, ?_⟩) (by assumption) ?_
    rotate_left
    · intro w hSw; (try dsimp only at hSw); go_simp; (try with_reducible rfl)
    refine wpAnyH_take (i := 21) (v := ?_) rfl (by kernel_rfl) (by kernel_rfl) (by kernel_rfl) (fun _ _ _ h => h) (Or.inl ⟨by kernel_rfl, ?_⟩) (by assumption) ?_
    rotate_left
    · intro w hSw; (try dsimp only at hSw); go_simp; (try with_reducible rfl)
    refine wpAnyH_take (i := 22) (v := ?_) rfl (by kernel_rfl) (by kernel_rfl) (by kernel_rfl) (fun _ _ _ h => h) (Or.inl ⟨by kernel_rfl, ?_⟩) (by assumption) ?_
    rotate_left
    · intro w hSw; (try dsimp only at hSw); go_simp; (try with_reducible rfl)
    refine wpAnyH_take (i := 25) (v := ?_) rfl (by kernel_rfl) (by kernel_rfl) (by kernel_rfl) (fun _ _ _ h => h) (Or.inl ⟨by kernel_rfl, ?_⟩) (by assumption) ?_
    rotate_left
    · intro w hSw; (try dsimp only at hSw); go_simp; (try with_reducible rfl)
    refine wpAnyH_take (i := 26) (v := ?_) rfl (by kernel_rfl) (by kernel_rfl) (by kernel_rfl) (fun _ _ _ h => h) (Or.inl ⟨by kernel_rfl, ?_⟩) (by assumption) ?_
    rotate_left
    · intro w hSw; (try dsimp only at hSw); go_simp; (try with_reducible rfl)
    refine wpAnyH_take (i := 29) (v := ?_) rfl (by kernel_rfl) (by kernel_rfl) (by kernel_rfl) (fun _ _ _ h => h) (Or.inl ⟨by kernel_rfl, ?_⟩) (by assumption) ?_
    rotate_left
    · intro w hSw; (try dsimp only at hSw); go_simp; (try with_reducible rfl)
    refine wpAnyH_take (i := 30) (v := ?_) rfl (by kernel_rfl) (by kernel_rfl) (by kernel_rfl) (fun _ _ _ h => h) (Or.inl ⟨by kernel_rfl, ?_⟩) (by assumption) ?_
    rotate_left
    · intro w hSw; (try dsimp only at hSw); go_simp; (try with_reducible rfl)
    refine wpAnyH_ready (rs := [3]) (by kernel_rfl) (by simp) ?_
    refine AllReadyH.cons rfl (fun K hK => ?_) AllReadyH.nil
    go_simp
    refine (HN1.out v0).mono ?_
    rintro x v1 ⟨rfl, b2⟩
    have hS2 : v1.cell? ⟨M, 0, none⟩ = some (.int .i64 a.mk) ∧ v1.cell? ⟨M, 1, none⟩ = some (.int .i64 a.mt) ∧ v1.cell? ⟨M, 2, none⟩ = some (.int .u64 a.mh) ∧ v1.cell? ⟨N, 0, none⟩ = some (.int .i64 a.pf) ∧ v1.cell? ⟨N, 1, none⟩ = some (.int .u64 a.pq) ∧ v1.cell? ⟨N, 2, none⟩ = some (.int .u64 a.pt) ∧ v1.cell? ⟨N, 3, none⟩ = some (.string a.pd) ∧ v1.cell? ⟨M, 7, none⟩ = some (.string a.mp) := by
      obtain ⟨s0, s1, s2, s3, s4, s5, s6, s7⟩ := hS0
      exact ⟨(b2.cell (p := ⟨M, 0, none⟩) (Nat.lt_of_lt_of_le HLT.out.1 HDv0.out.size)).trans s0, (b2.cell (p := ⟨M, 1, none⟩) (Nat.lt_of_lt_of_le HLT.out.1 HDv0.out.size)).trans s1, (b2.cell (p := ⟨M, 2, none⟩) (Nat.lt_of_lt_of_le HLT.out.1 HDv0.out.size)).trans s2, (b2.cell (p := ⟨N, 0, none⟩) (Nat.lt_of_lt_of_le HLT.out.2 HDv0.out.size)).trans s3, (b2.cell (p := ⟨N, 1, none⟩) (Nat.lt_of_lt_of_le HLT.out.2 HDv0.out.size)).trans s4, (b2.cell (p := ⟨N, 2, none⟩) (Nat.lt_of_lt_of_le HLT.out.2 HDv0.out.size)).trans s5, (b2.cell (p := ⟨N, 3, none⟩) (Nat.lt_of_lt_of_le HLT.out.2 HDv0.out.size)).trans s6, (b2.cell (p := ⟨M, 7, none⟩) (Nat.lt_of_lt_of_le HLT.out.1 HDv0.out.size)).trans s7⟩
    have HDv1 : Hid (Below w4.heap.size w4 v1) := Lib.hid (HDv0.out.trans (b2.mono HDv0.out.size))
    clear b2 hS0
    refine hK.out _ _ hS2 (fun hS0 => ?_)
    clear hK K hS2
    refine wpAnyH_take (i := 4) (v := ?_) rfl (by kernel_rfl) (by kernel_rfl) (by kernel_rfl) (fun _ _ _ h => h) (Or.inl ⟨by kernel_rfl, ?_⟩) (by assumption) ?_
    rotate_left
    · intro w hSw; (try dsimp only at hSw); go_simp; (try with_reducible rfl)
    refine wpAnyH_ready (rs := [7]) (by kernel_rfl) (by simp) ?_
    refine AllReadyH.cons rfl (fun K hK => ?_) AllReadyH.nil
    go_simp
    refine (HN2.out v1).mono ?_
    rintro x v2 ⟨rfl, b2⟩
    have hS2 : v2.cell? ⟨M, 0, none⟩ = some (.int .i64 a.mk) ∧ v2.cell? ⟨M, 1, none⟩ = some (.int .i64 a.mt) ∧ v2.cell? ⟨M, 2, none⟩ = some (.int .u64 a.mh) ∧ v2.cell? ⟨N, 0, none⟩ = some (.int .i64 a.pf) ∧ v2.cell? ⟨N, 1, none⟩ = some (.int .u64 a.pq) ∧ v2.cell? ⟨N, 2, none⟩ = some (.int .u64 a.pt) ∧ v2.cell? ⟨N, 3, none⟩ = some (.string a.pd) ∧ v2.cell? ⟨M, 7, none⟩ = some (.string a.mp) := by
      obtain ⟨s0, s1, s2, s3, s4, s5, s6, s7⟩ := hS0
      exact ⟨(b2.cell (p := ⟨M, 0, none⟩) (Nat.lt_of_lt_of_le HLT.out.1 HDv1.out.size)).trans s0, (b2.cell (p := ⟨M, 1, none⟩) (Nat.lt_of_lt_of_le HLT.out.1 HDv1.out.size)).trans s1, (b2.cell (p := ⟨M, 2, none⟩) (Nat.lt_of_lt_of_le HLT.out.1 HDv1.out.size)).trans s2, (b2.cell (p := ⟨N, 0, none⟩) (Nat.lt_of_lt_of_le HLT.out.2 HDv1.out.size)).trans s3, (b2.cell (p := ⟨N, 1, none⟩) (Nat.lt_of_lt_of_le HLT.out.2 HDv1.out.size)).trans s4, (b2.cell (p := ⟨N, 2, none⟩) (Nat.lt_of_lt_of_le HLT.out.2 HDv1.out.size)).trans s5, (b2.cell (p := ⟨N, 3, none⟩) (Nat.lt_of_lt_of_le HLT.out.2 HDv1.out.size)).trans s6, (b2.cell (p := ⟨M, 7, none⟩) (Nat.lt_of_lt_of_le HLT.out.1 HDv1.out.size)).trans s7⟩
    have HDv2 : Hid (Below w4.heap.size w4 v2) := Lib.hid (HDv1.out.trans (b2.mono HDv1.out.size))
    clear b2 hS0
    refine hK.out _ _ hS2 (fun hS0 => ?_)
    clear hK K hS2
    refine wpAnyH_take (i := 8) (v := ?_) rfl (by kernel_rfl) (by kernel_rfl) (by kernel_rfl) (fun _ _ _ h => h) (Or.inl ⟨by kernel_rfl, ?_⟩) (by assumption) ?_
    rotate_left
    · intro w hSw; (try dsimp only at hSw); go_simp; (try with_reducible rfl)
    refine wpAnyH_ready (rs := [11]) (by kernel_rfl) (by simp) ?_
    refine AllReadyH.cons rfl (fun K hK => ?_) AllReadyH.nil
    go_simp
    refine (HN3.out v2).mono ?_
    rintro x v3 ⟨rfl, b2⟩
    have hS2 : v3.cell? ⟨M, 0, none⟩ = some (.int .i64 a.mk) ∧ v3.cell? ⟨M, 1, none⟩ = some (.int .i64 a.mt) ∧ v3.cell? ⟨M, 2, none⟩ = some (.int .u64 a.mh) ∧ v3.cell? ⟨N, 0, none⟩ = some (.int .i64 a.pf) ∧ v3.cell? ⟨N, 1, none⟩ = some (.int .u64 a.pq) ∧ v3.cell? ⟨N, 2, none⟩ = some (.int .u64 a.pt) ∧ v3.cell? ⟨N, 3, none⟩ = some (.string a.pd) ∧ v3.cell? ⟨M, 7, none⟩ = some (.string a.mp) := by
      obtain ⟨s0, s1, s2, s3, s4, s5, s6, s7⟩ := hS0
      exact ⟨(b2.cell (p := ⟨M, 0, none⟩) (Nat.lt_of_lt_of_le HLT.out.1 HDv2.out.size)).trans s0, (b2.cell (p := ⟨M, 1, none⟩) (Nat.lt_of_lt_of_le HLT.out.1 HDv2.out.size)).trans s1, (b2.cell (p := ⟨M, 2, none⟩) (Nat.lt_of_lt_of_le HLT.out.1 HDv2.out.size)).trans s2, (b2.cell (p := ⟨N, 0, none⟩) (Nat.lt_of_lt_of_le HLT.out.2 HDv2.out.size)).trans s3, (b2.cell (p := ⟨N, 1, none⟩) (Nat.lt_of_lt_of_le HLT.out.2 HDv2.out.size)).trans s4, (b2.cell (p := ⟨N, 2, none⟩) (Nat.lt_of_lt_of_le HLT.out.2 HDv2.out.size)).trans s5, (b2.cell (p := ⟨N, 3, none⟩) (Nat.lt_of_lt_of_le HLT.out.2 HDv2.out.size)).trans s6, (b2.cell (p := ⟨M, 7, none⟩) (Nat.lt_of_lt_of_le HLT.out.1 HDv2.out.size)).trans s7⟩
    have HDv3 : Hid (Below w4.heap.size w4 v3) := Lib.hid (HDv2.out.trans (b2.mono HDv2.out.size))
    clear b2 hS0
    refine hK.out _ _ hS2 (fun hS0 => ?_)
    clear hK K hS2
    refine wpAnyH_take (i := 12) (v := ?_) rfl (by kernel_rfl) (by kernel_rfl) (by kernel_rfl) (fun _ _ _ h => h) (Or.inl ⟨by kernel_rfl, ?_⟩) (by assumption) ?_
    rotate_left
    · intro w hSw; (try dsimp only at hSw); go_simp; (try with_reducible rfl)
    refine wpAnyH_ready (rs := [15]) (by kernel_rfl) (by simp) ?_
    refine AllReadyH.cons rfl (fun K hK => ?_) AllReadyH.nil
    go_simp
    refine (HN4.out v3).mono ?_
    rintro x v4 ⟨rfl, b2⟩
    have hS2 : v4.cell? ⟨M, 0, none⟩ = some (.int .i64 a.mk) ∧ v4.cell? ⟨M, 1, none⟩ = some (.int .i64 a.mt) ∧ v4.cell? ⟨M, 2, none⟩ = some (.int .u64 a.mh) ∧ v4.cell? ⟨N, 0, none⟩ = some (.int .i64 a.pf) ∧ v4.cell? ⟨N, 1, none⟩ = some (.int .u64 a.pq) ∧ v4.cell? ⟨N, 2, none⟩ = some (.int .u64 a.pt) ∧ v4.cell? ⟨N, 3, none⟩ = some (.string a.pd) ∧ v4.cell? ⟨M, 7, none⟩ = some (.string a.mp) := by
      obtain ⟨s0, s1, s2, s3, s4, s5, s6, s7⟩ := hS0
      exact ⟨(b2.cell (p := ⟨M, 0, none⟩) (Nat.lt_of_lt_of_le HLT.out.1 HDv3.out.size)).trans s0, (b2.cell (p := ⟨M, 1, none⟩) (Nat.lt_of_lt_of_le HLT.out.1 HDv3.out.size)).trans s1, (b2.cell (p := ⟨M, 2, none⟩) (Nat.lt_of_lt_of_le HLT.out.1 HDv3.out.size)).trans s2, (b2.cell (p := ⟨N, 0, none⟩) (Nat.lt_of_lt_of_le HLT.out.2 HDv3.out.size)).trans s3, (b2.cell (p := ⟨N, 1, none⟩) (Nat.lt_of_lt_of_le HLT.out.2 HDv3.out.size)).trans s4, (b2.cell (p := ⟨N, 2, none⟩) (Nat.lt_of_lt_of_le HLT.out.2 HDv3.out.size)).trans s5, (b2.cell (p := ⟨N, 3, none⟩) (Nat.lt_of_lt_of_le HLT.out.2 HDv3.out.size)).trans s6, (b2.cell (p := ⟨M, 7, none⟩) (Nat.lt_of_lt_of_le HLT.out.1 HDv3.out.size)).trans s7⟩
    have HDv4 : Hid (Below w4.heap.size w4 v4) := Lib.hid (HDv3.out.trans (b2.mono HDv3.out.size))
    clear b2 hS0
    refine hK.out _ _ hS2 (fun hS0 => ?_)
    clear hK K hS2
    refine wpAnyH_take (i := 16) (v := ?_) rfl (by kernel_rfl) (by kernel_rfl) (by kernel_rfl) (fun _ _ _ h => h) (Or.inl ⟨by kernel_rfl, ?_⟩) (by assumption) ?_
    rotate_left
    · intro w hSw; (try dsimp only at hSw); go_simp; (try with_reducible rfl)
    refine wpAnyH_ready (rs := [19]) (by kernel_rfl) (by simp) ?_
    refine AllReadyH.cons rfl (fun K hK => ?_) AllReadyH.nil
    go_simp
    refine (HN5.out v4).mono ?_
    rintro x v5 ⟨rfl, b2⟩
    have hS2 : v5.cell? ⟨M, 0, none⟩ = some (.int .i64 a.mk) ∧ v5.cell? ⟨M, 1, none⟩ = some (.int .i64 a.mt) ∧ v5.cell? ⟨M, 2, none⟩ = some (.int .u64 a.mh) ∧ v5.cell? ⟨N, 0, none⟩ = some (.int .i64 a.pf) ∧ v5.cell? ⟨N, 1, none⟩ = some (.int .u64 a.pq) ∧ v5.cell? ⟨N, 2, none⟩ = some (.int .u64 a.pt) ∧ v5.cell? ⟨N, 3, none⟩ = some (.string a.pd) ∧ v5.cell? ⟨M, 7, none⟩ = some (.string a.mp) := by
      obtain ⟨s0, s1, s2, s3, s4, s5, s6, s7⟩ := hS0
      exact ⟨(b2.cell (p := ⟨M, 0, none⟩) (Nat.lt_of_lt_of_le HLT.out.1 HDv4.out.size)).trans s0, (b2.cell (p := ⟨M, 1, none⟩) (Nat.lt_of_lt_of_le HLT.out.1 HDv4.out.size)).trans s1, (b2.cell (p := ⟨M, 2, none⟩) (Nat.lt_of_lt_of_le HLT.out.1 HDv4.out.size)).trans s2, (b2.cell (p := ⟨N, 0, none⟩) (Nat.lt_of_lt_of_le HLT.out.2 HDv4.out.size)).trans s3, (b2.cell (p := ⟨N, 1, none⟩) (Nat.lt_of_lt_of_le HLT.out.2 HDv4.out.size)).trans s4, (b2.cell (p := ⟨N, 2, none⟩) (Nat.lt_of_lt_of_le HLT.out.2 HDv4.out.size)).trans s5, (b2.cell (p := ⟨N, 3, none⟩) (Nat.lt_of_lt_of_le HLT.out.2 HDv4.out.size)).trans s6, (b2.cell (p := ⟨M, 7, none⟩) (Nat.lt_of_lt_of_le HLT.out.1 HDv4.out.size)).trans s7⟩
    have HDv5 : Hid (Below w4.heap.size w4 v5) := Lib.hid (HDv4.out.trans (b2.mono HDv4.out.size))
    clear b2 hS0
    refine hK.out _ _ hS2 (fun hS0 => ?_)
    clear hK K hS2
    refine wpAnyH_take (i := 20) (v := ?_) rfl (by kernel_rfl) (by kernel_rfl) (by kernel_rfl) (fun _ _ _ h => h) (Or.inl ⟨by kernel_rfl, ?_⟩) (by assumption) ?_
    rotate_left
    · intro w hSw; (try dsimp only at hSw); go_simp; (try with_reducible rfl)
    refine wpAnyH_ready (rs := [23]) (by kernel_rfl) (by simp) ?_
    refine AllReadyH.cons rfl (fun K hK => ?_) AllReadyH.nil
    go_simp
    refine (HN6.out v5).mono ?_
    rintro x v6 ⟨rfl, b2⟩
    have hS2 : v6.cell? ⟨M, 0, none⟩ = some (.int .i64 a.mk) ∧ v6.cell? ⟨M, 1, none⟩ = some (.int .i64 a.mt) ∧ v6.cell? ⟨M, 2, none⟩ = some (.int .u64 a.mh) ∧ v6.cell? ⟨N, 0, none⟩ = some (.int .i64 a.pf) ∧ v6.cell? ⟨N, 1, none⟩ = some (.int .u64 a.pq) ∧ v6.cell? ⟨N, 2, none⟩ = some (.int .u64 a.pt) ∧ v6.cell? ⟨N, 3, none⟩ = some (.string a.pd) ∧ v6.cell? ⟨M, 7, none⟩ = some (.string a.mp) := by
      obtain ⟨s0, s1, s2, s3, s4, s5, s6, s7⟩ := hS0
      exact ⟨(b2.cell (p := ⟨M, 0, none⟩) (Nat.lt_of_lt_of_le HLT.out.1 HDv5.out.size)).trans s0, (b2.cell (p := ⟨M, 1, none⟩) (Nat.lt_of_lt_of_le HLT.out.1 HDv5.out.size)).trans s1, (b2.cell (p := ⟨M, 2, none⟩) (Nat.lt_of_lt_of_le HLT.out.1 HDv5.out.size)).trans s2, (b2.cell (p := ⟨N, 0, none⟩) (Nat.lt_of_lt_of_le HLT.out.2 HDv5.out.size)).trans s3, (b2.cell (p := ⟨N, 1, none⟩) (Nat.lt_of_lt_of_le HLT.out.2 HDv5.out.size)).trans s4, (b2.cell (p := ⟨N, 2, none⟩) (Nat.lt_of_lt_of_le HLT.out.2 HDv5.out.size)).trans s5, (b2.cell (p := ⟨N, 3, none⟩) (Nat.lt_of_lt_of_le HLT.out.2 HDv5.out.size)).trans s6, (b2.cell (p := ⟨M, 7, none⟩) (Nat.lt_of_lt_of_le HLT.out.1 HDv5.out.size)).trans s7⟩
    have HDv6 : Hid (Below w4.heap.size w4 v6) := Lib.hid (HDv5.out.trans (b2.mono HDv5.out.size))
    clear b2 hS0
    refine hK.out _ _ hS2 (fun hS0 => ?_)
    clear hK K hS2
    refine wpAnyH_take (i := 24) (v := ?_) rfl (by kernel_rfl) (by kernel_rfl) (by kernel_rfl) (fun _ _ _ h => h) (Or.inl ⟨by kernel_rfl, ?_⟩) (by assumption) ?_
    rotate_left
    · intro w hSw; (try dsimp only at hSw); go_simp; (try with_reducible rfl)
    refine wpAnyH_ready (rs := [27]) (by kernel_rfl) (by simp) ?_
    refine AllReadyH.cons rfl (fun K hK => ?_) AllReadyH.nil
    go_simp
    refine (HN7.out v6).mono ?_
    rintro x v7 ⟨rfl, b2⟩
    have hS2 : v7.cell? ⟨M, 0, none⟩ = some (.int .i64 a.mk) ∧ v7.cell? ⟨M, 1, none⟩ = some (.int .i64 a.mt) ∧ v7.cell? ⟨M, 2, none⟩ = some (.int .u64 a.mh) ∧ v7.cell? ⟨N, 0, none⟩ = some (.int .i64 a.pf) ∧ v7.cell? ⟨N, 1, none⟩ = some (.int .u64 a.pq) ∧ v7.cell? ⟨N, 2, none⟩ = some (.int .u64 a.pt) ∧ v7.cell? ⟨N, 3, none⟩ = some (.string a.pd) ∧ v7.cell? ⟨M, 7, none⟩ = some (.string a.mp) := by
      obtain ⟨s0, s1, s2, s3, s4, s5, s6, s7⟩ := hS0
      exact ⟨(b2.cell (p := ⟨M, 0, none⟩) (Nat.lt_of_lt_of_le HLT.out.1 HDv6.out.size)).trans s0, (b2.cell (p := ⟨M, 1, none⟩) (Nat.lt_of_lt_of_le HLT.out.1 HDv6.out.size)).trans s1, (b2.cell (p := ⟨M, 2, none⟩) (Nat.lt_of_lt_of_le HLT.out.1 HDv6.out.size)).trans s2, (b2.cell (p := ⟨N, 0, none⟩) (Nat.lt_of_lt_of_le HLT.out.2 HDv6.out.size)).trans s3, (b2.cell (p := ⟨N, 1, none⟩) (Nat.lt_of_lt_of_le HLT.out.2 HDv6.out.size)).trans s4, (b2.cell (p := ⟨N, 2, none⟩) (Nat.lt_of_lt_of_le HLT.out.2 HDv6.out.size)).trans s5, (b2.cell (p := ⟨N, 3, none⟩) (Nat.lt_of_lt_of_le HLT.out.2 HDv6.out.size)).trans s6, (b2.cell (p := ⟨M, 7, none⟩) (Nat.lt_of_lt_of_le HLT.out.1 HDv6.out.size)).trans s7⟩
    have HDv7 : Hid (Below w4.heap.size w4 v7) := Lib.hid (HDv6.out.trans (b2.mono HDv6.out.size))
    clear b2 hS0
    refine hK.out _ _ hS2 (fun hS0 => ?_)
    clear hK K hS2
    refine wpAnyH_take (i := 28) (v := ?_) rfl (by kernel_rfl) (by kernel_rfl) (by kernel_rfl) (fun _ _ _ h => h) (Or.inl ⟨by kernel_rfl, ?_⟩) (by assumption) ?_
    rotate_left
    · intro w hSw; (try dsimp only at hSw); go_simp; (try with_reducible rfl)
    refine wpAnyH_ready (rs := [31]) (by kernel_rfl) (by simp) ?_
    refine AllReadyH.cons rfl (fun K hK => ?_) AllReadyH.nil
    go_simp
    refine (HN8.out v7).mono ?_
    rintro x v8 ⟨rfl, b2⟩
    have hS2 : v8.cell? ⟨M, 0, none⟩ = some (.int .i64 a.mk) ∧ v8.cell? ⟨M, 1, none⟩ = some (.int .i64 a.mt) ∧ v8.cell? ⟨M, 2, none⟩ = some (.int .u64 a.mh) ∧ v8.cell? ⟨N, 0, none⟩ = some (.int .i64 a.pf) ∧ v8.cell? ⟨N, 1, none⟩ = some (.int .u64 a.pq) ∧ v8.cell? ⟨N, 2, none⟩ = some (.int .u64 a.pt) ∧ v8.cell? ⟨N, 3, none⟩ = some (.string a.pd) ∧ v8.cell? ⟨M, 7, none⟩ = some (.string a.mp) := by
      obtain ⟨s0, s1, s2, s3, s4, s5, s6, s7⟩ := hS0
      exact ⟨(b2.cell (p := ⟨M, 0, none⟩) (Nat.lt_of_lt_of_le HLT.out.1 HDv7.out.size)).trans s0, (b2.cell (p := ⟨M, 1, none⟩) (Nat.lt_of_lt_of_le HLT.out.1 HDv7.out.size)).trans s1, (b2.cell (p := ⟨M, 2, none⟩) (Nat.lt_of_lt_of_le HLT.out.1 HDv7.out.size)).trans s2, (b2.cell (p := ⟨N, 0, none⟩) (Nat.lt_of_lt_of_le HLT.out.2 HDv7.out.size)).trans s3, (b2.cell (p := ⟨N, 1, none⟩) (Nat.lt_of_lt_of_le HLT.out.2 HDv7.out.size)).trans s4, (b2.cell (p := ⟨N, 2, none⟩) (Nat.lt_of_lt_of_le HLT.out.2 HDv7.out.size)).trans s5, (b2.cell (p := ⟨N, 3, none⟩) (Nat.lt_of_lt_of_le HLT.out.2 HDv7.out.size)).trans s6, (b2.cell (p := ⟨M, 7, none⟩) (Nat.lt_of_lt_of_le HLT.out.1 HDv7.out.size)).trans s7⟩
    have HDv8 : Hid (Below w4.heap.size w4 v8) := Lib.hid (HDv7.out.trans (b2.mono HDv7.out.size))
    clear b2 hS0
    refine hK.out _ _ hS2 (fun hS0 => ?_)
    clear hK K hS2
    refine wpAnyH_take (i := 32) (v := ?_) rfl (by kernel_rfl) (by kernel_rfl) (by kernel_rfl) (fun _ _ _ h => h) (Or.inl ⟨by kernel_rfl, ?_⟩) (by assumption) ?_
    rotate_left
    · intro w hSw; (try dsimp only at hSw); go_simp; (try with_reducible rfl)
    refine wpAnyH_take (i := 33) (v := ?_) rfl (by kernel_rfl) (by kernel_rfl) (by kernel_rfl) (fun _ _ _ h => h) (Or.inl ⟨by kernel_rfl, ?_⟩) (by assumption) ?_
    rotate_left
    · intro w hSw; (try dsimp only at hSw); go_simp; (try with_reducible rfl)
    clear hS0
    refine wpAnyH_done (by kernel_rfl) ?_ _
    go_simp
    go_wp2
    go_ret2
    exact ⟨H5.out.1.trans (HDv8.out.mono H5.out.1.size), fun h => absurd HQ.out h, fun _ _ => rfl, fun _ h => absurd h HOK.out⟩
end Go.Proofs.Ytjilbcefikbihaa
