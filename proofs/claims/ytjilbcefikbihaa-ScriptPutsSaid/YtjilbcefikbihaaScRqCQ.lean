/- carrackref23's Put. Condition: numbers are numbers, texts not too long. -/
import Derived.WalkSpells
import Derived.Outline
import Derived.Deep.RegionHeld
import Derived.Deep.MidRow
import Derived.Test.YtjilbcefikbihaaHeldLastQ
import Derived.Test.YtjilbcefikbihaaScRrAQ
import Derived.Test.YtjilbcefikbihaaScRrBQ
import Derived.Test.YtjilbcefikbihaaScRrCQ
import Derived.Test.YtjilbcefikbihaaScRbQ
import Derived.Test.YtjilbcefikbihaaScRq0Q
namespace Go.Proofs.Ytjilbcefikbihaa
open Go.RowKit
set_option linter.unusedVariables false
set_option linter.unusedSimpArgs false
set_option maxRecDepth 100000 in
set_option maxHeartbeats 4000000 in
theorem rq_5 (a : SaV) (sv : Value) (w : World) (hk : a.k = 5) (hws : WsAt w sv a.ws) (hwf : a.wf) :
    Calls Try.prog 9 #[.agg #[.int .i64 a.k, .int .i64 a.c, .int .u64 a.t, .string a.d, .int .i64 a.n, .int .i64 a.mk, .int .i64 a.mt, .int .u64 a.mh, .int .i64 a.pf, .int .u64 a.pq, .int .u64 a.pt, .string a.pd, .string a.mp, sv]] w fun x w' => Below w.heap.size w w' ∧
      (a ≠ (fmOf 5).keep a (zeroK 5) → x = .returned (.tuple #[.string ⟨#[]⟩, .int .i64 5])) ∧
      (a = (fmOf 5).keep a (zeroK 5) → ¬ (fmOf 5).ok a → x = .returned (.tuple #[.string ⟨#[]⟩, .int .i64 1])) ∧
      (a = (fmOf 5).keep a (zeroK 5) → (fmOf 5).ok a → x = .returned (.tuple #[.string (txt ([5] ++ (fmOf 5).enc a)), .int .i64 0])) := by
  have HRR := Lib.hid (fun (wz : World) (h : WsAt wz sv a.ws) => rr_5 a sv wz hk h)
  rw [hk] at HRR
  rw [hk]
  clear hk
  obtain ⟨P, hP⟩ : ∃ z, z = w.heap.size := ⟨_, rfl⟩
  obtain ⟨w1, hw1⟩ : ∃ z, z = w.alloc (.cells #[.int .i64 5, .int .i64 a.c, .int .u64 a.t, .string a.d, .int .i64 a.n, .int .i64 a.mk, .int .i64 a.mt, .int .u64 a.mh, .int .i64 a.pf, .int .u64 a.pq, .int .u64 a.pt, .string a.pd, .string a.mp, sv] 29) := ⟨_, rfl⟩
  have hb : w1.heap[P]? = some (.cells #[.int .i64 5, .int .i64 a.c, .int .u64 a.t, .string a.d, .int .i64 a.n, .int .i64 a.mk, .int .i64 a.mt, .int .u64 a.mh, .int .i64 a.pf, .int .u64 a.pq, .int .u64 a.pt, .string a.pd, .string a.mp, sv] 29 (0, 0)) := by
    rw [hw1, hP]; exact Kq.blk_new _ _ _ _
  have ba : Below w.heap.size w w1 := by rw [hw1]; exact Kq.below_alloc _ _
  have HWS : Hid (∀ wz, Below w1.heap.size w1 wz → WsAt wz sv a.ws) := Lib.hid (fun wz h => by
    have h2 := hws.keeps (S := fun _ => False) (Kq.Keeps.of_below ba (fun k h1 h2 => absurd h1 (Nat.not_le.2 h2))) (fun _ _ => id)
    exact h2.keeps (S := fun _ => False) (Kq.Keeps.of_below h (fun k h1 h2 => absurd h1 (Nat.not_le.2 h2))) (fun _ _ => id))
  have H1 := Lib.hid (And.intro ba (And.intro hb (Kq.blk_lt hb)))
  have HPW : Hid (w.heap.size ≤ P) := Lib.hid (by omega)
  have HWF := Lib.hid hwf
  have D0 : w1.cell? ⟨P, 0, none⟩ = some (.int .i64 5) := Kq.blk_cell hb 0
  rw [hw1, hP] at D0
  clear hws hwf ba hb
  go_enter Try.func9, Try.ntmps9
  go_wp2_with fail
  rw [← hw1, ← hP]
  clear hw1 hP D0
  refine (HRR.out w1 (HWS.out w1 (Below.refl _ _))).mono ?_
  rintro x w2 ⟨rfl, b2⟩
  have H2 := Lib.hid b2
  by_cases hq : a = (fmOf 5).keep a (zeroK 5)
  case neg =>
    have HQ := Lib.hid hq
    rw [decide_eq_false hq]
    clear hq b2
    go_wp2
    go_ret2
    exact ⟨H1.out.1.trans (H2.out.mono H1.out.1.size), fun _ => rfl, fun h => absurd h HQ.out, fun h => absurd h HQ.out⟩
  have HQ := Lib.hid hq
  rw [decide_eq_true hq]
  clear hq
  have hb := Kq.below_blk b2 H1.out.2.1 H1.out.2.2
  have d0 : w2.cell? ⟨P, 0, none⟩ = some (.int .i64 5) := Kq.blk_cell hb 0
  clear hb b2
  go_wp2_with fail
  clear d0
  have HNK : Hid (∀ wz, Calls Try.prog 24 #[.int .i64 5, .int .i64 1] wz fun x w' => x = .returned (.string (txt [5])) ∧ Below wz.heap.size wz w') := Lib.hid (fun wz => by
    have h := rf_num 5 1 (by decide) wz
    rw [be1_u64] at h
    exact h)
  refine (HNK.out w2).mono ?_
  rintro x w3 ⟨rfl, b3⟩
  have H3 := Lib.hid (H2.out.trans (b3.mono H2.out.size))
  clear b3 HNK H2 HRR
  have hb := Kq.below_blk H3.out H1.out.2.1 H1.out.2.2
  have d0 : w3.cell? ⟨P, 0, none⟩ = some (.int .i64 5) := Kq.blk_cell hb 0
  have d5 : w3.cell? ⟨P, 5, none⟩ = some (.int .i64 a.mk) := Kq.blk_cell hb 5
  have d6 : w3.cell? ⟨P, 6, none⟩ = some (.int .i64 a.mt) := Kq.blk_cell hb 6
  have d7 : w3.cell? ⟨P, 7, none⟩ = some (.int .u64 a.mh) := Kq.blk_cell hb 7
  have d8 : w3.cell? ⟨P, 8, none⟩ = some (.int .i64 a.pf) := Kq.blk_cell hb 8
  have d9 : w3.cell? ⟨P, 9, none⟩ = some (.int .u64 a.pq) := Kq.blk_cell hb 9
  have d10 : w3.cell? ⟨P, 10, none⟩ = some (.int .u64 a.pt) := Kq.blk_cell hb 10
  have d11 : w3.cell? ⟨P, 11, none⟩ = some (.string a.pd) := Kq.blk_cell hb 11
  have d12 : w3.cell? ⟨P, 12, none⟩ = some (.string a.mp) := Kq.blk_cell hb 12
  have hp0 : P < w3.heap.size := Kq.blk_lt hb
  have hp1 : ¬ P = w3.heap.size := by omega
  have hp2 : ¬ P = w3.heap.size + 1 := by omega
  clear hb
  go_wp2_with fail
  go_region
  all_goals
    first
    | (obtain ⟨w4, hw4⟩ : ∃ z, z = ((w3.alloc (.cells #[.int .i64 a.mk, .int .i64 a.mt, .int .u64 a.mh, .int .i64 a.pf, .int .u64 a.pq, .int .u64 a.pt, .string a.pd, .string a.mp] 26)).alloc (.cells #[.int .i64 a.pf, .int .u64 a.pq, .int .u64 a.pt, .string a.pd] 24)).drew := ⟨_, rfl⟩
       rw [← hw4]
       obtain ⟨N, hN⟩ : ∃ z, z = w3.heap.size + 1 := ⟨_, rfl⟩
       obtain ⟨M, hM⟩ : ∃ z, z = w3.heap.size := ⟨_, rfl⟩
       rw [← hN, ← hM]
       have H4 : Hid (Below w3.heap.size w3 w4 ∧ w4.heap[M]? = some (.cells #[.int .i64 a.mk, .int .i64 a.mt, .int .u64 a.mh, .int .i64 a.pf, .int .u64 a.pq, .int .u64 a.pt, .string a.pd, .string a.mp] 26 (0, 0)) ∧ w4.heap[N]? = some (.cells #[.int .i64 a.pf, .int .u64 a.pq, .int .u64 a.pt, .string a.pd] 24 (0, 0))) := Lib.hid (by
         rw [hw4, hM, hN]; exact two_drew _ _ _ _ _)
       clear hw4 hM hN)
    | (obtain ⟨w4, hw4⟩ : ∃ z, z = ((w3.alloc (.cells #[.int .i64 a.pf, .int .u64 a.pq, .int .u64 a.pt, .string a.pd] 24)).alloc (.cells #[.int .i64 a.mk, .int .i64 a.mt, .int .u64 a.mh, .int .i64 a.pf, .int .u64 a.pq, .int .u64 a.pt, .string a.pd, .string a.mp] 26)).drew := ⟨_, rfl⟩
       rw [← hw4]
       obtain ⟨M, hM⟩ : ∃ z, z = w3.heap.size + 1 := ⟨_, rfl⟩
       obtain ⟨N, hN⟩ : ∃ z, z = w3.heap.size := ⟨_, rfl⟩
       rw [← hM, ← hN]
       have H4 : Hid (Below w3.heap.size w3 w4 ∧ w4.heap[M]? = some (.cells #[.int .i64 a.mk, .int .i64 a.mt, .int .u64 a.mh, .int .i64 a.pf, .int .u64 a.pq, .int .u64 a.pt, .string a.pd, .string a.mp] 26 (0, 0)) ∧ w4.heap[N]? = some (.cells #[.int .i64 a.pf, .int .u64 a.pq, .int .u64 a.pt, .string a.pd] 24 (0, 0))) := Lib.hid (by
         rw [hw4, hM, hN]
         obtain ⟨x1, x2, x3⟩ := two_drew w3 #[.int .i64 a.pf, .int .u64 a.pq, .int .u64 a.pt, .string a.pd] #[.int .i64 a.mk, .int .i64 a.mt, .int .u64 a.mh, .int .i64 a.pf, .int .u64 a.pq, .int .u64 a.pt, .string a.pd, .string a.mp] 24 26
         exact ⟨x1, x3, x2⟩)
       clear hw4 hM hN)
    have H5 : Hid (Below w.heap.size w w4 ∧ Below w1.heap.size w1 w4) := Lib.hid ⟨H1.out.1.trans ((H3.out.trans (H4.out.1.mono H3.out.size)).mono H1.out.1.size), H3.out.trans (H4.out.1.mono H3.out.size)⟩
    have hb := Kq.below_blk H5.out.2 H1.out.2.1 H1.out.2.2
    clear d0 d5 d6 d7 d8 d9 d10 d11 d12 hp0 hp1 hp2
    have HP4 : Hid (P < w4.heap.size) := Lib.hid (Kq.blk_lt hb)
    have d0 : w4.cell? ⟨P, 0, none⟩ = some (.int .i64 5) := Kq.blk_cell hb 0
    have d4 : w4.cell? ⟨P, 4, none⟩ = some (.int .i64 a.n) := Kq.blk_cell hb 4
    clear hb
    obtain ⟨T, hT⟩ : ∃ z, z = txt (be (u64 a.n) 1) := ⟨_, rfl⟩
    obtain ⟨T0, hT0⟩ : ∃ z, z = txt [5] := ⟨_, rfl⟩
    have hz : T.size = 1 := by rw [hT, txt_size, be_len]
    have hz0 : T0.size = 1 := by rw [hT0, txt_size]; rfl
    have g1 : T0.size + T.size ≤ 9223372036854775807 := by omega
    have g2 : ¬ 9223372036854775807 < T0.size + T.size := by omega
    have HN : Hid (∀ wz, Calls Try.prog 24 #[.int .i64 a.n, .int .i64 1] wz fun x w' => x = .returned (.string T) ∧ Below wz.heap.size wz w') := Lib.hid (fun wz => by rw [hT]; exact rf_num a.n 1 (by decide) wz)
    have HA : Hid (0 ≤ a.n ∧ a.n ≤ 255 → T0 ++ T = txt ([5] ++ [a.n.toNat])) := Lib.hid (fun h => by
      rw [hT, hT0, be1_u64, txt_appS _ _ (fun x hx => by have := List.mem_singleton.1 hx; omega) (fun x hx => by have := List.mem_singleton.1 hx; omega), show (a.n % 256).toNat = a.n.toNat by omega])
    rw [← hT0]
    clear hT hT0 hz hz0
    go_wp2_with fail
    refine (rf_fits a.n w4).mono ?_
    rintro x w5 ⟨rfl, rfl⟩
    by_cases hf : 0 ≤ a.n ∧ a.n ≤ 255
    case' pos =>
      rw [decide_eq_true hf]
    case' neg =>
      rw [decide_eq_false hf]
    all_goals
      have HF := Lib.hid hf
      clear hf
      go_wp2_with fail
      refine (HN.out w4).mono ?_
      rintro x w6 ⟨rfl, b6⟩
      have H6 := Lib.hid (H5.out.1.trans (b6.mono H5.out.1.size))
      clear b6
      go_wp2
      go_ret2
      first
      | exact ⟨H6.out, fun h => absurd HQ.out h, fun _ h => absurd HF.out h, fun _ h => by rw [HA.out HF.out]; rfl⟩
      | exact ⟨H6.out, fun h => absurd HQ.out h, fun _ h => rfl, fun _ h => absurd h HF.out⟩
set_option maxRecDepth 100000 in
set_option maxHeartbeats 4000000 in
theorem rq_7 (a : SaV) (sv : Value) (w : World) (hk : a.k = 7) (hws : WsAt w sv a.ws) (hwf : a.wf) :
    Calls Try.prog 9 #[.agg #[.int .i64 a.k, .int .i64 a.c, .int .u64 a.t, .string a.d, .int .i64 a.n, .int .i64 a.mk, .int .i64 a.mt, .int .u64 a.mh, .int .i64 a.pf, .int .u64 a.pq, .int .u64 a.pt, .string a.pd, .string a.mp, sv]] w fun x w' => Below w.heap.size w w' ∧
      (a ≠ (fmOf 7).keep a (zeroK 7) → x = .returned (.tuple #[.string ⟨#[]⟩, .int .i64 5])) ∧
      (a = (fmOf 7).keep a (zeroK 7) → ¬ (fmOf 7).ok a → x = .returned (.tuple #[.string ⟨#[]⟩, .int .i64 1])) ∧
      (a = (fmOf 7).keep a (zeroK 7) → (fmOf 7).ok a → x = .returned (.tuple #[.string (txt ([7] ++ (fmOf 7).enc a)), .int .i64 0])) := by
  have HRR := Lib.hid (fun (wz : World) (h : WsAt wz sv a.ws) => rr_7 a sv wz hk h)
  rw [hk] at HRR
  rw [hk]
  clear hk
  obtain ⟨P, hP⟩ : ∃ z, z = w.heap.size := ⟨_, rfl⟩
  obtain ⟨w1, hw1⟩ : ∃ z, z = w.alloc (.cells #[.int .i64 7, .int .i64 a.c, .int .u64 a.t, .string a.d, .int .i64 a.n, .int .i64 a.mk, .int .i64 a.mt, .int .u64 a.mh, .int .i64 a.pf, .int .u64 a.pq, .int .u64 a.pt, .string a.pd, .string a.mp, sv] 29) := ⟨_, rfl⟩
  have hb : w1.heap[P]? = some (.cells #[.int .i64 7, .int .i64 a.c, .int .u64 a.t, .string a.d, .int .i64 a.n, .int .i64 a.mk, .int .i64 a.mt, .int .u64 a.mh, .int .i64 a.pf, .int .u64 a.pq, .int .u64 a.pt, .string a.pd, .string a.mp, sv] 29 (0, 0)) := by
    rw [hw1, hP]; exact Kq.blk_new _ _ _ _
  have ba : Below w.heap.size w w1 := by rw [hw1]; exact Kq.below_alloc _ _
  have HWS : Hid (∀ wz, Below w1.heap.size w1 wz → WsAt wz sv a.ws) := Lib.hid (fun wz h => by
    have h2 := hws.keeps (S := fun _ => False) (Kq.Keeps.of_below ba (fun k h1 h2 => absurd h1 (Nat.not_le.2 h2))) (fun _ _ => id)
    exact h2.keeps (S := fun _ => False) (Kq.Keeps.of_below h (fun k h1 h2 => absurd h1 (Nat.not_le.2 h2))) (fun _ _ => id))
  have H1 := Lib.hid (And.intro ba (And.intro hb (Kq.blk_lt hb)))
  have HPW : Hid (w.heap.size ≤ P) := Lib.hid (by omega)
  have HWF := Lib.hid hwf
  have D0 : w1.cell? ⟨P, 0, none⟩ = some (.int .i64 7) := Kq.blk_cell hb 0
  rw [hw1, hP] at D0
  clear hws hwf ba hb
  go_enter Try.func9, Try.ntmps9
  go_wp2_with fail
  rw [← hw1, ← hP]
  clear hw1 hP D0
  refine (HRR.out w1 (HWS.out w1 (Below.refl _ _))).mono ?_
  rintro x w2 ⟨rfl, b2⟩
  have H2 := Lib.hid b2
  by_cases hq : a = (fmOf 7).keep a (zeroK 7)
  case neg =>
    have HQ := Lib.hid hq
    rw [decide_eq_false hq]
    clear hq b2
    go_wp2
    go_ret2
    exact ⟨H1.out.1.trans (H2.out.mono H1.out.1.size), fun _ => rfl, fun h => absurd h HQ.out, fun h => absurd h HQ.out⟩
  have HQ := Lib.hid hq
  rw [decide_eq_true hq]
  clear hq
  have hb := Kq.below_blk b2 H1.out.2.1 H1.out.2.2
  have d0 : w2.cell? ⟨P, 0, none⟩ = some (.int .i64 7) := Kq.blk_cell hb 0
  clear hb b2
  go_wp2_with fail
  clear d0
  have HNK : Hid (∀ wz, Calls Try.prog 24 #[.int .i64 7, .int .i64 1] wz fun x w' => x = .returned (.string (txt [7])) ∧ Below wz.heap.size wz w') := Lib.hid (fun wz => by
    have h := rf_num 7 1 (by decide) wz
    rw [be1_u64] at h
    exact h)
  refine (HNK.out w2).mono ?_
  rintro x w3 ⟨rfl, b3⟩
  have H3 := Lib.hid (H2.out.trans (b3.mono H2.out.size))
  clear b3 HNK H2 HRR
  have hb := Kq.below_blk H3.out H1.out.2.1 H1.out.2.2
  have d0 : w3.cell? ⟨P, 0, none⟩ = some (.int .i64 7) := Kq.blk_cell hb 0
  have d5 : w3.cell? ⟨P, 5, none⟩ = some (.int .i64 a.mk) := Kq.blk_cell hb 5
  have d6 : w3.cell? ⟨P, 6, none⟩ = some (.int .i64 a.mt) := Kq.blk_cell hb 6
  have d7 : w3.cell? ⟨P, 7, none⟩ = some (.int .u64 a.mh) := Kq.blk_cell hb 7
  have d8 : w3.cell? ⟨P, 8, none⟩ = some (.int .i64 a.pf) := Kq.blk_cell hb 8
  have d9 : w3.cell? ⟨P, 9, none⟩ = some (.int .u64 a.pq) := Kq.blk_cell hb 9
  have d10 : w3.cell? ⟨P, 10, none⟩ = some (.int .u64 a.pt) := Kq.blk_cell hb 10
  have d11 : w3.cell? ⟨P, 11, none⟩ = some (.string a.pd) := Kq.blk_cell hb 11
  have d12 : w3.cell? ⟨P, 12, none⟩ = some (.string a.mp) := Kq.blk_cell hb 12
  have hp0 : P < w3.heap.size := Kq.blk_lt hb
  have hp1 : ¬ P = w3.heap.size := by omega
  have hp2 : ¬ P = w3.heap.size + 1 := by omega
  clear hb
  go_wp2_with fail
  go_region
  all_goals
    first
    | (obtain ⟨w4, hw4⟩ : ∃ z, z = ((w3.alloc (.cells #[.int .i64 a.mk, .int .i64 a.mt, .int .u64 a.mh, .int .i64 a.pf, .int .u64 a.pq, .int .u64 a.pt, .string a.pd, .string a.mp] 26)).alloc (.cells #[.int .i64 a.pf, .int .u64 a.pq, .int .u64 a.pt, .string a.pd] 24)).drew := ⟨_, rfl⟩
       rw [← hw4]
       obtain ⟨N, hN⟩ : ∃ z, z = w3.heap.size + 1 := ⟨_, rfl⟩
       obtain ⟨M, hM⟩ : ∃ z, z = w3.heap.size := ⟨_, rfl⟩
       rw [← hN, ← hM]
       have H4 : Hid (Below w3.heap.size w3 w4 ∧ w4.heap[M]? = some (.cells #[.int .i64 a.mk, .int .i64 a.mt, .int .u64 a.mh, .int .i64 a.pf, .int .u64 a.pq, .int .u64 a.pt, .string a.pd, .string a.mp] 26 (0, 0)) ∧ w4.heap[N]? = some (.cells #[.int .i64 a.pf, .int .u64 a.pq, .int .u64 a.pt, .string a.pd] 24 (0, 0))) := Lib.hid (by
         rw [hw4, hM, hN]; exact two_drew _ _ _ _ _)
       clear hw4 hM hN)
    | (obtain ⟨w4, hw4⟩ : ∃ z, z = ((w3.alloc (.cells #[.int .i64 a.pf, .int .u64 a.pq, .int .u64 a.pt, .string a.pd] 24)).alloc (.cells #[.int .i64 a.mk, .int .i64 a.mt, .int .u64 a.mh, .int .i64 a.pf, .int .u64 a.pq, .int .u64 a.pt, .string a.pd, .string a.mp] 26)).drew := ⟨_, rfl⟩
       rw [← hw4]
       obtain ⟨M, hM⟩ : ∃ z, z = w3.heap.size + 1 := ⟨_, rfl⟩
       obtain ⟨N, hN⟩ : ∃ z, z = w3.heap.size := ⟨_, rfl⟩
       rw [← hM, ← hN]
       have H4 : Hid (Below w3.heap.size w3 w4 ∧ w4.heap[M]? = some (.cells #[.int .i64 a.mk, .int .i64 a.mt, .int .u64 a.mh, .int .i64 a.pf, .int .u64 a.pq, .int .u64 a.pt, .string a.pd, .string a.mp] 26 (0, 0)) ∧ w4.heap[N]? = some (.cells #[.int .i64 a.pf, .int .u64 a.pq, .int .u64 a.pt, .string a.pd] 24 (0, 0))) := Lib.hid (by
         rw [hw4, hM, hN]
         obtain ⟨x1, x2, x3⟩ := two_drew w3 #[.int .i64 a.pf, .int .u64 a.pq, .int .u64 a.pt, .string a.pd] #[.int .i64 a.mk, .int .i64 a.mt, .int .u64 a.mh, .int .i64 a.pf, .int .u64 a.pq, .int .u64 a.pt, .string a.pd, .string a.mp] 24 26
         exact ⟨x1, x3, x2⟩)
       clear hw4 hM hN)
    have H5 : Hid (Below w.heap.size w w4 ∧ Below w1.heap.size w1 w4) := Lib.hid ⟨H1.out.1.trans ((H3.out.trans (H4.out.1.mono H3.out.size)).mono H1.out.1.size), H3.out.trans (H4.out.1.mono H3.out.size)⟩
    have hb := Kq.below_blk H5.out.2 H1.out.2.1 H1.out.2.2
    clear d0 d5 d6 d7 d8 d9 d10 d11 d12 hp0 hp1 hp2
    have HP4 : Hid (P < w4.heap.size) := Lib.hid (Kq.blk_lt hb)
    have d0 : w4.cell? ⟨P, 0, none⟩ = some (.int .i64 7) := Kq.blk_cell hb 0
    have d4 : w4.cell? ⟨P, 4, none⟩ = some (.int .i64 a.n) := Kq.blk_cell hb 4
    clear hb
    obtain ⟨T, hT⟩ : ∃ z, z = txt (be (u64 a.n) 1) := ⟨_, rfl⟩
    obtain ⟨T0, hT0⟩ : ∃ z, z = txt [7] := ⟨_, rfl⟩
    have hz : T.size = 1 := by rw [hT, txt_size, be_len]
    have hz0 : T0.size = 1 := by rw [hT0, txt_size]; rfl
    have g1 : T0.size + T.size ≤ 9223372036854775807 := by omega
    have g2 : ¬ 9223372036854775807 < T0.size + T.size := by omega
    have HN : Hid (∀ wz, Calls Try.prog 24 #[.int .i64 a.n, .int .i64 1] wz fun x w' => x = .returned (.string T) ∧ Below wz.heap.size wz w') := Lib.hid (fun wz => by rw [hT]; exact rf_num a.n 1 (by decide) wz)
    have HA : Hid (0 ≤ a.n ∧ a.n ≤ 255 → T0 ++ T = txt ([7] ++ [a.n.toNat])) := Lib.hid (fun h => by
      rw [hT, hT0, be1_u64, txt_appS _ _ (fun x hx => by have := List.mem_singleton.1 hx; omega) (fun x hx => by have := List.mem_singleton.1 hx; omega), show (a.n % 256).toNat = a.n.toNat by omega])
    rw [← hT0]
    clear hT hT0 hz hz0
    go_wp2_with fail
    refine (rf_fits a.n w4).mono ?_
    rintro x w5 ⟨rfl, rfl⟩
    by_cases hf : 0 ≤ a.n ∧ a.n ≤ 255
    case' pos =>
      rw [decide_eq_true hf]
    case' neg =>
      rw [decide_eq_false hf]
    all_goals
      have HF := Lib.hid hf
      clear hf
      go_wp2_with fail
      refine (HN.out w4).mono ?_
      rintro x w6 ⟨rfl, b6⟩
      have H6 := Lib.hid (H5.out.1.trans (b6.mono H5.out.1.size))
      clear b6
      go_wp2
      go_ret2
      first
      | exact ⟨H6.out, fun h => absurd HQ.out h, fun _ h => absurd HF.out h, fun _ h => by rw [HA.out HF.out]; rfl⟩
      | exact ⟨H6.out, fun h => absurd HQ.out h, fun _ h => rfl, fun _ h => absurd h HF.out⟩
end Go.Proofs.Ytjilbcefikbihaa
