/- carrackref23's Put. Condition: numbers are numbers, texts not too long. -/
import Derived.WalkSpells
import Derived.Outline
import Derived.Deep.RegionHeld
import Derived.Deep.MidRow
import Derived.Test.YtjilbcefikbihaaHeldLastQ
import Derived.Test.YtjilbcefikbihaaScRrAQ
import Derived.Test.YtjilbcefikbihaaScRrBQ
import Derived.Test.YtjilbcefikbihaaScRrCQ
import Derived.Test.YtjilbcefikbihaaScRbQ
import Derived.Test.YtjilbcefikbihaaScRq0Q
namespace Go.Proofs.Ytjilbcefikbihaa
open Go.RowKit
set_option linter.unusedVariables false
set_option linter.unusedSimpArgs false
theorem encW_b256 (l : List (Bool × Int)) (h : okW l) : b256 (encW l) := by
  induction l with
  | nil => intro x hx; cases hx
  | cons y l ih =>
    have hy := h y List.mem_cons_self
    refine b256.app (b256.app (fun x hx => ?_) (hi2_lt _ (by omega))) (ih (fun z hz => h z (List.mem_cons_of_mem _ hz)))
    have := List.mem_singleton.1 hx
    split at this <;> omega
/-- how far the pairs have been written -/
structure Q8 (ws : List (Bool × Int)) (j : Nat) (S : ByteArray) (r : Bool) : Prop where
  le : j ≤ ws.length
  ok : r = true ↔ (ws.length ≤ 255 ∧ okW (ws.take j))
  tx : r = true → S = txt ([8] ++ ([ws.length] ++ encW (ws.take j)))
  sz : S.size ≤ 2 + 3 * j
theorem Q8.start (ws : List (Bool × Int)) : Q8 ws 0 (txt [8] ++ txt (be (u64 (ws.length : Int)) 1)) (decide (0 ≤ (ws.length : Int) ∧ (ws.length : Int) ≤ 255)) := by
  refine ⟨Nat.zero_le _, ?_, fun h => ?_, ?_⟩
  · rw [decide_eq_true_iff, List.take_zero]
    exact ⟨fun h => ⟨by omega, fun x hx => by cases hx⟩, fun h => ⟨by omega, by omega⟩⟩
  · have h2 := of_decide_eq_true h
    rw [be1_u64, txt_appS _ _ (fun x hx => by have := List.mem_singleton.1 hx; omega) (fun x hx => by have := List.mem_singleton.1 hx; omega), show ((ws.length : Int) % 256).toNat = ws.length by omega, List.take_zero]
    rfl
  · rw [ByteArray.size_append, txt_size, txt_size, be_len]
    exact Nat.le_refl 2
theorem Q8.step {ws : List (Bool × Int)} {j : Nat} {S : ByteArray} {r : Bool} (h : Q8 ws j S r) (hj : j < ws.length) {l : Bool} {t : Int} (hl : ws[j] = (l, t)) (B : ByteArray) (hB : B = txt [if l then 1 else 0]) :
    Q8 ws (j + 1) (S ++ B ++ txt (be (u64 t) 2)) (r && decide (0 ≤ t ∧ t ≤ 65535)) := by
  have ht : ws.take (j + 1) = ws.take j ++ [(l, t)] := by rw [← hl]; exact List.take_succ_eq_append_getElem hj
  refine ⟨hj, ?_, fun hh => ?_, ?_⟩
  · rw [Bool.and_eq_true, h.ok, decide_eq_true_iff, ht, okW_snoc, and_assoc]
  · rw [Bool.and_eq_true, decide_eq_true_iff] at hh
    obtain ⟨h1, h2⟩ := hh
    have hk := h.ok.1 h1
    have b0 : b256 ([8] ++ ([ws.length] ++ encW (ws.take j))) := b256.app (fun x hx => by have := List.mem_singleton.1 hx; omega) (b256.app (fun x hx => by have := List.mem_singleton.1 hx; omega) (encW_b256 _ hk.2))
    have b1 : b256 [if l then 1 else 0] := fun x hx => by have := List.mem_singleton.1 hx; split at this <;> omega
    have b2 : b256 (hi2 t.toNat) := hi2_lt _ (by omega)
    rw [h.tx h1, hB, u64_small t (by omega), be2 _ (by omega), txt_appS _ _ b0 b1, txt_appS _ _ (b0.app b1) b2, ht, encW_snoc]
    simp only [List.append_assoc]
  · rw [ByteArray.size_append, ByteArray.size_append, hB, txt_size, txt_size, be_len]
    have := h.sz
    show S.size + 1 + 2 ≤ _
    omega
set_option maxRecDepth 100000 in
set_option maxHeartbeats 4000000 in
theorem rq_8 (a : SaV) (sv : Value) (w : World) (hk : a.k = 8) (hws : WsAt w sv a.ws) (hwf : a.wf) :
    Calls Try.prog 9 #[.agg #[.int .i64 a.k, .int .i64 a.c, .int .u64 a.t, .string a.d, .int .i64 a.n, .int .i64 a.mk, .int .i64 a.mt, .int .u64 a.mh, .int .i64 a.pf, .int .u64 a.pq, .int .u64 a.pt, .string a.pd, .string a.mp, sv]] w fun x w' => Below w.heap.size w w' ∧
      (a ≠ (fmOf 8).keep a (zeroK 8) → x = .returned (.tuple #[.string ⟨#[]⟩, .int .i64 5])) ∧
      (a = (fmOf 8).keep a (zeroK 8) → ¬ (fmOf 8).ok a → x = .returned (.tuple #[.string ⟨#[]⟩, .int .i64 1])) ∧
      (a = (fmOf 8).keep a (zeroK 8) → (fmOf 8).ok a → x = .returned (.tuple #[.string (txt ([8] ++ (fmOf 8).enc a)), .int .i64 0])) := by
  have HRR := Lib.hid (fun (wz : World) (h : WsAt wz sv a.ws) => rr_8 a sv wz hk h)
  rw [hk] at HRR
  rw [hk]
  clear hk
  obtain ⟨P, hP⟩ : ∃ z, z = w.heap.size := ⟨_, rfl⟩
  obtain ⟨w1, hw1⟩ : ∃ z, z = w.alloc (.cells #[.int .i64 8, .int .i64 a.c, .int .u64 a.t, .string a.d, .int .i64 a.n, .int .i64 a.mk, .int .i64 a.mt, .int .u64 a.mh, .int .i64 a.pf, .int .u64 a.pq, .int .u64 a.pt, .string a.pd, .string a.mp, sv] 29) := ⟨_, rfl⟩
  have hb : w1.heap[P]? = some (.cells #[.int .i64 8, .int .i64 a.c, .int .u64 a.t, .string a.d, .int .i64 a.n, .int .i64 a.mk, .int .i64 a.mt, .int .u64 a.mh, .int .i64 a.pf, .int .u64 a.pq, .int .u64 a.pt, .string a.pd, .string a.mp, sv] 29 (0, 0)) := by
    rw [hw1, hP]; exact Kq.blk_new _ _ _ _
  have ba : Below w.heap.size w w1 := by rw [hw1]; exact Kq.below_alloc _ _
  have HWS : Hid (∀ wz, Below w1.heap.size w1 wz → WsAt wz sv a.ws) := Lib.hid (fun wz h => by
    have h2 := hws.keeps (S := fun _ => False) (Kq.Keeps.of_below ba (fun k h1 h2 => absurd h1 (Nat.not_le.2 h2))) (fun _ _ => id)
    exact h2.keeps (S := fun _ => False) (Kq.Keeps.of_below h (fun k h1 h2 => absurd h1 (Nat.not_le.2 h2))) (fun _ _ => id))
  have H1 := Lib.hid (And.intro ba (And.intro hb (Kq.blk_lt hb)))
  have HPW : Hid (w.heap.size ≤ P) := Lib.hid (by omega)
  have HWF := Lib.hid hwf
  have D0 : w1.cell? ⟨P, 0, none⟩ = some (.int .i64 8) := Kq.blk_cell hb 0
  rw [hw1, hP] at D0
  clear hws hwf ba hb
  go_enter Try.func9, Try.ntmps9
  go_wp2_with fail
  rw [← hw1, ← hP]
  clear hw1 hP D0
  refine (HRR.out w1 (HWS.out w1 (Below.refl _ _))).mono ?_
  rintro x w2 ⟨rfl, b2⟩
  have H2 := Lib.hid b2
  by_cases hq : a = (fmOf 8).keep a (zeroK 8)
  case neg =>
    have HQ := Lib.hid hq
    rw [decide_eq_false hq]
    clear hq b2
    go_wp2
    go_ret2
    exact ⟨H1.out.1.trans (H2.out.mono H1.out.1.size), fun _ => rfl, fun h => absurd h HQ.out, fun h => absurd h HQ.out⟩
  have HQ := Lib.hid hq
  rw [decide_eq_true hq]
  clear hq
  have hb := Kq.below_blk b2 H1.out.2.1 H1.out.2.2
  have d0 : w2.cell? ⟨P, 0, none⟩ = some (.int .i64 8) := Kq.blk_cell hb 0
  clear hb b2
  go_wp2_with fail
  clear d0
  have HNK : Hid (∀ wz, Calls Try.prog 24 #[.int .i64 8, .int .i64 1] wz fun x w' => x = .returned (.string (txt [8])) ∧ Below wz.heap.size wz w') := Lib.hid (fun wz => by
    have h := rf_num 8 1 (by decide) wz
    rw [be1_u64] at h
    exact h)
  refine (HNK.out w2).mono ?_
  rintro x w3 ⟨rfl, b3⟩
  have H3 := Lib.hid (H2.out.trans (b3.mono H2.out.size))
  clear b3 HNK H2 HRR
  have hb := Kq.below_blk H3.out H1.out.2.1 H1.out.2.2
  have d0 : w3.cell? ⟨P, 0, none⟩ = some (.int .i64 8) := Kq.blk_cell hb 0
  have d5 : w3.cell? ⟨P, 5, none⟩ = some (.int .i64 a.mk) := Kq.blk_cell hb 5
  have d6 : w3.cell? ⟨P, 6, none⟩ = some (.int .i64 a.mt) := Kq.blk_cell hb 6
  have d7 : w3.cell? ⟨P, 7, none⟩ = some (.int .u64 a.mh) := Kq.blk_cell hb 7
  have d8 : w3.cell? ⟨P, 8, none⟩ = some (.int .i64 a.pf) := Kq.blk_cell hb 8
  have d9 : w3.cell? ⟨P, 9, none⟩ = some (.int .u64 a.pq) := Kq.blk_cell hb 9
  have d10 : w3.cell? ⟨P, 10, none⟩ = some (.int .u64 a.pt) := Kq.blk_cell hb 10
  have d11 : w3.cell? ⟨P, 11, none⟩ = some (.string a.pd) := Kq.blk_cell hb 11
  have d12 : w3.cell? ⟨P, 12, none⟩ = some (.string a.mp) := Kq.blk_cell hb 12
  have hp0 : P < w3.heap.size := Kq.blk_lt hb
  have hp1 : ¬ P = w3.heap.size := by omega
  have hp2 : ¬ P = w3.heap.size + 1 := by omega
  clear hb
  go_wp2_with fail
  go_region
  all_goals
    first
    | (obtain ⟨w4, hw4⟩ : ∃ z, z = ((w3.alloc (.cells #[.int .i64 a.mk, .int .i64 a.mt, .int .u64 a.mh, .int .i64 a.pf, .int .u64 a.pq, .int .u64 a.pt, .string a.pd, .string a.mp] 26)).alloc (.cells #[.int .i64 a.pf, .int .u64 a.pq, .int .u64 a.pt, .string a.pd] 24)).drew := ⟨_, rfl⟩
       rw [← hw4]
       obtain ⟨N, hN⟩ : ∃ z, z = w3.heap.size + 1 := ⟨_, rfl⟩
       obtain ⟨M, hM⟩ : ∃ z, z = w3.heap.size := ⟨_, rfl⟩
       rw [← hN, ← hM]
       have H4 : Hid (Below w3.heap.size w3 w4 ∧ w4.heap[M]? = some (.cells #[.int .i64 a.mk, .int .i64 a.mt, .int .u64 a.mh, .int .i64 a.pf, .int .u64 a.pq, .int .u64 a.pt, .string a.pd, .string a.mp] 26 (0, 0)) ∧ w4.heap[N]? = some (.cells #[.int .i64 a.pf, .int .u64 a.pq, .int .u64 a.pt, .string a.pd] 24 (0, 0))) := Lib.hid (by
         rw [hw4, hM, hN]; exact two_drew _ _ _ _ _)
       clear hw4 hM hN)
    | (obtain ⟨w4, hw4⟩ : ∃ z, z = ((w3.alloc (.cells #[.int .i64 a.pf, .int .u64 a.pq, .int .u64 a.pt, .string a.pd] 24)).alloc (.cells #[.int .i64 a.mk, .int .i64 a.mt, .int .u64 a.mh, .int .i64 a.pf, .int .u64 a.pq, .int .u64 a.pt, .string a.pd, .string a.mp] 26)).drew := ⟨_, rfl⟩
       rw [← hw4]
       obtain ⟨M, hM⟩ : ∃ z, z = w3.heap.size + 1 := ⟨_, rfl⟩
       obtain ⟨N, hN⟩ : ∃ z, z = w3.heap.size := ⟨_, rfl⟩
       rw [← hM, ← hN]
       have H4 : Hid (Below w3.heap.size w3 w4 ∧ w4.heap[M]? = some (.cells #[.int .i64 a.mk, .int .i64 a.mt, .int .u64 a.mh, .int .i64 a.pf, .int .u64 a.pq, .int .u64 a.pt, .string a.pd, .string a.mp] 26 (0, 0)) ∧ w4.heap[N]? = some (.cells #[.int .i64 a.pf, .int .u64 a.pq, .int .u64 a.pt, .string a.pd] 24 (0, 0))) := Lib.hid (by
         rw [hw4, hM, hN]
         obtain ⟨x1, x2, x3⟩ := two_drew w3 #[.int .i64 a.pf, .int .u64 a.pq, .int .u64 a.pt, .string a.pd] #[.int .i64 a.mk, .int .i64 a.mt, .int .u64 a.mh, .int .i64 a.pf, .int .u64 a.pq, .int .u64 a.pt, .string a.pd, .string a.mp] 24 26
         exact ⟨x1, x3, x2⟩)
       clear hw4 hM hN)
    have H5 : Hid (Below w.heap.size w w4 ∧ Below w1.heap.size w1 w4) := Lib.hid ⟨H1.out.1.trans ((H3.out.trans (H4.out.1.mono H3.out.size)).mono H1.out.1.size), H3.out.trans (H4.out.1.mono H3.out.size)⟩
    have hb := Kq.below_blk H5.out.2 H1.out.2.1 H1.out.2.2
    clear d0 d5 d6 d7 d8 d9 d10 d11 d12 hp0 hp1 hp2
    have HP4 : Hid (P < w4.heap.size) := Lib.hid (Kq.blk_lt hb)
    have d0 : w4.cell? ⟨P, 0, none⟩ = some (.int .i64 8) := Kq.blk_cell hb 0
    clear hb
    obtain ⟨A1, cap1, hsv, _⟩ := HWS.out w4 H5.out.2
    have HWC : Hid (∀ wz, Below w1.heap.size w1 wz → ∀ j (h : j < a.ws.length), ∃ b o, A1 = some ⟨b, o, none⟩ ∧ b < wz.heap.size ∧ wz.cell? ⟨b, o + j * 2, none⟩ = some (.bool a.ws[j].1) ∧ wz.cell? ⟨b, o + j * 2 + 1, none⟩ = some (.int .i64 a.ws[j].2)) := Lib.hid (fun wz h => by
      obtain ⟨A, cap, h2, h3⟩ := HWS.out wz h
      rw [hsv] at h2
      injection h2 with e1 e2 e3
      rw [e1]
      exact h3)
    have hb := Kq.below_blk H5.out.2 H1.out.2.1 H1.out.2.2
    have d13 : w4.cell? ⟨P, 13, none⟩ = some sv := Kq.blk_cell hb 13
    rw [hsv] at d13
    have HD13 : Hid (∀ wz, Below w1.heap.size w1 wz → wz.cell? ⟨P, 13, none⟩ = some (.slice A1 a.ws.length cap1)) := Lib.hid (fun wz h => by
      have h2 := Kq.below_blk h H1.out.2.1 H1.out.2.2
      rw [← hsv]
      exact Kq.blk_cell h2 13)
    clear hb hsv
    have HL6 : Hid (a.ws.length ≤ 600) := Lib.hid HWF.out.ws
    obtain ⟨T, hT⟩ : ∃ z, z = txt (be (u64 (a.ws.length : Int)) 1) := ⟨_, rfl⟩
    obtain ⟨T0, hT0⟩ : ∃ z, z = txt [8] := ⟨_, rfl⟩
    obtain ⟨r0, hr0⟩ : ∃ z, z = decide (0 ≤ (a.ws.length : Int) ∧ (a.ws.length : Int) ≤ 255) := ⟨_, rfl⟩
    have hz : T.size = 1 := by rw [hT, txt_size, be_len]
    have hz0 : T0.size = 1 := by rw [hT0, txt_size]; rfl
    have g1 : T0.size + T.size ≤ 9223372036854775807 := by omega
    have g2 : ¬ 9223372036854775807 < T0.size + T.size := by omega
    have HN : Hid (∀ wz, Calls Try.prog 24 #[.int .i64 (a.ws.length : Int), .int .i64 1] wz fun x w' => x = .returned (.string T) ∧ Below wz.heap.size wz w') := Lib.hid (fun wz => by rw [hT]; exact rf_num _ 1 (by decide) wz)
    have HQ0 : Hid (Q8 a.ws 0 (T0 ++ T) r0) := Lib.hid (by rw [hT, hT0, hr0]; exact Q8.start _)
    rw [← hT0]
    clear hT hT0 hz hz0
    go_wp2_with fail
    refine (rf_fits (a.ws.length : Int) w4).mono ?_
    rintro x w5 ⟨rfl, rfl⟩
    rw [← hr0]
    clear hr0
    go_wp2_with fail
    refine (HN.out w4).mono ?_
    rintro x w6 ⟨rfl, b6⟩
    have H6 := Lib.hid (H5.out.2.trans (b6.mono H5.out.2.size))
    clear b6 d13 HN
    obtain ⟨S0, hS0⟩ : ∃ z, z = T0 ++ T := ⟨_, rfl⟩
    go_wp2
    rw [← hS0]
    rw [← hS0] at HQ0
    clear hS0 g1 g2 d0
    go_loopw [4, 5, 8, 9] (fun s o u x wr => ∃ (j : Nat) (S : ByteArray) (r : Bool), u = .int .i64 (j : Int) ∧ o = .bool r ∧ s = .string S ∧ Q8 a.ws j S r ∧ Below w1.heap.size w1 wr) (fun _ _ u _ _ => a.ws.length - (intOf u).toNat)
    case atStart => exact ⟨0, S0, r0, rfl, rfl, rfl, HQ0.out, H6.out⟩
    case round =>
      obtain ⟨j, S, r, rfl, rfl, rfl, hq8, hbel⟩ := hrel
      have hj6 : j ≤ 600 := by have := hq8.le; have := HL6.out; omega
      have d13 := HD13.out _ hbel
      have HB := Lib.hid hbel
      have H8 := Lib.hid hq8
      have hle := hq8.le
      have hsz := hq8.sz
      clear hq8
      by_cases hlt : j < a.ws.length
      · obtain ⟨b, o, rfl, hbl, c0, c1⟩ := HWC.out _ hbel j hlt
        obtain ⟨l, hl⟩ : ∃ z, z = (a.ws[j]'hlt).1 := ⟨_, rfl⟩
        obtain ⟨t, ht⟩ : ∃ z, z = (a.ws[j]'hlt).2 := ⟨_, rfl⟩
        rw [← hl] at c0
        rw [← ht] at c1
        have HLT := Lib.hid hlt
        have HE : Hid (a.ws[j]'HLT.out = (l, t)) := Lib.hid (by rw [hl, ht])
        have t1 : decide ((j : Int) < (a.ws.length : Int)) = true := decide_eq_true (by omega)
        have t2 : decide (j < a.ws.length) = true := decide_eq_true hlt
        have hi0 : (j : Int) < (a.ws.length : Int) := by omega
        obtain ⟨T2, hT2⟩ : ∃ z, z = txt (be (u64 t) 2) := ⟨_, rfl⟩
        have hz2 : T2.size = 2 := by rw [hT2, txt_size, be_len]
        have y1 : ¬ 9223372036854775807 < S.size + 1 := by omega
        have y2 : ¬ 9223372036854775807 < S.size + 1 + T2.size := by omega
        have z1 : S.size + 1 ≤ 9223372036854775807 := by omega
        have z2 : S.size + 1 + T2.size ≤ 9223372036854775807 := by omega
        have HNT : Hid (∀ wz, Calls Try.prog 24 #[.int .i64 t, .int .i64 2] wz fun x w' => x = .returned (.string T2) ∧ Below wz.heap.size wz w') := Lib.hid (fun wz => by rw [hT2]; exact rf_num t 2 (by decide) wz)
        have HJ : Hid (wrap64 ((j : Int) + 1) = ((j + 1 : Nat) : Int)) := Lib.hid (by rw [IntWalk.wrap64_in _ (by omega)]; omega)
        have HA : Hid (Below wr.heap.size wr (wr.alloc (.cells #[.bool l, .int .i64 t] 87))) := Lib.hid (Kq.below_alloc _ _)
        obtain ⟨B, hB⟩ : ∃ z : ByteArray, z = txt [if l then 1 else 0] := ⟨_, rfl⟩
        have HST : Hid (Q8 a.ws (j + 1) (S ++ B ++ T2) (r && decide (0 ≤ t ∧ t ≤ 65535))) := Lib.hid (by rw [hT2]; exact H8.out.step hlt HE.out B hB)
        clear hlt hl ht hbel hbl hle hz2 hT2 hsz hj6
        cases l
        case' false => obtain rfl : B = ⟨#[0]⟩ := hB.trans (by first | rfl | kernel_rfl)
        case' true => obtain rfl : B = ⟨#[1]⟩ := hB.trans (by first | rfl | kernel_rfl)
        all_goals
          clear hB
          cases r
          case' true =>
            go_wp2_with fail
            refine (rf_fits2 t _).mono ?_
            rintro x w7 ⟨rfl, rfl⟩
            obtain ⟨r2, hr2⟩ : ∃ z, z = decide (0 ≤ t ∧ t ≤ 65535) := ⟨_, rfl⟩
            rw [← hr2]
            have HR2 := Lib.hid hr2
            clear hr2
          all_goals
            go_wp2_with fail
            refine (HNT.out _).mono ?_
            rintro x w8 ⟨rfl, b8⟩
            have HB8 := Lib.hid (HB.out.trans ((HA.out.trans (b8.mono HA.out.size)).mono HB.out.size))
            clear b8
            go_wp2
            rw [HJ.out]
            go_roundw
            case rel =>
              first
              | exact ⟨j + 1, _, _, rfl, rfl, rfl, by rw [HR2.out]; exact HST.out, HB8.out⟩
              | exact ⟨j + 1, _, _, rfl, rfl, rfl, HST.out, HB8.out⟩
            case measure => have := HLT.out; simp [intOf]; omega
      · obtain rfl : j = a.ws.length := by omega
        have t1 : decide ((a.ws.length : Int) < (a.ws.length : Int)) = false := decide_eq_false (by omega)
        have t2 : decide (a.ws.length < a.ws.length) = false := decide_eq_false hlt
        clear hlt hbel hle hsz hj6
        cases r
        all_goals
          go_wp2
          go_ret2
          first
          | exact ⟨H1.out.1.trans (HB.out.mono H1.out.1.size), fun h => absurd HQ.out h, fun _ _ => rfl, fun _ h => by
              have h2 := H8.out.ok.2 ⟨h.1, by rw [List.take_length]; exact h.2⟩
              cases h2⟩
          | exact ⟨H1.out.1.trans (HB.out.mono H1.out.1.size), fun h => absurd HQ.out h, fun _ h => absurd (by have h2 := H8.out.ok.1 rfl; rw [List.take_length] at h2; exact h2) h, fun _ _ => by
              have h2 := H8.out.tx rfl
              rw [List.take_length] at h2
              rw [h2]; rfl⟩
end Go.Proofs.Ytjilbcefikbihaa
