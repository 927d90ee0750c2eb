/- The document's Same of acts. Condition: at most 1000 writes. -/
import Derived.WalkSpells
import Derived.Outline
import Derived.Deep.QuietTactic
import Derived.BigQuiet
import Derived.Test.YtjilbcefikbihaaScSameQ
namespace Go.Proofs.Ytjilbcefikbihaa
open Go.RowKit
set_option linter.unusedVariables false
set_option maxRecDepth 100000 in
set_option maxHeartbeats 8000000 in
theorem rs_same (s1 s2 : Value) (a b : SaV) (w : World) (h1 : WsAt w s1 a.ws) (h2 : WsAt w s2 b.ws) (hl : a.ws.length ≤ 1000) (hm : b.ws.length ≤ 1000) :
    Calls Try.prog 39 #[.agg #[.int .i64 a.k, .int .i64 a.c, .int .u64 a.t, .string a.d, .int .i64 a.n, .int .i64 a.mk, .int .i64 a.mt, .int .u64 a.mh, .int .i64 a.pf, .int .u64 a.pq, .int .u64 a.pt, .string a.pd, .string a.mp, s1], .agg #[.int .i64 b.k, .int .i64 b.c, .int .u64 b.t, .string b.d, .int .i64 b.n, .int .i64 b.mk, .int .i64 b.mt, .int .u64 b.mh, .int .i64 b.pf, .int .u64 b.pq, .int .u64 b.pt, .string b.pd, .string b.mp, s2]] w fun x w' => x = .returned (.bool (decide (a = b))) ∧ Below w.heap.size w w' := by
  obtain ⟨r, hr⟩ : ∃ r, r = decide (a = b) := ⟨_, rfl⟩
  rw [← hr]
  have HR := Lib.hid hr
  obtain ⟨A1, cap1, rfl, hA⟩ := h1
  obtain ⟨A2, cap2, rfl, hB⟩ := h2
  obtain ⟨P, hP⟩ : ∃ z, z = w.heap.size := ⟨_, rfl⟩
  obtain ⟨Q, hQ⟩ : ∃ z, z = w.heap.size + 1 := ⟨_, rfl⟩
  obtain ⟨w1, hw1⟩ : ∃ z, z = (w.alloc (.cells #[.int .i64 a.k, .int .i64 a.c, .int .u64 a.t, .string a.d, .int .i64 a.n, .int .i64 a.mk, .int .i64 a.mt, .int .u64 a.mh, .int .i64 a.pf, .int .u64 a.pq, .int .u64 a.pt, .string a.pd, .string a.mp, .slice A1 a.ws.length cap1] 29)).alloc (.cells #[.int .i64 b.k, .int .i64 b.c, .int .u64 b.t, .string b.d, .int .i64 b.n, .int .i64 b.mk, .int .i64 b.mt, .int .u64 b.mh, .int .i64 b.pf, .int .u64 b.pq, .int .u64 b.pt, .string b.pd, .string b.mp, .slice A2 b.ws.length cap2] 29) := ⟨_, rfl⟩
  have H1 : Hid (w1.heap[P]? = some (.cells #[.int .i64 a.k, .int .i64 a.c, .int .u64 a.t, .string a.d, .int .i64 a.n, .int .i64 a.mk, .int .i64 a.mt, .int .u64 a.mh, .int .i64 a.pf, .int .u64 a.pq, .int .u64 a.pt, .string a.pd, .string a.mp, .slice A1 a.ws.length cap1] 29 (0, 0)) ∧ w1.heap[Q]? = some (.cells #[.int .i64 b.k, .int .i64 b.c, .int .u64 b.t, .string b.d, .int .i64 b.n, .int .i64 b.mk, .int .i64 b.mt, .int .u64 b.mh, .int .i64 b.pf, .int .u64 b.pq, .int .u64 b.pt, .string b.pd, .string b.mp, .slice A2 b.ws.length cap2] 29 (0, 0)) ∧ Below w.heap.size w w1) := Lib.hid (by
    have ba := Kq.below_alloc w (.cells #[.int .i64 a.k, .int .i64 a.c, .int .u64 a.t, .string a.d, .int .i64 a.n, .int .i64 a.mk, .int .i64 a.mt, .int .u64 a.mh, .int .i64 a.pf, .int .u64 a.pq, .int .u64 a.pt, .string a.pd, .string a.mp, .slice A1 a.ws.length cap1] 29)
    have bb := Kq.below_alloc (w.alloc (.cells #[.int .i64 a.k, .int .i64 a.c, .int .u64 a.t, .string a.d, .int .i64 a.n, .int .i64 a.mk, .int .i64 a.mt, .int .u64 a.mh, .int .i64 a.pf, .int .u64 a.pq, .int .u64 a.pt, .string a.pd, .string a.mp, .slice A1 a.ws.length cap1] 29)) (.cells #[.int .i64 b.k, .int .i64 b.c, .int .u64 b.t, .string b.d, .int .i64 b.n, .int .i64 b.mk, .int .i64 b.mt, .int .u64 b.mh, .int .i64 b.pf, .int .u64 b.pq, .int .u64 b.pt, .string b.pd, .string b.mp, .slice A2 b.ws.length cap2] 29)
    have hp := Kq.blk_new w #[.int .i64 a.k, .int .i64 a.c, .int .u64 a.t, .string a.d, .int .i64 a.n, .int .i64 a.mk, .int .i64 a.mt, .int .u64 a.mh, .int .i64 a.pf, .int .u64 a.pq, .int .u64 a.pt, .string a.pd, .string a.mp, .slice A1 a.ws.length cap1] 29 (0, 0)
    have hq := Kq.blk_new (w.alloc (.cells #[.int .i64 a.k, .int .i64 a.c, .int .u64 a.t, .string a.d, .int .i64 a.n, .int .i64 a.mk, .int .i64 a.mt, .int .u64 a.mh, .int .i64 a.pf, .int .u64 a.pq, .int .u64 a.pt, .string a.pd, .string a.mp, .slice A1 a.ws.length cap1] 29)) #[.int .i64 b.k, .int .i64 b.c, .int .u64 b.t, .string b.d, .int .i64 b.n, .int .i64 b.mk, .int .i64 b.mt, .int .u64 b.mh, .int .i64 b.pf, .int .u64 b.pq, .int .u64 b.pt, .string b.pd, .string b.mp, .slice A2 b.ws.length cap2] 29 (0, 0)
    have hp2 := Kq.below_blk bb hp (Kq.blk_lt hp)
    rw [World.size_alloc] at hq
    rw [← hw1] at hq hp2 bb
    exact ⟨by rw [hP]; exact hp2, by rw [hQ]; exact hq, ba.trans (bb.mono ba.size)⟩)
  have HH := Lib.hid (And.intro hA (And.intro hB (And.intro hl hm)))
  have HPQ : Hid (P = w.heap.size ∧ Q = w.heap.size + 1) := Lib.hid ⟨hP, hQ⟩
  clear hr hA hB hl hm
  have i13 : w1.cell? ⟨P, 13, none⟩ = some (.slice A1 a.ws.length cap1) := Kq.blk_cell H1.out.1 13
  have j13 : w1.cell? ⟨Q, 13, none⟩ = some (.slice A2 b.ws.length cap2) := Kq.blk_cell H1.out.2.1 13
  rw [hw1, hP] at i13
  rw [hw1, hQ] at j13
  by_cases hlen : a.ws.length = b.ws.length
  · have t0 : ((a.ws.length : Int) != (b.ws.length : Int)) = false := by simp [hlen]
    have t00 : (a.ws.length != b.ws.length) = false := by simp [hlen]
    have HL := Lib.hid hlen
    clear hlen
    go_enter Try.func39, Try.ntmps39
    go_wp2
    rw [← hw1]
    try rw [← hQ]
    try rw [← hP]
    have hQ2 : P + 1 = Q := by omega
    try rw [hQ2]
    clear t0 t00 i13 j13 hw1 hP hQ hQ2
    go_loopw [5] (fun u wr => ∃ j : Nat, j ≤ a.ws.length ∧ u = .int .i64 (j : Int) ∧ (∀ i (hi : i < a.ws.length) (hi2 : i < b.ws.length), i < j → a.ws[i] = b.ws[i]) ∧ Below w1.heap.size w1 wr) (fun u _ => a.ws.length - (intOf u).toNat)
    case atStart => exact ⟨0, Nat.zero_le _, rfl, fun i _ _ h => absurd h (Nat.not_lt_zero _), Below.refl _ _⟩
    case round =>
      obtain ⟨j, hj, rfl, hall, hb⟩ := hrel
      have hj6 : j ≤ 1000 := by have := HH.out.2.2.1; omega
      have x13 : wr.cell? ⟨P, 13, none⟩ = some (.slice A1 a.ws.length cap1) := (hb.cell (p := ⟨P, 13, none⟩) (Kq.blk_lt H1.out.1)).trans (Kq.blk_cell H1.out.1 13)
      have y13 : wr.cell? ⟨Q, 13, none⟩ = some (.slice A2 b.ws.length cap2) := (hb.cell (p := ⟨Q, 13, none⟩) (Kq.blk_lt H1.out.2.1)).trans (Kq.blk_cell H1.out.2.1 13)
      by_cases hlt : j < a.ws.length
      · have hlt2 : j < b.ws.length := by rw [← HL.out]; exact hlt
        obtain ⟨b1, o1, rfl, g1, c0, c1⟩ := HH.out.1 j hlt
        obtain ⟨b2, o2, rfl, g2, d0, d1⟩ := HH.out.2.1 j hlt2
        obtain ⟨x, hx⟩ : ∃ z, z = a.ws[j]'hlt := ⟨_, rfl⟩
        obtain ⟨y, hy⟩ : ∃ z, z = b.ws[j]'hlt2 := ⟨_, rfl⟩
        rw [← hx] at c0 c1
        rw [← hy] at d0 d1
        have HXY : Hid (∀ h1 : j < a.ws.length, ∀ h2 : j < b.ws.length, a.ws[j]'h1 = x ∧ b.ws[j]'h2 = y) := Lib.hid (fun _ _ => ⟨hx.symm, hy.symm⟩)
        clear hx hy
        obtain ⟨xb, xt⟩ := x
        obtain ⟨yb, yt⟩ := y
        simp only at c0 c1 d0 d1
        have hb0 : Below w.heap.size w wr := H1.out.2.2.trans (hb.mono H1.out.2.2.size)
        have e0 := (hb0.cell (p := ⟨b1, _, none⟩) g1).trans c0
        have e1 := (hb0.cell (p := ⟨b1, _, none⟩) g1).trans c1
        have e2 := (hb0.cell (p := ⟨b2, _, none⟩) g2).trans d0
        have e3 := (hb0.cell (p := ⟨b2, _, none⟩) g2).trans d1
        have HB := Lib.hid hb
        have HALL := Lib.hid hall
        have HLT := Lib.hid (And.intro hlt hlt2)
        have t1 : decide ((j : Int) < (a.ws.length : Int)) = true := decide_eq_true (by omega)
        have t2 : decide (j < a.ws.length) = true := decide_eq_true hlt
        have hi0 : (j : Int) < (a.ws.length : Int) := by omega
        have hi1 : (j : Int) < (b.ws.length : Int) := by omega
        clear c0 c1 d0 d1 g1 g2 hall hlt hlt2 hb hj hb0
        by_cases hq : xb = yb ∧ xt = yt
        · obtain ⟨rfl, rfl⟩ := hq
          go_wp2
          go_quiet (fail)
          go_wp2
          go_roundw
          case rel =>
            refine ⟨j + 1, HLT.out.1, by go_num, fun i hi hi2 hij => ?_, below_drewN HB.out _⟩
            rcases Nat.lt_or_ge i j with h' | h'
            · exact HALL.out i hi hi2 h'
            · obtain rfl : i = j := by omega
              rw [(HXY.out hi hi2).1, (HXY.out hi hi2).2]
          case measure => have := HLT.out.1; simp [intOf]; omega
        · have HN : Hid (r = false) := Lib.hid (by
            rw [HR.out]
            refine decide_eq_false (fun e => hq ?_)
            have h := HXY.out HLT.out.1 HLT.out.2
            subst e
            have := h.1.symm.trans h.2
            injection this with h1 h2
            exact ⟨h1, h2⟩)
          have HBB := Lib.hid (H1.out.2.2.trans (HB.out.mono H1.out.2.2.size))
          by_cases hbb : xb = yb
          · subst hbb
            have htt : xt ≠ yt := fun e => hq ⟨rfl, e⟩
            have hq2 : (xt == yt) = false := by simp [htt]
            clear htt; clear hq
            go_wp2
            go_quiet (fail)
            go_wp2
            go_ret
            exact ⟨by rw [HN.out]; rfl, below_drewN HBB.out _⟩
          · have hq2 : (xb == yb) = false := by simp [hbb]
            clear hbb; clear hq
            go_wp2
            go_quiet (fail)
            go_wp2
            go_ret
            exact ⟨by rw [HN.out]; rfl, below_drewN HBB.out _⟩
      · obtain rfl : j = a.ws.length := by omega
        have HE : Hid (a.ws = b.ws) := Lib.hid (List.ext_getElem HL.out (fun i hi hi2 => hall i hi hi2 hi))
        have HB := Lib.hid (H1.out.2.2.trans (hb.mono H1.out.2.2.size))
        have t1 : decide ((a.ws.length : Int) < (a.ws.length : Int)) = false := decide_eq_false (by omega)
        have t2 : decide (a.ws.length < a.ws.length) = false := decide_eq_false hlt
        have hpa := Kq.below_blk hb H1.out.1 (Kq.blk_lt H1.out.1)
        have hqa := Kq.below_blk hb H1.out.2.1 (Kq.blk_lt H1.out.2.1)
        have xa0 : wr.cell? ⟨P, 0, none⟩ = some (.int .i64 a.k) := Kq.blk_cell hpa 0
        have xb0 : wr.cell? ⟨Q, 0, none⟩ = some (.int .i64 b.k) := Kq.blk_cell hqa 0
        have xa1 : wr.cell? ⟨P, 1, none⟩ = some (.int .i64 a.c) := Kq.blk_cell hpa 1
        have xb1 : wr.cell? ⟨Q, 1, none⟩ = some (.int .i64 b.c) := Kq.blk_cell hqa 1
        have xa2 : wr.cell? ⟨P, 2, none⟩ = some (.int .u64 a.t) := Kq.blk_cell hpa 2
        have xb2 : wr.cell? ⟨Q, 2, none⟩ = some (.int .u64 b.t) := Kq.blk_cell hqa 2
        have xa3 : wr.cell? ⟨P, 3, none⟩ = some (.string a.d) := Kq.blk_cell hpa 3
        have xb3 : wr.cell? ⟨Q, 3, none⟩ = some (.string b.d) := Kq.blk_cell hqa 3
        have xa4 : wr.cell? ⟨P, 4, none⟩ = some (.int .i64 a.n) := Kq.blk_cell hpa 4
        have xb4 : wr.cell? ⟨Q, 4, none⟩ = some (.int .i64 b.n) := Kq.blk_cell hqa 4
        have xa5 : wr.cell? ⟨P, 5, none⟩ = some (.int .i64 a.mk) := Kq.blk_cell hpa 5
        have xb5 : wr.cell? ⟨Q, 5, none⟩ = some (.int .i64 b.mk) := Kq.blk_cell hqa 5
        have xa6 : wr.cell? ⟨P, 6, none⟩ = some (.int .i64 a.mt) := Kq.blk_cell hpa 6
        have xb6 : wr.cell? ⟨Q, 6, none⟩ = some (.int .i64 b.mt) := Kq.blk_cell hqa 6
        have xa7 : wr.cell? ⟨P, 7, none⟩ = some (.int .u64 a.mh) := Kq.blk_cell hpa 7
        have xb7 : wr.cell? ⟨Q, 7, none⟩ = some (.int .u64 b.mh) := Kq.blk_cell hqa 7
        have xa8 : wr.cell? ⟨P, 8, none⟩ = some (.int .i64 a.pf) := Kq.blk_cell hpa 8
        have xb8 : wr.cell? ⟨Q, 8, none⟩ = some (.int .i64 b.pf) := Kq.blk_cell hqa 8
        have xa9 : wr.cell? ⟨P, 9, none⟩ = some (.int .u64 a.pq) := Kq.blk_cell hpa 9
        have xb9 : wr.cell? ⟨Q, 9, none⟩ = some (.int .u64 b.pq) := Kq.blk_cell hqa 9
        have xa10 : wr.cell? ⟨P, 10, none⟩ = some (.int .u64 a.pt) := Kq.blk_cell hpa 10
        have xb10 : wr.cell? ⟨Q, 10, none⟩ = some (.int .u64 b.pt) := Kq.blk_cell hqa 10
        have xa11 : wr.cell? ⟨P, 11, none⟩ = some (.string a.pd) := Kq.blk_cell hpa 11
        have xb11 : wr.cell? ⟨Q, 11, none⟩ = some (.string b.pd) := Kq.blk_cell hqa 11
        have xa12 : wr.cell? ⟨P, 12, none⟩ = some (.string a.mp) := Kq.blk_cell hpa 12
        have xb12 : wr.cell? ⟨Q, 12, none⟩ = some (.string b.mp) := Kq.blk_cell hqa 12
        clear hpa hqa hall hlt hb hj
        by_cases e0 : a.k = b.k
        case neg =>
          have HF : Hid (r = false) := Lib.hid (by rw [HR.out]; exact decide_eq_false (fun h => e0 (by rw [h])))
          have q0 : (a.k == b.k) = false := by simp [e0]
          clear e0
          go_wp2
          go_ret
          exact ⟨by rw [HF.out]; rfl, HB.out⟩
        have HE0 := Lib.hid e0
        have q0 : (a.k == b.k) = true := by simp [e0]
        clear e0
        by_cases e1 : a.c = b.c
        case neg =>
          have HF : Hid (r = false) := Lib.hid (by rw [HR.out]; exact decide_eq_false (fun h => e1 (by rw [h])))
          have q1 : (a.c == b.c) = false := by simp [e1]
          clear e1
          go_wp2
          go_ret
          exact ⟨by rw [HF.out]; rfl, HB.out⟩
        have HE1 := Lib.hid e1
        have q1 : (a.c == b.c) = true := by simp [e1]
        clear e1
        by_cases e2 : a.t = b.t
        case neg =>
          have HF : Hid (r = false) := Lib.hid (by rw [HR.out]; exact decide_eq_false (fun h => e2 (by rw [h])))
          have q2 : (a.t == b.t) = false := by simp [e2]
          clear e2
          go_wp2
          go_ret
          exact ⟨by rw [HF.out]; rfl, HB.out⟩
        have HE2 := Lib.hid e2
        have q2 : (a.t == b.t) = true := by simp [e2]
        clear e2
        by_cases e3 : a.d = b.d
        case neg =>
          have HF : Hid (r = false) := Lib.hid (by rw [HR.out]; exact decide_eq_false (fun h => e3 (by rw [h])))
          have q3 : (a.d.toList == b.d.toList) = false := by rw [ba_beqS]; exact decide_eq_false e3
          clear e3
          go_wp2
          go_ret
          exact ⟨by rw [HF.out]; rfl, HB.out⟩
        have HE3 := Lib.hid e3
        have q3 : (a.d.toList == b.d.toList) = true := by rw [ba_beqS]; exact decide_eq_true e3
        clear e3
        by_cases e4 : a.n = b.n
        case neg =>
          have HF : Hid (r = false) := Lib.hid (by rw [HR.out]; exact decide_eq_false (fun h => e4 (by rw [h])))
          have q4 : (a.n == b.n) = false := by simp [e4]
          clear e4
          go_wp2
          go_ret
          exact ⟨by rw [HF.out]; rfl, HB.out⟩
        have HE4 := Lib.hid e4
        have q4 : (a.n == b.n) = true := by simp [e4]
        clear e4
        by_cases e5 : a.mk = b.mk
        case neg =>
          have HF : Hid (r = false) := Lib.hid (by rw [HR.out]; exact decide_eq_false (fun h => e5 (by rw [h])))
          have q5 : (a.mk == b.mk) = false := by simp [e5]
          clear e5
          go_wp2
          go_ret
          exact ⟨by rw [HF.out]; rfl, HB.out⟩
        have HE5 := Lib.hid e5
        have q5 : (a.mk == b.mk) = true := by simp [e5]
        clear e5
        by_cases e6 : a.mt = b.mt
        case neg =>
          have HF : Hid (r = false) := Lib.hid (by rw [HR.out]; exact decide_eq_false (fun h => e6 (by rw [h])))
          have q6 : (a.mt == b.mt) = false := by simp [e6]
          clear e6
          go_wp2
          go_ret
          exact ⟨by rw [HF.out]; rfl, HB.out⟩
        have HE6 := Lib.hid e6
        have q6 : (a.mt == b.mt) = true := by simp [e6]
        clear e6
        by_cases e7 : a.mh = b.mh
        case neg =>
          have HF : Hid (r = false) := Lib.hid (by rw [HR.out]; exact decide_eq_false (fun h => e7 (by rw [h])))
          have q7 : (a.mh == b.mh) = false := by simp [e7]
          clear e7
          go_wp2
          go_ret
          exact ⟨by rw [HF.out]; rfl, HB.out⟩
        have HE7 := Lib.hid e7
        have q7 : (a.mh == b.mh) = true := by simp [e7]
        clear e7
        by_cases e8 : a.pf = b.pf
        case neg =>
          have HF : Hid (r = false) := Lib.hid (by rw [HR.out]; exact decide_eq_false (fun h => e8 (by rw [h])))
          have q8 : (a.pf == b.pf) = false := by simp [e8]
          clear e8
          go_wp2
          go_ret
          exact ⟨by rw [HF.out]; rfl, HB.out⟩
        have HE8 := Lib.hid e8
        have q8 : (a.pf == b.pf) = true := by simp [e8]
        clear e8
        by_cases e9 : a.pq = b.pq
        case neg =>
          have HF : Hid (r = false) := Lib.hid (by rw [HR.out]; exact decide_eq_false (fun h => e9 (by rw [h])))
          have q9 : (a.pq == b.pq) = false := by simp [e9]
          clear e9
          go_wp2
          go_ret
          exact ⟨by rw [HF.out]; rfl, HB.out⟩
        have HE9 := Lib.hid e9
        have q9 : (a.pq == b.pq) = true := by simp [e9]
        clear e9
        by_cases e10 : a.pt = b.pt
        case neg =>
          have HF : Hid (r = false) := Lib.hid (by rw [HR.out]; exact decide_eq_false (fun h => e10 (by rw [h])))
          have q10 : (a.pt == b.pt) = false := by simp [e10]
          clear e10
          go_wp2
          go_ret
          exact ⟨by rw [HF.out]; rfl, HB.out⟩
        have HE10 := Lib.hid e10
        have q10 : (a.pt == b.pt) = true := by simp [e10]
        clear e10
        by_cases e11 : a.pd = b.pd
        case neg =>
          have HF : Hid (r = false) := Lib.hid (by rw [HR.out]; exact decide_eq_false (fun h => e11 (by rw [h])))
          have q11 : (a.pd.toList == b.pd.toList) = false := by rw [ba_beqS]; exact decide_eq_false e11
          clear e11
          go_wp2
          go_ret
          exact ⟨by rw [HF.out]; rfl, HB.out⟩
        have HE11 := Lib.hid e11
        have q11 : (a.pd.toList == b.pd.toList) = true := by rw [ba_beqS]; exact decide_eq_true e11
        clear e11
        by_cases e12 : a.mp = b.mp
        case neg =>
          have HF : Hid (r = false) := Lib.hid (by rw [HR.out]; exact decide_eq_false (fun h => e12 (by rw [h])))
          have q12 : (a.mp.toList == b.mp.toList) = false := by rw [ba_beqS]; exact decide_eq_false e12
          clear e12
          go_wp2
          go_ret
          exact ⟨by rw [HF.out]; rfl, HB.out⟩
        have HE12 := Lib.hid e12
        have q12 : (a.mp.toList == b.mp.toList) = true := by rw [ba_beqS]; exact decide_eq_true e12
        clear e12
        have HF : Hid (r = true) := Lib.hid (by
          rw [HR.out]
          exact decide_eq_true (sav_ext a b ⟨HE0.out, HE1.out, HE2.out, HE3.out, HE4.out, HE5.out, HE6.out, HE7.out, HE8.out, HE9.out, HE10.out, HE11.out, HE12.out, HE.out⟩))
        go_wp2
        go_ret
        exact ⟨by rw [HF.out]; rfl, HB.out⟩
  · have t0 : ((a.ws.length : Int) != (b.ws.length : Int)) = true := by simp; omega
    have t00 : (a.ws.length != b.ws.length) = true := by simp [hlen]
    have HN : Hid (r = false) := Lib.hid (by rw [HR.out]; exact decide_eq_false (fun e => hlen (by rw [e])))
    clear hlen
    go_enter Try.func39, Try.ntmps39
    go_wp2
    rw [← hw1]
    go_ret
    exact ⟨by rw [HN.out]; rfl, H1.out.2.2⟩
end Go.Proofs.Ytjilbcefikbihaa
