/- Merged: ScEq, ScSame. slices.Equal of writes. Condition: lengths. Package script's same. Condition: at most 1000 writes. -/
import Derived.WalkSpells
import Derived.Outline
import Derived.Deep.QuietTactic
import Derived.BigQuiet
import Derived.Test.YtjilbcefikbihaaScAQ
namespace Go.Proofs.Ytjilbcefikbihaa
open Go.RowKit
set_option linter.unusedVariables false
def eqW (l m : List (Bool × Int)) : Bool := decide (l = m)
theorem eqW_len {l m : List (Bool × Int)} (h : l.length ≠ m.length) : eqW l m = false := decide_eq_false (fun e => h (by rw [e]))
set_option maxRecDepth 100000 in
set_option maxHeartbeats 2000000 in
theorem sc_equal (s1 s2 : Value) (l m : List (Bool × Int)) (w : World) (h1 : WsAt w s1 l) (h2 : WsAt w s2 m) (hl : l.length ≤ 1000) (hm : m.length ≤ 1000) :
    Calls Try.prog 51 #[s1, s2] w fun x w' => x = .returned (.bool (eqW l m)) ∧ Below w.heap.size w w' := by
  obtain ⟨A1, cap1, rfl, h1⟩ := h1
  obtain ⟨A2, cap2, rfl, h2⟩ := h2
  have HH := Lib.hid (And.intro h1 (And.intro h2 (And.intro hl hm)))
  clear h1 h2
  by_cases hlen : l.length = m.length
  · have t0 : ((l.length : Int) != (m.length : Int)) = false := by simp [hlen]
    have t00 : (l.length != m.length) = false := by simp [hlen]
    have HL := Lib.hid hlen
    clear hlen
    go_enter Try.func51, Try.ntmps51
    go_wp2
    go_loopw [13] (fun u wr => ∃ j : Nat, j ≤ l.length ∧ u = .int .i64 (j : Int) ∧ (∀ i (hi : i < l.length) (hi2 : i < m.length), i < j → l[i] = m[i]) ∧ Below w.heap.size w wr) (fun u _ => l.length - (intOf u).toNat)
    case atStart => exact ⟨0, Nat.zero_le _, rfl, fun i _ _ h => absurd h (Nat.not_lt_zero _), Below.refl _ _⟩
    case round =>
      obtain ⟨j, hj, rfl, hall, hb⟩ := hrel
      have hj6 : j ≤ 1000 := by omega
      by_cases hlt : j < l.length
      · have hlt2 : j < m.length := by rw [← HL.out]; exact hlt
        obtain ⟨b1, o1, rfl, g1, c0, c1⟩ := HH.out.1 j hlt
        obtain ⟨b2, o2, rfl, g2, d0, d1⟩ := HH.out.2.1 j hlt2
        obtain ⟨x, hx⟩ : ∃ z, z = l[j]'hlt := ⟨_, rfl⟩
        obtain ⟨y, hy⟩ : ∃ z, z = m[j]'hlt2 := ⟨_, rfl⟩
        rw [← hx] at c0 c1
        rw [← hy] at d0 d1
        have HXY : Hid (∀ h1 : j < l.length, ∀ h2 : j < m.length, l[j]'h1 = x ∧ m[j]'h2 = y) := Lib.hid (fun _ _ => ⟨hx.symm, hy.symm⟩)
        clear hx hy
        obtain ⟨xb, xt⟩ := x
        obtain ⟨yb, yt⟩ := y
        simp only at c0 c1 d0 d1
        have e0 := (hb.cell (p := ⟨b1, _, none⟩) g1).trans c0
        have e1 := (hb.cell (p := ⟨b1, _, none⟩) g1).trans c1
        have e2 := (hb.cell (p := ⟨b2, _, none⟩) g2).trans d0
        have e3 := (hb.cell (p := ⟨b2, _, none⟩) g2).trans d1
        have HB := Lib.hid hb
        have HALL := Lib.hid hall
        have HLT := Lib.hid (And.intro hlt hlt2)
        have t1 : decide ((j : Int) < (l.length : Int)) = true := decide_eq_true (by omega)
        have t2 : decide (j < l.length) = true := decide_eq_true hlt
        have hi0 : (j : Int) < (l.length : Int) := by omega
        have hi1 : (j : Int) < (m.length : Int) := by omega
        clear c0 c1 d0 d1 g1 g2 hall hlt hlt2 hb hj
        by_cases hq : xb = yb ∧ xt = yt
        · obtain ⟨rfl, rfl⟩ := hq
          go_wp2
          go_quiet (fail)
          go_wp2
          go_roundw
          case rel =>
            refine ⟨j + 1, HLT.out.1, by go_num, fun i hi hi2 hij => ?_, below_drewN HB.out _⟩
            rcases Nat.lt_or_ge i j with h' | h'
            · exact HALL.out i hi hi2 h'
            · obtain rfl : i = j := by omega
              rw [(HXY.out hi hi2).1, (HXY.out hi hi2).2]
          case measure => have := HLT.out.1; simp [intOf]; omega
        · have HN : Hid (eqW l m = false) := Lib.hid (decide_eq_false (fun e => hq (by
            have h := HXY.out HLT.out.1 HLT.out.2
            subst e
            have := h.1.symm.trans h.2
            injection this with h1 h2
            exact ⟨h1, h2⟩)))
          by_cases hbb : xb = yb
          · subst hbb
            have htt : xt ≠ yt := fun e => hq ⟨rfl, e⟩
            have hq2 : (xt == yt) = false := by simp [htt]
            clear htt; clear hq
            go_wp2
            go_quiet (fail)
            go_wp2
            go_ret
            exact ⟨by rw [HN.out]; rfl, below_drewN HB.out _⟩
          · have hq2 : (xb == yb) = false := by simp [hbb]
            clear hbb; clear hq
            go_wp2
            go_quiet (fail)
            go_wp2
            go_ret
            exact ⟨by rw [HN.out]; rfl, below_drewN HB.out _⟩
      · obtain rfl : j = l.length := by omega
        have HE : Hid (eqW l m = true) := Lib.hid (decide_eq_true (List.ext_getElem HL.out (fun i hi hi2 => hall i hi hi2 hi)))
        have HB := Lib.hid hb
        have t1 : decide ((l.length : Int) < (l.length : Int)) = false := decide_eq_false (by omega)
        have t2 : decide (l.length < l.length) = false := decide_eq_false hlt
        clear hall hlt hb hj
        go_wp2
        go_ret
        exact ⟨by rw [HE.out]; rfl, HB.out⟩
  · have t0 : ((l.length : Int) != (m.length : Int)) = true := by simp; omega
    have t00 : (l.length != m.length) = true := by simp [hlen]
    have HN := Lib.hid (eqW_len hlen)
    clear hlen
    go_enter Try.func51, Try.ntmps51
    go_wp2
    go_ret
    exact ⟨by rw [HN.out]; rfl, Below.refl _ _⟩
end Go.Proofs.Ytjilbcefikbihaa
namespace Go.Proofs.Ytjilbcefikbihaa
open Go.RowKit
set_option linter.unusedVariables false
instance : DecidableEq SaV := fun a b => by
  cases a; cases b
  simp only [SaV.make.injEq]
  exact inferInstance
theorem sav_ext (a b : SaV) (h : a.k = b.k ∧ a.c = b.c ∧ a.t = b.t ∧ a.d = b.d ∧ a.n = b.n ∧ a.mk = b.mk ∧ a.mt = b.mt ∧ a.mh = b.mh ∧ a.pf = b.pf ∧ a.pq = b.pq ∧ a.pt = b.pt ∧ a.pd = b.pd ∧ a.mp = b.mp ∧ a.ws = b.ws) : a = b := by
  cases a; cases b
  simp only at h
  obtain ⟨rfl, rfl, rfl, rfl, rfl, rfl, rfl, rfl, rfl, rfl, rfl, rfl, rfl, rfl⟩ := h
  rfl
theorem ba_beqS {s t : ByteArray} : (s.toList == t.toList) = decide (s = t) := by
  by_cases h : s = t
  · subst h; simp
  · rw [decide_eq_false h, beq_eq_false_iff_ne]
    intro e
    rw [ByteArray.toList_eq, ByteArray.toList_eq] at e
    exact h (ByteArray.ext (Array.toList_inj.1 e))
set_option maxRecDepth 100000 in
set_option maxHeartbeats 8000000 in
theorem sc_same (s1 s2 : Value) (a b : SaV) (w : World) (h1 : WsAt w s1 a.ws) (h2 : WsAt w s2 b.ws) (hl : a.ws.length ≤ 1000) (hm : b.ws.length ≤ 1000) :
    Calls Try.prog 20 #[.agg #[.int .i64 a.k, .int .i64 a.c, .int .u64 a.t, .string a.d, .int .i64 a.n, .int .i64 a.mk, .int .i64 a.mt, .int .u64 a.mh, .int .i64 a.pf, .int .u64 a.pq, .int .u64 a.pt, .string a.pd, .string a.mp, s1], .agg #[.int .i64 b.k, .int .i64 b.c, .int .u64 b.t, .string b.d, .int .i64 b.n, .int .i64 b.mk, .int .i64 b.mt, .int .u64 b.mh, .int .i64 b.pf, .int .u64 b.pq, .int .u64 b.pt, .string b.pd, .string b.mp, s2]] w fun x w' => x = .returned (.bool (decide (a = b))) ∧ Below w.heap.size w w' := by
  have HQ : Hid (∀ w', Below w.heap.size w w' → Calls Try.prog 51 #[s1, s2] w' fun x w'' => x = .returned (.bool (eqW a.ws b.ws)) ∧ Below w'.heap.size w' w'') := Lib.hid (fun w' hb => sc_equal s1 s2 a.ws b.ws w' (h1.keeps (S := fun _ => False) (Kq.Keeps.of_below hb (fun k h1 h2 => absurd h1 (Nat.not_le.2 h2))) (fun _ _ => id)) (h2.keeps (S := fun _ => False) (Kq.Keeps.of_below hb (fun k h1 h2 => absurd h1 (Nat.not_le.2 h2))) (fun _ _ => id)) hl hm)
  have HB : Hid (Below w.heap.size w ((w.alloc (.cells #[.int .i64 a.k, .int .i64 a.c, .int .u64 a.t, .string a.d, .int .i64 a.n, .int .i64 a.mk, .int .i64 a.mt, .int .u64 a.mh, .int .i64 a.pf, .int .u64 a.pq, .int .u64 a.pt, .string a.pd, .string a.mp, s1] 29)).alloc (.cells #[.int .i64 b.k, .int .i64 b.c, .int .u64 b.t, .string b.d, .int .i64 b.n, .int .i64 b.mk, .int .i64 b.mt, .int .u64 b.mh, .int .i64 b.pf, .int .u64 b.pq, .int .u64 b.pt, .string b.pd, .string b.mp, s2] 29))) := Lib.hid ((Kq.below_alloc _ _).trans ((Kq.below_alloc _ _).mono (by simp)))
  obtain ⟨r, hr⟩ : ∃ r, r = decide (a = b) := ⟨_, rfl⟩
  rw [← hr]
  have HR := Lib.hid hr
  obtain ⟨A1, cap1, rfl, -⟩ := h1
  obtain ⟨A2, cap2, rfl, -⟩ := h2
  clear hl hm hr
  by_cases e0 : a.k = b.k
  case neg =>
    have HF : Hid (r = false) := Lib.hid (by rw [HR.out]; exact decide_eq_false (fun h => e0 (by rw [h])))
    have q0 : (a.k == b.k) = false := by simp [e0]
    clear e0
    go_enter Try.func20, Try.ntmps20
    go_wp2
    go_ret
    exact ⟨by rw [HF.out]; rfl, HB.out⟩
  have HE0 := Lib.hid e0
  have q0 : (a.k == b.k) = true := by simp [e0]
  clear e0
  by_cases e1 : a.c = b.c
  case neg =>
    have HF : Hid (r = false) := Lib.hid (by rw [HR.out]; exact decide_eq_false (fun h => e1 (by rw [h])))
    have q1 : (a.c == b.c) = false := by simp [e1]
    clear e1
    go_enter Try.func20, Try.ntmps20
    go_wp2
    go_ret
    exact ⟨by rw [HF.out]; rfl, HB.out⟩
  have HE1 := Lib.hid e1
  have q1 : (a.c == b.c) = true := by simp [e1]
  clear e1
  by_cases e2 : a.t = b.t
  case neg =>
    have HF : Hid (r = false) := Lib.hid (by rw [HR.out]; exact decide_eq_false (fun h => e2 (by rw [h])))
    have q2 : (a.t == b.t) = false := by simp [e2]
    clear e2
    go_enter Try.func20, Try.ntmps20
    go_wp2
    go_ret
    exact ⟨by rw [HF.out]; rfl, HB.out⟩
  have HE2 := Lib.hid e2
  have q2 : (a.t == b.t) = true := by simp [e2]
  clear e2
  by_cases e3 : a.d = b.d
  case neg =>
    have HF : Hid (r = false) := Lib.hid (by rw [HR.out]; exact decide_eq_false (fun h => e3 (by rw [h])))
    have q3 : (a.d.toList == b.d.toList) = false := by rw [ba_beqS]; exact decide_eq_false e3
    clear e3
    go_enter Try.func20, Try.ntmps20
    go_wp2
    go_ret
    exact ⟨by rw [HF.out]; rfl, HB.out⟩
  have HE3 := Lib.hid e3
  have q3 : (a.d.toList == b.d.toList) = true := by rw [ba_beqS]; exact decide_eq_true e3
  clear e3
  by_cases e4 : a.n = b.n
  case neg =>
    have HF : Hid (r = false) := Lib.hid (by rw [HR.out]; exact decide_eq_false (fun h => e4 (by rw [h])))
    have q4 : (a.n == b.n) = false := by simp [e4]
    clear e4
    go_enter Try.func20, Try.ntmps20
    go_wp2
    go_ret
    exact ⟨by rw [HF.out]; rfl, HB.out⟩
  have HE4 := Lib.hid e4
  have q4 : (a.n == b.n) = true := by simp [e4]
  clear e4
  by_cases e5 : a.mk = b.mk
  case neg =>
    have HF : Hid (r = false) := Lib.hid (by rw [HR.out]; exact decide_eq_false (fun h => e5 (by rw [h])))
    have q5 : (a.mk == b.mk) = false := by simp [e5]
    clear e5
    go_enter Try.func20, Try.ntmps20
    go_wp2
    go_ret
    exact ⟨by rw [HF.out]; rfl, HB.out⟩
  have HE5 := Lib.hid e5
  have q5 : (a.mk == b.mk) = true := by simp [e5]
  clear e5
  by_cases e6 : a.mt = b.mt
  case neg =>
    have HF : Hid (r = false) := Lib.hid (by rw [HR.out]; exact decide_eq_false (fun h => e6 (by rw [h])))
    have q6 : (a.mt == b.mt) = false := by simp [e6]
    clear e6
    go_enter Try.func20, Try.ntmps20
    go_wp2
    go_ret
    exact ⟨by rw [HF.out]; rfl, HB.out⟩
  have HE6 := Lib.hid e6
  have q6 : (a.mt == b.mt) = true := by simp [e6]
  clear e6
  by_cases e7 : a.mh = b.mh
  case neg =>
    have HF : Hid (r = false) := Lib.hid (by rw [HR.out]; exact decide_eq_false (fun h => e7 (by rw [h])))
    have q7 : (a.mh == b.mh) = false := by simp [e7]
    clear e7
    go_enter Try.func20, Try.ntmps20
    go_wp2
    go_ret
    exact ⟨by rw [HF.out]; rfl, HB.out⟩
  have HE7 := Lib.hid e7
  have q7 : (a.mh == b.mh) = true := by simp [e7]
  clear e7
  by_cases e8 : a.pf = b.pf
  case neg =>
    have HF : Hid (r = false) := Lib.hid (by rw [HR.out]; exact decide_eq_false (fun h => e8 (by rw [h])))
    have q8 : (a.pf == b.pf) = false := by simp [e8]
    clear e8
    go_enter Try.func20, Try.ntmps20
    go_wp2
    go_ret
    exact ⟨by rw [HF.out]; rfl, HB.out⟩
  have HE8 := Lib.hid e8
  have q8 : (a.pf == b.pf) = true := by simp [e8]
  clear e8
  by_cases e9 : a.pq = b.pq
  case neg =>
    have HF : Hid (r = false) := Lib.hid (by rw [HR.out]; exact decide_eq_false (fun h => e9 (by rw [h])))
    have q9 : (a.pq == b.pq) = false := by simp [e9]
    clear e9
    go_enter Try.func20, Try.ntmps20
    go_wp2
    go_ret
    exact ⟨by rw [HF.out]; rfl, HB.out⟩
  have HE9 := Lib.hid e9
  have q9 : (a.pq == b.pq) = true := by simp [e9]
  clear e9
  by_cases e10 : a.pt = b.pt
  case neg =>
    have HF : Hid (r = false) := Lib.hid (by rw [HR.out]; exact decide_eq_false (fun h => e10 (by rw [h])))
    have q10 : (a.pt == b.pt) = false := by simp [e10]
    clear e10
    go_enter Try.func20, Try.ntmps20
    go_wp2
    go_ret
    exact ⟨by rw [HF.out]; rfl, HB.out⟩
  have HE10 := Lib.hid e10
  have q10 : (a.pt == b.pt) = true := by simp [e10]
  clear e10
  by_cases e11 : a.pd = b.pd
  case neg =>
    have HF : Hid (r = false) := Lib.hid (by rw [HR.out]; exact decide_eq_false (fun h => e11 (by rw [h])))
    have q11 : (a.pd.toList == b.pd.toList) = false := by rw [ba_beqS]; exact decide_eq_false e11
    clear e11
    go_enter Try.func20, Try.ntmps20
    go_wp2
    go_ret
    exact ⟨by rw [HF.out]; rfl, HB.out⟩
  have HE11 := Lib.hid e11
  have q11 : (a.pd.toList == b.pd.toList) = true := by rw [ba_beqS]; exact decide_eq_true e11
  clear e11
  by_cases e12 : a.mp = b.mp
  case neg =>
    have HF : Hid (r = false) := Lib.hid (by rw [HR.out]; exact decide_eq_false (fun h => e12 (by rw [h])))
    have q12 : (a.mp.toList == b.mp.toList) = false := by rw [ba_beqS]; exact decide_eq_false e12
    clear e12
    go_enter Try.func20, Try.ntmps20
    go_wp2
    go_ret
    exact ⟨by rw [HF.out]; rfl, HB.out⟩
  have HE12 := Lib.hid e12
  have q12 : (a.mp.toList == b.mp.toList) = true := by rw [ba_beqS]; exact decide_eq_true e12
  clear e12
  have HF : Hid (r = eqW a.ws b.ws) := Lib.hid (by
    rw [HR.out]
    by_cases h : a.ws = b.ws
    · have h2 : a = b := sav_ext a b ⟨HE0.out, HE1.out, HE2.out, HE3.out, HE4.out, HE5.out, HE6.out, HE7.out, HE8.out, HE9.out, HE10.out, HE11.out, HE12.out, h⟩
      rw [decide_eq_true h2]
      exact (decide_eq_true h).symm
    · rw [decide_eq_false (fun h2 => h (by rw [h2]))]
      exact (decide_eq_false h).symm)
  go_enter Try.func20, Try.ntmps20
  go_wp2_with fail
  refine (HQ.out _ HB.out).mono ?_
  rintro x w2 ⟨rfl, b2⟩
  have H2 := Lib.hid (HB.out.trans (b2.mono HB.out.size))
  clear b2
  generalize eqW a.ws b.ws = y at *
  go_wp2
  go_ret
  exact ⟨by rw [HF.out]; rfl, H2.out⟩
end Go.Proofs.Ytjilbcefikbihaa
