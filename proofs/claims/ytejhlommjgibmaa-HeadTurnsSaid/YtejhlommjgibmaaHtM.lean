/- Plain mathematics of heads in turn. No condition but sizes. -/
import Derived.Test.YtejhlommjgibmaaHdAwake
namespace Go.Proofs.Ytejhlommjgibmaa.headTurns
open Go.RowKit
set_option linter.unusedVariables false
def Sx (a g k : Nat) : ByteArray := hdPut a (g + k) (k % 2)
def wasT (a g k : Nat) : ByteArray := if 2 ≤ k then Sx a g (k - 2) else ⟨#[]⟩
def prvT (a g k : Nat) : ByteArray := if 1 ≤ k then Sx a g (k - 1) else ⟨#[]⟩
theorem was_succ (a g k : Nat) : wasT a g (k + 1) = prvT a g k := by
  unfold wasT prvT
  by_cases h : 1 ≤ k
  · rw [if_pos (by omega), if_pos h]; rfl
  · rw [if_neg (by omega), if_neg h]
theorem prv_succ (a g k : Nat) : prvT a g (k + 1) = Sx a g k := by
  unfold prvT; rw [if_pos (by omega)]; rfl
theorem was_zero (a g : Nat) : wasT a g 0 = ⟨#[]⟩ := rfl
theorem prv_zero (a g : Nat) : prvT a g 0 = ⟨#[]⟩ := rfl
structure Dom (a g k : Nat) : Prop where
  a0 : 64 ≤ a
  a1 : a ≤ 512
  g0 : 0 < g
  g1 : g ≤ 1152921504606846976
  k1 : k ≤ 20
theorem Dom.lt {a g k : Nat} (h : Dom a g k) (i : Nat) (hi : i ≤ k + 1) : g + i < M64 := by have := h.g1; have := h.k1; unfold M64; omega
theorem Dom.ok {a g k : Nat} (h : Dom a g k) (i : Nat) : HdOk a (g + i) ((i % 2 : Nat) : Int) := ⟨by have := h.a0; omega, by have := h.a1; omega, by have := h.g0; omega, by omega, by omega⟩
theorem Dom.good {a g k : Nat} (h : Dom a g k) (i : Nat) (hi : i ≤ k) : hdGoodB a (Sx a g i) = true ∧ gOf (Sx a g i) = g + i ∧ sOf (Sx a g i) = i % 2 ∧ (Sx a g i).size = a :=
  ⟨good_put a (g + i) (i % 2) (h.ok i) (h.lt i (by omega)), gOf_put a (g + i) (i % 2) (h.lt i (by omega)) (by omega), sOf_put a (g + i) (i % 2) (by omega), hdPut_size a (g + i) (i % 2) (by have := h.a0; omega)⟩
theorem empty_bad (a : Nat) (ha : 64 ≤ a) : hdGoodB a ⟨#[]⟩ = false := by
  rw [Bool.eq_false_iff]; intro h
  have := (good_of h).hs
  have e : (⟨#[]⟩ : ByteArray).size = 0 := rfl
  omega
theorem nw_one (a : Nat) (s t : ByteArray) : nw a [s, t] 1 = nwStep a (0, 0, -1) s 0 := by
  rw [show (1 : Nat) = 0 + 1 from rfl, nw_succ a [s, t] 0 (by simp)]; rfl
theorem nw_two' (a : Nat) (s t : ByteArray) : nw a [s, t] 2 = nwStep a (nwStep a (0, 0, -1) s 0) t 1 := by
  rw [show (2 : Nat) = 1 + 1 from rfl, nw_succ a [s, t] 1 (by simp), nw_one]; rfl
theorem step_good0 (a : Nat) (s : ByteArray) (h : hdGoodB a s = true) : nwStep a (0, 0, -1) s 0 = (gOf s, sOf s, 0) := by
  rw [nwStep, if_pos ⟨h, Or.inl (by decide)⟩]; rfl
theorem step_bad (a : Nat) (st : Nat × Nat × Int) (s : ByteArray) (i : Nat) (h : hdGoodB a s = false) : nwStep a st s i = st := by
  rw [nwStep, if_neg (fun x => by rw [h] at x; cases x.1)]
theorem step_up (a G q : Nat) (at_ : Int) (s : ByteArray) (i : Nat) (h : hdGoodB a s = true) (hl : G < gOf s) : nwStep a (G, q, at_) s i = (gOf s, sOf s, (i : Int)) := by
  rw [nwStep, if_pos ⟨h, Or.inr hl⟩]
theorem step_stay (a G q : Nat) (at_ : Int) (s : ByteArray) (i : Nat) (h0 : 0 ≤ at_) (hl : ¬ G < gOf s) : nwStep a (G, q, at_) s i = (G, q, at_) := by
  rw [nwStep, if_neg (fun x => x.2.elim (fun y => by simp only at y; omega) hl)]
/-- first the later one, then the earlier one, or nothing -/
theorem newest0 {a g k : Nat} (h : Dom a g k) : nw a [Sx a g k, prvT a g k] 2 = (g + k, k % 2, 0) := by
  obtain ⟨q1, q2, q3, _⟩ := h.good k (Nat.le_refl _)
  rw [nw_two', step_good0 a _ q1, q2, q3]
  by_cases hk : 1 ≤ k
  · obtain ⟨r1, r2, r3, _⟩ := h.good (k - 1) (by omega)
    rw [prvT, if_pos hk, step_stay a _ _ _ _ _ (by decide) (by rw [r2]; omega)]
  · rw [prvT, if_neg hk, step_bad a _ _ _ (empty_bad a h.a0)]
theorem newest1 {a g k : Nat} (h : Dom a g k) (hk : 1 ≤ k) : nw a [prvT a g k, Sx a g k] 2 = (g + k, k % 2, 1) := by
  obtain ⟨q1, q2, q3, _⟩ := h.good k (Nat.le_refl _)
  obtain ⟨r1, r2, r3, _⟩ := h.good (k - 1) (by omega)
  rw [prvT, if_pos hk, nw_two', step_good0 a _ r1, step_up a _ _ _ _ _ q1 (by rw [q2, r2]; omega), q2, q3]; rfl
/-- what is told where one sector is torn -/
structure Torn (a g k : Nat) (b : ByteArray) (q : Nat × Nat × Int) : Prop where
  no : hdGoodB a b = false → q.1 = g + k - 1
  same : b = Sx a g k → q.1 = g + k
  old : b = wasT a g k → q.1 = g + k - 1
theorem torn0 {a g k : Nat} (h : Dom a g k) (hk : 2 ≤ k) (b : ByteArray) : Torn a g k b (nw a [b, prvT a g k] 2) := by
  obtain ⟨q1, q2, q3, _⟩ := h.good k (Nat.le_refl _)
  obtain ⟨r1, r2, r3, _⟩ := h.good (k - 1) (by omega)
  obtain ⟨s1, s2, s3, _⟩ := h.good (k - 2) (by omega)
  have hg := h.g0
  refine ⟨fun hb => ?_, fun e => ?_, fun e => ?_⟩
  · rw [prvT, if_pos (by omega), nw_two', step_bad a _ _ _ hb, nwStep, if_pos ⟨r1, Or.inl (by decide)⟩, r2]; omega
  · rw [e, newest0 h]
  · rw [e, wasT, if_pos hk, prvT, if_pos (by omega), nw_two', step_good0 a _ s1, step_up a _ _ _ _ _ r1 (by rw [r2, s2]; omega), r2]; omega
theorem torn1 {a g k : Nat} (h : Dom a g k) (hk : 2 ≤ k) (b : ByteArray) : Torn a g k b (nw a [prvT a g k, b] 2) := by
  obtain ⟨q1, q2, q3, _⟩ := h.good k (Nat.le_refl _)
  obtain ⟨r1, r2, r3, _⟩ := h.good (k - 1) (by omega)
  obtain ⟨s1, s2, s3, _⟩ := h.good (k - 2) (by omega)
  have hg := h.g0
  refine ⟨fun hb => ?_, fun e => ?_, fun e => ?_⟩
  · rw [prvT, if_pos (by omega), nw_two', step_good0 a _ r1, step_bad a _ _ _ hb, r2]; omega
  · rw [e, newest1 h (by omega)]
  · rw [e, wasT, if_pos hk, prvT, if_pos (by omega), nw_two', step_good0 a _ r1, step_stay a _ _ _ _ _ (by decide) (by rw [r2, s2]; omega), r2]; omega
/-- the head, and both sectors, in memory -/
structure TS (W w : World) (HB TB : Nat) (gk p : Int) (s0 s1 : ByteArray) : Prop where
  h : w.heap[HB]? = some (.cells #[.int .u64 gk, .int .i64 p] 29 (0, 0))
  t : w.heap[TB]? = some (.cells #[.string s0, .string s1] 47 (0, 0))
  ne : HB ≠ TB
  hh : W.heap.size ≤ HB
  ht : W.heap.size ≤ TB
  bel : Below W.heap.size W w
theorem TS.below {W w w' : World} {HB TB : Nat} {gk p : Int} {s0 s1 : ByteArray} (h : TS W w HB TB gk p s0 s1) (hb : Below w.heap.size w w') : TS W w' HB TB gk p s0 s1 :=
  ⟨Kq.below_blk hb h.h (Kq.blk_lt h.h), Kq.below_blk hb h.t (Kq.blk_lt h.t), h.ne, h.hh, h.ht, h.bel.trans (hb.mono h.bel.size)⟩
theorem TS.set0 {W w : World} {HB TB : Nat} {gk p : Int} {s0 s1 : ByteArray} (h : TS W w HB TB gk p s0 s1) (s : ByteArray) : TS W (w.setCell ⟨TB, 0, none⟩ (.string s)) HB TB gk p s s1 :=
  ⟨(Kq.Keeps.setCell (S := (· = TB)) w ⟨TB, 0, none⟩ _ rfl).blk h.h h.ne, Kq.blk_set h.t 0 _, h.ne, h.hh, h.ht, h.bel.setCell h.ht _⟩
theorem TS.set1 {W w : World} {HB TB : Nat} {gk p : Int} {s0 s1 : ByteArray} (h : TS W w HB TB gk p s0 s1) (s : ByteArray) : TS W (w.setCell ⟨TB, 1, none⟩ (.string s)) HB TB gk p s0 s :=
  ⟨(Kq.Keeps.setCell (S := (· = TB)) w ⟨TB, 1, none⟩ _ rfl).blk h.h h.ne, Kq.blk_set h.t 1 _, h.ne, h.hh, h.ht, h.bel.setCell h.ht _⟩
theorem TS.fill {W w : World} {HB TB : Nat} {gk p : Int} {s0 s1 : ByteArray} (h : TS W w HB TB gk p s0 s1) (gk' p' : Int) : TS W (fill2 w HB gk' p') HB TB gk' p' s0 s1 :=
  ⟨fill2_blk h.h gk' p', (fill2_keeps w HB gk' p').blk h.t (Ne.symm h.ne), h.ne, h.hh, h.ht, h.bel.trans ((fill2_keeps w HB gk' p').below h.bel.size (fun k _ e => by subst e; exact h.hh))⟩
theorem below_drewN {B : Nat} {a w : World} (h : Below B a w) (n : Nat) : Below B a (w.drewN n) := ⟨h.os, h.tape, h.output, h.size, h.block⟩
theorem size_set (w : World) (p : Addr) (v : Value) : (w.setCell p v).heap.size = w.heap.size := by simp [World.setCell]
end Go.Proofs.Ytejhlommjgibmaa.headTurns
