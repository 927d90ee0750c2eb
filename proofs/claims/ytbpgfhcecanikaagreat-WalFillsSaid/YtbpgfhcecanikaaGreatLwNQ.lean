/- Merged: LwH, LwN. Contract of the law's pair.do, whatever the act. Condition: sizes. Contracts of the law's made, of pair.do. Condition: sizes. -/
import Derived.WalkSpells
import Derived.Outline
import Derived.Deep.QuietTactic
import Derived.Deep.RegionHeld
import Derived.Test.YtbpgfhcecanikaaGreatLwGQ
import Derived.Test.YtbpgfhcecanikaaGreatDkInvQ
import Derived.Test.YtbpgfhcecanikaaGreatRfNewQ
namespace Go.Proofs.YtbpgfhcecanikaaGreat
open Go.RowKit
set_option linter.unusedVariables false
theorem OneAt.keepsO {P : Nat → Prop} {w w' : World} {A : Option Addr} {l : List Value} (h : OneAt w A l) (hk : Kq.Keeps P w w') (hP : ∀ g o, 0 < l.length → A = some ⟨g, o, none⟩ → ¬ P g) : OneAt w' A l := fun j hj => by
  obtain ⟨g, o, e, h1, h2⟩ := h j hj
  exact ⟨g, o, e, Nat.lt_of_lt_of_le h1 hk.size, (World.cell?_of_block (hk.block g h1 (hP g o (by omega) e))).trans h2⟩
theorem OneAt.belowO {W w : World} {A : Option Addr} {l : List Value} (h : OneAt W A l) (hb : Below W.heap.size W w) : OneAt w A l := h.below hb
def PCells (w : World) (A : PairA) (k : Nat) (p : Nat) : Prop := w.cell? ⟨A.P, k, none⟩ = some (.pointer (some ⟨p, 0, none⟩))
set_option maxRecDepth 100000 in
set_option maxHeartbeats 2000000 in
theorem pr_do_off {W w : World} {A : PairA} {a b N : Nat} {bufD bufR : Value} {ws : List (Int × ByteArray)} {ar : Nat} {st : List Nat} {rs : Value} {e : Int} {LA : Option Addr} {rl : List ByteArray} (h : PrS W w A a b N bufD ws ar st none bufR ws ar st none (pcells A (.pointer none) e rs (.pointer none)) LA rl) (c : ActW) (hk : c.kind = 0 ∨ c.kind = 1) :
    Calls Tryz.prog 10 #[.pointer (some ⟨A.P, 0, none⟩), c.val] w fun x w' => x = .returned (.bool true) ∧ Below w.heap.size w w' := by
  obtain ⟨kind, n, s, la, lcap, l, ta, tcap, t⟩ := c
  simp only at hk ⊢
  have p1 := h.c1
  have hPl : A.P < w.heap.size := Kq.blk_lt h.p
  have hPn : A.P ≠ w.heap.size := by omega
  have HB := Lib.hid (Kq.below_alloc w (.cells #[.int .i64 kind, .int .i64 n, .string s, .slice la l.length lcap, .slice ta t.length tcap] 31))
  clear h
  unfold ActW.val
  simp only
  rcases hk with rfl | rfl
  · go_enter Tryz.func10, Tryz.ntmps10
    go_wp2
    go_ret
    exact ⟨rfl, HB.out⟩
  · go_enter Tryz.func10, Tryz.ntmps10
    go_wp2
    go_ret
    exact ⟨rfl, HB.out⟩
set_option maxRecDepth 100000 in
set_option maxHeartbeats 2000000 in
theorem pr_do_open {W w : World} {A : PairA} {a b N kb : Nat} {bufD bufR : Value} {ws : List (Int × ByteArray)} {ar : Nat} {st : List Nat} {vl vq : Option (Nat × WalV)} {pw rs pv : Value} {e : Int} {LA : Option Addr} {rl : List ByteArray} (h : PrS W w A a b N bufD ws ar st vl bufR ws ar st vq (pcells A pw e rs pv) LA rl) (ho : StOk a b kb ws ar st) (hz : Siz a b) (hK : kb + 220 ≤ 1000000) (hN : N + kb + 1 ≤ 1000000) (c : ActW) (hk : c.kind = 2) :
    Calls Tryz.prog 10 #[.pointer (some ⟨A.P, 0, none⟩), c.val] w fun x w' => x = .returned (.bool true) ∧ PrI W w' A a b (N + kb + 1) (opD a b ws ar st).1 (opD a b ws ar st).2.1 (opD a b ws ar st).2.2.1 (opO a b ws ar st) (opD a b ws ar st).2.2.2 (opL a b ws ar st) := by
  obtain ⟨kind, n, s, la, lcap, l, ta, tcap, t⟩ := c
  simp only at hk ⊢
  have K0 := Lib.hid (pr_open (h.below (Kq.below_alloc w (.cells #[.int .i64 2, .int .i64 n, .string s, .slice la l.length lcap, .slice ta t.length tcap] 31))) ho hz hK hN (opL_le ho hz))
  subst hk
  clear h ho hz hK hN
  unfold ActW.val
  simp only
  go_enter Tryz.func10, Tryz.ntmps10
  go_wp2_with fail
  refine K0.out.mono ?_
  rintro x w2 ⟨rfl, hp⟩
  have HP := Lib.hid hp
  clear hp K0
  go_wp2
  go_ret
  exact ⟨rfl, HP.out⟩
/-- the cells that the calls of a disk load -/
def DkC (w : World) (A : PairA) (X : Nat) (c : ActW) : Prop := w.cell? ⟨A.P, 0, none⟩ = some (.pointer (some ⟨A.D, 0, none⟩)) ∧ w.cell? ⟨A.P, 4, none⟩ = some (.pointer (some ⟨A.R, 0, none⟩)) ∧ w.cell? ⟨X, 1, none⟩ = some (.int .i64 c.n)
def DlC (w : World) (A : PairA) (X : Nat) (kind n : Int) (s : ByteArray) (la : Option Addr) (lcap : Nat) (l : List Bool) (ta : Option Addr) (tcap : Nat) (t : List Int) : Prop := w.cell? ⟨A.P, 0, none⟩ = some (.pointer (some ⟨A.D, 0, none⟩)) ∧ w.cell? ⟨A.P, 4, none⟩ = some (.pointer (some ⟨A.R, 0, none⟩)) ∧ w.cell? ⟨X, 0, none⟩ = some (.int .i64 kind) ∧ w.cell? ⟨X, 1, none⟩ = some (.int .i64 n) ∧ w.cell? ⟨X, 2, none⟩ = some (.string s) ∧ w.cell? ⟨X, 3, none⟩ = some (.slice la l.length lcap) ∧ w.cell? ⟨X, 4, none⟩ = some (.slice ta t.length tcap)
set_option maxRecDepth 100000 in
set_option maxHeartbeats 4000000 in
theorem pr_do_arm {W w : World} {A : PairA} {a b N : Nat} {bufD bufR : Value} {ws : List (Int × ByteArray)} {ar : Nat} {st : List Nat} {vl vq : Option (Nat × WalV)} {pw rs pv : Value} {e : Int} {LA : Option Addr} {rl : List ByteArray} (h : PrS W w A a b N bufD ws ar st vl bufR ws ar st vq (pcells A pw e rs pv) LA rl) (c : ActW) (hk : c.kind = 3) :
    Calls Tryz.prog 10 #[.pointer (some ⟨A.P, 0, none⟩), c.val] w fun x w' => x = .returned (.bool true) ∧ PrS W w' A a b N bufD ws c.n.toNat st vl bufR ws c.n.toNat st vq (pcells A pw e rs pv) LA rl := by
  obtain ⟨kind, n, s, la, lcap, l, ta, tcap, t⟩ := c
  simp only at hk ⊢
  subst hk
  obtain ⟨w1, hw1⟩ : ∃ z, z = w.alloc (.cells #[.int .i64 3, .int .i64 n, .string s, .slice la l.length lcap, .slice ta t.length tcap] 31) := ⟨_, rfl⟩
  obtain ⟨X, hX⟩ : ∃ z, z = w.heap.size := ⟨_, rfl⟩
  have hb1 : Below w.heap.size w w1 := by rw [hw1]; exact Kq.below_alloc _ _
  have hx1 : LaC w1 X ⟨3, n, s, la, lcap, l, ta, tcap, t⟩ := by unfold LaC; rw [hw1, hX]; exact Kq.blk_new _ _ _ _
  have I1 : Hid (DoI W w1.drew A a b N bufD ws ar st vl bufR ws ar st vq pw e rs pv LA rl X ⟨3, n, s, la, lcap, l, ta, tcap, t⟩) := Lib.hid ((⟨h.below hb1, hx1⟩ : DoI W w1 A a b N bufD ws ar st vl bufR ws ar st vq pw e rs pv LA rl X ⟨3, n, s, la, lcap, l, ta, tcap, t⟩).below (Below.refl _ _).drew)
  have HW1 := Lib.hid (And.intro hw1 hX)
  clear h hw1 hX hb1 hx1
  unfold ActW.val
  simp only
  go_enter Tryz.func10, Tryz.ntmps10
  go_wp2_with fail
  rw [← HW1.out.1, ← HW1.out.2]
  refine wp_region_held_drew (S := fun w' => DlC w' A X 3 n s la lcap l ta tcap t) (by kernel_rfl) I1.out.dac (fun hS0 => ?_)
  generalize w1.drew = z1 at *
  unfold DlC at hS0
  dsimp only [DlC]
  refine wpAnyH_take (i := 0) (v := ?_) rfl (by kernel_rfl) (by kernel_rfl) (by kernel_rfl) (fun _ _ _ h => h) (Or.inl ⟨by kernel_rfl, ?_⟩) (by assumption) ?_
  rotate_left
  · intro w hSw; (try dsimp only at hSw); go_simp; (try with_reducible rfl)
  refine wpAnyH_take (i := 1) (v := ?_) rfl (by kernel_rfl) (by kernel_rfl) (by kernel_rfl) (fun _ _ _ h => h) (Or.inl ⟨by kernel_rfl, ?_⟩) (by assumption) ?_
  rotate_left
  · intro w hSw; (try dsimp only at hSw); go_simp; (try with_reducible rfl)
  refine wpAnyH_take (i := 2) (v := ?_) rfl (by kernel_rfl) (by kernel_rfl) (by kernel_rfl) (fun _ _ _ h => h) (Or.inl ⟨by kernel_rfl, ?_⟩) (by assumption) ?_
  rotate_left
  · intro w hSw; (try dsimp only at hSw); go_simp; (try with_reducible rfl)
  refine wpAnyH_take (i := 3) (v := ?_) rfl (by kernel_rfl) (by kernel_rfl) (by kernel_rfl) (fun _ _ _ h => h) (Or.inl ⟨by kernel_rfl, ?_⟩) (by assumption) ?_
  rotate_left
  · intro w hSw; (try dsimp only at hSw); go_simp; (try with_reducible rfl)
  refine wpAnyH_take (i := 4) (v := ?_) rfl (by kernel_rfl) (by kernel_rfl) (by kernel_rfl) (fun _ _ _ h => h) (Or.inl ⟨by kernel_rfl, ?_⟩) (by assumption) ?_
  rotate_left
  · intro w hSw; (try dsimp only at hSw); go_simp; (try with_reducible rfl)
  refine wpAnyH_take (i := 5) (v := ?_) rfl (by kernel_rfl) (by kernel_rfl) (by kernel_rfl) (fun _ _ _ h => h) (Or.inl ⟨by kernel_rfl, ?_⟩) (by assumption) ?_
  rotate_left
  · intro w hSw; (try dsimp only at hSw); go_simp; (try with_reducible rfl)
  refine wpAnyH_ready (rs := [6]) (by kernel_rfl) (by simp) ?_
  refine AllReadyH.cons rfl (fun K hK => ?_) AllReadyH.nil
  go_simp
  refine (dk_arm A.bD A.D A.S a b bufD ws (ar : Int) n st z1 I1.out.p.d).mono ?_
  rintro x z2 ⟨rfl, hd, hk⟩
  have I2 := Lib.hid (I1.out.armA hd hk)
  clear hS0 hd hk
  refine hK.out _ _ I2.out.dac (fun hS0 => ?_)
  clear hK K
  refine wpAnyH_done (by kernel_rfl) ?_ _
  clear hS0
  go_simp
  have I2d := Lib.hid (I2.out.below (Below.refl _ _).drew)
  go_wp2_with fail
  refine wp_region_held_drew (S := fun w' => DlC w' A X 3 n s la lcap l ta tcap t) (by kernel_rfl) I2d.out.dac (fun hS0 => ?_)
  generalize z2.drew = z3 at *
  unfold DlC at hS0
  dsimp only [DlC]
  refine wpAnyH_take (i := 0) (v := ?_) rfl (by kernel_rfl) (by kernel_rfl) (by kernel_rfl) (fun _ _ _ h => h) (Or.inl ⟨by kernel_rfl, ?_⟩) (by assumption) ?_
  rotate_left
  · intro w hSw; (try dsimp only at hSw); go_simp; (try with_reducible rfl)
  refine wpAnyH_take (i := 1) (v := ?_) rfl (by kernel_rfl) (by kernel_rfl) (by kernel_rfl) (fun _ _ _ h => h) (Or.inl ⟨by kernel_rfl, ?_⟩) (by assumption) ?_
  rotate_left
  · intro w hSw; (try dsimp only at hSw); go_simp; (try with_reducible rfl)
  refine wpAnyH_take (i := 2) (v := ?_) rfl (by kernel_rfl) (by kernel_rfl) (by kernel_rfl) (fun _ _ _ h => h) (Or.inl ⟨by kernel_rfl, ?_⟩) (by assumption) ?_
  rotate_left
  · intro w hSw; (try dsimp only at hSw); go_simp; (try with_reducible rfl)
  refine wpAnyH_take (i := 3) (v := ?_) rfl (by kernel_rfl) (by kernel_rfl) (by kernel_rfl) (fun _ _ _ h => h) (Or.inl ⟨by kernel_rfl, ?_⟩) (by assumption) ?_
  rotate_left
  · intro w hSw; (try dsimp only at hSw); go_simp; (try with_reducible rfl)
  refine wpAnyH_take (i := 4) (v := ?_) rfl (by kernel_rfl) (by kernel_rfl) (by kernel_rfl) (fun _ _ _ h => h) (Or.inl ⟨by kernel_rfl, ?_⟩) (by assumption) ?_
  rotate_left
  · intro w hSw; (try dsimp only at hSw); go_simp; (try with_reducible rfl)
  refine wpAnyH_take (i := 5) (v := ?_) rfl (by kernel_rfl) (by kernel_rfl) (by kernel_rfl) (fun _ _ _ h => h) (Or.inl ⟨by kernel_rfl, ?_⟩) (by assumption) ?_
  rotate_left
  · intro w hSw; (try dsimp only at hSw); go_simp; (try with_reducible rfl)
  refine wpAnyH_ready (rs := [6]) (by kernel_rfl) (by simp) ?_
  refine AllReadyH.cons rfl (fun K hK => ?_) AllReadyH.nil
  go_simp
  refine (rf_arm A.bR A.R a b bufR ws (ar : Int) n st z3 I2d.out.p.r).mono ?_
  rintro x z4 ⟨rfl, hd, hk⟩
  have I4 := Lib.hid (I2d.out.armB hd hk)
  clear hS0 hd hk
  refine hK.out _ _ I4.out.dac (fun hS0 => ?_)
  clear hK K
  refine wpAnyH_done (by kernel_rfl) ?_ _
  clear hS0
  go_simp
  go_wp2
  go_ret
  exact ⟨rfl, I4.out.p⟩
set_option maxRecDepth 100000 in
set_option maxHeartbeats 4000000 in
theorem pr_do_crash {W w : World} {A : PairA} {a b N kb : Nat} {bufD bufR : Value} {ws : List (Int × ByteArray)} {ar : Nat} {st : List Nat} {vl vq : Option (Nat × WalV)} {pw rs pv : Value} {e : Int} {LA : Option Addr} {rl : List ByteArray} (h : PrS W w A a b N bufD ws ar st vl bufR ws ar st vq (pcells A pw e rs pv) LA rl) (ho : StOk a b kb ws ar st) (hz : Siz a b) (hK : kb + 220 ≤ 1000000) (hN : N + kb + 1 ≤ 1000000) (c : ActW) (hk : ¬ (c.kind = 0 ∨ c.kind = 1 ∨ c.kind = 2 ∨ c.kind = 3)) (hl : c.l.length ≤ 100) (ht : c.t.length ≤ 100) (hB : OneAt w c.la (c.l.map fun x => .bool x)) (hT : OneAt w c.ta (c.t.map fun x => .int .i64 x)) (hBl : ∀ g o, 0 < c.l.length → c.la = some ⟨g, o, none⟩ → g < W.heap.size) (hTl : ∀ g o, 0 < c.t.length → c.ta = some ⟨g, o, none⟩ → g < W.heap.size) :
    Calls Tryz.prog 10 #[.pointer (some ⟨A.P, 0, none⟩), c.val] w fun x w' => x = .returned (.bool true) ∧ PrI W w' A a b (N + kb + 1) (opD a b [] 0 (crashB a ws (lastsF c.l c.t c.l.length) false st)).1 (opD a b [] 0 (crashB a ws (lastsF c.l c.t c.l.length) false st)).2.1 (opD a b [] 0 (crashB a ws (lastsF c.l c.t c.l.length) false st)).2.2.1 (opO a b [] 0 (crashB a ws (lastsF c.l c.t c.l.length) false st)) (opD a b [] 0 (crashB a ws (lastsF c.l c.t c.l.length) false st)).2.2.2 (opL a b [] 0 (crashB a ws (lastsF c.l c.t c.l.length) false st)) := by
  have HC := Lib.hid (crash_ok ho (lastsF c.l c.t c.l.length))
  obtain ⟨st', hst'⟩ : ∃ z, z = crashB a ws (lastsF c.l c.t c.l.length) false st := ⟨_, rfl⟩
  rw [← hst'] at HC ⊢
  have HST := Lib.hid hst'
  clear hst'
  obtain ⟨kind, n, s, la, lcap, l, ta, tcap, t⟩ := c
  simp only at hk hl ht hB hT hBl hTl HST ⊢
  obtain ⟨w1, hw1⟩ : ∃ z, z = w.alloc (.cells #[.int .i64 kind, .int .i64 n, .string s, .slice la l.length lcap, .slice ta t.length tcap] 31) := ⟨_, rfl⟩
  obtain ⟨X, hX⟩ : ∃ z, z = w.heap.size := ⟨_, rfl⟩
  have hb1 : Below w.heap.size w w1 := by rw [hw1]; exact Kq.below_alloc _ _
  have hx1 : LaC w1 X ⟨kind, n, s, la, lcap, l, ta, tcap, t⟩ := by unfold LaC; rw [hw1, hX]; exact Kq.blk_new _ _ _ _
  have I1 : Hid (DoI W w1.drew A a b N bufD ws ar st none bufR ws ar st none pw e rs pv LA rl X ⟨kind, n, s, la, lcap, l, ta, tcap, t⟩) := Lib.hid ((⟨(h.forgetL.forgetQ).below hb1, hx1⟩ : DoI W w1 A a b N bufD ws ar st none bufR ws ar st none pw e rs pv LA rl X ⟨kind, n, s, la, lcap, l, ta, tcap, t⟩).below (Below.refl _ _).drew)
  have HBT : Hid (OneAt w1.drew la (l.map fun x => .bool x) ∧ OneAt w1.drew ta (t.map fun x => .int .i64 x)) := Lib.hid ⟨(hB.below hb1).below (Below.refl _ _).drew, (hT.below hb1).below (Below.refl _ _).drew⟩
  have HW1 := Lib.hid (And.intro hw1 hX)
  have HH := Lib.hid (And.intro ho (And.intro hz (And.intro hK (And.intro hN (And.intro hl (And.intro ht (And.intro hBl hTl)))))))
  have k0 : (kind == 0) = false := beq_eq_false_iff_ne.2 (fun e => hk (Or.inl e))
  have k1 : (kind == 1) = false := beq_eq_false_iff_ne.2 (fun e => hk (Or.inr (Or.inl e)))
  have k2 : (kind == 2) = false := beq_eq_false_iff_ne.2 (fun e => hk (Or.inr (Or.inr (Or.inl e))))
  have k3 : (kind == 3) = false := beq_eq_false_iff_ne.2 (fun e => hk (Or.inr (Or.inr (Or.inr e))))
  clear h hw1 hX hb1 hx1 ho hz hK hN hk hl ht hB hT hBl hTl
  unfold ActW.val
  simp only
  go_enter Tryz.func10, Tryz.ntmps10
  go_wp2_with fail
  rw [← HW1.out.1, ← HW1.out.2]
  refine wp_region_held_drew (S := fun w' => DlC w' A X kind n s la lcap l ta tcap t) (by kernel_rfl) I1.out.dac (fun hS0 => ?_)
  generalize w1.drew = z1 at *
  unfold DlC at hS0
  dsimp only [DlC]
  refine wpAnyH_take (i := 0) (v := ?_) rfl (by kernel_rfl) (by kernel_rfl) (by kernel_rfl) (fun _ _ _ h => h) (Or.inl ⟨by kernel_rfl, ?_⟩) (by assumption) ?_
  rotate_left
  · intro w hSw; (try dsimp only at hSw); go_simp; (try with_reducible rfl)
  refine wpAnyH_take (i := 1) (v := ?_) rfl (by kernel_rfl) (by kernel_rfl) (by kernel_rfl) (fun _ _ _ h => h) (Or.inl ⟨by kernel_rfl, ?_⟩) (by assumption) ?_
  rotate_left
  · intro w hSw; (try dsimp only at hSw); go_simp; (try with_reducible rfl)
  refine wpAnyH_take (i := 2) (v := ?_) rfl (by kernel_rfl) (by kernel_rfl) (by kernel_rfl) (fun _ _ _ h => h) (Or.inl ⟨by kernel_rfl, ?_⟩) (by assumption) ?_
  rotate_left
  · intro w hSw; (try dsimp only at hSw); go_simp; (try with_reducible rfl)
  refine wpAnyH_take (i := 3) (v := ?_) rfl (by kernel_rfl) (by kernel_rfl) (by kernel_rfl) (fun _ _ _ h => h) (Or.inl ⟨by kernel_rfl, ?_⟩) (by assumption) ?_
  rotate_left
  · intro w hSw; (try dsimp only at hSw); go_simp; (try with_reducible rfl)
  refine wpAnyH_take (i := 4) (v := ?_) rfl (by kernel_rfl) (by kernel_rfl) (by kernel_rfl) (fun _ _ _ h => h) (Or.inl ⟨by kernel_rfl, ?_⟩) (by assumption) ?_
  rotate_left
  · intro w hSw; (try dsimp only at hSw); go_simp; (try with_reducible rfl)
  refine wpAnyH_ready (rs := [5]) (by kernel_rfl) (by simp) ?_
  refine AllReadyH.cons rfl (fun K hK => ?_) AllReadyH.nil
  go_simp
  refine (lw_lasts ⟨kind, n, s, la, lcap, l, ta, tcap, t⟩ z1 HH.out.2.2.2.2.1 HH.out.2.2.2.2.2.1 HBT.out.1 HBT.out.2).mono ?_
  rintro x z2 ⟨CA, ccap, rfl, hcw, hcg, hb⟩
  have I2 := Lib.hid (I1.out.below hb)
  have HBT2 : Hid (OneAt z2 la (l.map fun x => .bool x) ∧ OneAt z2 ta (t.map fun x => .int .i64 x)) := Lib.hid ⟨HBT.out.1.below hb, HBT.out.2.below hb⟩
  have HCW : Hid (CwAt z2 CA (lastsF l t l.length) ∧ (∀ g o, CA = some ⟨g, o, none⟩ → g ≠ A.S)) := Lib.hid ⟨hcw, fun g o e e2 => by have h1 := hcg g o e; have h2 := I1.out.p.ow.lt 0 A.S (ownP.a (Or.inr (Or.inl rfl))); omega⟩
  clear hS0 hb hcw hcg HBT
  refine hK.out _ _ I2.out.dac (fun hS0 => ?_)
  clear hK K
  obtain ⟨F, hF⟩ : ∃ z, z = lastsF l t l.length := ⟨_, rfl⟩
  have hFl : F.length = l.length := by rw [hF]; exact lastsF_length l t _
  have HF := Lib.hid (And.intro hF hFl)
  rw [← hF] at HCW HST
  clear hF hFl
  refine wpAnyH_ready (rs := [6]) (by kernel_rfl) (by simp) ?_
  refine AllReadyH.cons rfl (fun K hK => ?_) AllReadyH.nil
  go_simp
  rw [← HF.out.2]
  refine (dk_crash A.bD A.D A.S a b bufD ws (ar : Int) st CA ccap F z2 I2.out.p.d HH.out.1.w HH.out.1.len HH.out.2.1.n (by have := HH.out.2.1.a0; omega) (by have := HH.out.2.1.a1; omega) (by have := HH.out.1.nw; have := HH.out.2.2.1; omega) HH.out.1.lt HCW.out.1 (fun _ => HCW.out.2) (by have := HF.out.2; have := HH.out.2.2.2.2.1; omega)).mono ?_
  rw [← HST.out]
  rintro x z3 ⟨rfl, hd, hk⟩
  have hk' : Kq.Keeps (Own A.D A.S bufD) z2 z3 := hk.mono (fun j _ e => e.elim Or.inl (fun e => Or.inr (Or.inl e)))
  have I3 : Hid (DoI W z3 A a b N (.slice none 0 0) [] 0 st' none bufR ws ar st none pw e rs pv LA rl X ⟨kind, n, s, la, lcap, l, ta, tcap, t⟩) := Lib.hid ⟨I2.out.p.stepDk hd hk' (fun j hj => by cases hj), hk'.blk I2.out.x I2.out.nD⟩
  have HBT3 : Hid (OneAt z3 la (l.map fun x => .bool x) ∧ OneAt z3 ta (t.map fun x => .int .i64 x)) := Lib.hid ⟨HBT2.out.1.keepsO hk' (fun g o h0 e hh => by have h1 := HH.out.2.2.2.2.2.2.1 g o (by simpa using h0) e; have h2 := I2.out.p.ow.ge 0 g (ownP.a hh); omega), HBT2.out.2.keepsO hk' (fun g o h0 e hh => by have h1 := HH.out.2.2.2.2.2.2.2 g o (by simpa using h0) e; have h2 := I2.out.p.ow.ge 0 g (ownP.a hh); omega)⟩
  clear hS0 hd hk hk' HBT2 HCW
  refine hK.out _ _ I3.out.dac (fun hS0 => ?_)
  clear hK K
  refine wpAnyH_done (by kernel_rfl) ?_ _
  clear hS0
  go_simp
  have I3d := Lib.hid (I3.out.below (Below.refl _ _).drew)
  have HBT4 : Hid (OneAt z3.drew la (l.map fun x => .bool x) ∧ OneAt z3.drew ta (t.map fun x => .int .i64 x)) := Lib.hid ⟨HBT3.out.1.below (Below.refl _ _).drew, HBT3.out.2.below (Below.refl _ _).drew⟩
  go_wp2_with fail
  refine wp_region_held_drew (S := fun w' => DlC w' A X kind n s la lcap l ta tcap t) (by kernel_rfl) I3d.out.dac (fun hS0 => ?_)
  generalize z3.drew = z4 at *
  unfold DlC at hS0
  dsimp only [DlC]
  refine wpAnyH_take (i := 0) (v := ?_) rfl (by kernel_rfl) (by kernel_rfl) (by kernel_rfl) (fun _ _ _ h => h) (Or.inl ⟨by kernel_rfl, ?_⟩) (by assumption) ?_
  rotate_left
  · intro w hSw; (try dsimp only at hSw); go_simp; (try with_reducible rfl)
  refine wpAnyH_take (i := 1) (v := ?_) rfl (by kernel_rfl) (by kernel_rfl) (by kernel_rfl) (fun _ _ _ h => h) (Or.inl ⟨by kernel_rfl, ?_⟩) (by assumption) ?_
  rotate_left
  · intro w hSw; (try dsimp only at hSw); go_simp; (try with_reducible rfl)
  refine wpAnyH_take (i := 2) (v := ?_) rfl (by kernel_rfl) (by kernel_rfl) (by kernel_rfl) (fun _ _ _ h => h) (Or.inl ⟨by kernel_rfl, ?_⟩) (by assumption) ?_
  rotate_left
  · intro w hSw; (try dsimp only at hSw); go_simp; (try with_reducible rfl)
  refine wpAnyH_take (i := 3) (v := ?_) rfl (by kernel_rfl) (by kernel_rfl) (by kernel_rfl) (fun _ _ _ h => h) (Or.inl ⟨by kernel_rfl, ?_⟩) (by assumption) ?_
  rotate_left
  · intro w hSw; (try dsimp only at hSw); go_simp; (try with_reducible rfl)
  refine wpAnyH_take (i := 4) (v := ?_) rfl (by kernel_rfl) (by kernel_rfl) (by kernel_rfl) (fun _ _ _ h => h) (Or.inl ⟨by kernel_rfl, ?_⟩) (by assumption) ?_
  rotate_left
  · intro w hSw; (try dsimp only at hSw); go_simp; (try with_reducible rfl)
  refine wpAnyH_ready (rs := [5]) (by kernel_rfl) (by simp) ?_
  refine AllReadyH.cons rfl (fun K hK => ?_) AllReadyH.nil
  go_simp
  refine (lw_lasts ⟨kind, n, s, la, lcap, l, ta, tcap, t⟩ z4 HH.out.2.2.2.2.1 HH.out.2.2.2.2.2.1 HBT4.out.1 HBT4.out.2).mono ?_
  rintro x z5 ⟨CA5, ccap5, rfl, hcw, hcg, hb⟩
  have I5 := Lib.hid (I3d.out.below hb)
  have HCW : Hid (CwAt z5 CA5 F ∧ (∀ g o, CA5 = some ⟨g, o, none⟩ → g ≠ A.R)) := Lib.hid ⟨by rw [HF.out.1]; exact hcw, fun g o e e2 => by have h1 := hcg g o e; have h2 := Kq.blk_lt I3d.out.p.r.blk; omega⟩
  clear hS0 hb hcw hcg
  refine hK.out _ _ I5.out.dac (fun hS0 => ?_)
  clear hK K
  refine wpAnyH_ready (rs := [6]) (by kernel_rfl) (by simp) ?_
  refine AllReadyH.cons rfl (fun K hK => ?_) AllReadyH.nil
  go_simp
  rw [← HF.out.2]
  refine (rf_crash A.bR A.R a b bufR ws (ar : Int) st CA5 ccap5 F z5 I5.out.p.r HH.out.1.w HH.out.1.len HH.out.2.1.n (by have := HH.out.2.1.a0; omega) (by have := HH.out.2.1.a1; omega) (by have := HH.out.1.nw; have := HH.out.2.2.1; omega) HH.out.1.lt HCW.out.1 (fun _ => HCW.out.2) (by have := HF.out.2; have := HH.out.2.2.2.2.1; omega)).mono ?_
  rw [← HST.out]
  rintro x z6 ⟨rfl, hd, hk⟩
  have P6 : Hid (PrS W z6 A a b N (.slice none 0 0) [] 0 st' none (.slice none 0 0) [] 0 st' none (pcells A pw e rs pv) LA rl ∧ LaC z6 X ⟨kind, n, s, la, lcap, l, ta, tcap, t⟩) := Lib.hid ⟨I5.out.p.stepRk hd hk (fun j hj => by cases hj), hk.blk I5.out.x I5.out.nR⟩
  have I6 : Hid (DoI W z6 A a b N (.slice none 0 0) [] 0 st' none (.slice none 0 0) [] 0 st' none pw e rs pv LA rl X ⟨kind, n, s, la, lcap, l, ta, tcap, t⟩) := Lib.hid ⟨P6.out.1, P6.out.2⟩
  clear hS0 hd hk P6 HCW
  refine hK.out _ _ I6.out.dac (fun hS0 => ?_)
  clear hK K
  refine wpAnyH_done (by kernel_rfl) ?_ _
  clear hS0
  go_simp
  go_wp2_with fail
  refine (pr_open I6.out.p HC.out HH.out.2.1 HH.out.2.2.1 HH.out.2.2.2.1 (opL_le HC.out HH.out.2.1)).mono ?_
  rintro x z7 ⟨rfl, hp⟩
  have HP := Lib.hid hp
  clear hp
  go_wp2
  go_ret
  exact ⟨rfl, HP.out⟩
end Go.Proofs.YtbpgfhcecanikaaGreat
namespace Go.Proofs.YtbpgfhcecanikaaGreat
open Go.RowKit
set_option linter.unusedVariables false
set_option maxRecDepth 100000 in
set_option maxHeartbeats 2000000 in
theorem pr_made (a b : Nat) (w : World) (hz : Siz a b) (hb : b ≤ 4096) :
    Calls Tryz.prog 9 #[.int .i64 (a : Int), .int .i64 (b : Int)] w fun x w' => ∃ A : PairA, x = .returned (.pointer (some ⟨A.P, 0, none⟩)) ∧ PrI w w' A a b 1 (opD a b [] 0 (List.replicate (a * b) 0)).1 (opD a b [] 0 (List.replicate (a * b) 0)).2.1 (opD a b [] 0 (List.replicate (a * b) 0)).2.2.1 (opO a b [] 0 (List.replicate (a * b) 0)) (opD a b [] 0 (List.replicate (a * b) 0)).2.2.2 (opL a b [] 0 (List.replicate (a * b) 0)) := by
  have HR : Hid (DkRight (a : Int) (b : Int)) := Lib.hid ⟨by have := hz.a0; omega, by have := hz.a1; omega, by have := hz.b0; omega, by omega⟩
  have HZ := Lib.hid hz
  clear hz hb
  go_enter Tryz.func9, Tryz.ntmps9
  go_wp2_with fail
  refine (dk_new_ok (a : Int) (b : Int) (a * b) _ HR.out (by simp)).mono ?_
  intro x w2 hp
  have hd := DkI.made (Below.refl _ w) rfl hp
  obtain ⟨rfl, -, -, hb2⟩ := hp
  have H2 := Lib.hid (And.intro hd.s hb2)
  clear hd hb2
  go_wp2_with fail
  refine (rf_new a b w2 HR.out).mono ?_
  rintro x w3 ⟨rfl, hr, hb3⟩
  have H3 := Lib.hid (And.intro hr hb3)
  clear hr hb3
  obtain ⟨A, hA⟩ : ∃ A : PairA, A = ⟨w3.heap.size + 2, w.heap.size + 1, w.heap.size, w.heap.size, w2.heap.size + 1, w2.heap.size, w3.heap.size + 1, w3.heap.size⟩ := ⟨_, rfl⟩
  have e1 : A.P = w3.heap.size + 2 := by rw [hA]
  have e2 : A.D = w.heap.size + 1 := by rw [hA]
  have e3 : A.S = w.heap.size := by rw [hA]
  have e4 : A.bD = w.heap.size := by rw [hA]
  have e5 : A.R = w2.heap.size + 1 := by rw [hA]
  have e6 : A.bR = w2.heap.size := by rw [hA]
  have e7 : A.Wh = w3.heap.size + 1 := by rw [hA]
  have e8 : A.M = w3.heap.size := by rw [hA]
  obtain ⟨w4, hw4⟩ : ∃ z, z = w3.alloc (.map #[] 0) := ⟨_, rfl⟩
  obtain ⟨w5, hw5⟩ : ∃ z, z = w4.alloc (.cells #[.map (some w3.heap.size)] 72) := ⟨_, rfl⟩
  obtain ⟨w6, hw6⟩ : ∃ z, z = w5.alloc (.cells #[.pointer (some ⟨w.heap.size + 1, 0, none⟩), .pointer none, .int .i64 0, .slice none 0 0, .pointer (some ⟨w2.heap.size + 1, 0, none⟩), .pointer none, .pointer (some ⟨w3.heap.size + 1, 0, none⟩)] 40) := ⟨_, rfl⟩
  have z4 : w4.heap.size = w3.heap.size + 1 := by rw [hw4]; exact Array.size_push _
  have z5 : w5.heap.size = w3.heap.size + 2 := by rw [hw5]; show (w4.heap.push _).size = _; rw [Array.size_push, z4]
  have b4 : Below w3.heap.size w3 w4 := by rw [hw4]; exact Kq.below_alloc _ _
  have b5 : Below w4.heap.size w4 w5 := by rw [hw5]; exact Kq.below_alloc _ _
  have b6 : Below w5.heap.size w5 w6 := by rw [hw6]; exact Kq.below_alloc _ _
  have b36 : Below w3.heap.size w3 w6 := (b4.trans (b5.mono b4.size)).trans (b6.mono (Nat.le_trans b4.size b5.size))
  have hdlt : w.heap.size + 1 < w2.heap.size := Kq.blk_lt H2.out.1.d.blk
  have hrlt : w2.heap.size + 1 < w3.heap.size := Kq.blk_lt H3.out.1.blk
  have hw : NotS w6 A.Wh A.M 0 := by
    rw [e7, e8]
    have hm : Kq.MapG kStrW eBoolW w4 w3.heap.size 0 (fun _ => none) 0 := by rw [hw4]; exact Kq.MapG.made kStrW eBoolW w3
    refine NotS.below (w := w5) ⟨?_, ⟨_, _, hm.below b5⟩, by omega⟩ b6
    have := Kq.blk_new w4 #[.map (some w3.heap.size)] 72 (0, 0)
    rw [z4, ← hw5] at this
    exact this
  have hP : w6.heap[A.P]? = some (.cells (pcells A (.pointer none) 0 (.slice none 0 0) (.pointer none)) 40 (0, 0)) := by
    have := Kq.blk_new w5 #[.pointer (some ⟨w.heap.size + 1, 0, none⟩), .pointer none, .int .i64 0, .slice none 0 0, .pointer (some ⟨w2.heap.size + 1, 0, none⟩), .pointer none, .pointer (some ⟨w3.heap.size + 1, 0, none⟩)] 40 (0, 0)
    rw [z5, ← hw6] at this
    unfold pcells
    rw [e1, e2, e5, e7]
    exact this
  have hPlt : w3.heap.size + 2 < w6.heap.size := by rw [← e1]; exact Kq.blk_lt hP
  have hin : ∀ i j, ownP A (.slice none 0 0) none (.slice none 0 0) none none 0 i j → (i = 0 ∧ (j = w.heap.size + 1 ∨ j = w.heap.size)) ∨ (i = 1 ∧ j = w2.heap.size + 1) ∨ (i = 2 ∧ j = w3.heap.size + 2) ∨ (i = 3 ∧ (j = w3.heap.size + 1 ∨ j = w3.heap.size)) := by
    intro i j hj
    rcases hj with ⟨h0, h⟩ | ⟨h0, h⟩ | ⟨h0, h⟩ | ⟨h0, h⟩ | ⟨h0, h, _⟩
    · rcases h with (h | h | h) | ⟨v, h⟩
      · exact Or.inl ⟨h0, Or.inl (by rw [h, e2])⟩
      · exact Or.inl ⟨h0, Or.inr (by rw [h, e3])⟩
      · cases h
      · cases h
    · rcases h with h | h | ⟨v, h⟩
      · exact Or.inr (Or.inl ⟨h0, by rw [h, e5]⟩)
      · cases h
      · cases h
    · exact Or.inr (Or.inr (Or.inl ⟨h0, by rw [h, e1]⟩))
    · exact Or.inr (Or.inr (Or.inr ⟨h0, by rw [e7, e8] at h; exact h⟩))
    · cases h
  have HS : Hid (PrS w w6 A a b 0 (.slice none 0 0) [] 0 (List.replicate (a * b) 0) none (.slice none 0 0) [] 0 (List.replicate (a * b) 0) none (pcells A (.pointer none) 0 (.slice none 0 0) (.pointer none)) none []) := Lib.hid ⟨by
      rw [e2, e3, e4]
      exact (H2.out.1.below H3.out.2).below b36, by rw [e5, e6]; exact H3.out.1.below b36, fun L v h => (by cases h), fun L v h => (by cases h), hP, ⟨fun j hj => by cases hj⟩, hw, ⟨fun i k j h1 h2 => by
        rcases hin i j h1 with ⟨q1, q2⟩ | ⟨q1, q2⟩ | ⟨q1, q2⟩ | ⟨q1, q2⟩ <;> rcases hin k j h2 with ⟨r1, r2⟩ | ⟨r1, r2⟩ | ⟨r1, r2⟩ | ⟨r1, r2⟩ <;> omega, fun i j h => by
        rcases hin i j h with ⟨q1, q2⟩ | ⟨q1, q2⟩ | ⟨q1, q2⟩ | ⟨q1, q2⟩ <;> omega, fun i j h => by
        rcases hin i j h with ⟨q1, q2⟩ | ⟨q1, q2⟩ | ⟨q1, q2⟩ | ⟨q1, q2⟩ <;> omega⟩, (H2.out.2.trans (H3.out.2.mono H2.out.2.size)).trans (b36.mono (Nat.le_trans H2.out.2.size H3.out.2.size))⟩
  have HO : Hid (StOk a b 0 [] 0 (List.replicate (a * b) 0)) := Lib.hid ⟨WsOk.nil a b, List.length_replicate .., fun x hx => by rw [List.eq_of_mem_replicate hx]; decide, Nat.zero_le _, Nat.zero_le _⟩
  have HW := Lib.hid (And.intro hw4 (And.intro hw5 hw6))
  have HE := Lib.hid e1
  obtain ⟨Z, hZZ⟩ : ∃ Z, Z = List.replicate (a * b) 0 := ⟨_, rfl⟩
  rw [← hZZ] at HS HO
  have HZZ := Lib.hid hZZ
  clear hZZ
  have hmm := @run_makeMap Tryz.prog
  clear hA e1 e2 e3 e4 e5 e6 e7 e8 hw4 hw5 hw6 z4 z5 b4 b5 b6 b36 hdlt hrlt hw hP hPlt hin
  go_wp2_with fail
  rw [← HW.out.1, ← HW.out.2.1, ← HW.out.2.2, ← HE.out]
  refine (pr_open HS.out HO.out HZ.out (by decide) (by decide) (opL_le HO.out HZ.out)).mono ?_
  rintro x w7 ⟨rfl, hp⟩
  have HP := Lib.hid hp
  clear hp
  go_wp2
  go_ret
  exact ⟨A, rfl, by rw [← HZZ.out]; exact HP.out⟩
theorem PrG.of {W w : World} {A : PairA} {a b N K kb : Nat} {ws : List (Int × ByteArray)} {ar : Nat} {st : List Nat} (h : PrI W w A a b N (opD a b ws ar st).1 (opD a b ws ar st).2.1 (opD a b ws ar st).2.2.1 (opO a b ws ar st) (opD a b ws ar st).2.2.2 (opL a b ws ar st)) (ho : StOk a b kb ws ar st) (hz : Siz a b) (hK : kb + 1 ≤ K) : PrG W w A a b N K :=
  ⟨_, _, _, _, _, _, h, (opD_ok ho).up hK, opO_some ho hz.a0⟩
theorem PrI.up {W w : World} {A : PairA} {a b N N' : Nat} {ws : List (Int × ByteArray)} {ar : Nat} {st : List Nat} {o : Option WalV} {e : Int} {rl : List ByteArray} (h : PrI W w A a b N ws ar st o e rl) (hN : N ≤ N') : PrI W w A a b N' ws ar st o e rl := by
  obtain ⟨bufD, bufR, vl, vq, LA, cap, h, h1, h2⟩ := h
  exact ⟨bufD, bufR, vl, vq, LA, cap, ⟨h.d, h.r, h.l, h.q, h.p, h.recs, ⟨h.n.blk, by obtain ⟨f, sz, hm⟩ := h.n.map; exact ⟨f, sz, hm.up hN⟩, h.n.ne⟩, h.ow, h.bel⟩, h1, h2⟩
theorem one_lt {W : World} {A : Option Addr} {l : List Value} (h : OneAt W A l) : ∀ g o, 0 < l.length → A = some ⟨g, o, none⟩ → g < W.heap.size := fun g o h0 e => by
  obtain ⟨g', o', e', h1, _⟩ := h 0 h0
  rw [e] at e'
  injection e' with e'
  injection e' with e'
  rw [e']; exact h1
/-- an act, whatever it is -/
theorem pr_do {W w : World} {A : PairA} {a b N kb : Nat} (h : PrG W w A a b N kb) (hz : Siz a b) (hK : kb + 700 ≤ 1000000) (hN : N + kb + 300 ≤ 1000000) (c : ActW) (hs : c.s.size ≤ 5000) (hl : c.l.length ≤ 100) (ht : c.t.length ≤ 100) (hw : (Lit.int .i64 c.n).wf = true) (hB : OneAt W c.la (c.l.map fun x => .bool x)) (hT : OneAt W c.ta (c.t.map fun x => .int .i64 x)) :
    Calls Tryz.prog 10 #[.pointer (some ⟨A.P, 0, none⟩), c.val] w fun x w' => x = .returned (.bool true) ∧ PrG W w' A a b (N + kb + 300) (kb + 300) := by
  obtain ⟨ws, ar, st, o, e, rl, hI, ho, hv⟩ := h
  obtain ⟨bufD, bufR, vl, vq, LA, cap, hp, h1, h2⟩ := hI
  by_cases hk : c.kind = 0 ∨ c.kind = 1
  · cases o with
    | none =>
      obtain rfl : vl = none := by simpa using h1
      obtain rfl : vq = none := by simpa using h2
      refine (pr_do_off (rs := .slice LA rl.length cap) hp c hk).mono ?_
      rintro x w' ⟨rfl, hb⟩
      exact ⟨rfl, ws, ar, st, none, e, rl, PrI.up ⟨bufD, bufR, none, none, LA, cap, hp.below hb, rfl, rfl⟩ (by omega), ho.up (by omega), hv⟩
    | some v =>
      obtain ⟨⟨L, v1⟩, rfl, rfl⟩ : ∃ x, vl = some x ∧ x.2 = v := by
        cases vl with
        | none => cases h1
        | some x => exact ⟨x, rfl, by simpa using h1⟩
      obtain ⟨⟨Q, v2⟩, rfl, he⟩ : ∃ x, vq = some x ∧ x.2 = v1 := by
        cases vq with
        | none => cases h2
        | some x => exact ⟨x, rfl, by simpa using h2⟩
      simp only at he
      subst he
      obtain ⟨hvv, hb4⟩ := hv _ rfl
      rcases hk with hk | hk
      · refine (pr_do_ap (rs := .slice LA rl.length cap) hp ho hz hb4 hvv hK hN c hs hk).mono ?_
        rintro x w' ⟨rfl, bufD', bufR', hp'⟩
        obtain ⟨q1, q2⟩ := apAll_ok (s := c.s) ho hz hvv
        refine ⟨rfl, _, _, _, _, _, rl, ⟨bufD', bufR', _, _, LA, cap, hp', rfl, rfl⟩, q1.up (by omega), fun u hu => ?_⟩
        injection hu with hu
        exact ⟨hu ▸ q2, hb4⟩
      · refine (pr_do_ck (rs := .slice LA rl.length cap) hp ho hz hb4 hvv hK hN c hs hk).mono ?_
        rintro x w' ⟨rfl, bufD', bufR', hp'⟩
        obtain ⟨q1, q2⟩ := ckAll_ok (s := c.s) ho hz hvv
        refine ⟨rfl, _, _, _, _, _, rl, ⟨bufD', bufR', _, _, LA, cap, hp', rfl, rfl⟩, q1.up (by omega), fun u hu => ?_⟩
        injection hu with hu
        exact ⟨hu ▸ q2, hb4⟩
  · by_cases hk2 : c.kind = 2
    · refine (pr_do_open hp ho hz (by omega) (by omega) c hk2).mono ?_
      rintro x w' ⟨rfl, hp'⟩
      exact ⟨rfl, PrG.of (hp'.up (by omega)) ho hz (by omega)⟩
    · by_cases hk3 : c.kind = 3
      · refine (pr_do_arm hp c hk3).mono ?_
        rintro x w' ⟨rfl, hp'⟩
        refine ⟨rfl, ws, _, st, o, e, rl, PrI.up ⟨bufD, bufR, vl, vq, LA, cap, hp', h1, h2⟩ (by omega), ⟨ho.w, ho.len, ho.lt, by have := ho.nw; omega, ?_⟩, hv⟩
        have : c.n ≤ 9223372036854775807 := by
          simp [Lit.wf, IntKind.min, IntKind.max, IntKind.signed, IntKind.bits] at hw; omega
        omega
      · refine (pr_do_crash hp ho hz (by omega) (by omega) c (fun hh => hh.elim (fun e => hk (Or.inl e)) (fun hh => hh.elim (fun e => hk (Or.inr e)) (fun hh => hh.elim hk2 hk3))) hl ht (hB.belowO hp.bel) (hT.belowO hp.bel) (fun g o h0 e => one_lt hB g o (by simpa using h0) e) (fun g o h0 e => one_lt hT g o (by simpa using h0) e)).mono ?_
        rintro x w' ⟨rfl, hp'⟩
        exact ⟨rfl, PrG.of (hp'.up (by omega)) (crash_ok ho _) hz (by omega)⟩
end Go.Proofs.YtbpgfhcecanikaaGreat
