/- Merged: LwO, FrRSplit. Contract of the law's pair.open. Condition: sizes. Contract of carrackref05.Split. Condition: sizes. -/
import Derived.WalkSpells
import Derived.Outline
import Derived.Deep.QuietTactic
import Derived.Deep.RegionHeld
import Derived.Test.YtbpgfhcecanikaaGreatLwMQ
import Derived.Deep.LoopGhost
import Derived.Test.YtbpgfhcecanikaaGreatFrSplitQ
namespace Go.Proofs.YtbpgfhcecanikaaGreat
open Go.RowKit
set_option linter.unusedVariables false
/-- what Open makes of a disk; its code -/
def opD (a b : Nat) (ws : List (Int × ByteArray)) (ar : Nat) (st : List Nat) : List (Int × ByteArray) × Nat × List Nat × Int := if b < 4 then (ws, ar, st, 1) else opF a b ws ar st
def opO (a b : Nat) (ws : List (Int × ByteArray)) (ar : Nat) (st : List Nat) : Option WalV := if (opD a b ws ar st).2.2.2 = 0 then some (opV a b ws ar st) else none
def opL (a b : Nat) (ws : List (Int × ByteArray)) (ar : Nat) (st : List Nat) : List ByteArray := if (opD a b ws ar st).2.2.2 = 0 then (opR a b ws ar st).1 else []
/-- a disk's sizes that may be -/
structure Siz (a b : Nat) : Prop where
  a0 : 64 ≤ a
  a1 : a ≤ 512
  b0 : 1 ≤ b
  b1 : b ≤ 5000
  n : a * b ≤ 3000000
  s : segN b * a ≤ 30000
theorem opD_ok {a b K : Nat} {ws : List (Int × ByteArray)} {ar : Nat} {st : List Nat} (h : StOk a b K ws ar st) : StOk a b (K + 1) (opD a b ws ar st).1 (opD a b ws ar st).2.1 (opD a b ws ar st).2.2.1 := by
  unfold opD
  split
  · exact h.up (by omega)
  · unfold opF
    split
    · unfold fdF
      split
      · exact layF_ok a b [hdPut a 1 0] 1 K _ _ _ (flF_ok h)
      · exact (flF_ok h).up (by omega)
    · exact (flF_ok h).up (by omega)
theorem wl_open_all (base B S a b N : Nat) (buf : Value) (ws : List (Int × ByteArray)) (ar : Nat) (st : List Nat) (w : World) (h : DkS w base B S a b buf ws (ar : Int) st) (ho : StOk a b N ws ar st) (hN : N + 220 ≤ 1000000) (hz : Siz a b) :
    Calls Tryz.prog 22 #[.pointer (some ⟨B, 0, none⟩)] w fun x w' => (¬ (opD a b ws ar st).2.2.2 = 0 ∧ OpenNo w base B S a b buf (opD a b ws ar st).1 (opD a b ws ar st).2.1 (opD a b ws ar st).2.2.1 (opD a b ws ar st).2.2.2 x w') ∨ ((opD a b ws ar st).2.2.2 = 0 ∧ opD a b ws ar st = opF a b ws ar st ∧ OpenOk w base B S a b buf ws ar st x w') := by
  by_cases hb : b < 4
  · have e : opD a b ws ar st = (ws, ar, st, 1) := if_pos hb
    rw [e]
    refine (wl_open_few base B S a b N buf ws ar st w h hb).mono ?_
    intro x w' hp
    unfold OpenPost at hp
    rw [if_pos hb] at hp
    exact Or.inl ⟨(show ¬ (1 : Int) = 0 by decide), hp⟩
  · have e : opD a b ws ar st = opF a b ws ar st := if_neg hb
    rw [e]
    refine (wl_open base B S a b N buf ws ar st w h ho hN hz.n hz.a0 hz.a1 (by omega) hz.b1 hz.s).mono ?_
    intro x w' hp
    unfold OpenPost at hp
    rw [if_neg hb] at hp
    by_cases hc : (opF a b ws ar st).2.2.2 = 0
    · rw [if_pos hc] at hp; exact Or.inr ⟨hc, rfl, hp⟩
    · rw [if_neg hc] at hp; exact Or.inl ⟨hc, hp⟩
theorem rv_open_all (base R a b N : Nat) (buf : Value) (ws : List (Int × ByteArray)) (ar : Nat) (st : List Nat) (w : World) (h : RfS w base R a b buf ws (ar : Int) st) (ho : StOk a b N ws ar st) (hN : N + 220 ≤ 1000000) (hz : Siz a b) :
    Calls Tryz.prog 55 #[.pointer (some ⟨R, 0, none⟩)] w fun x w' => (¬ (opD a b ws ar st).2.2.2 = 0 ∧ RvNo w base R a b buf (opD a b ws ar st).1 (opD a b ws ar st).2.1 (opD a b ws ar st).2.2.1 (opD a b ws ar st).2.2.2 x w') ∨ ((opD a b ws ar st).2.2.2 = 0 ∧ RvOk w base R a b buf ws ar st x w') := by
  by_cases hb : b < 4
  · have e : opD a b ws ar st = (ws, ar, st, 1) := if_pos hb
    rw [e]
    refine (rv_open_few base R a b buf ws ar st w h hb).mono ?_
    intro x w' hp
    unfold RvPost at hp
    rw [if_pos hb] at hp
    exact Or.inl ⟨(show ¬ (1 : Int) = 0 by decide), hp⟩
  · have e : opD a b ws ar st = opF a b ws ar st := if_neg hb
    rw [e]
    refine (rv_open base R a b N buf ws ar st w h ho hN hz.n hz.a0 hz.a1 (by omega) hz.b1 hz.s).mono ?_
    intro x w' hp
    unfold RvPost at hp
    rw [if_neg hb] at hp
    by_cases hc : (opF a b ws ar st).2.2.2 = 0
    · rw [if_pos hc] at hp; exact Or.inr ⟨hc, hp⟩
    · rw [if_neg hc] at hp; exact Or.inl ⟨hc, hp⟩
def ptrO (o : Option (Nat × WalV)) : Value := .pointer (match o with | none => none | some (j, _) => some ⟨j, 0, none⟩)
def pcells (A : PairA) (pw : Value) (e : Int) (rs : Value) (pv : Value) : Array Value := #[.pointer (some ⟨A.D, 0, none⟩), pw, .int .i64 e, rs, .pointer (some ⟨A.R, 0, none⟩), pv, .pointer (some ⟨A.Wh, 0, none⟩)]
/-- a pair that stands alike on both sides -/
def PrI (W w : World) (A : PairA) (a b N : Nat) (ws : List (Int × ByteArray)) (ar : Nat) (st : List Nat) (o : Option WalV) (e : Int) (rl : List ByteArray) : Prop :=
  ∃ bufD bufR vl vq LA cap, PrS W w A a b N bufD ws ar st vl bufR ws ar st vq (pcells A (ptrO vl) e (.slice LA rl.length cap) (ptrO vq)) LA rl ∧ vl.map Prod.snd = o ∧ vq.map Prod.snd = o
theorem PrI.below {W w w' : World} {A : PairA} {a b N : Nat} {ws : List (Int × ByteArray)} {ar : Nat} {st : List Nat} {o : Option WalV} {e : Int} {rl : List ByteArray} (h : PrI W w A a b N ws ar st o e rl) (hb : Below w.heap.size w w') : PrI W w' A a b N ws ar st o e rl := by
  obtain ⟨bufD, bufR, vl, vq, LA, cap, h, h1, h2⟩ := h
  exact ⟨bufD, bufR, vl, vq, LA, cap, h.below hb, h1, h2⟩
/-- the program's Open, told of the pair -/
theorem PrS.openA {W w w' : World} {A : PairA} {a b N : Nat} {bufD bufR : Value} {ws ws2 : List (Int × ByteArray)} {ar ar2 : Nat} {st st2 : List Nat} {vl vq : Option (Nat × WalV)} {cs : Array Value} {LA : Option Addr} {rl : List ByteArray} (h : PrS W w A a b N bufD ws ar st vl bufR ws2 ar2 st2 vq cs LA rl) {x : Ending} (hD : opD a b ws ar st = opF a b ws ar st) (hp : OpenOk w A.bD A.D A.S a b bufD ws ar st x w') :
    ∃ bufD' L LA' cap, x = .returned (.tuple #[.pointer (some ⟨L, 0, none⟩), .slice LA' (opR a b ws ar st).1.length cap, .int .i64 0]) ∧ PrS W w' A a b N bufD' (opD a b ws ar st).1 (opD a b ws ar st).2.1 (opD a b ws ar st).2.2.1 (some (L, opV a b ws ar st)) bufR ws2 ar2 st2 vq cs LA' (opR a b ws ar st).1 := by
  obtain ⟨L, LA', cap, rfl, hL, hs, hg, hd, buf', hW, hf, hn⟩ := hp
  obtain ⟨_, _, hk, _⟩ := hd
  rw [hD]
  have h0 := h.forgetL.stepDk hW.d hk hf
  have hsz : W.heap.size ≤ w.heap.size := h.bel.size
  have hold : ∀ i j, i ≠ 0 → ownP A buf' none bufR vq LA rl.length i j → j < w.heap.size := fun i j hi hj => h.forgetL.ow.lt i j (hj.not (fun e => absurd e hi) (fun _ => ⟨rfl, rfl⟩) (fun _ => ⟨rfl, rfl⟩))
  have h1 := h0.logNew hW (Nat.le_trans hsz hL) (fun i hj => by
    by_cases e : i = 0
    · subst e
      rcases hj.i0 with e | ⟨u, e⟩
      · exact hW.sep e
      · cases e
    · have := hold i L e hj; omega)
  have h2 := h1.recsNew LA' _ hs (fun g o e => Nat.le_trans hsz (hg g o e).1) (fun g o i e hi hj => by
    by_cases e0 : i = 0
    · subst e0
      rcases hj.i0 with e1 | ⟨u, e1⟩
      · exact hn g o e e1
      · injection e1 with e1
        injection e1 with e1 e2
        exact (hg g o e).2 e1.symm
    · have h3 := hold i g e0 (hj.not (fun e => absurd e e0) (fun _ => ⟨rfl, rfl⟩) (fun _ => ⟨rfl, rfl⟩))
      have := (hg g o e).1
      omega)
  exact ⟨buf', L, LA', cap, rfl, h2⟩
/-- the reference's Open, told of the pair -/
theorem PrS.openB {W w w' : World} {A : PairA} {a b N : Nat} {bufD bufR : Value} {ws ws1 : List (Int × ByteArray)} {ar ar1 : Nat} {st st1 : List Nat} {vl vq : Option (Nat × WalV)} {cs : Array Value} {LA : Option Addr} {rl : List ByteArray} (h : PrS W w A a b N bufD ws1 ar1 st1 vl bufR ws ar st vq cs LA rl) {x : Ending} (hD : opD a b ws ar st = opF a b ws ar st) (hp : RvOk w A.bR A.R a b bufR ws ar st x w') :
    ∃ bufR' Q LB cap, x = .returned (.tuple #[.pointer (some ⟨Q, 0, none⟩), .slice LB (opR a b ws ar st).1.length cap, .int .i64 0]) ∧ PrS W w' A a b N bufD ws1 ar1 st1 vl bufR' (opD a b ws ar st).1 (opD a b ws ar st).2.1 (opD a b ws ar st).2.2.1 (some (Q, opV a b ws ar st)) cs LA rl ∧ StrsAt w' LB (opR a b ws ar st).1 ∧ (∀ g o, LB = some ⟨g, o, none⟩ → w.heap.size ≤ g) := by
  obtain ⟨Q, LB, cap, rfl, hQ, hs, hg, buf', hV, hk, hf⟩ := hp
  rw [hD]
  have h0 := h.forgetQ.stepRk hV.d hk hf
  have hsz : W.heap.size ≤ w.heap.size := h.bel.size
  have hold : ∀ i j, i ≠ 1 → ownP A bufD vl buf' none LA rl.length i j → j < w.heap.size := fun i j hi hj => h.forgetQ.ow.lt i j (hj.not (fun _ => ⟨rfl, rfl⟩) (fun e => absurd e hi) (fun _ => ⟨rfl, rfl⟩))
  have h1 := h0.logNewQ hV (Nat.le_trans hsz hQ) (fun i hj => by
    by_cases e : i = 1
    · subst e
      rcases hj.i1 with e | e | ⟨u, e⟩
      · exact hV.sep (Or.inl e)
      · exact hV.sep (Or.inr e)
      · cases e
    · have := hold i Q e hj; omega)
  exact ⟨buf', Q, LB, cap, rfl, h1, hs, hg⟩
def OnC (w : World) (A : PairA) : Prop := w.cell? ⟨A.P, 4, none⟩ = some (.pointer (some ⟨A.R, 0, none⟩)) ∧ w.cell? ⟨A.P, 6, none⟩ = some (.pointer (some ⟨A.Wh, 0, none⟩))
def OtC (w : World) (A : PairA) (pw : Value) (e : Int) (rs pv : Value) : Prop := w.cell? ⟨A.P, 1, none⟩ = some pw ∧ w.cell? ⟨A.P, 2, none⟩ = some (.int .i64 e) ∧ w.cell? ⟨A.P, 3, none⟩ = some rs ∧ w.cell? ⟨A.P, 5, none⟩ = some pv
section
variable {W w : World} {A : PairA} {a b N : Nat} {bufD bufR : Value} {ws1 ws2 : List (Int × ByteArray)} {ar1 ar2 : Nat} {st1 st2 : List Nat} {vl vq : Option (Nat × WalV)} {pw rs pv : Value} {e : Int} {LA : Option Addr} {rl : List ByteArray} (h : PrS W w A a b N bufD ws1 ar1 st1 vl bufR ws2 ar2 st2 vq (pcells A pw e rs pv) LA rl)
include h
theorem PrS.c0 : w.cell? ⟨A.P, 0, none⟩ = some (.pointer (some ⟨A.D, 0, none⟩)) := Kq.blk_cell h.p 0
theorem PrS.c1 : w.cell? ⟨A.P, 1, none⟩ = some pw := Kq.blk_cell h.p 1
theorem PrS.c2 : w.cell? ⟨A.P, 2, none⟩ = some (.int .i64 e) := Kq.blk_cell h.p 2
theorem PrS.c3 : w.cell? ⟨A.P, 3, none⟩ = some rs := Kq.blk_cell h.p 3
theorem PrS.c4 : w.cell? ⟨A.P, 4, none⟩ = some (.pointer (some ⟨A.R, 0, none⟩)) := Kq.blk_cell h.p 4
theorem PrS.c5 : w.cell? ⟨A.P, 5, none⟩ = some pv := Kq.blk_cell h.p 5
theorem PrS.c6 : w.cell? ⟨A.P, 6, none⟩ = some (.pointer (some ⟨A.Wh, 0, none⟩)) := Kq.blk_cell h.p 6
theorem PrS.fz (i : Nat) : w.frozen? ⟨A.P, i, none⟩ = false := Kq.blk_free h.p i
theorem PrS.onc : OnC w A := ⟨h.c4, h.c6⟩
theorem PrS.otc : OtC w A pw e rs pv := ⟨h.c1, h.c2, h.c3, h.c5⟩
theorem PrS.mR : A.M ≠ A.R ∧ bufR.ownBlock ≠ some A.M ∧ A.P ≠ A.M := ⟨fun e' => by have := h.ow.ap 3 1 A.M ownP.m (ownP.r e'); omega, fun e' => by have := h.ow.ap 3 1 A.M ownP.m (ownP.b e'); omega, fun e' => by have := h.ow.ap 2 3 A.P ownP.p (e' ▸ ownP.m); omega⟩
theorem PrS.noteOk {w' : World} {N' : Nat} (hn : NotS w' A.Wh A.M N') (hk : Kq.Keeps (· = A.M) w w') : PrS W w' A a b N' bufD ws1 ar1 st1 vl bufR ws2 ar2 st2 vq (pcells A pw e rs pv) LA rl := h.note hk hn
end
set_option maxRecDepth 100000 in
set_option maxHeartbeats 4000000 in
theorem pr_open {W w : World} {A : PairA} {a b N kb : Nat} {bufD bufR : Value} {ws : List (Int × ByteArray)} {ar : Nat} {st : List Nat} {vl vq : Option (Nat × WalV)} {pw rs pv : Value} {e : Int} {LA : Option Addr} {rl : List ByteArray} (h : PrS W w A a b N bufD ws ar st vl bufR ws ar st vq (pcells A pw e rs pv) LA rl) (ho : StOk a b kb ws ar st) (hz : Siz a b) (hK : kb + 220 ≤ 1000000) (hN : N + kb + 1 ≤ 1000000) (hrr : (opL a b ws ar st).length ≤ 100000) :
    Calls Tryz.prog 29 #[.pointer (some ⟨A.P, 0, none⟩)] w fun x w' => x = .returned (.bool true) ∧ PrI W w' A a b (N + kb + 1) (opD a b ws ar st).1 (opD a b ws ar st).2.1 (opD a b ws ar st).2.2.1 (opO a b ws ar st) (opD a b ws ar st).2.2.2 (opL a b ws ar st) := by
  have hb0 := Kq.below_alloc w (.cells #[] 9)
  have H := Lib.hid (And.intro h (And.intro ho (And.intro hz (And.intro hK (And.intro hN hrr)))))
  have H1 := Lib.hid (And.intro (h.below hb0) (opD_ok ho))
  have HOO : Hid ((opD a b ws ar st).2.2.2 = 0 → opO a b ws ar st = some (opV a b ws ar st) ∧ opL a b ws ar st = (opR a b ws ar st).1) := Lib.hid (fun h => ⟨if_pos h, if_pos h⟩)
  have HON : Hid (¬ (opD a b ws ar st).2.2.2 = 0 → opO a b ws ar st = none ∧ opL a b ws ar st = []) := Lib.hid (fun h => ⟨if_neg h, if_neg h⟩)
  have p0 := h.c0
  have q0 := H1.out.1.c0
  clear hb0 h ho hz hK hN hrr
  go_enter Tryz.func29, Tryz.ntmps29
  go_wp2_with fail
  refine (wl_open_all A.bD A.D A.S a b kb bufD ws ar st _ H1.out.1.d H.out.2.1 H.out.2.2.2.1 H.out.2.2.1).mono ?_
  rintro x w1 (⟨hc, rfl, hd⟩ | ⟨hc, hDF, hp⟩)
  · obtain ⟨bufD1, hP1⟩ := H1.out.1.forgetL.stepD hd
    have HC := Lib.hid (HON.out hc)
    have HCC := Lib.hid hc
    obtain ⟨c, hcc⟩ : ∃ z, z = (opD a b ws ar st).2.2.2 := ⟨_, rfl⟩
    have HP1 := Lib.hid hP1
    rw [← hcc]
    have HCE := Lib.hid hcc
    clear hd hP1 hc hcc HOO HON p0 q0
    have f1 := HP1.out.fz 1
    have f2 := HP1.out.fz 2
    have f3 := HP1.out.fz 3
    have g1 := HP1.out.c1
    have g2 := HP1.out.c2
    have g3 := HP1.out.c3
    have g4 := HP1.out.c4
    obtain ⟨w2, hw2⟩ : ∃ z, z = ((w1.setCell ⟨A.P, 1, none⟩ (.pointer none)).setCell ⟨A.P, 3, none⟩ (.slice none 0 0)).setCell ⟨A.P, 2, none⟩ (.int .i64 c) := ⟨_, rfl⟩
    have hk2 : Kq.Keeps (· = A.P) w1 w2 := by
      rw [hw2]
      exact ((Kq.Keeps.setCell (S := (· = A.P)) _ ⟨A.P, 1, none⟩ _ rfl).trans (Kq.Keeps.setCell (S := (· = A.P)) _ ⟨A.P, 3, none⟩ _ rfl)).trans (Kq.Keeps.setCell (S := (· = A.P)) _ ⟨A.P, 2, none⟩ _ rfl)
    have hb2 : w2.heap[A.P]? = some (.cells (pcells A (.pointer none) (c) (.slice none 0 0) pv) 40 (0, 0)) := by
      rw [hw2]
      exact Kq.blk_set (Kq.blk_set (Kq.blk_set HP1.out.p 1 _) 3 _) 2 _
    have HP2 := Lib.hid ((HP1.out.forgetR none).set hk2 hb2)
    have HW2 := Lib.hid hw2
    clear hk2 hb2 hw2
    go_wp2_with fail
    rw [← HW2.out]
    clear f1 f2 f3 g1 g2 g3 g4
    refine (rv_open_all A.bR A.R a b kb bufR ws ar st w2 HP2.out.r H.out.2.1 H.out.2.2.2.1 H.out.2.2.1).mono ?_
    rintro x w3 (⟨hc2, rfl, hr⟩ | ⟨hc2, _⟩)
    rotate_left
    · exact absurd hc2 HCC.out
    rw [← HCE.out]
    obtain ⟨bufR3, hP3⟩ := HP2.out.forgetQ.stepR hr
    have HP3 := Lib.hid hP3
    clear hP3 hr hc2
    have f5 := HP3.out.fz 5
    have g5 := HP3.out.c5
    obtain ⟨w4, hw4⟩ : ∃ z, z = w3.setCell ⟨A.P, 5, none⟩ (.pointer none) := ⟨_, rfl⟩
    have hk4 : Kq.Keeps (· = A.P) w3 w4 := by rw [hw4]; exact Kq.Keeps.setCell _ _ _ rfl
    have hb4 : w4.heap[A.P]? = some (.cells (pcells A (.pointer none) (c) (.slice none 0 0) (.pointer none)) 40 (0, 0)) := by
      rw [hw4]
      exact Kq.blk_set HP3.out.p 5 _
    have HP4 := Lib.hid (HP3.out.set hk4 hb4)
    have HW4 := Lib.hid hw4
    clear hk4 hb4 hw4
    go_wp2_with fail
    rw [← HW4.out]
    clear f5 g5
    have HP4d := Lib.hid HP4.out.drew
    refine wp_region_held_drew (S := fun w' => OnC w' A) (by kernel_rfl) HP4d.out.onc (fun hS0 => ?_)
    unfold OnC at hS0
    dsimp only [OnC]
    refine wpAnyH_take (i := 0) (v := ?_) rfl (by kernel_rfl) (by kernel_rfl) (by kernel_rfl) (fun _ _ _ h => h) (Or.inl ⟨by kernel_rfl, ?_⟩) (by assumption) ?_
    rotate_left
    · intro w hSw; (try dsimp only at hSw); go_simp; (try with_reducible rfl)
    refine wpAnyH_take (i := 1) (v := ?_) rfl (by kernel_rfl) (by kernel_rfl) (by kernel_rfl) (fun _ _ _ h => h) (Or.inl ⟨by kernel_rfl, ?_⟩) (by assumption) ?_
    rotate_left
    · intro w hSw; (try dsimp only at hSw); go_simp; (try with_reducible rfl)
    refine wpAnyH_take (i := 2) (v := ?_) rfl (by kernel_rfl) (by kernel_rfl) (by kernel_rfl) (fun _ _ _ h => h) (Or.inl ⟨by kernel_rfl, ?_⟩) (by assumption) ?_
    rotate_left
    · intro w hSw; (try dsimp only at hSw); go_simp; (try with_reducible rfl)
    refine wpAnyH_take (i := 3) (v := ?_) rfl (by kernel_rfl) (by kernel_rfl) (by kernel_rfl) (fun _ _ _ h => h) (Or.inl ⟨by kernel_rfl, ?_⟩) (by assumption) ?_
    rotate_left
    · intro w hSw; (try dsimp only at hSw); go_simp; (try with_reducible rfl)
    refine wpAnyH_take (i := 4) (v := ?_) rfl (by kernel_rfl) (by kernel_rfl) (by kernel_rfl) (fun _ _ _ h => h) (Or.inl ⟨by kernel_rfl, ?_⟩) (by assumption) ?_
    rotate_left
    · intro w hSw; (try dsimp only at hSw); go_simp; (try with_reducible rfl)
    refine wpAnyH_take (i := 5) (v := ?_) rfl (by kernel_rfl) (by kernel_rfl) (by kernel_rfl) (fun _ _ _ h => h) (Or.inl ⟨by kernel_rfl, ?_⟩) (by assumption) ?_
    rotate_left
    · intro w hSw; (try dsimp only at hSw); go_simp; (try with_reducible rfl)
    refine wpAnyH_take (i := 6) (v := ?_) rfl (by kernel_rfl) (by kernel_rfl) (by kernel_rfl) (fun _ _ _ h => h) (Or.inl ⟨by kernel_rfl, ?_⟩) (by assumption) ?_
    rotate_left
    · intro w hSw; (try dsimp only at hSw); go_simp; (try with_reducible rfl)
    refine wpAnyH_take (i := 7) (v := ?_) rfl (by kernel_rfl) (by kernel_rfl) (by kernel_rfl) (fun _ _ _ h => h) (Or.inl ⟨by kernel_rfl, ?_⟩) (by assumption) ?_
    rotate_left
    · intro w hSw; (try dsimp only at hSw); go_simp; (try with_reducible rfl)
    refine wpAnyH_ready (rs := [8]) (by kernel_rfl) (by simp) ?_
    refine AllReadyH.cons rfl (fun K hK => ?_) AllReadyH.nil
    go_simp
    refine (rv_note (K := kb + 1) HP4d.out.r (by rw [Int.toNat_natCast]; exact H1.out.2) HP4d.out.n HP4d.out.mR.1 HP4d.out.mR.2.1 (by have := H.out.2.2.2.2.1; have := H1.out.2.nw; omega) (by have := H.out.2.2.1.a1; omega)).mono ?_
    rintro x w6 ⟨rfl, hn6, hk6⟩
    have hnn : N + (opD a b ws ar st).1.length ≤ N + kb + 1 := by have := H1.out.2.nw; omega
    have hn6' : NotS w6 A.Wh A.M (N + kb + 1) := ⟨hn6.blk, by obtain ⟨f, sz, hm⟩ := hn6.map; exact ⟨f, sz, hm.up hnn⟩, hn6.ne⟩
    have HP6 := Lib.hid (HP4d.out.noteOk hn6' hk6)
    clear hS0 hn6 hk6 hn6' hnn
    refine hK.out _ _ HP6.out.onc (fun hS0 => ?_)
    clear hK K
    refine wpAnyH_done (by kernel_rfl) ?_ _
    clear hS0
    go_simp
    have HP7 := Lib.hid HP6.out.drew
    go_wp2_with fail
    refine wp_region_held_drew (S := fun w' => OtC w' A (.pointer none) (c) (.slice none 0 0) (.pointer none)) (by kernel_rfl) HP7.out.otc (fun hS0 => ?_)
    generalize w6.drew = w7 at *
    unfold OtC at hS0
    dsimp only [OtC]
    refine wpAnyH_take (i := 0) (v := ?_) rfl (by kernel_rfl) (by kernel_rfl) (by kernel_rfl) (fun _ _ _ h => h) (Or.inl ⟨by kernel_rfl, ?_⟩) (by assumption) ?_
    rotate_left
    · intro w hSw; (try dsimp only at hSw); go_simp; (try with_reducible rfl)
    refine wpAnyH_take (i := 1) (v := ?_) rfl (by kernel_rfl) (by kernel_rfl) (by kernel_rfl) (fun _ _ _ h => h) (Or.inl ⟨by kernel_rfl, ?_⟩) (by assumption) ?_
    rotate_left
    · intro w hSw; (try dsimp only at hSw); go_simp; (try with_reducible rfl)
    refine wpAnyH_take (i := 2) (v := ?_) rfl (by kernel_rfl) (by kernel_rfl) (by kernel_rfl) (fun _ _ _ h => h) (Or.inl ⟨by kernel_rfl, ?_⟩) (by assumption) ?_
    rotate_left
    · intro w hSw; (try dsimp only at hSw); go_simp; (try with_reducible rfl)
    refine wpAnyH_take (i := 3) (v := ?_) rfl (by kernel_rfl) (by kernel_rfl) (by kernel_rfl) (fun _ _ _ h => h) (Or.inl ⟨by kernel_rfl, ?_⟩) (by assumption) ?_
    rotate_left
    · intro w hSw; (try dsimp only at hSw); go_simp; (try with_reducible rfl)
    refine wpAnyH_take (i := 4) (v := ?_) rfl (by kernel_rfl) (by kernel_rfl) (by kernel_rfl) (fun _ _ _ h => h) (Or.inl ⟨by kernel_rfl, ?_⟩) (by assumption) ?_
    rotate_left
    · intro w hSw; (try dsimp only at hSw); go_simp; (try with_reducible rfl)
    refine wpAnyH_take (i := 5) (v := ?_) rfl (by kernel_rfl) (by kernel_rfl) (by kernel_rfl) (fun _ _ _ h => h) (Or.inl ⟨by kernel_rfl, ?_⟩) (by assumption) ?_
    rotate_left
    · intro w hSw; (try dsimp only at hSw); go_simp; (try with_reducible rfl)
    refine wpAnyH_take (i := 6) (v := ?_) rfl (by kernel_rfl) (by kernel_rfl) (by kernel_rfl) (fun _ _ _ h => h) (Or.inl ⟨by kernel_rfl, ?_⟩) (by assumption) ?_
    rotate_left
    · intro w hSw; (try dsimp only at hSw); go_simp; (try with_reducible rfl)
    refine wpAnyH_take (i := 7) (v := ?_) rfl (by kernel_rfl) (by kernel_rfl) (by kernel_rfl) (fun _ _ _ h => h) (Or.inl ⟨by kernel_rfl, ?_⟩) (by assumption) ?_
    rotate_left
    · intro w hSw; (try dsimp only at hSw); go_simp; (try with_reducible rfl)
    refine wpAnyH_take (i := 8) (v := ?_) rfl (by kernel_rfl) (by kernel_rfl) (by kernel_rfl) (fun _ _ _ h => h) (Or.inl ⟨by kernel_rfl, ?_⟩) (by assumption) ?_
    rotate_left
    · intro w hSw; (try dsimp only at hSw); go_simp; (try with_reducible rfl)
    refine wpAnyH_take (i := 9) (v := ?_) rfl (by kernel_rfl) (by kernel_rfl) (by kernel_rfl) (fun _ _ _ h => h) (Or.inl ⟨by kernel_rfl, ?_⟩) (by assumption) ?_
    rotate_left
    · intro w hSw; (try dsimp only at hSw); go_simp; (try with_reducible rfl)
    refine wpAnyH_take (i := 10) (v := ?_) rfl (by kernel_rfl) (by kernel_rfl) (by kernel_rfl) (fun _ _ _ h => h) (Or.inl ⟨by kernel_rfl, ?_⟩) (by assumption) ?_
    rotate_left
    · intro w hSw; (try dsimp only at hSw); go_simp; (try with_reducible rfl)
    refine wpAnyH_take (i := 11) (v := ?_) rfl (by kernel_rfl) (by kernel_rfl) (by kernel_rfl) (fun _ _ _ h => h) (Or.inl ⟨by kernel_rfl, ?_⟩) (by assumption) ?_
    rotate_left
    · intro w hSw; (try dsimp only at hSw); go_simp; (try with_reducible rfl)
    refine wpAnyH_take (i := 12) (v := ?_) rfl (by kernel_rfl) (by kernel_rfl) (by kernel_rfl) (fun _ _ _ h => h) (Or.inl ⟨by kernel_rfl, ?_⟩) (by assumption) ?_
    rotate_left
    · intro w hSw; (try dsimp only at hSw); go_simp; (try with_reducible rfl)
    refine wpAnyH_take (i := 13) (v := ?_) rfl (by kernel_rfl) (by kernel_rfl) (by kernel_rfl) (fun _ _ _ h => h) (Or.inl ⟨by kernel_rfl, ?_⟩) (by assumption) ?_
    rotate_left
    · intro w hSw; (try dsimp only at hSw); go_simp; (try with_reducible rfl)
    refine wpAnyH_take (i := 14) (v := ?_) rfl (by kernel_rfl) (by kernel_rfl) (by kernel_rfl) (fun _ _ _ h => h) (Or.inl ⟨by kernel_rfl, ?_⟩) (by assumption) ?_
    rotate_left
    · intro w hSw; (try dsimp only at hSw); go_simp; (try with_reducible rfl)
    refine wpAnyH_take (i := 15) (v := ?_) rfl (by kernel_rfl) (by kernel_rfl) (by kernel_rfl) (fun _ _ _ h => h) (Or.inl ⟨by kernel_rfl, ?_⟩) (by assumption) ?_
    rotate_left
    · intro w hSw; (try dsimp only at hSw); go_simp; (try with_reducible rfl)
    refine wpAnyH_take (i := 16) (v := ?_) rfl (by kernel_rfl) (by kernel_rfl) (by kernel_rfl) (fun _ _ _ h => h) (Or.inl ⟨by kernel_rfl, ?_⟩) (by assumption) ?_
    rotate_left
    · intro w hSw; (try dsimp only at hSw); go_simp; (try with_reducible rfl)
    refine wpAnyH_take (i := 17) (v := ?_) rfl (by kernel_rfl) (by kernel_rfl) (by kernel_rfl) (fun _ _ _ h => h) (Or.inl ⟨by kernel_rfl, ?_⟩) (by assumption) ?_
    rotate_left
    · intro w hSw; (try dsimp only at hSw); go_simp; (try with_reducible rfl)
    refine wpAnyH_take (i := 18) (v := ?_) rfl (by kernel_rfl) (by kernel_rfl) (by kernel_rfl) (fun _ _ _ h => h) (Or.inl ⟨by kernel_rfl, ?_⟩) (by assumption) ?_
    rotate_left
    · intro w hSw; (try dsimp only at hSw); go_simp; (try with_reducible rfl)
    refine wpAnyH_take (i := 19) (v := ?_) rfl (by kernel_rfl) (by kernel_rfl) (by kernel_rfl) (fun _ _ _ h => h) (Or.inl ⟨by kernel_rfl, ?_⟩) (by assumption) ?_
    rotate_left
    · intro w hSw; (try dsimp only at hSw); go_simp; (try with_reducible rfl)
    refine wpAnyH_take (i := 20) (v := ?_) rfl (by kernel_rfl) (by kernel_rfl) (by kernel_rfl) (fun _ _ _ h => h) (Or.inl ⟨by kernel_rfl, ?_⟩) (by assumption) ?_
    rotate_left
    · intro w hSw; (try dsimp only at hSw); go_simp; (try with_reducible rfl)
    refine wpAnyH_take (i := 21) (v := ?_) rfl (by kernel_rfl) (by kernel_rfl) (by kernel_rfl) (fun _ _ _ h => h) (Or.inl ⟨by kernel_rfl, ?_⟩) (by assumption) ?_
    rotate_left
    · intro w hSw; (try dsimp only at hSw); go_simp; (try with_reducible rfl)
    refine wpAnyH_take (i := 22) (v := ?_) rfl (by kernel_rfl) (by kernel_rfl) (by kernel_rfl) (fun _ _ _ h => h) (Or.inl ⟨by kernel_rfl, ?_⟩) (by assumption) ?_
    rotate_left
    · intro w hSw; (try dsimp only at hSw); go_simp; (try with_reducible rfl)
    refine wpAnyH_take (i := 23) (v := ?_) rfl (by kernel_rfl) (by kernel_rfl) (by kernel_rfl) (fun _ _ _ h => h) (Or.inl ⟨by kernel_rfl, ?_⟩) (by assumption) ?_
    rotate_left
    · intro w hSw; (try dsimp only at hSw); go_simp; (try with_reducible rfl)
    refine wpAnyH_take (i := 24) (v := ?_) rfl (by kernel_rfl) (by kernel_rfl) (by kernel_rfl) (fun _ _ _ h => h) (Or.inl ⟨by kernel_rfl, ?_⟩) (by assumption) ?_
    rotate_left
    · intro w hSw; (try dsimp only at hSw); go_simp; (try with_reducible rfl)
    refine wpAnyH_ready (rs := [25]) (by kernel_rfl) (by simp) ?_
    refine AllReadyH.cons rfl (fun K hK => ?_) AllReadyH.nil
    go_simp
    refine (rf_texts none none 0 0 [] [] w7 (by simp) (by simp) ⟨fun j hj => by cases hj⟩ ⟨fun j hj => by cases hj⟩).mono ?_
    rintro x w8 ⟨rfl, hb8⟩
    have HP8 := Lib.hid (HP7.out.below hb8)
    clear hS0 hb8
    refine hK.out _ _ HP8.out.otc (fun hS0 => ?_)
    clear hK K
    have htt : decide (([] : List ByteArray) = []) = true := decide_eq_true rfl
    refine wpAnyH_take (i := 26) (v := ?_) rfl (by kernel_rfl) (by kernel_rfl) (by kernel_rfl) (fun _ _ _ h => h) (Or.inl ⟨by kernel_rfl, ?_⟩) (by assumption) ?_
    rotate_left
    · intro w hSw; (try dsimp only at hSw); go_simp; (try with_reducible rfl)
    refine wpAnyH_take (i := 27) (v := ?_) rfl (by kernel_rfl) (by kernel_rfl) (by kernel_rfl) (fun _ _ _ h => h) (Or.inl ⟨by kernel_rfl, ?_⟩) (by assumption) ?_
    rotate_left
    · intro w hSw; (try dsimp only at hSw); go_simp; (try with_reducible rfl)
    refine wpAnyH_done (by kernel_rfl) ?_ _
    clear hS0
    go_simp
    go_wp2
    go_ret
    refine ⟨by simp, ?_⟩
    rw [HC.out.1, HC.out.2]
    have h := HP8.out
    rw [HCE.out] at h
    exact ⟨bufD1, bufR3, none, none, none, 0, h, rfl, rfl⟩
  · obtain ⟨bufD1, L, LA1, cap1, rfl, hP1⟩ := H1.out.1.openA hDF hp
    have HC := Lib.hid (HOO.out hc)
    have HCC := Lib.hid hc
    have HDF := Lib.hid hDF
    have HRL : Hid ((opR a b ws ar st).1.length ≤ 100000) := Lib.hid (by rw [← HC.out.2]; exact H.out.2.2.2.2.2)
    obtain ⟨rr, hrr⟩ : ∃ z, z = (opR a b ws ar st).1 := ⟨_, rfl⟩
    rw [← hrr] at hP1 HC HRL ⊢
    have HRR := Lib.hid hrr
    have HP1 := Lib.hid hP1
    clear hp hP1 hc hDF hrr HOO HON p0 q0
    have f1 := HP1.out.fz 1
    have f2 := HP1.out.fz 2
    have f3 := HP1.out.fz 3
    have g1 := HP1.out.c1
    have g2 := HP1.out.c2
    have g3 := HP1.out.c3
    have g4 := HP1.out.c4
    obtain ⟨w2, hw2⟩ : ∃ z, z = ((w1.setCell ⟨A.P, 1, none⟩ (.pointer (some ⟨L, 0, none⟩))).setCell ⟨A.P, 3, none⟩ (.slice LA1 rr.length cap1)).setCell ⟨A.P, 2, none⟩ (.int .i64 0) := ⟨_, rfl⟩
    have hk2 : Kq.Keeps (· = A.P) w1 w2 := by
      rw [hw2]
      exact ((Kq.Keeps.setCell (S := (· = A.P)) _ ⟨A.P, 1, none⟩ _ rfl).trans (Kq.Keeps.setCell (S := (· = A.P)) _ ⟨A.P, 3, none⟩ _ rfl)).trans (Kq.Keeps.setCell (S := (· = A.P)) _ ⟨A.P, 2, none⟩ _ rfl)
    have hb2 : w2.heap[A.P]? = some (.cells (pcells A (.pointer (some ⟨L, 0, none⟩)) (0) (.slice LA1 rr.length cap1) pv) 40 (0, 0)) := by
      rw [hw2]
      exact Kq.blk_set (Kq.blk_set (Kq.blk_set HP1.out.p 1 _) 3 _) 2 _
    have HP2 := Lib.hid ((HP1.out).set hk2 hb2)
    have HW2 := Lib.hid hw2
    clear hk2 hb2 hw2
    go_wp2_with fail
    rw [← HW2.out]
    clear f1 f2 f3 g1 g2 g3 g4
    refine (rv_open_all A.bR A.R a b kb bufR ws ar st w2 HP2.out.r H.out.2.1 H.out.2.2.2.1 H.out.2.2.1).mono ?_
    rintro x w3 (⟨hc2, _, _⟩ | ⟨hc2, hr⟩)
    · exact absurd HCC.out hc2
    obtain ⟨bufR3, Q, LB, capB, rfl, hP3, hB3, hB4⟩ := HP2.out.openB HDF.out hr
    rw [← HRR.out] at hB3 ⊢
    have HP3 := Lib.hid hP3
    have HB3 : Hid (StrsAt w3 LB rr ∧ ∀ g o, LB = some ⟨g, o, none⟩ → A.P < g ∧ A.M < g) := Lib.hid ⟨hB3, fun g o e => by
      have h1 := hB4 g o e
      have h2 := HP2.out.ow.lt 2 A.P ownP.p
      have h3 := HP2.out.ow.lt 3 A.M ownP.m
      omega⟩
    clear hP3 hr hc2 hB3 hB4
    have f5 := HP3.out.fz 5
    have g5 := HP3.out.c5
    obtain ⟨w4, hw4⟩ : ∃ z, z = w3.setCell ⟨A.P, 5, none⟩ (.pointer (some ⟨Q, 0, none⟩)) := ⟨_, rfl⟩
    have hk4 : Kq.Keeps (· = A.P) w3 w4 := by rw [hw4]; exact Kq.Keeps.setCell _ _ _ rfl
    have hb4 : w4.heap[A.P]? = some (.cells (pcells A (.pointer (some ⟨L, 0, none⟩)) (0) (.slice LA1 rr.length cap1) (.pointer (some ⟨Q, 0, none⟩))) 40 (0, 0)) := by
      rw [hw4]
      exact Kq.blk_set HP3.out.p 5 _
    have HP4 := Lib.hid (HP3.out.set hk4 hb4)
    have HB4 : Hid (StrsAt w4 LB rr ∧ ∀ g o, LB = some ⟨g, o, none⟩ → A.M < g) := Lib.hid ⟨HB3.out.1.keepsW hk4 (fun g o _ e hh => by have := (HB3.out.2 g o e).1; omega), fun g o e => (HB3.out.2 g o e).2⟩
    have HW4 := Lib.hid hw4
    clear hk4 hb4 hw4
    go_wp2_with fail
    rw [← HW4.out]
    clear f5 g5
    have HP4d := Lib.hid HP4.out.drew
    refine wp_region_held_drew (S := fun w' => OnC w' A) (by kernel_rfl) HP4d.out.onc (fun hS0 => ?_)
    unfold OnC at hS0
    dsimp only [OnC]
    refine wpAnyH_take (i := 0) (v := ?_) rfl (by kernel_rfl) (by kernel_rfl) (by kernel_rfl) (fun _ _ _ h => h) (Or.inl ⟨by kernel_rfl, ?_⟩) (by assumption) ?_
    rotate_left
    · intro w hSw; (try dsimp only at hSw); go_simp; (try with_reducible rfl)
    refine wpAnyH_take (i := 1) (v := ?_) rfl (by kernel_rfl) (by kernel_rfl) (by kernel_rfl) (fun _ _ _ h => h) (Or.inl ⟨by kernel_rfl, ?_⟩) (by assumption) ?_
    rotate_left
    · intro w hSw; (try dsimp only at hSw); go_simp; (try with_reducible rfl)
    refine wpAnyH_take (i := 2) (v := ?_) rfl (by kernel_rfl) (by kernel_rfl) (by kernel_rfl) (fun _ _ _ h => h) (Or.inl ⟨by kernel_rfl, ?_⟩) (by assumption) ?_
    rotate_left
    · intro w hSw; (try dsimp only at hSw); go_simp; (try with_reducible rfl)
    refine wpAnyH_take (i := 3) (v := ?_) rfl (by kernel_rfl) (by kernel_rfl) (by kernel_rfl) (fun _ _ _ h => h) (Or.inl ⟨by kernel_rfl, ?_⟩) (by assumption) ?_
    rotate_left
    · intro w hSw; (try dsimp only at hSw); go_simp; (try with_reducible rfl)
    refine wpAnyH_take (i := 4) (v := ?_) rfl (by kernel_rfl) (by kernel_rfl) (by kernel_rfl) (fun _ _ _ h => h) (Or.inl ⟨by kernel_rfl, ?_⟩) (by assumption) ?_
    rotate_left
    · intro w hSw; (try dsimp only at hSw); go_simp; (try with_reducible rfl)
    refine wpAnyH_take (i := 5) (v := ?_) rfl (by kernel_rfl) (by kernel_rfl) (by kernel_rfl) (fun _ _ _ h => h) (Or.inl ⟨by kernel_rfl, ?_⟩) (by assumption) ?_
    rotate_left
    · intro w hSw; (try dsimp only at hSw); go_simp; (try with_reducible rfl)
    refine wpAnyH_take (i := 6) (v := ?_) rfl (by kernel_rfl) (by kernel_rfl) (by kernel_rfl) (fun _ _ _ h => h) (Or.inl ⟨by kernel_rfl, ?_⟩) (by assumption) ?_
    rotate_left
    · intro w hSw; (try dsimp only at hSw); go_simp; (try with_reducible rfl)
    refine wpAnyH_take (i := 7) (v := ?_) rfl (by kernel_rfl) (by kernel_rfl) (by kernel_rfl) (fun _ _ _ h => h) (Or.inl ⟨by kernel_rfl, ?_⟩) (by assumption) ?_
    rotate_left
    · intro w hSw; (try dsimp only at hSw); go_simp; (try with_reducible rfl)
    refine wpAnyH_ready (rs := [8]) (by kernel_rfl) (by simp) ?_
    refine AllReadyH.cons rfl (fun K hK => ?_) AllReadyH.nil
    go_simp
    refine (rv_note (K := kb + 1) HP4d.out.r (by rw [Int.toNat_natCast]; exact H1.out.2) HP4d.out.n HP4d.out.mR.1 HP4d.out.mR.2.1 (by have := H.out.2.2.2.2.1; have := H1.out.2.nw; omega) (by have := H.out.2.2.1.a1; omega)).mono ?_
    rintro x w6 ⟨rfl, hn6, hk6⟩
    have hnn : N + (opD a b ws ar st).1.length ≤ N + kb + 1 := by have := H1.out.2.nw; omega
    have hn6' : NotS w6 A.Wh A.M (N + kb + 1) := ⟨hn6.blk, by obtain ⟨f, sz, hm⟩ := hn6.map; exact ⟨f, sz, hm.up hnn⟩, hn6.ne⟩
    have HP6 := Lib.hid (HP4d.out.noteOk hn6' hk6)
    have HB6 : Hid (StrsAt w6 LB rr) := Lib.hid ((HB4.out.1.below (Below.refl _ _).drew).keepsW hk6 (fun g o _ e hh => by have := HB4.out.2 g o e; omega))
    clear hS0 hn6 hk6 hn6' hnn
    refine hK.out _ _ HP6.out.onc (fun hS0 => ?_)
    clear hK K
    refine wpAnyH_done (by kernel_rfl) ?_ _
    clear hS0
    go_simp
    have HP7 := Lib.hid HP6.out.drew
    have HB7 : Hid (StrsAt w6.drew LB rr) := Lib.hid (HB6.out.below (Below.refl _ _).drew)
    go_wp2_with fail
    refine wp_region_held_drew (S := fun w' => OtC w' A (.pointer (some ⟨L, 0, none⟩)) (0) (.slice LA1 rr.length cap1) (.pointer (some ⟨Q, 0, none⟩))) (by kernel_rfl) HP7.out.otc (fun hS0 => ?_)
    generalize w6.drew = w7 at *
    unfold OtC at hS0
    dsimp only [OtC]
    refine wpAnyH_take (i := 0) (v := ?_) rfl (by kernel_rfl) (by kernel_rfl) (by kernel_rfl) (fun _ _ _ h => h) (Or.inl ⟨by kernel_rfl, ?_⟩) (by assumption) ?_
    rotate_left
    · intro w hSw; (try dsimp only at hSw); go_simp; (try with_reducible rfl)
    refine wpAnyH_take (i := 1) (v := ?_) rfl (by kernel_rfl) (by kernel_rfl) (by kernel_rfl) (fun _ _ _ h => h) (Or.inl ⟨by kernel_rfl, ?_⟩) (by assumption) ?_
    rotate_left
    · intro w hSw; (try dsimp only at hSw); go_simp; (try with_reducible rfl)
    refine wpAnyH_take (i := 2) (v := ?_) rfl (by kernel_rfl) (by kernel_rfl) (by kernel_rfl) (fun _ _ _ h => h) (Or.inl ⟨by kernel_rfl, ?_⟩) (by assumption) ?_
    rotate_left
    · intro w hSw; (try dsimp only at hSw); go_simp; (try with_reducible rfl)
    refine wpAnyH_take (i := 3) (v := ?_) rfl (by kernel_rfl) (by kernel_rfl) (by kernel_rfl) (fun _ _ _ h => h) (Or.inl ⟨by kernel_rfl, ?_⟩) (by assumption) ?_
    rotate_left
    · intro w hSw; (try dsimp only at hSw); go_simp; (try with_reducible rfl)
    refine wpAnyH_take (i := 4) (v := ?_) rfl (by kernel_rfl) (by kernel_rfl) (by kernel_rfl) (fun _ _ _ h => h) (Or.inl ⟨by kernel_rfl, ?_⟩) (by assumption) ?_
    rotate_left
    · intro w hSw; (try dsimp only at hSw); go_simp; (try with_reducible rfl)
    refine wpAnyH_take (i := 5) (v := ?_) rfl (by kernel_rfl) (by kernel_rfl) (by kernel_rfl) (fun _ _ _ h => h) (Or.inl ⟨by kernel_rfl, ?_⟩) (by assumption) ?_
    rotate_left
    · intro w hSw; (try dsimp only at hSw); go_simp; (try with_reducible rfl)
    refine wpAnyH_take (i := 6) (v := ?_) rfl (by kernel_rfl) (by kernel_rfl) (by kernel_rfl) (fun _ _ _ h => h) (Or.inl ⟨by kernel_rfl, ?_⟩) (by assumption) ?_
    rotate_left
    · intro w hSw; (try dsimp only at hSw); go_simp; (try with_reducible rfl)
    refine wpAnyH_take (i := 7) (v := ?_) rfl (by kernel_rfl) (by kernel_rfl) (by kernel_rfl) (fun _ _ _ h => h) (Or.inl ⟨by kernel_rfl, ?_⟩) (by assumption) ?_
    rotate_left
    · intro w hSw; (try dsimp only at hSw); go_simp; (try with_reducible rfl)
    refine wpAnyH_take (i := 8) (v := ?_) rfl (by kernel_rfl) (by kernel_rfl) (by kernel_rfl) (fun _ _ _ h => h) (Or.inl ⟨by kernel_rfl, ?_⟩) (by assumption) ?_
    rotate_left
    · intro w hSw; (try dsimp only at hSw); go_simp; (try with_reducible rfl)
    refine wpAnyH_take (i := 9) (v := ?_) rfl (by kernel_rfl) (by kernel_rfl) (by kernel_rfl) (fun _ _ _ h => h) (Or.inl ⟨by kernel_rfl, ?_⟩) (by assumption) ?_
    rotate_left
    · intro w hSw; (try dsimp only at hSw); go_simp; (try with_reducible rfl)
    refine wpAnyH_take (i := 10) (v := ?_) rfl (by kernel_rfl) (by kernel_rfl) (by kernel_rfl) (fun _ _ _ h => h) (Or.inl ⟨by kernel_rfl, ?_⟩) (by assumption) ?_
    rotate_left
    · intro w hSw; (try dsimp only at hSw); go_simp; (try with_reducible rfl)
    refine wpAnyH_take (i := 11) (v := ?_) rfl (by kernel_rfl) (by kernel_rfl) (by kernel_rfl) (fun _ _ _ h => h) (Or.inl ⟨by kernel_rfl, ?_⟩) (by assumption) ?_
    rotate_left
    · intro w hSw; (try dsimp only at hSw); go_simp; (try with_reducible rfl)
    refine wpAnyH_take (i := 12) (v := ?_) rfl (by kernel_rfl) (by kernel_rfl) (by kernel_rfl) (fun _ _ _ h => h) (Or.inl ⟨by kernel_rfl, ?_⟩) (by assumption) ?_
    rotate_left
    · intro w hSw; (try dsimp only at hSw); go_simp; (try with_reducible rfl)
    refine wpAnyH_take (i := 13) (v := ?_) rfl (by kernel_rfl) (by kernel_rfl) (by kernel_rfl) (fun _ _ _ h => h) (Or.inl ⟨by kernel_rfl, ?_⟩) (by assumption) ?_
    rotate_left
    · intro w hSw; (try dsimp only at hSw); go_simp; (try with_reducible rfl)
    refine wpAnyH_take (i := 14) (v := ?_) rfl (by kernel_rfl) (by kernel_rfl) (by kernel_rfl) (fun _ _ _ h => h) (Or.inl ⟨by kernel_rfl, ?_⟩) (by assumption) ?_
    rotate_left
    · intro w hSw; (try dsimp only at hSw); go_simp; (try with_reducible rfl)
    refine wpAnyH_take (i := 15) (v := ?_) rfl (by kernel_rfl) (by kernel_rfl) (by kernel_rfl) (fun _ _ _ h => h) (Or.inl ⟨by kernel_rfl, ?_⟩) (by assumption) ?_
    rotate_left
    · intro w hSw; (try dsimp only at hSw); go_simp; (try with_reducible rfl)
    refine wpAnyH_take (i := 16) (v := ?_) rfl (by kernel_rfl) (by kernel_rfl) (by kernel_rfl) (fun _ _ _ h => h) (Or.inl ⟨by kernel_rfl, ?_⟩) (by assumption) ?_
    rotate_left
    · intro w hSw; (try dsimp only at hSw); go_simp; (try with_reducible rfl)
    refine wpAnyH_take (i := 17) (v := ?_) rfl (by kernel_rfl) (by kernel_rfl) (by kernel_rfl) (fun _ _ _ h => h) (Or.inl ⟨by kernel_rfl, ?_⟩) (by assumption) ?_
    rotate_left
    · intro w hSw; (try dsimp only at hSw); go_simp; (try with_reducible rfl)
    refine wpAnyH_take (i := 18) (v := ?_) rfl (by kernel_rfl) (by kernel_rfl) (by kernel_rfl) (fun _ _ _ h => h) (Or.inl ⟨by kernel_rfl, ?_⟩) (by assumption) ?_
    rotate_left
    · intro w hSw; (try dsimp only at hSw); go_simp; (try with_reducible rfl)
    refine wpAnyH_take (i := 19) (v := ?_) rfl (by kernel_rfl) (by kernel_rfl) (by kernel_rfl) (fun _ _ _ h => h) (Or.inl ⟨by kernel_rfl, ?_⟩) (by assumption) ?_
    rotate_left
    · intro w hSw; (try dsimp only at hSw); go_simp; (try with_reducible rfl)
    refine wpAnyH_take (i := 20) (v := ?_) rfl (by kernel_rfl) (by kernel_rfl) (by kernel_rfl) (fun _ _ _ h => h) (Or.inl ⟨by kernel_rfl, ?_⟩) (by assumption) ?_
    rotate_left
    · intro w hSw; (try dsimp only at hSw); go_simp; (try with_reducible rfl)
    refine wpAnyH_take (i := 21) (v := ?_) rfl (by kernel_rfl) (by kernel_rfl) (by kernel_rfl) (fun _ _ _ h => h) (Or.inl ⟨by kernel_rfl, ?_⟩) (by assumption) ?_
    rotate_left
    · intro w hSw; (try dsimp only at hSw); go_simp; (try with_reducible rfl)
    refine wpAnyH_take (i := 22) (v := ?_) rfl (by kernel_rfl) (by kernel_rfl) (by kernel_rfl) (fun _ _ _ h => h) (Or.inl ⟨by kernel_rfl, ?_⟩) (by assumption) ?_
    rotate_left
    · intro w hSw; (try dsimp only at hSw); go_simp; (try with_reducible rfl)
    refine wpAnyH_take (i := 23) (v := ?_) rfl (by kernel_rfl) (by kernel_rfl) (by kernel_rfl) (fun _ _ _ h => h) (Or.inl ⟨by kernel_rfl, ?_⟩) (by assumption) ?_
    rotate_left
    · intro w hSw; (try dsimp only at hSw); go_simp; (try with_reducible rfl)
    refine wpAnyH_take (i := 24) (v := ?_) rfl (by kernel_rfl) (by kernel_rfl) (by kernel_rfl) (fun _ _ _ h => h) (Or.inl ⟨by kernel_rfl, ?_⟩) (by assumption) ?_
    rotate_left
    · intro w hSw; (try dsimp only at hSw); go_simp; (try with_reducible rfl)
    refine wpAnyH_ready (rs := [25]) (by kernel_rfl) (by simp) ?_
    refine AllReadyH.cons rfl (fun K hK => ?_) AllReadyH.nil
    go_simp
    refine (rf_texts LA1 LB cap1 capB rr rr w7 HRL.out HRL.out HP7.out.recs HB7.out).mono ?_
    rintro x w8 ⟨rfl, hb8⟩
    have HP8 := Lib.hid (HP7.out.below hb8)
    clear hS0 hb8
    refine hK.out _ _ HP8.out.otc (fun hS0 => ?_)
    clear hK K
    have htt : decide (rr = rr) = true := decide_eq_true rfl
    refine wpAnyH_take (i := 26) (v := ?_) rfl (by kernel_rfl) (by kernel_rfl) (by kernel_rfl) (fun _ _ _ h => h) (Or.inl ⟨by kernel_rfl, ?_⟩) (by assumption) ?_
    rotate_left
    · intro w hSw; (try dsimp only at hSw); go_simp; (try with_reducible rfl)
    refine wpAnyH_take (i := 27) (v := ?_) rfl (by kernel_rfl) (by kernel_rfl) (by kernel_rfl) (fun _ _ _ h => h) (Or.inl ⟨by kernel_rfl, ?_⟩) (by assumption) ?_
    rotate_left
    · intro w hSw; (try dsimp only at hSw); go_simp; (try with_reducible rfl)
    refine wpAnyH_done (by kernel_rfl) ?_ _
    clear hS0
    go_simp
    go_wp2
    go_ret
    refine ⟨by simp, ?_⟩
    rw [HC.out.1, HC.out.2]
    have h := HP8.out
    rw [HCC.out]
    exact ⟨bufD1, bufR3, some (L, opV a b ws ar st), some (Q, opV a b ws ar st), LA1, cap1, h, rfl, rfl⟩
end Go.Proofs.YtbpgfhcecanikaaGreat
namespace Go.Proofs.YtbpgfhcecanikaaGreat
open Go.RowKit
set_option linter.unusedVariables false
set_option linter.unusedSimpArgs false
theorem piece_last (r : Nat) (s : ByteArray) (k : Nat) (h : s.size < (k + 1) * r) : s.extract (k * r) s.size = pieceC r s k := by
  unfold pieceC
  apply nl_inj
  rw [nl_extract, nl_extract, List.take_of_length_le (by rw [List.length_drop, nl_length]; omega), List.take_of_length_le (by rw [List.length_drop, nl_length]; omega)]
set_option maxRecDepth 100000 in
set_option maxHeartbeats 2000000 in
theorem rf_split_in (a g x : Nat) (s : ByteArray) (w : World) (ha : 64 ≤ a) (h5 : a ≤ 512) (hs : s.size ≤ 4096) (hg : g < M64) (hx : x < M64) :
    Calls Tryz.prog 56 #[.int .i64 (a : Int), .int .u64 (g : Int), .int .u64 (x : Int), .string s] w (SplitPost a g x s w) := by
  obtain ⟨j0, ji, jz0, jz1, jz2⟩ := info_parts infoStr
  have HPN := Lib.hid (nParts_le a s.size ha hs)
  have HP := Lib.hid (fun (w : World) => rf_parts a s.size w)
  have ep : frParts (a : Int) (s.size : Int) = ((nParts a s.size : Nat) : Int) := by unfold frParts; rw [if_pos (by unfold FrSz; omega)]; rfl
  rw [ep] at HP
  have HA := Lib.hid (And.intro ha (And.intro h5 (And.intro hs (And.intro hg hx))))
  have ha1 : 64 ≤ (a : Int) := by omega
  have ha2 : (a : Int) ≤ 512 := by omega
  obtain ⟨n, hn⟩ : ∃ z, z = nParts a s.size := ⟨_, rfl⟩
  rw [← hn] at HPN HP
  have HNN := Lib.hid hn
  have hn0 : ((n : Int) == 0) = false := by have := HPN.out; simp; omega
  have hn0' : (n == 0) = false := by have := HPN.out; simp; omega
  have HPS : Hid (∀ v wz, wz.ownsRow w.heap.size 9 1 v n (tcells ((List.range n).map (secF a g x n s))) → Below w.heap.size w wz → SplitPost a g x s w (.returned (.tuple #[v, .int .i64 0])) wz) := Lib.hid (by
    intro v wz h1 h2
    have e : frSplit (a : Int) g x s = ((List.range n).map (secF a g x n s), 0) := by
      unfold frSplit
      rw [if_pos (by unfold FrSz; omega), Int.toNat_natCast, ← hn]
    unfold SplitPost
    rw [e]
    refine ⟨v, rfl, ?_, h2⟩
    simp only [List.length_map, List.length_range]
    exact h1)
  clear hn ha h5 hs hg hx ep
  go_enter Tryz.func56, Tryz.ntmps56
  go_wp2_with fail
  refine (HP.out _).mono ?_
  rintro e w1 ⟨rfl, rfl⟩
  go_wp2
  clear hn0 hn0'
  go_loopg [11, 12] n (fun gk v i wr => ∃ (k : Nat), k + gk = n ∧ i = .int .i64 (k : Int) ∧ wr.ownsRow w.heap.size 9 1 v k (tcells ((List.range k).map (secF a g x n s))) ∧ Below w.heap.size w wr)
  case atStart => exact ⟨0, by omega, rfl, World.ownsRow_nil _ _ _ _, Below.refl _ _⟩
  case round =>
    obtain ⟨k, hgk, rfl, hrow, hbel⟩ := hrel
    have HU := Lib.hid (And.intro hrow hbel)
    have HGK := Lib.hid hgk
    have hn106 : n ≤ 106 := HPN.out.2
    obtain ⟨A, m, cap, rfl⟩ := Kq.own_shape hrow
    clear hrow hbel
    by_cases hkn : k < n
    · have d0 : decide ((k : Int) < (n : Int)) = true := decide_eq_true (by omega)
      have d1 : decide (k < n) = true := decide_eq_true hkn
      have hr : (a : Int) - 25 = ((a - 25 : Nat) : Int) := by have := HA.out; omega
      have hk1 : (k : Int) + 1 = ((k + 1 : Nat) : Int) := by omega
      have hin := nParts_in a s.size k HA.out.1 (by rw [← HNN.out]; exact hkn)
      have HSC : Hid (secF a g x n s k = frSec a ⟨g, x, k, n, pieceC (a - 25) s k⟩) := Lib.hid rfl
      have HPZ := Lib.hid (piece_size (a - 25) s k)
      have HPL := Lib.hid (piece_last (a - 25) s k)
      have HPD : Hid (pieceC (a - 25) s k = s.extract (k * (a - 25)) ((k + 1) * (a - 25))) := Lib.hid rfl
      have KS := Lib.hid (fun w (d : ByteArray) (hd : d.size ≤ a - 25) => rf_sector a ⟨g, x, k, n, d⟩ w HA.out.1 HA.out.2.1 HA.out.2.2.2.1 HA.out.2.2.2.2 (by show k ≤ 255; omega) (by show n ≤ 255; omega) hd)
      simp only at KS
      have hm1 : (k : Int) * ((a : Int) - 25) = ((k * (a - 25) : Nat) : Int) := by rw [hr, Int.natCast_mul]
      have hmb : (k + 1) * (a - 25) ≤ 107 * 487 := Nat.mul_le_mul (by omega) (by have := HA.out; omega)
      have hmle : k * (a - 25) ≤ (k + 1) * (a - 25) := Nat.mul_le_mul_right _ (by omega)
      obtain ⟨k2, hk2⟩ : ∃ z, z = k + 1 := ⟨_, rfl⟩
      rw [← hk2] at hk1 hmb hmle HPL HPD
      have hm2 : (k2 : Int) * ((a : Int) - 25) = ((k2 * (a - 25) : Nat) : Int) := by rw [hr, Int.natCast_mul]
      have HK2 := Lib.hid hk2
      have hk106 : k ≤ 106 := by omega
      have HKN := Lib.hid hkn
      clear hr hk2 hkn hgk
      generalize k2 * (a - 25) = tz at *
      generalize k * (a - 25) = fr at *
      generalize hpc : pieceC (a - 25) s k = pc at *
      have HPC := Lib.hid hpc
      have hft : (fr : Int) ≤ (tz : Int) := by omega
      have hfs : (fr : Int) ≤ (s.size : Int) := by omega
      have hs4 := HA.out.2.2.1
      clear hpc
      have fin : ∀ (wr2 : World) (v' : Value), True := fun _ _ => trivial
      clear fin
      by_cases hts : s.size < tz
      · have t0 : decide ((s.size : Int) < (tz : Int)) = true := decide_eq_true (by omega)
        have t0' : decide (s.size < tz) = true := decide_eq_true hts
        have hx1 := HPL.out hts
        clear hts
        go_wp2_with fail
        refine (KS.out wr pc HPZ.out).mono ?_
        rw [← HSC.out]
        rintro e w2 ⟨rfl, b2⟩
        have H2 := Lib.hid (And.intro (fr_row_below HU.out.1 b2) (HU.out.2.trans (b2.mono HU.out.2.size)))
        clear b2
        generalize hsf : secF a g x n s k = FS at *
        have HSF := Lib.hid hsf
        clear hsf
        go_wp2_with (at_builtin; refine Kq.wpList_append_any _ rfl (.tmp 41) (.tmp 52) 35 35 rfl w.heap.size 9 j0 (.string ⟨#[]⟩) 1 16 Tryz.underlying35 ji jz0 jz1 jz2 rfl (by decide) (.slice A m cap) k (tcells ((List.range k).map (secF a g x n s))) rfl (H2.out.1.alloc _) (.slice (some ⟨w2.heap.size, 0, none⟩) 1 1) 1 (tcells [FS]) rfl ?hs ?h1 ?h2 ?h3 ?_)
        case hs => exact fr_src_text w2 FS 1 _
        case h1 => unfold maxLen; omega
        case h2 => omega
        case h3 => have := H2.out.2.size; simp; omega
        intro v' w3 hown hgrow hfresh
        have hkk := Kq.Keeps.grown (S := fun j => w.heap.size ≤ j) hgrow (fun j _ hj => own_ge HU.out.1 hj)
        have HF := Lib.hid (And.intro hown ((H2.out.2.trans ((Kq.below_alloc w2 (.cells #[.string FS] 9)).mono H2.out.2.size)).trans (hkk.below (by have := H2.out.2.size; simp; omega) (fun j _ e => e))))
        obtain ⟨A', m', cap', hv'⟩ := Kq.own_shape hown
        clear hown hgrow hfresh hkk
        rw [hv'] at HF ⊢
        clear hv'
        go_wp2
        go_roundg (n - (k + 1))
        case measure => have := HGK.out; have := HK2.out; have := HKN.out; omega
        case rel =>
          refine ⟨k2, by have := HGK.out; have := HK2.out; have := HKN.out; omega, rfl, ?_, HF.out.2⟩
          rw [HK2.out, List.range_succ, List.map_append, tcells_append]
          have h := HF.out.1
          rw [← HSF.out] at h
          exact h
      · have t0 : decide ((s.size : Int) < (tz : Int)) = false := decide_eq_false (by omega)
        have t0' : decide (s.size < tz) = false := decide_eq_false hts
        have hts2 : (tz : Int) ≤ (s.size : Int) := by omega
        have hx1 := HPD.out.symm
        clear hts
        go_wp2_with fail
        refine (KS.out wr pc HPZ.out).mono ?_
        rw [← HSC.out]
        rintro e w2 ⟨rfl, b2⟩
        have H2 := Lib.hid (And.intro (fr_row_below HU.out.1 b2) (HU.out.2.trans (b2.mono HU.out.2.size)))
        clear b2
        generalize hsf : secF a g x n s k = FS at *
        have HSF := Lib.hid hsf
        clear hsf
        go_wp2_with (at_builtin; refine Kq.wpList_append_any _ rfl (.tmp 41) (.tmp 52) 35 35 rfl w.heap.size 9 j0 (.string ⟨#[]⟩) 1 16 Tryz.underlying35 ji jz0 jz1 jz2 rfl (by decide) (.slice A m cap) k (tcells ((List.range k).map (secF a g x n s))) rfl (H2.out.1.alloc _) (.slice (some ⟨w2.heap.size, 0, none⟩) 1 1) 1 (tcells [FS]) rfl ?hs ?h1 ?h2 ?h3 ?_)
        case hs => exact fr_src_text w2 FS 1 _
        case h1 => unfold maxLen; omega
        case h2 => omega
        case h3 => have := H2.out.2.size; simp; omega
        intro v' w3 hown hgrow hfresh
        have hkk := Kq.Keeps.grown (S := fun j => w.heap.size ≤ j) hgrow (fun j _ hj => own_ge HU.out.1 hj)
        have HF := Lib.hid (And.intro hown ((H2.out.2.trans ((Kq.below_alloc w2 (.cells #[.string FS] 9)).mono H2.out.2.size)).trans (hkk.below (by have := H2.out.2.size; simp; omega) (fun j _ e => e))))
        obtain ⟨A', m', cap', hv'⟩ := Kq.own_shape hown
        clear hown hgrow hfresh hkk
        rw [hv'] at HF ⊢
        clear hv'
        go_wp2
        go_roundg (n - (k + 1))
        case measure => have := HGK.out; have := HK2.out; have := HKN.out; omega
        case rel =>
          refine ⟨k2, by have := HGK.out; have := HK2.out; have := HKN.out; omega, rfl, ?_, HF.out.2⟩
          rw [HK2.out, List.range_succ, List.map_append, tcells_append]
          have h := HF.out.1
          rw [← HSF.out] at h
          exact h
    · have d0 : decide ((k : Int) < (n : Int)) = false := decide_eq_false (by omega)
      have d1 : decide (k < n) = false := decide_eq_false hkn
      obtain rfl : k = n := by omega
      clear hkn hgk
      go_wp2
      go_ret2
      exact HPS.out _ _ HU.out.1 HU.out.2
set_option maxRecDepth 100000 in
set_option maxHeartbeats 2000000 in
theorem rf_split_no (a : Int) (g x : Nat) (s : ByteArray) (w : World) (h : ¬ (FrSz a ∧ s.size ≤ 4096)) :
    Calls Tryz.prog 56 #[.int .i64 a, .int .u64 (g : Int), .int .u64 (x : Int), .string s] w (SplitPost a g x s w) := by
  have HP := Lib.hid (fun (w : World) => rf_parts a s.size w)
  have ep : frParts a (s.size : Int) = 0 := by unfold frParts; rw [if_neg (fun hh => h ⟨hh.1, by have := hh.2.2; omega⟩)]
  rw [ep] at HP
  have HPS : Hid (∀ wz, Below w.heap.size w wz → SplitPost a g x s w (.returned (.tuple #[.slice none 0 0, .int .i64 1])) wz) := Lib.hid (by
    intro wz hb
    have e : frSplit a g x s = ([], 1) := by unfold frSplit; rw [if_neg h]
    unfold SplitPost
    rw [e]
    exact ⟨_, rfl, World.ownsRow_nil _ _ _ _, hb⟩)
  clear h ep
  go_enter Tryz.func56, Tryz.ntmps56
  go_wp2_with fail
  refine (HP.out _).mono ?_
  rintro e w1 ⟨rfl, rfl⟩
  go_wp2
  go_ret2
  exact HPS.out _ (Below.refl _ _)
theorem rf_split (a : Int) (g x : Nat) (s : ByteArray) (w : World) (hg : g < M64) (hx : x < M64) :
    Calls Tryz.prog 56 #[.int .i64 a, .int .u64 (g : Int), .int .u64 (x : Int), .string s] w (SplitPost a g x s w) := by
  by_cases h : FrSz a ∧ s.size ≤ 4096
  · obtain ⟨⟨h1, h2⟩, h3⟩ := h
    obtain ⟨n, rfl⟩ := Int.eq_ofNat_of_zero_le (show 0 ≤ a by omega)
    exact rf_split_in n g x s w (by omega) (by omega) h3 hg hx
  · exact rf_split_no a g x s w h
end Go.Proofs.YtbpgfhcecanikaaGreat
