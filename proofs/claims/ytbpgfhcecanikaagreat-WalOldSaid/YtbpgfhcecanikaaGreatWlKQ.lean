/- Contract of a log's Checkpoint. Condition: sizes. -/
import Derived.WalkSpells
import Derived.Outline
import Derived.Deep.QuietTactic
import Derived.Deep.RegionHeld
import Derived.Test.YtbpgfhcecanikaaGreatWlJQ
import Derived.Test.YtbpgfhcecanikaaGreatWlIQ
import Derived.Test.YtbpgfhcecanikaaGreatFrPartsQ
namespace Go.Proofs.YtbpgfhcecanikaaGreat
open Go.RowKit
set_option linter.unusedVariables false
def BxS (w : World) (P3 : Nat) (s : ByteArray) : Prop := w.heap[P3]? = some (.cells #[.string s] 9 (0, 0))
def BxN (w : World) (P5 : Nat) (n : Int) : Prop := w.heap[P5]? = some (.cells #[.int .i64 n] 3 (0, 0))
def CxC (w : World) (P2 P3 R B a b : Nat) (s : ByteArray) : Prop := w.cell? ⟨P2, 0, none⟩ = some (.pointer (some ⟨R, 0, none⟩)) ∧ w.cell? ⟨P3, 0, none⟩ = some (.string s) ∧ w.cell? ⟨R, 0, none⟩ = some (.pointer (some ⟨B, 0, none⟩)) ∧ w.cell? ⟨B, 0, none⟩ = some (.int .i64 (a : Int)) ∧ w.cell? ⟨B, 1, none⟩ = some (.int .i64 (b : Int))
def C6 (w : World) (P2 P5 R : Nat) (n : Int) : Prop := w.cell? ⟨P2, 0, none⟩ = some (.pointer (some ⟨R, 0, none⟩)) ∧ w.cell? ⟨P5, 0, none⟩ = some (.int .i64 n)
/-- in the midst of Checkpoint -/
structure CpI (w z : World) (base B S a b R : Nat) (buf : Value) (ws : List (Int × ByteArray)) (ar : Nat) (st : List Nat) (v : WalV) (P2 P3 : Nat) (s : ByteArray) : Prop where
  box : BxP z P2 R
  b3 : BxS z P3 s
  s : WlS z base B S a b R buf ws ar st v
  bel : Below w.heap.size w z
  hP : w.heap.size ≤ P2 ∧ w.heap.size ≤ P3
section
variable {w z z' : World} {base B S a b R P2 P3 P5 : Nat} {buf : Value} {ws : List (Int × ByteArray)} {ar : Nat} {st : List Nat} {v : WalV} {s : ByteArray}
theorem CpI.below (h : CpI w z base B S a b R buf ws ar st v P2 P3 s) (hb : Below z.heap.size z z') : CpI w z' base B S a b R buf ws ar st v P2 P3 s := ⟨Kq.below_blk hb h.box (Kq.blk_lt h.box), Kq.below_blk hb h.b3 (Kq.blk_lt h.b3), h.s.below hb, h.bel.trans (hb.mono h.bel.size), h.hP⟩
theorem CpI.cxc (h : CpI w z base B S a b R buf ws ar st v P2 P3 s) : CxC z P2 P3 R B a b s := ⟨Kq.blk_cell h.box 0, Kq.blk_cell h.b3 0, h.s.c0, h.s.d.d.c0, h.s.d.d.c1⟩
theorem CpI.c6 (h : CpI w z base B S a b R buf ws ar st v P2 P3 s) {n : Int} (h5 : BxN z P5 n) : C6 z P2 P5 R n := ⟨Kq.blk_cell h.box 0, Kq.blk_cell h5 0⟩
theorem CpI.set5 (h : CpI w z base B S a b R buf ws ar st v P2 P3 s) {x y : Int} (h5 : BxN z P5 x) (hne : P5 ≠ P2 ∧ P5 ≠ P3) (hw : w.heap.size ≤ P5) (hlt : ∀ j, Own B S buf j ∨ j = R → j < w.heap.size) : CpI w (z.setCell ⟨P5, 0, none⟩ (.int .i64 y)) base B S a b R buf ws ar st v P2 P3 s ∧ BxN (z.setCell ⟨P5, 0, none⟩ (.int .i64 y)) P5 y := by
  have hk : Kq.Keeps (· = P5) z (z.setCell ⟨P5, 0, none⟩ (.int .i64 y)) := Kq.Keeps.setCell _ _ _ rfl
  refine ⟨⟨hk.blk h.box (fun e => hne.1 e.symm), hk.blk h.b3 (fun e => hne.2 e.symm), ⟨h.s.d.keeps hk (fun j hj e => by have := hlt j (Or.inl hj); omega), hk.blk h.s.blk (fun e => by have := hlt R (Or.inr rfl); omega), h.s.sep⟩, h.bel.trans (hk.below h.bel.size (fun k _ e => by omega)), h.hP⟩, ?_⟩
  exact Kq.blk_set h5 0 (.int .i64 y)
end
set_option maxRecDepth 100000 in
set_option maxHeartbeats 2000000 in
theorem wl_ckpt_broken {w : World} {base B S a b R N : Nat} {buf : Value} {ws : List (Int × ByteArray)} {ar : Nat} {st : List Nat} {v : WalV} (h : WlS w base B S a b R buf ws ar st v) (ho : StOk a b N ws ar st) (hN : N + 420 ≤ 1000000) (hn : a * b ≤ 3000000) (ha : 64 ≤ a) (ha2 : a ≤ 512) (hb : 4 ≤ b) (hb2 : b ≤ 5000) (hsg : v.sg ≤ 1) (hsl : v.slot ≤ 1) (hg : v.g < M64) (s : ByteArray) (hsz : s.size ≤ 1000000) (hbr : v.broken = true) :
    Calls Tryz.prog 25 #[.pointer (some ⟨R, 0, none⟩), .string s] w fun x w' => x = .returned (.int .i64 14) ∧ WoP w base B S a b R buf ws ar st v w' := by
  obtain ⟨w1, hw1⟩ : ∃ z, z = w.alloc (.cells #[.pointer (some ⟨R, 0, none⟩)] 33) := ⟨_, rfl⟩
  obtain ⟨P2, hP2⟩ : ∃ z, z = w.heap.size := ⟨_, rfl⟩
  have hb1 : Below w.heap.size w w1 := by rw [hw1]; exact Kq.below_alloc _ _
  obtain ⟨w2, hw2⟩ : ∃ z, z = w1.alloc (.cells #[.string s] 9) := ⟨_, rfl⟩
  obtain ⟨P3, hP3⟩ : ∃ z, z = w.heap.size + 1 := ⟨_, rfl⟩
  have hz1 : w1.heap.size = w.heap.size + 1 := by rw [hw1]; exact Array.size_push _
  have hb2' : Below w1.heap.size w1 w2 := by rw [hw2]; exact Kq.below_alloc _ _
  have hx2 : BxP w1 P2 R := by unfold BxP; rw [hw1, hP2]; exact Kq.blk_new _ _ _ _
  have hI1 : CpI w w2 base B S a b R buf ws ar st v P2 P3 s := ⟨Kq.below_blk hb2' hx2 (Kq.blk_lt hx2), by unfold BxS; rw [hw2, hP3, ← hz1]; exact Kq.blk_new _ _ _ _, (h.below hb1).below hb2', hb1.trans (hb2'.mono hb1.size), by omega, by omega⟩
  have HLT : Hid (∀ j, Own B S buf j ∨ j = R → j < w.heap.size) := Lib.hid (fun j hj => hj.elim (fun e => h.d.own_lt e) (fun e => by rw [e]; exact h.lt))
  have I1 := Lib.hid hI1
  have c7 := h.c7
  have hRl := h.lt
  have hRn : ¬ R = w.heap.size := by omega
  have hRn2 : ¬ R = w.heap.size + 1 := by omega
  have HW1 := Lib.hid (And.intro hw1 (And.intro hw2 (And.intro hP2 hP3)))
  have HH := Lib.hid (And.intro ho (And.intro hN (And.intro hn (And.intro ha (And.intro ha2 (And.intro hb (And.intro hb2 (And.intro hsg (And.intro hsl hg)))))))))
  clear hw1 hP2 hb1 hI1 h ho hN hn hb hb2 hsg hsl hg hw2 hP3 hz1 hb2' hx2
  go_enter Tryz.func25, Tryz.ntmps25
  rw [hbr] at c7
  go_wp2
  rw [← HW1.out.1, ← HW1.out.2.1]
  go_ret
  exact ⟨rfl, WoP.from I1.out.bel (WoP.here I1.out.s)⟩
set_option maxRecDepth 100000 in
set_option maxHeartbeats 2000000 in
theorem wl_ckpt_range {w : World} {base B S a b R N : Nat} {buf : Value} {ws : List (Int × ByteArray)} {ar : Nat} {st : List Nat} {v : WalV} (h : WlS w base B S a b R buf ws ar st v) (ho : StOk a b N ws ar st) (hN : N + 420 ≤ 1000000) (hn : a * b ≤ 3000000) (ha : 64 ≤ a) (ha2 : a ≤ 512) (hb : 4 ≤ b) (hb2 : b ≤ 5000) (hsg : v.sg ≤ 1) (hsl : v.slot ≤ 1) (hg : v.g < M64) (s : ByteArray) (hsz : s.size ≤ 1000000) (hbr : v.broken = false) (hs : ¬ s.size ≤ 4096) :
    Calls Tryz.prog 25 #[.pointer (some ⟨R, 0, none⟩), .string s] w fun x w' => x = .returned (.int .i64 1) ∧ WoP w base B S a b R buf ws ar st v w' := by
  obtain ⟨NP, hNP⟩ : ∃ z, z = frParts (a : Int) (s.size : Int) := ⟨_, rfl⟩
  have hNP0 : NP = 0 := by rw [hNP]; unfold frParts; rw [if_neg (fun h => hs (by omega))]
  have HNP := Lib.hid hNP.symm
  have d0 : (NP == 0) = true := by rw [hNP0]; rfl
  clear hNP hNP0
  obtain ⟨w1, hw1⟩ : ∃ z, z = w.alloc (.cells #[.pointer (some ⟨R, 0, none⟩)] 33) := ⟨_, rfl⟩
  obtain ⟨P2, hP2⟩ : ∃ z, z = w.heap.size := ⟨_, rfl⟩
  have hb1 : Below w.heap.size w w1 := by rw [hw1]; exact Kq.below_alloc _ _
  obtain ⟨w2, hw2⟩ : ∃ z, z = w1.alloc (.cells #[.string s] 9) := ⟨_, rfl⟩
  obtain ⟨P3, hP3⟩ : ∃ z, z = w.heap.size + 1 := ⟨_, rfl⟩
  have hz1 : w1.heap.size = w.heap.size + 1 := by rw [hw1]; exact Array.size_push _
  have hb2' : Below w1.heap.size w1 w2 := by rw [hw2]; exact Kq.below_alloc _ _
  have hx2 : BxP w1 P2 R := by unfold BxP; rw [hw1, hP2]; exact Kq.blk_new _ _ _ _
  have hI1 : CpI w w2 base B S a b R buf ws ar st v P2 P3 s := ⟨Kq.below_blk hb2' hx2 (Kq.blk_lt hx2), by unfold BxS; rw [hw2, hP3, ← hz1]; exact Kq.blk_new _ _ _ _, (h.below hb1).below hb2', hb1.trans (hb2'.mono hb1.size), by omega, by omega⟩
  have HLT : Hid (∀ j, Own B S buf j ∨ j = R → j < w.heap.size) := Lib.hid (fun j hj => hj.elim (fun e => h.d.own_lt e) (fun e => by rw [e]; exact h.lt))
  have I1 := Lib.hid hI1
  have c7 := h.c7
  have hRl := h.lt
  have hRn : ¬ R = w.heap.size := by omega
  have hRn2 : ¬ R = w.heap.size + 1 := by omega
  have HW1 := Lib.hid (And.intro hw1 (And.intro hw2 (And.intro hP2 hP3)))
  have HH := Lib.hid (And.intro ho (And.intro hN (And.intro hn (And.intro ha (And.intro ha2 (And.intro hb (And.intro hb2 (And.intro hsg (And.intro hsl hg)))))))))
  clear hw1 hP2 hb1 hI1 h ho hN hn hb hb2 hsg hsl hg hw2 hP3 hz1 hb2' hx2
  go_enter Tryz.func25, Tryz.ntmps25
  rw [hbr] at c7
  go_wp2_with fail
  rw [← HW1.out.1, ← HW1.out.2.1, ← HW1.out.2.2.2, ← HW1.out.2.2.1]
  clear hRl hRn hRn2 c7 ha ha2 hsz
  have I2 : Hid (CpI w w2.drew base B S a b R buf ws ar st v P2 P3 s) := Lib.hid (I1.out.below (Below.refl _ _).drew)
  refine wp_region_held_drew (S := fun w' => CxC w' P2 P3 R B a b s) (by kernel_rfl) I2.out.cxc (fun hS0 => ?_)
  generalize w2.drew = z2 at *
  unfold CxC at hS0
  dsimp only [CxC]
  refine wpAnyH_take (i := 0) (v := ?_) rfl (by kernel_rfl) (by kernel_rfl) (by kernel_rfl) (fun _ _ _ h => h) (Or.inl ⟨by kernel_rfl, ?_⟩) (by assumption) ?_
  rotate_left
  · intro w hSw; (try dsimp only at hSw); go_simp; (try with_reducible rfl)
  refine wpAnyH_take (i := 1) (v := ?_) rfl (by kernel_rfl) (by kernel_rfl) (by kernel_rfl) (fun _ _ _ h => h) (Or.inl ⟨by kernel_rfl, ?_⟩) (by assumption) ?_
  rotate_left
  · intro w hSw; (try dsimp only at hSw); go_simp; (try with_reducible rfl)
  refine wpAnyH_take (i := 2) (v := ?_) rfl (by kernel_rfl) (by kernel_rfl) (by kernel_rfl) (fun _ _ _ h => h) (Or.inl ⟨by kernel_rfl, ?_⟩) (by assumption) ?_
  rotate_left
  · intro w hSw; (try dsimp only at hSw); go_simp; (try with_reducible rfl)
  refine wpAnyH_take (i := 3) (v := ?_) rfl (by kernel_rfl) (by kernel_rfl) (by kernel_rfl) (fun _ _ _ h => h) (Or.inl ⟨by kernel_rfl, ?_⟩) (by assumption) ?_
  rotate_left
  · intro w hSw; (try dsimp only at hSw); go_simp; (try with_reducible rfl)
  refine wpAnyH_take (i := 4) (v := ?_) rfl (by kernel_rfl) (by kernel_rfl) (by kernel_rfl) (fun _ _ _ h => h) (Or.inl ⟨by kernel_rfl, ?_⟩) (by assumption) ?_
  rotate_left
  · intro w hSw; (try dsimp only at hSw); go_simp; (try with_reducible rfl)
  refine wpAnyH_take (i := 5) (v := ?_) rfl (by kernel_rfl) (by kernel_rfl) (by kernel_rfl) (fun _ _ _ h => h) (Or.inl ⟨by kernel_rfl, ?_⟩) (by assumption) ?_
  rotate_left
  · intro w hSw; (try dsimp only at hSw); go_simp; (try with_reducible rfl)
  refine wpAnyH_take (i := 6) (v := ?_) rfl (by kernel_rfl) (by kernel_rfl) (by kernel_rfl) (fun _ _ _ h => h) (Or.inl ⟨by kernel_rfl, ?_⟩) (by assumption) ?_
  rotate_left
  · intro w hSw; (try dsimp only at hSw); go_simp; (try with_reducible rfl)
  refine wpAnyH_take (i := 8) (v := ?_) rfl (by kernel_rfl) (by kernel_rfl) (by kernel_rfl) (fun _ _ _ h => h) (Or.inl ⟨by kernel_rfl, ?_⟩) (by assumption) ?_
  rotate_left
  · intro w hSw; (try dsimp only at hSw); go_simp; (try with_reducible rfl)
  refine wpAnyH_take (i := 9) (v := ?_) rfl (by kernel_rfl) (by kernel_rfl) (by kernel_rfl) (fun _ _ _ h => h) (Or.inl ⟨by kernel_rfl, ?_⟩) (by assumption) ?_
  rotate_left
  · intro w hSw; (try dsimp only at hSw); go_simp; (try with_reducible rfl)
  refine wpAnyH_ready (rs := [7, 11]) (by kernel_rfl) (by simp) ?_
  refine (AllReadyH.cons rfl (fun K hK => ?_) (AllReadyH.cons rfl (fun K hK => ?_) AllReadyH.nil))
  · skip
    go_simp
    refine (dk_size (a : Int) (b : Int) z2).mono ?_
    rintro x z3 ⟨rfl, hb⟩
    have I3 := Lib.hid (I2.out.below hb)
    clear hb hS0
    refine hK.out _ _ I3.out.cxc (fun hS0 => ?_)
    clear hK K
    refine wpAnyH_ready (rs := [10, 11]) (by kernel_rfl) (by simp) ?_
    refine (AllReadyH.cons rfl (fun K hK => ?_) (AllReadyH.cons rfl (fun K hK => ?_) AllReadyH.nil))
    · skip
      go_simp
      refine (fr_parts (a : Int) (s.size : Int) z3).mono ?_
      rintro x _ ⟨rfl, rfl⟩
      rw [HNP.out]
      clear hS0
      refine hK.out _ _ I3.out.cxc (fun hS0 => ?_)
      clear hK K
      refine wpAnyH_ready (rs := [11]) (by kernel_rfl) (by simp) ?_
      refine AllReadyH.cons rfl (fun K hK => ?_) AllReadyH.nil
      go_simp
      obtain ⟨z4, hz⟩ : ∃ z, z = z3.alloc (.cells #[.int .i64 0] 3) := ⟨_, rfl⟩
      obtain ⟨P5, hP5⟩ : ∃ z, z = z3.heap.size := ⟨_, rfl⟩
      have hb : Below z3.heap.size z3 z4 := by rw [hz]; exact Kq.below_alloc _ _
      have X5 : Hid (BxN z4 P5 0 ∧ (P5 ≠ P2 ∧ P5 ≠ P3) ∧ w.heap.size ≤ P5) := Lib.hid ⟨by unfold BxN; rw [hz, hP5]; exact Kq.blk_new _ _ _ _, ⟨by have := Kq.blk_lt I3.out.box; omega, by have := Kq.blk_lt I3.out.b3; omega⟩, by have := I3.out.bel.size; omega⟩
      rw [← hz, ← hP5]
      have I4 := Lib.hid (I3.out.below hb)
      clear hb hS0 hz hP5
      refine hK.out _ _ I4.out.cxc (fun hS0 => ?_)
      clear hK K
      have f5 := Kq.blk_free X5.out.1 0
      have k5 := Kq.blk_cell X5.out.1 0
      refine wpAnyH_ready (rs := [12]) (by kernel_rfl) (by simp) ?_
      refine AllReadyH.cons rfl (fun K hK => ?_) AllReadyH.nil
      go_simp
      have hst := I4.out.set5 (y := NP) X5.out.1 X5.out.2.1 X5.out.2.2 HLT.out
      generalize z4.setCell ⟨P5, 0, none⟩ (.int .i64 NP) = z5 at *
      have I5 := Lib.hid hst.1
      have X5 := Lib.hid (And.intro hst.2 X5.out.2)
      clear hst f5 k5 hS0
      refine hK.out _ _ I5.out.cxc (fun hS0 => ?_)
      clear hK K
      refine wpAnyH_done (by kernel_rfl) ?_ _
      clear hS0
      go_simp
      have e5 : z5.cell? ⟨P5, 0, none⟩ = some (.int .i64 NP) := Kq.blk_cell X5.out.1 0
      go_wp2
      go_ret
      exact ⟨rfl, WoP.from I5.out.bel (WoP.here I5.out.s)⟩
    · skip
      go_simp
      obtain ⟨z6, hz⟩ : ∃ z, z = z3.alloc (.cells #[.int .i64 0] 3) := ⟨_, rfl⟩
      obtain ⟨P5, hP5⟩ : ∃ z, z = z3.heap.size := ⟨_, rfl⟩
      have hb : Below z3.heap.size z3 z6 := by rw [hz]; exact Kq.below_alloc _ _
      have X5 : Hid (BxN z6 P5 0 ∧ (P5 ≠ P2 ∧ P5 ≠ P3) ∧ w.heap.size ≤ P5) := Lib.hid ⟨by unfold BxN; rw [hz, hP5]; exact Kq.blk_new _ _ _ _, ⟨by have := Kq.blk_lt I3.out.box; omega, by have := Kq.blk_lt I3.out.b3; omega⟩, by have := I3.out.bel.size; omega⟩
      rw [← hz, ← hP5]
      have I6 := Lib.hid (I3.out.below hb)
      clear hb hS0 hz hP5
      refine hK.out _ _ I6.out.cxc (fun hS0 => ?_)
      clear hK K
      refine wpAnyH_ready (rs := [10]) (by kernel_rfl) (by simp) ?_
      refine AllReadyH.cons rfl (fun K hK => ?_) AllReadyH.nil
      go_simp
      refine (fr_parts (a : Int) (s.size : Int) z6).mono ?_
      rintro x _ ⟨rfl, rfl⟩
      rw [HNP.out]
      clear hS0
      refine hK.out _ _ I6.out.cxc (fun hS0 => ?_)
      clear hK K
      have f5 := Kq.blk_free X5.out.1 0
      have k5 := Kq.blk_cell X5.out.1 0
      refine wpAnyH_ready (rs := [12]) (by kernel_rfl) (by simp) ?_
      refine AllReadyH.cons rfl (fun K hK => ?_) AllReadyH.nil
      go_simp
      have hst := I6.out.set5 (y := NP) X5.out.1 X5.out.2.1 X5.out.2.2 HLT.out
      generalize z6.setCell ⟨P5, 0, none⟩ (.int .i64 NP) = z7 at *
      have I7 := Lib.hid hst.1
      have X5 := Lib.hid (And.intro hst.2 X5.out.2)
      clear hst f5 k5 hS0
      refine hK.out _ _ I7.out.cxc (fun hS0 => ?_)
      clear hK K
      refine wpAnyH_done (by kernel_rfl) ?_ _
      clear hS0
      go_simp
      have e5 : z7.cell? ⟨P5, 0, none⟩ = some (.int .i64 NP) := Kq.blk_cell X5.out.1 0
      go_wp2
      go_ret
      exact ⟨rfl, WoP.from I7.out.bel (WoP.here I7.out.s)⟩
  · skip
    go_simp
    obtain ⟨z8, hz⟩ : ∃ z, z = z2.alloc (.cells #[.int .i64 0] 3) := ⟨_, rfl⟩
    obtain ⟨P5, hP5⟩ : ∃ z, z = z2.heap.size := ⟨_, rfl⟩
    have hb : Below z2.heap.size z2 z8 := by rw [hz]; exact Kq.below_alloc _ _
    have X5 : Hid (BxN z8 P5 0 ∧ (P5 ≠ P2 ∧ P5 ≠ P3) ∧ w.heap.size ≤ P5) := Lib.hid ⟨by unfold BxN; rw [hz, hP5]; exact Kq.blk_new _ _ _ _, ⟨by have := Kq.blk_lt I2.out.box; omega, by have := Kq.blk_lt I2.out.b3; omega⟩, by have := I2.out.bel.size; omega⟩
    rw [← hz, ← hP5]
    have I8 := Lib.hid (I2.out.below hb)
    clear hb hS0 hz hP5
    refine hK.out _ _ I8.out.cxc (fun hS0 => ?_)
    clear hK K
    refine wpAnyH_ready (rs := [7]) (by kernel_rfl) (by simp) ?_
    refine AllReadyH.cons rfl (fun K hK => ?_) AllReadyH.nil
    go_simp
    refine (dk_size (a : Int) (b : Int) z8).mono ?_
    rintro x z9 ⟨rfl, hb⟩
    have I9 := Lib.hid (I8.out.below hb)
    have X5 : Hid (BxN z9 P5 0 ∧ (P5 ≠ P2 ∧ P5 ≠ P3) ∧ w.heap.size ≤ P5) := Lib.hid ⟨Kq.below_blk hb X5.out.1 (Kq.blk_lt X5.out.1), X5.out.2⟩
    clear hb hS0
    refine hK.out _ _ I9.out.cxc (fun hS0 => ?_)
    clear hK K
    refine wpAnyH_ready (rs := [10]) (by kernel_rfl) (by simp) ?_
    refine AllReadyH.cons rfl (fun K hK => ?_) AllReadyH.nil
    go_simp
    refine (fr_parts (a : Int) (s.size : Int) z9).mono ?_
    rintro x _ ⟨rfl, rfl⟩
    rw [HNP.out]
    clear hS0
    refine hK.out _ _ I9.out.cxc (fun hS0 => ?_)
    clear hK K
    have f5 := Kq.blk_free X5.out.1 0
    have k5 := Kq.blk_cell X5.out.1 0
    refine wpAnyH_ready (rs := [12]) (by kernel_rfl) (by simp) ?_
    refine AllReadyH.cons rfl (fun K hK => ?_) AllReadyH.nil
    go_simp
    have hst := I9.out.set5 (y := NP) X5.out.1 X5.out.2.1 X5.out.2.2 HLT.out
    generalize z9.setCell ⟨P5, 0, none⟩ (.int .i64 NP) = z10 at *
    have I10 := Lib.hid hst.1
    have X5 := Lib.hid (And.intro hst.2 X5.out.2)
    clear hst f5 k5 hS0
    refine hK.out _ _ I10.out.cxc (fun hS0 => ?_)
    clear hK K
    refine wpAnyH_done (by kernel_rfl) ?_ _
    clear hS0
    go_simp
    have e5 : z10.cell? ⟨P5, 0, none⟩ = some (.int .i64 NP) := Kq.blk_cell X5.out.1 0
    go_wp2
    go_ret
    exact ⟨rfl, WoP.from I10.out.bel (WoP.here I10.out.s)⟩
end Go.Proofs.YtbpgfhcecanikaaGreat
