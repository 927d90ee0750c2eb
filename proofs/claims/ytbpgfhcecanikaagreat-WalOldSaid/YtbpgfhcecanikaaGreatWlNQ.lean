/- Merged: WlL, WlN. Contract of a log's Checkpoint, where it writes. Condition: sizes. Contract of a log's Checkpoint, where it writes. Condition: sizes. -/
import Derived.WalkSpells
import Derived.Outline
import Derived.Deep.QuietTactic
import Derived.Deep.RegionHeld
import Derived.Test.YtbpgfhcecanikaaGreatWlKQ
import Derived.Test.YtbpgfhcecanikaaGreatWlIQ
import Derived.Test.YtbpgfhcecanikaaGreatFrPartsQ
namespace Go.Proofs.YtbpgfhcecanikaaGreat
open Go.RowKit
set_option linter.unusedVariables false
set_option maxRecDepth 100000 in
set_option maxHeartbeats 2000000 in
theorem wl_ckpt_full {w : World} {base B S a b R N : Nat} {buf : Value} {ws : List (Int × ByteArray)} {ar : Nat} {st : List Nat} {v : WalV} (h : WlS w base B S a b R buf ws ar st v) (ho : StOk a b N ws ar st) (hN : N + 420 ≤ 1000000) (hn : a * b ≤ 3000000) (ha : 64 ≤ a) (ha2 : a ≤ 512) (hb : 4 ≤ b) (hb2 : b ≤ 5000) (hsg : v.sg ≤ 1) (hsl : v.slot ≤ 1) (hg : v.g < M64) (s : ByteArray) (hsz : s.size ≤ 1000000) (hbr : v.broken = false) (hs : s.size ≤ 4096) (hroom : segN b < nParts a s.size) :
    Calls Tryz.prog 25 #[.pointer (some ⟨R, 0, none⟩), .string s] w fun x w' => x = .returned (.int .i64 2) ∧ WoP w base B S a b R buf ws ar st v w' := by
  obtain ⟨k, hk⟩ : ∃ z, z = nParts a s.size := ⟨_, rfl⟩
  have HNP : Hid (frParts (a : Int) (s.size : Int) = (k : Int)) := Lib.hid (by rw [hk]; unfold frParts; rw [if_pos ⟨⟨by omega, by omega⟩, by omega, by omega⟩]; rfl)
  have hk1 : 1 ≤ k := by rw [hk]; unfold nParts; omega
  have d0 : ((k : Int) == 0) = false := beq_eq_false_iff_ne.2 (by omega)
  have d0' : (k == 0) = false := beq_eq_false_iff_ne.2 (by omega)
  rw [← hk] at hroom
  have HK := Lib.hid hk
  have HRM := Lib.hid hroom
  have HSZ := Lib.hid hs
  clear hk1 hk hroom hs
  obtain ⟨w1, hw1⟩ : ∃ z, z = w.alloc (.cells #[.pointer (some ⟨R, 0, none⟩)] 33) := ⟨_, rfl⟩
  obtain ⟨P2, hP2⟩ : ∃ z, z = w.heap.size := ⟨_, rfl⟩
  have hb1 : Below w.heap.size w w1 := by rw [hw1]; exact Kq.below_alloc _ _
  obtain ⟨w2, hw2⟩ : ∃ z, z = w1.alloc (.cells #[.string s] 9) := ⟨_, rfl⟩
  obtain ⟨P3, hP3⟩ : ∃ z, z = w.heap.size + 1 := ⟨_, rfl⟩
  have hz1 : w1.heap.size = w.heap.size + 1 := by rw [hw1]; exact Array.size_push _
  have hb2' : Below w1.heap.size w1 w2 := by rw [hw2]; exact Kq.below_alloc _ _
  have hx2 : BxP w1 P2 R := by unfold BxP; rw [hw1, hP2]; exact Kq.blk_new _ _ _ _
  have hI1 : CpI w w2 base B S a b R buf ws ar st v P2 P3 s := ⟨Kq.below_blk hb2' hx2 (Kq.blk_lt hx2), by unfold BxS; rw [hw2, hP3, ← hz1]; exact Kq.blk_new _ _ _ _, (h.below hb1).below hb2', hb1.trans (hb2'.mono hb1.size), by omega, by omega⟩
  have HLT : Hid (∀ j, Own B S buf j ∨ j = R → j < w.heap.size) := Lib.hid (fun j hj => hj.elim (fun e => h.d.own_lt e) (fun e => by rw [e]; exact h.lt))
  have I1 := Lib.hid hI1
  have c7 := h.c7
  have hRl := h.lt
  have hRn : ¬ R = w.heap.size := by omega
  have hRn2 : ¬ R = w.heap.size + 1 := by omega
  have HW1 := Lib.hid (And.intro hw1 (And.intro hw2 (And.intro hP2 hP3)))
  have HH := Lib.hid (And.intro ho (And.intro hN (And.intro hn (And.intro ha (And.intro ha2 (And.intro hb (And.intro hb2 (And.intro hsg (And.intro hsl hg)))))))))
  clear hw1 hP2 hb1 hI1 h ho hN hn hb hb2 hsg hsl hg hw2 hP3 hz1 hb2' hx2
  go_enter Tryz.func25, Tryz.ntmps25
  rw [hbr] at c7
  go_wp2_with fail
  rw [← HW1.out.1, ← HW1.out.2.1, ← HW1.out.2.2.2, ← HW1.out.2.2.1]
  clear hRl hRn hRn2 c7 ha ha2 hsz
  have I2 : Hid (CpI w w2.drew base B S a b R buf ws ar st v P2 P3 s) := Lib.hid (I1.out.below (Below.refl _ _).drew)
  refine wp_region_held_drew (S := fun w' => CxC w' P2 P3 R B a b s) (by kernel_rfl) I2.out.cxc (fun hS0 => ?_)
  generalize w2.drew = z2 at *
  unfold CxC at hS0
  dsimp only [CxC]
  refine wpAnyH_take (i := 0) (v := ?_) rfl (by kernel_rfl) (by kernel_rfl) (by kernel_rfl) (fun _ _ _ h => h) (Or.inl ⟨by kernel_rfl, ?_⟩) (by assumption) ?_
  rotate_left
  · intro w hSw; (try dsimp only at hSw); go_simp; (try with_reducible rfl)
  refine wpAnyH_take (i := 1) (v := ?_) rfl (by kernel_rfl) (by kernel_rfl) (by kernel_rfl) (fun _ _ _ h => h) (Or.inl ⟨by kernel_rfl, ?_⟩) (by assumption) ?_
  rotate_left
  · intro w hSw; (try dsimp only at hSw); go_simp; (try with_reducible rfl)
  refine wpAnyH_take (i := 2) (v := ?_) rfl (by kernel_rfl) (by kernel_rfl) (by kernel_rfl) (fun _ _ _ h => h) (Or.inl ⟨by kernel_rfl, ?_⟩) (by assumption) ?_
  rotate_left
  · intro w hSw; (try dsimp only at hSw); go_simp; (try with_reducible rfl)
  refine wpAnyH_take (i := 3) (v := ?_) rfl (by kernel_rfl) (by kernel_rfl) (by kernel_rfl) (fun _ _ _ h => h) (Or.inl ⟨by kernel_rfl, ?_⟩) (by assumption) ?_
  rotate_left
  · intro w hSw; (try dsimp only at hSw); go_simp; (try with_reducible rfl)
  refine wpAnyH_take (i := 4) (v := ?_) rfl (by kernel_rfl) (by kernel_rfl) (by kernel_rfl) (fun _ _ _ h => h) (Or.inl ⟨by kernel_rfl, ?_⟩) (by assumption) ?_
  rotate_left
  · intro w hSw; (try dsimp only at hSw); go_simp; (try with_reducible rfl)
  refine wpAnyH_take (i := 5) (v := ?_) rfl (by kernel_rfl) (by kernel_rfl) (by kernel_rfl) (fun _ _ _ h => h) (Or.inl ⟨by kernel_rfl, ?_⟩) (by assumption) ?_
  rotate_left
  · intro w hSw; (try dsimp only at hSw); go_simp; (try with_reducible rfl)
  refine wpAnyH_take (i := 6) (v := ?_) rfl (by kernel_rfl) (by kernel_rfl) (by kernel_rfl) (fun _ _ _ h => h) (Or.inl ⟨by kernel_rfl, ?_⟩) (by assumption) ?_
  rotate_left
  · intro w hSw; (try dsimp only at hSw); go_simp; (try with_reducible rfl)
  refine wpAnyH_take (i := 8) (v := ?_) rfl (by kernel_rfl) (by kernel_rfl) (by kernel_rfl) (fun _ _ _ h => h) (Or.inl ⟨by kernel_rfl, ?_⟩) (by assumption) ?_
  rotate_left
  · intro w hSw; (try dsimp only at hSw); go_simp; (try with_reducible rfl)
  refine wpAnyH_take (i := 9) (v := ?_) rfl (by kernel_rfl) (by kernel_rfl) (by kernel_rfl) (fun _ _ _ h => h) (Or.inl ⟨by kernel_rfl, ?_⟩) (by assumption) ?_
  rotate_left
  · intro w hSw; (try dsimp only at hSw); go_simp; (try with_reducible rfl)
  refine wpAnyH_ready (rs := [7, 11]) (by kernel_rfl) (by simp) ?_
  refine (AllReadyH.cons rfl (fun K hK => ?_) (AllReadyH.cons rfl (fun K hK => ?_) AllReadyH.nil))
  · skip
    go_simp
    refine (dk_size (a : Int) (b : Int) z2).mono ?_
    rintro x z3 ⟨rfl, hb⟩
    have I3 := Lib.hid (I2.out.below hb)
    clear hb hS0
    refine hK.out _ _ I3.out.cxc (fun hS0 => ?_)
    clear hK K
    refine wpAnyH_ready (rs := [10, 11]) (by kernel_rfl) (by simp) ?_
    refine (AllReadyH.cons rfl (fun K hK => ?_) (AllReadyH.cons rfl (fun K hK => ?_) AllReadyH.nil))
    · skip
      go_simp
      refine (fr_parts (a : Int) (s.size : Int) z3).mono ?_
      rintro x _ ⟨rfl, rfl⟩
      rw [HNP.out]
      clear hS0
      refine hK.out _ _ I3.out.cxc (fun hS0 => ?_)
      clear hK K
      refine wpAnyH_ready (rs := [11]) (by kernel_rfl) (by simp) ?_
      refine AllReadyH.cons rfl (fun K hK => ?_) AllReadyH.nil
      go_simp
      obtain ⟨z4, hz⟩ : ∃ z, z = z3.alloc (.cells #[.int .i64 0] 3) := ⟨_, rfl⟩
      obtain ⟨P5, hP5⟩ : ∃ z, z = z3.heap.size := ⟨_, rfl⟩
      have hb : Below z3.heap.size z3 z4 := by rw [hz]; exact Kq.below_alloc _ _
      have X5 : Hid (BxN z4 P5 0 ∧ (P5 ≠ P2 ∧ P5 ≠ P3) ∧ w.heap.size ≤ P5) := Lib.hid ⟨by unfold BxN; rw [hz, hP5]; exact Kq.blk_new _ _ _ _, ⟨by have := Kq.blk_lt I3.out.box; omega, by have := Kq.blk_lt I3.out.b3; omega⟩, by have := I3.out.bel.size; omega⟩
      rw [← hz, ← hP5]
      have I4 := Lib.hid (I3.out.below hb)
      clear hb hS0 hz hP5
      refine hK.out _ _ I4.out.cxc (fun hS0 => ?_)
      clear hK K
      have f5 := Kq.blk_free X5.out.1 0
      have k5 := Kq.blk_cell X5.out.1 0
      refine wpAnyH_ready (rs := [12]) (by kernel_rfl) (by simp) ?_
      refine AllReadyH.cons rfl (fun K hK => ?_) AllReadyH.nil
      go_simp
      have hst := I4.out.set5 (y := (k : Int)) X5.out.1 X5.out.2.1 X5.out.2.2 HLT.out
      generalize z4.setCell ⟨P5, 0, none⟩ (.int .i64 (k : Int)) = z5 at *
      have I5 := Lib.hid hst.1
      have X5 := Lib.hid (And.intro hst.2 X5.out.2)
      clear hst f5 k5 hS0
      refine hK.out _ _ I5.out.cxc (fun hS0 => ?_)
      clear hK K
      refine wpAnyH_done (by kernel_rfl) ?_ _
      clear hS0
      go_simp
      have e5 : z5.cell? ⟨P5, 0, none⟩ = some (.int .i64 (k : Int)) := Kq.blk_cell X5.out.1 0
      go_wp2_with fail
      clear e5
      have ID : Hid (CpI w z5.drew base B S a b R buf ws ar st v P2 P3 s ∧ BxN z5.drew P5 (k : Int)) := Lib.hid ⟨I5.out.below (Below.refl _ _).drew, X5.out.1⟩
      refine wp_region_held_drew (S := fun w' => C6 w' P2 P5 R (k : Int)) (by kernel_rfl) (ID.out.1.c6 ID.out.2) (fun hS0 => ?_)
      generalize z5.drew = y1 at *
      unfold C6 at hS0
      dsimp only [C6]
      refine wpAnyH_take (i := 0) (v := ?_) rfl (by kernel_rfl) (by kernel_rfl) (by kernel_rfl) (fun _ _ _ h => h) (Or.inl ⟨by kernel_rfl, ?_⟩) (by assumption) ?_
      rotate_left
      · intro w hSw; (try dsimp only at hSw); go_simp; (try with_reducible rfl)
      refine wpAnyH_take (i := 1) (v := ?_) rfl (by kernel_rfl) (by kernel_rfl) (by kernel_rfl) (fun _ _ _ h => h) (Or.inl ⟨by kernel_rfl, ?_⟩) (by assumption) ?_
      rotate_left
      · intro w hSw; (try dsimp only at hSw); go_simp; (try with_reducible rfl)
      refine wpAnyH_ready (rs := [2]) (by kernel_rfl) (by simp) ?_
      refine AllReadyH.cons rfl (fun K hK => ?_) AllReadyH.nil
      go_simp
      refine (wl_segment ID.out.1.s HH.out.2.2.2.2.2.1 (by have := HH.out.2.2.2.2.2.2.1; omega)).mono ?_
      rintro x y2 ⟨rfl, hb⟩
      have ID2 : Hid (CpI w y2 base B S a b R buf ws ar st v P2 P3 s ∧ BxN y2 P5 (k : Int)) := Lib.hid ⟨ID.out.1.below hb, Kq.below_blk hb ID.out.2 (Kq.blk_lt ID.out.2)⟩
      clear hS0 hb ID
      refine hK.out _ _ (ID2.out.1.c6 ID2.out.2) (fun hS0 => ?_)
      clear hK K
      refine wpAnyH_take (i := 3) (v := ?_) rfl (by kernel_rfl) (by kernel_rfl) (by kernel_rfl) (fun _ _ _ h => h) (Or.inl ⟨by kernel_rfl, ?_⟩) (by assumption) ?_
      rotate_left
      · intro w hSw; (try dsimp only at hSw); go_simp; (try with_reducible rfl)
      refine wpAnyH_done (by kernel_rfl) ?_ _
      clear hS0
      go_simp
      have hd : decide ((segN b : Int) < (k : Int)) = true := decide_eq_true (by have h1 := HRM.out; omega)
      have hd2 : decide (segN b < k) = true := decide_eq_true (by have h1 := HRM.out; omega)
      go_wp2
      go_ret
      exact ⟨rfl, WoP.from ID2.out.1.bel (WoP.here ID2.out.1.s)⟩
    · skip
      go_simp
      obtain ⟨z6, hz⟩ : ∃ z, z = z3.alloc (.cells #[.int .i64 0] 3) := ⟨_, rfl⟩
      obtain ⟨P5, hP5⟩ : ∃ z, z = z3.heap.size := ⟨_, rfl⟩
      have hb : Below z3.heap.size z3 z6 := by rw [hz]; exact Kq.below_alloc _ _
      have X5 : Hid (BxN z6 P5 0 ∧ (P5 ≠ P2 ∧ P5 ≠ P3) ∧ w.heap.size ≤ P5) := Lib.hid ⟨by unfold BxN; rw [hz, hP5]; exact Kq.blk_new _ _ _ _, ⟨by have := Kq.blk_lt I3.out.box; omega, by have := Kq.blk_lt I3.out.b3; omega⟩, by have := I3.out.bel.size; omega⟩
      rw [← hz, ← hP5]
      have I6 := Lib.hid (I3.out.below hb)
      clear hb hS0 hz hP5
      refine hK.out _ _ I6.out.cxc (fun hS0 => ?_)
      clear hK K
      refine wpAnyH_ready (rs := [10]) (by kernel_rfl) (by simp) ?_
      refine AllReadyH.cons rfl (fun K hK => ?_) AllReadyH.nil
      go_simp
      refine (fr_parts (a : Int) (s.size : Int) z6).mono ?_
      rintro x _ ⟨rfl, rfl⟩
      rw [HNP.out]
      clear hS0
      refine hK.out _ _ I6.out.cxc (fun hS0 => ?_)
      clear hK K
      have f5 := Kq.blk_free X5.out.1 0
      have k5 := Kq.blk_cell X5.out.1 0
      refine wpAnyH_ready (rs := [12]) (by kernel_rfl) (by simp) ?_
      refine AllReadyH.cons rfl (fun K hK => ?_) AllReadyH.nil
      go_simp
      have hst := I6.out.set5 (y := (k : Int)) X5.out.1 X5.out.2.1 X5.out.2.2 HLT.out
      generalize z6.setCell ⟨P5, 0, none⟩ (.int .i64 (k : Int)) = z7 at *
      have I7 := Lib.hid hst.1
      have X5 := Lib.hid (And.intro hst.2 X5.out.2)
      clear hst f5 k5 hS0
      refine hK.out _ _ I7.out.cxc (fun hS0 => ?_)
      clear hK K
      refine wpAnyH_done (by kernel_rfl) ?_ _
      clear hS0
      go_simp
      have e5 : z7.cell? ⟨P5, 0, none⟩ = some (.int .i64 (k : Int)) := Kq.blk_cell X5.out.1 0
      go_wp2_with fail
      clear e5
      have ID : Hid (CpI w z7.drew base B S a b R buf ws ar st v P2 P3 s ∧ BxN z7.drew P5 (k : Int)) := Lib.hid ⟨I7.out.below (Below.refl _ _).drew, X5.out.1⟩
      refine wp_region_held_drew (S := fun w' => C6 w' P2 P5 R (k : Int)) (by kernel_rfl) (ID.out.1.c6 ID.out.2) (fun hS0 => ?_)
      generalize z7.drew = y1 at *
      unfold C6 at hS0
      dsimp only [C6]
      refine wpAnyH_take (i := 0) (v := ?_) rfl (by kernel_rfl) (by kernel_rfl) (by kernel_rfl) (fun _ _ _ h => h) (Or.inl ⟨by kernel_rfl, ?_⟩) (by assumption) ?_
      rotate_left
      · intro w hSw; (try dsimp only at hSw); go_simp; (try with_reducible rfl)
      refine wpAnyH_take (i := 1) (v := ?_) rfl (by kernel_rfl) (by kernel_rfl) (by kernel_rfl) (fun _ _ _ h => h) (Or.inl ⟨by kernel_rfl, ?_⟩) (by assumption) ?_
      rotate_left
      · intro w hSw; (try dsimp only at hSw); go_simp; (try with_reducible rfl)
      refine wpAnyH_ready (rs := [2]) (by kernel_rfl) (by simp) ?_
      refine AllReadyH.cons rfl (fun K hK => ?_) AllReadyH.nil
      go_simp
      refine (wl_segment ID.out.1.s HH.out.2.2.2.2.2.1 (by have := HH.out.2.2.2.2.2.2.1; omega)).mono ?_
      rintro x y2 ⟨rfl, hb⟩
      have ID2 : Hid (CpI w y2 base B S a b R buf ws ar st v P2 P3 s ∧ BxN y2 P5 (k : Int)) := Lib.hid ⟨ID.out.1.below hb, Kq.below_blk hb ID.out.2 (Kq.blk_lt ID.out.2)⟩
      clear hS0 hb ID
      refine hK.out _ _ (ID2.out.1.c6 ID2.out.2) (fun hS0 => ?_)
      clear hK K
      refine wpAnyH_take (i := 3) (v := ?_) rfl (by kernel_rfl) (by kernel_rfl) (by kernel_rfl) (fun _ _ _ h => h) (Or.inl ⟨by kernel_rfl, ?_⟩) (by assumption) ?_
      rotate_left
      · intro w hSw; (try dsimp only at hSw); go_simp; (try with_reducible rfl)
      refine wpAnyH_done (by kernel_rfl) ?_ _
      clear hS0
      go_simp
      have hd : decide ((segN b : Int) < (k : Int)) = true := decide_eq_true (by have h1 := HRM.out; omega)
      have hd2 : decide (segN b < k) = true := decide_eq_true (by have h1 := HRM.out; omega)
      go_wp2
      go_ret
      exact ⟨rfl, WoP.from ID2.out.1.bel (WoP.here ID2.out.1.s)⟩
  · skip
    go_simp
    obtain ⟨z8, hz⟩ : ∃ z, z = z2.alloc (.cells #[.int .i64 0] 3) := ⟨_, rfl⟩
    obtain ⟨P5, hP5⟩ : ∃ z, z = z2.heap.size := ⟨_, rfl⟩
    have hb : Below z2.heap.size z2 z8 := by rw [hz]; exact Kq.below_alloc _ _
    have X5 : Hid (BxN z8 P5 0 ∧ (P5 ≠ P2 ∧ P5 ≠ P3) ∧ w.heap.size ≤ P5) := Lib.hid ⟨by unfold BxN; rw [hz, hP5]; exact Kq.blk_new _ _ _ _, ⟨by have := Kq.blk_lt I2.out.box; omega, by have := Kq.blk_lt I2.out.b3; omega⟩, by have := I2.out.bel.size; omega⟩
    rw [← hz, ← hP5]
    have I8 := Lib.hid (I2.out.below hb)
    clear hb hS0 hz hP5
    refine hK.out _ _ I8.out.cxc (fun hS0 => ?_)
    clear hK K
    refine wpAnyH_ready (rs := [7]) (by kernel_rfl) (by simp) ?_
    refine AllReadyH.cons rfl (fun K hK => ?_) AllReadyH.nil
    go_simp
    refine (dk_size (a : Int) (b : Int) z8).mono ?_
    rintro x z9 ⟨rfl, hb⟩
    have I9 := Lib.hid (I8.out.below hb)
    have X5 : Hid (BxN z9 P5 0 ∧ (P5 ≠ P2 ∧ P5 ≠ P3) ∧ w.heap.size ≤ P5) := Lib.hid ⟨Kq.below_blk hb X5.out.1 (Kq.blk_lt X5.out.1), X5.out.2⟩
    clear hb hS0
    refine hK.out _ _ I9.out.cxc (fun hS0 => ?_)
    clear hK K
    refine wpAnyH_ready (rs := [10]) (by kernel_rfl) (by simp) ?_
    refine AllReadyH.cons rfl (fun K hK => ?_) AllReadyH.nil
    go_simp
    refine (fr_parts (a : Int) (s.size : Int) z9).mono ?_
    rintro x _ ⟨rfl, rfl⟩
    rw [HNP.out]
    clear hS0
    refine hK.out _ _ I9.out.cxc (fun hS0 => ?_)
    clear hK K
    have f5 := Kq.blk_free X5.out.1 0
    have k5 := Kq.blk_cell X5.out.1 0
    refine wpAnyH_ready (rs := [12]) (by kernel_rfl) (by simp) ?_
    refine AllReadyH.cons rfl (fun K hK => ?_) AllReadyH.nil
    go_simp
    have hst := I9.out.set5 (y := (k : Int)) X5.out.1 X5.out.2.1 X5.out.2.2 HLT.out
    generalize z9.setCell ⟨P5, 0, none⟩ (.int .i64 (k : Int)) = z10 at *
    have I10 := Lib.hid hst.1
    have X5 := Lib.hid (And.intro hst.2 X5.out.2)
    clear hst f5 k5 hS0
    refine hK.out _ _ I10.out.cxc (fun hS0 => ?_)
    clear hK K
    refine wpAnyH_done (by kernel_rfl) ?_ _
    clear hS0
    go_simp
    have e5 : z10.cell? ⟨P5, 0, none⟩ = some (.int .i64 (k : Int)) := Kq.blk_cell X5.out.1 0
    go_wp2_with fail
    clear e5
    have ID : Hid (CpI w z10.drew base B S a b R buf ws ar st v P2 P3 s ∧ BxN z10.drew P5 (k : Int)) := Lib.hid ⟨I10.out.below (Below.refl _ _).drew, X5.out.1⟩
    refine wp_region_held_drew (S := fun w' => C6 w' P2 P5 R (k : Int)) (by kernel_rfl) (ID.out.1.c6 ID.out.2) (fun hS0 => ?_)
    generalize z10.drew = y1 at *
    unfold C6 at hS0
    dsimp only [C6]
    refine wpAnyH_take (i := 0) (v := ?_) rfl (by kernel_rfl) (by kernel_rfl) (by kernel_rfl) (fun _ _ _ h => h) (Or.inl ⟨by kernel_rfl, ?_⟩) (by assumption) ?_
    rotate_left
    · intro w hSw; (try dsimp only at hSw); go_simp; (try with_reducible rfl)
    refine wpAnyH_take (i := 1) (v := ?_) rfl (by kernel_rfl) (by kernel_rfl) (by kernel_rfl) (fun _ _ _ h => h) (Or.inl ⟨by kernel_rfl, ?_⟩) (by assumption) ?_
    rotate_left
    · intro w hSw; (try dsimp only at hSw); go_simp; (try with_reducible rfl)
    refine wpAnyH_ready (rs := [2]) (by kernel_rfl) (by simp) ?_
    refine AllReadyH.cons rfl (fun K hK => ?_) AllReadyH.nil
    go_simp
    refine (wl_segment ID.out.1.s HH.out.2.2.2.2.2.1 (by have := HH.out.2.2.2.2.2.2.1; omega)).mono ?_
    rintro x y2 ⟨rfl, hb⟩
    have ID2 : Hid (CpI w y2 base B S a b R buf ws ar st v P2 P3 s ∧ BxN y2 P5 (k : Int)) := Lib.hid ⟨ID.out.1.below hb, Kq.below_blk hb ID.out.2 (Kq.blk_lt ID.out.2)⟩
    clear hS0 hb ID
    refine hK.out _ _ (ID2.out.1.c6 ID2.out.2) (fun hS0 => ?_)
    clear hK K
    refine wpAnyH_take (i := 3) (v := ?_) rfl (by kernel_rfl) (by kernel_rfl) (by kernel_rfl) (fun _ _ _ h => h) (Or.inl ⟨by kernel_rfl, ?_⟩) (by assumption) ?_
    rotate_left
    · intro w hSw; (try dsimp only at hSw); go_simp; (try with_reducible rfl)
    refine wpAnyH_done (by kernel_rfl) ?_ _
    clear hS0
    go_simp
    have hd : decide ((segN b : Int) < (k : Int)) = true := decide_eq_true (by have h1 := HRM.out; omega)
    have hd2 : decide (segN b < k) = true := decide_eq_true (by have h1 := HRM.out; omega)
    go_wp2
    go_ret
    exact ⟨rfl, WoP.from ID2.out.1.bel (WoP.here ID2.out.1.s)⟩
end Go.Proofs.YtbpgfhcecanikaaGreat
namespace Go.Proofs.YtbpgfhcecanikaaGreat
open Go.RowKit
set_option linter.unusedVariables false
set_option maxRecDepth 100000 in
set_option maxHeartbeats 2000000 in
theorem wl_ckpt_over {w : World} {base B S a b R N : Nat} {buf : Value} {ws : List (Int × ByteArray)} {ar : Nat} {st : List Nat} {v : WalV} (h : WlS w base B S a b R buf ws ar st v) (ho : StOk a b N ws ar st) (hN : N + 420 ≤ 1000000) (hn : a * b ≤ 3000000) (ha : 64 ≤ a) (ha2 : a ≤ 512) (hb : 4 ≤ b) (hb2 : b ≤ 5000) (hsg : v.sg ≤ 1) (hsl : v.slot ≤ 1) (hg : v.g < M64) (s : ByteArray) (hsz : s.size ≤ 1000000) (hbr : v.broken = false) (hs : s.size ≤ 4096) (hroom : ¬ segN b < nParts a s.size) (hgx : v.g + 1 = M64) :
    Calls Tryz.prog 25 #[.pointer (some ⟨R, 0, none⟩), .string s] w fun x w' => x = .returned (.int .i64 12) ∧ WoP w base B S a b R buf ws ar st v w' := by
  obtain ⟨k, hk⟩ : ∃ z, z = nParts a s.size := ⟨_, rfl⟩
  have HNP : Hid (frParts (a : Int) (s.size : Int) = (k : Int)) := Lib.hid (by rw [hk]; unfold frParts; rw [if_pos ⟨⟨by omega, by omega⟩, by omega, by omega⟩]; rfl)
  have hk1 : 1 ≤ k := by rw [hk]; unfold nParts; omega
  have d0 : ((k : Int) == 0) = false := beq_eq_false_iff_ne.2 (by omega)
  have d0' : (k == 0) = false := beq_eq_false_iff_ne.2 (by omega)
  rw [← hk] at hroom
  have HK := Lib.hid hk
  have HRM := Lib.hid hroom
  have HSZ := Lib.hid hs
  clear hk1 hk hroom hs
  have HNX : Hid (nxE v.g = 12 ∧ nxG v.g = 0 ∧ nxS v.g (v.sg : Int) = 0) := Lib.hid ⟨by unfold nxE; rw [if_pos hgx], by unfold nxG; rw [if_pos hgx], by unfold nxS; rw [if_pos hgx]⟩
  clear hgx
  obtain ⟨w1, hw1⟩ : ∃ z, z = w.alloc (.cells #[.pointer (some ⟨R, 0, none⟩)] 33) := ⟨_, rfl⟩
  obtain ⟨P2, hP2⟩ : ∃ z, z = w.heap.size := ⟨_, rfl⟩
  have hb1 : Below w.heap.size w w1 := by rw [hw1]; exact Kq.below_alloc _ _
  obtain ⟨w2, hw2⟩ : ∃ z, z = w1.alloc (.cells #[.string s] 9) := ⟨_, rfl⟩
  obtain ⟨P3, hP3⟩ : ∃ z, z = w.heap.size + 1 := ⟨_, rfl⟩
  have hz1 : w1.heap.size = w.heap.size + 1 := by rw [hw1]; exact Array.size_push _
  have hb2' : Below w1.heap.size w1 w2 := by rw [hw2]; exact Kq.below_alloc _ _
  have hx2 : BxP w1 P2 R := by unfold BxP; rw [hw1, hP2]; exact Kq.blk_new _ _ _ _
  have hI1 : CpI w w2 base B S a b R buf ws ar st v P2 P3 s := ⟨Kq.below_blk hb2' hx2 (Kq.blk_lt hx2), by unfold BxS; rw [hw2, hP3, ← hz1]; exact Kq.blk_new _ _ _ _, (h.below hb1).below hb2', hb1.trans (hb2'.mono hb1.size), by omega, by omega⟩
  have HLT : Hid (∀ j, Own B S buf j ∨ j = R → j < w.heap.size) := Lib.hid (fun j hj => hj.elim (fun e => h.d.own_lt e) (fun e => by rw [e]; exact h.lt))
  have I1 := Lib.hid hI1
  have c7 := h.c7
  have hRl := h.lt
  have hRn : ¬ R = w.heap.size := by omega
  have hRn2 : ¬ R = w.heap.size + 1 := by omega
  have HW1 := Lib.hid (And.intro hw1 (And.intro hw2 (And.intro hP2 hP3)))
  have HH := Lib.hid (And.intro ho (And.intro hN (And.intro hn (And.intro ha (And.intro ha2 (And.intro hb (And.intro hb2 (And.intro hsg (And.intro hsl hg)))))))))
  clear hw1 hP2 hb1 hI1 h ho hN hn hb hb2 hsg hsl hg hw2 hP3 hz1 hb2' hx2
  go_enter Tryz.func25, Tryz.ntmps25
  rw [hbr] at c7
  go_wp2_with fail
  rw [← HW1.out.1, ← HW1.out.2.1, ← HW1.out.2.2.2, ← HW1.out.2.2.1]
  clear hRl hRn hRn2 c7 ha ha2 hsz
  have I2 : Hid (CpI w w2.drew base B S a b R buf ws ar st v P2 P3 s) := Lib.hid (I1.out.below (Below.refl _ _).drew)
  refine wp_region_held_drew (S := fun w' => CxC w' P2 P3 R B a b s) (by kernel_rfl) I2.out.cxc (fun hS0 => ?_)
  generalize w2.drew = z2 at *
  unfold CxC at hS0
  dsimp only [CxC]
  refine wpAnyH_take (i := 0) (v := ?_) rfl (by kernel_rfl) (by kernel_rfl) (by kernel_rfl) (fun _ _ _ h => h) (Or.inl ⟨by kernel_rfl, ?_⟩) (by assumption) ?_
  rotate_left
  · intro w hSw; (try dsimp only at hSw); go_simp; (try with_reducible rfl)
  refine wpAnyH_take (i := 1) (v := ?_) rfl (by kernel_rfl) (by kernel_rfl) (by kernel_rfl) (fun _ _ _ h => h) (Or.inl ⟨by kernel_rfl, ?_⟩) (by assumption) ?_
  rotate_left
  · intro w hSw; (try dsimp only at hSw); go_simp; (try with_reducible rfl)
  refine wpAnyH_take (i := 2) (v := ?_) rfl (by kernel_rfl) (by kernel_rfl) (by kernel_rfl) (fun _ _ _ h => h) (Or.inl ⟨by kernel_rfl, ?_⟩) (by assumption) ?_
  rotate_left
  · intro w hSw; (try dsimp only at hSw); go_simp; (try with_reducible rfl)
  refine wpAnyH_take (i := 3) (v := ?_) rfl (by kernel_rfl) (by kernel_rfl) (by kernel_rfl) (fun _ _ _ h => h) (Or.inl ⟨by kernel_rfl, ?_⟩) (by assumption) ?_
  rotate_left
  · intro w hSw; (try dsimp only at hSw); go_simp; (try with_reducible rfl)
  refine wpAnyH_take (i := 4) (v := ?_) rfl (by kernel_rfl) (by kernel_rfl) (by kernel_rfl) (fun _ _ _ h => h) (Or.inl ⟨by kernel_rfl, ?_⟩) (by assumption) ?_
  rotate_left
  · intro w hSw; (try dsimp only at hSw); go_simp; (try with_reducible rfl)
  refine wpAnyH_take (i := 5) (v := ?_) rfl (by kernel_rfl) (by kernel_rfl) (by kernel_rfl) (fun _ _ _ h => h) (Or.inl ⟨by kernel_rfl, ?_⟩) (by assumption) ?_
  rotate_left
  · intro w hSw; (try dsimp only at hSw); go_simp; (try with_reducible rfl)
  refine wpAnyH_take (i := 6) (v := ?_) rfl (by kernel_rfl) (by kernel_rfl) (by kernel_rfl) (fun _ _ _ h => h) (Or.inl ⟨by kernel_rfl, ?_⟩) (by assumption) ?_
  rotate_left
  · intro w hSw; (try dsimp only at hSw); go_simp; (try with_reducible rfl)
  refine wpAnyH_take (i := 8) (v := ?_) rfl (by kernel_rfl) (by kernel_rfl) (by kernel_rfl) (fun _ _ _ h => h) (Or.inl ⟨by kernel_rfl, ?_⟩) (by assumption) ?_
  rotate_left
  · intro w hSw; (try dsimp only at hSw); go_simp; (try with_reducible rfl)
  refine wpAnyH_take (i := 9) (v := ?_) rfl (by kernel_rfl) (by kernel_rfl) (by kernel_rfl) (fun _ _ _ h => h) (Or.inl ⟨by kernel_rfl, ?_⟩) (by assumption) ?_
  rotate_left
  · intro w hSw; (try dsimp only at hSw); go_simp; (try with_reducible rfl)
  refine wpAnyH_ready (rs := [7, 11]) (by kernel_rfl) (by simp) ?_
  refine (AllReadyH.cons rfl (fun K hK => ?_) (AllReadyH.cons rfl (fun K hK => ?_) AllReadyH.nil))
  · skip
    go_simp
    refine (dk_size (a : Int) (b : Int) z2).mono ?_
    rintro x z3 ⟨rfl, hb⟩
    have I3 := Lib.hid (I2.out.below hb)
    clear hb hS0
    refine hK.out _ _ I3.out.cxc (fun hS0 => ?_)
    clear hK K
    refine wpAnyH_ready (rs := [10, 11]) (by kernel_rfl) (by simp) ?_
    refine (AllReadyH.cons rfl (fun K hK => ?_) (AllReadyH.cons rfl (fun K hK => ?_) AllReadyH.nil))
    · skip
      go_simp
      refine (fr_parts (a : Int) (s.size : Int) z3).mono ?_
      rintro x _ ⟨rfl, rfl⟩
      rw [HNP.out]
      clear hS0
      refine hK.out _ _ I3.out.cxc (fun hS0 => ?_)
      clear hK K
      refine wpAnyH_ready (rs := [11]) (by kernel_rfl) (by simp) ?_
      refine AllReadyH.cons rfl (fun K hK => ?_) AllReadyH.nil
      go_simp
      obtain ⟨z4, hz⟩ : ∃ z, z = z3.alloc (.cells #[.int .i64 0] 3) := ⟨_, rfl⟩
      obtain ⟨P5, hP5⟩ : ∃ z, z = z3.heap.size := ⟨_, rfl⟩
      have hb : Below z3.heap.size z3 z4 := by rw [hz]; exact Kq.below_alloc _ _
      have X5 : Hid (BxN z4 P5 0 ∧ (P5 ≠ P2 ∧ P5 ≠ P3) ∧ w.heap.size ≤ P5) := Lib.hid ⟨by unfold BxN; rw [hz, hP5]; exact Kq.blk_new _ _ _ _, ⟨by have := Kq.blk_lt I3.out.box; omega, by have := Kq.blk_lt I3.out.b3; omega⟩, by have := I3.out.bel.size; omega⟩
      rw [← hz, ← hP5]
      have I4 := Lib.hid (I3.out.below hb)
      clear hb hS0 hz hP5
      refine hK.out _ _ I4.out.cxc (fun hS0 => ?_)
      clear hK K
      have f5 := Kq.blk_free X5.out.1 0
      have k5 := Kq.blk_cell X5.out.1 0
      refine wpAnyH_ready (rs := [12]) (by kernel_rfl) (by simp) ?_
      refine AllReadyH.cons rfl (fun K hK => ?_) AllReadyH.nil
      go_simp
      have hst := I4.out.set5 (y := (k : Int)) X5.out.1 X5.out.2.1 X5.out.2.2 HLT.out
      generalize z4.setCell ⟨P5, 0, none⟩ (.int .i64 (k : Int)) = z5 at *
      have I5 := Lib.hid hst.1
      have X5 := Lib.hid (And.intro hst.2 X5.out.2)
      clear hst f5 k5 hS0
      refine hK.out _ _ I5.out.cxc (fun hS0 => ?_)
      clear hK K
      refine wpAnyH_done (by kernel_rfl) ?_ _
      clear hS0
      go_simp
      have e5 : z5.cell? ⟨P5, 0, none⟩ = some (.int .i64 (k : Int)) := Kq.blk_cell X5.out.1 0
      go_wp2_with fail
      clear e5
      have ID : Hid (CpI w z5.drew base B S a b R buf ws ar st v P2 P3 s ∧ BxN z5.drew P5 (k : Int)) := Lib.hid ⟨I5.out.below (Below.refl _ _).drew, X5.out.1⟩
      refine wp_region_held_drew (S := fun w' => C6 w' P2 P5 R (k : Int)) (by kernel_rfl) (ID.out.1.c6 ID.out.2) (fun hS0 => ?_)
      generalize z5.drew = y1 at *
      unfold C6 at hS0
      dsimp only [C6]
      refine wpAnyH_take (i := 0) (v := ?_) rfl (by kernel_rfl) (by kernel_rfl) (by kernel_rfl) (fun _ _ _ h => h) (Or.inl ⟨by kernel_rfl, ?_⟩) (by assumption) ?_
      rotate_left
      · intro w hSw; (try dsimp only at hSw); go_simp; (try with_reducible rfl)
      refine wpAnyH_take (i := 1) (v := ?_) rfl (by kernel_rfl) (by kernel_rfl) (by kernel_rfl) (fun _ _ _ h => h) (Or.inl ⟨by kernel_rfl, ?_⟩) (by assumption) ?_
      rotate_left
      · intro w hSw; (try dsimp only at hSw); go_simp; (try with_reducible rfl)
      refine wpAnyH_ready (rs := [2]) (by kernel_rfl) (by simp) ?_
      refine AllReadyH.cons rfl (fun K hK => ?_) AllReadyH.nil
      go_simp
      refine (wl_segment ID.out.1.s HH.out.2.2.2.2.2.1 (by have := HH.out.2.2.2.2.2.2.1; omega)).mono ?_
      rintro x y2 ⟨rfl, hb⟩
      have ID2 : Hid (CpI w y2 base B S a b R buf ws ar st v P2 P3 s ∧ BxN y2 P5 (k : Int)) := Lib.hid ⟨ID.out.1.below hb, Kq.below_blk hb ID.out.2 (Kq.blk_lt ID.out.2)⟩
      clear hS0 hb ID
      refine hK.out _ _ (ID2.out.1.c6 ID2.out.2) (fun hS0 => ?_)
      clear hK K
      refine wpAnyH_take (i := 3) (v := ?_) rfl (by kernel_rfl) (by kernel_rfl) (by kernel_rfl) (fun _ _ _ h => h) (Or.inl ⟨by kernel_rfl, ?_⟩) (by assumption) ?_
      rotate_left
      · intro w hSw; (try dsimp only at hSw); go_simp; (try with_reducible rfl)
      refine wpAnyH_done (by kernel_rfl) ?_ _
      clear hS0
      go_simp
      have hd : decide ((segN b : Int) < (k : Int)) = false := decide_eq_false (by have h1 := HRM.out; omega)
      have hd2 : decide (segN b < k) = false := decide_eq_false (by have h1 := HRM.out; omega)
      have p2 : y2.cell? ⟨P2, 0, none⟩ = some (.pointer (some ⟨R, 0, none⟩)) := Kq.blk_cell ID2.out.1.box 0
      have c1 := ID2.out.1.s.c1
      have c2 := ID2.out.1.s.c2
      go_wp2_with fail
      refine (hd_next v.g (v.sg : Int) y2 HH.out.2.2.2.2.2.2.2.2.2).mono ?_
      rintro x y3 ⟨rfl, hb⟩
      rw [HNX.out.1, HNX.out.2.1, HNX.out.2.2]
      have ID3 : Hid (CpI w y3 base B S a b R buf ws ar st v P2 P3 s ∧ BxN y3 P5 (k : Int)) := Lib.hid ⟨ID2.out.1.below hb, Kq.below_blk hb ID2.out.2 (Kq.blk_lt ID2.out.2)⟩
      clear hb p2 c1 c2 hd
      have p2 : y3.cell? ⟨P2, 0, none⟩ = some (.pointer (some ⟨R, 0, none⟩)) := Kq.blk_cell ID3.out.1.box 0
      have hlt2 : P2 < y3.heap.size := Kq.blk_lt ID3.out.1.box
      have hne2 : ¬ P2 = y3.heap.size := by omega
      clear hlt2
      go_wp2_with fail
      go_ret
      exact ⟨rfl, WoP.from ID3.out.1.bel ((WoP.here ID3.out.1.s).below (Kq.below_alloc _ _))⟩
    · skip
      go_simp
      obtain ⟨z6, hz⟩ : ∃ z, z = z3.alloc (.cells #[.int .i64 0] 3) := ⟨_, rfl⟩
      obtain ⟨P5, hP5⟩ : ∃ z, z = z3.heap.size := ⟨_, rfl⟩
      have hb : Below z3.heap.size z3 z6 := by rw [hz]; exact Kq.below_alloc _ _
      have X5 : Hid (BxN z6 P5 0 ∧ (P5 ≠ P2 ∧ P5 ≠ P3) ∧ w.heap.size ≤ P5) := Lib.hid ⟨by unfold BxN; rw [hz, hP5]; exact Kq.blk_new _ _ _ _, ⟨by have := Kq.blk_lt I3.out.box; omega, by have := Kq.blk_lt I3.out.b3; omega⟩, by have := I3.out.bel.size; omega⟩
      rw [← hz, ← hP5]
      have I6 := Lib.hid (I3.out.below hb)
      clear hb hS0 hz hP5
      refine hK.out _ _ I6.out.cxc (fun hS0 => ?_)
      clear hK K
      refine wpAnyH_ready (rs := [10]) (by kernel_rfl) (by simp) ?_
      refine AllReadyH.cons rfl (fun K hK => ?_) AllReadyH.nil
      go_simp
      refine (fr_parts (a : Int) (s.size : Int) z6).mono ?_
      rintro x _ ⟨rfl, rfl⟩
      rw [HNP.out]
      clear hS0
      refine hK.out _ _ I6.out.cxc (fun hS0 => ?_)
      clear hK K
      have f5 := Kq.blk_free X5.out.1 0
      have k5 := Kq.blk_cell X5.out.1 0
      refine wpAnyH_ready (rs := [12]) (by kernel_rfl) (by simp) ?_
      refine AllReadyH.cons rfl (fun K hK => ?_) AllReadyH.nil
      go_simp
      have hst := I6.out.set5 (y := (k : Int)) X5.out.1 X5.out.2.1 X5.out.2.2 HLT.out
      generalize z6.setCell ⟨P5, 0, none⟩ (.int .i64 (k : Int)) = z7 at *
      have I7 := Lib.hid hst.1
      have X5 := Lib.hid (And.intro hst.2 X5.out.2)
      clear hst f5 k5 hS0
      refine hK.out _ _ I7.out.cxc (fun hS0 => ?_)
      clear hK K
      refine wpAnyH_done (by kernel_rfl) ?_ _
      clear hS0
      go_simp
      have e5 : z7.cell? ⟨P5, 0, none⟩ = some (.int .i64 (k : Int)) := Kq.blk_cell X5.out.1 0
      go_wp2_with fail
      clear e5
      have ID : Hid (CpI w z7.drew base B S a b R buf ws ar st v P2 P3 s ∧ BxN z7.drew P5 (k : Int)) := Lib.hid ⟨I7.out.below (Below.refl _ _).drew, X5.out.1⟩
      refine wp_region_held_drew (S := fun w' => C6 w' P2 P5 R (k : Int)) (by kernel_rfl) (ID.out.1.c6 ID.out.2) (fun hS0 => ?_)
      generalize z7.drew = y1 at *
      unfold C6 at hS0
      dsimp only [C6]
      refine wpAnyH_take (i := 0) (v := ?_) rfl (by kernel_rfl) (by kernel_rfl) (by kernel_rfl) (fun _ _ _ h => h) (Or.inl ⟨by kernel_rfl, ?_⟩) (by assumption) ?_
      rotate_left
      · intro w hSw; (try dsimp only at hSw); go_simp; (try with_reducible rfl)
      refine wpAnyH_take (i := 1) (v := ?_) rfl (by kernel_rfl) (by kernel_rfl) (by kernel_rfl) (fun _ _ _ h => h) (Or.inl ⟨by kernel_rfl, ?_⟩) (by assumption) ?_
      rotate_left
      · intro w hSw; (try dsimp only at hSw); go_simp; (try with_reducible rfl)
      refine wpAnyH_ready (rs := [2]) (by kernel_rfl) (by simp) ?_
      refine AllReadyH.cons rfl (fun K hK => ?_) AllReadyH.nil
      go_simp
      refine (wl_segment ID.out.1.s HH.out.2.2.2.2.2.1 (by have := HH.out.2.2.2.2.2.2.1; omega)).mono ?_
      rintro x y2 ⟨rfl, hb⟩
      have ID2 : Hid (CpI w y2 base B S a b R buf ws ar st v P2 P3 s ∧ BxN y2 P5 (k : Int)) := Lib.hid ⟨ID.out.1.below hb, Kq.below_blk hb ID.out.2 (Kq.blk_lt ID.out.2)⟩
      clear hS0 hb ID
      refine hK.out _ _ (ID2.out.1.c6 ID2.out.2) (fun hS0 => ?_)
      clear hK K
      refine wpAnyH_take (i := 3) (v := ?_) rfl (by kernel_rfl) (by kernel_rfl) (by kernel_rfl) (fun _ _ _ h => h) (Or.inl ⟨by kernel_rfl, ?_⟩) (by assumption) ?_
      rotate_left
      · intro w hSw; (try dsimp only at hSw); go_simp; (try with_reducible rfl)
      refine wpAnyH_done (by kernel_rfl) ?_ _
      clear hS0
      go_simp
      have hd : decide ((segN b : Int) < (k : Int)) = false := decide_eq_false (by have h1 := HRM.out; omega)
      have hd2 : decide (segN b < k) = false := decide_eq_false (by have h1 := HRM.out; omega)
      have p2 : y2.cell? ⟨P2, 0, none⟩ = some (.pointer (some ⟨R, 0, none⟩)) := Kq.blk_cell ID2.out.1.box 0
      have c1 := ID2.out.1.s.c1
      have c2 := ID2.out.1.s.c2
      go_wp2_with fail
      refine (hd_next v.g (v.sg : Int) y2 HH.out.2.2.2.2.2.2.2.2.2).mono ?_
      rintro x y3 ⟨rfl, hb⟩
      rw [HNX.out.1, HNX.out.2.1, HNX.out.2.2]
      have ID3 : Hid (CpI w y3 base B S a b R buf ws ar st v P2 P3 s ∧ BxN y3 P5 (k : Int)) := Lib.hid ⟨ID2.out.1.below hb, Kq.below_blk hb ID2.out.2 (Kq.blk_lt ID2.out.2)⟩
      clear hb p2 c1 c2 hd
      have p2 : y3.cell? ⟨P2, 0, none⟩ = some (.pointer (some ⟨R, 0, none⟩)) := Kq.blk_cell ID3.out.1.box 0
      have hlt2 : P2 < y3.heap.size := Kq.blk_lt ID3.out.1.box
      have hne2 : ¬ P2 = y3.heap.size := by omega
      clear hlt2
      go_wp2_with fail
      go_ret
      exact ⟨rfl, WoP.from ID3.out.1.bel ((WoP.here ID3.out.1.s).below (Kq.below_alloc _ _))⟩
  · skip
    go_simp
    obtain ⟨z8, hz⟩ : ∃ z, z = z2.alloc (.cells #[.int .i64 0] 3) := ⟨_, rfl⟩
    obtain ⟨P5, hP5⟩ : ∃ z, z = z2.heap.size := ⟨_, rfl⟩
    have hb : Below z2.heap.size z2 z8 := by rw [hz]; exact Kq.below_alloc _ _
    have X5 : Hid (BxN z8 P5 0 ∧ (P5 ≠ P2 ∧ P5 ≠ P3) ∧ w.heap.size ≤ P5) := Lib.hid ⟨by unfold BxN; rw [hz, hP5]; exact Kq.blk_new _ _ _ _, ⟨by have := Kq.blk_lt I2.out.box; omega, by have := Kq.blk_lt I2.out.b3; omega⟩, by have := I2.out.bel.size; omega⟩
    rw [← hz, ← hP5]
    have I8 := Lib.hid (I2.out.below hb)
    clear hb hS0 hz hP5
    refine hK.out _ _ I8.out.cxc (fun hS0 => ?_)
    clear hK K
    refine wpAnyH_ready (rs := [7]) (by kernel_rfl) (by simp) ?_
    refine AllReadyH.cons rfl (fun K hK => ?_) AllReadyH.nil
    go_simp
    refine (dk_size (a : Int) (b : Int) z8).mono ?_
    rintro x z9 ⟨rfl, hb⟩
    have I9 := Lib.hid (I8.out.below hb)
    have X5 : Hid (BxN z9 P5 0 ∧ (P5 ≠ P2 ∧ P5 ≠ P3) ∧ w.heap.size ≤ P5) := Lib.hid ⟨Kq.below_blk hb X5.out.1 (Kq.blk_lt X5.out.1), X5.out.2⟩
    clear hb hS0
    refine hK.out _ _ I9.out.cxc (fun hS0 => ?_)
    clear hK K
    refine wpAnyH_ready (rs := [10]) (by kernel_rfl) (by simp) ?_
    refine AllReadyH.cons rfl (fun K hK => ?_) AllReadyH.nil
    go_simp
    refine (fr_parts (a : Int) (s.size : Int) z9).mono ?_
    rintro x _ ⟨rfl, rfl⟩
    rw [HNP.out]
    clear hS0
    refine hK.out _ _ I9.out.cxc (fun hS0 => ?_)
    clear hK K
    have f5 := Kq.blk_free X5.out.1 0
    have k5 := Kq.blk_cell X5.out.1 0
    refine wpAnyH_ready (rs := [12]) (by kernel_rfl) (by simp) ?_
    refine AllReadyH.cons rfl (fun K hK => ?_) AllReadyH.nil
    go_simp
    have hst := I9.out.set5 (y := (k : Int)) X5.out.1 X5.out.2.1 X5.out.2.2 HLT.out
    generalize z9.setCell ⟨P5, 0, none⟩ (.int .i64 (k : Int)) = z10 at *
    have I10 := Lib.hid hst.1
    have X5 := Lib.hid (And.intro hst.2 X5.out.2)
    clear hst f5 k5 hS0
    refine hK.out _ _ I10.out.cxc (fun hS0 => ?_)
    clear hK K
    refine wpAnyH_done (by kernel_rfl) ?_ _
    clear hS0
    go_simp
    have e5 : z10.cell? ⟨P5, 0, none⟩ = some (.int .i64 (k : Int)) := Kq.blk_cell X5.out.1 0
    go_wp2_with fail
    clear e5
    have ID : Hid (CpI w z10.drew base B S a b R buf ws ar st v P2 P3 s ∧ BxN z10.drew P5 (k : Int)) := Lib.hid ⟨I10.out.below (Below.refl _ _).drew, X5.out.1⟩
    refine wp_region_held_drew (S := fun w' => C6 w' P2 P5 R (k : Int)) (by kernel_rfl) (ID.out.1.c6 ID.out.2) (fun hS0 => ?_)
    generalize z10.drew = y1 at *
    unfold C6 at hS0
    dsimp only [C6]
    refine wpAnyH_take (i := 0) (v := ?_) rfl (by kernel_rfl) (by kernel_rfl) (by kernel_rfl) (fun _ _ _ h => h) (Or.inl ⟨by kernel_rfl, ?_⟩) (by assumption) ?_
    rotate_left
    · intro w hSw; (try dsimp only at hSw); go_simp; (try with_reducible rfl)
    refine wpAnyH_take (i := 1) (v := ?_) rfl (by kernel_rfl) (by kernel_rfl) (by kernel_rfl) (fun _ _ _ h => h) (Or.inl ⟨by kernel_rfl, ?_⟩) (by assumption) ?_
    rotate_left
    · intro w hSw; (try dsimp only at hSw); go_simp; (try with_reducible rfl)
    refine wpAnyH_ready (rs := [2]) (by kernel_rfl) (by simp) ?_
    refine AllReadyH.cons rfl (fun K hK => ?_) AllReadyH.nil
    go_simp
    refine (wl_segment ID.out.1.s HH.out.2.2.2.2.2.1 (by have := HH.out.2.2.2.2.2.2.1; omega)).mono ?_
    rintro x y2 ⟨rfl, hb⟩
    have ID2 : Hid (CpI w y2 base B S a b R buf ws ar st v P2 P3 s ∧ BxN y2 P5 (k : Int)) := Lib.hid ⟨ID.out.1.below hb, Kq.below_blk hb ID.out.2 (Kq.blk_lt ID.out.2)⟩
    clear hS0 hb ID
    refine hK.out _ _ (ID2.out.1.c6 ID2.out.2) (fun hS0 => ?_)
    clear hK K
    refine wpAnyH_take (i := 3) (v := ?_) rfl (by kernel_rfl) (by kernel_rfl) (by kernel_rfl) (fun _ _ _ h => h) (Or.inl ⟨by kernel_rfl, ?_⟩) (by assumption) ?_
    rotate_left
    · intro w hSw; (try dsimp only at hSw); go_simp; (try with_reducible rfl)
    refine wpAnyH_done (by kernel_rfl) ?_ _
    clear hS0
    go_simp
    have hd : decide ((segN b : Int) < (k : Int)) = false := decide_eq_false (by have h1 := HRM.out; omega)
    have hd2 : decide (segN b < k) = false := decide_eq_false (by have h1 := HRM.out; omega)
    have p2 : y2.cell? ⟨P2, 0, none⟩ = some (.pointer (some ⟨R, 0, none⟩)) := Kq.blk_cell ID2.out.1.box 0
    have c1 := ID2.out.1.s.c1
    have c2 := ID2.out.1.s.c2
    go_wp2_with fail
    refine (hd_next v.g (v.sg : Int) y2 HH.out.2.2.2.2.2.2.2.2.2).mono ?_
    rintro x y3 ⟨rfl, hb⟩
    rw [HNX.out.1, HNX.out.2.1, HNX.out.2.2]
    have ID3 : Hid (CpI w y3 base B S a b R buf ws ar st v P2 P3 s ∧ BxN y3 P5 (k : Int)) := Lib.hid ⟨ID2.out.1.below hb, Kq.below_blk hb ID2.out.2 (Kq.blk_lt ID2.out.2)⟩
    clear hb p2 c1 c2 hd
    have p2 : y3.cell? ⟨P2, 0, none⟩ = some (.pointer (some ⟨R, 0, none⟩)) := Kq.blk_cell ID3.out.1.box 0
    have hlt2 : P2 < y3.heap.size := Kq.blk_lt ID3.out.1.box
    have hne2 : ¬ P2 = y3.heap.size := by omega
    clear hlt2
    go_wp2_with fail
    go_ret
    exact ⟨rfl, WoP.from ID3.out.1.bel ((WoP.here ID3.out.1.s).below (Kq.below_alloc _ _))⟩
end Go.Proofs.YtbpgfhcecanikaaGreat
