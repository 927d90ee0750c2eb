/- Contract of a log's Append, where it writes. Condition: sizes. -/
import Derived.WalkSpells
import Derived.Outline
import Derived.Deep.QuietTactic
import Derived.Deep.RegionHeld
import Derived.Test.YtbpgfhcecanikaaGreatWlJQ
namespace Go.Proofs.YtbpgfhcecanikaaGreat
open Go.RowKit
set_option linter.unusedVariables false
set_option maxRecDepth 100000 in
set_option maxHeartbeats 4000000 in
theorem wl_append_full {w : World} {base B S a b R N : Nat} {buf : Value} {ws : List (Int × ByteArray)} {ar : Nat} {st : List Nat} {v : WalV} (h : WlS w base B S a b R buf ws ar st v) (ho : StOk a b N ws ar st) (hN : N + 220 ≤ 1000000) (hn : a * b ≤ 3000000) (ha : 64 ≤ a) (ha2 : a ≤ 512) (hb : 4 ≤ b) (hb2 : b ≤ 5000) (hsg : v.sg ≤ 1) (hg : v.g < M64) (hu : v.used ≤ 3000) (hcn : v.cnt ≤ 1000000) (s : ByteArray) (hbr : v.broken = false) (hrd : v.ready = true) (hs : s.size ≤ 4096) (hroom : segN b < v.used + (frSplit (a : Int) v.g v.cnt s).1.length) :
    Calls Tryz.prog 26 #[.pointer (some ⟨R, 0, none⟩), .string s] w fun x w' => x = .returned (.int .i64 2) ∧ WoP w base B S a b R buf ws ar st v w' := by
  have HSC : Hid ((frSplit (a : Int) v.g v.cnt s).2 = 0) := Lib.hid (by unfold frSplit; rw [if_pos ⟨⟨by omega, by omega⟩, hs⟩])
  have HLS := Lib.hid (split_sizes a v.g v.cnt s ha)
  have HRM := Lib.hid hroom
  clear hroom hs
  obtain ⟨w1, hw1⟩ : ∃ z, z = w.alloc (.cells #[.pointer (some ⟨R, 0, none⟩)] 33) := ⟨_, rfl⟩
  obtain ⟨P2, hP2⟩ : ∃ z, z = w.heap.size := ⟨_, rfl⟩
  have hb1 : Below w.heap.size w w1 := by rw [hw1]; exact Kq.below_alloc _ _
  have hI1 : ApI w w1 base B S a b R buf ws ar st v P2 := ⟨by unfold BxP; rw [hw1, hP2]; exact Kq.blk_new _ _ _ _, h.below hb1, hb1, by omega⟩
  have HLT : Hid (∀ j, Own B S buf j ∨ j = R → j < w.heap.size) := Lib.hid (fun j hj => hj.elim (fun e => h.d.own_lt e) (fun e => by rw [e]; exact h.lt))
  have I1 := Lib.hid hI1
  have c7 := h.c7
  have c6 := h.c6
  have hRl := h.lt
  have hRn : ¬ R = w.heap.size := by omega
  have HW1 := Lib.hid (And.intro hw1 hP2)
  have HH := Lib.hid (And.intro ho (And.intro hN (And.intro hn (And.intro ha (And.intro ha2 (And.intro hb (And.intro hb2 (And.intro hsg (And.intro hg (And.intro hu hcn))))))))))
  clear hw1 hP2 hb1 hI1 h ho hN hn ha ha2 hb hb2 hsg hg hcn
  go_enter Tryz.func26, Tryz.ntmps26
  rw [hbr] at c7
  rw [hrd] at c6
  go_wp2_with fail
  rw [← HW1.out.1, ← HW1.out.2]
  have hcv : IntKind.u64.wrap (v.cnt : Int) = (v.cnt : Int) := IntWalk.u64_in _ (by have := HH.out.2.2.2.2.2.2.2.2.2.2; omega)
  clear c6 c7 hRl hRn
  have I2 : Hid (ApI w w1.drew base B S a b R buf ws ar st v P2) := Lib.hid (I1.out.below (Below.refl _ _).drew)
  refine wp_region_held_drew (S := fun w' => AxC w' P2 R B a b v.g v.cnt) (by kernel_rfl) I2.out.axc (fun hS0 => ?_)
  generalize w1.drew = z2 at *
  unfold AxC at hS0
  dsimp only [AxC]
  refine wpAnyH_take (i := 18) (v := ?_) rfl (by kernel_rfl) (by kernel_rfl) (by kernel_rfl) (fun _ _ _ h => h) (Or.inl ⟨by kernel_rfl, ?_⟩) (by assumption) ?_
  rotate_left
  · intro w hSw; (try dsimp only at hSw); go_simp; (try with_reducible rfl)
  refine wpAnyH_take (i := 0) (v := ?_) rfl (by kernel_rfl) (by kernel_rfl) (by kernel_rfl) (fun _ _ _ h => h) (Or.inl ⟨by kernel_rfl, ?_⟩) (by assumption) ?_
  rotate_left
  · intro w hSw; (try dsimp only at hSw); go_simp; (try with_reducible rfl)
  refine wpAnyH_take (i := 1) (v := ?_) rfl (by kernel_rfl) (by kernel_rfl) (by kernel_rfl) (fun _ _ _ h => h) (Or.inl ⟨by kernel_rfl, ?_⟩) (by assumption) ?_
  rotate_left
  · intro w hSw; (try dsimp only at hSw); go_simp; (try with_reducible rfl)
  refine wpAnyH_take (i := 2) (v := ?_) rfl (by kernel_rfl) (by kernel_rfl) (by kernel_rfl) (fun _ _ _ h => h) (Or.inl ⟨by kernel_rfl, ?_⟩) (by assumption) ?_
  rotate_left
  · intro w hSw; (try dsimp only at hSw); go_simp; (try with_reducible rfl)
  refine wpAnyH_take (i := 3) (v := ?_) rfl (by kernel_rfl) (by kernel_rfl) (by kernel_rfl) (fun _ _ _ h => h) (Or.inl ⟨by kernel_rfl, ?_⟩) (by assumption) ?_
  rotate_left
  · intro w hSw; (try dsimp only at hSw); go_simp; (try with_reducible rfl)
  refine wpAnyH_take (i := 4) (v := ?_) rfl (by kernel_rfl) (by kernel_rfl) (by kernel_rfl) (fun _ _ _ h => h) (Or.inl ⟨by kernel_rfl, ?_⟩) (by assumption) ?_
  rotate_left
  · intro w hSw; (try dsimp only at hSw); go_simp; (try with_reducible rfl)
  refine wpAnyH_take (i := 5) (v := ?_) rfl (by kernel_rfl) (by kernel_rfl) (by kernel_rfl) (fun _ _ _ h => h) (Or.inl ⟨by kernel_rfl, ?_⟩) (by assumption) ?_
  rotate_left
  · intro w hSw; (try dsimp only at hSw); go_simp; (try with_reducible rfl)
  refine wpAnyH_take (i := 6) (v := ?_) rfl (by kernel_rfl) (by kernel_rfl) (by kernel_rfl) (fun _ _ _ h => h) (Or.inl ⟨by kernel_rfl, ?_⟩) (by assumption) ?_
  rotate_left
  · intro w hSw; (try dsimp only at hSw); go_simp; (try with_reducible rfl)
  refine wpAnyH_take (i := 8) (v := ?_) rfl (by kernel_rfl) (by kernel_rfl) (by kernel_rfl) (fun _ _ _ h => h) (Or.inl ⟨by kernel_rfl, ?_⟩) (by assumption) ?_
  rotate_left
  · intro w hSw; (try dsimp only at hSw); go_simp; (try with_reducible rfl)
  refine wpAnyH_take (i := 9) (v := ?_) rfl (by kernel_rfl) (by kernel_rfl) (by kernel_rfl) (fun _ _ _ h => h) (Or.inl ⟨by kernel_rfl, ?_⟩) (by assumption) ?_
  rotate_left
  · intro w hSw; (try dsimp only at hSw); go_simp; (try with_reducible rfl)
  refine wpAnyH_take (i := 10) (v := ?_) rfl (by kernel_rfl) (by kernel_rfl) (by kernel_rfl) (fun _ _ _ h => h) (Or.inl ⟨by kernel_rfl, ?_⟩) (by assumption) ?_
  rotate_left
  · intro w hSw; (try dsimp only at hSw); go_simp; (try with_reducible rfl)
  refine wpAnyH_take (i := 11) (v := ?_) rfl (by kernel_rfl) (by kernel_rfl) (by kernel_rfl) (fun _ _ _ h => h) (Or.inl ⟨by kernel_rfl, ?_⟩) (by assumption) ?_
  rotate_left
  · intro w hSw; (try dsimp only at hSw); go_simp; (try with_reducible rfl)
  refine wpAnyH_take (i := 12) (v := ?_) rfl (by kernel_rfl) (by kernel_rfl) (by kernel_rfl) (fun _ _ _ h => h) (Or.inl ⟨by kernel_rfl, ?_⟩) (by assumption) ?_
  rotate_left
  · intro w hSw; (try dsimp only at hSw); go_simp; (try with_reducible rfl)
  refine wpAnyH_take (i := 13) (v := ?_) rfl (by kernel_rfl) (by kernel_rfl) (by kernel_rfl) (fun _ _ _ h => h) (Or.inl ⟨by kernel_rfl, ?_⟩) (by assumption) ?_
  rotate_left
  · intro w hSw; (try dsimp only at hSw); go_simp; (try with_reducible rfl)
  refine wpAnyH_take (i := 14) (v := ?_) rfl (by kernel_rfl) (by kernel_rfl) (by kernel_rfl) (fun _ _ _ h => h) (Or.inl ⟨by kernel_rfl, ?_⟩) (by assumption) ?_
  rotate_left
  · intro w hSw; (try dsimp only at hSw); go_simp; (try with_reducible rfl)
  refine wpAnyH_take (i := 15) (v := ?_) rfl (by kernel_rfl) (by kernel_rfl) (by kernel_rfl) (fun _ _ _ h => h) (Or.inl ⟨by kernel_rfl, ?_⟩) (by assumption) ?_
  rotate_left
  · intro w hSw; (try dsimp only at hSw); go_simp; (try with_reducible rfl)
  refine wpAnyH_take (i := 16) (v := ?_) rfl (by kernel_rfl) (by kernel_rfl) (by kernel_rfl) (fun _ _ _ h => h) (Or.inl ⟨by kernel_rfl, ?_⟩) (by assumption) ?_
  rotate_left
  · intro w hSw; (try dsimp only at hSw); go_simp; (try with_reducible rfl)
  refine wpAnyH_take (i := 17) (v := ?_) rfl (by kernel_rfl) (by kernel_rfl) (by kernel_rfl) (fun _ _ _ h => h) (Or.inl ⟨by kernel_rfl, ?_⟩) (by assumption) ?_
  rotate_left
  · intro w hSw; (try dsimp only at hSw); go_simp; (try with_reducible rfl)
  refine wpAnyH_ready (rs := [7, 23]) (by kernel_rfl) (by simp) ?_
  refine (AllReadyH.cons rfl (fun K hK => ?_) (AllReadyH.cons rfl (fun K hK => ?_) AllReadyH.nil))
  · skip
    go_simp
    refine (dk_size (a : Int) (b : Int) z2).mono ?_
    rintro x z3 ⟨rfl, hb⟩
    have I3 := Lib.hid (I2.out.below hb)
    clear hb hS0
    refine hK.out _ _ I3.out.axc (fun hS0 => ?_)
    clear hK K
    refine wpAnyH_ready (rs := [19, 23]) (by kernel_rfl) (by simp) ?_
    refine (AllReadyH.cons rfl (fun K hK => ?_) (AllReadyH.cons rfl (fun K hK => ?_) AllReadyH.nil))
    · skip
      go_simp
      refine (fr_split (a : Int) v.g v.cnt s z3 HH.out.2.2.2.2.2.2.2.2.1 (by have := HH.out.2.2.2.2.2.2.2.2.2.2; unfold M64; omega)).mono ?_
      rintro x z4 ⟨vs, rfl, hrow, hb⟩
      rw [HSC.out]
      obtain ⟨LA, lcap, rfl, hLA, hge, hlt⟩ := row_strsX hrow
      have XLB : Hid (∀ g o, LA = some ⟨g, o, none⟩ → g < z4.heap.size) := Lib.hid hlt
      clear hlt
      have XL : Hid (StrsAt z4 LA (frSplit (a : Int) v.g v.cnt s).1 ∧ ∀ g o, LA = some ⟨g, o, none⟩ → w.heap.size ≤ g ∧ P2 < g) := Lib.hid ⟨hLA, fun g o e => by have h1 := hge g o e; have h2 := I3.out.bel.size; have h3 := Kq.blk_lt I3.out.box; omega⟩
      have I4 := Lib.hid (I3.out.below hb)
      clear hb hS0 hrow hLA hge
      refine hK.out _ _ I4.out.axc (fun hS0 => ?_)
      clear hK K
      refine wpAnyH_take (i := 20) (v := ?_) rfl (by kernel_rfl) (by kernel_rfl) (by kernel_rfl) (fun _ _ _ h => h) (Or.inl ⟨by kernel_rfl, ?_⟩) (by assumption) ?_
      rotate_left
      · intro w hSw; (try dsimp only at hSw); go_simp; (try with_reducible rfl)
      refine wpAnyH_take (i := 21) (v := ?_) rfl (by kernel_rfl) (by kernel_rfl) (by kernel_rfl) (fun _ _ _ h => h) (Or.inl ⟨by kernel_rfl, ?_⟩) (by assumption) ?_
      rotate_left
      · intro w hSw; (try dsimp only at hSw); go_simp; (try with_reducible rfl)
      refine wpAnyH_take (i := 22) (v := ?_) rfl (by kernel_rfl) (by kernel_rfl) (by kernel_rfl) (fun _ _ _ h => h) (Or.inl ⟨by kernel_rfl, ?_⟩) (by assumption) ?_
      rotate_left
      · intro w hSw; (try dsimp only at hSw); go_simp; (try with_reducible rfl)
      refine wpAnyH_ready (rs := [23]) (by kernel_rfl) (by simp) ?_
      refine AllReadyH.cons rfl (fun K hK => ?_) AllReadyH.nil
      go_simp
      obtain ⟨z5, hz⟩ : ∃ z, z = z4.alloc (.cells #[.slice none 0 0] 35) := ⟨_, rfl⟩
      obtain ⟨P5, hP5⟩ : ∃ z, z = z4.heap.size := ⟨_, rfl⟩
      have hb : Below z4.heap.size z4 z5 := by rw [hz]; exact Kq.below_alloc _ _
      have X5 : Hid (BxL z5 P5 (.slice none 0 0) ∧ P5 ≠ P2 ∧ w.heap.size ≤ P5) := Lib.hid ⟨by unfold BxL; rw [hz, hP5]; exact Kq.blk_new _ _ _ _, by have := Kq.blk_lt I4.out.box; omega, by have := I4.out.bel.size; omega⟩
      have X5N : Hid (∀ g o, LA = some ⟨g, o, none⟩ → g ≠ P5) := Lib.hid (fun g o e => by rcases Nat.eq_zero_or_pos (frSplit (a : Int) v.g v.cnt s).1.length with h0 | h0 <;> have := XLB.out g o e <;> omega)
      rw [← hz, ← hP5]
      have I5 := Lib.hid (I4.out.below hb)
      have XL : Hid (StrsAt z5 LA (frSplit (a : Int) v.g v.cnt s).1 ∧ ∀ g o, LA = some ⟨g, o, none⟩ → w.heap.size ≤ g ∧ P2 < g) := Lib.hid ⟨XL.out.1.below hb, XL.out.2⟩
      clear hb hS0 hz hP5
      refine hK.out _ _ I5.out.axc (fun hS0 => ?_)
      clear hK K
      have f5 := Kq.blk_free X5.out.1 0
      have k5 := Kq.blk_cell X5.out.1 0
      refine wpAnyH_ready (rs := [24]) (by kernel_rfl) (by simp) ?_
      refine AllReadyH.cons rfl (fun K hK => ?_) AllReadyH.nil
      go_simp
      have hst := I5.out.set5 (y := .slice LA (frSplit (a : Int) v.g v.cnt s).1.length lcap) X5.out.1 X5.out.2.1 X5.out.2.2 HLT.out
      have hkk : Kq.Keeps (· = P5) z5 (z5.setCell ⟨P5, 0, none⟩ (.slice LA (frSplit (a : Int) v.g v.cnt s).1.length lcap)) := Kq.Keeps.setCell _ _ _ rfl
      have XLX : Hid (StrsAt (z5.setCell ⟨P5, 0, none⟩ (.slice LA (frSplit (a : Int) v.g v.cnt s).1.length lcap)) LA (frSplit (a : Int) v.g v.cnt s).1) := Lib.hid (XL.out.1.keepsW hkk (fun g o _ e hh => by have h1 := X5N.out g o e; omega))
      generalize z5.setCell ⟨P5, 0, none⟩ (.slice LA (frSplit (a : Int) v.g v.cnt s).1.length lcap) = z6 at *
      have I6 := Lib.hid hst.1
      have X5 := Lib.hid (And.intro hst.2 X5.out.2)
      have HKK := Lib.hid hkk
      clear hst hkk f5 k5 hS0
      refine hK.out _ _ I6.out.axc (fun hS0 => ?_)
      clear hK K
      refine wpAnyH_take (i := 25) (v := ?_) rfl (by kernel_rfl) (by kernel_rfl) (by kernel_rfl) (fun _ _ _ h => h) (Or.inl ⟨by kernel_rfl, ?_⟩) (by assumption) ?_
      rotate_left
      · intro w hSw; (try dsimp only at hSw); go_simp; (try with_reducible rfl)
      refine wpAnyH_done (by kernel_rfl) ?_ _
      clear hS0
      go_simp
      go_wp2_with fail
      have ID : Hid (ApI w z6.drew base B S a b R buf ws ar st v P2 ∧ BxL z6.drew P5 (.slice LA (frSplit (a : Int) v.g v.cnt s).1.length lcap)) := Lib.hid ⟨I6.out.below (Below.refl _ _).drew, X5.out.1⟩
      have XLD : Hid (∀ hx : StrsAt z6 LA (frSplit (a : Int) v.g v.cnt s).1, StrsAt z6.drew LA (frSplit (a : Int) v.g v.cnt s).1) := Lib.hid (fun hx => hx.below (Below.refl _ _).drew)
      have hLs := HLS.out
      obtain ⟨T, hT⟩ : ∃ T, T = (frSplit (a : Int) v.g v.cnt s).1 := ⟨_, rfl⟩
      rw [← hT] at ID XLD hLs XLX ⊢
      obtain ⟨u1, hu1⟩ : ∃ z, z = v.used + T.length := ⟨_, rfl⟩
      have hwu : IntKind.i64.wrap ((v.used : Int) + (T.length : Int)) = (u1 : Int) := by rw [IntWalk.i64_in _ (by have := hLs.1; omega)]; omega
      have HU := Lib.hid (And.intro hu1 (And.intro hT hLs))
      have hroom := HRM.out
      rw [← hT, ← hu1] at hroom
      clear hu1 hT hLs
      refine wp_region_held_drew (S := fun w' => A8 w' P2 P5 R v.used T.length lcap LA) (by kernel_rfl) (ID.out.1.a8 ID.out.2) (fun hS0 => ?_)
      generalize z6.drew = y1 at *
      unfold A8 at hS0
      dsimp only [A8]
      refine wpAnyH_take (i := 0) (v := ?_) rfl (by kernel_rfl) (by kernel_rfl) (by kernel_rfl) (fun _ _ _ h => h) (Or.inl ⟨by kernel_rfl, ?_⟩) (by assumption) ?_
      rotate_left
      · intro w hSw; (try dsimp only at hSw); go_simp; (try with_reducible rfl)
      refine wpAnyH_take (i := 1) (v := ?_) rfl (by kernel_rfl) (by kernel_rfl) (by kernel_rfl) (fun _ _ _ h => h) (Or.inl ⟨by kernel_rfl, ?_⟩) (by assumption) ?_
      rotate_left
      · intro w hSw; (try dsimp only at hSw); go_simp; (try with_reducible rfl)
      refine wpAnyH_take (i := 2) (v := ?_) rfl (by kernel_rfl) (by kernel_rfl) (by kernel_rfl) (fun _ _ _ h => h) (Or.inl ⟨by kernel_rfl, ?_⟩) (by assumption) ?_
      rotate_left
      · intro w hSw; (try dsimp only at hSw); go_simp; (try with_reducible rfl)
      refine wpAnyH_take (i := 3) (v := ?_) rfl (by kernel_rfl) (by kernel_rfl) (by kernel_rfl) (fun _ _ _ h => h) (Or.inl ⟨by kernel_rfl, ?_⟩) (by assumption) ?_
      rotate_left
      · intro w hSw; (try dsimp only at hSw); go_simp; (try with_reducible rfl)
      refine wpAnyH_take (i := 4) (v := ?_) rfl (by kernel_rfl) (by kernel_rfl) (by kernel_rfl) (fun _ _ _ h => h) (Or.inl ⟨by kernel_rfl, ?_⟩) (by assumption) ?_
      rotate_left
      · intro w hSw; (try dsimp only at hSw); go_simp; (try with_reducible rfl)
      refine wpAnyH_take (i := 5) (v := ?_) rfl (by kernel_rfl) (by kernel_rfl) (by kernel_rfl) (fun _ _ _ h => h) (Or.inl ⟨by kernel_rfl, ?_⟩) (by assumption) ?_
      rotate_left
      · intro w hSw; (try dsimp only at hSw); go_simp; (try with_reducible rfl)
      refine wpAnyH_take (i := 6) (v := ?_) rfl (by kernel_rfl) (by kernel_rfl) (by kernel_rfl) (fun _ _ _ h => h) (Or.inl ⟨by kernel_rfl, ?_⟩) (by assumption) ?_
      rotate_left
      · intro w hSw; (try dsimp only at hSw); go_simp; (try with_reducible rfl)
      refine wpAnyH_take (i := 7) (v := ?_) rfl (by kernel_rfl) (by kernel_rfl) (by kernel_rfl) (fun _ _ _ h => h) (Or.inl ⟨by kernel_rfl, ?_⟩) (by assumption) ?_
      rotate_left
      · intro w hSw; (try dsimp only at hSw); go_simp; (try with_reducible rfl)
      refine wpAnyH_ready (rs := [8]) (by kernel_rfl) (by simp) ?_
      refine AllReadyH.cons rfl (fun K hK => ?_) AllReadyH.nil
      go_simp
      refine (wl_segment ID.out.1.s HH.out.2.2.2.2.2.1 (by have := HH.out.2.2.2.2.2.2.1; omega)).mono ?_
      rintro x y2 ⟨rfl, hb⟩
      have ID2 : Hid (ApI w y2 base B S a b R buf ws ar st v P2 ∧ BxL y2 P5 (.slice LA T.length lcap)) := Lib.hid ⟨ID.out.1.below hb, Kq.below_blk hb ID.out.2 (Kq.blk_lt ID.out.2)⟩
      have XL2 : Hid (StrsAt y2 LA T) := Lib.hid ((XLD.out XLX.out).below hb)
      clear hS0 hb ID
      refine hK.out _ _ (ID2.out.1.a8 ID2.out.2) (fun hS0 => ?_)
      clear hK K
      refine wpAnyH_take (i := 9) (v := ?_) rfl (by kernel_rfl) (by kernel_rfl) (by kernel_rfl) (fun _ _ _ h => h) (Or.inl ⟨by kernel_rfl, ?_⟩) (by assumption) ?_
      rotate_left
      · intro w hSw; (try dsimp only at hSw); go_simp; (try with_reducible rfl)
      refine wpAnyH_done (by kernel_rfl) ?_ _
      clear hS0
      go_simp
      have hd : decide ((segN b : Int) < (u1 : Int)) = true := decide_eq_true (by omega)
      have hd' : decide (segN b < u1) = true := decide_eq_true hroom
      clear hroom hwu
      go_wp2
      go_ret
      exact ⟨rfl, WoP.from ID2.out.1.bel (WoP.here ID2.out.1.s)⟩
    · skip
      go_simp
      obtain ⟨z7, hz⟩ : ∃ z, z = z3.alloc (.cells #[.slice none 0 0] 35) := ⟨_, rfl⟩
      obtain ⟨P5, hP5⟩ : ∃ z, z = z3.heap.size := ⟨_, rfl⟩
      have hb : Below z3.heap.size z3 z7 := by rw [hz]; exact Kq.below_alloc _ _
      have X5 : Hid (BxL z7 P5 (.slice none 0 0) ∧ P5 ≠ P2 ∧ w.heap.size ≤ P5) := Lib.hid ⟨by unfold BxL; rw [hz, hP5]; exact Kq.blk_new _ _ _ _, by have := Kq.blk_lt I3.out.box; omega, by have := I3.out.bel.size; omega⟩
      rw [← hz, ← hP5]
      have I7 := Lib.hid (I3.out.below hb)
      clear hb hS0 hz hP5
      refine hK.out _ _ I7.out.axc (fun hS0 => ?_)
      clear hK K
      refine wpAnyH_ready (rs := [19]) (by kernel_rfl) (by simp) ?_
      refine AllReadyH.cons rfl (fun K hK => ?_) AllReadyH.nil
      go_simp
      refine (fr_split (a : Int) v.g v.cnt s z7 HH.out.2.2.2.2.2.2.2.2.1 (by have := HH.out.2.2.2.2.2.2.2.2.2.2; unfold M64; omega)).mono ?_
      rintro x z8 ⟨vs, rfl, hrow, hb⟩
      rw [HSC.out]
      obtain ⟨LA, lcap, rfl, hLA, hge, hlt⟩ := row_strsX hrow
      have XLB : Hid (∀ g o, LA = some ⟨g, o, none⟩ → g < z8.heap.size) := Lib.hid hlt
      have X5N : Hid (∀ g o, LA = some ⟨g, o, none⟩ → g ≠ P5) := Lib.hid (fun g o e => by have h1 := hge g o e; have h2 := Kq.blk_lt X5.out.1; omega)
      clear hlt
      have XL : Hid (StrsAt z8 LA (frSplit (a : Int) v.g v.cnt s).1 ∧ ∀ g o, LA = some ⟨g, o, none⟩ → w.heap.size ≤ g ∧ P2 < g) := Lib.hid ⟨hLA, fun g o e => by have h1 := hge g o e; have h2 := I7.out.bel.size; have h3 := Kq.blk_lt I7.out.box; omega⟩
      have I8 := Lib.hid (I7.out.below hb)
      have X5 : Hid (BxL z8 P5 (.slice none 0 0) ∧ P5 ≠ P2 ∧ w.heap.size ≤ P5) := Lib.hid ⟨Kq.below_blk hb X5.out.1 (Kq.blk_lt X5.out.1), X5.out.2⟩
      clear hb hS0 hrow hLA hge
      refine hK.out _ _ I8.out.axc (fun hS0 => ?_)
      clear hK K
      refine wpAnyH_take (i := 20) (v := ?_) rfl (by kernel_rfl) (by kernel_rfl) (by kernel_rfl) (fun _ _ _ h => h) (Or.inl ⟨by kernel_rfl, ?_⟩) (by assumption) ?_
      rotate_left
      · intro w hSw; (try dsimp only at hSw); go_simp; (try with_reducible rfl)
      refine wpAnyH_take (i := 21) (v := ?_) rfl (by kernel_rfl) (by kernel_rfl) (by kernel_rfl) (fun _ _ _ h => h) (Or.inl ⟨by kernel_rfl, ?_⟩) (by assumption) ?_
      rotate_left
      · intro w hSw; (try dsimp only at hSw); go_simp; (try with_reducible rfl)
      refine wpAnyH_take (i := 22) (v := ?_) rfl (by kernel_rfl) (by kernel_rfl) (by kernel_rfl) (fun _ _ _ h => h) (Or.inl ⟨by kernel_rfl, ?_⟩) (by assumption) ?_
      rotate_left
      · intro w hSw; (try dsimp only at hSw); go_simp; (try with_reducible rfl)
      have f5 := Kq.blk_free X5.out.1 0
      have k5 := Kq.blk_cell X5.out.1 0
      refine wpAnyH_ready (rs := [24]) (by kernel_rfl) (by simp) ?_
      refine AllReadyH.cons rfl (fun K hK => ?_) AllReadyH.nil
      go_simp
      have hst := I8.out.set5 (y := .slice LA (frSplit (a : Int) v.g v.cnt s).1.length lcap) X5.out.1 X5.out.2.1 X5.out.2.2 HLT.out
      have hkk : Kq.Keeps (· = P5) z8 (z8.setCell ⟨P5, 0, none⟩ (.slice LA (frSplit (a : Int) v.g v.cnt s).1.length lcap)) := Kq.Keeps.setCell _ _ _ rfl
      have XLX : Hid (StrsAt (z8.setCell ⟨P5, 0, none⟩ (.slice LA (frSplit (a : Int) v.g v.cnt s).1.length lcap)) LA (frSplit (a : Int) v.g v.cnt s).1) := Lib.hid (XL.out.1.keepsW hkk (fun g o _ e hh => by have h1 := X5N.out g o e; omega))
      generalize z8.setCell ⟨P5, 0, none⟩ (.slice LA (frSplit (a : Int) v.g v.cnt s).1.length lcap) = z9 at *
      have I9 := Lib.hid hst.1
      have X5 := Lib.hid (And.intro hst.2 X5.out.2)
      have HKK := Lib.hid hkk
      clear hst hkk f5 k5 hS0
      refine hK.out _ _ I9.out.axc (fun hS0 => ?_)
      clear hK K
      refine wpAnyH_take (i := 25) (v := ?_) rfl (by kernel_rfl) (by kernel_rfl) (by kernel_rfl) (fun _ _ _ h => h) (Or.inl ⟨by kernel_rfl, ?_⟩) (by assumption) ?_
      rotate_left
      · intro w hSw; (try dsimp only at hSw); go_simp; (try with_reducible rfl)
      refine wpAnyH_done (by kernel_rfl) ?_ _
      clear hS0
      go_simp
      go_wp2_with fail
      have ID : Hid (ApI w z9.drew base B S a b R buf ws ar st v P2 ∧ BxL z9.drew P5 (.slice LA (frSplit (a : Int) v.g v.cnt s).1.length lcap)) := Lib.hid ⟨I9.out.below (Below.refl _ _).drew, X5.out.1⟩
      have XLD : Hid (∀ hx : StrsAt z9 LA (frSplit (a : Int) v.g v.cnt s).1, StrsAt z9.drew LA (frSplit (a : Int) v.g v.cnt s).1) := Lib.hid (fun hx => hx.below (Below.refl _ _).drew)
      have hLs := HLS.out
      obtain ⟨T, hT⟩ : ∃ T, T = (frSplit (a : Int) v.g v.cnt s).1 := ⟨_, rfl⟩
      rw [← hT] at ID XLD hLs XLX ⊢
      obtain ⟨u1, hu1⟩ : ∃ z, z = v.used + T.length := ⟨_, rfl⟩
      have hwu : IntKind.i64.wrap ((v.used : Int) + (T.length : Int)) = (u1 : Int) := by rw [IntWalk.i64_in _ (by have := hLs.1; omega)]; omega
      have HU := Lib.hid (And.intro hu1 (And.intro hT hLs))
      have hroom := HRM.out
      rw [← hT, ← hu1] at hroom
      clear hu1 hT hLs
      refine wp_region_held_drew (S := fun w' => A8 w' P2 P5 R v.used T.length lcap LA) (by kernel_rfl) (ID.out.1.a8 ID.out.2) (fun hS0 => ?_)
      generalize z9.drew = y1 at *
      unfold A8 at hS0
      dsimp only [A8]
      refine wpAnyH_take (i := 0) (v := ?_) rfl (by kernel_rfl) (by kernel_rfl) (by kernel_rfl) (fun _ _ _ h => h) (Or.inl ⟨by kernel_rfl, ?_⟩) (by assumption) ?_
      rotate_left
      · intro w hSw; (try dsimp only at hSw); go_simp; (try with_reducible rfl)
      refine wpAnyH_take (i := 1) (v := ?_) rfl (by kernel_rfl) (by kernel_rfl) (by kernel_rfl) (fun _ _ _ h => h) (Or.inl ⟨by kernel_rfl, ?_⟩) (by assumption) ?_
      rotate_left
      · intro w hSw; (try dsimp only at hSw); go_simp; (try with_reducible rfl)
      refine wpAnyH_take (i := 2) (v := ?_) rfl (by kernel_rfl) (by kernel_rfl) (by kernel_rfl) (fun _ _ _ h => h) (Or.inl ⟨by kernel_rfl, ?_⟩) (by assumption) ?_
      rotate_left
      · intro w hSw; (try dsimp only at hSw); go_simp; (try with_reducible rfl)
      refine wpAnyH_take (i := 3) (v := ?_) rfl (by kernel_rfl) (by kernel_rfl) (by kernel_rfl) (fun _ _ _ h => h) (Or.inl ⟨by kernel_rfl, ?_⟩) (by assumption) ?_
      rotate_left
      · intro w hSw; (try dsimp only at hSw); go_simp; (try with_reducible rfl)
      refine wpAnyH_take (i := 4) (v := ?_) rfl (by kernel_rfl) (by kernel_rfl) (by kernel_rfl) (fun _ _ _ h => h) (Or.inl ⟨by kernel_rfl, ?_⟩) (by assumption) ?_
      rotate_left
      · intro w hSw; (try dsimp only at hSw); go_simp; (try with_reducible rfl)
      refine wpAnyH_take (i := 5) (v := ?_) rfl (by kernel_rfl) (by kernel_rfl) (by kernel_rfl) (fun _ _ _ h => h) (Or.inl ⟨by kernel_rfl, ?_⟩) (by assumption) ?_
      rotate_left
      · intro w hSw; (try dsimp only at hSw); go_simp; (try with_reducible rfl)
      refine wpAnyH_take (i := 6) (v := ?_) rfl (by kernel_rfl) (by kernel_rfl) (by kernel_rfl) (fun _ _ _ h => h) (Or.inl ⟨by kernel_rfl, ?_⟩) (by assumption) ?_
      rotate_left
      · intro w hSw; (try dsimp only at hSw); go_simp; (try with_reducible rfl)
      refine wpAnyH_take (i := 7) (v := ?_) rfl (by kernel_rfl) (by kernel_rfl) (by kernel_rfl) (fun _ _ _ h => h) (Or.inl ⟨by kernel_rfl, ?_⟩) (by assumption) ?_
      rotate_left
      · intro w hSw; (try dsimp only at hSw); go_simp; (try with_reducible rfl)
      refine wpAnyH_ready (rs := [8]) (by kernel_rfl) (by simp) ?_
      refine AllReadyH.cons rfl (fun K hK => ?_) AllReadyH.nil
      go_simp
      refine (wl_segment ID.out.1.s HH.out.2.2.2.2.2.1 (by have := HH.out.2.2.2.2.2.2.1; omega)).mono ?_
      rintro x y2 ⟨rfl, hb⟩
      have ID2 : Hid (ApI w y2 base B S a b R buf ws ar st v P2 ∧ BxL y2 P5 (.slice LA T.length lcap)) := Lib.hid ⟨ID.out.1.below hb, Kq.below_blk hb ID.out.2 (Kq.blk_lt ID.out.2)⟩
      have XL2 : Hid (StrsAt y2 LA T) := Lib.hid ((XLD.out XLX.out).below hb)
      clear hS0 hb ID
      refine hK.out _ _ (ID2.out.1.a8 ID2.out.2) (fun hS0 => ?_)
      clear hK K
      refine wpAnyH_take (i := 9) (v := ?_) rfl (by kernel_rfl) (by kernel_rfl) (by kernel_rfl) (fun _ _ _ h => h) (Or.inl ⟨by kernel_rfl, ?_⟩) (by assumption) ?_
      rotate_left
      · intro w hSw; (try dsimp only at hSw); go_simp; (try with_reducible rfl)
      refine wpAnyH_done (by kernel_rfl) ?_ _
      clear hS0
      go_simp
      have hd : decide ((segN b : Int) < (u1 : Int)) = true := decide_eq_true (by omega)
      have hd' : decide (segN b < u1) = true := decide_eq_true hroom
      clear hroom hwu
      go_wp2
      go_ret
      exact ⟨rfl, WoP.from ID2.out.1.bel (WoP.here ID2.out.1.s)⟩
  · skip
    go_simp
    obtain ⟨z10, hz⟩ : ∃ z, z = z2.alloc (.cells #[.slice none 0 0] 35) := ⟨_, rfl⟩
    obtain ⟨P5, hP5⟩ : ∃ z, z = z2.heap.size := ⟨_, rfl⟩
    have hb : Below z2.heap.size z2 z10 := by rw [hz]; exact Kq.below_alloc _ _
    have X5 : Hid (BxL z10 P5 (.slice none 0 0) ∧ P5 ≠ P2 ∧ w.heap.size ≤ P5) := Lib.hid ⟨by unfold BxL; rw [hz, hP5]; exact Kq.blk_new _ _ _ _, by have := Kq.blk_lt I2.out.box; omega, by have := I2.out.bel.size; omega⟩
    rw [← hz, ← hP5]
    have I10 := Lib.hid (I2.out.below hb)
    clear hb hS0 hz hP5
    refine hK.out _ _ I10.out.axc (fun hS0 => ?_)
    clear hK K
    refine wpAnyH_ready (rs := [7]) (by kernel_rfl) (by simp) ?_
    refine AllReadyH.cons rfl (fun K hK => ?_) AllReadyH.nil
    go_simp
    refine (dk_size (a : Int) (b : Int) z10).mono ?_
    rintro x z11 ⟨rfl, hb⟩
    have I11 := Lib.hid (I10.out.below hb)
    have X5 : Hid (BxL z11 P5 (.slice none 0 0) ∧ P5 ≠ P2 ∧ w.heap.size ≤ P5) := Lib.hid ⟨Kq.below_blk hb X5.out.1 (Kq.blk_lt X5.out.1), X5.out.2⟩
    clear hb hS0
    refine hK.out _ _ I11.out.axc (fun hS0 => ?_)
    clear hK K
    refine wpAnyH_ready (rs := [19]) (by kernel_rfl) (by simp) ?_
    refine AllReadyH.cons rfl (fun K hK => ?_) AllReadyH.nil
    go_simp
    refine (fr_split (a : Int) v.g v.cnt s z11 HH.out.2.2.2.2.2.2.2.2.1 (by have := HH.out.2.2.2.2.2.2.2.2.2.2; unfold M64; omega)).mono ?_
    rintro x z12 ⟨vs, rfl, hrow, hb⟩
    rw [HSC.out]
    obtain ⟨LA, lcap, rfl, hLA, hge, hlt⟩ := row_strsX hrow
    have XLB : Hid (∀ g o, LA = some ⟨g, o, none⟩ → g < z12.heap.size) := Lib.hid hlt
    have X5N : Hid (∀ g o, LA = some ⟨g, o, none⟩ → g ≠ P5) := Lib.hid (fun g o e => by have h1 := hge g o e; have h2 := Kq.blk_lt X5.out.1; omega)
    clear hlt
    have XL : Hid (StrsAt z12 LA (frSplit (a : Int) v.g v.cnt s).1 ∧ ∀ g o, LA = some ⟨g, o, none⟩ → w.heap.size ≤ g ∧ P2 < g) := Lib.hid ⟨hLA, fun g o e => by have h1 := hge g o e; have h2 := I11.out.bel.size; have h3 := Kq.blk_lt I11.out.box; omega⟩
    have I12 := Lib.hid (I11.out.below hb)
    have X5 : Hid (BxL z12 P5 (.slice none 0 0) ∧ P5 ≠ P2 ∧ w.heap.size ≤ P5) := Lib.hid ⟨Kq.below_blk hb X5.out.1 (Kq.blk_lt X5.out.1), X5.out.2⟩
    clear hb hS0 hrow hLA hge
    refine hK.out _ _ I12.out.axc (fun hS0 => ?_)
    clear hK K
    refine wpAnyH_take (i := 20) (v := ?_) rfl (by kernel_rfl) (by kernel_rfl) (by kernel_rfl) (fun _ _ _ h => h) (Or.inl ⟨by kernel_rfl, ?_⟩) (by assumption) ?_
    rotate_left
    · intro w hSw; (try dsimp only at hSw); go_simp; (try with_reducible rfl)
    refine wpAnyH_take (i := 21) (v := ?_) rfl (by kernel_rfl) (by kernel_rfl) (by kernel_rfl) (fun _ _ _ h => h) (Or.inl ⟨by kernel_rfl, ?_⟩) (by assumption) ?_
    rotate_left
    · intro w hSw; (try dsimp only at hSw); go_simp; (try with_reducible rfl)
    refine wpAnyH_take (i := 22) (v := ?_) rfl (by kernel_rfl) (by kernel_rfl) (by kernel_rfl) (fun _ _ _ h => h) (Or.inl ⟨by kernel_rfl, ?_⟩) (by assumption) ?_
    rotate_left
    · intro w hSw; (try dsimp only at hSw); go_simp; (try with_reducible rfl)
    have f5 := Kq.blk_free X5.out.1 0
    have k5 := Kq.blk_cell X5.out.1 0
    refine wpAnyH_ready (rs := [24]) (by kernel_rfl) (by simp) ?_
    refine AllReadyH.cons rfl (fun K hK => ?_) AllReadyH.nil
    go_simp
    have hst := I12.out.set5 (y := .slice LA (frSplit (a : Int) v.g v.cnt s).1.length lcap) X5.out.1 X5.out.2.1 X5.out.2.2 HLT.out
    have hkk : Kq.Keeps (· = P5) z12 (z12.setCell ⟨P5, 0, none⟩ (.slice LA (frSplit (a : Int) v.g v.cnt s).1.length lcap)) := Kq.Keeps.setCell _ _ _ rfl
    have XLX : Hid (StrsAt (z12.setCell ⟨P5, 0, none⟩ (.slice LA (frSplit (a : Int) v.g v.cnt s).1.length lcap)) LA (frSplit (a : Int) v.g v.cnt s).1) := Lib.hid (XL.out.1.keepsW hkk (fun g o _ e hh => by have h1 := X5N.out g o e; omega))
    generalize z12.setCell ⟨P5, 0, none⟩ (.slice LA (frSplit (a : Int) v.g v.cnt s).1.length lcap) = z13 at *
    have I13 := Lib.hid hst.1
    have X5 := Lib.hid (And.intro hst.2 X5.out.2)
    have HKK := Lib.hid hkk
    clear hst hkk f5 k5 hS0
    refine hK.out _ _ I13.out.axc (fun hS0 => ?_)
    clear hK K
    refine wpAnyH_take (i := 25) (v := ?_) rfl (by kernel_rfl) (by kernel_rfl) (by kernel_rfl) (fun _ _ _ h => h) (Or.inl ⟨by kernel_rfl, ?_⟩) (by assumption) ?_
    rotate_left
    · intro w hSw; (try dsimp only at hSw); go_simp; (try with_reducible rfl)
    refine wpAnyH_done (by kernel_rfl) ?_ _
    clear hS0
    go_simp
    go_wp2_with fail
    have ID : Hid (ApI w z13.drew base B S a b R buf ws ar st v P2 ∧ BxL z13.drew P5 (.slice LA (frSplit (a : Int) v.g v.cnt s).1.length lcap)) := Lib.hid ⟨I13.out.below (Below.refl _ _).drew, X5.out.1⟩
    have XLD : Hid (∀ hx : StrsAt z13 LA (frSplit (a : Int) v.g v.cnt s).1, StrsAt z13.drew LA (frSplit (a : Int) v.g v.cnt s).1) := Lib.hid (fun hx => hx.below (Below.refl _ _).drew)
    have hLs := HLS.out
    obtain ⟨T, hT⟩ : ∃ T, T = (frSplit (a : Int) v.g v.cnt s).1 := ⟨_, rfl⟩
    rw [← hT] at ID XLD hLs XLX ⊢
    obtain ⟨u1, hu1⟩ : ∃ z, z = v.used + T.length := ⟨_, rfl⟩
    have hwu : IntKind.i64.wrap ((v.used : Int) + (T.length : Int)) = (u1 : Int) := by rw [IntWalk.i64_in _ (by have := hLs.1; omega)]; omega
    have HU := Lib.hid (And.intro hu1 (And.intro hT hLs))
    have hroom := HRM.out
    rw [← hT, ← hu1] at hroom
    clear hu1 hT hLs
    refine wp_region_held_drew (S := fun w' => A8 w' P2 P5 R v.used T.length lcap LA) (by kernel_rfl) (ID.out.1.a8 ID.out.2) (fun hS0 => ?_)
    generalize z13.drew = y1 at *
    unfold A8 at hS0
    dsimp only [A8]
    refine wpAnyH_take (i := 0) (v := ?_) rfl (by kernel_rfl) (by kernel_rfl) (by kernel_rfl) (fun _ _ _ h => h) (Or.inl ⟨by kernel_rfl, ?_⟩) (by assumption) ?_
    rotate_left
    · intro w hSw; (try dsimp only at hSw); go_simp; (try with_reducible rfl)
    refine wpAnyH_take (i := 1) (v := ?_) rfl (by kernel_rfl) (by kernel_rfl) (by kernel_rfl) (fun _ _ _ h => h) (Or.inl ⟨by kernel_rfl, ?_⟩) (by assumption) ?_
    rotate_left
    · intro w hSw; (try dsimp only at hSw); go_simp; (try with_reducible rfl)
    refine wpAnyH_take (i := 2) (v := ?_) rfl (by kernel_rfl) (by kernel_rfl) (by kernel_rfl) (fun _ _ _ h => h) (Or.inl ⟨by kernel_rfl, ?_⟩) (by assumption) ?_
    rotate_left
    · intro w hSw; (try dsimp only at hSw); go_simp; (try with_reducible rfl)
    refine wpAnyH_take (i := 3) (v := ?_) rfl (by kernel_rfl) (by kernel_rfl) (by kernel_rfl) (fun _ _ _ h => h) (Or.inl ⟨by kernel_rfl, ?_⟩) (by assumption) ?_
    rotate_left
    · intro w hSw; (try dsimp only at hSw); go_simp; (try with_reducible rfl)
    refine wpAnyH_take (i := 4) (v := ?_) rfl (by kernel_rfl) (by kernel_rfl) (by kernel_rfl) (fun _ _ _ h => h) (Or.inl ⟨by kernel_rfl, ?_⟩) (by assumption) ?_
    rotate_left
    · intro w hSw; (try dsimp only at hSw); go_simp; (try with_reducible rfl)
    refine wpAnyH_take (i := 5) (v := ?_) rfl (by kernel_rfl) (by kernel_rfl) (by kernel_rfl) (fun _ _ _ h => h) (Or.inl ⟨by kernel_rfl, ?_⟩) (by assumption) ?_
    rotate_left
    · intro w hSw; (try dsimp only at hSw); go_simp; (try with_reducible rfl)
    refine wpAnyH_take (i := 6) (v := ?_) rfl (by kernel_rfl) (by kernel_rfl) (by kernel_rfl) (fun _ _ _ h => h) (Or.inl ⟨by kernel_rfl, ?_⟩) (by assumption) ?_
    rotate_left
    · intro w hSw; (try dsimp only at hSw); go_simp; (try with_reducible rfl)
    refine wpAnyH_take (i := 7) (v := ?_) rfl (by kernel_rfl) (by kernel_rfl) (by kernel_rfl) (fun _ _ _ h => h) (Or.inl ⟨by kernel_rfl, ?_⟩) (by assumption) ?_
    rotate_left
    · intro w hSw; (try dsimp only at hSw); go_simp; (try with_reducible rfl)
    refine wpAnyH_ready (rs := [8]) (by kernel_rfl) (by simp) ?_
    refine AllReadyH.cons rfl (fun K hK => ?_) AllReadyH.nil
    go_simp
    refine (wl_segment ID.out.1.s HH.out.2.2.2.2.2.1 (by have := HH.out.2.2.2.2.2.2.1; omega)).mono ?_
    rintro x y2 ⟨rfl, hb⟩
    have ID2 : Hid (ApI w y2 base B S a b R buf ws ar st v P2 ∧ BxL y2 P5 (.slice LA T.length lcap)) := Lib.hid ⟨ID.out.1.below hb, Kq.below_blk hb ID.out.2 (Kq.blk_lt ID.out.2)⟩
    have XL2 : Hid (StrsAt y2 LA T) := Lib.hid ((XLD.out XLX.out).below hb)
    clear hS0 hb ID
    refine hK.out _ _ (ID2.out.1.a8 ID2.out.2) (fun hS0 => ?_)
    clear hK K
    refine wpAnyH_take (i := 9) (v := ?_) rfl (by kernel_rfl) (by kernel_rfl) (by kernel_rfl) (fun _ _ _ h => h) (Or.inl ⟨by kernel_rfl, ?_⟩) (by assumption) ?_
    rotate_left
    · intro w hSw; (try dsimp only at hSw); go_simp; (try with_reducible rfl)
    refine wpAnyH_done (by kernel_rfl) ?_ _
    clear hS0
    go_simp
    have hd : decide ((segN b : Int) < (u1 : Int)) = true := decide_eq_true (by omega)
    have hd' : decide (segN b < u1) = true := decide_eq_true hroom
    clear hroom hwu
    go_wp2
    go_ret
    exact ⟨rfl, WoP.from ID2.out.1.bel (WoP.here ID2.out.1.s)⟩
set_option maxRecDepth 100000 in
set_option maxHeartbeats 4000000 in
theorem wl_append_go {w : World} {base B S a b R N : Nat} {buf : Value} {ws : List (Int × ByteArray)} {ar : Nat} {st : List Nat} {v : WalV} (h : WlS w base B S a b R buf ws ar st v) (ho : StOk a b N ws ar st) (hN : N + 220 ≤ 1000000) (hn : a * b ≤ 3000000) (ha : 64 ≤ a) (ha2 : a ≤ 512) (hb : 4 ≤ b) (hb2 : b ≤ 5000) (hsg : v.sg ≤ 1) (hg : v.g < M64) (hu : v.used ≤ 3000) (hcn : v.cnt ≤ 1000000) (s : ByteArray) (hbr : v.broken = false) (hrd : v.ready = true) (hs : s.size ≤ 4096) (hroom : ¬ segN b < v.used + (frSplit (a : Int) v.g v.cnt s).1.length) :
    Calls Tryz.prog 26 #[.pointer (some ⟨R, 0, none⟩), .string s] w fun x w' => x = .returned (.int .i64 (apF a b v.g v.sg v.used v.cnt s ws ar st).2.2.2) ∧ WoP w base B S a b R buf (apF a b v.g v.sg v.used v.cnt s ws ar st).1 (apF a b v.g v.sg v.used v.cnt s ws ar st).2.1 (apF a b v.g v.sg v.used v.cnt s ws ar st).2.2.1 (brokenV (apV v (frSplit (a : Int) v.g v.cnt s).1.length (apF a b v.g v.sg v.used v.cnt s ws ar st).2.2.2) (apF a b v.g v.sg v.used v.cnt s ws ar st).2.2.2) w' := by
  have HSC : Hid ((frSplit (a : Int) v.g v.cnt s).2 = 0) := Lib.hid (by unfold frSplit; rw [if_pos ⟨⟨by omega, by omega⟩, hs⟩])
  have HLS := Lib.hid (split_sizes a v.g v.cnt s ha)
  have HRM := Lib.hid hroom
  clear hroom hs
  obtain ⟨w1, hw1⟩ : ∃ z, z = w.alloc (.cells #[.pointer (some ⟨R, 0, none⟩)] 33) := ⟨_, rfl⟩
  obtain ⟨P2, hP2⟩ : ∃ z, z = w.heap.size := ⟨_, rfl⟩
  have hb1 : Below w.heap.size w w1 := by rw [hw1]; exact Kq.below_alloc _ _
  have hI1 : ApI w w1 base B S a b R buf ws ar st v P2 := ⟨by unfold BxP; rw [hw1, hP2]; exact Kq.blk_new _ _ _ _, h.below hb1, hb1, by omega⟩
  have HLT : Hid (∀ j, Own B S buf j ∨ j = R → j < w.heap.size) := Lib.hid (fun j hj => hj.elim (fun e => h.d.own_lt e) (fun e => by rw [e]; exact h.lt))
  have I1 := Lib.hid hI1
  have c7 := h.c7
  have c6 := h.c6
  have hRl := h.lt
  have hRn : ¬ R = w.heap.size := by omega
  have HW1 := Lib.hid (And.intro hw1 hP2)
  have HH := Lib.hid (And.intro ho (And.intro hN (And.intro hn (And.intro ha (And.intro ha2 (And.intro hb (And.intro hb2 (And.intro hsg (And.intro hg (And.intro hu hcn))))))))))
  clear hw1 hP2 hb1 hI1 h ho hN hn ha ha2 hb hb2 hsg hg hcn
  go_enter Tryz.func26, Tryz.ntmps26
  rw [hbr] at c7
  rw [hrd] at c6
  go_wp2_with fail
  rw [← HW1.out.1, ← HW1.out.2]
  have hcv : IntKind.u64.wrap (v.cnt : Int) = (v.cnt : Int) := IntWalk.u64_in _ (by have := HH.out.2.2.2.2.2.2.2.2.2.2; omega)
  clear c6 c7 hRl hRn
  have I2 : Hid (ApI w w1.drew base B S a b R buf ws ar st v P2) := Lib.hid (I1.out.below (Below.refl _ _).drew)
  refine wp_region_held_drew (S := fun w' => AxC w' P2 R B a b v.g v.cnt) (by kernel_rfl) I2.out.axc (fun hS0 => ?_)
  generalize w1.drew = z2 at *
  unfold AxC at hS0
  dsimp only [AxC]
  refine wpAnyH_take (i := 18) (v := ?_) rfl (by kernel_rfl) (by kernel_rfl) (by kernel_rfl) (fun _ _ _ h => h) (Or.inl ⟨by kernel_rfl, ?_⟩) (by assumption) ?_
  rotate_left
  · intro w hSw; (try dsimp only at hSw); go_simp; (try with_reducible rfl)
  refine wpAnyH_take (i := 0) (v := ?_) rfl (by kernel_rfl) (by kernel_rfl) (by kernel_rfl) (fun _ _ _ h => h) (Or.inl ⟨by kernel_rfl, ?_⟩) (by assumption) ?_
  rotate_left
  · intro w hSw; (try dsimp only at hSw); go_simp; (try with_reducible rfl)
  refine wpAnyH_take (i := 1) (v := ?_) rfl (by kernel_rfl) (by kernel_rfl) (by kernel_rfl) (fun _ _ _ h => h) (Or.inl ⟨by kernel_rfl, ?_⟩) (by assumption) ?_
  rotate_left
  · intro w hSw; (try dsimp only at hSw); go_simp; (try with_reducible rfl)
  refine wpAnyH_take (i := 2) (v := ?_) rfl (by kernel_rfl) (by kernel_rfl) (by kernel_rfl) (fun _ _ _ h => h) (Or.inl ⟨by kernel_rfl, ?_⟩) (by assumption) ?_
  rotate_left
  · intro w hSw; (try dsimp only at hSw); go_simp; (try with_reducible rfl)
  refine wpAnyH_take (i := 3) (v := ?_) rfl (by kernel_rfl) (by kernel_rfl) (by kernel_rfl) (fun _ _ _ h => h) (Or.inl ⟨by kernel_rfl, ?_⟩) (by assumption) ?_
  rotate_left
  · intro w hSw; (try dsimp only at hSw); go_simp; (try with_reducible rfl)
  refine wpAnyH_take (i := 4) (v := ?_) rfl (by kernel_rfl) (by kernel_rfl) (by kernel_rfl) (fun _ _ _ h => h) (Or.inl ⟨by kernel_rfl, ?_⟩) (by assumption) ?_
  rotate_left
  · intro w hSw; (try dsimp only at hSw); go_simp; (try with_reducible rfl)
  refine wpAnyH_take (i := 5) (v := ?_) rfl (by kernel_rfl) (by kernel_rfl) (by kernel_rfl) (fun _ _ _ h => h) (Or.inl ⟨by kernel_rfl, ?_⟩) (by assumption) ?_
  rotate_left
  · intro w hSw; (try dsimp only at hSw); go_simp; (try with_reducible rfl)
  refine wpAnyH_take (i := 6) (v := ?_) rfl (by kernel_rfl) (by kernel_rfl) (by kernel_rfl) (fun _ _ _ h => h) (Or.inl ⟨by kernel_rfl, ?_⟩) (by assumption) ?_
  rotate_left
  · intro w hSw; (try dsimp only at hSw); go_simp; (try with_reducible rfl)
  refine wpAnyH_take (i := 8) (v := ?_) rfl (by kernel_rfl) (by kernel_rfl) (by kernel_rfl) (fun _ _ _ h => h) (Or.inl ⟨by kernel_rfl, ?_⟩) (by assumption) ?_
  rotate_left
  · intro w hSw; (try dsimp only at hSw); go_simp; (try with_reducible rfl)
  refine wpAnyH_take (i := 9) (v := ?_) rfl (by kernel_rfl) (by kernel_rfl) (by kernel_rfl) (fun _ _ _ h => h) (Or.inl ⟨by kernel_rfl, ?_⟩) (by assumption) ?_
  rotate_left
  · intro w hSw; (try dsimp only at hSw); go_simp; (try with_reducible rfl)
  refine wpAnyH_take (i := 10) (v := ?_) rfl (by kernel_rfl) (by kernel_rfl) (by kernel_rfl) (fun _ _ _ h => h) (Or.inl ⟨by kernel_rfl, ?_⟩) (by assumption) ?_
  rotate_left
  · intro w hSw; (try dsimp only at hSw); go_simp; (try with_reducible rfl)
  refine wpAnyH_take (i := 11) (v := ?_) rfl (by kernel_rfl) (by kernel_rfl) (by kernel_rfl) (fun _ _ _ h => h) (Or.inl ⟨by kernel_rfl, ?_⟩) (by assumption) ?_
  rotate_left
  · intro w hSw; (try dsimp only at hSw); go_simp; (try with_reducible rfl)
  refine wpAnyH_take (i := 12) (v := ?_) rfl (by kernel_rfl) (by kernel_rfl) (by kernel_rfl) (fun _ _ _ h => h) (Or.inl ⟨by kernel_rfl, ?_⟩) (by assumption) ?_
  rotate_left
  · intro w hSw; (try dsimp only at hSw); go_simp; (try with_reducible rfl)
  refine wpAnyH_take (i := 13) (v := ?_) rfl (by kernel_rfl) (by kernel_rfl) (by kernel_rfl) (fun _ _ _ h => h) (Or.inl ⟨by kernel_rfl, ?_⟩) (by assumption) ?_
  rotate_left
  · intro w hSw; (try dsimp only at hSw); go_simp; (try with_reducible rfl)
  refine wpAnyH_take (i := 14) (v := ?_) rfl (by kernel_rfl) (by kernel_rfl) (by kernel_rfl) (fun _ _ _ h => h) (Or.inl ⟨by kernel_rfl, ?_⟩) (by assumption) ?_
  rotate_left
  · intro w hSw; (try dsimp only at hSw); go_simp; (try with_reducible rfl)
  refine wpAnyH_take (i := 15) (v := ?_) rfl (by kernel_rfl) (by kernel_rfl) (by kernel_rfl) (fun _ _ _ h => h) (Or.inl ⟨by kernel_rfl, ?_⟩) (by assumption) ?_
  rotate_left
  · intro w hSw; (try dsimp only at hSw); go_simp; (try with_reducible rfl)
  refine wpAnyH_take (i := 16) (v := ?_) rfl (by kernel_rfl) (by kernel_rfl) (by kernel_rfl) (fun _ _ _ h => h) (Or.inl ⟨by kernel_rfl, ?_⟩) (by assumption) ?_
  rotate_left
  · intro w hSw; (try dsimp only at hSw); go_simp; (try with_reducible rfl)
  refine wpAnyH_take (i := 17) (v := ?_) rfl (by kernel_rfl) (by kernel_rfl) (by kernel_rfl) (fun _ _ _ h => h) (Or.inl ⟨by kernel_rfl, ?_⟩) (by assumption) ?_
  rotate_left
  · intro w hSw; (try dsimp only at hSw); go_simp; (try with_reducible rfl)
  refine wpAnyH_ready (rs := [7, 23]) (by kernel_rfl) (by simp) ?_
  refine (AllReadyH.cons rfl (fun K hK => ?_) (AllReadyH.cons rfl (fun K hK => ?_) AllReadyH.nil))
  · skip
    go_simp
    refine (dk_size (a : Int) (b : Int) z2).mono ?_
    rintro x z3 ⟨rfl, hb⟩
    have I3 := Lib.hid (I2.out.below hb)
    clear hb hS0
    refine hK.out _ _ I3.out.axc (fun hS0 => ?_)
    clear hK K
    refine wpAnyH_ready (rs := [19, 23]) (by kernel_rfl) (by simp) ?_
    refine (AllReadyH.cons rfl (fun K hK => ?_) (AllReadyH.cons rfl (fun K hK => ?_) AllReadyH.nil))
    · skip
      go_simp
      refine (fr_split (a : Int) v.g v.cnt s z3 HH.out.2.2.2.2.2.2.2.2.1 (by have := HH.out.2.2.2.2.2.2.2.2.2.2; unfold M64; omega)).mono ?_
      rintro x z4 ⟨vs, rfl, hrow, hb⟩
      rw [HSC.out]
      obtain ⟨LA, lcap, rfl, hLA, hge, hlt⟩ := row_strsX hrow
      have XLB : Hid (∀ g o, LA = some ⟨g, o, none⟩ → g < z4.heap.size) := Lib.hid hlt
      clear hlt
      have XL : Hid (StrsAt z4 LA (frSplit (a : Int) v.g v.cnt s).1 ∧ ∀ g o, LA = some ⟨g, o, none⟩ → w.heap.size ≤ g ∧ P2 < g) := Lib.hid ⟨hLA, fun g o e => by have h1 := hge g o e; have h2 := I3.out.bel.size; have h3 := Kq.blk_lt I3.out.box; omega⟩
      have I4 := Lib.hid (I3.out.below hb)
      clear hb hS0 hrow hLA hge
      refine hK.out _ _ I4.out.axc (fun hS0 => ?_)
      clear hK K
      refine wpAnyH_take (i := 20) (v := ?_) rfl (by kernel_rfl) (by kernel_rfl) (by kernel_rfl) (fun _ _ _ h => h) (Or.inl ⟨by kernel_rfl, ?_⟩) (by assumption) ?_
      rotate_left
      · intro w hSw; (try dsimp only at hSw); go_simp; (try with_reducible rfl)
      refine wpAnyH_take (i := 21) (v := ?_) rfl (by kernel_rfl) (by kernel_rfl) (by kernel_rfl) (fun _ _ _ h => h) (Or.inl ⟨by kernel_rfl, ?_⟩) (by assumption) ?_
      rotate_left
      · intro w hSw; (try dsimp only at hSw); go_simp; (try with_reducible rfl)
      refine wpAnyH_take (i := 22) (v := ?_) rfl (by kernel_rfl) (by kernel_rfl) (by kernel_rfl) (fun _ _ _ h => h) (Or.inl ⟨by kernel_rfl, ?_⟩) (by assumption) ?_
      rotate_left
      · intro w hSw; (try dsimp only at hSw); go_simp; (try with_reducible rfl)
      refine wpAnyH_ready (rs := [23]) (by kernel_rfl) (by simp) ?_
      refine AllReadyH.cons rfl (fun K hK => ?_) AllReadyH.nil
      go_simp
      obtain ⟨z5, hz⟩ : ∃ z, z = z4.alloc (.cells #[.slice none 0 0] 35) := ⟨_, rfl⟩
      obtain ⟨P5, hP5⟩ : ∃ z, z = z4.heap.size := ⟨_, rfl⟩
      have hb : Below z4.heap.size z4 z5 := by rw [hz]; exact Kq.below_alloc _ _
      have X5 : Hid (BxL z5 P5 (.slice none 0 0) ∧ P5 ≠ P2 ∧ w.heap.size ≤ P5) := Lib.hid ⟨by unfold BxL; rw [hz, hP5]; exact Kq.blk_new _ _ _ _, by have := Kq.blk_lt I4.out.box; omega, by have := I4.out.bel.size; omega⟩
      have X5N : Hid (∀ g o, LA = some ⟨g, o, none⟩ → g ≠ P5) := Lib.hid (fun g o e => by rcases Nat.eq_zero_or_pos (frSplit (a : Int) v.g v.cnt s).1.length with h0 | h0 <;> have := XLB.out g o e <;> omega)
      rw [← hz, ← hP5]
      have I5 := Lib.hid (I4.out.below hb)
      have XL : Hid (StrsAt z5 LA (frSplit (a : Int) v.g v.cnt s).1 ∧ ∀ g o, LA = some ⟨g, o, none⟩ → w.heap.size ≤ g ∧ P2 < g) := Lib.hid ⟨XL.out.1.below hb, XL.out.2⟩
      clear hb hS0 hz hP5
      refine hK.out _ _ I5.out.axc (fun hS0 => ?_)
      clear hK K
      have f5 := Kq.blk_free X5.out.1 0
      have k5 := Kq.blk_cell X5.out.1 0
      refine wpAnyH_ready (rs := [24]) (by kernel_rfl) (by simp) ?_
      refine AllReadyH.cons rfl (fun K hK => ?_) AllReadyH.nil
      go_simp
      have hst := I5.out.set5 (y := .slice LA (frSplit (a : Int) v.g v.cnt s).1.length lcap) X5.out.1 X5.out.2.1 X5.out.2.2 HLT.out
      have hkk : Kq.Keeps (· = P5) z5 (z5.setCell ⟨P5, 0, none⟩ (.slice LA (frSplit (a : Int) v.g v.cnt s).1.length lcap)) := Kq.Keeps.setCell _ _ _ rfl
      have XLX : Hid (StrsAt (z5.setCell ⟨P5, 0, none⟩ (.slice LA (frSplit (a : Int) v.g v.cnt s).1.length lcap)) LA (frSplit (a : Int) v.g v.cnt s).1) := Lib.hid (XL.out.1.keepsW hkk (fun g o _ e hh => by have h1 := X5N.out g o e; omega))
      generalize z5.setCell ⟨P5, 0, none⟩ (.slice LA (frSplit (a : Int) v.g v.cnt s).1.length lcap) = z6 at *
      have I6 := Lib.hid hst.1
      have X5 := Lib.hid (And.intro hst.2 X5.out.2)
      have HKK := Lib.hid hkk
      clear hst hkk f5 k5 hS0
      refine hK.out _ _ I6.out.axc (fun hS0 => ?_)
      clear hK K
      refine wpAnyH_take (i := 25) (v := ?_) rfl (by kernel_rfl) (by kernel_rfl) (by kernel_rfl) (fun _ _ _ h => h) (Or.inl ⟨by kernel_rfl, ?_⟩) (by assumption) ?_
      rotate_left
      · intro w hSw; (try dsimp only at hSw); go_simp; (try with_reducible rfl)
      refine wpAnyH_done (by kernel_rfl) ?_ _
      clear hS0
      go_simp
      go_wp2_with fail
      have ID : Hid (ApI w z6.drew base B S a b R buf ws ar st v P2 ∧ BxL z6.drew P5 (.slice LA (frSplit (a : Int) v.g v.cnt s).1.length lcap)) := Lib.hid ⟨I6.out.below (Below.refl _ _).drew, X5.out.1⟩
      have XLD : Hid (∀ hx : StrsAt z6 LA (frSplit (a : Int) v.g v.cnt s).1, StrsAt z6.drew LA (frSplit (a : Int) v.g v.cnt s).1) := Lib.hid (fun hx => hx.below (Below.refl _ _).drew)
      have hLs := HLS.out
      obtain ⟨T, hT⟩ : ∃ T, T = (frSplit (a : Int) v.g v.cnt s).1 := ⟨_, rfl⟩
      rw [← hT] at ID XLD hLs XLX ⊢
      obtain ⟨u1, hu1⟩ : ∃ z, z = v.used + T.length := ⟨_, rfl⟩
      have hwu : IntKind.i64.wrap ((v.used : Int) + (T.length : Int)) = (u1 : Int) := by rw [IntWalk.i64_in _ (by have := hLs.1; omega)]; omega
      have HU := Lib.hid (And.intro hu1 (And.intro hT hLs))
      have hroom := HRM.out
      rw [← hT, ← hu1] at hroom
      clear hu1 hT hLs
      refine wp_region_held_drew (S := fun w' => A8 w' P2 P5 R v.used T.length lcap LA) (by kernel_rfl) (ID.out.1.a8 ID.out.2) (fun hS0 => ?_)
      generalize z6.drew = y1 at *
      unfold A8 at hS0
      dsimp only [A8]
      refine wpAnyH_take (i := 0) (v := ?_) rfl (by kernel_rfl) (by kernel_rfl) (by kernel_rfl) (fun _ _ _ h => h) (Or.inl ⟨by kernel_rfl, ?_⟩) (by assumption) ?_
      rotate_left
      · intro w hSw; (try dsimp only at hSw); go_simp; (try with_reducible rfl)
      refine wpAnyH_take (i := 1) (v := ?_) rfl (by kernel_rfl) (by kernel_rfl) (by kernel_rfl) (fun _ _ _ h => h) (Or.inl ⟨by kernel_rfl, ?_⟩) (by assumption) ?_
      rotate_left
      · intro w hSw; (try dsimp only at hSw); go_simp; (try with_reducible rfl)
      refine wpAnyH_take (i := 2) (v := ?_) rfl (by kernel_rfl) (by kernel_rfl) (by kernel_rfl) (fun _ _ _ h => h) (Or.inl ⟨by kernel_rfl, ?_⟩) (by assumption) ?_
      rotate_left
      · intro w hSw; (try dsimp only at hSw); go_simp; (try with_reducible rfl)
      refine wpAnyH_take (i := 3) (v := ?_) rfl (by kernel_rfl) (by kernel_rfl) (by kernel_rfl) (fun _ _ _ h => h) (Or.inl ⟨by kernel_rfl, ?_⟩) (by assumption) ?_
      rotate_left
      · intro w hSw; (try dsimp only at hSw); go_simp; (try with_reducible rfl)
      refine wpAnyH_take (i := 4) (v := ?_) rfl (by kernel_rfl) (by kernel_rfl) (by kernel_rfl) (fun _ _ _ h => h) (Or.inl ⟨by kernel_rfl, ?_⟩) (by assumption) ?_
      rotate_left
      · intro w hSw; (try dsimp only at hSw); go_simp; (try with_reducible rfl)
      refine wpAnyH_take (i := 5) (v := ?_) rfl (by kernel_rfl) (by kernel_rfl) (by kernel_rfl) (fun _ _ _ h => h) (Or.inl ⟨by kernel_rfl, ?_⟩) (by assumption) ?_
      rotate_left
      · intro w hSw; (try dsimp only at hSw); go_simp; (try with_reducible rfl)
      refine wpAnyH_take (i := 6) (v := ?_) rfl (by kernel_rfl) (by kernel_rfl) (by kernel_rfl) (fun _ _ _ h => h) (Or.inl ⟨by kernel_rfl, ?_⟩) (by assumption) ?_
      rotate_left
      · intro w hSw; (try dsimp only at hSw); go_simp; (try with_reducible rfl)
      refine wpAnyH_take (i := 7) (v := ?_) rfl (by kernel_rfl) (by kernel_rfl) (by kernel_rfl) (fun _ _ _ h => h) (Or.inl ⟨by kernel_rfl, ?_⟩) (by assumption) ?_
      rotate_left
      · intro w hSw; (try dsimp only at hSw); go_simp; (try with_reducible rfl)
      refine wpAnyH_ready (rs := [8]) (by kernel_rfl) (by simp) ?_
      refine AllReadyH.cons rfl (fun K hK => ?_) AllReadyH.nil
      go_simp
      refine (wl_segment ID.out.1.s HH.out.2.2.2.2.2.1 (by have := HH.out.2.2.2.2.2.2.1; omega)).mono ?_
      rintro x y2 ⟨rfl, hb⟩
      have ID2 : Hid (ApI w y2 base B S a b R buf ws ar st v P2 ∧ BxL y2 P5 (.slice LA T.length lcap)) := Lib.hid ⟨ID.out.1.below hb, Kq.below_blk hb ID.out.2 (Kq.blk_lt ID.out.2)⟩
      have XL2 : Hid (StrsAt y2 LA T) := Lib.hid ((XLD.out XLX.out).below hb)
      clear hS0 hb ID
      refine hK.out _ _ (ID2.out.1.a8 ID2.out.2) (fun hS0 => ?_)
      clear hK K
      refine wpAnyH_take (i := 9) (v := ?_) rfl (by kernel_rfl) (by kernel_rfl) (by kernel_rfl) (fun _ _ _ h => h) (Or.inl ⟨by kernel_rfl, ?_⟩) (by assumption) ?_
      rotate_left
      · intro w hSw; (try dsimp only at hSw); go_simp; (try with_reducible rfl)
      refine wpAnyH_done (by kernel_rfl) ?_ _
      clear hS0
      go_simp
      have hd : decide ((segN b : Int) < (u1 : Int)) = false := decide_eq_false (by omega)
      have hd' : decide (segN b < u1) = false := decide_eq_false (by omega)
      clear hroom hwu
      have p2 : y2.cell? ⟨P2, 0, none⟩ = some (.pointer (some ⟨R, 0, none⟩)) := Kq.blk_cell ID2.out.1.box 0
      go_wp2_with fail
      have hsep2 : ¬ (Own B S buf P2 ∨ P2 = R) := fun hh => by have h1 := HLT.out P2 hh; have h2 := ID2.out.1.hP; omega
      have hsep5 : ¬ (Own B S buf P5 ∨ P5 = R) := fun hh => by have h1 := HLT.out P5 hh; have h2 := X5.out.2.2; omega
      refine (wl_attempt_a ID2.out.1.s P2 P5 (layF a b (2 + v.sg * segN b + v.used) T ws ar st).2.2.2 (wl_append_in ID2.out.1.s HH.out.1 HH.out.2.1 HH.out.2.2.1 HH.out.2.2.2.1 HH.out.2.2.2.2.1 HH.out.2.2.2.2.2.1 HH.out.2.2.2.2.2.2.1 HH.out.2.2.2.2.2.2.2.1 HH.out.2.2.2.2.2.2.2.2.2.1 HH.out.2.2.2.2.2.2.2.2.2.2 P2 P5 lcap LA T HU.out.2.2.1 HU.out.2.2.2 (Kq.blk_cell ID2.out.1.box 0) (Kq.blk_cell ID2.out.2 0) hsep2 hsep5 (Kq.blk_lt ID2.out.1.box) (Kq.blk_lt ID2.out.2) XL2.out (fun g o e hh => by have h1 := HLT.out g hh; have h2 := (XL.out.2 g o e).1; omega))).mono ?_
      rintro x y3 ⟨rfl, hwo⟩
      have HP := Lib.hid (WoP.from ID2.out.1.bel hwo)
      clear hwo hsep2 hsep5
      rw [HU.out.2.1] at HP ⊢
      rw [show layF a b (2 + v.sg * segN b + v.used) (frSplit (a : Int) v.g v.cnt s).1 ws ar st = apF a b v.g v.sg v.used v.cnt s ws ar st from rfl] at HP ⊢
      obtain ⟨c, hc⟩ : ∃ c, c = (apF a b v.g v.sg v.used v.cnt s ws ar st).2.2.2 := ⟨_, rfl⟩
      rw [← hc]
      have HC := Lib.hid hc
      clear hc
      go_wp2
      go_ret
      exact ⟨by rw [← HC.out]; rfl, HP.out⟩
    · skip
      go_simp
      obtain ⟨z7, hz⟩ : ∃ z, z = z3.alloc (.cells #[.slice none 0 0] 35) := ⟨_, rfl⟩
      obtain ⟨P5, hP5⟩ : ∃ z, z = z3.heap.size := ⟨_, rfl⟩
      have hb : Below z3.heap.size z3 z7 := by rw [hz]; exact Kq.below_alloc _ _
      have X5 : Hid (BxL z7 P5 (.slice none 0 0) ∧ P5 ≠ P2 ∧ w.heap.size ≤ P5) := Lib.hid ⟨by unfold BxL; rw [hz, hP5]; exact Kq.blk_new _ _ _ _, by have := Kq.blk_lt I3.out.box; omega, by have := I3.out.bel.size; omega⟩
      rw [← hz, ← hP5]
      have I7 := Lib.hid (I3.out.below hb)
      clear hb hS0 hz hP5
      refine hK.out _ _ I7.out.axc (fun hS0 => ?_)
      clear hK K
      refine wpAnyH_ready (rs := [19]) (by kernel_rfl) (by simp) ?_
      refine AllReadyH.cons rfl (fun K hK => ?_) AllReadyH.nil
      go_simp
      refine (fr_split (a : Int) v.g v.cnt s z7 HH.out.2.2.2.2.2.2.2.2.1 (by have := HH.out.2.2.2.2.2.2.2.2.2.2; unfold M64; omega)).mono ?_
      rintro x z8 ⟨vs, rfl, hrow, hb⟩
      rw [HSC.out]
      obtain ⟨LA, lcap, rfl, hLA, hge, hlt⟩ := row_strsX hrow
      have XLB : Hid (∀ g o, LA = some ⟨g, o, none⟩ → g < z8.heap.size) := Lib.hid hlt
      have X5N : Hid (∀ g o, LA = some ⟨g, o, none⟩ → g ≠ P5) := Lib.hid (fun g o e => by have h1 := hge g o e; have h2 := Kq.blk_lt X5.out.1; omega)
      clear hlt
      have XL : Hid (StrsAt z8 LA (frSplit (a : Int) v.g v.cnt s).1 ∧ ∀ g o, LA = some ⟨g, o, none⟩ → w.heap.size ≤ g ∧ P2 < g) := Lib.hid ⟨hLA, fun g o e => by have h1 := hge g o e; have h2 := I7.out.bel.size; have h3 := Kq.blk_lt I7.out.box; omega⟩
      have I8 := Lib.hid (I7.out.below hb)
      have X5 : Hid (BxL z8 P5 (.slice none 0 0) ∧ P5 ≠ P2 ∧ w.heap.size ≤ P5) := Lib.hid ⟨Kq.below_blk hb X5.out.1 (Kq.blk_lt X5.out.1), X5.out.2⟩
      clear hb hS0 hrow hLA hge
      refine hK.out _ _ I8.out.axc (fun hS0 => ?_)
      clear hK K
      refine wpAnyH_take (i := 20) (v := ?_) rfl (by kernel_rfl) (by kernel_rfl) (by kernel_rfl) (fun _ _ _ h => h) (Or.inl ⟨by kernel_rfl, ?_⟩) (by assumption) ?_
      rotate_left
      · intro w hSw; (try dsimp only at hSw); go_simp; (try with_reducible rfl)
      refine wpAnyH_take (i := 21) (v := ?_) rfl (by kernel_rfl) (by kernel_rfl) (by kernel_rfl) (fun _ _ _ h => h) (Or.inl ⟨by kernel_rfl, ?_⟩) (by assumption) ?_
      rotate_left
      · intro w hSw; (try dsimp only at hSw); go_simp; (try with_reducible rfl)
      refine wpAnyH_take (i := 22) (v := ?_) rfl (by kernel_rfl) (by kernel_rfl) (by kernel_rfl) (fun _ _ _ h => h) (Or.inl ⟨by kernel_rfl, ?_⟩) (by assumption) ?_
      rotate_left
      · intro w hSw; (try dsimp only at hSw); go_simp; (try with_reducible rfl)
      have f5 := Kq.blk_free X5.out.1 0
      have k5 := Kq.blk_cell X5.out.1 0
      refine wpAnyH_ready (rs := [24]) (by kernel_rfl) (by simp) ?_
      refine AllReadyH.cons rfl (fun K hK => ?_) AllReadyH.nil
      go_simp
      have hst := I8.out.set5 (y := .slice LA (frSplit (a : Int) v.g v.cnt s).1.length lcap) X5.out.1 X5.out.2.1 X5.out.2.2 HLT.out
      have hkk : Kq.Keeps (· = P5) z8 (z8.setCell ⟨P5, 0, none⟩ (.slice LA (frSplit (a : Int) v.g v.cnt s).1.length lcap)) := Kq.Keeps.setCell _ _ _ rfl
      have XLX : Hid (StrsAt (z8.setCell ⟨P5, 0, none⟩ (.slice LA (frSplit (a : Int) v.g v.cnt s).1.length lcap)) LA (frSplit (a : Int) v.g v.cnt s).1) := Lib.hid (XL.out.1.keepsW hkk (fun g o _ e hh => by have h1 := X5N.out g o e; omega))
      generalize z8.setCell ⟨P5, 0, none⟩ (.slice LA (frSplit (a : Int) v.g v.cnt s).1.length lcap) = z9 at *
      have I9 := Lib.hid hst.1
      have X5 := Lib.hid (And.intro hst.2 X5.out.2)
      have HKK := Lib.hid hkk
      clear hst hkk f5 k5 hS0
      refine hK.out _ _ I9.out.axc (fun hS0 => ?_)
      clear hK K
      refine wpAnyH_take (i := 25) (v := ?_) rfl (by kernel_rfl) (by kernel_rfl) (by kernel_rfl) (fun _ _ _ h => h) (Or.inl ⟨by kernel_rfl, ?_⟩) (by assumption) ?_
      rotate_left
      · intro w hSw; (try dsimp only at hSw); go_simp; (try with_reducible rfl)
      refine wpAnyH_done (by kernel_rfl) ?_ _
      clear hS0
      go_simp
      go_wp2_with fail
      have ID : Hid (ApI w z9.drew base B S a b R buf ws ar st v P2 ∧ BxL z9.drew P5 (.slice LA (frSplit (a : Int) v.g v.cnt s).1.length lcap)) := Lib.hid ⟨I9.out.below (Below.refl _ _).drew, X5.out.1⟩
      have XLD : Hid (∀ hx : StrsAt z9 LA (frSplit (a : Int) v.g v.cnt s).1, StrsAt z9.drew LA (frSplit (a : Int) v.g v.cnt s).1) := Lib.hid (fun hx => hx.below (Below.refl _ _).drew)
      have hLs := HLS.out
      obtain ⟨T, hT⟩ : ∃ T, T = (frSplit (a : Int) v.g v.cnt s).1 := ⟨_, rfl⟩
      rw [← hT] at ID XLD hLs XLX ⊢
      obtain ⟨u1, hu1⟩ : ∃ z, z = v.used + T.length := ⟨_, rfl⟩
      have hwu : IntKind.i64.wrap ((v.used : Int) + (T.length : Int)) = (u1 : Int) := by rw [IntWalk.i64_in _ (by have := hLs.1; omega)]; omega
      have HU := Lib.hid (And.intro hu1 (And.intro hT hLs))
      have hroom := HRM.out
      rw [← hT, ← hu1] at hroom
      clear hu1 hT hLs
      refine wp_region_held_drew (S := fun w' => A8 w' P2 P5 R v.used T.length lcap LA) (by kernel_rfl) (ID.out.1.a8 ID.out.2) (fun hS0 => ?_)
      generalize z9.drew = y1 at *
      unfold A8 at hS0
      dsimp only [A8]
      refine wpAnyH_take (i := 0) (v := ?_) rfl (by kernel_rfl) (by kernel_rfl) (by kernel_rfl) (fun _ _ _ h => h) (Or.inl ⟨by kernel_rfl, ?_⟩) (by assumption) ?_
      rotate_left
      · intro w hSw; (try dsimp only at hSw); go_simp; (try with_reducible rfl)
      refine wpAnyH_take (i := 1) (v := ?_) rfl (by kernel_rfl) (by kernel_rfl) (by kernel_rfl) (fun _ _ _ h => h) (Or.inl ⟨by kernel_rfl, ?_⟩) (by assumption) ?_
      rotate_left
      · intro w hSw; (try dsimp only at hSw); go_simp; (try with_reducible rfl)
      refine wpAnyH_take (i := 2) (v := ?_) rfl (by kernel_rfl) (by kernel_rfl) (by kernel_rfl) (fun _ _ _ h => h) (Or.inl ⟨by kernel_rfl, ?_⟩) (by assumption) ?_
      rotate_left
      · intro w hSw; (try dsimp only at hSw); go_simp; (try with_reducible rfl)
      refine wpAnyH_take (i := 3) (v := ?_) rfl (by kernel_rfl) (by kernel_rfl) (by kernel_rfl) (fun _ _ _ h => h) (Or.inl ⟨by kernel_rfl, ?_⟩) (by assumption) ?_
      rotate_left
      · intro w hSw; (try dsimp only at hSw); go_simp; (try with_reducible rfl)
      refine wpAnyH_take (i := 4) (v := ?_) rfl (by kernel_rfl) (by kernel_rfl) (by kernel_rfl) (fun _ _ _ h => h) (Or.inl ⟨by kernel_rfl, ?_⟩) (by assumption) ?_
      rotate_left
      · intro w hSw; (try dsimp only at hSw); go_simp; (try with_reducible rfl)
      refine wpAnyH_take (i := 5) (v := ?_) rfl (by kernel_rfl) (by kernel_rfl) (by kernel_rfl) (fun _ _ _ h => h) (Or.inl ⟨by kernel_rfl, ?_⟩) (by assumption) ?_
      rotate_left
      · intro w hSw; (try dsimp only at hSw); go_simp; (try with_reducible rfl)
      refine wpAnyH_take (i := 6) (v := ?_) rfl (by kernel_rfl) (by kernel_rfl) (by kernel_rfl) (fun _ _ _ h => h) (Or.inl ⟨by kernel_rfl, ?_⟩) (by assumption) ?_
      rotate_left
      · intro w hSw; (try dsimp only at hSw); go_simp; (try with_reducible rfl)
      refine wpAnyH_take (i := 7) (v := ?_) rfl (by kernel_rfl) (by kernel_rfl) (by kernel_rfl) (fun _ _ _ h => h) (Or.inl ⟨by kernel_rfl, ?_⟩) (by assumption) ?_
      rotate_left
      · intro w hSw; (try dsimp only at hSw); go_simp; (try with_reducible rfl)
      refine wpAnyH_ready (rs := [8]) (by kernel_rfl) (by simp) ?_
      refine AllReadyH.cons rfl (fun K hK => ?_) AllReadyH.nil
      go_simp
      refine (wl_segment ID.out.1.s HH.out.2.2.2.2.2.1 (by have := HH.out.2.2.2.2.2.2.1; omega)).mono ?_
      rintro x y2 ⟨rfl, hb⟩
      have ID2 : Hid (ApI w y2 base B S a b R buf ws ar st v P2 ∧ BxL y2 P5 (.slice LA T.length lcap)) := Lib.hid ⟨ID.out.1.below hb, Kq.below_blk hb ID.out.2 (Kq.blk_lt ID.out.2)⟩
      have XL2 : Hid (StrsAt y2 LA T) := Lib.hid ((XLD.out XLX.out).below hb)
      clear hS0 hb ID
      refine hK.out _ _ (ID2.out.1.a8 ID2.out.2) (fun hS0 => ?_)
      clear hK K
      refine wpAnyH_take (i := 9) (v := ?_) rfl (by kernel_rfl) (by kernel_rfl) (by kernel_rfl) (fun _ _ _ h => h) (Or.inl ⟨by kernel_rfl, ?_⟩) (by assumption) ?_
      rotate_left
      · intro w hSw; (try dsimp only at hSw); go_simp; (try with_reducible rfl)
      refine wpAnyH_done (by kernel_rfl) ?_ _
      clear hS0
      go_simp
      have hd : decide ((segN b : Int) < (u1 : Int)) = false := decide_eq_false (by omega)
      have hd' : decide (segN b < u1) = false := decide_eq_false (by omega)
      clear hroom hwu
      have p2 : y2.cell? ⟨P2, 0, none⟩ = some (.pointer (some ⟨R, 0, none⟩)) := Kq.blk_cell ID2.out.1.box 0
      go_wp2_with fail
      have hsep2 : ¬ (Own B S buf P2 ∨ P2 = R) := fun hh => by have h1 := HLT.out P2 hh; have h2 := ID2.out.1.hP; omega
      have hsep5 : ¬ (Own B S buf P5 ∨ P5 = R) := fun hh => by have h1 := HLT.out P5 hh; have h2 := X5.out.2.2; omega
      refine (wl_attempt_a ID2.out.1.s P2 P5 (layF a b (2 + v.sg * segN b + v.used) T ws ar st).2.2.2 (wl_append_in ID2.out.1.s HH.out.1 HH.out.2.1 HH.out.2.2.1 HH.out.2.2.2.1 HH.out.2.2.2.2.1 HH.out.2.2.2.2.2.1 HH.out.2.2.2.2.2.2.1 HH.out.2.2.2.2.2.2.2.1 HH.out.2.2.2.2.2.2.2.2.2.1 HH.out.2.2.2.2.2.2.2.2.2.2 P2 P5 lcap LA T HU.out.2.2.1 HU.out.2.2.2 (Kq.blk_cell ID2.out.1.box 0) (Kq.blk_cell ID2.out.2 0) hsep2 hsep5 (Kq.blk_lt ID2.out.1.box) (Kq.blk_lt ID2.out.2) XL2.out (fun g o e hh => by have h1 := HLT.out g hh; have h2 := (XL.out.2 g o e).1; omega))).mono ?_
      rintro x y3 ⟨rfl, hwo⟩
      have HP := Lib.hid (WoP.from ID2.out.1.bel hwo)
      clear hwo hsep2 hsep5
      rw [HU.out.2.1] at HP ⊢
      rw [show layF a b (2 + v.sg * segN b + v.used) (frSplit (a : Int) v.g v.cnt s).1 ws ar st = apF a b v.g v.sg v.used v.cnt s ws ar st from rfl] at HP ⊢
      obtain ⟨c, hc⟩ : ∃ c, c = (apF a b v.g v.sg v.used v.cnt s ws ar st).2.2.2 := ⟨_, rfl⟩
      rw [← hc]
      have HC := Lib.hid hc
      clear hc
      go_wp2
      go_ret
      exact ⟨by rw [← HC.out]; rfl, HP.out⟩
  · skip
    go_simp
    obtain ⟨z10, hz⟩ : ∃ z, z = z2.alloc (.cells #[.slice none 0 0] 35) := ⟨_, rfl⟩
    obtain ⟨P5, hP5⟩ : ∃ z, z = z2.heap.size := ⟨_, rfl⟩
    have hb : Below z2.heap.size z2 z10 := by rw [hz]; exact Kq.below_alloc _ _
    have X5 : Hid (BxL z10 P5 (.slice none 0 0) ∧ P5 ≠ P2 ∧ w.heap.size ≤ P5) := Lib.hid ⟨by unfold BxL; rw [hz, hP5]; exact Kq.blk_new _ _ _ _, by have := Kq.blk_lt I2.out.box; omega, by have := I2.out.bel.size; omega⟩
    rw [← hz, ← hP5]
    have I10 := Lib.hid (I2.out.below hb)
    clear hb hS0 hz hP5
    refine hK.out _ _ I10.out.axc (fun hS0 => ?_)
    clear hK K
    refine wpAnyH_ready (rs := [7]) (by kernel_rfl) (by simp) ?_
    refine AllReadyH.cons rfl (fun K hK => ?_) AllReadyH.nil
    go_simp
    refine (dk_size (a : Int) (b : Int) z10).mono ?_
    rintro x z11 ⟨rfl, hb⟩
    have I11 := Lib.hid (I10.out.below hb)
    have X5 : Hid (BxL z11 P5 (.slice none 0 0) ∧ P5 ≠ P2 ∧ w.heap.size ≤ P5) := Lib.hid ⟨Kq.below_blk hb X5.out.1 (Kq.blk_lt X5.out.1), X5.out.2⟩
    clear hb hS0
    refine hK.out _ _ I11.out.axc (fun hS0 => ?_)
    clear hK K
    refine wpAnyH_ready (rs := [19]) (by kernel_rfl) (by simp) ?_
    refine AllReadyH.cons rfl (fun K hK => ?_) AllReadyH.nil
    go_simp
    refine (fr_split (a : Int) v.g v.cnt s z11 HH.out.2.2.2.2.2.2.2.2.1 (by have := HH.out.2.2.2.2.2.2.2.2.2.2; unfold M64; omega)).mono ?_
    rintro x z12 ⟨vs, rfl, hrow, hb⟩
    rw [HSC.out]
    obtain ⟨LA, lcap, rfl, hLA, hge, hlt⟩ := row_strsX hrow
    have XLB : Hid (∀ g o, LA = some ⟨g, o, none⟩ → g < z12.heap.size) := Lib.hid hlt
    have X5N : Hid (∀ g o, LA = some ⟨g, o, none⟩ → g ≠ P5) := Lib.hid (fun g o e => by have h1 := hge g o e; have h2 := Kq.blk_lt X5.out.1; omega)
    clear hlt
    have XL : Hid (StrsAt z12 LA (frSplit (a : Int) v.g v.cnt s).1 ∧ ∀ g o, LA = some ⟨g, o, none⟩ → w.heap.size ≤ g ∧ P2 < g) := Lib.hid ⟨hLA, fun g o e => by have h1 := hge g o e; have h2 := I11.out.bel.size; have h3 := Kq.blk_lt I11.out.box; omega⟩
    have I12 := Lib.hid (I11.out.below hb)
    have X5 : Hid (BxL z12 P5 (.slice none 0 0) ∧ P5 ≠ P2 ∧ w.heap.size ≤ P5) := Lib.hid ⟨Kq.below_blk hb X5.out.1 (Kq.blk_lt X5.out.1), X5.out.2⟩
    clear hb hS0 hrow hLA hge
    refine hK.out _ _ I12.out.axc (fun hS0 => ?_)
    clear hK K
    refine wpAnyH_take (i := 20) (v := ?_) rfl (by kernel_rfl) (by kernel_rfl) (by kernel_rfl) (fun _ _ _ h => h) (Or.inl ⟨by kernel_rfl, ?_⟩) (by assumption) ?_
    rotate_left
    · intro w hSw; (try dsimp only at hSw); go_simp; (try with_reducible rfl)
    refine wpAnyH_take (i := 21) (v := ?_) rfl (by kernel_rfl) (by kernel_rfl) (by kernel_rfl) (fun _ _ _ h => h) (Or.inl ⟨by kernel_rfl, ?_⟩) (by assumption) ?_
    rotate_left
    · intro w hSw; (try dsimp only at hSw); go_simp; (try with_reducible rfl)
    refine wpAnyH_take (i := 22) (v := ?_) rfl (by kernel_rfl) (by kernel_rfl) (by kernel_rfl) (fun _ _ _ h => h) (Or.inl ⟨by kernel_rfl, ?_⟩) (by assumption) ?_
    rotate_left
    · intro w hSw; (try dsimp only at hSw); go_simp; (try with_reducible rfl)
    have f5 := Kq.blk_free X5.out.1 0
    have k5 := Kq.blk_cell X5.out.1 0
    refine wpAnyH_ready (rs := [24]) (by kernel_rfl) (by simp) ?_
    refine AllReadyH.cons rfl (fun K hK => ?_) AllReadyH.nil
    go_simp
    have hst := I12.out.set5 (y := .slice LA (frSplit (a : Int) v.g v.cnt s).1.length lcap) X5.out.1 X5.out.2.1 X5.out.2.2 HLT.out
    have hkk : Kq.Keeps (· = P5) z12 (z12.setCell ⟨P5, 0, none⟩ (.slice LA (frSplit (a : Int) v.g v.cnt s).1.length lcap)) := Kq.Keeps.setCell _ _ _ rfl
    have XLX : Hid (StrsAt (z12.setCell ⟨P5, 0, none⟩ (.slice LA (frSplit (a : Int) v.g v.cnt s).1.length lcap)) LA (frSplit (a : Int) v.g v.cnt s).1) := Lib.hid (XL.out.1.keepsW hkk (fun g o _ e hh => by have h1 := X5N.out g o e; omega))
    generalize z12.setCell ⟨P5, 0, none⟩ (.slice LA (frSplit (a : Int) v.g v.cnt s).1.length lcap) = z13 at *
    have I13 := Lib.hid hst.1
    have X5 := Lib.hid (And.intro hst.2 X5.out.2)
    have HKK := Lib.hid hkk
    clear hst hkk f5 k5 hS0
    refine hK.out _ _ I13.out.axc (fun hS0 => ?_)
    clear hK K
    refine wpAnyH_take (i := 25) (v := ?_) rfl (by kernel_rfl) (by kernel_rfl) (by kernel_rfl) (fun _ _ _ h => h) (Or.inl ⟨by kernel_rfl, ?_⟩) (by assumption) ?_
    rotate_left
    · intro w hSw; (try dsimp only at hSw); go_simp; (try with_reducible rfl)
    refine wpAnyH_done (by kernel_rfl) ?_ _
    clear hS0
    go_simp
    go_wp2_with fail
    have ID : Hid (ApI w z13.drew base B S a b R buf ws ar st v P2 ∧ BxL z13.drew P5 (.slice LA (frSplit (a : Int) v.g v.cnt s).1.length lcap)) := Lib.hid ⟨I13.out.below (Below.refl _ _).drew, X5.out.1⟩
    have XLD : Hid (∀ hx : StrsAt z13 LA (frSplit (a : Int) v.g v.cnt s).1, StrsAt z13.drew LA (frSplit (a : Int) v.g v.cnt s).1) := Lib.hid (fun hx => hx.below (Below.refl _ _).drew)
    have hLs := HLS.out
    obtain ⟨T, hT⟩ : ∃ T, T = (frSplit (a : Int) v.g v.cnt s).1 := ⟨_, rfl⟩
    rw [← hT] at ID XLD hLs XLX ⊢
    obtain ⟨u1, hu1⟩ : ∃ z, z = v.used + T.length := ⟨_, rfl⟩
    have hwu : IntKind.i64.wrap ((v.used : Int) + (T.length : Int)) = (u1 : Int) := by rw [IntWalk.i64_in _ (by have := hLs.1; omega)]; omega
    have HU := Lib.hid (And.intro hu1 (And.intro hT hLs))
    have hroom := HRM.out
    rw [← hT, ← hu1] at hroom
    clear hu1 hT hLs
    refine wp_region_held_drew (S := fun w' => A8 w' P2 P5 R v.used T.length lcap LA) (by kernel_rfl) (ID.out.1.a8 ID.out.2) (fun hS0 => ?_)
    generalize z13.drew = y1 at *
    unfold A8 at hS0
    dsimp only [A8]
    refine wpAnyH_take (i := 0) (v := ?_) rfl (by kernel_rfl) (by kernel_rfl) (by kernel_rfl) (fun _ _ _ h => h) (Or.inl ⟨by kernel_rfl, ?_⟩) (by assumption) ?_
    rotate_left
    · intro w hSw; (try dsimp only at hSw); go_simp; (try with_reducible rfl)
    refine wpAnyH_take (i := 1) (v := ?_) rfl (by kernel_rfl) (by kernel_rfl) (by kernel_rfl) (fun _ _ _ h => h) (Or.inl ⟨by kernel_rfl, ?_⟩) (by assumption) ?_
    rotate_left
    · intro w hSw; (try dsimp only at hSw); go_simp; (try with_reducible rfl)
    refine wpAnyH_take (i := 2) (v := ?_) rfl (by kernel_rfl) (by kernel_rfl) (by kernel_rfl) (fun _ _ _ h => h) (Or.inl ⟨by kernel_rfl, ?_⟩) (by assumption) ?_
    rotate_left
    · intro w hSw; (try dsimp only at hSw); go_simp; (try with_reducible rfl)
    refine wpAnyH_take (i := 3) (v := ?_) rfl (by kernel_rfl) (by kernel_rfl) (by kernel_rfl) (fun _ _ _ h => h) (Or.inl ⟨by kernel_rfl, ?_⟩) (by assumption) ?_
    rotate_left
    · intro w hSw; (try dsimp only at hSw); go_simp; (try with_reducible rfl)
    refine wpAnyH_take (i := 4) (v := ?_) rfl (by kernel_rfl) (by kernel_rfl) (by kernel_rfl) (fun _ _ _ h => h) (Or.inl ⟨by kernel_rfl, ?_⟩) (by assumption) ?_
    rotate_left
    · intro w hSw; (try dsimp only at hSw); go_simp; (try with_reducible rfl)
    refine wpAnyH_take (i := 5) (v := ?_) rfl (by kernel_rfl) (by kernel_rfl) (by kernel_rfl) (fun _ _ _ h => h) (Or.inl ⟨by kernel_rfl, ?_⟩) (by assumption) ?_
    rotate_left
    · intro w hSw; (try dsimp only at hSw); go_simp; (try with_reducible rfl)
    refine wpAnyH_take (i := 6) (v := ?_) rfl (by kernel_rfl) (by kernel_rfl) (by kernel_rfl) (fun _ _ _ h => h) (Or.inl ⟨by kernel_rfl, ?_⟩) (by assumption) ?_
    rotate_left
    · intro w hSw; (try dsimp only at hSw); go_simp; (try with_reducible rfl)
    refine wpAnyH_take (i := 7) (v := ?_) rfl (by kernel_rfl) (by kernel_rfl) (by kernel_rfl) (fun _ _ _ h => h) (Or.inl ⟨by kernel_rfl, ?_⟩) (by assumption) ?_
    rotate_left
    · intro w hSw; (try dsimp only at hSw); go_simp; (try with_reducible rfl)
    refine wpAnyH_ready (rs := [8]) (by kernel_rfl) (by simp) ?_
    refine AllReadyH.cons rfl (fun K hK => ?_) AllReadyH.nil
    go_simp
    refine (wl_segment ID.out.1.s HH.out.2.2.2.2.2.1 (by have := HH.out.2.2.2.2.2.2.1; omega)).mono ?_
    rintro x y2 ⟨rfl, hb⟩
    have ID2 : Hid (ApI w y2 base B S a b R buf ws ar st v P2 ∧ BxL y2 P5 (.slice LA T.length lcap)) := Lib.hid ⟨ID.out.1.below hb, Kq.below_blk hb ID.out.2 (Kq.blk_lt ID.out.2)⟩
    have XL2 : Hid (StrsAt y2 LA T) := Lib.hid ((XLD.out XLX.out).below hb)
    clear hS0 hb ID
    refine hK.out _ _ (ID2.out.1.a8 ID2.out.2) (fun hS0 => ?_)
    clear hK K
    refine wpAnyH_take (i := 9) (v := ?_) rfl (by kernel_rfl) (by kernel_rfl) (by kernel_rfl) (fun _ _ _ h => h) (Or.inl ⟨by kernel_rfl, ?_⟩) (by assumption) ?_
    rotate_left
    · intro w hSw; (try dsimp only at hSw); go_simp; (try with_reducible rfl)
    refine wpAnyH_done (by kernel_rfl) ?_ _
    clear hS0
    go_simp
    have hd : decide ((segN b : Int) < (u1 : Int)) = false := decide_eq_false (by omega)
    have hd' : decide (segN b < u1) = false := decide_eq_false (by omega)
    clear hroom hwu
    have p2 : y2.cell? ⟨P2, 0, none⟩ = some (.pointer (some ⟨R, 0, none⟩)) := Kq.blk_cell ID2.out.1.box 0
    go_wp2_with fail
    have hsep2 : ¬ (Own B S buf P2 ∨ P2 = R) := fun hh => by have h1 := HLT.out P2 hh; have h2 := ID2.out.1.hP; omega
    have hsep5 : ¬ (Own B S buf P5 ∨ P5 = R) := fun hh => by have h1 := HLT.out P5 hh; have h2 := X5.out.2.2; omega
    refine (wl_attempt_a ID2.out.1.s P2 P5 (layF a b (2 + v.sg * segN b + v.used) T ws ar st).2.2.2 (wl_append_in ID2.out.1.s HH.out.1 HH.out.2.1 HH.out.2.2.1 HH.out.2.2.2.1 HH.out.2.2.2.2.1 HH.out.2.2.2.2.2.1 HH.out.2.2.2.2.2.2.1 HH.out.2.2.2.2.2.2.2.1 HH.out.2.2.2.2.2.2.2.2.2.1 HH.out.2.2.2.2.2.2.2.2.2.2 P2 P5 lcap LA T HU.out.2.2.1 HU.out.2.2.2 (Kq.blk_cell ID2.out.1.box 0) (Kq.blk_cell ID2.out.2 0) hsep2 hsep5 (Kq.blk_lt ID2.out.1.box) (Kq.blk_lt ID2.out.2) XL2.out (fun g o e hh => by have h1 := HLT.out g hh; have h2 := (XL.out.2 g o e).1; omega))).mono ?_
    rintro x y3 ⟨rfl, hwo⟩
    have HP := Lib.hid (WoP.from ID2.out.1.bel hwo)
    clear hwo hsep2 hsep5
    rw [HU.out.2.1] at HP ⊢
    rw [show layF a b (2 + v.sg * segN b + v.used) (frSplit (a : Int) v.g v.cnt s).1 ws ar st = apF a b v.g v.sg v.used v.cnt s ws ar st from rfl] at HP ⊢
    obtain ⟨c, hc⟩ : ∃ c, c = (apF a b v.g v.sg v.used v.cnt s ws ar st).2.2.2 := ⟨_, rfl⟩
    rw [← hc]
    have HC := Lib.hid hc
    clear hc
    go_wp2
    go_ret
    exact ⟨by rw [← HC.out]; rfl, HP.out⟩
end Go.Proofs.YtbpgfhcecanikaaGreat
