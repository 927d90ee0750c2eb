/- Merged: WlG, WlJ. Contract of a log's Append. Condition: sizes. Contract of a log's Checkpoint, its closure. Condition: sizes. -/
import Derived.WalkSpells
import Derived.Outline
import Derived.Deep.QuietTactic
import Derived.Deep.RegionHeld
import Derived.Test.YtbpgfhcecanikaaGreatWrEQ
import Derived.Test.YtbpgfhcecanikaaGreatHeldMonoQ
namespace Go.Proofs.YtbpgfhcecanikaaGreat
open Go.RowKit
set_option linter.unusedVariables false
theorem row_strsX {R : Nat} {v : Value} {l : List ByteArray} {w : World} (h : w.ownsRow R 9 1 v l.length (tcells l)) : ∃ A cap, v = .slice A l.length cap ∧ StrsAt w A l ∧ (∀ g o, A = some ⟨g, o, none⟩ → R ≤ g) ∧ (∀ g o, A = some ⟨g, o, none⟩ → g < w.heap.size) := by
  obtain ⟨A, cap, rfl, hA, hc, -⟩ := row_strs_cap h
  refine ⟨A, cap, rfl, hA, fun g o e => ?_, fun g o e => ?_⟩
  · subst e
    exact own_ge h (by simp [Value.ownBlock])
  · subst e
    exact (h.lt g (by simp [Value.ownBlock])).2
/-- the box of the log's pointer -/
def BxP (w : World) (P2 R : Nat) : Prop := w.heap[P2]? = some (.cells #[.pointer (some ⟨R, 0, none⟩)] 33 (0, 0))
def BxL (w : World) (P5 : Nat) (v : Value) : Prop := w.heap[P5]? = some (.cells #[v] 35 (0, 0))
def AxC (w : World) (P2 R B a b g cnt : Nat) : Prop := w.cell? ⟨P2, 0, none⟩ = some (.pointer (some ⟨R, 0, none⟩)) ∧ w.cell? ⟨R, 0, none⟩ = some (.pointer (some ⟨B, 0, none⟩)) ∧ w.cell? ⟨R, 1, none⟩ = some (.int .u64 (g : Int)) ∧ w.cell? ⟨R, 5, none⟩ = some (.int .i64 (cnt : Int)) ∧ w.cell? ⟨B, 0, none⟩ = some (.int .i64 (a : Int)) ∧ w.cell? ⟨B, 1, none⟩ = some (.int .i64 (b : Int))
def A8 (w : World) (P2 P5 R used n cap : Nat) (LA : Option Addr) : Prop := w.cell? ⟨P2, 0, none⟩ = some (.pointer (some ⟨R, 0, none⟩)) ∧ w.cell? ⟨P5, 0, none⟩ = some (.slice LA n cap) ∧ w.cell? ⟨R, 4, none⟩ = some (.int .i64 (used : Int))
/-- in the midst of Append -/
structure ApI (w z : World) (base B S a b R : Nat) (buf : Value) (ws : List (Int × ByteArray)) (ar : Nat) (st : List Nat) (v : WalV) (P2 : Nat) : Prop where
  box : BxP z P2 R
  s : WlS z base B S a b R buf ws ar st v
  bel : Below w.heap.size w z
  hP : w.heap.size ≤ P2
section
variable {w z z' : World} {base B S a b R P2 P5 : Nat} {buf : Value} {ws : List (Int × ByteArray)} {ar : Nat} {st : List Nat} {v : WalV}
theorem ApI.below (h : ApI w z base B S a b R buf ws ar st v P2) (hb : Below z.heap.size z z') : ApI w z' base B S a b R buf ws ar st v P2 := ⟨Kq.below_blk hb h.box (Kq.blk_lt h.box), h.s.below hb, h.bel.trans (hb.mono h.bel.size), h.hP⟩
theorem ApI.axc (h : ApI w z base B S a b R buf ws ar st v P2) : AxC z P2 R B a b v.g v.cnt := ⟨Kq.blk_cell h.box 0, h.s.c0, h.s.c1, h.s.c5, h.s.d.d.c0, h.s.d.d.c1⟩
theorem ApI.a8 (h : ApI w z base B S a b R buf ws ar st v P2) {n cap : Nat} {LA : Option Addr} (h5 : BxL z P5 (.slice LA n cap)) : A8 z P2 P5 R v.used n cap LA := ⟨Kq.blk_cell h.box 0, Kq.blk_cell h5 0, h.s.c4⟩
theorem ApI.set5 (h : ApI w z base B S a b R buf ws ar st v P2) {x y : Value} (h5 : BxL z P5 x) (hne : P5 ≠ P2) (hw : w.heap.size ≤ P5) (hlt : ∀ j, Own B S buf j ∨ j = R → j < w.heap.size) : ApI w (z.setCell ⟨P5, 0, none⟩ y) base B S a b R buf ws ar st v P2 ∧ BxL (z.setCell ⟨P5, 0, none⟩ y) P5 y := by
  have hk : Kq.Keeps (· = P5) z (z.setCell ⟨P5, 0, none⟩ y) := Kq.Keeps.setCell _ _ _ rfl
  refine ⟨⟨hk.blk h.box (fun e => hne e.symm), ⟨h.s.d.keeps hk (fun j hj e => by have := hlt j (Or.inl hj); omega), hk.blk h.s.blk (fun e => by have := hlt R (Or.inr rfl); omega), h.s.sep⟩, h.bel.trans (hk.below h.bel.size (fun k _ e => by omega)), h.hP⟩, ?_⟩
  exact Kq.blk_set h5 0 y
end
set_option maxRecDepth 100000 in
set_option maxHeartbeats 4000000 in
theorem wl_append_broken {w : World} {base B S a b R N : Nat} {buf : Value} {ws : List (Int × ByteArray)} {ar : Nat} {st : List Nat} {v : WalV} (h : WlS w base B S a b R buf ws ar st v) (ho : StOk a b N ws ar st) (hN : N + 220 ≤ 1000000) (hn : a * b ≤ 3000000) (ha : 64 ≤ a) (ha2 : a ≤ 512) (hb : 4 ≤ b) (hb2 : b ≤ 5000) (hsg : v.sg ≤ 1) (hg : v.g < M64) (hu : v.used ≤ 3000) (hcn : v.cnt ≤ 1000000) (s : ByteArray) (hbr : v.broken = true) :
    Calls Tryz.prog 26 #[.pointer (some ⟨R, 0, none⟩), .string s] w fun x w' => x = .returned (.int .i64 14) ∧ WoP w base B S a b R buf ws ar st v w' := by
  obtain ⟨w1, hw1⟩ : ∃ z, z = w.alloc (.cells #[.pointer (some ⟨R, 0, none⟩)] 33) := ⟨_, rfl⟩
  obtain ⟨P2, hP2⟩ : ∃ z, z = w.heap.size := ⟨_, rfl⟩
  have hb1 : Below w.heap.size w w1 := by rw [hw1]; exact Kq.below_alloc _ _
  have hI1 : ApI w w1 base B S a b R buf ws ar st v P2 := ⟨by unfold BxP; rw [hw1, hP2]; exact Kq.blk_new _ _ _ _, h.below hb1, hb1, by omega⟩
  have HLT : Hid (∀ j, Own B S buf j ∨ j = R → j < w.heap.size) := Lib.hid (fun j hj => hj.elim (fun e => h.d.own_lt e) (fun e => by rw [e]; exact h.lt))
  have I1 := Lib.hid hI1
  have c7 := h.c7
  have c6 := h.c6
  have hRl := h.lt
  have hRn : ¬ R = w.heap.size := by omega
  have HW1 := Lib.hid (And.intro hw1 hP2)
  have HH := Lib.hid (And.intro ho (And.intro hN (And.intro hn (And.intro ha (And.intro ha2 (And.intro hb (And.intro hb2 (And.intro hsg (And.intro hg (And.intro hu hcn))))))))))
  clear hw1 hP2 hb1 hI1 h ho hN hn ha ha2 hb hb2 hsg hg hcn
  go_enter Tryz.func26, Tryz.ntmps26
  rw [hbr] at c7
  go_wp2
  rw [← HW1.out.1]
  go_ret
  exact ⟨rfl, WoP.from I1.out.bel (WoP.here I1.out.s)⟩
set_option maxRecDepth 100000 in
set_option maxHeartbeats 4000000 in
theorem wl_append_order {w : World} {base B S a b R N : Nat} {buf : Value} {ws : List (Int × ByteArray)} {ar : Nat} {st : List Nat} {v : WalV} (h : WlS w base B S a b R buf ws ar st v) (ho : StOk a b N ws ar st) (hN : N + 220 ≤ 1000000) (hn : a * b ≤ 3000000) (ha : 64 ≤ a) (ha2 : a ≤ 512) (hb : 4 ≤ b) (hb2 : b ≤ 5000) (hsg : v.sg ≤ 1) (hg : v.g < M64) (hu : v.used ≤ 3000) (hcn : v.cnt ≤ 1000000) (s : ByteArray) (hbr : v.broken = false) (hrd : v.ready = false) :
    Calls Tryz.prog 26 #[.pointer (some ⟨R, 0, none⟩), .string s] w fun x w' => x = .returned (.int .i64 15) ∧ WoP w base B S a b R buf ws ar st v w' := by
  obtain ⟨w1, hw1⟩ : ∃ z, z = w.alloc (.cells #[.pointer (some ⟨R, 0, none⟩)] 33) := ⟨_, rfl⟩
  obtain ⟨P2, hP2⟩ : ∃ z, z = w.heap.size := ⟨_, rfl⟩
  have hb1 : Below w.heap.size w w1 := by rw [hw1]; exact Kq.below_alloc _ _
  have hI1 : ApI w w1 base B S a b R buf ws ar st v P2 := ⟨by unfold BxP; rw [hw1, hP2]; exact Kq.blk_new _ _ _ _, h.below hb1, hb1, by omega⟩
  have HLT : Hid (∀ j, Own B S buf j ∨ j = R → j < w.heap.size) := Lib.hid (fun j hj => hj.elim (fun e => h.d.own_lt e) (fun e => by rw [e]; exact h.lt))
  have I1 := Lib.hid hI1
  have c7 := h.c7
  have c6 := h.c6
  have hRl := h.lt
  have hRn : ¬ R = w.heap.size := by omega
  have HW1 := Lib.hid (And.intro hw1 hP2)
  have HH := Lib.hid (And.intro ho (And.intro hN (And.intro hn (And.intro ha (And.intro ha2 (And.intro hb (And.intro hb2 (And.intro hsg (And.intro hg (And.intro hu hcn))))))))))
  clear hw1 hP2 hb1 hI1 h ho hN hn ha ha2 hb hb2 hsg hg hcn
  go_enter Tryz.func26, Tryz.ntmps26
  rw [hbr] at c7
  rw [hrd] at c6
  go_wp2
  rw [← HW1.out.1]
  go_ret
  exact ⟨rfl, WoP.from I1.out.bel (WoP.here I1.out.s)⟩
set_option maxRecDepth 100000 in
set_option maxHeartbeats 4000000 in
theorem wl_append_range {w : World} {base B S a b R N : Nat} {buf : Value} {ws : List (Int × ByteArray)} {ar : Nat} {st : List Nat} {v : WalV} (h : WlS w base B S a b R buf ws ar st v) (ho : StOk a b N ws ar st) (hN : N + 220 ≤ 1000000) (hn : a * b ≤ 3000000) (ha : 64 ≤ a) (ha2 : a ≤ 512) (hb : 4 ≤ b) (hb2 : b ≤ 5000) (hsg : v.sg ≤ 1) (hg : v.g < M64) (hu : v.used ≤ 3000) (hcn : v.cnt ≤ 1000000) (s : ByteArray) (hbr : v.broken = false) (hrd : v.ready = true) (hs : ¬ s.size ≤ 4096) :
    Calls Tryz.prog 26 #[.pointer (some ⟨R, 0, none⟩), .string s] w fun x w' => x = .returned (.int .i64 1) ∧ WoP w base B S a b R buf ws ar st v w' := by
  have HSC : Hid ((frSplit (a : Int) v.g v.cnt s).2 = 1) := Lib.hid (by unfold frSplit; rw [if_neg (fun h => hs h.2)])
  obtain ⟨w1, hw1⟩ : ∃ z, z = w.alloc (.cells #[.pointer (some ⟨R, 0, none⟩)] 33) := ⟨_, rfl⟩
  obtain ⟨P2, hP2⟩ : ∃ z, z = w.heap.size := ⟨_, rfl⟩
  have hb1 : Below w.heap.size w w1 := by rw [hw1]; exact Kq.below_alloc _ _
  have hI1 : ApI w w1 base B S a b R buf ws ar st v P2 := ⟨by unfold BxP; rw [hw1, hP2]; exact Kq.blk_new _ _ _ _, h.below hb1, hb1, by omega⟩
  have HLT : Hid (∀ j, Own B S buf j ∨ j = R → j < w.heap.size) := Lib.hid (fun j hj => hj.elim (fun e => h.d.own_lt e) (fun e => by rw [e]; exact h.lt))
  have I1 := Lib.hid hI1
  have c7 := h.c7
  have c6 := h.c6
  have hRl := h.lt
  have hRn : ¬ R = w.heap.size := by omega
  have HW1 := Lib.hid (And.intro hw1 hP2)
  have HH := Lib.hid (And.intro ho (And.intro hN (And.intro hn (And.intro ha (And.intro ha2 (And.intro hb (And.intro hb2 (And.intro hsg (And.intro hg (And.intro hu hcn))))))))))
  clear hw1 hP2 hb1 hI1 h ho hN hn ha ha2 hb hb2 hsg hg hcn
  go_enter Tryz.func26, Tryz.ntmps26
  rw [hbr] at c7
  rw [hrd] at c6
  go_wp2_with fail
  rw [← HW1.out.1, ← HW1.out.2]
  have hcv : IntKind.u64.wrap (v.cnt : Int) = (v.cnt : Int) := IntWalk.u64_in _ (by have := HH.out.2.2.2.2.2.2.2.2.2.2; omega)
  clear c6 c7 hRl hRn
  have I2 : Hid (ApI w w1.drew base B S a b R buf ws ar st v P2) := Lib.hid (I1.out.below (Below.refl _ _).drew)
  refine wp_region_held_drew (S := fun w' => AxC w' P2 R B a b v.g v.cnt) (by kernel_rfl) I2.out.axc (fun hS0 => ?_)
  generalize w1.drew = z2 at *
  unfold AxC at hS0
  dsimp only [AxC]
  refine wpAnyH_take (i := 18) (v := ?_) rfl (by kernel_rfl) (by kernel_rfl) (by kernel_rfl) (fun _ _ _ h => h) (Or.inl ⟨by kernel_rfl, ?_⟩) (by assumption) ?_
  rotate_left
  · intro w hSw; (try dsimp only at hSw); go_simp; (try with_reducible rfl)
  refine wpAnyH_take (i := 0) (v := ?_) rfl (by kernel_rfl) (by kernel_rfl) (by kernel_rfl) (fun _ _ _ h => h) (Or.inl ⟨by kernel_rfl, ?_⟩) (by assumption) ?_
  rotate_left
  · intro w hSw; (try dsimp only at hSw); go_simp; (try with_reducible rfl)
  refine wpAnyH_take (i := 1) (v := ?_) rfl (by kernel_rfl) (by kernel_rfl) (by kernel_rfl) (fun _ _ _ h => h) (Or.inl ⟨by kernel_rfl, ?_⟩) (by assumption) ?_
  rotate_left
  · intro w hSw; (try dsimp only at hSw); go_simp; (try with_reducible rfl)
  refine wpAnyH_take (i := 2) (v := ?_) rfl (by kernel_rfl) (by kernel_rfl) (by kernel_rfl) (fun _ _ _ h => h) (Or.inl ⟨by kernel_rfl, ?_⟩) (by assumption) ?_
  rotate_left
  · intro w hSw; (try dsimp only at hSw); go_simp; (try with_reducible rfl)
  refine wpAnyH_take (i := 3) (v := ?_) rfl (by kernel_rfl) (by kernel_rfl) (by kernel_rfl) (fun _ _ _ h => h) (Or.inl ⟨by kernel_rfl, ?_⟩) (by assumption) ?_
  rotate_left
  · intro w hSw; (try dsimp only at hSw); go_simp; (try with_reducible rfl)
  refine wpAnyH_take (i := 4) (v := ?_) rfl (by kernel_rfl) (by kernel_rfl) (by kernel_rfl) (fun _ _ _ h => h) (Or.inl ⟨by kernel_rfl, ?_⟩) (by assumption) ?_
  rotate_left
  · intro w hSw; (try dsimp only at hSw); go_simp; (try with_reducible rfl)
  refine wpAnyH_take (i := 5) (v := ?_) rfl (by kernel_rfl) (by kernel_rfl) (by kernel_rfl) (fun _ _ _ h => h) (Or.inl ⟨by kernel_rfl, ?_⟩) (by assumption) ?_
  rotate_left
  · intro w hSw; (try dsimp only at hSw); go_simp; (try with_reducible rfl)
  refine wpAnyH_take (i := 6) (v := ?_) rfl (by kernel_rfl) (by kernel_rfl) (by kernel_rfl) (fun _ _ _ h => h) (Or.inl ⟨by kernel_rfl, ?_⟩) (by assumption) ?_
  rotate_left
  · intro w hSw; (try dsimp only at hSw); go_simp; (try with_reducible rfl)
  refine wpAnyH_take (i := 8) (v := ?_) rfl (by kernel_rfl) (by kernel_rfl) (by kernel_rfl) (fun _ _ _ h => h) (Or.inl ⟨by kernel_rfl, ?_⟩) (by assumption) ?_
  rotate_left
  · intro w hSw; (try dsimp only at hSw); go_simp; (try with_reducible rfl)
  refine wpAnyH_take (i := 9) (v := ?_) rfl (by kernel_rfl) (by kernel_rfl) (by kernel_rfl) (fun _ _ _ h => h) (Or.inl ⟨by kernel_rfl, ?_⟩) (by assumption) ?_
  rotate_left
  · intro w hSw; (try dsimp only at hSw); go_simp; (try with_reducible rfl)
  refine wpAnyH_take (i := 10) (v := ?_) rfl (by kernel_rfl) (by kernel_rfl) (by kernel_rfl) (fun _ _ _ h => h) (Or.inl ⟨by kernel_rfl, ?_⟩) (by assumption) ?_
  rotate_left
  · intro w hSw; (try dsimp only at hSw); go_simp; (try with_reducible rfl)
  refine wpAnyH_take (i := 11) (v := ?_) rfl (by kernel_rfl) (by kernel_rfl) (by kernel_rfl) (fun _ _ _ h => h) (Or.inl ⟨by kernel_rfl, ?_⟩) (by assumption) ?_
  rotate_left
  · intro w hSw; (try dsimp only at hSw); go_simp; (try with_reducible rfl)
  refine wpAnyH_take (i := 12) (v := ?_) rfl (by kernel_rfl) (by kernel_rfl) (by kernel_rfl) (fun _ _ _ h => h) (Or.inl ⟨by kernel_rfl, ?_⟩) (by assumption) ?_
  rotate_left
  · intro w hSw; (try dsimp only at hSw); go_simp; (try with_reducible rfl)
  refine wpAnyH_take (i := 13) (v := ?_) rfl (by kernel_rfl) (by kernel_rfl) (by kernel_rfl) (fun _ _ _ h => h) (Or.inl ⟨by kernel_rfl, ?_⟩) (by assumption) ?_
  rotate_left
  · intro w hSw; (try dsimp only at hSw); go_simp; (try with_reducible rfl)
  refine wpAnyH_take (i := 14) (v := ?_) rfl (by kernel_rfl) (by kernel_rfl) (by kernel_rfl) (fun _ _ _ h => h) (Or.inl ⟨by kernel_rfl, ?_⟩) (by assumption) ?_
  rotate_left
  · intro w hSw; (try dsimp only at hSw); go_simp; (try with_reducible rfl)
  refine wpAnyH_take (i := 15) (v := ?_) rfl (by kernel_rfl) (by kernel_rfl) (by kernel_rfl) (fun _ _ _ h => h) (Or.inl ⟨by kernel_rfl, ?_⟩) (by assumption) ?_
  rotate_left
  · intro w hSw; (try dsimp only at hSw); go_simp; (try with_reducible rfl)
  refine wpAnyH_take (i := 16) (v := ?_) rfl (by kernel_rfl) (by kernel_rfl) (by kernel_rfl) (fun _ _ _ h => h) (Or.inl ⟨by kernel_rfl, ?_⟩) (by assumption) ?_
  rotate_left
  · intro w hSw; (try dsimp only at hSw); go_simp; (try with_reducible rfl)
  refine wpAnyH_take (i := 17) (v := ?_) rfl (by kernel_rfl) (by kernel_rfl) (by kernel_rfl) (fun _ _ _ h => h) (Or.inl ⟨by kernel_rfl, ?_⟩) (by assumption) ?_
  rotate_left
  · intro w hSw; (try dsimp only at hSw); go_simp; (try with_reducible rfl)
  refine wpAnyH_ready (rs := [7, 23]) (by kernel_rfl) (by simp) ?_
  refine (AllReadyH.cons rfl (fun K hK => ?_) (AllReadyH.cons rfl (fun K hK => ?_) AllReadyH.nil))
  · skip
    go_simp
    refine (dk_size (a : Int) (b : Int) z2).mono ?_
    rintro x z3 ⟨rfl, hb⟩
    have I3 := Lib.hid (I2.out.below hb)
    clear hb hS0
    refine hK.out _ _ I3.out.axc (fun hS0 => ?_)
    clear hK K
    refine wpAnyH_ready (rs := [19, 23]) (by kernel_rfl) (by simp) ?_
    refine (AllReadyH.cons rfl (fun K hK => ?_) (AllReadyH.cons rfl (fun K hK => ?_) AllReadyH.nil))
    · skip
      go_simp
      refine (fr_split (a : Int) v.g v.cnt s z3 HH.out.2.2.2.2.2.2.2.2.1 (by have := HH.out.2.2.2.2.2.2.2.2.2.2; unfold M64; omega)).mono ?_
      rintro x z4 ⟨vs, rfl, hrow, hb⟩
      rw [HSC.out]
      obtain ⟨LA, lcap, rfl, hLA, hge, hlt⟩ := row_strsX hrow
      have XLB : Hid (∀ g o, LA = some ⟨g, o, none⟩ → g < z4.heap.size) := Lib.hid hlt
      clear hlt
      have XL : Hid (StrsAt z4 LA (frSplit (a : Int) v.g v.cnt s).1 ∧ ∀ g o, LA = some ⟨g, o, none⟩ → w.heap.size ≤ g ∧ P2 < g) := Lib.hid ⟨hLA, fun g o e => by have h1 := hge g o e; have h2 := I3.out.bel.size; have h3 := Kq.blk_lt I3.out.box; omega⟩
      have I4 := Lib.hid (I3.out.below hb)
      clear hb hS0 hrow hLA hge
      refine hK.out _ _ I4.out.axc (fun hS0 => ?_)
      clear hK K
      refine wpAnyH_take (i := 20) (v := ?_) rfl (by kernel_rfl) (by kernel_rfl) (by kernel_rfl) (fun _ _ _ h => h) (Or.inl ⟨by kernel_rfl, ?_⟩) (by assumption) ?_
      rotate_left
      · intro w hSw; (try dsimp only at hSw); go_simp; (try with_reducible rfl)
      refine wpAnyH_take (i := 21) (v := ?_) rfl (by kernel_rfl) (by kernel_rfl) (by kernel_rfl) (fun _ _ _ h => h) (Or.inl ⟨by kernel_rfl, ?_⟩) (by assumption) ?_
      rotate_left
      · intro w hSw; (try dsimp only at hSw); go_simp; (try with_reducible rfl)
      refine wpAnyH_take (i := 22) (v := ?_) rfl (by kernel_rfl) (by kernel_rfl) (by kernel_rfl) (fun _ _ _ h => h) (Or.inl ⟨by kernel_rfl, ?_⟩) (by assumption) ?_
      rotate_left
      · intro w hSw; (try dsimp only at hSw); go_simp; (try with_reducible rfl)
      refine wpAnyH_ready (rs := [23]) (by kernel_rfl) (by simp) ?_
      refine AllReadyH.cons rfl (fun K hK => ?_) AllReadyH.nil
      go_simp
      obtain ⟨z5, hz⟩ : ∃ z, z = z4.alloc (.cells #[.slice none 0 0] 35) := ⟨_, rfl⟩
      obtain ⟨P5, hP5⟩ : ∃ z, z = z4.heap.size := ⟨_, rfl⟩
      have hb : Below z4.heap.size z4 z5 := by rw [hz]; exact Kq.below_alloc _ _
      have X5 : Hid (BxL z5 P5 (.slice none 0 0) ∧ P5 ≠ P2 ∧ w.heap.size ≤ P5) := Lib.hid ⟨by unfold BxL; rw [hz, hP5]; exact Kq.blk_new _ _ _ _, by have := Kq.blk_lt I4.out.box; omega, by have := I4.out.bel.size; omega⟩
      have X5N : Hid (∀ g o, LA = some ⟨g, o, none⟩ → g ≠ P5) := Lib.hid (fun g o e => by rcases Nat.eq_zero_or_pos (frSplit (a : Int) v.g v.cnt s).1.length with h0 | h0 <;> have := XLB.out g o e <;> omega)
      rw [← hz, ← hP5]
      have I5 := Lib.hid (I4.out.below hb)
      have XL : Hid (StrsAt z5 LA (frSplit (a : Int) v.g v.cnt s).1 ∧ ∀ g o, LA = some ⟨g, o, none⟩ → w.heap.size ≤ g ∧ P2 < g) := Lib.hid ⟨XL.out.1.below hb, XL.out.2⟩
      clear hb hS0 hz hP5
      refine hK.out _ _ I5.out.axc (fun hS0 => ?_)
      clear hK K
      have f5 := Kq.blk_free X5.out.1 0
      have k5 := Kq.blk_cell X5.out.1 0
      refine wpAnyH_ready (rs := [24]) (by kernel_rfl) (by simp) ?_
      refine AllReadyH.cons rfl (fun K hK => ?_) AllReadyH.nil
      go_simp
      have hst := I5.out.set5 (y := .slice LA (frSplit (a : Int) v.g v.cnt s).1.length lcap) X5.out.1 X5.out.2.1 X5.out.2.2 HLT.out
      have hkk : Kq.Keeps (· = P5) z5 (z5.setCell ⟨P5, 0, none⟩ (.slice LA (frSplit (a : Int) v.g v.cnt s).1.length lcap)) := Kq.Keeps.setCell _ _ _ rfl
      have XLX : Hid (StrsAt (z5.setCell ⟨P5, 0, none⟩ (.slice LA (frSplit (a : Int) v.g v.cnt s).1.length lcap)) LA (frSplit (a : Int) v.g v.cnt s).1) := Lib.hid (XL.out.1.keepsW hkk (fun g o _ e hh => by have h1 := X5N.out g o e; omega))
      generalize z5.setCell ⟨P5, 0, none⟩ (.slice LA (frSplit (a : Int) v.g v.cnt s).1.length lcap) = z6 at *
      have I6 := Lib.hid hst.1
      have X5 := Lib.hid (And.intro hst.2 X5.out.2)
      have HKK := Lib.hid hkk
      clear hst hkk f5 k5 hS0
      refine hK.out _ _ I6.out.axc (fun hS0 => ?_)
      clear hK K
      refine wpAnyH_take (i := 25) (v := ?_) rfl (by kernel_rfl) (by kernel_rfl) (by kernel_rfl) (fun _ _ _ h => h) (Or.inl ⟨by kernel_rfl, ?_⟩) (by assumption) ?_
      rotate_left
      · intro w hSw; (try dsimp only at hSw); go_simp; (try with_reducible rfl)
      refine wpAnyH_done (by kernel_rfl) ?_ _
      clear hS0
      go_simp
      go_wp2
      go_ret
      exact ⟨rfl, WoP.from I6.out.bel (WoP.here I6.out.s)⟩
    · skip
      go_simp
      obtain ⟨z7, hz⟩ : ∃ z, z = z3.alloc (.cells #[.slice none 0 0] 35) := ⟨_, rfl⟩
      obtain ⟨P5, hP5⟩ : ∃ z, z = z3.heap.size := ⟨_, rfl⟩
      have hb : Below z3.heap.size z3 z7 := by rw [hz]; exact Kq.below_alloc _ _
      have X5 : Hid (BxL z7 P5 (.slice none 0 0) ∧ P5 ≠ P2 ∧ w.heap.size ≤ P5) := Lib.hid ⟨by unfold BxL; rw [hz, hP5]; exact Kq.blk_new _ _ _ _, by have := Kq.blk_lt I3.out.box; omega, by have := I3.out.bel.size; omega⟩
      rw [← hz, ← hP5]
      have I7 := Lib.hid (I3.out.below hb)
      clear hb hS0 hz hP5
      refine hK.out _ _ I7.out.axc (fun hS0 => ?_)
      clear hK K
      refine wpAnyH_ready (rs := [19]) (by kernel_rfl) (by simp) ?_
      refine AllReadyH.cons rfl (fun K hK => ?_) AllReadyH.nil
      go_simp
      refine (fr_split (a : Int) v.g v.cnt s z7 HH.out.2.2.2.2.2.2.2.2.1 (by have := HH.out.2.2.2.2.2.2.2.2.2.2; unfold M64; omega)).mono ?_
      rintro x z8 ⟨vs, rfl, hrow, hb⟩
      rw [HSC.out]
      obtain ⟨LA, lcap, rfl, hLA, hge, hlt⟩ := row_strsX hrow
      have XLB : Hid (∀ g o, LA = some ⟨g, o, none⟩ → g < z8.heap.size) := Lib.hid hlt
      have X5N : Hid (∀ g o, LA = some ⟨g, o, none⟩ → g ≠ P5) := Lib.hid (fun g o e => by have h1 := hge g o e; have h2 := Kq.blk_lt X5.out.1; omega)
      clear hlt
      have XL : Hid (StrsAt z8 LA (frSplit (a : Int) v.g v.cnt s).1 ∧ ∀ g o, LA = some ⟨g, o, none⟩ → w.heap.size ≤ g ∧ P2 < g) := Lib.hid ⟨hLA, fun g o e => by have h1 := hge g o e; have h2 := I7.out.bel.size; have h3 := Kq.blk_lt I7.out.box; omega⟩
      have I8 := Lib.hid (I7.out.below hb)
      have X5 : Hid (BxL z8 P5 (.slice none 0 0) ∧ P5 ≠ P2 ∧ w.heap.size ≤ P5) := Lib.hid ⟨Kq.below_blk hb X5.out.1 (Kq.blk_lt X5.out.1), X5.out.2⟩
      clear hb hS0 hrow hLA hge
      refine hK.out _ _ I8.out.axc (fun hS0 => ?_)
      clear hK K
      refine wpAnyH_take (i := 20) (v := ?_) rfl (by kernel_rfl) (by kernel_rfl) (by kernel_rfl) (fun _ _ _ h => h) (Or.inl ⟨by kernel_rfl, ?_⟩) (by assumption) ?_
      rotate_left
      · intro w hSw; (try dsimp only at hSw); go_simp; (try with_reducible rfl)
      refine wpAnyH_take (i := 21) (v := ?_) rfl (by kernel_rfl) (by kernel_rfl) (by kernel_rfl) (fun _ _ _ h => h) (Or.inl ⟨by kernel_rfl, ?_⟩) (by assumption) ?_
      rotate_left
      · intro w hSw; (try dsimp only at hSw); go_simp; (try with_reducible rfl)
      refine wpAnyH_take (i := 22) (v := ?_) rfl (by kernel_rfl) (by kernel_rfl) (by kernel_rfl) (fun _ _ _ h => h) (Or.inl ⟨by kernel_rfl, ?_⟩) (by assumption) ?_
      rotate_left
      · intro w hSw; (try dsimp only at hSw); go_simp; (try with_reducible rfl)
      have f5 := Kq.blk_free X5.out.1 0
      have k5 := Kq.blk_cell X5.out.1 0
      refine wpAnyH_ready (rs := [24]) (by kernel_rfl) (by simp) ?_
      refine AllReadyH.cons rfl (fun K hK => ?_) AllReadyH.nil
      go_simp
      have hst := I8.out.set5 (y := .slice LA (frSplit (a : Int) v.g v.cnt s).1.length lcap) X5.out.1 X5.out.2.1 X5.out.2.2 HLT.out
      have hkk : Kq.Keeps (· = P5) z8 (z8.setCell ⟨P5, 0, none⟩ (.slice LA (frSplit (a : Int) v.g v.cnt s).1.length lcap)) := Kq.Keeps.setCell _ _ _ rfl
      have XLX : Hid (StrsAt (z8.setCell ⟨P5, 0, none⟩ (.slice LA (frSplit (a : Int) v.g v.cnt s).1.length lcap)) LA (frSplit (a : Int) v.g v.cnt s).1) := Lib.hid (XL.out.1.keepsW hkk (fun g o _ e hh => by have h1 := X5N.out g o e; omega))
      generalize z8.setCell ⟨P5, 0, none⟩ (.slice LA (frSplit (a : Int) v.g v.cnt s).1.length lcap) = z9 at *
      have I9 := Lib.hid hst.1
      have X5 := Lib.hid (And.intro hst.2 X5.out.2)
      have HKK := Lib.hid hkk
      clear hst hkk f5 k5 hS0
      refine hK.out _ _ I9.out.axc (fun hS0 => ?_)
      clear hK K
      refine wpAnyH_take (i := 25) (v := ?_) rfl (by kernel_rfl) (by kernel_rfl) (by kernel_rfl) (fun _ _ _ h => h) (Or.inl ⟨by kernel_rfl, ?_⟩) (by assumption) ?_
      rotate_left
      · intro w hSw; (try dsimp only at hSw); go_simp; (try with_reducible rfl)
      refine wpAnyH_done (by kernel_rfl) ?_ _
      clear hS0
      go_simp
      go_wp2
      go_ret
      exact ⟨rfl, WoP.from I9.out.bel (WoP.here I9.out.s)⟩
  · skip
    go_simp
    obtain ⟨z10, hz⟩ : ∃ z, z = z2.alloc (.cells #[.slice none 0 0] 35) := ⟨_, rfl⟩
    obtain ⟨P5, hP5⟩ : ∃ z, z = z2.heap.size := ⟨_, rfl⟩
    have hb : Below z2.heap.size z2 z10 := by rw [hz]; exact Kq.below_alloc _ _
    have X5 : Hid (BxL z10 P5 (.slice none 0 0) ∧ P5 ≠ P2 ∧ w.heap.size ≤ P5) := Lib.hid ⟨by unfold BxL; rw [hz, hP5]; exact Kq.blk_new _ _ _ _, by have := Kq.blk_lt I2.out.box; omega, by have := I2.out.bel.size; omega⟩
    rw [← hz, ← hP5]
    have I10 := Lib.hid (I2.out.below hb)
    clear hb hS0 hz hP5
    refine hK.out _ _ I10.out.axc (fun hS0 => ?_)
    clear hK K
    refine wpAnyH_ready (rs := [7]) (by kernel_rfl) (by simp) ?_
    refine AllReadyH.cons rfl (fun K hK => ?_) AllReadyH.nil
    go_simp
    refine (dk_size (a : Int) (b : Int) z10).mono ?_
    rintro x z11 ⟨rfl, hb⟩
    have I11 := Lib.hid (I10.out.below hb)
    have X5 : Hid (BxL z11 P5 (.slice none 0 0) ∧ P5 ≠ P2 ∧ w.heap.size ≤ P5) := Lib.hid ⟨Kq.below_blk hb X5.out.1 (Kq.blk_lt X5.out.1), X5.out.2⟩
    clear hb hS0
    refine hK.out _ _ I11.out.axc (fun hS0 => ?_)
    clear hK K
    refine wpAnyH_ready (rs := [19]) (by kernel_rfl) (by simp) ?_
    refine AllReadyH.cons rfl (fun K hK => ?_) AllReadyH.nil
    go_simp
    refine (fr_split (a : Int) v.g v.cnt s z11 HH.out.2.2.2.2.2.2.2.2.1 (by have := HH.out.2.2.2.2.2.2.2.2.2.2; unfold M64; omega)).mono ?_
    rintro x z12 ⟨vs, rfl, hrow, hb⟩
    rw [HSC.out]
    obtain ⟨LA, lcap, rfl, hLA, hge, hlt⟩ := row_strsX hrow
    have XLB : Hid (∀ g o, LA = some ⟨g, o, none⟩ → g < z12.heap.size) := Lib.hid hlt
    have X5N : Hid (∀ g o, LA = some ⟨g, o, none⟩ → g ≠ P5) := Lib.hid (fun g o e => by have h1 := hge g o e; have h2 := Kq.blk_lt X5.out.1; omega)
    clear hlt
    have XL : Hid (StrsAt z12 LA (frSplit (a : Int) v.g v.cnt s).1 ∧ ∀ g o, LA = some ⟨g, o, none⟩ → w.heap.size ≤ g ∧ P2 < g) := Lib.hid ⟨hLA, fun g o e => by have h1 := hge g o e; have h2 := I11.out.bel.size; have h3 := Kq.blk_lt I11.out.box; omega⟩
    have I12 := Lib.hid (I11.out.below hb)
    have X5 : Hid (BxL z12 P5 (.slice none 0 0) ∧ P5 ≠ P2 ∧ w.heap.size ≤ P5) := Lib.hid ⟨Kq.below_blk hb X5.out.1 (Kq.blk_lt X5.out.1), X5.out.2⟩
    clear hb hS0 hrow hLA hge
    refine hK.out _ _ I12.out.axc (fun hS0 => ?_)
    clear hK K
    refine wpAnyH_take (i := 20) (v := ?_) rfl (by kernel_rfl) (by kernel_rfl) (by kernel_rfl) (fun _ _ _ h => h) (Or.inl ⟨by kernel_rfl, ?_⟩) (by assumption) ?_
    rotate_left
    · intro w hSw; (try dsimp only at hSw); go_simp; (try with_reducible rfl)
    refine wpAnyH_take (i := 21) (v := ?_) rfl (by kernel_rfl) (by kernel_rfl) (by kernel_rfl) (fun _ _ _ h => h) (Or.inl ⟨by kernel_rfl, ?_⟩) (by assumption) ?_
    rotate_left
    · intro w hSw; (try dsimp only at hSw); go_simp; (try with_reducible rfl)
    refine wpAnyH_take (i := 22) (v := ?_) rfl (by kernel_rfl) (by kernel_rfl) (by kernel_rfl) (fun _ _ _ h => h) (Or.inl ⟨by kernel_rfl, ?_⟩) (by assumption) ?_
    rotate_left
    · intro w hSw; (try dsimp only at hSw); go_simp; (try with_reducible rfl)
    have f5 := Kq.blk_free X5.out.1 0
    have k5 := Kq.blk_cell X5.out.1 0
    refine wpAnyH_ready (rs := [24]) (by kernel_rfl) (by simp) ?_
    refine AllReadyH.cons rfl (fun K hK => ?_) AllReadyH.nil
    go_simp
    have hst := I12.out.set5 (y := .slice LA (frSplit (a : Int) v.g v.cnt s).1.length lcap) X5.out.1 X5.out.2.1 X5.out.2.2 HLT.out
    have hkk : Kq.Keeps (· = P5) z12 (z12.setCell ⟨P5, 0, none⟩ (.slice LA (frSplit (a : Int) v.g v.cnt s).1.length lcap)) := Kq.Keeps.setCell _ _ _ rfl
    have XLX : Hid (StrsAt (z12.setCell ⟨P5, 0, none⟩ (.slice LA (frSplit (a : Int) v.g v.cnt s).1.length lcap)) LA (frSplit (a : Int) v.g v.cnt s).1) := Lib.hid (XL.out.1.keepsW hkk (fun g o _ e hh => by have h1 := X5N.out g o e; omega))
    generalize z12.setCell ⟨P5, 0, none⟩ (.slice LA (frSplit (a : Int) v.g v.cnt s).1.length lcap) = z13 at *
    have I13 := Lib.hid hst.1
    have X5 := Lib.hid (And.intro hst.2 X5.out.2)
    have HKK := Lib.hid hkk
    clear hst hkk f5 k5 hS0
    refine hK.out _ _ I13.out.axc (fun hS0 => ?_)
    clear hK K
    refine wpAnyH_take (i := 25) (v := ?_) rfl (by kernel_rfl) (by kernel_rfl) (by kernel_rfl) (fun _ _ _ h => h) (Or.inl ⟨by kernel_rfl, ?_⟩) (by assumption) ?_
    rotate_left
    · intro w hSw; (try dsimp only at hSw); go_simp; (try with_reducible rfl)
    refine wpAnyH_done (by kernel_rfl) ?_ _
    clear hS0
    go_simp
    go_wp2
    go_ret
    exact ⟨rfl, WoP.from I13.out.bel (WoP.here I13.out.s)⟩
end Go.Proofs.YtbpgfhcecanikaaGreat
namespace Go.Proofs.YtbpgfhcecanikaaGreat
open Go.RowKit
set_option linter.unusedVariables false
/-- what Checkpoint's closure makes of a disk -/
def ckF (a b g sg slot : Nat) (s : ByteArray) (ws : List (Int × ByteArray)) (ar : Nat) (st : List Nat) : List (Int × ByteArray) × Nat × List Nat × Int :=
  if (beF a b g sg s ws ar st).2.2.2 = 0 then phF a b g sg (1 - slot) (beF a b g sg s ws ar st).1 (beF a b g sg s ws ar st).2.1 (beF a b g sg s ws ar st).2.2.1 else beF a b g sg s ws ar st
/-- the log behind it -/
def ckV (v : WalV) (g sg parts : Nat) (c : Int) : WalV := if c = 0 then { v with g := g, sg := sg, slot := 1 - v.slot, used := parts, cnt := 1, ready := true } else v
/-- the boxes of Checkpoint -/
structure CkB (w : World) (P2 P6 P3 P5 R g sg parts : Nat) (s : ByteArray) : Prop where
  b2 : BxP w P2 R
  b6 : HxC w P6 g sg
  b3 : w.heap[P3]? = some (.cells #[.string s] 9 (0, 0))
  b5 : w.heap[P5]? = some (.cells #[.int .i64 (parts : Int)] 3 (0, 0))
theorem CkB.keeps {w w' : World} {Q : Nat → Prop} {P2 P6 P3 P5 R g sg parts : Nat} {s : ByteArray} (h : CkB w P2 P6 P3 P5 R g sg parts s) (hk : Kq.Keeps Q w w') (h2 : ¬ Q P2) (h6 : ¬ Q P6) (h3 : ¬ Q P3) (h5 : ¬ Q P5) : CkB w' P2 P6 P3 P5 R g sg parts s := ⟨hk.blk h.b2 h2, hk.blk h.b6 h6, hk.blk h.b3 h3, hk.blk h.b5 h5⟩
theorem CkB.drew {w : World} {P2 P6 P3 P5 R g sg parts : Nat} {s : ByteArray} (h : CkB w P2 P6 P3 P5 R g sg parts s) : CkB w.drew P2 P6 P3 P5 R g sg parts s := ⟨h.b2, h.b6, h.b3, h.b5⟩
def No4 (Q : Nat → Prop) (P2 P6 P3 P5 : Nat) : Prop := ¬ Q P2 ∧ ¬ Q P6 ∧ ¬ Q P3 ∧ ¬ Q P5
theorem own_no {w : World} {B S R P : Nat} {buf buf1 : Value} (h : ¬ (Own B S buf P ∨ P = R)) (hl : P < w.heap.size) (F : ∀ j, buf1.ownBlock = some j → buf.ownBlock = some j ∨ w.heap.size ≤ j) : ¬ (Own B S buf1 P ∨ P = R) := fun hh => by
  rcases hh with (e | e | e) | e
  · exact h (Or.inl (Or.inl e))
  · exact h (Or.inl (Or.inr (Or.inl e)))
  · rcases F P e with e | e
    · exact h (Or.inl (Or.inr (Or.inr e)))
    · omega
  · exact h (Or.inr e)
def CkC (w : World) (P2 P6 R g sg : Nat) : Prop := w.cell? ⟨P2, 0, none⟩ = some (.pointer (some ⟨R, 0, none⟩)) ∧ w.cell? ⟨P6, 0, none⟩ = some (.int .u64 (g : Int)) ∧ w.cell? ⟨P6, 1, none⟩ = some (.int .i64 (sg : Int))
def CkD (w : World) (P2 P5 R parts : Nat) : Prop := w.cell? ⟨P2, 0, none⟩ = some (.pointer (some ⟨R, 0, none⟩)) ∧ w.cell? ⟨P5, 0, none⟩ = some (.int .i64 (parts : Int))
/-- in the midst of the last stores -/
structure CkJ (w0 z : World) (base B S a b R : Nat) (buf : Value) (ws : List (Int × ByteArray)) (ar : Nat) (st : List Nat) (v : WalV) (P2 P6 P3 P5 g sg parts : Nat) (s : ByteArray) : Prop where
  w : WlS z base B S a b R buf ws ar st v
  k : Kq.Keeps (· = R) w0 z
  bx : CkB z P2 P6 P3 P5 R g sg parts s
section
variable {w0 z : World} {base B S a b R : Nat} {buf : Value} {ws : List (Int × ByteArray)} {ar : Nat} {st : List Nat} {v : WalV} {P2 P6 P3 P5 g sg parts : Nat} {s : ByteArray}
theorem CkJ.set (h : CkJ w0 z base B S a b R buf ws ar st v P2 P6 P3 P5 g sg parts s) (hn : No4 (· = R) P2 P6 P3 P5) {i : Nat} {x : Value} {v' : WalV} (he : (v.cells B).setIfInBounds i x = v'.cells B) : CkJ w0 (z.setCell ⟨R, i, none⟩ x) base B S a b R buf ws ar st v' P2 P6 P3 P5 g sg parts s := by
  have hk : Kq.Keeps (· = R) z (z.setCell ⟨R, i, none⟩ x) := Kq.Keeps.setCell _ _ _ rfl
  refine ⟨h.w.set hk ?_, h.k.trans hk, h.bx.keeps hk hn.1 hn.2.1 hn.2.2.1 hn.2.2.2⟩
  have := Kq.blk_set h.w.blk i x
  rw [he] at this
  exact this
theorem CkJ.ckd (h : CkJ w0 z base B S a b R buf ws ar st v P2 P6 P3 P5 g sg parts s) : CkD z P2 P5 R parts := ⟨Kq.blk_cell h.bx.b2 0, Kq.blk_cell h.bx.b5 0⟩
end
set_option maxRecDepth 100000 in
set_option maxHeartbeats 2000000 in
theorem wl_ckpt_in {w : World} {base B S a b R N : Nat} {buf : Value} {ws : List (Int × ByteArray)} {ar : Nat} {st : List Nat} {v : WalV} (h : WlS w base B S a b R buf ws ar st v) (ho : StOk a b N ws ar st) (hN : N + 420 ≤ 1000000) (hn : a * b ≤ 3000000) (ha : 64 ≤ a) (ha2 : a ≤ 512) (hb : 4 ≤ b) (hb2 : b ≤ 5000) (hsl : v.slot ≤ 1) (g sg parts : Nat) (hg0 : 0 < g) (hg : g < M64) (hsg : sg ≤ 1) (s : ByteArray) (hs : s.size ≤ 4096)
    (P2 P6 P3 P5 : Nat) (hB : CkB w P2 P6 P3 P5 R g sg parts s) (hq : No4 (fun j => Own B S buf j ∨ j = R) P2 P6 P3 P5) :
    Calls Tryz.prog 49 #[.pointer (some ⟨P2, 0, none⟩), .pointer (some ⟨P6, 0, none⟩), .pointer (some ⟨P3, 0, none⟩), .pointer (some ⟨P5, 0, none⟩)] w fun x w' => x = .returned (.int .i64 (ckF a b g sg v.slot s ws ar st).2.2.2) ∧ WoP w base B S a b R buf (ckF a b g sg v.slot s ws ar st).1 (ckF a b g sg v.slot s ws ar st).2.1 (ckF a b g sg v.slot s ws ar st).2.2.1 (ckV v g sg parts (ckF a b g sg v.slot s ws ar st).2.2.2) w' := by
  have e2 := Kq.blk_cell hB.b2 0
  have e60 := Kq.blk_cell hB.b6 0
  have e61 := Kq.blk_cell hB.b6 1
  have e3 := Kq.blk_cell hB.b3 0
  simp only [List.getElem?_toArray, List.getElem?_cons_zero, List.getElem?_cons_succ] at e2 e60 e61 e3
  have HH := Lib.hid (And.intro h (And.intro ho (And.intro hN (And.intro hn (And.intro ha (And.intro ha2 (And.intro hb hb2)))))))
  have HG := Lib.hid (And.intro hg0 (And.intro hg (And.intro hsg (And.intro hs hsl))))
  have HL : Hid (P2 < w.heap.size ∧ P6 < w.heap.size ∧ P3 < w.heap.size ∧ P5 < w.heap.size) := Lib.hid ⟨Kq.blk_lt hB.b2, Kq.blk_lt hB.b6, Kq.blk_lt hB.b3, Kq.blk_lt hB.b5⟩
  have HB := Lib.hid (And.intro hB hq)
  have HNR : Hid (No4 (· = R) P2 P6 P3 P5) := Lib.hid ⟨fun e => hq.1 (Or.inr e), fun e => hq.2.1 (Or.inr e), fun e => hq.2.2.1 (Or.inr e), fun e => hq.2.2.2 (Or.inr e)⟩
  clear h ho hN hn ha ha2 hb hb2 hg0 hg hsg hs hsl hB hq
  go_enter Tryz.func49, Tryz.ntmps49
  go_wp2_with fail
  refine (wl_begin HH.out.1 HH.out.2.1 (by have := HH.out.2.2.1; omega) HH.out.2.2.2.1 HH.out.2.2.2.2.1 HH.out.2.2.2.2.2.1 HH.out.2.2.2.2.2.2.1 HH.out.2.2.2.2.2.2.2 g sg HG.out.2.1 HG.out.2.2.1 s HG.out.2.2.2.1).mono ?_
  rintro x w2 ⟨rfl, hwo⟩
  clear e2 e60 e61 e3
  obtain ⟨y, hy⟩ : ∃ y, y = beF a b g sg s ws ar st := ⟨_, rfl⟩
  have HST : Hid (StOk a b (N + 200) y.1 y.2.1 y.2.2.1) := Lib.hid (by
    have h1 := (split_sizes a g 0 s HH.out.2.2.2.2.1).1
    rw [hy]
    exact (layF_ok a b _ _ N ws ar st HH.out.2.1).up (by omega))
  have HCK : Hid (∀ F, F = phF a b g sg (1 - v.slot) y.1 y.2.1 y.2.2.1 → ckF a b g sg v.slot s ws ar st = if y.2.2.2 = 0 then F else y) := Lib.hid (fun F hF => by rw [hF]; unfold ckF; rw [← hy])
  rw [← hy] at hwo ⊢
  clear hy
  obtain ⟨ws2, ar2, st2, c⟩ := y
  simp only at hwo ⊢
  by_cases hc0 : c = 0
  · subst hc0
    obtain ⟨buf2, W2, K2, F2⟩ := hwo
    have hq2 : No4 (fun j => Own B S buf2 j ∨ j = R) P2 P6 P3 P5 := ⟨own_no HB.out.2.1 HL.out.1 F2, own_no HB.out.2.2.1 HL.out.2.1 F2, own_no HB.out.2.2.2.1 HL.out.2.2.1 F2, own_no HB.out.2.2.2.2 HL.out.2.2.2 F2⟩
    have hB2 := HB.out.1.keeps K2 HB.out.2.1 HB.out.2.2.1 HB.out.2.2.2.1 HB.out.2.2.2.2
    have HKF := Lib.hid (And.intro K2 F2)
    clear K2 F2
    obtain ⟨t, ht⟩ : ∃ t, t = 1 - v.slot := ⟨_, rfl⟩
    have hwt : IntKind.i64.wrap (1 - (v.slot : Int)) = (t : Int) := by have := HG.out.2.2.2.2; rw [IntWalk.i64_in _ (by omega)]; omega
    rw [← ht] at HCK
    have HT := Lib.hid ht
    clear ht
    have HD : Hid (CkB w2.drew P2 P6 P3 P5 R g sg parts s ∧ WlS w2.drew base B S a b R buf2 ws2 ar2 st2 v ∧ No4 (fun j => Own B S buf2 j ∨ j = R) P2 P6 P3 P5 ∧ Below w2.heap.size w2 w2.drew) := Lib.hid ⟨hB2.drew, W2.drew, hq2, (Below.refl _ _).drew⟩
    have HW2 := Lib.hid W2
    clear hB2 W2 hq2
    go_wp2_with fail
    refine wp_region_held_drew (S := fun w' => CkC w' P2 P6 R g sg) (by kernel_rfl) ⟨Kq.blk_cell HD.out.1.b2 0, Kq.blk_cell HD.out.1.b6 0, Kq.blk_cell HD.out.1.b6 1⟩ (fun hS0 => ?_)
    generalize w2.drew = wd at *
    unfold CkC at hS0
    dsimp only [CkC]
    refine wpAnyH_take (i := 0) (v := ?_) rfl (by kernel_rfl) (by kernel_rfl) (by kernel_rfl) (fun _ _ _ h => h) (Or.inl ⟨by kernel_rfl, ?_⟩) (by assumption) ?_
    rotate_left
    · intro w hSw; (try dsimp only at hSw); go_simp; (try with_reducible rfl)
    refine wpAnyH_take (i := 1) (v := ?_) rfl (by kernel_rfl) (by kernel_rfl) (by kernel_rfl) (fun _ _ _ h => h) (Or.inl ⟨by kernel_rfl, ?_⟩) (by assumption) ?_
    rotate_left
    · intro w hSw; (try dsimp only at hSw); go_simp; (try with_reducible rfl)
    refine wpAnyH_take (i := 2) (v := ?_) rfl (by kernel_rfl) (by kernel_rfl) (by kernel_rfl) (fun _ _ _ h => h) (Or.inl ⟨by kernel_rfl, ?_⟩) (by assumption) ?_
    rotate_left
    · intro w hSw; (try dsimp only at hSw); go_simp; (try with_reducible rfl)
    refine wpAnyH_take (i := 3) (v := ?_) rfl (by kernel_rfl) (by kernel_rfl) (by kernel_rfl) (fun _ _ _ h => h) (Or.inl ⟨by kernel_rfl, ?_⟩) (by assumption) ?_
    rotate_left
    · intro w hSw; (try dsimp only at hSw); go_simp; (try with_reducible rfl)
    refine wpAnyH_take (i := 4) (v := ?_) rfl (by kernel_rfl) (by kernel_rfl) (by kernel_rfl) (fun _ _ _ h => h) (Or.inl ⟨by kernel_rfl, ?_⟩) (by assumption) ?_
    rotate_left
    · intro w hSw; (try dsimp only at hSw); go_simp; (try with_reducible rfl)
    have c3 := HD.out.2.1.c3
    refine wpAnyH_ready (rs := [5]) (by kernel_rfl) (by simp) ?_
    refine AllReadyH.cons rfl (fun K hK => ?_) AllReadyH.nil
    go_simp
    refine hK.out _ _ ⟨Kq.blk_cell HD.out.1.b2 0, Kq.blk_cell HD.out.1.b6 0, Kq.blk_cell HD.out.1.b6 1⟩ (fun hS0 => ?_)
    clear hK K c3
    refine wpAnyH_take (i := 6) (v := ?_) rfl (by kernel_rfl) (by kernel_rfl) (by kernel_rfl) (fun _ _ _ h => h) (Or.inl ⟨by kernel_rfl, ?_⟩) (by assumption) ?_
    rotate_left
    · intro w hSw; (try dsimp only at hSw); go_simp; (try with_reducible rfl)
    refine wpAnyH_ready (rs := [7]) (by kernel_rfl) (by simp) ?_
    refine AllReadyH.cons rfl (fun K hK => ?_) AllReadyH.nil
    go_simp
    refine (wl_putHead HD.out.2.1 HST.out (by have := HH.out.2.2.1; omega) HH.out.2.2.2.1 HH.out.2.2.2.2.1 HH.out.2.2.2.2.2.1 g sg t HG.out.1 HG.out.2.1 HG.out.2.2.1 (by have := HT.out; omega)).mono ?_
    rintro x w3 ⟨rfl, hwo⟩
    obtain ⟨y3, hy3⟩ : ∃ y3, y3 = phF a b g sg t ws2 ar2 st2 := ⟨_, rfl⟩
    have HC3 := Lib.hid (HCK.out y3 hy3)
    rw [← hy3] at hwo ⊢
    clear hy3
    obtain ⟨ws3, ar3, st3, c⟩ := y3
    simp only at hwo ⊢
    obtain ⟨buf3, W3, K3, F3⟩ := hwo
    have hB3 := HD.out.1.keeps K3 HD.out.2.2.1.1 HD.out.2.2.1.2.1 HD.out.2.2.1.2.2.1 HD.out.2.2.1.2.2.2
    have HD3 : Hid (CkB w3 P2 P6 P3 P5 R g sg parts s ∧ WlS w3 base B S a b R buf3 ws3 ar3 st3 (headV v g sg t c)) := Lib.hid ⟨hB3, W3⟩
    have HK3 := Lib.hid (And.intro K3 F3)
    clear hB3 W3 K3 F3 hS0
    refine hK.out _ _ ⟨Kq.blk_cell HD3.out.1.b2 0, Kq.blk_cell HD3.out.1.b6 0, Kq.blk_cell HD3.out.1.b6 1⟩ (fun hS0 => ?_)
    clear hK K
    refine wpAnyH_take (i := 8) (v := ?_) rfl (by kernel_rfl) (by kernel_rfl) (by kernel_rfl) (fun _ _ _ h => h) (Or.inl ⟨by kernel_rfl, ?_⟩) (by assumption) ?_
    rotate_left
    · intro w hSw; (try dsimp only at hSw); go_simp; (try with_reducible rfl)
    refine wpAnyH_done (by kernel_rfl) ?_ _
    clear hS0 hwt
    go_simp
    have HFIN : Hid (∀ (v4 : WalV) (w4 : World), WoP w3 base B S a b R buf3 ws3 ar3 st3 v4 w4 → WoP w base B S a b R buf ws3 ar3 st3 v4 w4) := Lib.hid (fun v4 w4 hw4 => WoP.comp HH.out.1.lt HKF.out.1 HKF.out.2 (WoP.from HD.out.2.2.2 (WoP.comp HD.out.2.1.lt HK3.out.1 HK3.out.2 hw4)))
    by_cases hc0 : c = 0
    · subst hc0
      have hv : headV v g sg t 0 = { v with g := g, sg := sg, slot := t } := by unfold headV; rw [if_pos rfl]
      have J0 : Hid (CkJ w3 w3.drew base B S a b R buf3 ws3 ar3 st3 { v with g := g, sg := sg, slot := t } P2 P6 P3 P5 g sg parts s) := Lib.hid ⟨hv ▸ HD3.out.2.drew, Kq.Keeps.of_below (Below.refl _ _).drew (fun k h1 h2 => absurd h1 (Nat.not_le.2 h2)), HD3.out.1.drew⟩
      clear hv
      go_wp2_with fail
      refine wp_region_held_drew (S := fun w' => CkD w' P2 P5 R parts) (by kernel_rfl) J0.out.ckd (fun hS0 => ?_)
      generalize w3.drew = z0 at *
      unfold CkD at hS0
      dsimp only [CkD]
      refine wpAnyH_take (i := 0) (v := ?_) rfl (by kernel_rfl) (by kernel_rfl) (by kernel_rfl) (fun _ _ _ h => h) (Or.inl ⟨by kernel_rfl, ?_⟩) (by assumption) ?_
      rotate_left
      · intro w hSw; (try dsimp only at hSw); go_simp; (try with_reducible rfl)
      refine wpAnyH_take (i := 1) (v := ?_) rfl (by kernel_rfl) (by kernel_rfl) (by kernel_rfl) (fun _ _ _ h => h) (Or.inl ⟨by kernel_rfl, ?_⟩) (by assumption) ?_
      rotate_left
      · intro w hSw; (try dsimp only at hSw); go_simp; (try with_reducible rfl)
      refine wpAnyH_take (i := 2) (v := ?_) rfl (by kernel_rfl) (by kernel_rfl) (by kernel_rfl) (fun _ _ _ h => h) (Or.inl ⟨by kernel_rfl, ?_⟩) (by assumption) ?_
      rotate_left
      · intro w hSw; (try dsimp only at hSw); go_simp; (try with_reducible rfl)
      refine wpAnyH_take (i := 3) (v := ?_) rfl (by kernel_rfl) (by kernel_rfl) (by kernel_rfl) (fun _ _ _ h => h) (Or.inl ⟨by kernel_rfl, ?_⟩) (by assumption) ?_
      rotate_left
      · intro w hSw; (try dsimp only at hSw); go_simp; (try with_reducible rfl)
      refine wpAnyH_take (i := 4) (v := ?_) rfl (by kernel_rfl) (by kernel_rfl) (by kernel_rfl) (fun _ _ _ h => h) (Or.inl ⟨by kernel_rfl, ?_⟩) (by assumption) ?_
      rotate_left
      · intro w hSw; (try dsimp only at hSw); go_simp; (try with_reducible rfl)
      refine wpAnyH_take (i := 5) (v := ?_) rfl (by kernel_rfl) (by kernel_rfl) (by kernel_rfl) (fun _ _ _ h => h) (Or.inl ⟨by kernel_rfl, ?_⟩) (by assumption) ?_
      rotate_left
      · intro w hSw; (try dsimp only at hSw); go_simp; (try with_reducible rfl)
      have f4 := J0.out.w.fz 4
      have k4 := J0.out.w.c4
      refine wpAnyH_ready (rs := [6]) (by kernel_rfl) (by simp) ?_
      refine AllReadyH.cons rfl (fun K hK => ?_) AllReadyH.nil
      go_simp
      clear f4 k4
      have hj := J0.out.set HNR.out (i := 4) (x := (.int .i64 (parts : Int))) (v' := ({ v with g := g, sg := sg, slot := t, used := parts } : WalV)) rfl
      generalize z0.setCell ⟨R, 4, none⟩ (.int .i64 (parts : Int)) = z1 at *
      have J1 := Lib.hid hj
      clear hj hS0
      refine hK.out _ _ J1.out.ckd (fun hS0 => ?_)
      clear hK K
      refine wpAnyH_take (i := 7) (v := ?_) rfl (by kernel_rfl) (by kernel_rfl) (by kernel_rfl) (fun _ _ _ h => h) (Or.inl ⟨by kernel_rfl, ?_⟩) (by assumption) ?_
      rotate_left
      · intro w hSw; (try dsimp only at hSw); go_simp; (try with_reducible rfl)
      refine wpAnyH_take (i := 8) (v := ?_) rfl (by kernel_rfl) (by kernel_rfl) (by kernel_rfl) (fun _ _ _ h => h) (Or.inl ⟨by kernel_rfl, ?_⟩) (by assumption) ?_
      rotate_left
      · intro w hSw; (try dsimp only at hSw); go_simp; (try with_reducible rfl)
      have f5 := J1.out.w.fz 5
      have k5 := J1.out.w.c5
      refine wpAnyH_ready (rs := [9]) (by kernel_rfl) (by simp) ?_
      refine AllReadyH.cons rfl (fun K hK => ?_) AllReadyH.nil
      go_simp
      clear f5 k5
      have hj := J1.out.set HNR.out (i := 5) (x := (.int .i64 1)) (v' := ({ v with g := g, sg := sg, slot := t, used := parts, cnt := 1 } : WalV)) rfl
      generalize z1.setCell ⟨R, 5, none⟩ (.int .i64 1) = z2 at *
      have J2 := Lib.hid hj
      clear hj hS0
      refine hK.out _ _ J2.out.ckd (fun hS0 => ?_)
      clear hK K
      refine wpAnyH_take (i := 10) (v := ?_) rfl (by kernel_rfl) (by kernel_rfl) (by kernel_rfl) (fun _ _ _ h => h) (Or.inl ⟨by kernel_rfl, ?_⟩) (by assumption) ?_
      rotate_left
      · intro w hSw; (try dsimp only at hSw); go_simp; (try with_reducible rfl)
      refine wpAnyH_take (i := 11) (v := ?_) rfl (by kernel_rfl) (by kernel_rfl) (by kernel_rfl) (fun _ _ _ h => h) (Or.inl ⟨by kernel_rfl, ?_⟩) (by assumption) ?_
      rotate_left
      · intro w hSw; (try dsimp only at hSw); go_simp; (try with_reducible rfl)
      have f6 := J2.out.w.fz 6
      have k6 := J2.out.w.c6
      refine wpAnyH_ready (rs := [12]) (by kernel_rfl) (by simp) ?_
      refine AllReadyH.cons rfl (fun K hK => ?_) AllReadyH.nil
      go_simp
      clear f6 k6
      have hj := J2.out.set HNR.out (i := 6) (x := (.bool true)) (v' := ({ v with g := g, sg := sg, slot := t, used := parts, cnt := 1, ready := true } : WalV)) rfl
      generalize z2.setCell ⟨R, 6, none⟩ (.bool true) = z3 at *
      have J3 := Lib.hid hj
      clear hj hS0
      refine hK.out _ _ J3.out.ckd (fun hS0 => ?_)
      clear hK K
      refine wpAnyH_done (by kernel_rfl) ?_ _
      clear hS0
      go_simp
      have HP := Lib.hid (HFIN.out _ _ ⟨buf3, J3.out.w, J3.out.k.mono (fun _ _ e => Or.inr e), fun j hj => Or.inl hj⟩)
      go_wp2
      go_ret
      exact ⟨by rw [HC3.out]; rfl, by rw [HC3.out, if_pos trivial]; unfold ckV; rw [if_pos rfl, ← HT.out]; exact HP.out⟩
    · have hcb : (c == 0) = false := beq_eq_false_iff_ne.2 hc0
      have hcn : (c != 0) = true := by rw [bne_iff_ne]; exact hc0
      have hv : headV v g sg t c = v := by unfold headV; rw [if_neg hc0]
      have HP := Lib.hid (HFIN.out _ _ (WoP.here (hv ▸ HD3.out.2)))
      have HC := Lib.hid hc0
      clear hc0 hv
      go_wp2
      go_ret
      exact ⟨by rw [HC3.out]; rfl, by rw [HC3.out, if_pos trivial]; unfold ckV; rw [if_neg HC.out]; exact HP.out⟩
  · have hcb : (c == 0) = false := beq_eq_false_iff_ne.2 hc0
    have hcn : (c != 0) = true := by rw [bne_iff_ne]; exact hc0
    have HC3 := Lib.hid ((HCK.out _ rfl).trans (if_neg hc0))
    have HO := Lib.hid hwo
    have HC := Lib.hid hc0
    clear hc0 hwo
    go_wp2
    go_ret
    exact ⟨by rw [HC3.out]; rfl, by rw [HC3.out]; unfold ckV; rw [if_neg HC.out]; exact HO.out⟩
end Go.Proofs.YtbpgfhcecanikaaGreat
