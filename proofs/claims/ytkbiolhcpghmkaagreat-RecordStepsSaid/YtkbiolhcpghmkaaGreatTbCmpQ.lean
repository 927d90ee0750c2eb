/- cmp.Compare of numbers, cmp.Or of two; the test of a table's sort. No condition. -/
import Derived.WalkSpells
import Derived.Outline
import Derived.Deep.RegionHeld
import Derived.Deep.QuietTactic
import Derived.BigQuiet
import Derived.Shelf.SlSortCmp.WholeK
import Derived.Test.YtkbiolhcpghmkaaGreatRefValQ
import Derived.Test.YtkbiolhcpghmkaaGreatHeldLastQ
import Derived.Test.YtkbiolhcpghmkaaGreatTwoFQ
namespace Go.Proofs.YtkbiolhcpghmkaaGreat
open Go.RowKit Go.Sort
set_option linter.unusedVariables false
def cmpI (a b : Int) : Int := if a < b then -1 else if b < a then 1 else 0
set_option maxRecDepth 100000 in
theorem tb_nanI (a : Int) (w : World) : Calls Tryz.prog 67 #[.int .i64 a] w fun e w' => e = .returned (.bool false) ∧ w' = w := by
  have e1 : (a != a) = false := by simp
  go_enter Tryz.func67, Tryz.ntmps67
  go_wp2
  go_ret
  exact ⟨rfl, rfl⟩
set_option maxRecDepth 100000 in
theorem tb_nanU (a : Int) (w : World) : Calls Tryz.prog 68 #[.int .u64 a] w fun e w' => e = .returned (.bool false) ∧ w' = w := by
  have e1 : (a != a) = false := by simp
  go_enter Tryz.func68, Tryz.ntmps68
  go_wp2
  go_ret
  exact ⟨rfl, rfl⟩
set_option maxRecDepth 100000 in
set_option maxHeartbeats 1000000 in
theorem tb_cmpI (a b : Int) (w : World) : Calls Tryz.prog 40 #[.int .i64 a, .int .i64 b] w fun e w' => e = .returned (.int .i64 (cmpI a b)) ∧ w' = w := by
  have HA := Lib.hid (tb_nanI a w)
  have HB := Lib.hid (tb_nanI b w)
  by_cases h1 : a < b
  · have HR : Hid (cmpI a b = -1) := Lib.hid (if_pos h1)
    have d1 : decide (a < b) = true := decide_eq_true h1
    clear h1
    go_enter Tryz.func40, Tryz.ntmps40
    go_wp2_with fail
    refine HA.out.mono ?_
    rintro x w ⟨rfl, rfl⟩
    go_wp2_with fail
    refine HB.out.mono ?_
    rintro x w ⟨rfl, rfl⟩
    go_wp2
    go_ret
    exact ⟨by rw [HR.out]; rfl, rfl⟩
  have d1 : decide (a < b) = false := decide_eq_false h1
  by_cases h2 : b < a
  · have HR : Hid (cmpI a b = 1) := Lib.hid (by unfold cmpI; rw [if_neg h1, if_pos h2])
    have d2 : decide (b < a) = true := decide_eq_true h2
    clear h1 h2
    go_enter Tryz.func40, Tryz.ntmps40
    go_wp2_with fail
    refine HA.out.mono ?_
    rintro x w ⟨rfl, rfl⟩
    go_wp2_with fail
    refine HB.out.mono ?_
    rintro x w ⟨rfl, rfl⟩
    go_wp2
    go_ret
    exact ⟨by rw [HR.out]; rfl, rfl⟩
  have d2 : decide (b < a) = false := decide_eq_false h2
  have HR : Hid (cmpI a b = 0) := Lib.hid (by unfold cmpI; rw [if_neg h1, if_neg h2])
  clear h1 h2
  go_enter Tryz.func40, Tryz.ntmps40
  go_wp2_with fail
  refine HA.out.mono ?_
  rintro x w ⟨rfl, rfl⟩
  go_wp2_with fail
  refine HB.out.mono ?_
  rintro x w ⟨rfl, rfl⟩
  go_wp2
  go_ret
  exact ⟨by rw [HR.out]; rfl, rfl⟩
set_option maxRecDepth 100000 in
set_option maxHeartbeats 1000000 in
theorem tb_cmpU (a b : Int) (w : World) : Calls Tryz.prog 41 #[.int .u64 a, .int .u64 b] w fun e w' => e = .returned (.int .i64 (cmpI a b)) ∧ w' = w := by
  have HA := Lib.hid (tb_nanU a w)
  have HB := Lib.hid (tb_nanU b w)
  by_cases h1 : a < b
  · have HR : Hid (cmpI a b = -1) := Lib.hid (if_pos h1)
    have d1 : decide (a < b) = true := decide_eq_true h1
    clear h1
    go_enter Tryz.func41, Tryz.ntmps41
    go_wp2_with fail
    refine HA.out.mono ?_
    rintro x w ⟨rfl, rfl⟩
    go_wp2_with fail
    refine HB.out.mono ?_
    rintro x w ⟨rfl, rfl⟩
    go_wp2
    go_ret
    exact ⟨by rw [HR.out]; rfl, rfl⟩
  have d1 : decide (a < b) = false := decide_eq_false h1
  by_cases h2 : b < a
  · have HR : Hid (cmpI a b = 1) := Lib.hid (by unfold cmpI; rw [if_neg h1, if_pos h2])
    have d2 : decide (b < a) = true := decide_eq_true h2
    clear h1 h2
    go_enter Tryz.func41, Tryz.ntmps41
    go_wp2_with fail
    refine HA.out.mono ?_
    rintro x w ⟨rfl, rfl⟩
    go_wp2_with fail
    refine HB.out.mono ?_
    rintro x w ⟨rfl, rfl⟩
    go_wp2
    go_ret
    exact ⟨by rw [HR.out]; rfl, rfl⟩
  have d2 : decide (b < a) = false := decide_eq_false h2
  have HR : Hid (cmpI a b = 0) := Lib.hid (by unfold cmpI; rw [if_neg h1, if_neg h2])
  clear h1 h2
  go_enter Tryz.func41, Tryz.ntmps41
  go_wp2_with fail
  refine HA.out.mono ?_
  rintro x w ⟨rfl, rfl⟩
  go_wp2_with fail
  refine HB.out.mono ?_
  rintro x w ⟨rfl, rfl⟩
  go_wp2
  go_ret
  exact ⟨by rw [HR.out]; rfl, rfl⟩
def orI (a b : Int) : Int := if a ≠ 0 then a else b
set_option maxRecDepth 100000 in
set_option maxHeartbeats 1000000 in
theorem tb_or (a b : Int) (X : Nat) (w : World) (h0 : w.cell? ⟨X, 0, none⟩ = some (.int .i64 a)) (h1 : w.cell? ⟨X, 1, none⟩ = some (.int .i64 b)) : Calls Tryz.prog 39 #[.slice (some ⟨X, 0, none⟩) 2 2] w fun e w' => e = .returned (.int .i64 (orI a b)) ∧ w' = w := by
  by_cases ha : a = 0
  · have HR : Hid (orI a b = b) := Lib.hid (by unfold orI; rw [if_neg (by simp [ha])])
    subst ha
    by_cases hb : b = 0
    · subst hb
      go_enter Tryz.func39, Tryz.ntmps39
      go_wp2
      go_loopw [8] (fun i wr => ∃ j : Nat, j ≤ 2 ∧ i = .int .i64 (j : Int) ∧ wr = w) (fun i _ => 2 - (intOf i).toNat)
      case atStart => exact ⟨0, by omega, rfl, rfl⟩
      case round =>
        obtain ⟨j, hj, rfl, rfl⟩ := hrel
        rcases (by omega : j = 0 ∨ j = 1 ∨ j = 2) with rfl | rfl | rfl
        · go_wp2
          go_roundw
          case rel => exact ⟨1, by omega, rfl, by first | trivial | rfl⟩
          case measure => decide
        · go_wp2
          go_roundw
          case rel => exact ⟨2, by omega, rfl, by first | trivial | rfl⟩
          case measure => decide
        · go_wp2
          go_ret
          exact ⟨by rw [HR.out]; rfl, rfl⟩
    · have e1 : (b != 0) = true := by rw [bne_iff_ne]; exact hb
      clear hb
      go_enter Tryz.func39, Tryz.ntmps39
      go_wp2
      go_loopw [8] (fun i wr => ∃ j : Nat, j ≤ 1 ∧ i = .int .i64 (j : Int) ∧ wr = w) (fun i _ => 2 - (intOf i).toNat)
      case atStart => exact ⟨0, by omega, rfl, rfl⟩
      case round =>
        obtain ⟨j, hj, rfl, rfl⟩ := hrel
        rcases (by omega : j = 0 ∨ j = 1) with rfl | rfl
        · go_wp2
          go_roundw
          case rel => exact ⟨1, by omega, rfl, by first | trivial | rfl⟩
          case measure => decide
        · go_wp2
          go_ret
          exact ⟨by rw [HR.out]; rfl, rfl⟩
  · have HR : Hid (orI a b = a) := Lib.hid (if_pos ha)
    have e1 : (a != 0) = true := by rw [bne_iff_ne]; exact ha
    clear ha
    go_enter Tryz.func39, Tryz.ntmps39
    go_wp2
    go_loopw [8] (fun i wr => i = .int .i64 0 ∧ wr = w) (fun i _ => 2 - (intOf i).toNat)
    case atStart => exact ⟨rfl, rfl⟩
    case round =>
      obtain ⟨rfl, rfl⟩ := hrel
      go_wp2
      go_ret
      exact ⟨by rw [HR.out]; rfl, rfl⟩
/-- how two items are compared -/
def cmpN (x y : NtV) : Int := orI (cmpI x.f y.f) (cmpI x.q y.q)
def encT (x : NtV) : List Value := [.int .i64 x.f, .int .u64 x.q, .int .u64 x.t, .string x.d, .int .i64 x.k]
theorem cell_ltB {w : World} {b o : Nat} {v : Value} (h : w.cell? ⟨b, o, none⟩ = some v) : b < w.heap.size := by
  unfold World.cell? at h
  by_cases hb : b < w.heap.size
  · exact hb
  · simp [Array.getElem?_eq_none (Nat.le_of_not_lt hb)] at h
def ClB (w : World) (X Y : Nat) (x y : NtV) : Prop := (w.cell? ⟨X, 0, none⟩ = some (.int .i64 x.f) ∧ w.cell? ⟨X, 1, none⟩ = some (.int .u64 x.q)) ∧ w.cell? ⟨Y, 0, none⟩ = some (.int .i64 y.f) ∧ w.cell? ⟨Y, 1, none⟩ = some (.int .u64 y.q)
set_option maxRecDepth 100000 in
set_option maxHeartbeats 2000000 in
theorem tb_clo (x y : NtV) (W : World) : Calls Tryz.prog 38 #[.agg #[.int .i64 x.f, .int .u64 x.q, .int .u64 x.t, .string x.d, .int .i64 x.k], .agg #[.int .i64 y.f, .int .u64 y.q, .int .u64 y.t, .string y.d, .int .i64 y.k]] W fun e w' => e = .returned (.int .i64 (cmpN x y)) ∧ ∃ q os', w' = grow (W.drewN q) os' := by
  obtain ⟨w2, hw2⟩ : ∃ z, z = (W.alloc (.cells #[.int .i64 x.f, .int .u64 x.q, .int .u64 x.t, .string x.d, .int .i64 x.k] 51)).alloc (.cells #[.int .i64 y.f, .int .u64 y.q, .int .u64 y.t, .string y.d, .int .i64 y.k] 51) := ⟨_, rfl⟩
  have H2 : Hid (ClB w2.drew W.heap.size (W.heap.size + 1) x y ∧ ∃ os', w2.drew = grow (W.drewN 1) os') := Lib.hid (by
    have hx := Kq.blk_new W #[.int .i64 x.f, .int .u64 x.q, .int .u64 x.t, .string x.d, .int .i64 x.k] 51 (0, 0)
    have hy := Kq.blk_new (W.alloc (.cells #[.int .i64 x.f, .int .u64 x.q, .int .u64 x.t, .string x.d, .int .i64 x.k] 51)) #[.int .i64 y.f, .int .u64 y.q, .int .u64 y.t, .string y.d, .int .i64 y.k] 51 (0, 0)
    rw [show (W.alloc (.cells #[.int .i64 x.f, .int .u64 x.q, .int .u64 x.t, .string x.d, .int .i64 x.k] 51)).heap.size = W.heap.size + 1 by simp] at hy
    have hx2 := Kq.below_blk (Kq.below_alloc (W.alloc (.cells #[.int .i64 x.f, .int .u64 x.q, .int .u64 x.t, .string x.d, .int .i64 x.k] 51)) (.cells #[.int .i64 y.f, .int .u64 y.q, .int .u64 y.t, .string y.d, .int .i64 y.k] 51)) hx (Kq.blk_lt hx)
    rw [← hw2] at hx2 hy
    refine ⟨⟨⟨Kq.blk_cell hx2 0, Kq.blk_cell hx2 1⟩, Kq.blk_cell hy 0, Kq.blk_cell hy 1⟩, ?_⟩
    rw [hw2, alloc_eq_grow, alloc_eq_grow, grow_grow]
    exact ⟨_, rfl⟩)
  have HV : Hid (cmpN x y = orI (cmpI x.f y.f) (cmpI x.q y.q)) := Lib.hid rfl
  obtain ⟨k, f, q, t, d⟩ := x
  obtain ⟨k', f', q', t', d'⟩ := y
  obtain ⟨a, ha⟩ : ∃ a, a = cmpI f f' := ⟨_, rfl⟩
  obtain ⟨b, hb⟩ : ∃ b, b = cmpI q q' := ⟨_, rfl⟩
  have HA := Lib.hid (And.intro ha hb)
  clear ha hb
  go_enter Tryz.func38, Tryz.ntmps38
  go_wp2
  rw [← hw2]
  refine wp_region_held_drew (S := fun w' => ClB w' W.heap.size (W.heap.size + 1) ⟨k, f, q, t, d⟩ ⟨k', f', q', t', d'⟩) (by kernel_rfl) H2.out.1 (fun hS0 => ?_)
  obtain ⟨wd, hwd⟩ : ∃ z, z = w2.drew := ⟨_, rfl⟩
  rw [← hwd] at hS0 H2 ⊢
  clear hwd hw2
  unfold ClB at hS0
  dsimp only [ClB] at hS0 ⊢
  refine wpAnyH_take (i := 0) (v := ?_) rfl (by kernel_rfl) (by kernel_rfl) (by kernel_rfl) (fun _ _ _ h => h) (Or.inl ⟨by kernel_rfl, ?_⟩) (by assumption) ?_
  rotate_left
  · intro w hSw; (try dsimp only at hSw); go_simp; (try with_reducible rfl)
  refine wpAnyH_take (i := 1) (v := ?_) rfl (by kernel_rfl) (by kernel_rfl) (by kernel_rfl) (fun _ _ _ h => h) (Or.inl ⟨by kernel_rfl, ?_⟩) (by assumption) ?_
  rotate_left
  · intro w hSw; (try dsimp only at hSw); go_simp; (try with_reducible rfl)
  refine wpAnyH_take (i := 2) (v := ?_) rfl (by kernel_rfl) (by kernel_rfl) (by kernel_rfl) (fun _ _ _ h => h) (Or.inl ⟨by kernel_rfl, ?_⟩) (by assumption) ?_
  rotate_left
  · intro w hSw; (try dsimp only at hSw); go_simp; (try with_reducible rfl)
  refine wpAnyH_take (i := 3) (v := ?_) rfl (by kernel_rfl) (by kernel_rfl) (by kernel_rfl) (fun _ _ _ h => h) (Or.inl ⟨by kernel_rfl, ?_⟩) (by assumption) ?_
  rotate_left
  · intro w hSw; (try dsimp only at hSw); go_simp; (try with_reducible rfl)
  refine wpAnyH_take (i := 4) (v := ?_) rfl (by kernel_rfl) (by kernel_rfl) (by kernel_rfl) (fun _ _ _ h => h) (Or.inl ⟨by kernel_rfl, ?_⟩) (by assumption) ?_
  rotate_left
  · intro w hSw; (try dsimp only at hSw); go_simp; (try with_reducible rfl)
  refine wpAnyH_take (i := 5) (v := ?_) rfl (by kernel_rfl) (by kernel_rfl) (by kernel_rfl) (fun _ _ _ h => h) (Or.inl ⟨by kernel_rfl, ?_⟩) (by assumption) ?_
  rotate_left
  · intro w hSw; (try dsimp only at hSw); go_simp; (try with_reducible rfl)
  refine wpAnyH_take (i := 7) (v := ?_) rfl (by kernel_rfl) (by kernel_rfl) (by kernel_rfl) (fun _ _ _ h => h) (Or.inl ⟨by kernel_rfl, ?_⟩) (by assumption) ?_
  rotate_left
  · intro w hSw; (try dsimp only at hSw); go_simp; (try with_reducible rfl)
  refine wpAnyH_take (i := 8) (v := ?_) rfl (by kernel_rfl) (by kernel_rfl) (by kernel_rfl) (fun _ _ _ h => h) (Or.inl ⟨by kernel_rfl, ?_⟩) (by assumption) ?_
  rotate_left
  · intro w hSw; (try dsimp only at hSw); go_simp; (try with_reducible rfl)
  refine wpAnyH_take (i := 9) (v := ?_) rfl (by kernel_rfl) (by kernel_rfl) (by kernel_rfl) (fun _ _ _ h => h) (Or.inl ⟨by kernel_rfl, ?_⟩) (by assumption) ?_
  rotate_left
  · intro w hSw; (try dsimp only at hSw); go_simp; (try with_reducible rfl)
  refine wpAnyH_take (i := 10) (v := ?_) rfl (by kernel_rfl) (by kernel_rfl) (by kernel_rfl) (fun _ _ _ h => h) (Or.inl ⟨by kernel_rfl, ?_⟩) (by assumption) ?_
  rotate_left
  · intro w hSw; (try dsimp only at hSw); go_simp; (try with_reducible rfl)
  refine wpAnyH_take (i := 11) (v := ?_) rfl (by kernel_rfl) (by kernel_rfl) (by kernel_rfl) (fun _ _ _ h => h) (Or.inl ⟨by kernel_rfl, ?_⟩) (by assumption) ?_
  rotate_left
  · intro w hSw; (try dsimp only at hSw); go_simp; (try with_reducible rfl)
  refine wpAnyH_take (i := 12) (v := ?_) rfl (by kernel_rfl) (by kernel_rfl) (by kernel_rfl) (fun _ _ _ h => h) (Or.inl ⟨by kernel_rfl, ?_⟩) (by assumption) ?_
  rotate_left
  · intro w hSw; (try dsimp only at hSw); go_simp; (try with_reducible rfl)
  refine wpAnyH_ready (rs := [6]) (by kernel_rfl) (by simp) ?_
  refine AllReadyH.cons rfl (fun K hK => ?_) AllReadyH.nil
  go_simp
  refine (tb_cmpI f f' wd).mono ?_
  rintro x wd ⟨rfl, rfl⟩
  rw [← HA.out.1]
  refine hK.out _ _ H2.out.1 (fun hS0 => ?_)
  clear hK K
  refine wpAnyH_ready (rs := [13]) (by kernel_rfl) (by simp) ?_
  refine AllReadyH.cons rfl (fun K hK => ?_) AllReadyH.nil
  go_simp
  refine (tb_cmpU q q' wd).mono ?_
  rintro x wd ⟨rfl, rfl⟩
  rw [← HA.out.2]
  refine hK.out _ _ H2.out.1 (fun hS0 => ?_)
  clear hK K
  refine wpAnyH_ready (rs := [14]) (by kernel_rfl) (by simp) ?_
  refine AllReadyH.cons rfl (fun K hK => ?_) AllReadyH.nil
  go_simp
  have b1 := Kq.below_alloc wd (.cells #[.int .i64 a, .int .i64 b] 3)
  have hr := Kq.blk_new wd #[.int .i64 a, .int .i64 b] 3 (0, 0)
  have H3 : Hid (ClB (wd.alloc (.cells #[.int .i64 a, .int .i64 b] 3)) W.heap.size (W.heap.size + 1) ⟨k, f, q, t, d⟩ ⟨k', f', q', t', d'⟩ ∧ (wd.alloc (.cells #[.int .i64 a, .int .i64 b] 3)).cell? ⟨wd.heap.size, 0, none⟩ = some (.int .i64 a) ∧ (wd.alloc (.cells #[.int .i64 a, .int .i64 b] 3)).cell? ⟨wd.heap.size, 1, none⟩ = some (.int .i64 b) ∧ ∃ q os', (wd.alloc (.cells #[.int .i64 a, .int .i64 b] 3)) = grow (W.drewN q) os') := Lib.hid (by
    obtain ⟨⟨h1, h2⟩, h3, h4⟩ := H2.out.1
    have l1 : W.heap.size + 1 < wd.heap.size := cell_ltB h3
    have l0 : W.heap.size < wd.heap.size := by omega
    refine ⟨⟨⟨(b1.cell (p := ⟨W.heap.size, 0, none⟩) l0).trans h1, (b1.cell (p := ⟨W.heap.size, 1, none⟩) l0).trans h2⟩, (b1.cell (p := ⟨W.heap.size + 1, 0, none⟩) l1).trans h3, (b1.cell (p := ⟨W.heap.size + 1, 1, none⟩) l1).trans h4⟩, Kq.blk_cell hr 0, Kq.blk_cell hr 1, ?_⟩
    obtain ⟨os', e⟩ := H2.out.2
    refine ⟨1, os' ++ [Obj.cells #[.int .i64 a, .int .i64 b] 3 (0, 0)], ?_⟩
    rw [alloc_eq_grow, e, grow_grow]; rfl)
  clear b1 hr H2
  obtain ⟨X, hX⟩ : ∃ X, X = wd.heap.size := ⟨_, rfl⟩
  rw [← hX] at H3 ⊢
  obtain ⟨wb, hwb⟩ : ∃ z, z = wd.alloc (.cells #[.int .i64 a, .int .i64 b] 3) := ⟨_, rfl⟩
  rw [← hwb] at H3 ⊢
  clear hwb hX hS0
  refine hK.out _ _ H3.out.1 (fun hS0 => ?_)
  clear hK K
  refine wpAnyH_ready (rs := [15]) (by kernel_rfl) (by simp) ?_
  refine AllReadyH.cons rfl (fun K hK => ?_) AllReadyH.nil
  go_simp
  refine (tb_or a b X wb H3.out.2.1 H3.out.2.2.1).mono ?_
  rintro x wb ⟨rfl, rfl⟩
  refine hK.out _ _ H3.out.1 (fun hS0 => ?_)
  clear hK K
  refine wpAnyH_take (i := 16) (v := ?_) rfl (by kernel_rfl) (by kernel_rfl) (by kernel_rfl) (fun _ _ _ h => h) (Or.inl ⟨by kernel_rfl, ?_⟩) (by assumption) ?_
  rotate_left
  · intro w hSw; (try dsimp only at hSw); go_simp; (try with_reducible rfl)
  refine wpAnyH_done (by kernel_rfl) ?_ _
  clear hS0
  go_simp
  go_wp2
  go_ret
  exact ⟨by rw [HV.out, HA.out.1, HA.out.2]; rfl, H3.out.2.2.2⟩
theorem cmpI_neg (a b : Int) : cmpI a b < 0 ↔ a < b := by unfold cmpI; split <;> (try split) <;> omega
theorem cmpI_zero (a b : Int) : cmpI a b = 0 ↔ a = b := by unfold cmpI; split <;> (try split) <;> omega
theorem lt_cmpN (x y : NtV) : ltOf cmpN x y = ltN x.nm y.nm := by
  unfold ltOf cmpN orI ltN NtV.nm
  have h1 := cmpI_neg x.f y.f
  have h2 := cmpI_zero x.f y.f
  have h3 := cmpI_neg x.q y.q
  rw [Bool.eq_iff_iff, decide_eq_true_iff, decide_eq_true_iff]
  simp only
  split <;> omega
theorem tb_swo : SWO (ltOf cmpN) where
  irrefl x := by rw [lt_cmpN]; exact tbR.irr _
  trans x y z h1 h2 := by rw [lt_cmpN] at *; exact tbR.trans h1 h2
  ntrans x y z h1 h2 := by
    rw [lt_cmpN] at *
    unfold ltN at *
    rw [decide_eq_false_iff_not] at *
    omega
end Go.Proofs.YtkbiolhcpghmkaaGreat
