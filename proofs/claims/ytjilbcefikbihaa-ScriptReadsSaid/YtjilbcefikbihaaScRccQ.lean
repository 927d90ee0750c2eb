/- carrackref23's Config: the walk. Condition: the text's size. -/
import Derived.WalkSpells
import Derived.Outline
import Derived.Deep.RegionHeld
import Derived.Test.YtjilbcefikbihaaHeldLastQ
import Derived.Deep.MidRow
import Derived.Test.YtjilbcefikbihaaScRcmQ
namespace Go.Proofs.Ytjilbcefikbihaa
open Go.RowKit
set_option linter.unusedVariables false
theorem World_set2 (w : World) (b o : Nat) (x y : Value) : w.setCells b o [x, y] = (w.setCell ⟨b, o, none⟩ x).setCell ⟨b, o + 1, none⟩ y := rfl
theorem there_two {w : World} {b o : Nat} {x y : Value} (h0 : w.cell? ⟨b, o, none⟩ = some x) (h1 : w.cell? ⟨b, o + 1, none⟩ = some y) (f0 : w.frozen? ⟨b, o, none⟩ = false) (f1 : w.frozen? ⟨b, o + 1, none⟩ = false) : w.there b o 2 := fun j hj => by
  match j, hj with
  | 0, _ => exact ⟨by rw [Nat.add_zero, h0]; rfl, f0⟩
  | 1, _ => exact ⟨by rw [h1]; rfl, f1⟩
set_option maxRecDepth 100000 in
set_option maxHeartbeats 4000000 in
theorem rc_config (s : ByteArray) (w : World) (hs : s.size ≤ 5000) :
    Calls Try.prog 15 #[.string s] w fun x w' => Below w.heap.size w w' ∧ ((cfgF s).2.1 = 0 → x = .returned (.tuple #[.agg (cfgF s).1.cells, .string (cfgF s).2.2, .int .i64 0])) ∧ ((cfgF s).2.1 ≠ 0 → x = .returned (.tuple #[.agg CoV.zero.cells, .string ⟨#[]⟩, .int .i64 (cfgF s).2.1])) := by
  obtain ⟨C0, hC0⟩ : ∃ z, z = w.heap.size := ⟨_, rfl⟩
  obtain ⟨wa, hwa⟩ : ∃ z, z = w.alloc (.cells #[.int .i64 0, .int .i64 0, .int .i64 0, .int .i64 0, .int .i64 0, .int .u64 0, .int .u64 0, .int .u64 0, .int .u64 0] 32) := ⟨_, rfl⟩
  have HA : Hid (wa.heap[C0]? = some (.cells CoV.zero.cells 32 (0, 0)) ∧ Below w.heap.size w wa ∧ C0 = w.heap.size) := Lib.hid ⟨by rw [hwa, hC0]; exact Kq.blk_new _ _ _ _, by rw [hwa]; exact Kq.below_alloc _ _, hC0⟩
  by_cases h39 : s.size < 39
  · have HE : Hid ((cfgF s).2.1 = 6) := Lib.hid (cfg_short s h39)
    have t0 : decide ((s.size : Int) < 39) = true := decide_eq_true (by omega)
    have t1 : decide (s.size < 39) = true := decide_eq_true h39
    have t2 : (s.size : Int) < 39 := by omega
    have HAB := Lib.hid HA.out.1
    rw [hwa, hC0] at HAB
    clear h39
    go_enter Try.func15, Try.ntmps15
    go_wp2_with (refine wpList_store_row (by rfl) 32 (.tmp 2) (.tmp 9) (by rfl) w.heap.size #[.int .i64 0, .int .i64 0, .int .i64 0, .int .i64 0, .int .i64 0, .int .u64 0, .int .u64 0, .int .u64 0, .int .u64 0] (by rfl) (by rfl) 32 _ HAB.out (by kernel_rfl) (by rfl) (cg_one CoV.zero) ?_)
    obtain ⟨wz, hwz⟩ : ∃ z, z = wa.setRow C0 #[.int .i64 0, .int .i64 0, .int .i64 0, .int .i64 0, .int .i64 0, .int .u64 0, .int .u64 0, .int .u64 0, .int .u64 0] := ⟨_, rfl⟩
    have HZ : Hid (wz.heap[C0]? = some (.cells CoV.zero.cells 32 (0, 0)) ∧ Below w.heap.size w wz) := Lib.hid (by
      have ks : Kq.Keeps (· = C0) wa wz := by rw [hwz]; exact ⟨rfl, rfl, rfl, by simp, fun k _ hk => setRow_other _ _ k _ hk⟩
      exact ⟨by rw [hwz]; exact setRow_heap _ _ _ _ _ _ HA.out.1, ((keeps_any (S := (· = C0)) HA.out.2.1).trans ks).below (Nat.le_refl _) (fun k hk h => by omega)⟩)
    rw [hwa, hC0] at hwz
    try rw [← hwz]
    go_wp2
    try rw [← hwz]
    rw [← hC0]
    clear hwz hwa t0 t1 t2
    have z0 := Kq.blk_cell HZ.out.1 0
    have z1 := Kq.blk_cell HZ.out.1 1
    have z2 := Kq.blk_cell HZ.out.1 2
    have z3 := Kq.blk_cell HZ.out.1 3
    have z4 := Kq.blk_cell HZ.out.1 4
    have z5 := Kq.blk_cell HZ.out.1 5
    have z6 := Kq.blk_cell HZ.out.1 6
    have z7 := Kq.blk_cell HZ.out.1 7
    have z8 := Kq.blk_cell HZ.out.1 8
    clear hC0
    refine bodyPost_ret (v := .tuple #[.agg CoV.zero.cells, .string ⟨#[]⟩, .int .i64 6]) (by simp [results, Try.results15, go_sem, z0, z1, z2, z3, z4, z5, z6, z7, z8, CoV.zero, CoV.cells]) rfl ?_
    rw [HE.out]
    exact ⟨by rw [HA.out.2.2]; exact HZ.out.2, fun h => absurd h (by decide), fun _ => rfl⟩
  · have hsz : 39 ≤ s.size := by omega
    have HC : Hid (cfgF s = (cfV s, 0, s.extract 39 s.size)) := Lib.hid (cfg_long s hsz)
    have t0 : decide ((s.size : Int) < 39) = false := decide_eq_false (by omega)
    have t1 : decide (s.size < 39) = false := decide_eq_false h39
    have t2 : ¬ (s.size : Int) < 39 := by omega
    obtain ⟨c, hc⟩ : ∃ z, z = cfV s := ⟨_, rfl⟩
    rw [← hc] at HC
    have l35 := vF_lt s 3 5 (by decide)
    have l57 := vF_lt s 5 7 (by decide)
    have V1 := Lib.hid (fun wz => rc_v s 3 5 (by decide) (by omega) (by decide) (by omega) wz)
    have V2 := Lib.hid (fun wz => rc_v s 5 7 (by decide) (by omega) (by decide) (by omega) wz)
    have V3 := Lib.hid (fun wz => rc_v s 7 15 (by decide) (by omega) (by decide) (by omega) wz)
    have V4 := Lib.hid (fun wz => rc_v s 15 23 (by decide) (by omega) (by decide) (by omega) wz)
    have V5 := Lib.hid (fun wz => rc_v s 23 31 (by decide) (by omega) (by decide) (by omega) wz)
    have V6 := Lib.hid (fun wz => rc_v s 31 39 (by decide) (by omega) (by decide) (by omega) wz)
    have HF : Hid ((s[0].toNat : Int) = c.tb ∧ (s[1].toNat : Int) = c.bt ∧ (s[2].toNat : Int) = c.sc ∧ ((vF s 3 5 : Nat) : Int) = c.sec ∧ ((vF s 5 7 : Nat) : Int) = c.secs ∧ ((vF s 7 15 : Nat) : Int) = c.h0 ∧ ((vF s 15 23 : Nat) : Int) = c.h1 ∧ ((vF s 23 31 : Nat) : Int) = c.s0 ∧ ((vF s 31 39 : Nat) : Int) = c.s1) := Lib.hid (by
      rw [hc]
      refine ⟨?_, ?_, ?_, rfl, rfl, rfl, rfl, rfl, rfl⟩
      · show _ = ((vF s 0 1 : Nat) : Int); rw [← vF_one s 0 (by omega)]
      · show _ = ((vF s 1 2 : Nat) : Int); rw [← vF_one s 1 (by omega)]
      · show _ = ((vF s 2 3 : Nat) : Int); rw [← vF_one s 2 (by omega)])
    have k1 : IntKind.i64.wrap ((vF s 3 5 : Nat) : Int) = ((vF s 3 5 : Nat) : Int) := IntWalk.i64_in _ (by omega)
    have k2 : IntKind.i64.wrap ((vF s 5 7 : Nat) : Int) = ((vF s 5 7 : Nat) : Int) := IntWalk.i64_in _ (by omega)
    have b0 := s[0].toNat_lt
    have b1 := s[1].toNat_lt
    have b2 := s[2].toNat_lt
    have k3 : IntKind.i64.wrap (s[0].toNat : Int) = (s[0].toNat : Int) := IntWalk.i64_in _ (by omega)
    have k4 : IntKind.i64.wrap (s[1].toNat : Int) = (s[1].toNat : Int) := IntWalk.i64_in _ (by omega)
    have k5 : IntKind.i64.wrap (s[2].toNat : Int) = (s[2].toNat : Int) := IntWalk.i64_in _ (by omega)
    clear b0 b1 b2
    have i0 : (0 : Int) < (s.size : Int) := by omega
    have i1 : (1 : Int) < (s.size : Int) := by omega
    have i2 : (2 : Int) < (s.size : Int) := by omega
    have j0 : 0 < s.size := by omega
    have j1 : 1 < s.size := by omega
    have j2 : 2 < s.size := by omega
    clear l35 l57 hc
    go_enter Try.func15, Try.ntmps15
    go_wp2
    rw [← hwa, ← hC0]
    clear hwa hC0 t0 t1 t2
    obtain ⟨C3, hC3⟩ : ∃ z : Array Value, z = #[.int .i64 ((vF s 3 5 : Nat) : Int), .int .i64 ((vF s 5 7 : Nat) : Int), .int .i64 (s[0].toNat : Int), .int .i64 (s[1].toNat : Int), .int .i64 (s[2].toNat : Int), .int .u64 0, .int .u64 0, .int .u64 0, .int .u64 0] := ⟨_, rfl⟩
    have HC3 : Hid (C3 = #[.int .i64 c.sec, .int .i64 c.secs, .int .i64 c.tb, .int .i64 c.bt, .int .i64 c.sc, .int .u64 0, .int .u64 0, .int .u64 0, .int .u64 0]) := Lib.hid (by rw [hC3, HF.out.1, HF.out.2.1, HF.out.2.2.1, HF.out.2.2.2.1, HF.out.2.2.2.2.1])
    have HOne : Hid (C3.all (·.oneCell') = true ∧ C3.size = 9) := Lib.hid (by rw [hC3]; exact ⟨by rw [← Array.all_toList]; rfl, rfl⟩)
    have HEQ := Lib.hid hC3
    clear hC3
    refine wp_region_held_drew (S := fun _ => True) (by kernel_rfl) trivial (fun hS0 => ?_)
    obtain ⟨wd, hwd⟩ : ∃ z, z = wa.drew := ⟨_, rfl⟩
    have HD : Hid (wd.heap[C0]? = some (.cells CoV.zero.cells 32 (0, 0)) ∧ Below w.heap.size w wd) := Lib.hid (by rw [hwd]; exact ⟨HA.out.1, HA.out.2.1.drew⟩)
    rw [← hwd]
    clear hwd
    refine wpAnyH_take (i := 0) (v := ?_) rfl (by kernel_rfl) (by kernel_rfl) (by kernel_rfl) (fun _ _ _ h => h) (Or.inl ⟨by kernel_rfl, ?_⟩) (by assumption) ?_
    rotate_left
    · intro w hSw; (try dsimp only at hSw); go_simp; (try with_reducible rfl)
    refine wpAnyH_take (i := 1) (v := ?_) rfl (by kernel_rfl) (by kernel_rfl) (by kernel_rfl) (fun _ _ _ h => h) (Or.inl ⟨by kernel_rfl, ?_⟩) (by assumption) ?_
    rotate_left
    · intro w hSw; (try dsimp only at hSw); go_simp; (try with_reducible rfl)
    refine wpAnyH_take (i := 2) (v := ?_) rfl (by kernel_rfl) (by kernel_rfl) (by kernel_rfl) (fun _ _ _ h => h) (Or.inl ⟨by kernel_rfl, ?_⟩) (by assumption) ?_
    rotate_left
    · intro w hSw; (try dsimp only at hSw); go_simp; (try with_reducible rfl)
    refine wpAnyH_take (i := 3) (v := ?_) rfl (by kernel_rfl) (by kernel_rfl) (by kernel_rfl) (fun _ _ _ h => h) (Or.inl ⟨by kernel_rfl, ?_⟩) (by assumption) ?_
    rotate_left
    · intro w hSw; (try dsimp only at hSw); go_simp; (try with_reducible rfl)
    refine wpAnyH_take (i := 4) (v := ?_) rfl (by kernel_rfl) (by kernel_rfl) (by kernel_rfl) (fun _ _ _ h => h) (Or.inl ⟨by kernel_rfl, ?_⟩) (by assumption) ?_
    rotate_left
    · intro w hSw; (try dsimp only at hSw); go_simp; (try with_reducible rfl)
    refine wpAnyH_take (i := 5) (v := ?_) rfl (by kernel_rfl) (by kernel_rfl) (by kernel_rfl) (fun _ _ _ h => h) (Or.inl ⟨by kernel_rfl, ?_⟩) (by assumption) ?_
    rotate_left
    · intro w hSw; (try dsimp only at hSw); go_simp; (try with_reducible rfl)
    refine wpAnyH_take (i := 6) (v := ?_) rfl (by kernel_rfl) (by kernel_rfl) (by kernel_rfl) (fun _ _ _ h => h) (Or.inl ⟨by kernel_rfl, ?_⟩) (by assumption) ?_
    rotate_left
    · intro w hSw; (try dsimp only at hSw); go_simp; (try with_reducible rfl)
    refine wpAnyH_take (i := 7) (v := ?_) rfl (by kernel_rfl) (by kernel_rfl) (by kernel_rfl) (fun _ _ _ h => h) (Or.inl ⟨by kernel_rfl, ?_⟩) (by assumption) ?_
    rotate_left
    · intro w hSw; (try dsimp only at hSw); go_simp; (try with_reducible rfl)
    refine wpAnyH_take (i := 8) (v := ?_) rfl (by kernel_rfl) (by kernel_rfl) (by kernel_rfl) (fun _ _ _ h => h) (Or.inl ⟨by kernel_rfl, ?_⟩) (by assumption) ?_
    rotate_left
    · intro w hSw; (try dsimp only at hSw); go_simp; (try with_reducible rfl)
    refine wpAnyH_take (i := 9) (v := ?_) rfl (by kernel_rfl) (by kernel_rfl) (by kernel_rfl) (fun _ _ _ h => h) (Or.inl ⟨by kernel_rfl, ?_⟩) (by assumption) ?_
    rotate_left
    · intro w hSw; (try dsimp only at hSw); go_simp; (try with_reducible rfl)
    refine wpAnyH_take (i := 12) (v := ?_) rfl (by kernel_rfl) (by kernel_rfl) (by kernel_rfl) (fun _ _ _ h => h) (Or.inl ⟨by kernel_rfl, ?_⟩) (by assumption) ?_
    rotate_left
    · intro w hSw; (try dsimp only at hSw); go_simp; (try with_reducible rfl)
    refine wpAnyH_ready (rs := [10, 16]) (by kernel_rfl) (by simp) ?_
    refine AllReadyH.cons rfl (fun K hK => ?ga) (AllReadyH.cons rfl (fun K hK => ?gb) AllReadyH.nil)
    case' ga =>
      go_simp
      refine (V1.out _).mono ?_
      rintro x w9 ⟨rfl, rfl⟩
      refine hK.out _ _ trivial (fun hS1 => ?_)
      clear hK K hS0
      refine wpAnyH_take (i := 11) (v := ?_) rfl (by kernel_rfl) (by kernel_rfl) (by kernel_rfl) (fun _ _ _ h => h) (Or.inl ⟨by kernel_rfl, ?_⟩) (by assumption) ?_
      rotate_left
      · intro w hSw; (try dsimp only at hSw); go_simp; (try with_reducible rfl)
      refine wpAnyH_ready (rs := [13, 16]) (by kernel_rfl) (by simp) ?_
      refine AllReadyH.cons rfl (fun K hK => ?gc) (AllReadyH.cons rfl (fun K hK => ?gd) AllReadyH.nil)
      case' gc =>
        go_simp
        refine (V2.out _).mono ?_
        rintro x w9 ⟨rfl, rfl⟩
        refine hK.out _ _ trivial (fun hS0 => ?_)
        clear hK K hS1
        refine wpAnyH_take (i := 14) (v := ?_) rfl (by kernel_rfl) (by kernel_rfl) (by kernel_rfl) (fun _ _ _ h => h) (Or.inl ⟨by kernel_rfl, ?_⟩) (by assumption) ?_
        rotate_left
        · intro w hSw; (try dsimp only at hSw); go_simp; (try with_reducible rfl)
        refine wpAnyH_take (i := 15) (v := ?_) rfl (by kernel_rfl) (by kernel_rfl) (by kernel_rfl) (fun _ _ _ h => h) (Or.inl ⟨by kernel_rfl, ?_⟩) (by assumption) ?_
        rotate_left
        · intro w hSw; (try dsimp only at hSw); go_simp; (try with_reducible rfl)
        refine wpAnyH_ready (rs := [16]) (by kernel_rfl) (by simp) ?_
        refine AllReadyH.cons rfl (fun K hK => ?_) AllReadyH.nil
        go_simp
        refine hK.out _ _ trivial (fun hS1 => ?_)
        clear hK K hS0
      case' gd =>
        go_simp
        refine hK.out _ _ trivial (fun hS0 => ?_)
        clear hK K hS1
        refine wpAnyH_ready (rs := [13]) (by kernel_rfl) (by simp) ?_
        refine AllReadyH.cons rfl (fun K hK => ?_) AllReadyH.nil
        go_simp
        refine (V2.out _).mono ?_
        rintro x w9 ⟨rfl, rfl⟩
        refine hK.out _ _ trivial (fun hS1 => ?_)
        clear hK K hS0
        refine wpAnyH_take (i := 14) (v := ?_) rfl (by kernel_rfl) (by kernel_rfl) (by kernel_rfl) (fun _ _ _ h => h) (Or.inl ⟨by kernel_rfl, ?_⟩) (by assumption) ?_
        rotate_left
        · intro w hSw; (try dsimp only at hSw); go_simp; (try with_reducible rfl)
        refine wpAnyH_take (i := 15) (v := ?_) rfl (by kernel_rfl) (by kernel_rfl) (by kernel_rfl) (fun _ _ _ h => h) (Or.inl ⟨by kernel_rfl, ?_⟩) (by assumption) ?_
        rotate_left
        · intro w hSw; (try dsimp only at hSw); go_simp; (try with_reducible rfl)
    case' gb =>
      go_simp
      refine hK.out _ _ trivial (fun hS1 => ?_)
      clear hK K hS0
      refine wpAnyH_ready (rs := [10]) (by kernel_rfl) (by simp) ?_
      refine AllReadyH.cons rfl (fun K hK => ?_) AllReadyH.nil
      go_simp
      refine (V1.out _).mono ?_
      rintro x w9 ⟨rfl, rfl⟩
      refine hK.out _ _ trivial (fun hS0 => ?_)
      clear hK K hS1
      refine wpAnyH_take (i := 11) (v := ?_) rfl (by kernel_rfl) (by kernel_rfl) (by kernel_rfl) (fun _ _ _ h => h) (Or.inl ⟨by kernel_rfl, ?_⟩) (by assumption) ?_
      rotate_left
      · intro w hSw; (try dsimp only at hSw); go_simp; (try with_reducible rfl)
      refine wpAnyH_ready (rs := [13]) (by kernel_rfl) (by simp) ?_
      refine AllReadyH.cons rfl (fun K hK => ?_) AllReadyH.nil
      go_simp
      refine (V2.out _).mono ?_
      rintro x w9 ⟨rfl, rfl⟩
      refine hK.out _ _ trivial (fun hS1 => ?_)
      clear hK K hS0
      refine wpAnyH_take (i := 14) (v := ?_) rfl (by kernel_rfl) (by kernel_rfl) (by kernel_rfl) (fun _ _ _ h => h) (Or.inl ⟨by kernel_rfl, ?_⟩) (by assumption) ?_
      rotate_left
      · intro w hSw; (try dsimp only at hSw); go_simp; (try with_reducible rfl)
      refine wpAnyH_take (i := 15) (v := ?_) rfl (by kernel_rfl) (by kernel_rfl) (by kernel_rfl) (fun _ _ _ h => h) (Or.inl ⟨by kernel_rfl, ?_⟩) (by assumption) ?_
      rotate_left
      · intro w hSw; (try dsimp only at hSw); go_simp; (try with_reducible rfl)
    all_goals
      refine wpAnyH_ready (rs := [17]) (by kernel_rfl) (by simp) ?_
      refine AllReadyH.cons rfl (fun K hK => ?_) AllReadyH.nil
      rw [if_pos (by kernel_rfl)]
      refine wp_store_row 32 (.tmp 5) (.tmp 25) (by rfl) wd.heap.size C3 (by rfl) (by rw [HEQ.out]; rfl) 32 _ (Kq.blk_new wd _ _ _) (by rw [HOne.out.2]; kernel_rfl) (by rw [HOne.out.2]; rfl) HOne.out.1 ?_
      obtain ⟨C1, hC1⟩ : ∃ z, z = wd.heap.size := ⟨_, rfl⟩
      obtain ⟨w3, hw3⟩ : ∃ z, z = (wd.alloc (.cells #[.int .i64 0, .int .i64 0, .int .i64 0, .int .i64 0, .int .i64 0, .int .u64 0, .int .u64 0, .int .u64 0, .int .u64 0] 32)).setRow wd.heap.size C3 := ⟨_, rfl⟩
      have H3 : Hid (w3.heap[C1]? = some (.cells #[.int .i64 c.sec, .int .i64 c.secs, .int .i64 c.tb, .int .i64 c.bt, .int .i64 c.sc, .int .u64 0, .int .u64 0, .int .u64 0, .int .u64 0] 32 (0, 0)) ∧ w3.heap[C0]? = some (.cells CoV.zero.cells 32 (0, 0)) ∧ Below w.heap.size w w3 ∧ C0 ≠ C1 ∧ w.heap.size ≤ C1) := Lib.hid (by
        have ba := Kq.below_alloc wd (.cells #[.int .i64 0, .int .i64 0, .int .i64 0, .int .i64 0, .int .i64 0, .int .u64 0, .int .u64 0, .int .u64 0, .int .u64 0] 32)
        have ks : Kq.Keeps (· = wd.heap.size) wd w3 := by
          rw [hw3]
          exact (keeps_any ba).trans ⟨rfl, rfl, rfl, by simp, fun k _ hk => setRow_other _ _ k _ hk⟩
        have hlt := Kq.blk_lt HD.out.1
        refine ⟨by rw [hw3, hC1, ← HC3.out]; exact setRow_heap _ _ _ _ _ _ (Kq.blk_new wd _ _ _), ks.blk HD.out.1 (by show ¬ C0 = wd.heap.size; omega), ((keeps_any (S := (· = wd.heap.size)) HD.out.2).trans ks).below (Nat.le_refl _) (fun k hk h => by have := HD.out.2.size; omega), by omega, by rw [hC1]; exact HD.out.2.size⟩)
      rw [← hw3]
      rw [← hC1]
      clear hw3 hC1
      refine hK.out _ _ trivial (fun hS9 => ?_)
      clear hK K hS9
      refine wpAnyH_done (by kernel_rfl) ?_ _
      go_simp
      go_wp2_with fail
      refine (V3.out _).mono ?_
      rintro x w9 ⟨rfl, rfl⟩
      rw [HF.out.2.2.2.2.2.1]
      go_wp2_with fail
      refine (V4.out _).mono ?_
      rintro x w9 ⟨rfl, rfl⟩
      rw [HF.out.2.2.2.2.2.2.1]
      have HT : Hid (w3.there C1 5 2) := Lib.hid (there_two (Kq.blk_cell H3.out.1 5) (Kq.blk_cell H3.out.1 6) (Kq.blk_free H3.out.1 5) (Kq.blk_free H3.out.1 6))
      obtain ⟨w4, hw4⟩ : ∃ z, z = w3.setCells C1 5 (#[.int .u64 c.h0, .int .u64 c.h1] : Array Value).toList := ⟨_, rfl⟩
      have ew4 : w4 = (w3.setCell ⟨C1, 5, none⟩ (.int .u64 c.h0)).setCell ⟨C1, 6, none⟩ (.int .u64 c.h1) := hw4
      have H4 : Hid (w4.heap[C1]? = some (.cells #[.int .i64 c.sec, .int .i64 c.secs, .int .i64 c.tb, .int .i64 c.bt, .int .i64 c.sc, .int .u64 c.h0, .int .u64 c.h1, .int .u64 0, .int .u64 0] 32 (0, 0)) ∧ w4.heap[C0]? = some (.cells CoV.zero.cells 32 (0, 0)) ∧ Below w.heap.size w w4) := Lib.hid (by
        have ks : Kq.Keeps (· = C1) w3 w4 := by rw [ew4]; exact (Kq.Keeps.setCell (S := (· = C1)) _ _ _ rfl).trans (Kq.Keeps.setCell (S := (· = C1)) _ _ _ rfl)
        exact ⟨by rw [ew4]; exact Kq.blk_set (Kq.blk_set H3.out.1 5 _) 6 _, ks.blk H3.out.2.1 H3.out.2.2.2.1, ((keeps_any (S := (· = C1)) H3.out.2.2.1).trans ks).below (Nat.le_refl _) (fun k hk h => by have := H3.out.2.2.2.2; omega)⟩)
      go_wp2_with (refine wpList_store_mid rfl 30 (.tmp 31) (.tmp 30) rfl C1 5 #[.int .u64 c.h0, .int .u64 c.h1] rfl rfl HT.out (by kernel_rfl) (by simp [Value.oneCell']) ?_; rw [← hw4]; clear hw4 ew4 HT)
      refine (V5.out _).mono ?_
      rintro x w9 ⟨rfl, rfl⟩
      rw [HF.out.2.2.2.2.2.2.2.1]
      go_wp2_with fail
      refine (V6.out _).mono ?_
      rintro x w9 ⟨rfl, rfl⟩
      rw [HF.out.2.2.2.2.2.2.2.2]
      have HT : Hid (w4.there C1 7 2) := Lib.hid (there_two (Kq.blk_cell H4.out.1 7) (Kq.blk_cell H4.out.1 8) (Kq.blk_free H4.out.1 7) (Kq.blk_free H4.out.1 8))
      obtain ⟨w5, hw5⟩ : ∃ z, z = w4.setCells C1 7 (#[.int .u64 c.s0, .int .u64 c.s1] : Array Value).toList := ⟨_, rfl⟩
      have ew5 : w5 = (w4.setCell ⟨C1, 7, none⟩ (.int .u64 c.s0)).setCell ⟨C1, 8, none⟩ (.int .u64 c.s1) := hw5
      have H5 : Hid (w5.heap[C1]? = some (.cells #[.int .i64 c.sec, .int .i64 c.secs, .int .i64 c.tb, .int .i64 c.bt, .int .i64 c.sc, .int .u64 c.h0, .int .u64 c.h1, .int .u64 c.s0, .int .u64 c.s1] 32 (0, 0)) ∧ w5.heap[C0]? = some (.cells CoV.zero.cells 32 (0, 0)) ∧ Below w.heap.size w w5) := Lib.hid (by
        have ks : Kq.Keeps (· = C1) w4 w5 := by rw [ew5]; exact (Kq.Keeps.setCell (S := (· = C1)) _ _ _ rfl).trans (Kq.Keeps.setCell (S := (· = C1)) _ _ _ rfl)
        exact ⟨by rw [ew5]; exact Kq.blk_set (Kq.blk_set H4.out.1 7 _) 8 _, ks.blk H4.out.2.1 H3.out.2.2.2.1, ((keeps_any (S := (· = C1)) H4.out.2.2).trans ks).below (Nat.le_refl _) (fun k hk h => by have := H3.out.2.2.2.2; omega)⟩)
      go_wp2_with (refine wpList_store_mid rfl 30 (.tmp 37) (.tmp 36) rfl C1 7 #[.int .u64 c.s0, .int .u64 c.s1] rfl rfl HT.out (by kernel_rfl) (by simp [Value.oneCell']) ?_; rw [← hw5]; clear hw5 ew5 HT)
      have q3 : (39 : Int) ≤ (s.size : Int) := by omega
      have q4 : 39 ≤ s.size := hsz
      have hS : w5.drew.cell? ⟨C1, 0, none⟩ = some (.int .i64 c.sec) ∧ w5.drew.cell? ⟨C1, 1, none⟩ = some (.int .i64 c.secs) ∧ w5.drew.cell? ⟨C1, 2, none⟩ = some (.int .i64 c.tb) ∧ w5.drew.cell? ⟨C1, 3, none⟩ = some (.int .i64 c.bt) ∧ w5.drew.cell? ⟨C1, 4, none⟩ = some (.int .i64 c.sc) ∧ w5.drew.cell? ⟨C1, 5, none⟩ = some (.int .u64 c.h0) ∧ w5.drew.cell? ⟨C1, 6, none⟩ = some (.int .u64 c.h1) ∧ w5.drew.cell? ⟨C1, 7, none⟩ = some (.int .u64 c.s0) ∧ w5.drew.cell? ⟨C1, 8, none⟩ = some (.int .u64 c.s1) := ⟨Kq.blk_cell H5.out.1 0, Kq.blk_cell H5.out.1 1, Kq.blk_cell H5.out.1 2, Kq.blk_cell H5.out.1 3, Kq.blk_cell H5.out.1 4, Kq.blk_cell H5.out.1 5, Kq.blk_cell H5.out.1 6, Kq.blk_cell H5.out.1 7, Kq.blk_cell H5.out.1 8⟩
      refine wp_region_held_drew (S := fun cur => cur.cell? ⟨C1, 0, none⟩ = some (.int .i64 c.sec) ∧ cur.cell? ⟨C1, 1, none⟩ = some (.int .i64 c.secs) ∧ cur.cell? ⟨C1, 2, none⟩ = some (.int .i64 c.tb) ∧ cur.cell? ⟨C1, 3, none⟩ = some (.int .i64 c.bt) ∧ cur.cell? ⟨C1, 4, none⟩ = some (.int .i64 c.sc) ∧ cur.cell? ⟨C1, 5, none⟩ = some (.int .u64 c.h0) ∧ cur.cell? ⟨C1, 6, none⟩ = some (.int .u64 c.h1) ∧ cur.cell? ⟨C1, 7, none⟩ = some (.int .u64 c.s0) ∧ cur.cell? ⟨C1, 8, none⟩ = some (.int .u64 c.s1)) (by kernel_rfl) hS (fun hS0 => ?_)
      obtain ⟨we, hwe⟩ : ∃ z, z = w5.drew := ⟨_, rfl⟩
      have HE5 : Hid (we.heap[C0]? = some (.cells CoV.zero.cells 32 (0, 0)) ∧ Below w.heap.size w we) := Lib.hid (by rw [hwe]; exact ⟨H5.out.2.1, H5.out.2.2.drew⟩)
      rw [← hwe] at hS0 ⊢
      clear hwe hS
      refine wpAnyH_take (i := 0) (v := ?_) rfl (by kernel_rfl) (by kernel_rfl) (by kernel_rfl) (fun _ _ _ h => h) (Or.inl ⟨by kernel_rfl, ?_⟩) (by assumption) ?_
      rotate_left
      · intro w hSw; (try dsimp only at hSw); go_simp; (try with_reducible rfl)
      refine wpAnyH_take (i := 1) (v := ?_) rfl (by kernel_rfl) (by kernel_rfl) (by kernel_rfl) (fun _ _ _ h => h) (Or.inl ⟨by kernel_rfl, ?_⟩) (by assumption) ?_
      rotate_left
      · intro w hSw; (try dsimp only at hSw); go_simp; (try with_reducible rfl)
      refine wpAnyH_take (i := 2) (v := ?_) rfl (by kernel_rfl) (by kernel_rfl) (by kernel_rfl) (fun _ _ _ h => h) (Or.inl ⟨by kernel_rfl, ?_⟩) (by assumption) ?_
      rotate_left
      · intro w hSw; (try dsimp only at hSw); go_simp; (try with_reducible rfl)
      refine wpAnyH_ready (rs := [3]) (by kernel_rfl) (by simp) ?_
      refine AllReadyH.cons rfl (fun K hK => ?_) AllReadyH.nil
      rw [if_pos (by kernel_rfl)]
      refine wp_store_row 32 (.tmp 2) (.tmp 38) (by rfl) C0 #[.int .i64 c.sec, .int .i64 c.secs, .int .i64 c.tb, .int .i64 c.bt, .int .i64 c.sc, .int .u64 c.h0, .int .u64 c.h1, .int .u64 c.s0, .int .u64 c.s1] (by rfl) (by rfl) 32 _ HE5.out.1 (by kernel_rfl) (by rfl) (cg_one c) ?_
      obtain ⟨wz, hwz⟩ : ∃ z, z = we.setRow C0 #[.int .i64 c.sec, .int .i64 c.secs, .int .i64 c.tb, .int .i64 c.bt, .int .i64 c.sc, .int .u64 c.h0, .int .u64 c.h1, .int .u64 c.s0, .int .u64 c.s1] := ⟨_, rfl⟩
      rw [← hwz]
      have HZ : Hid (wz.heap[C0]? = some (.cells c.cells 32 (0, 0)) ∧ Below w.heap.size w wz) := Lib.hid (by
        have ks : Kq.Keeps (· = C0) we wz := by rw [hwz]; exact ⟨rfl, rfl, rfl, by simp, fun k _ hk => setRow_other _ _ k _ hk⟩
        exact ⟨by rw [hwz]; exact setRow_heap _ _ _ _ _ _ HE5.out.1, ((keeps_any (S := (· = C0)) HE5.out.2).trans ks).below (Nat.le_refl _) (fun k hk h => by have := HA.out.2.2; omega)⟩)
      have hSz : wz.cell? ⟨C1, 0, none⟩ = some (.int .i64 c.sec) ∧ wz.cell? ⟨C1, 1, none⟩ = some (.int .i64 c.secs) ∧ wz.cell? ⟨C1, 2, none⟩ = some (.int .i64 c.tb) ∧ wz.cell? ⟨C1, 3, none⟩ = some (.int .i64 c.bt) ∧ wz.cell? ⟨C1, 4, none⟩ = some (.int .i64 c.sc) ∧ wz.cell? ⟨C1, 5, none⟩ = some (.int .u64 c.h0) ∧ wz.cell? ⟨C1, 6, none⟩ = some (.int .u64 c.h1) ∧ wz.cell? ⟨C1, 7, none⟩ = some (.int .u64 c.s0) ∧ wz.cell? ⟨C1, 8, none⟩ = some (.int .u64 c.s1) := by
        have hn := H3.out.2.2.2.1
        have hc : ∀ i, wz.cell? ⟨C1, i, none⟩ = we.cell? ⟨C1, i, none⟩ := fun i => by rw [hwz]; exact cell_setRow_other _ _ _ _ (fun e => hn e.symm)
        obtain ⟨s0, s1, s2, s3, s4, s5, s6, s7, s8⟩ := hS0
        exact ⟨(hc 0).trans s0, (hc 1).trans s1, (hc 2).trans s2, (hc 3).trans s3, (hc 4).trans s4, (hc 5).trans s5, (hc 6).trans s6, (hc 7).trans s7, (hc 8).trans s8⟩
      clear hwz hS0
      refine hK.out _ _ hSz (fun hS0 => ?_)
      clear hK K hSz
      refine wpAnyH_take (i := 4) (v := ?_) rfl (by kernel_rfl) (by kernel_rfl) (by kernel_rfl) (fun _ _ _ h => h) (Or.inl ⟨by kernel_rfl, ?_⟩) (by assumption) ?_
      rotate_left
      · intro w hSw; (try dsimp only at hSw); go_simp; (try with_reducible rfl)
      refine wpAnyH_take (i := 5) (v := ?_) rfl (by kernel_rfl) (by kernel_rfl) (by kernel_rfl) (fun _ _ _ h => h) (Or.inl ⟨by kernel_rfl, ?_⟩) (by assumption) ?_
      rotate_left
      · intro w hSw; (try dsimp only at hSw); go_simp; (try with_reducible rfl)
      clear hS0
      refine wpAnyH_done (by kernel_rfl) ?_ _
      go_wp2
      have z0 := Kq.blk_cell HZ.out.1 0
      have z1 := Kq.blk_cell HZ.out.1 1
      have z2 := Kq.blk_cell HZ.out.1 2
      have z3 := Kq.blk_cell HZ.out.1 3
      have z4 := Kq.blk_cell HZ.out.1 4
      have z5 := Kq.blk_cell HZ.out.1 5
      have z6 := Kq.blk_cell HZ.out.1 6
      have z7 := Kq.blk_cell HZ.out.1 7
      have z8 := Kq.blk_cell HZ.out.1 8
      refine bodyPost_ret (v := .tuple #[.agg c.cells, .string (s.extract 39 s.size), .int .i64 0]) (by simp [results, Try.results15, go_sem, z0, z1, z2, z3, z4, z5, z6, z7, z8, CoV.cells]) rfl ?_
      rw [HC.out]
      exact ⟨HZ.out.2, fun _ => rfl, fun h => absurd rfl h⟩
end Go.Proofs.Ytjilbcefikbihaa
