/- carrackref23's PutConfig. Condition: its numbers are numbers. -/
import Derived.WalkSpells
import Derived.Outline
import Derived.Deep.RegionHeld
import Derived.Test.YtjilbcefikbihaaHeldLastQ
import Derived.Test.YtjilbcefikbihaaScCfgQ
import Derived.Test.YtjilbcefikbihaaScRbQ
namespace Go.Proofs.Ytjilbcefikbihaa
open Go.RowKit
set_option linter.unusedVariables false
set_option linter.unusedSimpArgs false
set_option maxRecDepth 100000 in
set_option maxHeartbeats 4000000 in
theorem rp_config (c : CoV) (hwf : c.wf) (w : World) :
    Calls Try.prog 11 #[.agg #[.int .i64 c.sec, .int .i64 c.secs, .int .i64 c.tb, .int .i64 c.bt, .int .i64 c.sc, .int .u64 c.h0, .int .u64 c.h1, .int .u64 c.s0, .int .u64 c.s1]] w fun x w' => Below w.heap.size w w' ∧ (c.ok → x = .returned (.tuple #[.string (txt c.enc), .int .i64 0])) ∧ (¬ c.ok → x = .returned (.tuple #[.string ⟨#[]⟩, .int .i64 1])) := by
  obtain ⟨C, hC⟩ : ∃ z, z = w.heap.size := ⟨_, rfl⟩
  obtain ⟨w1, hw1⟩ : ∃ z, z = w.alloc (.cells #[.int .i64 c.sec, .int .i64 c.secs, .int .i64 c.tb, .int .i64 c.bt, .int .i64 c.sc, .int .u64 c.h0, .int .u64 c.h1, .int .u64 c.s0, .int .u64 c.s1] 32) := ⟨_, rfl⟩
  have H1 : Hid (Below w.heap.size w w1 ∧ w.heap.size ≤ w1.heap.size) := Lib.hid (by
    have ba := Kq.below_alloc w (.cells #[.int .i64 c.sec, .int .i64 c.secs, .int .i64 c.tb, .int .i64 c.bt, .int .i64 c.sc, .int .u64 c.h0, .int .u64 c.h1, .int .u64 c.s0, .int .u64 c.s1] 32)
    rw [← hw1] at ba
    exact ⟨ba, ba.size⟩)
  have hb : w1.heap[C]? = some (.cells #[.int .i64 c.sec, .int .i64 c.secs, .int .i64 c.tb, .int .i64 c.bt, .int .i64 c.sc, .int .u64 c.h0, .int .u64 c.h1, .int .u64 c.s0, .int .u64 c.s1] 32 (0, 0)) := by
    rw [hw1, hC]; exact Kq.blk_new _ _ _ _
  have HC : Hid (C < w1.heap.size) := Lib.hid (Kq.blk_lt hb)
  have HWF := Lib.hid hwf
  clear hwf
  go_enter Try.func11, Try.ntmps11
  have d0 : w1.cell? ⟨C, 0, none⟩ = some (.int .i64 c.sec) := Kq.blk_cell hb 0
  have d1 : w1.cell? ⟨C, 1, none⟩ = some (.int .i64 c.secs) := Kq.blk_cell hb 1
  have d2 : w1.cell? ⟨C, 2, none⟩ = some (.int .i64 c.tb) := Kq.blk_cell hb 2
  have d3 : w1.cell? ⟨C, 3, none⟩ = some (.int .i64 c.bt) := Kq.blk_cell hb 3
  have d4 : w1.cell? ⟨C, 4, none⟩ = some (.int .i64 c.sc) := Kq.blk_cell hb 4
  have d5 : w1.cell? ⟨C, 5, none⟩ = some (.int .u64 c.h0) := Kq.blk_cell hb 5
  have d6 : w1.cell? ⟨C, 6, none⟩ = some (.int .u64 c.h1) := Kq.blk_cell hb 6
  have d7 : w1.cell? ⟨C, 7, none⟩ = some (.int .u64 c.s0) := Kq.blk_cell hb 7
  have d8 : w1.cell? ⟨C, 8, none⟩ = some (.int .u64 c.s1) := Kq.blk_cell hb 8
  clear hb
  have D0 := d2
  rw [hw1, hC] at D0
  go_wp2_with fail
  rw [← hw1, ← hC]
  clear hw1 hC D0
  refine (rf_fits c.tb w1).mono ?_
  rintro x w2 ⟨rfl, rfl⟩
  by_cases h0 : 0 ≤ c.tb ∧ c.tb ≤ 255
  case neg =>
    have HN : Hid (¬ c.ok) := Lib.hid (fun h => h0 (by unfold CoV.ok at h; omega))
    rw [decide_eq_false h0]
    clear h0 d0 d1 d2 d3 d4 d5 d6 d7 d8
    go_wp2
    go_ret2
    exact ⟨H1.out.1, fun h => absurd h HN.out, fun _ => rfl⟩
  rw [decide_eq_true h0]
  go_wp2_with fail
  refine (rf_fits c.bt w1).mono ?_
  rintro x w2 ⟨rfl, rfl⟩
  by_cases h1 : 0 ≤ c.bt ∧ c.bt ≤ 255
  case neg =>
    have HN : Hid (¬ c.ok) := Lib.hid (fun h => h1 (by unfold CoV.ok at h; omega))
    rw [decide_eq_false h1]
    clear h1 d0 d1 d2 d3 d4 d5 d6 d7 d8
    go_wp2
    go_ret2
    exact ⟨H1.out.1, fun h => absurd h HN.out, fun _ => rfl⟩
  rw [decide_eq_true h1]
  go_wp2_with fail
  refine (rf_fits c.sc w1).mono ?_
  rintro x w2 ⟨rfl, rfl⟩
  by_cases h2 : 0 ≤ c.sc ∧ c.sc ≤ 255
  case neg =>
    have HN : Hid (¬ c.ok) := Lib.hid (fun h => h2 (by unfold CoV.ok at h; omega))
    rw [decide_eq_false h2]
    clear h2 d0 d1 d2 d3 d4 d5 d6 d7 d8
    go_wp2
    go_ret2
    exact ⟨H1.out.1, fun h => absurd h HN.out, fun _ => rfl⟩
  rw [decide_eq_true h2]
  go_wp2_with fail
  refine (rf_fits2 c.sec w1).mono ?_
  rintro x w2 ⟨rfl, rfl⟩
  by_cases h3 : 0 ≤ c.sec ∧ c.sec ≤ 65535
  case neg =>
    have HN : Hid (¬ c.ok) := Lib.hid (fun h => h3 (by unfold CoV.ok at h; omega))
    rw [decide_eq_false h3]
    clear h3 d0 d1 d2 d3 d4 d5 d6 d7 d8
    go_wp2
    go_ret2
    exact ⟨H1.out.1, fun h => absurd h HN.out, fun _ => rfl⟩
  rw [decide_eq_true h3]
  go_wp2_with fail
  refine (rf_fits2 c.secs w1).mono ?_
  rintro x w2 ⟨rfl, rfl⟩
  by_cases h4 : 0 ≤ c.secs ∧ c.secs ≤ 65535
  case neg =>
    have HN : Hid (¬ c.ok) := Lib.hid (fun h => h4 (by unfold CoV.ok at h; omega))
    rw [decide_eq_false h4]
    clear h4 d0 d1 d2 d3 d4 d5 d6 d7 d8
    go_wp2
    go_ret2
    exact ⟨H1.out.1, fun h => absurd h HN.out, fun _ => rfl⟩
  rw [decide_eq_true h4]
  go_wp2
  have HOK : Hid c.ok := Lib.hid (by unfold CoV.ok; omega)
  clear h0 h1 h2 h3 h4
  have hS : w1.drew.cell? ⟨C, 0, none⟩ = some (.int .i64 c.sec) ∧ w1.drew.cell? ⟨C, 1, none⟩ = some (.int .i64 c.secs) ∧ w1.drew.cell? ⟨C, 2, none⟩ = some (.int .i64 c.tb) ∧ w1.drew.cell? ⟨C, 3, none⟩ = some (.int .i64 c.bt) ∧ w1.drew.cell? ⟨C, 4, none⟩ = some (.int .i64 c.sc) ∧ w1.drew.cell? ⟨C, 5, none⟩ = some (.int .u64 c.h0) ∧ w1.drew.cell? ⟨C, 6, none⟩ = some (.int .u64 c.h1) ∧ w1.drew.cell? ⟨C, 7, none⟩ = some (.int .u64 c.s0) ∧ w1.drew.cell? ⟨C, 8, none⟩ = some (.int .u64 c.s1) := ⟨d0, d1, d2, d3, d4, d5, d6, d7, d8⟩
  clear d0 d1 d2 d3 d4 d5 d6 d7 d8
  refine wp_region_held_drew (S := fun cur => cur.cell? ⟨C, 0, none⟩ = some (.int .i64 c.sec) ∧ cur.cell? ⟨C, 1, none⟩ = some (.int .i64 c.secs) ∧ cur.cell? ⟨C, 2, none⟩ = some (.int .i64 c.tb) ∧ cur.cell? ⟨C, 3, none⟩ = some (.int .i64 c.bt) ∧ cur.cell? ⟨C, 4, none⟩ = some (.int .i64 c.sc) ∧ cur.cell? ⟨C, 5, none⟩ = some (.int .u64 c.h0) ∧ cur.cell? ⟨C, 6, none⟩ = some (.int .u64 c.h1) ∧ cur.cell? ⟨C, 7, none⟩ = some (.int .u64 c.s0) ∧ cur.cell? ⟨C, 8, none⟩ = some (.int .u64 c.s1)) (by kernel_rfl) hS (fun hS0 => ?_)
  obtain ⟨v0, hv0⟩ : ∃ z, z = w1.drew := ⟨_, rfl⟩
  have HDv0 : Hid (Below w1.heap.size w1 v0) := Lib.hid (by rw [hv0]; exact (Below.refl _ _).drew)
  rw [← hv0] at hS0 ⊢
  clear hv0 hS
  obtain ⟨T0, hT0⟩ : ∃ z, z = txt (be (u64 c.tb) 1) := ⟨_, rfl⟩
  have hz0 : T0.size = 1 := by rw [hT0, txt_size, be_len]
  obtain ⟨T1, hT1⟩ : ∃ z, z = txt (be (u64 c.bt) 1) := ⟨_, rfl⟩
  have hz1 : T1.size = 1 := by rw [hT1, txt_size, be_len]
  obtain ⟨T2, hT2⟩ : ∃ z, z = txt (be (u64 c.sc) 1) := ⟨_, rfl⟩
  have hz2 : T2.size = 1 := by rw [hT2, txt_size, be_len]
  obtain ⟨T3, hT3⟩ : ∃ z, z = txt (be (u64 c.sec) 2) := ⟨_, rfl⟩
  have hz3 : T3.size = 2 := by rw [hT3, txt_size, be_len]
  obtain ⟨T4, hT4⟩ : ∃ z, z = txt (be (u64 c.secs) 2) := ⟨_, rfl⟩
  have hz4 : T4.size = 2 := by rw [hT4, txt_size, be_len]
  obtain ⟨T5, hT5⟩ : ∃ z, z = txt (num8 c.h0.toNat) := ⟨_, rfl⟩
  have hz5 : T5.size = 8 := by rw [hT5, txt_size]; rfl
  obtain ⟨T6, hT6⟩ : ∃ z, z = txt (num8 c.h1.toNat) := ⟨_, rfl⟩
  have hz6 : T6.size = 8 := by rw [hT6, txt_size]; rfl
  obtain ⟨T7, hT7⟩ : ∃ z, z = txt (num8 c.s0.toNat) := ⟨_, rfl⟩
  have hz7 : T7.size = 8 := by rw [hT7, txt_size]; rfl
  obtain ⟨T8, hT8⟩ : ∃ z, z = txt (num8 c.s1.toNat) := ⟨_, rfl⟩
  have hz8 : T8.size = 8 := by rw [hT8, txt_size]; rfl
  have g1 : ¬ 9223372036854775807 < T0.size + T1.size := by omega
  have g2 : ¬ 9223372036854775807 < T0.size + T1.size + T2.size := by omega
  have g3 : ¬ 9223372036854775807 < T0.size + T1.size + T2.size + T3.size := by omega
  have g4 : ¬ 9223372036854775807 < T0.size + T1.size + T2.size + T3.size + T4.size := by omega
  have g5 : ¬ 9223372036854775807 < T0.size + T1.size + T2.size + T3.size + T4.size + T5.size := by omega
  have g6 : ¬ 9223372036854775807 < T0.size + T1.size + T2.size + T3.size + T4.size + T5.size + T6.size := by omega
  have g7 : ¬ 9223372036854775807 < T0.size + T1.size + T2.size + T3.size + T4.size + T5.size + T6.size + T7.size := by omega
  have g8 : ¬ 9223372036854775807 < T0.size + T1.size + T2.size + T3.size + T4.size + T5.size + T6.size + T7.size + T8.size := by omega
  have g2' : ¬ 9223372036854775807 < (T0 ++ T1).size + T2.size := by simp only [ByteArray.size_append]; omega
  have g3' : ¬ 9223372036854775807 < (T0 ++ T1 ++ T2).size + T3.size := by simp only [ByteArray.size_append]; omega
  have g4' : ¬ 9223372036854775807 < (T0 ++ T1 ++ T2 ++ T3).size + T4.size := by simp only [ByteArray.size_append]; omega
  have g5' : ¬ 9223372036854775807 < (T0 ++ T1 ++ T2 ++ T3 ++ T4).size + T5.size := by simp only [ByteArray.size_append]; omega
  have g6' : ¬ 9223372036854775807 < (T0 ++ T1 ++ T2 ++ T3 ++ T4 ++ T5).size + T6.size := by simp only [ByteArray.size_append]; omega
  have g7' : ¬ 9223372036854775807 < (T0 ++ T1 ++ T2 ++ T3 ++ T4 ++ T5 ++ T6).size + T7.size := by simp only [ByteArray.size_append]; omega
  have g8' : ¬ 9223372036854775807 < (T0 ++ T1 ++ T2 ++ T3 ++ T4 ++ T5 ++ T6 ++ T7).size + T8.size := by simp only [ByteArray.size_append]; omega
  have HN0 : Hid (∀ wz, Calls Try.prog 24 #[.int .i64 c.tb, .int .i64 1] wz fun x w' => x = .returned (.string T0) ∧ Below wz.heap.size wz w') := Lib.hid (fun wz => by rw [hT0]; exact rf_num c.tb 1 (by decide) wz)
  have HN1 : Hid (∀ wz, Calls Try.prog 24 #[.int .i64 c.bt, .int .i64 1] wz fun x w' => x = .returned (.string T1) ∧ Below wz.heap.size wz w') := Lib.hid (fun wz => by rw [hT1]; exact rf_num c.bt 1 (by decide) wz)
  have HN2 : Hid (∀ wz, Calls Try.prog 24 #[.int .i64 c.sc, .int .i64 1] wz fun x w' => x = .returned (.string T2) ∧ Below wz.heap.size wz w') := Lib.hid (fun wz => by rw [hT2]; exact rf_num c.sc 1 (by decide) wz)
  have HN3 : Hid (∀ wz, Calls Try.prog 24 #[.int .i64 c.sec, .int .i64 2] wz fun x w' => x = .returned (.string T3) ∧ Below wz.heap.size wz w') := Lib.hid (fun wz => by rw [hT3]; exact rf_num c.sec 2 (by decide) wz)
  have HN4 : Hid (∀ wz, Calls Try.prog 24 #[.int .i64 c.secs, .int .i64 2] wz fun x w' => x = .returned (.string T4) ∧ Below wz.heap.size wz w') := Lib.hid (fun wz => by rw [hT4]; exact rf_num c.secs 2 (by decide) wz)
  have HN5 : Hid (∀ wz, Calls Try.prog 26 #[.int .u64 c.h0, .int .i64 8] wz fun x w' => x = .returned (.string T5) ∧ Below wz.heap.size wz w') := Lib.hid (fun wz => by
    have q := HWF.out.1
    have h := ref_num c.h0.toNat 8 wz (by unfold M64; omega) (by decide)
    rw [show ((c.h0.toNat : Nat) : Int) = c.h0 by omega, be8, ← hT5] at h
    exact h)
  have HN6 : Hid (∀ wz, Calls Try.prog 26 #[.int .u64 c.h1, .int .i64 8] wz fun x w' => x = .returned (.string T6) ∧ Below wz.heap.size wz w') := Lib.hid (fun wz => by
    have q := HWF.out.2.1
    have h := ref_num c.h1.toNat 8 wz (by unfold M64; omega) (by decide)
    rw [show ((c.h1.toNat : Nat) : Int) = c.h1 by omega, be8, ← hT6] at h
    exact h)
  have HN7 : Hid (∀ wz, Calls Try.prog 26 #[.int .u64 c.s0, .int .i64 8] wz fun x w' => x = .returned (.string T7) ∧ Below wz.heap.size wz w') := Lib.hid (fun wz => by
    have q := HWF.out.2.2.1
    have h := ref_num c.s0.toNat 8 wz (by unfold M64; omega) (by decide)
    rw [show ((c.s0.toNat : Nat) : Int) = c.s0 by omega, be8, ← hT7] at h
    exact h)
  have HN8 : Hid (∀ wz, Calls Try.prog 26 #[.int .u64 c.s1, .int .i64 8] wz fun x w' => x = .returned (.string T8) ∧ Below wz.heap.size wz w') := Lib.hid (fun wz => by
    have q := HWF.out.2.2.2
    have h := ref_num c.s1.toNat 8 wz (by unfold M64; omega) (by decide)
    rw [show ((c.s1.toNat : Nat) : Int) = c.s1 by omega, be8, ← hT8] at h
    exact h)
  have HALL : Hid (T0 ++ T1 ++ T2 ++ T3 ++ T4 ++ T5 ++ T6 ++ T7 ++ T8 = txt c.enc) := Lib.hid (by
    have hok := HOK.out
    unfold CoV.ok at hok
    have e0 : be (u64 c.tb) 1 = [c.tb.toNat] := by rw [be1_u64]; congr 1; omega
    have e1 : be (u64 c.bt) 1 = [c.bt.toNat] := by rw [be1_u64]; congr 1; omega
    have e2 : be (u64 c.sc) 1 = [c.sc.toNat] := by rw [be1_u64]; congr 1; omega
    have e3 : be (u64 c.sec) 2 = hi2 c.sec.toNat := by rw [u64_small _ (by omega)]; exact be2 _ (by omega)
    have e4 : be (u64 c.secs) 2 = hi2 c.secs.toNat := by rw [u64_small _ (by omega)]; exact be2 _ (by omega)
    have b0 : b256 [c.tb.toNat] := fun y hy => by have := List.mem_singleton.1 hy; omega
    have b1 : b256 [c.bt.toNat] := fun y hy => by have := List.mem_singleton.1 hy; omega
    have b2 : b256 [c.sc.toNat] := fun y hy => by have := List.mem_singleton.1 hy; omega
    have b3 : b256 (hi2 c.sec.toNat) := hi2_lt _ (by omega)
    have b4 : b256 (hi2 c.secs.toNat) := hi2_lt _ (by omega)
    have b5 : b256 (num8 c.h0.toNat) := b256_num8 _
    have b6 : b256 (num8 c.h1.toNat) := b256_num8 _
    have b7 : b256 (num8 c.s0.toNat) := b256_num8 _
    have b8 : b256 (num8 c.s1.toNat) := b256_num8 _
    have p1 := b0.app b1
    have p2 := p1.app b2
    have p3 := p2.app b3
    have p4 := p3.app b4
    have p5 := p4.app b5
    have p6 := p5.app b6
    have p7 := p6.app b7
    rw [hT0, hT1, hT2, hT3, hT4, hT5, hT6, hT7, hT8, e0, e1, e2, e3, e4, txt_appS _ _ b0 b1, txt_appS _ _ p1 b2, txt_appS _ _ p2 b3, txt_appS _ _ p3 b4, txt_appS _ _ p4 b5, txt_appS _ _ p5 b6, txt_appS _ _ p6 b7, txt_appS _ _ p7 b8]
    unfold CoV.enc CoV.pre
    simp only [num2, List.append_assoc])
  clear hT0 hz0 hT1 hz1 hT2 hz2 hT3 hz3 hT4 hz4 hT5 hz5 hT6 hz6 hT7 hz7 hT8 hz8
  refine wpAnyH_take (i := 0) (v := ?_) rfl (by kernel_rfl) (by kernel_rfl) (by kernel_rfl) (fun _ _ _ h => h) (Or.inl ⟨by kernel_rfl, ?_⟩) (by assumption) ?_
  rotate_left
  · intro w hSw; (try dsimp only at hSw); go_simp; (try with_reducible rfl)
  refine wpAnyH_take (i := 1) (v := ?_) rfl (by kernel_rfl) (by kernel_rfl) (by kernel_rfl) (fun _ _ _ h => h) (Or.inl ⟨by kernel_rfl, ?_⟩) (by assumption) ?_
  rotate_left
  · intro w hSw; (try dsimp only at hSw); go_simp; (try with_reducible rfl)
  refine wpAnyH_take (i := 3) (v := ?_) rfl (by kernel_rfl) (by kernel_rfl) (by kernel_rfl) (fun _ _ _ h => h) (Or.inl ⟨by kernel_rfl, ?_⟩) (by assumption) ?_
  rotate_left
  · intro w hSw; (try dsimp only at hSw); go_simp; (try with_reducible rfl)
  refine wpAnyH_take (i := 4) (v := ?_) rfl (by kernel_rfl) (by kernel_rfl) (by kernel_rfl) (fun _ _ _ h => h) (Or.inl ⟨by kernel_rfl, ?_⟩) (by assumption) ?_
  rotate_left
  · intro w hSw; (try dsimp only at hSw); go_simp; (try with_reducible rfl)
  refine wpAnyH_take (i := 7) (v := ?_) rfl (by kernel_rfl) (by kernel_rfl) (by kernel_rfl) (fun _ _ _ h => h) (Or.inl ⟨by kernel_rfl, ?_⟩) (by assumption) ?_
  rotate_left
  · intro w hSw; (try dsimp only at hSw); go_simp; (try with_reducible rfl)
  refine wpAnyH_take (i := 8) (v := ?_) rfl (by kernel_rfl) (by kernel_rfl) (by kernel_rfl) (fun _ _ _ h => h) (Or.inl ⟨by kernel_rfl, ?_⟩) (by assumption) ?_
  rotate_left
  · intro w hSw; (try dsimp only at hSw); go_simp; (try with_reducible rfl)
  refine wpAnyH_take (i := 11) (v := ?_) rfl (by kernel_rfl) (by kernel_rfl) (by kernel_rfl) (fun _ _ _ h => h) (Or.inl ⟨by kernel_rfl, ?_⟩) (by assumption) ?_
  rotate_left
  · intro w hSw; (try dsimp only at hSw); go_simp; (try with_reducible rfl)
  refine wpAnyH_take (i := 12) (v := ?_) rfl (by kernel_rfl) (by kernel_rfl) (by kernel_rfl) (fun _ _ _ h => h) (Or.inl ⟨by kernel_rfl, ?_⟩) (by assumption) ?_
  rotate_left
  · intro w hSw; (try dsimp only at hSw); go_simp; (try with_reducible rfl)
  refine wpAnyH_take (i := 15) (v := ?_) rfl (by kernel_rfl) (by kernel_rfl) (by kernel_rfl) (fun _ _ _ h => h) (Or.inl ⟨by kernel_rfl, ?_⟩) (by assumption) ?_
  rotate_left
  · intro w hSw; (try dsimp only at hSw); go_simp; (try with_reducible rfl)
  refine wpAnyH_take (i := 16) (v := ?_) rfl (by kernel_rfl) (by kernel_rfl) (by kernel_rfl) (fun _ _ _ h => h) (Or.inl ⟨by kernel_rfl, ?_⟩) (by assumption) ?_
  rotate_left
  · intro w hSw; (try dsimp only at hSw); go_simp; (try with_reducible rfl)
  refine wpAnyH_take (i := 19) (v := ?_) rfl (by kernel_rfl) (by kernel_rfl) (by kernel_rfl) (fun _ _ _ h => h) (Or.inl ⟨by kernel_rfl, ?_⟩) (by assumption) ?_
  rotate_left
  · intro w hSw; (try dsimp only at hSw); go_simp; (try with_reducible rfl)
  refine wpAnyH_take (i := 20) (v := ?_) rfl (by kernel_rfl) (by kernel_rfl) (by kernel_rfl) (fun _ _ _ h => h) (Or.inl ⟨by kernel_rfl, ?_⟩) (by assumption) ?_
  rotate_left
  · intro w hSw; (try dsimp only at hSw); go_simp; (try with_reducible rfl)
  refine wpAnyH_take (i := 21) (v := ?_) rfl (by kernel_rfl) (by kernel_rfl) (by kernel_rfl) (fun _ _ _ h => h) (Or.inl ⟨by kernel_rfl, ?_⟩) (by assumption) ?_
  rotate_left
  · intro w hSw; (try dsimp only at hSw); go_simp; (try with_reducible rfl)
  refine wpAnyH_take (i := 24) (v := ?_) rfl (by kernel_rfl) (by kernel_rfl) (by kernel_rfl) (fun _ _ _ h => h) (Or.inl ⟨by kernel_rfl, ?_⟩) (by assumption) ?_
  rotate_left
  · intro w hSw; (try dsimp only at hSw); go_simp; (try with_reducible rfl)
  refine wpAnyH_take (i := 25) (v := ?_) rfl (by kernel_rfl) (by kernel_rfl) (by kernel_rfl) (fun _ _ _ h => h) (Or.inl ⟨by kernel_rfl, ?_⟩) (by assumption) ?_
  rotate_left
  · intro w hSw; (try dsimp only at hSw); go_simp; (try with_reducible rfl)
  refine wpAnyH_take (i := 26) (v := ?_) rfl (by kernel_rfl) (by kernel_rfl) (by kernel_rfl) (fun _ _ _ h => h) (Or.inl ⟨by kernel_rfl, ?_⟩) (by assumption) ?_
  rotate_left
  · intro w hSw; (try dsimp only at hSw); go_simp; (try with_reducible rfl)
  refine wpAnyH_take (i := 29) (v := ?_) rfl (by kernel_rfl) (by kernel_rfl) (by kernel_rfl) (fun _ _ _ h => h) (Or.inl ⟨by kernel_rfl, ?_⟩) (by assumption) ?_
  rotate_left
  · intro w hSw; (try dsimp only at hSw); go_simp; (try with_reducible rfl)
  refine wpAnyH_take (i := 30) (v := ?_) rfl (by kernel_rfl) (by kernel_rfl) (by kernel_rfl) (fun _ _ _ h => h) (Or.inl ⟨by kernel_rfl, ?_⟩) (by assumption) ?_
  rotate_left
  · intro w hSw; (try dsimp only at hSw); go_simp; (try with_reducible rfl)
  refine wpAnyH_take (i := 31) (v := ?_) rfl (by kernel_rfl) (by kernel_rfl) (by kernel_rfl) (fun _ _ _ h => h) (Or.inl ⟨by kernel_rfl, ?_⟩) (by assumption) ?_
  rotate_left
  · intro w hSw; (try dsimp only at hSw); go_simp; (try with_reducible rfl)
  refine wpAnyH_take (i := 34) (v := ?_) rfl (by kernel_rfl) (by kernel_rfl) (by kernel_rfl) (fun _ _ _ h => h) (Or.inl ⟨by kernel_rfl, ?_⟩) (by assumption) ?_
  rotate_left
  · intro w hSw; (try dsimp only at hSw); go_simp; (try with_reducible rfl)
  refine wpAnyH_take (i := 35) (v := ?_) rfl (by kernel_rfl) (by kernel_rfl) (by kernel_rfl) (fun _ _ _ h => h) (Or.inl ⟨by kernel_rfl, ?_⟩) (by assumption) ?_
  rotate_left
  · intro w hSw; (try dsimp only at hSw); go_simp; (try with_reducible rfl)
  refine wpAnyH_take (i := 36) (v := ?_) rfl (by kernel_rfl) (by kernel_rfl) (by kernel_rfl) (fun _ _ _ h => h) (Or.inl ⟨by kernel_rfl, ?_⟩) (by assumption) ?_
  rotate_left
  · intro w hSw; (try dsimp only at hSw); go_simp; (try with_reducible rfl)
  refine wpAnyH_ready (rs := [2]) (by kernel_rfl) (by simp) ?_
  refine AllReadyH.cons rfl (fun K hK => ?_) AllReadyH.nil
  go_simp
  refine (HN0.out v0).mono ?_
  rintro x v1 ⟨rfl, b2⟩
  have hS2 : v1.cell? ⟨C, 0, none⟩ = some (.int .i64 c.sec) ∧ v1.cell? ⟨C, 1, none⟩ = some (.int .i64 c.secs) ∧ v1.cell? ⟨C, 2, none⟩ = some (.int .i64 c.tb) ∧ v1.cell? ⟨C, 3, none⟩ = some (.int .i64 c.bt) ∧ v1.cell? ⟨C, 4, none⟩ = some (.int .i64 c.sc) ∧ v1.cell? ⟨C, 5, none⟩ = some (.int .u64 c.h0) ∧ v1.cell? ⟨C, 6, none⟩ = some (.int .u64 c.h1) ∧ v1.cell? ⟨C, 7, none⟩ = some (.int .u64 c.s0) ∧ v1.cell? ⟨C, 8, none⟩ = some (.int .u64 c.s1) := by
    obtain ⟨s0, s1, s2, s3, s4, s5, s6, s7, s8⟩ := hS0
    have hk : C < v0.heap.size := Nat.lt_of_lt_of_le HC.out HDv0.out.size
    exact ⟨(b2.cell (p := ⟨C, 0, none⟩) hk).trans s0, (b2.cell (p := ⟨C, 1, none⟩) hk).trans s1, (b2.cell (p := ⟨C, 2, none⟩) hk).trans s2, (b2.cell (p := ⟨C, 3, none⟩) hk).trans s3, (b2.cell (p := ⟨C, 4, none⟩) hk).trans s4, (b2.cell (p := ⟨C, 5, none⟩) hk).trans s5, (b2.cell (p := ⟨C, 6, none⟩) hk).trans s6, (b2.cell (p := ⟨C, 7, none⟩) hk).trans s7, (b2.cell (p := ⟨C, 8, none⟩) hk).trans s8⟩
  have HDv1 : Hid (Below w1.heap.size w1 v1) := Lib.hid (HDv0.out.trans (b2.mono HDv0.out.size))
  clear b2 hS0
  refine hK.out _ _ hS2 (fun hS0 => ?_)
  clear hK K hS2
  refine wpAnyH_ready (rs := [5]) (by kernel_rfl) (by simp) ?_
  refine AllReadyH.cons rfl (fun K hK => ?_) AllReadyH.nil
  go_simp
  refine (HN1.out v1).mono ?_
  rintro x v2 ⟨rfl, b2⟩
  have hS2 : v2.cell? ⟨C, 0, none⟩ = some (.int .i64 c.sec) ∧ v2.cell? ⟨C, 1, none⟩ = some (.int .i64 c.secs) ∧ v2.cell? ⟨C, 2, none⟩ = some (.int .i64 c.tb) ∧ v2.cell? ⟨C, 3, none⟩ = some (.int .i64 c.bt) ∧ v2.cell? ⟨C, 4, none⟩ = some (.int .i64 c.sc) ∧ v2.cell? ⟨C, 5, none⟩ = some (.int .u64 c.h0) ∧ v2.cell? ⟨C, 6, none⟩ = some (.int .u64 c.h1) ∧ v2.cell? ⟨C, 7, none⟩ = some (.int .u64 c.s0) ∧ v2.cell? ⟨C, 8, none⟩ = some (.int .u64 c.s1) := by
    obtain ⟨s0, s1, s2, s3, s4, s5, s6, s7, s8⟩ := hS0
    have hk : C < v1.heap.size := Nat.lt_of_lt_of_le HC.out HDv1.out.size
    exact ⟨(b2.cell (p := ⟨C, 0, none⟩) hk).trans s0, (b2.cell (p := ⟨C, 1, none⟩) hk).trans s1, (b2.cell (p := ⟨C, 2, none⟩) hk).trans s2, (b2.cell (p := ⟨C, 3, none⟩) hk).trans s3, (b2.cell (p := ⟨C, 4, none⟩) hk).trans s4, (b2.cell (p := ⟨C, 5, none⟩) hk).trans s5, (b2.cell (p := ⟨C, 6, none⟩) hk).trans s6, (b2.cell (p := ⟨C, 7, none⟩) hk).trans s7, (b2.cell (p := ⟨C, 8, none⟩) hk).trans s8⟩
  have HDv2 : Hid (Below w1.heap.size w1 v2) := Lib.hid (HDv1.out.trans (b2.mono HDv1.out.size))
  clear b2 hS0
  refine hK.out _ _ hS2 (fun hS0 => ?_)
  clear hK K hS2
  refine wpAnyH_take (i := 6) (v := ?_) rfl (by kernel_rfl) (by kernel_rfl) (by kernel_rfl) (fun _ _ _ h => h) (Or.inl ⟨by kernel_rfl, ?_⟩) (by assumption) ?_
  rotate_left
  · intro w hSw; (try dsimp only at hSw); go_simp; (try with_reducible rfl)
  refine wpAnyH_ready (rs := [9]) (by kernel_rfl) (by simp) ?_
  refine AllReadyH.cons rfl (fun K hK => ?_) AllReadyH.nil
  go_simp
  refine (HN2.out v2).mono ?_
  rintro x v3 ⟨rfl, b2⟩
  have hS2 : v3.cell? ⟨C, 0, none⟩ = some (.int .i64 c.sec) ∧ v3.cell? ⟨C, 1, none⟩ = some (.int .i64 c.secs) ∧ v3.cell? ⟨C, 2, none⟩ = some (.int .i64 c.tb) ∧ v3.cell? ⟨C, 3, none⟩ = some (.int .i64 c.bt) ∧ v3.cell? ⟨C, 4, none⟩ = some (.int .i64 c.sc) ∧ v3.cell? ⟨C, 5, none⟩ = some (.int .u64 c.h0) ∧ v3.cell? ⟨C, 6, none⟩ = some (.int .u64 c.h1) ∧ v3.cell? ⟨C, 7, none⟩ = some (.int .u64 c.s0) ∧ v3.cell? ⟨C, 8, none⟩ = some (.int .u64 c.s1) := by
    obtain ⟨s0, s1, s2, s3, s4, s5, s6, s7, s8⟩ := hS0
    have hk : C < v2.heap.size := Nat.lt_of_lt_of_le HC.out HDv2.out.size
    exact ⟨(b2.cell (p := ⟨C, 0, none⟩) hk).trans s0, (b2.cell (p := ⟨C, 1, none⟩) hk).trans s1, (b2.cell (p := ⟨C, 2, none⟩) hk).trans s2, (b2.cell (p := ⟨C, 3, none⟩) hk).trans s3, (b2.cell (p := ⟨C, 4, none⟩) hk).trans s4, (b2.cell (p := ⟨C, 5, none⟩) hk).trans s5, (b2.cell (p := ⟨C, 6, none⟩) hk).trans s6, (b2.cell (p := ⟨C, 7, none⟩) hk).trans s7, (b2.cell (p := ⟨C, 8, none⟩) hk).trans s8⟩
  have HDv3 : Hid (Below w1.heap.size w1 v3) := Lib.hid (HDv2.out.trans (b2.mono HDv2.out.size))
  clear b2 hS0
  refine hK.out _ _ hS2 (fun hS0 => ?_)
  clear hK K hS2
  refine wpAnyH_take (i := 10) (v := ?_) rfl (by kernel_rfl) (by kernel_rfl) (by kernel_rfl) (fun _ _ _ h => h) (Or.inl ⟨by kernel_rfl, ?_⟩) (by assumption) ?_
  rotate_left
  · intro w hSw; (try dsimp only at hSw); go_simp; (try with_reducible rfl)
  refine wpAnyH_ready (rs := [13]) (by kernel_rfl) (by simp) ?_
  refine AllReadyH.cons rfl (fun K hK => ?_) AllReadyH.nil
  go_simp
  refine (HN3.out v3).mono ?_
  rintro x v4 ⟨rfl, b2⟩
  have hS2 : v4.cell? ⟨C, 0, none⟩ = some (.int .i64 c.sec) ∧ v4.cell? ⟨C, 1, none⟩ = some (.int .i64 c.secs) ∧ v4.cell? ⟨C, 2, none⟩ = some (.int .i64 c.tb) ∧ v4.cell? ⟨C, 3, none⟩ = some (.int .i64 c.bt) ∧ v4.cell? ⟨C, 4, none⟩ = some (.int .i64 c.sc) ∧ v4.cell? ⟨C, 5, none⟩ = some (.int .u64 c.h0) ∧ v4.cell? ⟨C, 6, none⟩ = some (.int .u64 c.h1) ∧ v4.cell? ⟨C, 7, none⟩ = some (.int .u64 c.s0) ∧ v4.cell? ⟨C, 8, none⟩ = some (.int .u64 c.s1) := by
    obtain ⟨s0, s1, s2, s3, s4, s5, s6, s7, s8⟩ := hS0
    have hk : C < v3.heap.size := Nat.lt_of_lt_of_le HC.out HDv3.out.size
    exact ⟨(b2.cell (p := ⟨C, 0, none⟩) hk).trans s0, (b2.cell (p := ⟨C, 1, none⟩) hk).trans s1, (b2.cell (p := ⟨C, 2, none⟩) hk).trans s2, (b2.cell (p := ⟨C, 3, none⟩) hk).trans s3, (b2.cell (p := ⟨C, 4, none⟩) hk).trans s4, (b2.cell (p := ⟨C, 5, none⟩) hk).trans s5, (b2.cell (p := ⟨C, 6, none⟩) hk).trans s6, (b2.cell (p := ⟨C, 7, none⟩) hk).trans s7, (b2.cell (p := ⟨C, 8, none⟩) hk).trans s8⟩
  have HDv4 : Hid (Below w1.heap.size w1 v4) := Lib.hid (HDv3.out.trans (b2.mono HDv3.out.size))
  clear b2 hS0
  refine hK.out _ _ hS2 (fun hS0 => ?_)
  clear hK K hS2
  refine wpAnyH_take (i := 14) (v := ?_) rfl (by kernel_rfl) (by kernel_rfl) (by kernel_rfl) (fun _ _ _ h => h) (Or.inl ⟨by kernel_rfl, ?_⟩) (by assumption) ?_
  rotate_left
  · intro w hSw; (try dsimp only at hSw); go_simp; (try with_reducible rfl)
  refine wpAnyH_ready (rs := [17]) (by kernel_rfl) (by simp) ?_
  refine AllReadyH.cons rfl (fun K hK => ?_) AllReadyH.nil
  go_simp
  refine (HN4.out v4).mono ?_
  rintro x v5 ⟨rfl, b2⟩
  have hS2 : v5.cell? ⟨C, 0, none⟩ = some (.int .i64 c.sec) ∧ v5.cell? ⟨C, 1, none⟩ = some (.int .i64 c.secs) ∧ v5.cell? ⟨C, 2, none⟩ = some (.int .i64 c.tb) ∧ v5.cell? ⟨C, 3, none⟩ = some (.int .i64 c.bt) ∧ v5.cell? ⟨C, 4, none⟩ = some (.int .i64 c.sc) ∧ v5.cell? ⟨C, 5, none⟩ = some (.int .u64 c.h0) ∧ v5.cell? ⟨C, 6, none⟩ = some (.int .u64 c.h1) ∧ v5.cell? ⟨C, 7, none⟩ = some (.int .u64 c.s0) ∧ v5.cell? ⟨C, 8, none⟩ = some (.int .u64 c.s1) := by
    obtain ⟨s0, s1, s2, s3, s4, s5, s6, s7, s8⟩ := hS0
    have hk : C < v4.heap.size := Nat.lt_of_lt_of_le HC.out HDv4.out.size
    exact ⟨(b2.cell (p := ⟨C, 0, none⟩) hk).trans s0, (b2.cell (p := ⟨C, 1, none⟩) hk).trans s1, (b2.cell (p := ⟨C, 2, none⟩) hk).trans s2, (b2.cell (p := ⟨C, 3, none⟩) hk).trans s3, (b2.cell (p := ⟨C, 4, none⟩) hk).trans s4, (b2.cell (p := ⟨C, 5, none⟩) hk).trans s5, (b2.cell (p := ⟨C, 6, none⟩) hk).trans s6, (b2.cell (p := ⟨C, 7, none⟩) hk).trans s7, (b2.cell (p := ⟨C, 8, none⟩) hk).trans s8⟩
  have HDv5 : Hid (Below w1.heap.size w1 v5) := Lib.hid (HDv4.out.trans (b2.mono HDv4.out.size))
  clear b2 hS0
  refine hK.out _ _ hS2 (fun hS0 => ?_)
  clear hK K hS2
  refine wpAnyH_take (i := 18) (v := ?_) rfl (by kernel_rfl) (by kernel_rfl) (by kernel_rfl) (fun _ _ _ h => h) (Or.inl ⟨by kernel_rfl, ?_⟩) (by assumption) ?_
  rotate_left
  · intro w hSw; (try dsimp only at hSw); go_simp; (try with_reducible rfl)
  refine wpAnyH_ready (rs := [22]) (by kernel_rfl) (by simp) ?_
  refine AllReadyH.cons rfl (fun K hK => ?_) AllReadyH.nil
  go_simp
  refine (HN5.out v5).mono ?_
  rintro x v6 ⟨rfl, b2⟩
  have hS2 : v6.cell? ⟨C, 0, none⟩ = some (.int .i64 c.sec) ∧ v6.cell? ⟨C, 1, none⟩ = some (.int .i64 c.secs) ∧ v6.cell? ⟨C, 2, none⟩ = some (.int .i64 c.tb) ∧ v6.cell? ⟨C, 3, none⟩ = some (.int .i64 c.bt) ∧ v6.cell? ⟨C, 4, none⟩ = some (.int .i64 c.sc) ∧ v6.cell? ⟨C, 5, none⟩ = some (.int .u64 c.h0) ∧ v6.cell? ⟨C, 6, none⟩ = some (.int .u64 c.h1) ∧ v6.cell? ⟨C, 7, none⟩ = some (.int .u64 c.s0) ∧ v6.cell? ⟨C, 8, none⟩ = some (.int .u64 c.s1) := by
    obtain ⟨s0, s1, s2, s3, s4, s5, s6, s7, s8⟩ := hS0
    have hk : C < v5.heap.size := Nat.lt_of_lt_of_le HC.out HDv5.out.size
    exact ⟨(b2.cell (p := ⟨C, 0, none⟩) hk).trans s0, (b2.cell (p := ⟨C, 1, none⟩) hk).trans s1, (b2.cell (p := ⟨C, 2, none⟩) hk).trans s2, (b2.cell (p := ⟨C, 3, none⟩) hk).trans s3, (b2.cell (p := ⟨C, 4, none⟩) hk).trans s4, (b2.cell (p := ⟨C, 5, none⟩) hk).trans s5, (b2.cell (p := ⟨C, 6, none⟩) hk).trans s6, (b2.cell (p := ⟨C, 7, none⟩) hk).trans s7, (b2.cell (p := ⟨C, 8, none⟩) hk).trans s8⟩
  have HDv6 : Hid (Below w1.heap.size w1 v6) := Lib.hid (HDv5.out.trans (b2.mono HDv5.out.size))
  clear b2 hS0
  refine hK.out _ _ hS2 (fun hS0 => ?_)
  clear hK K hS2
  refine wpAnyH_take (i := 23) (v := ?_) rfl (by kernel_rfl) (by kernel_rfl) (by kernel_rfl) (fun _ _ _ h => h) (Or.inl ⟨by kernel_rfl, ?_⟩) (by assumption) ?_
  rotate_left
  · intro w hSw; (try dsimp only at hSw); go_simp; (try with_reducible rfl)
  refine wpAnyH_ready (rs := [27]) (by kernel_rfl) (by simp) ?_
  refine AllReadyH.cons rfl (fun K hK => ?_) AllReadyH.nil
  go_simp
  refine (HN6.out v6).mono ?_
  rintro x v7 ⟨rfl, b2⟩
  have hS2 : v7.cell? ⟨C, 0, none⟩ = some (.int .i64 c.sec) ∧ v7.cell? ⟨C, 1, none⟩ = some (.int .i64 c.secs) ∧ v7.cell? ⟨C, 2, none⟩ = some (.int .i64 c.tb) ∧ v7.cell? ⟨C, 3, none⟩ = some (.int .i64 c.bt) ∧ v7.cell? ⟨C, 4, none⟩ = some (.int .i64 c.sc) ∧ v7.cell? ⟨C, 5, none⟩ = some (.int .u64 c.h0) ∧ v7.cell? ⟨C, 6, none⟩ = some (.int .u64 c.h1) ∧ v7.cell? ⟨C, 7, none⟩ = some (.int .u64 c.s0) ∧ v7.cell? ⟨C, 8, none⟩ = some (.int .u64 c.s1) := by
    obtain ⟨s0, s1, s2, s3, s4, s5, s6, s7, s8⟩ := hS0
    have hk : C < v6.heap.size := Nat.lt_of_lt_of_le HC.out HDv6.out.size
    exact ⟨(b2.cell (p := ⟨C, 0, none⟩) hk).trans s0, (b2.cell (p := ⟨C, 1, none⟩) hk).trans s1, (b2.cell (p := ⟨C, 2, none⟩) hk).trans s2, (b2.cell (p := ⟨C, 3, none⟩) hk).trans s3, (b2.cell (p := ⟨C, 4, none⟩) hk).trans s4, (b2.cell (p := ⟨C, 5, none⟩) hk).trans s5, (b2.cell (p := ⟨C, 6, none⟩) hk).trans s6, (b2.cell (p := ⟨C, 7, none⟩) hk).trans s7, (b2.cell (p := ⟨C, 8, none⟩) hk).trans s8⟩
  have HDv7 : Hid (Below w1.heap.size w1 v7) := Lib.hid (HDv6.out.trans (b2.mono HDv6.out.size))
  clear b2 hS0
  refine hK.out _ _ hS2 (fun hS0 => ?_)
  clear hK K hS2
  refine wpAnyH_take (i := 28) (v := ?_) rfl (by kernel_rfl) (by kernel_rfl) (by kernel_rfl) (fun _ _ _ h => h) (Or.inl ⟨by kernel_rfl, ?_⟩) (by assumption) ?_
  rotate_left
  · intro w hSw; (try dsimp only at hSw); go_simp; (try with_reducible rfl)
  refine wpAnyH_ready (rs := [32]) (by kernel_rfl) (by simp) ?_
  refine AllReadyH.cons rfl (fun K hK => ?_) AllReadyH.nil
  go_simp
  refine (HN7.out v7).mono ?_
  rintro x v8 ⟨rfl, b2⟩
  have hS2 : v8.cell? ⟨C, 0, none⟩ = some (.int .i64 c.sec) ∧ v8.cell? ⟨C, 1, none⟩ = some (.int .i64 c.secs) ∧ v8.cell? ⟨C, 2, none⟩ = some (.int .i64 c.tb) ∧ v8.cell? ⟨C, 3, none⟩ = some (.int .i64 c.bt) ∧ v8.cell? ⟨C, 4, none⟩ = some (.int .i64 c.sc) ∧ v8.cell? ⟨C, 5, none⟩ = some (.int .u64 c.h0) ∧ v8.cell? ⟨C, 6, none⟩ = some (.int .u64 c.h1) ∧ v8.cell? ⟨C, 7, none⟩ = some (.int .u64 c.s0) ∧ v8.cell? ⟨C, 8, none⟩ = some (.int .u64 c.s1) := by
    obtain ⟨s0, s1, s2, s3, s4, s5, s6, s7, s8⟩ := hS0
    have hk : C < v7.heap.size := Nat.lt_of_lt_of_le HC.out HDv7.out.size
    exact ⟨(b2.cell (p := ⟨C, 0, none⟩) hk).trans s0, (b2.cell (p := ⟨C, 1, none⟩) hk).trans s1, (b2.cell (p := ⟨C, 2, none⟩) hk).trans s2, (b2.cell (p := ⟨C, 3, none⟩) hk).trans s3, (b2.cell (p := ⟨C, 4, none⟩) hk).trans s4, (b2.cell (p := ⟨C, 5, none⟩) hk).trans s5, (b2.cell (p := ⟨C, 6, none⟩) hk).trans s6, (b2.cell (p := ⟨C, 7, none⟩) hk).trans s7, (b2.cell (p := ⟨C, 8, none⟩) hk).trans s8⟩
  have HDv8 : Hid (Below w1.heap.size w1 v8) := Lib.hid (HDv7.out.trans (b2.mono HDv7.out.size))
  clear b2 hS0
  refine hK.out _ _ hS2 (fun hS0 => ?_)
  clear hK K hS2
  refine wpAnyH_take (i := 33) (v := ?_) rfl (by kernel_rfl) (by kernel_rfl) (by kernel_rfl) (fun _ _ _ h => h) (Or.inl ⟨by kernel_rfl, ?_⟩) (by assumption) ?_
  rotate_left
  · intro w hSw; (try dsimp only at hSw); go_simp; (try with_reducible rfl)
  refine wpAnyH_ready (rs := [37]) (by kernel_rfl) (by simp) ?_
  refine AllReadyH.cons rfl (fun K hK => ?_) AllReadyH.nil
  go_simp
  refine (HN8.out v8).mono ?_
  rintro x v9 ⟨rfl, b2⟩
  have hS2 : v9.cell? ⟨C, 0, none⟩ = some (.int .i64 c.sec) ∧ v9.cell? ⟨C, 1, none⟩ = some (.int .i64 c.secs) ∧ v9.cell? ⟨C, 2, none⟩ = some (.int .i64 c.tb) ∧ v9.cell? ⟨C, 3, none⟩ = some (.int .i64 c.bt) ∧ v9.cell? ⟨C, 4, none⟩ = some (.int .i64 c.sc) ∧ v9.cell? ⟨C, 5, none⟩ = some (.int .u64 c.h0) ∧ v9.cell? ⟨C, 6, none⟩ = some (.int .u64 c.h1) ∧ v9.cell? ⟨C, 7, none⟩ = some (.int .u64 c.s0) ∧ v9.cell? ⟨C, 8, none⟩ = some (.int .u64 c.s1) := by
    obtain ⟨s0, s1, s2, s3, s4, s5, s6, s7, s8⟩ := hS0
    have hk : C < v8.heap.size := Nat.lt_of_lt_of_le HC.out HDv8.out.size
    exact ⟨(b2.cell (p := ⟨C, 0, none⟩) hk).trans s0, (b2.cell (p := ⟨C, 1, none⟩) hk).trans s1, (b2.cell (p := ⟨C, 2, none⟩) hk).trans s2, (b2.cell (p := ⟨C, 3, none⟩) hk).trans s3, (b2.cell (p := ⟨C, 4, none⟩) hk).trans s4, (b2.cell (p := ⟨C, 5, none⟩) hk).trans s5, (b2.cell (p := ⟨C, 6, none⟩) hk).trans s6, (b2.cell (p := ⟨C, 7, none⟩) hk).trans s7, (b2.cell (p := ⟨C, 8, none⟩) hk).trans s8⟩
  have HDv9 : Hid (Below w1.heap.size w1 v9) := Lib.hid (HDv8.out.trans (b2.mono HDv8.out.size))
  clear b2 hS0
  refine hK.out _ _ hS2 (fun hS0 => ?_)
  clear hK K hS2
  refine wpAnyH_take (i := 38) (v := ?_) rfl (by kernel_rfl) (by kernel_rfl) (by kernel_rfl) (fun _ _ _ h => h) (Or.inl ⟨by kernel_rfl, ?_⟩) (by assumption) ?_
  rotate_left
  · intro w hSw; (try dsimp only at hSw); go_simp; (try with_reducible rfl)
  refine wpAnyH_take (i := 39) (v := ?_) rfl (by kernel_rfl) (by kernel_rfl) (by kernel_rfl) (fun _ _ _ h => h) (Or.inl ⟨by kernel_rfl, ?_⟩) (by assumption) ?_
  rotate_left
  · intro w hSw; (try dsimp only at hSw); go_simp; (try with_reducible rfl)
  refine wpAnyH_take (i := 40) (v := ?_) rfl (by kernel_rfl) (by kernel_rfl) (by kernel_rfl) (fun _ _ _ h => h) (Or.inl ⟨by kernel_rfl, ?_⟩) (by assumption) ?_
  rotate_left
  · intro w hSw; (try dsimp only at hSw); go_simp; (try with_reducible rfl)
  clear hS0
  refine wpAnyH_done (by kernel_rfl) ?_ _
  go_simp
  rw [HALL.out]
  go_wp2
  go_ret2
  exact ⟨H1.out.1.trans (HDv9.out.mono H1.out.2), fun _ => rfl, fun h => absurd HOK.out h⟩
end Go.Proofs.Ytjilbcefikbihaa
