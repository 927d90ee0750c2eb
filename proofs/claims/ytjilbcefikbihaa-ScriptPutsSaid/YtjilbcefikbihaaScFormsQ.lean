/- Package script's forms: the nine forms, by kinds. No condition. -/
import Derived.WalkSpells
import Derived.Outline
import Derived.Deep.RegionHeld
import Derived.Test.YtjilbcefikbihaaHeldLastQ
import Derived.Test.YtjilbcefikbihaaScMesQ
import Derived.Test.YtjilbcefikbihaaScWkQ
namespace Go.Proofs.Ytjilbcefikbihaa
open Go.RowKit
set_option linter.unusedVariables false
/-- the forms, in a row of values -/
def FormsAre (lo hi : Nat) (w : World) (vs : Array Value) : Prop := vs.size = 27 ∧ ∀ k (h : k < formsL.length), ∃ f1 f2 f3, vs[k * 3]? = some f1 ∧ vs[k * 3 + 1]? = some f2 ∧ vs[k * 3 + 2]? = some f3 ∧ FormIs lo hi w (.agg #[f1, f2, f3]) formsL[k]
set_option maxRecDepth 100000 in
set_option maxHeartbeats 4000000 in
theorem sc_forms (w : World) : Calls Try.prog 19 #[] w fun x w' => ∃ vs, x = .returned (.agg vs) ∧ FormsAre w.heap.size w'.heap.size w' vs ∧ Below w.heap.size w w' := by
  obtain ⟨R, hR⟩ : ∃ R, R = w.heap.size := ⟨_, rfl⟩
  obtain ⟨w0, hw0⟩ : ∃ z, z = w.alloc (.cells #[.nilFunc, .nilFunc, .nilFunc, .nilFunc, .nilFunc, .nilFunc, .nilFunc, .nilFunc, .nilFunc, .nilFunc, .nilFunc, .nilFunc, .nilFunc, .nilFunc, .nilFunc, .nilFunc, .nilFunc, .nilFunc, .nilFunc, .nilFunc, .nilFunc, .nilFunc, .nilFunc, .nilFunc, .nilFunc, .nilFunc, .nilFunc] 70) := ⟨_, rfl⟩
  have H0 : Hid (Below R w w0 ∧ w0.heap[R]? = some (.cells #[.nilFunc, .nilFunc, .nilFunc, .nilFunc, .nilFunc, .nilFunc, .nilFunc, .nilFunc, .nilFunc, .nilFunc, .nilFunc, .nilFunc, .nilFunc, .nilFunc, .nilFunc, .nilFunc, .nilFunc, .nilFunc, .nilFunc, .nilFunc, .nilFunc, .nilFunc, .nilFunc, .nilFunc, .nilFunc, .nilFunc, .nilFunc] 70 (0, 0)) ∧ R = w.heap.size ∧ R + 1 ≤ w0.heap.size) := Lib.hid ⟨by rw [hw0, hR]; exact Kq.below_alloc _ _, by rw [hw0, hR]; exact Kq.blk_new _ _ _ _, hR, by rw [hw0, hR]; simp⟩
  go_enter Try.func19, Try.ntmps19
  go_wp2_with fail
  rw [← hw0, ← hR]
  clear hw0 hR
  refine (sm_new leC _ fiC w0).mono ?_
  rintro x w1 ⟨vC, rfl, pC, b1⟩
  obtain ⟨nCa, kCa, nCb, kCb, nCc, kCc, rfl⟩ := pC.shape
  obtain ⟨T1, hT1⟩ : ∃ z, z = w1.heap.size := ⟨_, rfl⟩
  have HR1 : Hid (R ≠ T1) := Lib.hid (by have := H0.out.2.2.2; have := b1.size; omega)
  obtain ⟨w1a, hw1a⟩ : ∃ z, z = w1.alloc (.cells #[.func (.func nCa) #[] kCa, .func (.func nCb) #[] kCb, .func (.func nCc) #[] kCc] 69) := ⟨_, rfl⟩
  have H1 : Hid (Below w0.heap.size w0 w1a ∧ FormIs (R + 1) w1a.heap.size w1a (.agg #[.func (.func nCa) #[] kCa, .func (.func nCb) #[] kCb, .func (.func nCc) #[] kCc]) fC ∧ w1a.heap[T1]? = some (.cells #[.func (.func nCa) #[] kCa, .func (.func nCb) #[] kCb, .func (.func nCc) #[] kCc] 69 (0, 0))) := Lib.hid (by
    have ba : Below w1.heap.size w1 w1a := by rw [hw1a]; exact Kq.below_alloc _ _
    exact ⟨b1.trans (ba.mono b1.size), pC.mono (Rng.below (Rng.refl _ _ _) ba (Nat.le_refl _)) H0.out.2.2.2 ba.size (Nat.le_refl _), by rw [hw1a, hT1]; exact Kq.blk_new _ _ _ _⟩)
  clear pC b1
  go_wp2_with fail
  rw [← hw1a, ← hT1]
  clear hw1a hT1
  refine (sm_new leN _ fiN w1a).mono ?_
  rintro x w2 ⟨vN, rfl, pN, b2⟩
  obtain ⟨nNa, kNa, nNb, kNb, nNc, kNc, rfl⟩ := pN.shape
  obtain ⟨T2, hT2⟩ : ∃ z, z = w2.heap.size := ⟨_, rfl⟩
  have HR2 : Hid (R ≠ T2) := Lib.hid (by have := H0.out.2.2.2; have := H1.out.1.size; have := b2.size; omega)
  obtain ⟨w2a, hw2a⟩ : ∃ z, z = w2.alloc (.cells #[.func (.func nNa) #[] kNa, .func (.func nNb) #[] kNb, .func (.func nNc) #[] kNc] 69) := ⟨_, rfl⟩
  have H2 : Hid (Below w0.heap.size w0 w2a ∧ FormIs (R + 1) w2a.heap.size w2a (.agg #[.func (.func nCa) #[] kCa, .func (.func nCb) #[] kCb, .func (.func nCc) #[] kCc]) fC ∧ FormIs (R + 1) w2a.heap.size w2a (.agg #[.func (.func nNa) #[] kNa, .func (.func nNb) #[] kNb, .func (.func nNc) #[] kNc]) fN ∧ w2a.heap[T1]? = some (.cells #[.func (.func nCa) #[] kCa, .func (.func nCb) #[] kCb, .func (.func nCc) #[] kCc] 69 (0, 0)) ∧ w2a.heap[T2]? = some (.cells #[.func (.func nNa) #[] kNa, .func (.func nNb) #[] kNb, .func (.func nNc) #[] kNc] 69 (0, 0))) := Lib.hid (by
    have ba : Below w2.heap.size w2 w2a := by rw [hw2a]; exact Kq.below_alloc _ _
    have bb := b2.trans (ba.mono b2.size)
    exact ⟨H1.out.1.trans (bb.mono H1.out.1.size), H1.out.2.1.mono (Rng.below (Rng.refl _ _ _) bb (Nat.le_refl _)) (Nat.le_refl _) bb.size (Nat.le_refl _), pN.mono (Rng.below (Rng.refl _ _ _) ba (Nat.le_refl _)) (Nat.le_trans H0.out.2.2.2 H1.out.1.size) ba.size (Nat.le_refl _), Kq.below_blk bb H1.out.2.2 (Kq.blk_lt H1.out.2.2), by rw [hw2a, hT2]; exact Kq.blk_new _ _ _ _⟩)
  clear pN b2
  go_wp2
  rw [← hw2a, ← hT2]
  clear hw2a hT2
  have HT : Hid (∀ cur : World, Below w2a.heap.size w2a cur → cur.cell? ⟨T1, 0, none⟩ = some (.func (.func nCa) #[] kCa) ∧ cur.cell? ⟨T1, 1, none⟩ = some (.func (.func nCb) #[] kCb) ∧ cur.cell? ⟨T1, 2, none⟩ = some (.func (.func nCc) #[] kCc) ∧ cur.cell? ⟨T2, 0, none⟩ = some (.func (.func nNa) #[] kNa) ∧ cur.cell? ⟨T2, 1, none⟩ = some (.func (.func nNb) #[] kNb) ∧ cur.cell? ⟨T2, 2, none⟩ = some (.func (.func nNc) #[] kNc)) := Lib.hid (fun cur hb => by
    have g1 := Kq.below_blk hb H2.out.2.2.2.1 (Kq.blk_lt H2.out.2.2.2.1)
    have g2 := Kq.below_blk hb H2.out.2.2.2.2 (Kq.blk_lt H2.out.2.2.2.2)
    exact ⟨Kq.blk_cell g1 0, Kq.blk_cell g1 1, Kq.blk_cell g1 2, Kq.blk_cell g2 0, Kq.blk_cell g2 1, Kq.blk_cell g2 2⟩)
  have HZ : Hid (Below w2a.heap.size w2a w2a.drew) := Lib.hid (Below.refl _ _).drew
  refine wp_region_held_drew (S := fun cur => cur.cell? ⟨T1, 0, none⟩ = some (.func (.func nCa) #[] kCa) ∧ cur.cell? ⟨T1, 1, none⟩ = some (.func (.func nCb) #[] kCb) ∧ cur.cell? ⟨T1, 2, none⟩ = some (.func (.func nCc) #[] kCc) ∧ cur.cell? ⟨T2, 0, none⟩ = some (.func (.func nNa) #[] kNa) ∧ cur.cell? ⟨T2, 1, none⟩ = some (.func (.func nNb) #[] kNb) ∧ cur.cell? ⟨T2, 2, none⟩ = some (.func (.func nNc) #[] kNc)) (by kernel_rfl) (HT.out _ HZ.out) (fun hS0 => ?_)
  obtain ⟨wd, hwd⟩ : ∃ z, z = w2a.drew := ⟨_, rfl⟩
  rw [← hwd] at hS0 HZ ⊢
  clear hwd
  refine wpAnyH_take (i := 0) (v := ?_) rfl (by kernel_rfl) (by kernel_rfl) (by kernel_rfl) (fun _ _ _ h => h) (Or.inl ⟨by kernel_rfl, ?_⟩) (by assumption) ?_
  rotate_left
  · intro w hSw; (try dsimp only at hSw); go_simp; (try with_reducible rfl)
  refine wpAnyH_take (i := 5) (v := ?_) rfl (by kernel_rfl) (by kernel_rfl) (by kernel_rfl) (fun _ _ _ h => h) (Or.inl ⟨by kernel_rfl, ?_⟩) (by assumption) ?_
  rotate_left
  · intro w hSw; (try dsimp only at hSw); go_simp; (try with_reducible rfl)
  refine wpAnyH_take (i := 7) (v := ?_) rfl (by kernel_rfl) (by kernel_rfl) (by kernel_rfl) (fun _ _ _ h => h) (Or.inl ⟨by kernel_rfl, ?_⟩) (by assumption) ?_
  rotate_left
  · intro w hSw; (try dsimp only at hSw); go_simp; (try with_reducible rfl)
  refine wpAnyH_take (i := 8) (v := ?_) rfl (by kernel_rfl) (by kernel_rfl) (by kernel_rfl) (fun _ _ _ h => h) (Or.inl ⟨by kernel_rfl, ?_⟩) (by assumption) ?_
  rotate_left
  · intro w hSw; (try dsimp only at hSw); go_simp; (try with_reducible rfl)
  refine wpAnyH_take (i := 9) (v := ?_) rfl (by kernel_rfl) (by kernel_rfl) (by kernel_rfl) (fun _ _ _ h => h) (Or.inl ⟨by kernel_rfl, ?_⟩) (by assumption) ?_
  rotate_left
  · intro w hSw; (try dsimp only at hSw); go_simp; (try with_reducible rfl)
  refine wpAnyH_take (i := 11) (v := ?_) rfl (by kernel_rfl) (by kernel_rfl) (by kernel_rfl) (fun _ _ _ h => h) (Or.inl ⟨by kernel_rfl, ?_⟩) (by assumption) ?_
  rotate_left
  · intro w hSw; (try dsimp only at hSw); go_simp; (try with_reducible rfl)
  refine wpAnyH_ready (rs := [1]) (by kernel_rfl) (by simp) ?_
  refine AllReadyH.cons rfl (fun K hK => ?_) AllReadyH.nil
  go_simp
  refine (nu_new leT (fun a h => h.t) _ fiT wd).mono ?_
  rintro x w3 ⟨vT, rfl, pT, b3⟩
  obtain ⟨nTa, kTa, nTb, kTb, nTc, kTc, rfl⟩ := pT.shape
  have H3 : Hid (Below w2a.heap.size w2a w3 ∧ FormIs (R + 1) w3.heap.size w3 (.agg #[.func (.func nTa) #[] kTa, .func (.func nTb) #[] kTb, .func (.func nTc) #[] kTc]) fT) := Lib.hid ⟨HZ.out.trans (b3.mono HZ.out.size), pT.mono (Rng.refl _ _ _) (Nat.le_trans H0.out.2.2.2 (Nat.le_trans H2.out.1.size HZ.out.size)) (Nat.le_refl _) (Nat.le_refl _)⟩
  clear pT b3 hS0
  refine hK.out _ _ (HT.out _ H3.out.1) (fun hS0 => ?_)
  clear hK K
  refine wpAnyH_ready (rs := [2]) (by kernel_rfl) (by simp) ?_
  refine AllReadyH.cons rfl (fun K hK => ?_) AllReadyH.nil
  go_simp
  refine (tx_new leD _ fiD w3).mono ?_
  rintro x w4 ⟨vD, rfl, pD, b4⟩
  obtain ⟨nDa, kDa, nDb, kDb, nDc, kDc, rfl⟩ := pD.shape
  have H4 : Hid (Below w2a.heap.size w2a w4 ∧ FormIs (R + 1) w4.heap.size w4 (.agg #[.func (.func nTa) #[] kTa, .func (.func nTb) #[] kTb, .func (.func nTc) #[] kTc]) fT ∧ FormIs (R + 1) w4.heap.size w4 (.agg #[.func (.func nDa) #[] kDa, .func (.func nDb) #[] kDb, .func (.func nDc) #[] kDc]) fD ∧ R + 1 ≤ w4.heap.size) := Lib.hid (by
    have hs3 : R + 1 ≤ w3.heap.size := Nat.le_trans H0.out.2.2.2 (Nat.le_trans H2.out.1.size H3.out.1.size)
    exact ⟨H3.out.1.trans (b4.mono H3.out.1.size), H3.out.2.mono (Rng.below (Rng.refl _ _ _) b4 (Nat.le_refl _)) (Nat.le_refl _) b4.size (Nat.le_refl _), pD.mono (Rng.refl _ _ _) hs3 (Nat.le_refl _) (Nat.le_refl _), Nat.le_trans hs3 b4.size⟩)
  clear pD b4 hS0
  refine hK.out _ _ (HT.out _ H4.out.1) (fun hS0 => ?_)
  clear hK K
  refine wpAnyH_ready (rs := [3]) (by kernel_rfl) (by simp) ?_
  refine AllReadyH.cons rfl (fun K hK => ?_) AllReadyH.nil
  go_simp
  obtain ⟨w4a, hw4a⟩ : ∃ z, z = w4.alloc (.cells ⟨[.func (.func nCa) #[] kCa, .func (.func nCb) #[] kCb, .func (.func nCc) #[] kCc, .func (.func nTa) #[] kTa, .func (.func nTb) #[] kTb, .func (.func nTc) #[] kTc, .func (.func nDa) #[] kDa, .func (.func nDb) #[] kDb, .func (.func nDc) #[] kDc]⟩ 69) := ⟨_, rfl⟩
  obtain ⟨q, hq⟩ : ∃ z, z = w4.heap.size := ⟨_, rfl⟩
  have H5 : Hid (Below w2a.heap.size w2a w4a ∧ FsIn (R + 1) w4a.heap.size w4a (.slice (some ⟨q, 0, none⟩) 3 3) [fC, fT, fD] ∧ R + 1 ≤ w4a.heap.size) := Lib.hid (by
    have ba : Below w4.heap.size w4 w4a := by rw [hw4a]; exact Kq.below_alloc _ _
    refine ⟨H4.out.1.trans (ba.mono H4.out.1.size), ?_, Nat.le_trans H4.out.2.2.2 ba.size⟩
    rw [hw4a, hq]
    refine fs_built (R + 1) w4 [fC, fT, fD] [.func (.func nCa) #[] kCa, .func (.func nCb) #[] kCb, .func (.func nCc) #[] kCc, .func (.func nTa) #[] kTa, .func (.func nTb) #[] kTb, .func (.func nTc) #[] kTc, .func (.func nDa) #[] kDa, .func (.func nDb) #[] kDb, .func (.func nDc) #[] kDc] 69 3 3 rfl H4.out.2.2.2 (fun j hj => ?_)
    have h8 : j < 3 := hj
    have : j = 0 ∨ j = 1 ∨ j = 2 := by omega
    rcases this with rfl | rfl | rfl
    · exact ⟨_, _, _, rfl, rfl, rfl, H2.out.2.1.mono (Rng.below (Rng.refl _ _ _) H4.out.1 (Nat.le_refl _)) (Nat.le_refl _) H4.out.1.size (Nat.le_refl _)⟩
    · exact ⟨_, _, _, rfl, rfl, rfl, H4.out.2.1⟩
    · exact ⟨_, _, _, rfl, rfl, rfl, H4.out.2.2.1⟩)
  rw [← hw4a, ← hq]
  clear hw4a hq hS0
  refine hK.out _ _ (HT.out _ H5.out.1) (fun hS0 => ?_)
  clear hK K
  refine wpAnyH_ready (rs := [4]) (by kernel_rfl) (by simp) ?_
  refine AllReadyH.cons rfl (fun K hK => ?_) AllReadyH.nil
  go_simp
  refine (all_new (R + 1) [fC, fT, fD] (by decide) fS_good _ w4a H5.out.2.2 H5.out.2.1).mono ?_
  rintro x w5 ⟨vS, rfl, pS, b5⟩
  obtain ⟨nSa, kSa, nSb, kSb, nSc, kSc, rfl⟩ := pS.shape
  have H6 : Hid (Below w2a.heap.size w2a w5 ∧ FormIs (R + 1) w5.heap.size w5 (.agg #[.func (.func nSa) #[] kSa, .func (.func nSb) #[] kSb, .func (.func nSc) #[] kSc]) (allF [fC, fT, fD]) ∧ R + 1 ≤ w5.heap.size) := Lib.hid ⟨H5.out.1.trans (b5.mono H5.out.1.size), pS, Nat.le_trans H5.out.2.2 b5.size⟩
  clear pS b5 hS0
  refine hK.out _ _ (HT.out _ H6.out.1) (fun hS0 => ?_)
  clear hK K
  refine wpAnyH_ready (rs := [6]) (by kernel_rfl) (by simp) ?_
  refine AllReadyH.cons rfl (fun K hK => ?_) AllReadyH.nil
  go_simp
  refine (all_new (R + 1) [] (by decide) (fun F hF => by cases hF) (.slice none 0 0) w5 H6.out.2.2 ⟨none, 0, rfl, fun j hj => by cases hj⟩).mono ?_
  rintro x w6 ⟨vA, rfl, pA, b6⟩
  obtain ⟨nAa, kAa, nAb, kAb, nAc, kAc, rfl⟩ := pA.shape
  have H7 : Hid (Below w5.heap.size w5 w6 ∧ Below w2a.heap.size w2a w6 ∧ FormIs (R + 1) w6.heap.size w6 (.agg #[.func (.func nAa) #[] kAa, .func (.func nAb) #[] kAb, .func (.func nAc) #[] kAc]) (allF [])) := Lib.hid ⟨b6, H6.out.1.trans (b6.mono H6.out.1.size), pA⟩
  clear pA b6 hS0
  refine hK.out _ _ (HT.out _ H7.out.2.1) (fun hS0 => ?_)
  clear hK K
  refine wpAnyH_ready (rs := [10]) (by kernel_rfl) (by simp) ?_
  refine AllReadyH.cons rfl (fun K hK => ?_) AllReadyH.nil
  go_simp
  refine (sc_message w6).mono ?_
  rintro x w7 ⟨vM, rfl, pM, b7⟩
  obtain ⟨nMa, kMa, nMb, kMb, nMc, kMc, rfl⟩ := pM.shape
  have H8 : Hid (Below w6.heap.size w6 w7 ∧ Below w2a.heap.size w2a w7 ∧ FormIs (R + 1) w7.heap.size w7 (.agg #[.func (.func nMa) #[] kMa, .func (.func nMb) #[] kMb, .func (.func nMc) #[] kMc]) (allF fMs)) := Lib.hid ⟨b7, H7.out.2.1.trans (b7.mono H7.out.2.1.size), pM.mono (Rng.refl _ _ _) (Nat.le_trans H6.out.2.2 H7.out.1.size) (Nat.le_refl _) (Nat.le_refl _)⟩
  clear pM b7 hS0
  refine hK.out _ _ (HT.out _ H8.out.2.1) (fun hS0 => ?_)
  clear hK K
  refine wpAnyH_ready (rs := [12]) (by kernel_rfl) (by simp) ?_
  refine AllReadyH.cons rfl (fun K hK => ?_) AllReadyH.nil
  go_simp
  refine (ws_new w7).mono ?_
  rintro x w8 ⟨vW, rfl, pW, b8⟩
  obtain ⟨nWa, kWa, nWb, kWb, nWc, kWc, rfl⟩ := pW.shape
  have H9 : Hid (Below w7.heap.size w7 w8 ∧ Below w2a.heap.size w2a w8 ∧ FormIs (R + 1) w8.heap.size w8 (.agg #[.func (.func nWa) #[] kWa, .func (.func nWb) #[] kWb, .func (.func nWc) #[] kWc]) wrF) := Lib.hid ⟨b8, H8.out.2.1.trans (b8.mono H8.out.2.1.size), pW.mono (Rng.refl _ _ _) (Nat.le_trans (Nat.le_trans H6.out.2.2 H7.out.1.size) H8.out.1.size) (Nat.le_refl _) (Nat.le_refl _)⟩
  clear pW b8 hS0
  refine hK.out _ _ (HT.out _ H9.out.2.1) (fun hS0 => ?_)
  clear hK K
  refine wpAnyH_take (i := 13) (v := ?_) rfl (by kernel_rfl) (by kernel_rfl) (by kernel_rfl) (fun _ _ _ h => h) (Or.inl ⟨by kernel_rfl, ?_⟩) (by assumption) ?_
  rotate_left
  · intro w hSw; (try dsimp only at hSw); go_simp; (try with_reducible rfl)
  obtain ⟨vs, hvs⟩ : ∃ z : Array Value, z = #[.func (.func nSa) #[] kSa, .func (.func nSb) #[] kSb, .func (.func nSc) #[] kSc, .func (.func nCa) #[] kCa, .func (.func nCb) #[] kCb, .func (.func nCc) #[] kCc, .func (.func nAa) #[] kAa, .func (.func nAb) #[] kAb, .func (.func nAc) #[] kAc, .func (.func nNa) #[] kNa, .func (.func nNb) #[] kNb, .func (.func nNc) #[] kNc, .func (.func nNa) #[] kNa, .func (.func nNb) #[] kNb, .func (.func nNc) #[] kNc, .func (.func nNa) #[] kNa, .func (.func nNb) #[] kNb, .func (.func nNc) #[] kNc, .func (.func nMa) #[] kMa, .func (.func nMb) #[] kMb, .func (.func nMc) #[] kMc, .func (.func nNa) #[] kNa, .func (.func nNb) #[] kNb, .func (.func nNc) #[] kNc, .func (.func nWa) #[] kWa, .func (.func nWb) #[] kWb, .func (.func nWc) #[] kWc] := ⟨_, rfl⟩
  have HA : Hid (w8.heap[R]? = some (.cells #[.nilFunc, .nilFunc, .nilFunc, .nilFunc, .nilFunc, .nilFunc, .nilFunc, .nilFunc, .nilFunc, .nilFunc, .nilFunc, .nilFunc, .nilFunc, .nilFunc, .nilFunc, .nilFunc, .nilFunc, .nilFunc, .nilFunc, .nilFunc, .nilFunc, .nilFunc, .nilFunc, .nilFunc, .nilFunc, .nilFunc, .nilFunc] 70 (0, 0)) ∧ FormsAre (R + 1) w8.heap.size w8 vs ∧ Below R w w8) := Lib.hid (by
    have l5 := H7.out.1.trans ((H8.out.1.trans (H9.out.1.mono H8.out.1.size)).mono H7.out.1.size)
    have l6 := H8.out.1.trans (H9.out.1.mono H8.out.1.size)
    have l7 := H9.out.1
    have l2 := H9.out.2.1
    refine ⟨Kq.below_blk (H2.out.1.trans (l2.mono H2.out.1.size)) H0.out.2.1 (Kq.blk_lt H0.out.2.1), ⟨by rw [hvs]; rfl, fun k hk => ?_⟩, H0.out.1.trans ((H2.out.1.trans (l2.mono H2.out.1.size)).mono (by have := H0.out.2.2.2; omega))⟩
    have fn := H2.out.2.2.1.mono (Rng.below (Rng.refl _ _ _) l2 (Nat.le_refl _)) (Nat.le_refl _) l2.size (Nat.le_refl _)
    have h8 : k < 9 := hk
    have : k = 0 ∨ k = 1 ∨ k = 2 ∨ k = 3 ∨ k = 4 ∨ k = 5 ∨ k = 6 ∨ k = 7 ∨ k = 8 := by omega
    rw [hvs]
    rcases this with rfl | rfl | rfl | rfl | rfl | rfl | rfl | rfl | rfl
    · exact ⟨_, _, _, rfl, rfl, rfl, H6.out.2.1.mono (Rng.below (Rng.refl _ _ _) l5 (Nat.le_refl _)) (Nat.le_refl _) l5.size (Nat.le_refl _)⟩
    · exact ⟨_, _, _, rfl, rfl, rfl, H2.out.2.1.mono (Rng.below (Rng.refl _ _ _) l2 (Nat.le_refl _)) (Nat.le_refl _) l2.size (Nat.le_refl _)⟩
    · exact ⟨_, _, _, rfl, rfl, rfl, H7.out.2.2.mono (Rng.below (Rng.refl _ _ _) l6 (Nat.le_refl _)) (Nat.le_refl _) l6.size (Nat.le_refl _)⟩
    · exact ⟨_, _, _, rfl, rfl, rfl, fn⟩
    · exact ⟨_, _, _, rfl, rfl, rfl, fn⟩
    · exact ⟨_, _, _, rfl, rfl, rfl, fn⟩
    · exact ⟨_, _, _, rfl, rfl, rfl, H8.out.2.2.mono (Rng.below (Rng.refl _ _ _) l7 (Nat.le_refl _)) (Nat.le_refl _) l7.size (Nat.le_refl _)⟩
    · exact ⟨_, _, _, rfl, rfl, rfl, fn⟩
    · exact ⟨_, _, _, rfl, rfl, rfl, H9.out.2.2⟩)
  refine wpAnyH_ready (rs := [14]) (by kernel_rfl) (by simp) ?_
  refine AllReadyH.cons rfl (fun K hK => ?_) AllReadyH.nil
  rw [if_pos (by kernel_rfl)]
  refine wp_store_row 70 (.tmp 0) (.tmp 18) (by rfl) R #[.func (.func nSa) #[] kSa, .func (.func nSb) #[] kSb, .func (.func nSc) #[] kSc, .func (.func nCa) #[] kCa, .func (.func nCb) #[] kCb, .func (.func nCc) #[] kCc, .func (.func nAa) #[] kAa, .func (.func nAb) #[] kAb, .func (.func nAc) #[] kAc, .func (.func nNa) #[] kNa, .func (.func nNb) #[] kNb, .func (.func nNc) #[] kNc, .func (.func nNa) #[] kNa, .func (.func nNb) #[] kNb, .func (.func nNc) #[] kNc, .func (.func nNa) #[] kNa, .func (.func nNb) #[] kNb, .func (.func nNc) #[] kNc, .func (.func nMa) #[] kMa, .func (.func nMb) #[] kMb, .func (.func nMc) #[] kMc, .func (.func nNa) #[] kNa, .func (.func nNb) #[] kNb, .func (.func nNc) #[] kNc, .func (.func nWa) #[] kWa, .func (.func nWb) #[] kWb, .func (.func nWc) #[] kWc] (by kernel_rfl) (by kernel_rfl) 70 _ HA.out.1 (by kernel_rfl) (by rfl) (by kernel_rfl) ?_
  have HV := Lib.hid hvs
  rw [← hvs]
  obtain ⟨w9, hw9⟩ : ∃ z, z = w8.setRow R vs := ⟨_, rfl⟩
  have HE : Hid (w9.heap[R]? = some (.cells vs 70 (0, 0)) ∧ FormsAre w.heap.size w9.heap.size w9 vs ∧ Below w.heap.size w w9) := Lib.hid (by
    have ks : Kq.Keeps (· = R) w8 w9 := by rw [hw9]; exact ⟨rfl, rfl, rfl, by simp, fun k _ hk => setRow_other _ _ k _ hk⟩
    refine ⟨by rw [hw9]; exact setRow_heap _ _ _ _ _ _ HA.out.1, ⟨HA.out.2.1.1, fun k hk => ?_⟩, ?_⟩
    · obtain ⟨f1, f2, f3, g1, g2, g3, g4⟩ := HA.out.2.1.2 k hk
      exact ⟨f1, f2, f3, g1, g2, g3, g4.mono (fun k h1 h2 => ks.block k h2 (fun e => by omega)) (by rw [← H0.out.2.2.1]; omega) ks.size (Nat.le_refl _)⟩
    · have hk := (Kq.Keeps.of_below (S := fun k => k = R) HA.out.2.2 (fun k h1 h2 => by have := H0.out.2.2.1; omega)).trans ks
      exact hk.below (Nat.le_refl _) (fun k _ e => by have := H0.out.2.2.1; omega))
  have hS9 : w9.cell? ⟨T1, 0, none⟩ = some (.func (.func nCa) #[] kCa) ∧ w9.cell? ⟨T1, 1, none⟩ = some (.func (.func nCb) #[] kCb) ∧ w9.cell? ⟨T1, 2, none⟩ = some (.func (.func nCc) #[] kCc) ∧ w9.cell? ⟨T2, 0, none⟩ = some (.func (.func nNa) #[] kNa) ∧ w9.cell? ⟨T2, 1, none⟩ = some (.func (.func nNb) #[] kNb) ∧ w9.cell? ⟨T2, 2, none⟩ = some (.func (.func nNc) #[] kNc) := by
    have h8 := HT.out w8 H9.out.2.1
    rw [hw9]
    refine ⟨?_, ?_, ?_, ?_, ?_, ?_⟩
    · rw [cell_setRow_other _ _ _ _ (fun e => HR1.out e.symm)]; exact h8.1
    · rw [cell_setRow_other _ _ _ _ (fun e => HR1.out e.symm)]; exact h8.2.1
    · rw [cell_setRow_other _ _ _ _ (fun e => HR1.out e.symm)]; exact h8.2.2.1
    · rw [cell_setRow_other _ _ _ _ (fun e => HR2.out e.symm)]; exact h8.2.2.2.1
    · rw [cell_setRow_other _ _ _ _ (fun e => HR2.out e.symm)]; exact h8.2.2.2.2.1
    · rw [cell_setRow_other _ _ _ _ (fun e => HR2.out e.symm)]; exact h8.2.2.2.2.2
  rw [← hw9]
  clear hw9 hS0
  refine hK.out _ _ hS9 (fun hS0 => ?_)
  clear hK K hS9 hS0
  refine wpAnyH_done (by kernel_rfl) ?_ _
  go_wp2
  have hsz : (Try.prog.info? 70).map (·.size) = some vs.size := by
    rw [HE.out.2.1.1]
    kernel_rfl
  refine bodyPost_ret (v := .agg vs) (results_cell_row (by rfl) _ _ R 70 vs (0, 0) _ (by rfl) HE.out.1 Try.underlying70 rfl hsz) rfl ?_
  exact ⟨_, rfl, HE.out.2⟩
end Go.Proofs.Ytjilbcefikbihaa
