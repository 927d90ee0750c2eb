/- Package script's Put of a kind. Condition: numbers are numbers, texts not too long. -/
import Derived.Test.YtjilbcefikbihaaScEnQ
namespace Go.Proofs.Ytjilbcefikbihaa
open Go.RowKit
set_option linter.unusedVariables false
set_option maxRecDepth 100000 in
set_option maxHeartbeats 8000000 in
theorem sc_put (a : SaV) (sv : Value) (n : Nat) (w : World) (hn : n < 9) (hk : a.k = (n : Int)) (hws : WsAt w sv a.ws) (hsl : ∀ b, sBlk sv = some b → b < w.heap.size) (hwf : a.wf) :
    Calls Try.prog 8 #[.agg #[.int .i64 a.k, .int .i64 a.c, .int .u64 a.t, .string a.d, .int .i64 a.n, .int .i64 a.mk, .int .i64 a.mt, .int .u64 a.mh, .int .i64 a.pf, .int .u64 a.pq, .int .u64 a.pt, .string a.pd, .string a.mp, sv]] w fun x w' => Below w.heap.size w w' ∧
      (a ≠ (fmOf n).keep a (zeroK n) → x = .returned (.tuple #[.string ⟨#[]⟩, .int .i64 5])) ∧
      (a = (fmOf n).keep a (zeroK n) → ¬ (fmOf n).ok a → x = .returned (.tuple #[.string ⟨#[]⟩, .int .i64 1])) ∧
      (a = (fmOf n).keep a (zeroK n) → (fmOf n).ok a → x = .returned (.tuple #[.string (txt ([n] ++ (fmOf n).enc a)), .int .i64 0])) := by
  have t0 : decide (a.k < 0) = false := decide_eq_false (by omega)
  have t1 : decide (9 ≤ a.k) = false := decide_eq_false (by omega)
  obtain ⟨A0, hA0⟩ : ∃ z, z = w.heap.size := ⟨_, rfl⟩
  obtain ⟨wa, hwa⟩ : ∃ z, z = w.alloc (.cells #[.int .i64 a.k, .int .i64 a.c, .int .u64 a.t, .string a.d, .int .i64 a.n, .int .i64 a.mk, .int .i64 a.mt, .int .u64 a.mh, .int .i64 a.pf, .int .u64 a.pq, .int .u64 a.pt, .string a.pd, .string a.mp, sv] 29) := ⟨_, rfl⟩
  have HA : Hid (ActAt wa A0 a sv 29 [] ∧ Below w.heap.size w wa ∧ A0 = w.heap.size ∧ (∀ b, sBlk sv = some b → b < w.heap.size)) := Lib.hid (by
    have hb : Below w.heap.size w wa := by rw [hwa]; exact Kq.below_alloc _ _
    refine ⟨⟨by rw [hwa, hA0]; exact Kq.blk_new _ _ _ _, hws.keeps (S := fun _ => False) (Kq.Keeps.of_below hb (fun k h1 h2 => absurd h1 (Nat.not_le.2 h2))) (fun _ _ => id), fun h => ?_, fun b h => Nat.lt_of_lt_of_le (hsl b h) hb.size⟩, hb, hA0, hsl⟩
    have := hsl _ h
    omega)
  have HWF := Lib.hid hwf
  have HN := Lib.hid hn
  have c0 : wa.cell? ⟨A0, 0, none⟩ = some (.int .i64 (n : Int)) := by rw [← hk]; exact Kq.blk_cell HA.out.1.blk 0
  have HK := Lib.hid hk
  rw [hk] at t0 t1 hwa ⊢
  clear hws hsl hwf hn hk
  go_enter Try.func8, Try.ntmps8
  go_wp2
  rw [← hwa, ← hA0]
  clear hwa hA0
  have HZ : Hid (Below wa.heap.size wa wa.drew) := Lib.hid (Below.refl _ _).drew
  have hS : wa.drew.cell? ⟨A0, 0, none⟩ = some (.int .i64 (n : Int)) := c0
  refine wp_region_held_drew (S := fun cur => cur.cell? ⟨A0, 0, none⟩ = some (.int .i64 (n : Int))) (by kernel_rfl) hS (fun hS0 => ?_)
  obtain ⟨wd, hwd⟩ : ∃ z, z = wa.drew := ⟨_, rfl⟩
  rw [← hwd] at hS0 HZ ⊢
  clear hwd hS c0
  refine wpAnyH_take (i := 1) (v := ?_) rfl (by kernel_rfl) (by kernel_rfl) (by kernel_rfl) (fun _ _ _ h => h) (Or.inl ⟨by kernel_rfl, ?_⟩) (by assumption) ?_
  rotate_left
  · intro w hSw; (try dsimp only at hSw); go_simp; (try with_reducible rfl)
  refine wpAnyH_take (i := 2) (v := ?_) rfl (by kernel_rfl) (by kernel_rfl) (by kernel_rfl) (fun _ _ _ h => h) (Or.inl ⟨by kernel_rfl, ?_⟩) (by assumption) ?_
  rotate_left
  · intro w hSw; (try dsimp only at hSw); go_simp; (try with_reducible rfl)
  refine wpAnyH_ready (rs := [0, 4]) (by kernel_rfl) (by simp) ?_
  refine AllReadyH.cons rfl (fun K hK => ?g0) (AllReadyH.cons rfl (fun K hK => ?g4) AllReadyH.nil)
  case' g0 =>
    go_simp
    refine (sc_forms wd).mono ?_
    rintro x w2 ⟨vs, rfl, hF, b2⟩
    obtain ⟨f1, f2, f3, h1, h2, h3, hform⟩ := hF.2 n (by have := HN.out; exact this)
    obtain ⟨n1, c1, n2, c2, n3, c3, hsh⟩ := hform.shape
    have hix : ∀ wx, (Instr.index 70 (.agg vs) (.int .i64 (n : Int))).run Try.prog wx = .ok (.agg #[f1, f2, f3]) wx := forms_ix vs hF.1 n HN.out f1 f2 f3 h1 h2 h3
    injection hsh with hsh
    simp only [Array.mk.injEq, List.cons.injEq, and_true] at hsh
    obtain ⟨rfl, rfl, rfl⟩ := hsh
    have HF := Lib.hid (And.intro hform b2)
    have HFM : Hid (formsL[n]'HN.out = fmOf n) := Lib.hid (by
      show _ = (formsL[n]?).getD _
      rw [List.getElem?_eq_getElem HN.out]; rfl)
    have c2' : w2.cell? ⟨A0, 0, none⟩ = some (.int .i64 (n : Int)) := (b2.cell (p := ⟨A0, 0, none⟩) (Nat.lt_of_lt_of_le HA.out.1.lt HZ.out.size)).trans hS0
    clear h1 h2 h3 hform b2 hF hS0
    refine hK.out _ _ c2' (fun hS0 => ?_)
    clear hK K c2'
    refine wpAnyH_take (i := 3) (v := ?_) rfl (by kernel_rfl) (by kernel_rfl) (by kernel_rfl) (fun _ _ _ h => h) (Or.inl ⟨by kernel_rfl, ?_⟩) (by assumption) ?_
    rotate_left
    · intro w hSw; (try dsimp only at hSw); go_simp; (try with_reducible rfl)
    refine wpAnyH_ready (rs := [4]) (by kernel_rfl) (by simp) ?_
    refine AllReadyH.cons rfl (fun K hK => ?_) AllReadyH.nil
    go_simp
    have hcq : (w2.alloc (.cells #[.nilFunc, .nilFunc, .nilFunc] 69)).cell? ⟨A0, 0, none⟩ = some (.int .i64 (n : Int)) := ((Kq.below_alloc w2 _).cell (p := ⟨A0, 0, none⟩) (Nat.lt_of_lt_of_le HA.out.1.lt (Nat.le_trans HZ.out.size HF.out.2.size))).trans hS0
    refine hK.out _ _ hcq (fun hS1 => ?_)
    clear hK K
    refine wpAnyH_ready (rs := [5]) (by kernel_rfl) (by simp) ?_
    refine AllReadyH.cons rfl (fun K hK => ?_) AllReadyH.nil
    go_simp
    obtain ⟨lo, hlo⟩ : ∃ z, z = wd.heap.size := ⟨_, rfl⟩
    obtain ⟨hi, hhi⟩ : ∃ z, z = w2.heap.size := ⟨_, rfl⟩
    obtain ⟨P, hP⟩ : ∃ z, z = w2.heap.size := ⟨_, rfl⟩
    obtain ⟨w3, hw3⟩ : ∃ z, z = w2.alloc (.cells #[.func (.func n1) #[] c1, .func (.func n2) #[] c2, .func (.func n3) #[] c3] 69) := ⟨_, rfl⟩
    rw [← hw3, ← hP]
    have H3 : Hid (w3.heap[P]? = some (.cells #[.func (.func n1) #[] c1, .func (.func n2) #[] c2, .func (.func n3) #[] c3] 69 (0, 0)) ∧ ActAt w3 A0 a sv 29 [] ∧ FormIs lo hi w3 (.agg #[.func (.func n1) #[] c1, .func (.func n2) #[] c2, .func (.func n3) #[] c3]) (fmOf n) ∧ hi ≤ w3.heap.size ∧ Below wa.heap.size wa w3) := Lib.hid (by
      rw [hlo, hhi]
      have b3 : Below w2.heap.size w2 w3 := by rw [hw3]; exact Kq.below_alloc _ _
      have ball : Below wa.heap.size wa w3 := HZ.out.trans ((HF.out.2.trans (b3.mono HF.out.2.size)).mono HZ.out.size)
      refine ⟨by rw [hw3, hP]; exact Kq.blk_new _ _ _ _, HA.out.1.keeps (S := fun _ => False) (Kq.Keeps.of_below ball (fun k h1 h2 => absurd h1 (Nat.not_le.2 h2))) id (fun _ _ => id), ?_, b3.size, ball⟩
      rw [← HFM.out]
      exact HF.out.1.mono (Rng.below (Rng.refl _ _ _) b3 (Nat.le_refl _)) (Nat.le_refl _) (Nat.le_refl _) b3.size)
    clear hw3 hP hcq hS0 hS1 hix HFM hlo hhi HF
  case' g4 =>
    go_simp
    obtain ⟨P, hP⟩ : ∃ z, z = wd.heap.size := ⟨_, rfl⟩
    obtain ⟨wp, hwp⟩ : ∃ z, z = wd.alloc (.cells #[.nilFunc, .nilFunc, .nilFunc] 69) := ⟨_, rfl⟩
    have HP : Hid (Below wd.heap.size wd wp ∧ wp.heap[P]? = some (.cells #[.nilFunc, .nilFunc, .nilFunc] 69 (0, 0)) ∧ P + 1 ≤ wp.heap.size ∧ A0 ≠ P ∧ wa.heap.size ≤ P) := Lib.hid (by
      refine ⟨by rw [hwp]; exact Kq.below_alloc _ _, by rw [hwp, hP]; exact Kq.blk_new _ _ _ _, by rw [hwp, hP]; simp, ?_, by rw [hP]; exact HZ.out.size⟩
      have := HA.out.1.lt
      have := HZ.out.size
      omega)
    have hcq : (wd.alloc (.cells #[.nilFunc, .nilFunc, .nilFunc] 69)).cell? ⟨A0, 0, none⟩ = some (.int .i64 (n : Int)) := ((Kq.below_alloc wd _).cell (p := ⟨A0, 0, none⟩) (Nat.lt_of_lt_of_le HA.out.1.lt HZ.out.size)).trans hS0
    refine hK.out _ _ hcq (fun hS1 => ?_)
    clear hK K
    rw [← hwp] at hS1 hcq ⊢
    rw [← hP]
    clear hP hwp hS0
    refine wpAnyH_ready (rs := [0]) (by kernel_rfl) (by simp) ?_
    refine AllReadyH.cons rfl (fun K hK => ?_) AllReadyH.nil
    go_simp
    refine (sc_forms wp).mono ?_
    rintro x w2 ⟨vs, rfl, hF, b2⟩
    obtain ⟨f1, f2, f3, h1, h2, h3, hform⟩ := hF.2 n (by have := HN.out; exact this)
    obtain ⟨n1, c1, n2, c2, n3, c3, hsh⟩ := hform.shape
    have hix : ∀ wx, (Instr.index 70 (.agg vs) (.int .i64 (n : Int))).run Try.prog wx = .ok (.agg #[f1, f2, f3]) wx := forms_ix vs hF.1 n HN.out f1 f2 f3 h1 h2 h3
    injection hsh with hsh
    simp only [Array.mk.injEq, List.cons.injEq, and_true] at hsh
    obtain ⟨rfl, rfl, rfl⟩ := hsh
    have HF := Lib.hid (And.intro hform b2)
    have HFM : Hid (formsL[n]'HN.out = fmOf n) := Lib.hid (by
      show _ = (formsL[n]?).getD _
      rw [List.getElem?_eq_getElem HN.out]; rfl)
    have c2' : w2.cell? ⟨A0, 0, none⟩ = some (.int .i64 (n : Int)) := (b2.cell (p := ⟨A0, 0, none⟩) (Nat.lt_of_lt_of_le HA.out.1.lt (Nat.le_trans HZ.out.size HP.out.1.size))).trans hS1
    have HP2 : Hid (w2.heap[P]? = some (.cells #[.nilFunc, .nilFunc, .nilFunc] 69 (0, 0))) := Lib.hid (Kq.below_blk b2 HP.out.2.1 (Nat.lt_of_lt_of_le (Nat.lt_succ_self P) HP.out.2.2.1))
    clear h1 h2 h3 hform b2 hF hcq hS1
    refine hK.out _ _ c2' (fun hS0 => ?_)
    clear hK K c2'
    refine wpAnyH_take (i := 3) (v := ?_) rfl (by kernel_rfl) (by kernel_rfl) (by kernel_rfl) (fun _ _ _ h => h) (Or.inl ⟨by kernel_rfl, ?_⟩) (by assumption) ?_
    rotate_left
    · intro w hSw; (try dsimp only at hSw); go_simp; (try with_reducible rfl)
    have x0 : w2.cell? ⟨P, 0, none⟩ = some .nilFunc := Kq.blk_cell HP2.out 0
    have x1 : w2.cell? ⟨P, 1, none⟩ = some .nilFunc := Kq.blk_cell HP2.out 1
    have x2 : w2.cell? ⟨P, 2, none⟩ = some .nilFunc := Kq.blk_cell HP2.out 2
    have y0 : w2.frozen? ⟨P, 0, none⟩ = false := Kq.blk_free HP2.out 0
    have y1 : w2.frozen? ⟨P, 1, none⟩ = false := Kq.blk_free HP2.out 1
    have y2 : w2.frozen? ⟨P, 2, none⟩ = false := Kq.blk_free HP2.out 2
    refine wpAnyH_ready (rs := [5]) (by kernel_rfl) (by simp) ?_
    refine AllReadyH.cons rfl (fun K hK => ?_) AllReadyH.nil
    go_simp
    obtain ⟨lo, hlo⟩ : ∃ z, z = wp.heap.size := ⟨_, rfl⟩
    obtain ⟨hi, hhi⟩ : ∃ z, z = w2.heap.size := ⟨_, rfl⟩
    obtain ⟨w3, hw3⟩ : ∃ z, z = ((w2.setCell ⟨P, 0, none⟩ (.func (.func n1) #[] c1)).setCell ⟨P, 1, none⟩ (.func (.func n2) #[] c2)).setCell ⟨P, 2, none⟩ (.func (.func n3) #[] c3) := ⟨_, rfl⟩
    rw [← hw3]
    have H3 : Hid (w3.heap[P]? = some (.cells #[.func (.func n1) #[] c1, .func (.func n2) #[] c2, .func (.func n3) #[] c3] 69 (0, 0)) ∧ ActAt w3 A0 a sv 29 [] ∧ FormIs lo hi w3 (.agg #[.func (.func n1) #[] c1, .func (.func n2) #[] c2, .func (.func n3) #[] c3]) (fmOf n) ∧ hi ≤ w3.heap.size ∧ Below wa.heap.size wa w3) := Lib.hid (by
      rw [hlo, hhi]
      have k3 : Kq.Keeps (· = P) w2 w3 := by
        rw [hw3]
        exact ((Kq.Keeps.setCell (S := (· = P)) _ _ _ rfl).trans (Kq.Keeps.setCell (S := (· = P)) _ _ _ rfl)).trans (Kq.Keeps.setCell (S := (· = P)) _ _ _ rfl)
      have b2 : Below wa.heap.size wa w2 := HZ.out.trans ((HP.out.1.trans (HF.out.2.mono HP.out.1.size)).mono HZ.out.size)
      have k2 : Kq.Keeps (· = P) wa w2 := Kq.Keeps.of_below b2 (fun k h1 h2 => absurd h1 (Nat.not_le.2 h2))
      refine ⟨by rw [hw3]; exact Kq.blk_set (Kq.blk_set (Kq.blk_set HP2.out 0 _) 1 _) 2 _, HA.out.1.keeps (k2.trans k3) HP.out.2.2.2.1 (fun b hb e => by have := HA.out.1.sl b hb; have := HP.out.2.2.2.2; omega), ?_, k3.size, (k2.trans k3).below (Nat.le_refl _) (fun k hk e => by have := HP.out.2.2.2.2; omega)⟩
      rw [← HFM.out]
      exact HF.out.1.mono (fun k h1 h2 => k3.block k h2 (by have := HP.out.2.2.1; omega)) (Nat.le_refl _) (Nat.le_refl _) k3.size)
    clear hw3 x0 x1 x2 y0 y1 y2 hS0 hix HFM hlo hhi HF HP HP2
  all_goals
    have c3' : w3.cell? ⟨A0, 0, none⟩ = some (.int .i64 (n : Int)) := by rw [← HK.out]; exact Kq.blk_cell H3.out.2.1.blk 0
    refine hK.out _ _ c3' (fun hS2 => ?_)
    clear hK K hS2
    refine wpAnyH_done (by kernel_rfl) ?_ _
    obtain ⟨w4, hw4⟩ : ∃ z, z = w3.alloc (.cells #[.int .i64 (n : Int), .int .i64 0, .int .u64 0, .string ⟨#[]⟩, .int .i64 0, .int .i64 0, .int .i64 0, .int .u64 0, .int .i64 0, .int .u64 0, .int .u64 0, .string ⟨#[]⟩, .string ⟨#[]⟩, .slice none 0 0] 29) := ⟨_, rfl⟩
    obtain ⟨K0, hK0⟩ : ∃ z, z = w3.heap.size := ⟨_, rfl⟩
    have b4 : Below w3.heap.size w3 w4 := by rw [hw4]; exact Kq.below_alloc _ _
    have H4 : Hid (w4.heap[P]? = some (.cells #[.func (.func n1) #[] c1, .func (.func n2) #[] c2, .func (.func n3) #[] c3] 69 (0, 0)) ∧ ActAt w4 A0 a sv 29 [] ∧ ActAt w4 K0 (zeroK n) (.slice none 0 0) 29 [] ∧ Below w3.heap.size w3 w4 ∧ K0 = w3.heap.size) := Lib.hid ⟨Kq.below_blk b4 H3.out.1 (Kq.blk_lt H3.out.1), H3.out.2.1.keeps (S := fun _ => False) (Kq.Keeps.of_below b4 (fun k h1 h2 => absurd h1 (Nat.not_le.2 h2))) id (fun _ _ => id), ⟨by rw [hw4, hK0]; exact Kq.blk_new _ _ _ _, ⟨none, 0, rfl, fun j hj => by cases hj⟩, (fun h => by cases h), (fun b h => by cases h)⟩, b4, hK0⟩
    have p2 : (w3.alloc (.cells #[.int .i64 (n : Int), .int .i64 0, .int .u64 0, .string ⟨#[]⟩, .int .i64 0, .int .i64 0, .int .i64 0, .int .u64 0, .int .i64 0, .int .u64 0, .int .u64 0, .string ⟨#[]⟩, .string ⟨#[]⟩, .slice none 0 0] 29)).cell? ⟨P, 2, none⟩ = some (.func (.func n3) #[] c3) := by rw [← hw4]; exact Kq.blk_cell H4.out.1 2
    clear b4
    obtain ⟨_, g1, g2, g3, hg, _, _, m3, d3, ⟨he3, hrun⟩, hkeep⟩ := id H3.out.2.2.1
    injection hg with hg
    simp only [Array.mk.injEq, List.cons.injEq, and_true] at hg
    obtain ⟨rfl, rfl, rfl⟩ := hg
    injection he3 with q1 q2 q3
    injection q1 with q1
    subst q1 q3
    have HKP := Lib.hid hkeep
    clear hkeep q2
    go_wp2_with fail
    rw [← hw4, ← hK0]
    clear p2 hw4 hK0
    have HAK : Hid (A0 ≠ K0 ∧ sBlk sv ≠ some K0 ∧ hi ≤ K0 ∧ P ≠ K0) := Lib.hid (by
      have h1 := HA.out.1.lt
      have h2 := H3.out.2.2.2.2.size
      have h3 := H4.out.2.2.2.2
      have h4 := Kq.blk_lt H3.out.1
      have h5 := H3.out.2.2.2.1
      exact ⟨by omega, fun h => by have := HA.out.1.sl _ h; omega, by omega, by omega⟩)
    refine (HKP.out w4 (Rng.below (Rng.refl _ _ _) H4.out.2.2.2.1 H3.out.2.2.2.1) A0 a sv 29 [] K0 (zeroK n) (.slice none 0 0) 29 [] H4.out.2.1 H4.out.2.2.1 HAK.out.2.2.1 HAK.out.1 HAK.out.2.1).mono ?_
    rintro x w5 ⟨rfl, k5, sv3, hact5, hor⟩
    clear hrun
    obtain ⟨b, hb⟩ : ∃ z, z = (fmOf n).keep a (zeroK n) := ⟨_, rfl⟩
    rw [← hb] at hact5
    have H5 : Hid (ActAt w5 A0 a sv 29 [] ∧ ActAt w5 K0 b sv3 29 [] ∧ w5.heap[P]? = some (.cells #[.func (.func n1) #[] c1, .func (.func n2) #[] c2, .func (.func n3) #[] c3] 69 (0, 0)) ∧ Kq.Keeps (· = K0) w4 w5) := Lib.hid ⟨H4.out.2.1.keeps k5 HAK.out.1 (fun b hb hbB => HAK.out.2.1 (by rw [hb, hbB])), hact5, k5.blk H4.out.1 HAK.out.2.2.2, k5⟩
    have HBB := Lib.hid hb
    clear hact5 k5 hor hb
    obtain ⟨A1, cap1, hs1, -⟩ := id H5.out.1.ws
    obtain ⟨A2, cap2, hs2, -⟩ := id H5.out.2.1.ws
    have HSM := Lib.hid (sc_same sv sv3 a b w5 H5.out.1.ws H5.out.2.1.ws)
    have HLB : Hid (b.ws.length ≤ 1000) := Lib.hid (by
      have h1 := HWF.out.ws
      rw [HBB.out]
      rcases keepWs n HN.out a (zeroK n) with h | h <;> rw [h]
      · omega
      · exact Nat.zero_le _)
    subst hs1 hs2
    have xa0 : w5.cell? ⟨A0, 0, none⟩ = some (.int .i64 a.k) := Kq.blk_cell H5.out.1.blk 0
    have xb0 : w5.cell? ⟨K0, 0, none⟩ = some (.int .i64 b.k) := Kq.blk_cell H5.out.2.1.blk 0
    have xa1 : w5.cell? ⟨A0, 1, none⟩ = some (.int .i64 a.c) := Kq.blk_cell H5.out.1.blk 1
    have xb1 : w5.cell? ⟨K0, 1, none⟩ = some (.int .i64 b.c) := Kq.blk_cell H5.out.2.1.blk 1
    have xa2 : w5.cell? ⟨A0, 2, none⟩ = some (.int .u64 a.t) := Kq.blk_cell H5.out.1.blk 2
    have xb2 : w5.cell? ⟨K0, 2, none⟩ = some (.int .u64 b.t) := Kq.blk_cell H5.out.2.1.blk 2
    have xa3 : w5.cell? ⟨A0, 3, none⟩ = some (.string a.d) := Kq.blk_cell H5.out.1.blk 3
    have xb3 : w5.cell? ⟨K0, 3, none⟩ = some (.string b.d) := Kq.blk_cell H5.out.2.1.blk 3
    have xa4 : w5.cell? ⟨A0, 4, none⟩ = some (.int .i64 a.n) := Kq.blk_cell H5.out.1.blk 4
    have xb4 : w5.cell? ⟨K0, 4, none⟩ = some (.int .i64 b.n) := Kq.blk_cell H5.out.2.1.blk 4
    have xa5 : w5.cell? ⟨A0, 5, none⟩ = some (.int .i64 a.mk) := Kq.blk_cell H5.out.1.blk 5
    have xb5 : w5.cell? ⟨K0, 5, none⟩ = some (.int .i64 b.mk) := Kq.blk_cell H5.out.2.1.blk 5
    have xa6 : w5.cell? ⟨A0, 6, none⟩ = some (.int .i64 a.mt) := Kq.blk_cell H5.out.1.blk 6
    have xb6 : w5.cell? ⟨K0, 6, none⟩ = some (.int .i64 b.mt) := Kq.blk_cell H5.out.2.1.blk 6
    have xa7 : w5.cell? ⟨A0, 7, none⟩ = some (.int .u64 a.mh) := Kq.blk_cell H5.out.1.blk 7
    have xb7 : w5.cell? ⟨K0, 7, none⟩ = some (.int .u64 b.mh) := Kq.blk_cell H5.out.2.1.blk 7
    have xa8 : w5.cell? ⟨A0, 8, none⟩ = some (.int .i64 a.pf) := Kq.blk_cell H5.out.1.blk 8
    have xb8 : w5.cell? ⟨K0, 8, none⟩ = some (.int .i64 b.pf) := Kq.blk_cell H5.out.2.1.blk 8
    have xa9 : w5.cell? ⟨A0, 9, none⟩ = some (.int .u64 a.pq) := Kq.blk_cell H5.out.1.blk 9
    have xb9 : w5.cell? ⟨K0, 9, none⟩ = some (.int .u64 b.pq) := Kq.blk_cell H5.out.2.1.blk 9
    have xa10 : w5.cell? ⟨A0, 10, none⟩ = some (.int .u64 a.pt) := Kq.blk_cell H5.out.1.blk 10
    have xb10 : w5.cell? ⟨K0, 10, none⟩ = some (.int .u64 b.pt) := Kq.blk_cell H5.out.2.1.blk 10
    have xa11 : w5.cell? ⟨A0, 11, none⟩ = some (.string a.pd) := Kq.blk_cell H5.out.1.blk 11
    have xb11 : w5.cell? ⟨K0, 11, none⟩ = some (.string b.pd) := Kq.blk_cell H5.out.2.1.blk 11
    have xa12 : w5.cell? ⟨A0, 12, none⟩ = some (.string a.mp) := Kq.blk_cell H5.out.1.blk 12
    have xb12 : w5.cell? ⟨K0, 12, none⟩ = some (.string b.mp) := Kq.blk_cell H5.out.2.1.blk 12
    have xa13 : w5.cell? ⟨A0, 13, none⟩ = some (.slice A1 a.ws.length cap1) := Kq.blk_cell H5.out.1.blk 13
    have xb13 : w5.cell? ⟨K0, 13, none⟩ = some (.slice A2 b.ws.length cap2) := Kq.blk_cell H5.out.2.1.blk 13
    have xp0 : w5.cell? ⟨P, 0, none⟩ = some (.func (.func n1) #[] c1) := Kq.blk_cell H5.out.2.2.1 0
    go_wp2_with fail
    refine (HSM.out (by have := HWF.out.ws; omega) HLB.out).mono ?_
    rintro x w6 ⟨rfl, b6⟩
    have H6 : Hid (Below w5.heap.size w5 w6 ∧ Below w.heap.size w w6) := Lib.hid (by
      have k4 : Kq.Keeps (fun k => k = K0) w w4 := Kq.Keeps.of_below (HA.out.2.1.trans ((H3.out.2.2.2.2.trans (H4.out.2.2.2.1.mono H3.out.2.2.2.2.size)).mono HA.out.2.1.size)) (fun k h1 h2 => absurd h1 (Nat.not_le.2 h2))
      have h9 : w.heap.size ≤ K0 := by
        rw [H4.out.2.2.2.2]
        exact Nat.le_trans HA.out.2.1.size H3.out.2.2.2.2.size
      have k5 := (k4.trans H5.out.2.2.2).below (Nat.le_refl _) (fun k _ e => by omega)
      exact ⟨b6, k5.trans (b6.mono k5.size)⟩)
    obtain ⟨r, hr⟩ : ∃ r, r = decide (a = b) := ⟨_, rfl⟩
    rw [← hr]
    have HR := Lib.hid hr
    clear b6 hr
    cases r with
    | false =>
      go_wp2
      go_ret2
      have hne : a ≠ (fmOf n).keep a (zeroK n) := by rw [← HBB.out]; exact of_decide_eq_false HR.out.symm
      exact ⟨H6.out.2, fun _ => rfl, fun h => absurd h hne, fun h => absurd h hne⟩
    | true =>
      obtain ⟨W, hW⟩ : ∃ z, z = w6.heap.size := ⟨_, rfl⟩
      obtain ⟨w7, hw7⟩ : ∃ z, z = w6.alloc (.cells #[.int .i64 0, .slice none 0 0] 78) := ⟨_, rfl⟩
      have H7 : Hid (Wr w7 W W 0 (.slice none 0 0) [] ∧ Below w6.heap.size w6 w7 ∧ W = w6.heap.size) := Lib.hid (by
        refine ⟨?_, by rw [hw7]; exact Kq.below_alloc _ _, hW⟩
        rw [hw7, hW]
        exact wr_new w6)
      have hk7 : (w6.alloc (.cells #[.int .i64 0, .slice none 0 0] 78)).cell? ⟨A0, 0, none⟩ = some (.int .i64 (n : Int)) := by
        rw [← hw7, ← HK.out]
        exact (H7.out.2.1.cell (p := ⟨A0, 0, none⟩) (Nat.lt_of_lt_of_le H5.out.1.lt H6.out.1.size)).trans ((H6.out.1.cell (p := ⟨A0, 0, none⟩) H5.out.1.lt).trans (Kq.blk_cell H5.out.1.blk 0))
      go_wp2_with fail
      rw [← hw7, ← hW]
      clear hw7 hW hk7
      refine (wr_byte_step W W 0 (.slice none 0 0) [] (n : Int) w7 H7.out.1 (by decide)).mono ?_
      intro x w8 hp
      have hx := hp.choose_spec.choose_spec.1.1
      subst hx
      have HE := Lib.hid (keepsHi n HN.out a)
      obtain ⟨e1, l1, ⟨hxx, v1, g1, g2, g3⟩, hlen, hy, -⟩ := hp
      obtain ⟨rfl, rfl⟩ := hy (by have := HN.out; omega)
      clear hxx hlen hy
      have H8 : Hid (Wr w8 W W 0 v1 [n] ∧ Rng lo hi w3 w8 ∧ ActAt w8 A0 a (.slice A1 a.ws.length cap1) 29 [] ∧ w8.heap[P]? = some (.cells #[.func (.func n1) #[] c1, .func (.func n2) #[] c2, .func (.func n3) #[] c3] 69 (0, 0)) ∧ Below w.heap.size w w8 ∧ hi ≤ W ∧ A0 ≠ W ∧ w.heap.size ≤ W ∧ sBlk (.slice A1 a.ws.length cap1) ≠ some W ∧ (∀ k, v1.ownBlock = some k → W ≤ k)) := Lib.hid (by
        have kk : Kq.Keeps (· = W) w7 w8 := g2.mono (fun k hk h => h.elim id (fun h => by cases h))
        have hv1 : ∀ k, v1.ownBlock = some k → W ≤ k := fun k hk => by
          rcases g3 k hk with h | h
          · cases h
          · exact Nat.le_trans (by rw [H7.out.2.2]; exact H7.out.2.1.size) h
        have s4 := H4.out.2.2.2.1.size
        have s5 := H5.out.2.2.2.size
        have s6 := H6.out.1.size
        have hWe := H7.out.2.2
        have hAl := H5.out.1.lt
        have hPl := Kq.blk_lt H5.out.2.2.1
        have hh3 := H3.out.2.2.2.1
        have hW2 : hi ≤ W := by omega
        have hAW : A0 ≠ W := by omega
        have hsz : w.heap.size ≤ W := by rw [hWe]; exact H6.out.2.size
        have hsW : sBlk (.slice A1 a.ws.length cap1) ≠ some W := fun h => by have := H5.out.1.sl _ h; omega
        have k67 : Kq.Keeps (· = W) w6 w7 := Kq.Keeps.of_below H7.out.2.1 (fun k h1 h2 => absurd h1 (Nat.not_le.2 h2))
        have k56 : Kq.Keeps (· = W) w5 w6 := Kq.Keeps.of_below H6.out.1 (fun k h1 h2 => absurd h1 (Nat.not_le.2 h2))
        have k58 := (k56.trans k67).trans kk
        refine ⟨g1, ?_, H5.out.1.keeps k58 hAW (fun b hb hbW => hsW (by rw [hb, hbW])), k58.blk H5.out.2.2.1 (by show ¬ P = W; omega), ?_, hW2, hAW, hsz, hsW, hv1⟩
        · refine Rng.keeps (Rng.keeps (Rng.below (Rng.refl _ _ _) H4.out.2.2.2.1 hh3) H5.out.2.2.2 (fun k hk => by have := HAK.out.2.2.1; omega) (by omega)) k58 (fun k hk => by omega) (by omega)
        · have kw6 : Kq.Keeps (· = W) w w6 := Kq.Keeps.of_below H6.out.2 (fun k h1 h2 => absurd h1 (Nat.not_le.2 h2))
          exact ((kw6.trans k67).trans kk).below (Nat.le_refl _) (fun k hk e => by omega))
      clear g1 g2 g3
      have HQ : Hid (a = (fmOf n).keep a (zeroK n)) := Lib.hid ((of_decide_eq_true HR.out.symm).trans HBB.out)
      have p0 : w8.cell? ⟨P, 0, none⟩ = some (.func (.func n1) #[] c1) := Kq.blk_cell H8.out.2.2.2.1 0
      obtain ⟨_, y1, y2, y3, hyg, ⟨m1, d1, ⟨he1, hrun1⟩, hwrite⟩, _, _⟩ := id H3.out.2.2.1
      injection hyg with hyg
      simp only [Array.mk.injEq, List.cons.injEq, and_true] at hyg
      obtain ⟨rfl, rfl, rfl⟩ := hyg
      injection he1 with q1 q2 q3
      injection q1 with q1
      subst q1 q3
      have HWP := Lib.hid hwrite
      clear hwrite q2
      go_wp2_with fail
      refine (HWP.out w8 H8.out.2.1 W W 0 v1 [n] A0 a _ 29 [] H8.out.1 H8.out.2.2.2.2.2.1 H8.out.2.2.2.2.2.1 H8.out.2.2.1 HWF.out H8.out.2.2.2.2.2.2.1 (fun k hk => ⟨by have h1 := H8.out.2.2.2.2.2.2.2.2.2 k hk; have h2 := H5.out.1.lt; have h3 := H6.out.1.size; have h4 := H7.out.2.2; omega, fun hh => by have h1 := H8.out.2.2.2.2.2.2.2.2.2 k hk; have h2 := H5.out.1.sl _ hh; have h3 := H6.out.1.size; have h4 := H7.out.2.2; omega⟩) H8.out.2.2.2.2.2.2.2.2.1 (by have := HE.out.1; simp only [List.length_singleton]; omega)).mono ?_
      intro x w9 hp
      clear hrun1 p0
      obtain ⟨e9, l9, ⟨rfl, v9, g1, g2, g3⟩, hlen, hyes, hno⟩ := hp
      have H9 : Hid (Wr w9 W W e9 v9 l9 ∧ Below w.heap.size w w9) := Lib.hid (by
        refine ⟨g1, ?_⟩
        have kw8 : Kq.Keeps (fun k => W ≤ k) w w8 := Kq.Keeps.of_below H8.out.2.2.2.2.1 (fun k h1 h2 => absurd h1 (Nat.not_le.2 h2))
        have kk : Kq.Keeps (fun k => W ≤ k) w8 w9 := g2.mono (fun k hk h => h.elim (fun h => Nat.le_of_eq h.symm) (fun h => H8.out.2.2.2.2.2.2.2.2.2 k h.symm))
        exact (kw8.trans kk).below (Nat.le_refl _) (fun k hk e => by have := H8.out.2.2.2.2.2.2.2.1; omega))
      clear g1 g2 g3 hlen
      by_cases hok : (fmOf n).ok a
      · obtain ⟨rfl, rfl⟩ := hyes hok
        have HOK := Lib.hid hok
        have HLT : Hid (∀ b ∈ [n] ++ (fmOf n).enc a, b < 256) := Lib.hid (fun b hb => by
          rcases List.mem_append.1 hb with h | h
          · have := HN.out; have := List.mem_singleton.1 h; omega
          · exact HE.out.2 HWF.out hok b h)
        clear hok hyes hno
        go_wp2_with fail
        refine (wr_bytes_ok W W v9 _ w9 H9.out.1 HLT.out).mono ?_
        rintro x w10 ⟨rfl, rfl⟩
        go_wp2
        go_ret2
        exact ⟨H9.out.2, fun h => absurd HQ.out h, fun _ h => absurd HOK.out h, fun _ _ => rfl⟩
      · obtain rfl := hno hok
        have HOK := Lib.hid hok
        clear hok hyes hno
        go_wp2_with fail
        refine (wr_bytes_bad W W _ v9 _ w9 H9.out.1 (by decide)).mono ?_
        rintro x w10 ⟨rfl, rfl⟩
        go_wp2
        go_ret2
        exact ⟨H9.out.2, fun h => absurd HQ.out h, fun _ _ => rfl, fun _ h => absurd h HOK.out⟩
end Go.Proofs.Ytjilbcefikbihaa
