import Derived.WalkSpells
import Derived.Outline
import Derived.Deep.QuietTactic
import Derived.Deep.RegionHeld
import Derived.Test.YtbpgfhcecanikaaGreatLwN0
namespace Go.Proofs.YtbpgfhcecanikaaGreat
open Go.RowKit
set_option linter.unusedVariables false
def exZ : List Nat := List.replicate (64 * 8) 0
def exD := opD 64 8 [] 0 exZ
def exV := opV 64 8 [] 0 exZ
def exC1 := ckAll 64 8 ⟨#[97]⟩ exD.1 exD.2.1 exD.2.2.1 exV
def exC2 := apAll 64 8 ⟨#[98]⟩ exC1.1.1 exC1.1.2.1 exC1.1.2.2.1 exC1.2
set_option maxRecDepth 1000000 in
theorem ex1 : exD.2.2.2 = 0 := by kernel_rfl
set_option maxRecDepth 1000000 in
theorem ex2 : (opR 64 8 [] 0 exZ).1.length = 0 := by kernel_rfl
set_option maxRecDepth 1000000 in
theorem ex3 : exC1.1.2.2.2 = 0 := by kernel_rfl
set_option maxRecDepth 1000000 in
theorem ex4 : exC2.1.2.2.2 = 0 := by kernel_rfl
set_option maxRecDepth 1000000 in
theorem ex5 : (opD 64 8 exC2.1.1 exC2.1.2.1 exC2.1.2.2.1).2.2.2 = 0 := by kernel_rfl
set_option maxRecDepth 1000000 in
theorem ex6 : (opR 64 8 exC2.1.1 exC2.1.2.1 exC2.1.2.2.1).1 = [⟨#[97]⟩, ⟨#[98]⟩] := by kernel_rfl
theorem siz8 : Siz 64 8 := ⟨by decide, by decide, by decide, by decide, by decide, by decide⟩
set_option maxRecDepth 100000 in
set_option maxHeartbeats 4000000 in
theorem lw_awake (w : World) : Calls Tryz.prog 7 #[] w fun x w' => x = .returned (.bool true) ∧ Below w.heap.size w w' := by
  go_enter Tryz.func7, Tryz.ntmps7
  go_wp2_with fail
  refine (pr_made 64 8 w siz8 (by decide)).mono ?_
  rintro x w1 ⟨A, rfl, hI⟩
  have hZ0 : StOk 64 8 0 [] 0 exZ := ⟨WsOk.nil 64 8, List.length_replicate .., fun x hx => by rw [List.eq_of_mem_replicate hx]; decide, Nat.zero_le _, Nat.zero_le _⟩
  have hoo : opO 64 8 [] 0 exZ = some exV := if_pos ex1
  have hll : opL 64 8 [] 0 exZ = (opR 64 8 [] 0 exZ).1 := if_pos ex1
  have HO := Lib.hid (And.intro (opD_ok hZ0) (opO_some hZ0 (by decide) _ hoo))
  obtain ⟨bufD, bufR, vl, vq, LA, cap, hp, h1, h2⟩ := hI
  rw [show List.replicate (64 * 8) 0 = exZ from rfl] at hp h1 h2
  rw [hoo] at h1 h2
  rw [hll, ex2] at hp
  obtain ⟨⟨L, v1⟩, rfl, he1⟩ : ∃ x, vl = some x ∧ x.2 = exV := by
    cases vl with
    | none => cases h1
    | some x => exact ⟨x, rfl, by simpa using h1⟩
  obtain ⟨⟨Q, v2⟩, rfl, he2⟩ : ∃ x, vq = some x ∧ x.2 = exV := by
    cases vq with
    | none => cases h2
    | some x => exact ⟨x, rfl, by simpa using h2⟩
  simp only at he1 he2
  obtain ⟨rl, hrl⟩ : ∃ z, z = (opR 64 8 [] 0 exZ).1 := ⟨_, rfl⟩
  rw [← hrl] at hp
  rw [he1, he2] at hp
  have E1 := Lib.hid (show (opD 64 8 [] 0 exZ).2.2.2 = 0 from ex1)
  have hpp : PrS w w1 A 64 8 1 bufD exD.1 exD.2.1 exD.2.2.1 (some (L, exV)) bufR exD.1 exD.2.1 exD.2.2.1 (some (Q, exV)) (pcells A (.pointer (some ⟨L, 0, none⟩)) exD.2.2.2 (.slice LA 0 cap) (.pointer (some ⟨Q, 0, none⟩))) LA rl := hp
  have H := Lib.hid hpp
  have p1 := hpp.c1
  have p3 := hpp.c3
  clear hp hpp h1 h2 hoo hll he1 he2 hrl hZ0 E1
  go_wp2_with fail
  refine (wl_segment H.out.wl (by decide) (by decide)).mono ?_
  rintro x w2 ⟨rfl, hb2⟩
  rw [show segN 8 = 3 from rfl]
  have H2 := Lib.hid (And.intro (H.out.below hb2).drew ((H.out.bel.trans (hb2.mono H.out.bel.size)).drew))
  clear hb2 p1 p3
  go_wp2_with fail
  refine wp_region_held_drew (S := fun w' => w'.cell? ⟨A.P, 1, none⟩ = some (.pointer (some ⟨L, 0, none⟩))) (by kernel_rfl) H2.out.1.c1 (fun hS0 => ?_)
  generalize w2.drew = z2 at *
  refine wpAnyH_take (i := 0) (v := ?_) rfl (by kernel_rfl) (by kernel_rfl) (by kernel_rfl) (fun _ _ _ h => h) (Or.inl ⟨by kernel_rfl, ?_⟩) (by assumption) ?_
  rotate_left
  · intro w hSw; (try dsimp only at hSw); go_simp; (try with_reducible rfl)
  refine wpAnyH_take (i := 1) (v := ?_) rfl (by kernel_rfl) (by kernel_rfl) (by kernel_rfl) (fun _ _ _ h => h) (Or.inl ⟨by kernel_rfl, ?_⟩) (by assumption) ?_
  rotate_left
  · intro w hSw; (try dsimp only at hSw); go_simp; (try with_reducible rfl)
  refine wpAnyH_take (i := 2) (v := ?_) rfl (by kernel_rfl) (by kernel_rfl) (by kernel_rfl) (fun _ _ _ h => h) (Or.inl ⟨by kernel_rfl, ?_⟩) (by assumption) ?_
  rotate_left
  · intro w hSw; (try dsimp only at hSw); go_simp; (try with_reducible rfl)
  refine wpAnyH_take (i := 3) (v := ?_) rfl (by kernel_rfl) (by kernel_rfl) (by kernel_rfl) (fun _ _ _ h => h) (Or.inl ⟨by kernel_rfl, ?_⟩) (by assumption) ?_
  rotate_left
  · intro w hSw; (try dsimp only at hSw); go_simp; (try with_reducible rfl)
  refine wpAnyH_take (i := 5) (v := ?_) rfl (by kernel_rfl) (by kernel_rfl) (by kernel_rfl) (fun _ _ _ h => h) (Or.inl ⟨by kernel_rfl, ?_⟩) (by assumption) ?_
  rotate_left
  · intro w hSw; (try dsimp only at hSw); go_simp; (try with_reducible rfl)
  refine wpAnyH_take (i := 6) (v := ?_) rfl (by kernel_rfl) (by kernel_rfl) (by kernel_rfl) (fun _ _ _ h => h) (Or.inl ⟨by kernel_rfl, ?_⟩) (by assumption) ?_
  rotate_left
  · intro w hSw; (try dsimp only at hSw); go_simp; (try with_reducible rfl)
  refine wpAnyH_take (i := 7) (v := ?_) rfl (by kernel_rfl) (by kernel_rfl) (by kernel_rfl) (fun _ _ _ h => h) (Or.inl ⟨by kernel_rfl, ?_⟩) (by assumption) ?_
  rotate_left
  · intro w hSw; (try dsimp only at hSw); go_simp; (try with_reducible rfl)
  refine wpAnyH_take (i := 8) (v := ?_) rfl (by kernel_rfl) (by kernel_rfl) (by kernel_rfl) (fun _ _ _ h => h) (Or.inl ⟨by kernel_rfl, ?_⟩) (by assumption) ?_
  rotate_left
  · intro w hSw; (try dsimp only at hSw); go_simp; (try with_reducible rfl)
  refine wpAnyH_ready (rs := [4]) (by kernel_rfl) (by simp) ?_
  refine AllReadyH.cons rfl (fun K hK => ?_) AllReadyH.nil
  go_simp
  refine (wl_ckpt H2.out.1.wl HO.out.1 (by decide) siz8 HO.out.2.2 HO.out.2.1 ⟨#[97]⟩ (by decide)).mono ?_
  rintro x z3 ⟨rfl, hr⟩
  obtain ⟨bufD3, h3⟩ := H2.out.1.stepA hr
  have H3 : Hid (PrS w z3 A 64 8 1 bufD3 exC1.1.1 exC1.1.2.1 exC1.1.2.2.1 (some (L, exC1.2)) bufR exD.1 exD.2.1 exD.2.2.1 (some (Q, exV)) (pcells A (.pointer (some ⟨L, 0, none⟩)) exD.2.2.2 (.slice LA 0 cap) (.pointer (some ⟨Q, 0, none⟩))) LA rl) := Lib.hid h3
  rw [show (ckAll 64 8 ⟨#[97]⟩ exD.1 exD.2.1 exD.2.2.1 exV).1.2.2.2 = 0 from ex3]
  have HO3 : Hid (StOk 64 8 (0 + 1 + 210) exC1.1.1 exC1.1.2.1 exC1.1.2.2.1 ∧ WvOk 8 exC1.2) := Lib.hid (ckAll_ok HO.out.1 siz8 HO.out.2.1)
  clear hS0 hr h3
  refine hK.out _ _ H3.out.c1 (fun hS0 => ?_)
  clear hK K
  refine wpAnyH_ready (rs := [9]) (by kernel_rfl) (by simp) ?_
  refine AllReadyH.cons rfl (fun K hK => ?_) AllReadyH.nil
  go_simp
  refine (wl_append H3.out.wl HO3.out.1 (by decide) siz8 HO.out.2.2 HO3.out.2 ⟨#[98]⟩).mono ?_
  rintro x z4 ⟨rfl, hr⟩
  obtain ⟨bufD4, h4⟩ := H3.out.stepA hr
  have H4 : Hid (PrS w z4 A 64 8 1 bufD4 exC2.1.1 exC2.1.2.1 exC2.1.2.2.1 (some (L, exC2.2)) bufR exD.1 exD.2.1 exD.2.2.1 (some (Q, exV)) (pcells A (.pointer (some ⟨L, 0, none⟩)) exD.2.2.2 (.slice LA 0 cap) (.pointer (some ⟨Q, 0, none⟩))) LA rl) := Lib.hid h4
  rw [show (apAll 64 8 ⟨#[98]⟩ exC1.1.1 exC1.1.2.1 exC1.1.2.2.1 exC1.2).1.2.2.2 = 0 from ex4]
  have HO4 : Hid (StOk 64 8 (0 + 1 + 210 + 200) exC2.1.1 exC2.1.2.1 exC2.1.2.2.1) := Lib.hid (apAll_ok HO3.out.1 siz8 HO3.out.2).1
  clear hS0 hr h4
  refine hK.out _ _ H4.out.c1 (fun hS0 => ?_)
  clear hK K
  refine wpAnyH_take (i := 10) (v := ?_) rfl (by kernel_rfl) (by kernel_rfl) (by kernel_rfl) (fun _ _ _ h => h) (Or.inl ⟨by kernel_rfl, ?_⟩) (by assumption) ?_
  rotate_left
  · intro w hSw; (try dsimp only at hSw); go_simp; (try with_reducible rfl)
  refine wpAnyH_take (i := 11) (v := ?_) rfl (by kernel_rfl) (by kernel_rfl) (by kernel_rfl) (fun _ _ _ h => h) (Or.inl ⟨by kernel_rfl, ?_⟩) (by assumption) ?_
  rotate_left
  · intro w hSw; (try dsimp only at hSw); go_simp; (try with_reducible rfl)
  refine wpAnyH_done (by kernel_rfl) ?_ _
  clear hS0
  go_simp
  have p0 := H4.out.c0
  go_wp2_with fail
  refine (wl_open_all A.bD A.D A.S 64 8 (0 + 1 + 210 + 200) bufD4 exC2.1.1 exC2.1.2.1 exC2.1.2.2.1 z4 H4.out.d HO4.out (by decide) siz8).mono ?_
  rintro x z5 (⟨hc, _, _⟩ | ⟨hc, hDF, ho⟩)
  · exact absurd ex5 hc
  · obtain ⟨bufD5, L5, LA5, cap5, rfl, h5⟩ := H4.out.openA hDF ho
    rw [ex6] at h5 ⊢
    have H5 := Lib.hid (And.intro h5.recs h5.bel)
    clear ho h5 hc hDF p0
    go_wp2_with fail
    have hbt := Kq.below_alloc z5 (.cells #[.string ⟨#[97]⟩, .string ⟨#[98]⟩] 9)
    have H6 : Hid (StrsAt (z5.alloc (.cells #[.string ⟨#[97]⟩, .string ⟨#[98]⟩] 9)) LA5 [⟨#[97]⟩, ⟨#[98]⟩] ∧ StrsAt (z5.alloc (.cells #[.string ⟨#[97]⟩, .string ⟨#[98]⟩] 9)) (some ⟨z5.heap.size, 0, none⟩) [⟨#[97]⟩, ⟨#[98]⟩] ∧ Below w.heap.size w (z5.alloc (.cells #[.string ⟨#[97]⟩, .string ⟨#[98]⟩] 9))) := Lib.hid ⟨H5.out.1.below hbt, made_two z5 _ _, H5.out.2.trans (hbt.mono H5.out.2.size)⟩
    clear hbt
    refine (rf_texts LA5 (some ⟨z5.heap.size, 0, none⟩) cap5 2 [⟨#[97]⟩, ⟨#[98]⟩] [⟨#[97]⟩, ⟨#[98]⟩] _ (by simp) (by simp) H6.out.1 H6.out.2.1).mono ?_
    rintro x z7 ⟨rfl, hb7⟩
    have H7 := Lib.hid (H6.out.2.2.trans (hb7.mono H6.out.2.2.size))
    clear hb7
    go_wp2
    go_ret
    exact ⟨by simp, H7.out⟩
end Go.Proofs.YtbpgfhcecanikaaGreat
