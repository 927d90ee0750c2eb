/- Contract of carrackref14.Place. Condition: sizes. -/
import Derived.WalkSpells
import Derived.Deep.RegionHeld
import Derived.Test.YtkdommljaciahaaNtRefL
namespace Go.Proofs.Ytkdommljaciahaa
open Go.RowKit
set_option linter.unusedVariables false
set_option maxRecDepth 100000 in
set_option maxHeartbeats 1000000 in
theorem r14_place_bad (a i : Int) (w : World) (h : i < 0 ∨ 65535 < i) :
    Calls Try.prog 17 #[.agg #[.int .u64 a, .int .i64 i]] w fun x w' => x = .returned (.tuple #[.string ⟨#[]⟩, .int .i64 1]) ∧ Below w.heap.size w w' := by
  have HB := Lib.hid (Kq.below_alloc w (.cells #[.int .u64 a, .int .i64 i] 26))
  by_cases h0 : i < 0
  · have d0 : decide (i < 0) = true := decide_eq_true h0
    go_enter Try.func17, Try.ntmps17
    go_wp2
    go_ret2
    exact ⟨rfl, HB.out⟩
  · have d0 : decide (i < 0) = false := decide_eq_false h0
    have d1 : decide (65535 < i) = true := decide_eq_true (h.resolve_left h0)
    clear h
    go_enter Try.func17, Try.ntmps17
    go_wp2
    go_ret2
    exact ⟨rfl, HB.out⟩
def PlBox (w' : World) (X : Nat) (a i : Int) : Prop := w'.cell? ⟨X, 0, none⟩ = some (.int .u64 a) ∧ w'.cell? ⟨X, 1, none⟩ = some (.int .i64 i)
set_option maxRecDepth 100000 in
set_option maxHeartbeats 2000000 in
theorem r14_place_ok (an i : Nat) (w : World) (hi : i ≤ 65535) (ha : an < 18446744073709551616) :
    Calls Try.prog 17 #[.agg #[.int .u64 (an : Int), .int .i64 (i : Int)]] w fun x w' => x = .returned (.tuple #[.string (txt (num8 an ++ num8 i)), .int .i64 0]) ∧ Below w.heap.size w w' := by
  have d0 : decide ((i : Int) < 0) = false := decide_eq_false (by omega)
  have d1 : decide ((65535 : Int) < (i : Int)) = false := decide_eq_false (by omega)
  have hw1 : IntKind.u64.wrap (i : Int) = (i : Int) := IntWalk.u64_in _ (by omega)
  have HN1 := Lib.hid (fun w => ref_num an 8 w (by unfold M64; omega) (by decide))
  have HN2 := Lib.hid (fun w => ref_num i 8 w (by unfold M64; omega) (by decide))
  have HS : Hid (txt (be an 8) ++ txt (be i 8) = txt (num8 an ++ num8 i)) := Lib.hid (by rw [be8, be8, txt_app _ _ (num8_lt _) (num8_lt _)])
  have s1 : (txt (be an 8)).size = 8 := by rw [txt_size, be_len]
  have s2 : (txt (be i 8)).size = 8 := by rw [txt_size, be_len]
  have P0 : Hid (QB (w.alloc (.cells #[.int .u64 (an : Int), .int .i64 (i : Int)] 26)).drew w.heap.size an i ∧ Below w.heap.size w (w.alloc (.cells #[.int .u64 (an : Int), .int .i64 (i : Int)] 26)).drew) := Lib.hid ⟨⟨Kq.blk_new w _ _ _⟩, (Kq.below_alloc _ _).drew⟩
  clear hi ha
  generalize txt (be an 8) = T1 at *
  generalize txt (be i 8) = T2 at *
  go_enter Try.func17, Try.ntmps17
  go_wp2
  refine wp_region_held_drew (S := fun w' => PlBox w' w.heap.size an i) (by kernel_rfl) ⟨P0.out.1.c0, P0.out.1.c1⟩ (fun hS0 => ?_)
  generalize (w.alloc (.cells #[.int .u64 (an : Int), .int .i64 (i : Int)] 26)).drew = z0 at *
  unfold PlBox at hS0
  dsimp only [PlBox]
  refine wpAnyH_take (i := 0) (v := ?_) rfl (by kernel_rfl) (by kernel_rfl) (by kernel_rfl) (fun _ _ _ h => h) (Or.inl ⟨by kernel_rfl, ?_⟩) (by assumption) ?_
  rotate_left
  · intro w hSw; (try dsimp only at hSw); go_simp; (try with_reducible rfl)
  refine wpAnyH_take (i := 1) (v := ?_) rfl (by kernel_rfl) (by kernel_rfl) (by kernel_rfl) (fun _ _ _ h => h) (Or.inl ⟨by kernel_rfl, ?_⟩) (by assumption) ?_
  rotate_left
  · intro w hSw; (try dsimp only at hSw); go_simp; (try with_reducible rfl)
  refine wpAnyH_take (i := 3) (v := ?_) rfl (by kernel_rfl) (by kernel_rfl) (by kernel_rfl) (fun _ _ _ h => h) (Or.inl ⟨by kernel_rfl, ?_⟩) (by assumption) ?_
  rotate_left
  · intro w hSw; (try dsimp only at hSw); go_simp; (try with_reducible rfl)
  refine wpAnyH_take (i := 4) (v := ?_) rfl (by kernel_rfl) (by kernel_rfl) (by kernel_rfl) (fun _ _ _ h => h) (Or.inl ⟨by kernel_rfl, ?_⟩) (by assumption) ?_
  rotate_left
  · intro w hSw; (try dsimp only at hSw); go_simp; (try with_reducible rfl)
  refine wpAnyH_take (i := 5) (v := ?_) rfl (by kernel_rfl) (by kernel_rfl) (by kernel_rfl) (fun _ _ _ h => h) (Or.inl ⟨by kernel_rfl, ?_⟩) (by assumption) ?_
  rotate_left
  · intro w hSw; (try dsimp only at hSw); go_simp; (try with_reducible rfl)
  refine wpAnyH_ready (rs := [2]) (by kernel_rfl) (by simp) ?_
  refine AllReadyH.cons rfl (fun K hK => ?_) AllReadyH.nil
  go_simp
  refine (HN1.out _).mono ?_
  rintro x z1 ⟨rfl, hb1⟩
  have P1 : Hid (QB z1 w.heap.size an i ∧ Below w.heap.size w z1) := Lib.hid ⟨⟨Kq.below_blk hb1 P0.out.1.blk (Kq.blk_lt P0.out.1.blk)⟩, P0.out.2.trans (hb1.mono P0.out.2.size)⟩
  clear hb1 P0 hS0
  refine hK.out _ _ ⟨P1.out.1.c0, P1.out.1.c1⟩ (fun hS0 => ?_)
  clear hK K
  refine wpAnyH_ready (rs := [6]) (by kernel_rfl) (by simp) ?_
  refine AllReadyH.cons rfl (fun K hK => ?_) AllReadyH.nil
  go_simp
  refine (HN2.out _).mono ?_
  rintro x z2 ⟨rfl, hb2⟩
  have P2 : Hid (QB z2 w.heap.size an i ∧ Below w.heap.size w z2) := Lib.hid ⟨⟨Kq.below_blk hb2 P1.out.1.blk (Kq.blk_lt P1.out.1.blk)⟩, P1.out.2.trans (hb2.mono P1.out.2.size)⟩
  clear hb2 P1 hS0
  refine hK.out _ _ ⟨P2.out.1.c0, P2.out.1.c1⟩ (fun hS0 => ?_)
  clear hK K
  refine wpAnyH_take (i := 7) (v := ?_) rfl (by kernel_rfl) (by kernel_rfl) (by kernel_rfl) (fun _ _ _ h => h) (Or.inl ⟨by kernel_rfl, ?_⟩) (by assumption) ?_
  rotate_left
  · intro w hSw; (try dsimp only at hSw); go_simp; (try with_reducible rfl)
  refine wpAnyH_take (i := 8) (v := ?_) rfl (by kernel_rfl) (by kernel_rfl) (by kernel_rfl) (fun _ _ _ h => h) (Or.inl ⟨by kernel_rfl, ?_⟩) (by assumption) ?_
  rotate_left
  · intro w hSw; (try dsimp only at hSw); go_simp; (try with_reducible rfl)
  refine wpAnyH_take (i := 9) (v := ?_) rfl (by kernel_rfl) (by kernel_rfl) (by kernel_rfl) (fun _ _ _ h => h) (Or.inl ⟨by kernel_rfl, ?_⟩) (by assumption) ?_
  rotate_left
  · intro w hSw; (try dsimp only at hSw); go_simp; (try with_reducible rfl)
  refine wpAnyH_done (by kernel_rfl) ?_ _
  go_wp2
  go_ret2
  exact ⟨by rw [← HS.out]; rfl, P2.out.2⟩
end Go.Proofs.Ytkdommljaciahaa
