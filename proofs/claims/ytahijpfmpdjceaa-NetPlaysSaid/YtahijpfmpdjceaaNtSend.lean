/- Contracts of a net's Send, List. Condition: never more than 256 messages. -/
import Derived.WalkSpells
import Derived.Outline
import Derived.StillTailTactics
import Derived.Test.YtahijpfmpdjceaaNtKeep
namespace Go.Proofs.Ytahijpfmpdjceaa
open Go.RowKit
set_option linter.unusedVariables false
def OwnN (N : Nat) (v : Value) (j : Nat) : Prop := j = N ∨ v.ownBlock = some j
/-- what a call leaves of a net -/
def NtP (w : World) (base N : Nat) (v : Value) (ms : List MsgV) (w' : World) : Prop :=
  ∃ v', NtS w' base N v' ms ∧ Kq.Keeps (OwnN N v) w w' ∧ (∀ j, v'.ownBlock = some j → v.ownBlock = some j ∨ w.heap.size ≤ j)
/-- how many are taken -/
def sendN (n have_ : Nat) : Nat := min n (256 - have_)
theorem NtS.close {w wa w1 : World} {base N : Nat} {v v' : Value} {ms l : List MsgV} (h : NtS w base N v ms) (ha : Below w.heap.size w wa) {n : Nat} (hn : n = (ms ++ l).length) (hown : w1.ownsRow base 39 8 v' n (mcells (ms ++ l))) (hg : wa.grownBy w1 v.ownBlock) (hf : ∀ j, v'.ownBlock = some j → some j = v.ownBlock ∨ wa.heap.size ≤ j) :
    NtP w base N v (ms ++ l) (w1.setCell ⟨N, 0, none⟩ v') ∧ w1.heap[N]? = some (.cells #[v] 56 (0, 0)) := by
  have hN : N < w.heap.size := Kq.blk_lt h.blk
  have has := ha.size
  have hN1 : w1.heap[N]? = some (.cells #[v] 56 (0, 0)) := by
    rw [hg.block N (Nat.lt_of_lt_of_le hN has) (fun e => h.ne N e.symm rfl), Kq.below_blk ha h.blk hN]
  have hne : ∀ j, v'.ownBlock = some j → j ≠ N := fun j hj => by
    rcases hf j hj with h1 | h1
    · exact h.ne j h1.symm
    · omega
  refine ⟨⟨v', ⟨Kq.blk_set hN1 0 v', ?_, hne, ?_⟩, ?_, fun j hj => ?_⟩, hN1⟩
  · rw [← hn]
    obtain ⟨h1, h2⟩ := hown
    refine ⟨h1, h2.imp id ?_⟩
    rintro ⟨g, cap, cur, rfl, h3, h4, h5⟩
    exact ⟨g, cap, cur, rfl, h3, by rw [Below.heap_setCell _ _ _ _ (hne g rfl)]; exact h4, h5⟩
  · have := h.base; have := hg.size; simp only [World.setCell, Array.size_modify]; omega
  · have k1 : Kq.Keeps (OwnN N v) w wa := Kq.Keeps.of_below ha (fun j h1 h2 => absurd h2 (Nat.not_lt.2 h1))
    have k2 : Kq.Keeps (OwnN N v) wa w1 := Kq.Keeps.grown hg (fun j _ hj => Or.inr hj)
    exact (k1.trans k2).trans (Kq.Keeps.setCell _ _ _ (Or.inl rfl))
  · rcases hf j hj with h1 | h1
    · exact Or.inl h1.symm
    · exact Or.inr (by omega)
set_option maxRecDepth 100000 in
set_option maxHeartbeats 1000000 in
theorem nt_send_some (base N : Nat) (v : Value) (ms : List MsgV) (a : Addr) (c : Nat) (l : List MsgV) (w : World) (h : NtS w base N v ms) (hm : ms.length ≤ 256) (hl : l.length ≤ 1000000) (hlc : l.length ≤ c) (ha : MsAt w (some a) l) :
    Calls Try.prog 10 #[.pointer (some ⟨N, 0, none⟩), .slice (some a) l.length c] w fun e w' => e = .returned (.int .i64 (sendN l.length ms.length : Int)) ∧ NtP w base N v (ms ++ l.take (sendN l.length ms.length)) w' := by
  obtain ⟨i0, hi, hz0, hz1, hz2⟩ := info_parts infoMsg
  have HL := Lib.hid (nt_len base N v ms w h)
  have HSD := Lib.hid (fun c' => (ha.below (Below.refl _ _).drew).src (sendN l.length ms.length) c' (Nat.min_le_left _ _) (fun e => by cases e))
  have H := Lib.hid h
  have c0 := h.c0
  have f0 := h.fz 0
  obtain ⟨VA, vcap, rfl, -⟩ := h.shape
  obtain ⟨x, hx⟩ : ∃ x, x = 256 - ms.length := ⟨_, rfl⟩
  have m1 : wrap64 ((256 : Int) - (ms.length : Int)) = (x : Int) := by rw [IntWalk.wrap64_in _ (by omega)]; omega
  have m2 : IntKind.i64.wrap ((256 : Int) - (ms.length : Int)) = (x : Int) := by rw [IntWalk.i64_in _ (by omega)]; omega
  have HM := Lib.hid (And.intro hm (And.intro hl hlc))
  have HX := Lib.hid hx
  by_cases hle : l.length ≤ x
  · have hn : sendN l.length ms.length = l.length := by unfold sendN; omega
    rw [hn] at HSD ⊢
    have d0 : decide ((l.length : Int) ≤ (x : Int)) = true := decide_eq_true (by omega)
    have d1 : decide (l.length ≤ x) = true := decide_eq_true hle
    have d2 : decide ((x : Int) < (l.length : Int)) = false := decide_eq_false (by omega)
    have d3 : decide (x < l.length) = false := decide_eq_false (by omega)
    have d4 : min (l.length : Int) (x : Int) = (l.length : Int) := by omega
    have d5 : ¬ (x : Int) < (l.length : Int) := by omega
    have d6 : (l.length : Int) ≤ (c : Int) := by omega
    clear h hx hn ha hm
    go_enter Try.func10, Try.ntmps10
    go_wp2_with fail
    refine HL.out.mono ?_
    rintro e w1 ⟨rfl, rfl⟩
    go_wp2
    refine wp_region_any (by kernel_rfl) ?_
    (try (change wpAny _ _ _ _ _ _ _ (World.drew _)))
    obtain ⟨wd, hwd⟩ : ∃ z, z = w.drew := ⟨_, rfl⟩
    rw [← hwd]
    have HD : Hid (NtS wd base N (.slice VA ms.length vcap) ms ∧ Below w.heap.size w wd) := Lib.hid (by rw [hwd]; exact ⟨H.out.below (Below.refl _ _).drew, (Below.refl _ _).drew⟩)
    have HSW : Hid (∀ c', Src Try.prog 8 28 (.slice (some a) l.length c') l.length (mcells (l.take l.length)) wd) := Lib.hid (by rw [hwd]; exact HSD.out)
    clear hwd c0 f0 HSD
    have c0 := HD.out.1.c0
    refine wpAny_take (i := 0) (v := ?_) rfl (by kernel_rfl) (by kernel_rfl) (by kernel_rfl) (fun _ _ _ h => h) (Or.inl ⟨by kernel_rfl, ?_⟩) ?_
    rotate_left
    · intro w; go_simp; with_reducible rfl
    refine wpAny_take (i := 1) (v := ?_) rfl (by kernel_rfl) (by kernel_rfl) (by kernel_rfl) (fun _ _ _ h => h) (Or.inl ⟨by kernel_rfl, ?_⟩) ?_
    rotate_left
    · intro w; go_simp; with_reducible rfl
    refine wpAny_take (i := 2) (v := ?_) rfl (by kernel_rfl) (by kernel_rfl) (by kernel_rfl) (fun _ _ _ h => h) (Or.inl ⟨by kernel_rfl, ?_⟩) ?_
    rotate_left
    · intro w; go_simp; with_reducible rfl
    refine wpAny_take (i := 3) (v := ?_) rfl (by kernel_rfl) (by kernel_rfl) (by kernel_rfl) (fun _ _ _ h => h) (Or.inl ⟨by kernel_rfl, ?_⟩) ?_
    rotate_left
    · intro w; go_simp; with_reducible rfl
    refine wpAny_take (i := 5) (v := ?_) rfl (by kernel_rfl) (by kernel_rfl) (by kernel_rfl) (fun _ _ _ h => h) (Or.inl ⟨by kernel_rfl, ?_⟩) ?_
    rotate_left
    · intro w; go_simp; with_reducible rfl
    refine wpAny_take (i := 6) (v := ?_) rfl (by kernel_rfl) (by kernel_rfl) (by kernel_rfl) (fun _ _ _ h => h) (Or.inl ⟨by kernel_rfl, ?_⟩) ?_
    rotate_left
    · intro w; go_simp; with_reducible rfl
    refine wpAny_take (i := 7) (v := ?_) rfl (by kernel_rfl) (by kernel_rfl) (by kernel_rfl) (fun _ _ _ h => h) (Or.inl ⟨by kernel_rfl, ?_⟩) ?_
    rotate_left
    · intro w; go_simp; with_reducible rfl
    refine wpAny_ready (rs := [4]) (by kernel_rfl) (by simp) ?_
    refine AllReady.cons rfl (fun K hK => ?_) AllReady.nil
    go_simp
    (first | (refine hK _ _ ?_; clear hK K) | skip)
    refine wpAny_ready (rs := [8]) (by kernel_rfl) (by simp) ?_
    refine AllReady.cons rfl (fun K hK => ?_) AllReady.nil
    rw [if_pos (by rfl)]
    refine Kq.wp_append_any _ (.tmp 16) (.tmp 19) 28 28 rfl base 39 i0 (.agg #[.int .i64 0, .int .i64 0, .int .u64 0, .int .i64 0, .int .u64 0, .int .u64 0, .string ⟨#[]⟩, .string ⟨#[]⟩]) 8 80 Try.underlying28 hi hz0 hz1 hz2 rfl (by decide) (.slice VA ms.length vcap) ms.length (mcells ms) rfl HD.out.1.own (.slice (some a) l.length c) l.length (mcells (l.take l.length)) rfl (HSW.out c) ?e1 ?e2 HD.out.1.base ?_
    case e1 => have := HM.out; have := HX.out; unfold maxLen; omega
    case e2 => have := HM.out; have := HX.out; omega
    intro v' w1 hown hgrow hfresh
    refine hK _ _ ?_
    clear hK K
    rw [← mcells_append] at hown
    obtain ⟨q1, q2⟩ := H.out.close HD.out.2 (by rw [List.length_append, List.length_take]; omega) hown hgrow hfresh
    have f3 : w1.frozen? ⟨N, 0, none⟩ = false := Kq.blk_free q2 0
    have c3 : w1.cell? ⟨N, 0, none⟩ = some (.slice VA ms.length vcap) := Kq.blk_cell q2 0
    have HP := Lib.hid q1
    obtain ⟨a', n', cap', hv⟩ := Kq.own_shape hown
    clear hown hgrow hfresh q1 q2 c0
    rw [hv] at HP ⊢
    clear hv
    refine wpAny_take (i := 9) (v := ?_) rfl (by kernel_rfl) (by kernel_rfl) (by kernel_rfl) (fun _ _ _ h => h) (Or.inl ⟨by kernel_rfl, ?_⟩) ?_
    rotate_left
    · intro w; go_simp; with_reducible rfl
    refine wpAny_take (i := 10) (v := ?_) rfl (by kernel_rfl) (by kernel_rfl) (by kernel_rfl) (fun _ _ _ h => h) (Or.inl ⟨by kernel_rfl, ?_⟩) ?_
    rotate_left
    · intro w; go_simp; with_reducible rfl
    refine wpAny_ready (rs := [11]) (by kernel_rfl) (by simp) ?_
    refine AllReady.cons rfl (fun K hK => ?_) AllReady.nil
    go_simp
    (first | (refine hK _ _ ?_; clear hK K) | skip)
    refine wpAny_done (by kernel_rfl) ?_ _
    go_wp2
    go_ret
    exact ⟨rfl, HP.out⟩
  · have hn : sendN l.length ms.length = x := by unfold sendN; omega
    rw [hn] at HSD ⊢
    have d0 : decide ((l.length : Int) ≤ (x : Int)) = false := decide_eq_false (by omega)
    have d1 : decide (l.length ≤ x) = false := decide_eq_false hle
    have d2 : decide ((x : Int) < (l.length : Int)) = true := decide_eq_true (by omega)
    have d3 : decide (x < l.length) = true := decide_eq_true (by omega)
    have d4 : min (l.length : Int) (x : Int) = (x : Int) := by omega
    have d5 : (x : Int) < (l.length : Int) := by omega
    have d6 : (x : Int) ≤ (c : Int) := by omega
    clear h hx hn ha hm
    go_enter Try.func10, Try.ntmps10
    go_wp2_with fail
    refine HL.out.mono ?_
    rintro e w1 ⟨rfl, rfl⟩
    go_wp2
    refine wp_region_any (by kernel_rfl) ?_
    (try (change wpAny _ _ _ _ _ _ _ (World.drew _)))
    obtain ⟨wd, hwd⟩ : ∃ z, z = w.drew := ⟨_, rfl⟩
    rw [← hwd]
    have HD : Hid (NtS wd base N (.slice VA ms.length vcap) ms ∧ Below w.heap.size w wd) := Lib.hid (by rw [hwd]; exact ⟨H.out.below (Below.refl _ _).drew, (Below.refl _ _).drew⟩)
    have HSW : Hid (∀ c', Src Try.prog 8 28 (.slice (some a) x c') x (mcells (l.take x)) wd) := Lib.hid (by rw [hwd]; exact HSD.out)
    clear hwd c0 f0 HSD
    have c0 := HD.out.1.c0
    refine wpAny_take (i := 0) (v := ?_) rfl (by kernel_rfl) (by kernel_rfl) (by kernel_rfl) (fun _ _ _ h => h) (Or.inl ⟨by kernel_rfl, ?_⟩) ?_
    rotate_left
    · intro w; go_simp; with_reducible rfl
    refine wpAny_take (i := 1) (v := ?_) rfl (by kernel_rfl) (by kernel_rfl) (by kernel_rfl) (fun _ _ _ h => h) (Or.inl ⟨by kernel_rfl, ?_⟩) ?_
    rotate_left
    · intro w; go_simp; with_reducible rfl
    refine wpAny_take (i := 2) (v := ?_) rfl (by kernel_rfl) (by kernel_rfl) (by kernel_rfl) (fun _ _ _ h => h) (Or.inl ⟨by kernel_rfl, ?_⟩) ?_
    rotate_left
    · intro w; go_simp; with_reducible rfl
    refine wpAny_take (i := 3) (v := ?_) rfl (by kernel_rfl) (by kernel_rfl) (by kernel_rfl) (fun _ _ _ h => h) (Or.inl ⟨by kernel_rfl, ?_⟩) ?_
    rotate_left
    · intro w; go_simp; with_reducible rfl
    refine wpAny_take (i := 5) (v := ?_) rfl (by kernel_rfl) (by kernel_rfl) (by kernel_rfl) (fun _ _ _ h => h) (Or.inl ⟨by kernel_rfl, ?_⟩) ?_
    rotate_left
    · intro w; go_simp; with_reducible rfl
    refine wpAny_take (i := 6) (v := ?_) rfl (by kernel_rfl) (by kernel_rfl) (by kernel_rfl) (fun _ _ _ h => h) (Or.inl ⟨by kernel_rfl, ?_⟩) ?_
    rotate_left
    · intro w; go_simp; with_reducible rfl
    refine wpAny_take (i := 7) (v := ?_) rfl (by kernel_rfl) (by kernel_rfl) (by kernel_rfl) (fun _ _ _ h => h) (Or.inl ⟨by kernel_rfl, ?_⟩) ?_
    rotate_left
    · intro w; go_simp; with_reducible rfl
    refine wpAny_ready (rs := [4]) (by kernel_rfl) (by simp) ?_
    refine AllReady.cons rfl (fun K hK => ?_) AllReady.nil
    go_simp
    (first | (refine hK _ _ ?_; clear hK K) | skip)
    refine wpAny_ready (rs := [8]) (by kernel_rfl) (by simp) ?_
    refine AllReady.cons rfl (fun K hK => ?_) AllReady.nil
    rw [if_pos (by rfl)]
    refine Kq.wp_append_any _ (.tmp 16) (.tmp 19) 28 28 rfl base 39 i0 (.agg #[.int .i64 0, .int .i64 0, .int .u64 0, .int .i64 0, .int .u64 0, .int .u64 0, .string ⟨#[]⟩, .string ⟨#[]⟩]) 8 80 Try.underlying28 hi hz0 hz1 hz2 rfl (by decide) (.slice VA ms.length vcap) ms.length (mcells ms) rfl HD.out.1.own (.slice (some a) x c) x (mcells (l.take x)) rfl (HSW.out c) ?k1 ?k2 HD.out.1.base ?_
    case k1 => have := HM.out; have := HX.out; unfold maxLen; omega
    case k2 => have := HM.out; have := HX.out; omega
    intro v' w1 hown hgrow hfresh
    refine hK _ _ ?_
    clear hK K
    rw [← mcells_append] at hown
    obtain ⟨q1, q2⟩ := H.out.close HD.out.2 (by rw [List.length_append, List.length_take]; omega) hown hgrow hfresh
    have f3 : w1.frozen? ⟨N, 0, none⟩ = false := Kq.blk_free q2 0
    have c3 : w1.cell? ⟨N, 0, none⟩ = some (.slice VA ms.length vcap) := Kq.blk_cell q2 0
    have HP := Lib.hid q1
    obtain ⟨a', n', cap', hv⟩ := Kq.own_shape hown
    clear hown hgrow hfresh q1 q2 c0
    rw [hv] at HP ⊢
    clear hv
    refine wpAny_take (i := 9) (v := ?_) rfl (by kernel_rfl) (by kernel_rfl) (by kernel_rfl) (fun _ _ _ h => h) (Or.inl ⟨by kernel_rfl, ?_⟩) ?_
    rotate_left
    · intro w; go_simp; with_reducible rfl
    refine wpAny_take (i := 10) (v := ?_) rfl (by kernel_rfl) (by kernel_rfl) (by kernel_rfl) (fun _ _ _ h => h) (Or.inl ⟨by kernel_rfl, ?_⟩) ?_
    rotate_left
    · intro w; go_simp; with_reducible rfl
    refine wpAny_ready (rs := [11]) (by kernel_rfl) (by simp) ?_
    refine AllReady.cons rfl (fun K hK => ?_) AllReady.nil
    go_simp
    (first | (refine hK _ _ ?_; clear hK K) | skip)
    refine wpAny_done (by kernel_rfl) ?_ _
    go_wp2
    go_ret
    exact ⟨rfl, HP.out⟩
end Go.Proofs.Ytahijpfmpdjceaa
