/- Contracts of a net's Send in every case, List. Condition: never more than 256 messages. -/
import Derived.WalkSpells
import Derived.Outline
import Derived.Test.YtahijpfmpdjceaaNtSend
namespace Go.Proofs.Ytahijpfmpdjceaa
open Go.RowKit
set_option linter.unusedVariables false
set_option maxRecDepth 100000 in
set_option maxHeartbeats 1000000 in
theorem nt_send_none (base N : Nat) (v : Value) (ms : List MsgV) (c : Nat) (w : World) (h : NtS w base N v ms) (hm : ms.length ≤ 256) :
    Calls Try.prog 10 #[.pointer (some ⟨N, 0, none⟩), .slice none 0 c] w fun e w' => e = .returned (.int .i64 0) ∧ NtP w base N v (ms ++ []) w' := by
  obtain ⟨i0, hi, hz0, hz1, hz2⟩ := info_parts infoMsg
  have HL := Lib.hid (nt_len base N v ms w h)
  have H := Lib.hid h
  have c0 := h.c0
  have f0 := h.fz 0
  obtain ⟨VA, vcap, rfl, -⟩ := h.shape
  obtain ⟨x, hx⟩ : ∃ x, x = 256 - ms.length := ⟨_, rfl⟩
  have m1 : wrap64 ((256 : Int) - (ms.length : Int)) = (x : Int) := by rw [IntWalk.wrap64_in _ (by omega)]; omega
  have m2 : IntKind.i64.wrap ((256 : Int) - (ms.length : Int)) = (x : Int) := by rw [IntWalk.i64_in _ (by omega)]; omega
  have HM := Lib.hid hm
  have HX := Lib.hid hx
  have d0 : decide ((0 : Int) ≤ (x : Int)) = true := decide_eq_true (by omega)
  have d2 : decide ((x : Int) < 0) = false := decide_eq_false (by omega)
  have d5 : ¬ (x : Int) < 0 := by omega
  have d4 : min (0 : Int) (x : Int) = 0 := by omega
  clear h hx hm
  go_enter Try.func10, Try.ntmps10
  go_wp2_with fail
  refine HL.out.mono ?_
  rintro e w1 ⟨rfl, rfl⟩
  go_wp2
  refine wp_region_any (by kernel_rfl) ?_
  (try (change wpAny _ _ _ _ _ _ _ (World.drew _)))
  obtain ⟨wd, hwd⟩ : ∃ z, z = w.drew := ⟨_, rfl⟩
  rw [← hwd]
  have HD : Hid (NtS wd base N (.slice VA ms.length vcap) ms ∧ Below w.heap.size w wd) := Lib.hid (by rw [hwd]; exact ⟨H.out.below (Below.refl _ _).drew, (Below.refl _ _).drew⟩)
  have HSW : Hid (∀ c', Src Try.prog 8 28 (.slice none 0 c') 0 (mcells []) wd) := Lib.hid (by rw [hwd]; exact (fun c' => Src.ofNil _ Try.underlying28 c'))
  clear hwd c0 f0
  have c0 := HD.out.1.c0
  refine wpAny_take (i := 0) (v := ?_) rfl (by kernel_rfl) (by kernel_rfl) (by kernel_rfl) (fun _ _ _ h => h) (Or.inl ⟨by kernel_rfl, ?_⟩) ?_
  rotate_left
  · intro w; go_simp; with_reducible rfl
  refine wpAny_take (i := 1) (v := ?_) rfl (by kernel_rfl) (by kernel_rfl) (by kernel_rfl) (fun _ _ _ h => h) (Or.inl ⟨by kernel_rfl, ?_⟩) ?_
  rotate_left
  · intro w; go_simp; with_reducible rfl
  refine wpAny_take (i := 2) (v := ?_) rfl (by kernel_rfl) (by kernel_rfl) (by kernel_rfl) (fun _ _ _ h => h) (Or.inl ⟨by kernel_rfl, ?_⟩) ?_
  rotate_left
  · intro w; go_simp; with_reducible rfl
  refine wpAny_take (i := 3) (v := ?_) rfl (by kernel_rfl) (by kernel_rfl) (by kernel_rfl) (fun _ _ _ h => h) (Or.inl ⟨by kernel_rfl, ?_⟩) ?_
  rotate_left
  · intro w; go_simp; with_reducible rfl
  refine wpAny_take (i := 5) (v := ?_) rfl (by kernel_rfl) (by kernel_rfl) (by kernel_rfl) (fun _ _ _ h => h) (Or.inl ⟨by kernel_rfl, ?_⟩) ?_
  rotate_left
  · intro w; go_simp; with_reducible rfl
  refine wpAny_take (i := 6) (v := ?_) rfl (by kernel_rfl) (by kernel_rfl) (by kernel_rfl) (fun _ _ _ h => h) (Or.inl ⟨by kernel_rfl, ?_⟩) ?_
  rotate_left
  · intro w; go_simp; with_reducible rfl
  refine wpAny_take (i := 7) (v := ?_) rfl (by kernel_rfl) (by kernel_rfl) (by kernel_rfl) (fun _ _ _ h => h) (Or.inl ⟨by kernel_rfl, ?_⟩) ?_
  rotate_left
  · intro w; go_simp; with_reducible rfl
  refine wpAny_ready (rs := [4]) (by kernel_rfl) (by simp) ?_
  refine AllReady.cons rfl (fun K hK => ?_) AllReady.nil
  go_simp
  (first | (refine hK _ _ ?_; clear hK K) | skip)
  refine wpAny_ready (rs := [8]) (by kernel_rfl) (by simp) ?_
  refine AllReady.cons rfl (fun K hK => ?_) AllReady.nil
  rw [if_pos (by rfl)]
  refine Kq.wp_append_any _ (.tmp 16) (.tmp 19) 28 28 rfl base 39 i0 (.agg #[.int .i64 0, .int .i64 0, .int .u64 0, .int .i64 0, .int .u64 0, .int .u64 0, .string ⟨#[]⟩, .string ⟨#[]⟩]) 8 80 Try.underlying28 hi hz0 hz1 hz2 rfl (by decide) (.slice VA ms.length vcap) ms.length (mcells ms) rfl HD.out.1.own (.slice none 0 c) 0 (mcells []) rfl (HSW.out c) ?e1 ?e2 HD.out.1.base ?_
  case e1 => have := HM.out; have := HX.out; unfold maxLen; omega
  case e2 => have := HM.out; have := HX.out; omega
  intro v' w1 hown hgrow hfresh
  refine hK _ _ ?_
  clear hK K
  rw [← mcells_append] at hown
  obtain ⟨q1, q2⟩ := H.out.close (l := []) HD.out.2 (by simp) hown hgrow hfresh
  have f3 : w1.frozen? ⟨N, 0, none⟩ = false := Kq.blk_free q2 0
  have c3 : w1.cell? ⟨N, 0, none⟩ = some (.slice VA ms.length vcap) := Kq.blk_cell q2 0
  have HP := Lib.hid q1
  obtain ⟨a', n', cap', hv⟩ := Kq.own_shape hown
  clear hown hgrow hfresh q1 q2 c0
  rw [hv] at HP ⊢
  clear hv
  refine wpAny_take (i := 9) (v := ?_) rfl (by kernel_rfl) (by kernel_rfl) (by kernel_rfl) (fun _ _ _ h => h) (Or.inl ⟨by kernel_rfl, ?_⟩) ?_
  rotate_left
  · intro w; go_simp; with_reducible rfl
  refine wpAny_take (i := 10) (v := ?_) rfl (by kernel_rfl) (by kernel_rfl) (by kernel_rfl) (fun _ _ _ h => h) (Or.inl ⟨by kernel_rfl, ?_⟩) ?_
  rotate_left
  · intro w; go_simp; with_reducible rfl
  refine wpAny_ready (rs := [11]) (by kernel_rfl) (by simp) ?_
  refine AllReady.cons rfl (fun K hK => ?_) AllReady.nil
  go_simp
  (first | (refine hK _ _ ?_; clear hK K) | skip)
  refine wpAny_done (by kernel_rfl) ?_ _
  go_wp2
  go_ret
  exact ⟨rfl, HP.out⟩
theorem nt_send (base N : Nat) (v : Value) (ms : List MsgV) (A : Option Addr) (c : Nat) (l : List MsgV) (w : World) (h : NtS w base N v ms) (hm : ms.length ≤ 256) (hl : l.length ≤ 1000000) (hlc : l.length ≤ c) (ha : MsAt w A l) (h0 : A = none → l.length = 0) :
    Calls Try.prog 10 #[.pointer (some ⟨N, 0, none⟩), .slice A l.length c] w fun e w' => e = .returned (.int .i64 (sendN l.length ms.length : Int)) ∧ NtP w base N v (ms ++ l.take (sendN l.length ms.length)) w' := by
  match A, ha, h0 with
  | none, ha, h0 =>
    have : l = [] := List.eq_nil_of_length_eq_zero (h0 rfl)
    subst this
    have := nt_send_none base N v ms c w h hm
    simpa [sendN] using this
  | some a, ha, h0 => exact nt_send_some base N v ms a c l w h hm hl hlc ha
theorem infoMz (w : World) (A : Option Addr) (n c : Nat) : (binOp .eql 28 (.slice A n c) (.slice none 0 0)).run Try.prog w = .ok (.bool A.isNone) w := Lib.run_eql_slice_nil w _ _ A n c _ _ Try.underlying28
set_option maxRecDepth 100000 in
set_option maxHeartbeats 1000000 in
theorem nt_clone (A : Option Addr) (c : Nat) (ms : List MsgV) (w : World) (hm : ms.length ≤ 1000000) (hc : ms.length ≤ c) (ha : MsAt w A ms) (h0 : A = none → ms.length = 0) :
    Calls Try.prog 23 #[.slice A ms.length c] w fun e w' => ∃ v', e = .returned v' ∧ w'.ownsRow w.heap.size 39 8 v' ms.length (mcells ms) ∧ Below w.heap.size w w' := by
  obtain ⟨i0, hi, hz0, hz1, hz2⟩ := info_parts infoMsg
  have hq := fun w => infoMz w A ms.length c
  match A, ha, h0, hq with
  | none, ha, h0, hq =>
    have : ms = [] := List.eq_nil_of_length_eq_zero (h0 rfl)
    subst this
    clear ha h0 hq
    have hq0 : ∀ w, (binOp .eql 28 (.slice none 0 c) (.slice none 0 0)).run Try.prog w = .ok (.bool true) w := fun w => infoMz w none 0 c
    go_enter Try.func23, Try.ntmps23
    go_wp2
    go_ret
    exact ⟨_, rfl, World.ownsRow_nil _ _ _ _, Below.refl _ _⟩
  | some a, ha, h0, hq =>
    have HS := Lib.hid ((ha.below (Kq.below_alloc w (.cells #[] 39))).src ms.length c (Nat.le_refl _) (fun e => by cases e))
    rw [List.take_length] at HS
    clear ha h0 hq
    have hq0 : ∀ w, (binOp .eql 28 (.slice (some a) ms.length c) (.slice none 0 0)).run Try.prog w = .ok (.bool false) w := fun w => infoMz w (some a) ms.length c
    go_enter Try.func23, Try.ntmps23
    go_wp2_with (at_builtin; go_loud (refine Kq.wpList_append_any _ rfl (.tmp 5) (.tmp 6) 28 28 rfl w.heap.size 39 i0 (.agg #[.int .i64 0, .int .i64 0, .int .u64 0, .int .i64 0, .int .u64 0, .int .u64 0, .string ⟨#[]⟩, .string ⟨#[]⟩]) 8 80 Try.underlying28 hi hz0 hz1 hz2 rfl (by decide) (.slice (some ⟨w.heap.size, 0, none⟩) 0 0) 0 [] rfl (World.ownsRow_made w #[] 0 (Nat.le_refl _) (Nat.zero_le _) rfl) (.slice (some a) ms.length c) ms.length (mcells ms) rfl HS.out ?g2 ?g3 ?g4 ?_))
    case g2 => unfold maxLen; omega
    case g3 => omega
    case g4 => simp
    intro v1 w4 hown1 hgrow1 hfresh1
    have HB : Hid (Below w.heap.size w w4) := Lib.hid ((Kq.below_alloc w (.cells #[] 39)).trans ⟨hgrow1.os, hgrow1.tape, hgrow1.output, hgrow1.size, fun k hk => hgrow1.block k (by simp; omega) (fun e => by simp [Value.ownBlock] at e; omega)⟩)
    have HO1 : Hid (w4.ownsRow w.heap.size 39 8 v1 ms.length (mcells ms)) := Lib.hid (by simpa using hown1)
    obtain ⟨a', n', cap', hv⟩ := Kq.own_shape hown1
    clear hown1 hgrow1 hfresh1
    rw [hv] at HO1 ⊢
    clear hv
    go_wp2
    go_ret
    exact ⟨_, rfl, HO1.out, HB.out⟩
set_option maxRecDepth 100000 in
set_option maxHeartbeats 1000000 in
theorem nt_list (base N : Nat) (v : Value) (ms : List MsgV) (w : World) (h : NtS w base N v ms) (hm : ms.length ≤ 1000000) :
    Calls Try.prog 19 #[.pointer (some ⟨N, 0, none⟩)] w fun e w' => ∃ v', e = .returned v' ∧ w'.ownsRow w.heap.size 39 8 v' ms.length (mcells ms) ∧ Below w.heap.size w w' := by
  have c0 := h.c0
  obtain ⟨A, cap, rfl, hc, h0, hat⟩ := h.at
  have HC := Lib.hid (nt_clone A cap ms w hm hc hat h0)
  clear h hat h0 hc
  go_enter Try.func19, Try.ntmps19
  go_wp2_with fail
  refine HC.out.mono ?_
  rintro e w1 ⟨v', rfl, hown, hb⟩
  have H1 := Lib.hid (And.intro hown hb)
  obtain ⟨a', n', cap', hv⟩ := Kq.own_shape hown
  clear hown hb
  rw [hv] at H1 ⊢
  clear hv
  go_wp2
  go_ret
  exact ⟨_, rfl, H1.out.1, H1.out.2⟩
end Go.Proofs.Ytahijpfmpdjceaa
