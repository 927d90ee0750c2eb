/- Merged: MkP, MkC. Contract of merkle.Path. Condition: the constants lie where they lie; sizes. Contracts of merkle.Check, carrackref08.Check, carracklaw08.few, awake. Condition: few pairs. -/
import Derived.WalkSpells
import Derived.Outline
import Derived.Test.YtclloplkbajebaaDoorMkBQ
import Derived.WalkLawsBesides
import Derived.Deep.QuietTactic
import Derived.BigQuiet
import Derived.Test.YtclloplkbajebaaDoorRkAQ
namespace Go.Proofs.YtclloplkbajebaaDoor
open Go.RowKit
set_option linter.unusedVariables false
def PathOk (n : Nat) : Prop := ∀ (l : List PairV) (i : Nat) (A : Option Addr) (cap : Nat) (w : World), l.length ≤ n → l.length ≤ 1000000 → Fit l → PsAt w A l → LaidOk w → l.length ≤ cap → i < l.length →
  Calls Tryd.prog 71 #[.slice A l.length cap, .int .i64 (i : Int)] w (PathPost w (pathL l i))
theorem own_nil (w : World) (base : Nat) : w.ownsRow base 9 1 (.slice none 0 0) 0 [] := ⟨rfl, Or.inl ⟨rfl, rfl⟩⟩
set_option maxRecDepth 100000 in
set_option maxHeartbeats 1000000 in
theorem path_bad (A : Option Addr) (n cap : Nat) (i : Int) (w : World) (hi : i < 0 ∨ (n : Int) ≤ i) :
    Calls Tryd.prog 71 #[.slice A n cap, .int .i64 i] w (PathPost w []) := by
  have HP : Hid (∀ x, x = .returned (.slice none 0 0) → PathPost w [] x w) := Lib.hid (fun x hx => ⟨_, hx, own_nil _ _, Below.refl _ _⟩)
  by_cases h0 : i < 0
  · have d0 : decide (i < 0) = true := decide_eq_true h0
    go_enter Tryd.func71, Tryd.ntmps71
    go_wp2
    go_ret
    exact HP.out _ rfl
  · have h1 := hi.resolve_left h0
    have d0 : decide (i < 0) = false := decide_eq_false h0
    have d1 : decide ((n : Int) ≤ i) = true := decide_eq_true h1
    clear hi
    go_enter Tryd.func71, Tryd.ntmps71
    go_wp2
    go_ret
    exact HP.out _ rfl
set_option maxRecDepth 100000 in
set_option maxHeartbeats 1000000 in
theorem path_one (A : Option Addr) (cap : Nat) (w : World) :
    Calls Tryd.prog 71 #[.slice A 1 cap, .int .i64 0] w (PathPost w []) := by
  have HP : Hid (∀ x, x = .returned (.slice none 0 0) → PathPost w [] x w) := Lib.hid (fun x hx => ⟨_, hx, own_nil _ _, Below.refl _ _⟩)
  go_enter Tryd.func71, Tryd.ntmps71
  go_wp2
  go_ret
  exact HP.out _ rfl
set_option maxRecDepth 100000 in
set_option maxHeartbeats 8000000 in
theorem path_step (n : Nat) (ih : PathOk n) : PathOk (n + 1) := by
  intro l i A cap w hn hm hf hA hL hcap hi
  obtain ⟨i0, hi0, hz0, hz1, hz2⟩ := info_partsB infoStr
  by_cases h1 : l.length ≤ 1
  · obtain ⟨p, rfl⟩ := List.length_eq_one_iff.1 (show l.length = 1 by omega)
    obtain rfl : i = 0 := by simpa using hi
    exact path_one A cap w
  obtain ⟨b, off, rfl, -, -, -⟩ := hA 0 (by omega)
  obtain ⟨k, hk⟩ : ∃ k, k = leftN l.length := ⟨_, rfl⟩
  have hk1 : 1 ≤ k := by rw [hk]; exact leftN_pos _
  have hk2 : k < l.length := by rw [hk]; exact leftN_lt _ (by omega)
  have hpm := pathL_many l i (by omega)
  rw [← hk] at hpm
  have HL := Lib.hid (fun w => mk_left l.length w (by omega) hm)
  rw [← hk] at HL
  have hlt1 : (l.take k).length = k := by rw [List.length_take]; omega
  have hld1 : (l.drop k).length = l.length - k := List.length_drop
  have HIA : Hid (∀ w' cap', LaidOk w' → PsAt w' (some ⟨b, off, none⟩) l → k ≤ cap' → Calls Tryd.prog 57 #[.slice (some ⟨b, off, none⟩) k cap'] w' fun x w'' => x = .returned (.string (digL (l.take k))) ∧ Below w'.heap.size w' w'') := Lib.hid (fun w' cap' h1 h2 h3 => by
    have := mk_digest l.length (l.take k) (some ⟨b, off, none⟩) cap' w' (by omega) (by omega) (hf.take k) (h2.take k) h1 (by omega)
    rwa [hlt1] at this)
  have HIB : Hid (∀ w' cap', LaidOk w' → PsAt w' (some ⟨b, off, none⟩) l → l.length - k ≤ cap' → Calls Tryd.prog 57 #[.slice (some ⟨b, off + k * 2, none⟩) (l.length - k) cap'] w' fun x w'' => x = .returned (.string (digL (l.drop k))) ∧ Below w'.heap.size w' w'') := Lib.hid (fun w' cap' h1 h2 h3 => by
    have := mk_digest l.length (l.drop k) (some ⟨b, off + k * 2, none⟩) cap' w' (by omega) (by omega) (hf.drop k) (h2.drop k) h1 (by omega)
    rwa [hld1] at this)
  have HPA : Hid (∀ w' cap', i < k → LaidOk w' → PsAt w' (some ⟨b, off, none⟩) l → k ≤ cap' → Calls Tryd.prog 71 #[.slice (some ⟨b, off, none⟩) k cap', .int .i64 (i : Int)] w' (PathPost w' (pathL (l.take k) i))) := Lib.hid (fun w' cap' h0 h1 h2 h3 => by
    have := ih (l.take k) i (some ⟨b, off, none⟩) cap' w' (by omega) (by omega) (hf.take k) (h2.take k) h1 (by omega) (by omega)
    rwa [hlt1] at this)
  have HPB : Hid (∀ w' cap' (j : Nat), ¬ i < k → j = i - k → LaidOk w' → PsAt w' (some ⟨b, off, none⟩) l → l.length - k ≤ cap' → Calls Tryd.prog 71 #[.slice (some ⟨b, off + k * 2, none⟩) (l.length - k) cap', .int .i64 (j : Int)] w' (PathPost w' (pathL (l.drop k) (i - k)))) := Lib.hid (fun w' cap' j h0 hj h1 h2 h3 => by
    have := ih (l.drop k) (i - k) (some ⟨b, off + k * 2, none⟩) cap' w' (by omega) (by omega) (hf.drop k) (h2.drop k) h1 (by omega) (by omega)
    rw [hj]
    rwa [hld1] at this)
  have HLEN : Hid ((pathL (l.take k) i).length ≤ 1000000 ∧ (pathL (l.drop k) (i - k)).length ≤ 1000000) := Lib.hid ⟨by have := pathL_len _ (l.take k) i (Nat.le_refl _); omega, by have := pathL_len _ (l.drop k) (i - k) (Nat.le_refl _); omega⟩
  have H := Lib.hid (And.intro hA hL)
  have hc1 : (k : Int) ≤ (cap : Int) := by omega
  have hc2 : (k : Int) ≤ (l.length : Int) := by omega
  have hc3 : ¬ cap = k := by omega
  have hc4 : (l.length : Int) ≤ (cap : Int) := by omega
  have e1 : ((l.length : Int) == 1) = false := by rw [beq_eq_false_iff_ne]; omega
  have d0 : decide ((i : Int) < 0) = false := decide_eq_false (by omega)
  have d1 : decide ((l.length : Int) ≤ (i : Int)) = false := decide_eq_false (by omega)
  have d2 : decide (l.length ≤ i) = false := decide_eq_false (by omega)
  clear hf hA hL hk hlt1 hld1
  by_cases hik : i < k
  · have e : pathL l i = pathL (l.take k) i ++ [digL (l.drop k)] := (hpm.1 hik).1
    have d3 : decide ((i : Int) < (k : Int)) = true := decide_eq_true (by omega)
    have d4 : decide (i < k) = true := decide_eq_true hik
    generalize pathL l i = PL at *
    subst e
    have HJ := Lib.hid hik
    clear hpm
    obtain ⟨ps, hps⟩ : ∃ ps, ps = pathL (l.take k) i := ⟨_, rfl⟩
    rw [← hps] at HPA HLEN
    rw [← hps]
    clear hps HPB hik
    generalize digL (l.take k) = D1 at *
    generalize digL (l.drop k) = D2 at *
    go_enter Tryd.func71, Tryd.ntmps71
    go_wp2_with fail
    refine (HL.out w).mono ?_
    rintro x w1 ⟨rfl, rfl⟩
    go_wp2
    have HW : Hid (PsAt w.drew (some ⟨b, off, none⟩) l ∧ LaidOk w.drew ∧ Below w.heap.size w w.drew) := Lib.hid ⟨H.out.1, H.out.2.later (Below.refl _ _).drew, (Below.refl _ _).drew⟩
    have HZ : Hid (w.drew.heap.size = w.heap.size) := Lib.hid rfl
    refine wp_region_any (by kernel_rfl) ?_
    (try (change wpAny _ _ _ _ _ _ _ (World.drew _)))
    generalize w.drew = z0 at *
    refine wpAny_take (i := 0) (v := ?_) rfl (by kernel_rfl) (by kernel_rfl) (by kernel_rfl) (fun _ _ _ h => h) (Or.inl ⟨by kernel_rfl, ?_⟩) ?_
    rotate_left
    · intro w; go_simp; with_reducible rfl
    refine wpAny_take (i := 1) (v := ?_) rfl (by kernel_rfl) (by kernel_rfl) (by kernel_rfl) (fun _ _ _ h => h) (Or.inl ⟨by kernel_rfl, ?_⟩) ?_
    rotate_left
    · intro w; go_simp; with_reducible rfl
    refine wpAny_take (i := 2) (v := ?_) rfl (by kernel_rfl) (by kernel_rfl) (by kernel_rfl) (fun _ _ _ h => h) (Or.inl ⟨by kernel_rfl, ?_⟩) ?_
    rotate_left
    · intro w; go_simp; with_reducible rfl
    refine wpAny_take (i := 3) (v := ?_) rfl (by kernel_rfl) (by kernel_rfl) (by kernel_rfl) (fun _ _ _ h => h) (Or.inl ⟨by kernel_rfl, ?_⟩) ?_
    rotate_left
    · intro w; go_simp; with_reducible rfl
    refine wpAny_take (i := 5) (v := ?_) rfl (by kernel_rfl) (by kernel_rfl) (by kernel_rfl) (fun _ _ _ h => h) (Or.inl ⟨by kernel_rfl, ?_⟩) ?_
    rotate_left
    · intro w; go_simp; with_reducible rfl
    refine wpAny_take (i := 6) (v := ?_) rfl (by kernel_rfl) (by kernel_rfl) (by kernel_rfl) (fun _ _ _ h => h) (Or.inl ⟨by kernel_rfl, ?_⟩) ?_
    rotate_left
    · intro w; go_simp; with_reducible rfl
    refine wpAny_take (i := 7) (v := ?_) rfl (by kernel_rfl) (by kernel_rfl) (by kernel_rfl) (fun _ _ _ h => h) (Or.inl ⟨by kernel_rfl, ?_⟩) ?_
    rotate_left
    · intro w; go_simp; with_reducible rfl
    refine wpAny_ready (rs := [4]) (by kernel_rfl) (by simp) ?_
    refine AllReady.cons rfl (fun K hK => ?_) AllReady.nil
    go_simp
    refine (HPA.out _ _ HJ.out HW.out.2.1 HW.out.1 (by omega)).mono ?_
    rintro x z1 ⟨v, rfl, hown, hb1⟩
    have HW1 : Hid (PsAt z1 (some ⟨b, off, none⟩) l ∧ LaidOk z1 ∧ Below w.heap.size w z1 ∧ z1.ownsRow w.heap.size 9 1 v ps.length (scells ps)) := Lib.hid ⟨HW.out.1.below hb1, HW.out.2.1.later hb1, HW.out.2.2.trans (hb1.mono HW.out.2.2.size), by rw [← HZ.out]; exact hown⟩
    clear hb1 HW HZ hown
    (first | (refine hK _ _ ?_; clear hK K) | skip)
    refine wpAny_ready (rs := [8]) (by kernel_rfl) (by simp) ?_
    refine AllReady.cons rfl (fun K hK => ?_) AllReady.nil
    go_simp
    refine (HIB.out _ _ HW1.out.2.1 HW1.out.1 (by omega)).mono ?_
    rintro x z2 ⟨rfl, hb2⟩
    have HW2 : Hid (Below w.heap.size w z2 ∧ z2.ownsRow w.heap.size 9 1 v ps.length (scells ps)) := Lib.hid ⟨HW1.out.2.2.1.trans (hb2.mono HW1.out.2.2.1.size), own_belowB HW1.out.2.2.2 hb2⟩
    clear hb2 HW1
    (first | (refine hK _ _ ?_; clear hK K) | skip)
    refine wpAny_ready (rs := [9]) (by kernel_rfl) (by simp) ?_
    refine AllReady.cons rfl (fun K hK => ?_) AllReady.nil
    go_simp
    (first | (refine hK _ _ ?_; clear hK K) | skip)
    have HW3 : Hid (Below w.heap.size w (z2.alloc (.cells #[.string D2] 9)) ∧ (z2.alloc (.cells #[.string D2] 9)).ownsRow w.heap.size 9 1 v ps.length (scells ps)) := Lib.hid ⟨HW2.out.1.trans ((Kq.below_alloc _ _).mono HW2.out.1.size), own_belowB HW2.out.2 (Kq.below_alloc _ _)⟩
    have HSRC := Lib.hid (str_src z2 D2)
    refine wpAny_ready (rs := [10]) (by kernel_rfl) (by simp) ?_
    refine AllReady.cons rfl (fun K hK => ?_) AllReady.nil
    rw [if_pos (by kernel_rfl)]
    refine Kq.wp_append_any _ (.tmp 29) (.tmp 34) 28 28 rfl w.heap.size 9 i0 (.string ⟨#[]⟩) 1 16 Tryd.underlying28 hi0 hz0 hz1 hz2 rfl (by decide) v ps.length (scells ps) (by kernel_rfl) HW3.out.2 (.slice (some ⟨z2.heap.size, 0, none⟩) 1 1) 1 (scells [D2]) (by kernel_rfl) HSRC.out ?e1 ?e2 HW3.out.1.size ?_
    case e1 => have := HLEN.out.1; unfold maxLen; omega
    case e2 => have := HLEN.out.1; omega
    intro v' z3 hown3 hgrow hfresh
    have HW4 : Hid (PathPost w (ps ++ [D2]) (.returned v') z3) := Lib.hid ⟨v', rfl, by rw [List.length_append, scells_snoc]; exact hown3, HW3.out.1.trans ((Kq.Keeps.grown (S := fun g => w.heap.size ≤ g) hgrow (fun g _ hg => own_geB HW3.out.2 hg)).below HW3.out.1.size (fun g _ hg => hg))⟩
    clear hown3 hgrow hfresh HW3 HW2 HSRC
    refine hK _ _ ?_
    clear hK K
    refine wpAny_take (i := 11) (v := ?_) rfl (by kernel_rfl) (by kernel_rfl) (by kernel_rfl) (fun _ _ _ h => h) (Or.inl ⟨by kernel_rfl, ?_⟩) ?_
    rotate_left
    · intro w; go_simp; with_reducible rfl
    refine wpAny_done (by kernel_rfl) ?_ _
    go_wp2
    go_ret
    exact HW4.out
  · have e : pathL l i = pathL (l.drop k) (i - k) ++ [digL (l.take k)] := (hpm.2 hik).1
    have d3 : decide ((i : Int) < (k : Int)) = false := decide_eq_false (by omega)
    have d4 : decide (i < k) = false := decide_eq_false hik
    generalize pathL l i = PL at *
    subst e
    obtain ⟨j, hj⟩ : ∃ j, j = i - k := ⟨_, rfl⟩
    have hw1 : IntKind.i64.wrap ((i : Int) - (k : Int)) = (j : Int) := by rw [IntWalk.i64_in _ (by omega)]; omega
    have HJ := Lib.hid (And.intro hik hj)
    clear hj
    clear hpm
    obtain ⟨ps, hps⟩ : ∃ ps, ps = pathL (l.drop k) (i - k) := ⟨_, rfl⟩
    rw [← hps] at HPB HLEN
    rw [← hps]
    clear hps HPA hik
    generalize digL (l.take k) = D1 at *
    generalize digL (l.drop k) = D2 at *
    go_enter Tryd.func71, Tryd.ntmps71
    go_wp2_with fail
    refine (HL.out w).mono ?_
    rintro x w1 ⟨rfl, rfl⟩
    go_wp2
    have HW : Hid (PsAt w.drew (some ⟨b, off, none⟩) l ∧ LaidOk w.drew ∧ Below w.heap.size w w.drew) := Lib.hid ⟨H.out.1, H.out.2.later (Below.refl _ _).drew, (Below.refl _ _).drew⟩
    have HZ : Hid (w.drew.heap.size = w.heap.size) := Lib.hid rfl
    refine wp_region_any (by kernel_rfl) ?_
    (try (change wpAny _ _ _ _ _ _ _ (World.drew _)))
    generalize w.drew = z0 at *
    refine wpAny_take (i := 0) (v := ?_) rfl (by kernel_rfl) (by kernel_rfl) (by kernel_rfl) (fun _ _ _ h => h) (Or.inl ⟨by kernel_rfl, ?_⟩) ?_
    rotate_left
    · intro w; go_simp; with_reducible rfl
    refine wpAny_take (i := 1) (v := ?_) rfl (by kernel_rfl) (by kernel_rfl) (by kernel_rfl) (fun _ _ _ h => h) (Or.inl ⟨by kernel_rfl, ?_⟩) ?_
    rotate_left
    · intro w; go_simp; with_reducible rfl
    refine wpAny_take (i := 2) (v := ?_) rfl (by kernel_rfl) (by kernel_rfl) (by kernel_rfl) (fun _ _ _ h => h) (Or.inl ⟨by kernel_rfl, ?_⟩) ?_
    rotate_left
    · intro w; go_simp; with_reducible rfl
    refine wpAny_take (i := 3) (v := ?_) rfl (by kernel_rfl) (by kernel_rfl) (by kernel_rfl) (fun _ _ _ h => h) (Or.inl ⟨by kernel_rfl, ?_⟩) ?_
    rotate_left
    · intro w; go_simp; with_reducible rfl
    refine wpAny_take (i := 4) (v := ?_) rfl (by kernel_rfl) (by kernel_rfl) (by kernel_rfl) (fun _ _ _ h => h) (Or.inl ⟨by kernel_rfl, ?_⟩) ?_
    rotate_left
    · intro w; go_simp; with_reducible rfl
    refine wpAny_take (i := 5) (v := ?_) rfl (by kernel_rfl) (by kernel_rfl) (by kernel_rfl) (fun _ _ _ h => h) (Or.inl ⟨by kernel_rfl, ?_⟩) ?_
    rotate_left
    · intro w; go_simp; with_reducible rfl
    refine wpAny_take (i := 7) (v := ?_) rfl (by kernel_rfl) (by kernel_rfl) (by kernel_rfl) (fun _ _ _ h => h) (Or.inl ⟨by kernel_rfl, ?_⟩) ?_
    rotate_left
    · intro w; go_simp; with_reducible rfl
    refine wpAny_take (i := 8) (v := ?_) rfl (by kernel_rfl) (by kernel_rfl) (by kernel_rfl) (fun _ _ _ h => h) (Or.inl ⟨by kernel_rfl, ?_⟩) ?_
    rotate_left
    · intro w; go_simp; with_reducible rfl
    refine wpAny_take (i := 9) (v := ?_) rfl (by kernel_rfl) (by kernel_rfl) (by kernel_rfl) (fun _ _ _ h => h) (Or.inl ⟨by kernel_rfl, ?_⟩) ?_
    rotate_left
    · intro w; go_simp; with_reducible rfl
    refine wpAny_ready (rs := [6]) (by kernel_rfl) (by simp) ?_
    refine AllReady.cons rfl (fun K hK => ?_) AllReady.nil
    go_simp
    refine (HPB.out _ _ j HJ.out.1 HJ.out.2 HW.out.2.1 HW.out.1 (by omega)).mono ?_
    rintro x z1 ⟨v, rfl, hown, hb1⟩
    have HW1 : Hid (PsAt z1 (some ⟨b, off, none⟩) l ∧ LaidOk z1 ∧ Below w.heap.size w z1 ∧ z1.ownsRow w.heap.size 9 1 v ps.length (scells ps)) := Lib.hid ⟨HW.out.1.below hb1, HW.out.2.1.later hb1, HW.out.2.2.trans (hb1.mono HW.out.2.2.size), by rw [← HZ.out]; exact hown⟩
    clear hb1 HW HZ hown
    (first | (refine hK _ _ ?_; clear hK K) | skip)
    refine wpAny_ready (rs := [10]) (by kernel_rfl) (by simp) ?_
    refine AllReady.cons rfl (fun K hK => ?_) AllReady.nil
    go_simp
    refine (HIA.out _ _ HW1.out.2.1 HW1.out.1 (by omega)).mono ?_
    rintro x z2 ⟨rfl, hb2⟩
    have HW2 : Hid (Below w.heap.size w z2 ∧ z2.ownsRow w.heap.size 9 1 v ps.length (scells ps)) := Lib.hid ⟨HW1.out.2.2.1.trans (hb2.mono HW1.out.2.2.1.size), own_belowB HW1.out.2.2.2 hb2⟩
    clear hb2 HW1
    (first | (refine hK _ _ ?_; clear hK K) | skip)
    refine wpAny_ready (rs := [11]) (by kernel_rfl) (by simp) ?_
    refine AllReady.cons rfl (fun K hK => ?_) AllReady.nil
    go_simp
    (first | (refine hK _ _ ?_; clear hK K) | skip)
    have HW3 : Hid (Below w.heap.size w (z2.alloc (.cells #[.string D1] 9)) ∧ (z2.alloc (.cells #[.string D1] 9)).ownsRow w.heap.size 9 1 v ps.length (scells ps)) := Lib.hid ⟨HW2.out.1.trans ((Kq.below_alloc _ _).mono HW2.out.1.size), own_belowB HW2.out.2 (Kq.below_alloc _ _)⟩
    have HSRC := Lib.hid (str_src z2 D1)
    refine wpAny_ready (rs := [12]) (by kernel_rfl) (by simp) ?_
    refine AllReady.cons rfl (fun K hK => ?_) AllReady.nil
    rw [if_pos (by kernel_rfl)]
    refine Kq.wp_append_any _ (.tmp 42) (.tmp 47) 28 28 rfl w.heap.size 9 i0 (.string ⟨#[]⟩) 1 16 Tryd.underlying28 hi0 hz0 hz1 hz2 rfl (by decide) v ps.length (scells ps) (by kernel_rfl) HW3.out.2 (.slice (some ⟨z2.heap.size, 0, none⟩) 1 1) 1 (scells [D1]) (by kernel_rfl) HSRC.out ?e1 ?e2 HW3.out.1.size ?_
    case e1 => have := HLEN.out.2; unfold maxLen; omega
    case e2 => have := HLEN.out.2; omega
    intro v' z3 hown3 hgrow hfresh
    have HW4 : Hid (PathPost w (ps ++ [D1]) (.returned v') z3) := Lib.hid ⟨v', rfl, by rw [List.length_append, scells_snoc]; exact hown3, HW3.out.1.trans ((Kq.Keeps.grown (S := fun g => w.heap.size ≤ g) hgrow (fun g _ hg => own_geB HW3.out.2 hg)).below HW3.out.1.size (fun g _ hg => hg))⟩
    clear hown3 hgrow hfresh HW3 HW2 HSRC
    refine hK _ _ ?_
    clear hK K
    refine wpAny_take (i := 13) (v := ?_) rfl (by kernel_rfl) (by kernel_rfl) (by kernel_rfl) (fun _ _ _ h => h) (Or.inl ⟨by kernel_rfl, ?_⟩) ?_
    rotate_left
    · intro w; go_simp; with_reducible rfl
    refine wpAny_done (by kernel_rfl) ?_ _
    go_wp2
    go_ret
    exact HW4.out
theorem mk_path : ∀ n : Nat, PathOk n := by
  intro n
  induction n with
  | zero => exact fun l i A cap w hn _ _ _ _ _ hi => absurd hi (by omega)
  | succ n ih => exact path_step n ih
end Go.Proofs.YtclloplkbajebaaDoor
namespace Go.Proofs.YtclloplkbajebaaDoor
open Go.RowKit
set_option linter.unusedVariables false
def ltT (a b : ByteArray) : Bool := Op.bytesLess a.toList b.toList
theorem less_not : ∀ x y : List UInt8, (!Op.bytesLess x y) = (Op.bytesLess y x || y == x)
  | [], [] => rfl
  | [], b :: y => by simp [Op.bytesLess]
  | a :: x, [] => by simp [Op.bytesLess]
  | a :: x, b :: y => by
    have ih := less_not x y
    simp only [Op.bytesLess]
    by_cases h1 : a < b
    · have h2 : ¬ b < a := fun h => by have := UInt8.lt_iff_toNat_lt.1 h1; have := UInt8.lt_iff_toNat_lt.1 h; omega
      have h3 : (b == a) = false := by rw [beq_eq_false_iff_ne]; rintro rfl; exact h2 h1
      simp [h1, h2, h3]
    · by_cases h2 : b < a
      · have h3 : (a == b) = false := by rw [beq_eq_false_iff_ne]; rintro rfl; exact h1 h2
        simp [h1, h2, h3]
      · have h3 : a = b := UInt8.toNat_inj.1 (by have n1 : ¬ a.toNat < b.toNat := fun h => h1 (UInt8.lt_iff_toNat_lt.2 h); have n2 : ¬ b.toNat < a.toNat := fun h => h2 (UInt8.lt_iff_toNat_lt.2 h); omega)
        subst h3
        simp only [h1, decide_false, Bool.false_or, beq_self_eq_true, Bool.true_and]
        rw [ih]
        simp
def badB (p : PairV) : Bool := decide (p.1.size = 0 ∨ 16 < p.1.size ∨ 64 < p.2.size)
def ordB (l : List PairV) : Bool := (List.range (l.length - 1)).all fun i => ltT (l.getD i (⟨#[]⟩, ⟨#[]⟩)).1 (l.getD (i + 1) (⟨#[]⟩, ⟨#[]⟩)).1
/-- what Check tells, of few pairs -/
def chkE (l : List PairV) : Int := if l.any badB then 1 else if ordB l then 0 else 15
theorem chk_bad {l : List PairV} {j : Nat} (h : j < l.length) (hb : badB l[j] = true) : chkE l = 1 := by
  unfold chkE
  rw [if_pos (List.any_eq_true.2 ⟨l[j], List.getElem_mem _, hb⟩)]
theorem any_not {l : List PairV} (h : ∀ i (hi : i < l.length), badB l[i] = false) : l.any badB = false := by
  rw [List.any_eq_false]
  intro p hp
  obtain ⟨i, hi, rfl⟩ := List.getElem_of_mem hp
  rw [h i hi]; decide
theorem getD_at {l : List PairV} {i : Nat} (h : i < l.length) : l.getD i (⟨#[]⟩, ⟨#[]⟩) = l[i] := by
  rw [List.getD_eq_getElem?_getD, List.getElem?_eq_getElem h]; rfl
theorem chk_order {l : List PairV} {j : Nat} (hg : ∀ i (hi : i < l.length), badB l[i] = false) (h : j + 1 < l.length) (hb : ltT l[j].1 l[j + 1].1 = false) : chkE l = 15 := by
  unfold chkE
  rw [any_not hg, if_neg (by decide), if_neg]
  intro ho
  have := List.all_eq_true.1 ho j (List.mem_range.2 (by omega))
  rw [getD_at (by omega), getD_at h, hb] at this
  cases this
theorem chk_ok {l : List PairV} (hg : ∀ i (hi : i < l.length), badB l[i] = false) (h : ∀ i (hi : i + 1 < l.length), ltT l[i].1 l[i + 1].1 = true) : chkE l = 0 := by
  unfold chkE
  rw [any_not hg, if_neg (by decide), if_pos]
  refine List.all_eq_true.2 fun i hi => ?_
  have hi' := List.mem_range.1 hi
  rw [getD_at (by omega), getD_at (by omega)]
  exact h i (by omega)
theorem chk_small {l : List PairV} (h : chkE l = 0) : ∀ p ∈ l, 0 < p.1.size ∧ p.1.size ≤ 16 ∧ p.2.size ≤ 64 := by
  intro p hp
  unfold chkE at h
  by_cases hb : l.any badB = true
  · rw [if_pos hb] at h; cases h
  · have := List.any_eq_false.1 (by simpa using hb) p hp
    unfold badB at this
    simp only [decide_eq_true_eq, not_or] at this
    omega
theorem nonempty_of {k : ByteArray} (h : ¬ k.size = 0) : k.toList.isEmpty = false := by
  rw [List.isEmpty_eq_false_iff, Lib.toList_data]
  intro e
  apply h
  have h2 : k.data.toList.length = 0 := by rw [e]; rfl
  rw [Array.length_toList] at h2
  exact h2
set_option maxRecDepth 100000 in
set_option maxHeartbeats 4000000 in
theorem rk_check (l : List PairV) (A : Option Addr) (cap : Nat) (w : World) (hA : PsAt w A l) (hl : l.length ≤ 40) :
    Calls Tryd.prog 44 #[.slice A l.length cap] w fun x w' => x = .returned (.int .i64 (chkE l)) ∧ Below w.heap.size w w' := by
  have HA := Lib.hid hA
  have HL := Lib.hid hl
  have d1 : decide ((4096 : Int) < (l.length : Int)) = false := decide_eq_false (by omega)
  have d2 : decide (4096 < l.length) = false := decide_eq_false (by omega)
  clear hA hl
  go_enter Tryd.func44, Tryd.ntmps44
  go_wp2
  go_loop [3] (fun i => ∃ j : Nat, j ≤ l.length ∧ i = .int .i64 (j : Int) ∧ (∀ i (hi : i < l.length), i < j → badB l[i] = false)) (fun i => l.length - (intOf i).toNat)
  case atStart => exact ⟨0, by omega, rfl, fun i _ hi => absurd hi (Nat.not_lt_zero _)⟩
  case round =>
    obtain ⟨j, hj, rfl, hup⟩ := hrel
    have HUP := Lib.hid hup
    have hl40 := HL.out
    by_cases hlt : j < l.length
    · obtain ⟨b, off, rfl, hb, c0, c1⟩ := HA.out j hlt
      obtain ⟨p, hp⟩ : ∃ p, p = l[j] := ⟨_, rfl⟩
      rw [← hp] at c0 c1
      have HPJ := Lib.hid hp
      have HLT := Lib.hid hlt
      have hi0 : (j : Int) < (l.length : Int) := by omega
      clear hup hb hp
      obtain ⟨k, v⟩ := p
      simp only at c0 c1
      by_cases hbad : k.size = 0 ∨ 16 < k.size ∨ 64 < v.size
      · have HE : Hid (chkE l = 1) := Lib.hid (chk_bad HLT.out (by rw [← HPJ.out]; exact decide_eq_true hbad))
        by_cases hz : k.size = 0
        · have q1 : ((k.size : Int) == 0) = true := by rw [beq_iff_eq]; omega
          clear hbad
          go_wp2
          go_ret
          exact ⟨by rw [HE.out]; rfl, Below.refl _ _⟩
        · have q1 : ((k.size : Int) == 0) = false := by rw [beq_eq_false_iff_ne]; omega
          have hbad' := hbad.resolve_left hz
          by_cases h16 : 16 < k.size
          · have t1 : decide ((16 : Int) < (k.size : Int)) = true := decide_eq_true (by omega)
            have t2 : decide (16 < k.size) = true := decide_eq_true h16
            clear hbad hbad' hz h16
            go_wp2
            go_ret
            exact ⟨by rw [HE.out]; rfl, Below.refl _ _⟩
          · have t1 : decide ((16 : Int) < (k.size : Int)) = false := decide_eq_false (by omega)
            have t2 : decide (16 < k.size) = false := decide_eq_false h16
            have h64 := hbad'.resolve_left h16
            have t3 : decide ((64 : Int) < (v.size : Int)) = true := decide_eq_true (by omega)
            have t4 : decide (64 < v.size) = true := decide_eq_true h64
            clear hbad hbad' hz h16 h64
            go_wp2
            go_ret
            exact ⟨by rw [HE.out]; rfl, Below.refl _ _⟩
      · have HG : Hid (badB (l[j]'HLT.out) = false) := Lib.hid (by rw [← HPJ.out]; exact decide_eq_false hbad)
        have hz : ¬ k.size = 0 := fun h => hbad (Or.inl h)
        have h16 : ¬ 16 < k.size := fun h => hbad (Or.inr (Or.inl h))
        have h64 : ¬ 64 < v.size := fun h => hbad (Or.inr (Or.inr h))
        have q1 : ((k.size : Int) == 0) = false := by rw [beq_eq_false_iff_ne]; omega
        have t1 : decide ((16 : Int) < (k.size : Int)) = false := decide_eq_false (by omega)
        have t2 : decide (16 < k.size) = false := decide_eq_false h16
        have t3 : decide ((64 : Int) < (v.size : Int)) = false := decide_eq_false (by omega)
        have t4 : decide (64 < v.size) = false := decide_eq_false h64
        clear hbad hz h16 h64
        go_wp2
        go_round
        case rel =>
          refine ⟨j + 1, HLT.out, by go_num, fun i hi h => ?_⟩
          rcases Nat.lt_or_ge i j with h' | h'
          · exact HUP.out i hi h'
          · have : i = j := by omega
            subst this
            exact HG.out
        case measure => have := HLT.out; simp [intOf]; omega
    · obtain rfl : j = l.length := by omega
      have HALL : Hid (∀ i (hi : i < l.length), badB l[i] = false) := Lib.hid (fun i hi => HUP.out i hi hi)
      clear HUP hup
      go_wp2
      go_loopw [4] (fun i wr => ∃ j : Nat, 1 ≤ j ∧ i = .int .i64 (j : Int) ∧ j ≤ l.length + 1 ∧ (∀ i (hi : i + 1 < l.length), i + 1 < j → ltT l[i].1 l[i + 1].1 = true) ∧ Below w.heap.size w wr) (fun i _ => l.length + 1 - (intOf i).toNat)
      case atStart => exact ⟨1, by omega, rfl, by omega, fun i _ hi => absurd hi (by omega), Below.refl _ _⟩
      case round =>
        obtain ⟨m, hm1, rfl, hm, hup, hbl⟩ := hrel
        have HUP := Lib.hid (And.intro hup hbl)
        by_cases hlt2 : m < l.length
        · obtain ⟨b, off, rfl, hb, c0, -⟩ := (HA.out.below hbl) (m - 1) (by omega)
          obtain ⟨b2, off2, he, hb2, e0, -⟩ := (HA.out.below hbl) m hlt2
          simp only [Option.some.injEq, Addr.mk.injEq] at he
          obtain ⟨rfl, rfl, -⟩ := he
          obtain ⟨j, hj⟩ : ∃ j, j = m - 1 := ⟨_, rfl⟩
          obtain rfl : m = j + 1 := by omega
          clear hj
          have hjl : j < l.length := by omega
          have hk0 : l[j + 1 - 1].1 = (l[j]'hjl).1 := by simp
          rw [hk0, show j + 1 - 1 = j by omega] at c0
          obtain ⟨k0, hk0'⟩ : ∃ k, k = (l[j]'hjl).1 := ⟨_, rfl⟩
          obtain ⟨k1, hk1'⟩ : ∃ k, k = (l[j + 1]'hlt2).1 := ⟨_, rfl⟩
          rw [← hk0'] at c0
          rw [← hk1'] at e0
          have HK := Lib.hid (And.intro hk0' hk1')
          have HLT2 := Lib.hid hlt2
          have hw1 : IntKind.i64.wrap (((j + 1 : Nat) : Int) - 1) = (j : Int) := by rw [IntWalk.i64_in _ (by omega)]; omega
          have hi0 : ((j + 1 : Nat) : Int) < (l.length : Int) := by omega
          have hi1 : (j : Int) < (l.length : Int) := by omega
          have HBL := Lib.hid hbl
          clear hup hbl hb hb2 hk0 hm1 hk0' hk1'
          obtain ⟨m, hm'⟩ : ∃ m, m = j + 1 := ⟨_, rfl⟩
          rw [← hm'] at hw1 hi0 e0 ⊢
          have HM := Lib.hid hm'
          have hmb : m ≤ 40 := by omega
          clear hm'
          by_cases hord : Op.bytesLess k0.toList k1.toList = true
          · have hn := less_not k0.toList k1.toList
            rw [hord] at hn
            have hn1 : Op.bytesLess k1.toList k0.toList = false := by
              cases h : Op.bytesLess k1.toList k0.toList
              · rfl
              · rw [h] at hn; cases hn
            have hn2 : (k1.toList == k0.toList) = false := by rw [hn1] at hn; simpa using hn.symm
            clear hn
            go_wp2
            go_quiet (fail)
            generalize hwq : wr.drewN nq = wq
            have HQ : Hid (Below w.heap.size w wq) := Lib.hid (by rw [← hwq]; exact below_drewN HBL.out nq)
            clear hwq c0 e0 hw1 hi0 hi1
            go_wp2
            go_roundw
            case rel =>
              refine ⟨m + 1, by omega, by go_num, by have := HLT2.out; have := HM.out; omega, fun i hi h => ?_, HQ.out⟩
              have hme := HM.out
              rcases Nat.lt_or_ge (i + 1) m with h' | h'
              · exact HUP.out.1 i hi (by omega)
              · have : i = j := by omega
                subst this
                unfold ltT
                rw [← HK.out.1, ← HK.out.2]
                exact hord
            case measure => have := HLT2.out; have := HM.out; simp [intOf]; omega
          · have hord' : Op.bytesLess k0.toList k1.toList = false := by simpa using hord
            have HE : Hid (chkE l = 15) := Lib.hid (chk_order HALL.out HLT2.out (by unfold ltT; rw [← HK.out.1, ← HK.out.2]; exact hord'))
            have hn := less_not k0.toList k1.toList
            rw [hord'] at hn
            have hn1 : (Op.bytesLess k1.toList k0.toList || k1.toList == k0.toList) = true := by rw [← hn]; rfl
            clear hord hord' hn
            generalize hq1 : Op.bytesLess k1.toList k0.toList = q1 at hn1
            generalize hq2 : (k1.toList == k0.toList) = q2 at hn1
            go_wp2
            go_quiet (fail)
            generalize hwq : wr.drewN nq = wq
            have HQ : Hid (Below w.heap.size w wq) := Lib.hid (by rw [← hwq]; exact below_drewN HBL.out nq)
            clear hwq c0 e0 hw1 hi0 hi1
            go_wp2
            go_ret
            exact ⟨by rw [HE.out]; rfl, HQ.out⟩
        · have HE : Hid (chkE l = 0) := Lib.hid (chk_ok HALL.out (fun i hi => hup i hi (by omega)))
          have HBL := Lib.hid hbl
          clear hup hbl HUP
          go_wp2
          go_ret
          exact ⟨by rw [HE.out]; rfl, HBL.out⟩
def FewP (l : List PairV) : Prop := l.length ≤ 40 ∧ ∀ p ∈ l, p.1.size ≤ 300 ∧ p.2.size ≤ 300
instance (l : List PairV) : Decidable (FewP l) := by unfold FewP; infer_instance
theorem FewP.fit {l : List PairV} (h : FewP l) : Fit l := fun p hp => by have := h.2 p hp; omega
end Go.Proofs.YtclloplkbajebaaDoor
