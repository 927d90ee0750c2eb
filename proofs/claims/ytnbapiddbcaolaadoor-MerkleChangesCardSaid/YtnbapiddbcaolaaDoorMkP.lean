/- Contract of merkle.Path. Condition: the constants lie where they lie; sizes. -/
import Derived.WalkSpells
import Derived.Outline
import Derived.Test.YtnbapiddbcaolaaDoorMkB
namespace Go.Proofs.YtnbapiddbcaolaaDoor
open Go.RowKit
set_option linter.unusedVariables false
def PathOk (n : Nat) : Prop := ∀ (l : List PairV) (i : Nat) (A : Option Addr) (cap : Nat) (w : World), l.length ≤ n → l.length ≤ 1000000 → Fit l → PsAt w A l → LaidOk w → l.length ≤ cap → i < l.length →
  Calls Tryd.prog 21 #[.slice A l.length cap, .int .i64 (i : Int)] w (PathPost w (pathL l i))
theorem own_nil (w : World) (base : Nat) : w.ownsRow base 9 1 (.slice none 0 0) 0 [] := ⟨rfl, Or.inl ⟨rfl, rfl⟩⟩
set_option maxRecDepth 100000 in
set_option maxHeartbeats 1000000 in
theorem path_bad (A : Option Addr) (n cap : Nat) (i : Int) (w : World) (hi : i < 0 ∨ (n : Int) ≤ i) :
    Calls Tryd.prog 21 #[.slice A n cap, .int .i64 i] w (PathPost w []) := by
  have HP : Hid (∀ x, x = .returned (.slice none 0 0) → PathPost w [] x w) := Lib.hid (fun x hx => ⟨_, hx, own_nil _ _, Below.refl _ _⟩)
  by_cases h0 : i < 0
  · have d0 : decide (i < 0) = true := decide_eq_true h0
    go_enter Tryd.func21, Tryd.ntmps21
    go_wp2
    go_ret
    exact HP.out _ rfl
  · have h1 := hi.resolve_left h0
    have d0 : decide (i < 0) = false := decide_eq_false h0
    have d1 : decide ((n : Int) ≤ i) = true := decide_eq_true h1
    clear hi
    go_enter Tryd.func21, Tryd.ntmps21
    go_wp2
    go_ret
    exact HP.out _ rfl
set_option maxRecDepth 100000 in
set_option maxHeartbeats 1000000 in
theorem path_one (A : Option Addr) (cap : Nat) (w : World) :
    Calls Tryd.prog 21 #[.slice A 1 cap, .int .i64 0] w (PathPost w []) := by
  have HP : Hid (∀ x, x = .returned (.slice none 0 0) → PathPost w [] x w) := Lib.hid (fun x hx => ⟨_, hx, own_nil _ _, Below.refl _ _⟩)
  go_enter Tryd.func21, Tryd.ntmps21
  go_wp2
  go_ret
  exact HP.out _ rfl
set_option maxRecDepth 100000 in
set_option maxHeartbeats 8000000 in
theorem path_step (n : Nat) (ih : PathOk n) : PathOk (n + 1) := by
  intro l i A cap w hn hm hf hA hL hcap hi
  obtain ⟨i0, hi0, hz0, hz1, hz2⟩ := info_partsB infoStr
  by_cases h1 : l.length ≤ 1
  · obtain ⟨p, rfl⟩ := List.length_eq_one_iff.1 (show l.length = 1 by omega)
    obtain rfl : i = 0 := by simpa using hi
    exact path_one A cap w
  obtain ⟨b, off, rfl, -, -, -⟩ := hA 0 (by omega)
  obtain ⟨k, hk⟩ : ∃ k, k = leftN l.length := ⟨_, rfl⟩
  have hk1 : 1 ≤ k := by rw [hk]; exact leftN_pos _
  have hk2 : k < l.length := by rw [hk]; exact leftN_lt _ (by omega)
  have hpm := pathL_many l i (by omega)
  rw [← hk] at hpm
  have HL := Lib.hid (fun w => mk_left l.length w (by omega) hm)
  rw [← hk] at HL
  have hlt1 : (l.take k).length = k := by rw [List.length_take]; omega
  have hld1 : (l.drop k).length = l.length - k := List.length_drop
  have HIA : Hid (∀ w' cap', LaidOk w' → PsAt w' (some ⟨b, off, none⟩) l → k ≤ cap' → Calls Tryd.prog 28 #[.slice (some ⟨b, off, none⟩) k cap'] w' fun x w'' => x = .returned (.string (digL (l.take k))) ∧ Below w'.heap.size w' w'') := Lib.hid (fun w' cap' h1 h2 h3 => by
    have := mk_digest l.length (l.take k) (some ⟨b, off, none⟩) cap' w' (by omega) (by omega) (hf.take k) (h2.take k) h1 (by omega)
    rwa [hlt1] at this)
  have HIB : Hid (∀ w' cap', LaidOk w' → PsAt w' (some ⟨b, off, none⟩) l → l.length - k ≤ cap' → Calls Tryd.prog 28 #[.slice (some ⟨b, off + k * 2, none⟩) (l.length - k) cap'] w' fun x w'' => x = .returned (.string (digL (l.drop k))) ∧ Below w'.heap.size w' w'') := Lib.hid (fun w' cap' h1 h2 h3 => by
    have := mk_digest l.length (l.drop k) (some ⟨b, off + k * 2, none⟩) cap' w' (by omega) (by omega) (hf.drop k) (h2.drop k) h1 (by omega)
    rwa [hld1] at this)
  have HPA : Hid (∀ w' cap', i < k → LaidOk w' → PsAt w' (some ⟨b, off, none⟩) l → k ≤ cap' → Calls Tryd.prog 21 #[.slice (some ⟨b, off, none⟩) k cap', .int .i64 (i : Int)] w' (PathPost w' (pathL (l.take k) i))) := Lib.hid (fun w' cap' h0 h1 h2 h3 => by
    have := ih (l.take k) i (some ⟨b, off, none⟩) cap' w' (by omega) (by omega) (hf.take k) (h2.take k) h1 (by omega) (by omega)
    rwa [hlt1] at this)
  have HPB : Hid (∀ w' cap' (j : Nat), ¬ i < k → j = i - k → LaidOk w' → PsAt w' (some ⟨b, off, none⟩) l → l.length - k ≤ cap' → Calls Tryd.prog 21 #[.slice (some ⟨b, off + k * 2, none⟩) (l.length - k) cap', .int .i64 (j : Int)] w' (PathPost w' (pathL (l.drop k) (i - k)))) := Lib.hid (fun w' cap' j h0 hj h1 h2 h3 => by
    have := ih (l.drop k) (i - k) (some ⟨b, off + k * 2, none⟩) cap' w' (by omega) (by omega) (hf.drop k) (h2.drop k) h1 (by omega) (by omega)
    rw [hj]
    rwa [hld1] at this)
  have HLEN : Hid ((pathL (l.take k) i).length ≤ 1000000 ∧ (pathL (l.drop k) (i - k)).length ≤ 1000000) := Lib.hid ⟨by have := pathL_len _ (l.take k) i (Nat.le_refl _); omega, by have := pathL_len _ (l.drop k) (i - k) (Nat.le_refl _); omega⟩
  have H := Lib.hid (And.intro hA hL)
  have hc1 : (k : Int) ≤ (cap : Int) := by omega
  have hc2 : (k : Int) ≤ (l.length : Int) := by omega
  have hc3 : ¬ cap = k := by omega
  have hc4 : (l.length : Int) ≤ (cap : Int) := by omega
  have e1 : ((l.length : Int) == 1) = false := by rw [beq_eq_false_iff_ne]; omega
  have d0 : decide ((i : Int) < 0) = false := decide_eq_false (by omega)
  have d1 : decide ((l.length : Int) ≤ (i : Int)) = false := decide_eq_false (by omega)
  have d2 : decide (l.length ≤ i) = false := decide_eq_false (by omega)
  clear hf hA hL hk hlt1 hld1
  by_cases hik : i < k
  · have e : pathL l i = pathL (l.take k) i ++ [digL (l.drop k)] := (hpm.1 hik).1
    have d3 : decide ((i : Int) < (k : Int)) = true := decide_eq_true (by omega)
    have d4 : decide (i < k) = true := decide_eq_true hik
    generalize pathL l i = PL at *
    subst e
    have HJ := Lib.hid hik
    clear hpm
    obtain ⟨ps, hps⟩ : ∃ ps, ps = pathL (l.take k) i := ⟨_, rfl⟩
    rw [← hps] at HPA HLEN
    rw [← hps]
    clear hps HPB hik
    generalize digL (l.take k) = D1 at *
    generalize digL (l.drop k) = D2 at *
    go_enter Tryd.func21, Tryd.ntmps21
    go_wp2_with fail
    refine (HL.out w).mono ?_
    rintro x w1 ⟨rfl, rfl⟩
    go_wp2
    have HW : Hid (PsAt w.drew (some ⟨b, off, none⟩) l ∧ LaidOk w.drew ∧ Below w.heap.size w w.drew) := Lib.hid ⟨H.out.1, H.out.2.later (Below.refl _ _).drew, (Below.refl _ _).drew⟩
    have HZ : Hid (w.drew.heap.size = w.heap.size) := Lib.hid rfl
    refine wp_region_any (by kernel_rfl) ?_
    (try (change wpAny _ _ _ _ _ _ _ (World.drew _)))
    generalize w.drew = z0 at *
    refine wpAny_take (i := 0) (v := ?_) rfl (by kernel_rfl) (by kernel_rfl) (by kernel_rfl) (fun _ _ _ h => h) (Or.inl ⟨by kernel_rfl, ?_⟩) ?_
    rotate_left
    · intro w; go_simp; with_reducible rfl
    refine wpAny_take (i := 1) (v := ?_) rfl (by kernel_rfl) (by kernel_rfl) (by kernel_rfl) (fun _ _ _ h => h) (Or.inl ⟨by kernel_rfl, ?_⟩) ?_
    rotate_left
    · intro w; go_simp; with_reducible rfl
    refine wpAny_take (i := 2) (v := ?_) rfl (by kernel_rfl) (by kernel_rfl) (by kernel_rfl) (fun _ _ _ h => h) (Or.inl ⟨by kernel_rfl, ?_⟩) ?_
    rotate_left
    · intro w; go_simp; with_reducible rfl
    refine wpAny_take (i := 3) (v := ?_) rfl (by kernel_rfl) (by kernel_rfl) (by kernel_rfl) (fun _ _ _ h => h) (Or.inl ⟨by kernel_rfl, ?_⟩) ?_
    rotate_left
    · intro w; go_simp; with_reducible rfl
    refine wpAny_take (i := 5) (v := ?_) rfl (by kernel_rfl) (by kernel_rfl) (by kernel_rfl) (fun _ _ _ h => h) (Or.inl ⟨by kernel_rfl, ?_⟩) ?_
    rotate_left
    · intro w; go_simp; with_reducible rfl
    refine wpAny_take (i := 6) (v := ?_) rfl (by kernel_rfl) (by kernel_rfl) (by kernel_rfl) (fun _ _ _ h => h) (Or.inl ⟨by kernel_rfl, ?_⟩) ?_
    rotate_left
    · intro w; go_simp; with_reducible rfl
    refine wpAny_take (i := 7) (v := ?_) rfl (by kernel_rfl) (by kernel_rfl) (by kernel_rfl) (fun _ _ _ h => h) (Or.inl ⟨by kernel_rfl, ?_⟩) ?_
    rotate_left
    · intro w; go_simp; with_reducible rfl
    refine wpAny_ready (rs := [4]) (by kernel_rfl) (by simp) ?_
    refine AllReady.cons rfl (fun K hK => ?_) AllReady.nil
    go_simp
    refine (HPA.out _ _ HJ.out HW.out.2.1 HW.out.1 (by omega)).mono ?_
    rintro x z1 ⟨v, rfl, hown, hb1⟩
    have HW1 : Hid (PsAt z1 (some ⟨b, off, none⟩) l ∧ LaidOk z1 ∧ Below w.heap.size w z1 ∧ z1.ownsRow w.heap.size 9 1 v ps.length (scells ps)) := Lib.hid ⟨HW.out.1.below hb1, HW.out.2.1.later hb1, HW.out.2.2.trans (hb1.mono HW.out.2.2.size), by rw [← HZ.out]; exact hown⟩
    clear hb1 HW HZ hown
    (first | (refine hK _ _ ?_; clear hK K) | skip)
    refine wpAny_ready (rs := [8]) (by kernel_rfl) (by simp) ?_
    refine AllReady.cons rfl (fun K hK => ?_) AllReady.nil
    go_simp
    refine (HIB.out _ _ HW1.out.2.1 HW1.out.1 (by omega)).mono ?_
    rintro x z2 ⟨rfl, hb2⟩
    have HW2 : Hid (Below w.heap.size w z2 ∧ z2.ownsRow w.heap.size 9 1 v ps.length (scells ps)) := Lib.hid ⟨HW1.out.2.2.1.trans (hb2.mono HW1.out.2.2.1.size), own_belowB HW1.out.2.2.2 hb2⟩
    clear hb2 HW1
    (first | (refine hK _ _ ?_; clear hK K) | skip)
    refine wpAny_ready (rs := [9]) (by kernel_rfl) (by simp) ?_
    refine AllReady.cons rfl (fun K hK => ?_) AllReady.nil
    go_simp
    (first | (refine hK _ _ ?_; clear hK K) | skip)
    have HW3 : Hid (Below w.heap.size w (z2.alloc (.cells #[.string D2] 9)) ∧ (z2.alloc (.cells #[.string D2] 9)).ownsRow w.heap.size 9 1 v ps.length (scells ps)) := Lib.hid ⟨HW2.out.1.trans ((Kq.below_alloc _ _).mono HW2.out.1.size), own_belowB HW2.out.2 (Kq.below_alloc _ _)⟩
    have HSRC := Lib.hid (str_src z2 D2)
    refine wpAny_ready (rs := [10]) (by kernel_rfl) (by simp) ?_
    refine AllReady.cons rfl (fun K hK => ?_) AllReady.nil
    rw [if_pos (by kernel_rfl)]
    refine Kq.wp_append_any _ (.tmp 29) (.tmp 34) 39 39 rfl w.heap.size 9 i0 (.string ⟨#[]⟩) 1 16 Tryd.underlying39 hi0 hz0 hz1 hz2 rfl (by decide) v ps.length (scells ps) (by kernel_rfl) HW3.out.2 (.slice (some ⟨z2.heap.size, 0, none⟩) 1 1) 1 (scells [D2]) (by kernel_rfl) HSRC.out ?e1 ?e2 HW3.out.1.size ?_
    case e1 => have := HLEN.out.1; unfold maxLen; omega
    case e2 => have := HLEN.out.1; omega
    intro v' z3 hown3 hgrow hfresh
    have HW4 : Hid (PathPost w (ps ++ [D2]) (.returned v') z3) := Lib.hid ⟨v', rfl, by rw [List.length_append, scells_snoc]; exact hown3, HW3.out.1.trans ((Kq.Keeps.grown (S := fun g => w.heap.size ≤ g) hgrow (fun g _ hg => own_geB HW3.out.2 hg)).below HW3.out.1.size (fun g _ hg => hg))⟩
    clear hown3 hgrow hfresh HW3 HW2 HSRC
    refine hK _ _ ?_
    clear hK K
    refine wpAny_take (i := 11) (v := ?_) rfl (by kernel_rfl) (by kernel_rfl) (by kernel_rfl) (fun _ _ _ h => h) (Or.inl ⟨by kernel_rfl, ?_⟩) ?_
    rotate_left
    · intro w; go_simp; with_reducible rfl
    refine wpAny_done (by kernel_rfl) ?_ _
    go_wp2
    go_ret
    exact HW4.out
  · have e : pathL l i = pathL (l.drop k) (i - k) ++ [digL (l.take k)] := (hpm.2 hik).1
    have d3 : decide ((i : Int) < (k : Int)) = false := decide_eq_false (by omega)
    have d4 : decide (i < k) = false := decide_eq_false hik
    generalize pathL l i = PL at *
    subst e
    obtain ⟨j, hj⟩ : ∃ j, j = i - k := ⟨_, rfl⟩
    have hw1 : IntKind.i64.wrap ((i : Int) - (k : Int)) = (j : Int) := by rw [IntWalk.i64_in _ (by omega)]; omega
    have HJ := Lib.hid (And.intro hik hj)
    clear hj
    clear hpm
    obtain ⟨ps, hps⟩ : ∃ ps, ps = pathL (l.drop k) (i - k) := ⟨_, rfl⟩
    rw [← hps] at HPB HLEN
    rw [← hps]
    clear hps HPA hik
    generalize digL (l.take k) = D1 at *
    generalize digL (l.drop k) = D2 at *
    go_enter Tryd.func21, Tryd.ntmps21
    go_wp2_with fail
    refine (HL.out w).mono ?_
    rintro x w1 ⟨rfl, rfl⟩
    go_wp2
    have HW : Hid (PsAt w.drew (some ⟨b, off, none⟩) l ∧ LaidOk w.drew ∧ Below w.heap.size w w.drew) := Lib.hid ⟨H.out.1, H.out.2.later (Below.refl _ _).drew, (Below.refl _ _).drew⟩
    have HZ : Hid (w.drew.heap.size = w.heap.size) := Lib.hid rfl
    refine wp_region_any (by kernel_rfl) ?_
    (try (change wpAny _ _ _ _ _ _ _ (World.drew _)))
    generalize w.drew = z0 at *
    refine wpAny_take (i := 0) (v := ?_) rfl (by kernel_rfl) (by kernel_rfl) (by kernel_rfl) (fun _ _ _ h => h) (Or.inl ⟨by kernel_rfl, ?_⟩) ?_
    rotate_left
    · intro w; go_simp; with_reducible rfl
    refine wpAny_take (i := 1) (v := ?_) rfl (by kernel_rfl) (by kernel_rfl) (by kernel_rfl) (fun _ _ _ h => h) (Or.inl ⟨by kernel_rfl, ?_⟩) ?_
    rotate_left
    · intro w; go_simp; with_reducible rfl
    refine wpAny_take (i := 2) (v := ?_) rfl (by kernel_rfl) (by kernel_rfl) (by kernel_rfl) (fun _ _ _ h => h) (Or.inl ⟨by kernel_rfl, ?_⟩) ?_
    rotate_left
    · intro w; go_simp; with_reducible rfl
    refine wpAny_take (i := 3) (v := ?_) rfl (by kernel_rfl) (by kernel_rfl) (by kernel_rfl) (fun _ _ _ h => h) (Or.inl ⟨by kernel_rfl, ?_⟩) ?_
    rotate_left
    · intro w; go_simp; with_reducible rfl
    refine wpAny_take (i := 4) (v := ?_) rfl (by kernel_rfl) (by kernel_rfl) (by kernel_rfl) (fun _ _ _ h => h) (Or.inl ⟨by kernel_rfl, ?_⟩) ?_
    rotate_left
    · intro w; go_simp; with_reducible rfl
    refine wpAny_take (i := 5) (v := ?_) rfl (by kernel_rfl) (by kernel_rfl) (by kernel_rfl) (fun _ _ _ h => h) (Or.inl ⟨by kernel_rfl, ?_⟩) ?_
    rotate_left
    · intro w; go_simp; with_reducible rfl
    refine wpAny_take (i := 7) (v := ?_) rfl (by kernel_rfl) (by kernel_rfl) (by kernel_rfl) (fun _ _ _ h => h) (Or.inl ⟨by kernel_rfl, ?_⟩) ?_
    rotate_left
    · intro w; go_simp; with_reducible rfl
    refine wpAny_take (i := 8) (v := ?_) rfl (by kernel_rfl) (by kernel_rfl) (by kernel_rfl) (fun _ _ _ h => h) (Or.inl ⟨by kernel_rfl, ?_⟩) ?_
    rotate_left
    · intro w; go_simp; with_reducible rfl
    refine wpAny_take (i := 9) (v := ?_) rfl (by kernel_rfl) (by kernel_rfl) (by kernel_rfl) (fun _ _ _ h => h) (Or.inl ⟨by kernel_rfl, ?_⟩) ?_
    rotate_left
    · intro w; go_simp; with_reducible rfl
    refine wpAny_ready (rs := [6]) (by kernel_rfl) (by simp) ?_
    refine AllReady.cons rfl (fun K hK => ?_) AllReady.nil
    go_simp
    refine (HPB.out _ _ j HJ.out.1 HJ.out.2 HW.out.2.1 HW.out.1 (by omega)).mono ?_
    rintro x z1 ⟨v, rfl, hown, hb1⟩
    have HW1 : Hid (PsAt z1 (some ⟨b, off, none⟩) l ∧ LaidOk z1 ∧ Below w.heap.size w z1 ∧ z1.ownsRow w.heap.size 9 1 v ps.length (scells ps)) := Lib.hid ⟨HW.out.1.below hb1, HW.out.2.1.later hb1, HW.out.2.2.trans (hb1.mono HW.out.2.2.size), by rw [← HZ.out]; exact hown⟩
    clear hb1 HW HZ hown
    (first | (refine hK _ _ ?_; clear hK K) | skip)
    refine wpAny_ready (rs := [10]) (by kernel_rfl) (by simp) ?_
    refine AllReady.cons rfl (fun K hK => ?_) AllReady.nil
    go_simp
    refine (HIA.out _ _ HW1.out.2.1 HW1.out.1 (by omega)).mono ?_
    rintro x z2 ⟨rfl, hb2⟩
    have HW2 : Hid (Below w.heap.size w z2 ∧ z2.ownsRow w.heap.size 9 1 v ps.length (scells ps)) := Lib.hid ⟨HW1.out.2.2.1.trans (hb2.mono HW1.out.2.2.1.size), own_belowB HW1.out.2.2.2 hb2⟩
    clear hb2 HW1
    (first | (refine hK _ _ ?_; clear hK K) | skip)
    refine wpAny_ready (rs := [11]) (by kernel_rfl) (by simp) ?_
    refine AllReady.cons rfl (fun K hK => ?_) AllReady.nil
    go_simp
    (first | (refine hK _ _ ?_; clear hK K) | skip)
    have HW3 : Hid (Below w.heap.size w (z2.alloc (.cells #[.string D1] 9)) ∧ (z2.alloc (.cells #[.string D1] 9)).ownsRow w.heap.size 9 1 v ps.length (scells ps)) := Lib.hid ⟨HW2.out.1.trans ((Kq.below_alloc _ _).mono HW2.out.1.size), own_belowB HW2.out.2 (Kq.below_alloc _ _)⟩
    have HSRC := Lib.hid (str_src z2 D1)
    refine wpAny_ready (rs := [12]) (by kernel_rfl) (by simp) ?_
    refine AllReady.cons rfl (fun K hK => ?_) AllReady.nil
    rw [if_pos (by kernel_rfl)]
    refine Kq.wp_append_any _ (.tmp 42) (.tmp 47) 39 39 rfl w.heap.size 9 i0 (.string ⟨#[]⟩) 1 16 Tryd.underlying39 hi0 hz0 hz1 hz2 rfl (by decide) v ps.length (scells ps) (by kernel_rfl) HW3.out.2 (.slice (some ⟨z2.heap.size, 0, none⟩) 1 1) 1 (scells [D1]) (by kernel_rfl) HSRC.out ?e1 ?e2 HW3.out.1.size ?_
    case e1 => have := HLEN.out.2; unfold maxLen; omega
    case e2 => have := HLEN.out.2; omega
    intro v' z3 hown3 hgrow hfresh
    have HW4 : Hid (PathPost w (ps ++ [D1]) (.returned v') z3) := Lib.hid ⟨v', rfl, by rw [List.length_append, scells_snoc]; exact hown3, HW3.out.1.trans ((Kq.Keeps.grown (S := fun g => w.heap.size ≤ g) hgrow (fun g _ hg => own_geB HW3.out.2 hg)).below HW3.out.1.size (fun g _ hg => hg))⟩
    clear hown3 hgrow hfresh HW3 HW2 HSRC
    refine hK _ _ ?_
    clear hK K
    refine wpAny_take (i := 13) (v := ?_) rfl (by kernel_rfl) (by kernel_rfl) (by kernel_rfl) (fun _ _ _ h => h) (Or.inl ⟨by kernel_rfl, ?_⟩) ?_
    rotate_left
    · intro w; go_simp; with_reducible rfl
    refine wpAny_done (by kernel_rfl) ?_ _
    go_wp2
    go_ret
    exact HW4.out
theorem mk_path : ∀ n : Nat, PathOk n := by
  intro n
  induction n with
  | zero => exact fun l i A cap w hn _ _ _ _ _ hi => absurd hi (by omega)
  | succ n ih => exact path_step n ih
end Go.Proofs.YtnbapiddbcaolaaDoor
