/- Contracts of carrackref08.Path, carrackref05.Texts. Condition: sizes. -/
import Derived.WalkSpells
import Derived.Outline
import Derived.Deep.QuietTactic
import Derived.BigQuiet
import Derived.Test.YtclloplkbajebaaDoorMkCQ
import Derived.Test.YtclloplkbajebaaDoorRkVQ
namespace Go.Proofs.YtclloplkbajebaaDoor
open Go.RowKit
set_option linter.unusedVariables false
def RPathPost (w : World) (lo hi P : Nat) (U : List ByteArray) (ps : List ByteArray) (x : Ending) (w' : World) : Prop :=
  ∃ v, x = .returned v ∧ w'.ownsRow w.heap.size 9 1 v ps.length (scells ps) ∧ BookW w' lo hi P U ∧ Kq.Keeps (fun k => lo ≤ k ∧ k < hi) w w'
def RPathOk (n : Nat) : Prop := ∀ (l : List PairV) (i : Nat) (A : Option Addr) (cap lo hi P : Nat) (T : List ByteArray) (w : World), l.length ≤ n → l.length ≤ 1000000 → Fit l → PsLo w lo A l → BookW w lo hi P T → hi ≤ w.heap.size → lo ≤ w.heap.size → l.length ≤ cap → i < l.length → T.length + 2 * l.length ≤ 1000 →
  Calls Tryd.prog 72 #[.pointer (some ⟨P, 0, none⟩), .slice A l.length cap, .int .i64 (i : Int)] w (RPathPost w lo hi P (askP l i ++ T) (pathL l i))
set_option maxRecDepth 100000 in
set_option maxHeartbeats 1000000 in
theorem rpath_bad (A : Option Addr) (n cap lo hi P : Nat) (T : List ByteArray) (i : Int) (w : World) (hB : BookW w lo hi P T) (hi_ : i < 0 ∨ (n : Int) ≤ i) :
    Calls Tryd.prog 72 #[.pointer (some ⟨P, 0, none⟩), .slice A n cap, .int .i64 i] w (RPathPost w lo hi P T []) := by
  have HP : Hid (∀ x, x = .returned (.slice none 0 0) → RPathPost w lo hi P T [] x w) := Lib.hid (fun x hx => ⟨_, hx, own_nil _ _, hB, Kq.Keeps.refl _ _⟩)
  clear hB
  by_cases h0 : i < 0
  · have d0 : decide (i < 0) = true := decide_eq_true h0
    go_enter Tryd.func72, Tryd.ntmps72
    go_wp2
    go_ret
    exact HP.out _ rfl
  · have h1 := hi_.resolve_left h0
    have d0 : decide (i < 0) = false := decide_eq_false h0
    have d1 : decide ((n : Int) ≤ i) = true := decide_eq_true h1
    clear hi_
    go_enter Tryd.func72, Tryd.ntmps72
    go_wp2
    go_ret
    exact HP.out _ rfl
set_option maxRecDepth 100000 in
set_option maxHeartbeats 1000000 in
theorem rpath_one (A : Option Addr) (cap lo hi P : Nat) (T : List ByteArray) (w : World) (hB : BookW w lo hi P T) :
    Calls Tryd.prog 72 #[.pointer (some ⟨P, 0, none⟩), .slice A 1 cap, .int .i64 0] w (RPathPost w lo hi P T []) := by
  have HP : Hid (∀ x, x = .returned (.slice none 0 0) → RPathPost w lo hi P T [] x w) := Lib.hid (fun x hx => ⟨_, hx, own_nil _ _, hB, Kq.Keeps.refl _ _⟩)
  clear hB
  go_enter Tryd.func72, Tryd.ntmps72
  go_wp2
  go_ret
  exact HP.out _ rfl
theorem own_keeps {w w' : World} {base size : Nat} {e : TypeId} {v : Value} {n : Nat} {xs : List Value} {S : Nat → Prop} (h : w.ownsRow base e size v n xs) (hk : Kq.Keeps S w w') (hS : ∀ k, S k → k < base) : w'.ownsRow base e size v n xs :=
  own_laterB h (fun k hk' => hk.block k (h.lt k hk').2 (fun hs => by have h1 := hS k hs; have h2 := own_geB h hk'; omega))
set_option maxRecDepth 100000 in
set_option maxHeartbeats 8000000 in
theorem rpath_step (n : Nat) (ih : RPathOk n) : RPathOk (n + 1) := by
  intro l i A cap lo hi P T w hn hm hf hA hB hhi hlo hcap hil hT
  obtain ⟨i0, hi0, hz0, hz1, hz2⟩ := info_partsB infoStr
  by_cases h1 : l.length ≤ 1
  · obtain ⟨p, rfl⟩ := List.length_eq_one_iff.1 (show l.length = 1 by omega)
    obtain rfl : i = 0 := by simpa using hil
    exact rpath_one A cap lo hi P T w hB
  obtain ⟨b, off, rfl, -, -, -, -⟩ := hA 0 (by omega)
  obtain ⟨k, hk⟩ : ∃ k, k = leftN l.length := ⟨_, rfl⟩
  have hk1 : 1 ≤ k := by rw [hk]; exact leftN_pos _
  have hk2 : k < l.length := by rw [hk]; exact leftN_lt _ (by omega)
  have hpm := pathL_many l i (by omega)
  rw [← hk] at hpm
  have HL := Lib.hid (fun w => rk_left l.length w (by omega) hm)
  rw [← hk] at HL
  have hlt1 : (l.take k).length = k := by rw [List.length_take]; omega
  have hld1 : (l.drop k).length = l.length - k := List.length_drop
  have hal1 := askL_len _ (l.take k) (Nat.le_refl _) (by omega)
  have hal2 := askL_len _ (l.drop k) (Nat.le_refl _) (by omega)
  have hap1 := askP_len _ (l.take k) i (Nat.le_refl _) (by omega)
  have hap2 := askP_len _ (l.drop k) (i - k) (Nat.le_refl _) (by omega)
  have HIA : Hid (∀ w' cap' U, PsLo w' lo (some ⟨b, off, none⟩) l → BookW w' lo hi P U → hi ≤ w'.heap.size → lo ≤ w'.heap.size → k ≤ cap' → List.length U + 2 * k ≤ 1000 → Calls Tryd.prog 59 #[.pointer (some ⟨P, 0, none⟩), .slice (some ⟨b, off, none⟩) k cap'] w' (BkPost w' lo hi P (askL (l.take k) ++ U) (.string (digL (l.take k))))) := Lib.hid (fun w' cap' U h1 h2 h3 h4 h5 h6 => by
    have := rk_digest l.length (l.take k) (some ⟨b, off, none⟩) cap' w' lo hi P U (by omega) (by omega) (by omega) (hf.take k) (h1.take k) h2 h3 h4 (by omega) (by omega)
    rwa [hlt1] at this)
  have HIB : Hid (∀ w' cap' U, PsLo w' lo (some ⟨b, off, none⟩) l → BookW w' lo hi P U → hi ≤ w'.heap.size → lo ≤ w'.heap.size → l.length - k ≤ cap' → List.length U + 2 * (l.length - k) ≤ 1000 → Calls Tryd.prog 59 #[.pointer (some ⟨P, 0, none⟩), .slice (some ⟨b, off + k * 2, none⟩) (l.length - k) cap'] w' (BkPost w' lo hi P (askL (l.drop k) ++ U) (.string (digL (l.drop k))))) := Lib.hid (fun w' cap' U h1 h2 h3 h4 h5 h6 => by
    have := rk_digest l.length (l.drop k) (some ⟨b, off + k * 2, none⟩) cap' w' lo hi P U (by omega) (by omega) (by omega) (hf.drop k) (h1.drop k) h2 h3 h4 (by omega) (by omega)
    rwa [hld1] at this)
  have HPA : Hid (∀ w' cap', i < k → PsLo w' lo (some ⟨b, off, none⟩) l → BookW w' lo hi P T → hi ≤ w'.heap.size → lo ≤ w'.heap.size → k ≤ cap' → Calls Tryd.prog 72 #[.pointer (some ⟨P, 0, none⟩), .slice (some ⟨b, off, none⟩) k cap', .int .i64 (i : Int)] w' (RPathPost w' lo hi P (askP (l.take k) i ++ T) (pathL (l.take k) i))) := Lib.hid (fun w' cap' h0 h1 h2 h3 h4 h5 => by
    have := ih (l.take k) i (some ⟨b, off, none⟩) cap' lo hi P T w' (by omega) (by omega) (hf.take k) (h1.take k) h2 h3 h4 (by omega) (by omega) (by omega)
    rwa [hlt1] at this)
  have HPB : Hid (∀ w' cap' (j : Nat), ¬ i < k → j = i - k → PsLo w' lo (some ⟨b, off, none⟩) l → BookW w' lo hi P T → hi ≤ w'.heap.size → lo ≤ w'.heap.size → l.length - k ≤ cap' → Calls Tryd.prog 72 #[.pointer (some ⟨P, 0, none⟩), .slice (some ⟨b, off + k * 2, none⟩) (l.length - k) cap', .int .i64 (j : Int)] w' (RPathPost w' lo hi P (askP (l.drop k) (i - k) ++ T) (pathL (l.drop k) (i - k)))) := Lib.hid (fun w' cap' j h0 hj h1 h2 h3 h4 h5 => by
    have := ih (l.drop k) (i - k) (some ⟨b, off + k * 2, none⟩) cap' lo hi P T w' (by omega) (by omega) (hf.drop k) (h1.drop k) h2 h3 h4 (by omega) (by omega) (by omega)
    rw [hj]
    rwa [hld1] at this)
  have HLEN : Hid ((pathL (l.take k) i).length ≤ 1000000 ∧ (pathL (l.drop k) (i - k)).length ≤ 1000000) := Lib.hid ⟨by have := pathL_len _ (l.take k) i (Nat.le_refl _); omega, by have := pathL_len _ (l.drop k) (i - k) (Nat.le_refl _); omega⟩
  have HUA : Hid ((askP (l.take k) i ++ T).length + 2 * (l.length - k) ≤ 1000) := Lib.hid (by rw [List.length_append]; omega)
  have HUB : Hid ((askP (l.drop k) (i - k) ++ T).length + 2 * k ≤ 1000) := Lib.hid (by rw [List.length_append]; omega)
  have H := Lib.hid (And.intro hA (And.intro hB (And.intro hhi hlo)))
  have HCP := Lib.hid (show k ≤ cap ∧ l.length - k ≤ cap - k by omega)
  have hc1 : (k : Int) ≤ (cap : Int) := by omega
  have hc2 : (k : Int) ≤ (l.length : Int) := by omega
  have hc3 : ¬ cap = k := by omega
  have hc4 : (l.length : Int) ≤ (cap : Int) := by omega
  have e1 : ((l.length : Int) == 1) = false := by rw [beq_eq_false_iff_ne]; omega
  have d0 : decide ((i : Int) < 0) = false := decide_eq_false (by omega)
  have d1 : decide ((l.length : Int) ≤ (i : Int)) = false := decide_eq_false (by omega)
  have d2 : decide (l.length ≤ i) = false := decide_eq_false (by omega)
  clear hf hA hB hhi hlo hk hlt1 hld1 hal1 hal2 hap1 hap2 hT
  by_cases hik : i < k
  · have e := hpm.1 hik
    obtain ⟨e, ea⟩ := e
    have d3 : decide ((i : Int) < (k : Int)) = true := decide_eq_true (by omega)
    have d4 : decide (i < k) = true := decide_eq_true hik
    have HE : Hid (pathL l i = pathL (l.take k) i ++ [digL (l.drop k)] ∧ askP l i ++ T = askL (l.drop k) ++ (askP (l.take k) i ++ T)) := Lib.hid ⟨e, by rw [ea, List.append_assoc]⟩
    rw [HE.out.1, HE.out.2]
    have HJ := Lib.hid hik
    clear hpm e ea HE
    obtain ⟨ps, hps⟩ : ∃ ps, ps = pathL (l.take k) i := ⟨_, rfl⟩
    rw [← hps] at HPA HLEN
    rw [← hps]
    clear hps HPB hik
    generalize askP (l.take k) i ++ T = U at *
    generalize digL (l.take k) = D1 at *
    generalize digL (l.drop k) = D2 at *
    generalize hVV : askL (l.drop k) ++ U = V at *
    have HIX := Lib.hid (fun w' cap' => HIB.out w' cap' U)
    rw [hVV] at HIX
    clear hVV HIA HIB
    go_enter Tryd.func72, Tryd.ntmps72
    go_wp2_with fail
    refine (HL.out w).mono ?_
    rintro x w1 ⟨rfl, rfl⟩
    go_wp2
    have HW : Hid (PsLo w.drew lo (some ⟨b, off, none⟩) l ∧ BookW w.drew lo hi P T ∧ hi ≤ w.drew.heap.size ∧ lo ≤ w.drew.heap.size ∧ Below w.heap.size w w.drew) := Lib.hid ⟨H.out.1.below (Below.refl _ _).drew, H.out.2.1.below (Below.refl _ _).drew, H.out.2.2.1, H.out.2.2.2, (Below.refl _ _).drew⟩
    have HZ : Hid (w.drew.heap.size = w.heap.size) := Lib.hid rfl
    refine wp_region_any (by kernel_rfl) ?_
    (try (change wpAny _ _ _ _ _ _ _ (World.drew _)))
    generalize w.drew = z0 at *
    refine wpAny_take (i := 0) (v := ?_) rfl (by kernel_rfl) (by kernel_rfl) (by kernel_rfl) (fun _ _ _ h => h) (Or.inl ⟨by kernel_rfl, ?_⟩) ?_
    rotate_left
    · intro w; go_simp; with_reducible rfl
    refine wpAny_take (i := 1) (v := ?_) rfl (by kernel_rfl) (by kernel_rfl) (by kernel_rfl) (fun _ _ _ h => h) (Or.inl ⟨by kernel_rfl, ?_⟩) ?_
    rotate_left
    · intro w; go_simp; with_reducible rfl
    refine wpAny_take (i := 2) (v := ?_) rfl (by kernel_rfl) (by kernel_rfl) (by kernel_rfl) (fun _ _ _ h => h) (Or.inl ⟨by kernel_rfl, ?_⟩) ?_
    rotate_left
    · intro w; go_simp; with_reducible rfl
    refine wpAny_take (i := 3) (v := ?_) rfl (by kernel_rfl) (by kernel_rfl) (by kernel_rfl) (fun _ _ _ h => h) (Or.inl ⟨by kernel_rfl, ?_⟩) ?_
    rotate_left
    · intro w; go_simp; with_reducible rfl
    refine wpAny_take (i := 4) (v := ?_) rfl (by kernel_rfl) (by kernel_rfl) (by kernel_rfl) (fun _ _ _ h => h) (Or.inl ⟨by kernel_rfl, ?_⟩) ?_
    rotate_left
    · intro w; go_simp; with_reducible rfl
    refine wpAny_take (i := 6) (v := ?_) rfl (by kernel_rfl) (by kernel_rfl) (by kernel_rfl) (fun _ _ _ h => h) (Or.inl ⟨by kernel_rfl, ?_⟩) ?_
    rotate_left
    · intro w; go_simp; with_reducible rfl
    refine wpAny_take (i := 7) (v := ?_) rfl (by kernel_rfl) (by kernel_rfl) (by kernel_rfl) (fun _ _ _ h => h) (Or.inl ⟨by kernel_rfl, ?_⟩) ?_
    rotate_left
    · intro w; go_simp; with_reducible rfl
    refine wpAny_take (i := 8) (v := ?_) rfl (by kernel_rfl) (by kernel_rfl) (by kernel_rfl) (fun _ _ _ h => h) (Or.inl ⟨by kernel_rfl, ?_⟩) ?_
    rotate_left
    · intro w; go_simp; with_reducible rfl
    refine wpAny_take (i := 9) (v := ?_) rfl (by kernel_rfl) (by kernel_rfl) (by kernel_rfl) (fun _ _ _ h => h) (Or.inl ⟨by kernel_rfl, ?_⟩) ?_
    rotate_left
    · intro w; go_simp; with_reducible rfl
    refine wpAny_ready (rs := [5]) (by kernel_rfl) (by simp) ?_
    refine AllReady.cons rfl (fun K hK => ?_) AllReady.nil
    go_simp
    refine (HPA.out _ _ HJ.out HW.out.1 HW.out.2.1 HW.out.2.2.1 HW.out.2.2.2.1 HCP.out.1).mono ?_
    rintro x z1 ⟨v, rfl, hown, hbk, hkp⟩
    have HW1 : Hid (PsLo z1 lo (some ⟨b, off, none⟩) l ∧ BookW z1 lo hi P U ∧ hi ≤ z1.heap.size ∧ lo ≤ z1.heap.size ∧ Kq.Keeps (fun k => lo ≤ k ∧ k < hi) w z1 ∧ z1.ownsRow w.heap.size 9 1 v ps.length (scells ps)) := Lib.hid ⟨HW.out.1.keeps hkp (fun k h => h.1), hbk, Nat.le_trans HW.out.2.2.1 hkp.size, Nat.le_trans HW.out.2.2.2.1 hkp.size, (keeps_below HW.out.2.2.2.2).trans hkp, by rw [← HZ.out]; exact hown⟩
    clear hbk hkp HW HZ hown
    (first | (refine hK _ _ ?_; clear hK K) | skip)
    refine wpAny_ready (rs := [10]) (by kernel_rfl) (by simp) ?_
    refine AllReady.cons rfl (fun K hK => ?_) AllReady.nil
    go_simp
    refine (HIX.out _ _ HW1.out.1 HW1.out.2.1 HW1.out.2.2.1 HW1.out.2.2.2.1 HCP.out.2 HUA.out).mono ?_
    rintro x z2 ⟨rfl, hbk, hkp⟩
    have HW2 : Hid (BookW z2 lo hi P V ∧ Kq.Keeps (fun k => lo ≤ k ∧ k < hi) w z2 ∧ z2.ownsRow w.heap.size 9 1 v ps.length (scells ps)) := Lib.hid ⟨hbk, HW1.out.2.2.2.2.1.trans hkp, own_keeps HW1.out.2.2.2.2.2 hkp (fun k h => by have := H.out.2.2.1; omega)⟩
    clear hbk hkp HW1
    (first | (refine hK _ _ ?_; clear hK K) | skip)
    refine wpAny_ready (rs := [11]) (by kernel_rfl) (by simp) ?_
    refine AllReady.cons rfl (fun K hK => ?_) AllReady.nil
    go_simp
    (first | (refine hK _ _ ?_; clear hK K) | skip)
    have HW3 : Hid (BookW (z2.alloc (.cells #[.string D2] 9)) lo hi P V ∧ Kq.Keeps (fun k => lo ≤ k ∧ k < hi) w (z2.alloc (.cells #[.string D2] 9)) ∧ (z2.alloc (.cells #[.string D2] 9)).ownsRow w.heap.size 9 1 v ps.length (scells ps)) := Lib.hid ⟨HW2.out.1.below (Kq.below_alloc _ _), HW2.out.2.1.trans (keeps_below (Kq.below_alloc _ _)), own_belowB HW2.out.2.2 (Kq.below_alloc _ _)⟩
    have HSRC := Lib.hid (str_src z2 D2)
    refine wpAny_ready (rs := [12]) (by kernel_rfl) (by simp) ?_
    refine AllReady.cons rfl (fun K hK => ?_) AllReady.nil
    rw [if_pos (by kernel_rfl)]
    refine Kq.wp_append_any _ (.tmp 32) (.tmp 38) 28 28 rfl w.heap.size 9 i0 (.string ⟨#[]⟩) 1 16 Tryd.underlying28 hi0 hz0 hz1 hz2 rfl (by decide) v ps.length (scells ps) (by kernel_rfl) HW3.out.2.2 (.slice (some ⟨z2.heap.size, 0, none⟩) 1 1) 1 (scells [D2]) (by kernel_rfl) HSRC.out ?e1 ?e2 HW3.out.2.1.size ?_
    case e1 => have := HLEN.out.1; unfold maxLen; omega
    case e2 => have := HLEN.out.1; omega
    intro v' z3 hown3 hgrow hfresh
    have HW4 : Hid (RPathPost w lo hi P V (ps ++ [D2]) (.returned v') z3) := Lib.hid (by
      have k1 : Kq.Keeps (fun g => w.heap.size ≤ g) (z2.alloc (.cells #[.string D2] 9)) z3 := Kq.Keeps.grown hgrow (fun g _ hg => own_geB HW3.out.2.2 hg)
      have k0 := HW3.out.2.1
      refine ⟨v', rfl, by rw [List.length_append, scells_snoc]; exact hown3, BookW.far HW3.out.1 k1 H.out.2.2.1, ?_⟩
      exact ⟨k1.os.trans k0.os, k1.tape.trans k0.tape, k1.output.trans k0.output, Nat.le_trans k0.size k1.size, fun g hg hn => by rw [k1.block g (Nat.lt_of_lt_of_le hg k0.size) (Nat.not_le.2 hg), k0.block g hg hn]⟩)
    clear hown3 hgrow hfresh HW3 HW2 HSRC
    refine hK _ _ ?_
    clear hK K
    refine wpAny_take (i := 13) (v := ?_) rfl (by kernel_rfl) (by kernel_rfl) (by kernel_rfl) (fun _ _ _ h => h) (Or.inl ⟨by kernel_rfl, ?_⟩) ?_
    rotate_left
    · intro w; go_simp; with_reducible rfl
    refine wpAny_done (by kernel_rfl) ?_ _
    go_wp2
    go_ret
    exact HW4.out
  · have e := hpm.2 hik
    obtain ⟨e, ea⟩ := e
    have d3 : decide ((i : Int) < (k : Int)) = false := decide_eq_false (by omega)
    have d4 : decide (i < k) = false := decide_eq_false hik
    have HE : Hid (pathL l i = pathL (l.drop k) (i - k) ++ [digL (l.take k)] ∧ askP l i ++ T = askL (l.take k) ++ (askP (l.drop k) (i - k) ++ T)) := Lib.hid ⟨e, by rw [ea, List.append_assoc]⟩
    rw [HE.out.1, HE.out.2]
    obtain ⟨j, hj⟩ : ∃ j, j = i - k := ⟨_, rfl⟩
    have hw1 : IntKind.i64.wrap ((i : Int) - (k : Int)) = (j : Int) := by rw [IntWalk.i64_in _ (by omega)]; omega
    have HJ := Lib.hid (And.intro hik hj)
    clear hj
    clear hpm e ea HE
    obtain ⟨ps, hps⟩ : ∃ ps, ps = pathL (l.drop k) (i - k) := ⟨_, rfl⟩
    rw [← hps] at HPB HLEN
    rw [← hps]
    clear hps HPA hik
    generalize askP (l.drop k) (i - k) ++ T = U at *
    generalize digL (l.take k) = D1 at *
    generalize digL (l.drop k) = D2 at *
    generalize hVV : askL (l.take k) ++ U = V at *
    have HIX := Lib.hid (fun w' cap' => HIA.out w' cap' U)
    rw [hVV] at HIX
    clear hVV HIA HIB
    go_enter Tryd.func72, Tryd.ntmps72
    go_wp2_with fail
    refine (HL.out w).mono ?_
    rintro x w1 ⟨rfl, rfl⟩
    go_wp2
    have HW : Hid (PsLo w.drew lo (some ⟨b, off, none⟩) l ∧ BookW w.drew lo hi P T ∧ hi ≤ w.drew.heap.size ∧ lo ≤ w.drew.heap.size ∧ Below w.heap.size w w.drew) := Lib.hid ⟨H.out.1.below (Below.refl _ _).drew, H.out.2.1.below (Below.refl _ _).drew, H.out.2.2.1, H.out.2.2.2, (Below.refl _ _).drew⟩
    have HZ : Hid (w.drew.heap.size = w.heap.size) := Lib.hid rfl
    refine wp_region_any (by kernel_rfl) ?_
    (try (change wpAny _ _ _ _ _ _ _ (World.drew _)))
    generalize w.drew = z0 at *
    refine wpAny_take (i := 0) (v := ?_) rfl (by kernel_rfl) (by kernel_rfl) (by kernel_rfl) (fun _ _ _ h => h) (Or.inl ⟨by kernel_rfl, ?_⟩) ?_
    rotate_left
    · intro w; go_simp; with_reducible rfl
    refine wpAny_take (i := 1) (v := ?_) rfl (by kernel_rfl) (by kernel_rfl) (by kernel_rfl) (fun _ _ _ h => h) (Or.inl ⟨by kernel_rfl, ?_⟩) ?_
    rotate_left
    · intro w; go_simp; with_reducible rfl
    refine wpAny_take (i := 2) (v := ?_) rfl (by kernel_rfl) (by kernel_rfl) (by kernel_rfl) (fun _ _ _ h => h) (Or.inl ⟨by kernel_rfl, ?_⟩) ?_
    rotate_left
    · intro w; go_simp; with_reducible rfl
    refine wpAny_take (i := 3) (v := ?_) rfl (by kernel_rfl) (by kernel_rfl) (by kernel_rfl) (fun _ _ _ h => h) (Or.inl ⟨by kernel_rfl, ?_⟩) ?_
    rotate_left
    · intro w; go_simp; with_reducible rfl
    refine wpAny_take (i := 4) (v := ?_) rfl (by kernel_rfl) (by kernel_rfl) (by kernel_rfl) (fun _ _ _ h => h) (Or.inl ⟨by kernel_rfl, ?_⟩) ?_
    rotate_left
    · intro w; go_simp; with_reducible rfl
    refine wpAny_take (i := 5) (v := ?_) rfl (by kernel_rfl) (by kernel_rfl) (by kernel_rfl) (fun _ _ _ h => h) (Or.inl ⟨by kernel_rfl, ?_⟩) ?_
    rotate_left
    · intro w; go_simp; with_reducible rfl
    refine wpAny_take (i := 6) (v := ?_) rfl (by kernel_rfl) (by kernel_rfl) (by kernel_rfl) (fun _ _ _ h => h) (Or.inl ⟨by kernel_rfl, ?_⟩) ?_
    rotate_left
    · intro w; go_simp; with_reducible rfl
    refine wpAny_take (i := 8) (v := ?_) rfl (by kernel_rfl) (by kernel_rfl) (by kernel_rfl) (fun _ _ _ h => h) (Or.inl ⟨by kernel_rfl, ?_⟩) ?_
    rotate_left
    · intro w; go_simp; with_reducible rfl
    refine wpAny_take (i := 9) (v := ?_) rfl (by kernel_rfl) (by kernel_rfl) (by kernel_rfl) (fun _ _ _ h => h) (Or.inl ⟨by kernel_rfl, ?_⟩) ?_
    rotate_left
    · intro w; go_simp; with_reducible rfl
    refine wpAny_take (i := 10) (v := ?_) rfl (by kernel_rfl) (by kernel_rfl) (by kernel_rfl) (fun _ _ _ h => h) (Or.inl ⟨by kernel_rfl, ?_⟩) ?_
    rotate_left
    · intro w; go_simp; with_reducible rfl
    refine wpAny_take (i := 11) (v := ?_) rfl (by kernel_rfl) (by kernel_rfl) (by kernel_rfl) (fun _ _ _ h => h) (Or.inl ⟨by kernel_rfl, ?_⟩) ?_
    rotate_left
    · intro w; go_simp; with_reducible rfl
    refine wpAny_ready (rs := [7]) (by kernel_rfl) (by simp) ?_
    refine AllReady.cons rfl (fun K hK => ?_) AllReady.nil
    go_simp
    refine (HPB.out _ _ j HJ.out.1 HJ.out.2 HW.out.1 HW.out.2.1 HW.out.2.2.1 HW.out.2.2.2.1 HCP.out.2).mono ?_
    rintro x z1 ⟨v, rfl, hown, hbk, hkp⟩
    have HW1 : Hid (PsLo z1 lo (some ⟨b, off, none⟩) l ∧ BookW z1 lo hi P U ∧ hi ≤ z1.heap.size ∧ lo ≤ z1.heap.size ∧ Kq.Keeps (fun k => lo ≤ k ∧ k < hi) w z1 ∧ z1.ownsRow w.heap.size 9 1 v ps.length (scells ps)) := Lib.hid ⟨HW.out.1.keeps hkp (fun k h => h.1), hbk, Nat.le_trans HW.out.2.2.1 hkp.size, Nat.le_trans HW.out.2.2.2.1 hkp.size, (keeps_below HW.out.2.2.2.2).trans hkp, by rw [← HZ.out]; exact hown⟩
    clear hbk hkp HW HZ hown
    (first | (refine hK _ _ ?_; clear hK K) | skip)
    refine wpAny_ready (rs := [12]) (by kernel_rfl) (by simp) ?_
    refine AllReady.cons rfl (fun K hK => ?_) AllReady.nil
    go_simp
    refine (HIX.out _ _ HW1.out.1 HW1.out.2.1 HW1.out.2.2.1 HW1.out.2.2.2.1 HCP.out.1 HUB.out).mono ?_
    rintro x z2 ⟨rfl, hbk, hkp⟩
    have HW2 : Hid (BookW z2 lo hi P V ∧ Kq.Keeps (fun k => lo ≤ k ∧ k < hi) w z2 ∧ z2.ownsRow w.heap.size 9 1 v ps.length (scells ps)) := Lib.hid ⟨hbk, HW1.out.2.2.2.2.1.trans hkp, own_keeps HW1.out.2.2.2.2.2 hkp (fun k h => by have := H.out.2.2.1; omega)⟩
    clear hbk hkp HW1
    (first | (refine hK _ _ ?_; clear hK K) | skip)
    refine wpAny_ready (rs := [13]) (by kernel_rfl) (by simp) ?_
    refine AllReady.cons rfl (fun K hK => ?_) AllReady.nil
    go_simp
    (first | (refine hK _ _ ?_; clear hK K) | skip)
    have HW3 : Hid (BookW (z2.alloc (.cells #[.string D1] 9)) lo hi P V ∧ Kq.Keeps (fun k => lo ≤ k ∧ k < hi) w (z2.alloc (.cells #[.string D1] 9)) ∧ (z2.alloc (.cells #[.string D1] 9)).ownsRow w.heap.size 9 1 v ps.length (scells ps)) := Lib.hid ⟨HW2.out.1.below (Kq.below_alloc _ _), HW2.out.2.1.trans (keeps_below (Kq.below_alloc _ _)), own_belowB HW2.out.2.2 (Kq.below_alloc _ _)⟩
    have HSRC := Lib.hid (str_src z2 D1)
    refine wpAny_ready (rs := [14]) (by kernel_rfl) (by simp) ?_
    refine AllReady.cons rfl (fun K hK => ?_) AllReady.nil
    rw [if_pos (by kernel_rfl)]
    refine Kq.wp_append_any _ (.tmp 47) (.tmp 53) 28 28 rfl w.heap.size 9 i0 (.string ⟨#[]⟩) 1 16 Tryd.underlying28 hi0 hz0 hz1 hz2 rfl (by decide) v ps.length (scells ps) (by kernel_rfl) HW3.out.2.2 (.slice (some ⟨z2.heap.size, 0, none⟩) 1 1) 1 (scells [D1]) (by kernel_rfl) HSRC.out ?e1 ?e2 HW3.out.2.1.size ?_
    case e1 => have := HLEN.out.2; unfold maxLen; omega
    case e2 => have := HLEN.out.2; omega
    intro v' z3 hown3 hgrow hfresh
    have HW4 : Hid (RPathPost w lo hi P V (ps ++ [D1]) (.returned v') z3) := Lib.hid (by
      have k1 : Kq.Keeps (fun g => w.heap.size ≤ g) (z2.alloc (.cells #[.string D1] 9)) z3 := Kq.Keeps.grown hgrow (fun g _ hg => own_geB HW3.out.2.2 hg)
      have k0 := HW3.out.2.1
      refine ⟨v', rfl, by rw [List.length_append, scells_snoc]; exact hown3, BookW.far HW3.out.1 k1 H.out.2.2.1, ?_⟩
      exact ⟨k1.os.trans k0.os, k1.tape.trans k0.tape, k1.output.trans k0.output, Nat.le_trans k0.size k1.size, fun g hg hn => by rw [k1.block g (Nat.lt_of_lt_of_le hg k0.size) (Nat.not_le.2 hg), k0.block g hg hn]⟩)
    clear hown3 hgrow hfresh HW3 HW2 HSRC
    refine hK _ _ ?_
    clear hK K
    refine wpAny_take (i := 15) (v := ?_) rfl (by kernel_rfl) (by kernel_rfl) (by kernel_rfl) (fun _ _ _ h => h) (Or.inl ⟨by kernel_rfl, ?_⟩) ?_
    rotate_left
    · intro w; go_simp; with_reducible rfl
    refine wpAny_done (by kernel_rfl) ?_ _
    go_wp2
    go_ret
    exact HW4.out
theorem rk_path : ∀ n : Nat, RPathOk n := by
  intro n
  induction n with
  | zero => exact fun l i A cap lo hi P T w hn _ _ _ _ _ _ _ hi => absurd hi (by omega)
  | succ n ih => exact rpath_step n ih
end Go.Proofs.YtclloplkbajebaaDoor
