/- Contracts of merkle's digest, Root, Path. Condition: the constants lie where they lie; sizes. -/
import Derived.WalkSpells
import Derived.Outline
import Derived.Test.YtnbapiddbcaolaaDoorMkA
import Derived.Test.YtnbapiddbcaolaaDoorBuf
namespace Go.Proofs.YtnbapiddbcaolaaDoor
open Go.RowKit
set_option linter.unusedVariables false
def Fit (l : List PairV) : Prop := ∀ p ∈ l, p.1.size + p.2.size ≤ 90000
theorem Fit.take {l : List PairV} (h : Fit l) (k : Nat) : Fit (l.take k) := fun p hp => h p (List.mem_of_mem_take hp)
theorem Fit.drop {l : List PairV} (h : Fit l) (k : Nat) : Fit (l.drop k) := fun p hp => h p (List.mem_of_mem_drop hp)
def DigOk (n : Nat) : Prop := ∀ (l : List PairV) (A : Option Addr) (cap : Nat) (w : World), l.length ≤ n → l.length ≤ 1000000 → Fit l → PsAt w A l → LaidOk w → l.length ≤ cap →
  Calls Tryd.prog 28 #[.slice A l.length cap] w fun x w' => x = .returned (.string (digL l)) ∧ Below w.heap.size w w'
set_option maxRecDepth 100000 in
set_option maxHeartbeats 4000000 in
theorem dig_few (l : List PairV) (A : Option Addr) (cap : Nat) (w : World) (h1 : l.length ≤ 1) (hf : Fit l) (hA : PsAt w A l) (hL : LaidOk w) :
    Calls Tryd.prog 28 #[.slice A l.length cap] w fun x w' => x = .returned (.string (digL l)) ∧ Below w.heap.size w w' := by
  match l, h1 with
  | [], _ =>
    have HD : Hid (digL [] = ⟨#[]⟩) := Lib.hid rfl
    clear hf hA hL
    go_enter Tryd.func28, Tryd.ntmps28
    go_wp2
    go_ret
    exact ⟨by rw [HD.out]; rfl, Below.refl _ _⟩
  | [p], _ =>
    obtain ⟨b, off, rfl, hlt, c0, c1⟩ := hA 0 (by simp)
    simp only [Nat.zero_mul, Nat.add_zero, List.getElem_cons_zero] at c0 c1
    have HX := Lib.hid (mk_leaf p w hL (hf p (by simp)))
    have HD : Hid (digL [p] = dgT (leafT p)) := Lib.hid rfl
    obtain ⟨k, v⟩ := p
    simp only at c0 c1 HX
    clear hf hA hL hlt
    go_enter Tryd.func28, Tryd.ntmps28
    go_wp2_with fail
    refine HX.out.mono ?_
    rintro x w2 ⟨rfl, b2⟩
    have HB := Lib.hid b2
    clear b2
    go_wp2
    go_ret
    exact ⟨by rw [HD.out]; rfl, HB.out⟩
set_option maxRecDepth 100000 in
set_option maxHeartbeats 4000000 in
theorem dig_step (n : Nat) (ih : DigOk n) : DigOk (n + 1) := by
  intro l A cap w hn hm hf hA hL hcap
  by_cases h1 : l.length ≤ 1
  · exact dig_few l A cap w h1 hf hA hL
  obtain ⟨b, off, rfl, -, -, -⟩ := hA 0 (by omega)
  obtain ⟨k, hk⟩ : ∃ k, k = leftN l.length := ⟨_, rfl⟩
  have hk1 : 1 ≤ k := by rw [hk]; exact leftN_pos _
  have hk2 : k < l.length := by rw [hk]; exact leftN_lt _ (by omega)
  have HD : Hid (digL l = dgT (nodeT (digL (l.take k)) (digL (l.drop k)))) := Lib.hid (by rw [hk]; exact digL_many l (by omega))
  have HL := Lib.hid (fun w => mk_left l.length w (by omega) hm)
  rw [← hk] at HL
  have HIA : Hid (∀ w' cap', LaidOk w' → PsAt w' (some ⟨b, off, none⟩) l → k ≤ cap' → Calls Tryd.prog 28 #[.slice (some ⟨b, off, none⟩) k cap'] w' fun x w'' => x = .returned (.string (digL (l.take k))) ∧ Below w'.heap.size w' w'') := Lib.hid (fun w' cap' h1 h2 h3 => by
    have hl : (l.take k).length = k := by rw [List.length_take]; omega
    have := ih (l.take k) (some ⟨b, off, none⟩) cap' w' (by omega) (by omega) (hf.take k) (h2.take k) h1 (by omega)
    rwa [hl] at this)
  have HIB : Hid (∀ w' cap', LaidOk w' → PsAt w' (some ⟨b, off, none⟩) l → l.length - k ≤ cap' → Calls Tryd.prog 28 #[.slice (some ⟨b, off + k * 2, none⟩) (l.length - k) cap'] w' fun x w'' => x = .returned (.string (digL (l.drop k))) ∧ Below w'.heap.size w' w'') := Lib.hid (fun w' cap' h1 h2 h3 => by
    have hl : (l.drop k).length = l.length - k := List.length_drop
    have := ih (l.drop k) (some ⟨b, off + k * 2, none⟩) cap' w' (by omega) (by omega) (hf.drop k) (h2.drop k) h1 (by omega)
    rwa [hl] at this)
  have H := Lib.hid (And.intro hA hL)
  have HN : Hid ((digL (l.take k)).size ≤ 32 ∧ (digL (l.drop k)).size ≤ 32) := Lib.hid ⟨digL_small _, digL_small _⟩
  have hc1 : (k : Int) ≤ (cap : Int) := by omega
  have hc2 : (k : Int) ≤ (l.length : Int) := by omega
  have hc3 : ¬ cap = k := by omega
  have hc4 : (l.length : Int) ≤ (cap : Int) := by omega
  have e0 : ((l.length : Int) == 0) = false := by rw [beq_eq_false_iff_ne]; omega
  have e1 : ((l.length : Int) == 1) = false := by rw [beq_eq_false_iff_ne]; omega
  clear hf hA hL hk
  generalize digL (l.take k) = D1 at *
  generalize digL (l.drop k) = D2 at *
  go_enter Tryd.func28, Tryd.ntmps28
  go_wp2_with fail
  refine (HL.out w).mono ?_
  rintro x w1 ⟨rfl, rfl⟩
  go_wp2
  have HW : Hid (PsAt w.drew (some ⟨b, off, none⟩) l ∧ LaidOk w.drew ∧ Below w.heap.size w w.drew) := Lib.hid ⟨H.out.1, H.out.2.later (Below.refl _ _).drew, (Below.refl _ _).drew⟩
  refine wp_region_any (by kernel_rfl) ?_
  (try (change wpAny _ _ _ _ _ _ _ (World.drew _)))
  generalize w.drew = z0 at *
  refine wpAny_take (i := 0) (v := ?_) rfl (by kernel_rfl) (by kernel_rfl) (by kernel_rfl) (fun _ _ _ h => h) (Or.inl ⟨by kernel_rfl, ?_⟩) ?_
  rotate_left
  · intro w; go_simp; with_reducible rfl
  refine wpAny_take (i := 1) (v := ?_) rfl (by kernel_rfl) (by kernel_rfl) (by kernel_rfl) (fun _ _ _ h => h) (Or.inl ⟨by kernel_rfl, ?_⟩) ?_
  rotate_left
  · intro w; go_simp; with_reducible rfl
  refine wpAny_take (i := 2) (v := ?_) rfl (by kernel_rfl) (by kernel_rfl) (by kernel_rfl) (fun _ _ _ h => h) (Or.inl ⟨by kernel_rfl, ?_⟩) ?_
  rotate_left
  · intro w; go_simp; with_reducible rfl
  refine wpAny_take (i := 4) (v := ?_) rfl (by kernel_rfl) (by kernel_rfl) (by kernel_rfl) (fun _ _ _ h => h) (Or.inl ⟨by kernel_rfl, ?_⟩) ?_
  rotate_left
  · intro w; go_simp; with_reducible rfl
  refine wpAny_take (i := 5) (v := ?_) rfl (by kernel_rfl) (by kernel_rfl) (by kernel_rfl) (fun _ _ _ h => h) (Or.inl ⟨by kernel_rfl, ?_⟩) ?_
  rotate_left
  · intro w; go_simp; with_reducible rfl
  refine wpAny_take (i := 6) (v := ?_) rfl (by kernel_rfl) (by kernel_rfl) (by kernel_rfl) (fun _ _ _ h => h) (Or.inl ⟨by kernel_rfl, ?_⟩) ?_
  rotate_left
  · intro w; go_simp; with_reducible rfl
  refine wpAny_ready (rs := [3]) (by kernel_rfl) (by simp) ?_
  refine AllReady.cons rfl (fun K hK => ?_) AllReady.nil
  go_simp
  refine (HIA.out _ _ HW.out.2.1 HW.out.1 (by omega)).mono ?_
  rintro x z1 ⟨rfl, hb1⟩
  have HW1 : Hid (PsAt z1 (some ⟨b, off, none⟩) l ∧ LaidOk z1 ∧ Below w.heap.size w z1) := Lib.hid ⟨HW.out.1.below hb1, HW.out.2.1.later hb1, HW.out.2.2.trans (hb1.mono HW.out.2.2.size)⟩
  clear hb1 HW
  (first | (refine hK _ _ ?_; clear hK K) | skip)
  refine wpAny_ready (rs := [7]) (by kernel_rfl) (by simp) ?_
  refine AllReady.cons rfl (fun K hK => ?_) AllReady.nil
  go_simp
  refine (HIB.out _ _ HW1.out.2.1 HW1.out.1 (by omega)).mono ?_
  rintro x z2 ⟨rfl, hb2⟩
  have HW2 : Hid (LaidOk z2 ∧ Below w.heap.size w z2) := Lib.hid ⟨HW1.out.2.1.later hb2, HW1.out.2.2.trans (hb2.mono HW1.out.2.2.size)⟩
  clear hb2 HW1
  (first | (refine hK _ _ ?_; clear hK K) | skip)
  refine wpAny_ready (rs := [8]) (by kernel_rfl) (by simp) ?_
  refine AllReady.cons rfl (fun K hK => ?_) AllReady.nil
  go_simp
  refine (mk_node D1 D2 _ HW2.out.1 (by have := HN.out; omega)).mono ?_
  rintro x z3 ⟨rfl, hb3⟩
  have HW3 : Hid (Below w.heap.size w z3) := Lib.hid (HW2.out.2.trans (hb3.mono HW2.out.2.size))
  clear hb3 HW2
  (first | (refine hK _ _ ?_; clear hK K) | skip)
  refine wpAny_take (i := 9) (v := ?_) rfl (by kernel_rfl) (by kernel_rfl) (by kernel_rfl) (fun _ _ _ h => h) (Or.inl ⟨by kernel_rfl, ?_⟩) ?_
  rotate_left
  · intro w; go_simp; with_reducible rfl
  refine wpAny_done (by kernel_rfl) ?_ _
  go_wp2
  go_ret
  exact ⟨by rw [HD.out]; rfl, HW3.out⟩
theorem mk_digest : ∀ n : Nat, DigOk n := by
  intro n
  induction n with
  | zero => exact fun l A cap w hn _ hf hA hL _ => dig_few l A cap w (by omega) hf hA hL
  | succ n ih => exact dig_step n ih
set_option maxRecDepth 100000 in
set_option maxHeartbeats 1000000 in
theorem mk_root (l : List PairV) (A : Option Addr) (cap : Nat) (w : World) (hm : l.length ≤ 1000000) (hf : Fit l) (hA : PsAt w A l) (hL : LaidOk w) (hcap : l.length ≤ cap) :
    Calls Tryd.prog 14 #[.slice A l.length cap] w fun x w' => x = .returned (.string (dgT (topT l.length (digL l)))) ∧ Below w.heap.size w w' := by
  have HX := Lib.hid (mk_digest l.length l A cap w (Nat.le_refl _) hm hf hA hL hcap)
  have H := Lib.hid (And.intro hL (And.intro hm (digL_small l)))
  clear hm hf hA hL hcap
  go_enter Tryd.func14, Tryd.ntmps14
  go_wp2_with fail
  refine HX.out.mono ?_
  rintro x w1 ⟨rfl, b1⟩
  have H1 := Lib.hid (And.intro (H.out.1.later b1) b1)
  clear b1
  go_wp2_with fail
  refine (mk_top (l.length : Int) (digL l) w1 H1.out.1 (by have := H.out.2.1; omega) (by have := H.out.2.2; omega)).mono ?_
  rintro x w2 ⟨rfl, b2⟩
  rw [Int.toNat_natCast]
  have H2 := Lib.hid (H1.out.2.trans (b2.mono H1.out.2.size))
  clear b2
  go_wp2
  go_ret
  exact ⟨rfl, H2.out⟩
/-- texts in a row that a call made -/
def scells (l : List ByteArray) : List Value := l.map Value.string
theorem infoStr : (Tryd.prog.info? 9).map (fun i => (i.zero, i.size, i.bytes)) = some (some (.string ⟨#[]⟩), 1, 16) := by kernel_rfl
theorem info_partsB {t : TypeId} {z : Value} {s b : Nat} (h : (Tryd.prog.info? t).map (fun i => (i.zero, i.size, i.bytes)) = some (some z, s, b)) : ∃ i, Tryd.prog.info? t = some i ∧ i.zero = some z ∧ i.size = s ∧ i.bytes = b := by
  cases hi : Tryd.prog.info? t with
  | none => rw [hi] at h; cases h
  | some i =>
    rw [hi] at h
    simp only [Option.map_some, Option.some.injEq, Prod.mk.injEq] at h
    exact ⟨i, rfl, h.1, h.2.1, h.2.2⟩
theorem own_laterB {w w' : World} {base size : Nat} {e : TypeId} {v : Value} {n : Nat} {xs : List Value} (h : w.ownsRow base e size v n xs) (hb : ∀ k, v.ownBlock = some k → w'.heap[k]? = w.heap[k]?) : w'.ownsRow base e size v n xs := by
  refine ⟨h.1, ?_⟩
  rcases h.2 with h0 | ⟨g, cap, cur, rfl, h1, h2, h3⟩
  · exact Or.inl h0
  · exact Or.inr ⟨g, cap, cur, rfl, h1, (hb g rfl).trans h2, h3⟩
theorem own_geB {w : World} {base size : Nat} {e : TypeId} {v : Value} {n : Nat} {xs : List Value} (h : w.ownsRow base e size v n xs) {k : Nat} (hk : v.ownBlock = some k) : base ≤ k := by
  rcases h.2 with ⟨rfl, _⟩ | ⟨g, cap, cur, rfl, h3, _⟩
  · cases hk
  · have : g = k := by simpa [Value.ownBlock] using hk
    omega
theorem pathL_len : ∀ (n : Nat) (l : List PairV) (i : Nat), l.length ≤ n → (pathL l i).length ≤ l.length := by
  intro n
  induction n with
  | zero => intro l i h; rw [(pathL_one l i (by omega)).1]; exact Nat.zero_le _
  | succ n ih =>
    intro l i h
    by_cases h1 : l.length ≤ 1
    · rw [(pathL_one l i h1).1]; exact Nat.zero_le _
    have k1 := leftN_pos l.length
    have k2 := leftN_lt l.length (by omega)
    have hm := pathL_many l i (by omega)
    by_cases hi : i < leftN l.length
    · rw [(hm.1 hi).1, List.length_append]
      have := ih (l.take (leftN l.length)) i (by rw [List.length_take]; omega)
      rw [List.length_take] at this
      simp only [List.length_cons, List.length_nil]; omega
    · rw [(hm.2 hi).1, List.length_append]
      have := ih (l.drop (leftN l.length)) (i - leftN l.length) (by rw [List.length_drop]; omega)
      rw [List.length_drop] at this
      simp only [List.length_cons, List.length_nil]; omega
theorem own_belowB {w w' : World} {base size : Nat} {e : TypeId} {v : Value} {n : Nat} {xs : List Value} (h : w.ownsRow base e size v n xs) (hb : Below w.heap.size w w') : w'.ownsRow base e size v n xs :=
  own_laterB h (fun k hk => hb.block k (h.lt k hk).2)
theorem str_src (w : World) (s : ByteArray) : Src Tryd.prog 1 39 (.slice (some ⟨w.heap.size, 0, none⟩) 1 1) 1 (scells [s]) (w.alloc (.cells #[.string s] 9)) :=
  Src.ofSlice _ Tryd.underlying39 ⟨w.heap.size, 0, none⟩ 1 1 (scells [s]) (by simp [scells]) (fun j u hj => Kq.cell_new _ _ _ (by rw [← hj]; simp [scells])) (fun u hu => by
    simp only [scells, List.map_cons, List.map_nil, List.mem_singleton] at hu
    rw [hu]; rfl)
theorem scells_snoc (l : List ByteArray) (s : ByteArray) : scells (l ++ [s]) = scells l ++ scells [s] := by simp [scells]
/-- what Path tells -/
def PathPost (w : World) (ps : List ByteArray) (x : Ending) (w' : World) : Prop :=
  ∃ v, x = .returned v ∧ w'.ownsRow w.heap.size 9 1 v ps.length (scells ps) ∧ Below w.heap.size w w'
end Go.Proofs.YtnbapiddbcaolaaDoor
