/- Mathematics of keys in order: where a key stands in a map. No condition. -/
import Derived.Test.YtcknhnbckbocjaaDoorMkOQ
namespace Go.Proofs.YtcknhnbckbocjaaDoor
open Go.RowKit
set_option linter.unusedVariables false
theorem bl_irr : ∀ x : List UInt8, Op.bytesLess x x = false
  | [] => rfl
  | a :: x => by
    have ih := bl_irr x
    have h1 : ¬ a < a := fun h => by have := UInt8.lt_iff_toNat_lt.1 h; omega
    simp [Op.bytesLess, h1, ih]
theorem bl_trans : ∀ x y z : List UInt8, Op.bytesLess x y = true → Op.bytesLess y z = true → Op.bytesLess x z = true
  | x, [], z, h1, h2 => by cases x <;> simp [Op.bytesLess] at h1
  | x, b :: y, [], h1, h2 => by simp [Op.bytesLess] at h2
  | [], b :: y, c :: z, h1, h2 => by simp [Op.bytesLess]
  | a :: x, b :: y, c :: z, h1, h2 => by
    have ih := bl_trans x y z
    simp only [Op.bytesLess, Bool.or_eq_true, Bool.and_eq_true, decide_eq_true_eq, beq_iff_eq] at h1 h2 ⊢
    rcases h1 with h1 | ⟨rfl, h1⟩
    · rcases h2 with h2 | ⟨rfl, h2⟩
      · left
        have := UInt8.lt_iff_toNat_lt.1 h1
        have := UInt8.lt_iff_toNat_lt.1 h2
        exact UInt8.lt_iff_toNat_lt.2 (by omega)
      · exact Or.inl h1
    · rcases h2 with h2 | ⟨rfl, h2⟩
      · exact Or.inl h2
      · exact Or.inr ⟨rfl, ih h1 h2⟩
theorem toList_inj {a b : ByteArray} (h : a.toList = b.toList) : a = b := by
  apply nl_inj
  rw [Lib.toList_data, Lib.toList_data] at h
  unfold nl
  rw [h]
theorem lt_irr (a : ByteArray) : ltT a a = false := bl_irr _
theorem lt_trans {a b c : ByteArray} (h1 : ltT a b = true) (h2 : ltT b c = true) : ltT a c = true := bl_trans _ _ _ h1 h2
theorem lt_asym {a b : ByteArray} (h : ltT a b = true) : ltT b a = false := by
  cases e : ltT b a with
  | false => rfl
  | true => have := lt_trans h e; rw [lt_irr] at this; cases this
/-- neither lower nor alike: higher -/
theorem lt_tri {a b : ByteArray} (h1 : ltT a b = false) (h2 : a ≠ b) : ltT b a = true := by
  have h := less_not a.toList b.toList
  unfold ltT at h1 ⊢
  rw [h1] at h
  have h3 : (b.toList == a.toList) = false := by rw [beq_eq_false_iff_ne]; exact fun e => h2 (toList_inj e).symm
  rw [h3] at h
  simpa using h.symm
def SortL (l : List PairV) : Prop := l.Pairwise (fun a b => ltT a.1 b.1 = true)
theorem sort_step : ∀ (l : List PairV), (∀ i (h : i + 1 < l.length), ltT l[i].1 l[i + 1].1 = true) → SortL l
  | [], _ => List.Pairwise.nil
  | [a], _ => by unfold SortL; simp
  | a :: b :: l, h => by
    have h1 : SortL (b :: l) := sort_step (b :: l) (fun i hi => by have := h (i + 1) (by simp at hi ⊢; omega); simpa using this)
    have h0 : ltT a.1 b.1 = true := h 0 (by simp)
    refine List.Pairwise.cons (fun c hc => ?_) h1
    rcases List.mem_cons.1 hc with rfl | hc
    · exact h0
    · exact lt_trans h0 (List.rel_of_pairwise_cons h1 hc)
theorem chk_sorted {l : List PairV} (h : chkE l = 0) : SortL l := by
  refine sort_step l (fun i hi => ?_)
  unfold chkE at h
  by_cases hb : l.any badB = true
  · rw [if_pos hb] at h; cases h
  rw [if_neg hb] at h
  by_cases ho : ordB l = true
  · have := List.all_eq_true.1 ho i (List.mem_range.2 (by omega))
    rwa [getD_at (by omega), getD_at hi] at this
  · rw [if_neg ho] at h; cases h
theorem SortL.lt {l : List PairV} (h : SortL l) {i j : Nat} (hij : i < j) (hj : j < l.length) : ltT (l[i]'(by omega)).1 l[j].1 = true := List.pairwise_iff_getElem.1 h i j (by omega) hj hij
/-- how many keys are lower -/
def plc (l : List PairV) (key : ByteArray) : Nat := (l.filter fun p => ltT p.1 key).length
theorem plc_le (l : List PairV) (key : ByteArray) : plc l key ≤ l.length := List.length_filter_le _ _
theorem plc_none : ∀ (l : List PairV) (key : ByteArray), (∀ p ∈ l, ltT p.1 key = false) → plc l key = 0
  | [], _, _ => rfl
  | a :: l, key, h => by
    unfold plc
    have h0 := h a List.mem_cons_self
    have h1 := plc_none l key (fun p hp => h p (List.mem_cons_of_mem _ hp))
    unfold plc at h1
    simpa [List.filter_cons, h0] using h1
theorem plc_at : ∀ (l : List PairV) (key : ByteArray), SortL l → ∀ i (h : i < l.length), ltT l[i].1 key = decide (i < plc l key)
  | [], _, _, i, h => by cases h
  | a :: l, key, hs, i, h => by
    have hs' : SortL l := (List.pairwise_cons.1 hs).2
    by_cases ha : ltT a.1 key = true
    · have hp : plc (a :: l) key = plc l key + 1 := by unfold plc; simp [ha]
      cases i with
      | zero => rw [hp]; simpa using ha
      | succ i =>
        have hil : i < l.length := by simpa using h
        have h3 : ltT (l[i]'hil).1 key = decide (i < plc l key) := plc_at l key hs' i hil
        rw [hp]
        show ltT (l[i]'hil).1 key = _
        rw [h3, decide_eq_decide]
        omega
    · have hn : ∀ p ∈ l, ltT p.1 key = false := fun p hp => by
        cases e : ltT p.1 key with
        | false => rfl
        | true => exact absurd (lt_trans (List.rel_of_pairwise_cons hs hp) e) ha
      have hp : plc (a :: l) key = 0 := plc_none _ _ (fun p hp => by
        rcases List.mem_cons.1 hp with rfl | hp
        · simpa using ha
        · exact hn p hp)
      rw [hp]
      have := List.getElem_mem h
      rcases List.mem_cons.1 this with e | e
      · rw [e]; simpa using ha
      · rw [hn _ e]; simp
theorem plc_snoc (l : List PairV) (key : ByteArray) (j : Nat) (h : j < l.length) : plc (l.take (j + 1)) key = plc (l.take j) key + if ltT l[j].1 key = true then 1 else 0 := by
  unfold plc
  rw [List.take_succ_eq_append_getElem h, List.filter_append, List.length_append]
  by_cases e : ltT l[j].1 key = true
  · simp [e]
  · simp [e]
/-- is the key there? -/
def isIn (l : List PairV) (key : ByteArray) : Bool := decide (∃ h : plc l key < l.length, l[plc l key].1 = key)
theorem isIn_iff {l : List PairV} (hs : SortL l) (key : ByteArray) : isIn l key = true ↔ ∃ i, ∃ h : i < l.length, l[i].1 = key := by
  unfold isIn
  rw [decide_eq_true_iff]
  refine ⟨fun ⟨h, e⟩ => ⟨_, h, e⟩, fun ⟨i, h, e⟩ => ?_⟩
  have h1 : i = plc l key := by
    have a := plc_at l key hs i h
    rw [e, lt_irr] at a
    have a1 : ¬ i < plc l key := of_decide_eq_false a.symm
    rcases Nat.lt_or_ge (plc l key) i with g | g
    · have b := plc_at l key hs (plc l key) (by omega)
      have c := hs.lt g h
      rw [e, b] at c
      exact absurd (of_decide_eq_true c) (Nat.lt_irrefl _)
    · omega
  subst h1
  exact ⟨h, e⟩
theorem at_one {l : List PairV} (hs : SortL l) {i j : Nat} (hi : i < l.length) (hj : j < l.length) (h : l[i].1 = l[j].1) : i = j := by
  rcases Nat.lt_trichotomy i j with g | g | g
  · have := hs.lt g hj; rw [h, lt_irr] at this; cases this
  · exact g
  · have := hs.lt g hi; rw [h, lt_irr] at this; cases this
end Go.Proofs.YtcknhnbckbocjaaDoor
