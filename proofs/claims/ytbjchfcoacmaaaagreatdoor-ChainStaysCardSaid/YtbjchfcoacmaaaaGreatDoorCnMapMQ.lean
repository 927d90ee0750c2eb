/- A list of keys in order, each once: mathematics. No condition. -/
import Derived.Lib.SlicesCompact
import Derived.Test.YtbjchfcoacmaaaaGreatDoorStRPairsQ
namespace Go.Proofs.YtbjchfcoacmaaaaGreatDoor
open Go.RowKit
set_option linter.unusedVariables false
theorem bl_lt : ∀ x y : List UInt8, Op.bytesLess x y = true ↔ x < y
  | x, [] => by
    constructor
    · intro h; cases x <;> simp [Op.bytesLess] at h
    · intro h; exact absurd h (List.not_lt_nil x)
  | [], b :: y => by
    constructor
    · intro _; exact List.nil_lt_cons b y
    · intro _; simp [Op.bytesLess]
  | a :: x, b :: y => by
    have ih := bl_lt x y
    rw [List.cons_lt_cons_iff]
    simp only [Op.bytesLess, Bool.or_eq_true, Bool.and_eq_true, decide_eq_true_eq, beq_iff_eq, ih]
theorem bs_total (x y : List UInt8) (h : ¬ x < y) (h2 : x ≠ y) : y < x := by
  rw [← bl_lt] at h ⊢
  have h3 := less_not x y
  have h4 : Op.bytesLess x y = false := by simpa using h
  rw [h4] at h3
  have h5 : (y == x) = false := by rw [beq_eq_false_iff_ne]; exact fun e => h2 e.symm
  rw [h5] at h3
  simpa using h3.symm
theorem bs_trans {x y z : List UInt8} (h1 : x < y) (h2 : y < z) : x < z := by
  rw [← bl_lt] at h1 h2 ⊢
  exact bl_trans x y z h1 h2
theorem bs_irr (x : List UInt8) : ¬ x < x := fun h => by rw [← bl_lt, bl_irr] at h; cases h
/-- sorted, then each once -/
def sortK (zs : List (List UInt8)) : List (List UInt8) := zs.mergeSort fun x y => decide (x ≤ y)
theorem sortK_pw (zs : List (List UInt8)) : (sortK zs).Pairwise (fun x y => ¬ y < x) := by
  have h := List.pairwise_mergeSort (le := fun x y : List UInt8 => decide (x ≤ y)) (fun a b c h1 h2 => ?_) (fun a b => ?_) zs
  · exact h.imp (fun {a b} h => of_decide_eq_true h)
  · have h1 : ¬ b < a := of_decide_eq_true h1
    have h2 : ¬ c < b := of_decide_eq_true h2
    refine decide_eq_true (show ¬ c < a from fun h3 => ?_)
    by_cases e : a = b
    · subst e; exact h2 h3
    · exact h2 (bs_trans h3 (bs_total b a h1 (fun e2 => e e2.symm)))
  · simp only [Bool.or_eq_true, decide_eq_true_eq]
    by_cases h1 : b < a
    · exact Or.inr (fun h2 => bs_irr a (bs_trans h2 h1))
    · exact Or.inl h1
theorem sortK_mem (zs : List (List UInt8)) (x : List UInt8) : x ∈ sortK zs ↔ x ∈ zs := (List.mergeSort_perm zs _).mem_iff
theorem compK_pw {ss : List (List UInt8)} (hs : ss.Pairwise (fun x y => ¬ y < x)) : (Lib.compact ss).Pairwise (fun x y => x < y) := by
  unfold Lib.compact Lib.compactUpTo
  rw [List.pairwise_map, List.pairwise_filter]
  refine List.Pairwise.imp_of_mem ?_ (List.pairwise_lt_range (n := ss.length))
  intro i j hi hj hij hki hkj
  have hi := List.mem_range.1 hi
  have hj := List.mem_range.1 hj
  have hne : ss[j] ≠ ss[j - 1] := by
    unfold Lib.keeps at hkj
    rcases of_decide_eq_true hkj with h | h
    · omega
    · simpa [getElem!_pos ss.toArray j (by simpa using hj), getElem!_pos ss.toArray (j - 1) (by simp; omega)] using h
  have h1 : ¬ ss[j] < ss[j - 1] := (List.pairwise_iff_getElem.1 hs) (j - 1) j (by omega) hj (by omega)
  have h2 : ss[j - 1] < ss[j] := bs_total _ _ h1 hne
  have h3 : ss[i] < ss[j] := by
    by_cases e : i = j - 1
    · subst e; exact h2
    · have h4 : ¬ ss[j - 1] < ss[i] := (List.pairwise_iff_getElem.1 hs) i (j - 1) hi (by omega) (by omega)
      by_cases e2 : ss[i] = ss[j - 1]
      · rw [e2]; exact h2
      · exact bs_trans (bs_total _ _ h4 (fun e3 => e2 e3.symm)) h2
  simpa [getElem!_pos ss.toArray j (by simpa using hj), getElem!_pos ss.toArray i (by simpa using hi)] using h3
theorem compK_mem {ss : List (List UInt8)} (x : List UInt8) : x ∈ Lib.compact ss ↔ x ∈ ss := by
  unfold Lib.compact Lib.compactUpTo
  constructor
  · intro h
    obtain ⟨j, hj, rfl⟩ := List.mem_map.1 h
    have hj := List.mem_range.1 (List.mem_filter.1 hj).1
    rw [show ss.toArray[j]! = ss[j] by simp [getElem!_pos ss.toArray j (by simpa using hj)]]
    exact List.getElem_mem hj
  · intro h
    obtain ⟨i, hi, hx⟩ := List.getElem_of_mem h
    -- the first such place
    have key : ∀ n (hn : n < ss.length), ss[n] = x → ∃ j, ∃ hj : j < ss.length, ss[j] = x ∧ Lib.keeps ss.toArray j = true := by
      intro n
      induction n with
      | zero => intro hn h; exact ⟨0, hn, h, by unfold Lib.keeps; simp⟩
      | succ n ih =>
        intro hn h
        by_cases e : ss[n] = x
        · exact ih (by omega) e
        · refine ⟨n + 1, hn, h, ?_⟩
          unfold Lib.keeps
          refine decide_eq_true (Or.inr ?_)
          rw [show ss.toArray[n + 1]! = ss[n + 1] by simp [getElem!_pos ss.toArray (n + 1) (by simpa using hn)], show ss.toArray[n + 1 - 1]! = ss[n] by simp [getElem!_pos ss.toArray n (by simp; omega)], h]
          exact fun e2 => e e2.symm
    obtain ⟨j, hj, h1, h2⟩ := key i hi hx
    exact List.mem_map.2 ⟨j, List.mem_filter.2 ⟨List.mem_range.2 hj, h2⟩, by simp [getElem!_pos ss.toArray j (by simpa using hj), h1]⟩
/-- a key as a list of bytes, and back -/
def kL (k : ByteArray) : List UInt8 := k.data.toList
def kB (l : List UInt8) : ByteArray := ⟨l.toArray⟩
theorem kB_kL (k : ByteArray) : kB (kL k) = k := by cases k; simp [kB, kL]
theorem ltT_kB {a b : List UInt8} (h : a < b) : ltT (kB a) (kB b) = true := by
  unfold ltT
  rw [bl_lt, Lib.toList_data, Lib.toList_data]
  simpa [kB] using h
/-- the pairs that a map has of such keys -/
def pairsOf (now : List PairV) (ks : List (List UInt8)) : List PairV := ks.filterMap fun k => (lk now (kB k)).map fun v => (kB k, v)
theorem pairsOf_some {now : List PairV} {ks : List (List UInt8)} {k : List UInt8} {v : ByteArray} (h : lk now (kB k) = some v) : pairsOf now (ks ++ [k]) = pairsOf now ks ++ [(kB k, v)] := by
  unfold pairsOf
  rw [List.filterMap_append, List.filterMap_cons, h]
  rfl
theorem pairsOf_none {now : List PairV} {ks : List (List UInt8)} {k : List UInt8} (h : lk now (kB k) = none) : pairsOf now (ks ++ [k]) = pairsOf now ks := by
  unfold pairsOf
  rw [List.filterMap_append, List.filterMap_cons, h]
  simp
theorem pairsOf_all {now : List PairV} (hs : SortL now) {zs : List (List UInt8)} (hz : ∀ k, (lk now k).isSome = true → kL k ∈ zs) : pairsOf now (Lib.compact (sortK zs)) = now := by
  refine sort_ext _ _ ?_ hs (fun x => ?_)
  · unfold pairsOf SortL
    rw [List.pairwise_filterMap]
    refine (compK_pw (sortK_pw zs)).imp (fun {a b} h p hp q hq => ?_)
    cases e1 : lk now (kB a) with
    | none => rw [e1] at hp; cases hp
    | some v =>
      cases e2 : lk now (kB b) with
      | none => rw [e2] at hq; cases hq
      | some u =>
        rw [e1] at hp; rw [e2] at hq
        injection hp with hp; injection hq with hq
        subst hp; subst hq
        exact ltT_kB h
  · unfold pairsOf
    rw [List.mem_filterMap]
    constructor
    · rintro ⟨k, hk, h⟩
      cases e : lk now (kB k) with
      | none => rw [e] at h; cases h
      | some v =>
        rw [e] at h
        injection h with h
        subst h
        exact lk_mem _ _ _ e
    · intro h
      have h1 := mem_lk now x.1 x.2 hs h
      refine ⟨kL x.1, (compK_mem _).2 ((sortK_mem _ _).2 (hz x.1 (by rw [h1]; rfl))), ?_⟩
      rw [kB_kL, h1]; rfl
end Go.Proofs.YtbjchfcoacmaaaaGreatDoor
