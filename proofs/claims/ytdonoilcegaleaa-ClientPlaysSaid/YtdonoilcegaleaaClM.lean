/- Plain mathematics of a row of heights that rise. No condition. -/
import Derived.WalkSpells
import Derived.Test.YtdonoilcegaleaaBuf
namespace Go.Cl
/-- how many are lower -/
def lowC (x : Nat) : List Nat → Nat
  | [] => 0
  | a :: t => if a < x then lowC x t + 1 else 0
/-- put at its place -/
def ins (x : Nat) : List Nat → List Nat
  | [] => [x]
  | a :: t => if a < x then a :: ins x t else x :: a :: t
theorem low_le (x : Nat) (l : List Nat) : lowC x l ≤ l.length := by
  induction l with
  | nil => exact Nat.le_refl _
  | cons a t ih =>
    unfold lowC
    split
    · simpa using ih
    · exact Nat.zero_le _
theorem low_iff {x : Nat} {l : List Nat} (h : l.Pairwise (· < ·)) : ∀ i (hi : i < l.length), l[i] < x ↔ i < lowC x l := by
  induction l with
  | nil => intro i hi; cases hi
  | cons a t ih =>
    obtain ⟨h1, h2⟩ := List.pairwise_cons.1 h
    intro i hi
    unfold lowC
    by_cases ha : a < x
    · rw [if_pos ha]
      match i with
      | 0 => simpa using ha
      | i + 1 =>
        have := ih h2 i (by simpa using hi)
        simp only [List.getElem_cons_succ]
        omega
    · rw [if_neg ha]
      match i with
      | 0 => simpa using ha
      | i + 1 =>
        have := h1 (t[i]'(by simpa using hi)) (List.getElem_mem _)
        simp only [List.getElem_cons_succ]
        omega
theorem ins_eq (x : Nat) (l : List Nat) : ins x l = l.take (lowC x l) ++ [x] ++ l.drop (lowC x l) := by
  induction l with
  | nil => rfl
  | cons a t ih =>
    unfold ins lowC
    split
    · rw [ih]; simp
    · simp
theorem ins_length (x : Nat) (l : List Nat) : (ins x l).length = l.length + 1 := by
  induction l with
  | nil => rfl
  | cons a t ih =>
    unfold ins
    split
    · simp [ih]
    · simp
theorem mem_ins (x k : Nat) (l : List Nat) : k ∈ ins x l ↔ k = x ∨ k ∈ l := by
  induction l with
  | nil => simp [ins]
  | cons a t ih =>
    unfold ins
    split
    · rw [List.mem_cons, ih, List.mem_cons]
      constructor
      · rintro (h | h | h) <;> simp [h]
      · rintro (h | h | h) <;> simp [h]
    · rw [List.mem_cons]
theorem ins_sorted {x : Nat} {l : List Nat} (h : l.Pairwise (· < ·)) (hx : x ∉ l) : (ins x l).Pairwise (· < ·) := by
  induction l with
  | nil => simp [ins]
  | cons a t ih =>
    obtain ⟨h1, h2⟩ := List.pairwise_cons.1 h
    have hxa : x ≠ a := fun e => hx (by rw [e]; exact List.mem_cons_self ..)
    unfold ins
    split
    · rename_i ha
      refine List.pairwise_cons.2 ⟨fun b hb => ?_, ih h2 (fun hm => hx (List.mem_cons_of_mem _ hm))⟩
      rcases (mem_ins x b t).1 hb with rfl | hb
      · exact ha
      · exact h1 b hb
    · rename_i ha
      have hlt : x < a := by omega
      refine List.pairwise_cons.2 ⟨fun b hb => ?_, h⟩
      rcases List.mem_cons.1 hb with rfl | hb
      · exact hlt
      · exact Nat.lt_trans hlt (h1 b hb)
theorem low_end {x : Nat} {l : List Nat} (h : l.Pairwise (· < ·)) (he : lowC x l = l.length) : ∀ k ∈ l, k < x := by
  intro k hk
  obtain ⟨i, hi, rfl⟩ := List.getElem_of_mem hk
  exact (low_iff h i hi).2 (by omega)
theorem sorted_at {l : List Nat} (h : l.Pairwise (· < ·)) {i j : Nat} (hij : i < j) (hj : j < l.length) : l[i] < l[j] := List.pairwise_iff_getElem.1 h i j (by omega) hj hij
/-- sorted rows of like members are one -/
theorem sorted_ext {l m : List Nat} (hl : l.Pairwise (· < ·)) (hm : m.Pairwise (· < ·)) (h : ∀ k, k ∈ l ↔ k ∈ m) : l = m := by
  induction l generalizing m with
  | nil =>
    cases m with
    | nil => rfl
    | cons b m => exact absurd ((h b).2 (List.mem_cons_self ..)) (by simp)
  | cons a l ih =>
    cases m with
    | nil => exact absurd ((h a).1 (List.mem_cons_self ..)) (by simp)
    | cons b m =>
      obtain ⟨h1, h2⟩ := List.pairwise_cons.1 hl
      obtain ⟨k1, k2⟩ := List.pairwise_cons.1 hm
      have hab : a = b := by
        rcases List.mem_cons.1 ((h a).1 (List.mem_cons_self ..)) with e | e
        · exact e
        · rcases List.mem_cons.1 ((h b).2 (List.mem_cons_self ..)) with e2 | e2
          · exact e2.symm
          · have := k1 a e; have := h1 b e2; omega
      subst hab
      congr 1
      refine ih h2 k2 (fun k => ?_)
      have := h k
      rw [List.mem_cons, List.mem_cons] at this
      constructor
      · intro hk
        rcases this.1 (Or.inr hk) with e | e
        · have := h1 k hk; omega
        · exact e
      · intro hk
        rcases this.2 (Or.inr hk) with e | e
        · have := k1 k hk; omega
        · exact e
end Go.Cl
