/- Lists in order of their elements' keys: look up, put, delete, place. No condition. -/
import Derived.WalkSpells
namespace Go.Kq
set_option linter.unusedVariables false
set_option linter.unusedSectionVars false
/-- keys, and their order -/
structure Ord (α κ : Type) where
  key : α → κ
  lt : κ → κ → Bool
  irr : ∀ a, lt a a = false
  trans : ∀ {a b c}, lt a b = true → lt b c = true → lt a c = true
  tri : ∀ {a b}, lt a b = false → a ≠ b → lt b a = true
section
variable {α κ : Type} [DecidableEq κ] (R : Ord α κ)
def Ord.look : List α → κ → Option α
  | [], _ => none
  | p :: l, k => if R.key p = k then some p else Ord.look l k
def Ord.ins : List α → α → List α
  | [], x => [x]
  | p :: l, x => if R.lt (R.key p) (R.key x) = true then p :: Ord.ins l x else if R.key p = R.key x then x :: l else x :: p :: l
def Ord.del : List α → κ → List α
  | [], k => []
  | p :: l, k => if R.key p = k then l else p :: Ord.del l k
def Ord.Sort (l : List α) : Prop := l.Pairwise (fun a b => R.lt (R.key a) (R.key b) = true)
/-- how many are lower -/
def Ord.plc : List α → κ → Nat
  | [], _ => 0
  | p :: l, k => if R.lt (R.key p) k = true then Ord.plc l k + 1 else 0
variable {R}
theorem Ord.ne {a b : κ} (h : R.lt a b = true) : a ≠ b := fun e => by subst e; rw [R.irr] at h; cases h
theorem Ord.asym {a b : κ} (h : R.lt a b = true) : R.lt b a = false := by
  cases e : R.lt b a with
  | false => rfl
  | true => have := R.trans h e; rw [R.irr] at this; cases this
theorem Ord.Sort.tail {p : α} {l : List α} (h : R.Sort (p :: l)) : R.Sort l := (List.pairwise_cons.1 h).2
theorem Ord.Sort.head {p : α} {l : List α} (h : R.Sort (p :: l)) : ∀ q ∈ l, R.lt (R.key p) (R.key q) = true := (List.pairwise_cons.1 h).1
theorem Ord.look_mem : ∀ (l : List α) (k : κ) (x : α), R.look l k = some x → x ∈ l ∧ R.key x = k
  | p :: l, k, x, h => by
    unfold Ord.look at h
    by_cases e : R.key p = k
    · rw [if_pos e] at h
      injection h with h
      subst h
      exact ⟨List.mem_cons_self, e⟩
    · rw [if_neg e] at h
      have := Ord.look_mem l k x h
      exact ⟨List.mem_cons_of_mem _ this.1, this.2⟩
theorem Ord.mem_look : ∀ (l : List α) (x : α), R.Sort l → x ∈ l → R.look l (R.key x) = some x
  | p :: l, x, hs, h => by
    unfold Ord.look
    rcases List.mem_cons.1 h with h | h
    · subst h; exact if_pos rfl
    · rw [if_neg (Ord.ne (hs.head _ h))]
      exact Ord.mem_look l x hs.tail h
theorem Ord.look_none : ∀ (l : List α) (k : κ), (∀ q ∈ l, R.key q ≠ k) → R.look l k = none
  | [], _, _ => rfl
  | p :: l, k, h => by
    unfold Ord.look
    rw [if_neg (h p List.mem_cons_self)]
    exact Ord.look_none l k (fun q hq => h q (List.mem_cons_of_mem _ hq))
theorem Ord.look_low (l : List α) (k : κ) (h : ∀ q ∈ l, R.lt k (R.key q) = true) : R.look l k = none := Ord.look_none l k (fun q hq e => Ord.ne (h q hq) e.symm)
theorem Ord.look_ins : ∀ (l : List α) (x : α) (j : κ), R.look (R.ins l x) j = if j = R.key x then some x else R.look l j
  | [], x, j => by
    unfold Ord.ins Ord.look
    by_cases e : j = R.key x
    · rw [if_pos e, if_pos e.symm]
    · rw [if_neg e, if_neg (fun e' => e e'.symm)]; rfl
  | p :: l, x, j => by
    unfold Ord.ins
    by_cases h1 : R.lt (R.key p) (R.key x) = true
    · rw [if_pos h1]
      unfold Ord.look
      rw [Ord.look_ins l x j]
      by_cases e : R.key p = j
      · have : j ≠ R.key x := fun e' => Ord.ne h1 (e.trans e')
        rw [if_pos e, if_neg this, if_pos e]
      · rw [if_neg e, if_neg e]
    · rw [if_neg h1]
      by_cases h2 : R.key p = R.key x
      · rw [if_pos h2]
        unfold Ord.look
        by_cases e : j = R.key x
        · rw [if_pos e.symm, if_pos e]
        · rw [if_neg (fun e' => e e'.symm), if_neg e, if_neg (fun e' => e (e'.symm.trans h2))]
      · rw [if_neg h2]
        rw [Ord.look]
        by_cases e : j = R.key x
        · rw [if_pos e.symm, if_pos e]
        · rw [if_neg (fun e' => e e'.symm), if_neg e]
theorem Ord.look_del : ∀ (l : List α) (k j : κ), R.Sort l → R.look (R.del l k) j = if j = k then none else R.look l j
  | [], k, j, _ => by unfold Ord.del Ord.look; simp
  | p :: l, k, j, hs => by
    unfold Ord.del
    by_cases h : R.key p = k
    · rw [if_pos h]
      by_cases e : j = k
      · rw [if_pos e, e, ← h]
        exact Ord.look_low l _ hs.head
      · rw [if_neg e]
        conv => rhs; unfold Ord.look
        rw [if_neg (fun e' => e (e'.symm.trans h))]
    · rw [if_neg h]
      unfold Ord.look
      rw [Ord.look_del l k j hs.tail]
      by_cases e : R.key p = j
      · rw [if_pos e, if_pos e, if_neg (fun e' => h (e.trans e'))]
      · rw [if_neg e, if_neg e]
theorem Ord.mem_ins : ∀ (l : List α) (x q : α), q ∈ R.ins l x → q = x ∨ q ∈ l
  | [], x, q, h => by unfold Ord.ins at h; exact Or.inl (List.mem_singleton.1 h)
  | p :: l, x, q, h => by
    unfold Ord.ins at h
    by_cases h1 : R.lt (R.key p) (R.key x) = true
    · rw [if_pos h1] at h
      rcases List.mem_cons.1 h with h | h
      · exact Or.inr (h ▸ List.mem_cons_self)
      · exact (Ord.mem_ins l x q h).imp id (List.mem_cons_of_mem _)
    · rw [if_neg h1] at h
      by_cases h2 : R.key p = R.key x
      · rw [if_pos h2] at h
        rcases List.mem_cons.1 h with h | h
        · exact Or.inl h
        · exact Or.inr (List.mem_cons_of_mem _ h)
      · rw [if_neg h2] at h
        rcases List.mem_cons.1 h with h | h
        · exact Or.inl h
        · exact Or.inr h
theorem Ord.mem_del : ∀ (l : List α) (k : κ) (q : α), q ∈ R.del l k → q ∈ l
  | p :: l, k, q, h => by
    unfold Ord.del at h
    by_cases h1 : R.key p = k
    · rw [if_pos h1] at h; exact List.mem_cons_of_mem _ h
    · rw [if_neg h1] at h
      rcases List.mem_cons.1 h with h | h
      · exact h ▸ List.mem_cons_self
      · exact List.mem_cons_of_mem _ (Ord.mem_del l k q h)
theorem Ord.sort_ins : ∀ (l : List α) (x : α), R.Sort l → R.Sort (R.ins l x)
  | [], x, _ => by unfold Ord.ins Ord.Sort; simp
  | p :: l, x, hs => by
    unfold Ord.ins
    by_cases h1 : R.lt (R.key p) (R.key x) = true
    · rw [if_pos h1]
      refine List.Pairwise.cons (fun q hq => ?_) (Ord.sort_ins l x hs.tail)
      rcases Ord.mem_ins l x q hq with rfl | hq
      · exact h1
      · exact hs.head q hq
    · rw [if_neg h1]
      by_cases h2 : R.key p = R.key x
      · rw [if_pos h2]
        exact List.Pairwise.cons (fun q hq => by have := hs.head q hq; rw [h2] at this; exact this) hs.tail
      · rw [if_neg h2]
        have h3 : R.lt (R.key x) (R.key p) = true := R.tri (by simpa using h1) h2
        refine List.Pairwise.cons (fun q hq => ?_) hs
        rcases List.mem_cons.1 hq with rfl | hq
        · exact h3
        · exact R.trans h3 (hs.head q hq)
theorem Ord.sort_del : ∀ (l : List α) (k : κ), R.Sort l → R.Sort (R.del l k)
  | [], k, _ => by unfold Ord.del Ord.Sort; simp
  | p :: l, k, hs => by
    unfold Ord.del
    by_cases h1 : R.key p = k
    · rw [if_pos h1]; exact hs.tail
    · rw [if_neg h1]
      exact List.Pairwise.cons (fun q hq => hs.head q (Ord.mem_del l k q hq)) (Ord.sort_del l k hs.tail)
theorem Ord.len_ins : ∀ (l : List α) (x : α), R.Sort l → (R.ins l x).length = if (R.look l (R.key x)).isSome then l.length else l.length + 1
  | [], x, _ => rfl
  | p :: l, x, hs => by
    unfold Ord.ins
    by_cases h1 : R.lt (R.key p) (R.key x) = true
    · rw [if_pos h1]
      unfold Ord.look
      rw [if_neg (Ord.ne h1), List.length_cons, Ord.len_ins l x hs.tail, List.length_cons]
      split <;> rfl
    · rw [if_neg h1]
      by_cases h2 : R.key p = R.key x
      · rw [if_pos h2]; unfold Ord.look; rw [if_pos h2]; rfl
      · rw [if_neg h2]
        have h3 : R.lt (R.key x) (R.key p) = true := R.tri (by simpa using h1) h2
        have h4 : R.look (p :: l) (R.key x) = none := Ord.look_low _ _ (fun q hq => by
          rcases List.mem_cons.1 hq with rfl | hq
          · exact h3
          · exact R.trans h3 (hs.head q hq))
        rw [h4]; rfl
theorem Ord.len_del : ∀ (l : List α) (k : κ), (R.del l k).length = if (R.look l k).isSome then l.length - 1 else l.length
  | [], k => rfl
  | p :: l, k => by
    unfold Ord.del Ord.look
    by_cases h : R.key p = k
    · rw [if_pos h, if_pos h]; rfl
    · rw [if_neg h, if_neg h, List.length_cons, Ord.len_del l k]
      cases e : R.look l k with
      | none => rfl
      | some v =>
        have : l ≠ [] := fun h0 => by rw [h0] at e; cases e
        have h1 : 1 ≤ l.length := by cases l with
          | nil => exact absurd rfl this
          | cons => simp
        simp only [Option.isSome_some, if_true, List.length_cons]; omega
/-- two lists in order that hold the same are one -/
theorem Ord.sort_ext : ∀ (a b : List α), R.Sort a → R.Sort b → (∀ x, x ∈ a ↔ x ∈ b) → a = b
  | [], [], _, _, _ => rfl
  | [], y :: b, _, _, h => by have := (h y).2 List.mem_cons_self; cases this
  | x :: a, [], _, _, h => by have := (h x).1 List.mem_cons_self; cases this
  | x :: a, y :: b, ha, hb, h => by
    have hxy : x = y := by
      rcases List.mem_cons.1 ((h x).1 List.mem_cons_self) with e | h1
      · exact e
      · rcases List.mem_cons.1 ((h y).2 List.mem_cons_self) with e | h2
        · exact e.symm
        · have := Ord.asym (ha.head y h2); rw [hb.head x h1] at this; cases this
    subst hxy
    rw [Ord.sort_ext a b ha.tail hb.tail (fun z => ⟨fun hz => ?_, fun hz => ?_⟩)]
    · rcases List.mem_cons.1 ((h z).1 (List.mem_cons_of_mem _ hz)) with e | h1
      · subst e; exact absurd rfl (Ord.ne (ha.head z hz))
      · exact h1
    · rcases List.mem_cons.1 ((h z).2 (List.mem_cons_of_mem _ hz)) with e | h1
      · subst e; exact absurd rfl (Ord.ne (hb.head z hz))
      · exact h1
theorem Ord.ext_look {a b : List α} (ha : R.Sort a) (hb : R.Sort b) (h : ∀ j, R.look a j = R.look b j) : a = b :=
  Ord.sort_ext a b ha hb (fun x => ⟨fun hx => (Ord.look_mem b _ x ((h _).symm.trans (Ord.mem_look a x ha hx))).1, fun hx => (Ord.look_mem a _ x ((h _).trans (Ord.mem_look b x hb hx))).1⟩)
theorem Ord.sort_of {d : List α} (hn : d.Pairwise (fun a b => R.key a ≠ R.key b)) (hs : d.Pairwise (fun a b => R.lt (R.key b) (R.key a) = false)) : R.Sort d := by
  have := List.Pairwise.and hn hs
  exact this.imp (fun {a b} h => R.tri h.2 (fun e => h.1 e.symm))
/-- what was collected out of l, put in order, is l -/
theorem Ord.sort_back {l c d : List α} (hl : R.Sort l) (hc : c.Pairwise (fun a b => R.key a ≠ R.key b)) (hm : ∀ x, x ∈ c ↔ x ∈ l) (hp : d.Perm c) (hs : d.Pairwise (fun a b => R.lt (R.key b) (R.key a) = false)) : d = l := by
  have hd : d.Pairwise (fun a b => R.key a ≠ R.key b) := (hp.pairwise_iff (fun {a b} h e => h e.symm)).2 hc
  exact Ord.sort_ext d l (Ord.sort_of hd hs) hl (fun x => by rw [hp.mem_iff, hm])
theorem Ord.plc_cons (p : α) (l : List α) (k : κ) : R.plc (p :: l) k = if R.lt (R.key p) k = true then R.plc l k + 1 else 0 := rfl
theorem Ord.plc_le : ∀ (l : List α) (k : κ), R.plc l k ≤ l.length
  | [], _ => Nat.le_refl _
  | p :: l, k => by
    unfold Ord.plc
    split
    · have := Ord.plc_le l k; simp; omega
    · simp
theorem Ord.plc_lt : ∀ (l : List α) (k : κ) (i : Nat) (h : i < l.length), i < R.plc l k → R.lt (R.key l[i]) k = true
  | p :: l, k, i, h, hi => by
    unfold Ord.plc at hi
    by_cases e : R.lt (R.key p) k = true
    · rw [if_pos e] at hi
      cases i with
      | zero => exact e
      | succ i => exact Ord.plc_lt l k i (by simpa using h) (by omega)
    · rw [if_neg e] at hi; cases hi
theorem Ord.plc_at : ∀ (l : List α) (k : κ) (h : R.plc l k < l.length), R.lt (R.key l[R.plc l k]) k = false
  | p :: l, k, h => by
    by_cases e : R.lt (R.key p) k = true
    · have e1 : R.plc (p :: l) k = R.plc l k + 1 := by rw [Ord.plc_cons, if_pos e]
      have h2 : R.plc l k < l.length := by rw [e1] at h; simpa using h
      have := Ord.plc_at l k h2
      simp only [e1, List.getElem_cons_succ]
      exact this
    · have e1 : R.plc (p :: l) k = 0 := by rw [Ord.plc_cons, if_neg e]
      simp only [e1, List.getElem_cons_zero]
      simpa using e
/-- is there such a one at its place? -/
def Ord.isAt (R : Ord α κ) (l : List α) (k : κ) : Bool := decide (∃ h : R.plc l k < l.length, R.key l[R.plc l k] = k)
theorem Ord.look_at : ∀ (l : List α) (k : κ), R.Sort l → R.look l k = if h : R.plc l k < l.length then (if R.key l[R.plc l k] = k then some l[R.plc l k] else none) else none
  | [], k, _ => rfl
  | p :: l, k, hs => by
    by_cases e : R.lt (R.key p) k = true
    · have e1 : R.plc (p :: l) k = R.plc l k + 1 := by rw [Ord.plc_cons, if_pos e]
      have ih := Ord.look_at l k hs.tail
      unfold Ord.look
      rw [if_neg (Ord.ne e), ih]
      by_cases h : R.plc l k < l.length
      · have h2 : R.plc (p :: l) k < (p :: l).length := by rw [e1]; simpa using h
        rw [dif_pos h, dif_pos h2]
        simp only [e1, List.getElem_cons_succ]
      · have h2 : ¬ R.plc (p :: l) k < (p :: l).length := by rw [e1]; simpa using h
        rw [dif_neg h, dif_neg h2]
    · have e1 : R.plc (p :: l) k = 0 := by rw [Ord.plc_cons, if_neg e]
      have h2 : R.plc (p :: l) k < (p :: l).length := by rw [e1]; simp
      rw [dif_pos h2]
      simp only [e1, List.getElem_cons_zero]
      unfold Ord.look
      by_cases e2 : R.key p = k
      · rw [if_pos e2, if_pos e2]
      · rw [if_neg e2, if_neg e2]
        have h3 : R.lt k (R.key p) = true := R.tri (by simpa using e) e2
        exact Ord.look_low l k (fun q hq => R.trans h3 (hs.head q hq))
theorem Ord.isAt_look {l : List α} (hs : R.Sort l) (k : κ) : R.isAt l k = (R.look l k).isSome := by
  rw [Ord.look_at l k hs]
  unfold Ord.isAt
  by_cases h : R.plc l k < l.length
  · rw [dif_pos h]
    by_cases e : R.key l[R.plc l k] = k
    · rw [if_pos e, decide_eq_true ⟨h, e⟩]; rfl
    · rw [if_neg e, decide_eq_false (fun h2 => e h2.2)]; rfl
  · rw [dif_neg h, decide_eq_false (fun h2 => h h2.1)]; rfl
/-- put where there is none: cut at its place -/
theorem Ord.ins_new : ∀ (l : List α) (x : α), R.Sort l → R.look l (R.key x) = none → R.ins l x = l.take (R.plc l (R.key x)) ++ [x] ++ l.drop (R.plc l (R.key x))
  | [], x, _, _ => rfl
  | p :: l, x, hs, hn => by
    unfold Ord.look at hn
    by_cases e2 : R.key p = R.key x
    · rw [if_pos e2] at hn; cases hn
    · rw [if_neg e2] at hn
      unfold Ord.ins
      by_cases e : R.lt (R.key p) (R.key x) = true
      · have e1 : R.plc (p :: l) (R.key x) = R.plc l (R.key x) + 1 := by rw [Ord.plc_cons, if_pos e]
        rw [if_pos e, Ord.ins_new l x hs.tail hn, e1]
        simp
      · have e1 : R.plc (p :: l) (R.key x) = 0 := by rw [Ord.plc_cons, if_neg e]
        rw [if_neg e, if_neg e2, e1]
        simp
/-- put where there is one: it stands there instead -/
theorem Ord.ins_set : ∀ (l : List α) (x y : α), R.Sort l → R.look l (R.key x) = some y → R.ins l x = l.set (R.plc l (R.key x)) x
  | [], x, y, _, h => by cases h
  | p :: l, x, y, hs, hn => by
    unfold Ord.ins
    by_cases e : R.lt (R.key p) (R.key x) = true
    · have e1 : R.plc (p :: l) (R.key x) = R.plc l (R.key x) + 1 := by rw [Ord.plc_cons, if_pos e]
      unfold Ord.look at hn
      rw [if_neg (Ord.ne e)] at hn
      rw [if_pos e, Ord.ins_set l x y hs.tail hn, e1]
      rfl
    · have e1 : R.plc (p :: l) (R.key x) = 0 := by rw [Ord.plc_cons, if_neg e]
      rw [if_neg e, e1]
      by_cases e2 : R.key p = R.key x
      · rw [if_pos e2]; rfl
      · have h3 : R.lt (R.key x) (R.key p) = true := R.tri (by simpa using e) e2
        have := Ord.look_low (p :: l) (R.key x) (fun q hq => by
          rcases List.mem_cons.1 hq with rfl | hq
          · exact h3
          · exact R.trans h3 (hs.head q hq))
        rw [this] at hn; cases hn
theorem Ord.del_cut : ∀ (l : List α) (k : κ) (y : α), R.Sort l → R.look l k = some y → R.del l k = l.take (R.plc l k) ++ l.drop (R.plc l k + 1)
  | [], k, y, _, h => by cases h
  | p :: l, k, y, hs, hn => by
    unfold Ord.del
    by_cases e : R.lt (R.key p) k = true
    · have e1 : R.plc (p :: l) k = R.plc l k + 1 := by rw [Ord.plc_cons, if_pos e]
      unfold Ord.look at hn
      rw [if_neg (Ord.ne e)] at hn
      rw [if_neg (Ord.ne e), Ord.del_cut l k y hs.tail hn, e1]
      simp
    · have e1 : R.plc (p :: l) k = 0 := by rw [Ord.plc_cons, if_neg e]
      rw [e1]
      by_cases e2 : R.key p = k
      · rw [if_pos e2]; simp
      · have h3 : R.lt k (R.key p) = true := R.tri (by simpa using e) e2
        have := Ord.look_low (p :: l) k (fun q hq => by
          rcases List.mem_cons.1 hq with rfl | hq
          · exact h3
          · exact R.trans h3 (hs.head q hq))
        rw [this] at hn; cases hn
theorem Ord.del_none : ∀ (l : List α) (k : κ), R.look l k = none → R.del l k = l
  | [], k, _ => rfl
  | p :: l, k, h => by
    unfold Ord.look at h
    unfold Ord.del
    by_cases e : R.key p = k
    · rw [if_pos e] at h; cases h
    · rw [if_neg e] at h ⊢
      rw [Ord.del_none l k h]
end
end Go.Kq
