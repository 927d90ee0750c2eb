/- Merged: StM, StMap. Mathematics of a store: a map as a list in order, its blocks. No condition. A map of texts as a list in order, in memory; a range over it that collects. No condition. -/
import Derived.Test.YtcknhnbckbocjaaDoorPfOQ
import Derived.WalkSpells
import Derived.Outline
import Derived.Maps.OwnSet
import Derived.Maps.StringElems
import Derived.StringKeys
import Derived.Maps.RangeWalk
import Derived.Test.YtcknhnbckbocjaaDoorMapGQ
namespace Go.Proofs.YtcknhnbckbocjaaDoor
open Go.RowKit
set_option linter.unusedVariables false
/-- a key's value -/
def lk : List PairV → ByteArray → Option ByteArray
  | [], _ => none
  | p :: l, k => if p.1 = k then some p.2 else lk l k
def insP : List PairV → ByteArray → ByteArray → List PairV
  | [], k, v => [(k, v)]
  | p :: l, k, v => if ltT p.1 k = true then p :: insP l k v else if p.1 = k then (k, v) :: l else (k, v) :: p :: l
def delP : List PairV → ByteArray → List PairV
  | [], k => []
  | p :: l, k => if p.1 = k then l else p :: delP l k
theorem lt_ne {a b : ByteArray} (h : ltT a b = true) : a ≠ b := fun e => by subst e; rw [lt_irr] at h; cases h
theorem SortL.tail {p : PairV} {l : List PairV} (h : SortL (p :: l)) : SortL l := (List.pairwise_cons.1 h).2
theorem SortL.head {p : PairV} {l : List PairV} (h : SortL (p :: l)) : ∀ q ∈ l, ltT p.1 q.1 = true := (List.pairwise_cons.1 h).1
theorem lk_mem : ∀ (l : List PairV) (k v : ByteArray), lk l k = some v → (k, v) ∈ l
  | p :: l, k, v, h => by
    unfold lk at h
    by_cases e : p.1 = k
    · rw [if_pos e] at h
      injection h with h
      subst e h
      exact List.mem_cons_self
    · rw [if_neg e] at h
      exact List.mem_cons_of_mem _ (lk_mem l k v h)
theorem mem_lk : ∀ (l : List PairV) (k v : ByteArray), SortL l → (k, v) ∈ l → lk l k = some v
  | p :: l, k, v, hs, h => by
    unfold lk
    rcases List.mem_cons.1 h with h | h
    · subst h
      exact if_pos rfl
    · have h1 := hs.head _ h
      rw [if_neg (lt_ne h1)]
      exact mem_lk l k v hs.tail h
theorem lk_low : ∀ (l : List PairV) (k : ByteArray), (∀ q ∈ l, ltT k q.1 = true) → lk l k = none
  | [], _, _ => rfl
  | p :: l, k, h => by
    unfold lk
    rw [if_neg (fun e => lt_ne (h p List.mem_cons_self) e.symm)]
    exact lk_low l k (fun q hq => h q (List.mem_cons_of_mem _ hq))
theorem lk_ins : ∀ (l : List PairV) (k v j : ByteArray), lk (insP l k v) j = if j = k then some v else lk l j
  | [], k, v, j => by
    unfold insP lk
    by_cases e : j = k
    · subst e; simp
    · rw [if_neg e, if_neg (fun e' => e e'.symm)]; rfl
  | p :: l, k, v, j => by
    unfold insP
    by_cases h1 : ltT p.1 k = true
    · rw [if_pos h1]
      unfold lk
      rw [lk_ins l k v j]
      by_cases e : p.1 = j
      · have : j ≠ k := fun e' => lt_ne h1 (e.trans e')
        rw [if_pos e, if_neg this, if_pos e]
      · rw [if_neg e, if_neg e]
    · rw [if_neg h1]
      by_cases h2 : p.1 = k
      · rw [if_pos h2]
        unfold lk
        by_cases e : j = k
        · rw [if_pos e.symm, if_pos e]
        · rw [if_neg (fun e' => e e'.symm), if_neg e, if_neg (fun e' => e (e'.symm.trans h2))]
      · rw [if_neg h2]
        rw [lk]
        by_cases e : j = k
        · rw [if_pos e.symm, if_pos e]
        · rw [if_neg (fun e' => e e'.symm), if_neg e]
theorem lk_del : ∀ (l : List PairV) (k j : ByteArray), SortL l → lk (delP l k) j = if j = k then none else lk l j
  | [], k, j, _ => by unfold delP lk; simp
  | p :: l, k, j, hs => by
    unfold delP
    by_cases h : p.1 = k
    · rw [if_pos h]
      by_cases e : j = k
      · rw [if_pos e, e, ← h]
        exact lk_low l p.1 hs.head
      · rw [if_neg e]
        conv => rhs; unfold lk
        rw [if_neg (fun e' => e (e'.symm.trans h))]
    · rw [if_neg h]
      unfold lk
      rw [lk_del l k j hs.tail]
      by_cases e : p.1 = j
      · rw [if_pos e, if_pos e, if_neg (fun e' => h (e.trans e'))]
      · rw [if_neg e, if_neg e]
theorem mem_ins : ∀ (l : List PairV) (k v : ByteArray) (q : PairV), q ∈ insP l k v → q = (k, v) ∨ q ∈ l
  | [], k, v, q, h => by unfold insP at h; exact Or.inl (List.mem_singleton.1 h)
  | p :: l, k, v, q, h => by
    unfold insP at h
    by_cases h1 : ltT p.1 k = true
    · rw [if_pos h1] at h
      rcases List.mem_cons.1 h with h | h
      · exact Or.inr (h ▸ List.mem_cons_self)
      · exact (mem_ins l k v q h).imp id (List.mem_cons_of_mem _)
    · rw [if_neg h1] at h
      by_cases h2 : p.1 = k
      · rw [if_pos h2] at h
        rcases List.mem_cons.1 h with h | h
        · exact Or.inl h
        · exact Or.inr (List.mem_cons_of_mem _ h)
      · rw [if_neg h2] at h
        rcases List.mem_cons.1 h with h | h
        · exact Or.inl h
        · exact Or.inr h
theorem mem_del : ∀ (l : List PairV) (k : ByteArray) (q : PairV), q ∈ delP l k → q ∈ l
  | p :: l, k, q, h => by
    unfold delP at h
    by_cases h1 : p.1 = k
    · rw [if_pos h1] at h; exact List.mem_cons_of_mem _ h
    · rw [if_neg h1] at h
      rcases List.mem_cons.1 h with h | h
      · exact h ▸ List.mem_cons_self
      · exact List.mem_cons_of_mem _ (mem_del l k q h)
theorem sort_ins : ∀ (l : List PairV) (k v : ByteArray), SortL l → SortL (insP l k v)
  | [], k, v, _ => by unfold insP SortL; simp
  | p :: l, k, v, hs => by
    unfold insP
    by_cases h1 : ltT p.1 k = true
    · rw [if_pos h1]
      refine List.Pairwise.cons (fun q hq => ?_) (sort_ins l k v hs.tail)
      rcases mem_ins l k v q hq with rfl | hq
      · exact h1
      · exact hs.head q hq
    · rw [if_neg h1]
      by_cases h2 : p.1 = k
      · rw [if_pos h2]
        exact List.Pairwise.cons (fun q hq => by have := hs.head q hq; rw [h2] at this; exact this) hs.tail
      · rw [if_neg h2]
        have h3 : ltT k p.1 = true := lt_tri (by simpa using h1) h2
        refine List.Pairwise.cons (fun q hq => ?_) hs
        rcases List.mem_cons.1 hq with rfl | hq
        · exact h3
        · exact lt_trans h3 (hs.head q hq)
theorem sort_del : ∀ (l : List PairV) (k : ByteArray), SortL l → SortL (delP l k)
  | [], k, _ => by unfold delP SortL; simp
  | p :: l, k, hs => by
    unfold delP
    by_cases h1 : p.1 = k
    · rw [if_pos h1]; exact hs.tail
    · rw [if_neg h1]
      exact List.Pairwise.cons (fun q hq => hs.head q (mem_del l k q hq)) (sort_del l k hs.tail)
theorem len_ins : ∀ (l : List PairV) (k v : ByteArray), SortL l → (insP l k v).length = if (lk l k).isSome then l.length else l.length + 1
  | [], k, v, _ => rfl
  | p :: l, k, v, hs => by
    unfold insP
    by_cases h1 : ltT p.1 k = true
    · rw [if_pos h1]
      unfold lk
      rw [if_neg (lt_ne h1), List.length_cons, len_ins l k v hs.tail, List.length_cons]
      split <;> rfl
    · rw [if_neg h1]
      by_cases h2 : p.1 = k
      · rw [if_pos h2]; unfold lk; rw [if_pos h2]; rfl
      · rw [if_neg h2]
        have h3 : ltT k p.1 = true := lt_tri (by simpa using h1) h2
        have h4 : lk (p :: l) k = none := lk_low _ _ (fun q hq => by
          rcases List.mem_cons.1 hq with rfl | hq
          · exact h3
          · exact lt_trans h3 (hs.head q hq))
        rw [h4]; rfl
theorem len_del : ∀ (l : List PairV) (k : ByteArray), (delP l k).length = if (lk l k).isSome then l.length - 1 else l.length
  | [], k => rfl
  | p :: l, k => by
    unfold delP lk
    by_cases h : p.1 = k
    · rw [if_pos h, if_pos h]; rfl
    · rw [if_neg h, if_neg h, List.length_cons, len_del l k]
      cases e : lk l k with
      | none => rfl
      | some v =>
        have : l ≠ [] := fun h0 => by rw [h0] at e; cases e
        have h1 : 1 ≤ l.length := by cases l with
          | nil => exact absurd rfl this
          | cons => simp
        simp only [Option.isSome_some, if_true, List.length_cons]; omega
/-- the document's way: cut where the key stands -/
theorem plc_cons {p : PairV} {l : List PairV} (hs : SortL (p :: l)) (k : ByteArray) : plc (p :: l) k = if ltT p.1 k = true then plc l k + 1 else 0 := by
  by_cases h : ltT p.1 k = true
  · rw [if_pos h]; unfold plc; simp [h]
  · rw [if_neg h]
    refine plc_none _ _ (fun q hq => ?_)
    rcases List.mem_cons.1 hq with rfl | hq
    · simpa using h
    · cases e : ltT q.1 k with
      | false => rfl
      | true => exact absurd (lt_trans (hs.head q hq) e) h
theorem ins_cut : ∀ (l : List PairV) (k v : ByteArray), SortL l → insP l k v = l.take (plc l k) ++ (k, v) :: l.drop (if isIn l k = true then plc l k + 1 else plc l k)
  | [], k, v, _ => by simp [insP, plc]
  | p :: l, k, v, hs => by
    have ih := ins_cut l k v hs.tail
    have hp := plc_cons hs k
    unfold insP
    by_cases h : ltT p.1 k = true
    · rw [if_pos h] at hp
      have hi : isIn (p :: l) k = isIn l k := by
        unfold isIn
        rw [decide_eq_decide, hp]
        constructor
        · rintro ⟨h1, h2⟩; exact ⟨by simpa using h1, by simpa using h2⟩
        · rintro ⟨h1, h2⟩; exact ⟨by simpa using h1, by simpa using h2⟩
      rw [if_pos h, ih, hp, hi]
      split <;> simp
    · rw [if_neg h] at hp
      rw [if_neg h, hp]
      by_cases h2 : p.1 = k
      · have hi : isIn (p :: l) k = true := by
          unfold isIn; rw [hp]; exact decide_eq_true ⟨by simp, h2⟩
        rw [if_pos h2, if_pos hi]; simp
      · have hi : ¬ isIn (p :: l) k = true := by
          unfold isIn; rw [hp, decide_eq_true_iff]; rintro ⟨_, h3⟩; exact h2 h3
        rw [if_neg h2, if_neg hi]; simp
theorem del_cut : ∀ (l : List PairV) (k : ByteArray), SortL l → isIn l k = true → delP l k = l.take (plc l k) ++ l.drop (plc l k + 1)
  | [], k, _, h => by
    unfold isIn at h
    rw [decide_eq_true_iff] at h
    obtain ⟨h1, _⟩ := h
    simp at h1
  | p :: l, k, hs, hin => by
    have ih := del_cut l k hs.tail
    have hp := plc_cons hs k
    unfold delP
    by_cases h : ltT p.1 k = true
    · rw [if_pos h] at hp
      have hi : isIn (p :: l) k = isIn l k := by
        unfold isIn
        rw [decide_eq_decide, hp]
        constructor
        · rintro ⟨h1, h2⟩; exact ⟨by simpa using h1, by simpa using h2⟩
        · rintro ⟨h1, h2⟩; exact ⟨by simpa using h1, by simpa using h2⟩
      rw [if_neg (lt_ne h), ih (hi ▸ hin), hp]; simp
    · rw [if_neg h] at hp
      have h2 : p.1 = k := by
        unfold isIn at hin; rw [hp, decide_eq_true_iff] at hin; exact hin.2
      rw [if_pos h2, hp]; simp
theorem isIn_lk {l : List PairV} (hs : SortL l) (k : ByteArray) : isIn l k = (lk l k).isSome := by
  cases e : lk l k with
  | some v =>
    obtain ⟨i, hi, h⟩ := List.getElem_of_mem (lk_mem l k v e)
    exact (isIn_iff hs k).2 ⟨i, hi, by rw [h]⟩
  | none =>
    cases h : isIn l k with
    | false => rfl
    | true =>
      obtain ⟨i, hi, h1⟩ := (isIn_iff hs k).1 h
      have := mem_lk l l[i].1 l[i].2 hs (List.getElem_mem hi)
      rw [h1, e] at this; cases this
theorem lk_at {l : List PairV} (hs : SortL l) (k : ByteArray) (h : plc l k < l.length) (hk : l[plc l k].1 = k) : lk l k = some l[plc l k].2 := by
  have hm := List.getElem_mem h
  generalize l[plc l k] = q at *
  subst hk
  exact mem_lk l q.1 q.2 hs hm
/-- two lists in order that hold the same pairs are one -/
theorem sort_ext : ∀ (a b : List PairV), SortL a → SortL b → (∀ x, x ∈ a ↔ x ∈ b) → a = b
  | [], [], _, _, _ => rfl
  | [], y :: b, _, _, h => by have := (h y).2 List.mem_cons_self; cases this
  | x :: a, [], _, _, h => by have := (h x).1 List.mem_cons_self; cases this
  | x :: a, y :: b, ha, hb, h => by
    have hxy : x = y := by
      rcases List.mem_cons.1 ((h x).1 List.mem_cons_self) with e | h1
      · exact e
      · rcases List.mem_cons.1 ((h y).2 List.mem_cons_self) with e | h2
        · exact e.symm
        · have := lt_asym (ha.head y h2); rw [hb.head x h1] at this; cases this
    subst hxy
    rw [sort_ext a b ha.tail hb.tail (fun z => ⟨fun hz => ?_, fun hz => ?_⟩)]
    · rcases List.mem_cons.1 ((h z).1 (List.mem_cons_of_mem _ hz)) with e | h1
      · subst e; exact absurd rfl (lt_ne (ha.head z hz))
      · exact h1
    · rcases List.mem_cons.1 ((h z).2 (List.mem_cons_of_mem _ hz)) with e | h1
      · subst e; exact absurd rfl (lt_ne (hb.head z hz))
      · exact h1
/-- keys unlike, pairwise not higher: in order -/
theorem sort_of {d : List PairV} (hn : d.Pairwise (fun a b => a.1 ≠ b.1)) (hs : d.Pairwise (fun a b => ltT b.1 a.1 = false)) : SortL d := by
  have := List.Pairwise.and hn hs
  exact this.imp (fun {a b} h => lt_tri h.2 (fun e => h.1 e.symm))
/-- what was collected out of the map l, put in order, is l -/
theorem sort_back {l c d : List PairV} (hl : SortL l) (hc : c.Pairwise (fun a b => a.1 ≠ b.1)) (hm : ∀ k v, (k, v) ∈ c ↔ lk l k = some v) (hp : d.Perm c) (hs : d.Pairwise (fun a b => ltT b.1 a.1 = false)) : d = l := by
  have hd : d.Pairwise (fun a b => a.1 ≠ b.1) := (hp.pairwise_iff (fun {a b} h e => h e.symm)).2 hc
  refine sort_ext d l (sort_of hd hs) hl (fun x => ?_)
  rw [hp.mem_iff, show x = (x.1, x.2) from rfl, hm]
  exact ⟨lk_mem l _ _, mem_lk l _ _ hl⟩
/-- a store: what is set, its blocks from the first height on -/
structure StV where
  now : List PairV
  first : Nat
  blks : List (List PairV)
def StV.height (s : StV) : Nat := s.first + (s.blks.length - 1)
def smallP (l : List PairV) : Prop := l.length ≤ 4096 ∧ SortL l ∧ ∀ p ∈ l, 1 ≤ p.1.size ∧ p.1.size ≤ 16 ∧ p.2.size ≤ 64
structure StOk (s : StV) : Prop where
  now : smallP s.now
  blks : ∀ l ∈ s.blks, smallP l
  one : 1 ≤ s.blks.length
  few : s.blks.length ≤ 4096
  top : s.first + s.blks.length ≤ 18446744073709551616
def badKV (k v : ByteArray) : Bool := decide (k.size = 0) || (decide (16 < k.size) || decide (64 < v.size))
def setV (s : StV) (k v : ByteArray) : StV × Int := if badKV k v = true then (s, 1) else if lk s.now k = none ∧ 4096 ≤ s.now.length then (s, 2) else ({ s with now := insP s.now k v }, 0)
def delV (s : StV) (k : ByteArray) : StV × Int := if lk s.now k = none then (s, 3) else ({ s with now := delP s.now k }, 0)
def comV (s : StV) : StV × Nat × Int := if s.height = 18446744073709551615 then (s, 0, 12) else if 4096 ≤ s.blks.length then (s, 0, 2) else ({ s with blks := s.blks ++ [s.now] }, s.height + 1, 0)
def atV (s : StV) (h : Nat) : List PairV × Int := if s.first ≤ h ∧ h ≤ s.height then (s.blks.getD (h - s.first) [], 0) else ([], 3)
theorem badKV_no {k v : ByteArray} (h : badKV k v = false) : 1 ≤ k.size ∧ k.size ≤ 16 ∧ v.size ≤ 64 := by
  unfold badKV at h
  simp only [Bool.or_eq_false_iff, decide_eq_false_iff_not] at h
  omega
theorem smallP.ins {l : List PairV} (h : smallP l) {k v : ByteArray} (hk : badKV k v = false) (hf : ¬ (lk l k = none ∧ 4096 ≤ l.length)) : smallP (insP l k v) := by
  obtain ⟨h1, h2, h3⟩ := h
  refine ⟨?_, sort_ins l k v h2, fun p hp => ?_⟩
  · rw [len_ins l k v h2]
    cases e : lk l k with
    | none => simp only [Option.isSome_none, Bool.false_eq_true, if_false]; have : ¬ 4096 ≤ l.length := fun h => hf ⟨e, h⟩; omega
    | some u => simpa using h1
  · rcases mem_ins l k v p hp with rfl | hp
    · exact badKV_no hk
    · exact h3 p hp
theorem smallP.del {l : List PairV} (h : smallP l) (k : ByteArray) : smallP (delP l k) := by
  obtain ⟨h1, h2, h3⟩ := h
  refine ⟨?_, sort_del l k h2, fun p hp => h3 p (mem_del l k p hp)⟩
  rw [len_del]; split <;> omega
theorem setV_ok {s : StV} (h : StOk s) (k v : ByteArray) : StOk (setV s k v).1 := by
  unfold setV
  by_cases h1 : badKV k v = true
  · rw [if_pos h1]; exact h
  · rw [if_neg h1]
    by_cases h2 : lk s.now k = none ∧ 4096 ≤ s.now.length
    · rw [if_pos h2]; exact h
    · rw [if_neg h2]; exact ⟨h.now.ins (by simpa using h1) h2, h.blks, h.one, h.few, h.top⟩
theorem delV_ok {s : StV} (h : StOk s) (k : ByteArray) : StOk (delV s k).1 := by
  unfold delV
  by_cases h1 : lk s.now k = none
  · rw [if_pos h1]; exact h
  · rw [if_neg h1]; exact ⟨h.now.del k, h.blks, h.one, h.few, h.top⟩
theorem comV_ok {s : StV} (h : StOk s) : StOk (comV s).1 := by
  unfold comV
  by_cases h1 : s.height = 18446744073709551615
  · rw [if_pos h1]; exact h
  · rw [if_neg h1]
    by_cases h2 : 4096 ≤ s.blks.length
    · rw [if_pos h2]; exact h
    · rw [if_neg h2]
      have ht := h.top
      have ho := h.one
      unfold StV.height at h1
      refine ⟨h.now, fun l hl => ?_, by simp, by simp; omega, by simp; omega⟩
      rcases List.mem_append.1 hl with hl | hl
      · exact h.blks l hl
      · rw [List.mem_singleton] at hl; rw [hl]; exact h.now
end Go.Proofs.YtcknhnbckbocjaaDoor
namespace Go.Proofs.YtcknhnbckbocjaaDoor
open Go.RowKit Go.Maps
set_option linter.unusedVariables false
theorem below_past {W : Nat} {a b d : World} {T : Nat → Prop} (h : Below W a b) (hk : Kq.Keeps T b d) (hW : W ≤ a.heap.size) (hT : ∀ k, k < b.heap.size → T k → W ≤ k) : Below W a d :=
  h.trans (hk.below (Nat.le_trans hW h.size) hT)
theorem keeps_past {S T : Nat → Prop} {a b d : World} (h : Kq.Keeps S a b) (hk : Kq.Keeps T b d) (hT : ∀ k, T k → a.heap.size ≤ k) : Kq.Keeps S a d :=
  ⟨hk.os.trans h.os, hk.tape.trans h.tape, hk.output.trans h.output, Nat.le_trans h.size hk.size, fun k hk1 hn => by
    rw [hk.block k (Nat.lt_of_lt_of_le hk1 h.size) (fun ht => by have := hT k ht; omega), h.block k hk1 hn]⟩
theorem key_str_inv {v : Value} {kl : Lit} (h : keyOf Tryd.prog 9 v = some kl) : ∃ s : ByteArray, v = .string s ∧ s.size ≤ maxLen ∧ kl = .string s.data.toList := by
  have hk := Tryd.underlying9
  cases v <;> simp [keyOf, hk, mapKey] at h
  rename_i s
  exact ⟨s, rfl, h.1, h.2.symm⟩
set_option maxRecDepth 100000 in
noncomputable def kStr : Kq.KeyK Tryd.prog 9 ByteArray := ⟨string_keyed Tryd.underlying9, fun s => .string s, fun s => .string s.data.toList, fun s => s.size ≤ maxLen, fun s h => WideMaps.keyOf_string_mk Tryd.underlying9 h, fun a b h => by injection h⟩
theorem bytes_inj {a b : ByteArray} (h : a.data.toList = b.data.toList) : a = b := ByteArray.ext (Array.toList_inj.1 h)
set_option maxRecDepth 100000 in
noncomputable def eStr : Kq.ElK Tryd.prog 9 ByteArray := ⟨plainElem Tryd.prog 9, fun s => .string s, fun s => .lit (.string s.data.toList), fun s => s.size ≤ maxLen, ⟨#[]⟩, by decide, fun w => by kernel_rfl, fun b h => plainElem_string Tryd.underlying9 h, fun v z h => by obtain ⟨s, h1, h2, _⟩ := plainElem_string_inv Tryd.underlying9 h; exact ⟨s, h1, by rw [h2]⟩, fun a b h => by injection h with h; injection h with h; exact bytes_inj h⟩
set_option maxRecDepth 100000 in
/-- how many stand there is how many were put -/
theorem map_tight {w : World} {M N sz : Nat} {f : ByteArray → Option ByteArray} (h : Kq.MapG kStr eStr w M N f sz) : Kq.MapG kStr eStr w M sz f sz := by
  obtain ⟨n, D, hn, ⟨es, clock, hb, F, hs, hD⟩, hsz, hf⟩ := h.ex
  refine ⟨sz, D, Nat.le_refl _, ⟨es, clock, hb, F, ?_, hD⟩, hsz, hf⟩
  rw [← hsz, hD]
  have := length_read (P := Tryd.prog) (k := 9) (R0 := eStr.R) es
  unfold Maps.size
  simp only
  omega
/-- block M is the map l -/
def MapL (w : World) (M : Nat) (l : List PairV) : Prop := Kq.MapG kStr eStr w M l.length (lk l) l.length
section
variable {w w' : World} {M : Nat} {l : List PairV}
theorem MapL.lt (h : MapL w M l) : M < w.heap.size := Kq.MapG.lt h
theorem MapL.keeps {S : Nat → Prop} (h : MapL w M l) (hk : Kq.Keeps S w w') (hS : ¬ S M) : MapL w' M l := Kq.MapG.keeps h hk hS
theorem MapL.below (h : MapL w M l) (hb : Below w.heap.size w w') : MapL w' M l := Kq.MapG.below h hb
theorem MapL.made (w : World) : MapL (w.alloc (.map #[] 0)) w.heap.size [] := Kq.MapG.made kStr eStr w
theorem MapL.len (h : MapL w M l) (ty : TypeId) : (Builtin.len_ #[68] ty #[.map (some M)]).run Tryd.prog w = .ok (.int .i64 (l.length : Int)) w := Kq.MapG.len h Tryd.underlying68 ty
theorem MapL.look (h : MapL w M l) (k : ByteArray) (hk : k.size ≤ maxLen) : (Instr.lookup 68 (.map (some M)) (.string k) true).run Tryd.prog w = .ok (.tuple #[.string ((lk l k).getD ⟨#[]⟩), .bool (lk l k).isSome]) w := Kq.MapG.look h Tryd.underlying68 k hk
theorem MapL.put (h : MapL w M l) (hs : SortL l) (hl : l.length < 1000000000) (k v : ByteArray) (hk : k.size ≤ maxLen) (hv : v.size ≤ maxLen) :
    ∃ w', (Instr.mapUpdate 68 (.map (some M)) (.string k) (.string v)).run Tryd.prog w = .ok () w' ∧ MapL w' M (insP l k v) ∧ Kq.Keeps (· = M) w w' := by
  obtain ⟨w', h1, h2, h3⟩ := Kq.MapG.put h hl Tryd.underlying68 k hk v hv
  refine ⟨w', h1, ?_, h3⟩
  have h4 := map_tight h2
  unfold MapL
  have e1 : lk (insP l k v) = Kq.updG (lk l) k v := funext (fun j => by rw [lk_ins]; rfl)
  rw [e1, len_ins l k v hs]
  exact h4
theorem MapL.del (h : MapL w M l) (hs : SortL l) (k : ByteArray) (hk : k.size ≤ maxLen) (ty : TypeId) :
    ∃ w', (Builtin.delete_ #[68, 9] ty #[.map (some M), .string k]).run Tryd.prog w = .ok (.tuple #[]) w' ∧ MapL w' M (delP l k) ∧ Kq.Keeps (· = M) w w' := by
  obtain ⟨w', h1, h2, h3⟩ := Kq.MapG.del h Tryd.underlying68 k hk ty
  refine ⟨w', h1, ?_, h3⟩
  have h4 := map_tight h2
  unfold MapL
  have e1 : lk (delP l k) = Kq.delG (lk l) k := funext (fun j => by rw [lk_del l k j hs]; rfl)
  rw [e1, len_del l k]
  exact h4
end
/-- a range over the map l is under way: c came, left is still to come -/
structure Col (l c : List PairV) (left : Lit → Bool) (cnt : Nat) : Prop where
  nd : c.Pairwise (fun a b => a.1 ≠ b.1)
  mem : ∀ k v, (k, v) ∈ c → lk l k = some v
  seen : ∀ p ∈ c, left (.string p.1.data.toList) = false
  rest : ∀ k, k.size ≤ maxLen → (lk l k).isSome = true → left (.string k.data.toList) = true ∨ ∃ v, (k, v) ∈ c
  inn : ∀ k, k.size ≤ maxLen → left (.string k.data.toList) = true → (lk l k).isSome = true
  num : c.length + cnt ≤ l.length
/-- the datum of a map that is ranged over -/
def DatL (l : List PairV) (D : DataW Unit) : Prop := ∀ k : ByteArray, k.size ≤ maxLen → (lk l k).isSome = true → D.atKey (.string k.data.toList) (.lit (.string [])) = .lit (.string ((lk l k).getD ⟨#[]⟩).data.toList)
set_option maxRecDepth 100000 in
theorem Col.start {w : World} {M : Nat} {l : List PairV} (h : MapL w M l) : ∃ n, ∃ D : DataW Unit, w.ownsMap Tryd.prog 9 (plainElem Tryd.prog 9) M n D ∧ Col l [] (Maps.has D) (Maps.size D) ∧ DatL l D := by
  obtain ⟨n, D, hn, hown, hsz, hD⟩ := Kq.MapG.ex h
  refine ⟨n, D, hown, ⟨List.Pairwise.nil, fun k v h => (by cases h), fun p hp => (by cases hp), fun k hk hs => Or.inl ?_, fun k hk hl => ?_, (by simp; omega)⟩, fun k hk hs => ?_⟩
  · have := (hD k hk).1
    exact this.trans hs
  · have := (hD k hk).1
    exact this.symm.trans hl
  · exact (hD k hk).2
theorem Col.step {l c : List PairV} {left : Lit → Bool} {cnt cnt' : Nat} (h : Col l c left cnt) {k v : ByteArray} (hk : k.size ≤ maxLen) (hl : left (.string k.data.toList) = true) (hv : lk l k = some v) (hc : cnt' < cnt) :
    Col l (c ++ [(k, v)]) (fun z => left z && !z.sameKey (.string k.data.toList)) cnt' := by
  refine ⟨?_, fun k' v' hm => ?_, fun p hp => ?_, fun j hj hs => ?_, fun j hj hs => ?_, by have := h.num; simp; omega⟩
  · refine List.pairwise_append.2 ⟨h.nd, by simp, fun a ha b hb e => ?_⟩
    rw [List.mem_singleton] at hb
    subst hb
    have := h.seen a ha
    rw [e] at this
    rw [this] at hl
    cases hl
  · rcases List.mem_append.1 hm with hm | hm
    · exact h.mem k' v' hm
    · rw [List.mem_singleton] at hm
      injection hm with e1 e2
      rw [e1, e2]; exact hv
  · rcases List.mem_append.1 hp with hp | hp
    · show (left _ && _) = false
      rw [h.seen p hp]; rfl
    · rw [List.mem_singleton] at hp
      subst hp
      show (left _ && _) = false
      rw [WideAt.sameKey_self (show WideAt.IsKeyLit (.string k.data.toList) from trivial)]
      simp
  · rcases h.rest j hj hs with h1 | ⟨u, h1⟩
    · by_cases e : j = k
      · exact Or.inr ⟨v, by rw [e]; simp⟩
      · refine Or.inl ?_
        show (left _ && _) = true
        rw [h1]
        cases hq : (Lit.string j.data.toList).sameKey (.string k.data.toList) with
        | false => rfl
        | true =>
          have := WideAt.sameKey_eq hq
          injection this with this
          exact absurd (bytes_inj this) e
    · exact Or.inr ⟨u, List.mem_append_left _ h1⟩
  · have : left (.string j.data.toList) = true := by
      have h0 : (left (.string j.data.toList) && !(Lit.string j.data.toList).sameKey (.string k.data.toList)) = true := hs
      cases hq : left (.string j.data.toList) with
      | true => rfl
      | false => rw [hq] at h0; cases h0
    exact h.inn j hj this
theorem Col.done {l c : List PairV} {left : Lit → Bool} {cnt : Nat} (h : Col l c left cnt) (hl : ∀ p ∈ l, p.1.size ≤ maxLen) (h0 : ∀ kl, left kl = false) : ∀ k v, (k, v) ∈ c ↔ lk l k = some v := fun k v => by
  refine ⟨h.mem k v, fun hv => ?_⟩
  have hk := hl _ (lk_mem l k v hv)
  rcases h.rest k hk (by rw [hv]; rfl) with h1 | ⟨u, h1⟩
  · rw [h0] at h1; cases h1
  · have := h.mem k u h1
    rw [hv] at this
    injection this with this
    rw [this]; exact h1
section
variable {w : World} {ops : Array Oper} {rest : List Oper} {o : Oper} {a : Act} {Q : Exit → Act → World → Prop}
set_option maxRecDepth 100000 in
theorem next_col (hg : o.guard = none) (it : Operand) (hop : o.op = Op.next it false) (M r n : Nat) (D : DataW Unit) (left : Lit → Bool) (cnt : Nat) (l c : List PairV)
    (hit : a.eval it = .pointer (some ⟨r, 0, none⟩)) (h : w.ranges Tryd.prog 9 (plainElem Tryd.prog 9) M r n D left cnt) (hc : Col l c left cnt) (hd : DatL l D)
    (hDone : cnt = 0 → (∀ kl, left kl = false) → wpList Tryd.prog ops Q rest (a.put o.dst (.tuple #[.bool false])) w)
    (hMore : ∀ (k v : ByteArray) (w' : World) (left' : Lit → Bool) (cnt' : Nat), k.size ≤ maxLen → v.size ≤ maxLen → lk l k = some v → Col l (c ++ [(k, v)]) left' cnt' → w'.ranges Tryd.prog 9 (plainElem Tryd.prog 9) M r n D left' cnt' → cnt' < cnt →
      w.grownBy w' (some r) → w'.heap.size = w.heap.size → (Instr.entry (.pointer (some ⟨r, 0, none⟩))).run Tryd.prog w' = .ok (.tuple #[.string k, .string v]) w' → wpList Tryd.prog ops Q rest (a.put o.dst (.tuple #[.bool true, .string k, .string v])) w') :
    wpList Tryd.prog ops Q (o :: rest) a w :=
  wpList_next_ranges w hg it hop 9 kStr.K (plainElem Tryd.prog 9) (fun s : ByteArray => Value.string s) (fun s : ByteArray => Value.string s) (fun key kl hkey => by obtain ⟨s, h1, _⟩ := key_str_inv hkey; exact ⟨s, h1⟩) (fun v y hv => by obtain ⟨s, h1, _⟩ := plainElem_string_inv Tryd.underlying9 hv; exact ⟨s, h1⟩)
    M r n D left cnt hit h hDone (fun k v kl y w' cnt' hkey hlk hv hat hrg hlt hgr hsz hen => by
      obtain ⟨s, e, hks, rfl⟩ := key_str_inv hkey
      injection e with e
      subst e
      obtain ⟨u, e, rfl, hvs⟩ := plainElem_string_inv Tryd.underlying9 hv
      injection e with e
      subst e
      have hin := hc.inn k hks hlk
      have h1 := hd k hks hin
      rw [hat] at h1
      have h2 : v = (lk l k).getD ⟨#[]⟩ := by
        injection h1 with h1
        injection h1 with h1
        exact bytes_inj h1
      have h3 : lk l k = some v := by
        cases e : lk l k with
        | none => rw [e] at hin; cases hin
        | some u => rw [e] at h2; rw [h2]; rfl
      exact hMore k v w' _ cnt' hks hvs h3 (hc.step hks hlk h3 hlt) hrg hlt hgr hsz hen)
end
end Go.Proofs.YtcknhnbckbocjaaDoor
