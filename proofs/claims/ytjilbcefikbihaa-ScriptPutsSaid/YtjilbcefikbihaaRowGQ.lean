/- Rows of elements of several cells: cell by cell, as sources of appends, and what an append made. No condition. -/
import Derived.WalkSpells
import Derived.Test.YtjilbcefikbihaaBufQ
namespace Go.Kq
open Go.RowKit
set_option linter.unusedVariables false
structure Elt (α : Type) where
  n : Nat
  cells : α → List Value
  len : ∀ x, (cells x).length = n
  one : ∀ x, ∀ u ∈ cells x, u.oneCell' = true
  pos : 0 < n
section
variable {α : Type} (E : Elt α)
def Elt.flat (l : List α) : List Value := l.flatMap E.cells
theorem Elt.flat_length (l : List α) : (E.flat l).length = l.length * E.n := by
  induction l with
  | nil => simp [Elt.flat]
  | cons m l ih =>
    have : E.flat (m :: l) = E.cells m ++ E.flat l := rfl
    rw [this, List.length_append, E.len, ih, List.length_cons, Nat.add_mul, Nat.one_mul, Nat.add_comm]
theorem Elt.flat_append (l k : List α) : E.flat (l ++ k) = E.flat l ++ E.flat k := by simp [Elt.flat]
theorem Elt.flat_one (l : List α) : ∀ u ∈ E.flat l, u.oneCell' = true := fun u hu => by
  obtain ⟨x, _, hx⟩ := List.mem_flatMap.1 hu
  exact E.one x u hx
theorem Elt.flat_at (l : List α) (j : Nat) (h : j < l.length) (i : Nat) (hi : i < E.n) : (E.flat l)[j * E.n + i]? = (E.cells l[j])[i]? := by
  induction l generalizing j with
  | nil => cases h
  | cons m l ih =>
    have he : E.flat (m :: l) = E.cells m ++ E.flat l := rfl
    match j with
    | 0 =>
      rw [he, Nat.zero_mul, Nat.zero_add, List.getElem?_append_left (by rw [E.len]; exact hi)]
      rfl
    | j + 1 =>
      rw [he, List.getElem?_append_right (by rw [E.len, Nat.add_mul, Nat.one_mul]; omega), E.len, show (j + 1) * E.n + i - E.n = j * E.n + i by rw [Nat.add_mul, Nat.one_mul]; omega]
      simpa using ih j (by simpa using h)
theorem Elt.flat_take (l : List α) (k : Nat) : E.flat (l.take k) = (E.flat l).take (k * E.n) := by
  by_cases h : k ≤ l.length
  · have e : E.flat l = E.flat (l.take k) ++ E.flat (l.drop k) := by rw [← E.flat_append, List.take_append_drop]
    have hl : (E.flat (l.take k)).length = k * E.n := by rw [E.flat_length, List.length_take, Nat.min_eq_left h]
    rw [e, ← hl]
    simp
  · have : l.length * E.n ≤ k * E.n := Nat.mul_le_mul_right _ (by omega)
    rw [List.take_of_length_le (by omega), List.take_of_length_le (by rw [E.flat_length]; exact this)]
/-- elements in memory -/
def Elt.At (w : World) (A : Option Addr) (l : List α) : Prop := ∀ i (h : i < l.length), ∃ b off, A = some ⟨b, off, none⟩ ∧ b < w.heap.size ∧ ∀ j, j < E.n → w.cell? ⟨b, off + i * E.n + j, none⟩ = (E.cells l[i])[j]?
/-- elements in memory, below a mark -/
def Elt.Lo (w : World) (lo : Nat) (A : Option Addr) (l : List α) : Prop := ∀ i (h : i < l.length), ∃ b off, A = some ⟨b, off, none⟩ ∧ b < lo ∧ b < w.heap.size ∧ ∀ j, j < E.n → w.cell? ⟨b, off + i * E.n + j, none⟩ = (E.cells l[i])[j]?
variable {E} {w w' : World} {A : Option Addr} {l : List α}
theorem Elt.At.nil : E.At w A [] := fun i h => by cases h
theorem Elt.At.below (h : E.At w A l) (hb : Below w.heap.size w w') : E.At w' A l := fun i hi => by
  obtain ⟨b, off, e, h1, h2⟩ := h i hi
  exact ⟨b, off, e, Nat.lt_of_lt_of_le h1 hb.size, fun j hj => (hb.cell (p := ⟨b, off + i * E.n + j, none⟩) h1).trans (h2 j hj)⟩
theorem Elt.At.keeps {S : Nat → Prop} (h : E.At w A l) (hk : Kq.Keeps S w w') (hS : ∀ b off, A = some ⟨b, off, none⟩ → b < w.heap.size → ¬ S b) : E.At w' A l := fun i hi => by
  obtain ⟨b, off, e, h1, h2⟩ := h i hi
  have hb : w'.heap[b]? = w.heap[b]? := hk.block b h1 (hS b off e h1)
  refine ⟨b, off, e, Nat.lt_of_lt_of_le h1 hk.size, fun j hj => ?_⟩
  rw [← h2 j hj]
  unfold World.cell?
  simp only [hb]
theorem Elt.At.drew (h : E.At w A l) : E.At w.drew A l := h
theorem Elt.At.take (h : E.At w A l) (k : Nat) : E.At w A (l.take k) := fun i hi => by
  have hl := List.length_take (i := k) (l := l)
  obtain ⟨b, off, e, h1, h2⟩ := h i (by omega)
  refine ⟨b, off, e, h1, fun j hj => ?_⟩
  rw [h2 j hj, List.getElem_take]
theorem Elt.At.drop {b off : Nat} (h : E.At w (some ⟨b, off, none⟩) l) (k : Nat) : E.At w (some ⟨b, off + k * E.n, none⟩) (l.drop k) := fun i hi => by
  have hl := List.length_drop (i := k) (l := l)
  obtain ⟨b', off', e, h1, h2⟩ := h (k + i) (by omega)
  have hq : b = b' ∧ off = off' := by simpa using e
  obtain ⟨rfl, rfl⟩ := hq
  refine ⟨b, _, rfl, h1, fun j hj => ?_⟩
  rw [List.getElem_drop, ← h2 j hj]
  congr 2
  rw [Nat.add_mul]; omega
theorem Elt.Lo.at {lo : Nat} (h : E.Lo w lo A l) : E.At w A l := fun i hi => by
  obtain ⟨b, off, e, _, h1, h2⟩ := h i hi
  exact ⟨b, off, e, h1, h2⟩
theorem Elt.Lo.below {lo : Nat} (h : E.Lo w lo A l) (hb : Below w.heap.size w w') : E.Lo w' lo A l := fun i hi => by
  obtain ⟨b, off, e, h0, h1, h2⟩ := h i hi
  exact ⟨b, off, e, h0, Nat.lt_of_lt_of_le h1 hb.size, fun j hj => (hb.cell (p := ⟨b, off + i * E.n + j, none⟩) h1).trans (h2 j hj)⟩
theorem Elt.At.lo (h : E.At w A l) : E.Lo w w.heap.size A l := fun i hi => by
  obtain ⟨b, off, e, h1, h2⟩ := h i hi
  exact ⟨b, off, e, h1, h1, h2⟩
theorem Elt.Lo.belowLo {lo : Nat} (h : E.Lo w lo A l) (hb : Below lo w w') (hs : w.heap.size ≤ w'.heap.size) : E.Lo w' lo A l := fun i hi => by
  obtain ⟨b, off, e, h0, h1, h2⟩ := h i hi
  exact ⟨b, off, e, h0, Nat.lt_of_lt_of_le h1 hs, fun j hj => (hb.cell (p := ⟨b, off + i * E.n + j, none⟩) h0).trans (h2 j hj)⟩
theorem Elt.add_flat (b o k : Nat) : (⟨b, o, none⟩ : Addr).add k = ⟨b, o + k, none⟩ := by unfold Addr.add; split <;> simp_all
/-- a slice of elements as what is appended -/
theorem Elt.At.src {P : Program} {T e : TypeId} (hT : P.underlying T = some (.slice e)) {b off : Nat} (cap : Nat) (h : E.At w (some ⟨b, off, none⟩) l) : Src P E.n T (.slice (some ⟨b, off, none⟩) l.length cap) l.length (E.flat l) w :=
  Src.ofSlice _ hT ⟨b, off, none⟩ l.length cap (E.flat l) (E.flat_length l) (fun j u hj => by
    have hlt : j < l.length * E.n := by rw [← E.flat_length]; exact (List.getElem?_eq_some_iff.1 hj).1
    have hp := E.pos
    have hi : j / E.n < l.length := Nat.div_lt_of_lt_mul (by rw [Nat.mul_comm]; exact hlt)
    have hr : j % E.n < E.n := Nat.mod_lt _ hp
    have hjr : j = j / E.n * E.n + j % E.n := by rw [Nat.mul_comm]; exact (Nat.div_add_mod j E.n).symm
    obtain ⟨b', o', eq, -, h2⟩ := h (j / E.n) hi
    have hq : b = b' ∧ off = o' := by simpa using eq
    obtain ⟨rfl, rfl⟩ := hq
    rw [Elt.add_flat, ← hj]
    have := h2 _ hr
    rw [Nat.add_assoc, ← hjr] at this
    rw [this]
    have hf := E.flat_at l _ hi _ hr
    rw [← hjr] at hf
    exact hf.symm) (fun u hu => E.flat_one l u hu)
theorem Elt.src_nil {P : Program} {T e : TypeId} (hT : P.underlying T = some (.slice e)) (A : Option Addr) (cap : Nat) : Src P E.n T (.slice A 0 cap) 0 (E.flat []) w := by
  cases A with
  | none => exact Src.ofNil _ hT cap
  | some a => exact Src.ofSlice _ hT a 0 cap [] (by simp) (fun j u hj => by cases hj) (fun u hu => by cases hu)
/-- of whatever address -/
theorem Elt.At.srcA {P : Program} {T e : TypeId} (hT : P.underlying T = some (.slice e)) (cap : Nat) (h : E.At w A l) : Src P E.n T (.slice A l.length cap) l.length (E.flat l) w := by
  rcases Nat.eq_zero_or_pos l.length with h0 | h0
  · obtain rfl := List.eq_nil_of_length_eq_zero h0
    exact Elt.src_nil hT A cap
  · obtain ⟨b, off, rfl, -⟩ := h 0 h0
    exact h.src hT cap
/-- a row of the call's own, as elements -/
theorem Elt.own_at {base : Nat} {e : TypeId} {v : Value} (h : w.ownsRow base e E.n v l.length (E.flat l)) : ∃ A cap, v = .slice A l.length cap ∧ l.length ≤ cap ∧ E.At w A l ∧ (∀ b off, A = some ⟨b, off, none⟩ → base ≤ b) ∧ (A = none → cap = 0) := by
  rcases h.2 with ⟨rfl, h0⟩ | ⟨g, cap, cur, rfl, hge, hb, hc, _, _, ht⟩
  · exact ⟨none, 0, by rw [h0], by omega, fun j hj => by omega, fun b off e => by (cases e), fun _ => rfl⟩
  · refine ⟨_, cap, rfl, hc, fun i hi => ⟨g, 0, rfl, Kq.blk_lt hb, fun j hj => ?_⟩, fun b off e => (by cases e; exact hge), fun e => by cases e⟩
    have g1 := E.flat_at l i hi j hj
    have hlt : i * E.n + j < l.length * E.n := by
      have : (i + 1) * E.n ≤ l.length * E.n := Nat.mul_le_mul_right _ hi
      rw [Nat.add_mul, Nat.one_mul] at this; omega
    rw [← ht, List.getElem?_take, if_pos hlt, Array.getElem?_toList] at g1
    rw [Nat.zero_add, Kq.blk_cell hb, g1]
theorem Elt.made_one (x : α) (w : World) (T : TypeId) : E.At (w.alloc (.cells (E.cells x).toArray T)) (some ⟨w.heap.size, 0, none⟩) [x] := fun i hi => by
  have hi0 : i = 0 := by simpa using hi
  subst hi0
  refine ⟨_, 0, rfl, by simp, fun j hj => ?_⟩
  rw [Nat.zero_mul, Nat.zero_add]
  simp
/-- the front of an own row is an own row -/
theorem Elt.own_front {base : Nat} {e : TypeId} {b c : Nat} (h : w.ownsRow base e E.n (.slice (some ⟨b, 0, none⟩) l.length c) l.length (E.flat l)) (k : Nat) (hk : k ≤ l.length) : w.ownsRow base e E.n (.slice (some ⟨b, 0, none⟩) k c) k (E.flat (l.take k)) := by
  have hfl : (E.flat (l.take k)).length = k * E.n := by rw [E.flat_length, List.length_take, Nat.min_eq_left hk]
  have hkn : k * E.n ≤ l.length * E.n := Nat.mul_le_mul_right _ hk
  rcases h.2 with ⟨e, h0⟩ | ⟨g, cap, cur, e, hge, hb, hc, hcm, hsz, ht⟩
  · cases e
  · have hq : b = g ∧ c = cap := by simpa using e
    obtain ⟨rfl, rfl⟩ := hq
    refine ⟨hfl, Or.inr ⟨b, c, cur, rfl, hge, hb, by omega, hcm, hsz, ?_⟩⟩
    rw [E.flat_take, ← ht, List.take_take, Nat.min_eq_left hkn]
end
end Go.Kq
