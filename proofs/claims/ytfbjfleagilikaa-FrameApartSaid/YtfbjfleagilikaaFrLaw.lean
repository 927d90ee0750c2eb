/- Plain mathematics of the laws of layer 5: what was split is scanned. No condition but sizes. -/
import Derived.Test.YtfbjfleagilikaaFrM
import Derived.Test.YtfbjfleagilikaaFrMay
import Derived.Test.YtfbjfleagilikaaFrSplit
namespace Go.Proofs.Ytfbjfleagilikaa
open Go.RowKit
set_option linter.unusedVariables false
/-- texts, one behind the other -/
def catL : List ByteArray → ByteArray
  | [] => ⟨#[]⟩
  | s :: l => s ++ catL l
theorem catL_append (l m : List ByteArray) : catL (l ++ m) = catL l ++ catL m := by
  induction l with
  | nil => show catL m = ⟨#[]⟩ ++ catL m; apply nl_inj; rw [nl_append]; rfl
  | cons s l ih => show s ++ catL (l ++ m) = s ++ catL l ++ catL m; rw [ih, ByteArray.append_assoc]
theorem catL_size (a : Nat) (l : List ByteArray) (h : ∀ s ∈ l, s.size = a) : (catL l).size = l.length * a := by
  induction l with
  | nil => simp [catL]; rfl
  | cons s l ih =>
    rw [catL, ByteArray.size_append, h s (List.mem_cons_self ..), ih (fun t ht => h t (List.mem_cons_of_mem _ ht)), List.length_cons, Nat.add_mul, Nat.one_mul]
    omega
/-- the k-th of texts of one size -/
theorem catL_at (a : Nat) (l : List ByteArray) (h : ∀ s ∈ l, s.size = a) (more : ByteArray) (k : Nat) (hk : k < l.length) : (catL l ++ more).extract (k * a) (k * a + a) = l[k] := by
  apply nl_inj
  rw [nl_extract, show k * a + a - k * a = a by omega, nl_append]
  induction l generalizing k with
  | nil => simp at hk
  | cons s l ih =>
    have hs := h s (List.mem_cons_self ..)
    cases k with
    | zero =>
      rw [catL, nl_append, Nat.zero_mul, List.drop_zero, List.append_assoc, List.take_append_of_le_length (by rw [nl_length]; omega), List.take_of_length_le (by rw [nl_length]; omega)]
      rfl
    | succ k =>
      have := ih (fun t ht => h t (List.mem_cons_of_mem _ ht)) k (by simpa using hk)
      rw [catL, nl_append, List.append_assoc, Nat.add_mul, Nat.one_mul, show k * a + a = a + k * a by omega, ← List.drop_drop, List.drop_left' (by rw [nl_length]; exact hs)]
      rw [this]
      rfl
theorem partAt_cat (a : Nat) (l : List ByteArray) (h : ∀ s ∈ l, s.size = a) (more : ByteArray) (k : Nat) (hk : k < l.length) : partAt a (catL l ++ more) k = (frRead a l[k]).1 := by
  have hz : (catL l ++ more).size = l.length * a + more.size := by rw [ByteArray.size_append, catL_size a l h]
  have hle : k * a + a ≤ l.length * a := by
    have : (k + 1) * a ≤ l.length * a := Nat.mul_le_mul_right _ hk
    rw [Nat.add_mul, Nat.one_mul] at this
    exact this
  unfold partAt
  rw [if_pos (by omega), catL_at a l h more k hk]
/-- a part of a record that was split -/
def prt (a g x : Nat) (s : ByteArray) (i : Nat) : FrP := ⟨g, x, i, nParts a s.size, pieceC (a - 25) s i⟩
def secs (a g x : Nat) (s : ByteArray) : List ByteArray := (List.range (nParts a s.size)).map (secF a g x (nParts a s.size) s)
theorem secs_len (a g x : Nat) (s : ByteArray) : (secs a g x s).length = nParts a s.size := by simp [secs]
theorem secs_at (a g x : Nat) (s : ByteArray) (i : Nat) (hi : i < (secs a g x s).length) : (secs a g x s)[i] = frSec a (prt a g x s i) := by
  simp only [secs, List.getElem_map, List.getElem_range]
  rfl
theorem frSplit_eq (a g x : Nat) (s : ByteArray) (ha : 64 ≤ a) (h5 : a ≤ 512) (hs : s.size ≤ 4096) : frSplit a g x s = (secs a g x s, 0) := by
  unfold frSplit
  rw [if_pos (by unfold FrSz; omega)]
  rfl
theorem piece_exact (a : Nat) (s : ByteArray) (i : Nat) (ha : 64 ≤ a) (hi : i < nParts a s.size) : (pieceC (a - 25) s i).size = min ((i + 1) * (a - 25)) s.size - i * (a - 25) := by
  unfold pieceC; simp
theorem prt_may (a g x : Nat) (s : ByteArray) (i : Nat) (ha : 64 ≤ a) (hs : s.size ≤ 4096) (hi : i < nParts a s.size) : mayP a (prt a g x s i) := by
  have h1 := piece_exact a s i ha hi
  have h2 := nParts_iff a s.size i ha
  have h3 := nParts_in a s.size i ha hi
  have e1 : (i + 1) * (a - 25) = i * (a - 25) + (a - 25) := by rw [Nat.add_mul, Nat.one_mul]
  unfold mayP prt
  simp only
  refine ⟨hi, piece_size _ _ _, fun h => ?_, fun h => ?_, ?_⟩
  · have := h2.1 h
    omega
  · obtain ⟨j, rfl⟩ : ∃ j, i = j + 1 := ⟨i - 1, by omega⟩
    have := (nParts_iff a s.size j ha).1 hi
    omega
  · by_cases hl : i + 1 = nParts a s.size
    · rw [if_pos hl]
      have h4 : ¬ (i + 1) * (a - 25) < s.size := fun h => by have := h2.2 h; omega
      rw [show nParts a s.size - 1 = i by omega, h1]
      omega
    · rw [if_neg hl]
      obtain ⟨j, hj⟩ : ∃ j, nParts a s.size = j + 2 := ⟨nParts a s.size - 2, by omega⟩
      have h5 := (nParts_iff a s.size j ha).1 (by omega)
      rw [hj, show j + 2 - 1 = j + 1 by omega]
      omega
theorem sec_size (a g x : Nat) (s : ByteArray) (ha : 64 ≤ a) (hs : s.size ≤ 4096) : ∀ t ∈ secs a g x s, t.size = a := by
  intro t ht
  obtain ⟨i, hi, rfl⟩ := List.mem_map.1 ht
  exact frSec_size a _ (by omega) (prt_may a g x s i ha hs (List.mem_range.1 hi)).2.1
theorem read_sec (a g x : Nat) (s : ByteArray) (i : Nat) (ha : 64 ≤ a) (h5 : a ≤ 512) (hs : s.size ≤ 4096) (hg : g < M64) (hx : x < M64) (hi : i < nParts a s.size) : frRead a (frSec a (prt a g x s i)) = (some (prt a g x s i), 0) :=
  frRead_sec a _ ha h5 (prt_may a g x s i ha hs hi) hg hx
/-- the pieces together are the record -/
theorem pieces_join (r : Nat) (s : ByteArray) (n : Nat) : ∀ k, ((List.range k).map (pieceC r s)).foldr (fun p l => nl p ++ l) [] = (nl s).take (k * r) := by
  have key : ∀ k, ((List.range k).map (pieceC r s)).foldr (fun p l => nl p ++ l) [] = ((List.range k).map (fun i => nl (pieceC r s i))).flatten := fun k => by
    induction (List.range k) with
    | nil => rfl
    | cons i l ih => simp only [List.map_cons, List.foldr_cons, List.flatten_cons, ih]
  intro k
  rw [key]
  induction k with
  | zero => simp
  | succ k ih =>
    rw [List.range_succ, List.map_append, List.flatten_append, ih]
    simp only [List.map_cons, List.map_nil, List.flatten_cons, List.flatten_nil, List.append_nil]
    unfold pieceC
    rw [nl_extract]
    have e : (k + 1) * r = k * r + r := by rw [Nat.add_mul, Nat.one_mul]
    rw [e, Nat.add_sub_cancel_left, List.take_add]
end Go.Proofs.Ytfbjfleagilikaa
