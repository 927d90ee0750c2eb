/- Merged: FrLaw, FrLaw2, FrLawK, FrLaw3, StrsOpen, FrStrs, FrBackM. Plain mathematics of the laws of layer 5: what was split is scanned. No condition but sizes. Plain mathematics of the laws of layer 5: what was split is scanned. No condition but sizes. What the walks of layer 5's laws share. No condition. Plain mathematics of FrameBack: records one behind the other, whole, and with four bytes of a sector changed. No condition but sizes. A slice of texts among the arguments, opened: what a walk is told of it. No condition. A slice of texts among the arguments, opened, with its capacity; rows of texts with theirs. No condition. What FrameBack's walk stands on. No condition. -/
import Derived.Test.YtfbjfleagilikaaFrM
import Derived.Test.YtfbjfleagilikaaFrMay
import Derived.Test.YtfbjfleagilikaaFrSplit
import Derived.WalkSpells
import Derived.Test.YtfbjfleagilikaaFrAwake
import Derived.Test.YtfbjfleagilikaaFrRSplit
import Derived.Test.YtfbjfleagilikaaFrRefD
import Derived.Test.YtfbjfleagilikaaCrcLawM
import Derived.Test.YtfbjfleagilikaaChecked
import Derived.Lib.SmallJoins
import Derived.SliceStrings
import Derived.SizedLaws
import Derived.Test.YtfbjfleagilikaaCommon
import Derived.Test.YtfbjfleagilikaaFrRows
import Derived.Test.YtfbjfleagilikaaFrScan
import Derived.Test.YtfbjfleagilikaaCrcFlip
namespace Go.Proofs.Ytfbjfleagilikaa
open Go.RowKit
set_option linter.unusedVariables false
/-- texts, one behind the other -/
def catL : List ByteArray → ByteArray
  | [] => ⟨#[]⟩
  | s :: l => s ++ catL l
theorem catL_append (l m : List ByteArray) : catL (l ++ m) = catL l ++ catL m := by
  induction l with
  | nil => show catL m = ⟨#[]⟩ ++ catL m; apply nl_inj; rw [nl_append]; rfl
  | cons s l ih => show s ++ catL (l ++ m) = s ++ catL l ++ catL m; rw [ih, ByteArray.append_assoc]
theorem catL_size (a : Nat) (l : List ByteArray) (h : ∀ s ∈ l, s.size = a) : (catL l).size = l.length * a := by
  induction l with
  | nil => simp [catL]; rfl
  | cons s l ih =>
    rw [catL, ByteArray.size_append, h s (List.mem_cons_self ..), ih (fun t ht => h t (List.mem_cons_of_mem _ ht)), List.length_cons, Nat.add_mul, Nat.one_mul]
    omega
/-- the k-th of texts of one size -/
theorem catL_at (a : Nat) (l : List ByteArray) (h : ∀ s ∈ l, s.size = a) (more : ByteArray) (k : Nat) (hk : k < l.length) : (catL l ++ more).extract (k * a) (k * a + a) = l[k] := by
  apply nl_inj
  rw [nl_extract, show k * a + a - k * a = a by omega, nl_append]
  induction l generalizing k with
  | nil => simp at hk
  | cons s l ih =>
    have hs := h s (List.mem_cons_self ..)
    cases k with
    | zero =>
      rw [catL, nl_append, Nat.zero_mul, List.drop_zero, List.append_assoc, List.take_append_of_le_length (by rw [nl_length]; omega), List.take_of_length_le (by rw [nl_length]; omega)]
      rfl
    | succ k =>
      have := ih (fun t ht => h t (List.mem_cons_of_mem _ ht)) k (by simpa using hk)
      rw [catL, nl_append, List.append_assoc, Nat.add_mul, Nat.one_mul, show k * a + a = a + k * a by omega, ← List.drop_drop, List.drop_left' (by rw [nl_length]; exact hs)]
      rw [this]
      rfl
theorem partAt_cat (a : Nat) (l : List ByteArray) (h : ∀ s ∈ l, s.size = a) (more : ByteArray) (k : Nat) (hk : k < l.length) : partAt a (catL l ++ more) k = (frRead a l[k]).1 := by
  have hz : (catL l ++ more).size = l.length * a + more.size := by rw [ByteArray.size_append, catL_size a l h]
  have hle : k * a + a ≤ l.length * a := by
    have : (k + 1) * a ≤ l.length * a := Nat.mul_le_mul_right _ hk
    rw [Nat.add_mul, Nat.one_mul] at this
    exact this
  unfold partAt
  rw [if_pos (by omega), catL_at a l h more k hk]
/-- a part of a record that was split -/
def prt (a g x : Nat) (s : ByteArray) (i : Nat) : FrP := ⟨g, x, i, nParts a s.size, pieceC (a - 25) s i⟩
def secs (a g x : Nat) (s : ByteArray) : List ByteArray := (List.range (nParts a s.size)).map (secF a g x (nParts a s.size) s)
theorem secs_len (a g x : Nat) (s : ByteArray) : (secs a g x s).length = nParts a s.size := by simp [secs]
theorem secs_at (a g x : Nat) (s : ByteArray) (i : Nat) (hi : i < (secs a g x s).length) : (secs a g x s)[i] = frSec a (prt a g x s i) := by
  simp only [secs, List.getElem_map, List.getElem_range]
  rfl
theorem frSplit_eq (a g x : Nat) (s : ByteArray) (ha : 64 ≤ a) (h5 : a ≤ 512) (hs : s.size ≤ 4096) : frSplit a g x s = (secs a g x s, 0) := by
  unfold frSplit
  rw [if_pos (by unfold FrSz; omega)]
  rfl
theorem piece_exact (a : Nat) (s : ByteArray) (i : Nat) (ha : 64 ≤ a) (hi : i < nParts a s.size) : (pieceC (a - 25) s i).size = min ((i + 1) * (a - 25)) s.size - i * (a - 25) := by
  unfold pieceC; simp
theorem prt_may (a g x : Nat) (s : ByteArray) (i : Nat) (ha : 64 ≤ a) (hs : s.size ≤ 4096) (hi : i < nParts a s.size) : mayP a (prt a g x s i) := by
  have h1 := piece_exact a s i ha hi
  have h2 := nParts_iff a s.size i ha
  have h3 := nParts_in a s.size i ha hi
  have e1 : (i + 1) * (a - 25) = i * (a - 25) + (a - 25) := by rw [Nat.add_mul, Nat.one_mul]
  unfold mayP prt
  simp only
  refine ⟨hi, piece_size _ _ _, fun h => ?_, fun h => ?_, ?_⟩
  · have := h2.1 h
    omega
  · obtain ⟨j, rfl⟩ : ∃ j, i = j + 1 := ⟨i - 1, by omega⟩
    have := (nParts_iff a s.size j ha).1 hi
    omega
  · by_cases hl : i + 1 = nParts a s.size
    · rw [if_pos hl]
      have h4 : ¬ (i + 1) * (a - 25) < s.size := fun h => by have := h2.2 h; omega
      rw [show nParts a s.size - 1 = i by omega, h1]
      omega
    · rw [if_neg hl]
      obtain ⟨j, hj⟩ : ∃ j, nParts a s.size = j + 2 := ⟨nParts a s.size - 2, by omega⟩
      have h5 := (nParts_iff a s.size j ha).1 (by omega)
      rw [hj, show j + 2 - 1 = j + 1 by omega]
      omega
theorem sec_size (a g x : Nat) (s : ByteArray) (ha : 64 ≤ a) (hs : s.size ≤ 4096) : ∀ t ∈ secs a g x s, t.size = a := by
  intro t ht
  obtain ⟨i, hi, rfl⟩ := List.mem_map.1 ht
  exact frSec_size a _ (by omega) (prt_may a g x s i ha hs (List.mem_range.1 hi)).2.1
theorem read_sec (a g x : Nat) (s : ByteArray) (i : Nat) (ha : 64 ≤ a) (h5 : a ≤ 512) (hs : s.size ≤ 4096) (hg : g < M64) (hx : x < M64) (hi : i < nParts a s.size) : frRead a (frSec a (prt a g x s i)) = (some (prt a g x s i), 0) :=
  frRead_sec a _ ha h5 (prt_may a g x s i ha hs hi) hg hx
/-- the pieces together are the record -/
theorem pieces_join (r : Nat) (s : ByteArray) (n : Nat) : ∀ k, ((List.range k).map (pieceC r s)).foldr (fun p l => nl p ++ l) [] = (nl s).take (k * r) := by
  have key : ∀ k, ((List.range k).map (pieceC r s)).foldr (fun p l => nl p ++ l) [] = ((List.range k).map (fun i => nl (pieceC r s i))).flatten := fun k => by
    induction (List.range k) with
    | nil => rfl
    | cons i l ih => simp only [List.map_cons, List.foldr_cons, List.flatten_cons, ih]
  intro k
  rw [key]
  induction k with
  | zero => simp
  | succ k ih =>
    rw [List.range_succ, List.map_append, List.flatten_append, ih]
    simp only [List.map_cons, List.map_nil, List.flatten_cons, List.flatten_nil, List.append_nil]
    unfold pieceC
    rw [nl_extract]
    have e : (k + 1) * r = k * r + r := by rw [Nat.add_mul, Nat.one_mul]
    rw [e, Nat.add_sub_cancel_left, List.take_add]
end Go.Proofs.Ytfbjfleagilikaa
namespace Go.Proofs.Ytfbjfleagilikaa
open Go.RowKit
set_option linter.unusedVariables false
def Has (a : Nat) (T : ByteArray) (u : Nat) (S : List ByteArray) : Prop := ∀ i (h : i < S.length), partAt a T (u + i) = (frRead a S[i]).1
theorem has_append {a : Nat} {T : ByteArray} {u : Nat} {S1 S2 : List ByteArray} (h : Has a T u (S1 ++ S2)) : Has a T u S1 ∧ Has a T (u + S1.length) S2 := by
  refine ⟨fun i hi => ?_, fun i hi => ?_⟩
  · have := h i (by rw [List.length_append]; omega)
    rwa [List.getElem_append_left hi] at this
  · have := h (S1.length + i) (by rw [List.length_append]; omega)
    rw [List.getElem_append_right (by omega)] at this
    simp only [Nat.add_sub_cancel_left] at this
    rw [Nat.add_assoc]
    exact this
theorem has_cat (a : Nat) (S : List ByteArray) (h : ∀ s ∈ S, s.size = a) (more : ByteArray) : Has a (catL S ++ more) 0 S := fun i hi => by
  rw [Nat.zero_add]
  exact partAt_cat a S h more i hi
theorem nParts_pos (a b : Nat) : 1 ≤ nParts a b := by unfold nParts; omega
theorem full_take (a : Nat) (s : ByteArray) (ha : 64 ≤ a) : (nl s).take (nParts a s.size * (a - 25)) = nl s := by
  refine List.take_of_length_le ?_
  rw [nl_length]
  have h1 := nParts_iff a s.size (nParts a s.size - 1) ha
  have h2 := nParts_pos a s.size
  rw [show nParts a s.size - 1 + 1 = nParts a s.size by omega] at h1
  exact Nat.le_of_not_lt (fun h => by have := h1.2 h; omega)
/-- a record's sectors that stand somewhere are a record -/
theorem rec_step {a g x u : Nat} {s T : ByteArray} (ha : 64 ≤ a) (h5 : a ≤ 512) (hs : s.size ≤ 4096) (hg : g < M64) (hx : x < M64) (h : Has a T u (secs a g x s)) :
    recOk a g x T u ∧ numAt a T u = nParts a s.size ∧ txt (joinD a T u (nParts a s.size)) = s := by
  have hp : ∀ i, i < nParts a s.size → partAt a T (u + i) = some (prt a g x s i) := fun i hi => by
    have h1 := h i (by rw [secs_len]; exact hi)
    rw [secs_at, read_sec a g x s i ha h5 hs hg hx hi] at h1
    exact h1
  have hn : numAt a T u = nParts a s.size := by
    unfold numAt
    have := hp 0 (nParts_pos a s.size)
    rw [Nat.add_zero] at this
    rw [this]
    rfl
  have hd : ∀ i, i < nParts a s.size → datAt a T (u + i) = pieceC (a - 25) s i := fun i hi => by
    unfold datAt
    rw [hp i hi]
    rfl
  have hj : ∀ k, k ≤ nParts a s.size → joinD a T u k = (nl s).take (k * (a - 25)) := fun k hk => by
    induction k with
    | zero => simp [joinD]
    | succ k ih =>
      rw [joinD, ih (by omega), hd k (by omega)]
      unfold pieceC
      rw [nl_extract]
      have e : (k + 1) * (a - 25) = k * (a - 25) + (a - 25) := by rw [Nat.add_mul, Nat.one_mul]
      rw [e, Nat.add_sub_cancel_left, List.take_add]
  refine ⟨⟨by rw [hn]; exact nParts_pos a s.size, fun i hi => ?_⟩, hn, ?_⟩
  · rw [hn] at hi ⊢
    unfold okPart
    rw [hp i hi, hd i hi]
    rfl
  · apply nl_inj
    rw [hj _ (Nat.le_refl _), full_take a s ha, nl_txt _ (nl_lt s)]
/-- .. of another serial, or generation, are none -/
theorem rec_other {a g x g' x' u : Nat} {s T : ByteArray} (ha : 64 ≤ a) (h5 : a ≤ 512) (hs : s.size ≤ 4096) (hg : g < M64) (hx : x < M64) (h : Has a T u (secs a g x s)) (hne : ¬ (g' = g ∧ x' = x)) : ¬ recOk a g' x' T u := by
  intro hr
  have h1 := h 0 (by rw [secs_len]; exact nParts_pos a s.size)
  rw [secs_at, read_sec a g x s 0 ha h5 hs hg hx (nParts_pos a s.size)] at h1
  have h2 := hr.2 0 hr.1
  unfold okPart at h2
  rw [h1] at h2
  have h3 : prt a g x s 0 = ⟨g', x', 0, numAt a T u, datAt a T (u + 0)⟩ := Option.some.inj h2
  have e1 := congrArg FrP.g h3
  have e2 := congrArg FrP.x h3
  exact hne ⟨e1.symm, e2.symm⟩
theorem secs_inj {a g x g' x' : Nat} {s s' : ByteArray} (ha : 64 ≤ a) (h5 : a ≤ 512) (hs : s.size ≤ 4096) (hs' : s'.size ≤ 4096) (hg : g < M64) (hx : x < M64) (hg' : g' < M64) (hx' : x' < M64) (h : secs a g x s = secs a g' x' s') : g = g' ∧ x = x' ∧ s = s' := by
  have hh := has_cat a (secs a g x s) (sec_size a g x s ha hs) ⟨#[]⟩
  generalize catL (secs a g x s) ++ ⟨#[]⟩ = T at hh
  have hh' := hh
  rw [h] at hh'
  have h1 := rec_step ha h5 hs hg hx hh
  have h2 := rec_step ha h5 hs' hg' hx' hh'
  have e1 := h1.2.2
  have e2 := h2.2.2
  rw [← h1.2.1] at e1
  rw [← h2.2.1] at e2
  by_cases hc : g = g' ∧ x = x'
  · exact ⟨hc.1, hc.2, e1.symm.trans e2⟩
  · exact absurd h1.1 (rec_other ha h5 hs' hg' hx' hh' hc)
/-- .. with nothing behind -/
theorem none_behind {a g x : Nat} {T : ByteArray} {u : Nat} (h : T.size < (u + 1) * a) : ¬ recOk a g x T u := by
  intro hr
  have h1 := recOk_in hr
  have h2 : (u + 1) * a ≤ (u + numAt a T u) * a := Nat.mul_le_mul_right _ (by omega)
  omega
/-- one record alone, scanned -/
theorem scan_one {a g x o : Nat} {s : ByteArray} (ha : 64 ≤ a) (h5 : a ≤ 512) (hs : s.size ≤ 4096) (hg : g < M64) (hx : x < M64) :
    scanAll a o (catL (secs a g x s)) = if o = g ∧ x = 0 then ([s], nParts a s.size) else ([], 0) := by
  have hsz := sec_size a g x s ha hs
  have hh : Has a (catL (secs a g x s)) 0 (secs a g x s) := by
    have := has_cat a (secs a g x s) hsz ⟨#[]⟩
    have e : catL (secs a g x s) ++ ⟨#[]⟩ = catL (secs a g x s) := by apply nl_inj; rw [nl_append]; simp [nl]
    rwa [e] at this
  have hz : (catL (secs a g x s)).size = nParts a s.size * a := by rw [catL_size a _ hsz, secs_len]
  generalize catL (secs a g x s) = T at *
  unfold scanAll
  rw [if_pos (by unfold FrSz; omega), Int.toNat_natCast]
  by_cases hc : o = g ∧ x = 0
  · obtain ⟨rfl, rfl⟩ := hc
    rw [if_pos ⟨rfl, rfl⟩]
    have h1 := rec_step ha h5 hs hg hx hh
    rw [scanF_yes h1.1, h1.2.1, h1.2.2, Nat.zero_add, Nat.zero_add]
    have h2 : ¬ recOk a o 1 T (nParts a s.size) := none_behind (by rw [hz, Nat.add_mul]; omega)
    rw [scanF_no h2]
  · rw [if_neg hc, scanF_no (rec_other ha h5 hs hg hx hh (fun h => hc ⟨h.1, h.2.symm⟩))]
end Go.Proofs.Ytfbjfleagilikaa
namespace Go.Proofs.Ytfbjfleagilikaa
open Go.RowKit
set_option linter.unusedVariables false
theorem u64_nat' {g : Int} (hg : (Lit.int .u64 g).wf = true) : ∃ n : Nat, g = (n : Int) ∧ n < M64 := by
  simp [Lit.wf, IntKind.min, IntKind.max, IntKind.signed, IntKind.bits] at hg
  exact ⟨g.toNat, by omega, by unfold M64; omega⟩
/-- a record's sectors, and what they tell -/
structure SecOk (a g x N : Nat) (s : ByteArray) (S : List ByteArray) : Prop where
  eq : S = secs a g x s
  len : S.length = N
  le : 1 ≤ N ∧ N ≤ 106
  num : N = nParts a s.size
  sz : ∀ t ∈ S, t.size = a
  rd : ∀ i (h : i < S.length), frRead a S[i] = (some ⟨g, x, i, N, pieceC (a - 25) s i⟩, 0)
theorem secOk (a g x : Nat) (s : ByteArray) (ha : 64 ≤ a) (h5 : a ≤ 512) (hs : s.size ≤ 4096) (hg : g < M64) (hx : x < M64) : SecOk a g x (nParts a s.size) s (secs a g x s) :=
  ⟨rfl, secs_len a g x s, nParts_le a s.size ha hs, rfl, sec_size a g x s ha hs, fun i h => by
    rw [secs_at]; exact read_sec a g x s i ha h5 hs hg hx (by rw [← secs_len a g x s]; exact h)⟩
theorem catL_take (l : List ByteArray) (k : Nat) (h : k < l.length) : catL (l.take k) ++ l[k] = catL (l.take (k + 1)) := by
  rw [List.take_succ_eq_append_getElem h, catL_append]
  congr 1
  apply nl_inj
  rw [catL, nl_append]
  simp [catL, nl]
theorem catL_take_size (a : Nat) (l : List ByteArray) (h : ∀ s ∈ l, s.size = a) (k : Nat) (hk : k ≤ l.length) : (catL (l.take k)).size = k * a := by
  rw [catL_size a _ (fun s hs => h s (List.mem_of_mem_take hs)), List.length_take]
  congr 1
  omega
theorem n_room (a b : Nat) (ha : 64 ≤ a) (h5 : a ≤ 512) (hb : b ≤ 4096) : nParts a b * a ≤ b + 3200 := by
  have h1 := nParts_le a b ha hb
  have h2 := nParts_in a b (nParts a b - 1) ha (by omega)
  have h3 : nParts a b * a = (nParts a b - 1) * (a - 25) + (a - 25) + nParts a b * 25 := by
    obtain ⟨r, hr⟩ : ∃ r, a = r + 25 := ⟨a - 25, by omega⟩
    obtain ⟨m, hm⟩ : ∃ m, nParts a b = m + 1 := ⟨nParts a b - 1, by omega⟩
    rw [hm, hr, Nat.add_sub_cancel, Nat.add_sub_cancel, Nat.mul_add, Nat.add_mul m 1 r, Nat.one_mul]
  omega
/-- a call of Split, opened -/
theorem split_open {a g x : Nat} {s : ByteArray} {w w' : World} {e : Ending} (ha : 64 ≤ a) (h5 : a ≤ 512) (hs : s.size ≤ 4096) (hg : g < M64) (hx : x < M64) (h : SplitPost a g x s w e w') :
    ∃ A cap, e = .returned (.tuple #[.slice A (nParts a s.size) cap, .int .i64 0]) ∧ StrsAt w' A (secs a g x s) ∧ Below w.heap.size w w' := by
  unfold SplitPost at h
  rw [frSplit_eq a g x s ha h5 hs] at h
  obtain ⟨v, rfl, hrow, hb⟩ := h
  obtain ⟨A, ca, rfl, hA⟩ := row_strs hrow
  exact ⟨A, ca, by rw [secs_len], hA, hb⟩
theorem scan_open {a : Int} {g : Nat} {s : ByteArray} {w w' : World} {e : Ending} {l : List ByteArray} {u : Nat} (hq : scanAll a g s = (l, u)) (h : ScanPost a g s w e w') :
    ∃ A cap, e = .returned (.tuple #[.slice A l.length cap, .int .i64 (u : Int)]) ∧ StrsAt w' A l ∧ Below w.heap.size w w' := by
  unfold ScanPost at h
  rw [hq] at h
  obtain ⟨v, rfl, hrow, hb⟩ := h
  obtain ⟨A, ca, rfl, hA⟩ := row_strs hrow
  exact ⟨A, ca, rfl, hA, hb⟩
end Go.Proofs.Ytfbjfleagilikaa
namespace Go.Proofs.Ytfbjfleagilikaa
open Go.RowKit
set_option linter.unusedVariables false
/-- the sectors of records of serials from x on -/
def bigL (a g : Nat) : Nat → List ByteArray → List ByteArray
  | _, [] => []
  | x, s :: L => secs a g x s ++ bigL a g (x + 1) L
theorem bigL_append (a g : Nat) (L M : List ByteArray) : ∀ x, bigL a g x (L ++ M) = bigL a g x L ++ bigL a g (x + L.length) M := by
  induction L with
  | nil => intro x; rfl
  | cons s L ih =>
    intro x
    show secs a g x s ++ bigL a g (x + 1) (L ++ M) = secs a g x s ++ bigL a g (x + 1) L ++ bigL a g (x + (L.length + 1)) M
    rw [ih, List.append_assoc, show x + 1 + L.length = x + (L.length + 1) by omega]
theorem bigL_size (a g : Nat) (ha : 64 ≤ a) (L : List ByteArray) (hL : ∀ s ∈ L, s.size ≤ 4096) : ∀ x, ∀ t ∈ bigL a g x L, t.size = a := by
  induction L with
  | nil => intro x t ht; cases ht
  | cons s L ih =>
    intro x t ht
    rcases List.mem_append.1 ht with h | h
    · exact sec_size a g x s ha (hL s (List.mem_cons_self ..)) t h
    · exact ih (fun s hs => hL s (List.mem_cons_of_mem _ hs)) (x + 1) t h
theorem bigL_ge (a g : Nat) (L : List ByteArray) : ∀ x, L.length ≤ (bigL a g x L).length := by
  induction L with
  | nil => intro x; exact Nat.zero_le _
  | cons s L ih =>
    intro x
    have := ih (x + 1)
    have h1 := nParts_pos a s.size
    rw [bigL, List.length_append, secs_len, List.length_cons]
    omega
theorem scanF_ge (a g : Nat) (T : ByteArray) : ∀ f x u, u ≤ (scanF a g T f x u).2 := by
  intro f
  induction f with
  | zero => intro x u; exact Nat.le_refl _
  | succ f ih =>
    intro x u
    rw [scanF]
    split
    · exact Nat.le_trans (Nat.le_add_right _ _) (ih _ _)
    · exact Nat.le_refl _
theorem scan_list {a g : Nat} (ha : 64 ≤ a) (h5 : a ≤ 512) (hg : g < M64) (T : ByteArray) (f : Nat) : ∀ (L : List ByteArray) (x u : Nat), (∀ s ∈ L, s.size ≤ 4096) → x + L.length ≤ 1000000 → Has a T u (bigL a g x L) →
    scanF a g T (f + L.length) x u = (L ++ (scanF a g T f (x + L.length) (u + (bigL a g x L).length)).1, (scanF a g T f (x + L.length) (u + (bigL a g x L).length)).2) := by
  intro L
  induction L with
  | nil => intro x u _ _ _; simp [bigL]
  | cons s L ih =>
    intro x u hs hx hh
    obtain ⟨h1, h2⟩ := has_append hh
    rw [secs_len] at h2
    rw [List.length_cons] at hx
    have h3 := rec_step ha h5 (hs s (List.mem_cons_self ..)) hg (by unfold M64; omega) h1
    have h4 := ih (x + 1) (u + nParts a s.size) (fun t ht => hs t (List.mem_cons_of_mem _ ht)) (by omega) h2
    rw [List.length_cons, show f + (L.length + 1) = (f + L.length) + 1 by omega, scanF_yes h3.1, h3.2.1, h3.2.2, h4, bigL, List.length_append, secs_len]
    rw [show x + 1 + L.length = x + (L.length + 1) by omega, show u + nParts a s.size + (bigL a g (x + 1) L).length = u + (nParts a s.size + (bigL a g (x + 1) L).length) by omega]
    rfl
theorem scanAll_list {a g : Nat} (ha : 64 ≤ a) (h5 : a ≤ 512) (hg : g < M64) (T : ByteArray) (L : List ByteArray) (hL : ∀ s ∈ L, s.size ≤ 4096) (hn : L.length ≤ 1000) (hz : (bigL a g 0 L).length * a ≤ T.size) (hh : Has a T 0 (bigL a g 0 L)) :
    ∃ f, scanAll a g T = (L ++ (scanF a g T f L.length (bigL a g 0 L).length).1, (scanF a g T f L.length (bigL a g 0 L).length).2) := by
  have h1 := bigL_ge a g L 0
  have h2 : (bigL a g 0 L).length * 1 ≤ (bigL a g 0 L).length * a := Nat.mul_le_mul_left _ (by omega)
  refine ⟨T.size + 1 - L.length, ?_⟩
  have h3 := scan_list ha h5 hg T (T.size + 1 - L.length) L 0 0 hL (by omega) hh
  rw [show T.size + 1 - L.length + L.length = T.size + 1 by omega, Nat.zero_add, Nat.zero_add] at h3
  unfold scanAll
  rw [if_pos (by unfold FrSz; omega), Int.toNat_natCast]
  exact h3
/-- (1) records alone -/
theorem back_whole {a g : Nat} (ha : 64 ≤ a) (h5 : a ≤ 512) (hg : g < M64) (L : List ByteArray) (hL : ∀ s ∈ L, s.size ≤ 4096) (hn : L.length ≤ 1000) :
    scanAll a g (catL (bigL a g 0 L)) = (L, (bigL a g 0 L).length) := by
  have hsz := bigL_size a g ha L hL 0
  have hh := has_cat a (bigL a g 0 L) hsz ⟨#[]⟩
  have e : catL (bigL a g 0 L) ++ ⟨#[]⟩ = catL (bigL a g 0 L) := by apply nl_inj; rw [nl_append]; simp [nl]
  rw [e] at hh
  have hz := catL_size a _ hsz
  obtain ⟨f, hf⟩ := scanAll_list ha h5 hg _ L hL hn (by omega) hh
  rw [hf, scanF_no (none_behind (by rw [hz, Nat.add_mul]; omega)), List.append_nil]
/-- (2) with whatever behind -/
theorem back_more {a g : Nat} (ha : 64 ≤ a) (h5 : a ≤ 512) (hg : g < M64) (L : List ByteArray) (hL : ∀ s ∈ L, s.size ≤ 4096) (hn : L.length ≤ 1000) (more : ByteArray) :
    ∃ M u, scanAll a g (catL (bigL a g 0 L) ++ more) = (L ++ M, u) ∧ (bigL a g 0 L).length ≤ u := by
  have hsz := bigL_size a g ha L hL 0
  have hh := has_cat a (bigL a g 0 L) hsz more
  have hz := catL_size a _ hsz
  obtain ⟨f, hf⟩ := scanAll_list ha h5 hg _ L hL hn (by rw [ByteArray.size_append]; omega) hh
  exact ⟨_, _, hf, scanF_ge _ _ _ _ _ _⟩
/-! ### four bytes changed -/
def fl (l : List Nat) (p by_ : Nat) : Nat → List Nat
  | 0 => l
  | k + 1 => (fl l p by_ k).set (p + k) ((fl l p by_ k).getD (p + k) 0 ^^^ (by_ / 2 ^ (8 * k) % 256))
theorem fl_length (l : List Nat) (p by_ k : Nat) : (fl l p by_ k).length = l.length := by
  induction k with
  | zero => rfl
  | succ k ih => rw [fl, List.length_set, ih]
theorem xor256 {x y : Nat} (hx : x < 256) (hy : y < 256) : x ^^^ y < 256 := Nat.xor_lt_two_pow (n := 8) hx hy
theorem fl_lt (l : List Nat) (hl : ∀ b ∈ l, b < 256) (p by_ k : Nat) : ∀ b ∈ fl l p by_ k, b < 256 := by
  induction k with
  | zero => exact hl
  | succ k ih =>
    intro b hb
    rw [fl] at hb
    rcases List.mem_or_eq_of_mem_set hb with h | h
    · exact ih b h
    · rw [h]
      refine xor256 ?_ (Nat.mod_lt _ (by decide))
      rw [List.getD_eq_getElem?_getD]
      by_cases hp : p + k < (fl l p by_ k).length
      · rw [List.getElem?_eq_getElem hp]; exact ih _ (List.getElem_mem _)
      · rw [List.getElem?_eq_none (by omega)]; decide
/-- what lies elsewhere is as it was -/
theorem fl_get (l : List Nat) (p by_ k i : Nat) (hi : i < p ∨ p + k ≤ i) : (fl l p by_ k)[i]? = l[i]? := by
  induction k with
  | zero => rfl
  | succ k ih => rw [fl, List.getElem?_set_ne (by omega), ih (by omega)]
theorem fl_drop (l : List Nat) (p by_ k : Nat) : (fl l p by_ k).drop p = fl (l.drop p) 0 by_ k := by
  induction k with
  | zero => rfl
  | succ k ih =>
    have hg : (fl l p by_ k).getD (p + k) 0 = (fl (l.drop p) 0 by_ k).getD (0 + k) 0 := by
      rw [← ih, List.getD_eq_getElem?_getD, List.getD_eq_getElem?_getD, List.getElem?_drop, Nat.zero_add]
    rw [fl, fl, List.drop_set, if_neg (by omega), ih, hg, Nat.add_sub_cancel_left, Nat.zero_add]
theorem fl_take (l : List Nat) (by_ k n : Nat) (hk : k ≤ n) (hn : n ≤ l.length) : (fl l 0 by_ k).take n = fl (l.take n) 0 by_ k := by
  induction k with
  | zero => rfl
  | succ k ih =>
    have hg : (fl l 0 by_ k).getD (0 + k) 0 = (fl (l.take n) 0 by_ k).getD (0 + k) 0 := by
      rw [← ih (by omega), List.getD_eq_getElem?_getD, List.getD_eq_getElem?_getD, List.getElem?_take, if_pos (by omega)]
    rw [fl, fl, List.take_set, ih (by omega), hg]
theorem xor_four (v : Nat) (hb : v < CrcM.M) : (((v % 256) ^^^ (2 ^ 8 * (v / 2 ^ 8 % 256))) ^^^ (2 ^ 16 * (v / 2 ^ 16 % 256))) ^^^ (2 ^ 24 * (v / 2 ^ 24 % 256)) = v := by
  unfold CrcM.M at hb
  rw [CrcM.xor_shift 8 _ _ (by omega), CrcM.xor_shift 16 _ _ (by omega), CrcM.xor_shift 24 _ _ (by omega)]
  omega
theorem fl_le (l : List Nat) (hl : ∀ b ∈ l, b < 256) (h4 : 4 ≤ l.length) (by_ : Nat) (hb : by_ < CrcM.M) : CrcM.le (fl l 0 by_ 4) = CrcM.le l ^^^ by_ := by
  have step : ∀ k, k < 4 → CrcM.le (fl l 0 by_ (k + 1)) = CrcM.le (fl l 0 by_ k) ^^^ (2 ^ (8 * k) * (by_ / 2 ^ (8 * k) % 256)) := fun k hk => by
    have hlen : k < (fl l 0 by_ k).length := by rw [fl_length]; omega
    have := CrcM.le_set (fl l 0 by_ k) (fl_lt l hl 0 by_ k) k hlen (by_ / 2 ^ (8 * k) % 256) (Nat.mod_lt _ (by decide))
    rw [fl, Nat.zero_add, List.getD_eq_getElem?_getD, List.getElem?_eq_getElem hlen]
    exact this
  rw [step 3 (by omega), step 2 (by omega), step 1 (by omega), step 0 (by omega)]
  have h4x := xor_four by_ hb
  rw [show fl l 0 by_ 0 = l from rfl]
  simp only [Nat.mul_zero, Nat.pow_zero, Nat.one_mul, Nat.div_one]
  rw [show 8 * 1 = 8 from rfl, show 8 * 2 = 16 from rfl, show 8 * 3 = 24 from rfl]
  conv => rhs; rw [← h4x]
  simp only [Nat.xor_assoc]
/-- a sector that was right is right no more -/
theorem fl_wrong (t : ByteArray) (by_ : Nat) (h4 : 4 ≤ t.size) (hr : rightB t = true) (hb : by_ < CrcM.M) (h0 : by_ ≠ 0) : rightB (txt (fl (nl t) 0 by_ 4)) = false := by
  have hl : ∀ b ∈ nl t, b < 256 := nl_lt t
  have hlen : (nl t).length = t.size := nl_length t
  rw [right_iff t h4, decide_eq_true_eq] at hr
  rw [right_iff _ (by rw [txt_size, fl_length, hlen]; exact h4), decide_eq_false_iff_not, nl_txt _ (fl_lt _ hl 0 by_ 4)]
  exact CrcM.seen (nl t) (fl (nl t) 0 by_ 4) hl (fl_lt _ hl 0 by_ 4) hr (fl_length _ _ _ _) by_ (fl_le _ hl (by rw [hlen]; exact h4) by_ hb) (fun h => h0 (CrcM.steps_eq_zero hb h))
theorem fl_part (a : Nat) (T : ByteArray) (bad by_ k : Nat) (ha : 4 ≤ a) (hk : k ≠ bad) : partAt a (txt (fl (nl T) (bad * a) by_ 4)) k = partAt a T k := by
  have hl := fl_lt (nl T) (nl_lt T) (bad * a) by_ 4
  have hz : (txt (fl (nl T) (bad * a) by_ 4)).size = T.size := by rw [txt_size, fl_length, nl_length]
  have he : (txt (fl (nl T) (bad * a) by_ 4)).extract (k * a) (k * a + a) = T.extract (k * a) (k * a + a) := by
    apply nl_inj
    rw [nl_extract, nl_extract, nl_txt _ hl]
    apply List.ext_getElem?
    intro i
    rw [List.getElem?_take, List.getElem?_take]
    split
    · rename_i hi
      rw [List.getElem?_drop, List.getElem?_drop]
      refine fl_get _ _ _ _ _ ?_
      rcases Nat.lt_or_gt_of_ne hk with h | h
      · have : (k + 1) * a ≤ bad * a := Nat.mul_le_mul_right _ h
        rw [Nat.add_mul, Nat.one_mul] at this
        omega
      · have : (bad + 1) * a ≤ k * a := Nat.mul_le_mul_right _ h
        rw [Nat.add_mul, Nat.one_mul] at this
        omega
    · rfl
  unfold partAt
  rw [hz, he]
theorem fl_bad (a : Nat) (T : ByteArray) (bad by_ : Nat) (ha : 64 ≤ a) (hb : by_ < CrcM.M) (h0 : by_ ≠ 0) (hr : rightB (T.extract (bad * a) (bad * a + a)) = true) : partAt a (txt (fl (nl T) (bad * a) by_ 4)) bad = none := by
  have hl := fl_lt (nl T) (nl_lt T) (bad * a) by_ 4
  have hz : (txt (fl (nl T) (bad * a) by_ 4)).size = T.size := by rw [txt_size, fl_length, nl_length]
  unfold partAt
  rw [hz]
  split
  · rename_i hc
    have he : (txt (fl (nl T) (bad * a) by_ 4)).extract (bad * a) (bad * a + a) = txt (fl (nl (T.extract (bad * a) (bad * a + a))) 0 by_ 4) := by
      apply nl_inj
      rw [nl_extract, nl_txt _ hl, fl_drop, Nat.add_sub_cancel_left, fl_take _ _ _ _ (by omega) (by rw [List.length_drop, nl_length]; omega), nl_txt _ (fl_lt _ (nl_lt _) 0 by_ 4), nl_extract, Nat.add_sub_cancel_left]
    have hw := fl_wrong _ by_ (by simp; omega) hr hb h0
    rw [he]
    unfold frRead
    repeat' split
    all_goals first | rfl | exact absurd hw (by assumption)
  · rfl
/-- (3) with four bytes of a sector changed -/
theorem back_bad {a g : Nat} (ha : 64 ≤ a) (h5 : a ≤ 512) (hg : g < M64) (L : List ByteArray) (hL : ∀ s ∈ L, s.size ≤ 4096) (hn : L.length ≤ 1000) (bad by_ w : Nat) (hb : by_ < CrcM.M) (h0 : by_ ≠ 0)
    (hw : w < L.length) (h1 : (bigL a g 0 (L.take w)).length ≤ bad) (h2 : bad < (bigL a g 0 (L.take (w + 1))).length) :
    (scanAll a g (txt (fl (nl (catL (bigL a g 0 L))) (bad * a) by_ 4))).1 = L.take w := by
  have hsz := bigL_size a g ha L hL 0
  have hh := has_cat a (bigL a g 0 L) hsz ⟨#[]⟩
  have hat := catL_at a (bigL a g 0 L) hsz ⟨#[]⟩ bad
  have e : catL (bigL a g 0 L) ++ ⟨#[]⟩ = catL (bigL a g 0 L) := by apply nl_inj; rw [nl_append]; simp [nl]
  rw [e] at hh hat
  have hz := catL_size a _ hsz
  have eL : L = L.take w ++ L[w] :: L.drop (w + 1) := by rw [List.getElem_cons_drop, List.take_append_drop]
  have hlw : (L.take w).length = w := by rw [List.length_take]; omega
  have eS : bigL a g 0 L = bigL a g 0 (L.take w) ++ (secs a g w L[w] ++ bigL a g (w + 1) (L.drop (w + 1))) := by
    conv => lhs; rw [eL]
    rw [bigL_append, hlw, Nat.zero_add]
    rfl
  have e2 : (bigL a g 0 (L.take (w + 1))).length = (bigL a g 0 (L.take w)).length + nParts a L[w].size := by
    rw [List.take_succ_eq_append_getElem hw, bigL_append, List.length_append, hlw, Nat.zero_add]
    show _ + (secs a g w L[w] ++ []).length = _
    rw [List.append_nil, secs_len]
  have hbl : bad < (bigL a g 0 L).length := by rw [eS, List.length_append, List.length_append, secs_len]; omega
  have hsec : rightB ((catL (bigL a g 0 L)).extract (bad * a) (bad * a + a)) = true := by
    rw [hat hbl]
    have hm := List.getElem_mem hbl
    have : ∀ (L : List ByteArray) x, ∀ t ∈ bigL a g x L, rightB t = true := fun L => by
      induction L with
      | nil => intro x t ht; cases ht
      | cons s L ih =>
        intro x t ht
        rcases List.mem_append.1 ht with h | h
        · obtain ⟨i, _, rfl⟩ := List.mem_map.1 h
          exact right_seal _
        · exact ih _ t h
    exact this L 0 _ hm
  have hzT : (txt (fl (nl (catL (bigL a g 0 L))) (bad * a) by_ 4)).size = (catL (bigL a g 0 L)).size := by rw [txt_size, fl_length, nl_length]
  have hbn := fl_bad a (catL (bigL a g 0 L)) bad by_ ha hb h0 hsec
  have hpk := fun k hk => fl_part a (catL (bigL a g 0 L)) bad by_ k (by omega) hk
  generalize txt (fl (nl (catL (bigL a g 0 L))) (bad * a) by_ 4) = T' at *
  generalize catL (bigL a g 0 L) = T at *
  rw [eS] at hh
  obtain ⟨hA, hB⟩ := has_append hh
  obtain ⟨hB, -⟩ := has_append hB
  rw [Nat.zero_add] at hB
  have hA' : Has a T' 0 (bigL a g 0 (L.take w)) := fun i hi => by
    rw [hpk _ (by omega)]
    exact hA i hi
  have hle : (bigL a g 0 (L.take w)).length * a ≤ T'.size := by
    rw [hzT, hz]
    exact Nat.mul_le_mul_right _ (by omega)
  obtain ⟨f, hf⟩ := scanAll_list ha h5 hg T' (L.take w) (fun s hs => hL s (List.mem_of_mem_take hs)) (by omega) hle hA'
  rw [hf, hlw]
  have hno : ¬ recOk a g w T' (bigL a g 0 (L.take w)).length := by
    intro hr
    have hlast := rec_step ha h5 (hL _ (List.getElem_mem hw)) hg (by unfold M64; omega) hB
    by_cases hc : (bigL a g 0 (L.take w)).length = bad
    · have : numAt a T' (bigL a g 0 (L.take w)).length = 0 := by unfold numAt; rw [hc, hbn]
      have := hr.1
      omega
    · have hnum : numAt a T' (bigL a g 0 (L.take w)).length = nParts a L[w].size := by
        rw [← hlast.2.1]
        unfold numAt
        rw [hpk _ hc]
      have h3 := hr.2 (bad - (bigL a g 0 (L.take w)).length) (by rw [hnum]; omega)
      unfold okPart at h3
      rw [show (bigL a g 0 (L.take w)).length + (bad - (bigL a g 0 (L.take w)).length) = bad by omega, hbn] at h3
      cases h3
  rw [scanF_no hno, List.append_nil]
end Go.Proofs.Ytfbjfleagilikaa
namespace Go.Proofs.Ytfbjfleagilikaa
open Go.RowKit Go.ChangeShapes Go.WideShapes Go.Joins
set_option linter.unusedVariables false
theorem add_flat (b off i : Nat) : (⟨b, off, none⟩ : Addr).add i = ⟨b, off + i, none⟩ := by unfold Addr.add; split <;> simp_all
set_option maxRecDepth 100000 in
theorem strs_open {H : Type} {enc : TypeId × Value → H} {W : World} {base : Nat} {v : Value} {d : DataW H} {p : List MemPlace}
    (hval : Value.okWide Try.prog W .any base 24 v) (h : DataW.Trod enc Try.prog W 0 (fun _ => true) true 24 v d p) (hz : ∀ n ∈ d.weights Try.prog 24, n ≤ reachBytes) :
    ∃ A cap l, v = .slice A l.length cap ∧ l.length ≤ maxLen ∧ (∀ s ∈ l, s.size ≤ maxLen) ∧ StrsAt W A l := by
  obtain ⟨A, len, cap, rfl⟩ := okWide_slice Try.underlying24 hval
  obtain ⟨fuel, hf⟩ := h
  rcases open_strings Try.underlying24 Try.underlying9 (by kernel_rfl) hf with ⟨hcs, _⟩ | ⟨a, len', cap', ss, hcs, _, hl, hm, hss, _, hcell, hsz⟩
  · simp [Value.cells] at hcs
    obtain ⟨rfl, rfl, rfl⟩ := hcs
    exact ⟨none, 0, [], rfl, Nat.zero_le _, (by simp), ⟨fun j hj => absurd hj (Nat.not_lt_zero _)⟩⟩
  · simp [Value.cells] at hcs
    obtain ⟨rfl, rfl, rfl⟩ := hcs
    simp only [if_true] at hss
    have hlen : (ss.take len).length = len := by rw [List.length_take]; omega
    refine ⟨some a, cap, ss.take len, by rw [hlen], by rw [hlen]; omega, fun s hs => hsz s (List.mem_of_mem_take hs), ⟨fun j hj => ?_⟩⟩
    rw [hlen] at hj
    have hc := hcell j (by omega)
    obtain ⟨b, off, spot⟩ := a
    have hsp : spot = none := by
      have := World.cell?_spot (hcell 0 (by omega))
      simpa [Addr.add] using this
    subst hsp
    rw [add_flat] at hc
    refine ⟨b, off, rfl, ?_, ?_⟩
    · rcases Nat.lt_or_ge b W.heap.size with h' | h'
      · exact h'
      · simp [World.cell?, Array.getElem?_eq_none h'] at hc
    · rw [hc, List.getD_eq_getElem?_getD, List.getElem?_eq_getElem (by omega)]
      simp
end Go.Proofs.Ytfbjfleagilikaa
namespace Go.Proofs.Ytfbjfleagilikaa
open Go.RowKit Go.ChangeShapes Go.WideShapes Go.Joins
set_option linter.unusedVariables false
set_option maxRecDepth 100000 in
theorem strs_open_cap {H : Type} {enc : TypeId × Value → H} {W : World} {base : Nat} {v : Value} {d : DataW H} {p : List MemPlace}
    (hval : Value.okWide Try.prog W .any base 24 v) (h : DataW.Trod enc Try.prog W 0 (fun _ => true) true 24 v d p) (hz : ∀ n ∈ d.weights Try.prog 24, n ≤ reachBytes) :
    ∃ A cap l, v = .slice A l.length cap ∧ l.length ≤ maxLen ∧ (∀ s ∈ l, s.size ≤ maxLen) ∧ StrsAt W A l ∧ l.length ≤ cap ∧ cap ≤ maxLen := by
  obtain ⟨A, cap, l, rfl, h1, h2, h3⟩ := strs_open hval h hz
  refine ⟨A, cap, l, rfl, h1, h2, h3, ?_⟩
  obtain ⟨fuel, hf⟩ := h
  rcases open_strings Try.underlying24 Try.underlying9 (by kernel_rfl) hf with ⟨hcs, _⟩ | ⟨a, len', cap', ss, hcs, _, hl, hm, hss, _, hcell, hsz⟩
  · simp [Value.cells] at hcs
    obtain ⟨-, h4, h5⟩ := hcs
    exact ⟨by rw [h5]; simp [h4], by rw [h5]; exact Nat.zero_le _⟩
  · simp [Value.cells] at hcs
    obtain ⟨-, h4, h5⟩ := hcs
    omega
theorem row_strs_cap {R : Nat} {v : Value} {l : List ByteArray} {w : World} (h : w.ownsRow R 9 1 v l.length (tcells l)) : ∃ A cap, v = .slice A l.length cap ∧ StrsAt w A l ∧ l.length ≤ cap ∧ cap ≤ maxLen := by
  obtain ⟨A, cap, rfl, hA⟩ := row_strs h
  refine ⟨A, cap, rfl, hA, ?_⟩
  rcases h.2 with ⟨e, e2⟩ | ⟨g, cap', cur, e, h3, h4, h5, h6, h7, h8⟩
  · simp at e
    exact ⟨by omega, by omega⟩
  · cases e
    exact ⟨h5, h6⟩
theorem StrsAt.take {w : World} {A : Option Addr} {l : List ByteArray} (h : StrsAt w A l) (n : Nat) : StrsAt w A (l.take n) := ⟨fun j hj => by
  have hj' : j < l.length := by rw [List.length_take] at hj; omega
  obtain ⟨g, o, hA, hg, hc⟩ := h.at_ j hj'
  exact ⟨g, o, hA, hg, by rw [hc, List.getElem_take]⟩⟩
theorem scan_open_cap {a : Int} {g : Nat} {s : ByteArray} {w w' : World} {e : Ending} {l : List ByteArray} {u : Nat} (hq : scanAll a g s = (l, u)) (h : ScanPost a g s w e w') :
    ∃ A cap, e = .returned (.tuple #[.slice A l.length cap, .int .i64 (u : Int)]) ∧ StrsAt w' A l ∧ l.length ≤ cap ∧ cap ≤ maxLen ∧ Below w.heap.size w w' := by
  unfold ScanPost at h
  rw [hq] at h
  obtain ⟨v, rfl, hrow, hb⟩ := h
  obtain ⟨A, ca, rfl, hA, h1, h2⟩ := row_strs_cap hrow
  exact ⟨A, ca, rfl, hA, h1, h2, hb⟩
end Go.Proofs.Ytfbjfleagilikaa
namespace Go.Proofs.Ytfbjfleagilikaa
open Go.RowKit
set_option linter.unusedVariables false
theorem n_room2 (a b : Nat) (ha : 64 ≤ a) (h5 : a ≤ 512) (hb : b ≤ 600) : nParts a b * a ≤ 1500 := by
  have h2 := nParts_in a b (nParts a b - 1) ha (by have := nParts_pos a b; omega)
  have h1 := nParts_pos a b
  have h16 : nParts a b ≤ 16 := by
    obtain ⟨r, hr⟩ : ∃ r, r = a - 25 := ⟨_, rfl⟩
    unfold nParts
    rw [← hr]
    have h1 : (b + r - 1) / r < 17 := Nat.div_lt_of_lt_mul (by omega)
    omega
  have h3 : nParts a b * a = (nParts a b - 1) * (a - 25) + (a - 25) + nParts a b * 25 := by
    obtain ⟨r, hr⟩ : ∃ r, a = r + 25 := ⟨a - 25, by omega⟩
    obtain ⟨m, hm⟩ : ∃ m, nParts a b = m + 1 := ⟨nParts a b - 1, by omega⟩
    rw [hm, hr, Nat.add_sub_cancel, Nat.add_sub_cancel, Nat.mul_add, Nat.add_mul m 1 r, Nat.one_mul]
  omega
theorem big_room (a g : Nat) (ha : 64 ≤ a) (h5 : a ≤ 512) (L : List ByteArray) (hL : ∀ s ∈ L, s.size ≤ 600) : ∀ x, (bigL a g x L).length * a ≤ L.length * 1500 := by
  induction L with
  | nil => intro x; simp [bigL]
  | cons s L ih =>
    intro x
    have h1 := ih (fun t ht => hL t (List.mem_cons_of_mem _ ht)) (x + 1)
    have h2 := n_room2 a s.size ha h5 (hL s (List.mem_cons_self ..))
    rw [bigL, List.length_append, secs_len, Nat.add_mul, List.length_cons, Nat.add_mul, Nat.one_mul]
    omega
/-- how many sectors so many records have -/
def eN (a g : Nat) (L : List ByteArray) (k : Nat) : Nat := (bigL a g 0 (L.take k)).length
def ecells (a g : Nat) (L : List ByteArray) (k : Nat) : List Value := (List.range k).map fun i => Value.int .i64 ((eN a g L (i + 1) : Nat) : Int)
theorem bigL_take (a g : Nat) (L : List ByteArray) (k : Nat) (hk : k < L.length) : bigL a g 0 (L.take (k + 1)) = bigL a g 0 (L.take k) ++ secs a g k L[k] := by
  rw [List.take_succ_eq_append_getElem hk, bigL_append, List.length_take, Nat.min_eq_left (by omega), Nat.zero_add]
  show _ ++ (secs a g k L[k] ++ []) = _
  rw [List.append_nil]
theorem infoInt : (Try.prog.info? 3).map (fun i => (i.zero, i.size, i.bytes)) = some (some (.int .i64 0), 1, 8) := by kernel_rfl
theorem src_int (w : World) (x : Int) (c : Nat) (e : TypeId) : Src Try.prog 1 36 (.slice (some ⟨w.heap.size, 0, none⟩) 1 c) 1 [Value.int .i64 x] (w.alloc (.cells #[.int .i64 x] e)) :=
  Src.ofSlice _ Try.underlying36 ⟨w.heap.size, 0, none⟩ 1 c [Value.int .i64 x] rfl (fun j u hj => Kq.cell_new _ _ _ (by
    rw [← List.getElem?_toArray] at hj
    exact hj)) (fun u hu => by
    simp only [List.mem_cons, List.not_mem_nil, or_false] at hu
    subst hu
    rfl)
/-- a row of numbers as a slice -/
theorem row_ints {R : Nat} {v : Value} {n : Nat} {F : Nat → Int} {w : World} (h : w.ownsRow R 3 1 v n ((List.range n).map fun i => Value.int .i64 (F i))) : ∃ A cap, v = .slice A n cap ∧ ∀ j, j < n → ∃ g, A = some ⟨g, 0, none⟩ ∧ g < w.heap.size ∧ w.cell? ⟨g, j, none⟩ = some (.int .i64 (F j)) := by
  rcases h.2 with ⟨rfl, e⟩ | ⟨g, cap, cur, rfl, h3, h4, h5, h6, h7, h8⟩
  · rw [e]
    exact ⟨none, 0, rfl, fun j hj => absurd hj (by omega)⟩
  · refine ⟨_, cap, rfl, fun j hj => ⟨g, rfl, Kq.blk_lt h4, ?_⟩⟩
    rw [Kq.blk_cell h4, ← Array.getElem?_toList]
    have : (cur.toList.take (n * 1))[j]? = some (Value.int .i64 (F j)) := by rw [h8]; simp [hj]
    rw [List.getElem?_take, if_pos (by omega)] at this
    exact this
set_option maxRecDepth 100000 in
theorem sub_pre (A : Option Addr) (n c m : Nat) (h2 : m ≤ c) (w : World) : (Instr.slice 24 (.slice A n c) none (some (.int .i64 (m : Int))) none).run Try.prog w = .ok (.slice A m c) w := by
  rw [run_slice_h w 24 A n c Try.underlying24 .i64 (m : Int) (by omega) (by omega)]
  have hs : (sizeOf (Try.prog.elem 24)).run Try.prog w = .ok 1 w := by kernel_rfl
  rw [hs]
  cases A <;> simp [sliced, Result.andThen, Addr.add_zero']
theorem byte_val5 (x y k : Nat) (hx : x < 256) : bits .xor .u8 (x : Int) ((y : Int) / 2 ^ (8 * k) % 256) = ((x ^^^ (y / 2 ^ (8 * k) % 256) : Nat) : Int) := by
  have e : ((y : Int) / 2 ^ (8 * k)) = ((y / 2 ^ (8 * k) : Nat) : Int) := by norm_cast
  rw [e]
  generalize y / 2 ^ (8 * k) = z
  have : ((z : Int) % 256) = ((z % 256 : Nat) : Int) := by omega
  rw [this, u8_xor_nat _ _ hx (Nat.mod_lt _ (by decide))]
theorem row_fl {w : World} {B p y k : Nat} {L : List Nat} (h : Kq.Row w B (fl L p y k)) (hb : ∀ b ∈ L, b < 256) (hi : p + k < (fl L p y k).length) :
    Kq.Row (w.setCell ⟨B, p + k, none⟩ (.int .u8 (bits .xor .u8 (((fl L p y k)[p + k] : Nat) : Int) ((y : Int) / 2 ^ (8 * k) % 256)))).drew B (fl L p y (k + 1)) := by
  rw [byte_val5 _ _ _ (fl_lt L hb p y k _ (List.getElem_mem _))]
  have e : fl L p y (k + 1) = (fl L p y k).set (p + k) ((fl L p y k)[p + k] ^^^ (y / 2 ^ (8 * k) % 256)) := by
    rw [fl, List.getD_eq_getElem?_getD, List.getElem?_eq_getElem hi]
    rfl
  rw [e]
  exact (h.set _ _).drew
end Go.Proofs.Ytfbjfleagilikaa
