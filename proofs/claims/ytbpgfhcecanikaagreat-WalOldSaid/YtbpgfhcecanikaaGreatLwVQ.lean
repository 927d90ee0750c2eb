import Derived.Test.YtbpgfhcecanikaaGreatFrPartsQ
import Derived.Test.YtbpgfhcecanikaaGreatFrMayQ
import Derived.Test.YtbpgfhcecanikaaGreatFrSplitQ
import Derived.WalkSpells
import Derived.Outline
import Derived.Test.YtbpgfhcecanikaaGreatLwYQ
namespace Go.Proofs.YtbpgfhcecanikaaGreat
open Go.RowKit
set_option linter.unusedVariables false
def catL : List ByteArray → ByteArray
  | [] => ⟨#[]⟩
  | s :: l => s ++ catL l
theorem catL_append (l m : List ByteArray) : catL (l ++ m) = catL l ++ catL m := by
  induction l with
  | nil => show catL m = ⟨#[]⟩ ++ catL m; apply nl_inj; rw [nl_append]; rfl
  | cons s l ih => show s ++ catL (l ++ m) = s ++ catL l ++ catL m; rw [ih, ByteArray.append_assoc]
theorem catL_size (a : Nat) (l : List ByteArray) (h : ∀ s ∈ l, s.size = a) : (catL l).size = l.length * a := by
  induction l with
  | nil => simp [catL]; rfl
  | cons s l ih =>
    rw [catL, ByteArray.size_append, h s (List.mem_cons_self ..), ih (fun t ht => h t (List.mem_cons_of_mem _ ht)), List.length_cons, Nat.add_mul, Nat.one_mul]
    omega
theorem catL_at (a : Nat) (l : List ByteArray) (h : ∀ s ∈ l, s.size = a) (more : ByteArray) (k : Nat) (hk : k < l.length) : (catL l ++ more).extract (k * a) (k * a + a) = l[k] := by
  apply nl_inj
  rw [nl_extract, show k * a + a - k * a = a by omega, nl_append]
  induction l generalizing k with
  | nil => simp at hk
  | cons s l ih =>
    have hs := h s (List.mem_cons_self ..)
    cases k with
    | zero =>
      rw [catL, nl_append, Nat.zero_mul, List.drop_zero, List.append_assoc, List.take_append_of_le_length (by rw [nl_length]; omega), List.take_of_length_le (by rw [nl_length]; omega)]
      rfl
    | succ k =>
      have := ih (fun t ht => h t (List.mem_cons_of_mem _ ht)) k (by simpa using hk)
      rw [catL, nl_append, List.append_assoc, Nat.add_mul, Nat.one_mul, show k * a + a = a + k * a by omega, ← List.drop_drop, List.drop_left' (by rw [nl_length]; exact hs)]
      rw [this]
      rfl
theorem partAt_cat (a : Nat) (l : List ByteArray) (h : ∀ s ∈ l, s.size = a) (more : ByteArray) (k : Nat) (hk : k < l.length) : partAt a (catL l ++ more) k = (frRead a l[k]).1 := by
  have hz : (catL l ++ more).size = l.length * a + more.size := by rw [ByteArray.size_append, catL_size a l h]
  have hle : k * a + a ≤ l.length * a := by
    have : (k + 1) * a ≤ l.length * a := Nat.mul_le_mul_right _ hk
    rw [Nat.add_mul, Nat.one_mul] at this
    exact this
  unfold partAt
  rw [if_pos (by omega), catL_at a l h more k hk]
def prt (a g x : Nat) (s : ByteArray) (i : Nat) : FrP := ⟨g, x, i, nParts a s.size, pieceC (a - 25) s i⟩
def secs (a g x : Nat) (s : ByteArray) : List ByteArray := (List.range (nParts a s.size)).map (secF a g x (nParts a s.size) s)
theorem secs_len (a g x : Nat) (s : ByteArray) : (secs a g x s).length = nParts a s.size := by simp [secs]
theorem secs_at (a g x : Nat) (s : ByteArray) (i : Nat) (hi : i < (secs a g x s).length) : (secs a g x s)[i] = frSec a (prt a g x s i) := by
  simp only [secs, List.getElem_map, List.getElem_range]
  rfl
theorem frSplit_eq (a g x : Nat) (s : ByteArray) (ha : 64 ≤ a) (h5 : a ≤ 512) (hs : s.size ≤ 4096) : frSplit a g x s = (secs a g x s, 0) := by
  unfold frSplit
  rw [if_pos (by unfold FrSz; omega)]
  rfl
theorem piece_exact (a : Nat) (s : ByteArray) (i : Nat) (ha : 64 ≤ a) (hi : i < nParts a s.size) : (pieceC (a - 25) s i).size = min ((i + 1) * (a - 25)) s.size - i * (a - 25) := by
  unfold pieceC; simp
theorem prt_may (a g x : Nat) (s : ByteArray) (i : Nat) (ha : 64 ≤ a) (hs : s.size ≤ 4096) (hi : i < nParts a s.size) : mayP a (prt a g x s i) := by
  have h1 := piece_exact a s i ha hi
  have h2 := nParts_iff a s.size i ha
  have h3 := nParts_in a s.size i ha hi
  have e1 : (i + 1) * (a - 25) = i * (a - 25) + (a - 25) := by rw [Nat.add_mul, Nat.one_mul]
  unfold mayP prt
  simp only
  refine ⟨hi, piece_size _ _ _, fun h => ?_, fun h => ?_, ?_⟩
  · have := h2.1 h
    omega
  · obtain ⟨j, rfl⟩ : ∃ j, i = j + 1 := ⟨i - 1, by omega⟩
    have := (nParts_iff a s.size j ha).1 hi
    omega
  · by_cases hl : i + 1 = nParts a s.size
    · rw [if_pos hl]
      have h4 : ¬ (i + 1) * (a - 25) < s.size := fun h => by have := h2.2 h; omega
      rw [show nParts a s.size - 1 = i by omega, h1]
      omega
    · rw [if_neg hl]
      obtain ⟨j, hj⟩ : ∃ j, nParts a s.size = j + 2 := ⟨nParts a s.size - 2, by omega⟩
      have h5 := (nParts_iff a s.size j ha).1 (by omega)
      rw [hj, show j + 2 - 1 = j + 1 by omega]
      omega
theorem sec_size (a g x : Nat) (s : ByteArray) (ha : 64 ≤ a) (hs : s.size ≤ 4096) : ∀ t ∈ secs a g x s, t.size = a := by
  intro t ht
  obtain ⟨i, hi, rfl⟩ := List.mem_map.1 ht
  exact frSec_size a _ (by omega) (prt_may a g x s i ha hs (List.mem_range.1 hi)).2.1
theorem read_sec (a g x : Nat) (s : ByteArray) (i : Nat) (ha : 64 ≤ a) (h5 : a ≤ 512) (hs : s.size ≤ 4096) (hg : g < M64) (hx : x < M64) (hi : i < nParts a s.size) : frRead a (frSec a (prt a g x s i)) = (some (prt a g x s i), 0) :=
  frRead_sec a _ ha h5 (prt_may a g x s i ha hs hi) hg hx
theorem pieces_join (r : Nat) (s : ByteArray) (n : Nat) : ∀ k, ((List.range k).map (pieceC r s)).foldr (fun p l => nl p ++ l) [] = (nl s).take (k * r) := by
  have key : ∀ k, ((List.range k).map (pieceC r s)).foldr (fun p l => nl p ++ l) [] = ((List.range k).map (fun i => nl (pieceC r s i))).flatten := fun k => by
    induction (List.range k) with
    | nil => rfl
    | cons i l ih => simp only [List.map_cons, List.foldr_cons, List.flatten_cons, ih]
  intro k
  rw [key]
  induction k with
  | zero => simp
  | succ k ih =>
    rw [List.range_succ, List.map_append, List.flatten_append, ih]
    simp only [List.map_cons, List.map_nil, List.flatten_cons, List.flatten_nil, List.append_nil]
    unfold pieceC
    rw [nl_extract]
    have e : (k + 1) * r = k * r + r := by rw [Nat.add_mul, Nat.one_mul]
    rw [e, Nat.add_sub_cancel_left, List.take_add]
end Go.Proofs.YtbpgfhcecanikaaGreat
namespace Go.Proofs.YtbpgfhcecanikaaGreat
open Go.RowKit
set_option linter.unusedVariables false
def Has (a : Nat) (T : ByteArray) (u : Nat) (S : List ByteArray) : Prop := ∀ i (h : i < S.length), partAt a T (u + i) = (frRead a S[i]).1
theorem has_append {a : Nat} {T : ByteArray} {u : Nat} {S1 S2 : List ByteArray} (h : Has a T u (S1 ++ S2)) : Has a T u S1 ∧ Has a T (u + S1.length) S2 := by
  refine ⟨fun i hi => ?_, fun i hi => ?_⟩
  · have := h i (by rw [List.length_append]; omega)
    rwa [List.getElem_append_left hi] at this
  · have := h (S1.length + i) (by rw [List.length_append]; omega)
    rw [List.getElem_append_right (by omega)] at this
    simp only [Nat.add_sub_cancel_left] at this
    rw [Nat.add_assoc]
    exact this
theorem has_cat (a : Nat) (S : List ByteArray) (h : ∀ s ∈ S, s.size = a) (more : ByteArray) : Has a (catL S ++ more) 0 S := fun i hi => by
  rw [Nat.zero_add]
  exact partAt_cat a S h more i hi
theorem nParts_posF (a b : Nat) : 1 ≤ nParts a b := by unfold nParts; omega
theorem full_take (a : Nat) (s : ByteArray) (ha : 64 ≤ a) : (nl s).take (nParts a s.size * (a - 25)) = nl s := by
  refine List.take_of_length_le ?_
  rw [nl_length]
  have h1 := nParts_iff a s.size (nParts a s.size - 1) ha
  have h2 := nParts_posF a s.size
  rw [show nParts a s.size - 1 + 1 = nParts a s.size by omega] at h1
  exact Nat.le_of_not_lt (fun h => by have := h1.2 h; omega)
theorem rec_step {a g x u : Nat} {s T : ByteArray} (ha : 64 ≤ a) (h5 : a ≤ 512) (hs : s.size ≤ 4096) (hg : g < M64) (hx : x < M64) (h : Has a T u (secs a g x s)) :
    recOk a g x T u ∧ numAt a T u = nParts a s.size ∧ txt (joinD a T u (nParts a s.size)) = s := by
  have hp : ∀ i, i < nParts a s.size → partAt a T (u + i) = some (prt a g x s i) := fun i hi => by
    have h1 := h i (by rw [secs_len]; exact hi)
    rw [secs_at, read_sec a g x s i ha h5 hs hg hx hi] at h1
    exact h1
  have hn : numAt a T u = nParts a s.size := by
    unfold numAt
    have := hp 0 (nParts_posF a s.size)
    rw [Nat.add_zero] at this
    rw [this]
    rfl
  have hd : ∀ i, i < nParts a s.size → datAt a T (u + i) = pieceC (a - 25) s i := fun i hi => by
    unfold datAt
    rw [hp i hi]
    rfl
  have hj : ∀ k, k ≤ nParts a s.size → joinD a T u k = (nl s).take (k * (a - 25)) := fun k hk => by
    induction k with
    | zero => simp [joinD]
    | succ k ih =>
      rw [joinD, ih (by omega), hd k (by omega)]
      unfold pieceC
      rw [nl_extract]
      have e : (k + 1) * (a - 25) = k * (a - 25) + (a - 25) := by rw [Nat.add_mul, Nat.one_mul]
      rw [e, Nat.add_sub_cancel_left, List.take_add]
  refine ⟨⟨by rw [hn]; exact nParts_posF a s.size, fun i hi => ?_⟩, hn, ?_⟩
  · rw [hn] at hi ⊢
    unfold okPart
    rw [hp i hi, hd i hi]
    rfl
  · apply nl_inj
    rw [hj _ (Nat.le_refl _), full_take a s ha, nl_txt _ (nl_lt s)]
end Go.Proofs.YtbpgfhcecanikaaGreat
namespace Go.Proofs.YtbpgfhcecanikaaGreat
open Go.RowKit
set_option linter.unusedVariables false
def bigL (a g : Nat) : Nat → List ByteArray → List ByteArray
  | _, [] => []
  | x, s :: L => secs a g x s ++ bigL a g (x + 1) L
theorem bigL_append (a g : Nat) (L M : List ByteArray) : ∀ x, bigL a g x (L ++ M) = bigL a g x L ++ bigL a g (x + L.length) M := by
  induction L with
  | nil => intro x; rfl
  | cons s L ih =>
    intro x
    show secs a g x s ++ bigL a g (x + 1) (L ++ M) = secs a g x s ++ bigL a g (x + 1) L ++ bigL a g (x + (L.length + 1)) M
    rw [ih, List.append_assoc, show x + 1 + L.length = x + (L.length + 1) by omega]
theorem bigL_size (a g : Nat) (ha : 64 ≤ a) (L : List ByteArray) (hL : ∀ s ∈ L, s.size ≤ 4096) : ∀ x, ∀ t ∈ bigL a g x L, t.size = a := by
  induction L with
  | nil => intro x t ht; cases ht
  | cons s L ih =>
    intro x t ht
    rcases List.mem_append.1 ht with h | h
    · exact sec_size a g x s ha (hL s (List.mem_cons_self ..)) t h
    · exact ih (fun s hs => hL s (List.mem_cons_of_mem _ hs)) (x + 1) t h
theorem bigL_ge (a g : Nat) (L : List ByteArray) : ∀ x, L.length ≤ (bigL a g x L).length := by
  induction L with
  | nil => intro x; exact Nat.zero_le _
  | cons s L ih =>
    intro x
    have := ih (x + 1)
    have h1 := nParts_posF a s.size
    rw [bigL, List.length_append, secs_len, List.length_cons]
    omega
theorem scanF_ge (a g : Nat) (T : ByteArray) : ∀ f x u, u ≤ (scanF a g T f x u).2 := by
  intro f
  induction f with
  | zero => intro x u; exact Nat.le_refl _
  | succ f ih =>
    intro x u
    rw [scanF]
    split
    · exact Nat.le_trans (Nat.le_add_right _ _) (ih _ _)
    · exact Nat.le_refl _
theorem scan_list {a g : Nat} (ha : 64 ≤ a) (h5 : a ≤ 512) (hg : g < M64) (T : ByteArray) (f : Nat) : ∀ (L : List ByteArray) (x u : Nat), (∀ s ∈ L, s.size ≤ 4096) → x + L.length ≤ 1000000 → Has a T u (bigL a g x L) →
    scanF a g T (f + L.length) x u = (L ++ (scanF a g T f (x + L.length) (u + (bigL a g x L).length)).1, (scanF a g T f (x + L.length) (u + (bigL a g x L).length)).2) := by
  intro L
  induction L with
  | nil => intro x u _ _ _; simp [bigL]
  | cons s L ih =>
    intro x u hs hx hh
    obtain ⟨h1, h2⟩ := has_append hh
    rw [secs_len] at h2
    rw [List.length_cons] at hx
    have h3 := rec_step ha h5 (hs s (List.mem_cons_self ..)) hg (by unfold M64; omega) h1
    have h4 := ih (x + 1) (u + nParts a s.size) (fun t ht => hs t (List.mem_cons_of_mem _ ht)) (by omega) h2
    rw [List.length_cons, show f + (L.length + 1) = (f + L.length) + 1 by omega, scanF_yes h3.1, h3.2.1, h3.2.2, h4, bigL, List.length_append, secs_len]
    rw [show x + 1 + L.length = x + (L.length + 1) by omega, show u + nParts a s.size + (bigL a g (x + 1) L).length = u + (nParts a s.size + (bigL a g (x + 1) L).length) by omega]
    rfl
theorem scanAll_list {a g : Nat} (ha : 64 ≤ a) (h5 : a ≤ 512) (hg : g < M64) (T : ByteArray) (L : List ByteArray) (hL : ∀ s ∈ L, s.size ≤ 4096) (hn : L.length ≤ 1000) (hz : (bigL a g 0 L).length * a ≤ T.size) (hh : Has a T 0 (bigL a g 0 L)) :
    ∃ f, scanAll a g T = (L ++ (scanF a g T f L.length (bigL a g 0 L).length).1, (scanF a g T f L.length (bigL a g 0 L).length).2) := by
  have h1 := bigL_ge a g L 0
  have h2 : (bigL a g 0 L).length * 1 ≤ (bigL a g 0 L).length * a := Nat.mul_le_mul_left _ (by omega)
  refine ⟨T.size + 1 - L.length, ?_⟩
  have h3 := scan_list ha h5 hg T (T.size + 1 - L.length) L 0 0 hL (by omega) hh
  rw [show T.size + 1 - L.length + L.length = T.size + 1 by omega, Nat.zero_add, Nat.zero_add] at h3
  unfold scanAll
  rw [if_pos (by unfold FrSz; omega), Int.toNat_natCast]
  exact h3
theorem scan_front {a g : Nat} (ha : 64 ≤ a) (h5 : a ≤ 512) (hg : g < M64) (T : ByteArray) (L : List ByteArray) (hL : ∀ s ∈ L, s.size ≤ 4096) (hn : L.length ≤ 1000) (hz : (bigL a g 0 L).length * a ≤ T.size) (hh : Has a T 0 (bigL a g 0 L)) (hno : ∀ p, partAt a T (bigL a g 0 L).length = some p → p.g ≠ g) : scanAll a g T = (L, (bigL a g 0 L).length) := by
  obtain ⟨f, hf⟩ := scanAll_list ha h5 hg T L hL hn hz hh
  have hr : ¬ recOk a g L.length T (bigL a g 0 L).length := fun h => by
    have h1 := h.2 0 h.1
    unfold okPart at h1
    rw [Nat.add_zero] at h1
    exact hno _ h1 rfl
  rw [hf, scanF_no hr, List.append_nil]
end Go.Proofs.YtbpgfhcecanikaaGreat
namespace Go.Proofs.YtbpgfhcecanikaaGreat
open Go.RowKit
set_option linter.unusedVariables false
structure OldI (a b : Nat) (st : List Nat) (v : WalV) (now : List ByteArray) : Prop where
  c : Cln a b st
  wv : WvOk b v
  br : v.broken = false
  hd : HdI a st v
  g0 : 0 < v.g
  sz : ∀ s ∈ now, s.size ≤ 4096
  used : v.used = (bigL a v.g 0 now).length
  cnt : v.cnt = now.length
  has : ∀ i (h : i < (bigL a v.g 0 now).length), Cs a st (2 + v.sg * segN b + i) = (bigL a v.g 0 now)[i]
  le : ∀ i, 2 ≤ i → i < b → ∀ p, (frRead (a : Int) (Cs a st i)).1 = some p → p.g ≤ v.g
  lt : ∀ j, v.used ≤ j → j < segN b → ∀ p, (frRead (a : Int) (Cs a st (2 + v.sg * segN b + j))).1 = some p → p.g < v.g
theorem sec_len {a b : Nat} {st : List Nat} (h : Cln a b st) {i : Nat} (hi : i < b) : (Cs a st i).size = a := by
  unfold Cs sec
  rw [txt_size, List.length_take, List.length_drop, h.len]
  have h1 : (i + 1) * a ≤ a * b := by rw [Nat.mul_comm a b]; exact Nat.mul_le_mul_right a hi
  have h2 : (i + 1) * a = i * a + a := by rw [Nat.add_mul, Nat.one_mul]
  omega
theorem base_lt {b sg j : Nat} (hsg : sg ≤ 1) (hb : 4 ≤ b) (hj : j < segN b) : 2 + sg * segN b + j < b := by
  have h2 : 2 * segN b + 2 ≤ b := by unfold segN; omega
  have h01 : sg = 0 ∨ sg = 1 := by omega
  rcases h01 with e | e <;> rw [e] <;> omega
theorem seg_cat {a b : Nat} {st : List Nat} (k : Nat) : ∀ n, k + n ≤ b → txt (textF a b [] st k n) = catL ((List.range n).map fun j => Cs a st (k + j))
  | 0, _ => rfl
  | n + 1, h => by
    rw [← textF_txt, seg_cat k n (by omega), rdF_cs (by omega), List.range_succ, List.map_append, catL_append]
    congr 1
    apply nl_inj
    simp [catL, nl]
theorem old_part {a b : Nat} {st : List Nat} (h : Cln a b st) {sg : Nat} (hsg : sg ≤ 1) (hb : 4 ≤ b) (j : Nat) (hj : j < segN b) : partAt a (segT a b [] st sg) j = (frRead (a : Int) (Cs a st (2 + sg * segN b + j))).1 := by
  have hT : segT a b [] st sg = catL ((List.range (segN b)).map fun j => Cs a st (2 + sg * segN b + j)) ++ ⟨#[]⟩ := by
    unfold segT
    rw [seg_cat (2 + sg * segN b) (segN b) (by
      have h2 : 2 * segN b + 2 ≤ b := by unfold segN; omega
      have h01 : sg = 0 ∨ sg = 1 := by omega
      rcases h01 with e | e <;> rw [e] <;> omega)]
    apply nl_inj
    rw [nl_append]
    simp [nl]
  rw [hT, partAt_cat a _ (fun s hs => by
    obtain ⟨i, hi, rfl⟩ := List.mem_map.1 hs
    exact sec_len h (base_lt hsg hb (List.mem_range.1 hi))) _ j (by simpa using hj)]
  simp
theorem seg_size {a b : Nat} {st : List Nat} (h : Cln a b st) {sg : Nat} (hsg : sg ≤ 1) (hb : 4 ≤ b) : (segT a b [] st sg).size = segN b * a := by
  unfold segT
  rw [seg_cat (2 + sg * segN b) (segN b) (by
      have h2 : 2 * segN b + 2 ≤ b := by unfold segN; omega
      have h01 : sg = 0 ∨ sg = 1 := by omega
      rcases h01 with e | e <;> rw [e] <;> omega), catL_size a _ (fun s hs => by
    obtain ⟨i, hi, rfl⟩ := List.mem_map.1 hs
    exact sec_len h (base_lt hsg hb (List.mem_range.1 hi)))]
  simp
theorem OldI.opened {a b : Nat} {st : List Nat} {v : WalV} {now : List ByteArray} (h : OldI a b st v now) (hz : Siz a b) (hb : 4 ≤ b) (hbb : b ≤ 1000) : opS a b st = st ∧ opR a b [] 0 st = (now, v.used) ∧ (opV a b [] 0 st).g = v.g ∧ (opV a b [] 0 st).used = v.used := by
  have hn := h.hd.nw hb h.wv.slot
  have hnn : ¬ (nwF a b [] st).2.2 < 0 := by rw [hn]; show ¬ ((v.slot : Int) < 0); omega
  have e1 : opS a b st = st := if_neg hnn
  have hV := opV_clean hz hb (st := st)
  rw [if_neg hnn, if_neg hnn, if_neg hnn, hn] at hV
  have hs3 : segN b ≤ 500 := by unfold segN; omega
  have hul := h.wv.used
  have hcl := h.wv.cnt
  have hcn := h.cnt
  have e2 : opR a b [] 0 st = (now, v.used) := by
    rw [opR_clean hz hb, e1, hV]
    show scanAll (a : Int) v.g (segT a b [] st v.sg) = _
    rw [h.used] at hul ⊢
    have hsize := seg_size h.c h.wv.sg hb
    refine scan_front hz.a0 hz.a1 h.wv.g _ now h.sz (by rw [h.used] at hcl; omega) (by rw [hsize]; exact Nat.mul_le_mul_right a hul) (fun i hi => ?_) (fun p hp e => ?_)
    · rw [Nat.zero_add, old_part h.c h.wv.sg hb i (by omega), h.has i hi]
    · by_cases hlt : (bigL a v.g 0 now).length < segN b
      · rw [old_part h.c h.wv.sg hb _ hlt] at hp
        have := h.lt _ (by rw [h.used]; exact Nat.le_refl _) hlt p hp
        omega
      · unfold partAt at hp
        rw [if_neg (by
          rw [hsize, show (bigL a v.g 0 now).length = segN b by omega]
          have := hz.a0
          omega)] at hp
        cases hp
  exact ⟨e1, e2, by rw [hV], by rw [hV]; show (opR a b [] 0 st).2 = _; rw [e2]⟩
theorem cs_in {a b k : Nat} {l : List ByteArray} {st : List Nat} (h : Cln a b st) (hz : ∀ t ∈ l, t.size = a) (hk : k + l.length ≤ b) {i : Nat} (hi : i < l.length) : Cs a (flushB a (pairsW k l) st) (k + i) = l[i] := by
  rw [cs_lay h.len h.lt hz hk (by omega), if_pos (by omega), show k + i - k = i by omega, List.getElem?_eq_getElem hi]
  rfl
theorem cs_out {a b k : Nat} {l : List ByteArray} {st : List Nat} (h : Cln a b st) (hz : ∀ t ∈ l, t.size = a) (hk : k + l.length ≤ b) {i : Nat} (hi : i < b) (ho : i < k ∨ k + l.length ≤ i) : Cs a (flushB a (pairsW k l) st) i = Cs a st i := by
  rw [cs_lay h.len h.lt hz hk hi]
  split
  · rw [List.getElem?_eq_none (by omega)]; rfl
  · rfl
theorem sec_gen {a b g x : Nat} {s : ByteArray} (hz : Siz a b) (hs : s.size ≤ 4096) (hg : g < M64) (hx : x < M64) (i : Nat) (hi : i < (secs a g x s).length) : ∀ p, (frRead (a : Int) (secs a g x s)[i]).1 = some p → p.g = g := fun p hp => by
  rw [secs_at, read_sec a g x s i hz.a0 hz.a1 hs hg hx (by rw [secs_len] at hi; exact hi)] at hp
  injection hp with hp
  rw [← hp]
  rfl
theorem OldI.append {a b : Nat} {st : List Nat} {v : WalV} {now : List ByteArray} (h : OldI a b st v now) (hz : Siz a b) (hb : 4 ≤ b) (s : ByteArray) (hs : s.size ≤ 4096) (hroom : v.used + nParts a s.size ≤ segN b) :
    OldI a b (flushB a (pairsW (2 + v.sg * segN b + v.used) (frSplit (a : Int) v.g v.cnt s).1) st) { v with used := v.used + nParts a s.size, cnt := v.cnt + 1 } (now ++ [s]) := by
  have hsp : (frSplit (a : Int) v.g v.cnt s).1 = secs a v.g v.cnt s := by rw [frSplit_eq a v.g v.cnt s hz.a0 hz.a1 hs]
  rw [hsp]
  have hsz := sec_size a v.g v.cnt s hz.a0 hs
  have hl := secs_len a v.g v.cnt s
  have hsb : segN b ≤ 2500 := by have := hz.b1; unfold segN; omega
  have hx : v.cnt < M64 := by have h1 := h.wv.cnt; have h2 := h.wv.used; unfold M64; omega
  have hp1 := nParts_pos a s.size
  have hkk : ∀ j, j ≤ segN b → 2 + v.sg * segN b + j ≤ b := fun j hj => by
    have h2 : 2 * segN b + 2 ≤ b := by unfold segN; omega
    have h1 := h.wv.sg
    have h01 : v.sg = 0 ∨ v.sg = 1 := by omega
    rcases h01 with e | e <;> rw [e] <;> omega
  have hk : 2 + v.sg * segN b + v.used + (secs a v.g v.cnt s).length ≤ b := by
    rw [hl]
    have := hkk (v.used + nParts a s.size) hroom
    omega
  have hbl : bigL a v.g 0 (now ++ [s]) = bigL a v.g 0 now ++ secs a v.g v.cnt s := by
    rw [bigL_append, Nat.zero_add, ← h.cnt]
    show bigL a v.g 0 now ++ (secs a v.g v.cnt s ++ []) = _
    rw [List.append_nil]
  have hin : ∀ i (hi : i < (secs a v.g v.cnt s).length), Cs a (flushB a (pairsW (2 + v.sg * segN b + v.used) (secs a v.g v.cnt s)) st) (2 + v.sg * segN b + v.used + i) = (secs a v.g v.cnt s)[i] := fun i hi => cs_in h.c hsz hk hi
  have hout : ∀ i, i < b → (i < 2 + v.sg * segN b + v.used ∨ 2 + v.sg * segN b + v.used + (secs a v.g v.cnt s).length ≤ i) → Cs a (flushB a (pairsW (2 + v.sg * segN b + v.used) (secs a v.g v.cnt s)) st) i = Cs a st i := fun i hi ho => cs_out h.c hsz hk hi ho
  have h0 : ∀ i, i ≤ 1 → Cs a (flushB a (pairsW (2 + v.sg * segN b + v.used) (secs a v.g v.cnt s)) st) i = Cs a st i := fun i hi => hout i (by omega) (Or.inl (by omega))
  have hslot := h.wv.slot
  refine ⟨h.c.lay hsz hk, ⟨h.wv.g, h.wv.sg, h.wv.slot, hroom, by show v.cnt + 1 ≤ v.used + _; have := h.wv.cnt; omega⟩, h.br, ⟨?_, ?_, ?_, ?_⟩, h.g0, fun t ht => ?_, ?_, ?_, fun i hi => ?_, fun i h2 hi p hp => ?_, fun j hj1 hj2 p hp => ?_⟩
  · show hdGoodB a (Cs a _ v.slot) = true
    rw [h0 _ hslot]; exact h.hd.good
  · show gOf (Cs a _ v.slot) = v.g
    rw [h0 _ hslot]; exact h.hd.g
  · show sOf (Cs a _ v.slot) = v.sg
    rw [h0 _ hslot]; exact h.hd.sg
  · show hdGoodB a (Cs a _ (1 - v.slot)) = false ∨ gOf (Cs a _ (1 - v.slot)) < v.g
    rw [h0 _ (by omega)]; exact h.hd.other
  · rcases List.mem_append.1 ht with ht | ht
    · exact h.sz t ht
    · rw [List.mem_singleton] at ht; rw [ht]; exact hs
  · show v.used + nParts a s.size = (bigL a v.g 0 (now ++ [s])).length
    rw [hbl, List.length_append, hl, ← h.used]
  · show v.cnt + 1 = (now ++ [s]).length
    rw [List.length_append, h.cnt]; rfl
  · have hi' : i < (bigL a v.g 0 (now ++ [s])).length := hi
    show Cs a _ (2 + v.sg * segN b + i) = (bigL a v.g 0 (now ++ [s]))[i]'hi'
    have e : ∀ (l : List ByteArray) (hh : i < l.length), l = bigL a v.g 0 now ++ secs a v.g v.cnt s → Cs a (flushB a (pairsW (2 + v.sg * segN b + v.used) (secs a v.g v.cnt s)) st) (2 + v.sg * segN b + i) = l[i] := fun l hh hl' => by
      subst hl'
      by_cases hlt : i < (bigL a v.g 0 now).length
      · rw [List.getElem_append_left hlt, hout _ (by have := hkk v.used h.wv.used; have := h.used; omega) (Or.inl (by have := h.used; omega)), h.has i hlt]
      · rw [List.length_append] at hh
        rw [List.getElem_append_right (by omega)]
        have hu := h.used
        have := hin (i - v.used) (by omega)
        rw [show 2 + v.sg * segN b + v.used + (i - v.used) = 2 + v.sg * segN b + i by omega] at this
        rw [this]
        congr 1
        omega
    exact e _ hi' hbl
  · show p.g ≤ v.g
    by_cases ho : i < 2 + v.sg * segN b + v.used ∨ 2 + v.sg * segN b + v.used + (secs a v.g v.cnt s).length ≤ i
    · rw [hout i hi ho] at hp
      exact h.le i h2 hi p hp
    · have hii := hin (i - (2 + v.sg * segN b + v.used)) (by omega)
      rw [show 2 + v.sg * segN b + v.used + (i - (2 + v.sg * segN b + v.used)) = i by omega] at hii
      rw [hii] at hp
      exact Nat.le_of_eq (sec_gen hz hs h.wv.g hx _ _ p hp)
  · have hj1' : v.used + nParts a s.size ≤ j := hj1
    show p.g < v.g
    have hp' : (frRead (a : Int) (Cs a (flushB a (pairsW (2 + v.sg * segN b + v.used) (secs a v.g v.cnt s)) st) (2 + v.sg * segN b + j))).1 = some p := hp
    rw [hout _ (by have := hkk (j + 1) (by omega); omega) (Or.inr (by rw [hl]; omega))] at hp'
    exact h.lt j (by omega) hj2 p hp'
theorem OldI.ckpt {a b : Nat} {st : List Nat} {v : WalV} {now : List ByteArray} (h : OldI a b st v now) (hz : Siz a b) (hb : 4 ≤ b) (s : ByteArray) (hs : s.size ≤ 4096) (hroom : nParts a s.size ≤ segN b) (hg : v.g + 1 ≠ M64) :
    OldI a b (ckS a b s st v) { v with g := v.g + 1, sg := 1 - v.sg, slot := 1 - v.slot, used := nParts a s.size, cnt := 1, ready := true } [s] := by
  have hsp : (frSplit (a : Int) (v.g + 1) 0 s).1 = secs a (v.g + 1) 0 s := by rw [frSplit_eq a (v.g + 1) 0 s hz.a0 hz.a1 hs]
  have hf := ck_fit (v := v) hz hb hs hroom
  unfold ckS
  rw [hsp] at hf ⊢
  have hsz := sec_size a (v.g + 1) 0 s hz.a0 hs
  have hl := secs_len a (v.g + 1) 0 s
  have hp1 := nParts_pos a s.size
  have hwg := h.wv.g
  have hgl : v.g + 1 < M64 := by omega
  have hslot := h.wv.slot
  have hsg := h.wv.sg
  have hc1 := h.c.lay hsz hf
  have hps : ∀ t ∈ [hdPut a (v.g + 1) (1 - v.sg)], t.size = a := fun t ht => by
    rw [List.mem_singleton] at ht; rw [ht]; exact hdPut_size a _ _ (by have := hz.a0; omega)
  have hpk : 1 - v.slot + [hdPut a (v.g + 1) (1 - v.sg)].length ≤ b := by simp; omega
  have hok : HdOk (a : Int) (v.g + 1) ((1 - v.sg : Nat) : Int) := ⟨by have := hz.a0; omega, by have := hz.a1; omega, by omega, by omega, by omega⟩
  obtain ⟨st2, hst2⟩ : ∃ z, z = flushB a (pairsW (1 - v.slot) [hdPut a (v.g + 1) (1 - v.sg)]) (flushB a (pairsW (2 + (1 - v.sg) * segN b) (secs a (v.g + 1) 0 s)) st) := ⟨_, rfl⟩
  have k1 : Cs a st2 (1 - v.slot) = hdPut a (v.g + 1) (1 - v.sg) := by
    have := cs_in hc1 hps hpk (i := 0) (by simp)
    rw [hst2]; exact this
  have k2 : ∀ i, i < b → i ≠ 1 - v.slot → Cs a st2 i = Cs a (flushB a (pairsW (2 + (1 - v.sg) * segN b) (secs a (v.g + 1) 0 s)) st) i := fun i hi hne => by
    rw [hst2]; exact cs_out hc1 hps hpk hi (by simp; omega)
  have k3 : ∀ i, i < b → (i < 2 + (1 - v.sg) * segN b ∨ 2 + (1 - v.sg) * segN b + (secs a (v.g + 1) 0 s).length ≤ i) → i ≠ 1 - v.slot → Cs a st2 i = Cs a st i := fun i hi ho hne => by
    rw [k2 i hi hne]; exact cs_out h.c hsz hf hi ho
  have k4 : ∀ i (hi : i < (secs a (v.g + 1) 0 s).length), Cs a st2 (2 + (1 - v.sg) * segN b + i) = (secs a (v.g + 1) 0 s)[i] := fun i hi => by
    rw [k2 _ (by omega) (by omega)]; exact cs_in h.c hsz hf hi
  have hc2 : Cln a b st2 := by rw [hst2]; exact hc1.lay hps hpk
  rw [← hst2]
  have hbl : bigL a (v.g + 1) 0 [s] = secs a (v.g + 1) 0 s := by
    show secs a (v.g + 1) 0 s ++ [] = _
    rw [List.append_nil]
  refine ⟨hc2, ⟨hgl, by show 1 - v.sg ≤ 1; omega, by show 1 - v.slot ≤ 1; omega, hroom, hp1⟩, h.br, ⟨?_, ?_, ?_, ?_⟩, by show 0 < v.g + 1; omega, fun t ht => ?_, ?_, rfl, fun i hi => ?_, fun i h2 hi p hp => ?_, fun j hj1 hj2 p hp => ?_⟩
  · show hdGoodB a (Cs a st2 (1 - v.slot)) = true
    rw [k1]; exact good_putW a _ _ hok hgl
  · show gOf (Cs a st2 (1 - v.slot)) = v.g + 1
    rw [k1]; exact gOf_put a _ _ hgl (by omega)
  · show sOf (Cs a st2 (1 - v.slot)) = 1 - v.sg
    rw [k1]; exact sOf_put a _ _ (by omega)
  · show hdGoodB a (Cs a st2 (1 - (1 - v.slot))) = false ∨ gOf (Cs a st2 (1 - (1 - v.slot))) < v.g + 1
    rw [show 1 - (1 - v.slot) = v.slot by omega, k3 v.slot (by omega) (Or.inl (by omega)) (by omega)]
    exact Or.inr (by rw [h.hd.g]; omega)
  · rw [List.mem_singleton] at ht; rw [ht]; exact hs
  · show nParts a s.size = (bigL a (v.g + 1) 0 [s]).length
    rw [hbl, hl]
  · have hi' : i < (bigL a (v.g + 1) 0 [s]).length := hi
    show Cs a st2 (2 + (1 - v.sg) * segN b + i) = (bigL a (v.g + 1) 0 [s])[i]'hi'
    have e : ∀ (l : List ByteArray) (hh : i < l.length), l = secs a (v.g + 1) 0 s → Cs a st2 (2 + (1 - v.sg) * segN b + i) = l[i] := fun l hh hl' => by
      subst hl'
      exact k4 i hh
    exact e _ hi' hbl
  · show p.g ≤ v.g + 1
    by_cases ho : i < 2 + (1 - v.sg) * segN b ∨ 2 + (1 - v.sg) * segN b + (secs a (v.g + 1) 0 s).length ≤ i
    · rw [k3 i hi ho (by omega)] at hp
      have := h.le i h2 hi p hp
      omega
    · have hii := k4 (i - (2 + (1 - v.sg) * segN b)) (by omega)
      rw [show 2 + (1 - v.sg) * segN b + (i - (2 + (1 - v.sg) * segN b)) = i by omega] at hii
      rw [hii] at hp
      exact Nat.le_of_eq (sec_gen hz hs hgl (by decide) _ _ p hp)
  · have hj1' : nParts a s.size ≤ j := hj1
    show p.g < v.g + 1
    have hp' : (frRead (a : Int) (Cs a st2 (2 + (1 - v.sg) * segN b + j))).1 = some p := hp
    have hlt := base_lt (sg := 1 - v.sg) (by omega) hb hj2
    rw [k3 _ hlt (Or.inr (by rw [hl]; omega)) (by omega)] at hp'
    have := h.le _ (by omega) hlt p hp'
    omega
theorem zero_sec {a b i : Nat} (hi : i < b) : Cs a (List.replicate (a * b) 0) i = txt (List.replicate a 0) := by
  unfold Cs sec
  congr 1
  rw [List.drop_replicate, List.take_replicate]
  congr 1
  have h1 : (i + 1) * a ≤ a * b := by rw [Nat.mul_comm a b]; exact Nat.mul_le_mul_right a hi
  have h2 : (i + 1) * a = i * a + a := by rw [Nat.add_mul, Nat.one_mul]
  omega
theorem zero_none {a : Nat} (ha : 64 ≤ a) (h5 : a ≤ 512) : ∀ p, (frRead (a : Int) (txt (List.replicate a 0))).1 ≠ some p := fun p hp => by
  unfold frRead at hp
  split at hp
  · cases hp
  · split at hp
    · cases hp
    · split at hp
      · cases hp
      · split at hp
        · rename_i hk
          rw [Int.toNat_natCast] at hk
          obtain ⟨hm, he⟩ := hk
          obtain ⟨h1, h2⟩ := mayP_n a _ ha hm
          have hd : (pOf (txt (List.replicate a 0))).d.size < 65536 := by have := hm.2.1; omega
          have hn := nl_secs a (pOf (txt (List.replicate a 0))) (by omega) (by omega) hd
          rw [he, nl_txt _ (fun x hx => by rw [List.eq_of_mem_replicate hx]; decide)] at hn
          obtain ⟨m, rfl⟩ : ∃ m, a = m + 1 := ⟨a - 1, by omega⟩
          rw [List.replicate_succ] at hn
          injection hn with hn
          cases hn
        · cases hp
theorem OldI.start {a b : Nat} (hz : Siz a b) (hb : 4 ≤ b) : OldI a b (opS a b (List.replicate (a * b) 0)) (opV a b [] 0 (List.replicate (a * b) 0)) [] ∧ (opV a b [] 0 (List.replicate (a * b) 0)).ready = false ∧ opR a b [] 0 (List.replicate (a * b) 0) = ([], 0) := by
  have hZ0 : Cln a b (List.replicate (a * b) 0) := ⟨List.length_replicate .., fun x hx => by rw [List.eq_of_mem_replicate hx]; decide⟩
  have hno := zero_no hz hb
  have hV := opV_clean hz hb (st := List.replicate (a * b) 0)
  rw [if_pos hno, if_pos hno, if_pos hno] at hV
  have hh := opS_head hZ0 hz hb hno
  have hcs : ∀ i, 2 ≤ i → i < b → Cs a (opS a b (List.replicate (a * b) 0)) i = txt (List.replicate a 0) := fun i h2 hi => by
    unfold opS
    rw [if_pos hno, cs_out hZ0 (fun t ht => by
      rw [List.mem_singleton] at ht; rw [ht]; exact hdPut_size a _ _ (by have := hz.a0; omega)) (by simp; omega) hi (Or.inr (by simp; omega)), zero_sec hi]
  have hcl := opS_cln hZ0 hz hb
  have hr : opR a b [] 0 (List.replicate (a * b) 0) = ([], 0) := by
    rw [opR_clean hz hb, hV]
    show scanAll (a : Int) 1 (segT a b [] (opS a b (List.replicate (a * b) 0)) 0) = _
    refine scan_front hz.a0 hz.a1 (by decide) _ [] (fun s hs => by cases hs) (by simp) (by simp [bigL]) (fun i hi => by cases hi) (fun p hp e => ?_)
    have hlt : 0 < segN b := by unfold segN; omega
    have hp' : partAt a (segT a b [] (opS a b (List.replicate (a * b) 0)) 0) 0 = some p := hp
    rw [old_part hcl (by decide) hb 0 hlt, hcs _ (by omega) (by unfold segN at hlt; omega)] at hp'
    exact zero_none hz.a0 hz.a1 p hp'
  have hV2 : opV a b [] 0 (List.replicate (a * b) 0) = { wal0 with g := 1, sg := 0, slot := 1 } := by
    rw [hV, hr]; rfl
  rw [hV2]
  refine ⟨⟨hcl, ⟨by show 1 < M64; decide, by show 0 ≤ 1; decide, by show 1 ≤ 1; decide, Nat.zero_le _, Nat.le_refl _⟩, rfl, hh, by show 0 < 1; decide, fun s hs => (by cases hs), rfl, rfl, fun i hi => (by cases hi), fun i h2 hi p hp => ?_, fun j hj1 hj2 p hp => ?_⟩, rfl, hr⟩
  · rw [hcs i h2 hi] at hp
    exact absurd hp (zero_none hz.a0 hz.a1 p)
  · have hlt := base_lt (sg := 0) (by decide) hb hj2
    have hp' : (frRead (a : Int) (Cs a (opS a b (List.replicate (a * b) 0)) (2 + 0 * segN b + j))).1 = some p := hp
    rw [hcs _ (by omega) hlt] at hp'
    exact absurd hp' (zero_none hz.a0 hz.a1 p)
end Go.Proofs.YtbpgfhcecanikaaGreat
namespace Go.Proofs.YtbpgfhcecanikaaGreat
open Go.RowKit
set_option linter.unusedVariables false
theorem old_ap {a b : Nat} {st : List Nat} {v : WalV} {now : List ByteArray} (h : OldI a b st v now) (hz : Siz a b) (hb : 4 ≤ b) (s : ByteArray) :
    (∃ st' v', apAll a b s [] 0 st v = (([], 0, st', 0), v') ∧ OldI a b st' v' (now ++ [s])) ∨ (∃ c, apAll a b s [] 0 st v = (([], 0, st, c), v) ∧ c ≠ 0 ∧ c ≠ 13) := by
  by_cases hrd : v.ready = false
  · refine Or.inr ⟨15, ?_, by decide, by decide⟩
    unfold apAll
    rw [if_neg (by rw [h.br]; decide), if_pos hrd]
  · have hrd' : v.ready = true := by simpa using hrd
    by_cases hs : s.size ≤ 4096
    · by_cases hroom : v.used + nParts a s.size ≤ segN b
      · exact Or.inl ⟨_, _, ap_clean hz hb h.wv h.br hrd' hs hroom, h.append hz hb s hs hroom⟩
      · exact Or.inr ⟨2, ap_full hz h.br hrd' hs hroom, by decide, by decide⟩
    · refine Or.inr ⟨1, ?_, by decide, by decide⟩
      unfold apAll
      rw [if_neg (by rw [h.br]; decide), if_neg hrd, if_pos hs]
theorem old_ck {a b : Nat} {st : List Nat} {v : WalV} {now : List ByteArray} (h : OldI a b st v now) (hz : Siz a b) (hb : 4 ≤ b) (s : ByteArray) :
    (∃ st' v', ckAll a b s [] 0 st v = (([], 0, st', 0), v') ∧ OldI a b st' v' [s]) ∨ (∃ c, ckAll a b s [] 0 st v = (([], 0, st, c), v) ∧ c ≠ 0 ∧ c ≠ 13) := by
  by_cases hs : s.size ≤ 4096
  · by_cases hroom : segN b < nParts a s.size
    · refine Or.inr ⟨2, ?_, by decide, by decide⟩
      unfold ckAll
      rw [if_neg (by rw [h.br]; decide), if_neg (by omega), if_pos hroom]
    · by_cases hg : v.g + 1 = M64
      · refine Or.inr ⟨12, ?_, by decide, by decide⟩
        unfold ckAll
        rw [if_neg (by rw [h.br]; decide), if_neg (by omega), if_neg hroom, if_pos hg]
      · exact Or.inl ⟨_, _, ck_clean hz hb h.wv h.br hs (by omega) hg, h.ckpt hz hb s hs (by omega) hg⟩
  · refine Or.inr ⟨1, ?_, by decide, by decide⟩
    unfold ckAll
    rw [if_neg (by rw [h.br]; decide), if_pos hs]
def OdI (W w : World) (A : PairA) (a b L : Nat) (v : WalV) (NA : Option Addr) (now now' : List ByteArray) : Prop :=
  ∃ bufD bufR ws2 ar2 st2 vq e rs pv N st, PrS W w A a b N bufD [] 0 st (some (L, v)) bufR ws2 ar2 st2 vq (pcells A (.pointer (some ⟨L, 0, none⟩)) e rs pv) NA now ∧ OldI a b st v now'
section
variable {W w w' : World} {A : PairA} {a b L : Nat} {v : WalV} {NA : Option Addr} {now now' : List ByteArray}
theorem OdI.below (h : OdI W w A a b L v NA now now') (hb : Below w.heap.size w w') : OdI W w' A a b L v NA now now' := by
  obtain ⟨b1, b2, b3, b4, b5, b6, b7, b8, b9, b10, st, hp, ho⟩ := h
  exact ⟨b1, b2, b3, b4, b5, b6, b7, b8, b9, b10, st, hp.below hb, ho⟩
theorem OdI.c0 (h : OdI W w A a b L v NA now now') : w.cell? ⟨A.P, 0, none⟩ = some (.pointer (some ⟨A.D, 0, none⟩)) := by
  obtain ⟨b1, b2, b3, b4, b5, b6, b7, b8, b9, b10, st, hp, ho⟩ := h
  exact hp.c0
theorem OdI.c1 (h : OdI W w A a b L v NA now now') : w.cell? ⟨A.P, 1, none⟩ = some (.pointer (some ⟨L, 0, none⟩)) := by
  obtain ⟨b1, b2, b3, b4, b5, b6, b7, b8, b9, b10, st, hp, ho⟩ := h
  exact hp.c1
theorem OdI.bel (h : OdI W w A a b L v NA now now') : Below W.heap.size W w := by
  obtain ⟨b1, b2, b3, b4, b5, b6, b7, b8, b9, b10, st, hp, ho⟩ := h
  exact hp.bel
theorem OdI.recs (h : OdI W w A a b L v NA now now') : StrsAt w NA now := by
  obtain ⟨b1, b2, b3, b4, b5, b6, b7, b8, b9, b10, st, hp, ho⟩ := h
  exact hp.recs
theorem OdI.len (h : OdI W w A a b L v NA now now') (hz : Siz a b) : now'.length ≤ 2500 := by
  obtain ⟨b1, b2, b3, b4, b5, b6, b7, b8, b9, b10, st, hp, ho⟩ := h
  have h1 := ho.cnt
  have h2 := ho.wv.cnt
  have h3 := ho.wv.used
  have h4 := hz.b1
  unfold segN at h3
  omega
theorem OdI.wl (h : OdI W w A a b L v NA now now') : ∃ buf st, WlS w A.bD A.D A.S a b L buf [] 0 st v := by
  obtain ⟨b1, b2, b3, b4, b5, b6, b7, b8, b9, b10, st, hp, ho⟩ := h
  exact ⟨b1, st, hp.wl⟩
theorem OdI.brk (h : OdI W w A a b L v NA now now') : v.broken = false := by
  obtain ⟨b1, b2, b3, b4, b5, b6, b7, b8, b9, b10, st, hp, ho⟩ := h
  exact ho.br
theorem OdI.list (h : OdI W w A a b L v NA now now') {w0 : World} {NA' : Option Addr} {nw : List ByteArray} (hs : StrsAt w NA' nw) (h0 : OdI W w0 A a b L v NA now now') (hge : ∀ g o, NA' = some ⟨g, o, none⟩ → w0.heap.size ≤ g) (hb : Below w0.heap.size w0 w) : OdI W w A a b L v NA' nw now' := by
  obtain ⟨b1, b2, b3, b4, b5, b6, b7, b8, b9, b10, st, hp, ho⟩ := h0
  have hp' := hp.below hb
  refine ⟨b1, b2, b3, b4, b5, b6, b7, b8, b9, b10, st, hp'.recsNew NA' nw hs (fun g o e => Nat.le_trans hp.bel.size (hge g o e)) (fun g o i e hi hj => ?_), ho⟩
  have h3 := hp.ow.lt i g hj
  have := hge g o e
  omega
theorem od_append (h : OdI W w A a b L v NA now now) (hz : Siz a b) (hb : 4 ≤ b) (s : ByteArray) :
    Calls Tryz.prog 26 #[.pointer (some ⟨L, 0, none⟩), .string s] w fun x w' => (x = .returned (.int .i64 0) ∧ ∃ v', OdI W w' A a b L v' NA now (now ++ [s])) ∨ (∃ c : Int, x = .returned (.int .i64 c) ∧ c ≠ 0 ∧ c ≠ 13 ∧ OdI W w' A a b L v NA now now) := by
  obtain ⟨b1, b2, b3, b4, b5, b6, b7, b8, b9, b10, st, hp, ho⟩ := h
  refine (wl_append hp.wl ho.c.ok (by decide) hz hb ho.wv s).mono ?_
  rcases old_ap ho hz hb s with ⟨st', v', e, ho'⟩ | ⟨c, e, hc1, hc2⟩
  · rw [e]
    rintro x w' ⟨rfl, hw⟩
    obtain ⟨bufD', hp'⟩ := hp.stepA hw
    exact Or.inl ⟨rfl, v', bufD', b2, b3, b4, b5, b6, b7, b8, b9, b10, st', hp', ho'⟩
  · rw [e]
    rintro x w' ⟨rfl, hw⟩
    obtain ⟨bufD', hp'⟩ := hp.stepA hw
    exact Or.inr ⟨c, rfl, hc1, hc2, bufD', b2, b3, b4, b5, b6, b7, b8, b9, b10, st, hp', ho⟩
theorem od_ckpt (h : OdI W w A a b L v NA now now) (hz : Siz a b) (hb : 4 ≤ b) (s : ByteArray) (hs : s.size ≤ 1000000) :
    Calls Tryz.prog 25 #[.pointer (some ⟨L, 0, none⟩), .string s] w fun x w' => (x = .returned (.int .i64 0) ∧ ∃ v', OdI W w' A a b L v' NA now [s]) ∨ (∃ c : Int, x = .returned (.int .i64 c) ∧ c ≠ 0 ∧ c ≠ 13 ∧ OdI W w' A a b L v NA now now) := by
  obtain ⟨b1, b2, b3, b4, b5, b6, b7, b8, b9, b10, st, hp, ho⟩ := h
  refine (wl_ckpt hp.wl ho.c.ok (by decide) hz hb ho.wv s hs).mono ?_
  rcases old_ck ho hz hb s with ⟨st', v', e, ho'⟩ | ⟨c, e, hc1, hc2⟩
  · rw [e]
    rintro x w' ⟨rfl, hw⟩
    obtain ⟨bufD', hp'⟩ := hp.stepA hw
    exact Or.inl ⟨rfl, v', bufD', b2, b3, b4, b5, b6, b7, b8, b9, b10, st', hp', ho'⟩
  · rw [e]
    rintro x w' ⟨rfl, hw⟩
    obtain ⟨bufD', hp'⟩ := hp.stepA hw
    exact Or.inr ⟨c, rfl, hc1, hc2, bufD', b2, b3, b4, b5, b6, b7, b8, b9, b10, st, hp', ho⟩
theorem od_crash (h : OdI W w A a b L v NA now now) (hz : Siz a b) :
    Calls Tryz.prog 21 #[.pointer (some ⟨A.D, 0, none⟩), .slice none 0 0] w fun x w' => x = .returned (.tuple #[]) ∧ OdI W w' A a b L v NA now now := by
  obtain ⟨b1, b2, b3, b4, b5, b6, b7, b8, b9, b10, st, hp, ho⟩ := h
  refine (pr_crash hp ho.c.ok hz (by decide) none 0 [] ⟨fun j hj => by cases hj⟩ (fun g o e => by cases e) (by simp)).mono ?_
  rintro x w' ⟨rfl, h'⟩
  exact ⟨rfl, _, b2, b3, b4, b5, b6, b7, b8, b9, b10, st, h', ho⟩
theorem od_open (h : OdI W w A a b L v NA now now) (hz : Siz a b) (hb : 4 ≤ b) (hbb : b ≤ 1000) :
    Calls Tryz.prog 22 #[.pointer (some ⟨A.D, 0, none⟩)] w fun x w' => ∃ L2 LB cap v2, x = .returned (.tuple #[.pointer (some ⟨L2, 0, none⟩), .slice LB now.length cap, .int .i64 0]) ∧ OdI W w' A a b L v NA now now ∧ (∃ buf st, WlS w' A.bD A.D A.S a b L2 buf [] 0 st v2) ∧ StrsAt w' LB now ∧ v2.g = v.g ∧ v2.used = v.used := by
  obtain ⟨b1, b2, b3, b4, b5, b6, b7, b8, b9, b10, st, hp, ho⟩ := h
  obtain ⟨e1, e2, e3, e4⟩ := ho.opened hz hb hbb
  refine (pr_openK hp ho.c hz hb).mono ?_
  rw [e1, e2]
  rintro x w' ⟨bufD', L2, LB, cap, rfl, h', hW, hs, hg⟩
  exact ⟨L2, LB, cap, _, rfl, ⟨_, b2, b3, b4, b5, b6, b7, b8, b9, b10, st, h', ho⟩, ⟨_, _, hW⟩, hs, e3, e4⟩
end
def strE : Kq.Elt ByteArray := ⟨1, fun s => [.string s], fun _ => rfl, fun x u hu => by
  simp only [List.mem_cons, List.not_mem_nil, or_false] at hu
  rw [hu]; rfl, by decide⟩
theorem strE_flat (l : List ByteArray) : strE.flat l = tcells l := by
  unfold Kq.Elt.flat strE tcells
  induction l with
  | nil => rfl
  | cons s l ih => simp only [List.flatMap_cons, List.map_cons, ih]; rfl
theorem strs_srcS {w : World} {A : Option Addr} {l : List ByteArray} (h : StrsAt w A l) (cap : Nat) : Src Tryz.prog 1 35 (.slice A l.length cap) l.length (tcells l) w := by
  have hat : strE.At w A l := fun i hi => by
    obtain ⟨b, off, e, h1, h2⟩ := h.at_ i hi
    refine ⟨b, off, e, h1, fun j hj => ?_⟩
    have hj0 : j = 0 := by have : j < 1 := hj; omega
    subst hj0
    rw [show off + i * strE.n + 0 = off + i by show off + i * 1 + 0 = off + i; omega]
    exact h2
  have := hat.srcA (P := Tryz.prog) Tryz.underlying35 cap
  rw [strE_flat] at this
  exact this
end Go.Proofs.YtbpgfhcecanikaaGreat
