/- Merged: PfM, PfU, PfO, PfV, PfA. Mathematics of proofs' bytes (layer 9): what a proof's bytes are; unlike proofs have unlike bytes, whatever stands behind. No condition but sizes. Mathematics of a leaf that climbs: its path is the made one, or a clash; what climbs to a map's root. No condition. Mathematics of keys in order: where a key stands in a map. No condition. What proofs prove, and that it holds: mathematics of layer 9. No condition. Leaves of proofs in memory. No condition. -/
import Derived.Test.YtclloplkbajebaaDoorWireRd2Q
import Derived.Test.YtclloplkbajebaaDoorCommonQ
import Derived.Test.YtclloplkbajebaaDoorMkVQ
import Derived.Test.YtclloplkbajebaaDoorRkVQ
import Derived.Test.YtclloplkbajebaaDoorMkCQ
import Derived.Test.YtclloplkbajebaaDoorRowGQ
namespace Go.Proofs.YtclloplkbajebaaDoor
open Go.RowKit
set_option linter.unusedVariables false
/-- a leaf of a proof -/
structure LfV where
  i : Int
  c : Int
  k : ByteArray
  v : ByteArray
  p : List ByteArray
structure PfV where
  ab : Bool
  ls : List LfV
structure LfMay (l : LfV) : Prop where
  i0 : 0 ≤ l.i
  i1 : l.i ≤ 4096
  c0 : 0 ≤ l.c
  c1 : l.c ≤ 4096
  k : l.k.size ≤ 16
  v : l.v.size ≤ 64
  n : l.p.length ≤ 16
  d : ∀ x ∈ l.p, x.size = 32
def PfMay (p : PfV) : Prop := p.ls.length ≤ 2 ∧ ∀ l ∈ p.ls, LfMay l
/-- a text, its length ahead by two bytes -/
def tx2 (s : ByteArray) : List Nat := [s.size / 256, s.size % 256] ++ nl s
def rawL : List ByteArray → List Nat
  | [] => []
  | d :: l => nl d ++ rawL l
def lfB (l : LfV) : List Nat := num8 l.i.toNat ++ (num8 l.c.toNat ++ (tx2 l.k ++ (tx2 l.v ++ ([l.p.length] ++ rawL l.p))))
def lsB : List LfV → List Nat
  | [] => []
  | l :: m => lfB l ++ lsB m
def pfB (p : PfV) : List Nat := [if p.ab then 2 else 1] ++ ([p.ls.length] ++ lsB p.ls)
theorem num8_pre {m n : Nat} {r t : List Nat} (hm : m < M64) (hn : n < M64) (h : num8 m ++ r = num8 n ++ t) : m = n ∧ r = t := by
  obtain ⟨h1, h2⟩ := List.append_inj h rfl
  refine ⟨?_, h2⟩
  unfold num8 at h1
  simp only [List.cons.injEq, and_true] at h1
  unfold M64 at hm hn
  omega
theorem tx2_pre {s u : ByteArray} {r t : List Nat} (h : tx2 s ++ r = tx2 u ++ t) : s = u ∧ r = t := by
  unfold tx2 at h
  simp only [List.cons_append, List.nil_append] at h
  injection h with h1 h2
  injection h2 with h3 h4
  have hs : s.size = u.size := by omega
  obtain ⟨h5, h6⟩ := List.append_inj h4 (by rw [nl_length, nl_length, hs])
  exact ⟨nl_inj h5, h6⟩
theorem rawL_pre : ∀ (l m : List ByteArray) (r t : List Nat), l.length = m.length → (∀ x ∈ l, x.size = 32) → (∀ x ∈ m, x.size = 32) → rawL l ++ r = rawL m ++ t → l = m ∧ r = t
  | [], [], r, t, _, _, _, h => ⟨rfl, h⟩
  | d :: l, e :: m, r, t, hl, h1, h2, h => by
    unfold rawL at h
    rw [List.append_assoc, List.append_assoc] at h
    obtain ⟨h3, h4⟩ := List.append_inj h (by rw [nl_length, nl_length, h1 d List.mem_cons_self, h2 e List.mem_cons_self])
    obtain ⟨h5, h6⟩ := rawL_pre l m r t (by simpa using hl) (fun x hx => h1 x (List.mem_cons_of_mem _ hx)) (fun x hx => h2 x (List.mem_cons_of_mem _ hx)) h4
    exact ⟨by rw [nl_inj h3, h5], h6⟩
theorem lfB_pre {l m : LfV} {r t : List Nat} (hl : LfMay l) (hm : LfMay m) (h : lfB l ++ r = lfB m ++ t) : l = m ∧ r = t := by
  unfold lfB at h
  simp only [List.append_assoc] at h
  have hb : ∀ z : Int, 0 ≤ z → z ≤ 4096 → z.toNat < M64 := fun z h0 h1 => by unfold M64; omega
  obtain ⟨e1, h⟩ := num8_pre (hb _ hl.i0 hl.i1) (hb _ hm.i0 hm.i1) h
  obtain ⟨e2, h⟩ := num8_pre (hb _ hl.c0 hl.c1) (hb _ hm.c0 hm.c1) h
  obtain ⟨e3, h⟩ := tx2_pre h
  obtain ⟨e4, h⟩ := tx2_pre h
  simp only [List.cons_append, List.nil_append] at h
  injection h with e5 h
  obtain ⟨e6, h⟩ := rawL_pre _ _ _ _ e5 hl.d hm.d h
  refine ⟨?_, h⟩
  have q1 : l.i = m.i := by have := hl.i0; have := hm.i0; omega
  have q2 : l.c = m.c := by have := hl.c0; have := hm.c0; omega
  obtain ⟨i, c, k, v, p⟩ := l
  obtain ⟨i', c', k', v', p'⟩ := m
  simp only at q1 q2 e3 e4 e6
  rw [q1, q2, e3, e4, e6]
theorem lsB_pre : ∀ (l m : List LfV) (r t : List Nat), l.length = m.length → (∀ x ∈ l, LfMay x) → (∀ x ∈ m, LfMay x) → lsB l ++ r = lsB m ++ t → l = m ∧ r = t
  | [], [], r, t, _, _, _, h => ⟨rfl, h⟩
  | d :: l, e :: m, r, t, hl, h1, h2, h => by
    unfold lsB at h
    rw [List.append_assoc, List.append_assoc] at h
    obtain ⟨h3, h4⟩ := lfB_pre (h1 d List.mem_cons_self) (h2 e List.mem_cons_self) h
    obtain ⟨h5, h6⟩ := lsB_pre l m r t (by simpa using hl) (fun x hx => h1 x (List.mem_cons_of_mem _ hx)) (fun x hx => h2 x (List.mem_cons_of_mem _ hx)) h4
    exact ⟨by rw [h3, h5], h6⟩
/-- unlike proofs have unlike bytes -/
theorem pfB_inj {p q : PfV} (hp : PfMay p) (hq : PfMay q) (h : pfB p = pfB q) : p = q := by
  unfold pfB at h
  simp only [List.cons_append, List.nil_append] at h
  injection h with h1 h2
  injection h2 with h3 h4
  obtain ⟨h5, -⟩ := lsB_pre p.ls q.ls [] [] h3 hp.2 hq.2 (by rw [List.append_nil, List.append_nil]; exact h4)
  obtain ⟨a, l⟩ := p
  obtain ⟨b, m⟩ := q
  simp only at h1 h5
  rw [h5]
  cases a <;> cases b <;> simp at h1 ⊢
/-- every byte is one -/
theorem rawL_lt : ∀ (l : List ByteArray), ∀ x ∈ rawL l, x < 256
  | [], x, h => by cases h
  | d :: l, x, h => by
    rcases List.mem_append.1 h with h | h
    · exact nl_lt d x h
    · exact rawL_lt l x h
theorem tx2_lt {s : ByteArray} (h : s.size < 65536) : ∀ x ∈ tx2 s, x < 256 := fun x hx => by
  unfold tx2 at hx
  rcases List.mem_append.1 hx with hx | hx
  · simp only [List.mem_cons, List.not_mem_nil, or_false] at hx
    rcases hx with rfl | rfl <;> omega
  · exact nl_lt s x hx
theorem rawL_append : ∀ (l m : List ByteArray), rawL (l ++ m) = rawL l ++ rawL m
  | [], m => rfl
  | d :: l, m => by
    show nl d ++ rawL (l ++ m) = nl d ++ rawL l ++ rawL m
    rw [rawL_append l m, List.append_assoc]
theorem lsB_append : ∀ (l m : List LfV), lsB (l ++ m) = lsB l ++ lsB m
  | [], m => rfl
  | d :: l, m => by
    show lfB d ++ lsB (l ++ m) = lfB d ++ lsB l ++ lsB m
    rw [lsB_append l m, List.append_assoc]
theorem lfB_lt {l : LfV} (h : LfMay l) : ∀ x ∈ lfB l, x < 256 := fun x hx => by
  unfold lfB at hx
  simp only [List.mem_append, List.mem_cons, List.not_mem_nil, or_false] at hx
  have hk := h.k
  have hv := h.v
  have hn := h.n
  rcases hx with hx | hx | hx | hx | rfl | hx
  · exact num8_lt _ x hx
  · exact num8_lt _ x hx
  · exact tx2_lt (by omega) x hx
  · exact tx2_lt (by omega) x hx
  · omega
  · exact rawL_lt _ x hx
theorem lsB_lt : ∀ (l : List LfV), (∀ y ∈ l, LfMay y) → ∀ x ∈ lsB l, x < 256
  | [], _, x, h => by cases h
  | d :: l, hl, x, h => by
    rcases List.mem_append.1 h with h | h
    · exact lfB_lt (hl d List.mem_cons_self) x h
    · exact lsB_lt l (fun y hy => hl y (List.mem_cons_of_mem _ hy)) x h
theorem pfB_lt {p : PfV} (h : PfMay p) : ∀ x ∈ pfB p, x < 256 := fun x hx => by
  unfold pfB at hx
  simp only [List.mem_append, List.mem_cons, List.not_mem_nil, or_false] at hx
  have h1 := h.1
  rcases hx with rfl | rfl | hx
  · split <;> decide
  · omega
  · exact lsB_lt _ h.2 x hx
open Classical in
/-- a proof's bytes, or refused -/
noncomputable def pfBytes (p : PfV) : ByteArray × Int := if PfMay p then (txt (pfB p), 0) else (⟨#[]⟩, 1)
open Classical in
/-- bytes' proof, or none -/
noncomputable def pfParse (s : ByteArray) : PfV × Int := if h : ∃ p, PfMay p ∧ pfB p = nl s then (h.choose, 0) else (⟨false, []⟩, 5)
theorem pfParse_some {p : PfV} {s : ByteArray} (hp : PfMay p) (h : pfB p = nl s) : pfParse s = (p, 0) := by
  have hx : ∃ p, PfMay p ∧ pfB p = nl s := ⟨p, hp, h⟩
  unfold pfParse
  rw [dif_pos hx]
  have hc := hx.choose_spec
  rw [pfB_inj hc.1 hp (hc.2.trans h.symm)]
theorem pfParse_none {s : ByteArray} (h : ∀ p, PfMay p → pfB p ≠ nl s) : pfParse s = (⟨false, []⟩, 5) := by
  unfold pfParse
  rw [dif_neg]
  rintro ⟨p, hp, e⟩
  exact h p hp e
/-- what is told of bytes, put again, is the bytes -/
theorem pfParse_back {s : ByteArray} {p : PfV} (h : pfParse s = (p, 0)) : PfMay p ∧ pfB p = nl s := by
  unfold pfParse at h
  split at h
  · rename_i hx
    injection h with h1 h2
    rw [← h1]
    exact hx.choose_spec
  · injection h with h1 h2
    cases h2
end Go.Proofs.YtclloplkbajebaaDoor
namespace Go.Proofs.YtclloplkbajebaaDoor
open Go.RowKit
set_option linter.unusedVariables false
theorem append_last {l : List ByteArray} (h : l.length ≠ 0) : l.take (l.length - 1) ++ [l.getD (l.length - 1) ⟨#[]⟩] = l := by
  have e := List.take_append_drop (l.length - 1) l
  rw [List.drop_eq_getElem_cons (by omega), List.drop_eq_nil_of_le (by omega)] at e
  rw [List.getD_eq_getElem?_getD, List.getElem?_eq_getElem (by omega)]
  exact e
/-- the path is the made one, or a clash -/
theorem path_only (p : PairV) (hp : p.1.size < 256) : ∀ (n : Nat) (l : List PairV) (i : Nat) (path : List ByteArray), l.length ≤ n → 1 ≤ l.length → i < l.length → (∀ s ∈ path, s.size = 32) → up p i l.length path = (digL l, true) → path = pathL l i ∨ Clash (askU p i l.length path ++ askL l) := by
  intro n
  induction n with
  | zero => intro l i path h h1; omega
  | succ n ih =>
    intro l i path h h1 hi hs hu
    by_cases h2 : l.length = 1
    · rw [h2, up_one, Prod.mk.injEq] at hu
      left
      rw [(pathL_one l i (by omega)).1]
      exact List.eq_nil_of_length_eq_zero (of_decide_eq_true hu.2)
    have k1 := leftN_pos l.length
    have k2 := leftN_lt l.length (by omega)
    by_cases hz : path.length = 0
    · rw [up_none p i _ path (by omega) hz, Prod.mk.injEq] at hu
      exact absurd hu.2 (by decide)
    have hm := up_many p i l.length path (by omega) hz
    have ha := askU_many p i l.length path (by omega)
    have al := askL_many l (by omega)
    have hd := digL_many l (by omega)
    have hpl := pathL_many l i (by omega)
    have hlast : (path.getD (path.length - 1) ⟨#[]⟩).size = 32 := by
      rw [List.getD_eq_getElem?_getD, List.getElem?_eq_getElem (by omega)]
      exact hs _ (List.getElem_mem _)
    have hs' : ∀ s ∈ path.take (path.length - 1), s.size = 32 := fun s h => hs s (List.mem_of_mem_take h)
    have hpe := append_last hz
    by_cases hlt : i < leftN l.length
    · have e1 := hm.1 hlt
      rw [e1, Prod.mk.injEq] at hu
      have hsz := (up_size p _ i (leftN l.length) (path.take (path.length - 1)) (Nat.le_refl _) k1).2 hu.2
      have hlen : (l.take (leftN l.length)).length = leftN l.length := by rw [List.length_take]; omega
      rcases apart_or (nodeT (up p i (leftN l.length) (path.take (path.length - 1))).1 (path.getD (path.length - 1) ⟨#[]⟩)) (nodeT (digL (l.take (leftN l.length))) (digL (l.drop (leftN l.length)))) (askU p i l.length path ++ askL l) (by rw [ha.1 hlt]; simp) (by rw [al]; simp) (by rw [hu.1, hd]) with e | e
      · have ht := nodeT_inj e hsz (digL_size _ (by omega))
        rcases ih (l.take (leftN l.length)) i (path.take (path.length - 1)) (by omega) (by omega) (by omega) hs' (by rw [hlen]; exact Prod.ext ht.1 hu.2) with g | g
        · left
          rw [(hpl.1 hlt).1, ← g, ← ht.2]
          exact hpe.symm
        · right
          rw [hlen] at g
          refine g.mono (fun t ht => ?_)
          rw [ha.1 hlt, al]
          rcases List.mem_append.1 ht with h | h <;> simp [h]
      · exact Or.inr e
    · have e1 := hm.2 hlt
      rw [e1, Prod.mk.injEq] at hu
      have hsz := (up_size p _ (i - leftN l.length) (l.length - leftN l.length) (path.take (path.length - 1)) (Nat.le_refl _) (by omega)).2 hu.2
      have hlen : (l.drop (leftN l.length)).length = l.length - leftN l.length := List.length_drop
      have hlt' : (l.take (leftN l.length)).length = leftN l.length := by rw [List.length_take]; omega
      rcases apart_or (nodeT (path.getD (path.length - 1) ⟨#[]⟩) (up p (i - leftN l.length) (l.length - leftN l.length) (path.take (path.length - 1))).1) (nodeT (digL (l.take (leftN l.length))) (digL (l.drop (leftN l.length)))) (askU p i l.length path ++ askL l) (by rw [ha.2 hlt]; simp) (by rw [al]; simp) (by rw [hu.1, hd]) with e | e
      · have ht := nodeT_inj e hlast (digL_size _ (by omega))
        rcases ih (l.drop (leftN l.length)) (i - leftN l.length) (path.take (path.length - 1)) (by omega) (by omega) (by omega) hs' (by rw [hlen]; exact Prod.ext ht.2 hu.2) with g | g
        · left
          rw [(hpl.2 hlt).1, ← g, ← ht.1]
          exact hpe.symm
        · right
          rw [hlen] at g
          refine g.mono (fun t ht => ?_)
          rw [ha.2 hlt, al]
          rcases List.mem_append.1 ht with h | h <;> simp [h]
      · exact Or.inr e
/-- to what a leaf climbs -/
def lfClimb (L : LfV) : ByteArray × Bool := climbV L.i L.c (L.k, L.v) L.p
def lfAsk (L : LfV) : List ByteArray := askC L.i L.c (L.k, L.v) L.p
def rootL (l : List PairV) : ByteArray := dgT (topT l.length (digL l))
/-- what climbs to a map's root is its leaf at that place, or a clash -/
theorem climb_sound (L : LfV) (l : List PairV) (hm : LfMay L) (hl : Small l) (h40 : l.length ≤ 4096) (hc : lfClimb L = (rootL l, true)) :
    Clash (lfAsk L ++ askR l) ∨ ∃ i : Nat, L.i = (i : Int) ∧ L.c = (l.length : Int) ∧ l[i]? = some (L.k, L.v) ∧ L.p = pathL l i := by
  unfold lfClimb climbV at hc
  by_cases hk : CliOk L.i L.c L.p ∧ (up (L.k, L.v) L.i.toNat L.c.toNat L.p).2 = true
  · rw [if_pos hk, Prod.mk.injEq] at hc
    obtain ⟨⟨c1, c2, c3, c4, c5⟩, hup⟩ := hk
    have ha : lfAsk L = topT L.c.toNat (up (L.k, L.v) L.i.toNat L.c.toNat L.p).1 :: askU (L.k, L.v) L.i.toNat L.c.toNat L.p := if_pos ⟨⟨c1, c2, c3, c4, c5⟩, hup⟩
    rcases apart_or (topT L.c.toNat (up (L.k, L.v) L.i.toNat L.c.toNat L.p).1) (topT l.length (digL l)) (lfAsk L ++ askR l) (by rw [ha]; simp) (by unfold askR; simp) hc.1 with e | e
    · obtain ⟨e1, e2⟩ := topT_inj e (by unfold M64; omega) (by unfold M64; omega)
      rw [e1] at hup e2 ha
      have hu : up (L.k, L.v) L.i.toNat l.length L.p = (digL l, true) := Prod.ext e2 hup
      have hks : (L.k, L.v).1.size < 256 := by have := hm.k; simp only; omega
      have hc1 : Clash (askU (L.k, L.v) L.i.toNat l.length L.p ++ askL l) → Clash (lfAsk L ++ askR l) := fun g => g.mono (fun t ht => by
        rw [ha]; unfold askR
        rcases List.mem_append.1 ht with h | h <;> simp [h])
      rcases sound (L.k, L.v) hks l.length l L.i.toNat L.p (Nat.le_refl _) (by omega) (by omega) hl c5 hu with g | g
      · rcases path_only (L.k, L.v) hks l.length l L.i.toNat L.p (Nat.le_refl _) (by omega) (by omega) c5 hu with g2 | g2
        · exact Or.inr ⟨L.i.toNat, by omega, by omega, g, g2⟩
        · exact Or.inl (hc1 g2)
      · exact Or.inl (hc1 g)
    · exact Or.inl e
  · rw [if_neg hk, Prod.mk.injEq] at hc
    cases hc.2
/-- a map's leaf -/
def mkLf (l : List PairV) (i : Nat) : LfV := ⟨(i : Int), (l.length : Int), (l.getD i (⟨#[]⟩, ⟨#[]⟩)).1, (l.getD i (⟨#[]⟩, ⟨#[]⟩)).2, pathL l i⟩
theorem mkLf_climb (l : List PairV) (i : Nat) (h : i < l.length) (hl : l.length ≤ 4096) : lfClimb (mkLf l i) = (rootL l, true) := by
  have hb := back l.length l i l[i] (Nat.le_refl _) (List.getElem?_eq_getElem h)
  unfold lfClimb climbV mkLf rootL
  simp only [Int.toNat_natCast]
  rw [getD_at h, show ((l[i].1, l[i].2) : PairV) = l[i] from rfl, hb, if_pos]
  exact ⟨⟨by omega, by omega, by omega, by omega, fun s hs => pathL_size _ l i (Nat.le_refl _) s hs⟩, rfl⟩
theorem mkLf_may (l : List PairV) (i : Nat) (h : i < l.length) (hl : l.length ≤ 40) (hs : ∀ p ∈ l, p.1.size ≤ 16 ∧ p.2.size ≤ 64) (hd : (pathL l i).length ≤ 16) : LfMay (mkLf l i) := by
  have h2 := hs l[i] (List.getElem_mem _)
  unfold mkLf
  rw [getD_at h]
  exact ⟨by simp only; omega, by simp only; omega, by simp only; omega, by simp only; omega, h2.1, h2.2, hd, fun x hx => pathL_size _ l i (Nat.le_refl _) x hx⟩
/-- a path's length -/
theorem pathL_dep : ∀ (n : Nat) (l : List PairV) (i : Nat), l.length ≤ n → (pathL l i).length = dep i l.length := by
  intro n
  induction n with
  | zero => intro l i h; rw [(pathL_one l i (by omega)).1, dep_one i _ (by omega)]; rfl
  | succ n ih =>
    intro l i h
    by_cases h1 : l.length ≤ 1
    · rw [(pathL_one l i h1).1, dep_one i _ h1]; rfl
    have k1 := leftN_pos l.length
    have k2 := leftN_lt l.length (by omega)
    have hm := pathL_many l i (by omega)
    have hd := dep_many i l.length (by omega)
    by_cases hi : i < leftN l.length
    · rw [(hm.1 hi).1, hd.1 hi, List.length_append, ih _ _ (by rw [List.length_take]; omega), List.length_take, Nat.min_eq_left (by omega)]; rfl
    · rw [(hm.2 hi).1, hd.2 hi, List.length_append, ih _ _ (by rw [List.length_drop]; omega), List.length_drop]; rfl
theorem dep_log : ∀ (k i c : Nat), c ≤ 2 ^ k → dep i c ≤ k := by
  intro k
  induction k with
  | zero => intro i c h; rw [dep_one i c (by simpa using h)]; exact Nat.zero_le _
  | succ k ih =>
    intro i c h
    by_cases h1 : c ≤ 1
    · rw [dep_one i c h1]; exact Nat.zero_le _
    have k1 := leftN_pos c
    have k2 := leftN_lt c (by omega)
    have k3 : leftN c ≤ 2 ^ k := by
      have : Nat.log2 (c - 1) < k + 1 := (Nat.log2_lt (by omega)).2 (by omega)
      exact Nat.pow_le_pow_right (by omega) (by omega)
    have k4 := leftN_ge c (by omega)
    have hd := dep_many i c (by omega)
    by_cases hi : i < leftN c
    · rw [hd.1 hi]; have := ih i (leftN c) k3; omega
    · rw [hd.2 hi]; have := ih (i - leftN c) (c - leftN c) (by omega); omega
theorem pathL_few (l : List PairV) (i : Nat) (h : l.length ≤ 40) : (pathL l i).length ≤ 6 := by
  rw [pathL_dep _ l i (Nat.le_refl _)]
  exact dep_log 6 i _ (by omega)
end Go.Proofs.YtclloplkbajebaaDoor
namespace Go.Proofs.YtclloplkbajebaaDoor
open Go.RowKit
set_option linter.unusedVariables false
theorem bl_irr : ∀ x : List UInt8, Op.bytesLess x x = false
  | [] => rfl
  | a :: x => by
    have ih := bl_irr x
    have h1 : ¬ a < a := fun h => by have := UInt8.lt_iff_toNat_lt.1 h; omega
    simp [Op.bytesLess, h1, ih]
theorem bl_trans : ∀ x y z : List UInt8, Op.bytesLess x y = true → Op.bytesLess y z = true → Op.bytesLess x z = true
  | x, [], z, h1, h2 => by cases x <;> simp [Op.bytesLess] at h1
  | x, b :: y, [], h1, h2 => by simp [Op.bytesLess] at h2
  | [], b :: y, c :: z, h1, h2 => by simp [Op.bytesLess]
  | a :: x, b :: y, c :: z, h1, h2 => by
    have ih := bl_trans x y z
    simp only [Op.bytesLess, Bool.or_eq_true, Bool.and_eq_true, decide_eq_true_eq, beq_iff_eq] at h1 h2 ⊢
    rcases h1 with h1 | ⟨rfl, h1⟩
    · rcases h2 with h2 | ⟨rfl, h2⟩
      · left
        have := UInt8.lt_iff_toNat_lt.1 h1
        have := UInt8.lt_iff_toNat_lt.1 h2
        exact UInt8.lt_iff_toNat_lt.2 (by omega)
      · exact Or.inl h1
    · rcases h2 with h2 | ⟨rfl, h2⟩
      · exact Or.inl h2
      · exact Or.inr ⟨rfl, ih h1 h2⟩
theorem toList_inj {a b : ByteArray} (h : a.toList = b.toList) : a = b := by
  apply nl_inj
  rw [Lib.toList_data, Lib.toList_data] at h
  unfold nl
  rw [h]
theorem lt_irr (a : ByteArray) : ltT a a = false := bl_irr _
theorem lt_trans {a b c : ByteArray} (h1 : ltT a b = true) (h2 : ltT b c = true) : ltT a c = true := bl_trans _ _ _ h1 h2
theorem lt_asym {a b : ByteArray} (h : ltT a b = true) : ltT b a = false := by
  cases e : ltT b a with
  | false => rfl
  | true => have := lt_trans h e; rw [lt_irr] at this; cases this
/-- neither lower nor alike: higher -/
theorem lt_tri {a b : ByteArray} (h1 : ltT a b = false) (h2 : a ≠ b) : ltT b a = true := by
  have h := less_not a.toList b.toList
  unfold ltT at h1 ⊢
  rw [h1] at h
  have h3 : (b.toList == a.toList) = false := by rw [beq_eq_false_iff_ne]; exact fun e => h2 (toList_inj e).symm
  rw [h3] at h
  simpa using h.symm
def SortL (l : List PairV) : Prop := l.Pairwise (fun a b => ltT a.1 b.1 = true)
theorem sort_step : ∀ (l : List PairV), (∀ i (h : i + 1 < l.length), ltT l[i].1 l[i + 1].1 = true) → SortL l
  | [], _ => List.Pairwise.nil
  | [a], _ => by unfold SortL; simp
  | a :: b :: l, h => by
    have h1 : SortL (b :: l) := sort_step (b :: l) (fun i hi => by have := h (i + 1) (by simp at hi ⊢; omega); simpa using this)
    have h0 : ltT a.1 b.1 = true := h 0 (by simp)
    refine List.Pairwise.cons (fun c hc => ?_) h1
    rcases List.mem_cons.1 hc with rfl | hc
    · exact h0
    · exact lt_trans h0 (List.rel_of_pairwise_cons h1 hc)
theorem chk_sorted {l : List PairV} (h : chkE l = 0) : SortL l := by
  refine sort_step l (fun i hi => ?_)
  unfold chkE at h
  by_cases hb : l.any badB = true
  · rw [if_pos hb] at h; cases h
  rw [if_neg hb] at h
  by_cases ho : ordB l = true
  · have := List.all_eq_true.1 ho i (List.mem_range.2 (by omega))
    rwa [getD_at (by omega), getD_at hi] at this
  · rw [if_neg ho] at h; cases h
theorem SortL.lt {l : List PairV} (h : SortL l) {i j : Nat} (hij : i < j) (hj : j < l.length) : ltT (l[i]'(by omega)).1 l[j].1 = true := List.pairwise_iff_getElem.1 h i j (by omega) hj hij
/-- how many keys are lower -/
def plc (l : List PairV) (key : ByteArray) : Nat := (l.filter fun p => ltT p.1 key).length
theorem plc_le (l : List PairV) (key : ByteArray) : plc l key ≤ l.length := List.length_filter_le _ _
theorem plc_none : ∀ (l : List PairV) (key : ByteArray), (∀ p ∈ l, ltT p.1 key = false) → plc l key = 0
  | [], _, _ => rfl
  | a :: l, key, h => by
    unfold plc
    have h0 := h a List.mem_cons_self
    have h1 := plc_none l key (fun p hp => h p (List.mem_cons_of_mem _ hp))
    unfold plc at h1
    simpa [List.filter_cons, h0] using h1
theorem plc_at : ∀ (l : List PairV) (key : ByteArray), SortL l → ∀ i (h : i < l.length), ltT l[i].1 key = decide (i < plc l key)
  | [], _, _, i, h => by cases h
  | a :: l, key, hs, i, h => by
    have hs' : SortL l := (List.pairwise_cons.1 hs).2
    by_cases ha : ltT a.1 key = true
    · have hp : plc (a :: l) key = plc l key + 1 := by unfold plc; simp [ha]
      cases i with
      | zero => rw [hp]; simpa using ha
      | succ i =>
        have hil : i < l.length := by simpa using h
        have h3 : ltT (l[i]'hil).1 key = decide (i < plc l key) := plc_at l key hs' i hil
        rw [hp]
        show ltT (l[i]'hil).1 key = _
        rw [h3, decide_eq_decide]
        omega
    · have hn : ∀ p ∈ l, ltT p.1 key = false := fun p hp => by
        cases e : ltT p.1 key with
        | false => rfl
        | true => exact absurd (lt_trans (List.rel_of_pairwise_cons hs hp) e) ha
      have hp : plc (a :: l) key = 0 := plc_none _ _ (fun p hp => by
        rcases List.mem_cons.1 hp with rfl | hp
        · simpa using ha
        · exact hn p hp)
      rw [hp]
      have := List.getElem_mem h
      rcases List.mem_cons.1 this with e | e
      · rw [e]; simpa using ha
      · rw [hn _ e]; simp
theorem plc_snoc (l : List PairV) (key : ByteArray) (j : Nat) (h : j < l.length) : plc (l.take (j + 1)) key = plc (l.take j) key + if ltT l[j].1 key = true then 1 else 0 := by
  unfold plc
  rw [List.take_succ_eq_append_getElem h, List.filter_append, List.length_append]
  by_cases e : ltT l[j].1 key = true
  · simp [e]
  · simp [e]
/-- is the key there? -/
def isIn (l : List PairV) (key : ByteArray) : Bool := decide (∃ h : plc l key < l.length, l[plc l key].1 = key)
theorem isIn_iff {l : List PairV} (hs : SortL l) (key : ByteArray) : isIn l key = true ↔ ∃ i, ∃ h : i < l.length, l[i].1 = key := by
  unfold isIn
  rw [decide_eq_true_iff]
  refine ⟨fun ⟨h, e⟩ => ⟨_, h, e⟩, fun ⟨i, h, e⟩ => ?_⟩
  have h1 : i = plc l key := by
    have a := plc_at l key hs i h
    rw [e, lt_irr] at a
    have a1 : ¬ i < plc l key := of_decide_eq_false a.symm
    rcases Nat.lt_or_ge (plc l key) i with g | g
    · have b := plc_at l key hs (plc l key) (by omega)
      have c := hs.lt g h
      rw [e, b] at c
      exact absurd (of_decide_eq_true c) (Nat.lt_irrefl _)
    · omega
  subst h1
  exact ⟨h, e⟩
theorem at_one {l : List PairV} (hs : SortL l) {i j : Nat} (hi : i < l.length) (hj : j < l.length) (h : l[i].1 = l[j].1) : i = j := by
  rcases Nat.lt_trichotomy i j with g | g | g
  · have := hs.lt g hj; rw [h, lt_irr] at this; cases this
  · exact g
  · have := hs.lt g hi; rw [h, lt_irr] at this; cases this
end Go.Proofs.YtclloplkbajebaaDoor
namespace Go.Proofs.YtclloplkbajebaaDoor
open Go.RowKit
set_option linter.unusedVariables false
/-- do all leaves climb to a root? -/
def clB (root : ByteArray) (ls : List LfV) : Bool := ls.all fun L => decide (lfClimb L = (root, true))
def isKeyB (key : ByteArray) : Bool := decide (1 ≤ key.size ∧ key.size ≤ 16)
def outB (key : ByteArray) (L : LfV) : Bool := (ltT key L.k && decide (L.i = 0)) || (ltT L.k key && decide (L.i = L.c - 1))
def betB (key : ByteArray) (L H : LfV) : Bool := ((decide (L.c = H.c) && decide (L.i + 1 = H.i)) && ltT L.k key) && ltT key H.k
/-- does a proof prove that a pair is there? -/
def hasP (root key value : ByteArray) (p : PfV) : Bool :=
  match p.ab, p.ls with
  | false, [L] => decide (L.k = key ∧ L.v = value) && clB root [L]
  | _, _ => false
/-- .. that a key isn't? -/
def lacksP (root key : ByteArray) (p : PfV) : Bool :=
  match p.ab, p.ls with
  | true, [] => isKeyB key && decide (root = rootL [])
  | true, [L] => (isKeyB key && outB key L) && clB root [L]
  | true, [L, H] => (isKeyB key && betB key L H) && clB root [L, H]
  | _, _ => false
/-- the texts that are digested where leaves climb -/
def askCl : List LfV → List ByteArray → List ByteArray
  | [], T => T
  | L :: ls, T => askCl ls (lfAsk L ++ T)
theorem askCl_old : ∀ (ls : List LfV) (T : List ByteArray) {t : ByteArray}, t ∈ T → t ∈ askCl ls T
  | [], T, t, h => h
  | L :: ls, T, t, h => askCl_old ls _ (List.mem_append_right _ h)
theorem askCl_new : ∀ (ls : List LfV) (T : List ByteArray) (L : LfV) {t : ByteArray}, L ∈ ls → t ∈ lfAsk L → t ∈ askCl ls T
  | K :: ls, T, L, t, hL, h => by
    rcases List.mem_cons.1 hL with rfl | hL
    · exact askCl_old ls _ (List.mem_append_left _ h)
    · exact askCl_new ls _ L hL h
theorem lfAsk_len (L : LfV) : (lfAsk L).length ≤ 18 + L.p.length := by
  unfold lfAsk askC
  by_cases h : CliOk L.i L.c L.p ∧ (up (L.k, L.v) L.i.toNat L.c.toNat L.p).2 = true
  · rw [if_pos h, List.length_cons, askU_len _ _ _ _ _ (Nat.le_refl _) (by have := h.1.1; omega)]
    have e := up_ok (L.k, L.v) _ L.i.toNat L.c.toNat L.p (Nat.le_refl _) (by have := h.1.1; omega)
    rw [h.2] at e
    have := of_decide_eq_true e.symm
    omega
  · rw [if_neg h]; simp
theorem askCl_len : ∀ (ls : List LfV) (T : List ByteArray), (∀ L ∈ ls, L.p.length ≤ 16) → (askCl ls T).length ≤ T.length + 34 * ls.length
  | [], T, _ => by simp [askCl]
  | L :: ls, T, h => by
    have h1 := askCl_len ls (lfAsk L ++ T) (fun K hK => h K (List.mem_cons_of_mem _ hK))
    have h2 := lfAsk_len L
    have h3 := h L List.mem_cons_self
    rw [List.length_append] at h1
    simp only [askCl, List.length_cons]
    omega
theorem clB_all {root : ByteArray} {ls : List LfV} (h : clB root ls = true) : ∀ L ∈ ls, lfClimb L = (root, true) := fun L hL => of_decide_eq_true (List.all_eq_true.1 h L hL)
theorem small_of {l : List PairV} (h : chkE l = 0) : Small l := fun p hp => by have := chk_small h p hp; omega
theorem leaf_of {l : List PairV} {L : LfV} {T : List ByteArray} {ls : List LfV} (hL : L ∈ ls) (hm : LfMay L) (hc : chkE l = 0) (h40 : l.length ≤ 40) (hT : ∀ t ∈ askR l, t ∈ T) (hcl : lfClimb L = (rootL l, true)) :
    Clash (askCl ls T) ∨ ∃ i : Nat, ∃ h : i < l.length, L = mkLf l i ∧ L.i = (i : Int) ∧ L.c = (l.length : Int) ∧ L.k = l[i].1 ∧ L.v = l[i].2 := by
  rcases climb_sound L l hm (small_of hc) (by omega) hcl with g | ⟨i, h1, h2, h3, h4⟩
  · left
    refine g.mono (fun t ht => ?_)
    rcases List.mem_append.1 ht with h | h
    · exact askCl_new ls T L hL h
    · exact askCl_old ls T (hT t h)
  · right
    obtain ⟨hi, he⟩ := List.getElem?_eq_some_iff.1 h3
    have k1 : L.k = l[i].1 := by rw [he]
    have k2 : L.v = l[i].2 := by rw [he]
    refine ⟨i, hi, ?_, h1, h2, k1, k2⟩
    obtain ⟨a, b, c, d, p⟩ := L
    simp only at h1 h2 k1 k2 h4
    unfold mkLf
    rw [getD_at hi, h1, h2, k1, k2, h4]
theorem has_sound {l : List PairV} {p : PfV} {key value : ByteArray} {T : List ByteArray} (hm : PfMay p) (hc : chkE l = 0) (h40 : l.length ≤ 40) (hT : ∀ t ∈ askR l, t ∈ T) (h : hasP (rootL l) key value p = true) :
    Clash (askCl p.ls T) ∨ ∃ i : Nat, ∃ hi : i < l.length, p = ⟨false, [mkLf l i]⟩ ∧ l[i] = (key, value) := by
  obtain ⟨ab, ls⟩ := p
  cases ab with
  | true => simp [hasP] at h
  | false =>
    match ls, h with
    | [L], h =>
      unfold hasP at h
      simp only [Bool.and_eq_true, decide_eq_true_eq] at h
      obtain ⟨⟨rfl, rfl⟩, hcl⟩ := h
      rcases leaf_of (L := L) (T := T) (ls := [L]) (by simp) (hm.2 L (by simp)) hc h40 hT (clB_all hcl L (by simp)) with g | ⟨i, hi, e, _, _, k1, k2⟩
      · exact Or.inl g
      · refine Or.inr ⟨i, hi, ?_, ?_⟩
        · show (⟨false, [L]⟩ : PfV) = _
          rw [← e]
        · rw [k1, k2]
    | [], h => simp [hasP] at h
    | _ :: _ :: _, h => simp [hasP] at h
theorem lacks_sound {l : List PairV} {p : PfV} {key : ByteArray} {T : List ByteArray} (hm : PfMay p) (hc : chkE l = 0) (h40 : l.length ≤ 40) (hT : ∀ t ∈ askR l, t ∈ T) (hN : topT 0 ⟨#[]⟩ ∈ T) (h : lacksP (rootL l) key p = true) :
    Clash (askCl p.ls T) ∨ ∀ i (hi : i < l.length), l[i].1 ≠ key := by
  have hs := chk_sorted hc
  obtain ⟨ab, ls⟩ := p
  cases ab with
  | false => simp [lacksP] at h
  | true =>
    match ls, h with
    | [], h =>
      unfold lacksP at h
      simp only [Bool.and_eq_true, decide_eq_true_eq] at h
      obtain ⟨_, he⟩ := h
      have hd : dgT (topT l.length (digL l)) = dgT (topT 0 ⟨#[]⟩) := he
      rcases apart_or _ _ (askCl [] T) (askCl_old [] T (hT _ (by unfold askR; simp))) (askCl_old [] T hN) hd with e | e
      · right
        have := (topT_inj e (by unfold M64; omega) (by unfold M64; omega)).1
        exact fun i hi => by omega
      · exact Or.inl e
    | [L], h =>
      unfold lacksP at h
      simp only [Bool.and_eq_true] at h
      obtain ⟨⟨_, ho⟩, hcl⟩ := h
      rcases leaf_of (L := L) (T := T) (ls := [L]) (by simp) (hm.2 L (by simp)) hc h40 hT (clB_all hcl L (by simp)) with g | ⟨i, hi, e, e1, e2, k1, _⟩
      · exact Or.inl g
      · right
        intro j hj hk
        unfold outB at ho
        rw [e1, e2, k1] at ho
        simp only [Bool.or_eq_true, Bool.and_eq_true, decide_eq_true_eq] at ho
        rcases ho with ⟨h1, h2⟩ | ⟨h1, h2⟩
        · rcases Nat.lt_or_ge i j with g | g
          · have a := hs.lt g hj
            rw [hk] at a
            rw [lt_asym a] at h1; cases h1
          · obtain rfl : j = i := by omega
            rw [hk, lt_irr] at h1; cases h1
        · rcases Nat.lt_or_ge j i with g | g
          · have a := hs.lt g hi
            rw [hk] at a
            rw [lt_asym a] at h1; cases h1
          · obtain rfl : j = i := by omega
            rw [hk, lt_irr] at h1; cases h1
    | [L, H], h =>
      unfold lacksP at h
      simp only [Bool.and_eq_true] at h
      obtain ⟨⟨_, hb⟩, hcl⟩ := h
      rcases leaf_of (L := L) (T := T) (ls := [L, H]) (by simp) (hm.2 L (by simp)) hc h40 hT (clB_all hcl L (by simp)) with g | ⟨i, hi, e, e1, e2, k1, _⟩
      · exact Or.inl g
      rcases leaf_of (L := H) (T := T) (ls := [L, H]) (by simp) (hm.2 H (by simp)) hc h40 hT (clB_all hcl H (by simp)) with g | ⟨i', hi', e', e1', e2', k1', _⟩
      · exact Or.inl g
      right
      intro j hj hk
      unfold betB at hb
      rw [e1, e1', k1, k1'] at hb
      simp only [Bool.and_eq_true, decide_eq_true_eq] at hb
      obtain ⟨⟨⟨_, h2⟩, h3⟩, h4⟩ := hb
      obtain rfl : i' = i + 1 := by omega
      rcases Nat.lt_or_ge i j with g | g
      · rcases Nat.lt_or_ge (i + 1) j with g' | g'
        · have a := hs.lt g' hj
          rw [hk] at a
          rw [lt_asym a] at h4; cases h4
        · obtain rfl : j = i + 1 := by omega
          rw [hk, lt_irr] at h4; cases h4
      · rcases Nat.lt_or_ge j i with g' | g'
        · have a := hs.lt g' hi
          rw [hk] at a
          rw [lt_asym a] at h3; cases h3
        · obtain rfl : j = i := by omega
          rw [hk, lt_irr] at h3; cases h3
    | _ :: _ :: _ :: _, h => simp [lacksP] at h
/-- the proof that a key is there; that it isn't -/
def pfHas (l : List PairV) (key : ByteArray) : PfV := ⟨false, [mkLf l (plc l key)]⟩
def pfNot (l : List PairV) (key : ByteArray) : PfV := ⟨true, (if plc l key = 0 then [] else [mkLf l (plc l key - 1)]) ++ (if plc l key < l.length then [mkLf l (plc l key)] else [])⟩
end Go.Proofs.YtclloplkbajebaaDoor
namespace Go.Proofs.YtclloplkbajebaaDoor
open Go.RowKit
set_option linter.unusedVariables false
/-- texts in memory, none of them in a block of S -/
def TxN (w : World) (S : Nat → Prop) (A : Option Addr) (l : List ByteArray) : Prop := ∀ i (h : i < l.length), ∃ g o, A = some ⟨g, o, none⟩ ∧ ¬ S g ∧ g < w.heap.size ∧ w.cell? ⟨g, o + i, none⟩ = some (.string l[i])
section
variable {w w' : World} {S T : Nat → Prop} {A : Option Addr} {l : List ByteArray}
theorem TxN.nil : TxN w S A [] := fun i h => absurd h (Nat.not_lt_zero _)
theorem TxN.parts (h : TxN w S A l) : PartsAt w A l := fun j hj => by
  obtain ⟨b, off, rfl, _, h1, h2⟩ := h j hj
  exact ⟨b, off, rfl, h1, h2⟩
theorem TxN.strs (h : TxN w S A l) : StrsAt w A l := ⟨fun j hj => by
  obtain ⟨b, off, rfl, _, h1, h2⟩ := h j hj
  exact ⟨b, off, rfl, h1, h2⟩⟩
theorem TxN.o {lo hi : Nat} (h : TxN w S A l) (hS : ∀ k, lo ≤ k → k < hi → S k) : TxO w lo hi A l := fun j hj => by
  obtain ⟨b, off, rfl, h0, h1, h2⟩ := h j hj
  refine ⟨b, off, rfl, ?_, h1, h2⟩
  by_cases hb : lo ≤ b ∧ b < hi
  · exact absurd (hS b hb.1 hb.2) h0
  · omega
theorem TxN.keeps (h : TxN w S A l) (hk : Kq.Keeps T w w') (hT : ∀ k, k < w.heap.size → T k → S k) : TxN w' S A l := fun j hj => by
  obtain ⟨b, off, rfl, h0, h1, h2⟩ := h j hj
  exact ⟨b, off, rfl, h0, Nat.lt_of_lt_of_le h1 hk.size, by rw [World.cell?_of_block (hk.block b h1 (fun hs => h0 (hT b h1 hs)))]; exact h2⟩
theorem TxN.below (h : TxN w S A l) (hb : Below w.heap.size w w') : TxN w' S A l :=
  h.keeps (Kq.Keeps.of_below (S := fun _ => False) hb (fun k h1 h2 => absurd h1 (Nat.not_le.2 h2))) (fun k _ hk => hk.elim)
theorem TxN.mono (h : TxN w S A l) (hT : ∀ k, k < w.heap.size → T k → S k) : TxN w T A l := fun j hj => by
  obtain ⟨b, off, rfl, h0, h1, h2⟩ := h j hj
  exact ⟨b, off, rfl, fun ht => h0 (hT b h1 ht), h1, h2⟩
end
/-- a leaf as it lies in memory: with its path's slice -/
structure LfW where
  l : LfV
  a : Option Addr
  cap : Nat
def LfW.cells (x : LfW) : List Value := [.int .i64 x.l.i, .int .i64 x.l.c, .string x.l.k, .string x.l.v, .slice x.a x.l.p.length x.cap]
def LfW.val (x : LfW) : Value := .agg #[.int .i64 x.l.i, .int .i64 x.l.c, .string x.l.k, .string x.l.v, .slice x.a x.l.p.length x.cap]
def LfE : Kq.Elt LfW := ⟨5, LfW.cells, fun _ => rfl, fun x u hu => by
  simp only [LfW.cells, List.mem_cons, List.not_mem_nil, or_false] at hu
  rcases hu with rfl | rfl | rfl | rfl | rfl <;> rfl, by decide⟩
structure IsLf (w : World) (b o : Nat) (x : LfW) : Prop where
  c0 : w.cell? ⟨b, o, none⟩ = some (.int .i64 x.l.i)
  c1 : w.cell? ⟨b, o + 1, none⟩ = some (.int .i64 x.l.c)
  c2 : w.cell? ⟨b, o + 2, none⟩ = some (.string x.l.k)
  c3 : w.cell? ⟨b, o + 3, none⟩ = some (.string x.l.v)
  c4 : w.cell? ⟨b, o + 4, none⟩ = some (.slice x.a x.l.p.length x.cap)
/-- leaves in memory, with their paths, none of them in a block of S -/
def LfsN (w : World) (S : Nat → Prop) (A : Option Addr) (ls : List LfW) : Prop := ∀ i (h : i < ls.length), ∃ b off, A = some ⟨b, off, none⟩ ∧ ¬ S b ∧ b < w.heap.size ∧ IsLf w b (off + i * 5) ls[i] ∧ TxN w S ls[i].a ls[i].l.p ∧ ls[i].l.p.length ≤ ls[i].cap
def vals (ls : List LfW) : List LfV := ls.map LfW.l
theorem vals_len (ls : List LfW) : (vals ls).length = ls.length := List.length_map _
section
variable {w w' : World} {S T : Nat → Prop} {A : Option Addr} {ls : List LfW} {x : LfW} {b o : Nat}
theorem IsLf.blk (h : IsLf w b o x) (hb : w'.heap[b]? = w.heap[b]?) : IsLf w' b o x :=
  ⟨by rw [World.cell?_of_block hb]; exact h.c0, by rw [World.cell?_of_block hb]; exact h.c1, by rw [World.cell?_of_block hb]; exact h.c2, by rw [World.cell?_of_block hb]; exact h.c3, by rw [World.cell?_of_block hb]; exact h.c4⟩
theorem LfsN.nil : LfsN w S A [] := fun i h => absurd h (Nat.not_lt_zero _)
theorem LfsN.keeps (h : LfsN w S A ls) (hk : Kq.Keeps T w w') (hT : ∀ k, k < w.heap.size → T k → S k) : LfsN w' S A ls := fun j hj => by
  obtain ⟨b, off, rfl, h0, h1, h2, h3, h4⟩ := h j hj
  exact ⟨b, off, rfl, h0, Nat.lt_of_lt_of_le h1 hk.size, h2.blk (hk.block b h1 (fun hs => h0 (hT b h1 hs))), h3.keeps hk hT, h4⟩
theorem LfsN.below (h : LfsN w S A ls) (hb : Below w.heap.size w w') : LfsN w' S A ls :=
  h.keeps (Kq.Keeps.of_below (S := fun _ => False) hb (fun k h1 h2 => absurd h1 (Nat.not_le.2 h2))) (fun k _ hk => hk.elim)
theorem LfsN.mono (h : LfsN w S A ls) (hT : ∀ k, k < w.heap.size → T k → S k) : LfsN w T A ls := fun j hj => by
  obtain ⟨b, off, rfl, h0, h1, h2, h3, h4⟩ := h j hj
  exact ⟨b, off, rfl, fun ht => h0 (hT b h1 ht), h1, h2, h3.mono hT, h4⟩
/-- out of a row of the call's own, and its paths -/
theorem LfsN.of (h : LfE.At w A ls) (hS : ∀ b off, A = some ⟨b, off, none⟩ → b < w.heap.size → ¬ S b) (hp : ∀ x ∈ ls, TxN w S x.a x.l.p ∧ x.l.p.length ≤ x.cap) : LfsN w S A ls := fun j hj => by
  obtain ⟨b, off, rfl, h1, h2⟩ := h j hj
  have hx := hp ls[j] (List.getElem_mem _)
  exact ⟨b, off, rfl, hS b off rfl h1, h1, ⟨h2 0 (by decide), h2 1 (by decide), h2 2 (by decide), h2 3 (by decide), h2 4 (by decide)⟩, hx.1, hx.2⟩
end
/-- a proof's value -/
def pfVal (ab : Bool) (A : Option Addr) (n cap : Nat) : Value := .agg #[.bool ab, .slice A n cap]
/-- what a call tells that tells a proof and a code -/
def PfPost (w : World) (r : PfV × Int) (x : Ending) (w' : World) : Prop :=
  ∃ A cap ls, x = .returned (.tuple #[.agg #[.bool r.1.ab, .slice A (List.length ls) cap], .int .i64 r.2]) ∧ vals ls = r.1.ls ∧ ls.length ≤ cap ∧ LfsN w' (fun k => k < w.heap.size) A ls ∧ Below w.heap.size w w'
end Go.Proofs.YtclloplkbajebaaDoor
