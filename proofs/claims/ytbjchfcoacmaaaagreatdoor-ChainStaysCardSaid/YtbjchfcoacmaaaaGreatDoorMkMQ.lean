/- Plain mathematics of merkle: digests of maps, paths, climbs. No condition. -/
import Derived.Test.YtbjchfcoacmaaaaGreatDoorShOneQ
import Derived.Test.YtbjchfcoacmaaaaGreatDoorNtValQ
import Derived.Lib.BitFns
namespace Go.Proofs.YtbjchfcoacmaaaaGreatDoor
open Go.RowKit
set_option linter.unusedVariables false
abbrev PairV := ByteArray × ByteArray
def oneT (n : Nat) : ByteArray := txt [n % 256]
def leafT (p : PairV) : ByteArray := (((⟨#[0]⟩ ++ oneT p.1.size) ++ p.1) ++ oneT p.2.size) ++ p.2
def nodeT (a b : ByteArray) : ByteArray := (⟨#[1]⟩ ++ a) ++ b
def topT (n : Nat) (d : ByteArray) : ByteArray := (⟨#[2]⟩ ++ txt (num8 n)) ++ d
/-- how many of n go to the left -/
def leftN (n : Nat) : Nat := 2 ^ (Nat.log2 (n - 1))
theorem leftN_pos (n : Nat) : 1 ≤ leftN n := Nat.one_le_two_pow
theorem leftN_lt (n : Nat) (h : 2 ≤ n) : leftN n < n := by
  have := Nat.log2_self_le (n := n - 1) (by omega)
  unfold leftN; omega
theorem leftN_ge (n : Nat) (h : 2 ≤ n) : n ≤ leftN n * 2 := by
  have := Nat.lt_log2_self (n := n - 1)
  unfold leftN
  rw [Nat.pow_succ] at this; omega
theorem bitLen_log : ∀ (m n : Nat), n ≤ m → 1 ≤ n → n < 2 ^ 64 → Lib.bitLen n = Nat.log2 n + 1 := by
  intro m
  induction m with
  | zero => intro n h1 h2; omega
  | succ m ih =>
    intro n h1 h2 h3
    rw [Lib.bitLen_half n (by omega) h3]
    by_cases h : n = 1
    · subst h; rfl
    · rw [ih (n / 2) (by omega) (by omega) (by omega)]
      have : Nat.log2 n = Nat.log2 (n / 2) + 1 := by rw [Nat.log2_def n, if_pos (by omega)]
      omega
/-- the digest of pairs -/
def digF : Nat → List PairV → ByteArray
  | 0, _ => ⟨#[]⟩
  | f + 1, l => if l.length = 0 then ⟨#[]⟩ else if l.length = 1 then dgT (leafT (l.headD (⟨#[]⟩, ⟨#[]⟩))) else dgT (nodeT (digF f (l.take (leftN l.length))) (digF f (l.drop (leftN l.length))))
theorem digF_fuel : ∀ (f g : Nat) (l : List PairV), l.length ≤ f → l.length ≤ g → digF f l = digF g l := by
  intro f
  induction f with
  | zero =>
    intro g l h1 h2
    obtain rfl : l = [] := List.eq_nil_of_length_eq_zero (by omega)
    cases g <;> rfl
  | succ f ih =>
    intro g l h1 h2
    cases g with
    | zero =>
      obtain rfl : l = [] := List.eq_nil_of_length_eq_zero (by omega)
      rfl
    | succ g =>
      simp only [digF]
      by_cases h0 : l.length = 0
      · rw [if_pos h0, if_pos h0]
      · rw [if_neg h0, if_neg h0]
        by_cases h3 : l.length = 1
        · rw [if_pos h3, if_pos h3]
        · rw [if_neg h3, if_neg h3]
          have k1 := leftN_pos l.length
          have k2 := leftN_lt l.length (by omega)
          rw [ih g (l.take _) (by rw [List.length_take]; omega) (by rw [List.length_take]; omega), ih g (l.drop _) (by rw [List.length_drop]; omega) (by rw [List.length_drop]; omega)]
def digL (l : List PairV) : ByteArray := digF l.length l
theorem digL_one (p : PairV) : digL [p] = dgT (leafT p) := rfl
theorem digL_many (l : List PairV) (h : 2 ≤ l.length) : digL l = dgT (nodeT (digL (l.take (leftN l.length))) (digL (l.drop (leftN l.length)))) := by
  have k1 := leftN_pos l.length
  have k2 := leftN_lt l.length h
  have e : digL l = digF (l.length - 1 + 1) l := by unfold digL; rw [Nat.sub_add_cancel (by omega)]
  rw [e]
  simp only [digF]
  rw [if_neg (by omega), if_neg (by omega)]
  unfold digL
  rw [digF_fuel (l.length - 1) (l.take _).length (l.take _) (by rw [List.length_take]; omega) (Nat.le_refl _), digF_fuel (l.length - 1) (l.drop _).length (l.drop _) (by rw [List.length_drop]; omega) (Nat.le_refl _)]
theorem digL_size (l : List PairV) (h : 1 ≤ l.length) : (digL l).size = 32 := by
  by_cases h1 : l.length = 1
  · obtain ⟨p, rfl⟩ := List.length_eq_one_iff.1 h1
    exact dgT_size _
  · rw [digL_many l (by omega)]; exact dgT_size _
theorem digL_small (l : List PairV) : (digL l).size ≤ 32 := by
  by_cases h : 1 ≤ l.length
  · rw [digL_size l h]; exact Nat.le_refl _
  · obtain rfl : l = [] := List.eq_nil_of_length_eq_zero (by omega)
    exact Nat.zero_le _
/-- the texts that are digested for it, the last one first -/
def askF : Nat → List PairV → List ByteArray
  | 0, _ => []
  | f + 1, l => if l.length = 0 then [] else if l.length = 1 then [leafT (l.headD (⟨#[]⟩, ⟨#[]⟩))] else nodeT (digL (l.take (leftN l.length))) (digL (l.drop (leftN l.length))) :: (askF f (l.drop (leftN l.length)) ++ askF f (l.take (leftN l.length)))
theorem askF_fuel : ∀ (f g : Nat) (l : List PairV), l.length ≤ f → l.length ≤ g → askF f l = askF g l := by
  intro f
  induction f with
  | zero =>
    intro g l h1 h2
    obtain rfl : l = [] := List.eq_nil_of_length_eq_zero (by omega)
    cases g <;> rfl
  | succ f ih =>
    intro g l h1 h2
    cases g with
    | zero =>
      obtain rfl : l = [] := List.eq_nil_of_length_eq_zero (by omega)
      rfl
    | succ g =>
      simp only [askF]
      by_cases h0 : l.length = 0
      · rw [if_pos h0, if_pos h0]
      · rw [if_neg h0, if_neg h0]
        by_cases h3 : l.length = 1
        · rw [if_pos h3, if_pos h3]
        · rw [if_neg h3, if_neg h3]
          have k1 := leftN_pos l.length
          have k2 := leftN_lt l.length (by omega)
          rw [ih g (l.take _) (by rw [List.length_take]; omega) (by rw [List.length_take]; omega), ih g (l.drop _) (by rw [List.length_drop]; omega) (by rw [List.length_drop]; omega)]
def askL (l : List PairV) : List ByteArray := askF l.length l
theorem askL_one (p : PairV) : askL [p] = [leafT p] := rfl
theorem askL_many (l : List PairV) (h : 2 ≤ l.length) : askL l = nodeT (digL (l.take (leftN l.length))) (digL (l.drop (leftN l.length))) :: (askL (l.drop (leftN l.length)) ++ askL (l.take (leftN l.length))) := by
  have k1 := leftN_pos l.length
  have k2 := leftN_lt l.length h
  have e : askL l = askF (l.length - 1 + 1) l := by unfold askL; rw [Nat.sub_add_cancel (by omega)]
  rw [e]
  simp only [askF]
  rw [if_neg (by omega), if_neg (by omega)]
  unfold askL
  rw [askF_fuel (l.length - 1) (l.take _).length (l.take _) (by rw [List.length_take]; omega) (Nat.le_refl _), askF_fuel (l.length - 1) (l.drop _).length (l.drop _) (by rw [List.length_drop]; omega) (Nat.le_refl _)]
/-- a path -/
def pathF : Nat → List PairV → Nat → List ByteArray
  | 0, _, _ => []
  | f + 1, l, i => if l.length ≤ 1 then [] else if i < leftN l.length then pathF f (l.take (leftN l.length)) i ++ [digL (l.drop (leftN l.length))] else pathF f (l.drop (leftN l.length)) (i - leftN l.length) ++ [digL (l.take (leftN l.length))]
def askPF : Nat → List PairV → Nat → List ByteArray
  | 0, _, _ => []
  | f + 1, l, i => if l.length ≤ 1 then [] else if i < leftN l.length then askL (l.drop (leftN l.length)) ++ askPF f (l.take (leftN l.length)) i else askL (l.take (leftN l.length)) ++ askPF f (l.drop (leftN l.length)) (i - leftN l.length)
theorem pathF_fuel : ∀ (f g : Nat) (l : List PairV) (i : Nat), l.length ≤ f → l.length ≤ g → pathF f l i = pathF g l i ∧ askPF f l i = askPF g l i := by
  intro f
  induction f with
  | zero =>
    intro g l i h1 h2
    obtain rfl : l = [] := List.eq_nil_of_length_eq_zero (by omega)
    cases g <;> exact ⟨rfl, rfl⟩
  | succ f ih =>
    intro g l i h1 h2
    cases g with
    | zero =>
      obtain rfl : l = [] := List.eq_nil_of_length_eq_zero (by omega)
      exact ⟨rfl, rfl⟩
    | succ g =>
      simp only [pathF, askPF]
      by_cases h0 : l.length ≤ 1
      · rw [if_pos h0, if_pos h0, if_pos h0, if_pos h0]; exact ⟨rfl, rfl⟩
      · rw [if_neg h0, if_neg h0, if_neg h0, if_neg h0]
        have k1 := leftN_pos l.length
        have k2 := leftN_lt l.length (by omega)
        have a := ih g (l.take (leftN l.length)) i (by rw [List.length_take]; omega) (by rw [List.length_take]; omega)
        have b := ih g (l.drop (leftN l.length)) (i - leftN l.length) (by rw [List.length_drop]; omega) (by rw [List.length_drop]; omega)
        rw [a.1, a.2, b.1, b.2]
        exact ⟨rfl, rfl⟩
def pathL (l : List PairV) (i : Nat) : List ByteArray := pathF l.length l i
def askP (l : List PairV) (i : Nat) : List ByteArray := askPF l.length l i
theorem pathL_one (l : List PairV) (i : Nat) (h : l.length ≤ 1) : pathL l i = [] ∧ askP l i = [] := by
  unfold pathL askP
  match l, h with
  | [], _ => exact ⟨rfl, rfl⟩
  | [a], _ => exact ⟨rfl, rfl⟩
theorem pathL_many (l : List PairV) (i : Nat) (h : 2 ≤ l.length) :
    (i < leftN l.length → pathL l i = pathL (l.take (leftN l.length)) i ++ [digL (l.drop (leftN l.length))] ∧ askP l i = askL (l.drop (leftN l.length)) ++ askP (l.take (leftN l.length)) i) ∧
    (¬ i < leftN l.length → pathL l i = pathL (l.drop (leftN l.length)) (i - leftN l.length) ++ [digL (l.take (leftN l.length))] ∧ askP l i = askL (l.take (leftN l.length)) ++ askP (l.drop (leftN l.length)) (i - leftN l.length)) := by
  have k1 := leftN_pos l.length
  have k2 := leftN_lt l.length h
  have e : pathL l i = pathF (l.length - 1 + 1) l i ∧ askP l i = askPF (l.length - 1 + 1) l i := by
    rw [Nat.sub_add_cancel (by omega)]; exact ⟨rfl, rfl⟩
  rw [e.1, e.2]
  simp only [pathF, askPF]
  have a := pathF_fuel (l.length - 1) (l.take (leftN l.length)).length (l.take (leftN l.length)) i (by rw [List.length_take]; omega) (Nat.le_refl _)
  have b := pathF_fuel (l.length - 1) (l.drop (leftN l.length)).length (l.drop (leftN l.length)) (i - leftN l.length) (by rw [List.length_drop]; omega) (Nat.le_refl _)
  refine ⟨fun hi => ?_, fun hi => ?_⟩
  · rw [if_neg (by omega), if_pos hi, if_neg (by omega), if_pos hi, a.1, a.2]; exact ⟨rfl, rfl⟩
  · rw [if_neg (by omega), if_neg hi, if_neg (by omega), if_neg hi, b.1, b.2]; exact ⟨rfl, rfl⟩
theorem pathL_size : ∀ (n : Nat) (l : List PairV) (i : Nat), l.length ≤ n → ∀ s ∈ pathL l i, s.size = 32 := by
  intro n
  induction n with
  | zero =>
    intro l i h s hs
    rw [(pathL_one l i (by omega)).1] at hs; cases hs
  | succ n ih =>
    intro l i h s hs
    by_cases h1 : l.length ≤ 1
    · rw [(pathL_one l i h1).1] at hs; cases hs
    have k1 := leftN_pos l.length
    have k2 := leftN_lt l.length (by omega)
    have hm := pathL_many l i (by omega)
    by_cases hi : i < leftN l.length
    · rw [(hm.1 hi).1] at hs
      rcases List.mem_append.1 hs with hs | hs
      · exact ih _ _ (by rw [List.length_take]; omega) s hs
      · rw [List.mem_singleton] at hs; rw [hs]; exact digL_size _ (by rw [List.length_drop]; omega)
    · rw [(hm.2 hi).1] at hs
      rcases List.mem_append.1 hs with hs | hs
      · exact ih _ _ (by rw [List.length_drop]; omega) s hs
      · rw [List.mem_singleton] at hs; rw [hs]; exact digL_size _ (by rw [List.length_take]; omega)
/-- how many digests one at a place has -/
def depF : Nat → Nat → Nat → Nat
  | 0, _, _ => 0
  | f + 1, i, c => if c ≤ 1 then 0 else if i < leftN c then depF f i (leftN c) + 1 else depF f (i - leftN c) (c - leftN c) + 1
theorem depF_fuel : ∀ (f g i c : Nat), c ≤ f → c ≤ g → depF f i c = depF g i c := by
  intro f
  induction f with
  | zero =>
    intro g i c h1 h2
    obtain rfl : c = 0 := by omega
    cases g <;> simp [depF]
  | succ f ih =>
    intro g i c h1 h2
    cases g with
    | zero =>
      obtain rfl : c = 0 := by omega
      simp [depF]
    | succ g =>
      simp only [depF]
      by_cases h0 : c ≤ 1
      · rw [if_pos h0, if_pos h0]
      · rw [if_neg h0, if_neg h0]
        have k1 := leftN_pos c
        have k2 := leftN_lt c (by omega)
        rw [ih g i (leftN c) (by omega) (by omega), ih g (i - leftN c) (c - leftN c) (by omega) (by omega)]
def dep (i c : Nat) : Nat := depF c i c
theorem dep_one (i c : Nat) (h : c ≤ 1) : dep i c = 0 := by
  unfold dep
  match c, h with
  | 0, _ => rfl
  | 1, _ => rfl
theorem dep_many (i c : Nat) (h : 2 ≤ c) : (i < leftN c → dep i c = dep i (leftN c) + 1) ∧ (¬ i < leftN c → dep i c = dep (i - leftN c) (c - leftN c) + 1) := by
  have k1 := leftN_pos c
  have k2 := leftN_lt c h
  have e : dep i c = depF (c - 1 + 1) i c := by rw [Nat.sub_add_cancel (by omega)]; rfl
  rw [e]
  simp only [depF]
  refine ⟨fun hi => ?_, fun hi => ?_⟩
  · rw [if_neg (by omega), if_pos hi, depF_fuel (c - 1) (leftN c) i (leftN c) (by omega) (Nat.le_refl _)]; rfl
  · rw [if_neg (by omega), if_neg hi, depF_fuel (c - 1) (c - leftN c) (i - leftN c) (c - leftN c) (by omega) (Nat.le_refl _)]; rfl
/-- to what a leaf climbs, and is the path just so long? -/
def upF (p : PairV) : Nat → Nat → Nat → List ByteArray → ByteArray × Bool
  | 0, _, _, _ => (⟨#[]⟩, false)
  | f + 1, i, c, path => if c ≤ 1 then (dgT (leafT p), decide (path.length = 0)) else if path.length = 0 then (⟨#[]⟩, false) else
      if i < leftN c then (dgT (nodeT (upF p f i (leftN c) (path.take (path.length - 1))).1 (path.getD (path.length - 1) ⟨#[]⟩)), (upF p f i (leftN c) (path.take (path.length - 1))).2)
      else (dgT (nodeT (path.getD (path.length - 1) ⟨#[]⟩) (upF p f (i - leftN c) (c - leftN c) (path.take (path.length - 1))).1), (upF p f (i - leftN c) (c - leftN c) (path.take (path.length - 1))).2)
theorem upF_fuel (p : PairV) : ∀ (f g i c : Nat) (path : List ByteArray), 1 ≤ c → c ≤ f → c ≤ g → upF p f i c path = upF p g i c path := by
  intro f
  induction f with
  | zero => intro g i c path h0 h1 h2; omega
  | succ f ih =>
    intro g i c path h0 h1 h2
    cases g with
    | zero => omega
    | succ g =>
      simp only [upF]
      by_cases h3 : c ≤ 1
      · rw [if_pos h3, if_pos h3]
      · rw [if_neg h3, if_neg h3]
        have k1 := leftN_pos c
        have k2 := leftN_lt c (by omega)
        rw [ih g i (leftN c) _ (by omega) (by omega) (by omega), ih g (i - leftN c) (c - leftN c) _ (by omega) (by omega) (by omega)]
def up (p : PairV) (i c : Nat) (path : List ByteArray) : ByteArray × Bool := upF p c i c path
theorem up_one (p : PairV) (i : Nat) (path : List ByteArray) : up p i 1 path = (dgT (leafT p), decide (path.length = 0)) := rfl
theorem up_none (p : PairV) (i c : Nat) (path : List ByteArray) (h : 2 ≤ c) (hp : path.length = 0) : up p i c path = (⟨#[]⟩, false) := by
  have e : up p i c path = upF p (c - 1 + 1) i c path := by rw [Nat.sub_add_cancel (by omega)]; rfl
  rw [e]
  simp only [upF]
  rw [if_neg (by omega), if_pos hp]
theorem up_many (p : PairV) (i c : Nat) (path : List ByteArray) (h : 2 ≤ c) (hp : path.length ≠ 0) :
    (i < leftN c → up p i c path = (dgT (nodeT (up p i (leftN c) (path.take (path.length - 1))).1 (path.getD (path.length - 1) ⟨#[]⟩)), (up p i (leftN c) (path.take (path.length - 1))).2)) ∧
    (¬ i < leftN c → up p i c path = (dgT (nodeT (path.getD (path.length - 1) ⟨#[]⟩) (up p (i - leftN c) (c - leftN c) (path.take (path.length - 1))).1), (up p (i - leftN c) (c - leftN c) (path.take (path.length - 1))).2)) := by
  have k1 := leftN_pos c
  have k2 := leftN_lt c h
  have e : up p i c path = upF p (c - 1 + 1) i c path := by rw [Nat.sub_add_cancel (by omega)]; rfl
  rw [e]
  simp only [upF]
  refine ⟨fun hi => ?_, fun hi => ?_⟩
  · rw [if_neg (by omega), if_neg hp, if_pos hi, upF_fuel p (c - 1) (leftN c) i (leftN c) _ k1 (by omega) (Nat.le_refl _)]; rfl
  · rw [if_neg (by omega), if_neg hp, if_neg hi, upF_fuel p (c - 1) (c - leftN c) (i - leftN c) (c - leftN c) _ (by omega) (by omega) (Nat.le_refl _)]; rfl
theorem up_size (p : PairV) : ∀ (n i c : Nat) (path : List ByteArray), c ≤ n → 1 ≤ c → ((up p i c path).1.size = 32 ∨ (up p i c path).1.size = 0) ∧ ((up p i c path).2 = true → (up p i c path).1.size = 32) := by
  intro n
  induction n with
  | zero => intro i c path h h1; omega
  | succ n ih =>
    intro i c path h h1
    by_cases h2 : c = 1
    · subst h2; rw [up_one]; exact ⟨Or.inl (dgT_size _), fun _ => dgT_size _⟩
    by_cases hp : path.length = 0
    · rw [up_none p i c path (by omega) hp]; exact ⟨Or.inr rfl, fun h => by cases h⟩
    have hm := up_many p i c path (by omega) hp
    by_cases hi : i < leftN c
    · rw [hm.1 hi]; exact ⟨Or.inl (dgT_size _), fun _ => dgT_size _⟩
    · rw [hm.2 hi]; exact ⟨Or.inl (dgT_size _), fun _ => dgT_size _⟩
/-! what is digested tells -/
theorem app_inj {a b c d : ByteArray} (h : a ++ b = c ++ d) (hs : a.size = c.size) : a = c ∧ b = d := by
  have h1 : nl a ++ nl b = nl c ++ nl d := by rw [← nl_append, ← nl_append, h]
  have h2 := List.append_inj h1 (by rw [nl_length, nl_length, hs])
  exact ⟨nl_inj h2.1, nl_inj h2.2⟩
theorem oneT_size (n : Nat) : (oneT n).size = 1 := by unfold oneT; rw [txt_size]; rfl
theorem oneT_inj {a b : Nat} (h : oneT a = oneT b) (ha : a < 256) (hb : b < 256) : a = b := by
  have h1 : nl (oneT a) = nl (oneT b) := by rw [h]
  unfold oneT at h1
  rw [nl_txt _ (by simp; omega), nl_txt _ (by simp; omega)] at h1
  simp only [List.cons.injEq, and_true] at h1
  omega
theorem leafT_inj {p q : PairV} (h : leafT p = leafT q) (h1 : p.1.size < 256) (h2 : q.1.size < 256) : p = q := by
  unfold leafT at h
  have hs : ∀ r : PairV, (((⟨#[0]⟩ ++ oneT r.1.size) ++ r.1) ++ oneT r.2.size).size = 3 + r.1.size := fun r => by
    simp only [ByteArray.size_append, oneT_size]; show 1 + 1 + r.1.size + 1 = _; omega
  have g : (nl (((⟨#[0]⟩ ++ oneT p.1.size) ++ p.1) ++ oneT p.2.size) ++ nl p.2).take 2 = (nl (((⟨#[0]⟩ ++ oneT q.1.size) ++ q.1) ++ oneT q.2.size) ++ nl q.2).take 2 := by rw [← nl_append, ← nl_append, h]
  have f : ∀ r : PairV, (nl (((⟨#[0]⟩ ++ oneT r.1.size) ++ r.1) ++ oneT r.2.size) ++ nl r.2).take 2 = nl (⟨#[0]⟩ ++ oneT r.1.size) := fun r => by
    rw [nl_append, nl_append, List.append_assoc, List.append_assoc]
    have : (nl (⟨#[0]⟩ ++ oneT r.1.size)).length = 2 := by rw [nl_length, ByteArray.size_append, oneT_size]; rfl
    rw [← this, List.take_left]
  rw [f, f] at g
  have hk : p.1.size = q.1.size := oneT_inj (app_inj (nl_inj g) rfl).2 h1 h2
  have k1 := app_inj h (by rw [hs, hs, hk])
  have k2 := app_inj k1.1 (by simp only [ByteArray.size_append, oneT_size, hk])
  have k3 := app_inj k2.1 (by simp only [ByteArray.size_append, oneT_size])
  exact Prod.ext k3.2 k1.2
theorem nodeT_inj {a b c d : ByteArray} (h : nodeT a b = nodeT c d) (h1 : a.size = 32) (h2 : c.size = 32) : a = c ∧ b = d := by
  unfold nodeT at h
  have k1 := app_inj h (by rw [ByteArray.size_append, ByteArray.size_append, h1, h2])
  exact ⟨(app_inj k1.1 rfl).2, k1.2⟩
/-- two unlike texts of one digest -/
def Clash (T : List ByteArray) : Prop := ∃ t ∈ T, ∃ u ∈ T, dgT t = dgT u ∧ t ≠ u
theorem Clash.mono {T U : List ByteArray} (h : Clash T) (hs : ∀ t ∈ T, t ∈ U) : Clash U := by
  obtain ⟨t, ht, u, hu, h1, h2⟩ := h
  exact ⟨t, hs t ht, u, hs u hu, h1, h2⟩
theorem apart_or (t u : ByteArray) (T : List ByteArray) (ht : t ∈ T) (hu : u ∈ T) (h : dgT t = dgT u) : t = u ∨ Clash T := by
  by_cases e : t = u
  · exact Or.inl e
  · exact Or.inr ⟨t, ht, u, hu, h, e⟩
def Small (l : List PairV) : Prop := ∀ p ∈ l, p.1.size < 256
theorem apart : ∀ (n : Nat) (l m : List PairV), l.length ≤ n → l.length = m.length → Small l → Small m → digL l = digL m → l = m ∨ Clash (askL l ++ askL m) := by
  intro n
  induction n with
  | zero =>
    intro l m h he _ _ _
    exact Or.inl (by rw [List.eq_nil_of_length_eq_zero (show l.length = 0 by omega), List.eq_nil_of_length_eq_zero (show m.length = 0 by omega)])
  | succ n ih =>
    intro l m h he hl hm hd
    by_cases h0 : l.length = 0
    · exact Or.inl (by rw [List.eq_nil_of_length_eq_zero h0, List.eq_nil_of_length_eq_zero (show m.length = 0 by omega)])
    by_cases h1 : l.length = 1
    · obtain ⟨p, rfl⟩ := List.length_eq_one_iff.1 h1
      obtain ⟨q, rfl⟩ := List.length_eq_one_iff.1 (he.symm.trans h1)
      rw [digL_one, digL_one] at hd
      rcases apart_or _ _ (askL [p] ++ askL [q]) (by simp [askL_one]) (by simp [askL_one]) hd with e | e
      · exact Or.inl (by rw [leafT_inj e (hl p (by simp)) (hm q (by simp))])
      · exact Or.inr e
    have k1 := leftN_pos l.length
    have k2 := leftN_lt l.length (by omega)
    rw [digL_many l (by omega), digL_many m (by omega), ← he] at hd
    have al := askL_many l (by omega)
    have am := askL_many m (by omega)
    rw [← he] at am
    rcases apart_or _ _ (askL l ++ askL m) (by rw [al]; simp) (by rw [am]; simp) hd with e | e
    · have ht := nodeT_inj e (digL_size _ (by rw [List.length_take]; omega)) (digL_size _ (by rw [List.length_take]; omega))
      rcases ih (l.take (leftN l.length)) (m.take (leftN l.length)) (by rw [List.length_take]; omega) (by rw [List.length_take, List.length_take, he]) (fun p hp => hl p (List.mem_of_mem_take hp)) (fun p hp => hm p (List.mem_of_mem_take hp)) ht.1 with e1 | e1
      · rcases ih (l.drop (leftN l.length)) (m.drop (leftN l.length)) (by rw [List.length_drop]; omega) (by rw [List.length_drop, List.length_drop, he]) (fun p hp => hl p (List.mem_of_mem_drop hp)) (fun p hp => hm p (List.mem_of_mem_drop hp)) ht.2 with e2 | e2
        · exact Or.inl (by rw [← List.take_append_drop (leftN l.length) l, e1, e2, List.take_append_drop])
        · exact Or.inr (e2.mono (fun t ht => by
            rw [al, am]
            rcases List.mem_append.1 ht with h | h <;> simp [h]))
      · exact Or.inr (e1.mono (fun t ht => by
          rw [al, am]
          rcases List.mem_append.1 ht with h | h <;> simp [h]))
    · exact Or.inr e
/-- each pair, with its path, climbs to the digest -/
theorem back : ∀ (n : Nat) (l : List PairV) (i : Nat) (p : PairV), l.length ≤ n → l[i]? = some p → up p i l.length (pathL l i) = (digL l, true) := by
  intro n
  induction n with
  | zero =>
    intro l i p h hi
    have := (List.getElem?_eq_some_iff.1 hi).1
    omega
  | succ n ih =>
    intro l i p h hi
    have hlt := (List.getElem?_eq_some_iff.1 hi).1
    by_cases h2 : l.length = 1
    · obtain ⟨q, rfl⟩ := List.length_eq_one_iff.1 h2
      obtain rfl : i = 0 := by simpa using hlt
      simp only [List.getElem?_cons_zero, Option.some.injEq] at hi
      subst hi
      rfl
    have k1 := leftN_pos l.length
    have k2 := leftN_lt l.length (by omega)
    have hp := pathL_many l i (by omega)
    by_cases hk : i < leftN l.length
    · have e := (hp.1 hk).1
      have hz : (pathL l i).length ≠ 0 := by rw [e]; simp
      have hg : (pathL l i).getD ((pathL l i).length - 1) ⟨#[]⟩ = digL (l.drop (leftN l.length)) := by rw [e]; simp
      have ht : (pathL l i).take ((pathL l i).length - 1) = pathL (l.take (leftN l.length)) i := by rw [e]; simp
      rw [(up_many p i _ _ (by omega) hz).1 hk, hg, ht]
      have hl : (l.take (leftN l.length)).length = leftN l.length := by rw [List.length_take]; omega
      have g := ih (l.take (leftN l.length)) i p (by omega) (by rw [List.getElem?_take_of_lt hk]; exact hi)
      rw [hl] at g
      rw [g, digL_many l (by omega)]
    · have e := (hp.2 hk).1
      have hz : (pathL l i).length ≠ 0 := by rw [e]; simp
      have hg : (pathL l i).getD ((pathL l i).length - 1) ⟨#[]⟩ = digL (l.take (leftN l.length)) := by rw [e]; simp
      have ht : (pathL l i).take ((pathL l i).length - 1) = pathL (l.drop (leftN l.length)) (i - leftN l.length) := by rw [e]; simp
      rw [(up_many p i _ _ (by omega) hz).2 hk, hg, ht]
      have hl : (l.drop (leftN l.length)).length = l.length - leftN l.length := List.length_drop
      have g := ih (l.drop (leftN l.length)) (i - leftN l.length) p (by omega) (by rw [List.getElem?_drop, show leftN l.length + (i - leftN l.length) = i by omega]; exact hi)
      rw [hl] at g
      rw [g, digL_many l (by omega)]
end Go.Proofs.YtbjchfcoacmaaaaGreatDoor
