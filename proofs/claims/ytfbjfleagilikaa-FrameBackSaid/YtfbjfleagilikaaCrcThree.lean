/- Plain mathematics: no one, two or three bits within 16032 have the sum 0; no burst of 32 bits. No condition. -/
import Derived.Test.YtfbjfleagilikaaCrcMath
namespace CrcM
def gen : Nat → Nat → List Nat
  | 0, _ => []
  | n + 1, x => (x / 2) :: gen n (step x)
def parted : Nat → List Nat → Bool
  | 0, l => match l with | [] => true | [_] => true | _ => false
  | n + 1, l => match l with | [] => true | [_] => true | _ => parted n (l.filter (fun x => Nat.beq (x / 2 ^ n % 2) 1)) && parted n (l.filter (fun x => Nat.beq (x / 2 ^ n % 2) 0))
theorem parted_count (n : Nat) (l : List Nat) (h : parted n l = true) (x : Nat) : l.countP (Nat.beq x) ≤ 1 := by
  induction n generalizing l with
  | zero =>
    match l, h with
    | [], _ => simp
    | [y], _ => exact List.countP_le_length
  | succ n ih =>
    match l, h with
    | [], _ => simp
    | [y], _ => exact List.countP_le_length
    | y :: z :: r, h =>
      simp only [parted, Bool.and_eq_true] at h
      generalize (y :: z :: r) = l at h
      have key : ∀ t, x / 2 ^ n % 2 = t → (l.filter (fun x => Nat.beq (x / 2 ^ n % 2) t)).countP (Nat.beq x) = l.countP (Nat.beq x) := by
        intro t ht
        rw [List.countP_filter]
        congr 1; funext a
        cases hb : Nat.beq x a with
        | false => simp
        | true =>
          have : x = a := Nat.eq_of_beq_eq_true hb
          subst this
          simp [ht]
      rcases Nat.mod_two_eq_zero_or_one (x / 2 ^ n) with h0 | h1
      · rw [← key 0 h0]; exact ih _ h.2
      · rw [← key 1 h1]; exact ih _ h.1
theorem gen_get (n x i : Nat) (h : i < n) : (gen n x)[i]? = some (steps i x / 2) := by
  induction n generalizing x i with
  | zero => omega
  | succ n ih =>
    cases i with
    | zero => rfl
    | succ i => simp only [gen, List.getElem?_cons_succ, steps]; exact ih _ _ (by omega)
theorem parted_all : parted 31 (gen 16032 1) = true := by decide +kernel
theorem apart_of_count {l : List Nat} (h : ∀ x, l.countP (Nat.beq x) ≤ 1) {i j : Nat} (hij : i < j) {x y : Nat} (hx : l[i]? = some x) (hy : l[j]? = some y) : x ≠ y := by
  intro e
  subst e
  have h1 := h x
  rw [← List.take_append_drop j l, List.countP_append] at h1
  have a1 : 0 < (l.take j).countP (Nat.beq x) := by
    rw [List.countP_pos_iff]
    refine ⟨x, ?_, by simp⟩
    refine List.mem_of_getElem? (i := i) ?_
    rw [List.getElem?_take_of_lt hij]; exact hx
  have a2 : 0 < (l.drop j).countP (Nat.beq x) := by
    rw [List.countP_pos_iff]
    refine ⟨x, ?_, by simp⟩
    refine List.mem_of_getElem? (i := 0) ?_
    rw [List.getElem?_drop]; simpa using hy
  omega
theorem halves_apart {i j : Nat} (hij : i < j) (hj : j < 16032) : steps i 1 / 2 ≠ steps j 1 / 2 :=
  apart_of_count (parted_count _ _ parted_all) hij (gen_get _ _ _ (by omega)) (gen_get _ _ _ hj)
theorem eq_of_xor {a b : Nat} (h : a ^^^ b = 0) : a = b := by
  have := congrArg (· ^^^ b) h
  simpa [Nat.xor_assoc] using this
theorem one_lt : 1 < M := by decide
theorem steps_two_pow {a n : Nat} (h : a ≤ n) : steps n (2 ^ a) = steps (n - a) 1 := by
  have := steps_add a (n - a) (2 ^ a)
  rw [show a + (n - a) = n by omega] at this
  rw [this]
  have := steps_pow a 1
  rw [Nat.mul_one] at this
  rw [this]
theorem bits_one {a n : Nat} (h : a ≤ n) : steps n (2 ^ a) ≠ 0 := by
  rw [steps_two_pow h]
  intro h0
  exact absurd (steps_eq_zero one_lt h0) (by decide)
theorem xor_lt_M {a b : Nat} (ha : a < M) (hb : b < M) : a ^^^ b < M := Nat.xor_lt_two_pow (n := 32) ha hb
theorem bits_two {a b n : Nat} (hab : a < b) (h : b ≤ n) (hb : b < 16032) : steps n (2 ^ a ^^^ 2 ^ b) ≠ 0 := by
  intro h0
  have := steps_add b (n - b) (2 ^ a ^^^ 2 ^ b)
  rw [show b + (n - b) = n by omega] at this
  rw [this, steps_xor b, steps_two_pow (Nat.le_of_lt hab), steps_two_pow (Nat.le_refl b), Nat.sub_self] at h0
  have h1 := steps_eq_zero (xor_lt_M (steps_lt one_lt) (steps_lt one_lt)) h0
  have h2 : steps (b - a) 1 = steps 0 1 := eq_of_xor h1
  exact halves_apart (i := 0) (j := b - a) (by omega) (by omega) (by rw [h2])
theorem bits_three {a b c n : Nat} (hab : a ≠ b) (hac : a < c) (hbc : b < c) (h : c ≤ n) (hc : c < 16032) : steps n (2 ^ a ^^^ 2 ^ b ^^^ 2 ^ c) ≠ 0 := by
  intro h0
  have := steps_add c (n - c) (2 ^ a ^^^ 2 ^ b ^^^ 2 ^ c)
  rw [show c + (n - c) = n by omega] at this
  rw [this, steps_xor c, steps_xor c, steps_two_pow (Nat.le_of_lt hac), steps_two_pow (Nat.le_of_lt hbc), steps_two_pow (Nat.le_refl c), Nat.sub_self] at h0
  have h1 := steps_eq_zero (xor_lt_M (xor_lt_M (steps_lt one_lt) (steps_lt one_lt)) (steps_lt one_lt)) h0
  have h2 : steps (c - a) 1 ^^^ steps (c - b) 1 = steps 0 1 := eq_of_xor h1
  have h3 : steps (c - a) 1 / 2 = steps (c - b) 1 / 2 := by
    have := congrArg (· / 2) h2
    simp only [xor_div2] at this
    have h4 : steps 0 1 / 2 = 0 := rfl
    rw [h4] at this
    exact eq_of_xor this
  rcases Nat.lt_or_gt_of_ne (show c - a ≠ c - b by omega) with h5 | h5
  · exact halves_apart h5 (by omega) h3
  · exact halves_apart h5 (by omega) h3.symm
theorem burst {at_ n by_ : Nat} (h0 : by_ ≠ 0) (hb : by_ < M) (h : at_ ≤ n) : steps n (2 ^ at_ * by_) ≠ 0 := by
  intro h1
  have := steps_add at_ (n - at_) (2 ^ at_ * by_)
  rw [show at_ + (n - at_) = n by omega] at this
  rw [this, steps_pow] at h1
  exact h0 (steps_eq_zero hb h1)
end CrcM
