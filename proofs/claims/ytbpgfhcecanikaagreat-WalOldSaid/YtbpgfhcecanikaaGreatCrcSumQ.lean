/- Merged: CrcMath, CrcThree, CrcRight, CrcHalves, CrcBytes, CrcUpdate, CrcSum. Plain mathematics of CRC-32 on natural numbers; no condition. Plain mathematics: no one, two or three bits within 16032 have the sum 0; no burst of 32 bits. No condition. Plain mathematics: a text is sealed where its register is the residue; a change is seen. No condition but lengths. Contract of crc.halves: to what each four bits come; no condition. Contract of crc.Bytes: it tells the bytes of a sum; no condition but that the number fits. Contracts of crc.Update and crc.Sum; condition: the number fits, the text's length is an int. Contract of crc.Sum, for parts that stand in memory, and for none; condition: lengths are ints. -/
import Derived.Test.YtbpgfhcecanikaaGreatChecked
import Derived.WalkKit
import Derived.WalkLawsBesides
import Derived.Lib.Hide
import Derived.KernelRfl
import Derived.Test.YtbpgfhcecanikaaGreatCommonQ
import Derived.Deep.WholeRow
namespace CrcM

def poly : Nat := 3988292384
/-- one bit falls out -/
def step (x : Nat) : Nat := (x / 2) ^^^ (if x % 2 = 1 then poly else 0)
def steps : Nat → Nat → Nat
  | 0, x => x
  | n + 1, x => steps n (step x)
/-- bytes as a number, the lowest first -/
def le : List Nat → Nat
  | [] => 0
  | b :: l => b + 256 * le l
def over (x : Nat) (l : List Nat) : Nat := l.foldl (fun x b => steps 8 (x ^^^ b)) x
def M : Nat := 4294967296
def cpl (x : Nat) : Nat := 4294967295 - x
def upd (s : Nat) (l : List Nat) : Nat := cpl (over (cpl s) l)

theorem xor_div2 (a b : Nat) : (a ^^^ b) / 2 = (a / 2) ^^^ (b / 2) := by
  apply Nat.eq_of_testBit_eq; intro i
  simp [Nat.testBit_div_two, Nat.testBit_xor]
theorem xor_mod2 (a b : Nat) : (a ^^^ b) % 2 = (a % 2 + b % 2) % 2 := by
  have h := Nat.testBit_xor a b 0
  simp only [Nat.testBit_zero] at h
  rcases Nat.mod_two_eq_zero_or_one a with ha | ha <;> rcases Nat.mod_two_eq_zero_or_one b with hb | hb <;> rcases Nat.mod_two_eq_zero_or_one (a ^^^ b) with hc | hc <;> rw [ha, hb, hc] at h <;> first | (exact absurd h (by decide)) | (rw [ha, hb, hc])
theorem xor_swap4 (a b c d : Nat) : (a ^^^ b) ^^^ (c ^^^ d) = (a ^^^ c) ^^^ (b ^^^ d) := by
  apply Nat.eq_of_testBit_eq; intro i
  simp only [Nat.testBit_xor]
  cases a.testBit i <;> cases b.testBit i <;> cases c.testBit i <;> cases d.testBit i <;> rfl
theorem step_xor (a b : Nat) : step (a ^^^ b) = step a ^^^ step b := by
  unfold step
  rw [xor_div2, xor_mod2, xor_swap4]
  congr 1
  rcases Nat.mod_two_eq_zero_or_one a with ha | ha <;> rcases Nat.mod_two_eq_zero_or_one b with hb | hb <;> simp [ha, hb]
theorem step_zero : step 0 = 0 := rfl
theorem step_double (x : Nat) : step (2 * x) = x := by
  unfold step
  have : (2 * x) % 2 = 0 := by omega
  simp [this]
theorem steps_xor (n a b : Nat) : steps n (a ^^^ b) = steps n a ^^^ steps n b := by
  induction n generalizing a b with
  | zero => rfl
  | succ n ih => simp only [steps, step_xor, ih]
theorem steps_zero (n : Nat) : steps n 0 = 0 := by
  induction n with
  | zero => rfl
  | succ n ih => simp only [steps, step_zero, ih]
theorem steps_add (m n x : Nat) : steps (m + n) x = steps n (steps m x) := by
  induction m generalizing x with
  | zero => simp [steps]
  | succ m ih => rw [Nat.succ_add]; simp only [steps, ih]
theorem steps_pow (n x : Nat) : steps n (2 ^ n * x) = x := by
  induction n generalizing x with
  | zero => simp [steps]
  | succ n ih =>
    simp only [steps]
    rw [show 2 ^ (n + 1) * x = 2 * (2 ^ n * x) by rw [Nat.pow_succ, Nat.mul_comm (2 ^ n) 2, Nat.mul_assoc], step_double, ih]
theorem step_lt {x : Nat} (h : x < M) : step x < M := by
  unfold step
  have h1 : x / 2 < 2 ^ 32 := by unfold M at h; omega
  have h2 : (if x % 2 = 1 then poly else 0) < 2 ^ 32 := by split <;> decide
  exact Nat.xor_lt_two_pow h1 h2
theorem xor_lt_M' {a b : Nat} (ha : a < M) (hb : b < M) : a ^^^ b < M := Nat.xor_lt_two_pow (n := 32) ha hb
theorem steps_lt {n x : Nat} (h : x < M) : steps n x < M := by
  induction n generalizing x with
  | zero => exact h
  | succ n ih => exact ih (step_lt h)
/-- numbers side by side: xor is a sum -/
theorem xor_shift (k a b : Nat) (h : a < 2 ^ k) : a ^^^ (2 ^ k * b) = a + 2 ^ k * b := by
  apply Nat.eq_of_testBit_eq; intro i
  rw [Nat.add_comm, Nat.testBit_xor, Nat.testBit_two_pow_mul_add b h i, Nat.testBit_two_pow_mul]
  by_cases hi : i < k
  · simp [hi, Nat.not_le.2 hi]
  · have h2 : a.testBit i = false := Nat.testBit_lt_two_pow (Nat.lt_of_lt_of_le h (Nat.pow_le_pow_right (by decide) (Nat.not_lt.1 hi)))
    simp [hi, Nat.not_lt.1 hi, h2]
theorem over_nil (x : Nat) : over x [] = x := rfl
theorem over_cons (x b : Nat) (l : List Nat) : over x (b :: l) = over (steps 8 (x ^^^ b)) l := rfl
theorem over_append (x : Nat) (l m : List Nat) : over x (l ++ m) = over (over x l) m := by simp [over, List.foldl_append]
/-- A TEXT AT ONCE -/
theorem over_le (l : List Nat) (hl : ∀ b ∈ l, b < 256) (x : Nat) : over x l = steps (8 * l.length) (x ^^^ le l) := by
  induction l generalizing x with
  | nil => simp [over, le, steps]
  | cons b l ih =>
    rw [over_cons, ih (fun c hc => hl c (List.mem_cons_of_mem _ hc))]
    have hb : b < 2 ^ 8 := hl b (List.mem_cons_self ..)
    rw [List.length_cons, show 8 * (l.length + 1) = 8 + 8 * l.length by omega, steps_add]
    congr 1
    rw [show le (b :: l) = b + 2 ^ 8 * le l from rfl, ← xor_shift 8 b (le l) hb, ← Nat.xor_assoc, steps_xor 8 (x ^^^ b), steps_pow]
theorem over_lt {x : Nat} (h : x < M) (l : List Nat) (hl : ∀ b ∈ l, b < 256) : over x l < M := by
  induction l generalizing x with
  | nil => exact h
  | cons b l ih =>
    rw [over_cons]
    refine ih (steps_lt ?_) (fun c hc => hl c (List.mem_cons_of_mem _ hc))
    have hb : b < 2 ^ 32 := Nat.lt_trans (hl b (List.mem_cons_self ..)) (by decide)
    exact Nat.xor_lt_two_pow h hb
theorem cpl_lt (x : Nat) : cpl x < M := by unfold cpl M; omega
theorem cpl_cpl {x : Nat} (h : x < M) : cpl (cpl x) = x := by unfold cpl; unfold M at h; omega
theorem upd_lt (s : Nat) (l : List Nat) : upd s l < M := cpl_lt _
theorem upd_append (s : Nat) (l m : List Nat) (hl : ∀ b ∈ l, b < 256) : upd s (l ++ m) = upd (upd s l) m := by
  unfold upd
  rw [over_append, cpl_cpl (over_lt (cpl_lt s) l hl)]
theorem upd_nil {s : Nat} (h : s < M) : upd s [] = s := by unfold upd; rw [over_nil, cpl_cpl h]
/-- the bytes of a sum -/
def bytes (s : Nat) : List Nat := [s % 256, s / 256 % 256, s / 65536 % 256, s / 16777216 % 256]
theorem bytes_lt (s : Nat) : ∀ b ∈ bytes s, b < 256 := by
  intro b hb; simp only [bytes, List.mem_cons, List.mem_nil_iff, or_false] at hb
  rcases hb with rfl | rfl | rfl | rfl <;> omega
theorem bytes_length (s : Nat) : (bytes s).length = 4 := rfl
theorem le_bytes {s : Nat} (h : s < M) : le (bytes s) = s := by
  unfold M at h; simp only [bytes, le]; omega
theorem bytes_inj {s t : Nat} (hs : s < M) (ht : t < M) (h : bytes s = bytes t) : s = t := by
  rw [← le_bytes hs, ← le_bytes ht, h]
theorem bytes_of_le {l : List Nat} (hl : ∀ b ∈ l, b < 256) (h4 : l.length = 4) : bytes (le l) = l ∧ le l < M := by
  match l, h4 with
  | [a, b, c, d], _ =>
    have ha := hl a (by simp); have hb := hl b (by simp); have hc := hl c (by simp); have hd := hl d (by simp)
    refine ⟨?_, ?_⟩
    · simp only [bytes, le, List.cons.injEq, and_true]; omega
    · simp only [le, M]; omega
theorem cpl_xor {x : Nat} (h : x < M) : cpl x = x ^^^ 4294967295 := by
  have h' : x < 2 ^ 32 := h
  apply Nat.eq_of_testBit_eq; intro i
  have : cpl x = 2 ^ 32 - (x + 1) := by unfold cpl; omega
  rw [this, Nat.testBit_two_pow_sub_succ h', Nat.testBit_xor, show (4294967295 : Nat) = 2 ^ 32 - 1 by decide, Nat.testBit_two_pow_sub_one]
  by_cases hi : i < 32
  · simp [hi]
  · have h2 : x.testBit i = false := Nat.testBit_lt_two_pow (Nat.lt_of_lt_of_le h' (Nat.pow_le_pow_right (by decide) (Nat.not_lt.1 hi)))
    simp [hi, h2]
/-- THE RESIDUE: the register behind what is sealed. -/
def residue : Nat := steps 32 4294967295
theorem over_seal (l : List Nat) (hl : ∀ b ∈ l, b < 256) : over 4294967295 (l ++ bytes (upd 0 l)) = residue := by
  rw [over_append, over_le _ (bytes_lt _), le_bytes (upd_lt _ _), bytes_length]
  unfold upd residue
  have h0 : cpl 0 = 4294967295 := rfl
  rw [h0, cpl_xor (over_lt (by decide) l hl), ← Nat.xor_assoc, Nat.xor_self, Nat.zero_xor]
theorem upd_seal (l : List Nat) (hl : ∀ b ∈ l, b < 256) : upd 0 (l ++ bytes (upd 0 l)) = cpl residue := by
  have := over_seal l hl
  unfold upd at *
  rw [show cpl 0 = 4294967295 from rfl] at *
  rw [this]
/-- step takes nothing to one -/
theorem step_eq_zero {x : Nat} (hx : x < M) (h : step x = 0) : x = 0 := by
  unfold step at h
  split at h
  · rename_i h1
    have h2 : x / 2 = poly := by
      have := congrArg (· ^^^ poly) h
      simpa [Nat.xor_assoc] using this
    unfold poly at h2; unfold M at hx; omega
  · rename_i h1
    simp at h; omega
theorem steps_eq_zero {n x : Nat} (hx : x < M) (h : steps n x = 0) : x = 0 := by
  induction n generalizing x with
  | zero => exact h
  | succ n ih => exact step_eq_zero hx (ih (step_lt hx) h)
/-- four bits at once -/
theorem steps4 (x : Nat) : steps 4 x = (x / 16) ^^^ steps 4 (x % 16) := by
  have h : x = (x % 16) ^^^ (2 ^ 4 * (x / 16)) := by
    rw [xor_shift 4 (x % 16) (x / 16) (Nat.mod_lt _ (by decide))]; omega
  conv => lhs; rw [h, steps_xor, steps_pow, Nat.xor_comm]
theorem steps8 (x : Nat) : steps 8 x = steps 4 (steps 4 x) := steps_add 4 4 x
end CrcM
namespace CrcM
def gen : Nat → Nat → List Nat
  | 0, _ => []
  | n + 1, x => (x / 2) :: gen n (step x)
def parted : Nat → List Nat → Bool
  | 0, l => match l with | [] => true | [_] => true | _ => false
  | n + 1, l => match l with | [] => true | [_] => true | _ => parted n (l.filter (fun x => Nat.beq (x / 2 ^ n % 2) 1)) && parted n (l.filter (fun x => Nat.beq (x / 2 ^ n % 2) 0))
theorem parted_count (n : Nat) (l : List Nat) (h : parted n l = true) (x : Nat) : l.countP (Nat.beq x) ≤ 1 := by
  induction n generalizing l with
  | zero =>
    match l, h with
    | [], _ => simp
    | [y], _ => exact List.countP_le_length
  | succ n ih =>
    match l, h with
    | [], _ => simp
    | [y], _ => exact List.countP_le_length
    | y :: z :: r, h =>
      simp only [parted, Bool.and_eq_true] at h
      generalize (y :: z :: r) = l at h
      have key : ∀ t, x / 2 ^ n % 2 = t → (l.filter (fun x => Nat.beq (x / 2 ^ n % 2) t)).countP (Nat.beq x) = l.countP (Nat.beq x) := by
        intro t ht
        rw [List.countP_filter]
        congr 1; funext a
        cases hb : Nat.beq x a with
        | false => simp
        | true =>
          have : x = a := Nat.eq_of_beq_eq_true hb
          subst this
          simp [ht]
      rcases Nat.mod_two_eq_zero_or_one (x / 2 ^ n) with h0 | h1
      · rw [← key 0 h0]; exact ih _ h.2
      · rw [← key 1 h1]; exact ih _ h.1
theorem gen_get (n x i : Nat) (h : i < n) : (gen n x)[i]? = some (steps i x / 2) := by
  induction n generalizing x i with
  | zero => omega
  | succ n ih =>
    cases i with
    | zero => rfl
    | succ i => simp only [gen, List.getElem?_cons_succ, steps]; exact ih _ _ (by omega)
theorem parted_all : parted 31 (gen 16032 1) = true := by decide +kernel
theorem apart_of_count {l : List Nat} (h : ∀ x, l.countP (Nat.beq x) ≤ 1) {i j : Nat} (hij : i < j) {x y : Nat} (hx : l[i]? = some x) (hy : l[j]? = some y) : x ≠ y := by
  intro e
  subst e
  have h1 := h x
  rw [← List.take_append_drop j l, List.countP_append] at h1
  have a1 : 0 < (l.take j).countP (Nat.beq x) := by
    rw [List.countP_pos_iff]
    refine ⟨x, ?_, by simp⟩
    refine List.mem_of_getElem? (i := i) ?_
    rw [List.getElem?_take_of_lt hij]; exact hx
  have a2 : 0 < (l.drop j).countP (Nat.beq x) := by
    rw [List.countP_pos_iff]
    refine ⟨x, ?_, by simp⟩
    refine List.mem_of_getElem? (i := 0) ?_
    rw [List.getElem?_drop]; simpa using hy
  omega
theorem halves_apart {i j : Nat} (hij : i < j) (hj : j < 16032) : steps i 1 / 2 ≠ steps j 1 / 2 :=
  apart_of_count (parted_count _ _ parted_all) hij (gen_get _ _ _ (by omega)) (gen_get _ _ _ hj)
theorem eq_of_xor {a b : Nat} (h : a ^^^ b = 0) : a = b := by
  have := congrArg (· ^^^ b) h
  simpa [Nat.xor_assoc] using this
theorem one_lt : 1 < M := by decide
theorem steps_two_pow {a n : Nat} (h : a ≤ n) : steps n (2 ^ a) = steps (n - a) 1 := by
  have := steps_add a (n - a) (2 ^ a)
  rw [show a + (n - a) = n by omega] at this
  rw [this]
  have := steps_pow a 1
  rw [Nat.mul_one] at this
  rw [this]
theorem bits_one {a n : Nat} (h : a ≤ n) : steps n (2 ^ a) ≠ 0 := by
  rw [steps_two_pow h]
  intro h0
  exact absurd (steps_eq_zero one_lt h0) (by decide)
theorem xor_lt_M {a b : Nat} (ha : a < M) (hb : b < M) : a ^^^ b < M := Nat.xor_lt_two_pow (n := 32) ha hb
theorem bits_two {a b n : Nat} (hab : a < b) (h : b ≤ n) (hb : b < 16032) : steps n (2 ^ a ^^^ 2 ^ b) ≠ 0 := by
  intro h0
  have := steps_add b (n - b) (2 ^ a ^^^ 2 ^ b)
  rw [show b + (n - b) = n by omega] at this
  rw [this, steps_xor b, steps_two_pow (Nat.le_of_lt hab), steps_two_pow (Nat.le_refl b), Nat.sub_self] at h0
  have h1 := steps_eq_zero (xor_lt_M (steps_lt one_lt) (steps_lt one_lt)) h0
  have h2 : steps (b - a) 1 = steps 0 1 := eq_of_xor h1
  exact halves_apart (i := 0) (j := b - a) (by omega) (by omega) (by rw [h2])
theorem bits_three {a b c n : Nat} (hab : a ≠ b) (hac : a < c) (hbc : b < c) (h : c ≤ n) (hc : c < 16032) : steps n (2 ^ a ^^^ 2 ^ b ^^^ 2 ^ c) ≠ 0 := by
  intro h0
  have := steps_add c (n - c) (2 ^ a ^^^ 2 ^ b ^^^ 2 ^ c)
  rw [show c + (n - c) = n by omega] at this
  rw [this, steps_xor c, steps_xor c, steps_two_pow (Nat.le_of_lt hac), steps_two_pow (Nat.le_of_lt hbc), steps_two_pow (Nat.le_refl c), Nat.sub_self] at h0
  have h1 := steps_eq_zero (xor_lt_M (xor_lt_M (steps_lt one_lt) (steps_lt one_lt)) (steps_lt one_lt)) h0
  have h2 : steps (c - a) 1 ^^^ steps (c - b) 1 = steps 0 1 := eq_of_xor h1
  have h3 : steps (c - a) 1 / 2 = steps (c - b) 1 / 2 := by
    have := congrArg (· / 2) h2
    simp only [xor_div2] at this
    have h4 : steps 0 1 / 2 = 0 := rfl
    rw [h4] at this
    exact eq_of_xor this
  rcases Nat.lt_or_gt_of_ne (show c - a ≠ c - b by omega) with h5 | h5
  · exact halves_apart h5 (by omega) h3
  · exact halves_apart h5 (by omega) h3.symm
theorem burst {at_ n by_ : Nat} (h0 : by_ ≠ 0) (hb : by_ < M) (h : at_ ≤ n) : steps n (2 ^ at_ * by_) ≠ 0 := by
  intro h1
  have := steps_add at_ (n - at_) (2 ^ at_ * by_)
  rw [show at_ + (n - at_) = n by omega] at this
  rw [this, steps_pow] at h1
  exact h0 (steps_eq_zero hb h1)
end CrcM
namespace CrcM
theorem steps_inj {n x y : Nat} (hx : x < M) (hy : y < M) (h : steps n x = steps n y) : x = y := by
  have h1 : steps n (x ^^^ y) = 0 := by rw [steps_xor, h, Nat.xor_self]
  exact eq_of_xor (steps_eq_zero (xor_lt_M hx hy) h1)
theorem cpl_zero : cpl 0 = 4294967295 := rfl
theorem right_parts (t d : List Nat) (ht : ∀ b ∈ t, b < 256) (hd : ∀ b ∈ d, b < 256) (h4 : d.length = 4) :
    bytes (upd 0 t) = d ↔ over 4294967295 (t ++ d) = residue := by
  obtain ⟨hb, hl⟩ := bytes_of_le hd h4
  have hr : over 4294967295 t < M := over_lt (by decide) t ht
  rw [over_append, over_le d hd, h4]
  constructor
  · intro h
    have h1 : le d = cpl (over 4294967295 t) := by rw [← h, le_bytes (upd_lt _ _)]; rfl
    rw [h1, cpl_xor hr, ← Nat.xor_assoc, Nat.xor_self, Nat.zero_xor]; rfl
  · intro h
    have h2 : over 4294967295 t ^^^ le d = 4294967295 := steps_inj (xor_lt_M hr hl) (by decide) h
    have h3 : le d = cpl (over 4294967295 t) := by
      clear h
      generalize over 4294967295 t = r at *
      rw [cpl_xor hr, ← h2, ← Nat.xor_assoc, Nat.xor_self, Nat.zero_xor]
    rw [← hb, h3]; rfl
theorem right_iff (l : List Nat) (hl : ∀ b ∈ l, b < 256) (h4 : 4 ≤ l.length) :
    bytes (upd 0 (l.take (l.length - 4))) = l.drop (l.length - 4) ↔ over 4294967295 l = residue := by
  have := right_parts (l.take (l.length - 4)) (l.drop (l.length - 4)) (fun b hb => hl b (List.mem_of_mem_take hb)) (fun b hb => hl b (List.mem_of_mem_drop hb)) (by rw [List.length_drop]; omega)
  rwa [List.take_append_drop] at this
/-- a change that the steps see -/
theorem seen (l m : List Nat) (hl : ∀ b ∈ l, b < 256) (hm : ∀ b ∈ m, b < 256) (h : over 4294967295 l = residue) (hlen : m.length = l.length) (E : Nat) (hE : le m = le l ^^^ E) (hs : steps (8 * l.length) E ≠ 0) : over 4294967295 m ≠ residue := by
  intro h2
  rw [over_le l hl] at h
  rw [over_le m hm, hlen, hE, ← Nat.xor_assoc, steps_xor, h] at h2
  apply hs
  have := congrArg (residue ^^^ ·) h2
  simpa [← Nat.xor_assoc] using this
/-- one byte another one -/
theorem le_set (l : List Nat) (hl : ∀ b ∈ l, b < 256) (i : Nat) (hi : i < l.length) (e : Nat) (he : e < 256) : le (l.set i (l[i] ^^^ e)) = le l ^^^ (2 ^ (8 * i) * e) := by
  induction l generalizing i with
  | nil => simp at hi
  | cons b l ih =>
    have hb : b < 2 ^ 8 := hl b (List.mem_cons_self ..)
    cases i with
    | zero =>
      simp only [List.set_cons_zero, List.getElem_cons_zero, Nat.mul_zero, Nat.pow_zero, Nat.one_mul]
      have h1 : b ^^^ e < 2 ^ 8 := Nat.xor_lt_two_pow hb he
      rw [show le ((b ^^^ e) :: l) = (b ^^^ e) + 2 ^ 8 * le l from rfl, show le (b :: l) = b + 2 ^ 8 * le l from rfl, ← xor_shift 8 _ _ h1, ← xor_shift 8 _ _ hb]
      rw [Nat.xor_assoc, Nat.xor_comm e, ← Nat.xor_assoc]
    | succ i =>
      have hi' : i < l.length := by simpa using hi
      have hl' : ∀ b ∈ l, b < 256 := fun c hc => hl c (List.mem_cons_of_mem _ hc)
      simp only [List.set_cons_succ, List.getElem_cons_succ]
      rw [show ∀ m, le (b :: m) = b + 2 ^ 8 * le m from fun _ => rfl, show le (b :: l) = b + 2 ^ 8 * le l from rfl, ih hl' i hi', ← xor_shift 8 _ _ hb, ← xor_shift 8 _ _ hb, Nat.xor_assoc]
      congr 1
      rw [show 8 * (i + 1) = 8 + 8 * i by omega, Nat.pow_add, Nat.mul_assoc]
      apply Nat.eq_of_testBit_eq; intro k
      simp only [Nat.testBit_xor, Nat.testBit_two_pow_mul]
      by_cases hk : 8 ≤ k <;> simp [hk]
end CrcM
namespace Go.Proofs.YtbpgfhcecanikaaGreat
open Go.RowKit
def tabAt (k : Nat) : Array Value := ((List.range 16).map fun i => Value.int .u32 ((if i < k then CrcM.steps 4 i else 0 : Nat) : Int)).toArray
theorem and_one_u32 (x : Nat) (hx : x < CrcM.M) : bits .and .u32 (x : Int) 1 = ((x % 2 : Nat) : Int) := by
  have := u32_and_nat x 1 hx (by decide)
  rw [nat_mask1] at this
  exact this
theorem halves_step (x : Nat) (hx : x < CrcM.M) : bits .xor .u32 ((x : Int) / 2) (3988292384 * bits .and .u32 (x : Int) 1 % 4294967296) = ((CrcM.step x : Nat) : Int) := by
  rw [and_one_u32 x hx]
  have h2 : (x : Int) / 2 = ((x / 2 : Nat) : Int) := by omega
  have h3 : (3988292384 : Int) * ((x % 2 : Nat) : Int) % 4294967296 = ((if x % 2 = 1 then CrcM.poly else 0 : Nat) : Int) := by
    unfold CrcM.poly
    rcases Nat.mod_two_eq_zero_or_one x with h | h <;> rw [h] <;> decide
  rw [h2, h3, u32_xor_nat _ _ (by unfold CrcM.M at hx; omega) (by unfold CrcM.poly; split <;> decide)]
  rfl
theorem tab_get (k : Nat) (h : k < 16) : (tabAt k)[k]? = some (Value.int .u32 0) := by
  simp [tabAt, h]
theorem tab_set (k : Nat) (h : k < 16) : (tabAt k).setIfInBounds k (.int .u32 (CrcM.steps 4 k : Nat)) = tabAt (k + 1) := by
  apply Array.ext'
  simp only [tabAt, Array.toList_setIfInBounds, List.toList_toArray]
  apply List.ext_getElem?
  intro i
  rw [List.getElem?_set]
  by_cases hi : k = i
  · subst hi; simp [h]
  · rw [if_neg hi]
    simp only [List.getElem?_map]
    by_cases h16 : i < 16
    · simp only [List.getElem?_range h16, Option.map_some]
      congr 4
      by_cases h1 : i < k
      · simp [h1, show i < k + 1 by omega]
      · simp [h1, show ¬ i < k + 1 by omega]
    · simp [h16]
def tabLit : Array Value := #[Value.int .u32 0, Value.int .u32 498536548, Value.int .u32 997073096, Value.int .u32 651767980, Value.int .u32 1994146192, Value.int .u32 1802195444, Value.int .u32 1303535960, Value.int .u32 1342533948, Value.int .u32 3988292384, Value.int .u32 4027552580, Value.int .u32 3604390888, Value.int .u32 3412177804, Value.int .u32 2607071920, Value.int .u32 2262029012, Value.int .u32 2685067896, Value.int .u32 3183342108]
theorem tab_lit : tabAt 16 = tabLit := by kernel_rfl
set_option maxRecDepth 100000 in
theorem crc_halves (w : World) : Calls Tryz.prog 123 #[] w fun e w' => e = .returned (.agg (tabAt 16)) ∧ Below w.heap.size w w' := by
  go_enter Tryz.func123, Tryz.ntmps123
  go_wp2
  go_loopw [5] (fun i wr => ∃ k : Nat, k ≤ 16 ∧ i = .int .i64 k ∧ wr = (w.alloc (.cells (tabAt 0) 183)).alloc (.cells (tabAt k) 183)) (fun i _ => 16 - (intOf i).toNat)
  case atStart => exact ⟨0, by omega, rfl, rfl⟩
  case round =>
    obtain ⟨k, hk, rfl, rfl⟩ := hrel
    by_cases hlt : k < 16
    · have htab := tab_get k hlt
      have hset := Lib.hid (tab_set k hlt)
      have hkM : k < CrcM.M := by unfold CrcM.M; omega
      go_wp2
      go_loop [3, 10] (fun x j => ∃ m : Nat, m ≤ 4 ∧ j = .int .i64 m ∧ x = .int .u32 (CrcM.steps m k : Nat)) (fun _ j => 4 - (intOf j).toNat)
      case atStart => exact ⟨0, by omega, rfl, by simp [CrcM.steps]⟩
      case round =>
        obtain ⟨m, hm, rfl, rfl⟩ := hrel
        have hst := Lib.hid (halves_step (CrcM.steps m k) (CrcM.steps_lt hkM))
        by_cases hlt2 : m < 4
        · go_wp2
          go_round
          case rel => exact ⟨m + 1, by omega, by go_num, by rw [hst.out, CrcM.steps_add m 1]; rfl⟩
          case measure => simp [intOf]; omega
        · obtain rfl : m = 4 := by omega
          clear hst
          go_wp2
          go_roundw
          case rel => exact ⟨k + 1, by omega, by go_num, by rw [hset.out]⟩
          case measure => simp [intOf]; omega
    · obtain rfl : k = 16 := by omega
      have e0 : tabAt 0 = #[Value.int .u32 0, Value.int .u32 0, Value.int .u32 0, Value.int .u32 0, Value.int .u32 0, Value.int .u32 0, Value.int .u32 0, Value.int .u32 0, Value.int .u32 0, Value.int .u32 0, Value.int .u32 0, Value.int .u32 0, Value.int .u32 0, Value.int .u32 0, Value.int .u32 0, Value.int .u32 0] := by rfl
      rw [tab_lit, e0]
      unfold tabLit
      clear hk hlt
      go_wp2
      exact bodyPost_ret (v := .agg tabLit) (by simp [results, Tryz.results123, go_sem, tabLit]) rfl ⟨by rw [tab_lit], ((Below.refl _ _).alloc (Nat.le_refl _) _).alloc (by simp) _⟩
end Go.Proofs.YtbpgfhcecanikaaGreat
namespace Go.Proofs.YtbpgfhcecanikaaGreat
open Go.RowKit
set_option maxRecDepth 100000 in
theorem crc_bytes (x : Nat) (w : World) : Calls Tryz.prog 89 #[.int .u32 (x : Int)] w fun e w' => e = .returned (.string (txt (CrcM.bytes x))) ∧ Below w.heap.size w w' := by
  have hcv := Kq.conv_bytes (P := Tryz.prog) (w.alloc (Obj.cells #[Value.int IntKind.u8 ((x : Int) % 256), Value.int IntKind.u8 ((x : Int) / 256 % 256), Value.int IntKind.u8 ((x : Int) / 65536 % 256), Value.int IntKind.u8 ((x : Int) / 16777216 % 256)] 5))
    (src := 64) (dst := 9) ⟨w.heap.size, 0, none⟩ ((CrcM.bytes x).map UInt8.ofNat) 4 Tryz.underlying64 Tryz.underlying5 Tryz.underlying9
    (fun j v hj => Kq.cell_new _ _ _ (by
      rw [← hj, ← List.getElem?_toArray]
      congr 1
      simp [CrcM.bytes]))
  simp only [List.length_map, CrcM.bytes_length] at hcv
  go_enter Tryz.func89, Tryz.ntmps89
  go_wp2
  go_ret
  exact ⟨rfl, Kq.below_alloc _ _⟩
end Go.Proofs.YtbpgfhcecanikaaGreat
namespace Go.Proofs.YtbpgfhcecanikaaGreat
open Go.RowKit
theorem tab_cell (w1 : World) (j : Nat) (h : j < 16) : (w1.alloc (.cells (tabAt 16) 183)).cell? ⟨w1.heap.size, j, none⟩ = some (.int .u32 ((CrcM.steps 4 j : Nat) : Int)) := by
  rw [World.cell?_alloc_at _ _ _ _ rfl]
  simp [tabAt, h]
theorem half_step (y : Nat) (hy : y < CrcM.M) : bits .xor .u32 ((y : Int) / 16) ((CrcM.steps 4 (y % 16) : Nat) : Int) = ((CrcM.steps 4 y : Nat) : Int) := by
  have h2 : (y : Int) / 16 = ((y / 16 : Nat) : Int) := by omega
  have h3 : y % 16 < CrcM.M := by unfold CrcM.M; omega
  rw [h2, u32_xor_nat _ _ (by unfold CrcM.M at hy; omega) (CrcM.steps_lt h3), ← CrcM.steps4]
theorem half_and (y : Nat) (hy : y < CrcM.M) : bits .and .u32 (y : Int) 15 = ((y % 16 : Nat) : Int) := by
  have := u32_and_nat y 15 hy (by decide)
  rw [nat_mask4] at this
  exact this
theorem byte_xor (x : Nat) (b : UInt8) (hx : x < CrcM.M) : bits .xor .u32 (x : Int) ((b.toNat : Nat) : Int) = ((x ^^^ b.toNat : Nat) : Int) :=
  u32_xor_nat _ _ hx (Nat.lt_trans b.toNat_lt (by decide))
theorem byte_xor_lt (x : Nat) (b : UInt8) (hx : x < CrcM.M) : x ^^^ b.toNat < CrcM.M :=
  CrcM.xor_lt_M' hx (Nat.lt_trans b.toNat_lt (by decide))
theorem u32_cpl (x : Nat) (hx : x < CrcM.M) : bits .xor .u32 IntKind.u32.max (x : Int) = ((CrcM.cpl x : Nat) : Int) := by
  have h : IntKind.u32.max = ((4294967295 : Nat) : Int) := by rfl
  rw [h, u32_xor_nat _ _ (by decide) hx, CrcM.cpl_xor hx, Nat.xor_comm]
theorem byte_u32 (b : UInt8) : ((b.toNat : Nat) : Int) % 4294967296 = ((b.toNat : Nat) : Int) := by
  have := b.toNat_lt; omega
theorem over_succ (x : Nat) (s : ByteArray) (k : Nat) (h : k < s.size) : CrcM.over x ((nl s).take (k + 1)) = CrcM.steps 4 (CrcM.steps 4 (CrcM.over x ((nl s).take k) ^^^ s[k].toNat)) := by
  rw [take_succ_nl s k h, CrcM.over_append, CrcM.over_cons, CrcM.over_nil, CrcM.steps8]
set_option maxRecDepth 100000 in
set_option maxHeartbeats 400000 in
theorem crc_update (x : Nat) (s : ByteArray) (w : World) (hx : x < CrcM.M) (hs : s.size ≤ maxLen) :
    Calls Tryz.prog 111 #[.int .u32 (x : Int), .string s] w fun e w' => e = .returned (.int .u32 ((CrcM.upd x (nl s) : Nat) : Int)) ∧ Below w.heap.size w w' := by
  unfold maxLen at hs
  have hx' := Lib.hid hx
  clear hx
  go_enter Tryz.func111, Tryz.ntmps111
  go_wp2_with fail
  refine (crc_halves _).mono ?_
  rintro e w1 ⟨rfl, hb1⟩
  have hsz := hb1.size
  have h16 : (tabAt 16).size = 16 := by simp [tabAt]
  have hst := run_storeCells_new (P := Tryz.prog) w1 183 #[Value.int .u32 0, Value.int .u32 0, Value.int .u32 0, Value.int .u32 0, Value.int .u32 0, Value.int .u32 0, Value.int .u32 0, Value.int .u32 0, Value.int .u32 0, Value.int .u32 0, Value.int .u32 0, Value.int .u32 0, Value.int .u32 0, Value.int .u32 0, Value.int .u32 0, Value.int .u32 0] (tabAt 16) (by rw [h16]; kernel_rfl) rfl (by simp [tabAt, Value.oneCell'])
  have hx := hx'.out
  have hcx := u32_cpl x hx
  clear hx
  go_wp2
  clear hst hcx
  go_loop [0, 12] (fun y j => ∃ k : Nat, k ≤ s.size ∧ j = .int .i64 k ∧ y = .int .u32 (CrcM.over (CrcM.cpl x) ((nl s).take k) : Nat)) (fun _ j => s.size - (intOf j).toNat)
  case atStart => exact ⟨0, by omega, rfl, by simp [CrcM.over]⟩
  case round =>
    obtain ⟨k, hk, rfl, rfl⟩ := hrel
    by_cases hlt : k < s.size
    · have hXlt := Lib.hid (CrcM.over_lt (CrcM.cpl_lt x) ((nl s).take k) (fun b hb => nl_lt s b (List.mem_of_mem_take hb)))
      have hS := Lib.hid (over_succ (CrcM.cpl x) s k hlt)
      obtain ⟨X, hX⟩ : ∃ X, X = CrcM.over (CrcM.cpl x) ((nl s).take k) := ⟨_, rfl⟩
      rw [← hX] at hXlt hS ⊢
      clear hX
      obtain ⟨y, hy⟩ : ∃ y, y = X ^^^ s[k].toNat := ⟨_, rfl⟩
      have hyM : y < CrcM.M := by rw [hy]; exact byte_xor_lt X _ hXlt.out
      have hb0 := byte_u32 s[k]
      have hx1 := byte_xor X s[k] hXlt.out
      rw [← hy] at hx1 hS
      clear hy
      have ha1 := half_and y hyM
      have hc1 := tab_cell w1 (y % 16) (Nat.mod_lt _ (by decide))
      have hx2 := half_step y hyM
      obtain ⟨z, hz⟩ : ∃ z, z = CrcM.steps 4 y := ⟨_, rfl⟩
      have hzM : z < CrcM.M := by rw [hz]; exact CrcM.steps_lt hyM
      rw [← hz] at hx2 hS
      clear hz
      have ha2 := half_and z hzM
      have hc2 := tab_cell w1 (z % 16) (Nat.mod_lt _ (by decide))
      have hx3 := half_step z hzM
      obtain ⟨u, hu⟩ : ∃ u, u = CrcM.steps 4 z := ⟨_, rfl⟩
      rw [← hu] at hx3 hS
      clear hu hyM hzM
      have hy16 : y % 16 < 16 := Nat.mod_lt _ (by decide)
      have hz16 : z % 16 < 16 := Nat.mod_lt _ (by decide)
      go_wp2
      go_round
      case rel => exact ⟨k + 1, by omega, by go_num, by rw [hS.out]⟩
      case measure => simp [intOf]; omega
    · obtain rfl : k = s.size := by omega
      have hX := u32_cpl _ (CrcM.over_lt (CrcM.cpl_lt x) ((nl s).take s.size) (fun b hb => nl_lt s b (List.mem_of_mem_take hb)))
      have hT : (nl s).take s.size = nl s := List.take_of_length_le (by rw [nl_length]; exact Nat.le_refl _)
      rw [hT] at hX ⊢
      go_wp2
      go_ret
      exact ⟨rfl, hb1.trans ((Kq.below_alloc _ _).mono hsz)⟩
end Go.Proofs.YtbpgfhcecanikaaGreat
namespace Go.Proofs.YtbpgfhcecanikaaGreat
open Go.RowKit
def sumAll (x : Nat) (ss : List ByteArray) : Nat := ss.foldl (fun x s => CrcM.upd x (nl s)) x
theorem sumAll_lt (x : Nat) (hx : x < CrcM.M) (ss : List ByteArray) : sumAll x ss < CrcM.M := by
  induction ss generalizing x with
  | nil => exact hx
  | cons s ss ih => exact ih _ (CrcM.upd_lt _ _)
theorem sumAll_succ (x : Nat) (ss : List ByteArray) (k : Nat) (h : k < ss.length) : sumAll x (ss.take (k + 1)) = CrcM.upd (sumAll x (ss.take k)) (nl ss[k]) := by
  unfold sumAll; rw [List.take_succ_eq_append_getElem h, List.foldl_append]; rfl
set_option maxRecDepth 100000 in
theorem crc_sum_none (w : World) : Calls Tryz.prog 90 #[.slice none 0 0] w fun e w' => e = .returned (.int .u32 0) ∧ Below w.heap.size w w' := by
  go_enter Tryz.func90, Tryz.ntmps90
  go_wp2
  refine wp_loop_rounds 1 ?_; rw [rounds_succ]
  go_wp2
  go_ret
  exact ⟨rfl, Below.refl _ _⟩
set_option maxRecDepth 100000 in
set_option maxHeartbeats 400000 in
theorem crc_sum (b c : Nat) (ss : List ByteArray) (w : World) (hb : b < w.heap.size) (hl : ss.length ≤ maxLen) (hs : ∀ s ∈ ss, s.size ≤ maxLen)
    (hc : ∀ j (h : j < ss.length), w.cell? ⟨b, j, none⟩ = some (.string ss[j])) :
    Calls Tryz.prog 90 #[.slice (some ⟨b, 0, none⟩) ss.length c] w fun e w' => e = .returned (.int .u32 ((sumAll 0 ss : Nat) : Int)) ∧ Below w.heap.size w w' := by
  unfold maxLen at hl
  have HC := Lib.hid hc
  have HS := Lib.hid hs
  clear hc hs
  go_enter Tryz.func90, Tryz.ntmps90
  go_wp2
  go_loopw [3, 8] (fun y j wr => ∃ k : Nat, k ≤ ss.length ∧ j = .int .i64 k ∧ y = .int .u32 (sumAll 0 (ss.take k) : Nat) ∧ Below w.heap.size w wr) (fun _ j _ => ss.length - (intOf j).toNat)
  case atStart => exact ⟨0, by omega, rfl, rfl, Below.refl _ _⟩
  case round =>
    obtain ⟨k, hk, rfl, rfl, hbl⟩ := hrel
    by_cases hlt : k < ss.length
    · have hcell := (hbl.cell (p := ⟨b, k, none⟩) hb).trans (HC.out k hlt)
      have hsk := Lib.hid (HS.out ss[k] (List.getElem_mem _))
      have hS := Lib.hid (sumAll_succ 0 ss k hlt)
      have hXlt := Lib.hid (sumAll_lt 0 (by decide) (ss.take k))
      go_wp2_with fail
      refine (crc_update _ _ _ hXlt.out hsk.out).mono ?_
      rintro e w2 ⟨rfl, hb2⟩
      have hbl2 := hbl.trans (hb2.mono hbl.size)
      clear hb2 hbl hcell
      go_wp2
      go_roundw
      case rel => exact ⟨k + 1, by omega, by go_num, by rw [hS.out], hbl2⟩
      case measure => simp [intOf]; omega
    · obtain rfl : k = ss.length := by omega
      rw [List.take_length]
      go_wp2
      go_ret
      exact ⟨rfl, hbl⟩
end Go.Proofs.YtbpgfhcecanikaaGreat
