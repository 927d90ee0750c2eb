/- Plain mathematics of CRC-32 on natural numbers; no condition. -/
namespace CrcM

def poly : Nat := 3988292384
/-- one bit falls out -/
def step (x : Nat) : Nat := (x / 2) ^^^ (if x % 2 = 1 then poly else 0)
def steps : Nat → Nat → Nat
  | 0, x => x
  | n + 1, x => steps n (step x)
/-- bytes as a number, the lowest first -/
def le : List Nat → Nat
  | [] => 0
  | b :: l => b + 256 * le l
def over (x : Nat) (l : List Nat) : Nat := l.foldl (fun x b => steps 8 (x ^^^ b)) x
def M : Nat := 4294967296
def cpl (x : Nat) : Nat := 4294967295 - x
def upd (s : Nat) (l : List Nat) : Nat := cpl (over (cpl s) l)

theorem xor_div2 (a b : Nat) : (a ^^^ b) / 2 = (a / 2) ^^^ (b / 2) := by
  apply Nat.eq_of_testBit_eq; intro i
  simp [Nat.testBit_div_two, Nat.testBit_xor]
theorem xor_mod2 (a b : Nat) : (a ^^^ b) % 2 = (a % 2 + b % 2) % 2 := by
  have h := Nat.testBit_xor a b 0
  simp only [Nat.testBit_zero] at h
  rcases Nat.mod_two_eq_zero_or_one a with ha | ha <;> rcases Nat.mod_two_eq_zero_or_one b with hb | hb <;> rcases Nat.mod_two_eq_zero_or_one (a ^^^ b) with hc | hc <;> rw [ha, hb, hc] at h <;> first | (exact absurd h (by decide)) | (rw [ha, hb, hc])
theorem xor_swap4 (a b c d : Nat) : (a ^^^ b) ^^^ (c ^^^ d) = (a ^^^ c) ^^^ (b ^^^ d) := by
  apply Nat.eq_of_testBit_eq; intro i
  simp only [Nat.testBit_xor]
  cases a.testBit i <;> cases b.testBit i <;> cases c.testBit i <;> cases d.testBit i <;> rfl
theorem step_xor (a b : Nat) : step (a ^^^ b) = step a ^^^ step b := by
  unfold step
  rw [xor_div2, xor_mod2, xor_swap4]
  congr 1
  rcases Nat.mod_two_eq_zero_or_one a with ha | ha <;> rcases Nat.mod_two_eq_zero_or_one b with hb | hb <;> simp [ha, hb]
theorem step_zero : step 0 = 0 := rfl
theorem step_double (x : Nat) : step (2 * x) = x := by
  unfold step
  have : (2 * x) % 2 = 0 := by omega
  simp [this]
theorem steps_xor (n a b : Nat) : steps n (a ^^^ b) = steps n a ^^^ steps n b := by
  induction n generalizing a b with
  | zero => rfl
  | succ n ih => simp only [steps, step_xor, ih]
theorem steps_zero (n : Nat) : steps n 0 = 0 := by
  induction n with
  | zero => rfl
  | succ n ih => simp only [steps, step_zero, ih]
theorem steps_add (m n x : Nat) : steps (m + n) x = steps n (steps m x) := by
  induction m generalizing x with
  | zero => simp [steps]
  | succ m ih => rw [Nat.succ_add]; simp only [steps, ih]
theorem steps_pow (n x : Nat) : steps n (2 ^ n * x) = x := by
  induction n generalizing x with
  | zero => simp [steps]
  | succ n ih =>
    simp only [steps]
    rw [show 2 ^ (n + 1) * x = 2 * (2 ^ n * x) by rw [Nat.pow_succ, Nat.mul_comm (2 ^ n) 2, Nat.mul_assoc], step_double, ih]
theorem step_lt {x : Nat} (h : x < M) : step x < M := by
  unfold step
  have h1 : x / 2 < 2 ^ 32 := by unfold M at h; omega
  have h2 : (if x % 2 = 1 then poly else 0) < 2 ^ 32 := by split <;> decide
  exact Nat.xor_lt_two_pow h1 h2
theorem xor_lt_M' {a b : Nat} (ha : a < M) (hb : b < M) : a ^^^ b < M := Nat.xor_lt_two_pow (n := 32) ha hb
theorem steps_lt {n x : Nat} (h : x < M) : steps n x < M := by
  induction n generalizing x with
  | zero => exact h
  | succ n ih => exact ih (step_lt h)
/-- numbers side by side: xor is a sum -/
theorem xor_shift (k a b : Nat) (h : a < 2 ^ k) : a ^^^ (2 ^ k * b) = a + 2 ^ k * b := by
  apply Nat.eq_of_testBit_eq; intro i
  rw [Nat.add_comm, Nat.testBit_xor, Nat.testBit_two_pow_mul_add b h i, Nat.testBit_two_pow_mul]
  by_cases hi : i < k
  · simp [hi, Nat.not_le.2 hi]
  · have h2 : a.testBit i = false := Nat.testBit_lt_two_pow (Nat.lt_of_lt_of_le h (Nat.pow_le_pow_right (by decide) (Nat.not_lt.1 hi)))
    simp [hi, Nat.not_lt.1 hi, h2]
theorem over_nil (x : Nat) : over x [] = x := rfl
theorem over_cons (x b : Nat) (l : List Nat) : over x (b :: l) = over (steps 8 (x ^^^ b)) l := rfl
theorem over_append (x : Nat) (l m : List Nat) : over x (l ++ m) = over (over x l) m := by simp [over, List.foldl_append]
/-- A TEXT AT ONCE -/
theorem over_le (l : List Nat) (hl : ∀ b ∈ l, b < 256) (x : Nat) : over x l = steps (8 * l.length) (x ^^^ le l) := by
  induction l generalizing x with
  | nil => simp [over, le, steps]
  | cons b l ih =>
    rw [over_cons, ih (fun c hc => hl c (List.mem_cons_of_mem _ hc))]
    have hb : b < 2 ^ 8 := hl b (List.mem_cons_self ..)
    rw [List.length_cons, show 8 * (l.length + 1) = 8 + 8 * l.length by omega, steps_add]
    congr 1
    rw [show le (b :: l) = b + 2 ^ 8 * le l from rfl, ← xor_shift 8 b (le l) hb, ← Nat.xor_assoc, steps_xor 8 (x ^^^ b), steps_pow]
theorem over_lt {x : Nat} (h : x < M) (l : List Nat) (hl : ∀ b ∈ l, b < 256) : over x l < M := by
  induction l generalizing x with
  | nil => exact h
  | cons b l ih =>
    rw [over_cons]
    refine ih (steps_lt ?_) (fun c hc => hl c (List.mem_cons_of_mem _ hc))
    have hb : b < 2 ^ 32 := Nat.lt_trans (hl b (List.mem_cons_self ..)) (by decide)
    exact Nat.xor_lt_two_pow h hb
theorem cpl_lt (x : Nat) : cpl x < M := by unfold cpl M; omega
theorem cpl_cpl {x : Nat} (h : x < M) : cpl (cpl x) = x := by unfold cpl; unfold M at h; omega
theorem upd_lt (s : Nat) (l : List Nat) : upd s l < M := cpl_lt _
theorem upd_append (s : Nat) (l m : List Nat) (hl : ∀ b ∈ l, b < 256) : upd s (l ++ m) = upd (upd s l) m := by
  unfold upd
  rw [over_append, cpl_cpl (over_lt (cpl_lt s) l hl)]
theorem upd_nil {s : Nat} (h : s < M) : upd s [] = s := by unfold upd; rw [over_nil, cpl_cpl h]
/-- the bytes of a sum -/
def bytes (s : Nat) : List Nat := [s % 256, s / 256 % 256, s / 65536 % 256, s / 16777216 % 256]
theorem bytes_lt (s : Nat) : ∀ b ∈ bytes s, b < 256 := by
  intro b hb; simp only [bytes, List.mem_cons, List.mem_nil_iff, or_false] at hb
  rcases hb with rfl | rfl | rfl | rfl <;> omega
theorem bytes_length (s : Nat) : (bytes s).length = 4 := rfl
theorem le_bytes {s : Nat} (h : s < M) : le (bytes s) = s := by
  unfold M at h; simp only [bytes, le]; omega
theorem bytes_inj {s t : Nat} (hs : s < M) (ht : t < M) (h : bytes s = bytes t) : s = t := by
  rw [← le_bytes hs, ← le_bytes ht, h]
theorem bytes_of_le {l : List Nat} (hl : ∀ b ∈ l, b < 256) (h4 : l.length = 4) : bytes (le l) = l ∧ le l < M := by
  match l, h4 with
  | [a, b, c, d], _ =>
    have ha := hl a (by simp); have hb := hl b (by simp); have hc := hl c (by simp); have hd := hl d (by simp)
    refine ⟨?_, ?_⟩
    · simp only [bytes, le, List.cons.injEq, and_true]; omega
    · simp only [le, M]; omega
theorem cpl_xor {x : Nat} (h : x < M) : cpl x = x ^^^ 4294967295 := by
  have h' : x < 2 ^ 32 := h
  apply Nat.eq_of_testBit_eq; intro i
  have : cpl x = 2 ^ 32 - (x + 1) := by unfold cpl; omega
  rw [this, Nat.testBit_two_pow_sub_succ h', Nat.testBit_xor, show (4294967295 : Nat) = 2 ^ 32 - 1 by decide, Nat.testBit_two_pow_sub_one]
  by_cases hi : i < 32
  · simp [hi]
  · have h2 : x.testBit i = false := Nat.testBit_lt_two_pow (Nat.lt_of_lt_of_le h' (Nat.pow_le_pow_right (by decide) (Nat.not_lt.1 hi)))
    simp [hi, h2]
/-- THE RESIDUE: the register behind what is sealed. -/
def residue : Nat := steps 32 4294967295
theorem over_seal (l : List Nat) (hl : ∀ b ∈ l, b < 256) : over 4294967295 (l ++ bytes (upd 0 l)) = residue := by
  rw [over_append, over_le _ (bytes_lt _), le_bytes (upd_lt _ _), bytes_length]
  unfold upd residue
  have h0 : cpl 0 = 4294967295 := rfl
  rw [h0, cpl_xor (over_lt (by decide) l hl), ← Nat.xor_assoc, Nat.xor_self, Nat.zero_xor]
theorem upd_seal (l : List Nat) (hl : ∀ b ∈ l, b < 256) : upd 0 (l ++ bytes (upd 0 l)) = cpl residue := by
  have := over_seal l hl
  unfold upd at *
  rw [show cpl 0 = 4294967295 from rfl] at *
  rw [this]
/-- step takes nothing to one -/
theorem step_eq_zero {x : Nat} (hx : x < M) (h : step x = 0) : x = 0 := by
  unfold step at h
  split at h
  · rename_i h1
    have h2 : x / 2 = poly := by
      have := congrArg (· ^^^ poly) h
      simpa [Nat.xor_assoc] using this
    unfold poly at h2; unfold M at hx; omega
  · rename_i h1
    simp at h; omega
theorem steps_eq_zero {n x : Nat} (hx : x < M) (h : steps n x = 0) : x = 0 := by
  induction n generalizing x with
  | zero => exact h
  | succ n ih => exact step_eq_zero hx (ih (step_lt hx) h)
/-- four bits at once -/
theorem steps4 (x : Nat) : steps 4 x = (x / 16) ^^^ steps 4 (x % 16) := by
  have h : x = (x % 16) ^^^ (2 ^ 4 * (x / 16)) := by
    rw [xor_shift 4 (x % 16) (x / 16) (Nat.mod_lt _ (by decide))]; omega
  conv => lhs; rw [h, steps_xor, steps_pow, Nat.xor_comm]
theorem steps8 (x : Nat) : steps 8 x = steps 4 (steps 4 x) := steps_add 4 4 x
end CrcM
