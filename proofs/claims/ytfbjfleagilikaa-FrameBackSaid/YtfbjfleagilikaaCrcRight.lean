/- Plain mathematics: a text is sealed where its register is the residue; a change is seen. No condition but lengths. -/
import Derived.Test.YtfbjfleagilikaaCrcThree
namespace CrcM
theorem steps_inj {n x y : Nat} (hx : x < M) (hy : y < M) (h : steps n x = steps n y) : x = y := by
  have h1 : steps n (x ^^^ y) = 0 := by rw [steps_xor, h, Nat.xor_self]
  exact eq_of_xor (steps_eq_zero (xor_lt_M hx hy) h1)
theorem cpl_zero : cpl 0 = 4294967295 := rfl
theorem right_parts (t d : List Nat) (ht : ∀ b ∈ t, b < 256) (hd : ∀ b ∈ d, b < 256) (h4 : d.length = 4) :
    bytes (upd 0 t) = d ↔ over 4294967295 (t ++ d) = residue := by
  obtain ⟨hb, hl⟩ := bytes_of_le hd h4
  have hr : over 4294967295 t < M := over_lt (by decide) t ht
  rw [over_append, over_le d hd, h4]
  constructor
  · intro h
    have h1 : le d = cpl (over 4294967295 t) := by rw [← h, le_bytes (upd_lt _ _)]; rfl
    rw [h1, cpl_xor hr, ← Nat.xor_assoc, Nat.xor_self, Nat.zero_xor]; rfl
  · intro h
    have h2 : over 4294967295 t ^^^ le d = 4294967295 := steps_inj (xor_lt_M hr hl) (by decide) h
    have h3 : le d = cpl (over 4294967295 t) := by
      clear h
      generalize over 4294967295 t = r at *
      rw [cpl_xor hr, ← h2, ← Nat.xor_assoc, Nat.xor_self, Nat.zero_xor]
    rw [← hb, h3]; rfl
theorem right_iff (l : List Nat) (hl : ∀ b ∈ l, b < 256) (h4 : 4 ≤ l.length) :
    bytes (upd 0 (l.take (l.length - 4))) = l.drop (l.length - 4) ↔ over 4294967295 l = residue := by
  have := right_parts (l.take (l.length - 4)) (l.drop (l.length - 4)) (fun b hb => hl b (List.mem_of_mem_take hb)) (fun b hb => hl b (List.mem_of_mem_drop hb)) (by rw [List.length_drop]; omega)
  rwa [List.take_append_drop] at this
/-- a change that the steps see -/
theorem seen (l m : List Nat) (hl : ∀ b ∈ l, b < 256) (hm : ∀ b ∈ m, b < 256) (h : over 4294967295 l = residue) (hlen : m.length = l.length) (E : Nat) (hE : le m = le l ^^^ E) (hs : steps (8 * l.length) E ≠ 0) : over 4294967295 m ≠ residue := by
  intro h2
  rw [over_le l hl] at h
  rw [over_le m hm, hlen, hE, ← Nat.xor_assoc, steps_xor, h] at h2
  apply hs
  have := congrArg (residue ^^^ ·) h2
  simpa [← Nat.xor_assoc] using this
/-- one byte another one -/
theorem le_set (l : List Nat) (hl : ∀ b ∈ l, b < 256) (i : Nat) (hi : i < l.length) (e : Nat) (he : e < 256) : le (l.set i (l[i] ^^^ e)) = le l ^^^ (2 ^ (8 * i) * e) := by
  induction l generalizing i with
  | nil => simp at hi
  | cons b l ih =>
    have hb : b < 2 ^ 8 := hl b (List.mem_cons_self ..)
    cases i with
    | zero =>
      simp only [List.set_cons_zero, List.getElem_cons_zero, Nat.mul_zero, Nat.pow_zero, Nat.one_mul]
      have h1 : b ^^^ e < 2 ^ 8 := Nat.xor_lt_two_pow hb he
      rw [show le ((b ^^^ e) :: l) = (b ^^^ e) + 2 ^ 8 * le l from rfl, show le (b :: l) = b + 2 ^ 8 * le l from rfl, ← xor_shift 8 _ _ h1, ← xor_shift 8 _ _ hb]
      rw [Nat.xor_assoc, Nat.xor_comm e, ← Nat.xor_assoc]
    | succ i =>
      have hi' : i < l.length := by simpa using hi
      have hl' : ∀ b ∈ l, b < 256 := fun c hc => hl c (List.mem_cons_of_mem _ hc)
      simp only [List.set_cons_succ, List.getElem_cons_succ]
      rw [show ∀ m, le (b :: m) = b + 2 ^ 8 * le m from fun _ => rfl, show le (b :: l) = b + 2 ^ 8 * le l from rfl, ih hl' i hi', ← xor_shift 8 _ _ hb, ← xor_shift 8 _ _ hb, Nat.xor_assoc]
      congr 1
      rw [show 8 * (i + 1) = 8 + 8 * i by omega, Nat.pow_add, Nat.mul_assoc]
      apply Nat.eq_of_testBit_eq; intro k
      simp only [Nat.testBit_xor, Nat.testBit_two_pow_mul]
      by_cases hk : 8 ≤ k <;> simp [hk]
end CrcM
