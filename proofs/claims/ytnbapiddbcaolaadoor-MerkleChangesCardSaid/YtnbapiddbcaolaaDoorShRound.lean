/- One round of SHA-256, in the words of 32 bits that the programs compute. Condition: words of 32 bits. -/
import Derived.Test.YtnbapiddbcaolaaDoorShSched
namespace Go.Proofs.YtnbapiddbcaolaaDoor
open Go.RowKit
set_option linter.unusedVariables false
def toL (s : Sh.S8) : List Nat := [s.a, s.b, s.c, s.d, s.e, s.f, s.g, s.h]
structure Ok8 (s : Sh.S8) : Prop where
  a : s.a < 4294967296
  b : s.b < 4294967296
  c : s.c < 4294967296
  d : s.d < 4294967296
  e : s.e < 4294967296
  f : s.f < 4294967296
  g : s.g < 4294967296
  h : s.h < 4294967296
theorem wrap32 (x : Nat) : IntKind.u32.wrap (x : Int) = ((x % 4294967296 : Nat) : Int) := by rw [IntKind.wrap_u32]; omega
theorem add32 (x y : Nat) : IntKind.u32.wrap ((x : Int) + (y : Int)) = (((x + y) % 4294967296 : Nat) : Int) := by rw [IntKind.wrap_u32]; omega
theorem xlt {x y : Nat} (hx : x < 4294967296) (hy : y < 4294967296) : x ^^^ y < 4294967296 := Nat.xor_lt_two_pow (n := 32) hx hy
theorem alt {x y : Nat} (hy : y < 4294967296) : x &&& y < 4294967296 := Nat.and_lt_two_pow (n := 32) x hy
theorem xor3 (x y z : Nat) (hx : x < 4294967296) (hy : y < 4294967296) (hz : z < 4294967296) : ∃ m : Nat, bits .xor .u32 (x : Int) (y : Int) = (m : Int) ∧ bits .xor .u32 (m : Int) (z : Int) = (((x ^^^ y) ^^^ z : Nat) : Int) :=
  ⟨x ^^^ y, xor_u32 _ _ hx hy, xor_u32 _ _ (xlt hx hy) hz⟩
theorem ch_facts (e f g : Nat) (he : e < 4294967296) (hf : f < 4294967296) (hg : g < 4294967296) : ∃ n1 cp n2 : Nat,
    bits .and .u32 (e : Int) (f : Int) = (n1 : Int) ∧ bits .xor .u32 IntKind.u32.max (e : Int) = (cp : Int) ∧ IntKind.u32.wrap (4294967295 - (e : Int)) = (cp : Int) ∧ bits .and .u32 (cp : Int) (g : Int) = (n2 : Int) ∧ bits .xor .u32 (n1 : Int) (n2 : Int) = (Sh.ch e f g : Int) := by
  refine ⟨e &&& f, 4294967295 - e, (4294967295 - e) &&& g, and_u32 _ _ he hf, ?_, ?_, and_u32 _ _ (by omega) hg, xor_u32 _ _ (alt hf) (alt hg)⟩
  · rw [show IntKind.u32.max = ((4294967295 : Nat) : Int) from rfl, xor_u32 _ _ (by decide) he]
    congr 1
    have h2 : (4294967295 : Nat) ^^^ e = 4294967295 - e := by
      apply Nat.eq_of_testBit_eq
      intro i
      rw [show (4294967295 : Nat) = 2 ^ 32 - 1 from rfl]
      rw [show 2 ^ 32 - 1 - e = 2 ^ 32 - (e + 1) by omega, Nat.testBit_two_pow_sub_succ he, Nat.testBit_xor, Nat.testBit_two_pow_sub_one]
      by_cases hi : i < 32
      · simp [hi]
      · have : e.testBit i = false := Nat.testBit_lt_two_pow (Nat.lt_of_lt_of_le he (Nat.pow_le_pow_right (show 0 < 2 from Nat.succ_pos _) (show 32 ≤ i by omega)))
        simp [hi, this]
    exact h2
  · rw [IntKind.wrap_u32]; omega
theorem maj_facts (a b c : Nat) (ha : a < 4294967296) (hb : b < 4294967296) (hc : c < 4294967296) : ∃ m1 m2 m3 m4 : Nat,
    bits .and .u32 (a : Int) (b : Int) = (m1 : Int) ∧ bits .and .u32 (a : Int) (c : Int) = (m2 : Int) ∧ bits .xor .u32 (m1 : Int) (m2 : Int) = (m3 : Int) ∧ bits .and .u32 (b : Int) (c : Int) = (m4 : Int) ∧ bits .xor .u32 (m3 : Int) (m4 : Int) = (Sh.maj a b c : Int) :=
  ⟨a &&& b, a &&& c, (a &&& b) ^^^ (a &&& c), b &&& c, and_u32 _ _ ha hb, and_u32 _ _ ha hc, xor_u32 _ _ (alt hb) (alt hc), and_u32 _ _ hb hc, xor_u32 _ _ (xlt (alt hb) (alt hc)) (alt hc)⟩
theorem step_facts (s : Sh.S8) (u1 c1 u0 mj k w : Nat) (h1 : u1 = Sh.ep1 s.e) (h2 : c1 = Sh.ch s.e s.f s.g) (h3 : u0 = Sh.ep0 s.a) (h4 : mj = Sh.maj s.a s.b s.c) : ∃ x1 x2 x3 t1 t2 e' a' : Nat,
    IntKind.u32.wrap ((s.h : Int) + (u1 : Int)) = (x1 : Int) ∧ IntKind.u32.wrap ((x1 : Int) + (c1 : Int)) = (x2 : Int) ∧ IntKind.u32.wrap ((x2 : Int) + (k : Int)) = (x3 : Int) ∧ IntKind.u32.wrap ((x3 : Int) + (w : Int)) = (t1 : Int) ∧
    IntKind.u32.wrap ((u0 : Int) + (mj : Int)) = (t2 : Int) ∧ IntKind.u32.wrap ((s.d : Int) + (t1 : Int)) = (e' : Int) ∧ IntKind.u32.wrap ((t1 : Int) + (t2 : Int)) = (a' : Int) ∧ Sh.step s k w = ⟨a', s.a, s.b, s.c, e', s.e, s.f, s.g⟩ ∧ e' < 4294967296 ∧ a' < 4294967296 := by
  subst h1 h2 h3 h4
  refine ⟨_, _, _, _, _, _, _, add32 _ _, add32 _ _, add32 _ _, add32 _ _, add32 _ _, add32 _ _, add32 _ _, ?_, Nat.mod_lt _ (show 0 < 4294967296 from Nat.succ_pos _), Nat.mod_lt _ (show 0 < 4294967296 from Nat.succ_pos _)⟩
  unfold Sh.step Sh.M32
  simp only
  congr 1 <;> omega
theorem step_ok {s : Sh.S8} (h : Ok8 s) (k w : Nat) : Ok8 (Sh.step s k w) := ⟨Nat.mod_lt _ (by decide), h.a, h.b, h.c, Nat.mod_lt _ (by decide), h.e, h.f, h.g⟩
theorem rounds_take (ks ws : List Nat) : ∀ (n : Nat) (s : Sh.S8) , n < ks.length → n < ws.length → Sh.rounds s (ks.take (n + 1)) (ws.take (n + 1)) = Sh.step (Sh.rounds s (ks.take n) (ws.take n)) (ks.getD n 0) (ws.getD n 0) := by
  intro n
  induction n generalizing ks ws with
  | zero =>
    intro s hk hw
    match ks, ws, hk, hw with
    | k :: ks, w :: ws, _, _ => simp [Sh.rounds]
  | succ n ih =>
    intro s hk hw
    match ks, ws, hk, hw with
    | k :: ks, w :: ws, hk, hw =>
      have := ih ks ws (Sh.step s k w) (by simpa using hk) (by simpa using hw)
      simpa [Sh.rounds] using this
theorem rounds_ok (ks ws : List Nat) : ∀ (s : Sh.S8), Ok8 s → Ok8 (Sh.rounds s ks ws) := by
  induction ks generalizing ws with
  | nil => intro s h; simpa [Sh.rounds] using h
  | cons k ks ih =>
    intro s h
    cases ws with
    | nil => simpa [Sh.rounds] using h
    | cons w ws => rw [Sh.rounds]; exact ih ws _ (step_ok h k w)
theorem add8_ok (s t : Sh.S8) : Ok8 (Sh.add8 s t) := ⟨Nat.mod_lt _ (by decide), Nat.mod_lt _ (by decide), Nat.mod_lt _ (by decide), Nat.mod_lt _ (by decide), Nat.mod_lt _ (by decide), Nat.mod_lt _ (by decide), Nat.mod_lt _ (by decide), Nat.mod_lt _ (by decide)⟩
theorem K_length : Sh.K.length = 64 := by rfl
theorem K_lt : ∀ x ∈ Sh.K, x < 4294967296 := by decide
end Go.Proofs.YtnbapiddbcaolaaDoor
