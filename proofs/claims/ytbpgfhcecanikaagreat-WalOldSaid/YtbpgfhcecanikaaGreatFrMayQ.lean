/- Contract of frame.mayBe. No condition but that numbers are a sector's. -/
import Derived.WalkSpells
import Derived.Deep.QuietTactic
import Derived.BigQuiet
import Derived.Test.YtbpgfhcecanikaaGreatFrPartsQ
import Derived.Test.YtbpgfhcecanikaaGreatCommonQ
namespace Go.Proofs.YtbpgfhcecanikaaGreat
open Go.RowKit
set_option linter.unusedVariables false
def FrP.val (p : FrP) : Value := .agg #[.int .u64 (p.g : Int), .int .u64 (p.x : Int), .int .i64 (p.i : Int), .int .i64 (p.n : Int), .string p.d]
theorem nParts_at (a m l : Nat) (ha : 64 ≤ a) : nParts a (m * (a - 25) + l) = m + 1 ↔ (l ≤ a - 25 ∧ (0 < m → 0 < l)) := by
  obtain ⟨r, hr⟩ : ∃ r, r = a - 25 := ⟨_, rfl⟩
  have hr0 : 1 ≤ r := by omega
  unfold nParts
  rw [← hr, show m * r + l + r - 1 = r * m + (l + r - 1) by rw [Nat.mul_comm]; omega, Nat.mul_add_div (by omega)]
  have q0 : l = 0 → (l + r - 1) / r = 0 := fun h => by subst h; exact Nat.div_eq_of_lt (by omega)
  have q1 : 1 ≤ l → 1 ≤ (l + r - 1) / r := fun h => (Nat.le_div_iff_mul_le (by omega)).2 (by omega)
  have q2 : l ≤ r → (l + r - 1) / r < 2 := fun h => Nat.div_lt_of_lt_mul (by omega)
  have q3 : r < l → 2 ≤ (l + r - 1) / r := fun h => (Nat.le_div_iff_mul_le (by omega)).2 (by omega)
  generalize (l + r - 1) / r = q at *
  constructor
  · intro h
    refine ⟨?_, fun hm => ?_⟩
    · rcases Nat.lt_or_ge r l with h1 | h1
      · have := q3 h1; omega
      · exact h1
    · rcases Nat.eq_zero_or_pos l with h1 | h1
      · have := q0 h1; omega
      · exact h1
  · rintro ⟨h1, h2⟩
    have := q2 h1
    rcases Nat.eq_zero_or_pos l with h3 | h3
    · have := q0 h3
      have : ¬ 0 < m := fun h => by have := h2 h; omega
      omega
    · have := q1 h3; omega
theorem may_last (a i l : Nat) (ha : 64 ≤ a) (h5 : a ≤ 512) (g x : Nat) (d : ByteArray) : (frParts a ((i * (a - 25) + d.size : Nat) : Int) == ((i + 1 : Nat) : Int)) = decide (mayP a ⟨g, x, i, i + 1, d⟩) := by
  have key := nParts_at a i d.size ha
  rw [Bool.eq_iff_iff, beq_iff_eq, decide_eq_true_eq]
  unfold frParts mayP FrSz
  simp only [Int.toNat_natCast, Nat.add_sub_cancel, if_true]
  constructor
  · intro h
    split at h
    · have hk := key.1 (by omega)
      exact ⟨by omega, hk.1, fun h => absurd h (by omega), hk.2, by omega⟩
    · omega
  · rintro ⟨h1, h2, h3, h4, h6⟩
    rw [if_pos (by omega), key.2 ⟨h2, h4⟩]
theorem may_mid (a i n : Nat) (ha : 64 ≤ a) (h5 : a ≤ 512) (g x : Nat) (d : ByteArray) (hi : i + 1 < n) (hd : d.size = a - 25) : (frParts a (((n - 1) * (a - 25) + 1 : Nat) : Int) == (n : Int)) = decide (mayP a ⟨g, x, i, n, d⟩) := by
  have key := nParts_at a (n - 1) 1 ha
  have hn : n - 1 + 1 = n := by omega
  rw [hn] at key
  rw [Bool.eq_iff_iff, beq_iff_eq, decide_eq_true_eq]
  unfold frParts mayP FrSz
  simp only [Int.toNat_natCast]
  rw [if_neg (show ¬ i + 1 = n by omega)]
  constructor
  · intro h
    split at h
    · exact ⟨by omega, by omega, fun _ => hd, by omega, by omega⟩
    · omega
  · rintro ⟨h1, h2, h3, h4, h6⟩
    rw [if_pos (by omega), key.2 ⟨by omega, by omega⟩]
set_option maxRecDepth 100000 in
set_option maxHeartbeats 1000000 in
theorem fr_may (a : Nat) (p : FrP) (w : World) (ha : 64 ≤ a) (h5 : a ≤ 512) (hi : p.i ≤ 255) (hn : p.n ≤ 255) (hd : p.d.size ≤ 512) :
    Calls Tryz.prog 102 #[.int .i64 (a : Int), p.val] w fun e w' => e = .returned (.bool (decide (mayP a p))) ∧ Below w.heap.size w w' := by
  obtain ⟨g, x, i, n, d⟩ := p
  unfold FrP.val
  simp only at hi hn hd ⊢
  have hms : ((a : Int) - 25) ≤ 487 ∧ 39 ≤ ((a : Int) - 25) := by omega
  have H := Lib.hid (And.intro ha h5)
  have HB : Hid (∀ o, Below w.heap.size w (w.alloc o)) := Lib.hid (Kq.below_alloc w)
  by_cases h0 : n ≤ i
  · have d0 : decide ((n : Int) ≤ (i : Int)) = true := decide_eq_true (by omega)
    have e0 : decide (n ≤ i) = true := decide_eq_true h0
    have HD : Hid (decide (mayP a ⟨g, x, i, n, d⟩) = false) := Lib.hid (decide_eq_false (fun h => by have := h.1; simp only at this; omega))
    have hm : -130000 ≤ ((n : Int) - 1) * ((a : Int) - 25) ∧ ((n : Int) - 1) * ((a : Int) - 25) ≤ 130000 := by
      rcases Nat.eq_zero_or_pos n with h | h
      · subst h; omega
      · have h1 : ((n : Int) - 1) * ((a : Int) - 25) = (((n - 1) * (a - 25) : Nat) : Int) := by rw [Int.natCast_mul]; congr 1 <;> omega
        have h2 : (n - 1) * (a - 25) ≤ 254 * 487 := Nat.mul_le_mul (by omega) (by omega)
        rw [h1]; omega
    obtain ⟨hm1, hm2⟩ := hm
    rw [HD.out]
    clear ha h5
    go_enter Tryz.func102, Tryz.ntmps102
    go_wp2
    go_ret
    exact ⟨rfl, HB.out _⟩
  have d0 : decide ((n : Int) ≤ (i : Int)) = false := decide_eq_false (by omega)
  have e0 : decide (n ≤ i) = false := decide_eq_false h0
  have hM : ((n : Int) - 1) * ((a : Int) - 25) = (((n - 1) * (a - 25) : Nat) : Int) := by rw [Int.natCast_mul]; congr 1 <;> omega
  have hMl : (n - 1) * (a - 25) ≤ 254 * 487 := Nat.mul_le_mul (by omega) (by omega)
  by_cases h1 : i + 1 = n
  · have c1 : ((i : Int) == ((n : Int) - 1)) = true := by simp; omega
    have HD := Lib.hid (may_last a (n - 1) 0 ha h5 g x d)
    have HS : Hid ((((n - 1) * (a - 25) : Nat) : Int) + (d.size : Int) = (((n - 1) * (a - 25) + d.size : Nat) : Int)) := Lib.hid (by omega)
    have HQ := Lib.hid (fun (w : World) (k : Nat) => Calls.quiet_of_same ((fr_parts (a : Int) ((((n - 1) * (a - 25) : Nat) : Int) + (d.size : Int)) (w.drewN k)).mono fun _ _ hp => ⟨hp.1, hp.2.symm⟩))
    have HD : Hid (decide (mayP a ⟨g, x, i, n, d⟩) = (frParts (a : Int) ((((n - 1) * (a - 25) : Nat) : Int) + (d.size : Int)) == (n : Int))) := Lib.hid (by
      have e1 : n - 1 + 1 = n := by omega
      have e2 : n - 1 = i := by omega
      have := HD.out
      rw [e1] at this
      rw [HS.out, this]
      rw [e2])
    rw [HD.out]
    clear ha h5 HS HD h1
    generalize frParts (a : Int) ((((n - 1) * (a - 25) : Nat) : Int) + (d.size : Int)) = r at *
    generalize (n - 1) * (a - 25) = M at *
    go_enter Tryz.func102, Tryz.ntmps102
    go_wp2
    go_quiet ((first | (go_at_call 38; exact HQ.out _ _)))
    go_wp2
    go_ret
    exact ⟨rfl, below_drewN (HB.out _) _⟩
  · have c1 : ((i : Int) == ((n : Int) - 1)) = false := by simp; omega
    by_cases h2 : d.size = a - 25
    · have c2 : ((d.size : Int) == ((a : Int) - 25)) = true := by simp; omega
      have HD := Lib.hid (may_mid a i n ha h5 g x d (by omega) h2)
      have HS : Hid ((((n - 1) * (a - 25) : Nat) : Int) + 1 = (((n - 1) * (a - 25) + 1 : Nat) : Int)) := Lib.hid (by omega)
      have HQ := Lib.hid (fun (w : World) (k : Nat) => Calls.quiet_of_same ((fr_parts (a : Int) ((((n - 1) * (a - 25) : Nat) : Int) + 1) (w.drewN k)).mono fun _ _ hp => ⟨hp.1, hp.2.symm⟩))
      have HD : Hid (decide (mayP a ⟨g, x, i, n, d⟩) = (frParts (a : Int) ((((n - 1) * (a - 25) : Nat) : Int) + 1) == (n : Int))) := Lib.hid (by rw [HS.out, HD.out])
      rw [HD.out]
      clear ha h5 HS HD h1 h2
      generalize frParts (a : Int) ((((n - 1) * (a - 25) : Nat) : Int) + 1) = r at *
      generalize (n - 1) * (a - 25) = M at *
      go_enter Tryz.func102, Tryz.ntmps102
      go_wp2
      go_quiet ((first | (go_at_call 38; exact HQ.out _ _)))
      go_wp2
      go_ret
      exact ⟨rfl, below_drewN (HB.out _) _⟩
    · have c2 : ((d.size : Int) == ((a : Int) - 25)) = false := by simp; omega
      have HD : Hid (decide (mayP a ⟨g, x, i, n, d⟩) = false) := Lib.hid (decide_eq_false (fun h => by have := h.2.2.1 (by show i + 1 < n; omega); simp only at this; omega))
      rw [HD.out]
      clear ha h5 h1 h2 HD
      generalize (n - 1) * (a - 25) = M at *
      go_enter Tryz.func102, Tryz.ntmps102
      go_wp2
      go_ret
      exact ⟨rfl, HB.out _⟩
end Go.Proofs.YtbpgfhcecanikaaGreat
