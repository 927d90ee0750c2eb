/- What a flipped bit makes of a sealed text. No condition but lengths. -/
import Derived.WalkSpells
import Derived.Test.YtfbjfleagilikaaCrcLaw
namespace Go.Proofs.Ytfbjfleagilikaa
open Go.RowKit
def flip (l : List Nat) (k : Nat) : List Nat := l.set (k / 8) (l.getD (k / 8) 0 ^^^ 2 ^ (k % 8))
theorem flip_length (l : List Nat) (k : Nat) : (flip l k).length = l.length := by simp [flip]
theorem pow8 {r : Nat} (h : r < 8) : 2 ^ r < 256 := Nat.lt_of_lt_of_le (Nat.pow_lt_pow_right (by decide) h) (by decide)
theorem flip_lt (l : List Nat) (hl : ∀ b ∈ l, b < 256) (k : Nat) : ∀ b ∈ flip l k, b < 256 := by
  intro b hb
  unfold flip at hb
  by_cases hk : k / 8 < l.length
  · rcases List.mem_or_eq_of_mem_set hb with h | h
    · exact hl b h
    · rw [h]
      have h1 : l.getD (k / 8) 0 < 2 ^ 8 := by
        rw [List.getD_eq_getElem?_getD, List.getElem?_eq_getElem hk]; exact hl _ (List.getElem_mem _)
      exact Nat.xor_lt_two_pow h1 (pow8 (Nat.mod_lt _ (by decide)))
  · rw [List.set_eq_of_length_le (Nat.not_lt.1 hk)] at hb; exact hl b hb
theorem flip_val (x r : Nat) (hx : x < 256) (hr : r < 8) : bits .xor .u8 (x : Int) (IntKind.u8.wrap (2 ^ r)) = ((x ^^^ 2 ^ r : Nat) : Int) := by
  have h := pow8 hr
  have e : ((2 : Int) ^ r) = ((2 ^ r : Nat) : Int) := by norm_cast
  rw [e]
  generalize 2 ^ r = y at *
  rw [IntWalk.u8_in _ (by omega), u8_xor_nat _ _ hx h]
theorem flip_row {wy : World} {B : Nat} {L : List Nat} (R0 : Kq.Row wy B L) (hLb : ∀ b ∈ L, b < 256) {a q r : Nat} (hq : q < L.length) (hr : r < 8) (hF : flip L a = L.set q (L.getD q 0 ^^^ 2 ^ r)) :
    Kq.Row (wy.setCell ⟨B, q, none⟩ (.int .u8 (bits .xor .u8 ((L[q] : Nat) : Int) (IntKind.u8.wrap (2 ^ r))))).drew B (flip L a) := by
  rw [flip_val _ _ (hLb _ (List.getElem_mem _)) hr, hF]
  have := (R0.set q (L[q] ^^^ 2 ^ r)).drew
  rwa [show L.getD q 0 = L[q] by rw [List.getD_eq_getElem?_getD, List.getElem?_eq_getElem hq]; rfl]
theorem le_flip (l : List Nat) (hl : ∀ b ∈ l, b < 256) (k : Nat) (hk : k / 8 < l.length) : CrcM.le (flip l k) = CrcM.le l ^^^ 2 ^ k := by
  have h := CrcM.le_set l hl (k / 8) hk (2 ^ (k % 8)) (pow8 (Nat.mod_lt _ (by decide)))
  rw [← Nat.pow_add, Nat.div_add_mod] at h
  rw [← h, flip, List.getD_eq_getElem?_getD, List.getElem?_eq_getElem hk]; rfl
/-- bits that were flipped are seen -/
theorem wrong_of (s : ByteArray) (m : List Nat) (hm : ∀ b ∈ m, b < 256) (hlen : m.length = s.size + 4) (E : Nat) (hE : CrcM.le m = CrcM.le (nl (sealT s)) ^^^ E) (hs : CrcM.steps (8 * (s.size + 4)) E ≠ 0) : rightB (txt m) = false := by
  have hl : (nl (sealT s)).length = s.size + 4 := by rw [nl_length, seal_size]
  have h0 : CrcM.over 4294967295 (nl (sealT s)) = CrcM.residue := by
    have := right_seal s
    rw [right_iff _ (by rw [seal_size]; omega)] at this
    exact of_decide_eq_true this
  have h1 := CrcM.seen (nl (sealT s)) m (nl_lt _) hm h0 (by rw [hlen, hl]) E hE (by rw [hl]; exact hs)
  rw [right_iff _ (by rw [txt_size, hlen]; omega), nl_txt m hm]
  exact decide_eq_false h1
theorem steps_two (a b n : Nat) (h : a ≠ b) (ha : a < n) (hb : b < n) (hn : n ≤ 16032) : CrcM.steps n (2 ^ a ^^^ 2 ^ b) ≠ 0 := by
  rcases Nat.lt_or_gt_of_ne h with h | h
  · exact CrcM.bits_two h (by omega) (by omega)
  · rw [Nat.xor_comm]; exact CrcM.bits_two h (by omega) (by omega)
theorem steps_three (a b c n : Nat) (hab : a ≠ b) (hac : a ≠ c) (hbc : b ≠ c) (ha : a < n) (hb : b < n) (hc : c < n) (hn : n ≤ 16032) : CrcM.steps n (2 ^ a ^^^ 2 ^ b ^^^ 2 ^ c) ≠ 0 := by
  by_cases h1 : a < c ∧ b < c
  · exact CrcM.bits_three hab h1.1 h1.2 (by omega) (by omega)
  · by_cases h2 : a < b ∧ c < b
    · rw [Nat.xor_assoc, Nat.xor_comm (2 ^ b), ← Nat.xor_assoc]
      exact CrcM.bits_three hac h2.1 h2.2 (by omega) (by omega)
    · rw [Nat.xor_assoc, Nat.xor_comm (2 ^ a)]
      exact CrcM.bits_three hbc (by omega) (by omega) (by omega) (by omega)
theorem bits_wrong (s : ByteArray) (hmax : s.size ≤ 2000) (a b c : Nat) (ha : a < 8 * (s.size + 4)) (hb : b < 8 * (s.size + 4)) (hc : c < 8 * (s.size + 4)) (L1 L2 L3 : List Nat)
    (h1 : flip (nl (sealT s)) a = L1) (h2 : (if b = a then L1 else flip L1 b) = L2) (h3 : (if c = a ∨ c = b then L2 else flip L2 c) = L3) : rightB (txt L3) = false := by
  have hl : (nl (sealT s)).length = s.size + 4 := by rw [nl_length, seal_size]
  have hb0 := nl_lt (sealT s)
  have e1 := le_flip _ hb0 a (by rw [hl]; omega)
  have l1 : L1.length = s.size + 4 := by rw [← h1, flip_length, hl]
  have b1 : ∀ x ∈ L1, x < 256 := by rw [← h1]; exact flip_lt _ hb0 a
  rw [h1] at e1
  by_cases hba : b = a
  · rw [if_pos hba] at h2
    subst h2 hba
    by_cases hcb : c = b
    · rw [if_pos (Or.inl hcb)] at h3
      subst h3
      exact wrong_of s _ b1 l1 _ e1 (CrcM.bits_one (by omega))
    · rw [if_neg (by omega)] at h3
      have e2 := le_flip _ b1 c (by rw [l1]; omega)
      rw [h3, e1, Nat.xor_assoc] at e2
      subst h3
      exact wrong_of s _ (flip_lt _ b1 c) (by rw [flip_length, l1]) _ e2 (steps_two _ _ _ (by omega) hb hc (by omega))
  · rw [if_neg hba] at h2
    have e2 := le_flip _ b1 b (by rw [l1]; omega)
    rw [h2, e1, Nat.xor_assoc] at e2
    have l2 : L2.length = s.size + 4 := by rw [← h2, flip_length, l1]
    have b2 : ∀ x ∈ L2, x < 256 := by rw [← h2]; exact flip_lt _ b1 b
    by_cases hcb : c = a ∨ c = b
    · rw [if_pos hcb] at h3
      subst h3
      exact wrong_of s _ b2 l2 _ e2 (steps_two _ _ _ (by omega) ha hb (by omega))
    · rw [if_neg hcb] at h3
      have e3 := le_flip _ b2 c (by rw [l2]; omega)
      rw [h3, e2, Nat.xor_assoc] at e3
      subst h3
      exact wrong_of s _ (flip_lt _ b2 c) (by rw [flip_length, l2]) _ e3 (steps_three _ _ _ _ (by omega) (by omega) (by omega) ha hb hc (by omega))
theorem mul_xor (a u v : Nat) : 2 ^ a * (u ^^^ v) = (2 ^ a * u) ^^^ (2 ^ a * v) := by
  apply Nat.eq_of_testBit_eq; intro k
  simp only [Nat.testBit_xor, Nat.testBit_two_pow_mul]
  by_cases hk : a ≤ k <;> simp [hk]
theorem low_succ1 (y k : Nat) (h : y / 2 ^ k % 2 = 1) : y % 2 ^ (k + 1) = (y % 2 ^ k) ^^^ 2 ^ k := by
  have h1 := CrcM.xor_shift k (y % 2 ^ k) 1 (Nat.mod_lt _ (Nat.two_pow_pos k))
  rw [Nat.mul_one] at h1
  rw [h1, Nat.mod_pow_succ, h, Nat.mul_one]
theorem low_succ0 (y k : Nat) (h : ¬ y / 2 ^ k % 2 = 1) : y % 2 ^ (k + 1) = y % 2 ^ k := by
  have h0 : y / 2 ^ k % 2 = 0 := by omega
  rw [Nat.mod_pow_succ, h0, Nat.mul_zero, Nat.add_zero]
theorem bit_test (y k : Nat) (hy : y < CrcM.M) : bits .and .u32 ((y : Int) / 2 ^ k) 1 = ((y / 2 ^ k % 2 : Nat) : Int) := by
  have e : ((y : Int) / 2 ^ k) = ((y / 2 ^ k : Nat) : Int) := by norm_cast
  rw [e]
  exact and_one_u32 _ (Nat.lt_of_le_of_lt (Nat.div_le_self _ _) hy)
theorem burst_step (y k a : Nat) (L M : List Nat) (hMb : ∀ b ∈ M, b < 256) (ht : (a + k) / 8 < M.length) (he : CrcM.le M = CrcM.le L ^^^ (2 ^ a * (y % 2 ^ k))) (h : y / 2 ^ k % 2 = 1) :
    CrcM.le (flip M (a + k)) = CrcM.le L ^^^ (2 ^ a * (y % 2 ^ (k + 1))) := by
  rw [le_flip M hMb _ ht, he, low_succ1 y k h, mul_xor, Nat.xor_assoc, Nat.pow_add]
theorem burst_wrong (s : ByteArray) (a y : Nat) (M : List Nat) (hy0 : y ≠ 0) (hy : y < CrcM.M) (ha : a < 8 * (s.size + 4)) (hMl : M.length = s.size + 4) (hMb : ∀ b ∈ M, b < 256) (he : CrcM.le M = CrcM.le (nl (sealT s)) ^^^ (2 ^ a * (y % 2 ^ 32))) : rightB (txt M) = false := by
  rw [Nat.mod_eq_of_lt (show y < 2 ^ 32 from hy)] at he
  exact wrong_of s M hMb hMl _ he (CrcM.burst hy0 hy (by omega))
end Go.Proofs.Ytfbjfleagilikaa
