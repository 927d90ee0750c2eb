/- Merged: ScRcv, ScRcm. carrackref23's v; Config of a short text. Condition: the text's size. carrackref23's Config. Condition: the text's size. -/
import Derived.WalkSpells
import Derived.Outline
import Derived.ProofKit
import Derived.Deep.QuietTactic
import Derived.BigQuiet
import Derived.Test.YtjilbcefikbihaaScMQ
import Derived.Test.YtjilbcefikbihaaScCgQ
import Derived.Deep.RegionHeld
import Derived.Test.YtjilbcefikbihaaHeldLastQ
import Derived.Test.YtjilbcefikbihaaScReQ
namespace Go.Proofs.Ytjilbcefikbihaa
open Go.RowKit
set_option linter.unusedVariables false
/-- a number at a place -/
def vF (s : ByteArray) (a b : Nat) : Nat := WireM.val (nl (s.extract a b))
set_option maxRecDepth 100000 in
set_option maxHeartbeats 800000 in
theorem rc_v (s : ByteArray) (a b : Nat) (hab : a ≤ b) (hb : b ≤ s.size) (h8 : b - a ≤ 8) (hs : s.size ≤ 100000) (w : World) : Calls Try.prog 38 #[.string s, .int .i64 (a : Int), .int .i64 (b : Int)] w fun x w' => x = .returned (.int .u64 ((vF s a b : Nat) : Int)) ∧ w = w' := by
  have q1 : (0 : Int) ≤ (a : Int) := by omega
  have q2 : (a : Int) ≤ (b : Int) := by omega
  have q3 : (b : Int) ≤ (s.size : Int) := by omega
  have HV := Lib.hid (ref_value (s.extract a b) w (by rw [ByteArray.size_extract]; omega))
  have HE : Hid (vF s a b = WireM.val (nl (s.extract a b))) := Lib.hid rfl
  clear h8 hs
  go_enter Try.func38, Try.ntmps38
  go_wp2_with fail
  refine HV.out.mono ?_
  rintro x w2 ⟨rfl, rfl⟩
  rw [← HE.out]
  go_wp2
  go_ret
  exact ⟨rfl, rfl⟩
end Go.Proofs.Ytjilbcefikbihaa
namespace Go.Proofs.Ytjilbcefikbihaa
open Go.RowKit
set_option linter.unusedVariables false
theorem vF_one (s : ByteArray) (i : Nat) (h : i < s.size) : vF s i (i + 1) = s[i].toNat := by
  unfold vF
  have : nl (s.extract i (i + 1)) = [s[i].toNat] := by
    rw [nl_extract]
    have hl : i < (nl s).length := by rw [nl_length]; exact h
    rw [show i + 1 - i = 1 by omega]
    rw [List.drop_eq_getElem_cons hl]
    show [(nl s)[i]] = _
    congr 1
    simp [nl]
    rfl
  rw [this]
  simp [WireM.val]
theorem raw_mid (s : ByteArray) (k n : Nat) (h : k + n ≤ s.size) : WireM.raw 0 (s.extract k s.size) ((n : Nat) : Int) = (s.extract k (k + n), 0, s.extract (k + n) s.size) := by
  have hz := ext_size s k (by omega)
  rw [WireM.raw_ok _ n (by omega), ext_mid s k n h, ext_rest s k n h]
theorem byteF_mid (s : ByteArray) (k : Nat) (h : k + 1 ≤ s.size) : byteF 0 (s.extract k s.size) = (((vF s k (k + 1) : Nat) : Int), 0, s.extract (k + 1) s.size) := by
  unfold byteF
  rw [raw_mid s k 1 h]
  rfl
theorem numF_mid (s : ByteArray) (k : Nat) (h : k + 8 ≤ s.size) : numF 0 (s.extract k s.size) = (((vF s k (k + 8) : Nat) : Int), 0, s.extract (k + 8) s.size) := by
  unfold numF
  rw [raw_mid s k 8 h]
  rfl
theorem val_app1 (l : List Nat) (b : Nat) : WireM.val (l ++ [b]) = WireM.val l * 256 + b := by simp [WireM.val]
theorem vF_two (s : ByteArray) (k : Nat) (h : k + 2 ≤ s.size) : vF s k (k + 2) = vF s k (k + 1) * 256 + vF s (k + 1) (k + 2) := by
  have h1 : nl (s.extract k (k + 2)) = nl (s.extract k (k + 1)) ++ nl (s.extract (k + 1) (k + 2)) := by
    rw [nl_extract, nl_extract, nl_extract, show k + 2 - k = 1 + 1 by omega, show k + 1 - k = 1 by omega, show k + 2 - (k + 1) = 1 by omega, List.take_add, List.drop_drop]
  have h2 : ∃ b, nl (s.extract (k + 1) (k + 2)) = [b] := by
    have hl : (nl (s.extract (k + 1) (k + 2))).length = 1 := by rw [nl_length, ByteArray.size_extract]; omega
    match nl (s.extract (k + 1) (k + 2)), hl with
    | [b], _ => exact ⟨b, rfl⟩
  obtain ⟨b, hb⟩ := h2
  unfold vF
  rw [h1, hb, val_app1]
  simp [WireM.val]
theorem pairF_mid (s : ByteArray) (k : Nat) (h : k + 2 ≤ s.size) : pairF 0 (s.extract k s.size) = (((vF s k (k + 2) : Nat) : Int), 0, s.extract (k + 2) s.size) := by
  unfold pairF
  rw [byteF_mid s k (by omega)]
  dsimp only
  rw [byteF_mid s (k + 1) (by omega), vF_two s k h]
  dsimp only
  congr 1
/-- a configuration at the front of a text -/
def cfV (s : ByteArray) : CoV := ⟨vF s 3 5, vF s 5 7, vF s 0 1, vF s 1 2, vF s 2 3, vF s 7 15, vF s 15 23, vF s 23 31, vF s 31 39⟩
theorem cfg_long (s : ByteArray) (h : 39 ≤ s.size) : cfgF s = (cfV s, 0, s.extract 39 s.size) := by
  have h0 : s = s.extract 0 s.size := by
    apply nl_inj
    rw [nl_extract, List.drop_zero, Nat.sub_zero, List.take_of_length_le (by rw [nl_length]; exact Nat.le_refl _)]
  unfold cfgF cfH2 cfH1 cfgP
  simp only [cfA, cfB, cfC, cfD, cfE, cfF, cfG, cfH, cfI]
  have e0 : byteF 0 s = (((vF s 0 1 : Nat) : Int), 0, s.extract 1 s.size) := by
    have := byteF_mid s 0 (by omega)
    rw [← h0] at this
    exact this
  rw [e0]
  dsimp only
  rw [byteF_mid s 1 (by omega)]
  dsimp only
  rw [byteF_mid s 2 (by omega)]
  dsimp only
  rw [pairF_mid s 3 (by omega)]
  dsimp only
  rw [pairF_mid s 5 (by omega)]
  dsimp only
  rw [numF_mid s 7 (by omega)]
  dsimp only
  rw [numF_mid s 15 (by omega)]
  dsimp only
  rw [numF_mid s 23 (by omega)]
  dsimp only
  rw [numF_mid s 31 (by omega)]
  rfl
theorem raw_took (e : Int) (s : ByteArray) (n : Nat) (h : (WireM.raw e s (n : Int)).2.1 = 0) : e = 0 ∧ (WireM.raw e s (n : Int)).2.2.size + n = s.size := by
  by_cases he : e = 0
  · subst he
    refine ⟨rfl, ?_⟩
    by_cases hb : s.size < n
    · rw [WireM.raw_bad 0 s n (Or.inr (by omega))] at h
      exact absurd h (show ¬ (6 : Int) = 0 by decide)
    · rw [WireM.raw_ok s n (by omega)]
      show (s.extract n s.size).size + n = s.size
      rw [ByteArray.size_extract]; omega
  · rw [WireM.raw_stuck e s n he] at h
    exact absurd h he
theorem byteF_took (e : Int) (s : ByteArray) (h : (byteF e s).2.1 = 0) : e = 0 ∧ (byteF e s).2.2.size + 1 = s.size := raw_took e s 1 h
theorem numF_took (e : Int) (s : ByteArray) (h : (numF e s).2.1 = 0) : e = 0 ∧ (numF e s).2.2.size + 8 = s.size := raw_took e s 8 h
theorem pairF_took (e : Int) (s : ByteArray) (h : (pairF e s).2.1 = 0) : e = 0 ∧ (pairF e s).2.2.size + 2 = s.size := by
  have h1 := byteF_took _ _ (show (byteF (byteF e s).2.1 (byteF e s).2.2).2.1 = 0 from h)
  have h2 := byteF_took e s h1.1
  refine ⟨h2.1, ?_⟩
  show (byteF (byteF e s).2.1 (byteF e s).2.2).2.2.size + 2 = s.size
  omega
theorem numF_e6 (e : Int) (s : ByteArray) (h : E6 e) : E6 (numF e s).2.1 := raw_e6 e s _ h
theorem cfg_e6 (s : ByteArray) : E6 (cfgF s).2.1 := by
  unfold cfgF cfH2 cfH1 cfgP
  simp only [cfA, cfB, cfC, cfD, cfE, cfF, cfG, cfH, cfI]
  exact numF_e6 _ _ (numF_e6 _ _ (numF_e6 _ _ (numF_e6 _ _ (pairF_e6 _ _ (pairF_e6 _ _ (byteF_e6 _ _ (byteF_e6 _ _ (byteF_e6 _ _ (Or.inl rfl)))))))))
theorem cfg_short (s : ByteArray) (h : s.size < 39) : (cfgF s).2.1 = 6 := by
  refine (cfg_e6 s).resolve_left (fun h0 => ?_)
  unfold cfgF cfH2 cfH1 cfgP at h0
  simp only [cfA, cfB, cfC, cfD, cfE, cfF, cfG, cfH, cfI] at h0
  have a9 := numF_took _ _ h0
  have a8 := numF_took _ _ a9.1
  have a7 := numF_took _ _ a8.1
  have a6 := numF_took _ _ a7.1
  have a5 := pairF_took _ _ a6.1
  have a4 := pairF_took _ _ a5.1
  have a3 := byteF_took _ _ a4.1
  have a2 := byteF_took _ _ a3.1
  have a1 := byteF_took _ _ a2.1
  omega
theorem vF_lt (s : ByteArray) (a b : Nat) (h : b - a ≤ 8) : vF s a b < 256 ^ (b - a) := by
  unfold vF
  have h1 := WireM.val_lt _ (nl_lt (s.extract a b))
  refine Nat.lt_of_lt_of_le h1 (Nat.pow_le_pow_right (by decide) ?_)
  rw [nl_length, ByteArray.size_extract]; omega
end Go.Proofs.Ytjilbcefikbihaa
