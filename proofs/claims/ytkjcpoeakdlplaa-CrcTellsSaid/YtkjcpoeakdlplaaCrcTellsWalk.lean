/- The walk of carracklaw02.CrcTells. No condition but that lengths are ints. -/
import Derived.OpenShut
import Derived.Test.YtkjcpoeakdlplaaCrcRef
namespace Go.Proofs.Ytkjcpoeakdlplaa
open Go.RowKit
set_option linter.unusedVariables false
set_option maxRecDepth 100000 in
set_option maxHeartbeats 4000000 in
theorem crcTells_walk (a b : ByteArray) (y : Int) (ha : a.size ≤ maxLen) (hb : b.size ≤ maxLen) (wy : (Lit.int .u32 y).wf = true) (w : World) :
    Calls Try.prog 3 #[.string a, .string b, .int .u32 y] w fun e w' => e = .returned (.bool true) ∧ Below w.heap.size w w' := by
  have hy := bounds_u32 wy
  obtain ⟨y, rfl⟩ := Int.eq_ofNat_of_zero_le hy.1
  have hyM : Hid (y < CrcM.M) := Lib.hid (by unfold CrcM.M; omega)
  clear hy wy
  by_cases k0 : 2000 < a.size
  · go_enter Try.func3, Try.ntmps3
    go_wp2_with fail
    refine (crc_awake _).mono ?_
    rintro e w1 ⟨rfl, hb1⟩
    go_wp2
    go_ret
    exact ⟨rfl, hb1⟩
  by_cases k1 : 2000 < b.size
  · go_enter Try.func3, Try.ntmps3
    go_wp2_with fail
    refine (crc_awake _).mono ?_
    rintro e w1 ⟨rfl, hb1⟩
    go_wp2
    go_ret
    exact ⟨rfl, hb1⟩
  have ka : a.size ≤ 2000 := by omega
  have kb : b.size ≤ 2000 := by omega
  have hab : (a ++ b).size ≤ maxLen := by rw [ByteArray.size_append]; unfold maxLen; omega
  have E1 : Hid (CrcM.upd 0 (nl (a ++ b)) = CrcM.upd (CrcM.upd 0 (nl a)) (nl b)) := Lib.hid (by rw [nl_append, CrcM.upd_append _ _ _ (nl_lt a)])
  by_cases h4 : b.size < 4
  · skip
    go_enter Try.func3, Try.ntmps3
    go_wp2_with fail
    refine (crc_awake _).mono ?_
    rintro e w1 ⟨rfl, hb1⟩
    go_wp2_with fail
    refine (crc_sum2 _ a b _ (by simp) ha hb (by simp) (by simp)).mono ?_
    rintro e w2 ⟨rfl, hb2⟩
    go_wp2_with fail
    refine (ref_sum (a ++ b) _ hab).mono ?_
    rintro e w2' ⟨rfl, rfl⟩
    rw [E1.out]
    generalize CrcM.upd (CrcM.upd 0 (nl a)) (nl b) = X
    go_wp2_with fail
    refine (crc_sum_none _).mono ?_
    rintro e w3 ⟨rfl, hb3⟩
    go_wp2_with fail
    refine (crc_update _ b _ hyM.out hb).mono ?_
    rintro e w4 ⟨rfl, hb4⟩
    go_wp2_with fail
    refine (ref_update _ b _ hyM.out hb).mono ?_
    rintro e w4' ⟨rfl, rfl⟩
    generalize CrcM.upd y (nl b) = X2
    go_wp2_with fail
    refine (crc_bytes _ _).mono ?_
    rintro e w5 ⟨rfl, hb5⟩
    go_wp2_with fail
    refine (ref_bytes _ _).mono ?_
    rintro e w6 ⟨rfl, hb6⟩
    generalize txt (CrcM.bytes y) = X3
    go_wp2_with fail
    refine (crc_seal a _ (small_max a ka)).mono ?_
    rintro e w7 ⟨rfl, hb7⟩
    go_wp2_with fail
    refine (ref_seal a _ (small_max a ka)).mono ?_
    rintro e w8 ⟨rfl, hb8⟩
    generalize sealT a = X4
    go_wp2_with fail
    refine (crc_right_short b _ h4).mono ?_
    rintro e w9 ⟨rfl, hb9⟩
    go_wp2_with fail
    refine (ref_right_short b _ h4).mono ?_
    rintro e w10 ⟨rfl, hb10⟩
    go_wp2
    go_ret
    have s1 := hb1.size
    have s2 := hb2.size
    have s3 := hb3.size
    have s4 := hb4.size
    have s5 := hb5.size
    have s6 := hb6.size
    have s7 := hb7.size
    have s8 := hb8.size
    have s9 := hb9.size
    simp only [World.size_alloc] at s2
    exact ⟨rfl, ((((((((((hb1.trans ((Kq.below_alloc _ _).mono (by omega))).trans (hb2.mono (by simp; omega))).trans (hb3.mono (by omega))).trans (hb4.mono (by omega))).trans (hb5.mono (by omega))).trans (hb6.mono (by omega))).trans (hb7.mono (by omega))).trans (hb8.mono (by omega))).trans (hb9.mono (by omega))).trans (hb10.mono (by omega)))⟩
  · have h4' : 4 ≤ b.size := Nat.not_lt.1 h4
    go_enter Try.func3, Try.ntmps3
    go_wp2_with fail
    refine (crc_awake _).mono ?_
    rintro e w1 ⟨rfl, hb1⟩
    go_wp2_with fail
    refine (crc_sum2 _ a b _ (by simp) ha hb (by simp) (by simp)).mono ?_
    rintro e w2 ⟨rfl, hb2⟩
    go_wp2_with fail
    refine (ref_sum (a ++ b) _ hab).mono ?_
    rintro e w2' ⟨rfl, rfl⟩
    rw [E1.out]
    generalize CrcM.upd (CrcM.upd 0 (nl a)) (nl b) = X
    go_wp2_with fail
    refine (crc_sum_none _).mono ?_
    rintro e w3 ⟨rfl, hb3⟩
    go_wp2_with fail
    refine (crc_update _ b _ hyM.out hb).mono ?_
    rintro e w4 ⟨rfl, hb4⟩
    go_wp2_with fail
    refine (ref_update _ b _ hyM.out hb).mono ?_
    rintro e w4' ⟨rfl, rfl⟩
    generalize CrcM.upd y (nl b) = X2
    go_wp2_with fail
    refine (crc_bytes _ _).mono ?_
    rintro e w5 ⟨rfl, hb5⟩
    go_wp2_with fail
    refine (ref_bytes _ _).mono ?_
    rintro e w6 ⟨rfl, hb6⟩
    generalize txt (CrcM.bytes y) = X3
    go_wp2_with fail
    refine (crc_seal a _ (small_max a ka)).mono ?_
    rintro e w7 ⟨rfl, hb7⟩
    go_wp2_with fail
    refine (ref_seal a _ (small_max a ka)).mono ?_
    rintro e w8 ⟨rfl, hb8⟩
    generalize sealT a = X4
    go_wp2_with fail
    refine (crc_right b _ hb h4').mono ?_
    rintro e w9 ⟨rfl, hb9⟩
    go_wp2_with fail
    refine (ref_right b _ hb h4').mono ?_
    rintro e w10 ⟨rfl, hb10⟩
    generalize rightB b = X5
    go_wp2
    go_ret
    have s1 := hb1.size
    have s2 := hb2.size
    have s3 := hb3.size
    have s4 := hb4.size
    have s5 := hb5.size
    have s6 := hb6.size
    have s7 := hb7.size
    have s8 := hb8.size
    have s9 := hb9.size
    simp only [World.size_alloc] at s2
    exact ⟨rfl, ((((((((((hb1.trans ((Kq.below_alloc _ _).mono (by omega))).trans (hb2.mono (by simp; omega))).trans (hb3.mono (by omega))).trans (hb4.mono (by omega))).trans (hb5.mono (by omega))).trans (hb6.mono (by omega))).trans (hb7.mono (by omega))).trans (hb8.mono (by omega))).trans (hb9.mono (by omega))).trans (hb10.mono (by omega)))⟩
end Go.Proofs.Ytkjcpoeakdlplaa
