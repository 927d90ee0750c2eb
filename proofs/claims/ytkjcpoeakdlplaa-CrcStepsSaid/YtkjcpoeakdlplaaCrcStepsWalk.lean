/- The walk of carracklaw02.CrcSteps. No condition but that the text's length is an int. -/
import Derived.WalkSpells
import Derived.Test.YtkjcpoeakdlplaaCrcLaw
namespace Go.Proofs.Ytkjcpoeakdlplaa
open Go.RowKit
theorem nl_one (s : ByteArray) (k : Nat) (h : k < s.size) : nl (s.extract k (k + 1)) = [s[k].toNat] := by
  rw [nl_extract, show k + 1 - k = 1 by omega]
  have := take_succ_nl s k h
  rw [List.take_succ_eq_append_getElem (by rw [nl_length]; exact h)] at this
  have h2 := List.append_cancel_left this
  rw [List.drop_eq_getElem_cons (by rw [nl_length]; exact h)]
  exact h2
theorem steps_succ (s : ByteArray) (k : Nat) (h : k < s.size) : CrcM.upd (CrcM.upd 0 ((nl s).take k)) (nl (s.extract k (k + 1))) = CrcM.upd 0 ((nl s).take (k + 1)) := by
  rw [nl_one s k h, take_succ_nl s k h, CrcM.upd_append _ _ _ (fun b hb => nl_lt s b (List.mem_of_mem_take hb))]
set_option maxRecDepth 100000 in
set_option maxHeartbeats 800000 in
theorem crcSteps_walk (s : ByteArray) (hs : s.size ≤ maxLen) (w : World) :
    Calls Try.prog 7 #[.string s] w fun e w' => e = .returned (.bool true) ∧ Below w.heap.size w w' := by
  by_cases h2 : 2000 < s.size
  · go_enter Try.func7, Try.ntmps7
    go_wp2_with fail
    refine (crc_awake _).mono ?_
    rintro e w1 ⟨rfl, hb1⟩
    go_wp2
    go_ret
    exact ⟨rfl, hb1⟩
  · go_enter Try.func7, Try.ntmps7
    go_wp2_with fail
    refine (crc_awake _).mono ?_
    rintro e w1 ⟨rfl, hb1⟩
    go_wp2_with fail
    refine (crc_sum_none _).mono ?_
    rintro e w2 ⟨rfl, hb2⟩
    have hb : Below w.heap.size w w2 := hb1.trans (hb2.mono hb1.size)
    clear hb1 hb2
    have hmax : s.size ≤ 2000 := by omega
    go_wp2
    go_loopw [3, 4] (fun y j wr => ∃ k : Nat, k ≤ s.size ∧ j = .int .i64 k ∧ y = .int .u32 (CrcM.upd 0 ((nl s).take k) : Nat) ∧ Below w.heap.size w wr) (fun _ j _ => s.size - (intOf j).toNat)
    case atStart => exact ⟨0, by omega, rfl, by rw [List.take_zero, CrcM.upd_nil (by decide)]; rfl, hb⟩
    case round =>
      clear hb
      obtain ⟨k, hk, rfl, rfl, hbl⟩ := hrel
      by_cases hlt : k < s.size
      · have hS := Lib.hid (steps_succ s k hlt)
        have hex : (s.extract k (k + 1)).size ≤ maxLen := by simp [maxLen]; omega
        have c1 : (k : Int) + 1 ≤ (s.size : Int) := by omega
        go_wp2_with fail
        refine (crc_update _ _ _ (CrcM.upd_lt _ _) hex).mono ?_
        rintro e w2 ⟨rfl, hb2⟩
        have hbl2 := hbl.trans (hb2.mono hbl.size)
        clear hb2 hbl
        go_wp2
        go_roundw
        case rel => exact ⟨k + 1, by omega, by go_num, by rw [hS.out], hbl2⟩
        case measure => simp [intOf]; omega
      · obtain rfl : k = s.size := by omega
        clear hk hlt
        have hT : (nl s).take s.size = nl s := List.take_of_length_le (by rw [nl_length]; exact Nat.le_refl _)
        rw [hT]
        have hz : (sealT s).size ≤ maxLen := seal_max s hmax
        have hz0 : (sealT ⟨#[]⟩).size ≤ maxLen := seal_max _ (by decide)
        have e1 := Lib.hid (upd_sealT s)
        have e2 := Lib.hid (upd_sealT ⟨#[]⟩)
        generalize CrcM.cpl CrcM.residue = R at e1 e2
        go_wp2_with fail
        refine (crc_sum1 _ s _ (by simp) hs (by simp)).mono ?_
        rintro e w3 ⟨rfl, hb3⟩
        generalize CrcM.upd 0 (nl s) = X
        go_wp2_with fail
        refine (crc_seal s _ (small_max s hmax)).mono ?_
        rintro e w4 ⟨rfl, hb4⟩
        go_wp2_with fail
        refine (crc_sum1 _ (sealT s) _ (by simp) hz (by simp)).mono ?_
        rintro e w5 ⟨rfl, hb5⟩
        rw [e1.out]
        go_wp2_with fail
        refine (crc_seal ⟨#[]⟩ _ (small_max _ (by decide))).mono ?_
        rintro e w6 ⟨rfl, hb6⟩
        go_wp2_with fail
        refine (crc_sum1 _ (sealT ⟨#[]⟩) _ (by simp) hz0 (by simp)).mono ?_
        rintro e w7 ⟨rfl, hb7⟩
        rw [e2.out]
        go_wp2
        go_ret
        have s3 := hb3.size
        have s4 := hb4.size
        have s5 := hb5.size
        have s6 := hb6.size
        have s7 := hb7.size
        have s0 := hbl.size
        simp only [World.size_alloc] at s3 s5 s7
        exact ⟨rfl, (((((((hbl.trans ((Kq.below_alloc _ _).mono (by omega))).trans (hb3.mono (by simp; omega))).trans (hb4.mono (by omega))).trans ((Kq.below_alloc _ _).mono (by omega))).trans (hb5.mono (by simp; omega))).trans (hb6.mono (by omega))).trans ((Kq.below_alloc _ _).mono (by omega))).trans (hb7.mono (by simp; omega))⟩
end Go.Proofs.Ytkjcpoeakdlplaa
