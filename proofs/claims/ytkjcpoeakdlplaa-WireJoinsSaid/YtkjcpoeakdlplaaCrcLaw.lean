/- What the laws of crc lean on: texts as lists of numbers; the document's example. No condition. -/
import Derived.Lib.Strings
import Derived.Test.YtkjcpoeakdlplaaCrcRight
import Derived.Test.YtkjcpoeakdlplaaCrcSeal
namespace Go.Proofs.Ytkjcpoeakdlplaa
open Go.RowKit
theorem nl_txt (l : List Nat) (h : ∀ b ∈ l, b < 256) : nl (txt l) = l := by
  simp only [nl, txt, List.toList_toArray, List.map_map]
  conv => rhs; rw [← List.map_id l]
  refine List.map_congr_left fun b hb => ?_
  simp [Nat.mod_eq_of_lt (h b hb)]
theorem nl_inj {s t : ByteArray} (h : nl s = nl t) : s = t := by
  have h1 : s.data.toList = t.data.toList := (List.map_inj_right (fun a b hab => UInt8.toNat_inj.1 hab)).1 h
  rw [← Lib.mk_data s, ← Lib.mk_data t, h1]
theorem nl_extract (s : ByteArray) (a b : Nat) : nl (s.extract a b) = ((nl s).drop a).take (b - a) := by
  simp only [nl, Lib.extract_data, List.map_take, List.map_drop]
theorem nl_append (s t : ByteArray) : nl (s ++ t) = nl s ++ nl t := by
  simp only [nl, ByteArray.data_append, Array.toList_append, List.map_append]
theorem eq_text (s t : ByteArray) : (s.toList == t.toList) = decide (nl s = nl t) := by
  rw [Bool.eq_iff_iff, beq_iff_eq, decide_eq_true_iff, Lib.toList_data, Lib.toList_data]
  exact ⟨fun h => by unfold nl; rw [h], fun h => by rw [nl_inj h]⟩
theorem nl_bytes (x : Nat) : nl (txt (CrcM.bytes x)) = CrcM.bytes x := nl_txt _ (CrcM.bytes_lt _)
theorem nl_seal (s : ByteArray) : nl (sealT s) = nl s ++ CrcM.bytes (CrcM.upd 0 (nl s)) := by
  rw [sealT, nl_append, nl_bytes]
theorem seal_size (s : ByteArray) : (sealT s).size = s.size + 4 := by
  rw [← nl_length, nl_seal, List.length_append, nl_length, CrcM.bytes_length]
theorem seal_max (s : ByteArray) (h : s.size ≤ 2000) : (sealT s).size ≤ maxLen := by rw [seal_size]; unfold maxLen; omega
theorem small_max (s : ByteArray) (h : s.size ≤ 2000) : s.size + 4 ≤ maxLen := by unfold maxLen; omega
theorem right_iff (s : ByteArray) (h4 : 4 ≤ s.size) : rightB s = decide (CrcM.over 4294967295 (nl s) = CrcM.residue) := by
  have h := CrcM.right_iff (nl s) (nl_lt s) (by rw [nl_length]; exact h4)
  rw [nl_length] at h
  rw [rightB, eq_text, nl_bytes, nl_extract, nl_extract, Nat.sub_zero, List.drop_zero]
  rw [List.take_of_length_le (i := s.size - (s.size - 4)) (by rw [List.length_drop, nl_length]; exact Nat.le_refl _)]
  exact decide_eq_decide.2 h
theorem right_seal (s : ByteArray) : rightB (sealT s) = true := by
  rw [right_iff _ (by rw [seal_size]; omega), nl_seal]
  exact decide_eq_true (CrcM.over_seal _ (nl_lt s))
theorem upd_sealT (s : ByteArray) : CrcM.upd 0 (nl (sealT s)) = CrcM.cpl CrcM.residue := by
  rw [nl_seal, CrcM.upd_seal _ (nl_lt s)]
theorem example_sum : CrcM.upd 0 (nl ⟨#[49, 50, 51, 52, 53, 54, 55, 56, 57]⟩) = 3421780262 := by decide +kernel
set_option maxRecDepth 100000 in
theorem crc_awake (w : World) : Calls Try.prog 27 #[] w fun e w' => e = .returned (.bool true) ∧ Below w.heap.size w w' := by
  have he : ((CrcM.upd 0 (nl ⟨#[49, 50, 51, 52, 53, 54, 55, 56, 57]⟩) : Nat) : Int) = 3421780262 := by rw [example_sum]; rfl
  go_enter Try.func27, Try.ntmps27
  go_wp2_with fail
  refine (crc_sum1 _ ⟨#[49, 50, 51, 52, 53, 54, 55, 56, 57]⟩ _ (by simp) (by decide) (by simp)).mono ?_
  rintro e w1 ⟨rfl, hb1⟩
  go_wp2
  go_ret
  exact ⟨rfl, (Kq.below_alloc _ _).trans (hb1.mono (by simp))⟩
end Go.Proofs.Ytkjcpoeakdlplaa
