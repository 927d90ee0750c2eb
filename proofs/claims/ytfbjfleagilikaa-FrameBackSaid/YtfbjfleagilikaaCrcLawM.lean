/- What the laws of crc lean on: texts as lists of numbers. No condition. -/
import Derived.Lib.Strings
import Derived.Test.YtfbjfleagilikaaCrcRight
import Derived.Test.YtfbjfleagilikaaCrcSeal
namespace Go.Proofs.Ytfbjfleagilikaa
open Go.RowKit
theorem nl_bytes (x : Nat) : nl (txt (CrcM.bytes x)) = CrcM.bytes x := nl_txt _ (CrcM.bytes_lt _)
theorem nl_seal (s : ByteArray) : nl (sealT s) = nl s ++ CrcM.bytes (CrcM.upd 0 (nl s)) := by
  rw [sealT, nl_append, nl_bytes]
theorem seal_size (s : ByteArray) : (sealT s).size = s.size + 4 := by
  rw [← nl_length, nl_seal, List.length_append, nl_length, CrcM.bytes_length]
theorem seal_max (s : ByteArray) (h : s.size ≤ 2000) : (sealT s).size ≤ maxLen := by rw [seal_size]; unfold maxLen; omega
theorem small_max (s : ByteArray) (h : s.size ≤ 2000) : s.size + 4 ≤ maxLen := by unfold maxLen; omega
theorem right_iff (s : ByteArray) (h4 : 4 ≤ s.size) : rightB s = decide (CrcM.over 4294967295 (nl s) = CrcM.residue) := by
  have h := CrcM.right_iff (nl s) (nl_lt s) (by rw [nl_length]; exact h4)
  rw [nl_length] at h
  rw [rightB, eq_text, nl_bytes, nl_extract, nl_extract, Nat.sub_zero, List.drop_zero]
  rw [List.take_of_length_le (i := s.size - (s.size - 4)) (by rw [List.length_drop, nl_length]; exact Nat.le_refl _)]
  exact decide_eq_decide.2 h
theorem right_seal (s : ByteArray) : rightB (sealT s) = true := by
  rw [right_iff _ (by rw [seal_size]; omega), nl_seal]
  exact decide_eq_true (CrcM.over_seal _ (nl_lt s))
theorem upd_sealT (s : ByteArray) : CrcM.upd 0 (nl (sealT s)) = CrcM.cpl CrcM.residue := by
  rw [nl_seal, CrcM.upd_seal _ (nl_lt s)]
end Go.Proofs.Ytfbjfleagilikaa
