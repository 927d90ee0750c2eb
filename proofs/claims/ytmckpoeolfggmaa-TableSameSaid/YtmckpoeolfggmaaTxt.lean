/- Texts as lists of numbers below 256. No condition. -/
import Derived.Test.YtmckpoeolfggmaaChecked
import Derived.Lib.Strings
import Derived.Deep.WholeRow
import Derived.WalkLawsBesides
import Derived.Lib.Hide
import Derived.Test.YtmckpoeolfggmaaKit
namespace Go.Proofs.Ytmckpoeolfggmaa
open Go.RowKit
/-- numbers below 256 as a text -/
def txt (l : List Nat) : ByteArray := ⟨(l.map UInt8.ofNat).toArray⟩
/-- a text's bytes as numbers -/
def nl (s : ByteArray) : List Nat := s.data.toList.map UInt8.toNat
theorem nl_lt (s : ByteArray) : ∀ b ∈ nl s, b < 256 := by
  intro b hb; simp only [nl, List.mem_map] at hb; obtain ⟨c, _, rfl⟩ := hb; exact c.toNat_lt
theorem nl_length (s : ByteArray) : (nl s).length = s.size := by simp [nl]
theorem take_succ_nl (s : ByteArray) (k : Nat) (h : k < s.size) : (nl s).take (k + 1) = (nl s).take k ++ [s[k].toNat] := by
  rw [List.take_succ_eq_append_getElem (by rw [nl_length]; exact h)]
  congr 2
  simp [nl]; rfl
theorem txt_size (l : List Nat) : (txt l).size = l.length := by simp [txt, ByteArray.size]
theorem nl_txt (l : List Nat) (h : ∀ b ∈ l, b < 256) : nl (txt l) = l := by
  simp only [nl, txt, List.toList_toArray, List.map_map]
  conv => rhs; rw [← List.map_id l]
  refine List.map_congr_left fun b hb => ?_
  simp [Nat.mod_eq_of_lt (h b hb)]
theorem nl_inj {s t : ByteArray} (h : nl s = nl t) : s = t := by
  have h1 : s.data.toList = t.data.toList := (List.map_inj_right (fun a b hab => UInt8.toNat_inj.1 hab)).1 h
  rw [← Lib.mk_data s, ← Lib.mk_data t, h1]
theorem nl_extract (s : ByteArray) (a b : Nat) : nl (s.extract a b) = ((nl s).drop a).take (b - a) := by
  simp only [nl, Lib.extract_data, List.map_take, List.map_drop]
theorem nl_append (s t : ByteArray) : nl (s ++ t) = nl s ++ nl t := by
  simp only [nl, ByteArray.data_append, Array.toList_append, List.map_append]
theorem eq_text (s t : ByteArray) : (s.toList == t.toList) = decide (nl s = nl t) := by
  rw [Bool.eq_iff_iff, beq_iff_eq, decide_eq_true_iff, Lib.toList_data, Lib.toList_data]
  exact ⟨fun h => by unfold nl; rw [h], fun h => by rw [nl_inj h]⟩
end Go.Proofs.Ytmckpoeolfggmaa
