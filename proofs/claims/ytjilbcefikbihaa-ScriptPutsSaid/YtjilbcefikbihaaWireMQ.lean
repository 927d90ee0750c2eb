/- Merged: Txt, WireM. Texts as lists of numbers below 256. No condition. Plain mathematics of wire: what a reader's calls tell. No condition. -/
import Derived.Test.YtjilbcefikbihaaChecked
import Derived.Lib.Strings
import Derived.Deep.WholeRow
import Derived.WalkLawsBesides
import Derived.Lib.Hide
import Derived.Test.YtjilbcefikbihaaObjQ
namespace Go.Proofs.Ytjilbcefikbihaa
open Go.RowKit
/-- numbers below 256 as a text -/
def txt (l : List Nat) : ByteArray := ⟨(l.map UInt8.ofNat).toArray⟩
/-- a text's bytes as numbers -/
def nl (s : ByteArray) : List Nat := s.data.toList.map UInt8.toNat
theorem nl_lt (s : ByteArray) : ∀ b ∈ nl s, b < 256 := by
  intro b hb; simp only [nl, List.mem_map] at hb; obtain ⟨c, _, rfl⟩ := hb; exact c.toNat_lt
theorem nl_length (s : ByteArray) : (nl s).length = s.size := by simp [nl]
theorem take_succ_nl (s : ByteArray) (k : Nat) (h : k < s.size) : (nl s).take (k + 1) = (nl s).take k ++ [s[k].toNat] := by
  rw [List.take_succ_eq_append_getElem (by rw [nl_length]; exact h)]
  congr 2
  simp [nl]; rfl
theorem txt_size (l : List Nat) : (txt l).size = l.length := by simp [txt, ByteArray.size]
theorem nl_txt (l : List Nat) (h : ∀ b ∈ l, b < 256) : nl (txt l) = l := by
  simp only [nl, txt, List.toList_toArray, List.map_map]
  conv => rhs; rw [← List.map_id l]
  refine List.map_congr_left fun b hb => ?_
  simp [Nat.mod_eq_of_lt (h b hb)]
theorem nl_inj {s t : ByteArray} (h : nl s = nl t) : s = t := by
  have h1 : s.data.toList = t.data.toList := (List.map_inj_right (fun a b hab => UInt8.toNat_inj.1 hab)).1 h
  rw [← Lib.mk_data s, ← Lib.mk_data t, h1]
theorem nl_extract (s : ByteArray) (a b : Nat) : nl (s.extract a b) = ((nl s).drop a).take (b - a) := by
  simp only [nl, Lib.extract_data, List.map_take, List.map_drop]
theorem nl_append (s t : ByteArray) : nl (s ++ t) = nl s ++ nl t := by
  simp only [nl, ByteArray.data_append, Array.toList_append, List.map_append]
theorem eq_text (s t : ByteArray) : (s.toList == t.toList) = decide (nl s = nl t) := by
  rw [Bool.eq_iff_iff, beq_iff_eq, decide_eq_true_iff, Lib.toList_data, Lib.toList_data]
  exact ⟨fun h => by unfold nl; rw [h], fun h => by rw [nl_inj h]⟩
end Go.Proofs.Ytjilbcefikbihaa
namespace WireM
/-- bytes as a number, the highest first -/
def val (l : List Nat) : Nat := l.foldl (fun n b => n * 256 + b) 0
/-- so many bytes of a text ahead of which a reader stands that remembers e: what is told, what is remembered, what is left -/
def raw (e : Int) (s : ByteArray) (n : Int) : ByteArray × Int × ByteArray :=
  if n < 0 ∨ (s.size : Int) < n then (⟨#[]⟩, (if e = 0 then 6 else e), s)
  else if e = 0 then (s.extract 0 n.toNat, 0, s.extract n.toNat s.size) else (⟨#[]⟩, e, s)
theorem val_lt (l : List Nat) (hl : ∀ b ∈ l, b < 256) : val l < 256 ^ l.length := by
  suffices h : ∀ (l : List Nat) (n k : Nat), (∀ b ∈ l, b < 256) → n < 256 ^ k → l.foldl (fun n b => n * 256 + b) n < 256 ^ (k + l.length) by
    have := h l 0 0 hl (by decide)
    simpa [val] using this
  intro l
  induction l with
  | nil => intro n k _ h; simpa using h
  | cons b l ih =>
    intro n k hb h
    have h1 : n * 256 + b < 256 ^ (k + 1) := by
      have := hb b (List.mem_cons_self ..)
      rw [Nat.pow_succ]; omega
    have := ih (n * 256 + b) (k + 1) (fun c hc => hb c (List.mem_cons_of_mem _ hc)) h1
    rw [List.foldl_cons, List.length_cons]
    rwa [show k + (l.length + 1) = k + 1 + l.length by omega]
theorem raw_bad (e : Int) (s : ByteArray) (n : Int) (h : n < 0 ∨ (s.size : Int) < n) : raw e s n = (⟨#[]⟩, (if e = 0 then 6 else e), s) := by
  unfold raw; rw [if_pos h]
theorem raw_ok (s : ByteArray) (n : Nat) (h : n ≤ s.size) : raw 0 s n = (s.extract 0 n, 0, s.extract n s.size) := by
  unfold raw; rw [if_neg (by omega), if_pos rfl]; rfl
theorem raw_stuck (e : Int) (s : ByteArray) (n : Int) (h : e ≠ 0) : raw e s n = (⟨#[]⟩, e, s) := by
  unfold raw
  by_cases hb : n < 0 ∨ (s.size : Int) < n
  · rw [if_pos hb, if_neg h]
  · rw [if_neg hb, if_neg h]
end WireM
