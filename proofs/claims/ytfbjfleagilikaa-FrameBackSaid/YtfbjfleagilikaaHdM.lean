/- Plain mathematics of a head's sector. No condition but sizes. -/
import Derived.Test.YtfbjfleagilikaaCrcRef
import Derived.Test.YtfbjfleagilikaaWireNum
import Derived.Test.YtfbjfleagilikaaRefNum
import Derived.Lib.Repeat
namespace Go.Proofs.Ytfbjfleagilikaa
open Go.RowKit
set_option linter.unusedVariables false
structure HdOk (a : Int) (g : Nat) (sg : Int) : Prop where
  a0 : 64 ≤ a
  a1 : a ≤ 512
  g0 : 0 < g
  s0 : 0 ≤ sg
  s1 : sg ≤ 1
def hdBody (a g sg : Nat) : List Nat := (([72] ++ num8 g) ++ [sg]) ++ List.replicate (a - 14) 0
def hdPut (a g sg : Nat) : ByteArray := sealT (txt (hdBody a g sg))
theorem num8_lt (g : Nat) : ∀ b ∈ num8 g, b < 256 := by
  intro b hb
  simp only [num8, List.mem_cons, List.not_mem_nil, or_false] at hb
  rcases hb with rfl | rfl | rfl | rfl | rfl | rfl | rfl | rfl <;> exact Nat.mod_lt _ (by decide)
theorem num8_length (g : Nat) : (num8 g).length = 8 := rfl
theorem hdBody_lt (a g sg : Nat) (h : sg < 256) : ∀ b ∈ hdBody a g sg, b < 256 := by
  intro b hb
  unfold hdBody at hb
  rcases List.mem_append.1 hb with hb | hb
  · rcases List.mem_append.1 hb with hb | hb
    · rcases List.mem_append.1 hb with hb | hb
      · rw [List.mem_singleton.1 hb]; decide
      · exact num8_lt g b hb
    · rw [List.mem_singleton.1 hb]; exact h
  · rw [List.eq_of_mem_replicate hb]; decide
theorem hdBody_length (a g sg : Nat) (h : 14 ≤ a) : (hdBody a g sg).length = a - 4 := by
  unfold hdBody
  simp only [List.length_append, List.length_singleton, num8_length, List.length_replicate]
  omega
theorem hdPut_size (a g sg : Nat) (h : 14 ≤ a) : (hdPut a g sg).size = a := by
  unfold hdPut
  rw [seal_size, txt_size, hdBody_length a g sg h]
  omega
theorem nl_hdPut (a g sg : Nat) (h : sg < 256) : nl (hdPut a g sg) = hdBody a g sg ++ CrcM.bytes (CrcM.upd 0 (hdBody a g sg)) := by
  unfold hdPut
  rw [nl_seal, nl_txt _ (hdBody_lt a g sg h)]
theorem repeat_zero (c : Nat) : (⟨(Lib.repeatL (⟨#[0]⟩ : ByteArray).data.toList c).toArray⟩ : ByteArray) = txt (List.replicate c 0) := by
  have := Lib.repeatL_replicate 0 1 c
  rw [Nat.mul_one] at this
  show (⟨(Lib.repeatL [0] c).toArray⟩ : ByteArray) = _
  rw [show ([0] : List UInt8) = List.replicate 1 0 from rfl, this]
  unfold txt
  rw [List.map_replicate]
  rfl
theorem num8_val (l : List Nat) (h : l.length = 8) (hl : ∀ b ∈ l, b < 256) : num8 (WireM.val l) = l := by
  match l, h with
  | [a, b, c, d, e, f, g, k], _ =>
    have ha := hl a (by simp)
    have hb := hl b (by simp)
    have hc := hl c (by simp)
    have hd := hl d (by simp)
    have he := hl e (by simp)
    have hf := hl f (by simp)
    have hg := hl g (by simp)
    have hk := hl k (by simp)
    simp only [WireM.val, num8, List.foldl_cons, List.foldl_nil, List.cons.injEq, and_true]
    refine ⟨?_, ?_, ?_, ?_, ?_, ?_, ?_, ?_⟩ <;> omega
/-- a sealed text is its body's seal -/
theorem right_take (s : ByteArray) (h4 : 4 ≤ s.size) (hr : rightB s = true) : nl s = (nl s).take (s.size - 4) ++ CrcM.bytes (CrcM.upd 0 ((nl s).take (s.size - 4))) := by
  have h := right_same s h4
  rw [hr, beq_iff_eq] at h
  have e : s = sealT (s.extract 0 (s.size - 4)) := nl_inj (by unfold nl; rw [← Lib.toList_data, ← Lib.toList_data, h])
  have e2 : nl s = nl (sealT (s.extract 0 (s.size - 4))) := congrArg nl e
  rw [nl_seal, nl_extract, List.drop_zero, Nat.sub_zero] at e2
  exact e2
/-- what stands in a sector at a head's places -/
def gOf (s : ByteArray) : Nat := WireM.val (((nl s).drop 1).take 8)
def sOf (s : ByteArray) : Nat := (nl s).getD 9 0
/-- a sector that is right is that of the head that stands in it, just if its first letter, and its last bytes, are so -/
theorem put_iff (a : Nat) (s : ByteArray) (h14 : 14 ≤ a) (hs : s.size = a) (hr : rightB s = true) :
    hdPut a (gOf s) (sOf s) = s ↔ ((nl s).getD 0 0 = 72 ∧ ∀ i, 10 ≤ i → i < a - 4 → (nl s).getD i 0 = 0) := by
  have hl : (nl s).length = a := by rw [nl_length, hs]
  have hlt := nl_lt s
  have hsg : sOf s < 256 := by
    unfold sOf
    rw [List.getD_eq_getElem?_getD, List.getElem?_eq_getElem (by omega)]
    exact hlt _ (List.getElem_mem _)
  have hrt := right_take s (by omega) hr
  rw [hs] at hrt
  have hnum : num8 (gOf s) = ((nl s).drop 1).take 8 := num8_val _ (by simp; omega) (fun b hb => hlt b (List.mem_of_mem_drop (List.mem_of_mem_take hb)))
  have key : hdPut a (gOf s) (sOf s) = s ↔ hdBody a (gOf s) (sOf s) = (nl s).take (a - 4) := by
    constructor
    · intro h
      have h2 := congrArg nl h
      rw [nl_hdPut _ _ _ hsg] at h2
      have h3 := congrArg (List.take (a - 4)) h2
      rwa [List.take_append_of_le_length (by rw [hdBody_length _ _ _ h14]; exact Nat.le_refl _), List.take_of_length_le (by rw [hdBody_length _ _ _ h14]; exact Nat.le_refl _)] at h3
    · intro h
      apply nl_inj
      rw [nl_hdPut _ _ _ hsg, h]
      exact hrt.symm
  rw [key]
  constructor
  · intro h
    have hg : ∀ i, i < a - 4 → (nl s).getD i 0 = (hdBody a (gOf s) (sOf s)).getD i 0 := fun i hi => by
      rw [h, List.getD_eq_getElem?_getD, List.getD_eq_getElem?_getD, List.getElem?_take, if_pos hi]
    refine ⟨by rw [hg 0 (by omega)]; rfl, fun i h1 h2 => ?_⟩
    rw [hg i h2]
    unfold hdBody
    rw [List.getD_eq_getElem?_getD, List.getElem?_append_right (by simp [num8_length]; omega), List.getElem?_replicate]
    split <;> rfl
  · rintro ⟨h0, hz⟩
    apply List.ext_getElem?
    intro i
    by_cases hi : i < a - 4
    · rw [List.getElem?_take, if_pos hi]
      have hgi : (nl s)[i]? = some ((nl s).getD i 0) := by rw [List.getD_eq_getElem?_getD, List.getElem?_eq_getElem (by omega)]; rfl
      rw [hgi]
      unfold hdBody
      by_cases h1 : i < 10
      · rw [List.getElem?_append_left (by simp [num8_length]; omega)]
        rw [hnum]
        have hc : i = 0 ∨ (1 ≤ i ∧ i ≤ 8) ∨ i = 9 := by omega
        have hl8 : (((nl s).drop 1).take 8).length = 8 := by simp; omega
        rcases hc with rfl | ⟨h2, h3⟩ | rfl
        · rw [h0]; rfl
        · rw [List.getElem?_append_left (by rw [List.length_append, hl8, List.length_singleton]; omega), List.getElem?_append_right (by simp; omega), List.getElem?_take, if_pos (by simp; omega), List.getElem?_drop, ← hgi]
          congr 1
          simp; omega
        · rw [List.getElem?_append_right (by rw [List.length_append, hl8]; simp)]
          have e9 : 9 - ([72] ++ ((nl s).drop 1).take 8 : List Nat).length = 0 := by rw [List.length_append, hl8]; rfl
          rw [e9]
          rfl
      · rw [List.getElem?_append_right (by simp [num8_length]; omega), hz i (by omega) hi, List.getElem?_replicate, if_pos (by simp [num8_length]; omega)]
    · rw [List.getElem?_eq_none (by rw [hdBody_length _ _ _ h14]; omega), List.getElem?_eq_none (by simp; omega)]
/-- a head that was put stands at its places -/
theorem gOf_put (a g sg : Nat) (hg : g < M64) (h : sg < 256) : gOf (hdPut a g sg) = g := by
  unfold gOf
  rw [nl_hdPut _ _ _ h]
  generalize CrcM.bytes (CrcM.upd 0 (hdBody a g sg)) = T
  unfold hdBody
  rw [show (((([72] ++ num8 g) ++ [sg]) ++ List.replicate (a - 14) 0) ++ T) = 72 :: (num8 g ++ ([sg] ++ (List.replicate (a - 14) 0 ++ T))) by simp only [List.append_assoc, List.cons_append, List.nil_append], List.drop_succ_cons, List.drop_zero, List.take_append_of_le_length (by rw [num8_length]; exact Nat.le_refl _), List.take_of_length_le (by rw [num8_length]; exact Nat.le_refl _)]
  exact val_num8 g hg
theorem sOf_put (a g sg : Nat) (h : sg < 256) : sOf (hdPut a g sg) = sg := by
  unfold sOf
  rw [nl_hdPut _ _ _ h]
  rfl
end Go.Proofs.Ytfbjfleagilikaa
