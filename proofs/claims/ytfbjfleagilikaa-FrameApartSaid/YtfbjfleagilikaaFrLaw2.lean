/- Plain mathematics of the laws of layer 5: what was split is scanned. No condition but sizes. -/
import Derived.Test.YtfbjfleagilikaaFrLaw
namespace Go.Proofs.Ytfbjfleagilikaa
open Go.RowKit
set_option linter.unusedVariables false
def Has (a : Nat) (T : ByteArray) (u : Nat) (S : List ByteArray) : Prop := ∀ i (h : i < S.length), partAt a T (u + i) = (frRead a S[i]).1
theorem has_append {a : Nat} {T : ByteArray} {u : Nat} {S1 S2 : List ByteArray} (h : Has a T u (S1 ++ S2)) : Has a T u S1 ∧ Has a T (u + S1.length) S2 := by
  refine ⟨fun i hi => ?_, fun i hi => ?_⟩
  · have := h i (by rw [List.length_append]; omega)
    rwa [List.getElem_append_left hi] at this
  · have := h (S1.length + i) (by rw [List.length_append]; omega)
    rw [List.getElem_append_right (by omega)] at this
    simp only [Nat.add_sub_cancel_left] at this
    rw [Nat.add_assoc]
    exact this
theorem has_cat (a : Nat) (S : List ByteArray) (h : ∀ s ∈ S, s.size = a) (more : ByteArray) : Has a (catL S ++ more) 0 S := fun i hi => by
  rw [Nat.zero_add]
  exact partAt_cat a S h more i hi
theorem nParts_pos (a b : Nat) : 1 ≤ nParts a b := by unfold nParts; omega
theorem full_take (a : Nat) (s : ByteArray) (ha : 64 ≤ a) : (nl s).take (nParts a s.size * (a - 25)) = nl s := by
  refine List.take_of_length_le ?_
  rw [nl_length]
  have h1 := nParts_iff a s.size (nParts a s.size - 1) ha
  have h2 := nParts_pos a s.size
  rw [show nParts a s.size - 1 + 1 = nParts a s.size by omega] at h1
  exact Nat.le_of_not_lt (fun h => by have := h1.2 h; omega)
/-- a record's sectors that stand somewhere are a record -/
theorem rec_step {a g x u : Nat} {s T : ByteArray} (ha : 64 ≤ a) (h5 : a ≤ 512) (hs : s.size ≤ 4096) (hg : g < M64) (hx : x < M64) (h : Has a T u (secs a g x s)) :
    recOk a g x T u ∧ numAt a T u = nParts a s.size ∧ txt (joinD a T u (nParts a s.size)) = s := by
  have hp : ∀ i, i < nParts a s.size → partAt a T (u + i) = some (prt a g x s i) := fun i hi => by
    have h1 := h i (by rw [secs_len]; exact hi)
    rw [secs_at, read_sec a g x s i ha h5 hs hg hx hi] at h1
    exact h1
  have hn : numAt a T u = nParts a s.size := by
    unfold numAt
    have := hp 0 (nParts_pos a s.size)
    rw [Nat.add_zero] at this
    rw [this]
    rfl
  have hd : ∀ i, i < nParts a s.size → datAt a T (u + i) = pieceC (a - 25) s i := fun i hi => by
    unfold datAt
    rw [hp i hi]
    rfl
  have hj : ∀ k, k ≤ nParts a s.size → joinD a T u k = (nl s).take (k * (a - 25)) := fun k hk => by
    induction k with
    | zero => simp [joinD]
    | succ k ih =>
      rw [joinD, ih (by omega), hd k (by omega)]
      unfold pieceC
      rw [nl_extract]
      have e : (k + 1) * (a - 25) = k * (a - 25) + (a - 25) := by rw [Nat.add_mul, Nat.one_mul]
      rw [e, Nat.add_sub_cancel_left, List.take_add]
  refine ⟨⟨by rw [hn]; exact nParts_pos a s.size, fun i hi => ?_⟩, hn, ?_⟩
  · rw [hn] at hi ⊢
    unfold okPart
    rw [hp i hi, hd i hi]
    rfl
  · apply nl_inj
    rw [hj _ (Nat.le_refl _), full_take a s ha, nl_txt _ (nl_lt s)]
/-- .. of another serial, or generation, are none -/
theorem rec_other {a g x g' x' u : Nat} {s T : ByteArray} (ha : 64 ≤ a) (h5 : a ≤ 512) (hs : s.size ≤ 4096) (hg : g < M64) (hx : x < M64) (h : Has a T u (secs a g x s)) (hne : ¬ (g' = g ∧ x' = x)) : ¬ recOk a g' x' T u := by
  intro hr
  have h1 := h 0 (by rw [secs_len]; exact nParts_pos a s.size)
  rw [secs_at, read_sec a g x s 0 ha h5 hs hg hx (nParts_pos a s.size)] at h1
  have h2 := hr.2 0 hr.1
  unfold okPart at h2
  rw [h1] at h2
  have h3 : prt a g x s 0 = ⟨g', x', 0, numAt a T u, datAt a T (u + 0)⟩ := Option.some.inj h2
  have e1 := congrArg FrP.g h3
  have e2 := congrArg FrP.x h3
  exact hne ⟨e1.symm, e2.symm⟩
theorem secs_inj {a g x g' x' : Nat} {s s' : ByteArray} (ha : 64 ≤ a) (h5 : a ≤ 512) (hs : s.size ≤ 4096) (hs' : s'.size ≤ 4096) (hg : g < M64) (hx : x < M64) (hg' : g' < M64) (hx' : x' < M64) (h : secs a g x s = secs a g' x' s') : g = g' ∧ x = x' ∧ s = s' := by
  have hh := has_cat a (secs a g x s) (sec_size a g x s ha hs) ⟨#[]⟩
  generalize catL (secs a g x s) ++ ⟨#[]⟩ = T at hh
  have hh' := hh
  rw [h] at hh'
  have h1 := rec_step ha h5 hs hg hx hh
  have h2 := rec_step ha h5 hs' hg' hx' hh'
  have e1 := h1.2.2
  have e2 := h2.2.2
  rw [← h1.2.1] at e1
  rw [← h2.2.1] at e2
  by_cases hc : g = g' ∧ x = x'
  · exact ⟨hc.1, hc.2, e1.symm.trans e2⟩
  · exact absurd h1.1 (rec_other ha h5 hs' hg' hx' hh' hc)
/-- .. with nothing behind -/
theorem none_behind {a g x : Nat} {T : ByteArray} {u : Nat} (h : T.size < (u + 1) * a) : ¬ recOk a g x T u := by
  intro hr
  have h1 := recOk_in hr
  have h2 : (u + 1) * a ≤ (u + numAt a T u) * a := Nat.mul_le_mul_right _ (by omega)
  omega
/-- one record alone, scanned -/
theorem scan_one {a g x o : Nat} {s : ByteArray} (ha : 64 ≤ a) (h5 : a ≤ 512) (hs : s.size ≤ 4096) (hg : g < M64) (hx : x < M64) :
    scanAll a o (catL (secs a g x s)) = if o = g ∧ x = 0 then ([s], nParts a s.size) else ([], 0) := by
  have hsz := sec_size a g x s ha hs
  have hh : Has a (catL (secs a g x s)) 0 (secs a g x s) := by
    have := has_cat a (secs a g x s) hsz ⟨#[]⟩
    have e : catL (secs a g x s) ++ ⟨#[]⟩ = catL (secs a g x s) := by apply nl_inj; rw [nl_append]; simp [nl]
    rwa [e] at this
  have hz : (catL (secs a g x s)).size = nParts a s.size * a := by rw [catL_size a _ hsz, secs_len]
  generalize catL (secs a g x s) = T at *
  unfold scanAll
  rw [if_pos (by unfold FrSz; omega), Int.toNat_natCast]
  by_cases hc : o = g ∧ x = 0
  · obtain ⟨rfl, rfl⟩ := hc
    rw [if_pos ⟨rfl, rfl⟩]
    have h1 := rec_step ha h5 hs hg hx hh
    rw [scanF_yes h1.1, h1.2.1, h1.2.2, Nat.zero_add, Nat.zero_add]
    have h2 : ¬ recOk a o 1 T (nParts a s.size) := none_behind (by rw [hz, Nat.add_mul]; omega)
    rw [scanF_no h2]
  · rw [if_neg hc, scanF_no (rec_other ha h5 hs hg hx hh (fun h => hc ⟨h.1, h.2.symm⟩))]
end Go.Proofs.Ytfbjfleagilikaa
