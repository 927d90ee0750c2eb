/- What the laws of layer 9 hold beside a book. No condition. -/
import Derived.Test.YtclloplkbajebaaDoorPfLwQ
import Derived.Test.YtclloplkbajebaaDoorQfLQ
namespace Go.Proofs.YtclloplkbajebaaDoor
open Go.RowKit
set_option linter.unusedVariables false
/-- the constants, the list and the book -/
structure J9 (W w : World) (lo hi P : Nat) (T : List ByteArray) (A : Option Addr) (l : List PairV) : Prop where
  laid : LaidOk W
  bel : Below W.heap.size W w
  bk : BookW w lo hi P T
  hhi : hi ≤ w.heap.size
  hlo : lo ≤ w.heap.size
  wlo : W.heap.size ≤ lo
  a : PsLo w lo A l
section
variable {W w w' : World} {lo hi P : Nat} {T U : List ByteArray} {A : Option Addr} {l : List PairV}
theorem J9.below (h : J9 W w lo hi P T A l) (hb : Below w.heap.size w w') : J9 W w' lo hi P T A l :=
  ⟨h.laid, h.bel.trans (hb.mono h.bel.size), h.bk.below hb, Nat.le_trans h.hhi hb.size, Nat.le_trans h.hlo hb.size, h.wlo, h.a.below hb⟩
theorem J9.ask (h : J9 W w lo hi P T A l) (hb : BookW w' lo hi P U) (hk : Kq.Keeps (fun k => lo ≤ k ∧ k < hi) w w') : J9 W w' lo hi P U A l :=
  ⟨h.laid, below_far h.bel hk (Nat.le_refl _) (fun k _ hk => by have := h.wlo; omega), hb, Nat.le_trans h.hhi hk.size, Nat.le_trans h.hlo hk.size, h.wlo, h.a.keeps hk (fun k hk => hk.1)⟩
theorem J9.ok (h : J9 W w lo hi P T A l) : LaidOk w := h.laid.later h.bel
theorem L9.book (h : L9 W w A l) {w' : World} {P : Nat} (hb : BookW w' w.heap.size w'.heap.size P []) (hbl : Below w.heap.size w w') : J9 W w' w.heap.size w'.heap.size P [] A l :=
  ⟨h.laid, h.bel.trans (hbl.mono h.bel.size), hb, Nat.le_refl _, hbl.size, h.bel.size, (show PsLo w w.heap.size A l from fun j hj => by
    obtain ⟨b, off, e, h1, h2, h3⟩ := h.pa j hj
    exact ⟨b, off, e, h1, h1, h2, h3⟩).below hbl⟩
/-- a clash is marked -/
theorem J9.mark (h : J9 W w lo hi P T A l) (hc : Clash T) : w.cell? ⟨P, 3, none⟩ = some (.bool true) := by
  obtain ⟨t, ht, u, hu, h1, h2⟩ := hc
  exact book_markedW h.bk ht hu h1 h2
end
theorem has_parts {root key value : ByteArray} {p : PfV} (h : hasP root key value p = true) : p.ab = false ∧ p.ls.length = 1 := by
  by_cases h1 : p.ab = true
  · rw [hasP_ab _ _ _ _ h1] at h; cases h
  by_cases h2 : p.ls.length = 1
  · exact ⟨by simpa using h1, h2⟩
  · rw [hasP_no _ _ _ _ (Or.inr h2)] at h; cases h
theorem lacks_parts {root key : ByteArray} {p : PfV} (h : lacksP root key p = true) : p.ab = true ∧ isKeyB key = true := by
  by_cases h1 : p.ab = true
  · refine ⟨h1, ?_⟩
    by_cases h2 : isKeyB key = true
    · exact h2
    · rw [lacksP_key _ _ _ (by simpa using h2)] at h; cases h
  · rw [lacksP_ab _ _ _ (by simpa using h1)] at h; cases h
theorem parse_may {s : ByteArray} (h : (pfParse s).1.ab = true ∨ (pfParse s).1.ls.length = 1) : PfMay (pfParse s).1 ∧ pfB (pfParse s).1 = nl s := by
  rcases pfParse_cases s with ⟨_, e⟩ | ⟨e, hm⟩
  · rw [e] at h
    rcases h with h | h <;> cases h
  · exact pfParse_back (s := s) (p := (pfParse s).1) (by rw [← e])
theorem askR_len (l : List PairV) (h : l.length ≤ 40) : (askR l).length ≤ 81 := by
  unfold askR
  by_cases h0 : 1 ≤ l.length
  · have := askL_len _ l (Nat.le_refl _) h0
    rw [List.length_cons]; omega
  · have : l = [] := List.eq_nil_of_length_eq_zero (by omega)
    subst this
    simp [askL, askF]
theorem askH_le {s : ByteArray} (T : List ByteArray) : (askH (pfParse s).1 T).length ≤ T.length + 68 := by
  unfold askH
  by_cases h : (pfParse s).1.ab = false ∧ (pfParse s).1.ls.length = 1
  · rw [if_pos h]; exact askH_len (parse_may (Or.inr h.2)).1 T
  · rw [if_neg h]; omega
theorem askK_le {key s : ByteArray} (T : List ByteArray) : (askK key (pfParse s).1 T).length ≤ T.length + 90 := by
  unfold askK
  by_cases h : (pfParse s).1.ab = true ∧ isKeyB key = true
  · rw [if_pos h]
    by_cases h2 : (pfParse s).1.ls.length = 0
    · rw [if_pos h2, List.length_append]
      have := askR_len [] (by simp)
      omega
    · rw [if_neg h2]
      have := askH_len (parse_may (Or.inl h.1)).1 T
      omega
  · rw [if_neg h]; omega
/-- what is had, and isn't so: a clash -/
theorem clash_has {l : List PairV} {s key value : ByteArray} {T : List ByteArray} (hc : chkE l = 0) (h40 : l.length ≤ 40) (hT : ∀ t ∈ askR l, t ∈ T) (h : hasP (rootL l) key value (pfParse s).1 = true) (hno : ∀ i (hi : i < l.length), l[i] ≠ (key, value)) : Clash (askH (pfParse s).1 T) := by
  have hp := has_parts h
  unfold askH
  rw [if_pos hp]
  rcases has_sound (parse_may (Or.inr hp.2)).1 hc h40 hT h with g | ⟨i, hi, _, e⟩
  · exact g
  · exact absurd e (hno i hi)
theorem clash_lacks {l : List PairV} {s key : ByteArray} {T : List ByteArray} (hc : chkE l = 0) (h40 : l.length ≤ 40) (hT : ∀ t ∈ askR l, t ∈ T) (hN : topT 0 ⟨#[]⟩ ∈ T) (h : lacksP (rootL l) key (pfParse s).1 = true) {i : Nat} (hi : i < l.length) (hk : l[i].1 = key) : Clash (askK key (pfParse s).1 T) := by
  have hp := lacks_parts h
  have hcl : Clash (askCl (pfParse s).1.ls T) := by
    rcases lacks_sound (parse_may (Or.inl hp.1)).1 hc h40 hT hN h with g | g
    · exact g
    · exact absurd hk (g i hi)
  unfold askK
  rw [if_pos hp]
  by_cases h2 : (pfParse s).1.ls.length = 0
  · rw [if_pos h2]
    rw [List.eq_nil_of_length_eq_zero h2] at hcl
    exact hcl.mono (fun t ht => List.mem_append_right _ ht)
  · rw [if_neg h2]; exact hcl
theorem askK_old (key : ByteArray) (p : PfV) (T : List ByteArray) : ∀ t ∈ T, t ∈ askK key p T := fun t ht => by
  unfold askK
  split
  · split
    · exact List.mem_append_right _ ht
    · exact askCl_old _ _ ht
  · exact ht
theorem askH_old (p : PfV) (T : List ByteArray) : ∀ t ∈ T, t ∈ askH p T := fun t ht => by
  unfold askH
  split
  · exact askCl_old _ _ ht
  · exact ht
end Go.Proofs.YtclloplkbajebaaDoor
