/- Plain mathematics of a disk: what is put, flushed, left by a crash. No condition but sizes. -/
import Derived.Test.YtcnoakngnjbkiaaDkRead2
namespace Go.Proofs.Ytcnoakngnjbkiaa
open Go.RowKit
set_option linter.unusedVariables false
/-- some bytes laid at a sector's front -/
def putB (p : Nat) (t st : List Nat) : List Nat := st.take p ++ t ++ st.drop (p + t.length)
theorem putB_length (p : Nat) (t st : List Nat) (h : p + t.length ≤ st.length) : (putB p t st).length = st.length := by
  unfold putB
  simp only [List.length_append, List.length_take, List.length_drop]
  omega
theorem putB_lt (p : Nat) (t st : List Nat) (ht : ∀ x ∈ t, x < 256) (hs : ∀ x ∈ st, x < 256) : ∀ x ∈ putB p t st, x < 256 := by
  intro x hx
  unfold putB at hx
  rcases List.mem_append.1 hx with h | h
  · rcases List.mem_append.1 h with h | h
    · exact hs x (List.mem_of_mem_take h)
    · exact ht x h
  · exact hs x (List.mem_of_mem_drop h)
/-- writes that may be -/
def WsOk (a b : Nat) (ws : List (Int × ByteArray)) : Prop := ∀ p ∈ ws, 0 ≤ p.1 ∧ p.1 < (b : Int) ∧ p.2.size = a
theorem WsOk.snoc {a b : Nat} {ws : List (Int × ByteArray)} (h : WsOk a b ws) {k : Int} {s : ByteArray} (h0 : 0 ≤ k) (h1 : k < b) (hs : s.size = a) : WsOk a b (ws ++ [(k, s)]) := by
  intro p hp
  rcases List.mem_append.1 hp with hp | hp
  · exact h p hp
  · rw [List.mem_singleton.1 hp]; exact ⟨h0, h1, hs⟩
theorem WsOk.nil (a b : Nat) : WsOk a b [] := fun _ h => by cases h
theorem WsOk.at {a b : Nat} {ws : List (Int × ByteArray)} (h : WsOk a b ws) (j : Nat) (hj : j < ws.length) : 0 ≤ ws[j].1 ∧ ws[j].1 < (b : Int) ∧ ws[j].2.size = a := h _ (List.getElem_mem _)
theorem fit_mul {a b k : Nat} (hk : k < b) : k * a + a ≤ a * b := by
  have h := Nat.mul_le_mul_right a (Nat.succ_le_of_lt hk)
  rw [Nat.succ_mul, Nat.mul_comm b a] at h
  exact h
/-- all writes flushed, one behind the other -/
def flushB (a : Nat) : List (Int × ByteArray) → List Nat → List Nat
  | [], st => st
  | (k, s) :: ws, st => flushB a ws (putB (k.toNat * a) (nl s) st)
/-- what a crash leaves -/
def crashB (a : Nat) : List (Int × ByteArray) → List (Bool × Int) → Bool → List Nat → List Nat
  | [], _, _, st => st
  | _ :: _, [], _, st => st
  | (k, s) :: ws, (lasts, t) :: l, torn, st =>
    if lasts then
      if 0 < t ∧ t < (a : Int) ∧ torn = false then crashB a ws l true (putB (k.toNat * a) ((nl s).take t.toNat) st)
      else crashB a ws l torn (putB (k.toNat * a) (nl s) st)
    else crashB a ws l torn st
theorem flushB_ok (a b : Nat) (ws : List (Int × ByteArray)) (st : List Nat) (h : WsOk a b ws) (hl : st.length = a * b) (hs : ∀ x ∈ st, x < 256) : (flushB a ws st).length = a * b ∧ ∀ x ∈ flushB a ws st, x < 256 := by
  induction ws generalizing st with
  | nil => exact ⟨hl, hs⟩
  | cons p ws ih =>
    obtain ⟨k, s⟩ := p
    obtain ⟨h0, h1, h2⟩ := h (k, s) (List.mem_cons_self ..)
    simp only at h0 h1 h2
    have hf := fit_mul (a := a) (b := b) (k := k.toNat) (by omega)
    refine ih _ (fun q hq => h q (List.mem_cons_of_mem _ hq)) ?_ ?_
    · rw [putB_length _ _ _ (by rw [nl_length, h2, hl]; exact hf), hl]
    · exact putB_lt _ _ _ (nl_lt s) hs
theorem crashB_ok (a b : Nat) (ws : List (Int × ByteArray)) (l : List (Bool × Int)) (torn : Bool) (st : List Nat) (h : WsOk a b ws) (hl : st.length = a * b) (hs : ∀ x ∈ st, x < 256) :
    (crashB a ws l torn st).length = a * b ∧ ∀ x ∈ crashB a ws l torn st, x < 256 := by
  induction ws generalizing st l torn with
  | nil => exact ⟨hl, hs⟩
  | cons p ws ih =>
    obtain ⟨k, s⟩ := p
    obtain ⟨h0, h1, h2⟩ := h (k, s) (List.mem_cons_self ..)
    simp only at h0 h1 h2
    have hf := fit_mul (a := a) (b := b) (k := k.toNat) (by omega)
    have hw : WsOk a b ws := fun q hq => h q (List.mem_cons_of_mem _ hq)
    match l with
    | [] => exact ⟨hl, hs⟩
    | (lasts, t) :: l =>
      unfold crashB
      by_cases hla : lasts = true
      · rw [if_pos hla]
        by_cases ht : 0 < t ∧ t < (a : Int) ∧ torn = false
        · rw [if_pos ht]
          have e : ((nl s).take t.toNat).length = t.toNat := by rw [List.length_take, nl_length, h2]; omega
          refine ih _ _ _ hw ?_ ?_
          · rw [putB_length _ _ _ (by rw [e, hl]; omega), hl]
          · exact putB_lt _ _ _ (fun x hx => nl_lt s x (List.mem_of_mem_take hx)) hs
        · rw [if_neg ht]
          refine ih _ _ _ hw ?_ ?_
          · rw [putB_length _ _ _ (by rw [nl_length, h2, hl]; exact hf), hl]
          · exact putB_lt _ _ _ (nl_lt s) hs
      · rw [if_neg hla]
        exact ih _ _ _ hw hl hs
/-- a sector's bytes -/
def sec (a k : Nat) (st : List Nat) : List Nat := (st.drop (k * a)).take a
theorem putB_sec_same (a b k : Nat) (t st : List Nat) (ht : t.length = a) (hk : k < b) (hl : st.length = a * b) : sec a k (putB (k * a) t st) = t := by
  have hf := fit_mul (a := a) hk
  unfold sec putB
  have h1 : (st.take (k * a)).length = k * a := by rw [List.length_take]; omega
  rw [List.append_assoc, List.drop_append_of_le_length (by omega), List.drop_of_length_le (by omega), List.nil_append, List.take_append_of_le_length (by omega), List.take_of_length_le (by omega)]
theorem putB_sec_other (a b k j : Nat) (t st : List Nat) (ht : t.length ≤ a) (hk : k < b) (hj : j < b) (hne : j ≠ k) (hl : st.length = a * b) : sec a j (putB (k * a) t st) = sec a j st := by
  have hf := fit_mul (a := a) hk
  have hfj := fit_mul (a := a) hj
  have hcase : j * a + a ≤ k * a ∨ k * a + a ≤ j * a := by
    rcases Nat.lt_or_gt_of_ne hne with h | h
    · left
      have := Nat.mul_le_mul_right a (Nat.succ_le_of_lt h)
      rwa [Nat.succ_mul] at this
    · right
      have := Nat.mul_le_mul_right a (Nat.succ_le_of_lt h)
      rwa [Nat.succ_mul] at this
  have h1 : (st.take (k * a)).length = k * a := by rw [List.length_take]; omega
  apply List.ext_getElem?
  intro i
  unfold sec putB
  simp only [List.getElem?_take, List.getElem?_drop, List.getElem?_append, List.length_append, h1]
  by_cases hi : i < a
  · simp only [hi, if_true]
    rcases hcase with h | h
    · have a1 : j * a + i < k * a + t.length := by omega
      have a3 : j * a + i < k * a := by omega
      simp only [a1, a3, if_true]
    · have a1 : ¬ j * a + i < k * a + t.length := by omega
      have a2 : k * a + t.length + (j * a + i - (k * a + t.length)) = j * a + i := by omega
      rw [if_neg a1, a2]
  · simp only [hi, if_false]
/-- what is read: what was written last, or what is stable -/
def readB (a : Nat) (ws : List (Int × ByteArray)) (st : List Nat) (k : Int) : ByteArray := match lastW k ws with
  | some s => s
  | none => txt (sec a k.toNat st)
def orSec (a k : Nat) (o : Option ByteArray) (st : List Nat) : List Nat := match o with
  | some s => nl s
  | none => sec a k st
theorem lastW_cons (k j : Int) (s : ByteArray) (l : List (Int × ByteArray)) : lastW k ((j, s) :: l) = match lastW k l with
  | some t => some t
  | none => if j = k then some s else none := rfl
/-- what is read of a sector is what is stable behind a flush -/
theorem flush_sec (a b : Nat) (ws : List (Int × ByteArray)) (st : List Nat) (h : WsOk a b ws) (hl : st.length = a * b) (hs : ∀ x ∈ st, x < 256) (k : Nat) (hk : k < b) :
    sec a k (flushB a ws st) = orSec a k (lastW (k : Int) ws) st := by
  induction ws generalizing st with
  | nil => rfl
  | cons p ws ih =>
    obtain ⟨j, s⟩ := p
    obtain ⟨h0, h1, h2⟩ := h (j, s) (List.mem_cons_self ..)
    simp only at h0 h1 h2
    have hf := fit_mul (a := a) (b := b) (k := j.toNat) (by omega)
    have hlen : (putB (j.toNat * a) (nl s) st).length = a * b := by rw [putB_length _ _ _ (by rw [nl_length, h2, hl]; exact hf), hl]
    show sec a k (flushB a ws (putB (j.toNat * a) (nl s) st)) = _
    rw [ih _ (fun q hq => h q (List.mem_cons_of_mem _ hq)) hlen (putB_lt _ _ _ (nl_lt s) hs)]
    rw [lastW_cons]
    cases hlw : lastW (k : Int) ws with
    | some t => rfl
    | none =>
      simp only
      by_cases hjk : j = (k : Int)
      · subst hjk
        rw [if_pos rfl]
        exact putB_sec_same a b k (nl s) st (by rw [nl_length, h2]) hk hl
      · rw [if_neg hjk]
        show sec a k _ = sec a k _
        exact putB_sec_other a b j.toNat k (nl s) st (by rw [nl_length, h2]; exact Nat.le_refl _) (by omega) hk (by omega) hl
end Go.Proofs.Ytcnoakngnjbkiaa
