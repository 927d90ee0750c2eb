/- More blocks watched beside a table; what fits; what is refused. No condition. -/
import Derived.Test.YtmckpoeolfggmaaTwLaw
namespace Go.Proofs.Ytmckpoeolfggmaa
open Go.RowKit Go.Kq
set_option linter.unusedVariables false
/-- more blocks are watched -/
def Wid (V : Nat → Prop) (w w' : World) : Nat → Prop := fun k => V k ∨ (w.heap.size ≤ k ∧ k < w'.heap.size)
theorem wid_frw {V : Nat → Prop} {w w' : World} (h : FrW V w) (hs : w.heap.size ≤ w'.heap.size) : FrW (Wid V w w') w' := fun k hk => by
  rcases hk with hk | hk
  · exact h.later hs k hk
  · exact hk.2
theorem one_wide {V : Nat → Prop} {w w' : World} {B : Nat} {s : TbV} (h : OneT V w B s) (hb : Below w.heap.size w w') : OneT (Wid V w w') w' B s := by
  obtain ⟨O, h1, h2⟩ := h
  refine ⟨O, h1.below hb, fun k hk => ⟨fun h3 => ?_, Nat.lt_of_lt_of_le (h2 k hk).2 hb.size⟩⟩
  rcases h3 with h3 | h3
  · exact (h2 k hk).1 h3
  · have := (h2 k hk).2; omega
theorem one_narrow {V V' : Nat → Prop} {w : World} {B : Nat} {s : TbV} (h : OneT V w B s) (hV : ∀ k, V' k → V k) : OneT V' w B s := by
  obtain ⟨O, h1, h2⟩ := h
  exact ⟨O, h1, fun k hk => ⟨fun h => (h2 k hk).1 (hV k h), (h2 k hk).2⟩⟩
theorem fitV_lt : ∀ (l : List NtV) (s : TbV) (i : Nat) (hi : i < l.length), i < fitV s l → (appV (appsV s (l.take i)) l[i]).2 = 0
  | n :: l, s, i, hi, h => by
    unfold fitV at h
    by_cases e : (appV s n).2 = 0
    · rw [if_pos e] at h
      cases i with
      | zero => exact e
      | succ i => exact fitV_lt l _ i (by simpa using hi) (by omega)
    · rw [if_neg e] at h; omega
theorem fitV_end : ∀ (l : List NtV) (s : TbV) (i : Nat) (hi : i < l.length), i = fitV s l → (appV (appsV s (l.take i)) l[i]).2 ≠ 0
  | n :: l, s, i, hi, h => by
    unfold fitV at h
    by_cases e : (appV s n).2 = 0
    · rw [if_pos e] at h
      cases i with
      | zero => omega
      | succ i => exact fitV_end l _ i (by simpa using hi) (by omega)
    · rw [if_neg e] at h
      subst h
      exact e
theorem addV_bad (s : TbV) (n : NtV) (h : (addV s n).2 ≠ 0) : (addV s n).1 = s := by
  unfold addV at h ⊢
  by_cases e : s.room ≤ s.l.length
  · rw [if_pos e]
  · rw [if_neg e] at h; exact absurd rfl h
theorem appV_bad (s : TbV) (n : NtV) (h : (appV s n).2 ≠ 0) : (appV s n).1 = s := by
  by_cases h0 : EnOk [1, 2, 3, 4] n
  · by_cases h1 : n.k = 1
    · rw [app_1 h0 h1] at h ⊢
      unfold sentV at h ⊢
      cases e : tbR.look s.l n.nm with
      | none => rw [e] at h; exact addV_bad _ _ h
      | some i => rfl
    · by_cases h2 : n.k = 2
      · rw [app_2 h0 h2] at h ⊢
        unfold recvV at h ⊢
        cases e : tbR.look s.l n.nm with
        | none => rw [e] at h; exact addV_bad _ _ h
        | some i => rw [e] at h; exact absurd rfl h
      · rw [app_3 h0 h1 h2] at h
        exact absurd rfl h
  · rw [app_bad h0]
theorem actT_bad (s : TbV) (a : AcV) (h : (actT s a).2 ≠ 0) : (actT s a).1 = s := by
  unfold actT at h ⊢
  by_cases e : a.dr = true
  · rw [if_pos e] at h ⊢
    unfold drpV at h ⊢
    by_cases g : tbR.look s.l (a.n.f, a.n.q) = none
    · rw [if_pos g]
    · rw [if_neg g] at h; exact absurd rfl h
  · rw [if_neg e] at h ⊢
    exact appV_bad _ _ h
theorem sort_step {l : List NtV} (h : tbR.Sort l) (k : Nat) (h1 : 1 ≤ k) (hk : k < l.length) : l[k - 1].f < l[k].f ∨ (l[k - 1].f = l[k].f ∧ l[k - 1].q < l[k].q) := by
  have := List.pairwise_iff_getElem.1 h (k - 1) k (by omega) hk (by omega)
  exact of_decide_eq_true this
end Go.Proofs.Ytmckpoeolfggmaa
