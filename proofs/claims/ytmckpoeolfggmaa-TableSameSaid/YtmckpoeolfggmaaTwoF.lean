/- Two footprints, apart. No condition. -/
import Derived.Test.YtmckpoeolfggmaaFoot
namespace Go.Proofs.Ytmckpoeolfggmaa
open Go.RowKit
set_option linter.unusedVariables false
/-- two footprints, apart, beside the blocks W -/
structure Two (W : Nat → Prop) (w : World) (O1 O2 : Nat → Prop) : Prop where
  a : ∀ k, O1 k → ¬ W k ∧ k < w.heap.size
  b : ∀ k, O2 k → ¬ W k ∧ k < w.heap.size
  ne : ∀ k, O1 k → ¬ O2 k
section
variable {W : Nat → Prop} {w w' : World} {O1 O2 : Nat → Prop}
theorem Two.stepA (h : Two W w O1 O2) (hW : FrW W w) (hs : w.heap.size ≤ w'.heap.size) : Two W w' (Ext O1 w w') O2 := by
  refine ⟨fun k hk => ?_, fun k hk => ?_, fun k hk h2 => ?_⟩
  · rcases hk with hk | hk
    · have := h.a k hk; exact ⟨this.1, by omega⟩
    · exact ⟨fun hw => (by have := hW k hw; omega), hk.2⟩
  · have := h.b k hk; exact ⟨this.1, by omega⟩
  · rcases hk with hk | hk
    · exact h.ne k hk h2
    · have := h.b k h2; omega
theorem Two.stepB (h : Two W w O1 O2) (hW : FrW W w) (hs : w.heap.size ≤ w'.heap.size) : Two W w' O1 (Ext O2 w w') := by
  refine ⟨fun k hk => ?_, fun k hk => ?_, fun k hk h2 => ?_⟩
  · have := h.a k hk; exact ⟨this.1, by omega⟩
  · rcases hk with hk | hk
    · have := h.b k hk; exact ⟨this.1, by omega⟩
    · exact ⟨fun hw => (by have := hW k hw; omega), hk.2⟩
  · rcases h2 with h2 | h2
    · exact h.ne k hk h2
    · have := h.a k hk; omega
theorem Two.later (h : Two W w O1 O2) (hs : w.heap.size ≤ w'.heap.size) : Two W w' O1 O2 := ⟨fun k hk => ⟨(h.a k hk).1, Nat.lt_of_lt_of_le (h.a k hk).2 hs⟩, fun k hk => ⟨(h.b k hk).1, Nat.lt_of_lt_of_le (h.b k hk).2 hs⟩, h.ne⟩
end
end Go.Proofs.Ytmckpoeolfggmaa
