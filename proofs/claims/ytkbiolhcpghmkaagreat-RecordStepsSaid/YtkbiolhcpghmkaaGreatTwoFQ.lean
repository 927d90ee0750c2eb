/- Merged: Foot, TwoF. Footprints: what blocks a call may change, what it makes. No condition. Two footprints, apart. No condition. -/
import Derived.WalkSpells
import Derived.Outline
import Derived.Test.YtkbiolhcpghmkaaGreatObjQ
import Derived.Test.YtkbiolhcpghmkaaGreatCommonQ
namespace Go.Proofs.YtkbiolhcpghmkaaGreat
open Go.RowKit
set_option linter.unusedVariables false
theorem own_belowF {w w' : World} {base size : Nat} {e : TypeId} {v : Value} {n : Nat} {xs : List Value} (h : w.ownsRow base e size v n xs) (hb : Below w.heap.size w w') : w'.ownsRow base e size v n xs := by
  refine ⟨h.1, ?_⟩
  rcases h.2 with h2 | ⟨g, cap, cur, rfl, h1, h2, h3⟩
  · exact Or.inl h2
  · exact Or.inr ⟨g, cap, cur, rfl, h1, Kq.below_blk hb h2 (Kq.blk_lt h2), h3⟩
theorem own_geF {w : World} {base size : Nat} {e : TypeId} {v : Value} {n : Nat} {xs : List Value} (h : w.ownsRow base e size v n xs) {k : Nat} (hk : v.ownBlock = some k) : base ≤ k := by
  rcases h.2 with ⟨e, _⟩ | ⟨g, cap, cur, e, h1, _⟩
  · rw [e] at hk; cases hk
  · rw [e] at hk
    have q1 : g = k := Option.some.inj hk
    rw [← q1]; exact h1
theorem below_past {W : Nat} {a b d : World} {T : Nat → Prop} (h : Below W a b) (hk : Kq.Keeps T b d) (hW : W ≤ a.heap.size) (hT : ∀ k, k < b.heap.size → T k → W ≤ k) : Below W a d :=
  h.trans (hk.below (Nat.le_trans hW h.size) hT)
theorem keeps_past {S T : Nat → Prop} {a b d : World} (h : Kq.Keeps S a b) (hk : Kq.Keeps T b d) (hT : ∀ k, T k → a.heap.size ≤ k) : Kq.Keeps S a d :=
  ⟨hk.os.trans h.os, hk.tape.trans h.tape, hk.output.trans h.output, Nat.le_trans h.size hk.size, fun k hk1 hn => by
    rw [hk.block k (Nat.lt_of_lt_of_le hk1 h.size) (fun ht => by have := hT k ht; omega), h.block k hk1 hn]⟩
theorem own_keepsS {w w' : World} {base size : Nat} {e : TypeId} {v : Value} {n : Nat} {xs : List Value} {S : Nat → Prop} (h : w.ownsRow base e size v n xs) (hk : Kq.Keeps S w w') (hS : ∀ k, S k → v.ownBlock ≠ some k) : w'.ownsRow base e size v n xs := by
  refine ⟨h.1, ?_⟩
  rcases h.2 with h2 | ⟨g, cap, cur, rfl, h1, h2, h3⟩
  · exact Or.inl h2
  · exact Or.inr ⟨g, cap, cur, rfl, h1, hk.blk h2 (fun hs => hS g hs rfl), h3⟩
/-- what was there, and what was made since -/
def Ext (O : Nat → Prop) (w w' : World) : Nat → Prop := fun k => O k ∨ (w.heap.size ≤ k ∧ k < w'.heap.size)
theorem ext_of {O : Nat → Prop} {w w' : World} {k : Nat} (h : O k) : Ext O w w' k := Or.inl h
theorem keepsF {w w' : World} {O : Nat → Prop} (hb : Below w.heap.size w w') : Kq.Keeps (fun _ => False) w w' := Kq.Keeps.of_below hb (fun k h1 h2 => absurd h1 (Nat.not_le.2 h2))
/-- rows of unlike elements lie in unlike blocks -/
theorem own_ne {w : World} {b1 b2 s1 s2 n1 n2 : Nat} {e1 e2 : TypeId} {v1 v2 : Value} {xs1 xs2 : List Value} (h1 : w.ownsRow b1 e1 s1 v1 n1 xs1) (h2 : w.ownsRow b2 e2 s2 v2 n2 xs2) (hne : e1 ≠ e2) (k : Nat) (hk : v1.ownBlock = some k) : v2.ownBlock ≠ some k := fun hk2 => by
  rcases h1.2 with ⟨e, _⟩ | ⟨g, c, cur, e, _, hb, _⟩
  · rw [e] at hk; cases hk
  · rcases h2.2 with ⟨e', _⟩ | ⟨g', c', cur', e', _, hb', _⟩
    · rw [e'] at hk2; cases hk2
    · rw [e] at hk
      rw [e'] at hk2
      have q1 : g = k := Option.some.inj hk
      have q2 : g' = k := Option.some.inj hk2
      rw [q1] at hb
      rw [q2, hb] at hb'
      injection hb' with hb'
      injection hb' with h3 h4
      exact hne h4
theorem own_ltK {w : World} {b1 s1 n1 : Nat} {e1 : TypeId} {v1 : Value} {xs1 : List Value} (h1 : w.ownsRow b1 e1 s1 v1 n1 xs1) {k : Nat} (hk : v1.ownBlock = some k) : k < w.heap.size := by
  rcases h1.2 with ⟨e, _⟩ | ⟨g, c, cur, e, _, hb, _⟩
  · rw [e] at hk; cases hk
  · rw [e] at hk
    have q1 : g = k := Option.some.inj hk
    rw [← q1]; exact Kq.blk_lt hb
/-- the blocks W are there -/
def FrW (W : Nat → Prop) (w : World) : Prop := ∀ k, W k → k < w.heap.size
theorem FrW.later {W : Nat → Prop} {w w' : World} (h : FrW W w) (hs : w.heap.size ≤ w'.heap.size) : FrW W w' := fun k hk => Nat.lt_of_lt_of_le (h k hk) hs
/-- the blocks W stay as they are -/
def Fb (W : Nat → Prop) (w w' : World) : Prop := Kq.Keeps (fun k => ¬ W k) w w'
theorem Fb.of {W : Nat → Prop} {w w' : World} (hb : Below w.heap.size w w') (h : FrW W w) : Fb W w w' := Kq.Keeps.of_below hb (fun k h1 h2 => absurd h2 (Nat.not_lt.2 h1))
theorem Fb.tr {W : Nat → Prop} {a b c : World} (h : Fb W a b) (g : Fb W b c) : Fb W a c := Kq.Keeps.trans h g
theorem Fb.sz {W : Nat → Prop} {w w' : World} (h : Fb W w w') : w.heap.size ≤ w'.heap.size := Kq.Keeps.size h
end Go.Proofs.YtkbiolhcpghmkaaGreat
namespace Go.Proofs.YtkbiolhcpghmkaaGreat
open Go.RowKit
set_option linter.unusedVariables false
/-- two footprints, apart, beside the blocks W -/
structure Two (W : Nat → Prop) (w : World) (O1 O2 : Nat → Prop) : Prop where
  a : ∀ k, O1 k → ¬ W k ∧ k < w.heap.size
  b : ∀ k, O2 k → ¬ W k ∧ k < w.heap.size
  ne : ∀ k, O1 k → ¬ O2 k
section
variable {W : Nat → Prop} {w w' : World} {O1 O2 : Nat → Prop}
theorem Two.stepA (h : Two W w O1 O2) (hW : FrW W w) (hs : w.heap.size ≤ w'.heap.size) : Two W w' (Ext O1 w w') O2 := by
  refine ⟨fun k hk => ?_, fun k hk => ?_, fun k hk h2 => ?_⟩
  · rcases hk with hk | hk
    · have := h.a k hk; exact ⟨this.1, by omega⟩
    · exact ⟨fun hw => (by have := hW k hw; omega), hk.2⟩
  · have := h.b k hk; exact ⟨this.1, by omega⟩
  · rcases hk with hk | hk
    · exact h.ne k hk h2
    · have := h.b k h2; omega
theorem Two.stepB (h : Two W w O1 O2) (hW : FrW W w) (hs : w.heap.size ≤ w'.heap.size) : Two W w' O1 (Ext O2 w w') := by
  refine ⟨fun k hk => ?_, fun k hk => ?_, fun k hk h2 => ?_⟩
  · have := h.a k hk; exact ⟨this.1, by omega⟩
  · rcases hk with hk | hk
    · have := h.b k hk; exact ⟨this.1, by omega⟩
    · exact ⟨fun hw => (by have := hW k hw; omega), hk.2⟩
  · rcases h2 with h2 | h2
    · exact h.ne k hk h2
    · have := h.a k hk; omega
theorem Two.later (h : Two W w O1 O2) (hs : w.heap.size ≤ w'.heap.size) : Two W w' O1 O2 := ⟨fun k hk => ⟨(h.a k hk).1, Nat.lt_of_lt_of_le (h.a k hk).2 hs⟩, fun k hk => ⟨(h.b k hk).1, Nat.lt_of_lt_of_le (h.b k hk).2 hs⟩, h.ne⟩
end
end Go.Proofs.YtkbiolhcpghmkaaGreat
