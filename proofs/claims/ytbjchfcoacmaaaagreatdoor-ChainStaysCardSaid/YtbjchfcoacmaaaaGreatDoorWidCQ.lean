/- Merged: Foot, WidC. Footprints: what blocks a call may change, what it makes. No condition. More blocks are watched. No condition. -/
import Derived.WalkSpells
import Derived.Outline
import Derived.Test.YtbjchfcoacmaaaaGreatDoorObjQ
import Derived.Test.YtbjchfcoacmaaaaGreatDoorCommonQ
namespace Go.Proofs.YtbjchfcoacmaaaaGreatDoor
open Go.RowKit
set_option linter.unusedVariables false
theorem own_geF {w : World} {base size : Nat} {e : TypeId} {v : Value} {n : Nat} {xs : List Value} (h : w.ownsRow base e size v n xs) {k : Nat} (hk : v.ownBlock = some k) : base ≤ k := by
  rcases h.2 with ⟨e, _⟩ | ⟨g, cap, cur, e, h1, _⟩
  · rw [e] at hk; cases hk
  · rw [e] at hk
    have q1 : g = k := Option.some.inj hk
    rw [← q1]; exact h1
theorem below_past {W : Nat} {a b d : World} {T : Nat → Prop} (h : Below W a b) (hk : Kq.Keeps T b d) (hW : W ≤ a.heap.size) (hT : ∀ k, k < b.heap.size → T k → W ≤ k) : Below W a d :=
  h.trans (hk.below (Nat.le_trans hW h.size) hT)
theorem keeps_past {S T : Nat → Prop} {a b d : World} (h : Kq.Keeps S a b) (hk : Kq.Keeps T b d) (hT : ∀ k, T k → a.heap.size ≤ k) : Kq.Keeps S a d :=
  ⟨hk.os.trans h.os, hk.tape.trans h.tape, hk.output.trans h.output, Nat.le_trans h.size hk.size, fun k hk1 hn => by
    rw [hk.block k (Nat.lt_of_lt_of_le hk1 h.size) (fun ht => by have := hT k ht; omega), h.block k hk1 hn]⟩
theorem own_keepsS {w w' : World} {base size : Nat} {e : TypeId} {v : Value} {n : Nat} {xs : List Value} {S : Nat → Prop} (h : w.ownsRow base e size v n xs) (hk : Kq.Keeps S w w') (hS : ∀ k, S k → v.ownBlock ≠ some k) : w'.ownsRow base e size v n xs := by
  refine ⟨h.1, ?_⟩
  rcases h.2 with h2 | ⟨g, cap, cur, rfl, h1, h2, h3⟩
  · exact Or.inl h2
  · exact Or.inr ⟨g, cap, cur, rfl, h1, hk.blk h2 (fun hs => hS g hs rfl), h3⟩
/-- what was there, and what was made since -/
def Ext (O : Nat → Prop) (w w' : World) : Nat → Prop := fun k => O k ∨ (w.heap.size ≤ k ∧ k < w'.heap.size)
/-- rows of unlike elements lie in unlike blocks -/
theorem own_ne {w : World} {b1 b2 s1 s2 n1 n2 : Nat} {e1 e2 : TypeId} {v1 v2 : Value} {xs1 xs2 : List Value} (h1 : w.ownsRow b1 e1 s1 v1 n1 xs1) (h2 : w.ownsRow b2 e2 s2 v2 n2 xs2) (hne : e1 ≠ e2) (k : Nat) (hk : v1.ownBlock = some k) : v2.ownBlock ≠ some k := fun hk2 => by
  rcases h1.2 with ⟨e, _⟩ | ⟨g, c, cur, e, _, hb, _⟩
  · rw [e] at hk; cases hk
  · rcases h2.2 with ⟨e', _⟩ | ⟨g', c', cur', e', _, hb', _⟩
    · rw [e'] at hk2; cases hk2
    · rw [e] at hk
      rw [e'] at hk2
      have q1 : g = k := Option.some.inj hk
      have q2 : g' = k := Option.some.inj hk2
      rw [q1] at hb
      rw [q2, hb] at hb'
      injection hb' with hb'
      injection hb' with h3 h4
      exact hne h4
theorem own_ltK {w : World} {b1 s1 n1 : Nat} {e1 : TypeId} {v1 : Value} {xs1 : List Value} (h1 : w.ownsRow b1 e1 s1 v1 n1 xs1) {k : Nat} (hk : v1.ownBlock = some k) : k < w.heap.size := by
  rcases h1.2 with ⟨e, _⟩ | ⟨g, c, cur, e, _, hb, _⟩
  · rw [e] at hk; cases hk
  · rw [e] at hk
    have q1 : g = k := Option.some.inj hk
    rw [← q1]; exact Kq.blk_lt hb
/-- the blocks W are there -/
def FrW (W : Nat → Prop) (w : World) : Prop := ∀ k, W k → k < w.heap.size
theorem FrW.later {W : Nat → Prop} {w w' : World} (h : FrW W w) (hs : w.heap.size ≤ w'.heap.size) : FrW W w' := fun k hk => Nat.lt_of_lt_of_le (h k hk) hs
/-- the blocks W stay as they are -/
def Fb (W : Nat → Prop) (w w' : World) : Prop := Kq.Keeps (fun k => ¬ W k) w w'
theorem Fb.of {W : Nat → Prop} {w w' : World} (hb : Below w.heap.size w w') (h : FrW W w) : Fb W w w' := Kq.Keeps.of_below hb (fun k h1 h2 => absurd h2 (Nat.not_lt.2 h1))
theorem Fb.sz {W : Nat → Prop} {w w' : World} (h : Fb W w w') : w.heap.size ≤ w'.heap.size := Kq.Keeps.size h
end Go.Proofs.YtbjchfcoacmaaaaGreatDoor
namespace Go.Proofs.YtbjchfcoacmaaaaGreatDoor
open Go.RowKit
set_option linter.unusedVariables false
/-- more blocks are watched -/
def Wid (V : Nat → Prop) (w w' : World) : Nat → Prop := fun k => V k ∨ (w.heap.size ≤ k ∧ k < w'.heap.size)
theorem wid_frw {V : Nat → Prop} {w w' : World} (h : FrW V w) (hs : w.heap.size ≤ w'.heap.size) : FrW (Wid V w w') w' := fun k hk => by
  rcases hk with hk | hk
  · exact h.later hs k hk
  · exact hk.2
end Go.Proofs.YtbjchfcoacmaaaaGreatDoor
