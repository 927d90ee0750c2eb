/- Small laws that several layers' texts share. No condition. -/
import Derived.Deep.QuietTactic
import Derived.Test.YtjilbcefikbihaaObjQ
namespace Go.Proofs.Ytjilbcefikbihaa
open Go.RowKit
theorem own_ge {w : World} {base size : Nat} {e : TypeId} {v : Value} {n : Nat} {xs : List Value} (h : w.ownsRow base e size v n xs) {k : Nat} (hk : v.ownBlock = some k) : base ≤ k := by
  rcases h.2 with ⟨rfl, _⟩ | ⟨g, cap, cur, rfl, h3, _⟩
  · cases hk
  · have : g = k := by simpa [Value.ownBlock] using hk
    omega
theorem below_drewN {B : Nat} {a w : World} (h : Below B a w) (n : Nat) : Below B a (w.drewN n) := ⟨h.os, h.tape, h.output, h.size, h.block⟩
/-- texts in memory -/
structure StrsAt (w : World) (A : Option Addr) (l : List ByteArray) : Prop where
  at_ : ∀ j (h : j < l.length), ∃ g o, A = some ⟨g, o, none⟩ ∧ g < w.heap.size ∧ w.cell? ⟨g, o + j, none⟩ = some (.string l[j])
theorem StrsAt.below {w w' : World} {A : Option Addr} {l : List ByteArray} (h : StrsAt w A l) (hb : Below w.heap.size w w') : StrsAt w' A l :=
  ⟨fun j hj => by
    obtain ⟨g, o, hA, hg, h1⟩ := h.at_ j hj
    exact ⟨g, o, hA, Nat.lt_of_lt_of_le hg hb.size, (hb.cell (p := ⟨g, o + j, none⟩) hg).trans h1⟩⟩
end Go.Proofs.Ytjilbcefikbihaa
