/- carracklaw10.PacketBack walked. Condition: the constants lie where they lie. -/
import Derived.Test.YtclepgpaifaneaaDoorPkBackG
import Derived.Test.YtclepgpaifaneaaDoorPkBackD0
import Derived.Test.YtclepgpaifaneaaDoorPkBackD1
import Derived.Test.YtclepgpaifaneaaDoorPkBackD2
import Derived.Test.YtclepgpaifaneaaDoorPkBackD3
namespace Go.Proofs.YtclepgpaifaneaaDoor.packetBack
open Go.RowKit
set_option linter.unusedVariables false
theorem packetBack_walk (v v' : Value) (a b : ByteArray) (hd : ∃ x : PkV, v = x.val ∧ PkFits x) (hd' : ∃ x : PkV, v' = x.val ∧ PkFits x) (ha : a.size ≤ maxLen) (hb : b.size ≤ maxLen) (W : World) (hL : LaidOk W) :
    Calls Tryd.prog 3 #[v, v', .string a, .string b] W fun x w' => x = .returned (.bool true) ∧ Below W.heap.size W w' := by
  obtain ⟨⟨f, q, t, d⟩, rfl, hf⟩ := hd
  obtain ⟨⟨f2, q2, t2, d2⟩, rfl, hf2⟩ := hd'
  by_cases h0 : 300 < d.size
  · exact early0 f q t f2 q2 t2 d d2 a b W h0
  by_cases h1 : 300 < d2.size
  · exact early1 f q t f2 q2 t2 d d2 a b W h0 h1
  by_cases h2 : 300 < a.size
  · exact early2 f q t f2 q2 t2 d d2 a b W h0 h1 h2
  by_cases h3 : 300 < b.size
  · exact early3 f q t f2 q2 t2 d d2 a b W h0 h1 h2 h3
  have pq : 0 ≤ q ∧ q < 18446744073709551616 := hf.q
  have pt : 0 ≤ t ∧ t < 18446744073709551616 := hf.t
  have pq2 : 0 ≤ q2 ∧ q2 < 18446744073709551616 := hf2.q
  have pt2 : 0 ≤ t2 ∧ t2 < 18446744073709551616 := hf2.t
  by_cases hp : PkOk ⟨f, q, t, d⟩
  · by_cases hq : PkOk ⟨f2, q2, t2, d2⟩
    · by_cases he : (⟨f, q, t, d⟩ : PkV) = ⟨f2, q2, t2, d2⟩
      · injection he with e1 e2 e3 e4
        subst e1 e2 e3 e4
        exact same f q t d a b W hL h0 h1 h2 h3 hp pq pt hq pq2 pt2
      · have hne : comT ⟨f, q, t, d⟩ ≠ comT ⟨f2, q2, t2, d2⟩ := fun e => he (comT_inj hp hq pq pt pq2 pt2 e)
        have hx : ¬ f = f2 ∨ (f = f2 ∧ ¬ q = q2) ∨ (f = f2 ∧ q = q2 ∧ ¬ t = t2) ∨ (f = f2 ∧ q = q2 ∧ t = t2 ∧ ¬ d.toList = d2.toList) := by
          by_cases e1 : f = f2
          · by_cases e2 : q = q2
            · by_cases e3 : t = t2
              · refine Or.inr (Or.inr (Or.inr ⟨e1, e2, e3, fun e4 => he ?_⟩))
                have e5 : d = d2 := by rw [Lib.toList_data, Lib.toList_data] at e4; exact ByteArray.ext (Array.toList_inj.1 e4)
                rw [e1, e2, e3, e5]
              · exact Or.inr (Or.inr (Or.inl ⟨e1, e2, e3⟩))
            · exact Or.inr (Or.inl ⟨e1, e2⟩)
          · exact Or.inl e1
        by_cases k1 : dgT (comT ⟨f, q, t, d⟩) = dgT (comT ⟨f2, q2, t2, d2⟩)
        · exact diff1 f q t f2 q2 t2 d d2 a b W hL h0 h1 h2 h3 hp pq pt hq pq2 pt2 hx hne k1
        by_cases k2 : dgT (ansT ⟨f, q, t, d⟩) = dgT (ansT ⟨f2, q2, t2, d2⟩)
        · exact diff2 f q t f2 q2 t2 d d2 a b W hL h0 h1 h2 h3 hp pq pt hq pq2 pt2 hx hne k1 k2
        by_cases k3 : dgT (comT ⟨f, q, t, d⟩) = dgT (ansT ⟨f2, q2, t2, d2⟩)
        · exact diff3 f q t f2 q2 t2 d d2 a b W hL h0 h1 h2 h3 hp pq pt hq pq2 pt2 hx hne k1 k2 k3
        · exact diff0 f q t f2 q2 t2 d d2 a b W hL h0 h1 h2 h3 hp pq pt hq pq2 pt2 hx hne k1 k2 k3
    · exact bad3 f q t f2 q2 t2 d d2 a b W h0 h1 h2 h3 hp pq pt hq
  · by_cases hq : PkOk ⟨f2, q2, t2, d2⟩
    · exact bad1 f q t f2 q2 t2 d d2 a b W h0 h1 h2 h3 hp hq pq2 pt2
    · exact bad2 f q t f2 q2 t2 d d2 a b W h0 h1 h2 h3 hp hq
end Go.Proofs.YtclepgpaifaneaaDoor.packetBack
