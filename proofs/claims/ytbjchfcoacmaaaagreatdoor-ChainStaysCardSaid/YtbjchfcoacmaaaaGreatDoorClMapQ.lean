/- A map of texts, keyed by uint64, that the program makes: what it holds, key by key, and how many keys. No condition. -/
import Derived.WalkSpells
import Derived.Outline
import Derived.Maps.OwnSet
import Derived.Maps.StringElems
import Derived.Test.YtbjchfcoacmaaaaGreatDoorAppViewQ
import Derived.Test.YtbjchfcoacmaaaaGreatDoorChecked
namespace Go.Proofs.YtbjchfcoacmaaaaGreatDoor
open Go.RowKit Go.Maps
set_option linter.unusedVariables false
theorem lawU : Keyed Tryz.prog 22 := int_keyed Tryz.underlying22
theorem zeroStr (w : World) : (zeroValue 9).run Tryz.prog w = .ok (.string ⟨#[]⟩) w := by kernel_rfl
structure MapT (w : World) (M N : Nat) (f : Int → Option ByteArray) (sz : Nat) : Prop where
  ex : ∃ n, ∃ D : DataW Unit, n ≤ N ∧ w.ownsMap Tryz.prog 22 (plainElem Tryz.prog 9) M n D ∧ Maps.size D = sz ∧ ∀ k : Int, Maps.has D (.int .u64 k) = (f k).isSome ∧ D.atKey (.int .u64 k) (.lit (.string [])) = .lit (.string ((f k).getD ⟨#[]⟩).data.toList)
theorem MapT.made (w : World) : MapT (w.alloc (.map #[] 0)) w.heap.size 0 (fun _ => none) 0 := ⟨0, .map [], Nat.le_refl _, World.ownsMap_made _ _ _ _, rfl, fun k => ⟨rfl, rfl⟩⟩
theorem MapT.lt {w : World} {M N sz : Nat} {f : Int → Option ByteArray} (h : MapT w M N f sz) : M < w.heap.size := by
  obtain ⟨n, D, _, h, _⟩ := h.ex
  exact h.lt
theorem MapT.keeps {P : Nat → Prop} {w w' : World} {M N sz : Nat} {f : Int → Option ByteArray} (h : MapT w M N f sz) (hk : Kq.Keeps P w w') (hP : ¬ P M) : MapT w' M N f sz := by
  obtain ⟨n, D, hn, ⟨es, clock, hb, r⟩, hD⟩ := h.ex
  exact ⟨n, D, hn, ⟨es, clock, hk.blk hb hP, r⟩, hD⟩
theorem MapT.below {w w' : World} {M N sz : Nat} {f : Int → Option ByteArray} (h : MapT w M N f sz) (hb : Below w.heap.size w w') : MapT w' M N f sz :=
  h.keeps (P := fun _ => False) (Kq.Keeps.of_below hb (fun j h1 h2 => absurd h1 (Nat.not_le.2 h2))) id
theorem MapT.up {w : World} {M N N' sz : Nat} {f : Int → Option ByteArray} (h : MapT w M N f sz) (hN : N ≤ N') : MapT w M N' f sz := by
  obtain ⟨n, D, hn, r⟩ := h.ex
  exact ⟨n, D, Nat.le_trans hn hN, r⟩
set_option maxRecDepth 100000 in
theorem MapT.look {w : World} {M N sz : Nat} {f : Int → Option ByteArray} (h : MapT w M N f sz) (k : Int) (hw : (Lit.int .u64 k).wf = true) :
    (Instr.lookup 129 (.map (some M)) (.int .u64 k) true).run Tryz.prog w = .ok (.tuple #[.string ((f k).getD ⟨#[]⟩), .bool (f k).isSome]) w := by
  obtain ⟨n, D, hn, hown, _, hD⟩ := h.ex
  obtain ⟨v, ps, hrun, hv⟩ := hown.look_ok lawU Tryz.underlying129 (zeroStr w) (plainElem_string Tryz.underlying9 (s := ⟨#[]⟩) (by decide)) (keyOf_int_mk Tryz.underlying22 hw)
  obtain ⟨s, rfl, hz, _⟩ := plainElem_string_inv Tryz.underlying9 hv
  obtain ⟨h1, h2⟩ := hD k
  rw [hrun, h1]
  have h3 : D.atKey (.int .u64 k) (.lit (.string [])) = .lit (.string s.data.toList) := (Prod.mk.inj hz).1
  rw [h2] at h3
  injection h3 with h3
  injection h3 with h3
  have : (f k).getD ⟨#[]⟩ = s := ByteArray.ext (Array.toList_inj.1 h3)
  rw [this]
theorem MapT.len {w : World} {M N sz : Nat} {f : Int → Option ByteArray} (h : MapT w M N f sz) (ty : TypeId) : (Builtin.len_ #[129] ty #[.map (some M)]).run Tryz.prog w = .ok (.int .i64 (sz : Int)) w := by
  obtain ⟨n, D, hn, hown, hs, hD⟩ := h.ex
  have := hown.len Tryz.underlying129 ty
  rw [hs] at this
  exact this
def updT (f : Int → Option ByteArray) (k : Int) (s : ByteArray) : Int → Option ByteArray := fun j => if j = k then some s else f j
theorem MapT.put {w : World} {M N sz : Nat} {f : Int → Option ByteArray} (h : MapT w M N f sz) (hN : N < 1000000) (k : Int) (hw : (Lit.int .u64 k).wf = true) (s : ByteArray) (hs : s.size ≤ maxLen) :
    ∃ w', (Instr.mapUpdate 129 (.map (some M)) (.int .u64 k) (.string s)).run Tryz.prog w = .ok () w' ∧ MapT w' M (N + 1) (updT f k s) (if (f k).isSome then sz else sz + 1) ∧ Kq.Keeps (· = M) w w' := by
  obtain ⟨n, D, hn, hown, hsz, hD⟩ := h.ex
  obtain ⟨w', hrun, hown', hgr⟩ := hown.update lawU Tryz.underlying129 (by unfold maxLen; omega) (keyOf_int_mk Tryz.underlying22 hw) (plainElem_string Tryz.underlying9 hs)
  refine ⟨w', hrun, ⟨n + 1, _, Nat.succ_le_succ hn, hown', ?_, fun j => ?_⟩, Kq.Keeps.grown hgr (fun j _ hj => by cases hj; rfl)⟩
  · rw [size_put (hown.tidy lawU), (hD k).1, hsz]
  · unfold updT
    by_cases hj : j = k
    · subst hj
      rw [if_pos rfl, has_put_same hown.isMap (k := .int .u64 j) trivial, atKey_put_same hown.isMap (k := .int .u64 j) trivial]
      exact ⟨rfl, rfl⟩
    · have hne : (Lit.int .u64 j) ≠ (Lit.int .u64 k) := fun e => hj (by injection e)
      rw [if_neg hj, has_put_other hne, atKey_put_other hne]
      exact hD j
end Go.Proofs.YtbjchfcoacmaaaaGreatDoor
