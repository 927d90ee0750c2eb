/- A map that the program makes, of whatever keys and elements: what it holds, key by key, and how many. No condition. -/
import Derived.WalkSpells
import Derived.Outline
import Derived.Maps.OwnSet
import Derived.Test.YtbjchfcoacmaaaaGreatDoorAppViewQ
namespace Go.Kq
open Go.RowKit Go.Maps Go.MapKept Go.ChangeMaps
set_option linter.unusedVariables false
set_option linter.unusedSectionVars false
structure KeyK (P : Program) (tk : TypeId) (α : Type) where
  K : Keyed P tk
  val : α → Value
  key : α → Lit
  wf : α → Prop
  ok : ∀ a, wf a → keyOf P tk (val a) = some (key a)
  inj : ∀ a b, val a = val b → a = b
structure ElK (P : Program) (te : TypeId) (β : Type) where
  R : Value → Option (DataW Unit × List MemPlace)
  val : β → Value
  data : β → DataW Unit
  wf : β → Prop
  zero : β
  zwf : wf zero
  hz : ∀ w, (zeroValue te).run P w = .ok (val zero) w
  rd : ∀ b, wf b → R (val b) = some (data b, [])
  inv : ∀ v z, R v = some z → ∃ b, v = val b ∧ z.1 = data b
  inj : ∀ a b, data a = data b → a = b
section
variable {P : Program} {tk te : TypeId} {α β : Type} {kk : KeyK P tk α} {ek : ElK P te β}
structure MapG (kk : KeyK P tk α) (ek : ElK P te β) (w : World) (M N : Nat) (f : α → Option β) (sz : Nat) : Prop where
  ex : ∃ n, ∃ D : DataW Unit, n ≤ N ∧ w.ownsMap P tk ek.R M n D ∧ Maps.size D = sz ∧ ∀ a, kk.wf a → Maps.has D (kk.key a) = (f a).isSome ∧ D.atKey (kk.key a) (ek.data ek.zero) = ek.data ((f a).getD ek.zero)
variable {w w' : World} {M N sz : Nat} {f : α → Option β}
theorem MapG.made (kk : KeyK P tk α) (ek : ElK P te β) (w : World) : MapG kk ek (w.alloc (.map #[] 0)) w.heap.size 0 (fun _ => none) 0 := ⟨0, .map [], Nat.le_refl _, World.ownsMap_made _ _ _ _, rfl, fun k _ => ⟨rfl, rfl⟩⟩
theorem MapG.lt (h : MapG kk ek w M N f sz) : M < w.heap.size := by
  obtain ⟨n, D, _, h, _⟩ := h.ex
  exact h.lt
theorem MapG.keeps {S : Nat → Prop} (h : MapG kk ek w M N f sz) (hk : Kq.Keeps S w w') (hS : ¬ S M) : MapG kk ek w' M N f sz := by
  obtain ⟨n, D, hn, ⟨es, clock, hb, r⟩, hD⟩ := h.ex
  exact ⟨n, D, hn, ⟨es, clock, hk.blk hb hS, r⟩, hD⟩
theorem MapG.below (h : MapG kk ek w M N f sz) (hb : Below w.heap.size w w') : MapG kk ek w' M N f sz :=
  h.keeps (S := fun _ => False) (Kq.Keeps.of_below hb (fun j h1 h2 => absurd h1 (Nat.not_le.2 h2))) id
theorem MapG.up {N' : Nat} (h : MapG kk ek w M N f sz) (hN : N ≤ N') : MapG kk ek w M N' f sz := by
  obtain ⟨n, D, hn, r⟩ := h.ex
  exact ⟨n, D, Nat.le_trans hn hN, r⟩
theorem MapG.look {t : TypeId} (h : MapG kk ek w M N f sz) (ht : P.underlying t = some (.map tk te)) (a : α) (hw : kk.wf a) :
    (Instr.lookup t (.map (some M)) (kk.val a) true).run P w = .ok (.tuple #[ek.val ((f a).getD ek.zero), .bool (f a).isSome]) w := by
  obtain ⟨n, D, hn, hown, _, hD⟩ := h.ex
  obtain ⟨v, ps, hrun, hv⟩ := hown.look_ok kk.K ht (ek.hz w) (ek.rd _ ek.zwf) (kk.ok a hw)
  obtain ⟨b, rfl, hb⟩ := ek.inv _ _ hv
  obtain ⟨h1, h2⟩ := hD a hw
  rw [hrun, h1, ek.inj _ _ (hb.symm.trans h2)]
theorem MapG.get {t : TypeId} (h : MapG kk ek w M N f sz) (ht : P.underlying t = some (.map tk te)) (a : α) (hw : kk.wf a) :
    (Instr.lookup t (.map (some M)) (kk.val a) false).run P w = .ok (ek.val ((f a).getD ek.zero)) w := by
  obtain ⟨n, D, hn, hown, _, hD⟩ := h.ex
  obtain ⟨v, ps, hrun, hv⟩ := hown.lookup kk.K ht (ek.hz w) (ek.rd _ ek.zwf) (kk.ok a hw)
  obtain ⟨b, rfl, hb⟩ := ek.inv _ _ hv
  obtain ⟨h1, h2⟩ := hD a hw
  rw [hrun, ek.inj _ _ (hb.symm.trans h2)]
theorem MapG.len {t : TypeId} (h : MapG kk ek w M N f sz) (ht : P.underlying t = some (.map tk te)) (ty : TypeId) : (Builtin.len_ #[t] ty #[.map (some M)]).run P w = .ok (.int .i64 (sz : Int)) w := by
  obtain ⟨n, D, hn, hown, hs, hD⟩ := h.ex
  have := hown.len ht ty
  rw [hs] at this
  exact this
section
variable [DecidableEq α]
def updG (f : α → Option β) (k : α) (v : β) : α → Option β := fun j => if j = k then some v else f j
def delG (f : α → Option β) (k : α) : α → Option β := fun j => if j = k then none else f j
theorem KeyK.key_ne (kk : KeyK P tk α) {a b : α} (ha : kk.wf a) (hb : kk.wf b) (hne : a ≠ b) : kk.key a ≠ kk.key b := fun e => by
  have h1 := kk.ok a ha
  have h2 := kk.ok b hb
  rw [← e] at h2
  exact hne (kk.inj a b (kk.K.inj h1 h2))
theorem MapG.put {t : TypeId} (h : MapG kk ek w M N f sz) (hN : N < 1000000000) (ht : P.underlying t = some (.map tk te)) (k : α) (hw : kk.wf k) (v : β) (hv : ek.wf v) :
    ∃ w', (Instr.mapUpdate t (.map (some M)) (kk.val k) (ek.val v)).run P w = .ok () w' ∧ MapG kk ek w' M (N + 1) (updG f k v) (if (f k).isSome then sz else sz + 1) ∧ Kq.Keeps (· = M) w w' := by
  obtain ⟨n, D, hn, hown, hsz, hD⟩ := h.ex
  obtain ⟨w', hrun, hown', hgr⟩ := hown.update kk.K ht (by unfold maxLen; omega) (kk.ok k hw) (ek.rd v hv)
  refine ⟨w', hrun, ⟨n + 1, _, Nat.succ_le_succ hn, hown', ?_, fun j hj => ?_⟩, Kq.Keeps.grown hgr (fun j _ hj => by cases hj; rfl)⟩
  · rw [size_put (hown.tidy kk.K), (hD k hw).1, hsz]
  · unfold updG
    by_cases hjk : j = k
    · subst hjk
      rw [if_pos rfl, has_put_same hown.isMap (kk.K.key (kk.ok j hj)), atKey_put_same hown.isMap (kk.K.key (kk.ok j hj))]
      exact ⟨rfl, rfl⟩
    · rw [if_neg hjk, has_put_other (kk.key_ne hj hw hjk), atKey_put_other (kk.key_ne hj hw hjk)]
      exact hD j hj
theorem MapG.del {t : TypeId} (h : MapG kk ek w M N f sz) (ht : P.underlying t = some (.map tk te)) (k : α) (hw : kk.wf k) (ty : TypeId) :
    ∃ w', (Builtin.delete_ #[t, tk] ty #[.map (some M), kk.val k]).run P w = .ok (.tuple #[]) w' ∧ MapG kk ek w' M N (delG f k) (if (f k).isSome then sz - 1 else sz) ∧ Kq.Keeps (· = M) w w' := by
  obtain ⟨n, D, hn, hown, hsz, hD⟩ := h.ex
  obtain ⟨w', hrun, hown', hturn⟩ := hown.drop kk.K ht (kk.ok k hw) ty
  refine ⟨w', hrun, ⟨n, _, hn, hown', ?_, fun j hj => ?_⟩, ?_⟩
  · have hs := size_del (k := kk.key k) (hown.tidy kk.K)
    rw [(hD k hw).1, hsz] at hs
    cases hf : (f k).isSome <;> simp [hf] at hs ⊢ <;> omega
  · unfold delG
    by_cases hjk : j = k
    · subst hjk
      rw [if_pos rfl, has_del_same, atKey_del_same]
      exact ⟨rfl, rfl⟩
    · rw [if_neg hjk, has_del_other (kk.key_ne hj hw hjk), atKey_del_other (kk.key_ne hj hw hjk)]
      exact hD j hj
  · obtain ⟨es, clock, es', clock', hb, rfl⟩ := hturn
    exact ⟨rfl, rfl, rfl, by simp [setBlock], fun i _ hi => heap_setBlock_other hb _ hi⟩
end
end
end Go.Kq
