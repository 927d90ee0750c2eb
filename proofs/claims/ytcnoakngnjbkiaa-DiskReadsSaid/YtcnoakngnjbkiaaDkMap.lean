/- A map of texts, keyed by int, that the call makes: what it holds, key by key; what a disk tells of what was written last. No condition. -/
import Derived.WalkSpells
import Derived.Outline
import Derived.Maps.OwnSet
import Derived.Maps.StringElems
import Derived.Test.YtcnoakngnjbkiaaDkTwo
namespace Go.Proofs.Ytcnoakngnjbkiaa
open Go.RowKit Go.Maps
set_option linter.unusedVariables false
theorem lawI : Keyed Try.prog 3 := int_keyed Try.underlying3
theorem zeroS (w : World) : (zeroValue 9).run Try.prog w = .ok (.string ⟨#[]⟩) w := by kernel_rfl
structure MapS (w : World) (M N : Nat) (f : Int → Option ByteArray) : Prop where
  ex : ∃ n, ∃ D : DataW Unit, n ≤ N ∧ w.ownsMap Try.prog 3 (plainElem Try.prog 9) M n D ∧ ∀ k : Int, Maps.has D (.int .i64 k) = (f k).isSome ∧ D.atKey (.int .i64 k) (.lit (.string [])) = .lit (.string ((f k).getD ⟨#[]⟩).data.toList)
theorem MapS.made (w : World) : MapS (w.alloc (.map #[] 0)) w.heap.size 0 (fun _ => none) := ⟨0, .map [], Nat.le_refl _, World.ownsMap_made _ _ _ _, fun k => ⟨rfl, rfl⟩⟩
theorem MapS.lt {w : World} {M N : Nat} {f : Int → Option ByteArray} (h : MapS w M N f) : M < w.heap.size := by
  obtain ⟨n, D, _, h, _⟩ := h.ex
  exact h.lt
theorem MapS.keeps {P : Nat → Prop} {w w' : World} {M N : Nat} {f : Int → Option ByteArray} (h : MapS w M N f) (hk : Kq.Keeps P w w') (hP : ¬ P M) : MapS w' M N f := by
  obtain ⟨n, D, hn, ⟨es, clock, hb, r⟩, hD⟩ := h.ex
  exact ⟨n, D, hn, ⟨es, clock, hk.blk hb hP, r⟩, hD⟩
theorem MapS.below {w w' : World} {M N : Nat} {f : Int → Option ByteArray} (h : MapS w M N f) (hb : Below w.heap.size w w') : MapS w' M N f :=
  h.keeps (P := fun _ => False) (Kq.Keeps.of_below hb (fun j h1 h2 => absurd h1 (Nat.not_le.2 h2))) id
theorem MapS.up {w : World} {M N N' : Nat} {f : Int → Option ByteArray} (h : MapS w M N f) (hN : N ≤ N') : MapS w M N' f := by
  obtain ⟨n, D, hn, r⟩ := h.ex
  exact ⟨n, D, Nat.le_trans hn hN, r⟩
theorem MapS.look {w : World} {M N : Nat} {f : Int → Option ByteArray} (h : MapS w M N f) (k : Int) (hw : (Lit.int .i64 k).wf = true) :
    (Instr.lookup 62 (.map (some M)) (.int .i64 k) true).run Try.prog w = .ok (.tuple #[.string ((f k).getD ⟨#[]⟩), .bool (f k).isSome]) w := by
  obtain ⟨n, D, hn, hown, hD⟩ := h.ex
  obtain ⟨v, ps, hrun, hv⟩ := hown.look_ok lawI Try.underlying62 (zeroS w) (plainElem_string Try.underlying9 (s := ⟨#[]⟩) (by decide)) (keyOf_int_mk Try.underlying3 hw)
  obtain ⟨s, rfl, hz, _⟩ := plainElem_string_inv Try.underlying9 hv
  obtain ⟨h1, h2⟩ := hD k
  rw [hrun, h1]
  have h3 : D.atKey (.int .i64 k) (.lit (.string [])) = .lit (.string s.data.toList) := (Prod.mk.inj hz).1
  rw [h2] at h3
  injection h3 with h3
  injection h3 with h3
  have : (f k).getD ⟨#[]⟩ = s := ByteArray.ext (Array.toList_inj.1 h3)
  rw [this]
def updF (f : Int → Option ByteArray) (k : Int) (s : ByteArray) : Int → Option ByteArray := fun j => if j = k then some s else f j
theorem MapS.put {w1 : World} {M N n : Nat} {f : Int → Option ByteArray} {D : DataW Unit} (hn : n ≤ N) (hI : IsMap D) (hD : ∀ k : Int, Maps.has D (.int .i64 k) = (f k).isSome ∧ D.atKey (.int .i64 k) (.lit (.string [])) = .lit (.string ((f k).getD ⟨#[]⟩).data.toList))
    (k : Int) (s : ByteArray) (hown : w1.ownsMap Try.prog 3 (plainElem Try.prog 9) M (n + 1) (D.put (.int .i64 k) (.lit (.string s.data.toList)))) : MapS w1 M (N + 1) (updF f k s) := by
  refine ⟨n + 1, _, Nat.succ_le_succ hn, hown, fun j => ?_⟩
  unfold updF
  by_cases hj : j = k
  · subst hj
    rw [if_pos rfl, has_put_same hI (k := .int .i64 j) trivial, atKey_put_same hI (k := .int .i64 j) trivial]
    exact ⟨rfl, rfl⟩
  · have hne : (Lit.int .i64 j) ≠ (Lit.int .i64 k) := fun e => hj (by injection e)
    rw [if_neg hj, has_put_other hne, atKey_put_other hne]
    exact hD j
/-- what a disk tells is what was written last -/
def Says (a b : Nat) (f : Int → Option ByteArray) (ws : List (Int × ByteArray)) (st : List Nat) : Prop := ∀ n : Nat, n < b → readB a ws st (n : Int) = (f (n : Int)).getD (txt (List.replicate a 0))
theorem says_made (a b : Nat) : Says a b (fun _ => none) [] (List.replicate (a * b) 0) := by
  intro n hn
  show txt (sec a (n : Int).toNat _) = _
  rw [Int.toNat_natCast]
  unfold sec
  have := fit_mul (a := a) hn
  rw [List.drop_replicate, List.take_replicate, Nat.min_eq_left (by omega)]
  rfl
theorem lastW_end (k j : Int) (s : ByteArray) (l : List (Int × ByteArray)) : lastW k (l ++ [(j, s)]) = if j = k then some s else lastW k l := by
  induction l with
  | nil => rw [List.nil_append, lastW_cons]; split <;> simp_all [lastW]
  | cons p l ih =>
    obtain ⟨i, t⟩ := p
    rw [List.cons_append, lastW_cons, ih, lastW_cons]
    by_cases h : j = k
    · rw [if_pos h, if_pos h]
    · rw [if_neg h, if_neg h]
/-- what the map holds behind an act -/
def fF (a b : Nat) (c : ActV) (ws : List (Int × ByteArray)) (armed : Nat) (st : List Nat) (f : Int → Option ByteArray) : Int → Option ByteArray :=
  if c.kind = 0 ∧ (doF a b c ws armed st).2.2.2 = 0 then updF f c.n (actText c.s c.long) else f
theorem says_do {a b N : Nat} {c : ActV} {ws : List (Int × ByteArray)} {armed : Nat} {st : List Nat} {f : Int → Option ByteArray} (h : Says a b f ws st) (ho : StOk a b N ws armed st) (hk : c.kind = 0 ∨ c.kind = 1 ∨ c.kind = 2) :
    Says a b (fF a b c ws armed st f) (doF a b c ws armed st).1 (doF a b c ws armed st).2.2.1 := by
  rcases hk with hk | hk | hk
  · have e : doF a b c ws armed st = ((wrF a b c.n (actText c.s c.long) ws armed).1, (wrF a b c.n (actText c.s c.long) ws armed).2.1, st, (wrF a b c.n (actText c.s c.long) ws armed).2.2) := by unfold doF; rw [if_pos hk]
    unfold fF
    rw [e]
    unfold wrF
    by_cases h1 : 0 ≤ c.n ∧ c.n < (b : Int) ∧ (actText c.s c.long).size = a
    · rw [if_pos h1]
      by_cases h2 : armed = 1
      · rw [if_pos h2]
        simpa [hk] using h
      · rw [if_neg h2]
        simp only [hk, true_and, if_true]
        intro n hn
        unfold updF readB
        rw [lastW_end]
        by_cases h3 : c.n = (n : Int)
        · rw [if_pos h3, if_pos h3.symm]; rfl
        · rw [if_neg h3, if_neg (fun e => h3 e.symm)]; exact h n hn
    · rw [if_neg h1]
      simpa [hk] using h
  · have e : doF a b c ws armed st = (if armed = 1 then (ws, 0, st, (13 : Int)) else ([], armed - 1, flushB a ws st, 0)) := by unfold doF; rw [if_neg (by omega), if_pos hk]
    unfold fF
    rw [if_neg (by omega), e]
    by_cases h2 : armed = 1
    · rw [if_pos h2]; exact h
    · rw [if_neg h2]
      intro n hn
      rw [← h n hn]
      exact read_flush a b ws st ho.w ho.len ho.lt n hn
  · have e : doF a b c ws armed st = (ws, c.n.toNat, st, 0) := by unfold doF; rw [if_neg (by omega), if_neg (by omega), if_pos hk]
    unfold fF
    rw [if_neg (by omega), e]
    exact h
end Go.Proofs.Ytcnoakngnjbkiaa
