/- A law's own set of heights; what a client knows of heights that were told once each. No condition. -/
import Derived.WalkSpells
import Derived.Outline
import Derived.Test.YtdonoilcegaleaaClKp
namespace Go.Proofs.Ytdonoilcegaleaa
open Go.RowKit Go.Cl Go.Maps
set_option linter.unusedVariables false
theorem zeroBool (w : World) : (zeroValue 4).run Try.prog w = .ok (.bool false) w := by kernel_rfl
theorem boolElem_inv {H : Type} {v : Value} {z : DataW H × List MemPlace} (h : plainElem (H := H) Try.prog 4 v = some z) : ∃ x, v = .bool x ∧ z = (.lit (.bool x), []) := by
  unfold plainElem at h
  rw [Try.underlying4] at h
  cases v <;> simp at h
  rename_i x
  exact ⟨x, rfl, h.symm⟩
structure MapB (w : World) (M N : Nat) (g : Int → Bool) : Prop where
  ex : ∃ n, ∃ D : DataW Unit, n ≤ N ∧ w.ownsMap Try.prog 23 (plainElem Try.prog 4) M n D ∧ ∀ k : Int, D.atKey (.int .u64 k) (.lit (.bool false)) = .lit (.bool (g k))
theorem MapB.made (w : World) : MapB (w.alloc (.map #[] 0)) w.heap.size 0 (fun _ => false) := ⟨0, .map [], Nat.le_refl _, World.ownsMap_made _ _ _ _, fun k => rfl⟩
theorem MapB.lt {w : World} {M N : Nat} {g : Int → Bool} (h : MapB w M N g) : M < w.heap.size := by
  obtain ⟨n, D, _, h, _⟩ := h.ex
  exact h.lt
theorem MapB.keeps {P : Nat → Prop} {w w' : World} {M N : Nat} {g : Int → Bool} (h : MapB w M N g) (hk : Kq.Keeps P w w') (hP : ¬ P M) : MapB w' M N g := by
  obtain ⟨n, D, hn, ⟨es, clock, hb, r⟩, hD⟩ := h.ex
  exact ⟨n, D, hn, ⟨es, clock, hk.blk hb hP, r⟩, hD⟩
theorem MapB.below {w w' : World} {M N : Nat} {g : Int → Bool} (h : MapB w M N g) (hb : Below w.heap.size w w') : MapB w' M N g :=
  h.keeps (P := fun _ => False) (Kq.Keeps.of_below hb (fun j h1 h2 => absurd h1 (Nat.not_le.2 h2))) id
theorem MapB.get {w : World} {M N : Nat} {g : Int → Bool} (h : MapB w M N g) (k : Nat) (hk : k < 18446744073709551616) :
    (Instr.lookup 46 (.map (some M)) (.int .u64 (k : Int)) false).run Try.prog w = .ok (.bool (g (k : Int))) w := by
  obtain ⟨n, D, hn, hown, hD⟩ := h.ex
  obtain ⟨v, ps, hrun, hv⟩ := hown.lookup lawU Try.underlying46 (zeroBool w) (plainElem_bool Try.underlying4 false) (keyOf_int_mk Try.underlying23 (u64_wf k hk))
  obtain ⟨s, rfl, hz⟩ := boolElem_inv hv
  rw [hrun]
  have h3 : D.atKey (.int .u64 (k : Int)) (.lit (.bool false)) = .lit (.bool s) := (Prod.mk.inj hz).1
  rw [hD] at h3
  injection h3 with h3
  injection h3 with h3
  rw [h3]
theorem MapB.put {w : World} {M N : Nat} {g : Int → Bool} (h : MapB w M N g) (hN : N < 1000000) (k : Nat) (hk : k < 18446744073709551616) :
    ∃ w', (Instr.mapUpdate 46 (.map (some M)) (.int .u64 (k : Int)) (.bool true)).run Try.prog w = .ok () w' ∧ MapB w' M (N + 1) (fun j => if j = (k : Int) then true else g j) ∧ Kq.Keeps (· = M) w w' := by
  obtain ⟨n, D, hn, hown, hD⟩ := h.ex
  obtain ⟨w', hrun, hown', hgr⟩ := hown.update lawU Try.underlying46 (by unfold maxLen; omega) (keyOf_int_mk Try.underlying23 (u64_wf k hk)) (plainElem_bool Try.underlying4 true)
  refine ⟨w', hrun, ⟨n + 1, _, Nat.succ_le_succ hn, hown', fun j => ?_⟩, Kq.Keeps.grown hgr (fun j _ hj => by cases hj; rfl)⟩
  show _ = DataW.lit (.bool (if j = (k : Int) then true else g j))
  by_cases hj : j = (k : Int)
  · subst hj
    rw [if_pos rfl, atKey_put_same hown.isMap (k := .int .u64 (k : Int)) trivial]
  · have hne : (Lit.int .u64 j) ≠ (Lit.int .u64 (k : Int)) := fun e => hj (by injection e)
    rw [if_neg hj, atKey_put_other hne]
    exact hD j
theorem MapB.up {w : World} {M N N' : Nat} {g : Int → Bool} (h : MapB w M N g) (hN : N ≤ N') : MapB w M N' g := by
  obtain ⟨n, D, hn, r⟩ := h.ex
  exact ⟨n, D, Nat.le_trans hn hN, r⟩
/-- what a client knows of heights and roots that were told, no height twice -/
def Knows (pre : List (Nat × ByteArray)) (f : Int → Option ByteArray) : Prop := ∀ (k : Nat) s, f (k : Int) = some s ↔ (k, s) ∈ pre ∧ s.size = 32
theorem Knows.nil : Knows [] (fun _ => none) := fun k s => by simp
theorem Knows.step {pre : List (Nat × ByteArray)} {hs : List Nat} {f : Int → Option ByteArray} (h : Knows pre f) (x : Nat) (s : ByteArray) (hx : ∀ t, (x, t) ∉ pre) : Knows (pre ++ [(x, s)]) (setF x s hs f).2.1 := by
  have hn : (f (x : Int)).isSome = false := by
    cases hf : f (x : Int) with
    | none => rfl
    | some t => exact absurd ((h x t).1 hf).1 (hx t)
  intro k t
  unfold setF
  by_cases h32 : s.size = 32
  · rw [if_pos h32, hn, if_neg (by decide)]
    show updT f x s (k : Int) = some t ↔ _
    unfold updT
    by_cases hk : (k : Int) = (x : Int)
    · have hkx : k = x := by omega
      subst hkx
      rw [if_pos rfl]
      constructor
      · intro e; cases e; exact ⟨by simp, h32⟩
      · rintro ⟨hm, _⟩
        rcases List.mem_append.1 hm with hm | hm
        · exact absurd hm (hx t)
        · simp at hm; rw [hm]
    · rw [if_neg hk, h k t, List.mem_append]
      constructor
      · rintro ⟨a, b⟩; exact ⟨Or.inl a, b⟩
      · rintro ⟨a | a, b⟩
        · exact ⟨a, b⟩
        · simp at a; omega
  · rw [if_neg h32]
    show f (k : Int) = some t ↔ _
    rw [h k t, List.mem_append]
    constructor
    · rintro ⟨a, b⟩; exact ⟨Or.inl a, b⟩
    · rintro ⟨a | a, b⟩
      · exact ⟨a, b⟩
      · simp at a; rw [a.2] at b; exact absurd b h32
theorem Knows.same {l m : List (Nat × ByteArray)} {f g : Int → Option ByteArray} {hs ks : List Nat} (hl : Knows l f) (hm : Knows m g) (h : ∀ p, p ∈ l ↔ p ∈ m) (of : ClOk hs f) (og : ClOk ks g) : hs = ks ∧ ∀ k : Nat, f (k : Int) = g (k : Int) := by
  have hfg : ∀ k : Nat, f (k : Int) = g (k : Int) := fun k => by
    apply Option.ext
    intro s
    rw [hl k s, hm k s, h]
  refine ⟨sorted_ext of.srt og.srt (fun k => ?_), hfg⟩
  rw [← of.mem k, ← og.mem k, hfg]
/-- the list, told from another one on -/
def rot (l : List (Nat × ByteArray)) (t : Nat) (j : Nat) : List (Nat × ByteArray) := (List.range j).map fun i => l[(i + t) % l.length]!
theorem rot_succ (l : List (Nat × ByteArray)) (t j : Nat) (hl : 0 < l.length) : rot l t (j + 1) = rot l t j ++ [l[(j + t) % l.length]'(Nat.mod_lt _ hl)] := by
  unfold rot
  rw [List.range_succ, List.map_append]
  simp [getElem!_pos, Nat.mod_lt _ hl]
theorem rot_mem (l : List (Nat × ByteArray)) (t : Nat) (p : Nat × ByteArray) : p ∈ l ↔ p ∈ rot l t l.length := by
  unfold rot
  rw [List.mem_map]
  constructor
  · intro hp
    obtain ⟨i, hi, rfl⟩ := List.getElem_of_mem hp
    have hl : 0 < l.length := by omega
    refine ⟨(i + (l.length - t % l.length)) % l.length, by simpa using Nat.mod_lt _ hl, ?_⟩
    have e : ((i + (l.length - t % l.length)) % l.length + t) % l.length = i := by
      have ht := Nat.mod_lt t hl
      rw [Nat.add_mod, Nat.mod_mod, ← Nat.add_mod]
      have h2 : i + (l.length - t % l.length) + t = i + l.length + l.length * (t / l.length) := by
        have := Nat.mod_add_div t l.length
        omega
      rw [h2, Nat.add_mul_mod_self_left, Nat.add_mod_right, Nat.mod_eq_of_lt hi]
    rw [e]
    simp [getElem!_pos, hi]
  · rintro ⟨i, hi, rfl⟩
    have hl : 0 < l.length := by have := List.mem_range.1 hi; omega
    rw [getElem!_pos l _ (Nat.mod_lt _ hl)]
    exact List.getElem_mem _
/-- keys that are told once -/
def Once (l : List (Nat × ByteArray)) : Prop := ∀ i j (hi : i < l.length) (hj : j < l.length), l[i].1 = l[j].1 → i = j
theorem rot_new {l : List (Nat × ByteArray)} (h : Once l) (t j : Nat) (hj : j < l.length) (s : ByteArray) : ((l[(j + t) % l.length]'(Nat.mod_lt _ (by omega))).1, s) ∉ rot l t j := by
  intro hm
  unfold rot at hm
  obtain ⟨i, hi, he⟩ := List.mem_map.1 hm
  have hi' := List.mem_range.1 hi
  have hl : 0 < l.length := by omega
  rw [getElem!_pos l _ (Nat.mod_lt _ hl)] at he
  have := h _ _ (Nat.mod_lt (i + t) hl) (Nat.mod_lt (j + t) hl) (by rw [he])
  have h1 : (i + t) % l.length = (j + t) % l.length := this
  have h2 := Nat.mod_add_div (i + t) l.length
  have h3 := Nat.mod_add_div (j + t) l.length
  rcases Nat.lt_trichotomy ((i + t) / l.length) ((j + t) / l.length) with h4 | h4 | h4
  · have h5 := Nat.mul_le_mul_left l.length (Nat.succ_le_of_lt h4)
    rw [Nat.succ_eq_add_one, Nat.mul_add, Nat.mul_one] at h5
    omega
  · rw [h4] at h2; omega
  · have h5 := Nat.mul_le_mul_left l.length (Nat.succ_le_of_lt h4)
    rw [Nat.succ_eq_add_one, Nat.mul_add, Nat.mul_one] at h5
    omega
end Go.Proofs.Ytdonoilcegaleaa
