/- A map of the program's own that is keyed by api.Message, its elements bools. Condition: what the messages' parts may be. -/
import Derived.WalkSpells
import Derived.Outline
import Derived.Maps.OwnSet
import Derived.DeepKeys4
import Derived.Test.YtahijpfmpdjceaaNetActsOpen
namespace Go.Proofs.Ytahijpfmpdjceaa
open Go.RowKit Go.Maps
set_option linter.unusedVariables false
def msgLits (m : MsgV) : List Lit := [.int .i64 m.kind, .int .i64 m.to, .int .u64 m.ht, .int .i64 m.fr, .int .u64 m.sq, .int .u64 m.tm, .string m.d.data.toList, .string m.p.data.toList]
def msgKey (m : MsgV) : Lit := .string (keyBytes (msgLits m))
theorem lawMsg : Keyed Try.prog 39 := Keyed.of_law (deep_law_laid (m := 9) (by kernel_rfl) (by decide) (of_decide_eq_true (by kernel_rfl)) (by kernel_rfl) (by kernel_rfl))
set_option maxRecDepth 100000 in
theorem lits_pkt (m : MsgV) (h : m.wf) (d : Nat) : Try.prog.keyLits (d + 2) 37 [.int .i64 m.fr, .int .u64 m.sq, .int .u64 m.tm, .string m.d] = some [.int .i64 m.fr, .int .u64 m.sq, .int .u64 m.tm, .string m.d.data.toList] := by
  have k1 : Try.prog.cellsOf 3 = 1 := by kernel_rfl
  have k2 : Try.prog.cellsOf 9 = 1 := by kernel_rfl
  have k3 : Try.prog.cellsOf 35 = 1 := by kernel_rfl
  have k4 : Try.prog.cellsOf 37 = 4 := by kernel_rfl
  unfold Program.keyLits
  rw [Try.underlying37]
  simp [k4, k1, k2, k3, Program.keyLits, Try.underlying3, Try.underlying35, Try.underlying9, h.w3, h.w4, h.w5, h.w6]
set_option maxRecDepth 100000 in
theorem lits_msg (m : MsgV) (h : m.wf) (d : Nat) : Try.prog.keyLits (d + 3) 39 m.cells = some (msgLits m) := by
  have k1 : Try.prog.cellsOf 3 = 1 := by kernel_rfl
  have k2 : Try.prog.cellsOf 9 = 1 := by kernel_rfl
  have k3 : Try.prog.cellsOf 35 = 1 := by kernel_rfl
  have k4 : Try.prog.cellsOf 37 = 4 := by kernel_rfl
  have k8 : Try.prog.cellsOf 39 = 8 := by kernel_rfl
  have hp := lits_pkt m h d
  have i1 : ∀ z, (Lit.int .i64 z).wf = true → Try.prog.keyLits (d + 2) 3 [.int .i64 z] = some [.int .i64 z] := fun z hz => by
    unfold Program.keyLits; rw [Try.underlying3]; simp [hz]
  have i2 : ∀ z, (Lit.int .u64 z).wf = true → Try.prog.keyLits (d + 2) 35 [.int .u64 z] = some [.int .u64 z] := fun z hz => by
    unfold Program.keyLits; rw [Try.underlying35]; simp [hz]
  have i3 : ∀ s : ByteArray, s.size ≤ maxLen → Try.prog.keyLits (d + 2) 9 [.string s] = some [.string s.data.toList] := fun s hs => by
    unfold Program.keyLits; rw [Try.underlying9]; simp [hs]
  show Try.prog.keyLits ((d + 2) + 1) _ _ = _
  generalize hq : d + 2 = q at *
  unfold Program.keyLits
  rw [Try.underlying39]
  simp [k8, k1, k2, k3, k4, MsgV.cells, hp, i1 _ h.w0, i1 _ h.w1, i2 _ h.w2, i3 _ h.w7, msgLits]
theorem key_msg (m : MsgV) (h : m.wf) : keyOf Try.prog 39 m.val = some (msgKey m) := by
  obtain ⟨d, hd⟩ : ∃ d, Try.prog.types.size + 1 = d + 3 := ⟨Try.prog.types.size - 2, by kernel_rfl⟩
  have hl := lits_msg m h d
  have hk : Try.prog.keyType 39 = true := by kernel_rfl
  have k8 : Try.prog.cellsOf 39 = 8 := by kernel_rfl
  unfold keyOf
  rw [Try.underlying39, hd]
  have hf : m.val.formed Try.prog 39 = true := by
    unfold MsgV.val Value.formed
    rw [Try.underlying39]
    simp [k8]
  simp only [hk, hf, Bool.and_self, if_true]
  rw [show m.val.cells.toList = m.cells from rfl, hl]
  rfl
theorem zeroBoolM (w : World) : (zeroValue 4).run Try.prog w = .ok (.bool false) w := by kernel_rfl
theorem boolElemM_inv {H : Type} {v : Value} {z : DataW H × List MemPlace} (h : plainElem (H := H) Try.prog 4 v = some z) : ∃ x, v = .bool x ∧ z = (.lit (.bool x), []) := by
  unfold plainElem at h
  rw [Try.underlying4] at h
  cases v <;> simp at h
  rename_i x
  exact ⟨x, rfl, h.symm⟩
/-- messages that are known -/
structure MapM (w : World) (M N : Nat) (K : List MsgV) : Prop where
  ex : ∃ n, ∃ D : DataW Unit, n ≤ N ∧ w.ownsMap Try.prog 39 (plainElem Try.prog 4) M n D ∧ ∀ m ∈ K, D.atKey (msgKey m) (.lit (.bool false)) = .lit (.bool true)
theorem MapM.made (w : World) : MapM (w.alloc (.map #[] 0)) w.heap.size 0 [] := ⟨0, .map [], Nat.le_refl _, World.ownsMap_made _ _ _ _, fun k hk => by cases hk⟩
theorem MapM.lt {w : World} {M N : Nat} {K : List MsgV} (h : MapM w M N K) : M < w.heap.size := by
  obtain ⟨n, D, _, h, _⟩ := h.ex
  exact h.lt
theorem MapM.keeps {P : Nat → Prop} {w w' : World} {M N : Nat} {K : List MsgV} (h : MapM w M N K) (hk : Kq.Keeps P w w') (hP : ¬ P M) : MapM w' M N K := by
  obtain ⟨n, D, hn, ⟨es, clock, hb, r⟩, hD⟩ := h.ex
  exact ⟨n, D, hn, ⟨es, clock, hk.blk hb hP, r⟩, hD⟩
theorem MapM.below {w w' : World} {M N : Nat} {K : List MsgV} (h : MapM w M N K) (hb : Below w.heap.size w w') : MapM w' M N K :=
  h.keeps (P := fun _ => False) (Kq.Keeps.of_below hb (fun j h1 h2 => absurd h1 (Nat.not_le.2 h2))) id
theorem MapM.get {w : World} {M N : Nat} {K : List MsgV} (h : MapM w M N K) (m : MsgV) (hm : m ∈ K) (hw : m.wf) :
    (Instr.lookup 53 (.map (some M)) m.val false).run Try.prog w = .ok (.bool true) w := by
  obtain ⟨n, D, hn, hown, hD⟩ := h.ex
  obtain ⟨v, ps, hrun, hv⟩ := hown.lookup lawMsg Try.underlying53 (zeroBoolM w) (plainElem_bool Try.underlying4 false) (key_msg m hw)
  obtain ⟨s, rfl, hz⟩ := boolElemM_inv hv
  rw [hrun]
  have h3 : D.atKey (msgKey m) (.lit (.bool false)) = .lit (.bool s) := (Prod.mk.inj hz).1
  rw [hD m hm] at h3
  injection h3 with h3
  injection h3 with h3
  rw [h3]
theorem MapM.put {w : World} {M N : Nat} {K : List MsgV} (h : MapM w M N K) (hN : N < 1000000) (m : MsgV) (hw : m.wf) :
    ∃ w', (Instr.mapUpdate 53 (.map (some M)) m.val (.bool true)).run Try.prog w = .ok () w' ∧ MapM w' M (N + 1) (K ++ [m]) ∧ Kq.Keeps (· = M) w w' := by
  obtain ⟨n, D, hn, hown, hD⟩ := h.ex
  obtain ⟨w', hrun, hown', hgr⟩ := hown.update lawMsg Try.underlying53 (by unfold maxLen; omega) (key_msg m hw) (plainElem_bool Try.underlying4 true)
  refine ⟨w', hrun, ⟨n + 1, _, Nat.succ_le_succ hn, hown', fun j hj => ?_⟩, Kq.Keeps.grown hgr (fun j _ hj => by cases hj; rfl)⟩
  by_cases hjk : msgKey j = msgKey m
  · rw [hjk]
    exact atKey_put_same hown.isMap (k := msgKey m) trivial _ _
  · rw [atKey_put_other hjk]
    rcases List.mem_append.1 hj with hj | hj
    · exact hD j hj
    · simp only [List.mem_cons, List.not_mem_nil, or_false] at hj
      exact absurd (by rw [hj]) hjk
end Go.Proofs.Ytahijpfmpdjceaa
