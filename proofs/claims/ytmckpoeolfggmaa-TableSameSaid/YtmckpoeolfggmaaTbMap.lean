/- A table's map in memory: keyed by names, of items; a range over it that collects. No condition. -/
import Derived.WalkSpells
import Derived.Outline
import Derived.Maps.OwnSet
import Derived.Maps.RangeWalk
import Derived.DeepKeys4
import Derived.Test.YtmckpoeolfggmaaMapG
import Derived.Test.YtmckpoeolfggmaaTbM
namespace Go.Proofs.Ytmckpoeolfggmaa
open Go.RowKit Go.Maps Go.Kq
set_option linter.unusedVariables false
theorem lawNm : Keyed Try.prog 70 := Keyed.of_law (deep_law_laid (m := 9) (by kernel_rfl) (by decide) (of_decide_eq_true (by kernel_rfl)) (by kernel_rfl) (by kernel_rfl))
def nmV (a : NmV) : Value := .agg #[.int .i64 a.1, .int .u64 a.2]
def nmL (a : NmV) : List Lit := [.int .i64 a.1, .int .u64 a.2]
def nmW (a : NmV) : Prop := (Lit.int .i64 a.1).wf = true ∧ (Lit.int .u64 a.2).wf = true
theorem nm_ok {n : NtV} (h : PkOk n.p) (hw : n.wf) : nmW n.nm := by
  have h1 : 0 ≤ n.f := h.1
  have h2 : n.f ≤ 1 := h.2.1
  have h3 := hw.1
  constructor
  · show (Lit.int .i64 n.f).wf = true
    simp [Lit.wf, IntKind.min, IntKind.max, IntKind.signed, IntKind.bits]; omega
  · show (Lit.int .u64 n.q).wf = true
    simp [Lit.wf, IntKind.min, IntKind.max, IntKind.signed, IntKind.bits]; omega
set_option maxRecDepth 100000 in
theorem lits_nm (a : NmV) (h : nmW a) (d : Nat) : Try.prog.keyLits (d + 2) 70 [.int .i64 a.1, .int .u64 a.2] = some (nmL a) := by
  have k1 : Try.prog.cellsOf 3 = 1 := by kernel_rfl
  have k3 : Try.prog.cellsOf 23 = 1 := by kernel_rfl
  have k4 : Try.prog.cellsOf 70 = 2 := by kernel_rfl
  unfold Program.keyLits
  rw [Try.underlying70]
  simp [k4, k1, k3, Program.keyLits, Try.underlying3, Try.underlying23, h.1, h.2, nmL]
theorem key_nm (a : NmV) (h : nmW a) : keyOf Try.prog 70 (nmV a) = some (.string (keyBytes (nmL a))) := by
  obtain ⟨d, hd⟩ : ∃ d, Try.prog.types.size + 1 = d + 2 := ⟨Try.prog.types.size - 1, by kernel_rfl⟩
  have hl := lits_nm a h d
  have hk : Try.prog.keyType 70 = true := by kernel_rfl
  have k4 : Try.prog.cellsOf 70 = 2 := by kernel_rfl
  unfold keyOf
  rw [Try.underlying70, hd]
  have hf : (nmV a).formed Try.prog 70 = true := by
    unfold nmV Value.formed
    rw [Try.underlying70]
    simp [k4]
  simp only [hk, hf, Bool.and_self, if_true]
  rw [show (nmV a).cells.toList = [.int .i64 a.1, .int .u64 a.2] from rfl, hl]
  rfl
noncomputable def kNm : Kq.KeyK Try.prog 70 NmV := ⟨lawNm, nmV, fun a => .string (keyBytes (nmL a)), nmW, key_nm, fun a b h => by
  obtain ⟨a1, a2⟩ := a
  obtain ⟨b1, b2⟩ := b
  simp only [nmV, Value.agg.injEq, Array.mk.injEq, List.cons.injEq, Value.int.injEq, true_and, and_true] at h
  obtain ⟨h1, h2⟩ := h
  rw [h1, h2]⟩
set_option maxRecDepth 100000 in
theorem key_nm_inv {v : Value} {kl : Lit} (h : keyOf Try.prog 70 v = some kl) : ∃ a, v = nmV a ∧ nmW a ∧ kl = .string (keyBytes (nmL a)) := by
  obtain ⟨d, hd⟩ : ∃ d, Try.prog.types.size + 1 = d + 2 := ⟨Try.prog.types.size - 1, by kernel_rfl⟩
  have k4 : Try.prog.cellsOf 70 = 2 := by kernel_rfl
  have k1 : Try.prog.cellsOf 3 = 1 := by kernel_rfl
  have k3 : Try.prog.cellsOf 23 = 1 := by kernel_rfl
  unfold keyOf at h
  rw [Try.underlying70, hd] at h
  simp only at h
  split at h
  · rename_i hc
    rw [Bool.and_eq_true] at hc
    have hf := hc.2
    unfold Value.formed at hf
    rw [Try.underlying70] at hf
    cases v with
    | agg cs =>
      simp only [beq_iff_eq] at hf
      rw [k4] at hf
      obtain ⟨l⟩ := cs
      have hl : l.length = 2 := hf
      match l, hl with
      | [c0, c1], _ =>
        unfold Program.keyLits at h
        rw [Try.underlying70] at h
        simp [k4, k1, k3, Program.keyLits, Try.underlying3, Try.underlying23, Value.cells] at h
        cases c0 <;> simp at h
        rename_i k0 n0 _
        by_cases g0 : k0 = .i64 ∧ (Lit.int .i64 n0).wf = true
        · rw [if_pos g0] at h
          cases c1 <;> simp at h
          rename_i k1 n1 _
          by_cases g1 : k1 = .u64 ∧ (Lit.int .u64 n1).wf = true
          · rw [if_pos g1] at h
            simp at h
            obtain ⟨rfl, g0⟩ := g0
            obtain ⟨rfl, g1⟩ := g1
            exact ⟨(n0, n1), rfl, ⟨g0, g1⟩, by rw [← h]; rfl⟩
          · rw [if_neg g1] at h
            simp at h
        · rw [if_neg g0] at h
          simp at h
    | _ => simp at hf
  · cases h
/-- an item, as a value; as a datum -/
def itV (n : NtV) : Value := .agg #[.int .i64 n.f, .int .u64 n.q, .int .u64 n.t, .string n.d, .int .i64 n.k]
def itD (n : NtV) : DataW Unit := .agg [.lit (.int .i64 n.f), .lit (.int .u64 n.q), .lit (.int .u64 n.t), .lit (.string n.d.data.toList), .lit (.int .i64 n.k)]
def itR : Value → Option (DataW Unit × List MemPlace)
  | .agg ⟨[.int .i64 f, .int .u64 q, .int .u64 t, .string d, .int .i64 k]⟩ => some (itD ⟨k, f, q, t, d⟩, [])
  | _ => none
theorem bytes_injT {a b : ByteArray} (h : a.data.toList = b.data.toList) : a = b := ByteArray.ext (Array.toList_inj.1 h)
theorem itD_inj {a b : NtV} (h : itD a = itD b) : a = b := by
  obtain ⟨k, f, q, t, d⟩ := a
  obtain ⟨k', f', q', t', d'⟩ := b
  simp only [itD, DataW.agg.injEq, List.cons.injEq, DataW.lit.injEq, Lit.int.injEq, Lit.string.injEq, true_and, and_true] at h
  obtain ⟨h1, h2, h3, h4, h5⟩ := h
  rw [h1, h2, h3, bytes_injT h4, h5]
theorem itR_inv {v : Value} {z : DataW Unit × List MemPlace} (h : itR v = some z) : ∃ n, v = itV n ∧ z.1 = itD n := by
  unfold itR at h
  split at h
  · rename_i f q t d k
    injection h with h
    exact ⟨⟨k, f, q, t, d⟩, rfl, by rw [← h]⟩
  · cases h
noncomputable def eIt : Kq.ElK Try.prog 48 NtV := ⟨itR, itV, itD, fun _ => True, ⟨0, 0, 0, 0, ⟨#[]⟩⟩, trivial, fun w => by kernel_rfl, fun b _ => rfl, fun v z h => itR_inv h, fun a b h => itD_inj h⟩
end Go.Proofs.Ytmckpoeolfggmaa
