/- The laws' common ground. No condition. -/
import Derived.WalkSpells
import Derived.Outline
import Derived.Laws.StructEq
import Derived.ProofKit
import Derived.Test.YtmckpoeolfggmaaChecked
import Derived.Test.YtmckpoeolfggmaaTwAwake
import Derived.Test.YtmckpoeolfggmaaTwOpen
namespace Go.Proofs.Ytmckpoeolfggmaa
open Go.RowKit
set_option linter.unusedVariables false
set_option maxRecDepth 100000 in
theorem it_eql (k f q t : Int) (d : ByteArray) (w : World) : (binOp .eql 48 (.agg #[.int .i64 f, .int .u64 q, .int .u64 t, .string d, .int .i64 k]) (.agg #[.int .i64 f, .int .u64 q, .int .u64 t, .string d, .int .i64 k])).run Try.prog w = .ok (.bool true) w := by
  have hs : Try.prog.stoodInHeld 38 = false := by kernel_rfl
  have hs2 : Try.prog.stoodInHeld 48 = false := by kernel_rfl
  simp [go_sem, hs, hs2, Try.underlying48, Try.underlying38, Try.underlying3, Try.underlying23, Try.underlying9]
theorem it_neq (k f q t : Int) (d : ByteArray) (w : World) : (binOp .neq 48 (.agg #[.int .i64 f, .int .u64 q, .int .u64 t, .string d, .int .i64 k]) (.agg #[.int .i64 f, .int .u64 q, .int .u64 t, .string d, .int .i64 k])).run Try.prog w = .ok (.bool false) w := by
  have h := it_eql k f q t d w
  rw [run_eql_struct] at h
  rw [run_neq_struct]
  revert h
  generalize (Op.equalIn 10000 48 (.agg #[.int .i64 f, .int .u64 q, .int .u64 t, .string d, .int .i64 k]) (.agg #[.int .i64 f, .int .u64 q, .int .u64 t, .string d, .int .i64 k])).run Try.prog w = r
  intro h
  cases r with
  | ok b w1 =>
    simp only [Result.andThen_ok, Result.ok.injEq, Value.bool.injEq] at h ⊢
    rw [h.1, h.2]
    exact ⟨rfl, rfl⟩
  | halt x w1 => cases h
/-- the law's ground: the acts are there, nothing older changed -/
structure GrT (W w : World) (A : Option Addr) (l : List AcV) : Prop where
  acts : acE.Lo W W.heap.size A l
  wf : ∀ a ∈ l, a.wf
  bel : Below W.heap.size W w
section
variable {W w w' : World} {A : Option Addr} {l : List AcV}
theorem GrT.step {M : Nat} (h : GrT W w A l) (hb : Below M w w') (hM : W.heap.size ≤ M) : GrT W w' A l := ⟨h.acts, h.wf, h.bel.trans (hb.mono hM)⟩
theorem GrT.far (h : GrT W w A l) (hb : Below w.heap.size w w') : GrT W w' A l := h.step hb h.bel.size
theorem GrT.near (h : GrT W w A l) (hb : Below W.heap.size w w') : GrT W w' A l := h.step hb (Nat.le_refl _)
theorem GrT.at (h : GrT W w A l) : acE.At w A l := (h.acts.below h.bel).at
theorem GrT.size (h : GrT W w A l) : W.heap.size ≤ w.heap.size := h.bel.size
theorem GrT.frw (h : GrT W w A l) : FrW (· < W.heap.size) w := fun k hk => Nat.lt_of_lt_of_le hk h.bel.size
/-- the cells of an act -/
def ActC (w : World) (b o : Nat) (a : AcV) : Prop := w.cell? ⟨b, o, none⟩ = some (.bool a.dr) ∧ w.cell? ⟨b, o + 1, none⟩ = some (.int .i64 a.n.k) ∧ w.cell? ⟨b, o + 2, none⟩ = some (.int .i64 a.n.f) ∧ w.cell? ⟨b, o + 3, none⟩ = some (.int .u64 a.n.q) ∧ w.cell? ⟨b, o + 4, none⟩ = some (.int .u64 a.n.t) ∧ w.cell? ⟨b, o + 5, none⟩ = some (.string a.n.d)
theorem GrT.act (h : GrT W w A l) (j : Nat) (hj : j < l.length) : ∃ b off, A = some ⟨b, off, none⟩ ∧ ∀ w', GrT W w' A l → ActC w' b (off + j * 6) l[j] := by
  obtain ⟨b, off, e, _⟩ := h.acts j hj
  refine ⟨b, off, e, fun w' h' => ?_⟩
  obtain ⟨b', off', e', _, _, h3⟩ := h'.acts.below h'.bel j hj
  rw [e] at e'
  injection e' with e'
  injection e' with e1 e2
  subst e1 e2
  exact ⟨h3 0 (by decide), h3 1 (by decide), h3 2 (by decide), h3 3 (by decide), h3 4 (by decide), h3 5 (by decide)⟩
end
/-- what the laws ask of their arguments -/
def YesT (l : List AcV) (m : List NtV) : Prop := l.length ≤ 100 ∧ FewN (l.map AcV.n) ∧ FewN m
instance (l : List AcV) (m : List NtV) : Decidable (YesT l m) := by unfold YesT; infer_instance
theorem i64_of {x : Int} (h : (Lit.int .i64 x).wf = true) : -9223372036854775808 ≤ x ∧ x < 9223372036854775808 := by
  simp [Lit.wf, IntKind.min, IntKind.max, IntKind.signed, IntKind.bits] at h; omega
/-- a table of the document's, made in one piece -/
theorem new_rt (r : Nat) (w : World) : RtP (w.alloc (.cells #[.slice none 0 0, .int .i64 (r : Int)] 35)) (fun k => w.heap.size ≤ k ∧ k < (w.alloc (.cells #[.slice none 0 0, .int .i64 (r : Int)] 35)).heap.size) w.heap.size ⟨r, []⟩ := by
  have hz : (w.alloc (.cells #[.slice none 0 0, .int .i64 (r : Int)] 35)).heap.size = w.heap.size + 1 := by simp
  exact ⟨none, 0, Kq.blk_new w _ _ _, fun j hj => absurd hj (Nat.not_lt_zero _), fun b off e => (by cases e), Nat.le_refl _, ⟨Nat.le_refl _, by omega⟩⟩
theorem DuT.start {W : Nat → Prop} {a b w : World} {B1 B2 : Nat} {s1 s2 : TbV} (hW : FrW W a) (h1 : TbP b (fun k => a.heap.size ≤ k ∧ k < b.heap.size) B1 s1) (hab : a.heap.size ≤ b.heap.size) (h2 : RtP w (fun k => b.heap.size ≤ k ∧ k < w.heap.size) B2 s2) (hb : Below b.heap.size b w) : DuT W w B1 B2 s1 s2 := by
  have hz := hb.size
  refine ⟨_, _, h1.below hb, h2, fun k hk => ⟨fun hw => ?_, ?_⟩, fun k hk => ⟨fun hw => ?_, hk.2⟩, fun k hk h3 => ?_⟩
  · have := hW k hw; have := hk.1; omega
  · have := hk.2; omega
  · have := hW k hw; have := hk.1; omega
  · have := hk.2; have := h3.1; omega
end Go.Proofs.Ytmckpoeolfggmaa
