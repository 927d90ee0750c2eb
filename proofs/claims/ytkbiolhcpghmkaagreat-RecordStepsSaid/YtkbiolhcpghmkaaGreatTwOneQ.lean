/- A table beside the blocks V. No condition. -/
import Derived.WalkSpells
import Derived.Outline
import Derived.Test.YtkbiolhcpghmkaaGreatTbFitQ
import Derived.Test.YtkbiolhcpghmkaaGreatTbOfQ
import Derived.Test.YtkbiolhcpghmkaaGreatTwoFQ
namespace Go.Proofs.YtkbiolhcpghmkaaGreat
open Go.RowKit
set_option linter.unusedVariables false
/-- the program's table at s, beside the blocks W -/
def OneT (W : Nat → Prop) (w : World) (B : Nat) (s : TbV) : Prop := ∃ O, TbP w O B s ∧ ∀ k, O k → ¬ W k ∧ k < w.heap.size
section
variable {W : Nat → Prop} {w w' : World} {B : Nat} {s s' : TbV}
theorem OneT.below (h : OneT W w B s) (hb : Below w.heap.size w w') : OneT W w' B s := by
  obtain ⟨O, h1, h2⟩ := h
  exact ⟨O, h1.below hb, fun k hk => ⟨(h2 k hk).1, Nat.lt_of_lt_of_le (h2 k hk).2 hb.size⟩⟩
theorem OneT.keeps {S : Nat → Prop} (h : OneT W w B s) (hk : Kq.Keeps S w w') (hS : ∀ k, S k → W k) : OneT W w' B s := by
  obtain ⟨O, h1, h2⟩ := h
  exact ⟨O, h1.keeps hk (fun k hk hs => (h2 k hk).1 (hS k hs)), fun k hk' => ⟨(h2 k hk').1, Nat.lt_of_lt_of_le (h2 k hk').2 hk.size⟩⟩
theorem OneT.step {r : Value} {x : Ending} {O : Nat → Prop} (h2 : ∀ k, O k → ¬ W k ∧ k < w.heap.size) (hW : FrW W w) (hs : StepT w O B r s' x w') : OneT W w' B s' ∧ x = .returned r ∧ Fb W w w' := by
  refine ⟨⟨_, hs.2.1, fun k hk => ?_⟩, hs.1, hs.2.2.mono (fun k _ hk => (h2 k hk).1)⟩
  have hz := hs.2.2.size
  rcases hk with hk | hk
  · have := h2 k hk; exact ⟨this.1, by omega⟩
  · exact ⟨fun hw => (by have := hW k hw; omega), hk.2⟩
end
section
variable {W : Nat → Prop} {w : World} {B : Nat} {s : TbV}
theorem ot_apply (h : OneT W w B s) (hW : FrW W w) (hs : TbOk s) (n : NtV) (hw : n.wf) : Calls Tryz.prog 36 #[.pointer (some ⟨B, 0, none⟩), .agg #[.int .i64 n.k, .int .i64 n.f, .int .u64 n.q, .int .u64 n.t, .string n.d]] w fun x w' => OneT W w' B (appV s n).1 ∧ x = .returned (.int .i64 (appV s n).2) ∧ Fb W w w' := by
  obtain ⟨O, h1, h2⟩ := h
  exact (tb_apply w O B s n hw h1 hs (fun k hk => (h2 k hk).2)).mono (fun x w' hx => OneT.step h2 hW hx)
theorem ot_len (h : OneT W w B s) : Calls Tryz.prog 35 #[.pointer (some ⟨B, 0, none⟩)] w fun x w' => x = .returned (.int .i64 (s.l.length : Int)) ∧ w' = w := by
  obtain ⟨O, h1, h2⟩ := h
  exact tb_len w O B s h1
theorem ot_items (h : OneT W w B s) (hs : TbOk s) : Calls Tryz.prog 16 #[.pointer (some ⟨B, 0, none⟩)] w fun x w' => ∃ v, x = .returned v ∧ NewT w.heap.size s.l v w' ∧ Below w.heap.size w w' := by
  obtain ⟨O, h1, h2⟩ := h
  exact tb_items w O B s h1 hs
theorem ot_get (h : OneT W w B s) (f q : Int) (hk : nmW (f, q)) : Calls Tryz.prog 101 #[.pointer (some ⟨B, 0, none⟩), .int .i64 f, .int .u64 q] w fun x w' => x = .returned (.tuple #[itV ((tbR.look s.l (f, q)).getD itZ), .bool (tbR.look s.l (f, q)).isSome]) ∧ Below w.heap.size w w' := by
  obtain ⟨O, h1, h2⟩ := h
  exact tb_get w O B s f q hk h1
end
end Go.Proofs.YtkbiolhcpghmkaaGreat
