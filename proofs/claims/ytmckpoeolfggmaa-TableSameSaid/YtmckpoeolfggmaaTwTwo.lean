/- A table beside the blocks W; both tables side by side. No condition. -/
import Derived.WalkSpells
import Derived.Outline
import Derived.Test.YtmckpoeolfggmaaTwDo
import Derived.Test.YtmckpoeolfggmaaTwoF
import Derived.Test.YtmckpoeolfggmaaTbItems
namespace Go.Proofs.Ytmckpoeolfggmaa
open Go.RowKit
set_option linter.unusedVariables false
/-- the program's table at s, beside the blocks W -/
def OneT (W : Nat → Prop) (w : World) (B : Nat) (s : TbV) : Prop := ∃ O, TbP w O B s ∧ ∀ k, O k → ¬ W k ∧ k < w.heap.size
/-- the program's table at s1, the document's at s2 -/
def DuT (W : Nat → Prop) (w : World) (B1 B2 : Nat) (s1 s2 : TbV) : Prop := ∃ O1 O2, TbP w O1 B1 s1 ∧ RtP w O2 B2 s2 ∧ Two W w O1 O2
section
variable {W : Nat → Prop} {w w' : World} {O1 O2 : Nat → Prop} {B B1 B2 : Nat} {s s1 s2 s' : TbV}
theorem OneT.below (h : OneT W w B s) (hb : Below w.heap.size w w') : OneT W w' B s := by
  obtain ⟨O, h1, h2⟩ := h
  exact ⟨O, h1.below hb, fun k hk => ⟨(h2 k hk).1, Nat.lt_of_lt_of_le (h2 k hk).2 hb.size⟩⟩
theorem OneT.keeps {S : Nat → Prop} (h : OneT W w B s) (hk : Kq.Keeps S w w') (hS : ∀ k, S k → W k) : OneT W w' B s := by
  obtain ⟨O, h1, h2⟩ := h
  exact ⟨O, h1.keeps hk (fun k hk hs => (h2 k hk).1 (hS k hs)), fun k hk' => ⟨(h2 k hk').1, Nat.lt_of_lt_of_le (h2 k hk').2 hk.size⟩⟩
theorem OneT.step {r : Value} {x : Ending} {O : Nat → Prop} (h2 : ∀ k, O k → ¬ W k ∧ k < w.heap.size) (hW : FrW W w) (hs : StepT w O B r s' x w') : OneT W w' B s' ∧ x = .returned r ∧ Fb W w w' := by
  refine ⟨⟨_, hs.2.1, fun k hk => ?_⟩, hs.1, hs.2.2.mono (fun k _ hk => (h2 k hk).1)⟩
  have hz := hs.2.2.size
  rcases hk with hk | hk
  · have := h2 k hk; exact ⟨this.1, by omega⟩
  · exact ⟨fun hw => (by have := hW k hw; omega), hk.2⟩
theorem DuT.below (h : DuT W w B1 B2 s1 s2) (hb : Below w.heap.size w w') : DuT W w' B1 B2 s1 s2 := by
  obtain ⟨O1, O2, h1, h2, ht⟩ := h
  exact ⟨O1, O2, h1.below hb, h2.below hb, ht.later hb.size⟩
theorem DuT.one (h : DuT W w B1 B2 s1 s2) : OneT W w B1 s1 := by
  obtain ⟨O1, O2, h1, h2, ht⟩ := h
  exact ⟨O1, h1, ht.a⟩
end
section
variable {W : Nat → Prop} {w : World} {B B1 B2 : Nat} {s s1 s2 : TbV}
theorem ot_do (h : OneT W w B s) (hW : FrW W w) (hs : TbOk s) (a : AcV) (hw : a.wf) : Calls Try.prog 12 #[.pointer (some ⟨B, 0, none⟩), .agg #[.bool a.dr, .int .i64 a.n.k, .int .i64 a.n.f, .int .u64 a.n.q, .int .u64 a.n.t, .string a.n.d]] w fun x w' => OneT W w' B (actT s a).1 ∧ x = .returned (.int .i64 (actT s a).2) ∧ Fb W w w' := by
  obtain ⟨O, h1, h2⟩ := h
  exact (tb_do w O B s a hw h1 hs (fun k hk => (h2 k hk).2)).mono (fun x w' hx => OneT.step h2 hW hx)
theorem ot_apply (h : OneT W w B s) (hW : FrW W w) (hs : TbOk s) (n : NtV) (hw : n.wf) : Calls Try.prog 25 #[.pointer (some ⟨B, 0, none⟩), .agg #[.int .i64 n.k, .int .i64 n.f, .int .u64 n.q, .int .u64 n.t, .string n.d]] w fun x w' => OneT W w' B (appV s n).1 ∧ x = .returned (.int .i64 (appV s n).2) ∧ Fb W w w' := by
  obtain ⟨O, h1, h2⟩ := h
  exact (tb_apply w O B s n hw h1 hs (fun k hk => (h2 k hk).2)).mono (fun x w' hx => OneT.step h2 hW hx)
theorem ot_drop (h : OneT W w B s) (hW : FrW W w) (hs : TbOk s) (f q : Int) (hn : nmW (f, q)) : Calls Try.prog 26 #[.pointer (some ⟨B, 0, none⟩), .int .i64 f, .int .u64 q] w fun x w' => OneT W w' B (drpV s f q).1 ∧ x = .returned (.int .i64 (drpV s f q).2) ∧ Fb W w w' := by
  obtain ⟨O, h1, h2⟩ := h
  exact (tb_drop w O B s f q hn h1 hs (fun k hk => (h2 k hk).2)).mono (fun x w' hx => OneT.step h2 hW hx)
theorem ot_len (h : OneT W w B s) : Calls Try.prog 16 #[.pointer (some ⟨B, 0, none⟩)] w fun x w' => x = .returned (.int .i64 (s.l.length : Int)) ∧ w' = w := by
  obtain ⟨O, h1, h2⟩ := h
  exact tb_len w O B s h1
theorem ot_room (h : OneT W w B s) : Calls Try.prog 22 #[.pointer (some ⟨B, 0, none⟩)] w fun x w' => x = .returned (.int .i64 (s.room : Int)) ∧ w' = w := by
  obtain ⟨O, h1, h2⟩ := h
  exact tb_room w O B s h1
theorem ot_items (h : OneT W w B s) (hs : TbOk s) : Calls Try.prog 15 #[.pointer (some ⟨B, 0, none⟩)] w fun x w' => ∃ v, x = .returned v ∧ NewT w.heap.size s.l v w' ∧ Below w.heap.size w w' := by
  obtain ⟨O, h1, h2⟩ := h
  exact tb_items w O B s h1 hs
theorem ot_get (h : OneT W w B s) (f q : Int) (hk : nmW (f, q)) : Calls Try.prog 17 #[.pointer (some ⟨B, 0, none⟩), .int .i64 f, .int .u64 q] w fun x w' => x = .returned (.tuple #[itV ((tbR.look s.l (f, q)).getD itZ), .bool (tbR.look s.l (f, q)).isSome]) ∧ Below w.heap.size w w' := by
  obtain ⟨O, h1, h2⟩ := h
  exact tb_get w O B s f q hk h1
theorem ot_copy (h : OneT W w B s) : Calls Try.prog 19 #[.pointer (some ⟨B, 0, none⟩)] w fun x w' => ∃ B', x = .returned (.pointer (some ⟨B', 0, none⟩)) ∧ TbP w' (fun k => w.heap.size ≤ k ∧ k < w'.heap.size) B' s ∧ Below w.heap.size w w' := by
  obtain ⟨O, h1, h2⟩ := h
  exact tb_copy w O B s h1
theorem ot_fit (h : OneT W w B s) (hs : TbOk s) (l : List NtV) (A : Option Addr) (ca : Nat) (hA : EnAt NtV.nc w A l) (hw : ∀ n ∈ l, n.wf) (hl : l.length ≤ 1000000) : Calls Try.prog 20 #[.pointer (some ⟨B, 0, none⟩), .slice A l.length ca] w fun x w' => x = .returned (.int .i64 (fitV s l : Int)) ∧ Below w.heap.size w w' := by
  obtain ⟨O, h1, h2⟩ := h
  exact tb_fit w O B s l A ca h1 hs hA hw hl
theorem du_do (h : DuT W w B1 B2 s1 s2) (hW : FrW W w) (hs : TbOk s1) (a : AcV) (hw : a.wf) : Calls Try.prog 12 #[.pointer (some ⟨B1, 0, none⟩), .agg #[.bool a.dr, .int .i64 a.n.k, .int .i64 a.n.f, .int .u64 a.n.q, .int .u64 a.n.t, .string a.n.d]] w fun x w' => DuT W w' B1 B2 (actT s1 a).1 s2 ∧ x = .returned (.int .i64 (actT s1 a).2) ∧ Fb W w w' := by
  obtain ⟨O1, O2, h1, h2, ht⟩ := h
  exact (tb_do w O1 B1 s1 a hw h1 hs (fun k hk => (ht.a k hk).2)).mono (fun x w' hx => ⟨⟨_, _, hx.2.1, h2.keeps hx.2.2 (fun k h2 h3 => ht.ne k h3 h2), ht.stepA hW hx.2.2.size⟩, hx.1, hx.2.2.mono (fun k _ hk => (ht.a k hk).1)⟩)
theorem dr_act (h : DuT W w B1 B2 s1 s2) (hW : FrW W w) (hs : TbOk s2) (a : AcV) (hw : a.wf) : Calls Try.prog 13 #[.pointer (some ⟨B2, 0, none⟩), .agg #[.bool a.dr, .int .i64 a.n.k, .int .i64 a.n.f, .int .u64 a.n.q, .int .u64 a.n.t, .string a.n.d]] w fun x w' => DuT W w' B1 B2 s1 (actT s2 a).1 ∧ x = .returned (.int .i64 (actT s2 a).2) ∧ Fb W w w' := by
  obtain ⟨O1, O2, h1, h2, ht⟩ := h
  exact (rt_act w O2 B2 s2 a hw h2 hs (fun k hk => (ht.b k hk).2)).mono (fun x w' hx => ⟨⟨_, _, h1.keeps hx.2.2 (fun k h2 h3 => ht.ne k h2 h3), hx.2.1, ht.stepB hW hx.2.2.size⟩, hx.1, hx.2.2.mono (fun k _ hk => (ht.b k hk).1)⟩)
theorem dr_get (h : DuT W w B1 B2 s1 s2) (hs : TbOk s2) (f q : Int) : Calls Try.prog 18 #[.pointer (some ⟨B2, 0, none⟩), .int .i64 f, .int .u64 q] w fun x w' => x = .returned (.tuple #[itV ((tbR.look s2.l (f, q)).getD itZ), .bool (tbR.look s2.l (f, q)).isSome]) ∧ Below w.heap.size w w' := by
  obtain ⟨O1, O2, h1, h2, ht⟩ := h
  exact rt_get w O2 B2 s2 f q h2 hs.sort (by have := hs.len; have := hs.r40; omega)
theorem dr_fit (h : DuT W w B1 B2 s1 s2) (hs : TbOk s2) (l : List NtV) (A : Option Addr) (ca : Nat) (hA : EnAt NtV.nc w A l) (hw : ∀ n ∈ l, n.wf) (hl : l.length ≤ 1000000) : Calls Try.prog 21 #[.pointer (some ⟨B2, 0, none⟩), .slice A l.length ca] w fun x w' => x = .returned (.int .i64 (fitV s2 l : Int)) ∧ Below w.heap.size w w' := by
  obtain ⟨O1, O2, h1, h2, ht⟩ := h
  exact rt_fit w O2 B2 s2 l A ca h2 (fun k hk => (ht.b k hk).2) hs hA hw hl
end
end Go.Proofs.Ytmckpoeolfggmaa
