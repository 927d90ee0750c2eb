/- Merged: TbMap, TbMap2. A table's map in memory: keyed by names, of items; a range over it that collects. No condition. A table's map as a list in order; a range over it that collects its items. No condition. -/
import Derived.WalkSpells
import Derived.Outline
import Derived.Maps.OwnSet
import Derived.Maps.RangeWalk
import Derived.DeepKeys4
import Derived.Test.YtkbiolhcpghmkaaGreatMapGQ
import Derived.Test.YtkbiolhcpghmkaaGreatRefValQ
namespace Go.Proofs.YtkbiolhcpghmkaaGreat
open Go.RowKit Go.Maps Go.Kq
set_option linter.unusedVariables false
theorem lawNm : Keyed Tryz.prog 92 := Keyed.of_law (deep_law_laid (m := 9) (by kernel_rfl) (by decide) (of_decide_eq_true (by kernel_rfl)) (by kernel_rfl) (by kernel_rfl))
def nmV (a : NmV) : Value := .agg #[.int .i64 a.1, .int .u64 a.2]
def nmL (a : NmV) : List Lit := [.int .i64 a.1, .int .u64 a.2]
def nmW (a : NmV) : Prop := (Lit.int .i64 a.1).wf = true ∧ (Lit.int .u64 a.2).wf = true
theorem nm_ok {n : NtV} (h : PkOk n.p) (hw : n.wf) : nmW n.nm := by
  have h1 : 0 ≤ n.f := h.1
  have h2 : n.f ≤ 1 := h.2.1
  have h3 := hw.1
  constructor
  · show (Lit.int .i64 n.f).wf = true
    simp [Lit.wf, IntKind.min, IntKind.max, IntKind.signed, IntKind.bits]; omega
  · show (Lit.int .u64 n.q).wf = true
    simp [Lit.wf, IntKind.min, IntKind.max, IntKind.signed, IntKind.bits]; omega
set_option maxRecDepth 100000 in
theorem lits_nm (a : NmV) (h : nmW a) (d : Nat) : Tryz.prog.keyLits (d + 2) 92 [.int .i64 a.1, .int .u64 a.2] = some (nmL a) := by
  have k1 : Tryz.prog.cellsOf 3 = 1 := by kernel_rfl
  have k3 : Tryz.prog.cellsOf 22 = 1 := by kernel_rfl
  have k4 : Tryz.prog.cellsOf 92 = 2 := by kernel_rfl
  unfold Program.keyLits
  rw [Tryz.underlying92]
  simp [k4, k1, k3, Program.keyLits, Tryz.underlying3, Tryz.underlying22, h.1, h.2, nmL]
theorem key_nm (a : NmV) (h : nmW a) : keyOf Tryz.prog 92 (nmV a) = some (.string (keyBytes (nmL a))) := by
  obtain ⟨d, hd⟩ : ∃ d, Tryz.prog.types.size + 1 = d + 2 := ⟨Tryz.prog.types.size - 1, by kernel_rfl⟩
  have hl := lits_nm a h d
  have hk : Tryz.prog.keyType 92 = true := by kernel_rfl
  have k4 : Tryz.prog.cellsOf 92 = 2 := by kernel_rfl
  unfold keyOf
  rw [Tryz.underlying92, hd]
  have hf : (nmV a).formed Tryz.prog 92 = true := by
    unfold nmV Value.formed
    rw [Tryz.underlying92]
    simp [k4]
  simp only [hk, hf, Bool.and_self, if_true]
  rw [show (nmV a).cells.toList = [.int .i64 a.1, .int .u64 a.2] from rfl, hl]
  rfl
noncomputable def kNm : Kq.KeyK Tryz.prog 92 NmV := ⟨lawNm, nmV, fun a => .string (keyBytes (nmL a)), nmW, key_nm, fun a b h => by
  obtain ⟨a1, a2⟩ := a
  obtain ⟨b1, b2⟩ := b
  simp only [nmV, Value.agg.injEq, Array.mk.injEq, List.cons.injEq, Value.int.injEq, true_and, and_true] at h
  obtain ⟨h1, h2⟩ := h
  rw [h1, h2]⟩
set_option maxRecDepth 100000 in
theorem key_nm_inv {v : Value} {kl : Lit} (h : keyOf Tryz.prog 92 v = some kl) : ∃ a, v = nmV a ∧ nmW a ∧ kl = .string (keyBytes (nmL a)) := by
  obtain ⟨d, hd⟩ : ∃ d, Tryz.prog.types.size + 1 = d + 2 := ⟨Tryz.prog.types.size - 1, by kernel_rfl⟩
  have k4 : Tryz.prog.cellsOf 92 = 2 := by kernel_rfl
  have k1 : Tryz.prog.cellsOf 3 = 1 := by kernel_rfl
  have k3 : Tryz.prog.cellsOf 22 = 1 := by kernel_rfl
  unfold keyOf at h
  rw [Tryz.underlying92, hd] at h
  simp only at h
  split at h
  · rename_i hc
    rw [Bool.and_eq_true] at hc
    have hf := hc.2
    unfold Value.formed at hf
    rw [Tryz.underlying92] at hf
    cases v with
    | agg cs =>
      simp only [beq_iff_eq] at hf
      rw [k4] at hf
      obtain ⟨l⟩ := cs
      have hl : l.length = 2 := hf
      match l, hl with
      | [c0, c1], _ =>
        unfold Program.keyLits at h
        rw [Tryz.underlying92] at h
        simp [k4, k1, k3, Program.keyLits, Tryz.underlying3, Tryz.underlying22, Value.cells] at h
        cases c0 <;> simp at h
        rename_i k0 n0 _
        by_cases g0 : k0 = .i64 ∧ (Lit.int .i64 n0).wf = true
        · rw [if_pos g0] at h
          cases c1 <;> simp at h
          rename_i k1 n1 _
          by_cases g1 : k1 = .u64 ∧ (Lit.int .u64 n1).wf = true
          · rw [if_pos g1] at h
            simp at h
            obtain ⟨rfl, g0⟩ := g0
            obtain ⟨rfl, g1⟩ := g1
            exact ⟨(n0, n1), rfl, ⟨g0, g1⟩, by rw [← h]; rfl⟩
          · rw [if_neg g1] at h
            simp at h
        · rw [if_neg g0] at h
          simp at h
    | _ => simp at hf
  · cases h
/-- an item, as a value; as a datum -/
def itV (n : NtV) : Value := .agg #[.int .i64 n.f, .int .u64 n.q, .int .u64 n.t, .string n.d, .int .i64 n.k]
def itD (n : NtV) : DataW Unit := .agg [.lit (.int .i64 n.f), .lit (.int .u64 n.q), .lit (.int .u64 n.t), .lit (.string n.d.data.toList), .lit (.int .i64 n.k)]
def itR : Value → Option (DataW Unit × List MemPlace)
  | .agg ⟨[.int .i64 f, .int .u64 q, .int .u64 t, .string d, .int .i64 k]⟩ => some (itD ⟨k, f, q, t, d⟩, [])
  | _ => none
theorem bytes_injT {a b : ByteArray} (h : a.data.toList = b.data.toList) : a = b := ByteArray.ext (Array.toList_inj.1 h)
theorem itD_inj {a b : NtV} (h : itD a = itD b) : a = b := by
  obtain ⟨k, f, q, t, d⟩ := a
  obtain ⟨k', f', q', t', d'⟩ := b
  simp only [itD, DataW.agg.injEq, List.cons.injEq, DataW.lit.injEq, Lit.int.injEq, Lit.string.injEq, true_and, and_true] at h
  obtain ⟨h1, h2, h3, h4, h5⟩ := h
  rw [h1, h2, h3, bytes_injT h4, h5]
theorem itR_inv {v : Value} {z : DataW Unit × List MemPlace} (h : itR v = some z) : ∃ n, v = itV n ∧ z.1 = itD n := by
  unfold itR at h
  split at h
  · rename_i f q t d k
    injection h with h
    exact ⟨⟨k, f, q, t, d⟩, rfl, by rw [← h]⟩
  · cases h
noncomputable def eIt : Kq.ElK Tryz.prog 51 NtV := ⟨itR, itV, itD, fun _ => True, ⟨0, 0, 0, 0, ⟨#[]⟩⟩, trivial, fun w => by kernel_rfl, fun b _ => rfl, fun v z h => itR_inv h, fun a b h => itD_inj h⟩
end Go.Proofs.YtkbiolhcpghmkaaGreat
namespace Go.Proofs.YtkbiolhcpghmkaaGreat
open Go.RowKit Go.Maps Go.Kq
set_option linter.unusedVariables false
theorem map_tightT {w : World} {M N sz : Nat} {f : NmV → Option NtV} (h : Kq.MapG kNm eIt w M N f sz) : Kq.MapG kNm eIt w M sz f sz := by
  obtain ⟨n, D, hn, ⟨es, clock, hb, F, hs, hD⟩, hsz, hf⟩ := h.ex
  refine ⟨sz, D, Nat.le_refl _, ⟨es, clock, hb, F, ?_, hD⟩, hsz, hf⟩
  rw [← hsz, hD]
  have := length_read (P := Tryz.prog) (k := 92) (R0 := eIt.R) es
  unfold Maps.size
  simp only
  omega
/-- block M is the map of the items l -/
def MapT (w : World) (M : Nat) (l : List NtV) : Prop := Kq.MapG kNm eIt w M l.length (fun a => tbR.look l a) l.length
section
variable {w w' : World} {M : Nat} {l : List NtV}
theorem MapT.lt (h : MapT w M l) : M < w.heap.size := Kq.MapG.lt h
theorem MapT.keeps {S : Nat → Prop} (h : MapT w M l) (hk : Kq.Keeps S w w') (hS : ¬ S M) : MapT w' M l := Kq.MapG.keeps h hk hS
theorem MapT.below (h : MapT w M l) (hb : Below w.heap.size w w') : MapT w' M l := Kq.MapG.below h hb
theorem MapT.made (w : World) : MapT (w.alloc (.map #[] 0)) w.heap.size [] := Kq.MapG.made kNm eIt w
theorem MapT.obj (h : MapT w M l) : ∃ es cl, w.heap[M]? = some (.map es cl) := by
  obtain ⟨n, D, _, ⟨es, cl, hb, _⟩, _⟩ := Kq.MapG.ex h
  exact ⟨es, cl, hb⟩
theorem MapT.len (h : MapT w M l) (ty : TypeId) : (Builtin.len_ #[88] ty #[.map (some M)]).run Tryz.prog w = .ok (.int .i64 (l.length : Int)) w := Kq.MapG.len h Tryz.underlying88 ty
def itZ : NtV := ⟨0, 0, 0, 0, ⟨#[]⟩⟩
theorem MapT.look (h : MapT w M l) (f q : Int) (hk : nmW (f, q)) : (Instr.lookup 88 (.map (some M)) (.agg #[.int .i64 f, .int .u64 q]) true).run Tryz.prog w = .ok (.tuple #[itV ((tbR.look l (f, q)).getD itZ), .bool (tbR.look l (f, q)).isSome]) w := Kq.MapG.look h Tryz.underlying88 (f, q) hk
theorem MapT.put (h : MapT w M l) (hs : tbR.Sort l) (hl : l.length < 1000000000) (n : NtV) (hk : nmW n.nm) :
    ∃ w', (Instr.mapUpdate 88 (.map (some M)) (.agg #[.int .i64 n.f, .int .u64 n.q]) (itV n)).run Tryz.prog w = .ok () w' ∧ MapT w' M (tbR.ins l n) ∧ Kq.Keeps (· = M) w w' := by
  obtain ⟨w', h1, h2, h3⟩ := Kq.MapG.put h hl Tryz.underlying88 n.nm hk n trivial
  refine ⟨w', h1, ?_, h3⟩
  have h4 := map_tightT h2
  unfold MapT
  have e1 : (fun a => tbR.look (tbR.ins l n) a) = Kq.updG (fun a => tbR.look l a) n.nm n := funext (fun j => by rw [Ord.look_ins]; rfl)
  rw [e1, Ord.len_ins l n hs]
  exact h4
theorem MapT.del (h : MapT w M l) (hs : tbR.Sort l) (f q : Int) (hk : nmW (f, q)) (ty : TypeId) :
    ∃ w', (Builtin.delete_ #[88, 92] ty #[.map (some M), .agg #[.int .i64 f, .int .u64 q]]).run Tryz.prog w = .ok (.tuple #[]) w' ∧ MapT w' M (tbR.del l (f, q)) ∧ Kq.Keeps (· = M) w w' := by
  obtain ⟨w', h1, h2, h3⟩ := Kq.MapG.del h Tryz.underlying88 (f, q) hk ty
  refine ⟨w', h1, ?_, h3⟩
  have h4 := map_tightT h2
  unfold MapT
  have e1 : (fun a => tbR.look (tbR.del l (f, q)) a) = Kq.delG (fun a => tbR.look l a) (f, q) := funext (fun j => by rw [Ord.look_del l (f, q) j hs]; rfl)
  rw [e1, Ord.len_del l (f, q)]
  exact h4
/-- another block with the same entries -/
theorem MapT.copy (h : MapT w M l) {es : Array MapEntry} {cl : Nat} (hb : w.heap[M]? = some (.map es cl)) : MapT (w.alloc (.map es cl)) w.heap.size l := by
  obtain ⟨n, D, hn, ⟨es', cl', hb', F, hs, hD⟩, r⟩ := Kq.MapG.ex h
  rw [hb] at hb'
  injection hb' with hb'
  injection hb' with e1 e2
  subst e1 e2
  exact ⟨n, D, hn, ⟨es, cl, (MapKept.heap_alloc w _).1, F, hs, hD⟩, r⟩
end
/-- a name's key -/
def keyNmT (a : NmV) : Lit := .string (keyBytes (nmL a))
/-- a range over the map l is under way: c came, left is still to come -/
structure ColT (l c : List NtV) (left : Lit → Bool) (cnt : Nat) : Prop where
  nd : c.Pairwise (fun a b => a.nm ≠ b.nm)
  mem : ∀ x ∈ c, x ∈ l
  seen : ∀ x ∈ c, left (keyNmT x.nm) = false
  rest : ∀ x ∈ l, left (keyNmT x.nm) = true ∨ x ∈ c
  inn : ∀ a, nmW a → left (keyNmT a) = true → (tbR.look l a).isSome = true
  num : c.length + cnt ≤ l.length
def DatT (l : List NtV) (D : DataW Unit) : Prop := ∀ a, nmW a → (tbR.look l a).isSome = true → D.atKey (keyNmT a) (itD itZ) = itD ((tbR.look l a).getD itZ)
theorem ColT.start {w : World} {M : Nat} {l : List NtV} (hs : tbR.Sort l) (hw : ∀ x ∈ l, nmW x.nm) (h : MapT w M l) : ∃ n, ∃ D : DataW Unit, w.ownsMap Tryz.prog 92 itR M n D ∧ ColT l [] (Maps.has D) (Maps.size D) ∧ DatT l D := by
  obtain ⟨n, D, hn, hown, hsz, hD⟩ := Kq.MapG.ex h
  refine ⟨n, D, hown, ⟨List.Pairwise.nil, fun x h => (by cases h), fun x h => (by cases h), fun x hx => Or.inl ?_, fun a ha hl => ?_, (by simp; omega)⟩, fun a ha hs => ?_⟩
  · have := (hD x.nm (hw x hx)).1
    refine this.trans ?_
    rw [show tbR.look l x.nm = some x from Ord.mem_look l x hs hx]; rfl
  · exact ((hD a ha).1).symm.trans hl
  · exact (hD a ha).2
theorem key_neT {a b : NmV} (ha : nmW a) (hb : nmW b) (h : a ≠ b) : keyNmT a ≠ keyNmT b := kNm.key_ne ha hb h
theorem ColT.step {l c : List NtV} {left : Lit → Bool} {cnt cnt' : Nat} (h : ColT l c left cnt) (hw : ∀ x ∈ l, nmW x.nm) {x : NtV} (hx : x ∈ l) (hs : tbR.Sort l) (hl : left (keyNmT x.nm) = true) (hc : cnt' < cnt) :
    ColT l (c ++ [x]) (fun z => left z && !z.sameKey (keyNmT x.nm)) cnt' := by
  refine ⟨?_, fun y hy => ?_, fun y hy => ?_, fun y hy => ?_, fun a ha hz => ?_, by have := h.num; simp; omega⟩
  · refine List.pairwise_append.2 ⟨h.nd, by simp, fun a ha b hb e => ?_⟩
    rw [List.mem_singleton] at hb
    subst hb
    have := h.seen a ha
    rw [e] at this
    rw [this] at hl
    cases hl
  · rcases List.mem_append.1 hy with hy | hy
    · exact h.mem y hy
    · rw [List.mem_singleton.1 hy]; exact hx
  · rcases List.mem_append.1 hy with hy | hy
    · show (left _ && _) = false
      rw [h.seen y hy]; rfl
    · rw [List.mem_singleton] at hy
      subst hy
      show (left _ && _) = false
      rw [WideAt.sameKey_self (show WideAt.IsKeyLit (keyNmT y.nm) from trivial)]
      simp
  · rcases h.rest y hy with h1 | h1
    · by_cases e : y.nm = x.nm
      · refine Or.inr ?_
        have h2 := Ord.mem_look l y hs hy
        have h3 := Ord.mem_look l x hs hx
        rw [show tbR.key y = tbR.key x from e, h3] at h2
        injection h2 with h2
        rw [h2]; simp
      · refine Or.inl ?_
        show (left _ && _) = true
        rw [h1]
        cases hq : (keyNmT y.nm).sameKey (keyNmT x.nm) with
        | false => rfl
        | true => exact absurd (WideAt.sameKey_eq hq) (key_neT (hw y hy) (hw x hx) e)
    · exact Or.inr (List.mem_append_left _ h1)
  · have : left (keyNmT a) = true := by
      have h0 : (left (keyNmT a) && !(keyNmT a).sameKey (keyNmT x.nm)) = true := hz
      cases hq : left (keyNmT a) with
      | true => rfl
      | false => rw [hq] at h0; cases h0
    exact h.inn a ha this
theorem ColT.done {l c : List NtV} {left : Lit → Bool} {cnt : Nat} (h : ColT l c left cnt) (h0 : ∀ kl, left kl = false) : ∀ x, x ∈ c ↔ x ∈ l := fun x => by
  refine ⟨h.mem x, fun hx => ?_⟩
  rcases h.rest x hx with h1 | h1
  · rw [h0] at h1; cases h1
  · exact h1
section
variable {w : World} {ops : Array Oper} {rest : List Oper} {o : Oper} {a : Act} {Q : Exit → Act → World → Prop}
set_option maxRecDepth 100000 in
theorem next_colT (hg : o.guard = none) (it : Operand) (hop : o.op = Op.next it false) (M r n : Nat) (D : DataW Unit) (left : Lit → Bool) (cnt : Nat) (l c : List NtV) (hs : tbR.Sort l) (hw : ∀ x ∈ l, nmW x.nm)
    (hit : a.eval it = .pointer (some ⟨r, 0, none⟩)) (h : w.ranges Tryz.prog 92 itR M r n D left cnt) (hc : ColT l c left cnt) (hd : DatT l D)
    (hDone : cnt = 0 → (∀ kl, left kl = false) → wpList Tryz.prog ops Q rest (a.put o.dst (.tuple #[.bool false])) w)
    (hMore : ∀ (x : NtV) (w' : World) (left' : Lit → Bool) (cnt' : Nat), x ∈ l → ColT l (c ++ [x]) left' cnt' → w'.ranges Tryz.prog 92 itR M r n D left' cnt' → cnt' < cnt →
      w.grownBy w' (some r) → w'.heap.size = w.heap.size → (Instr.entry (.pointer (some ⟨r, 0, none⟩))).run Tryz.prog w' = .ok (.tuple #[nmV x.nm, itV x]) w' → wpList Tryz.prog ops Q rest (a.put o.dst (.tuple #[.bool true, nmV x.nm, itV x])) w') :
    wpList Tryz.prog ops Q (o :: rest) a w :=
  wpList_next_ranges w hg it hop 92 kNm.K itR nmV itV (fun key kl hkey => by obtain ⟨s, h1, _⟩ := key_nm_inv hkey; exact ⟨s, h1⟩) (fun v y hv => by obtain ⟨s, h1, _⟩ := itR_inv hv; exact ⟨s, h1⟩)
    M r n D left cnt hit h hDone (fun k v kl y w' cnt' hkey hlk hv hat hrg hlt hgr hsz hen => by
      obtain ⟨s, e, hks, rfl⟩ := key_nm_inv hkey
      have e : k = s := kNm.inj _ _ e
      subst e
      obtain ⟨u, e, hy⟩ := itR_inv hv
      have e : v = u := eIt.inj _ _ (by have h1 := eIt.rd v trivial; have h2 := eIt.rd u trivial; have e' : eIt.val v = eIt.val u := e; rw [e', h2] at h1; injection h1 with h1; injection h1 with h1 h1'; exact h1.symm)
      subst e
      have hin := hc.inn k hks hlk
      have h1 := hd k hks hin
      have h3 : tbR.look l k = some v := by
        cases e : tbR.look l k with
        | none => rw [e] at hin; cases hin
        | some u =>
          rw [e] at h1
          have h2 : D.atKey (keyNmT k) (itD itZ) = itD v := by rw [← hy]; exact hat _
          rw [h2] at h1
          rw [itD_inj h1]; rfl
      have hm := Ord.look_mem l k v h3
      have hk : v.nm = k := hm.2
      subst hk
      exact hMore v w' _ cnt' hm.1 (hc.step hw hm.1 hs hlk hlt) hrg hlt hgr hsz hen)
end
end Go.Proofs.YtkbiolhcpghmkaaGreat
