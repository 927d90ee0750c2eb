/- Merged: StMap, StCopy. A map of texts as a list in order, in memory; a range over it that collects. No condition. Contract of store's (pairs).copied. Condition: the map is small. -/
import Derived.WalkSpells
import Derived.Outline
import Derived.Maps.OwnSet
import Derived.Maps.StringElems
import Derived.StringKeys
import Derived.Maps.RangeWalk
import Derived.Test.YtbjchfcoacmaaaaGreatDoorWidCQ
import Derived.Test.YtbjchfcoacmaaaaGreatDoorMapGQ
import Derived.Test.YtbjchfcoacmaaaaGreatDoorStRPairsQ
namespace Go.Proofs.YtbjchfcoacmaaaaGreatDoor
open Go.RowKit Go.Maps
set_option linter.unusedVariables false
theorem key_str_inv {v : Value} {kl : Lit} (h : keyOf Tryz.prog 9 v = some kl) : ∃ s : ByteArray, v = .string s ∧ s.size ≤ maxLen ∧ kl = .string s.data.toList := by
  have hk := Tryz.underlying9
  cases v <;> simp [keyOf, hk, mapKey] at h
  rename_i s
  exact ⟨s, rfl, h.1, h.2.symm⟩
set_option maxRecDepth 100000 in
noncomputable def kStr : Kq.KeyK Tryz.prog 9 ByteArray := ⟨string_keyed Tryz.underlying9, fun s => .string s, fun s => .string s.data.toList, fun s => s.size ≤ maxLen, fun s h => WideMaps.keyOf_string_mk Tryz.underlying9 h, fun a b h => by injection h⟩
theorem bytes_inj {a b : ByteArray} (h : a.data.toList = b.data.toList) : a = b := ByteArray.ext (Array.toList_inj.1 h)
set_option maxRecDepth 100000 in
noncomputable def eStr : Kq.ElK Tryz.prog 9 ByteArray := ⟨plainElem Tryz.prog 9, fun s => .string s, fun s => .lit (.string s.data.toList), fun s => s.size ≤ maxLen, ⟨#[]⟩, by decide, fun w => by kernel_rfl, fun b h => plainElem_string Tryz.underlying9 h, fun v z h => by obtain ⟨s, h1, h2, _⟩ := plainElem_string_inv Tryz.underlying9 h; exact ⟨s, h1, by rw [h2]⟩, fun a b h => by injection h with h; injection h with h; exact bytes_inj h⟩
set_option maxRecDepth 100000 in
/-- how many stand there is how many were put -/
theorem map_tight {w : World} {M N sz : Nat} {f : ByteArray → Option ByteArray} (h : Kq.MapG kStr eStr w M N f sz) : Kq.MapG kStr eStr w M sz f sz := by
  obtain ⟨n, D, hn, ⟨es, clock, hb, F, hs, hD⟩, hsz, hf⟩ := h.ex
  refine ⟨sz, D, Nat.le_refl _, ⟨es, clock, hb, F, ?_, hD⟩, hsz, hf⟩
  rw [← hsz, hD]
  have := length_read (P := Tryz.prog) (k := 9) (R0 := eStr.R) es
  unfold Maps.size
  simp only
  omega
/-- block M is the map l -/
def MapL (w : World) (M : Nat) (l : List PairV) : Prop := Kq.MapG kStr eStr w M l.length (lk l) l.length
section
variable {w w' : World} {M : Nat} {l : List PairV}
theorem MapL.lt (h : MapL w M l) : M < w.heap.size := Kq.MapG.lt h
theorem MapL.keeps {S : Nat → Prop} (h : MapL w M l) (hk : Kq.Keeps S w w') (hS : ¬ S M) : MapL w' M l := Kq.MapG.keeps h hk hS
theorem MapL.below (h : MapL w M l) (hb : Below w.heap.size w w') : MapL w' M l := Kq.MapG.below h hb
theorem MapL.made (w : World) : MapL (w.alloc (.map #[] 0)) w.heap.size [] := Kq.MapG.made kStr eStr w
theorem MapL.len (h : MapL w M l) (ty : TypeId) : (Builtin.len_ #[123] ty #[.map (some M)]).run Tryz.prog w = .ok (.int .i64 (l.length : Int)) w := Kq.MapG.len h Tryz.underlying123 ty
theorem MapL.look (h : MapL w M l) (k : ByteArray) (hk : k.size ≤ maxLen) : (Instr.lookup 123 (.map (some M)) (.string k) true).run Tryz.prog w = .ok (.tuple #[.string ((lk l k).getD ⟨#[]⟩), .bool (lk l k).isSome]) w := Kq.MapG.look h Tryz.underlying123 k hk
theorem MapL.put (h : MapL w M l) (hs : SortL l) (hl : l.length < 1000000000) (k v : ByteArray) (hk : k.size ≤ maxLen) (hv : v.size ≤ maxLen) :
    ∃ w', (Instr.mapUpdate 123 (.map (some M)) (.string k) (.string v)).run Tryz.prog w = .ok () w' ∧ MapL w' M (insP l k v) ∧ Kq.Keeps (· = M) w w' := by
  obtain ⟨w', h1, h2, h3⟩ := Kq.MapG.put h hl Tryz.underlying123 k hk v hv
  refine ⟨w', h1, ?_, h3⟩
  have h4 := map_tight h2
  unfold MapL
  have e1 : lk (insP l k v) = Kq.updG (lk l) k v := funext (fun j => by rw [lk_ins]; rfl)
  rw [e1, len_ins l k v hs]
  exact h4
theorem MapL.del (h : MapL w M l) (hs : SortL l) (k : ByteArray) (hk : k.size ≤ maxLen) (ty : TypeId) :
    ∃ w', (Builtin.delete_ #[123, 9] ty #[.map (some M), .string k]).run Tryz.prog w = .ok (.tuple #[]) w' ∧ MapL w' M (delP l k) ∧ Kq.Keeps (· = M) w w' := by
  obtain ⟨w', h1, h2, h3⟩ := Kq.MapG.del h Tryz.underlying123 k hk ty
  refine ⟨w', h1, ?_, h3⟩
  have h4 := map_tight h2
  unfold MapL
  have e1 : lk (delP l k) = Kq.delG (lk l) k := funext (fun j => by rw [lk_del l k j hs]; rfl)
  rw [e1, len_del l k]
  exact h4
end
/-- a range over the map l is under way: c came, left is still to come -/
structure Col (l c : List PairV) (left : Lit → Bool) (cnt : Nat) : Prop where
  nd : c.Pairwise (fun a b => a.1 ≠ b.1)
  mem : ∀ k v, (k, v) ∈ c → lk l k = some v
  seen : ∀ p ∈ c, left (.string p.1.data.toList) = false
  rest : ∀ k, k.size ≤ maxLen → (lk l k).isSome = true → left (.string k.data.toList) = true ∨ ∃ v, (k, v) ∈ c
  inn : ∀ k, k.size ≤ maxLen → left (.string k.data.toList) = true → (lk l k).isSome = true
  num : c.length + cnt ≤ l.length
/-- the datum of a map that is ranged over -/
def DatL (l : List PairV) (D : DataW Unit) : Prop := ∀ k : ByteArray, k.size ≤ maxLen → (lk l k).isSome = true → D.atKey (.string k.data.toList) (.lit (.string [])) = .lit (.string ((lk l k).getD ⟨#[]⟩).data.toList)
set_option maxRecDepth 100000 in
theorem Col.start {w : World} {M : Nat} {l : List PairV} (h : MapL w M l) : ∃ n, ∃ D : DataW Unit, w.ownsMap Tryz.prog 9 (plainElem Tryz.prog 9) M n D ∧ Col l [] (Maps.has D) (Maps.size D) ∧ DatL l D := by
  obtain ⟨n, D, hn, hown, hsz, hD⟩ := Kq.MapG.ex h
  refine ⟨n, D, hown, ⟨List.Pairwise.nil, fun k v h => (by cases h), fun p hp => (by cases hp), fun k hk hs => Or.inl ?_, fun k hk hl => ?_, (by simp; omega)⟩, fun k hk hs => ?_⟩
  · have := (hD k hk).1
    exact this.trans hs
  · have := (hD k hk).1
    exact this.symm.trans hl
  · exact (hD k hk).2
theorem Col.step {l c : List PairV} {left : Lit → Bool} {cnt cnt' : Nat} (h : Col l c left cnt) {k v : ByteArray} (hk : k.size ≤ maxLen) (hl : left (.string k.data.toList) = true) (hv : lk l k = some v) (hc : cnt' < cnt) :
    Col l (c ++ [(k, v)]) (fun z => left z && !z.sameKey (.string k.data.toList)) cnt' := by
  refine ⟨?_, fun k' v' hm => ?_, fun p hp => ?_, fun j hj hs => ?_, fun j hj hs => ?_, by have := h.num; simp; omega⟩
  · refine List.pairwise_append.2 ⟨h.nd, by simp, fun a ha b hb e => ?_⟩
    rw [List.mem_singleton] at hb
    subst hb
    have := h.seen a ha
    rw [e] at this
    rw [this] at hl
    cases hl
  · rcases List.mem_append.1 hm with hm | hm
    · exact h.mem k' v' hm
    · rw [List.mem_singleton] at hm
      injection hm with e1 e2
      rw [e1, e2]; exact hv
  · rcases List.mem_append.1 hp with hp | hp
    · show (left _ && _) = false
      rw [h.seen p hp]; rfl
    · rw [List.mem_singleton] at hp
      subst hp
      show (left _ && _) = false
      rw [WideAt.sameKey_self (show WideAt.IsKeyLit (.string k.data.toList) from trivial)]
      simp
  · rcases h.rest j hj hs with h1 | ⟨u, h1⟩
    · by_cases e : j = k
      · exact Or.inr ⟨v, by rw [e]; simp⟩
      · refine Or.inl ?_
        show (left _ && _) = true
        rw [h1]
        cases hq : (Lit.string j.data.toList).sameKey (.string k.data.toList) with
        | false => rfl
        | true =>
          have := WideAt.sameKey_eq hq
          injection this with this
          exact absurd (bytes_inj this) e
    · exact Or.inr ⟨u, List.mem_append_left _ h1⟩
  · have : left (.string j.data.toList) = true := by
      have h0 : (left (.string j.data.toList) && !(Lit.string j.data.toList).sameKey (.string k.data.toList)) = true := hs
      cases hq : left (.string j.data.toList) with
      | true => rfl
      | false => rw [hq] at h0; cases h0
    exact h.inn j hj this
theorem Col.done {l c : List PairV} {left : Lit → Bool} {cnt : Nat} (h : Col l c left cnt) (hl : ∀ p ∈ l, p.1.size ≤ maxLen) (h0 : ∀ kl, left kl = false) : ∀ k v, (k, v) ∈ c ↔ lk l k = some v := fun k v => by
  refine ⟨h.mem k v, fun hv => ?_⟩
  have hk := hl _ (lk_mem l k v hv)
  rcases h.rest k hk (by rw [hv]; rfl) with h1 | ⟨u, h1⟩
  · rw [h0] at h1; cases h1
  · have := h.mem k u h1
    rw [hv] at this
    injection this with this
    rw [this]; exact h1
section
variable {w : World} {ops : Array Oper} {rest : List Oper} {o : Oper} {a : Act} {Q : Exit → Act → World → Prop}
set_option maxRecDepth 100000 in
theorem next_col (hg : o.guard = none) (it : Operand) (hop : o.op = Op.next it false) (M r n : Nat) (D : DataW Unit) (left : Lit → Bool) (cnt : Nat) (l c : List PairV)
    (hit : a.eval it = .pointer (some ⟨r, 0, none⟩)) (h : w.ranges Tryz.prog 9 (plainElem Tryz.prog 9) M r n D left cnt) (hc : Col l c left cnt) (hd : DatL l D)
    (hDone : cnt = 0 → (∀ kl, left kl = false) → wpList Tryz.prog ops Q rest (a.put o.dst (.tuple #[.bool false])) w)
    (hMore : ∀ (k v : ByteArray) (w' : World) (left' : Lit → Bool) (cnt' : Nat), k.size ≤ maxLen → v.size ≤ maxLen → lk l k = some v → Col l (c ++ [(k, v)]) left' cnt' → w'.ranges Tryz.prog 9 (plainElem Tryz.prog 9) M r n D left' cnt' → cnt' < cnt →
      w.grownBy w' (some r) → w'.heap.size = w.heap.size → (Instr.entry (.pointer (some ⟨r, 0, none⟩))).run Tryz.prog w' = .ok (.tuple #[.string k, .string v]) w' → wpList Tryz.prog ops Q rest (a.put o.dst (.tuple #[.bool true, .string k, .string v])) w') :
    wpList Tryz.prog ops Q (o :: rest) a w :=
  wpList_next_ranges w hg it hop 9 kStr.K (plainElem Tryz.prog 9) (fun s : ByteArray => Value.string s) (fun s : ByteArray => Value.string s) (fun key kl hkey => by obtain ⟨s, h1, _⟩ := key_str_inv hkey; exact ⟨s, h1⟩) (fun v y hv => by obtain ⟨s, h1, _⟩ := plainElem_string_inv Tryz.underlying9 hv; exact ⟨s, h1⟩)
    M r n D left cnt hit h hDone (fun k v kl y w' cnt' hkey hlk hv hat hrg hlt hgr hsz hen => by
      obtain ⟨s, e, hks, rfl⟩ := key_str_inv hkey
      injection e with e
      subst e
      obtain ⟨u, e, rfl, hvs⟩ := plainElem_string_inv Tryz.underlying9 hv
      injection e with e
      subst e
      have hin := hc.inn k hks hlk
      have h1 := hd k hks hin
      rw [hat] at h1
      have h2 : v = (lk l k).getD ⟨#[]⟩ := by
        injection h1 with h1
        injection h1 with h1
        exact bytes_inj h1
      have h3 : lk l k = some v := by
        cases e : lk l k with
        | none => rw [e] at hin; cases hin
        | some u => rw [e] at h2; rw [h2]; rfl
      exact hMore k v w' _ cnt' hks hvs h3 (hc.step hks hlk h3 hlt) hrg hlt hgr hsz hen)
end
end Go.Proofs.YtbjchfcoacmaaaaGreatDoor
namespace Go.Proofs.YtbjchfcoacmaaaaGreatDoor
open Go.RowKit Go.Maps
set_option linter.unusedVariables false
theorem mm_hint (n : Int) (w : World) : (Instr.makeMap 123 (some (.int .i64 n))).run Tryz.prog w = .ok (.map (some w.heap.size)) (w.alloc (.map #[] 0)) := by
  simp [Instr.makeMap, run_underlying Tryz.underlying123, asInt, asIntOf, Result.andThen]
/-- what was put into another map so far -/
structure Cop (l c m : List PairV) : Prop where
  s : SortL m
  e : ∀ k v, lk m k = some v ↔ (k, v) ∈ c
  n : m.length ≤ c.length
theorem Cop.start (l : List PairV) : Cop l [] [] := ⟨List.Pairwise.nil, fun k v => ⟨fun h => (by cases h), fun h => (by cases h)⟩, Nat.le_refl _⟩
theorem Cop.step {l c m : List PairV} (h : Cop l c m) {k v : ByteArray} (hn : (c ++ [(k, v)]).Pairwise (fun a b => a.1 ≠ b.1)) : Cop l (c ++ [(k, v)]) (insP m k v) := by
  refine ⟨sort_ins m k v h.s, fun j u => ?_, ?_⟩
  · rw [lk_ins]
    have h1 := (List.pairwise_append.1 hn).2.2
    by_cases e : j = k
    · rw [if_pos e]
      constructor
      · intro q; injection q with q; rw [e, q]; simp
      · intro q
        rcases List.mem_append.1 q with q | q
        · exact absurd e (h1 _ q (k, v) (by simp))
        · rw [List.mem_singleton] at q; injection q with q1 q2; rw [q2]
    · rw [if_neg e, h.e]
      constructor
      · exact fun q => List.mem_append_left _ q
      · intro q
        rcases List.mem_append.1 q with q | q
        · exact q
        · rw [List.mem_singleton] at q; injection q with q1 q2; exact absurd q1 e
  · rw [len_ins m k v h.s, List.length_append]
    have := h.n
    split <;> simp <;> omega
theorem Cop.done {l c m : List PairV} (h : Cop l c m) (hs : SortL l) (hm : ∀ k v, (k, v) ∈ c ↔ lk l k = some v) : m = l :=
  sort_ext m l h.s hs (fun x => ⟨fun hx => lk_mem l x.1 x.2 ((hm _ _).1 ((h.e _ _).1 (mem_lk m x.1 x.2 h.s hx))), fun hx => lk_mem m x.1 x.2 ((h.e _ _).2 ((hm _ _).2 (mem_lk l x.1 x.2 hs hx)))⟩)
set_option maxRecDepth 100000 in
set_option maxHeartbeats 2000000 in
theorem st_copied (M : Nat) (l : List PairV) (w : World) (hM : MapL w M l) (hl : smallP l) :
    Calls Tryz.prog 149 #[.map (some M)] w fun x w' => ∃ M', x = .returned (.map (some M')) ∧ w.heap.size ≤ M' ∧ MapL w' M' l ∧ Below w.heap.size w w' := by
  obtain ⟨hl1, hl2, hl3⟩ := hl
  have hlen := hM.len 3
  have hmm := mm_hint ((l.length : Int) + 1)
  have b1 := Kq.below_alloc w (.map #[] 0)
  have H1 := Lib.hid (And.intro (hM.below b1) (And.intro (MapL.made w) b1))
  have HL : Hid (l.length ≤ 4096 ∧ SortL l ∧ ∀ p ∈ l, p.1.size ≤ maxLen) := Lib.hid ⟨hl1, hl2, fun p hp => by have := hl3 p hp; unfold maxLen; omega⟩
  obtain ⟨n, D, hown, hcol, hdat⟩ := Col.start H1.out.1
  have HC := Lib.hid (And.intro hcol hdat)
  have HLT := Lib.hid hM.lt
  clear hcol hdat hl2 hl3 b1 hM
  go_enter Tryz.func149, Tryz.ntmps149
  go_wp2_with (first | (at_range; refine wpList_range_own _ rfl _ 123 rfl 9 9 kStr.K Tryz.underlying123 _ M n D rfl hown ?_; intro w0 hrg0 hg0 hs0))
  go_frame
  obtain ⟨r, hr0⟩ : ∃ r, r = (w.alloc (.map #[] 0)).heap.size := ⟨_, rfl⟩
  have hr : r = w.heap.size + 1 := by rw [hr0]; simp
  rw [← hr0] at hrg0 hs0 ⊢
  have H2 : Hid (w0.ranges Tryz.prog 9 (plainElem Tryz.prog 9) M r n D (Maps.has D) (Maps.size D) ∧ MapL w0 w.heap.size [] ∧ Below w.heap.size w w0 ∧ w.heap.size + 2 ≤ w0.heap.size) := Lib.hid (by
    have hk := Kq.Keeps.grown (S := fun _ => False) hg0 (fun k _ hk => by cases hk)
    exact ⟨hrg0, H1.out.2.1.keeps hk id, below_past H1.out.2.2 hk (by simp) (fun k _ h => h.elim), by omega⟩)
  clear hrg0 hg0 hs0 hown hlen hmm H1 hr0
  have HRR := Lib.hid hr
  clear hr
  go_loopw [] (fun wr => ∃ (c m : List PairV) (left : Lit → Bool) (cnt : Nat), wr.ranges Tryz.prog 9 (plainElem Tryz.prog 9) M r n D left cnt ∧ Col l c left cnt ∧ Cop l c m ∧ MapL wr w.heap.size m ∧ Below w.heap.size w wr ∧ w.heap.size + 2 ≤ wr.heap.size) (fun wr => wr.rangeLeft M r)
  case atStart => exact ⟨[], [], _, _, H2.out.1, HC.out.1, Cop.start l, H2.out.2.1, H2.out.2.2.1, H2.out.2.2.2⟩
  case round =>
    obtain ⟨c, m, left, cnt, hrg, hcol, hcop, hm, hb, hsz⟩ := hrel
    go_wp2_with (first | (at_next; refine next_col rfl _ rfl M r n D left cnt l c rfl hrg hcol HC.out.2 ?_ ?_))
    · intro hc0 hl0
      have HE := Lib.hid (And.intro (hcop.done HL.out.2.1 (hcol.done HL.out.2.2 hl0)) (And.intro hm hb))
      clear hrg hcol hcop hm hb hsz hc0 hl0
      go_wp2
      go_ret
      exact ⟨w.heap.size, rfl, Nat.le_refl _, HE.out.1 ▸ HE.out.2.1, HE.out.2.2⟩
    · intro k v w1 left' cnt' hk hv hlk hcol' hrg' hlt hg hs hen
      have hrr := HRR.out
      have hk1 := Kq.Keeps.grown (S := (· = r)) hg (fun k _ h => by injection h with h; exact h.symm)
      have hm1 := hm.keeps hk1 (by omega)
      have hb1 := below_past hb hk1 (Nat.le_refl _) (fun k _ h => by omega)
      have hnum := hcol'.num
      obtain ⟨w2, hrun, hm2, hk2⟩ := hm1.put hcop.s (by have := hcop.n; have := HL.out.1; simp only [List.length_append, List.length_cons, List.length_nil] at hnum; omega) k v hk hv
      have HR : Hid (w2.ranges Tryz.prog 9 (plainElem Tryz.prog 9) M r n D left' cnt' ∧ Cop l (c ++ [(k, v)]) (insP m k v) ∧ Col l (c ++ [(k, v)]) left' cnt' ∧ MapL w2 w.heap.size (insP m k v) ∧ Below w.heap.size w w2 ∧ w.heap.size + 2 ≤ w2.heap.size ∧ cnt' < cnt ∧ wr.rangeLeft M r = cnt) := Lib.hid (by
        have hgr : w1.grownBy w2 (some w.heap.size) := ⟨hk2.os, hk2.tape, hk2.output, hk2.size, fun i hi hr => hk2.block i hi (fun e => hr (by rw [e]))⟩
        have hM := HLT.out
        exact ⟨hrg'.kept hgr (fun e => by injection e with e; omega) (fun e => by injection e with e; omega), hcop.step hcol'.nd, hcol', hm2, below_past hb1 hk2 (Nat.le_refl _) (fun k _ h => by omega), by have := hk2.size; omega, hlt, hrg.left_eq⟩)
      clear hrg hcol hcop hm hb hsz hlk hcol' hrg' hlt hg hs hk1 hm1 hb1 hnum hm2 hk2 hrr
      go_wp2
      go_roundw
      case rel => exact ⟨c ++ [(k, v)], insP m k v, left', cnt', HR.out.1, HR.out.2.2.1, HR.out.2.1, HR.out.2.2.2.1, HR.out.2.2.2.2.1, HR.out.2.2.2.2.2.1⟩
      case measure => rw [HR.out.1.left_eq, HR.out.2.2.2.2.2.2.2]; exact HR.out.2.2.2.2.2.2.1
end Go.Proofs.YtbjchfcoacmaaaaGreatDoor
