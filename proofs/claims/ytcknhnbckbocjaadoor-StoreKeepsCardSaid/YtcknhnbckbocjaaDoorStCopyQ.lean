/- Contract of store's (pairs).copied. Condition: the map is small. -/
import Derived.WalkSpells
import Derived.Outline
import Derived.Test.YtcknhnbckbocjaaDoorStMapQ
namespace Go.Proofs.YtcknhnbckbocjaaDoor
open Go.RowKit Go.Maps
set_option linter.unusedVariables false
theorem mm_hint (n : Int) (w : World) : (Instr.makeMap 68 (some (.int .i64 n))).run Tryd.prog w = .ok (.map (some w.heap.size)) (w.alloc (.map #[] 0)) := by
  simp [Instr.makeMap, run_underlying Tryd.underlying68, asInt, asIntOf, Result.andThen]
/-- what was put into another map so far -/
structure Cop (l c m : List PairV) : Prop where
  s : SortL m
  e : ∀ k v, lk m k = some v ↔ (k, v) ∈ c
  n : m.length ≤ c.length
theorem Cop.start (l : List PairV) : Cop l [] [] := ⟨List.Pairwise.nil, fun k v => ⟨fun h => (by cases h), fun h => (by cases h)⟩, Nat.le_refl _⟩
theorem Cop.step {l c m : List PairV} (h : Cop l c m) {k v : ByteArray} (hn : (c ++ [(k, v)]).Pairwise (fun a b => a.1 ≠ b.1)) : Cop l (c ++ [(k, v)]) (insP m k v) := by
  refine ⟨sort_ins m k v h.s, fun j u => ?_, ?_⟩
  · rw [lk_ins]
    have h1 := (List.pairwise_append.1 hn).2.2
    by_cases e : j = k
    · rw [if_pos e]
      constructor
      · intro q; injection q with q; rw [e, q]; simp
      · intro q
        rcases List.mem_append.1 q with q | q
        · exact absurd e (h1 _ q (k, v) (by simp))
        · rw [List.mem_singleton] at q; injection q with q1 q2; rw [q2]
    · rw [if_neg e, h.e]
      constructor
      · exact fun q => List.mem_append_left _ q
      · intro q
        rcases List.mem_append.1 q with q | q
        · exact q
        · rw [List.mem_singleton] at q; injection q with q1 q2; exact absurd q1 e
  · rw [len_ins m k v h.s, List.length_append]
    have := h.n
    split <;> simp <;> omega
theorem Cop.done {l c m : List PairV} (h : Cop l c m) (hs : SortL l) (hm : ∀ k v, (k, v) ∈ c ↔ lk l k = some v) : m = l :=
  sort_ext m l h.s hs (fun x => ⟨fun hx => lk_mem l x.1 x.2 ((hm _ _).1 ((h.e _ _).1 (mem_lk m x.1 x.2 h.s hx))), fun hx => lk_mem m x.1 x.2 ((h.e _ _).2 ((hm _ _).2 (mem_lk l x.1 x.2 hs hx)))⟩)
set_option maxRecDepth 100000 in
set_option maxHeartbeats 2000000 in
theorem st_copied (M : Nat) (l : List PairV) (w : World) (hM : MapL w M l) (hl : smallP l) :
    Calls Tryd.prog 51 #[.map (some M)] w fun x w' => ∃ M', x = .returned (.map (some M')) ∧ w.heap.size ≤ M' ∧ MapL w' M' l ∧ Below w.heap.size w w' := by
  obtain ⟨hl1, hl2, hl3⟩ := hl
  have hlen := hM.len 3
  have hmm := mm_hint ((l.length : Int) + 1)
  have b1 := Kq.below_alloc w (.map #[] 0)
  have H1 := Lib.hid (And.intro (hM.below b1) (And.intro (MapL.made w) b1))
  have HL : Hid (l.length ≤ 4096 ∧ SortL l ∧ ∀ p ∈ l, p.1.size ≤ maxLen) := Lib.hid ⟨hl1, hl2, fun p hp => by have := hl3 p hp; unfold maxLen; omega⟩
  obtain ⟨n, D, hown, hcol, hdat⟩ := Col.start H1.out.1
  have HC := Lib.hid (And.intro hcol hdat)
  have HLT := Lib.hid hM.lt
  clear hcol hdat hl2 hl3 b1 hM
  go_enter Tryd.func51, Tryd.ntmps51
  go_wp2_with (first | (at_range; refine wpList_range_own _ rfl _ 68 rfl 9 9 kStr.K Tryd.underlying68 _ M n D rfl hown ?_; intro w0 hrg0 hg0 hs0))
  go_frame
  obtain ⟨r, hr0⟩ : ∃ r, r = (w.alloc (.map #[] 0)).heap.size := ⟨_, rfl⟩
  have hr : r = w.heap.size + 1 := by rw [hr0]; simp
  rw [← hr0] at hrg0 hs0 ⊢
  have H2 : Hid (w0.ranges Tryd.prog 9 (plainElem Tryd.prog 9) M r n D (Maps.has D) (Maps.size D) ∧ MapL w0 w.heap.size [] ∧ Below w.heap.size w w0 ∧ w.heap.size + 2 ≤ w0.heap.size) := Lib.hid (by
    have hk := Kq.Keeps.grown (S := fun _ => False) hg0 (fun k _ hk => by cases hk)
    exact ⟨hrg0, H1.out.2.1.keeps hk id, below_past H1.out.2.2 hk (by simp) (fun k _ h => h.elim), by omega⟩)
  clear hrg0 hg0 hs0 hown hlen hmm H1 hr0
  have HRR := Lib.hid hr
  clear hr
  go_loopw [] (fun wr => ∃ (c m : List PairV) (left : Lit → Bool) (cnt : Nat), wr.ranges Tryd.prog 9 (plainElem Tryd.prog 9) M r n D left cnt ∧ Col l c left cnt ∧ Cop l c m ∧ MapL wr w.heap.size m ∧ Below w.heap.size w wr ∧ w.heap.size + 2 ≤ wr.heap.size) (fun wr => wr.rangeLeft M r)
  case atStart => exact ⟨[], [], _, _, H2.out.1, HC.out.1, Cop.start l, H2.out.2.1, H2.out.2.2.1, H2.out.2.2.2⟩
  case round =>
    obtain ⟨c, m, left, cnt, hrg, hcol, hcop, hm, hb, hsz⟩ := hrel
    go_wp2_with (first | (at_next; refine next_col rfl _ rfl M r n D left cnt l c rfl hrg hcol HC.out.2 ?_ ?_))
    · intro hc0 hl0
      have HE := Lib.hid (And.intro (hcop.done HL.out.2.1 (hcol.done HL.out.2.2 hl0)) (And.intro hm hb))
      clear hrg hcol hcop hm hb hsz hc0 hl0
      go_wp2
      go_ret
      exact ⟨w.heap.size, rfl, Nat.le_refl _, HE.out.1 ▸ HE.out.2.1, HE.out.2.2⟩
    · intro k v w1 left' cnt' hk hv hlk hcol' hrg' hlt hg hs hen
      have hrr := HRR.out
      have hk1 := Kq.Keeps.grown (S := (· = r)) hg (fun k _ h => by injection h with h; exact h.symm)
      have hm1 := hm.keeps hk1 (by omega)
      have hb1 := below_past hb hk1 (Nat.le_refl _) (fun k _ h => by omega)
      have hnum := hcol'.num
      obtain ⟨w2, hrun, hm2, hk2⟩ := hm1.put hcop.s (by have := hcop.n; have := HL.out.1; simp only [List.length_append, List.length_cons, List.length_nil] at hnum; omega) k v hk hv
      have HR : Hid (w2.ranges Tryd.prog 9 (plainElem Tryd.prog 9) M r n D left' cnt' ∧ Cop l (c ++ [(k, v)]) (insP m k v) ∧ Col l (c ++ [(k, v)]) left' cnt' ∧ MapL w2 w.heap.size (insP m k v) ∧ Below w.heap.size w w2 ∧ w.heap.size + 2 ≤ w2.heap.size ∧ cnt' < cnt ∧ wr.rangeLeft M r = cnt) := Lib.hid (by
        have hgr : w1.grownBy w2 (some w.heap.size) := ⟨hk2.os, hk2.tape, hk2.output, hk2.size, fun i hi hr => hk2.block i hi (fun e => hr (by rw [e]))⟩
        have hM := HLT.out
        exact ⟨hrg'.kept hgr (fun e => by injection e with e; omega) (fun e => by injection e with e; omega), hcop.step hcol'.nd, hcol', hm2, below_past hb1 hk2 (Nat.le_refl _) (fun k _ h => by omega), by have := hk2.size; omega, hlt, hrg.left_eq⟩)
      clear hrg hcol hcop hm hb hsz hlk hcol' hrg' hlt hg hs hk1 hm1 hb1 hnum hm2 hk2 hrr
      go_wp2
      go_roundw
      case rel => exact ⟨c ++ [(k, v)], insP m k v, left', cnt', HR.out.1, HR.out.2.2.1, HR.out.2.1, HR.out.2.2.2.1, HR.out.2.2.2.2.1, HR.out.2.2.2.2.2.1⟩
      case measure => rw [HR.out.1.left_eq, HR.out.2.2.2.2.2.2.2]; exact HR.out.2.2.2.2.2.2.1
end Go.Proofs.YtcknhnbckbocjaaDoor
