/- Merged: WireWr, WireWr2. Contracts of wire's writer. Condition: lengths within the reach of memory, a writer is one that its methods made. Contracts of wire's writer, more: what doesn't fit; raw bytes. Condition: lengths within the reach of memory. -/
import Derived.WalkSpells
import Derived.Test.YtjilbcefikbihaaBufQ
import Derived.Test.YtjilbcefikbihaaWireRdQ
namespace Go.Proofs.Ytjilbcefikbihaa
open Go.RowKit
set_option linter.unusedVariables false
def bcells (l : List Nat) : List Value := l.map fun (b : Nat) => Value.int .u8 (b : Int)
theorem bcells_append (l m : List Nat) : bcells (l ++ m) = bcells l ++ bcells m := List.map_append
/-- a writer in block B that remembers e and has written l, in the row that v begins -/
structure Wr (w : World) (base B : Nat) (e : Int) (v : Value) (l : List Nat) : Prop where
  blk : w.heap[B]? = some (.cells #[.int .i64 e, v] 78 (0, 0))
  own : w.ownsRow base 5 1 v l.length (bcells l)
  ne : ∀ k, v.ownBlock = some k → k ≠ B
  base : base ≤ w.heap.size
/-- what a call that writes leaves -/
def WrPost (w : World) (base B : Nat) (e : Int) (v : Value) (l : List Nat) (x : Ending) (w' : World) : Prop :=
  x = .returned (.tuple #[]) ∧ ∃ v', Wr w' base B e v' l ∧ Kq.Keeps (fun k => k = B ∨ some k = v.ownBlock) w w' ∧ (∀ k, v'.ownBlock = some k → some k = v.ownBlock ∨ w.heap.size ≤ k)
theorem Wr.close {w wa w1 : World} {base B : Nat} {e : Int} {v v' : Value} {l ns : List Nat} (h : Wr w base B e v l) (ha : Below w.heap.size w wa)
    (hown : w1.ownsRow base 5 1 v' (l.length + ns.length) (bcells l ++ bcells ns)) (hg : wa.grownBy w1 v.ownBlock) (hf : ∀ k, v'.ownBlock = some k → some k = v.ownBlock ∨ wa.heap.size ≤ k) :
    WrPost w base B e v (l ++ ns) (.returned (.tuple #[])) (w1.setCell ⟨B, 1, none⟩ v') := by
  have hB : B < w.heap.size := Kq.blk_lt h.blk
  have hBa := Kq.below_blk ha h.blk hB
  have hB1 : w1.heap[B]? = some (.cells #[.int .i64 e, v] 78 (0, 0)) := by
    rw [hg.block B (Nat.lt_of_lt_of_le hB ha.size) (fun e => h.ne B e.symm rfl), hBa]
  have hne : ∀ k, v'.ownBlock = some k → k ≠ B := fun k hk => by
    rcases hf k hk with h1 | h1
    · exact h.ne k h1.symm
    · have := ha.size; omega
  refine ⟨rfl, v', ⟨Kq.blk_set hB1 1 v', ?_, hne, ?_⟩, ?_, fun k hk => (hf k hk).imp id (fun h1 => Nat.le_trans ha.size h1)⟩
  · rw [List.length_append, bcells_append]
    obtain ⟨h1, h2⟩ := hown
    refine ⟨h1, h2.imp id ?_⟩
    rintro ⟨g, cap, cur, rfl, h3, h4, h5⟩
    exact ⟨g, cap, cur, rfl, h3, by rw [Below.heap_setCell _ _ _ _ (hne g rfl)]; exact h4, h5⟩
  · have := h.base; have := ha.size; have := hg.size; simp only [World.setCell, Array.size_modify]; omega
  · have k1 : Kq.Keeps (fun k => k = B ∨ some k = v.ownBlock) w wa := Kq.Keeps.of_below ha (fun k h1 h2 => absurd h2 (Nat.not_lt.2 h1))
    have k2 : Kq.Keeps (fun k => k = B ∨ some k = v.ownBlock) wa w1 := Kq.Keeps.grown hg (fun k _ hk => Or.inr hk.symm)
    exact (k1.trans k2).trans (Kq.Keeps.setCell _ _ _ (Or.inl rfl))
theorem Wr.mid {w wa w1 : World} {base B : Nat} {e : Int} {v : Value} {l : List Nat} (h : Wr w base B e v l) (ha : Below w.heap.size w wa) (hg : wa.grownBy w1 v.ownBlock) :
    w1.heap[B]? = some (.cells #[.int .i64 e, v] 78 (0, 0)) := by
  have hB : B < w.heap.size := Kq.blk_lt h.blk
  rw [hg.block B (Nat.lt_of_lt_of_le hB ha.size) (fun e => h.ne B e.symm rfl), Kq.below_blk ha h.blk hB]
theorem src_row {P : Program} (w : World) {t e e' : TypeId} (hk : P.underlying t = some (.slice e')) (l : List Nat) (c : Nat) : Src P 1 t (.slice (some ⟨w.heap.size, 0, none⟩) l.length c) l.length (bcells l) (w.alloc (.cells (bcells l).toArray e)) :=
  Src.ofSlice _ hk ⟨w.heap.size, 0, none⟩ l.length c (bcells l) (by simp [bcells]) (fun j u hj => Kq.cell_new _ _ _ (by simpa using hj)) (fun u hu => by
    simp only [bcells, List.mem_map] at hu
    obtain ⟨b, _, rfl⟩ := hu
    rfl)
theorem info8 : (Try.prog.info? 5).map (fun i => (i.zero, i.size, i.bytes)) = some (some (.int .u8 0), 1, 1) := by kernel_rfl
set_option maxRecDepth 100000 in
set_option maxHeartbeats 800000 in
theorem wr_byte_ok (base B : Nat) (e : Int) (v : Value) (l : List Nat) (n : Nat) (w : World) (h : Wr w base B e v l) (hn : n ≤ 255) (hl : l.length ≤ 140737488350000) :
    Calls Try.prog 21 #[.pointer (some ⟨B, 0, none⟩), .int .i64 (n : Int)] w (WrPost w base B e v (l ++ [n])) := by
  obtain ⟨i0, hi, hz0, hz1, hz2⟩ := info_parts info8
  have c1 : w.cell? ⟨B, 1, none⟩ = some v := Kq.blk_cell h.blk 1
  have hB := Kq.blk_lt h.blk
  have hnB : ∀ k, v.ownBlock = some k → k ≠ B := h.ne
  have HnB := Lib.hid hnB
  clear hnB
  have H := Lib.hid h
  clear h
  go_enter Try.func21, Try.ntmps21
  go_wp2_with (at_builtin; refine Kq.wpList_append_any _ rfl (.tmp 18) (.tmp 21) 76 76 rfl base 5 i0 (.int .u8 0) 1 1 Try.underlying76 hi hz0 hz1 hz2 rfl (by decide) v l.length (bcells l) rfl (H.out.own.alloc _) (.slice (some ⟨w.heap.size, 0, none⟩) 1 1) 1 (bcells [n]) rfl ?hs ?h1 ?h2 ?h3 ?_)
  case hs => exact src_row w Try.underlying76 [n] 1
  case h1 => unfold maxLen; omega
  case h2 => omega
  case h3 => have := H.out.base; simp; omega
  intro v' w1 hown1 hgrow hfresh
  have hm := H.out.mid (Kq.below_alloc w _) hgrow
  have c1' : w1.cell? ⟨B, 1, none⟩ = some v := Kq.blk_cell hm 1
  have f1' : w1.frozen? ⟨B, 1, none⟩ = false := Kq.blk_free hm 1
  have HP := Lib.hid (H.out.close (ns := [n]) (Kq.below_alloc w _) hown1 hgrow (by simpa using hfresh))
  obtain ⟨a', n', cap', hv⟩ := Kq.own_shape hown1
  clear hm hown1 hgrow hfresh c1 hB
  rw [hv] at HP ⊢
  clear hv
  go_wp2
  go_end0
  exact HP.out
end Go.Proofs.Ytjilbcefikbihaa
namespace Go.Proofs.Ytjilbcefikbihaa
open Go.RowKit
set_option linter.unusedVariables false
theorem Wr.c0 {w : World} {base B : Nat} {e : Int} {v : Value} {l : List Nat} (h : Wr w base B e v l) : w.cell? ⟨B, 0, none⟩ = some (.int .i64 e) := Kq.blk_cell h.blk 0
theorem Wr.c1 {w : World} {base B : Nat} {e : Int} {v : Value} {l : List Nat} (h : Wr w base B e v l) : w.cell? ⟨B, 1, none⟩ = some v := Kq.blk_cell h.blk 1
theorem Wr.set0 {w : World} {base B : Nat} {e : Int} {v : Value} {l : List Nat} (h : Wr w base B e v l) (f : Int) : Wr (w.setCell ⟨B, 0, none⟩ (.int .i64 f)) base B f v l := by
  refine ⟨Kq.blk_set h.blk 0 _, ?_, h.ne, by have := h.base; simpa [World.setCell] using this⟩
  obtain ⟨h1, h2⟩ := h.own
  refine ⟨h1, h2.imp id ?_⟩
  rintro ⟨g, cap, cur, rfl, h3, h4, h5⟩
  exact ⟨g, cap, cur, rfl, h3, by rw [Below.heap_setCell _ _ _ _ (h.ne g rfl)]; exact h4, h5⟩
/-- an error is remembered -/
def keepE (e f : Int) : Int := if e = 0 then f else e
/-- what a call leaves that writes, or remembers: in one -/
def WrAny (w : World) (base B : Nat) (v : Value) (e' : Int) (l' : List Nat) (x : Ending) (w' : World) : Prop :=
  x = .returned (.tuple #[]) ∧ ∃ v', Wr w' base B e' v' l' ∧ Kq.Keeps (fun k => k = B ∨ some k = v.ownBlock) w w' ∧ (∀ k, v'.ownBlock = some k → some k = v.ownBlock ∨ w.heap.size ≤ k)
theorem wr_fail (base B : Nat) (e f : Int) (v : Value) (l : List Nat) (w : World) (h : Wr w base B e v l) :
    Calls Try.prog 52 #[.pointer (some ⟨B, 0, none⟩), .int .i64 f] w (WrAny w base B v (keepE e f) l) := by
  by_cases he : e = 0
  · subst he
    refine (mem_fail_ok B f w h.c0 (Kq.blk_free h.blk 0)).mono ?_
    rintro x w' ⟨rfl, rfl⟩
    exact ⟨rfl, v, h.set0 f, Kq.Keeps.setCell _ _ _ (Or.inl rfl), fun k hk => Or.inl hk.symm⟩
  · refine (mem_fail_no B e f w h.c0 he).mono ?_
    rintro x w' ⟨rfl, rfl⟩
    exact ⟨rfl, v, by rw [keepE, if_neg he]; exact h, Kq.Keeps.refl _ _, fun k hk => Or.inl hk.symm⟩
set_option maxRecDepth 100000 in
set_option maxHeartbeats 800000 in
theorem wr_byte_bad (base B : Nat) (e : Int) (v : Value) (l : List Nat) (n : Int) (w : World) (h : Wr w base B e v l) (hn : n < 0 ∨ 255 < n) :
    Calls Try.prog 21 #[.pointer (some ⟨B, 0, none⟩), .int .i64 n] w (WrAny w base B v (keepE e 1) l) := by
  by_cases h0 : n < 0
  · have hd : decide (n < 0) = true := decide_eq_true h0
    go_enter Try.func21, Try.ntmps21
    go_wp2_with fail
    refine (wr_fail base B e 1 v l _ h).mono ?_
    rintro x w2 ⟨rfl, H2⟩
    have HP : WrAny w base B v (keepE e 1) l (.returned (.tuple #[])) w2 := ⟨rfl, H2⟩
    have HP := Lib.hid HP
    clear H2
    go_wp2
    first | go_end0 | refine bodyPost_ret (results_none rfl _ _ _) rfl ?_
    exact HP.out
  · have h1 : 255 < n := hn.resolve_left h0
    have hd : decide (n < 0) = false := decide_eq_false h0
    have hd1 : decide (255 < n) = true := decide_eq_true h1
    go_enter Try.func21, Try.ntmps21
    go_wp2_with fail
    refine (wr_fail base B e 1 v l _ h).mono ?_
    rintro x w2 ⟨rfl, H2⟩
    have HP : WrAny w base B v (keepE e 1) l (.returned (.tuple #[])) w2 := ⟨rfl, H2⟩
    have HP := Lib.hid HP
    clear H2
    go_wp2
    first | go_end0 | refine bodyPost_ret (results_none rfl _ _ _) rfl ?_
    exact HP.out
theorem byteCells_nl (s : ByteArray) : byteCells s = bcells (nl s) := by simp [byteCells, bcells, nl]
set_option maxRecDepth 100000 in
set_option maxHeartbeats 800000 in
theorem wr_raw (base B : Nat) (e : Int) (v : Value) (l : List Nat) (s : ByteArray) (w : World) (h : Wr w base B e v l) (hl : l.length + s.size ≤ 140737488350000) :
    Calls Try.prog 85 #[.pointer (some ⟨B, 0, none⟩), .string s] w (WrPost w base B e v (l ++ nl s)) := by
  obtain ⟨i0, hi, hz0, hz1, hz2⟩ := info_parts info8
  have c1 : w.cell? ⟨B, 1, none⟩ = some v := h.c1
  have H := Lib.hid h
  clear h
  go_enter Try.func85, Try.ntmps85
  go_wp2_with (with_reducible refine Kq.wpList_append_any _ rfl (.tmp 8) (.tmp 9) 76 9 rfl base 5 i0 (.int .u8 0) 1 1 Try.underlying76 hi hz0 hz1 hz2 rfl (by decide) v l.length (bcells l) rfl H.out.own (.string s) s.size (bcells (nl s)) rfl ?hs ?h1 ?h2 ?h3 ?_)
  case hs => rw [← byteCells_nl]; exact Src.ofString w Try.underlying9 s
  case h1 => unfold maxLen; omega
  case h2 => omega
  case h3 => exact H.out.base
  intro v' w1 hown1 hgrow hfresh
  rw [← nl_length s] at hown1
  have hm := H.out.mid (Below.refl _ _) hgrow
  have c1' : w1.cell? ⟨B, 1, none⟩ = some v := Kq.blk_cell hm 1
  have f1' : w1.frozen? ⟨B, 1, none⟩ = false := Kq.blk_free hm 1
  have HP := Lib.hid (H.out.close (ns := nl s) (Below.refl _ _) hown1 hgrow hfresh)
  obtain ⟨a', n', cap', hv⟩ := Kq.own_shape hown1
  clear hm hown1 hgrow hfresh c1
  rw [hv] at HP ⊢
  clear hv
  go_wp2
  go_end0
  exact HP.out
end Go.Proofs.Ytjilbcefikbihaa
