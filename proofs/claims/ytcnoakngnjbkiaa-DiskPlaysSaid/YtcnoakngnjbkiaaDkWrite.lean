/- Contracts of a disk's calls: has, fails, Write. Condition: no call is armed. -/
import Derived.WalkSpells
import Derived.Test.YtcnoakngnjbkiaaDkNew
import Derived.Test.YtcnoakngnjbkiaaBuf
namespace Go.Proofs.Ytcnoakngnjbkiaa
open Go.RowKit
set_option linter.unusedVariables false
set_option maxRecDepth 100000 in
theorem dk_has_yes (a b k : Int) (w : World) (h0 : 0 ≤ k) (h1 : k < b) :
    Calls Try.prog 31 #[.agg #[.int .i64 a, .int .i64 b], .int .i64 k] w fun x w' => x = .returned (.bool true) ∧ Below w.heap.size w w' := by
  have d1 : decide (0 ≤ k) = true := decide_eq_true h0
  have d2 : decide (k < b) = true := decide_eq_true h1
  clear h0 h1
  go_enter Try.func31, Try.ntmps31
  go_wp2
  go_ret
  exact ⟨rfl, Kq.below_alloc _ _⟩
/-- writes, cell by cell -/
def wcells : List (Int × ByteArray) → List Value
  | [] => []
  | (k, s) :: l => .int .i64 k :: .string s :: wcells l
theorem wcells_length (l : List (Int × ByteArray)) : (wcells l).length = l.length * 2 := by
  induction l with
  | nil => rfl
  | cons p l ih => obtain ⟨k, s⟩ := p; simp [wcells, ih]; omega
theorem wcells_append (l m : List (Int × ByteArray)) : wcells (l ++ m) = wcells l ++ wcells m := by
  induction l with
  | nil => rfl
  | cons p l ih => obtain ⟨k, s⟩ := p; simp [wcells, ih]
/-- a disk: what is set, its bytes' block, what is buffered -/
structure DkB (w : World) (base B S : Nat) (a b : Int) (n : Nat) (buf : Value) (ws : List (Int × ByteArray)) (armed : Int) : Prop where
  blk : w.heap[B]? = some (.cells #[.int .i64 a, .int .i64 b, .slice (some ⟨S, 0, none⟩) n n, buf, .int .i64 armed] 34 (0, 0))
  own : w.ownsRow base 68 2 buf ws.length (wcells ws)
  ne : ∀ k, buf.ownBlock = some k → k ≠ B ∧ k ≠ S
  base : base ≤ w.heap.size
  sb : S ≠ B
  sl : S < w.heap.size
section
variable {w : World} {base B S : Nat} {a b : Int} {n : Nat} {buf : Value} {ws : List (Int × ByteArray)} {armed : Int} (h : DkB w base B S a b n buf ws armed)
include h
theorem DkB.c0 : w.cell? ⟨B, 0, none⟩ = some (.int .i64 a) := Kq.blk_cell h.blk 0
theorem DkB.c1 : w.cell? ⟨B, 1, none⟩ = some (.int .i64 b) := Kq.blk_cell h.blk 1
theorem DkB.c2 : w.cell? ⟨B, 2, none⟩ = some (.slice (some ⟨S, 0, none⟩) n n) := Kq.blk_cell h.blk 2
theorem DkB.c3 : w.cell? ⟨B, 3, none⟩ = some buf := Kq.blk_cell h.blk 3
theorem DkB.c4 : w.cell? ⟨B, 4, none⟩ = some (.int .i64 armed) := Kq.blk_cell h.blk 4
theorem DkB.fz (i : Nat) : w.frozen? ⟨B, i, none⟩ = false := Kq.blk_free h.blk i
theorem DkB.belowD {w' : World} (hb : Below w.heap.size w w') : DkB w' base B S a b n buf ws armed :=
  ⟨Kq.below_blk hb h.blk (Kq.blk_lt h.blk), by
    obtain ⟨h1, h2⟩ := h.own
    refine ⟨h1, h2.imp id ?_⟩
    rintro ⟨g, cap, cur, rfl, h3, h4, h5⟩
    exact ⟨g, cap, cur, rfl, h3, Kq.below_blk hb h4 (Kq.blk_lt h4), h5⟩, h.ne, Nat.le_trans h.base hb.size, h.sb, Nat.lt_of_lt_of_le h.sl hb.size⟩
end
theorem DkB.mid {w wa w1 : World} {base B S : Nat} {a b : Int} {n : Nat} {buf : Value} {ws : List (Int × ByteArray)} {armed : Int} (h : DkB w base B S a b n buf ws armed) (ha : Below w.heap.size w wa) (hg : wa.grownBy w1 buf.ownBlock) :
    w1.heap[B]? = some (.cells #[.int .i64 a, .int .i64 b, .slice (some ⟨S, 0, none⟩) n n, buf, .int .i64 armed] 34 (0, 0)) := by
  have hB : B < w.heap.size := Kq.blk_lt h.blk
  rw [hg.block B (Nat.lt_of_lt_of_le hB ha.size) (fun e => (h.ne B e.symm).1 rfl), Kq.below_blk ha h.blk hB]
theorem DkB.close {w wa w1 : World} {base B S : Nat} {a b : Int} {n : Nat} {buf v' : Value} {ws : List (Int × ByteArray)} {armed k : Int} {s : ByteArray} (h : DkB w base B S a b n buf ws armed) (ha : Below w.heap.size w wa)
    (hown : w1.ownsRow base 68 2 v' (ws.length + 1) (wcells ws ++ wcells [(k, s)])) (hg : wa.grownBy w1 buf.ownBlock) (hf : ∀ j, v'.ownBlock = some j → some j = buf.ownBlock ∨ wa.heap.size ≤ j) :
    DkB (w1.setCell ⟨B, 3, none⟩ v') base B S a b n v' (ws ++ [(k, s)]) armed ∧ Kq.Keeps (fun j => j = B ∨ some j = buf.ownBlock) w (w1.setCell ⟨B, 3, none⟩ v') := by
  have hB : B < w.heap.size := Kq.blk_lt h.blk
  have hB1 := h.mid ha hg
  have has := ha.size
  have hsl := h.sl
  have hne : ∀ j, v'.ownBlock = some j → j ≠ B ∧ j ≠ S := fun j hj => by
    rcases hf j hj with h1 | h1
    · exact h.ne j h1.symm
    · omega
  refine ⟨⟨Kq.blk_set hB1 3 v', ?_, hne, ?_, h.sb, ?_⟩, ?_⟩
  · rw [List.length_append, wcells_append]
    obtain ⟨h1, h2⟩ := hown
    refine ⟨h1, h2.imp id ?_⟩
    rintro ⟨g, cap, cur, rfl, h3, h4, h5⟩
    exact ⟨g, cap, cur, rfl, h3, by rw [Below.heap_setCell _ _ _ _ (hne g rfl).1]; exact h4, h5⟩
  · have := h.base; have := hg.size; simp only [World.setCell, Array.size_modify]; omega
  · have := hg.size; simp only [World.setCell, Array.size_modify]; omega
  · have k1 : Kq.Keeps (fun j => j = B ∨ some j = buf.ownBlock) w wa := Kq.Keeps.of_below ha (fun j h1 h2 => absurd h2 (Nat.not_lt.2 h1))
    have k2 : Kq.Keeps (fun j => j = B ∨ some j = buf.ownBlock) wa w1 := Kq.Keeps.grown hg (fun j _ hj => Or.inr hj.symm)
    exact (k1.trans k2).trans (Kq.Keeps.setCell _ _ _ (Or.inl rfl))
set_option maxRecDepth 100000 in
theorem dk_fails0 (B : Nat) (w : World) (h : w.cell? ⟨B, 4, none⟩ = some (.int .i64 0)) :
    Calls Try.prog 32 #[.pointer (some ⟨B, 0, none⟩)] w fun x w' => x = .returned (.bool false) ∧ w = w' := by
  go_enter Try.func32, Try.ntmps32
  go_wp2
  go_ret
  exact ⟨rfl, rfl⟩
theorem infoW : (Try.prog.info? 68).map (fun i => (i.zero, i.size, i.bytes)) = some (some (.agg #[.int .i64 0, .string ⟨#[]⟩]), 2, 24) := by kernel_rfl
theorem src_write (w : World) (k : Int) (s : ByteArray) (c : Nat) (e : TypeId) : Src Try.prog 2 32 (.slice (some ⟨w.heap.size, 0, none⟩) 1 c) 1 (wcells [(k, s)]) (w.alloc (.cells #[.int .i64 k, .string s] e)) :=
  Src.ofSlice _ Try.underlying32 ⟨w.heap.size, 0, none⟩ 1 c (wcells [(k, s)]) rfl (fun j u hj => Kq.cell_new _ _ _ (by
    rw [← List.getElem?_toArray] at hj
    exact hj)) (fun u hu => by
    simp only [wcells, List.mem_cons, List.not_mem_nil, or_false] at hu
    rcases hu with rfl | rfl <;> rfl)
def WritePost (w : World) (base B S : Nat) (a b : Int) (n : Nat) (buf : Value) (ws : List (Int × ByteArray)) (k : Int) (s : ByteArray) (x : Ending) (w' : World) : Prop :=
  x = .returned (.int .i64 0) ∧ ∃ buf', DkB w' base B S a b n buf' (ws ++ [(k, s)]) 0 ∧ Kq.Keeps (fun j => j = B ∨ some j = buf.ownBlock) w w'
set_option maxRecDepth 100000 in
set_option maxHeartbeats 1000000 in
theorem dk_write_ok (base B S : Nat) (a b : Int) (n : Nat) (buf : Value) (ws : List (Int × ByteArray)) (k : Int) (s : ByteArray) (w : World) (h : DkB w base B S a b n buf ws 0)
    (h0 : 0 ≤ k) (h1 : k < b) (hs : (s.size : Int) = a) (hw : ws.length ≤ 1000000) :
    Calls Try.prog 25 #[.pointer (some ⟨B, 0, none⟩), .int .i64 k, .string s] w (WritePost w base B S a b n buf ws k s) := by
  obtain ⟨i0, hi, hz0, hz1, hz2⟩ := info_parts infoW
  have H := Lib.hid h
  have HK := Lib.hid (And.intro h0 h1)
  have c0 := h.c0
  have c1 := h.c1
  have hne : ((s.size : Int) != a) = false := by simp [hs]
  clear h h0 h1 hs
  go_enter Try.func25, Try.ntmps25
  go_wp2_with fail
  refine (dk_has_yes a b k _ HK.out.1 HK.out.2).mono ?_
  rintro x w2 ⟨rfl, b2⟩
  have H2 := Lib.hid (H.out.belowD b2)
  have HB2 := Lib.hid b2
  clear b2 c0 c1 H
  have c0 := H2.out.c0
  go_wp2_with fail
  refine (dk_fails0 B _ H2.out.c4).mono ?_
  rintro x w3 ⟨rfl, rfl⟩
  have c3 := H2.out.c3
  go_wp2_with (at_builtin; refine Kq.wpList_append_any _ rfl (.tmp 30) (.tmp 34) 32 32 rfl base 68 i0 (.agg #[.int .i64 0, .string ⟨#[]⟩]) 2 24 Try.underlying32 hi hz0 hz1 hz2 rfl (by decide) buf ws.length (wcells ws) rfl (H2.out.own.alloc _) (.slice (some ⟨w2.heap.size, 0, none⟩) 1 1) 1 (wcells [(k, s)]) rfl ?hs ?h1 ?h2 ?h3 ?_)
  case hs => exact src_write w2 k s 1 _
  case h1 => unfold maxLen; omega
  case h2 => omega
  case h3 => have := H2.out.base; simp; omega
  intro v' w1 hown1 hgrow hfresh
  have hm := H2.out.mid (Kq.below_alloc w2 _) hgrow
  have c3' : w1.cell? ⟨B, 3, none⟩ = some buf := Kq.blk_cell hm 3
  have f3' : w1.frozen? ⟨B, 3, none⟩ = false := Kq.blk_free hm 3
  obtain ⟨q1, q2⟩ := H2.out.close (Kq.below_alloc w2 _) hown1 hgrow (by simpa using hfresh)
  have HP : Hid (WritePost w base B S a b n buf ws k s (.returned (.int .i64 0)) (w1.setCell ⟨B, 3, none⟩ v')) := Lib.hid ⟨rfl, v', q1, (Kq.Keeps.of_below HB2.out (fun j h1 h2 => absurd h1 (Nat.not_le.2 h2))).trans q2⟩
  obtain ⟨a', n', cap', hv⟩ := Kq.own_shape hown1
  clear hm hown1 hgrow hfresh c3 c0 q1 q2
  rw [hv] at HP ⊢
  clear hv
  go_wp2
  go_ret
  exact HP.out
end Go.Proofs.Ytcnoakngnjbkiaa
