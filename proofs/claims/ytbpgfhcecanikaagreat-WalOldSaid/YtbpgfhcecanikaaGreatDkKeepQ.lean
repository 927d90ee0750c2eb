/- Merged: DkNew, DkWrite, DkRead, DkRead2, DkM, DkKeep. Contracts of disk.New, carrackref04.Right. No condition. Contracts of a disk's calls: has, fails, Write. Condition: no call is armed. Contract of a disk's Read. Condition: a sector that is there. Contract of a disk's Read, of what is stable. Condition: a sector that is there. Plain mathematics of a disk: what is put, flushed, left by a crash. No condition but sizes. Contract of a disk's keep. Condition: the bytes fit. -/
import Derived.WalkSpells
import Derived.Outline
import Derived.Laws.MakeOwn
import Derived.Test.YtbpgfhcecanikaaGreatCommonQ
import Derived.Deep.QuietTactic
import Derived.BigQuiet
import Derived.StillTailTactics
import Derived.Lib.BufferWrite
namespace Go.Proofs.YtbpgfhcecanikaaGreat
open Go.RowKit
set_option linter.unusedVariables false
def DkRight (a b : Int) : Prop := 64 ≤ a ∧ a ≤ 512 ∧ 1 ≤ b ∧ b ≤ 4096
theorem infoU8 : (Tryz.prog.info? 5).map (fun i => (i.zero, i.size, i.bytes)) = some (some (.int .u8 0), 1, 1) := by kernel_rfl
/-- a row of zeros, as make lays it -/
def zrow (n : Nat) : Array Value := madeCells (Value.int IntKind.u8 0).cells n
theorem zrow_get (n j : Nat) (h : j < n) : (zrow n)[j]? = some (.int .u8 0) := by
  unfold zrow madeCells
  simp [Value.cells, h, Nat.mod_one]
theorem mk_bytes (w : World) (z : Int) (n : Nat) (hz : z = (n : Int)) (hn : n ≤ 3000000) :
    (Instr.makeSlice 64 (.int .i64 z) (.int .i64 z)).run Tryz.prog w = .ok (.slice (some ⟨w.heap.size, 0, none⟩) n n) (w.alloc (.cells (zrow n) 5)) := by
  obtain ⟨i0, hi, hz0, hz1, hz2⟩ := info_parts infoU8
  subst hz
  have := run_makeSlice (P := Tryz.prog) w 64 5 i0 (.int .u8 0) Tryz.underlying64 hi hz0 .i64 .i64 (n : Int) (n : Int) (by omega) (Int.le_refl _) (by rw [hz1]; simp; omega) (by rw [hz2]; omega) (by omega)
  rw [hz1] at this
  simpa [zrow] using this
/-- a disk in memory: its block, its bytes' block -/
structure Dk (w : World) (B S : Nat) (a b : Int) (n : Nat) (buf : Value) (armed : Int) : Prop where
  blk : w.heap[B]? = some (.cells #[.int .i64 a, .int .i64 b, .slice (some ⟨S, 0, none⟩) n n, buf, .int .i64 armed] 83 (0, 0))
theorem prod_le (a b : Int) (h : DkRight a b) : 0 ≤ a * b ∧ a * b ≤ 2097152 := by
  obtain ⟨h1, h2, h3, h4⟩ := h
  refine ⟨Int.mul_nonneg (by omega) (by omega), ?_⟩
  calc a * b ≤ 512 * b := Int.mul_le_mul_of_nonneg_right h2 (by omega)
    _ ≤ 512 * 4096 := Int.mul_le_mul_of_nonneg_left h4 (by omega)
def NewPost (a b : Int) (n : Nat) (w : World) (x : Ending) (w' : World) : Prop :=
  x = .returned (.tuple #[.pointer (some ⟨w.heap.size + 1, 0, none⟩), .int .i64 0]) ∧ Dk w' (w.heap.size + 1) w.heap.size a b n (.slice none 0 0) 0 ∧ w'.heap[w.heap.size]? = some (.cells (zrow n) 5 (0, 0)) ∧ Below w.heap.size w w'
set_option maxRecDepth 100000 in
set_option maxHeartbeats 1000000 in
theorem dk_new_ok (a b : Int) (n : Nat) (w : World) (h : DkRight a b) (hn : a * b = (n : Int)) : Calls Tryz.prog 27 #[.int .i64 a, .int .i64 b] w (NewPost a b n w) := by
  have d1 : decide (a < 64) = false := decide_eq_false (by have := h.1; omega)
  have d2 : decide (512 < a) = false := decide_eq_false (by have := h.2.1; omega)
  have d3 : decide (b < 1) = false := decide_eq_false (by have := h.2.2.1; omega)
  have d4 : decide (4096 < b) = false := decide_eq_false (by have := h.2.2.2; omega)
  have hp := prod_le a b h
  have hw : wrap64 (a * b) = (n : Int) := by rw [← hn]; exact IntWalk.wrap64_in (a * b) (by omega)
  have hmk := fun w => mk_bytes w (wrap64 (a * b)) n hw (by omega)
  have HH := Lib.hid (And.intro h hn)
  clear h hn hp hw
  go_enter Tryz.func27, Tryz.ntmps27
  go_wp2
  go_ret2
  refine ⟨rfl, ⟨?_⟩, ?_, ?_⟩
  · have := Kq.blk_new (w.alloc (.cells (zrow n) 5)) #[.int .i64 a, .int .i64 b, .slice (some ⟨w.heap.size, 0, none⟩) n n, .slice none 0 0, .int .i64 0] 83 (0, 0)
    rw [World.size_alloc] at this
    exact this
  · rw [Below.heap_alloc _ _ _ (by simp)]
    exact Kq.blk_new _ _ _ _
  · exact (Kq.below_alloc w _).trans ((Kq.below_alloc _ _).mono (Kq.below_alloc w _).size)
set_option maxRecDepth 100000 in
set_option maxHeartbeats 1000000 in
theorem dk_new_bad (a b : Int) (w : World) (h : ¬ DkRight a b) : Calls Tryz.prog 27 #[.int .i64 a, .int .i64 b] w fun x w' => x = .returned (.tuple #[.pointer none, .int .i64 1]) ∧ w = w' := by
  have H := Lib.hid h
  clear h
  by_cases h1 : a < 64
  · have d1 : decide (a < 64) = true := decide_eq_true h1
    clear h1
    go_enter Tryz.func27, Tryz.ntmps27
    go_wp2
    go_ret2
    exact ⟨rfl, rfl⟩
  have d1 : decide (a < 64) = false := decide_eq_false h1
  by_cases h2 : 512 < a
  · have d2 : decide (512 < a) = true := decide_eq_true h2
    clear h1 h2
    go_enter Tryz.func27, Tryz.ntmps27
    go_wp2
    go_ret2
    exact ⟨rfl, rfl⟩
  have d2 : decide (512 < a) = false := decide_eq_false h2
  by_cases h3 : b < 1
  · have d3 : decide (b < 1) = true := decide_eq_true h3
    clear h1 h2 h3
    go_enter Tryz.func27, Tryz.ntmps27
    go_wp2
    go_ret2
    exact ⟨rfl, rfl⟩
  have d3 : decide (b < 1) = false := decide_eq_false h3
  have d4 : decide (4096 < b) = true := decide_eq_true (by
    refine Int.lt_of_not_ge (fun h4 => H.out ⟨by omega, by omega, by omega, h4⟩))
  clear h1 h2 h3
  go_enter Tryz.func27, Tryz.ntmps27
  go_wp2
  go_ret2
  exact ⟨rfl, rfl⟩
end Go.Proofs.YtbpgfhcecanikaaGreat
namespace Go.Proofs.YtbpgfhcecanikaaGreat
open Go.RowKit
set_option linter.unusedVariables false
set_option maxRecDepth 100000 in
theorem dk_has_yes (a b k : Int) (w : World) (h0 : 0 ≤ k) (h1 : k < b) :
    Calls Tryz.prog 81 #[.agg #[.int .i64 a, .int .i64 b], .int .i64 k] w fun x w' => x = .returned (.bool true) ∧ Below w.heap.size w w' := by
  have d1 : decide (0 ≤ k) = true := decide_eq_true h0
  have d2 : decide (k < b) = true := decide_eq_true h1
  clear h0 h1
  go_enter Tryz.func81, Tryz.ntmps81
  go_wp2
  go_ret
  exact ⟨rfl, Kq.below_alloc _ _⟩
/-- writes, cell by cell -/
def wcells : List (Int × ByteArray) → List Value
  | [] => []
  | (k, s) :: l => .int .i64 k :: .string s :: wcells l
theorem wcells_length (l : List (Int × ByteArray)) : (wcells l).length = l.length * 2 := by
  induction l with
  | nil => rfl
  | cons p l ih => obtain ⟨k, s⟩ := p; simp [wcells, ih]; omega
theorem wcells_append (l m : List (Int × ByteArray)) : wcells (l ++ m) = wcells l ++ wcells m := by
  induction l with
  | nil => rfl
  | cons p l ih => obtain ⟨k, s⟩ := p; simp [wcells, ih]
/-- a disk: what is set, its bytes' block, what is buffered -/
structure DkB (w : World) (base B S : Nat) (a b : Int) (n : Nat) (buf : Value) (ws : List (Int × ByteArray)) (armed : Int) : Prop where
  blk : w.heap[B]? = some (.cells #[.int .i64 a, .int .i64 b, .slice (some ⟨S, 0, none⟩) n n, buf, .int .i64 armed] 83 (0, 0))
  own : w.ownsRow base 88 2 buf ws.length (wcells ws)
  ne : ∀ k, buf.ownBlock = some k → k ≠ B ∧ k ≠ S
  base : base ≤ w.heap.size
  sb : S ≠ B
  sl : S < w.heap.size
section
variable {w : World} {base B S : Nat} {a b : Int} {n : Nat} {buf : Value} {ws : List (Int × ByteArray)} {armed : Int} (h : DkB w base B S a b n buf ws armed)
include h
theorem DkB.c0 : w.cell? ⟨B, 0, none⟩ = some (.int .i64 a) := Kq.blk_cell h.blk 0
theorem DkB.c1 : w.cell? ⟨B, 1, none⟩ = some (.int .i64 b) := Kq.blk_cell h.blk 1
theorem DkB.c2 : w.cell? ⟨B, 2, none⟩ = some (.slice (some ⟨S, 0, none⟩) n n) := Kq.blk_cell h.blk 2
theorem DkB.c3 : w.cell? ⟨B, 3, none⟩ = some buf := Kq.blk_cell h.blk 3
theorem DkB.c4 : w.cell? ⟨B, 4, none⟩ = some (.int .i64 armed) := Kq.blk_cell h.blk 4
theorem DkB.fz (i : Nat) : w.frozen? ⟨B, i, none⟩ = false := Kq.blk_free h.blk i
theorem DkB.belowD {w' : World} (hb : Below w.heap.size w w') : DkB w' base B S a b n buf ws armed :=
  ⟨Kq.below_blk hb h.blk (Kq.blk_lt h.blk), by
    obtain ⟨h1, h2⟩ := h.own
    refine ⟨h1, h2.imp id ?_⟩
    rintro ⟨g, cap, cur, rfl, h3, h4, h5⟩
    exact ⟨g, cap, cur, rfl, h3, Kq.below_blk hb h4 (Kq.blk_lt h4), h5⟩, h.ne, Nat.le_trans h.base hb.size, h.sb, Nat.lt_of_lt_of_le h.sl hb.size⟩
end
theorem DkB.mid {w wa w1 : World} {base B S : Nat} {a b : Int} {n : Nat} {buf : Value} {ws : List (Int × ByteArray)} {armed : Int} (h : DkB w base B S a b n buf ws armed) (ha : Below w.heap.size w wa) (hg : wa.grownBy w1 buf.ownBlock) :
    w1.heap[B]? = some (.cells #[.int .i64 a, .int .i64 b, .slice (some ⟨S, 0, none⟩) n n, buf, .int .i64 armed] 83 (0, 0)) := by
  have hB : B < w.heap.size := Kq.blk_lt h.blk
  rw [hg.block B (Nat.lt_of_lt_of_le hB ha.size) (fun e => (h.ne B e.symm).1 rfl), Kq.below_blk ha h.blk hB]
theorem DkB.close {w wa w1 : World} {base B S : Nat} {a b : Int} {n : Nat} {buf v' : Value} {ws : List (Int × ByteArray)} {armed k : Int} {s : ByteArray} (h : DkB w base B S a b n buf ws armed) (ha : Below w.heap.size w wa)
    (hown : w1.ownsRow base 88 2 v' (ws.length + 1) (wcells ws ++ wcells [(k, s)])) (hg : wa.grownBy w1 buf.ownBlock) (hf : ∀ j, v'.ownBlock = some j → some j = buf.ownBlock ∨ wa.heap.size ≤ j) :
    DkB (w1.setCell ⟨B, 3, none⟩ v') base B S a b n v' (ws ++ [(k, s)]) armed ∧ Kq.Keeps (fun j => j = B ∨ some j = buf.ownBlock) w (w1.setCell ⟨B, 3, none⟩ v') := by
  have hB : B < w.heap.size := Kq.blk_lt h.blk
  have hB1 := h.mid ha hg
  have has := ha.size
  have hsl := h.sl
  have hne : ∀ j, v'.ownBlock = some j → j ≠ B ∧ j ≠ S := fun j hj => by
    rcases hf j hj with h1 | h1
    · exact h.ne j h1.symm
    · omega
  refine ⟨⟨Kq.blk_set hB1 3 v', ?_, hne, ?_, h.sb, ?_⟩, ?_⟩
  · rw [List.length_append, wcells_append]
    obtain ⟨h1, h2⟩ := hown
    refine ⟨h1, h2.imp id ?_⟩
    rintro ⟨g, cap, cur, rfl, h3, h4, h5⟩
    exact ⟨g, cap, cur, rfl, h3, by rw [Below.heap_setCell _ _ _ _ (hne g rfl).1]; exact h4, h5⟩
  · have := h.base; have := hg.size; simp only [World.setCell, Array.size_modify]; omega
  · have := hg.size; simp only [World.setCell, Array.size_modify]; omega
  · have k1 : Kq.Keeps (fun j => j = B ∨ some j = buf.ownBlock) w wa := Kq.Keeps.of_below ha (fun j h1 h2 => absurd h2 (Nat.not_lt.2 h1))
    have k2 : Kq.Keeps (fun j => j = B ∨ some j = buf.ownBlock) wa w1 := Kq.Keeps.grown hg (fun j _ hj => Or.inr hj.symm)
    exact (k1.trans k2).trans (Kq.Keeps.setCell _ _ _ (Or.inl rfl))
set_option maxRecDepth 100000 in
theorem dk_fails0 (B : Nat) (w : World) (h : w.cell? ⟨B, 4, none⟩ = some (.int .i64 0)) :
    Calls Tryz.prog 62 #[.pointer (some ⟨B, 0, none⟩)] w fun x w' => x = .returned (.bool false) ∧ w = w' := by
  go_enter Tryz.func62, Tryz.ntmps62
  go_wp2
  go_ret
  exact ⟨rfl, rfl⟩
theorem infoW : (Tryz.prog.info? 88).map (fun i => (i.zero, i.size, i.bytes)) = some (some (.agg #[.int .i64 0, .string ⟨#[]⟩]), 2, 24) := by kernel_rfl
theorem src_write (w : World) (k : Int) (s : ByteArray) (c : Nat) (e : TypeId) : Src Tryz.prog 2 81 (.slice (some ⟨w.heap.size, 0, none⟩) 1 c) 1 (wcells [(k, s)]) (w.alloc (.cells #[.int .i64 k, .string s] e)) :=
  Src.ofSlice _ Tryz.underlying81 ⟨w.heap.size, 0, none⟩ 1 c (wcells [(k, s)]) rfl (fun j u hj => Kq.cell_new _ _ _ (by
    rw [← List.getElem?_toArray] at hj
    exact hj)) (fun u hu => by
    simp only [wcells, List.mem_cons, List.not_mem_nil, or_false] at hu
    rcases hu with rfl | rfl <;> rfl)
def WritePost (w : World) (base B S : Nat) (a b : Int) (n : Nat) (buf : Value) (ws : List (Int × ByteArray)) (k : Int) (s : ByteArray) (x : Ending) (w' : World) : Prop :=
  x = .returned (.int .i64 0) ∧ ∃ buf', DkB w' base B S a b n buf' (ws ++ [(k, s)]) 0 ∧ Kq.Keeps (fun j => j = B ∨ some j = buf.ownBlock) w w'
set_option maxRecDepth 100000 in
set_option maxHeartbeats 1000000 in
theorem dk_write_ok (base B S : Nat) (a b : Int) (n : Nat) (buf : Value) (ws : List (Int × ByteArray)) (k : Int) (s : ByteArray) (w : World) (h : DkB w base B S a b n buf ws 0)
    (h0 : 0 ≤ k) (h1 : k < b) (hs : (s.size : Int) = a) (hw : ws.length ≤ 1000000) :
    Calls Tryz.prog 70 #[.pointer (some ⟨B, 0, none⟩), .int .i64 k, .string s] w (WritePost w base B S a b n buf ws k s) := by
  obtain ⟨i0, hi, hz0, hz1, hz2⟩ := info_parts infoW
  have H := Lib.hid h
  have HK := Lib.hid (And.intro h0 h1)
  have c0 := h.c0
  have c1 := h.c1
  have hne : ((s.size : Int) != a) = false := by simp [hs]
  clear h h0 h1 hs
  go_enter Tryz.func70, Tryz.ntmps70
  go_wp2_with fail
  refine (dk_has_yes a b k _ HK.out.1 HK.out.2).mono ?_
  rintro x w2 ⟨rfl, b2⟩
  have H2 := Lib.hid (H.out.belowD b2)
  have HB2 := Lib.hid b2
  clear b2 c0 c1 H
  have c0 := H2.out.c0
  go_wp2_with fail
  refine (dk_fails0 B _ H2.out.c4).mono ?_
  rintro x w3 ⟨rfl, rfl⟩
  have c3 := H2.out.c3
  go_wp2_with (at_builtin; refine Kq.wpList_append_any _ rfl (.tmp 30) (.tmp 34) 81 81 rfl base 88 i0 (.agg #[.int .i64 0, .string ⟨#[]⟩]) 2 24 Tryz.underlying81 hi hz0 hz1 hz2 rfl (by decide) buf ws.length (wcells ws) rfl (H2.out.own.alloc _) (.slice (some ⟨w2.heap.size, 0, none⟩) 1 1) 1 (wcells [(k, s)]) rfl ?hs ?h1 ?h2 ?h3 ?_)
  case hs => exact src_write w2 k s 1 _
  case h1 => unfold maxLen; omega
  case h2 => omega
  case h3 => have := H2.out.base; simp; omega
  intro v' w1 hown1 hgrow hfresh
  have hm := H2.out.mid (Kq.below_alloc w2 _) hgrow
  have c3' : w1.cell? ⟨B, 3, none⟩ = some buf := Kq.blk_cell hm 3
  have f3' : w1.frozen? ⟨B, 3, none⟩ = false := Kq.blk_free hm 3
  obtain ⟨q1, q2⟩ := H2.out.close (Kq.below_alloc w2 _) hown1 hgrow (by simpa using hfresh)
  have HP : Hid (WritePost w base B S a b n buf ws k s (.returned (.int .i64 0)) (w1.setCell ⟨B, 3, none⟩ v')) := Lib.hid ⟨rfl, v', q1, (Kq.Keeps.of_below HB2.out (fun j h1 h2 => absurd h1 (Nat.not_le.2 h2))).trans q2⟩
  obtain ⟨a', n', cap', hv⟩ := Kq.own_shape hown1
  clear hm hown1 hgrow hfresh c3 c0 q1 q2
  rw [hv] at HP ⊢
  clear hv
  go_wp2
  go_ret
  exact HP.out
end Go.Proofs.YtbpgfhcecanikaaGreat
namespace Go.Proofs.YtbpgfhcecanikaaGreat
open Go.RowKit
set_option linter.unusedVariables false
theorem wcells_at (l : List (Int × ByteArray)) (j : Nat) (h : j < l.length) : (wcells l)[j * 2]? = some (.int .i64 l[j].1) ∧ (wcells l)[j * 2 + 1]? = some (.string l[j].2) := by
  induction l generalizing j with
  | nil => cases h
  | cons p l ih =>
    obtain ⟨k, s⟩ := p
    match j with
    | 0 => exact ⟨rfl, rfl⟩
    | j + 1 =>
      have := ih j (by simpa using h)
      have e : (j + 1) * 2 = j * 2 + 1 + 1 := by omega
      rw [e]
      simpa [wcells] using this
theorem DkB.at {w : World} {base B S : Nat} {a b : Int} {n : Nat} {buf : Value} {ws : List (Int × ByteArray)} {armed : Int} (h : DkB w base B S a b n buf ws armed) (h0 : 0 < ws.length) :
    ∃ g cap, buf = .slice (some ⟨g, 0, none⟩) ws.length cap ∧ ∀ j (hj : j < ws.length), w.cell? ⟨g, j * 2, none⟩ = some (.int .i64 ws[j].1) ∧ w.cell? ⟨g, j * 2 + 1, none⟩ = some (.string ws[j].2) := by
  obtain ⟨hl, h2⟩ := h.own
  rcases h2 with ⟨_, hx⟩ | ⟨g, cap, cur, rfl, _, hb, _, _, _, ht⟩
  · omega
  · refine ⟨g, cap, rfl, fun j hj => ?_⟩
    have key : ∀ i, i < ws.length * 2 → w.cell? ⟨g, i, none⟩ = (wcells ws)[i]? := fun i hi => by
      rw [Kq.blk_cell hb i, ← ht, List.getElem?_take, if_pos hi, Array.getElem?_toList]
    obtain ⟨w1, w2⟩ := wcells_at ws j hj
    exact ⟨by rw [key _ (by omega), w1], by rw [key _ (by omega), w2]⟩
/-- what was written last to a sector -/
def lastW (k : Int) : List (Int × ByteArray) → Option ByteArray
  | [] => none
  | (j, s) :: l => match lastW k l with
    | some t => some t
    | none => if j = k then some s else none
theorem lastW_snoc (k : Int) (l : List (Int × ByteArray)) (j : Int) (s : ByteArray) : lastW k (l ++ [(j, s)]) = if j = k then some s else lastW k l := by
  induction l with
  | nil => simp [lastW]
  | cons p l ih =>
    obtain ⟨i, t⟩ := p
    rw [List.cons_append, lastW, ih]
    by_cases h : j = k
    · simp [h]
    · simp [h, lastW]
theorem last_take (k : Int) (ws : List (Int × ByteArray)) (i : Nat) (h : i < ws.length) : lastW k (ws.take (i + 1)) = if ws[i].1 = k then some ws[i].2 else lastW k (ws.take i) := by
  rw [List.take_succ_eq_append_getElem h]
  exact lastW_snoc k (ws.take i) ws[i].1 ws[i].2
/-- bytes of the disk's block -/
def scells (st : List Nat) : Array Value := (st.map fun (b : Nat) => Value.int .u8 (b : Int)).toArray
set_option maxRecDepth 100000 in
set_option maxHeartbeats 1000000 in
theorem dk_read_hit (base B S : Nat) (a b : Int) (n : Nat) (buf : Value) (ws : List (Int × ByteArray)) (armed k : Int) (s : ByteArray) (w : World) (h : DkB w base B S a b n buf ws armed)
    (h0 : 0 ≤ k) (h1 : k < b) (hw : ws.length ≤ 1000000) (hl : lastW k ws = some s) :
    Calls Tryz.prog 65 #[.pointer (some ⟨B, 0, none⟩), .int .i64 k] w fun x w' => x = .returned (.tuple #[.string s, .int .i64 0]) ∧ Below w.heap.size w w' := by
  have H := Lib.hid h
  have HK := Lib.hid (And.intro h0 h1)
  have c0 := h.c0
  have c1 := h.c1
  have HL := Lib.hid hl
  clear h h0 h1 hl
  go_enter Tryz.func65, Tryz.ntmps65
  go_wp2_with fail
  refine (dk_has_yes a b k _ HK.out.1 HK.out.2).mono ?_
  rintro x w2 ⟨rfl, b2⟩
  have H2 := Lib.hid (H.out.belowD b2)
  have HB2 := Lib.hid b2
  clear b2 c0 c1 H
  have c3 := H2.out.c3
  have h0 : 0 < ws.length := by
    rcases ws with _ | ⟨p, ws⟩
    · have := HL.out; cases this
    · simp
  obtain ⟨g, cap, rfl, hat⟩ := H2.out.at h0
  have HAT := Lib.hid hat
  clear hat
  go_wp2
  go_loop [6] (fun i => (∃ j : Nat, j < ws.length ∧ i = .int .i64 (j : Int) ∧ lastW k ws = lastW k (ws.take (j + 1))) ∨ (i = .int .i64 (-1) ∧ lastW k ws = none)) (fun i => (intOf i + 1).toNat)
  case atStart => exact Or.inl ⟨ws.length - 1, by omega, by congr 1; omega, by rw [show ws.length - 1 + 1 = ws.length by omega, List.take_length]⟩
  case round =>
    rcases hrel with ⟨j, hj, rfl, hlj⟩ | ⟨rfl, hln⟩
    · obtain ⟨w0, w1⟩ := HAT.out j hj
      have HT := Lib.hid (hlj.trans (last_take k ws j hj))
      clear hlj
      by_cases hk : ws[j].1 = k
      · have HS : Hid (ws[j].2 = s) := Lib.hid (by have := HT.out; rw [if_pos hk] at this; have h2 := HL.out; rw [this] at h2; exact Option.some.inj h2)
        rw [hk] at w0
        clear hk
        go_wp2
        go_ret2
        exact ⟨by rw [← HS.out]; rfl, HB2.out⟩
      · have hkb : (ws[j].1 == k) = false := by simpa using hk
        have HN : Hid (lastW k ws = lastW k (ws.take j)) := Lib.hid (by have := HT.out; rwa [if_neg hk] at this)
        clear hk
        rcases j with _ | j
        · go_wp2
          go_round
          case rel => exact Or.inr ⟨rfl, by rw [HN.out]; rfl⟩
          case measure => simp [intOf]
        · go_wp2
          go_round
          case rel => exact Or.inl ⟨j, by omega, by go_num, HN.out⟩
          case measure => simp [intOf]; omega
    · have := HL.out
      rw [hln] at this
      cases this
end Go.Proofs.YtbpgfhcecanikaaGreat
namespace Go.Proofs.YtbpgfhcecanikaaGreat
open Go.RowKit
set_option linter.unusedVariables false
/-- the disk's bytes -/
def StB (w : World) (S : Nat) (st : List Nat) : Prop := w.heap[S]? = some (.cells (scells st) 5 (0, 0))
theorem StB.below {w w' : World} {S : Nat} {st : List Nat} (h : StB w S st) (hb : Below w.heap.size w w') : StB w' S st := Kq.below_blk hb h (Kq.blk_lt h)
theorem scells_get (st : List Nat) (i : Nat) (h : i < st.length) : (scells st)[i]? = some (.int .u8 ((st[i] : Nat) : Int)) := by
  unfold scells
  simp [h]
/-- some bytes of it, as a text -/
theorem stb_text (w : World) (S p m c : Nat) (st : List Nat) (h : StB w S st) (hl : ∀ b ∈ st, b < 256) (hm : p + m ≤ st.length) :
    (convert 64 9 (.slice (some ⟨S, p, none⟩) m c)).run Tryz.prog w = .ok (.string (txt ((st.drop p).take m))) w := by
  have hlen : (((st.drop p).take m).map UInt8.ofNat).length = m := by rw [List.length_map, List.length_take, List.length_drop]; omega
  have := Kq.conv_bytes (P := Tryz.prog) w (src := 64) (dst := 9) (e := 5) ⟨S, p, none⟩ (((st.drop p).take m).map UInt8.ofNat) c Tryz.underlying64 Tryz.underlying5 Tryz.underlying9 (fun j v hj => by
    have hj' : j < m := by
      rcases Nat.lt_or_ge j m with h' | h'
      · exact h'
      · rw [List.map_map, List.getElem?_eq_none (by rw [List.length_map, List.length_take, List.length_drop]; omega)] at hj
        cases hj
    have hadd : (⟨S, p, none⟩ : Addr).add j = ⟨S, p + j, none⟩ := by unfold Addr.add; split <;> simp_all
    have hlt : p + j < st.length := by omega
    rw [hadd, Kq.blk_cell h, scells_get st (p + j) hlt, ← hj]
    have hb := hl st[p + j] (List.getElem_mem _)
    simp [hj', hlt, Nat.mod_eq_of_lt hb])
  rw [hlen] at this
  exact this
set_option maxRecDepth 100000 in
set_option maxHeartbeats 1000000 in
theorem dk_read_none (base B S : Nat) (a k p : Nat) (b : Int) (st : List Nat) (armed : Int) (w : World) (h : DkB w base B S a b st.length (.slice none 0 0) [] armed) (hst : StB w S st) (hlt : ∀ x ∈ st, x < 256)
    (h1 : (k : Int) < b) (hp : k * a = p) (hpa : p + a ≤ st.length) (ha : 0 < a) (hs : st.length ≤ 3000000) :
    Calls Tryz.prog 65 #[.pointer (some ⟨B, 0, none⟩), .int .i64 (k : Int)] w fun x w' => x = .returned (.tuple #[.string (txt ((st.drop p).take a)), .int .i64 0]) ∧ Below w.heap.size w w' := by
  have H := Lib.hid h
  have HK := Lib.hid h1
  have HST := Lib.hid (And.intro hst hlt)
  have c0 := h.c0
  have c1 := h.c1
  have hmul : wrap64 ((k : Int) * (a : Int)) = (p : Int) := by
    rw [← Int.natCast_mul, hp]; exact IntWalk.wrap64_in _ (by omega)
  clear h h1 hst hlt hp
  go_enter Tryz.func65, Tryz.ntmps65
  go_wp2_with fail
  refine (dk_has_yes a b k _ (by omega) HK.out).mono ?_
  rintro x w2 ⟨rfl, b2⟩
  have H2 := Lib.hid (H.out.belowD b2)
  have HT2 := Lib.hid (HST.out.1.below b2)
  have HB2 := Lib.hid b2
  clear b2 c0 c1 H
  have c3 := H2.out.c3
  go_wp2
  go_loop [6] (fun i => i = .int .i64 (-1)) (fun _ => 0)
  case atStart => rfl
  case round =>
    subst hrel
    have c0 := H2.out.c0
    have c2 := H2.out.c2
    go_wp2
    have e1 : IntKind.i64.wrap ((p : Int) + (a : Int)) = (p : Int) + (a : Int) := IntWalk.i64_in _ (by omega)
    have e2 : (0 : Int) ≤ (p : Int) + (a : Int) := by omega
    have e3 : ((p : Int) + (a : Int)).toNat = p + a := by omega
    have e4 : (p : Int) + (a : Int) ≤ (st.length : Int) := by omega
    have e5 : (p : Int) ≤ (p : Int) + (a : Int) := by omega
    have e6 : ∀ q c, (convert 64 9 (.slice (some ⟨S, p, none⟩) a c)).run Tryz.prog (w2.drewN q) = .ok (.string (txt ((st.drop p).take a))) (w2.drewN q) := fun q c => stb_text _ S p a c st HT2.out HST.out.2 hpa
    have e7 : ¬ st.length = p := by omega
    go_quiet (fail)
    go_wp2
    go_ret2
    exact ⟨rfl, ⟨HB2.out.os, HB2.out.tape, HB2.out.output, HB2.out.size, HB2.out.block⟩⟩
end Go.Proofs.YtbpgfhcecanikaaGreat
namespace Go.Proofs.YtbpgfhcecanikaaGreat
open Go.RowKit
set_option linter.unusedVariables false
/-- some bytes laid at a sector's front -/
def putB (p : Nat) (t st : List Nat) : List Nat := st.take p ++ t ++ st.drop (p + t.length)
theorem putB_length (p : Nat) (t st : List Nat) (h : p + t.length ≤ st.length) : (putB p t st).length = st.length := by
  unfold putB
  simp only [List.length_append, List.length_take, List.length_drop]
  omega
theorem putB_lt (p : Nat) (t st : List Nat) (ht : ∀ x ∈ t, x < 256) (hs : ∀ x ∈ st, x < 256) : ∀ x ∈ putB p t st, x < 256 := by
  intro x hx
  unfold putB at hx
  rcases List.mem_append.1 hx with h | h
  · rcases List.mem_append.1 h with h | h
    · exact hs x (List.mem_of_mem_take h)
    · exact ht x h
  · exact hs x (List.mem_of_mem_drop h)
/-- writes that may be -/
def WsOk (a b : Nat) (ws : List (Int × ByteArray)) : Prop := ∀ p ∈ ws, 0 ≤ p.1 ∧ p.1 < (b : Int) ∧ p.2.size = a
theorem WsOk.snoc {a b : Nat} {ws : List (Int × ByteArray)} (h : WsOk a b ws) {k : Int} {s : ByteArray} (h0 : 0 ≤ k) (h1 : k < b) (hs : s.size = a) : WsOk a b (ws ++ [(k, s)]) := by
  intro p hp
  rcases List.mem_append.1 hp with hp | hp
  · exact h p hp
  · rw [List.mem_singleton.1 hp]; exact ⟨h0, h1, hs⟩
theorem WsOk.nil (a b : Nat) : WsOk a b [] := fun _ h => by cases h
theorem WsOk.at {a b : Nat} {ws : List (Int × ByteArray)} (h : WsOk a b ws) (j : Nat) (hj : j < ws.length) : 0 ≤ ws[j].1 ∧ ws[j].1 < (b : Int) ∧ ws[j].2.size = a := h _ (List.getElem_mem _)
theorem fit_mul {a b k : Nat} (hk : k < b) : k * a + a ≤ a * b := by
  have h := Nat.mul_le_mul_right a (Nat.succ_le_of_lt hk)
  rw [Nat.succ_mul, Nat.mul_comm b a] at h
  exact h
/-- all writes flushed, one behind the other -/
def flushB (a : Nat) : List (Int × ByteArray) → List Nat → List Nat
  | [], st => st
  | (k, s) :: ws, st => flushB a ws (putB (k.toNat * a) (nl s) st)
/-- what a crash leaves -/
def crashB (a : Nat) : List (Int × ByteArray) → List (Bool × Int) → Bool → List Nat → List Nat
  | [], _, _, st => st
  | _ :: _, [], _, st => st
  | (k, s) :: ws, (lasts, t) :: l, torn, st =>
    if lasts then
      if 0 < t ∧ t < (a : Int) ∧ torn = false then crashB a ws l true (putB (k.toNat * a) ((nl s).take t.toNat) st)
      else crashB a ws l torn (putB (k.toNat * a) (nl s) st)
    else crashB a ws l torn st
theorem flushB_ok (a b : Nat) (ws : List (Int × ByteArray)) (st : List Nat) (h : WsOk a b ws) (hl : st.length = a * b) (hs : ∀ x ∈ st, x < 256) : (flushB a ws st).length = a * b ∧ ∀ x ∈ flushB a ws st, x < 256 := by
  induction ws generalizing st with
  | nil => exact ⟨hl, hs⟩
  | cons p ws ih =>
    obtain ⟨k, s⟩ := p
    obtain ⟨h0, h1, h2⟩ := h (k, s) (List.mem_cons_self ..)
    simp only at h0 h1 h2
    have hf := fit_mul (a := a) (b := b) (k := k.toNat) (by omega)
    refine ih _ (fun q hq => h q (List.mem_cons_of_mem _ hq)) ?_ ?_
    · rw [putB_length _ _ _ (by rw [nl_length, h2, hl]; exact hf), hl]
    · exact putB_lt _ _ _ (nl_lt s) hs
theorem crashB_ok (a b : Nat) (ws : List (Int × ByteArray)) (l : List (Bool × Int)) (torn : Bool) (st : List Nat) (h : WsOk a b ws) (hl : st.length = a * b) (hs : ∀ x ∈ st, x < 256) :
    (crashB a ws l torn st).length = a * b ∧ ∀ x ∈ crashB a ws l torn st, x < 256 := by
  induction ws generalizing st l torn with
  | nil => exact ⟨hl, hs⟩
  | cons p ws ih =>
    obtain ⟨k, s⟩ := p
    obtain ⟨h0, h1, h2⟩ := h (k, s) (List.mem_cons_self ..)
    simp only at h0 h1 h2
    have hf := fit_mul (a := a) (b := b) (k := k.toNat) (by omega)
    have hw : WsOk a b ws := fun q hq => h q (List.mem_cons_of_mem _ hq)
    match l with
    | [] => exact ⟨hl, hs⟩
    | (lasts, t) :: l =>
      unfold crashB
      by_cases hla : lasts = true
      · rw [if_pos hla]
        by_cases ht : 0 < t ∧ t < (a : Int) ∧ torn = false
        · rw [if_pos ht]
          have e : ((nl s).take t.toNat).length = t.toNat := by rw [List.length_take, nl_length, h2]; omega
          refine ih _ _ _ hw ?_ ?_
          · rw [putB_length _ _ _ (by rw [e, hl]; omega), hl]
          · exact putB_lt _ _ _ (fun x hx => nl_lt s x (List.mem_of_mem_take hx)) hs
        · rw [if_neg ht]
          refine ih _ _ _ hw ?_ ?_
          · rw [putB_length _ _ _ (by rw [nl_length, h2, hl]; exact hf), hl]
          · exact putB_lt _ _ _ (nl_lt s) hs
      · rw [if_neg hla]
        exact ih _ _ _ hw hl hs
/-- a sector's bytes -/
def sec (a k : Nat) (st : List Nat) : List Nat := (st.drop (k * a)).take a
theorem putB_sec_same (a b k : Nat) (t st : List Nat) (ht : t.length = a) (hk : k < b) (hl : st.length = a * b) : sec a k (putB (k * a) t st) = t := by
  have hf := fit_mul (a := a) hk
  unfold sec putB
  have h1 : (st.take (k * a)).length = k * a := by rw [List.length_take]; omega
  rw [List.append_assoc, List.drop_append_of_le_length (by omega), List.drop_of_length_le (by omega), List.nil_append, List.take_append_of_le_length (by omega), List.take_of_length_le (by omega)]
theorem putB_sec_other (a b k j : Nat) (t st : List Nat) (ht : t.length ≤ a) (hk : k < b) (hj : j < b) (hne : j ≠ k) (hl : st.length = a * b) : sec a j (putB (k * a) t st) = sec a j st := by
  have hf := fit_mul (a := a) hk
  have hfj := fit_mul (a := a) hj
  have hcase : j * a + a ≤ k * a ∨ k * a + a ≤ j * a := by
    rcases Nat.lt_or_gt_of_ne hne with h | h
    · left
      have := Nat.mul_le_mul_right a (Nat.succ_le_of_lt h)
      rwa [Nat.succ_mul] at this
    · right
      have := Nat.mul_le_mul_right a (Nat.succ_le_of_lt h)
      rwa [Nat.succ_mul] at this
  have h1 : (st.take (k * a)).length = k * a := by rw [List.length_take]; omega
  apply List.ext_getElem?
  intro i
  unfold sec putB
  simp only [List.getElem?_take, List.getElem?_drop, List.getElem?_append, List.length_append, h1]
  by_cases hi : i < a
  · simp only [hi, if_true]
    rcases hcase with h | h
    · have a1 : j * a + i < k * a + t.length := by omega
      have a3 : j * a + i < k * a := by omega
      simp only [a1, a3, if_true]
    · have a1 : ¬ j * a + i < k * a + t.length := by omega
      have a2 : k * a + t.length + (j * a + i - (k * a + t.length)) = j * a + i := by omega
      rw [if_neg a1, a2]
  · simp only [hi, if_false]
/-- what is read: what was written last, or what is stable -/
def readB (a : Nat) (ws : List (Int × ByteArray)) (st : List Nat) (k : Int) : ByteArray := match lastW k ws with
  | some s => s
  | none => txt (sec a k.toNat st)
def orSec (a k : Nat) (o : Option ByteArray) (st : List Nat) : List Nat := match o with
  | some s => nl s
  | none => sec a k st
theorem lastW_cons (k j : Int) (s : ByteArray) (l : List (Int × ByteArray)) : lastW k ((j, s) :: l) = match lastW k l with
  | some t => some t
  | none => if j = k then some s else none := rfl
/-- what is read of a sector is what is stable behind a flush -/
theorem flush_sec (a b : Nat) (ws : List (Int × ByteArray)) (st : List Nat) (h : WsOk a b ws) (hl : st.length = a * b) (hs : ∀ x ∈ st, x < 256) (k : Nat) (hk : k < b) :
    sec a k (flushB a ws st) = orSec a k (lastW (k : Int) ws) st := by
  induction ws generalizing st with
  | nil => rfl
  | cons p ws ih =>
    obtain ⟨j, s⟩ := p
    obtain ⟨h0, h1, h2⟩ := h (j, s) (List.mem_cons_self ..)
    simp only at h0 h1 h2
    have hf := fit_mul (a := a) (b := b) (k := j.toNat) (by omega)
    have hlen : (putB (j.toNat * a) (nl s) st).length = a * b := by rw [putB_length _ _ _ (by rw [nl_length, h2, hl]; exact hf), hl]
    show sec a k (flushB a ws (putB (j.toNat * a) (nl s) st)) = _
    rw [ih _ (fun q hq => h q (List.mem_cons_of_mem _ hq)) hlen (putB_lt _ _ _ (nl_lt s) hs)]
    rw [lastW_cons]
    cases hlw : lastW (k : Int) ws with
    | some t => rfl
    | none =>
      simp only
      by_cases hjk : j = (k : Int)
      · subst hjk
        rw [if_pos rfl]
        exact putB_sec_same a b k (nl s) st (by rw [nl_length, h2]) hk hl
      · rw [if_neg hjk]
        show sec a k _ = sec a k _
        exact putB_sec_other a b j.toNat k (nl s) st (by rw [nl_length, h2]; exact Nat.le_refl _) (by omega) hk (by omega) hl
end Go.Proofs.YtbpgfhcecanikaaGreat
namespace Go.Proofs.YtbpgfhcecanikaaGreat
open Go.RowKit
set_option linter.unusedVariables false
theorem putB_cells (p : Nat) (s : ByteArray) (st : List Nat) : ((scells st).toList.take p ++ Lib.byteCells s.data.toList ++ (scells st).toList.drop (p + s.size)).toArray = scells (putB p (nl s) st) := by
  unfold scells putB
  rw [nl_length]
  simp only [List.map_append, List.map_take, List.map_drop]
  simp [Lib.byteCells, nl]
/-- a disk, its bytes, and what is not turned -/
structure DkS (w : World) (base B S : Nat) (a b : Nat) (buf : Value) (ws : List (Int × ByteArray)) (armed : Int) (st : List Nat) : Prop where
  d : DkB w base B S a b st.length buf ws armed
  s : StB w S st
theorem DkS.below {w w' : World} {base B S a b : Nat} {buf : Value} {ws : List (Int × ByteArray)} {armed : Int} {st : List Nat} (h : DkS w base B S a b buf ws armed st) (hb : Below w.heap.size w w') : DkS w' base B S a b buf ws armed st := ⟨h.d.belowD hb, h.s.below hb⟩
theorem DkS.drew {w : World} {base B S a b : Nat} {buf : Value} {ws : List (Int × ByteArray)} {armed : Int} {st : List Nat} (h : DkS w base B S a b buf ws armed st) : DkS w.drew base B S a b buf ws armed st := h.below (Below.refl _ _).drew
theorem DkS.put {w : World} {base B S a b : Nat} {buf : Value} {ws : List (Int × ByteArray)} {armed : Int} {st : List Nat} (h : DkS w base B S a b buf ws armed st) (p : Nat) (s : ByteArray) (hp : p + s.size ≤ st.length) :
    DkS (w.setRow S (scells (putB p (nl s) st))) base B S a b buf ws armed (putB p (nl s) st) ∧ Kq.Keeps (· = S) w (w.setRow S (scells (putB p (nl s) st))) := by
  have hl : (putB p (nl s) st).length = st.length := putB_length _ _ _ (by rw [nl_length]; exact hp)
  refine ⟨⟨⟨?_, ?_, h.d.ne, by simpa using h.d.base, h.d.sb, by simpa using h.d.sl⟩, setRow_heap w S _ _ _ _ h.s⟩, ⟨rfl, rfl, rfl, by simp, fun k _ hn => setRow_other w S k _ hn⟩⟩
  · rw [setRow_other _ _ _ _ (Ne.symm h.d.sb), hl]; exact h.d.blk
  · obtain ⟨h1, h2⟩ := h.d.own
    refine ⟨h1, h2.imp id ?_⟩
    rintro ⟨g, cap, cur, rfl, h3, h4, h5⟩
    exact ⟨g, cap, cur, rfl, h3, by rw [setRow_other _ _ _ _ (h.d.ne g rfl).2]; exact h4, h5⟩
def KeepPost (w : World) (base B S a b : Nat) (buf : Value) (ws : List (Int × ByteArray)) (armed : Int) (st : List Nat) (x : Ending) (w' : World) : Prop :=
  x = .returned (.tuple #[]) ∧ DkS w' base B S a b buf ws armed st ∧ Kq.Keeps (· = S) w w'
set_option maxRecDepth 100000 in
set_option maxHeartbeats 1000000 in
theorem dk_keep (base B S a b k p m : Nat) (s : ByteArray) (buf : Value) (ws : List (Int × ByteArray)) (armed : Int) (st : List Nat) (w : World) (h : DkS w base B S a b buf ws armed st)
    (hp : k * a = p) (hm : 0 < m) (hms : m ≤ s.size) (hfit : p + m ≤ st.length) (hs : st.length ≤ 3000000) (hss : s.size ≤ 1000000) :
    Calls Tryz.prog 40 #[.pointer (some ⟨B, 0, none⟩), .agg #[.int .i64 (k : Int), .string s], .int .i64 (m : Int)] w (KeepPost w base B S a b buf ws armed (putB p ((nl s).take m) st)) := by
  have hmul : wrap64 ((k : Int) * (a : Int)) = (p : Int) := by
    rw [← Int.natCast_mul, hp]; exact IntWalk.wrap64_in _ (by omega)
  have hmul2 : IntKind.i64.wrap ((k : Int) * (a : Int)) = (p : Int) := by rw [IntWalk.i64_left]; exact hmul
  have e1 : ¬ st.length = p := by omega
  have hple : (p : Int) ≤ (st.length : Int) := by omega
  have hxs : (s.extract 0 m).size = m := by simp; omega
  have hnl : nl (s.extract 0 m) = (nl s).take m := by rw [nl_extract, List.drop_zero, Nat.sub_zero]
  obtain ⟨w0, hw0⟩ : ∃ z, z = w.alloc (.cells #[.int .i64 (k : Int), .string s] 88) := ⟨_, rfl⟩
  have hbw : Below w.heap.size w w0 := by rw [hw0]; exact Kq.below_alloc _ _
  have q0 : w0.cell? ⟨w.heap.size, 0, none⟩ = some (.int .i64 (k : Int)) := by rw [hw0]; exact Kq.blk_cell (Kq.blk_new _ _ _ _) 0
  have q1 : w0.cell? ⟨w.heap.size, 1, none⟩ = some (.string s) := by rw [hw0]; exact Kq.blk_cell (Kq.blk_new _ _ _ _) 1
  have h0 : DkS w0 base B S a b buf ws armed st := h.below hbw
  have hput := h0.drew.put p (s.extract 0 m) (by rw [hxs]; exact hfit)
  rw [hnl] at hput
  have HP : Hid (KeepPost w base B S a b buf ws armed (putB p ((nl s).take m) st) (.returned (.tuple #[])) (w0.drew.setRow S (scells (putB p ((nl s).take m) st)))) :=
    Lib.hid ⟨rfl, hput.1, (Kq.Keeps.of_below (S := (· = S)) hbw (fun j h1 h2 => absurd h1 (Nat.not_le.2 h2))).drew.trans hput.2⟩
  have hcp : (Builtin.copy_ #[64, 9] 3 #[.slice (some ⟨S, p, none⟩) (st.length - p) (st.length - p), .string (s.extract 0 m)]).run Tryz.prog w0.drew = .ok (goInt m) (w0.drew.setRow S (scells (putB p ((nl s).take m) st))) := by
    have := Lib.run_copy_row_string (P := Tryz.prog) w0.drew 64 9 3 5 S p (st.length - p) (st.length - p) (s.extract 0 m) (scells st) 5 Tryz.underlying64 (by kernel_rfl) h0.drew.s (by rw [hxs]; omega) (by rw [hxs, show (scells st).size = st.length by simp [scells]]; exact hfit)
    rw [putB_cells, hxs, hnl] at this
    exact this
  have c0 : w0.cell? ⟨B, 0, none⟩ = some (.int .i64 a) := h0.d.c0
  have c2 : w0.cell? ⟨B, 2, none⟩ = some (.slice (some ⟨S, 0, none⟩) st.length st.length) := h0.d.c2
  clear hput h0 hp hnl hxs h hbw
  have HW0 := Lib.hid hw0
  clear hw0
  generalize hz : putB p ((nl s).take m) st = z at *
  clear hz
  have hle1 : (m : Int) ≤ (s.size : Int) := by omega
  go_enter Tryz.func40, Tryz.ntmps40
  go_wp2
  rw [← HW0.out]
  go_still_tail 17, (by kernel_rfl)
  change wpList _ _ _ _ _ w0.drew
  clear c0 c2 q0 q1
  go_wp2
  go_end0
  exact HP.out
end Go.Proofs.YtbpgfhcecanikaaGreat
