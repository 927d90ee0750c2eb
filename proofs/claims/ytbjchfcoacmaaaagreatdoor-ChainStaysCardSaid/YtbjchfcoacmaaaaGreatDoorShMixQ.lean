/- Merged: ShSched, ShRound, ShMix. Contract of sha.schedule: a block's 64 words. Condition: the block's bytes are there. One round of SHA-256, in the words of 32 bits that the programs compute. Condition: words of 32 bits. Contract of (*sha.state).mix: a full block is mixed into the words. Condition: the state's block and the constants are there. -/
import Derived.WalkSpells
import Derived.Outline
import Derived.Deep.QuietTactic
import Derived.BigQuiet
import Derived.Deep.RegionHeld
import Derived.Deep.WholeRow
import Derived.Test.YtbjchfcoacmaaaaGreatDoorChecked
import Derived.Test.YtbjchfcoacmaaaaGreatDoorObjQ
import Derived.Test.YtbjchfcoacmaaaaGreatDoorPfSeQ
import Derived.Test.YtbjchfcoacmaaaaGreatDoorHeldLastQ
namespace Go.Proofs.YtbjchfcoacmaaaaGreatDoor
open Go.RowKit
set_option linter.unusedVariables false
/-- words as cells -/
def wcl (l : List Nat) : List Value := l.map fun (x : Nat) => Value.int .u32 (x : Int)
/-- 64 words, of which the first are there -/
def w64 (l : List Nat) : Array Value := (wcl (l ++ List.replicate (64 - l.length) 0)).toArray
theorem w64_size (l : List Nat) (h : l.length ≤ 64) : (w64 l).size = 64 := by simp [w64, wcl]; omega
theorem w64_at (l : List Nat) (i : Nat) (h : i < l.length) : (w64 l)[i]? = some (Value.int .u32 ((l.getD i 0 : Nat) : Int)) := by
  unfold w64 wcl
  rw [List.getElem?_toArray, List.getElem?_map, List.getElem?_append_left h, List.getElem?_eq_getElem h]
  simp [h]
theorem w64_some (l : List Nat) (i : Nat) (h : i < 64) (hl : l.length ≤ 64) : ∃ v, (w64 l)[i]? = some v := ⟨_, Array.getElem?_eq_getElem (by rw [w64_size l hl]; exact h)⟩
theorem w64_set (l : List Nat) (x : Nat) (h : l.length < 64) : (w64 l).setIfInBounds l.length (.int .u32 (x : Int)) = w64 (l ++ [x]) := by
  apply Array.toList_inj.1
  have e : List.replicate (64 - l.length) 0 = 0 :: List.replicate (64 - (l.length + 1)) 0 := by
    rw [show 64 - l.length = (64 - (l.length + 1)) + 1 by omega, List.replicate_succ]
  rw [Array.toList_setIfInBounds]
  unfold w64 wcl
  rw [List.toList_toArray, List.toList_toArray, e, List.length_append, List.length_singleton]
  simp
theorem w64_full (l : List Nat) (h : l.length = 64) : w64 l = (wcl l).toArray := by simp [w64, h]
structure SchI (w : World) (B : Nat) (b l : List Nat) (wr : World) : Prop where
  arr : wr.heap[w.heap.size + 1]? = some (.cells (w64 l) 253 (0, 0))
  res : wr.heap[w.heap.size]? = some (.cells (w64 []) 253 (0, 0))
  bel : Below w.heap.size w wr
  blk : ∀ j, j < 64 → wr.cell? ⟨B, 8 + j, none⟩ = some (.int .u8 ((b.getD j 0 : Nat) : Int))
  lt : B < w.heap.size
theorem SchI.drewN {w : World} {B : Nat} {b l : List Nat} {wr : World} (h : SchI w B b l wr) (n : Nat) : SchI w B b l (wr.drewN n) := by
  exact ⟨h.arr, h.res, ⟨h.bel.os, h.bel.tape, h.bel.output, h.bel.size, h.bel.block⟩, h.blk, h.lt⟩
theorem SchI.set {w : World} {B : Nat} {b l : List Nat} {wr : World} (h : SchI w B b l wr) (x : Nat) (hl : l.length < 64) : SchI w B b (l ++ [x]) (wr.setCell ⟨w.heap.size + 1, l.length, none⟩ (.int .u32 (x : Int))) := by
  refine ⟨?_, ?_, h.bel.setCell (by simp) _, fun j hj => ?_, h.lt⟩
  · rw [Kq.blk_set h.arr, w64_set l x hl]
  · rw [Below.heap_setCell _ _ _ _ (by simp)]; exact h.res
  · rw [World.cell?_setCell_other _ _ _ _ (fun e => by have h1 := h.lt; have h2 := congrArg Addr.block e; simp at h2; omega)]
    exact h.blk j hj
theorem or_word (a b c d : Nat) (ha : a < 256) (hb : b < 256) (hc : c < 256) (hd : d < 256) :
    bits .or .u32 (bits .or .u32 (bits .or .u32 ((a : Int) * 16777216) ((b : Int) * 65536)) ((c : Int) * 256)) (d : Int) = (Sh.word a b c d : Int) := by
  have e1 : (a : Int) * 16777216 = ((a * 16777216 : Nat) : Int) := by omega
  have e2 : (b : Int) * 65536 = ((b * 65536 : Nat) : Int) := by omega
  have e3 : (c : Int) * 256 = ((c * 256 : Nat) : Int) := by omega
  have o1 : a * 16777216 ||| b * 65536 = a * 16777216 + b * 65536 := by
    have := Nat.two_pow_add_eq_or_of_lt (i := 24) (b := b * 65536) (by omega) a
    rw [show (2 : Nat) ^ 24 * a = a * 16777216 by omega] at this
    exact this.symm
  have o2 : (a * 16777216 + b * 65536) ||| c * 256 = a * 16777216 + b * 65536 + c * 256 := by
    have := Nat.two_pow_add_eq_or_of_lt (i := 16) (b := c * 256) (by omega) (a * 256 + b)
    rw [show (2 : Nat) ^ 16 * (a * 256 + b) = a * 16777216 + b * 65536 by omega] at this
    exact this.symm
  have o3 : (a * 16777216 + b * 65536 + c * 256) ||| d = a * 16777216 + b * 65536 + c * 256 + d := by
    have := Nat.two_pow_add_eq_or_of_lt (i := 8) (b := d) (by omega) (a * 65536 + b * 256 + c)
    rw [show (2 : Nat) ^ 8 * (a * 65536 + b * 256 + c) = a * 16777216 + b * 65536 + c * 256 by omega] at this
    exact this.symm
  rw [e1, e2, e3, or_u32 _ _ (by omega) (by omega), o1, or_u32 _ _ (by omega) (by omega), o2, or_u32 _ _ (by omega) (by omega), o3]
  rfl
/-- the words of the first bytes, one more -/
theorem words_take (b : List Nat) : ∀ (k : Nat), 4 * k + 4 ≤ b.length → Sh.words (b.take (4 * (k + 1))) = Sh.words (b.take (4 * k)) ++ [Sh.word (b.getD (4 * k) 0) (b.getD (4 * k + 1) 0) (b.getD (4 * k + 2) 0) (b.getD (4 * k + 3) 0)] := by
  intro k
  induction k generalizing b with
  | zero =>
    intro h
    match b, h with
    | x0 :: x1 :: x2 :: x3 :: r, _ => simp [Sh.words]
  | succ k ih =>
    intro h
    match b, h with
    | x0 :: x1 :: x2 :: x3 :: r, h =>
      have := ih r (by simp at h; omega)
      rw [show 4 * (k + 1 + 1) = 4 * (k + 1) + 4 by omega, show 4 * (k + 1) = 4 * k + 4 by omega] at *
      simp only [List.take_succ_cons, Sh.words, List.getD_cons_succ, List.cons_append]
      rw [show 4 * k + 4 = 4 * k + 3 + 1 by omega] at *
      simp only [this] at *
theorem words_full (b : List Nat) (h : b.length = 64) : Sh.words (b.take (4 * 16)) = Sh.words b := by rw [List.take_of_length_le (by omega)]
theorem words_take_length (b : List Nat) (k : Nat) (h : 4 * k ≤ b.length) : (Sh.words (b.take (4 * k))).length = k := Sh.words_length k _ (by rw [List.length_take]; omega)
theorem cell_far (w : World) {B C i j : Nat} {v : Value} (h : B ≠ C) : (w.setCell ⟨C, i, none⟩ v).drew.cell? ⟨B, j, none⟩ = w.cell? ⟨B, j, none⟩ :=
  World.cell?_setCell_other _ _ _ _ (fun e => h (congrArg Addr.block e).symm)
theorem cell_same (w : World) {C i j : Nat} {v : Value} (h : j ≠ i) : (w.setCell ⟨C, i, none⟩ v).drew.cell? ⟨C, j, none⟩ = w.cell? ⟨C, j, none⟩ :=
  World.cell?_setCell_other _ _ _ _ (fun e => h (congrArg Addr.off e).symm)
theorem sg0_bits (x : Nat) (h : x < 4294967296) : ∃ z : Nat, bits .xor .u32 (Sh.rot x 7 : Int) (Sh.rot x 18 : Int) = (z : Int) ∧ bits .xor .u32 (z : Int) ((x : Int) / 8) = (Sh.sg0 x : Int) := by
  refine ⟨_, xor_u32 _ _ (rot_lt x 7 h) (rot_lt x 18 h), ?_⟩
  have h1 := Nat.xor_lt_two_pow (n := 32) (rot_lt x 7 h) (rot_lt x 18 h)
  rw [show (x : Int) / 8 = ((x / 8 : Nat) : Int) by omega, xor_u32 _ _ (by omega) (by omega)]
  unfold Sh.sg0
  rw [Nat.shiftRight_eq_div_pow]
theorem sg1_bits (x : Nat) (h : x < 4294967296) : ∃ z : Nat, bits .xor .u32 (Sh.rot x 17 : Int) (Sh.rot x 19 : Int) = (z : Int) ∧ bits .xor .u32 (z : Int) ((x : Int) / 1024) = (Sh.sg1 x : Int) := by
  refine ⟨_, xor_u32 _ _ (rot_lt x 17 h) (rot_lt x 19 h), ?_⟩
  have h1 := Nat.xor_lt_two_pow (n := 32) (rot_lt x 17 h) (rot_lt x 19 h)
  rw [show (x : Int) / 1024 = ((x / 1024 : Nat) : Int) by omega, xor_u32 _ _ (by omega) (by omega)]
  unfold Sh.sg1
  rw [Nat.shiftRight_eq_div_pow]
theorem sum4 (a b c d : Nat) : ∃ x y z : Nat, IntKind.u32.wrap ((a : Int) + (b : Int)) = (x : Int) ∧ IntKind.u32.wrap ((x : Int) + (c : Int)) = (y : Int) ∧ IntKind.u32.wrap ((y : Int) + (d : Int)) = (z : Int) ∧ z = (a + b + c + d) % 4294967296 := by
  refine ⟨(a + b) % 4294967296, ((a + b) % 4294967296 + c) % 4294967296, (((a + b) % 4294967296 + c) % 4294967296 + d) % 4294967296, ?_, ?_, ?_, ?_⟩
  · rw [IntKind.wrap_u32]; omega
  · rw [IntKind.wrap_u32]; omega
  · rw [IntKind.wrap_u32]; omega
  · omega
theorem words_lt : ∀ (b : List Nat), (∀ x ∈ b, x < 256) → ∀ x ∈ Sh.words b, x < 4294967296
  | x0 :: x1 :: x2 :: x3 :: r, h, x, hx => by
    simp only [Sh.words, List.mem_cons] at hx
    rcases hx with rfl | hx
    · have h0 := h x0 (by simp)
      have h1 := h x1 (by simp)
      have h2 := h x2 (by simp)
      have h3 := h x3 (by simp)
      unfold Sh.word
      omega
    · exact words_lt r (fun y hy => h y (by simp [hy])) x hx
  | [], h, x, hx => by cases hx
  | [_], h, x, hx => by cases hx
  | [_, _], h, x, hx => by cases hx
  | [_, _, _], h, x, hx => by cases hx
theorem iter_mem_lt (j : Nat) (l : List Nat) (h : ∀ x ∈ l, x < 4294967296) : ∀ x ∈ Sh.iter Sh.more j l, x < 4294967296 := by
  induction j generalizing l with
  | zero => exact h
  | succ j ih =>
    refine ih (Sh.more l) (fun x hx => ?_)
    simp only [Sh.more, List.mem_append, List.mem_singleton] at hx
    rcases hx with hx | rfl
    · exact h x hx
    · exact Nat.mod_lt _ (by decide)
theorem getD_lt (l : List Nat) (h : ∀ x ∈ l, x < 4294967296) (i : Nat) : l.getD i 0 < 4294967296 := by
  rw [List.getD_eq_getElem?_getD]
  cases e : l[i]? with
  | none => simp
  | some x => exact h x (List.mem_of_getElem? e)
theorem iter_lt (j : Nat) (b : List Nat) (h : ∀ x ∈ b, x < 256) (i : Nat) : (Sh.iter Sh.more j (Sh.words b)).getD i 0 < 4294967296 := getD_lt _ (iter_mem_lt j _ (words_lt b h)) i
theorem set_row (w : World) (B : Nat) (old c : Array Value) (t : TypeId) (fr : Nat × Nat) (h : w.heap[B]? = some (.cells old t fr)) : (w.setRow B c).heap[B]? = some (.cells c t fr) := by
  rw [World.setRow, Array.getElem?_modify, if_pos rfl, h]; rfl
theorem wcl_one (l : List Nat) : (wcl l).toArray.all (·.oneCell') = true := by
  rw [List.all_toArray, List.all_eq_true]
  intro v hv
  simp only [wcl, List.mem_map] at hv
  obtain ⟨x, _, rfl⟩ := hv
  rfl
theorem below_setRow {B : Nat} {a w : World} (h : Below B a w) (g : Nat) (c : Array Value) (hg : B ≤ g) : Below B a (w.setRow g c) :=
  ⟨h.os, h.tape, h.output, by have := h.size; simpa [World.setRow] using this, fun k hk => by
    rw [← h.block k hk, World.setRow, Array.getElem?_modify, if_neg (by omega)]⟩
theorem slice_block (w : World) (B k : Nat) (hk : k < 16) : (Instr.sliceAt 232 (.pointer (some ⟨B, 8, none⟩)) (some (.int .i64 (4 * (k : Int)))) (some (.int .i64 (4 * (k : Int) + 4))) none).run Tryz.prog w = .ok (.slice (some ⟨B, 8 + 4 * k, none⟩) 4 (64 - 4 * k)) w := by
  have h1 : Tryz.prog.arrayLen 232 = 64 := by kernel_rfl
  have h2 : Tryz.prog.elem 232 = 5 := by kernel_rfl
  have hu : Tryz.prog.underlying 232 = some (.array (Tryz.prog.arrayLen 232) (Tryz.prog.elem 232)) := by rw [h1, h2]; exact Tryz.underlying232
  have := run_sliceAt_array_lh w 232 ⟨B, 8, none⟩ hu .i64 .i64 (4 * (k : Int)) (4 * (k : Int) + 4) (by omega) (by omega) (by rw [h1]; omega)
  rw [this, h1, h2, Tryz.sizeOf5]
  simp only [Result.andThen, slicedAt]
  have e1 : (4 * (k : Int)).toNat = 4 * k := by omega
  have e2 : (4 * (k : Int) + 4).toNat = 4 * k + 4 := by omega
  rw [e1, e2, if_neg (by omega)]
  have e3 : (⟨B, 8, none⟩ : Addr).add (4 * k * 1) = ⟨B, 8 + 4 * k, none⟩ := by unfold Addr.add; split <;> simp_all
  rw [e3]
  simp
set_option maxRecDepth 100000 in
set_option maxHeartbeats 4000000 in
theorem sh_schedule (B : Nat) (b : List Nat) (w : World) (hB : B < w.heap.size) (hlen : b.length = 64) (hb : ∀ x ∈ b, x < 256)
    (hc : ∀ j, j < 64 → w.cell? ⟨B, 8 + j, none⟩ = some (.int .u8 ((b.getD j 0 : Nat) : Int))) :
    Calls Tryz.prog 185 #[.pointer (some ⟨B, 8, none⟩)] w fun x w' => x = .returned (.agg (wcl (Sh.sched b)).toArray) ∧ Below w.heap.size w w' := by
  have HC := Lib.hid hc
  have HL := Lib.hid hlen
  have HB := Lib.hid hb
  clear hc hlen hb
  go_enter Tryz.func185, Tryz.ntmps185
  go_wp2
  have HS0 : Hid (SchI w B b [] ((w.alloc (.cells (w64 []) 253)).alloc (.cells (w64 []) 253))) := Lib.hid (by
    have b1 := Kq.below_alloc w (.cells (w64 []) 253)
    have b2 := b1.trans ((Kq.below_alloc (w.alloc (.cells (w64 []) 253)) (.cells (w64 []) 253)).mono b1.size)
    refine ⟨?_, ?_, b2, fun j hj => ?_, hB⟩
    · have := Kq.blk_new (w.alloc (.cells (w64 []) 253)) (w64 []) 253 (0, 0)
      rwa [show (w.alloc (.cells (w64 []) 253)).heap.size = w.heap.size + 1 by simp] at this
    · rw [Below.heap_alloc _ _ _ (by simp)]
      exact Kq.blk_new w (w64 []) 253 (0, 0)
    · exact (b2.cell (p := ⟨B, 8 + j, none⟩) hB).trans (HC.out j hj))
  go_loopw [11] (fun i wr => ∃ k : Nat, k ≤ 16 ∧ i = .int .i64 (k : Int) ∧ SchI w B b (Sh.words (b.take (4 * k))) wr) (fun i _ => 16 - (intOf i).toNat)
  case atStart => exact ⟨0, by omega, rfl, HS0.out⟩
  case round =>
    obtain ⟨k, hk, rfl, hS⟩ := hrel
    have HS := Lib.hid hS
    clear hS
    by_cases hlt : k < 16
    · have HW := Lib.hid (words_take b k (by rw [HL.out]; omega))
      have HWL := Lib.hid (words_take_length b k (by rw [HL.out]; omega))
      obtain ⟨l, hl⟩ : ∃ l, l = Sh.words (b.take (4 * k)) := ⟨_, rfl⟩
      rw [← hl] at HW HWL HS
      clear hl
      have c0 := HS.out.blk (4 * k) (by omega)
      have c1 := HS.out.blk (4 * k + 1) (by omega)
      have c2 := HS.out.blk (4 * k + 2) (by omega)
      have c3 := HS.out.blk (4 * k + 3) (by omega)
      have hx : ∀ j, b.getD j 0 < 256 := fun j => by
        rw [List.getD_eq_getElem?_getD]
        cases h : b[j]? with
        | none => simp
        | some x => exact HB.out x (List.mem_of_getElem? h)
      have x0 := hx (4 * k)
      have x1 := hx (4 * k + 1)
      have x2 := hx (4 * k + 2)
      have x3 := hx (4 * k + 3)
      generalize b.getD (4 * k) 0 = y0 at *
      generalize b.getD (4 * k + 1) 0 = y1 at *
      generalize b.getD (4 * k + 2) 0 = y2 at *
      generalize b.getD (4 * k + 3) 0 = y3 at *
      have wz : ∀ z : Int, 0 ≤ z → z < 4294967296 → IntKind.u32.wrap z = z := fun z h0 h1 => by rw [IntKind.wrap_u32]; omega
      have v0 := wz (y0 : Int) (by omega) (by omega)
      have v1 := wz (y1 : Int) (by omega) (by omega)
      have v2 := wz (y2 : Int) (by omega) (by omega)
      have v3 := wz (y3 : Int) (by omega) (by omega)
      have m0 := wz ((y0 : Int) * 16777216) (by omega) (by omega)
      have m1 := wz ((y1 : Int) * 65536) (by omega) (by omega)
      have m2 := wz ((y2 : Int) * 256) (by omega) (by omega)
      clear wz
      have hor := or_word y0 y1 y2 y3 x0 x1 x2 x3
      clear hx
      have l1 : (k : Int) < 16 := by omega
      have l2 : (k : Int) < 64 := by omega
      have hsl := slice_block wr B k hlt
      have hcell : Hid (∃ v, wr.cell? ⟨w.heap.size + 1, k, none⟩ = some v) := Lib.hid (by
        obtain ⟨v, hv⟩ := w64_some l k (by omega) (by rw [HWL.out]; omega)
        exact ⟨v, (Kq.blk_cell HS.out.arr k).trans hv⟩)
      have hfz : Hid (wr.frozen? ⟨w.heap.size + 1, k, none⟩ = false) := Lib.hid (Kq.blk_free HS.out.arr k)
      go_wp2
      clear hsl
      refine wp_region_held_drew (S := fun w' => w'.cell? ⟨B, 8 + 4 * k, none⟩ = some (Value.int IntKind.u8 y0) ∧ w'.cell? ⟨B, 8 + 4 * k + 1, none⟩ = some (Value.int IntKind.u8 y1) ∧ w'.cell? ⟨B, 8 + 4 * k + 2, none⟩ = some (Value.int IntKind.u8 y2) ∧ w'.cell? ⟨B, 8 + 4 * k + 3, none⟩ = some (Value.int IntKind.u8 y3)) (by kernel_rfl) ⟨c0, c1, c2, c3⟩ (fun hS0 => ?_)
      clear c0 c1 c2 c3
      refine wpAnyH_take (i := 0) (v := ?_) rfl (by kernel_rfl) (by kernel_rfl) (by kernel_rfl) (fun _ _ _ h => h) (Or.inl ⟨by kernel_rfl, ?_⟩) (by assumption) ?_
      rotate_left
      · intro w hSw; (try dsimp only at hSw); go_simp; (try with_reducible rfl)
      refine wpAnyH_take (i := 1) (v := ?_) rfl (by kernel_rfl) (by kernel_rfl) (by kernel_rfl) (fun _ _ _ h => h) (Or.inl ⟨by kernel_rfl, ?_⟩) (by assumption) ?_
      rotate_left
      · intro w hSw; (try dsimp only at hSw); go_simp; (try with_reducible rfl)
      refine wpAnyH_take (i := 2) (v := ?_) rfl (by kernel_rfl) (by kernel_rfl) (by kernel_rfl) (fun _ _ _ h => h) (Or.inl ⟨by kernel_rfl, ?_⟩) (by assumption) ?_
      rotate_left
      · intro w hSw; (try dsimp only at hSw); go_simp; (try with_reducible rfl)
      refine wpAnyH_take (i := 3) (v := ?_) rfl (by kernel_rfl) (by kernel_rfl) (by kernel_rfl) (fun _ _ _ h => h) (Or.inl ⟨by kernel_rfl, ?_⟩) (by assumption) ?_
      rotate_left
      · intro w hSw; (try dsimp only at hSw); go_simp; (try with_reducible rfl)
      refine wpAnyH_take (i := 4) (v := ?_) rfl (by kernel_rfl) (by kernel_rfl) (by kernel_rfl) (fun _ _ _ h => h) (Or.inl ⟨by kernel_rfl, ?_⟩) (by assumption) ?_
      rotate_left
      · intro w hSw; (try dsimp only at hSw); go_simp; (try with_reducible rfl)
      refine wpAnyH_take (i := 5) (v := ?_) rfl (by kernel_rfl) (by kernel_rfl) (by kernel_rfl) (fun _ _ _ h => h) (Or.inl ⟨by kernel_rfl, ?_⟩) (by assumption) ?_
      rotate_left
      · intro w hSw; (try dsimp only at hSw); go_simp; (try with_reducible rfl)
      refine wpAnyH_take (i := 6) (v := ?_) rfl (by kernel_rfl) (by kernel_rfl) (by kernel_rfl) (fun _ _ _ h => h) (Or.inl ⟨by kernel_rfl, ?_⟩) (by assumption) ?_
      rotate_left
      · intro w hSw; (try dsimp only at hSw); go_simp; (try with_reducible rfl)
      refine wpAnyH_take (i := 7) (v := ?_) rfl (by kernel_rfl) (by kernel_rfl) (by kernel_rfl) (fun _ _ _ h => h) (Or.inl ⟨by kernel_rfl, ?_⟩) (by assumption) ?_
      rotate_left
      · intro w hSw; (try dsimp only at hSw); go_simp; (try with_reducible rfl)
      refine wpAnyH_take (i := 8) (v := ?_) rfl (by kernel_rfl) (by kernel_rfl) (by kernel_rfl) (fun _ _ _ h => h) (Or.inl ⟨by kernel_rfl, ?_⟩) (by assumption) ?_
      rotate_left
      · intro w hSw; (try dsimp only at hSw); go_simp; (try with_reducible rfl)
      refine wpAnyH_take (i := 9) (v := ?_) rfl (by kernel_rfl) (by kernel_rfl) (by kernel_rfl) (fun _ _ _ h => h) (Or.inl ⟨by kernel_rfl, ?_⟩) (by assumption) ?_
      rotate_left
      · intro w hSw; (try dsimp only at hSw); go_simp; (try with_reducible rfl)
      refine wpAnyH_take (i := 10) (v := ?_) rfl (by kernel_rfl) (by kernel_rfl) (by kernel_rfl) (fun _ _ _ h => h) (Or.inl ⟨by kernel_rfl, ?_⟩) (by assumption) ?_
      rotate_left
      · intro w hSw; (try dsimp only at hSw); go_simp; (try with_reducible rfl)
      refine wpAnyH_take (i := 11) (v := ?_) rfl (by kernel_rfl) (by kernel_rfl) (by kernel_rfl) (fun _ _ _ h => h) (Or.inl ⟨by kernel_rfl, ?_⟩) (by assumption) ?_
      rotate_left
      · intro w hSw; (try dsimp only at hSw); go_simp; (try with_reducible rfl)
      refine wpAnyH_take (i := 12) (v := ?_) rfl (by kernel_rfl) (by kernel_rfl) (by kernel_rfl) (fun _ _ _ h => h) (Or.inl ⟨by kernel_rfl, ?_⟩) (by assumption) ?_
      rotate_left
      · intro w hSw; (try dsimp only at hSw); go_simp; (try with_reducible rfl)
      refine wpAnyH_take (i := 13) (v := ?_) rfl (by kernel_rfl) (by kernel_rfl) (by kernel_rfl) (fun _ _ _ h => h) (Or.inl ⟨by kernel_rfl, ?_⟩) (by assumption) ?_
      rotate_left
      · intro w hSw; (try dsimp only at hSw); go_simp; (try with_reducible rfl)
      refine wpAnyH_take (i := 14) (v := ?_) rfl (by kernel_rfl) (by kernel_rfl) (by kernel_rfl) (fun _ _ _ h => h) (Or.inl ⟨by kernel_rfl, ?_⟩) (by assumption) ?_
      rotate_left
      · intro w hSw; (try dsimp only at hSw); go_simp; (try with_reducible rfl)
      refine wpAnyH_take (i := 15) (v := ?_) rfl (by kernel_rfl) (by kernel_rfl) (by kernel_rfl) (fun _ _ _ h => h) (Or.inl ⟨by kernel_rfl, ?_⟩) (by assumption) ?_
      rotate_left
      · intro w hSw; (try dsimp only at hSw); go_simp; (try with_reducible rfl)
      refine wpAnyH_take (i := 16) (v := ?_) rfl (by kernel_rfl) (by kernel_rfl) (by kernel_rfl) (fun _ _ _ h => h) (Or.inl ⟨by kernel_rfl, ?_⟩) (by assumption) ?_
      rotate_left
      · intro w hSw; (try dsimp only at hSw); go_simp; (try with_reducible rfl)
      refine wpAnyH_take (i := 17) (v := ?_) rfl (by kernel_rfl) (by kernel_rfl) (by kernel_rfl) (fun _ _ _ h => h) (Or.inl ⟨by kernel_rfl, ?_⟩) (by assumption) ?_
      rotate_left
      · intro w hSw; (try dsimp only at hSw); go_simp; (try with_reducible rfl)
      refine wpAnyH_take (i := 18) (v := ?_) rfl (by kernel_rfl) (by kernel_rfl) (by kernel_rfl) (fun _ _ _ h => h) (Or.inl ⟨by kernel_rfl, ?_⟩) (by assumption) ?_
      rotate_left
      · intro w hSw; (try dsimp only at hSw); go_simp; (try with_reducible rfl)
      refine wpAnyH_take (i := 19) (v := ?_) rfl (by kernel_rfl) (by kernel_rfl) (by kernel_rfl) (fun _ _ _ h => h) (Or.inl ⟨by kernel_rfl, ?_⟩) (by assumption) ?_
      rotate_left
      · intro w hSw; (try dsimp only at hSw); go_simp; (try with_reducible rfl)
      refine wpAnyH_take (i := 20) (v := ?_) rfl (by kernel_rfl) (by kernel_rfl) (by kernel_rfl) (fun _ _ _ h => h) (Or.inl ⟨by kernel_rfl, ?_⟩) (by assumption) ?_
      rotate_left
      · intro w hSw; (try dsimp only at hSw); go_simp; (try with_reducible rfl)
      refine wpAnyH_take (i := 21) (v := ?_) rfl (by kernel_rfl) (by kernel_rfl) (by kernel_rfl) (fun _ _ _ h => h) (Or.inl ⟨by kernel_rfl, ?_⟩) (by assumption) ?_
      rotate_left
      · intro w hSw; (try dsimp only at hSw); go_simp; (try with_reducible rfl)
      refine wpAnyH_take (i := 22) (v := ?_) rfl (by kernel_rfl) (by kernel_rfl) (by kernel_rfl) (fun _ _ _ h => h) (Or.inl ⟨by kernel_rfl, ?_⟩) (by assumption) ?_
      rotate_left
      · intro w hSw; (try dsimp only at hSw); go_simp; (try with_reducible rfl)
      refine wpAnyH_take (i := 23) (v := ?_) rfl (by kernel_rfl) (by kernel_rfl) (by kernel_rfl) (fun _ _ _ h => h) (Or.inl ⟨by kernel_rfl, ?_⟩) (by assumption) ?_
      rotate_left
      · intro w hSw; (try dsimp only at hSw); go_simp; (try with_reducible rfl)
      obtain ⟨v9, hcell⟩ := hcell.out
      have hfz := hfz.out
      refine wpAnyH_ready (rs := [24]) (by kernel_rfl) (by simp) ?_
      refine AllReadyH.cons rfl (fun K hK => ?_) AllReadyH.nil
      go_simp
      refine hK.out _ _ ?_ (fun hS1 => ?_)
      · have hne : B ≠ w.heap.size + 1 := by omega
        rw [cell_far wr hne, cell_far wr hne, cell_far wr hne, cell_far wr hne]
        exact hS0
      clear hK K hS0 hS1
      refine wpAnyH_done (by kernel_rfl) ?_ _
      have HN : Hid (SchI w B b (Sh.words (b.take (4 * (k + 1)))) (wr.setCell ⟨w.heap.size + 1, k, none⟩ (.int .u32 (Sh.word y0 y1 y2 y3 : Int))).drew) := Lib.hid (by
        have := HS.out.set (Sh.word y0 y1 y2 y3) (by rw [HWL.out]; omega)
        rw [HWL.out, ← HW.out] at this
        exact this.drewN 1)
      clear hcell hfz v0 v1 v2 v3 m0 m1 m2 hor
      go_wp2
      go_roundw
      case rel => exact ⟨k + 1, by omega, by go_num, HN.out⟩
      case measure => simp [intOf]; omega
    · have hk16 : k = 16 := by omega
      rw [hk16, words_full b HL.out] at HS
      clear hk16
      go_wp2
      clear hk hlt
      have HWL := Lib.hid (Sh.words_length 16 b (by rw [HL.out]))
      go_loopw [6] (fun i wr => ∃ j : Nat, j ≤ 48 ∧ i = .int .i64 ((16 + j : Nat) : Int) ∧ SchI w B b (Sh.iter Sh.more j (Sh.words b)) wr) (fun i _ => 64 - (intOf i).toNat)
      case atStart => exact ⟨0, by omega, rfl, HS.out⟩
      case round =>
        obtain ⟨j, hj, rfl, hS⟩ := hrel
        have HS := Lib.hid hS
        clear hS
        by_cases hlt : j < 48
        · have HLN := Lib.hid (Sh.iter_length j (Sh.words b))
          have HLT : Hid (∀ i, (Sh.iter Sh.more j (Sh.words b)).getD i 0 < 4294967296) := Lib.hid (iter_lt j b HB.out)
          have HIT := Lib.hid (Sh.iter_succ j (Sh.words b))
          rw [HWL.out] at HLN
          obtain ⟨l, hl⟩ : ∃ l, l = Sh.iter Sh.more j (Sh.words b) := ⟨_, rfl⟩
          rw [← hl] at HLN HLT HIT HS
          clear hl
          obtain ⟨k, hk⟩ : ∃ k, k = 16 + j := ⟨_, rfl⟩
          rw [← hk] at HLN ⊢
          obtain ⟨p15, e15⟩ : ∃ p : Nat, p + 15 = k := ⟨k - 15, by omega⟩
          obtain ⟨p2, e2⟩ : ∃ p : Nat, p + 2 = k := ⟨k - 2, by omega⟩
          obtain ⟨p7, e7⟩ : ∃ p : Nat, p + 7 = k := ⟨k - 7, by omega⟩
          obtain ⟨p16, e16⟩ : ∃ p : Nat, p + 16 = k := ⟨k - 16, by omega⟩
          have hkl : (k : Int) < 64 := by omega
          have hcl : ∀ p, p < k → wr.cell? ⟨w.heap.size + 1, p, none⟩ = some (Value.int .u32 ((l.getD p 0 : Nat) : Int)) := fun p hp => (Kq.blk_cell HS.out.arr p).trans (w64_at l p (by rw [HLN.out]; exact hp))
          have c15 := hcl p15 (by omega)
          have c2 := hcl p2 (by omega)
          have c7 := Lib.hid (hcl p7 (by omega))
          have c16 := Lib.hid (hcl p16 (by omega))
          have y15 := HLT.out p15
          have y2 := HLT.out p2
          have y7 := HLT.out p7
          have y16 := HLT.out p16
          have HMO : Hid (Sh.more l = l ++ [(Sh.sg1 (l.getD p2 0) + l.getD p7 0 + Sh.sg0 (l.getD p15 0) + l.getD p16 0) % 4294967296]) := Lib.hid (by
            unfold Sh.more
            simp only [HLN.out]
            subst e2
            rw [show p2 + 2 - 2 = p2 by omega, show p2 + 2 - 7 = p7 by omega, show p2 + 2 - 15 = p15 by omega, show p2 + 2 - 16 = p16 by omega]
            rfl)
          generalize l.getD p15 0 = x15 at *
          generalize l.getD p2 0 = x2 at *
          generalize l.getD p7 0 = x7 at *
          generalize l.getD p16 0 = x16 at *
          have f15 : (k : Int) - 15 = (p15 : Int) := by omega
          have f2 : (k : Int) - 2 = (p2 : Int) := by omega
          have f7 : (k : Int) - 7 = (p7 : Int) := by omega
          have f16 : (k : Int) - 16 = (p16 : Int) := by omega
          have b15 : (p15 : Int) < 64 := by omega
          have b2 : (p2 : Int) < 64 := by omega
          have b7 : (p7 : Int) < 64 := by omega
          have b16 : (p16 : Int) < 64 := by omega
          have h15 : IntKind.i64.wrap (p15 : Int) = (p15 : Int) := IntWalk.i64_in _ (by omega)
          have h2 : IntKind.i64.wrap (p2 : Int) = (p2 : Int) := IntWalk.i64_in _ (by omega)
          have h7 : IntKind.i64.wrap (p7 : Int) = (p7 : Int) := IntWalk.i64_in _ (by omega)
          have h16 : IntKind.i64.wrap (p16 : Int) = (p16 : Int) := IntWalk.i64_in _ (by omega)
          have g15 : IntKind.i64.wrap ((k : Int) - 15) = (p15 : Int) := by rw [f15, IntWalk.i64_in _ (by omega)]
          have g2 : IntKind.i64.wrap ((k : Int) - 2) = (p2 : Int) := by rw [f2, IntWalk.i64_in _ (by omega)]
          have g7 : IntKind.i64.wrap ((k : Int) - 7) = (p7 : Int) := by rw [f7, IntWalk.i64_in _ (by omega)]
          have g16 : IntKind.i64.wrap ((k : Int) - 16) = (p16 : Int) := by rw [f16, IntWalk.i64_in _ (by omega)]
          clear hcl
          have HKJ := Lib.hid hk
          have HE := Lib.hid (And.intro e15 (And.intro e2 (And.intro e7 e16)))
          clear hk e15 e2 e7 e16
          go_wp2
          go_quiet (fail)
          clear c15 c2
          have HT15 := Lib.hid (fun w => sh_turn x15 7 w y15 (by decide) (by decide))
          have HT15b := Lib.hid (fun w => sh_turn x15 18 w y15 (by decide) (by decide))
          have HT2 := Lib.hid (fun w => sh_turn x2 17 w y2 (by decide) (by decide))
          have HT2b := Lib.hid (fun w => sh_turn x2 19 w y2 (by decide) (by decide))
          obtain ⟨z0, hz0, hs0⟩ := sg0_bits x15 y15
          obtain ⟨z1, hz1, hs1⟩ := sg1_bits x2 y2
          obtain ⟨s1, hs, HSUM⟩ : ∃ s1 : Nat, s1 = Sh.sg1 x2 ∧ Hid (s1 = Sh.sg1 x2) := ⟨_, rfl, Lib.hid rfl⟩
          rw [← hs] at hs1 HMO
          obtain ⟨s0, hs', HSUM'⟩ : ∃ s0 : Nat, s0 = Sh.sg0 x15 ∧ Hid (s0 = Sh.sg0 x15) := ⟨_, rfl, Lib.hid rfl⟩
          rw [← hs'] at hs0 HMO
          clear hs hs' HSUM HSUM' y15 y2
          generalize Sh.rot x15 7 = r7 at *
          generalize Sh.rot x15 18 = r18 at *
          generalize Sh.rot x2 17 = r17 at *
          generalize Sh.rot x2 19 = r19 at *
          go_wp2_with fail
          refine (HT15.out _).mono ?_
          rintro e wa ⟨rfl, n1, rfl⟩
          go_wp2_with fail
          refine (HT15b.out _).mono ?_
          rintro e wa ⟨rfl, n2, rfl⟩
          go_wp2_with fail
          refine (HT2.out _).mono ?_
          rintro e wa ⟨rfl, n3, rfl⟩
          go_wp2_with fail
          refine (HT2b.out _).mono ?_
          rintro e wa ⟨rfl, n4, rfl⟩
          clear HT15 HT15b HT2 HT2b
          go_wp2
          clear hz0 hs0 hz1 hs1
          generalize hwq : wr.drewN _ = wq
          have HQ : Hid (SchI w B b l wq) := Lib.hid (by rw [← hwq]; exact HS.out.drewN _)
          have c7 : wq.cell? ⟨w.heap.size + 1, p7, none⟩ = some (Value.int .u32 (x7 : Int)) := by rw [← hwq]; exact c7.out
          have c16 : wq.cell? ⟨w.heap.size + 1, p16, none⟩ = some (Value.int .u32 (x16 : Int)) := by rw [← hwq]; exact c16.out
          clear hwq
          obtain ⟨q1, q2, q3, hq1, hq2, hq3, hq⟩ := sum4 s1 x7 s0 x16
          rw [← hq] at HMO
          clear hq
          obtain ⟨v9, hcell⟩ : ∃ v, wq.cell? ⟨w.heap.size + 1, k, none⟩ = some v := by
            obtain ⟨v, hv⟩ := w64_some l k (by omega) (by rw [HLN.out]; omega)
            exact ⟨v, (Kq.blk_cell HQ.out.arr k).trans hv⟩
          have hcell := Lib.hid hcell
          have hfz : Hid (wq.frozen? ⟨w.heap.size + 1, k, none⟩ = false) := Lib.hid (Kq.blk_free HQ.out.arr k)
          refine wp_region_held_drew (S := fun w' => w'.cell? ⟨w.heap.size + 1, p7, none⟩ = some (Value.int .u32 (x7 : Int)) ∧ w'.cell? ⟨w.heap.size + 1, p16, none⟩ = some (Value.int .u32 (x16 : Int))) (by kernel_rfl) ⟨c7, c16⟩ (fun hS0 => ?_)
          clear c7 c16
          refine wpAnyH_take (i := 0) (v := ?_) rfl (by kernel_rfl) (by kernel_rfl) (by kernel_rfl) (fun _ _ _ h => h) (Or.inl ⟨by kernel_rfl, ?_⟩) (by assumption) ?_
          rotate_left
          · intro w hSw; (try dsimp only at hSw); go_simp; (try with_reducible rfl)
          refine wpAnyH_take (i := 1) (v := ?_) rfl (by kernel_rfl) (by kernel_rfl) (by kernel_rfl) (fun _ _ _ h => h) (Or.inl ⟨by kernel_rfl, ?_⟩) (by assumption) ?_
          rotate_left
          · intro w hSw; (try dsimp only at hSw); go_simp; (try with_reducible rfl)
          refine wpAnyH_take (i := 2) (v := ?_) rfl (by kernel_rfl) (by kernel_rfl) (by kernel_rfl) (fun _ _ _ h => h) (Or.inl ⟨by kernel_rfl, ?_⟩) (by assumption) ?_
          rotate_left
          · intro w hSw; (try dsimp only at hSw); go_simp; (try with_reducible rfl)
          refine wpAnyH_take (i := 3) (v := ?_) rfl (by kernel_rfl) (by kernel_rfl) (by kernel_rfl) (fun _ _ _ h => h) (Or.inl ⟨by kernel_rfl, ?_⟩) (by assumption) ?_
          rotate_left
          · intro w hSw; (try dsimp only at hSw); go_simp; (try with_reducible rfl)
          refine wpAnyH_take (i := 4) (v := ?_) rfl (by kernel_rfl) (by kernel_rfl) (by kernel_rfl) (fun _ _ _ h => h) (Or.inl ⟨by kernel_rfl, ?_⟩) (by assumption) ?_
          rotate_left
          · intro w hSw; (try dsimp only at hSw); go_simp; (try with_reducible rfl)
          refine wpAnyH_take (i := 5) (v := ?_) rfl (by kernel_rfl) (by kernel_rfl) (by kernel_rfl) (fun _ _ _ h => h) (Or.inl ⟨by kernel_rfl, ?_⟩) (by assumption) ?_
          rotate_left
          · intro w hSw; (try dsimp only at hSw); go_simp; (try with_reducible rfl)
          refine wpAnyH_take (i := 6) (v := ?_) rfl (by kernel_rfl) (by kernel_rfl) (by kernel_rfl) (fun _ _ _ h => h) (Or.inl ⟨by kernel_rfl, ?_⟩) (by assumption) ?_
          rotate_left
          · intro w hSw; (try dsimp only at hSw); go_simp; (try with_reducible rfl)
          refine wpAnyH_take (i := 7) (v := ?_) rfl (by kernel_rfl) (by kernel_rfl) (by kernel_rfl) (fun _ _ _ h => h) (Or.inl ⟨by kernel_rfl, ?_⟩) (by assumption) ?_
          rotate_left
          · intro w hSw; (try dsimp only at hSw); go_simp; (try with_reducible rfl)
          refine wpAnyH_take (i := 8) (v := ?_) rfl (by kernel_rfl) (by kernel_rfl) (by kernel_rfl) (fun _ _ _ h => h) (Or.inl ⟨by kernel_rfl, ?_⟩) (by assumption) ?_
          rotate_left
          · intro w hSw; (try dsimp only at hSw); go_simp; (try with_reducible rfl)
          refine wpAnyH_take (i := 9) (v := ?_) rfl (by kernel_rfl) (by kernel_rfl) (by kernel_rfl) (fun _ _ _ h => h) (Or.inl ⟨by kernel_rfl, ?_⟩) (by assumption) ?_
          rotate_left
          · intro w hSw; (try dsimp only at hSw); go_simp; (try with_reducible rfl)
          refine wpAnyH_take (i := 10) (v := ?_) rfl (by kernel_rfl) (by kernel_rfl) (by kernel_rfl) (fun _ _ _ h => h) (Or.inl ⟨by kernel_rfl, ?_⟩) (by assumption) ?_
          rotate_left
          · intro w hSw; (try dsimp only at hSw); go_simp; (try with_reducible rfl)
          refine wpAnyH_take (i := 11) (v := ?_) rfl (by kernel_rfl) (by kernel_rfl) (by kernel_rfl) (fun _ _ _ h => h) (Or.inl ⟨by kernel_rfl, ?_⟩) (by assumption) ?_
          rotate_left
          · intro w hSw; (try dsimp only at hSw); go_simp; (try with_reducible rfl)
          refine wpAnyH_take (i := 12) (v := ?_) rfl (by kernel_rfl) (by kernel_rfl) (by kernel_rfl) (fun _ _ _ h => h) (Or.inl ⟨by kernel_rfl, ?_⟩) (by assumption) ?_
          rotate_left
          · intro w hSw; (try dsimp only at hSw); go_simp; (try with_reducible rfl)
          refine wpAnyH_take (i := 13) (v := ?_) rfl (by kernel_rfl) (by kernel_rfl) (by kernel_rfl) (fun _ _ _ h => h) (Or.inl ⟨by kernel_rfl, ?_⟩) (by assumption) ?_
          rotate_left
          · intro w hSw; (try dsimp only at hSw); go_simp; (try with_reducible rfl)
          refine wpAnyH_take (i := 14) (v := ?_) rfl (by kernel_rfl) (by kernel_rfl) (by kernel_rfl) (fun _ _ _ h => h) (Or.inl ⟨by kernel_rfl, ?_⟩) (by assumption) ?_
          rotate_left
          · intro w hSw; (try dsimp only at hSw); go_simp; (try with_reducible rfl)
          have hcell := hcell.out
          have hfz := hfz.out
          refine wpAnyH_ready (rs := [15]) (by kernel_rfl) (by simp) ?_
          refine AllReadyH.cons rfl (fun K hK => ?_) AllReadyH.nil
          go_simp
          refine hK.out _ _ ?_ (fun hS1 => ?_)
          · have hk7 : p7 ≠ k := by have := HE.out.2.2.1; omega
            have hk16 : p16 ≠ k := by have := HE.out.2.2.2; omega
            rw [cell_same wq hk7, cell_same wq hk16]
            exact hS0
          clear hK K hS0 hS1
          refine wpAnyH_done (by kernel_rfl) ?_ _
          have HN : Hid (SchI w B b (Sh.more l) (wq.setCell ⟨w.heap.size + 1, k, none⟩ (.int .u32 (q3 : Int))).drew) := Lib.hid (by
            have := HQ.out.set q3 (by rw [HLN.out]; omega)
            rw [HLN.out, ← HMO.out] at this
            exact this.drewN 1)
          clear hcell hfz hq1 hq2 hq3 f15 f2 f7 f16 g15 g2 g7 g16 b15 b2 b7 b16 h15 h2 h7 h16
          go_wp2
          go_roundw
          case rel => exact ⟨j + 1, by omega, by rw [HKJ.out]; go_num, by rw [HIT.out]; exact HN.out⟩
          case measure => simp [intOf]; omega
        · obtain rfl : j = 48 := by omega
          have HF : Hid (Sh.iter Sh.more 48 (Sh.words b) = Sh.sched b) := Lib.hid rfl
          rw [HF.out] at HS
          have HSL := Lib.hid (Sh.sched_length b HL.out)
          have hsz : (wcl (Sh.sched b)).toArray.size = 64 := by simp [wcl, HSL.out]
          have harr := HS.out.arr
          rw [w64_full _ HSL.out] at harr
          obtain ⟨C, hC⟩ : ∃ C, C = (wcl (Sh.sched b)).toArray := ⟨_, rfl⟩
          have hone : C.all (·.oneCell') = true := by rw [hC]; exact wcl_one _
          rw [← hC] at harr hsz
          have HC9 := Lib.hid hC
          have hres := HS.out.res
          have hi : (Tryz.prog.info? 253).map (·.size) = some C.size := by rw [hsz]; kernel_rfl
          have HB9 := Lib.hid (below_setRow HS.out.bel w.heap.size C (Nat.le_refl _))
          have h0 : (w64 []).size = C.size := by rw [hsz]; exact w64_size _ (by simp)
          obtain ⟨Z, hZ⟩ : ∃ Z, Z = w64 [] := ⟨_, rfl⟩
          rw [← hZ] at hres h0
          clear hj hlt hC hZ hsz
          have HH := Lib.hid (And.intro harr (And.intro hres (And.intro h0 (And.intro hi hone))))
          clear harr hres h0 hi hone
          go_wp2_with (first | (refine wpList_load_row (by rfl) 253 (.tmp 3) (by rfl) (w.heap.size + 1) (by rfl) 253 C (0, 0) _ HH.out.1 Tryz.underlying253 rfl HH.out.2.2.2.1 ?_) | (refine wpList_store_row (by rfl) 253 (.tmp 2) (.tmp 90) (by rfl) w.heap.size C (by rfl) (by rfl) 253 Z HH.out.2.1 HH.out.2.2.2.1 HH.out.2.2.1 HH.out.2.2.2.2 ?_))
          exact bodyPost_ret (v := .agg C) (results_cell_row (by rfl) _ _ w.heap.size 253 C (0, 0) _ (by rfl) (set_row _ _ _ _ _ _ HH.out.2.1) Tryz.underlying253 rfl HH.out.2.2.2.1) rfl ⟨by rw [HC9.out], HB9.out⟩
end Go.Proofs.YtbjchfcoacmaaaaGreatDoor
namespace Go.Proofs.YtbjchfcoacmaaaaGreatDoor
open Go.RowKit
set_option linter.unusedVariables false
def toL (s : Sh.S8) : List Nat := [s.a, s.b, s.c, s.d, s.e, s.f, s.g, s.h]
structure Ok8 (s : Sh.S8) : Prop where
  a : s.a < 4294967296
  b : s.b < 4294967296
  c : s.c < 4294967296
  d : s.d < 4294967296
  e : s.e < 4294967296
  f : s.f < 4294967296
  g : s.g < 4294967296
  h : s.h < 4294967296
theorem add32 (x y : Nat) : IntKind.u32.wrap ((x : Int) + (y : Int)) = (((x + y) % 4294967296 : Nat) : Int) := by rw [IntKind.wrap_u32]; omega
theorem xlt {x y : Nat} (hx : x < 4294967296) (hy : y < 4294967296) : x ^^^ y < 4294967296 := Nat.xor_lt_two_pow (n := 32) hx hy
theorem alt {x y : Nat} (hy : y < 4294967296) : x &&& y < 4294967296 := Nat.and_lt_two_pow (n := 32) x hy
theorem xor3 (x y z : Nat) (hx : x < 4294967296) (hy : y < 4294967296) (hz : z < 4294967296) : ∃ m : Nat, bits .xor .u32 (x : Int) (y : Int) = (m : Int) ∧ bits .xor .u32 (m : Int) (z : Int) = (((x ^^^ y) ^^^ z : Nat) : Int) :=
  ⟨x ^^^ y, xor_u32 _ _ hx hy, xor_u32 _ _ (xlt hx hy) hz⟩
theorem ch_facts (e f g : Nat) (he : e < 4294967296) (hf : f < 4294967296) (hg : g < 4294967296) : ∃ n1 cp n2 : Nat,
    bits .and .u32 (e : Int) (f : Int) = (n1 : Int) ∧ bits .xor .u32 IntKind.u32.max (e : Int) = (cp : Int) ∧ IntKind.u32.wrap (4294967295 - (e : Int)) = (cp : Int) ∧ bits .and .u32 (cp : Int) (g : Int) = (n2 : Int) ∧ bits .xor .u32 (n1 : Int) (n2 : Int) = (Sh.ch e f g : Int) := by
  refine ⟨e &&& f, 4294967295 - e, (4294967295 - e) &&& g, and_u32 _ _ he hf, ?_, ?_, and_u32 _ _ (by omega) hg, xor_u32 _ _ (alt hf) (alt hg)⟩
  · rw [show IntKind.u32.max = ((4294967295 : Nat) : Int) from rfl, xor_u32 _ _ (by decide) he]
    congr 1
    have h2 : (4294967295 : Nat) ^^^ e = 4294967295 - e := by
      apply Nat.eq_of_testBit_eq
      intro i
      rw [show (4294967295 : Nat) = 2 ^ 32 - 1 from rfl]
      rw [show 2 ^ 32 - 1 - e = 2 ^ 32 - (e + 1) by omega, Nat.testBit_two_pow_sub_succ he, Nat.testBit_xor, Nat.testBit_two_pow_sub_one]
      by_cases hi : i < 32
      · simp [hi]
      · have : e.testBit i = false := Nat.testBit_lt_two_pow (Nat.lt_of_lt_of_le he (Nat.pow_le_pow_right (show 0 < 2 from Nat.succ_pos _) (show 32 ≤ i by omega)))
        simp [hi, this]
    exact h2
  · rw [IntKind.wrap_u32]; omega
theorem maj_facts (a b c : Nat) (ha : a < 4294967296) (hb : b < 4294967296) (hc : c < 4294967296) : ∃ m1 m2 m3 m4 : Nat,
    bits .and .u32 (a : Int) (b : Int) = (m1 : Int) ∧ bits .and .u32 (a : Int) (c : Int) = (m2 : Int) ∧ bits .xor .u32 (m1 : Int) (m2 : Int) = (m3 : Int) ∧ bits .and .u32 (b : Int) (c : Int) = (m4 : Int) ∧ bits .xor .u32 (m3 : Int) (m4 : Int) = (Sh.maj a b c : Int) :=
  ⟨a &&& b, a &&& c, (a &&& b) ^^^ (a &&& c), b &&& c, and_u32 _ _ ha hb, and_u32 _ _ ha hc, xor_u32 _ _ (alt hb) (alt hc), and_u32 _ _ hb hc, xor_u32 _ _ (xlt (alt hb) (alt hc)) (alt hc)⟩
theorem step_facts (s : Sh.S8) (u1 c1 u0 mj k w : Nat) (h1 : u1 = Sh.ep1 s.e) (h2 : c1 = Sh.ch s.e s.f s.g) (h3 : u0 = Sh.ep0 s.a) (h4 : mj = Sh.maj s.a s.b s.c) : ∃ x1 x2 x3 t1 t2 e' a' : Nat,
    IntKind.u32.wrap ((s.h : Int) + (u1 : Int)) = (x1 : Int) ∧ IntKind.u32.wrap ((x1 : Int) + (c1 : Int)) = (x2 : Int) ∧ IntKind.u32.wrap ((x2 : Int) + (k : Int)) = (x3 : Int) ∧ IntKind.u32.wrap ((x3 : Int) + (w : Int)) = (t1 : Int) ∧
    IntKind.u32.wrap ((u0 : Int) + (mj : Int)) = (t2 : Int) ∧ IntKind.u32.wrap ((s.d : Int) + (t1 : Int)) = (e' : Int) ∧ IntKind.u32.wrap ((t1 : Int) + (t2 : Int)) = (a' : Int) ∧ Sh.step s k w = ⟨a', s.a, s.b, s.c, e', s.e, s.f, s.g⟩ ∧ e' < 4294967296 ∧ a' < 4294967296 := by
  subst h1 h2 h3 h4
  refine ⟨_, _, _, _, _, _, _, add32 _ _, add32 _ _, add32 _ _, add32 _ _, add32 _ _, add32 _ _, add32 _ _, ?_, Nat.mod_lt _ (show 0 < 4294967296 from Nat.succ_pos _), Nat.mod_lt _ (show 0 < 4294967296 from Nat.succ_pos _)⟩
  unfold Sh.step Sh.M32
  simp only
  congr 1 <;> omega
theorem step_ok {s : Sh.S8} (h : Ok8 s) (k w : Nat) : Ok8 (Sh.step s k w) := ⟨Nat.mod_lt _ (by decide), h.a, h.b, h.c, Nat.mod_lt _ (by decide), h.e, h.f, h.g⟩
theorem rounds_take (ks ws : List Nat) : ∀ (n : Nat) (s : Sh.S8) , n < ks.length → n < ws.length → Sh.rounds s (ks.take (n + 1)) (ws.take (n + 1)) = Sh.step (Sh.rounds s (ks.take n) (ws.take n)) (ks.getD n 0) (ws.getD n 0) := by
  intro n
  induction n generalizing ks ws with
  | zero =>
    intro s hk hw
    match ks, ws, hk, hw with
    | k :: ks, w :: ws, _, _ => simp [Sh.rounds]
  | succ n ih =>
    intro s hk hw
    match ks, ws, hk, hw with
    | k :: ks, w :: ws, hk, hw =>
      have := ih ks ws (Sh.step s k w) (by simpa using hk) (by simpa using hw)
      simpa [Sh.rounds] using this
theorem rounds_ok (ks ws : List Nat) : ∀ (s : Sh.S8), Ok8 s → Ok8 (Sh.rounds s ks ws) := by
  induction ks generalizing ws with
  | nil => intro s h; simpa [Sh.rounds] using h
  | cons k ks ih =>
    intro s h
    cases ws with
    | nil => simpa [Sh.rounds] using h
    | cons w ws => rw [Sh.rounds]; exact ih ws _ (step_ok h k w)
theorem K_length : Sh.K.length = 64 := by rfl
end Go.Proofs.YtbjchfcoacmaaaaGreatDoor
namespace Go.Proofs.YtbjchfcoacmaaaaGreatDoor
open Go.RowKit
set_option linter.unusedVariables false
def bcl (l : List Nat) : List Value := l.map fun (x : Nat) => Value.int .u8 (x : Int)
/-- a state's cells -/
def stc (ws b : List Nat) (n : Nat) : Array Value := (wcl ws ++ (bcl b ++ [Value.int .i64 (n : Int)])).toArray
theorem stc_size (ws b : List Nat) (n : Nat) (h1 : ws.length = 8) (h2 : b.length = 64) : (stc ws b n).size = 73 := by simp [stc, wcl, bcl, h1, h2]
theorem stc_word (ws b : List Nat) (n i : Nat) (h : i < ws.length) : (stc ws b n)[i]? = some (.int .u32 ((ws.getD i 0 : Nat) : Int)) := by
  unfold stc wcl
  rw [List.getElem?_toArray, List.getElem?_append_left (by simpa using h), List.getElem?_map, List.getElem?_eq_getElem h]
  simp [h]
theorem stc_byte (ws b : List Nat) (n i : Nat) (h8 : ws.length = 8) (h : i < b.length) : (stc ws b n)[8 + i]? = some (.int .u8 ((b.getD i 0 : Nat) : Int)) := by
  unfold stc
  rw [List.getElem?_toArray, List.getElem?_append_right (by simp [wcl, h8])]
  simp only [wcl, List.length_map, h8, Nat.add_sub_cancel_left]
  rw [List.getElem?_append_left (by simpa [bcl] using h)]
  simp [bcl, h]
theorem stc_len (ws b : List Nat) (n : Nat) (h8 : ws.length = 8) (h : b.length = 64) : (stc ws b n)[72]? = some (.int .i64 (n : Int)) := by
  unfold stc
  rw [List.getElem?_toArray, List.getElem?_append_right (by simp [wcl, h8])]
  simp only [wcl, List.length_map, h8]
  rw [List.getElem?_append_right (by simp [bcl, h])]
  simp [bcl, h]
theorem stc_set_word (ws b : List Nat) (n i x : Nat) (h : i < ws.length) : (stc ws b n).setIfInBounds i (.int .u32 (x : Int)) = stc (ws.set i x) b n := by
  apply Array.toList_inj.1
  rw [Array.toList_setIfInBounds]
  unfold stc wcl
  rw [List.toList_toArray, List.toList_toArray, List.set_append_left _ _ (by simpa using h), List.map_set]
/-- the constants lie where they lie -/
def RootsAt (w : World) : Prop := ∀ t, t < 64 → w.cell? ⟨1, t, none⟩ = some (.int .u32 ((Sh.K.getD t 0 : Nat) : Int))
theorem RootsAt.keeps {S : Nat → Prop} {w w' : World} (h : RootsAt w) (hk : Kq.Keeps S w w') (hs : ¬ S 1) (hw : 1 < w.heap.size) : RootsAt w' := fun t ht => by
  rw [World.cell?_of_block (hk.block _ hw hs)]
  exact h t ht
/-- a state in block B -/
structure StS (w : World) (B : Nat) (t : TypeId) (ws b : List Nat) (n : Nat) : Prop where
  blk : w.heap[B]? = some (.cells (stc ws b n) t (0, 0))
  w8 : ws.length = 8
  b64 : b.length = 64
  wlt : ∀ x ∈ ws, x < 4294967296
  blt : ∀ x ∈ b, x < 256
  roots : RootsAt w
  far : 1 < B
  low : 1 < w.heap.size
theorem StS.keeps {S : Nat → Prop} {w w' : World} {B : Nat} {t : TypeId} {ws b : List Nat} {n : Nat} (h : StS w B t ws b n) (hk : Kq.Keeps S w w') (hB : ¬ S B) (hs : ¬ S 1) : StS w' B t ws b n :=
  ⟨hk.blk h.blk hB, h.w8, h.b64, h.wlt, h.blt, h.roots.keeps hk hs h.low, h.far, Nat.lt_of_lt_of_le h.low hk.size⟩
theorem StS.lt {w : World} {B : Nat} {t : TypeId} {ws b : List Nat} {n : Nat} (h : StS w B t ws b n) : B < w.heap.size := Kq.blk_lt h.blk
theorem StS.below {w w' : World} {B : Nat} {t : TypeId} {ws b : List Nat} {n : Nat} (h : StS w B t ws b n) (hb : Below w.heap.size w w') : StS w' B t ws b n :=
  h.keeps (Kq.Keeps.of_below (S := fun _ => False) hb (fun k h1 h2 => absurd h1 (Nat.not_le.2 h2))) (fun h => h) (fun h => h)
theorem StS.word {w : World} {B : Nat} {t : TypeId} {ws b : List Nat} {n : Nat} (h : StS w B t ws b n) (i : Nat) (hi : i < 8) : w.cell? ⟨B, i, none⟩ = some (.int .u32 ((ws.getD i 0 : Nat) : Int)) :=
  (Kq.blk_cell h.blk i).trans (stc_word ws b n i (by rw [h.w8]; exact hi))
theorem StS.byte {w : World} {B : Nat} {t : TypeId} {ws b : List Nat} {n : Nat} (h : StS w B t ws b n) (i : Nat) (hi : i < 64) : w.cell? ⟨B, 8 + i, none⟩ = some (.int .u8 ((b.getD i 0 : Nat) : Int)) :=
  (Kq.blk_cell h.blk (8 + i)).trans (stc_byte ws b n i h.w8 (by rw [h.b64]; exact hi))
theorem StS.len {w : World} {B : Nat} {t : TypeId} {ws b : List Nat} {n : Nat} (h : StS w B t ws b n) : w.cell? ⟨B, 72, none⟩ = some (.int .i64 (n : Int)) :=
  (Kq.blk_cell h.blk 72).trans (stc_len ws b n h.w8 h.b64)
theorem StS.setWord {w : World} {B : Nat} {t : TypeId} {ws b : List Nat} {n : Nat} (h : StS w B t ws b n) (i x : Nat) (hi : i < 8) (hx : x < 4294967296) : StS (w.setCell ⟨B, i, none⟩ (.int .u32 (x : Int))) B t (ws.set i x) b n := by
  have hk : Kq.Keeps (· = B) w (w.setCell ⟨B, i, none⟩ (.int .u32 (x : Int))) := Kq.Keeps.setCell _ _ _ rfl
  refine ⟨?_, by simp [h.w8], h.b64, fun y hy => ?_, h.blt, h.roots.keeps hk (fun e => by have := h.far; omega) h.low, h.far, Nat.lt_of_lt_of_le h.low hk.size⟩
  · rw [Kq.blk_set h.blk, stc_set_word ws b n i x (by rw [h.w8]; exact hi)]
  · rcases List.mem_or_eq_of_mem_set hy with hy | rfl
    · exact h.wlt y hy
    · exact hx
/-- the words of a list of eight -/
def ofL (ws : List Nat) : Sh.S8 := ⟨ws.getD 0 0, ws.getD 1 0, ws.getD 2 0, ws.getD 3 0, ws.getD 4 0, ws.getD 5 0, ws.getD 6 0, ws.getD 7 0⟩
theorem ofL_ok {ws : List Nat} (h : ∀ x ∈ ws, x < 4294967296) : Ok8 (ofL ws) := ⟨getD_lt ws h 0, getD_lt ws h 1, getD_lt ws h 2, getD_lt ws h 3, getD_lt ws h 4, getD_lt ws h 5, getD_lt ws h 6, getD_lt ws h 7⟩
theorem drewN_add (w : World) (a b : Nat) : (w.drewN a).drewN b = w.drewN (a + b) := by simp [World.drewN, Nat.add_assoc]
structure MixS (w : World) (B : Nat) (t : TypeId) (ws b : List Nat) (n : Nat) (C : Nat) (W : List Nat) (wr : World) : Prop where
  st : StS wr B t ws b n
  arr : wr.heap[C]? = some (.cells (wcl W).toArray 253 (0, 0))
  keep : Kq.Keeps (· = B) w wr
  ne : w.heap.size ≤ C
theorem MixS.drewN {w : World} {B : Nat} {t : TypeId} {ws b : List Nat} {n C : Nat} {W : List Nat} {wr : World} (h : MixS w B t ws b n C W wr) (m : Nat) : MixS w B t ws b n C W (wr.drewN m) :=
  ⟨h.st.below ⟨rfl, rfl, rfl, Nat.le_refl _, fun _ _ => rfl⟩, h.arr, ⟨h.keep.os, h.keep.tape, h.keep.output, h.keep.size, h.keep.block⟩, h.ne⟩
theorem wcl_at (l : List Nat) (i : Nat) (h : i < l.length) : (wcl l).toArray[i]? = some (Value.int .u32 ((l.getD i 0 : Nat) : Int)) := by
  unfold wcl
  rw [List.getElem?_toArray, List.getElem?_map, List.getElem?_eq_getElem h]
  simp [h]
/-- the words behind k of eight sums -/
def partW (ws : List Nat) (s : Sh.S8) (k : Nat) : List Nat := (toL (Sh.add8 (ofL ws) s)).take k ++ ws.drop k
theorem partW_all (ws : List Nat) (s : Sh.S8) (h : ws.length = 8) (k : Nat) (hk : k < 8) : (partW ws s k).getD k 0 = ws.getD k 0 ∧ (partW ws s k).set k ((ws.getD k 0 + (toL s).getD k 0) % 4294967296) = partW ws s (k + 1) := by
  match ws, h with
  | [a, b, c, d, e, f, g, i], _ =>
    rcases k with _ | _ | _ | _ | _ | _ | _ | _ | k
    · exact ⟨rfl, rfl⟩
    · exact ⟨rfl, rfl⟩
    · exact ⟨rfl, rfl⟩
    · exact ⟨rfl, rfl⟩
    · exact ⟨rfl, rfl⟩
    · exact ⟨rfl, rfl⟩
    · exact ⟨rfl, rfl⟩
    · exact ⟨rfl, rfl⟩
    · omega
theorem partW_zero (ws : List Nat) (s : Sh.S8) : partW ws s 0 = ws := by simp [partW]
theorem partW_eight (ws : List Nat) (s : Sh.S8) (h : ws.length = 8) : partW ws s 8 = toL (Sh.add8 (ofL ws) s) := by
  unfold partW
  rw [List.take_of_length_le (by simp [toL]), List.drop_of_length_le (by omega), List.append_nil]
theorem index8 (l : List Nat) (h : l.length = 8) (k : Nat) (hk : k < 8) (w : World) : (Instr.index 231 (.agg (wcl l).toArray) (.int .i64 (k : Int))).run Tryz.prog w = .ok (.int .u32 ((l.getD k 0 : Nat) : Int)) w := by
  have hc := wcl_at l k (by omega)
  generalize (wcl l).toArray = vs at *
  simp [Instr.index, run_underlying Tryz.underlying231, asIntOf, go_sem, Tryz.sizeOf187, hk, hc, part]
set_option maxRecDepth 100000 in
set_option maxHeartbeats 4000000 in
theorem sh_mix (B : Nat) (t : TypeId) (ws b : List Nat) (n : Nat) (w : World) (h : StS w B t ws b n) :
    Calls Tryz.prog 178 #[.pointer (some ⟨B, 0, none⟩)] w fun x w' => x = .returned (.tuple #[]) ∧ StS w' B t (toL (Sh.mix (ofL ws) b)) b n ∧ Kq.Keeps (· = B) w w' := by
  have H := Lib.hid h
  clear h
  go_enter Tryz.func178, Tryz.ntmps178
  go_wp2_with fail
  refine (sh_schedule B b _ H.out.lt H.out.b64 H.out.blt (fun j hj => H.out.byte j hj)).mono ?_
  rintro x w1 ⟨rfl, hb1⟩
  have H1 := Lib.hid (H.out.below hb1)
  have HB1 := Lib.hid hb1
  have HW := Lib.hid (Sh.sched_length b H.out.b64)
  have HWB : Hid (∀ i, (Sh.sched b).getD i 0 < 4294967296) := Lib.hid (fun i => getD_lt _ (iter_mem_lt 48 _ (words_lt b H.out.blt)) i)
  clear hb1
  have HMX : Hid (Sh.mix (ofL ws) b = Sh.add8 (ofL ws) (Sh.rounds (ofL ws) Sh.K (Sh.sched b))) := Lib.hid rfl
  obtain ⟨W, hW⟩ : ∃ W, W = Sh.sched b := ⟨_, rfl⟩
  rw [← hW] at HW HWB HMX
  have hsz : (wcl W).toArray.size = 64 := by simp [wcl, HW.out]
  have hi : (Tryz.prog.info? 253).map (·.size) = some (wcl W).toArray.size := by rw [hsz]; kernel_rfl
  have HST := Lib.hid (And.intro hi (And.intro hsz (wcl_one W)))
  obtain ⟨C, hC⟩ : ∃ C, C = (wcl W).toArray := ⟨_, rfl⟩
  have HC := Lib.hid hC
  rw [← hC] at HST
  rw [← hW, ← hC]
  clear hW hC hi hsz
  go_wp2_with (refine wpList_store_row (by rfl) 253 (.tmp 2) (.tmp 21) (by rfl) w1.heap.size C (by rfl) (by rfl) 253 _ (Kq.blk_new w1 _ _ _) HST.out.1 (by rw [HST.out.2.1]; rfl) HST.out.2.2 ?_)
  generalize hw2 : World.setRow _ _ _ = w2
  have HM : Hid (MixS w B t ws b n w1.heap.size W w2) := Lib.hid (by
    have hbb : Below w1.heap.size w1 w2 := by rw [← hw2]; exact below_setRow (Kq.below_alloc w1 _) _ C (Nat.le_refl _)
    refine ⟨H1.out.below hbb, ?_, ?_, HB1.out.size⟩
    · rw [← hw2, ← HC.out]; exact set_row _ _ _ _ _ _ (Kq.blk_new w1 _ _ _)
    · exact Kq.Keeps.of_below (HB1.out.trans (hbb.mono HB1.out.size)) (fun k h1 h2 => absurd h1 (Nat.not_le.2 h2)))
  clear hw2
  have HO := Lib.hid (ofL_ok H.out.wlt)
  have HSO : Hid (ofL ws = ⟨ws.getD 0 0, ws.getD 1 0, ws.getD 2 0, ws.getD 3 0, ws.getD 4 0, ws.getD 5 0, ws.getD 6 0, ws.getD 7 0⟩) := Lib.hid rfl
  have d0 := HM.out.st.word 0 (by decide)
  have d1 := HM.out.st.word 1 (by decide)
  have d2 := HM.out.st.word 2 (by decide)
  have d3 := HM.out.st.word 3 (by decide)
  have d4 := HM.out.st.word 4 (by decide)
  have d5 := HM.out.st.word 5 (by decide)
  have d6 := HM.out.st.word 6 (by decide)
  have d7 := HM.out.st.word 7 (by decide)
  generalize ws.getD 0 0 = v0 at *
  generalize ws.getD 1 0 = v1 at *
  generalize ws.getD 2 0 = v2 at *
  generalize ws.getD 3 0 = v3 at *
  generalize ws.getD 4 0 = v4 at *
  generalize ws.getD 5 0 = v5 at *
  generalize ws.getD 6 0 = v6 at *
  generalize ws.getD 7 0 = v7 at *
  go_quiet (fail)
  go_wp2
  go_quiet (fail)
  go_wp2
  clear d0 d1 d2 d3 d4 d5 d6 d7
  go_loopw [3, 4, 5, 6, 7, 8, 9, 10, 62] (fun a b' c d e f g l i wr => ∃ (k m : Nat) (s : Sh.S8), k ≤ 64 ∧ s = Sh.rounds (ofL ws) (Sh.K.take k) (W.take k) ∧ a = .int .u32 (s.a : Int) ∧ b' = .int .u32 (s.b : Int) ∧ c = .int .u32 (s.c : Int) ∧ d = .int .u32 (s.d : Int) ∧ e = .int .u32 (s.e : Int) ∧ f = .int .u32 (s.f : Int) ∧ g = .int .u32 (s.g : Int) ∧ l = .int .u32 (s.h : Int) ∧ i = .int .i64 (k : Int) ∧ wr = w2.drewN m) (fun _ _ _ _ _ _ _ _ i _ => 64 - (intOf i).toNat)
  case atStart => exact ⟨0, _, ofL ws, by omega, by simp [Sh.rounds], by rw [HSO.out], by rw [HSO.out], by rw [HSO.out], by rw [HSO.out], by rw [HSO.out], by rw [HSO.out], by rw [HSO.out], by rw [HSO.out], rfl, drewN_add w2 _ _⟩
  case round =>
    obtain ⟨k, m, s, hk, hs, rfl, rfl, rfl, rfl, rfl, rfl, rfl, rfl, rfl, rfl⟩ := hrel
    have HS := Lib.hid hs
    have HOK : Hid (Ok8 s) := Lib.hid (by rw [hs]; exact rounds_ok _ _ _ HO.out)
    clear hs
    by_cases hlt : k < 64
    · have HST := Lib.hid (rounds_take Sh.K W k (ofL ws) (by rw [K_length]; exact hlt) (by rw [HW.out]; exact hlt))
      rw [← HS.out] at HST
      have hl : (k : Int) < 64 := by omega
      have r0 : w2.cell? ⟨1, k, none⟩ = some (.int .u32 ((Sh.K.getD k 0 : Nat) : Int)) := HM.out.st.roots k hlt
      have r1 : w2.cell? ⟨w1.heap.size, k, none⟩ = some (.int .u32 ((W.getD k 0 : Nat) : Int)) := (Kq.blk_cell HM.out.arr k).trans (wcl_at W k (by rw [HW.out]; exact hlt))
      generalize Sh.K.getD k 0 = kk at *
      generalize W.getD k 0 = wk at *
      have T6 := Lib.hid (fun w => sh_turn s.e 6 w HOK.out.e (by decide) (by decide))
      have T11 := Lib.hid (fun w => sh_turn s.e 11 w HOK.out.e (by decide) (by decide))
      have T25 := Lib.hid (fun w => sh_turn s.e 25 w HOK.out.e (by decide) (by decide))
      have T2 := Lib.hid (fun w => sh_turn s.a 2 w HOK.out.a (by decide) (by decide))
      have T13 := Lib.hid (fun w => sh_turn s.a 13 w HOK.out.a (by decide) (by decide))
      have T22 := Lib.hid (fun w => sh_turn s.a 22 w HOK.out.a (by decide) (by decide))
      obtain ⟨z1, f1, f2⟩ := xor3 (Sh.rot s.e 6) (Sh.rot s.e 11) (Sh.rot s.e 25) (rot_lt _ _ HOK.out.e) (rot_lt _ _ HOK.out.e) (rot_lt _ _ HOK.out.e)
      obtain ⟨z2, f3, f4⟩ := xor3 (Sh.rot s.a 2) (Sh.rot s.a 13) (Sh.rot s.a 22) (rot_lt _ _ HOK.out.a) (rot_lt _ _ HOK.out.a) (rot_lt _ _ HOK.out.a)
      obtain ⟨n1, cp, n2, f5, f6, f7, f8, f9⟩ := ch_facts s.e s.f s.g HOK.out.e HOK.out.f HOK.out.g
      obtain ⟨m1, m2, m3, m4, f10, f11, f12, f13, f14⟩ := maj_facts s.a s.b s.c HOK.out.a HOK.out.b HOK.out.c
      obtain ⟨x1, x2, x3, t1, t2, e', a', f15, f16, f17, f18, f19, f20, f21, HSF, q1, q2⟩ := step_facts s _ _ _ _ kk wk rfl rfl rfl rfl
      have HSF := Lib.hid HSF
      have HOK2 : Hid (Ok8 ⟨a', s.a, s.b, s.c, e', s.e, s.f, s.g⟩) := Lib.hid ⟨q2, HOK.out.a, HOK.out.b, HOK.out.c, q1, HOK.out.e, HOK.out.f, HOK.out.g⟩
      clear q1 q2 f7
      have e1 : ((Sh.rot s.e 6 ^^^ Sh.rot s.e 11) ^^^ Sh.rot s.e 25) = Sh.ep1 s.e := rfl
      have e0 : ((Sh.rot s.a 2 ^^^ Sh.rot s.a 13) ^^^ Sh.rot s.a 22) = Sh.ep0 s.a := rfl
      rw [e1] at f2
      rw [e0] at f4
      clear e1 e0
      generalize Sh.rot s.e 6 = ra at *
      generalize Sh.rot s.e 11 = rb at *
      generalize Sh.rot s.e 25 = rc at *
      generalize Sh.rot s.a 2 = rd at *
      generalize Sh.rot s.a 13 = re at *
      generalize Sh.rot s.a 22 = rf at *
      generalize Sh.ep1 s.e = u1 at *
      generalize Sh.ep0 s.a = u0 at *
      generalize Sh.ch s.e s.f s.g = c1 at *
      generalize Sh.maj s.a s.b s.c = mj at *
      have F6 := Lib.hid (And.intro f1 f2)
      have F8 := Lib.hid (And.intro f3 f4)
      clear f1 f2 f3 f4
      go_wp2_with fail
      refine (T6.out _).mono ?_
      rintro e wa ⟨rfl, n6, rfl⟩
      go_wp2_with fail
      refine (T11.out _).mono ?_
      rintro e wa ⟨rfl, n7, rfl⟩
      have f1 := F6.out.1
      go_wp2_with fail
      refine (T25.out _).mono ?_
      rintro e wa ⟨rfl, n8, rfl⟩
      have f2 := F6.out.2
      go_wp2
      clear f1 f2 T6 T11 T25 F6
      have f6' : bits .xor .u32 (if IntKind.u32.signed = true then -1 else IntKind.u32.max) (s.e : Int) = (cp : Int) := f6
      go_quiet (fail)
      clear f6' r0 r1 f5 f6 f8 f9 f15 f16 f17 f18
      go_wp2_with fail
      refine (T2.out _).mono ?_
      rintro e wa ⟨rfl, n9, rfl⟩
      go_wp2_with fail
      refine (T13.out _).mono ?_
      rintro e wa ⟨rfl, n10, rfl⟩
      have f3 := F8.out.1
      go_wp2_with fail
      refine (T22.out _).mono ?_
      rintro e wa ⟨rfl, n11, rfl⟩
      have f4 := F8.out.2
      clear T2 T13 T22 F8
      go_wp2
      go_roundw
      case rel => exact ⟨k + 1, _, _, by omega, HST.out.symm, by rw [HSF.out], by rw [HSF.out], by rw [HSF.out], by rw [HSF.out], by rw [HSF.out], by rw [HSF.out], by rw [HSF.out], by rw [HSF.out], by go_num, rfl⟩
      case measure => simp [intOf]; omega
    · have hk64 : k = 64 := by omega
      have HF : Hid (s = Sh.rounds (ofL ws) Sh.K W) := Lib.hid (by rw [HS.out, hk64, List.take_of_length_le (by rw [K_length]; exact Nat.le_refl _), List.take_of_length_le (by rw [HW.out]; exact Nat.le_refl _)])
      clear hk64
      have HSM := Lib.hid (And.intro HM.out (And.intro HOK.out HF.out))
      go_wp2
      clear hk hlt
      obtain ⟨vs, hvs⟩ : ∃ vs, vs = (wcl (toL s)).toArray := ⟨_, rfl⟩
      have HIX : Hid (∀ (k : Nat) (w : World), k < 8 → (Instr.index 231 (.agg vs) (.int .i64 (k : Int))).run Tryz.prog w = .ok (.int .u32 (((toL s).getD k 0 : Nat) : Int)) w) := Lib.hid (fun k w hk => by rw [hvs]; exact index8 (toL s) rfl k hk w)
      have hvs' : #[Value.int .u32 (s.a : Int), .int .u32 (s.b : Int), .int .u32 (s.c : Int), .int .u32 (s.d : Int), .int .u32 (s.e : Int), .int .u32 (s.f : Int), .int .u32 (s.g : Int), .int .u32 (s.h : Int)] = vs := hvs.symm
      rw [hvs']
      have HP0 : Hid (MixS w B t (partW ws s 0) b n w1.heap.size W (w2.drewN m)) := Lib.hid (by rw [partW_zero]; exact HSM.out.1.drewN m)
      generalize w2.drewN m = w3 at *
      clear hvs hvs'
      go_loopw [136] (fun i wr => ∃ k : Nat, k ≤ 8 ∧ i = .int .i64 (k : Int) ∧ MixS w B t (partW ws s k) b n w1.heap.size W wr) (fun i _ => 8 - (intOf i).toNat)
      case atStart => exact ⟨0, by omega, rfl, HP0.out⟩
      case round =>
        obtain ⟨j, hj, rfl, hS⟩ := hrel
        have HJ := Lib.hid hS
        clear hS
        by_cases hlt : j < 8
        · have hl : (j : Int) < 8 := by omega
          have hix := fun w => HIX.out j w hlt
          have HPA := Lib.hid (partW_all ws s H.out.w8 j hlt)
          have c0 := HJ.out.st.word j hlt
          rw [HPA.out.1] at c0
          have ha := add32 (ws.getD j 0) ((toL s).getD j 0)
          obtain ⟨x, hx, HX⟩ : ∃ x, x = (ws.getD j 0 + (toL s).getD j 0) % 4294967296 ∧ Hid (x < 4294967296) := ⟨_, rfl, Lib.hid (Nat.mod_lt _ (by decide))⟩
          rw [← hx] at ha HPA
          clear hx
          generalize ws.getD j 0 = y0 at *
          generalize (toL s).getD j 0 = y1 at *
          have hfz : Hid (wr.frozen? ⟨B, j, none⟩ = false) := Lib.hid (Kq.blk_free HJ.out.st.blk j)
          go_wp2
          clear hix
          refine Kq.wp_region_T (last := 11) (S := fun w' => w'.cell? ⟨B, j, none⟩ = some (Value.int .u32 (y0 : Int))) (by kernel_rfl) c0 (fun hS0 => ?_)
          clear c0
          refine Kq.wpAnyT_take (i := 0) (v := ?_) rfl rfl (by kernel_rfl) (by kernel_rfl) (by kernel_rfl) (by kernel_rfl) (fun _ _ _ h => h) (Or.inl ⟨by kernel_rfl, ?_⟩) (by assumption) ?_
          rotate_left
          · intro w hSw; (try dsimp only at hSw); go_simp; (try with_reducible rfl)
          refine Kq.wpAnyT_take (i := 1) (v := ?_) rfl rfl (by kernel_rfl) (by kernel_rfl) (by kernel_rfl) (by kernel_rfl) (fun _ _ _ h => h) (Or.inl ⟨by kernel_rfl, ?_⟩) (by assumption) ?_
          rotate_left
          · intro w hSw; (try dsimp only at hSw); go_simp; (try with_reducible rfl)
          refine Kq.wpAnyT_take (i := 2) (v := ?_) rfl rfl (by kernel_rfl) (by kernel_rfl) (by kernel_rfl) (by kernel_rfl) (fun _ _ _ h => h) (Or.inl ⟨by kernel_rfl, ?_⟩) (by assumption) ?_
          rotate_left
          · intro w hSw; (try dsimp only at hSw); go_simp; (try with_reducible rfl)
          refine Kq.wpAnyT_take (i := 3) (v := ?_) rfl rfl (by kernel_rfl) (by kernel_rfl) (by kernel_rfl) (by kernel_rfl) (fun _ _ _ h => h) (Or.inl ⟨by kernel_rfl, ?_⟩) (by assumption) ?_
          rotate_left
          · intro w hSw; (try dsimp only at hSw); go_simp; (try with_reducible rfl)
          refine Kq.wpAnyT_take (i := 4) (v := ?_) rfl rfl (by kernel_rfl) (by kernel_rfl) (by kernel_rfl) (by kernel_rfl) (fun _ _ _ h => h) (Or.inl ⟨by kernel_rfl, ?_⟩) (by assumption) ?_
          rotate_left
          · intro w hSw; (try dsimp only at hSw); go_simp; (try with_reducible rfl)
          refine Kq.wpAnyT_take (i := 5) (v := ?_) rfl rfl (by kernel_rfl) (by kernel_rfl) (by kernel_rfl) (by kernel_rfl) (fun _ _ _ h => h) (Or.inl ⟨by kernel_rfl, ?_⟩) (by assumption) ?_
          rotate_left
          · intro w hSw; (try dsimp only at hSw); go_simp; (try with_reducible rfl)
          refine Kq.wpAnyT_take (i := 6) (v := ?_) rfl rfl (by kernel_rfl) (by kernel_rfl) (by kernel_rfl) (by kernel_rfl) (fun _ _ _ h => h) (Or.inl ⟨by kernel_rfl, ?_⟩) (by assumption) ?_
          rotate_left
          · intro w hSw; (try dsimp only at hSw); go_simp; (try with_reducible rfl)
          refine Kq.wpAnyT_take (i := 7) (v := ?_) rfl rfl (by kernel_rfl) (by kernel_rfl) (by kernel_rfl) (by kernel_rfl) (fun _ _ _ h => h) (Or.inl ⟨by kernel_rfl, ?_⟩) (by assumption) ?_
          rotate_left
          · intro w hSw; (try dsimp only at hSw); go_simp; (try with_reducible rfl)
          refine Kq.wpAnyT_one (i := 8) (by kernel_rfl) rfl (fun K hK => ?_)
          go_simp
          refine hK.out _ _ hS0 (fun hS1 => ?_)
          clear hK K hS1
          refine Kq.wpAnyT_one (i := 9) (by kernel_rfl) rfl (fun K hK => ?_)
          go_simp
          refine hK.out _ _ hS0 (fun hS1 => ?_)
          clear hK K hS1
          refine Kq.wpAnyT_take (i := 10) (v := ?_) rfl rfl (by kernel_rfl) (by kernel_rfl) (by kernel_rfl) (by kernel_rfl) (fun _ _ _ h => h) (Or.inl ⟨by kernel_rfl, ?_⟩) (by assumption) ?_
          rotate_left
          · intro w hSw; (try dsimp only at hSw); go_simp; (try with_reducible rfl)
          have hfz := hfz.out
          have hS0 : wr.cell? ⟨B, j, none⟩ = some (Value.int .u32 (y0 : Int)) := hS0
          refine Kq.wpAnyT_last (by kernel_rfl) rfl (fun K hK => ?_)
          go_simp
          refine hK.out _ _ ?_
          clear hK K hS0
          refine Kq.wpAnyT_done (by kernel_rfl) ?_ _
          have HN : Hid (MixS w B t (partW ws s (j + 1)) b n w1.heap.size W (wr.setCell ⟨B, j, none⟩ (.int .u32 (x : Int))).drew) := Lib.hid (by
            have h1 := HJ.out.st.setWord j x hlt HX.out
            rw [HPA.out.2] at h1
            refine MixS.drewN (m := 1) ⟨h1, ?_, HJ.out.keep.trans (Kq.Keeps.setCell _ _ _ rfl), HJ.out.ne⟩
            rw [Below.heap_setCell _ _ _ _ (show w1.heap.size ≠ B by have := H1.out.lt; omega)]
            exact HJ.out.arr)
          clear hfz ha
          go_wp2
          go_roundw
          case rel => exact ⟨j + 1, by omega, by go_num, HN.out⟩
          case measure => simp [intOf]; omega
        · have h8 : j = 8 := by omega
          rw [h8, partW_eight ws s H.out.w8, HF.out, ← HMX.out] at HJ
          clear h8
          go_wp2
          go_end0
          exact ⟨rfl, HJ.out.st, HJ.out.keep⟩
end Go.Proofs.YtbjchfcoacmaaaaGreatDoor
