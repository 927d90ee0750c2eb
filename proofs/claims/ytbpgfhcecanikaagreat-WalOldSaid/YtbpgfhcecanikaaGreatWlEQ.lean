/- Merged: WlC, WlE. Contract of a log's begin. Condition: sizes. Contract of wal.Open. Condition: sizes. -/
import Derived.WalkSpells
import Derived.Outline
import Derived.Deep.QuietTactic
import Derived.Deep.RegionHeld
import Derived.Test.YtbpgfhcecanikaaGreatWlBQ
import Derived.Test.YtbpgfhcecanikaaGreatFrSplitQ
import Derived.Test.YtbpgfhcecanikaaGreatRefValQ
import Derived.Test.YtbpgfhcecanikaaGreatWrAQ
namespace Go.Proofs.YtbpgfhcecanikaaGreat
open Go.RowKit
set_option linter.unusedVariables false
theorem row_strsW {R : Nat} {v : Value} {l : List ByteArray} {w : World} (h : w.ownsRow R 9 1 v l.length (tcells l)) : ∃ A cap, v = .slice A l.length cap ∧ StrsAt w A l ∧ (∀ g o, A = some ⟨g, o, none⟩ → R ≤ g) ∧ l.length ≤ cap := by
  obtain ⟨A, cap, rfl, hA, hc, -⟩ := row_strs_cap h
  refine ⟨A, cap, rfl, hA, fun g o e => ?_, hc⟩
  subst e
  exact own_ge h (by simp [Value.ownBlock])
set_option maxHeartbeats 1000000 in
theorem split_sizes (a g x : Nat) (s : ByteArray) (ha : 64 ≤ a) : (frSplit (a : Int) g x s).1.length ≤ 200 ∧ ∀ t ∈ (frSplit (a : Int) g x s).1, t.size ≤ 1000 := by
  unfold frSplit
  by_cases h : FrSz (a : Int) ∧ s.size ≤ 4096
  · rw [if_pos h]
    have ha2 : a ≤ 512 := by have h1 : (a : Int) ≤ 512 := h.1.2; omega
    have hn := nParts_le a s.size ha h.2
    show ((List.range (nParts (Int.toNat (a : Int)) s.size)).map (secF (Int.toNat (a : Int)) g x (nParts (Int.toNat (a : Int)) s.size) s)).length ≤ 200 ∧ ∀ t ∈ (List.range (nParts (Int.toNat (a : Int)) s.size)).map (secF (Int.toNat (a : Int)) g x (nParts (Int.toNat (a : Int)) s.size) s), t.size ≤ 1000
    rw [Int.toNat_natCast]
    obtain ⟨n, hnn⟩ : ∃ n, n = nParts a s.size := ⟨_, rfl⟩
    rw [← hnn] at hn ⊢
    refine ⟨by rw [List.length_map, List.length_range]; omega, fun t ht => ?_⟩
    obtain ⟨i, _, rfl⟩ := List.mem_map.1 ht
    have hz : (secF a g x n s i).size = a := frSec_size a ⟨g, x, i, n, pieceC (a - 25) s i⟩ (by omega) (piece_size (a - 25) s i)
    omega
  · rw [if_neg h]
    exact ⟨Nat.zero_le _, fun t ht => by cases ht⟩
/-- what begin makes of a record that may be -/
def beF (a b g sg : Nat) (s : ByteArray) (ws : List (Int × ByteArray)) (ar : Nat) (st : List Nat) : List (Int × ByteArray) × Nat × List Nat × Int := layF a b (2 + sg * segN b) (frSplit (a : Int) g 0 s).1 ws ar st
set_option maxRecDepth 100000 in
set_option maxHeartbeats 2000000 in
theorem wl_begin {w : World} {base B S a b R N : Nat} {buf : Value} {ws : List (Int × ByteArray)} {ar : Nat} {st : List Nat} {v : WalV} (h : WlS w base B S a b R buf ws ar st v) (ho : StOk a b N ws ar st) (hN : N + 220 ≤ 1000000) (hn : a * b ≤ 3000000) (ha : 64 ≤ a) (ha2 : a ≤ 512) (hb : 4 ≤ b) (hb2 : b ≤ 5000) (g sg : Nat) (hg : g < M64) (hsg : sg ≤ 1) (s : ByteArray) (hs : s.size ≤ 4096) :
    Calls Tryz.prog 50 #[.pointer (some ⟨R, 0, none⟩), .agg #[.int .u64 (g : Int), .int .i64 (sg : Int)], .string s] w fun x w' => x = .returned (.int .i64 (beF a b g sg s ws ar st).2.2.2) ∧ WoP w base B S a b R buf (beF a b g sg s ws ar st).1 (beF a b g sg s ws ar st).2.1 (beF a b g sg s ws ar st).2.2.1 v w' := by
  obtain ⟨w1, hw1⟩ : ∃ z, z = w.alloc (.cells #[.int .u64 (g : Int), .int .i64 (sg : Int)] 84) := ⟨_, rfl⟩
  have hb1 : Below w.heap.size w w1 := by rw [hw1]; exact Kq.below_alloc _ _
  obtain ⟨X, hX⟩ : ∃ X, X = w.heap.size := ⟨_, rfl⟩
  have hx1 : HxC w1 X g sg := by unfold HxC; rw [hw1, hX]; exact Kq.blk_new _ _ _ _
  have HD : Hid (PhS w1.drew R B X a b g sg ∧ HxC w1.drew X g sg ∧ WlS w1.drew base B S a b R buf ws ar st v ∧ Below w.heap.size w w1.drew) := Lib.hid (by
    have hW := (h.below hb1).drew
    have c0 : w1.drew.cell? ⟨X, 0, none⟩ = some (.int .u64 (g : Int)) := Kq.blk_cell (show w1.drew.heap[X]? = _ from hx1) 0
    have c1 : w1.drew.cell? ⟨X, 1, none⟩ = some (.int .i64 (sg : Int)) := Kq.blk_cell (show w1.drew.heap[X]? = _ from hx1) 1
    exact ⟨⟨hW.c0, hW.d.d.c0, hW.d.d.c1, c0, c1⟩, hx1, hW, hb1.drew⟩)
  have HH := Lib.hid (And.intro h (And.intro ho (And.intro hN (And.intro hn (And.intro ha ha2)))))
  have HG := Lib.hid (And.intro hg (And.intro hsg (And.intro hs (And.intro hb hb2))))
  have HW1 := Lib.hid (And.intro hw1 hX)
  have HSC : Hid ((frSplit (a : Int) g 0 s).2 = 0) := Lib.hid (by unfold frSplit; rw [if_pos ⟨⟨by omega, by omega⟩, hs⟩])
  clear hb1 hx1 h ho hN hn ha ha2 hg hsg hs hb hb2 hw1 hX
  go_enter Tryz.func50, Tryz.ntmps50
  go_wp2_with fail
  rw [← HW1.out.1, ← HW1.out.2]
  refine wp_region_held_drew (S := fun w' => PhS w' R B X a b g sg) (by kernel_rfl) HD.out.1 (fun hS0 => ?_)
  generalize w1.drew = wd at *
  unfold PhS at hS0
  dsimp only [PhS]
  refine wpAnyH_take (i := 0) (v := ?_) rfl (by kernel_rfl) (by kernel_rfl) (by kernel_rfl) (fun _ _ _ h => h) (Or.inl ⟨by kernel_rfl, ?_⟩) (by assumption) ?_
  rotate_left
  · intro w hSw; (try dsimp only at hSw); go_simp; (try with_reducible rfl)
  refine wpAnyH_take (i := 1) (v := ?_) rfl (by kernel_rfl) (by kernel_rfl) (by kernel_rfl) (fun _ _ _ h => h) (Or.inl ⟨by kernel_rfl, ?_⟩) (by assumption) ?_
  rotate_left
  · intro w hSw; (try dsimp only at hSw); go_simp; (try with_reducible rfl)
  refine wpAnyH_take (i := 2) (v := ?_) rfl (by kernel_rfl) (by kernel_rfl) (by kernel_rfl) (fun _ _ _ h => h) (Or.inl ⟨by kernel_rfl, ?_⟩) (by assumption) ?_
  rotate_left
  · intro w hSw; (try dsimp only at hSw); go_simp; (try with_reducible rfl)
  refine wpAnyH_take (i := 8) (v := ?_) rfl (by kernel_rfl) (by kernel_rfl) (by kernel_rfl) (fun _ _ _ h => h) (Or.inl ⟨by kernel_rfl, ?_⟩) (by assumption) ?_
  rotate_left
  · intro w hSw; (try dsimp only at hSw); go_simp; (try with_reducible rfl)
  refine wpAnyH_take (i := 10) (v := ?_) rfl (by kernel_rfl) (by kernel_rfl) (by kernel_rfl) (fun _ _ _ h => h) (Or.inl ⟨by kernel_rfl, ?_⟩) (by assumption) ?_
  rotate_left
  · intro w hSw; (try dsimp only at hSw); go_simp; (try with_reducible rfl)
  refine wpAnyH_take (i := 3) (v := ?_) rfl (by kernel_rfl) (by kernel_rfl) (by kernel_rfl) (fun _ _ _ h => h) (Or.inl ⟨by kernel_rfl, ?_⟩) (by assumption) ?_
  rotate_left
  · intro w hSw; (try dsimp only at hSw); go_simp; (try with_reducible rfl)
  refine wpAnyH_take (i := 4) (v := ?_) rfl (by kernel_rfl) (by kernel_rfl) (by kernel_rfl) (fun _ _ _ h => h) (Or.inl ⟨by kernel_rfl, ?_⟩) (by assumption) ?_
  rotate_left
  · intro w hSw; (try dsimp only at hSw); go_simp; (try with_reducible rfl)
  refine wpAnyH_take (i := 5) (v := ?_) rfl (by kernel_rfl) (by kernel_rfl) (by kernel_rfl) (fun _ _ _ h => h) (Or.inl ⟨by kernel_rfl, ?_⟩) (by assumption) ?_
  rotate_left
  · intro w hSw; (try dsimp only at hSw); go_simp; (try with_reducible rfl)
  refine wpAnyH_take (i := 6) (v := ?_) rfl (by kernel_rfl) (by kernel_rfl) (by kernel_rfl) (fun _ _ _ h => h) (Or.inl ⟨by kernel_rfl, ?_⟩) (by assumption) ?_
  rotate_left
  · intro w hSw; (try dsimp only at hSw); go_simp; (try with_reducible rfl)
  refine wpAnyH_take (i := 9) (v := ?_) rfl (by kernel_rfl) (by kernel_rfl) (by kernel_rfl) (fun _ _ _ h => h) (Or.inl ⟨by kernel_rfl, ?_⟩) (by assumption) ?_
  rotate_left
  · intro w hSw; (try dsimp only at hSw); go_simp; (try with_reducible rfl)
  refine wpAnyH_ready (rs := [7]) (by kernel_rfl) (by simp) ?_
  refine AllReadyH.cons rfl (fun K hK => ?_) AllReadyH.nil
  go_simp
  refine (dk_size (a : Int) (b : Int) wd).mono ?_
  rintro x w2 ⟨rfl, hb2⟩
  have HD2 : Hid (PhS w2 R B X a b g sg ∧ HxC w2 X g sg ∧ WlS w2 base B S a b R buf ws ar st v ∧ Below w.heap.size w w2) := Lib.hid (by
    obtain ⟨h1, h2, h3, h4⟩ := HD.out
    have hW := h3.below hb2
    have hx := Kq.below_blk hb2 h2 (Kq.blk_lt h2)
    exact ⟨⟨hW.c0, hW.d.d.c0, hW.d.d.c1, Kq.blk_cell hx 0, Kq.blk_cell hx 1⟩, hx, hW, h4.trans (hb2.mono h4.size)⟩)
  clear hS0 hb2 HD
  refine hK.out _ _ HD2.out.1 (fun hS0 => ?_)
  clear hK K
  refine wpAnyH_ready (rs := [11]) (by kernel_rfl) (by simp) ?_
  refine AllReadyH.cons rfl (fun K hK => ?_) AllReadyH.nil
  go_simp
  refine (fr_split (a : Int) g 0 s w2 HG.out.1 (by decide)).mono ?_
  rintro x w3 ⟨vs, rfl, hrow, hb3⟩
  rw [HSC.out]
  obtain ⟨LA, lcap, rfl, hLA, hge, -⟩ := row_strsW hrow
  have HD3 : Hid (PhS w3 R B X a b g sg ∧ HxC w3 X g sg ∧ WlS w3 base B S a b R buf ws ar st v ∧ Below w.heap.size w w3) := Lib.hid (by
    obtain ⟨h1, h2, h3, h4⟩ := HD2.out
    have hW := h3.below hb3
    have hx := Kq.below_blk hb3 h2 (Kq.blk_lt h2)
    exact ⟨⟨hW.c0, hW.d.d.c0, hW.d.d.c1, Kq.blk_cell hx 0, Kq.blk_cell hx 1⟩, hx, hW, h4.trans (hb3.mono h4.size)⟩)
  have HLA : Hid (StrsAt w3 LA (frSplit (a : Int) g 0 s).1 ∧ ∀ g' o, LA = some ⟨g', o, none⟩ → ¬ (Own B S buf g' ∨ g' = R)) := Lib.hid ⟨hLA, fun g' o e hh => by
    have h1 := hge g' o e
    rcases hh with hh | hh
    · have := HD2.out.2.2.1.d.own_lt hh; omega
    · have := HD2.out.2.2.1.lt; omega⟩
  clear hS0 hb3 HD2 hrow hLA hge
  refine hK.out _ _ HD3.out.1 (fun hS0 => ?_)
  clear hK K
  have HLF : Hid (∀ z, z = (frSplit (a : Int) g 0 s).1 → beF a b g sg s ws ar st = layF a b (2 + sg * segN b) z ws ar st) := Lib.hid (fun z hz => by rw [hz]; rfl)
  have HLL : Hid ((frSplit (a : Int) g 0 s).1.length ≤ 200 ∧ ∀ t ∈ (frSplit (a : Int) g 0 s).1, t.size ≤ 1000) := Lib.hid (split_sizes a g 0 s HH.out.2.2.2.2.1)
  obtain ⟨T, hT⟩ : ∃ T, T = (frSplit (a : Int) g 0 s).1 := ⟨_, rfl⟩
  rw [← hT] at HLA HLL ⊢
  have HF := Lib.hid (HLF.out T hT)
  clear hT HLF
  refine wpAnyH_take (i := 12) (v := ?_) rfl (by kernel_rfl) (by kernel_rfl) (by kernel_rfl) (fun _ _ _ h => h) (Or.inl ⟨by kernel_rfl, ?_⟩) (by assumption) ?_
  rotate_left
  · intro w hSw; (try dsimp only at hSw); go_simp; (try with_reducible rfl)
  refine wpAnyH_take (i := 13) (v := ?_) rfl (by kernel_rfl) (by kernel_rfl) (by kernel_rfl) (fun _ _ _ h => h) (Or.inl ⟨by kernel_rfl, ?_⟩) (by assumption) ?_
  rotate_left
  · intro w hSw; (try dsimp only at hSw); go_simp; (try with_reducible rfl)
  refine wpAnyH_take (i := 14) (v := ?_) rfl (by kernel_rfl) (by kernel_rfl) (by kernel_rfl) (fun _ _ _ h => h) (Or.inl ⟨by kernel_rfl, ?_⟩) (by assumption) ?_
  rotate_left
  · intro w hSw; (try dsimp only at hSw); go_simp; (try with_reducible rfl)
  refine wpAnyH_take (i := 15) (v := ?_) rfl (by kernel_rfl) (by kernel_rfl) (by kernel_rfl) (fun _ _ _ h => h) (Or.inl ⟨by kernel_rfl, ?_⟩) (by assumption) ?_
  rotate_left
  · intro w hSw; (try dsimp only at hSw); go_simp; (try with_reducible rfl)
  refine wpAnyH_take (i := 16) (v := ?_) rfl (by kernel_rfl) (by kernel_rfl) (by kernel_rfl) (fun _ _ _ h => h) (Or.inl ⟨by kernel_rfl, ?_⟩) (by assumption) ?_
  rotate_left
  · intro w hSw; (try dsimp only at hSw); go_simp; (try with_reducible rfl)
  refine wpAnyH_done (by kernel_rfl) ?_ _
  clear hS0
  have e0 := Kq.blk_cell HD3.out.2.1 0
  have e1 := Kq.blk_cell HD3.out.2.1 1
  simp only [List.getElem?_toArray, List.getElem?_cons_zero, List.getElem?_cons_succ] at e0 e1
  go_simp
  go_wp2_with fail
  refine (wl_front HD3.out.2.2.1 HG.out.2.2.2.1 (by have := HG.out.2.2.2.2; omega) (g : Int) sg HG.out.2.1).mono ?_
  rintro x w4 ⟨rfl, hb4⟩
  have HD4 : Hid (WlS w4 base B S a b R buf ws ar st v ∧ Below w.heap.size w w4 ∧ StrsAt w4 LA T) := Lib.hid ⟨HD3.out.2.2.1.below hb4, HD3.out.2.2.2.trans (hb4.mono HD3.out.2.2.2.size), HLA.out.1.below hb4⟩
  clear hb4 e0 e1
  go_wp2_with fail
  refine (wl_lay (N := N) HD4.out.1 HH.out.2.1 LA lcap T (by have := HH.out.2.2.1; have := HLL.out.1; omega) HH.out.2.2.2.1 (by have := HH.out.2.2.2.2; omega) HH.out.2.2.2.2.2 (2 + sg * segN b) (by
    have h1 := HG.out.2.1
    have h2 := HG.out.2.2.2.2
    have h3 : segN b ≤ 2500 := by unfold segN; omega
    have h01 : sg = 0 ∨ sg = 1 := by omega
    rcases h01 with rfl | rfl <;> omega) HD4.out.2.2 (fun g' o _ e => HLA.out.2 g' o e) (by have := HLL.out.1; omega) HLL.out.2).mono ?_
  rintro x w5 ⟨rfl, hwo⟩
  rw [← HF.out] at hwo ⊢
  have HO := Lib.hid (WoP.from HD4.out.2.1 hwo)
  clear hwo
  obtain ⟨c, hc⟩ : ∃ c, c = (beF a b g sg s ws ar st).2.2.2 := ⟨_, rfl⟩
  rw [← hc]
  have HC := Lib.hid hc
  clear hc
  go_wp2
  go_ret
  exact ⟨by rw [← HC.out]; rfl, HO.out⟩
end Go.Proofs.YtbpgfhcecanikaaGreat
namespace Go.Proofs.YtbpgfhcecanikaaGreat
open Go.RowKit
set_option linter.unusedVariables false
def wal0 : WalV := ⟨0, 0, 0, 0, 0, false, false⟩
theorem nw_fit (a : Nat) (l : List ByteArray) : ∀ i, (nw a l i).1 < M64 ∧ (nw a l i).2.1 ≤ 1
  | 0 => ⟨by show 0 < M64; decide, Nat.zero_le _⟩
  | i + 1 => by
    unfold nw nwStep
    split
    · rename_i h
      exact ⟨gOf_lt _, (good_of h.1).hg.2⟩
    · exact nw_fit a l i
theorem fdV_fit (a b : Nat) (ws : List (Int × ByteArray)) (ar : Nat) (st : List Nat) (v : WalV) (h1 : v.g < M64) (h2 : v.sg ≤ 1) : (fdV a b ws ar st v).g < M64 ∧ (fdV a b ws ar st v).sg ≤ 1 := by
  unfold fdV
  split
  · unfold headV
    split
    · exact ⟨by show 1 < M64; decide, by show 0 ≤ 1; decide⟩
    · exact ⟨h1, h2⟩
  · exact nw_fit a _ 2
/-- the text of a log's active segment -/
def segT (a b : Nat) (ws : List (Int × ByteArray)) (st : List Nat) (sg : Nat) : ByteArray := txt (textF a b ws st (2 + sg * segN b) (segN b))
/-- a disk behind a call, told from the world ahead -/
theorem WoP.disk {w w' : World} {base B S a b R : Nat} {buf : Value} {ws : List (Int × ByteArray)} {ar : Nat} {st : List Nat} {v : WalV} (h : WoP w base B S a b R buf ws ar st v w') (w0 : World) (hb : Below w0.heap.size w0 w) (hR : w0.heap.size ≤ R) : DoP w0 base B S a b buf ws ar st w' := by
  obtain ⟨buf', h1, h2, h3⟩ := h
  refine ⟨buf', h1.d, ⟨h2.os.trans hb.os, h2.tape.trans hb.tape, h2.output.trans hb.output, Nat.le_trans hb.size h2.size, fun k hk hn => ?_⟩, fun j hj => (h3 j hj).imp id (Nat.le_trans hb.size)⟩
  rw [h2.block k (Nat.lt_of_lt_of_le hk hb.size) (fun hh => hh.elim hn (fun e => by omega)), hb.block k hk]
/-- what Open makes of a disk that has sectors enough, up to the records: the disk, the log's head, the code -/
def opF (a b : Nat) (ws : List (Int × ByteArray)) (ar : Nat) (st : List Nat) : List (Int × ByteArray) × Nat × List Nat × Int :=
  if (flF a ws ar st).2.2.2 = 0 then fdF a b (flF a ws ar st).1 (flF a ws ar st).2.1 (flF a ws ar st).2.2.1 else flF a ws ar st
def opV0 (a b : Nat) (ws : List (Int × ByteArray)) (ar : Nat) (st : List Nat) : WalV := fdV a b (flF a ws ar st).1 (flF a ws ar st).2.1 (flF a ws ar st).2.2.1 wal0
/-- the records that Open tells, and how many sectors they have -/
def opR (a b : Nat) (ws : List (Int × ByteArray)) (ar : Nat) (st : List Nat) : List ByteArray × Nat := scanAll (a : Int) (opV0 a b ws ar st).g (segT a b (opF a b ws ar st).1 (opF a b ws ar st).2.2.1 (opV0 a b ws ar st).sg)
def opV (a b : Nat) (ws : List (Int × ByteArray)) (ar : Nat) (st : List Nat) : WalV := { opV0 a b ws ar st with used := (opR a b ws ar st).2, cnt := (opR a b ws ar st).1.length }
/-- Open went: a log, its records -/
def OpenOk (w : World) (base B S a b : Nat) (buf : Value) (ws : List (Int × ByteArray)) (ar : Nat) (st : List Nat) (x : Ending) (w' : World) : Prop :=
  ∃ R L cap, x = .returned (.tuple #[.pointer (some ⟨R, 0, none⟩), .slice L (opR a b ws ar st).1.length cap, .int .i64 0]) ∧ w.heap.size ≤ R ∧ StrsAt w' L (opR a b ws ar st).1 ∧ (∀ g o, L = some ⟨g, o, none⟩ → w.heap.size ≤ g ∧ g ≠ R) ∧
    DoP w base B S a b buf (opF a b ws ar st).1 (opF a b ws ar st).2.1 (opF a b ws ar st).2.2.1 w' ∧ ∃ buf', WlS w' base B S a b R buf' (opF a b ws ar st).1 (opF a b ws ar st).2.1 (opF a b ws ar st).2.2.1 (opV a b ws ar st) ∧ (∀ j, buf'.ownBlock = some j → buf.ownBlock = some j ∨ w.heap.size ≤ j) ∧ (∀ g o, L = some ⟨g, o, none⟩ → ¬ Own B S buf' g)
/-- Open didn't -/
def OpenNo (w : World) (base B S a b : Nat) (buf : Value) (ws : List (Int × ByteArray)) (ar : Nat) (st : List Nat) (c : Int) (x : Ending) (w' : World) : Prop :=
  x = .returned (.tuple #[.pointer none, .slice none 0 0, .int .i64 c]) ∧ DoP w base B S a b buf ws ar st w'
def OpenPost (w : World) (base B S a b : Nat) (buf : Value) (ws : List (Int × ByteArray)) (ar : Nat) (st : List Nat) (x : Ending) (w' : World) : Prop :=
  if b < 4 then OpenNo w base B S a b buf ws ar st 1 x w' else if (opF a b ws ar st).2.2.2 = 0 then OpenOk w base B S a b buf ws ar st x w' else OpenNo w base B S a b buf (opF a b ws ar st).1 (opF a b ws ar st).2.1 (opF a b ws ar st).2.2.1 (opF a b ws ar st).2.2.2 x w'
set_option maxRecDepth 100000 in
set_option maxHeartbeats 2000000 in
theorem wl_open_few (base B S a b N : Nat) (buf : Value) (ws : List (Int × ByteArray)) (ar : Nat) (st : List Nat) (w : World) (h : DkS w base B S a b buf ws (ar : Int) st) (hb : b < 4) :
    Calls Tryz.prog 22 #[.pointer (some ⟨B, 0, none⟩)] w (OpenPost w base B S a b buf ws ar st) := by
  have H := Lib.hid h
  have d0 := h.d.c0
  have d1 := h.d.c1
  have hd : decide ((b : Int) < 4) = true := decide_eq_true (by omega)
  have hd' : decide (b < 4) = true := decide_eq_true hb
  have HP : Hid (∀ x w', OpenNo w base B S a b buf ws ar st 1 x w' → OpenPost w base B S a b buf ws ar st x w') := Lib.hid (fun x w' h => by unfold OpenPost; rw [if_pos hb]; exact h)
  clear h hb
  go_enter Tryz.func22, Tryz.ntmps22
  go_wp2_with fail
  refine (dk_sectors (a : Int) (b : Int) w).mono ?_
  rintro x w1 ⟨rfl, hb1⟩
  have HD : Hid (DoP w base B S a b buf ws ar st w1) := Lib.hid ⟨buf, H.out.below hb1, Kq.Keeps.of_below hb1 (fun k h1 h2 => absurd h1 (Nat.not_le.2 h2)), fun j hj => Or.inl hj⟩
  clear hb1 d0 d1
  go_wp2
  refine bodyPost_ret (v := .tuple #[.pointer none, .slice none 0 0, .int .i64 1]) (by simp [results, Tryz.results22, go_sem]) rfl ?_
  exact HP.out _ _ ⟨rfl, HD.out⟩
/-- the cells that Open loads ahead of its calls -/
def WsC (w : World) (R B a b g sg : Nat) : Prop := w.cell? ⟨R, 0, none⟩ = some (.pointer (some ⟨B, 0, none⟩)) ∧ w.cell? ⟨R, 1, none⟩ = some (.int .u64 (g : Int)) ∧ w.cell? ⟨R, 2, none⟩ = some (.int .i64 (sg : Int)) ∧ w.cell? ⟨B, 0, none⟩ = some (.int .i64 (a : Int)) ∧ w.cell? ⟨B, 1, none⟩ = some (.int .i64 (b : Int))
theorem WlS.wsc {w : World} {base B S a b R : Nat} {buf : Value} {ws : List (Int × ByteArray)} {ar : Nat} {st : List Nat} {v : WalV} (h : WlS w base B S a b R buf ws ar st v) : WsC w R B a b v.g v.sg := ⟨h.c0, h.c1, h.c2, h.d.d.c0, h.d.d.c1⟩
set_option maxRecDepth 100000 in
set_option maxHeartbeats 4000000 in
theorem wl_open (base B S a b N : Nat) (buf : Value) (ws : List (Int × ByteArray)) (ar : Nat) (st : List Nat) (w : World) (h : DkS w base B S a b buf ws (ar : Int) st) (ho : StOk a b N ws ar st) (hN : N + 220 ≤ 1000000) (hn : a * b ≤ 3000000) (ha : 64 ≤ a) (ha2 : a ≤ 512) (hb : 4 ≤ b) (hb2 : b ≤ 5000) (hsz : segN b * a ≤ 30000) :
    Calls Tryz.prog 22 #[.pointer (some ⟨B, 0, none⟩)] w (OpenPost w base B S a b buf ws ar st) := by
  have H := Lib.hid (And.intro h (And.intro ho (And.intro hN (And.intro hn (And.intro ha (And.intro ha2 (And.intro hb (And.intro hb2 hsz))))))))
  have d0 := h.d.c0
  have d1 := h.d.c1
  have hd : decide ((b : Int) < 4) = false := decide_eq_false (by omega)
  have hd' : decide (b < 4) = false := decide_eq_false (by omega)
  have HP1 : Hid (∀ x w', (opF a b ws ar st).2.2.2 ≠ 0 → OpenNo w base B S a b buf (opF a b ws ar st).1 (opF a b ws ar st).2.1 (opF a b ws ar st).2.2.1 (opF a b ws ar st).2.2.2 x w' → OpenPost w base B S a b buf ws ar st x w') := Lib.hid (fun x w' hc h => by unfold OpenPost; rw [if_neg (by omega), if_neg hc]; exact h)
  have HP2 : Hid (∀ x w', (opF a b ws ar st).2.2.2 = 0 → OpenOk w base B S a b buf ws ar st x w' → OpenPost w base B S a b buf ws ar st x w') := Lib.hid (fun x w' hc h => by unfold OpenPost; rw [if_neg (by omega), if_pos hc]; exact h)
  clear h ho hN hn ha ha2 hb hb2 hsz
  go_enter Tryz.func22, Tryz.ntmps22
  go_wp2_with fail
  refine (dk_sectors (a : Int) (b : Int) w).mono ?_
  rintro x w1 ⟨rfl, hb1⟩
  have H1 := Lib.hid (And.intro (H.out.1.below hb1) hb1)
  clear hb1 d0 d1
  go_wp2_with fail
  have hbR := Kq.below_alloc w1 (.cells (wal0.cells B) 86)
  have H2 : Hid (WlS (w1.alloc (.cells (wal0.cells B) 86)) base B S a b w1.heap.size buf ws ar st wal0 ∧ Below w.heap.size w (w1.alloc (.cells (wal0.cells B) 86))) := Lib.hid ⟨⟨H1.out.1.below hbR, Kq.blk_new _ _ _ _, fun hh => by have := H1.out.1.own_lt hh; omega⟩, H1.out.2.trans (hbR.mono H1.out.2.size)⟩
  have hcells : wal0.cells B = #[.pointer (some ⟨B, 0, none⟩), .int .u64 0, .int .i64 0, .int .i64 0, .int .i64 0, .int .i64 0, .bool false, .bool false] := rfl
  rw [hcells] at H2
  clear hbR hcells
  generalize (w1.alloc (.cells #[.pointer (some ⟨B, 0, none⟩), .int .u64 0, .int .i64 0, .int .i64 0, .int .i64 0, .int .i64 0, .bool false, .bool false] 86)) = w2 at *
  obtain ⟨R, hR⟩ : ∃ R, R = w1.heap.size := ⟨_, rfl⟩
  have HR : Hid (w.heap.size ≤ R) := Lib.hid (by rw [hR]; exact H1.out.2.size)
  rw [← hR] at H2 ⊢
  clear hR H1
  have HFL := Lib.hid (dk_flush_all base B S a b buf ws ar st w2 H2.out.1.d (H.out.2.1.up (by have := H.out.2.2.1; omega)) H.out.2.2.2.1 (by have := H.out.2.2.2.2.1; omega) (by have := H.out.2.2.2.2.2.1; omega))
  have hfl : (if ar = 1 then (ws, 0, st, (13 : Int)) else ([], ar - 1, flushB a ws st, 0)) = flF a ws ar st := rfl
  rw [hfl] at HFL
  clear hfl
  refine HFL.out.mono ?_
  rintro x w3 ⟨rfl, hd3⟩
  have hW3 := H2.out.1.step hd3
  have hso := flF_ok H.out.2.1
  have HOP : Hid ((flF a ws ar st).2.2.2 ≠ 0 → opF a b ws ar st = flF a ws ar st) := Lib.hid (fun h => if_neg h)
  have HOQ : Hid ((flF a ws ar st).2.2.2 = 0 → opF a b ws ar st = fdF a b (flF a ws ar st).1 (flF a ws ar st).2.1 (flF a ws ar st).2.2.1) := Lib.hid (fun h => if_pos h)
  have HV0 : Hid (opV0 a b ws ar st = fdV a b (flF a ws ar st).1 (flF a ws ar st).2.1 (flF a ws ar st).2.2.1 wal0) := Lib.hid rfl
  have H3 := Lib.hid (And.intro hW3 hso)
  clear hd3 hW3 hso HFL
  obtain ⟨y, hy⟩ : ∃ y, y = flF a ws ar st := ⟨_, rfl⟩
  rw [← hy] at HOP HOQ HV0 H3 ⊢
  clear hy
  obtain ⟨ws3, ar3, st3, c1⟩ := y
  simp only at HOP HOQ HV0 H3 ⊢
  by_cases hc1 : c1 = 0
  · subst hc1
    have HOQ2 := Lib.hid (HOQ.out rfl)
    clear HOP HOQ
    obtain ⟨⟨buf3, W3, K3, F3⟩, so3⟩ := H3.out
    have HW3 := Lib.hid (And.intro W3 (And.intro K3 (And.intro F3 so3)))
    clear W3 K3 F3 so3 H3
    go_wp2_with fail
    refine (wl_find HW3.out.1 HW3.out.2.2.2 H.out.2.2.1 H.out.2.2.2.1 H.out.2.2.2.2.1 H.out.2.2.2.2.2.1 H.out.2.2.2.2.2.2.1 H.out.2.2.2.2.2.2.2.1).mono ?_
    rintro x w4 ⟨rfl, hwo⟩
    rw [← HOQ2.out, ← HV0.out] at hwo
    rw [← HOQ2.out]
    have hfit := fdV_fit a b ws3 ar3 st3 wal0 (by show 0 < M64; decide) (Nat.zero_le _)
    rw [← HV0.out] at hfit
    have H4 := Lib.hid (And.intro (WoP.comp H2.out.1.lt HW3.out.2.1 HW3.out.2.2.1 hwo) hfit)
    clear hwo hfit HW3 HV0 HOQ2
    obtain ⟨y, hy⟩ : ∃ y, y = opF a b ws ar st := ⟨_, rfl⟩
    have HY := Lib.hid hy
    rw [← hy] at H4 HP1 HP2 ⊢
    clear hy
    obtain ⟨ws4, ar4, st4, c2⟩ := y
    simp only at H4 HP1 HP2 ⊢
    by_cases hc2 : c2 = 0
    · subst hc2
      have hv : (opV0 a b ws ar st).g < M64 ∧ (opV0 a b ws ar st).sg ≤ 1 := H4.out.2
      have HRR : Hid (opR a b ws ar st = scanAll (a : Int) (opV0 a b ws ar st).g (segT a b ws4 st4 (opV0 a b ws ar st).sg)) := Lib.hid (by unfold opR; rw [← HY.out])
      have HVV : Hid (opV a b ws ar st = { opV0 a b ws ar st with used := (opR a b ws ar st).2, cnt := (opR a b ws ar st).1.length }) := Lib.hid rfl
      have HOK : Hid (∀ x w', OpenOk w base B S a b buf ws ar st x w' → OpenPost w base B S a b buf ws ar st x w') := Lib.hid (fun x w' h => HP2.out x w' rfl h)
      have HUN : Hid (∀ x w', (∃ R L cap, x = .returned (.tuple #[.pointer (some ⟨R, 0, none⟩), .slice L (opR a b ws ar st).1.length cap, .int .i64 0]) ∧ w.heap.size ≤ R ∧ StrsAt w' L (opR a b ws ar st).1 ∧ (∀ g o, L = some ⟨g, o, none⟩ → w.heap.size ≤ g ∧ g ≠ R) ∧ DoP w base B S a b buf ws4 ar4 st4 w' ∧ ∃ buf', WlS w' base B S a b R buf' ws4 ar4 st4 (opV a b ws ar st) ∧ (∀ j, buf'.ownBlock = some j → buf.ownBlock = some j ∨ w.heap.size ≤ j) ∧ (∀ g o, L = some ⟨g, o, none⟩ → ¬ Own B S buf' g)) → OpenOk w base B S a b buf ws ar st x w') := Lib.hid (fun x w' h => by unfold OpenOk; rw [← HY.out]; exact h)
      obtain ⟨⟨buf4, W4, K4, F4⟩, -⟩ := H4.out
      have HSO : Hid (StOk a b (N + 10) ws4 ar4 st4) := Lib.hid (by
        have h1 := flF_ok H.out.2.1
        have h2 : StOk a b (N + 10) (fdF a b (flF a ws ar st).1 (flF a ws ar st).2.1 (flF a ws ar st).2.2.1).1 (fdF a b (flF a ws ar st).1 (flF a ws ar st).2.1 (flF a ws ar st).2.2.1).2.1 (fdF a b (flF a ws ar st).1 (flF a ws ar st).2.1 (flF a ws ar st).2.2.1).2.2.1 := by
          unfold fdF
          split
          · exact (layF_ok a b [hdPut a 1 0] 1 N _ _ _ h1).up (by simp)
          · exact h1.up (by omega)
        have h3 := HY.out
        unfold opF at h3
        by_cases hf : (flF a ws ar st).2.2.2 = 0
        · rw [if_pos hf] at h3
          rw [← h3] at h2
          exact h2
        · rw [if_neg hf] at h3
          rw [← h3] at hf
          exact absurd rfl hf)
      obtain ⟨v4, hv4⟩ : ∃ v, v = opV0 a b ws ar st := ⟨_, rfl⟩
      rw [← hv4] at W4 hv HRR HVV
      obtain ⟨rr, hrr⟩ : ∃ r, r = opR a b ws ar st := ⟨_, rfl⟩
      rw [← hrr] at HRR HVV HUN
      obtain ⟨vv, hvv⟩ : ∃ v, v = opV a b ws ar st := ⟨_, rfl⟩
      rw [← hvv] at HVV HUN
      have HD : Hid (WsC w4.drew R B a b v4.g v4.sg ∧ WlS w4.drew base B S a b R buf4 ws4 ar4 st4 v4 ∧ Below w4.heap.size w4 w4.drew) := Lib.hid ⟨W4.drew.wsc, W4.drew, (Below.refl _ _).drew⟩
      have HF := Lib.hid (And.intro K4 (And.intro F4 hv))
      clear W4 K4 F4 hv hv4 hrr hvv H4 HP1 HP2
      go_wp2
      refine wp_region_held_drew (S := fun w' => WsC w' R B a b v4.g v4.sg) (by kernel_rfl) HD.out.1 (fun hS0 => ?_)
      generalize w4.drew = wd at *
      unfold WsC at hS0
      dsimp only [WsC]
      refine wpAnyH_take (i := 0) (v := ?_) rfl (by kernel_rfl) (by kernel_rfl) (by kernel_rfl) (fun _ _ _ h => h) (Or.inl ⟨by kernel_rfl, ?_⟩) (by assumption) ?_
      rotate_left
      · intro w hSw; (try dsimp only at hSw); go_simp; (try with_reducible rfl)
      refine wpAnyH_take (i := 1) (v := ?_) rfl (by kernel_rfl) (by kernel_rfl) (by kernel_rfl) (fun _ _ _ h => h) (Or.inl ⟨by kernel_rfl, ?_⟩) (by assumption) ?_
      rotate_left
      · intro w hSw; (try dsimp only at hSw); go_simp; (try with_reducible rfl)
      refine wpAnyH_take (i := 2) (v := ?_) rfl (by kernel_rfl) (by kernel_rfl) (by kernel_rfl) (fun _ _ _ h => h) (Or.inl ⟨by kernel_rfl, ?_⟩) (by assumption) ?_
      rotate_left
      · intro w hSw; (try dsimp only at hSw); go_simp; (try with_reducible rfl)
      refine wpAnyH_take (i := 8) (v := ?_) rfl (by kernel_rfl) (by kernel_rfl) (by kernel_rfl) (fun _ _ _ h => h) (Or.inl ⟨by kernel_rfl, ?_⟩) (by assumption) ?_
      rotate_left
      · intro w hSw; (try dsimp only at hSw); go_simp; (try with_reducible rfl)
      refine wpAnyH_take (i := 9) (v := ?_) rfl (by kernel_rfl) (by kernel_rfl) (by kernel_rfl) (fun _ _ _ h => h) (Or.inl ⟨by kernel_rfl, ?_⟩) (by assumption) ?_
      rotate_left
      · intro w hSw; (try dsimp only at hSw); go_simp; (try with_reducible rfl)
      refine wpAnyH_take (i := 10) (v := ?_) rfl (by kernel_rfl) (by kernel_rfl) (by kernel_rfl) (fun _ _ _ h => h) (Or.inl ⟨by kernel_rfl, ?_⟩) (by assumption) ?_
      rotate_left
      · intro w hSw; (try dsimp only at hSw); go_simp; (try with_reducible rfl)
      refine wpAnyH_take (i := 11) (v := ?_) rfl (by kernel_rfl) (by kernel_rfl) (by kernel_rfl) (fun _ _ _ h => h) (Or.inl ⟨by kernel_rfl, ?_⟩) (by assumption) ?_
      rotate_left
      · intro w hSw; (try dsimp only at hSw); go_simp; (try with_reducible rfl)
      refine wpAnyH_take (i := 13) (v := ?_) rfl (by kernel_rfl) (by kernel_rfl) (by kernel_rfl) (fun _ _ _ h => h) (Or.inl ⟨by kernel_rfl, ?_⟩) (by assumption) ?_
      rotate_left
      · intro w hSw; (try dsimp only at hSw); go_simp; (try with_reducible rfl)
      refine wpAnyH_take (i := 14) (v := ?_) rfl (by kernel_rfl) (by kernel_rfl) (by kernel_rfl) (fun _ _ _ h => h) (Or.inl ⟨by kernel_rfl, ?_⟩) (by assumption) ?_
      rotate_left
      · intro w hSw; (try dsimp only at hSw); go_simp; (try with_reducible rfl)
      refine wpAnyH_take (i := 15) (v := ?_) rfl (by kernel_rfl) (by kernel_rfl) (by kernel_rfl) (fun _ _ _ h => h) (Or.inl ⟨by kernel_rfl, ?_⟩) (by assumption) ?_
      rotate_left
      · intro w hSw; (try dsimp only at hSw); go_simp; (try with_reducible rfl)
      refine wpAnyH_take (i := 16) (v := ?_) rfl (by kernel_rfl) (by kernel_rfl) (by kernel_rfl) (fun _ _ _ h => h) (Or.inl ⟨by kernel_rfl, ?_⟩) (by assumption) ?_
      rotate_left
      · intro w hSw; (try dsimp only at hSw); go_simp; (try with_reducible rfl)
      refine wpAnyH_take (i := 17) (v := ?_) rfl (by kernel_rfl) (by kernel_rfl) (by kernel_rfl) (fun _ _ _ h => h) (Or.inl ⟨by kernel_rfl, ?_⟩) (by assumption) ?_
      rotate_left
      · intro w hSw; (try dsimp only at hSw); go_simp; (try with_reducible rfl)
      refine wpAnyH_take (i := 20) (v := ?_) rfl (by kernel_rfl) (by kernel_rfl) (by kernel_rfl) (fun _ _ _ h => h) (Or.inl ⟨by kernel_rfl, ?_⟩) (by assumption) ?_
      rotate_left
      · intro w hSw; (try dsimp only at hSw); go_simp; (try with_reducible rfl)
      refine wpAnyH_take (i := 3) (v := ?_) rfl (by kernel_rfl) (by kernel_rfl) (by kernel_rfl) (fun _ _ _ h => h) (Or.inl ⟨by kernel_rfl, ?_⟩) (by assumption) ?_
      rotate_left
      · intro w hSw; (try dsimp only at hSw); go_simp; (try with_reducible rfl)
      refine wpAnyH_take (i := 4) (v := ?_) rfl (by kernel_rfl) (by kernel_rfl) (by kernel_rfl) (fun _ _ _ h => h) (Or.inl ⟨by kernel_rfl, ?_⟩) (by assumption) ?_
      rotate_left
      · intro w hSw; (try dsimp only at hSw); go_simp; (try with_reducible rfl)
      refine wpAnyH_take (i := 5) (v := ?_) rfl (by kernel_rfl) (by kernel_rfl) (by kernel_rfl) (fun _ _ _ h => h) (Or.inl ⟨by kernel_rfl, ?_⟩) (by assumption) ?_
      rotate_left
      · intro w hSw; (try dsimp only at hSw); go_simp; (try with_reducible rfl)
      refine wpAnyH_take (i := 6) (v := ?_) rfl (by kernel_rfl) (by kernel_rfl) (by kernel_rfl) (fun _ _ _ h => h) (Or.inl ⟨by kernel_rfl, ?_⟩) (by assumption) ?_
      rotate_left
      · intro w hSw; (try dsimp only at hSw); go_simp; (try with_reducible rfl)
      refine wpAnyH_take (i := 12) (v := ?_) rfl (by kernel_rfl) (by kernel_rfl) (by kernel_rfl) (fun _ _ _ h => h) (Or.inl ⟨by kernel_rfl, ?_⟩) (by assumption) ?_
      rotate_left
      · intro w hSw; (try dsimp only at hSw); go_simp; (try with_reducible rfl)
      refine wpAnyH_take (i := 18) (v := ?_) rfl (by kernel_rfl) (by kernel_rfl) (by kernel_rfl) (fun _ _ _ h => h) (Or.inl ⟨by kernel_rfl, ?_⟩) (by assumption) ?_
      rotate_left
      · intro w hSw; (try dsimp only at hSw); go_simp; (try with_reducible rfl)
      refine wpAnyH_ready (rs := [7]) (by kernel_rfl) (by simp) ?_
      refine AllReadyH.cons rfl (fun K hK => ?_) AllReadyH.nil
      go_simp
      refine (dk_size (a : Int) (b : Int) wd).mono ?_
      rintro x w5 ⟨rfl, hb5⟩
      have HD5 : Hid (WlS w5 base B S a b R buf4 ws4 ar4 st4 v4 ∧ Below w4.heap.size w4 w5) := Lib.hid ⟨HD.out.2.1.below hb5, HD.out.2.2.trans (hb5.mono HD.out.2.2.size)⟩
      clear hS0 hb5 HD
      refine hK.out _ _ HD5.out.1.wsc (fun hS0 => ?_)
      clear hK K
      refine wpAnyH_ready (rs := [19]) (by kernel_rfl) (by simp) ?_
      refine AllReadyH.cons rfl (fun K hK => ?_) AllReadyH.nil
      go_simp
      refine (wl_front HD5.out.1 H.out.2.2.2.2.2.2.1 (by have := H.out.2.2.2.2.2.2.2.1; omega) (v4.g : Int) v4.sg HF.out.2.2.2).mono ?_
      rintro x w6 ⟨rfl, hb6⟩
      have HD6 : Hid (WlS w6 base B S a b R buf4 ws4 ar4 st4 v4 ∧ Below w4.heap.size w4 w6) := Lib.hid ⟨HD5.out.1.below hb6, HD5.out.2.trans (hb6.mono HD5.out.2.size)⟩
      clear hS0 hb6 HD5
      refine hK.out _ _ HD6.out.1.wsc (fun hS0 => ?_)
      clear hK K
      refine wpAnyH_ready (rs := [21]) (by kernel_rfl) (by simp) ?_
      refine AllReadyH.cons rfl (fun K hK => ?_) AllReadyH.nil
      go_simp
      refine (wl_segment HD6.out.1 H.out.2.2.2.2.2.2.1 (by have := H.out.2.2.2.2.2.2.2.1; omega)).mono ?_
      rintro x w7 ⟨rfl, hb7⟩
      have HD7 : Hid (WlS w7 base B S a b R buf4 ws4 ar4 st4 v4 ∧ Below w4.heap.size w4 w7) := Lib.hid ⟨HD6.out.1.below hb7, HD6.out.2.trans (hb7.mono HD6.out.2.size)⟩
      clear hS0 hb7 HD6
      refine hK.out _ _ HD7.out.1.wsc (fun hS0 => ?_)
      clear hK K
      refine wpAnyH_ready (rs := [22]) (by kernel_rfl) (by simp) ?_
      refine AllReadyH.cons rfl (fun K hK => ?_) AllReadyH.nil
      go_simp
      refine (wl_text HD7.out.1 HSO.out (by have := H.out.2.2.1; omega) H.out.2.2.2.1 (by have := H.out.2.2.2.2.1; omega) H.out.2.2.2.2.2.1 (2 + v4.sg * segN b) (segN b) (by
        have h1 := HF.out.2.2.2
        have h2 := H.out.2.2.2.2.2.2.2.1
        have h3 : segN b ≤ 2500 := by unfold segN; omega
        have h01 : v4.sg = 0 ∨ v4.sg = 1 := by omega
        rcases h01 with e | e <;> rw [e] <;> omega) (by have h2 := H.out.2.2.2.2.2.2.2.1; unfold segN; omega)).mono ?_
      rintro x w8 ⟨rfl, hb8⟩
      have HD8 : Hid (WlS w8 base B S a b R buf4 ws4 ar4 st4 v4 ∧ Below w4.heap.size w4 w8) := Lib.hid ⟨HD7.out.1.below hb8, HD7.out.2.trans (hb8.mono HD7.out.2.size)⟩
      clear hS0 hb8 HD7
      refine hK.out _ _ HD8.out.1.wsc (fun hS0 => ?_)
      clear hK K
      have HTZ : Hid ((segT a b ws4 st4 v4.sg).size ≤ 30000) := Lib.hid (by
        unfold segT
        rw [← nl_length, nl_txt _ (textF_lt _ _)]
        have := textF_length HSO.out (2 + v4.sg * segN b) (segN b)
        have := H.out.2.2.2.2.2.2.2.2
        omega)
      rw [show txt (textF a b ws4 st4 (2 + v4.sg * segN b) (segN b)) = segT a b ws4 st4 v4.sg from rfl]
      refine wpAnyH_ready (rs := [23]) (by kernel_rfl) (by simp) ?_
      refine AllReadyH.cons rfl (fun K hK => ?_) AllReadyH.nil
      go_simp
      refine (fr_scan (a : Int) v4.g (segT a b ws4 st4 v4.sg) w8 HTZ.out HF.out.2.2.1).mono ?_
      rintro x w9 ⟨vr, rfl, hrow, hb9⟩
      rw [← HRR.out] at hrow ⊢
      obtain ⟨LA, lcap, rfl, hLA, hge, -⟩ := row_strsW hrow
      have HL : Hid (StrsAt w9 LA rr.1 ∧ ∀ g o, LA = some ⟨g, o, none⟩ → w8.heap.size ≤ g) := Lib.hid ⟨hLA, hge⟩
      have HD9 : Hid (WlS w9 base B S a b R buf4 ws4 ar4 st4 v4 ∧ Below w4.heap.size w4 w9) := Lib.hid ⟨HD8.out.1.below hb9, HD8.out.2.trans (hb9.mono HD8.out.2.size)⟩
      clear hS0 hb9 hrow hLA hge
      refine hK.out _ _ HD9.out.1.wsc (fun hS0 => ?_)
      clear hK K
      refine wpAnyH_take (i := 24) (v := ?_) rfl (by kernel_rfl) (by kernel_rfl) (by kernel_rfl) (fun _ _ _ h => h) (Or.inl ⟨by kernel_rfl, ?_⟩) (by assumption) ?_
      rotate_left
      · intro w hSw; (try dsimp only at hSw); go_simp; (try with_reducible rfl)
      refine wpAnyH_take (i := 25) (v := ?_) rfl (by kernel_rfl) (by kernel_rfl) (by kernel_rfl) (fun _ _ _ h => h) (Or.inl ⟨by kernel_rfl, ?_⟩) (by assumption) ?_
      rotate_left
      · intro w hSw; (try dsimp only at hSw); go_simp; (try with_reducible rfl)
      refine wpAnyH_take (i := 26) (v := ?_) rfl (by kernel_rfl) (by kernel_rfl) (by kernel_rfl) (fun _ _ _ h => h) (Or.inl ⟨by kernel_rfl, ?_⟩) (by assumption) ?_
      rotate_left
      · intro w hSw; (try dsimp only at hSw); go_simp; (try with_reducible rfl)
      refine wpAnyH_take (i := 27) (v := ?_) rfl (by kernel_rfl) (by kernel_rfl) (by kernel_rfl) (fun _ _ _ h => h) (Or.inl ⟨by kernel_rfl, ?_⟩) (by assumption) ?_
      rotate_left
      · intro w hSw; (try dsimp only at hSw); go_simp; (try with_reducible rfl)
      refine wpAnyH_take (i := 28) (v := ?_) rfl (by kernel_rfl) (by kernel_rfl) (by kernel_rfl) (fun _ _ _ h => h) (Or.inl ⟨by kernel_rfl, ?_⟩) (by assumption) ?_
      rotate_left
      · intro w hSw; (try dsimp only at hSw); go_simp; (try with_reducible rfl)
      refine wpAnyH_done (by kernel_rfl) ?_ _
      clear hS0
      obtain ⟨rl, rn⟩ := rr
      simp only at HL HVV HUN ⊢
      have W9 := HD9.out.1
      have f4 := W9.fz 4
      have f5 := W9.fz 5
      have k4 := W9.c4
      have k5 := W9.c5
      obtain ⟨w10, hw10⟩ : ∃ z, z = (w9.setCell ⟨R, 5, none⟩ (.int .i64 (rl.length : Int))).setCell ⟨R, 4, none⟩ (.int .i64 (rn : Int)) := ⟨_, rfl⟩
      have hk10 : Kq.Keeps (· = R) w9 w10 := by
        rw [hw10]
        exact (Kq.Keeps.setCell (S := (· = R)) _ ⟨R, 5, none⟩ _ rfl).trans (Kq.Keeps.setCell (S := (· = R)) _ ⟨R, 4, none⟩ _ rfl)
      have hb10 : w10.heap[R]? = some (.cells (vv.cells B) 86 (0, 0)) := by
        rw [hw10, HVV.out]
        exact Kq.blk_set (Kq.blk_set W9.blk 5 _) 4 _
      have W10 : WlS w10 base B S a b R buf4 ws4 ar4 st4 vv := W9.set hk10 hb10
      have HFIN : Hid (OpenOk w base B S a b buf ws ar st (.returned (.tuple #[.pointer (some ⟨R, 0, none⟩), .slice LA rl.length lcap, .int .i64 0])) w10) := Lib.hid (HUN.out _ _ ⟨R, LA, lcap, rfl, HR.out, HL.out.1.keepsW hk10 (fun g o _ e hh => by have := HL.out.2 g o e; have := HD8.out.1.lt; omega), fun g o e => ⟨by have h1 := HL.out.2 g o e; have := HD8.out.2.size; have := HF.out.1.size; have := H2.out.2.size; omega, by have := HL.out.2 g o e; have := HD8.out.1.lt; omega⟩, (by
          have hwo4 : WoP w2 base B S a b R buf ws4 ar4 st4 vv w10 := ⟨buf4, W10, ⟨(hk10.os.trans HD9.out.2.os).trans HF.out.1.os, (hk10.tape.trans HD9.out.2.tape).trans HF.out.1.tape, (hk10.output.trans HD9.out.2.output).trans HF.out.1.output, Nat.le_trans HF.out.1.size (Nat.le_trans HD9.out.2.size hk10.size), fun k hk hn => by
            rw [hk10.block k (Nat.lt_of_lt_of_le hk (Nat.le_trans HF.out.1.size HD9.out.2.size)) (fun e => hn (Or.inr e)), HD9.out.2.block k (Nat.lt_of_lt_of_le hk HF.out.1.size), HF.out.1.block k hk hn]⟩, HF.out.2.1⟩
          exact hwo4.disk w H2.out.2 HR.out), buf4, W10, fun j hj => (HF.out.2.1 j hj).imp id (fun h => Nat.le_trans H2.out.2.size h), fun g o e hh => by have := HL.out.2 g o e; have := HD8.out.1.d.own_lt hh; omega⟩)
      have HW := Lib.hid hw10
      clear hk10 hb10 W10 hw10 W9
      go_simp
      go_wp2
      rw [← HW.out]
      refine bodyPost_ret (v := .tuple #[.pointer (some ⟨R, 0, none⟩), .slice LA rl.length lcap, .int .i64 0]) (by simp [results, Tryz.results22, go_sem]) rfl ?_
      exact HOK.out _ _ HFIN.out
    · have hcb : (c2 == 0) = false := beq_eq_false_iff_ne.2 hc2
      have hcn : (c2 != 0) = true := by rw [bne_iff_ne]; exact hc2
      have HD := Lib.hid (H4.out.1.disk w H2.out.2 HR.out)
      have HC := Lib.hid hc2
      go_wp2
      refine bodyPost_ret (v := .tuple #[.pointer none, .slice none 0 0, .int .i64 c2]) (by simp [results, Tryz.results22, go_sem]) rfl ?_
      exact HP1.out _ _ HC.out ⟨rfl, HD.out⟩
  · have hcb : (c1 == 0) = false := beq_eq_false_iff_ne.2 hc1
    have hcn : (c1 != 0) = true := by rw [bne_iff_ne]; exact hc1
    have HOP2 := Lib.hid (HOP.out hc1)
    have HD := Lib.hid (H3.out.1.disk w H2.out.2 HR.out)
    have HC := Lib.hid hc1
    clear HOP HOQ
    go_wp2
    refine bodyPost_ret (v := .tuple #[.pointer none, .slice none 0 0, .int .i64 c1]) (by simp [results, Tryz.results22, go_sem]) rfl ?_
    exact HP1.out _ _ (by rw [HOP2.out]; exact HC.out) (by rw [HOP2.out]; exact ⟨rfl, HD.out⟩)
end Go.Proofs.YtbpgfhcecanikaaGreat
