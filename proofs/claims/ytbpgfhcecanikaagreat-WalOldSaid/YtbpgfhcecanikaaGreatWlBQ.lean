/- Merged: HdPut, WlB. Contracts of head.Put, carrackref06.Put. No condition but that numbers fit. Contracts of a log's putHead, begin. Condition: sizes. -/
import Derived.WalkSpells
import Derived.Deep.QuietTactic
import Derived.BigQuiet
import Derived.Laws.MakeOwn
import Derived.Test.YtbpgfhcecanikaaGreatCommonQ
import Derived.Test.YtbpgfhcecanikaaGreatHdMQ
import Derived.Test.YtbpgfhcecanikaaGreatWrNewQ
import Derived.Test.YtbpgfhcecanikaaGreatShelfH
import Derived.Outline
import Derived.Deep.RegionHeld
namespace Go.Proofs.YtbpgfhcecanikaaGreat
open Go.RowKit
set_option linter.unusedVariables false
set_option maxRecDepth 100000 in
theorem hd_fits (a : Int) (w : World) : Calls Tryz.prog 82 #[.int .i64 a] w fun x w' => x = .returned (.bool (decide (64 ≤ a ∧ a ≤ 512))) ∧ w = w' := by
  by_cases h0 : 64 ≤ a
  · by_cases h1 : a ≤ 512
    · have d0 : decide (64 ≤ a) = true := decide_eq_true h0
      have d1 : decide (a ≤ 512) = true := decide_eq_true h1
      have HD : Hid (decide (64 ≤ a ∧ a ≤ 512) = true) := Lib.hid (decide_eq_true ⟨h0, h1⟩)
      rw [HD.out]
      clear h0 h1
      go_enter Tryz.func82, Tryz.ntmps82
      go_wp2
      go_ret
      exact ⟨rfl, rfl⟩
    · have d0 : decide (64 ≤ a) = true := decide_eq_true h0
      have d1 : decide (a ≤ 512) = false := decide_eq_false h1
      have HD : Hid (decide (64 ≤ a ∧ a ≤ 512) = false) := Lib.hid (decide_eq_false (fun h => h1 h.2))
      rw [HD.out]
      clear h0 h1
      go_enter Tryz.func82, Tryz.ntmps82
      go_wp2
      go_ret
      exact ⟨rfl, rfl⟩
  · have d0 : decide (64 ≤ a) = false := decide_eq_false h0
    have HD : Hid (decide (64 ≤ a ∧ a ≤ 512) = false) := Lib.hid (decide_eq_false (fun h => h0 h.1))
    rw [HD.out]
    clear h0
    go_enter Tryz.func82, Tryz.ntmps82
    go_wp2
    go_ret
    exact ⟨rfl, rfl⟩
set_option maxRecDepth 100000 in
theorem rf_fits (a : Int) (w : World) : Calls Tryz.prog 46 #[.int .i64 a] w fun x w' => x = .returned (.bool (decide (64 ≤ a ∧ a ≤ 512))) ∧ w = w' := by
  by_cases h0 : 64 ≤ a
  · by_cases h1 : a ≤ 512
    · have d0 : decide (64 ≤ a) = true := decide_eq_true h0
      have d1 : decide (a ≤ 512) = true := decide_eq_true h1
      have HD : Hid (decide (64 ≤ a ∧ a ≤ 512) = true) := Lib.hid (decide_eq_true ⟨h0, h1⟩)
      rw [HD.out]
      clear h0 h1
      go_enter Tryz.func46, Tryz.ntmps46
      go_wp2
      go_ret
      exact ⟨rfl, rfl⟩
    · have d0 : decide (64 ≤ a) = true := decide_eq_true h0
      have d1 : decide (a ≤ 512) = false := decide_eq_false h1
      have HD : Hid (decide (64 ≤ a ∧ a ≤ 512) = false) := Lib.hid (decide_eq_false (fun h => h1 h.2))
      rw [HD.out]
      clear h0 h1
      go_enter Tryz.func46, Tryz.ntmps46
      go_wp2
      go_ret
      exact ⟨rfl, rfl⟩
  · have d0 : decide (64 ≤ a) = false := decide_eq_false h0
    have HD : Hid (decide (64 ≤ a ∧ a ≤ 512) = false) := Lib.hid (decide_eq_false (fun h => h0 h.1))
    rw [HD.out]
    clear h0
    go_enter Tryz.func46, Tryz.ntmps46
    go_wp2
    go_ret
    exact ⟨rfl, rfl⟩
theorem repeat_ok (c : Nat) (w : World) (hc : c ≤ 1000) : Calls Tryz.prog 86 #[.string ⟨#[0]⟩, .int .i64 (c : Int)] w fun x w' => x = .returned (.string (txt (List.replicate c 0))) ∧ Below w.heap.size w w' := by
  refine (Tryz.strings_Repeat ⟨#[0]⟩ c w (by omega) (by show 1 * c ≤ _; omega)).mono ?_
  rintro x w' ⟨rfl, hb⟩
  exact ⟨by rw [repeat_zero], hb⟩
/-- a writer of the call's own, and a box that stays -/
structure PH (w wr : World) (B X : Nat) (o : Obj) (v : Value) (l : List Nat) : Prop where
  it : Wr wr B B 0 v l
  bel : Below w.heap.size w wr
  hB : w.heap.size ≤ B
  box : wr.heap[X]? = some o
  hX : X < B
theorem PH.below {w wr w' : World} {B X : Nat} {o : Obj} {v : Value} {l : List Nat} (h : PH w wr B X o v l) (hb : Below wr.heap.size wr w') : PH w w' B X o v l :=
  ⟨h.it.belowW hb, h.bel.trans (hb.mono h.bel.size), h.hB, Kq.below_blk hb h.box (Kq.blk_lt h.box), h.hX⟩
theorem PH.step {w wr w' : World} {B X : Nat} {o : Obj} {v : Value} {l l' : List Nat} {x : Ending} (h : PH w wr B X o v l) (hp : WrAny wr B B v 0 l' x w') : ∃ v', PH w w' B X o v' l' := by
  obtain ⟨_, v', h1, h2, h3⟩ := hp
  have hge : ∀ k, (k = B ∨ some k = v.ownBlock) → B ≤ k := fun k hk => by
    rcases hk with rfl | hk
    · exact Nat.le_refl _
    · exact own_ge h.it.own hk.symm
  refine ⟨v', h1, h.bel.trans (h2.below h.bel.size (fun k _ hk => Nat.le_trans h.hB (hge k hk))), h.hB, h2.blk h.box (fun hk => ?_), h.hX⟩
  have := hge X hk
  have := h.hX
  omega
theorem PH.start (w : World) (cs : Array Value) (t : TypeId) : PH w ((w.alloc (.cells cs t)).alloc (.cells #[.int .i64 0, .slice none 0 0] 142)) (w.heap.size + 1) w.heap.size (.cells cs t (0, 0)) (.slice none 0 0) [] := by
  have h := wr_new (w.alloc (.cells cs t))
  rw [World.size_alloc] at h
  refine ⟨h, (Kq.below_alloc w _).trans ((Kq.below_alloc _ _).mono (Kq.below_alloc w _).size), Nat.le_succ _, ?_, Nat.lt_succ_self _⟩
  rw [Below.heap_alloc _ _ _ (by simp)]
  exact Kq.blk_new _ _ _ _
set_option maxRecDepth 100000 in
set_option maxHeartbeats 1000000 in
theorem hd_put_ok (a g sg : Nat) (w : World) (h : HdOk a g sg) (hg : g < M64) :
    Calls Tryz.prog 66 #[.int .i64 (a : Int), .agg #[.int .u64 (g : Int), .int .i64 (sg : Int)]] w fun x w' => x = .returned (.tuple #[.string (hdPut a g sg), .int .i64 0]) ∧ Below w.heap.size w w' := by
  have HD : Hid (decide (64 ≤ (a : Int) ∧ (a : Int) ≤ 512) = true) := Lib.hid (decide_eq_true ⟨h.a0, h.a1⟩)
  have g0 : ((g : Int) == 0) = false := by have := h.g0; simp; omega
  have g1 : (g == 0) = false := by have := h.g0; simp; omega
  have s0 : decide ((sg : Int) < 0) = false := decide_eq_false (by omega)
  have s1 : decide ((1 : Int) < (sg : Int)) = false := decide_eq_false (by have := h.s1; omega)
  have s2 : decide (1 < sg) = false := decide_eq_false (by have := h.s1; omega)
  have a14 : (14 : Int) ≤ (a : Int) := by have := h.a0; omega
  have a512 : (a : Int) ≤ 512 := h.a1
  have hsub : ((a : Int) - 14) = ((a - 14 : Nat) : Int) := by omega
  have H := Lib.hid (And.intro h hg)
  clear h hg
  go_enter Tryz.func66, Tryz.ntmps66
  go_wp2_with fail
  refine (hd_fits a _).mono ?_
  rw [HD.out]
  rintro x w1 ⟨rfl, rfl⟩
  have P0 := Lib.hid (PH.start w #[.int .u64 (g : Int), .int .i64 (sg : Int)] 84)
  go_wp2_with fail
  clear g0 g1 s0 s1 s2
  refine (wr_raw _ _ 0 _ [] ⟨#[72]⟩ _ P0.out.it (by decide)).mono ?_
  intro x w2 hp
  obtain ⟨v2, P2⟩ := P0.out.step hp.any
  rw [show [] ++ nl ⟨#[72]⟩ = [72] from rfl] at P2
  have P2 := Lib.hid P2
  obtain ⟨rfl, -⟩ := hp
  clear P0
  have b0 := Kq.blk_cell P2.out.box 0
  go_wp2_with fail
  refine (wr_number _ _ 0 _ _ g _ P2.out.it H.out.2 (by decide)).mono ?_
  intro x w3 hp
  obtain ⟨v3, P3⟩ := P2.out.step hp
  have P3 := Lib.hid P3
  obtain ⟨rfl, -⟩ := hp
  clear P2 b0
  have b1 := Kq.blk_cell P3.out.box 1
  go_wp2_with fail
  refine (wr_byte_ok _ _ 0 _ _ sg _ P3.out.it (by have := H.out.1.s1; omega) (by simp [num8_length])).mono ?_
  intro x w4 hp
  obtain ⟨v4, P4⟩ := P3.out.step hp.any
  have P4 := Lib.hid P4
  obtain ⟨rfl, -⟩ := hp
  clear P3 b1
  go_wp2_with fail
  refine (repeat_ok (a - 14) _ (by omega)).mono ?_
  rintro x w5 ⟨rfl, b5⟩
  have P5 := Lib.hid (P4.out.below b5)
  have HZ : Hid (nl (txt (List.replicate (a - 14) 0)) = List.replicate (a - 14) 0 ∧ (txt (List.replicate (a - 14) 0)).size ≤ 1000) := Lib.hid ⟨nl_txt _ (by intro b hb; rw [List.eq_of_mem_replicate hb]; decide), by rw [txt_size, List.length_replicate]; omega⟩
  clear b5 P4 hsub
  go_wp2_with fail
  refine (wr_raw _ _ 0 _ _ _ _ P5.out.it (by have := HZ.out.2; simp [num8_length]; omega)).mono ?_
  intro x w6 hp
  obtain ⟨v6, P6⟩ := P5.out.step hp.any
  have P6 := Lib.hid P6
  obtain ⟨rfl, -⟩ := hp
  rw [HZ.out.1] at P6
  have HBY : Hid ((([72] ++ num8 g) ++ [sg]) ++ List.replicate (a - 14) 0 = hdBody a g sg) := Lib.hid rfl
  rw [HBY.out] at P6
  have HLT := Lib.hid (hdBody_lt a g sg (by have := H.out.1.s1; omega))
  have HLN := Lib.hid (hdBody_length a g sg (by omega))
  have HPU : Hid (sealT (txt (hdBody a g sg)) = hdPut a g sg) := Lib.hid rfl
  clear P5 HZ HBY
  go_wp2_with fail
  refine (wr_bytes_ok _ _ v6 _ _ P6.out.it HLT.out).mono ?_
  rintro x w7 ⟨rfl, rfl⟩
  go_wp2_with fail
  refine (crc_seal (txt (hdBody a g sg)) _ (by rw [txt_size, HLN.out]; unfold maxLen; omega)).mono ?_
  rintro x w8 ⟨rfl, b8⟩
  have P8 := Lib.hid (P6.out.below b8)
  rw [HPU.out]
  clear b8
  go_wp2
  go_ret2
  exact ⟨rfl, P8.out.bel⟩
set_option maxRecDepth 100000 in
set_option maxHeartbeats 1000000 in
theorem hd_put_bad (a : Int) (g : Nat) (sg : Int) (w : World) (h : ¬ HdOk a g sg) :
    Calls Tryz.prog 66 #[.int .i64 a, .agg #[.int .u64 (g : Int), .int .i64 sg]] w fun x w' => x = .returned (.tuple #[.string ⟨#[]⟩, .int .i64 1]) ∧ Below w.heap.size w w' := by
  have H := Lib.hid h
  clear h
  by_cases h0 : 64 ≤ a ∧ a ≤ 512
  · have HD : Hid (decide (64 ≤ a ∧ a ≤ 512) = true) := Lib.hid (decide_eq_true h0)
    by_cases h1 : g = 0
    · subst h1
      clear h0
      go_enter Tryz.func66, Tryz.ntmps66
      go_wp2_with fail
      refine (hd_fits a _).mono ?_
      rw [HD.out]
      rintro x w1 ⟨rfl, rfl⟩
      go_wp2
      go_ret2
      exact ⟨rfl, Kq.below_alloc _ _⟩
    · have g0 : ((g : Int) == 0) = false := by simp; omega
      have g1 : (g == 0) = false := by simp; omega
      by_cases h2 : sg < 0
      · have s0 : decide (sg < 0) = true := decide_eq_true h2
        clear h0 h1 h2
        go_enter Tryz.func66, Tryz.ntmps66
        go_wp2_with fail
        refine (hd_fits a _).mono ?_
        rw [HD.out]
        rintro x w1 ⟨rfl, rfl⟩
        go_wp2
        go_ret2
        exact ⟨rfl, Kq.below_alloc _ _⟩
      · have s0 : decide (sg < 0) = false := decide_eq_false h2
        have s1 : decide (1 < sg) = true := decide_eq_true (by
          refine Int.lt_of_not_ge (fun h3 => H.out ⟨h0.1, h0.2, by omega, by omega, by omega⟩))
        clear h0 h1 h2
        go_enter Tryz.func66, Tryz.ntmps66
        go_wp2_with fail
        refine (hd_fits a _).mono ?_
        rw [HD.out]
        rintro x w1 ⟨rfl, rfl⟩
        go_wp2
        go_ret2
        exact ⟨rfl, Kq.below_alloc _ _⟩
  · have HD : Hid (decide (64 ≤ a ∧ a ≤ 512) = false) := Lib.hid (decide_eq_false h0)
    clear h0
    go_enter Tryz.func66, Tryz.ntmps66
    go_wp2_with fail
    refine (hd_fits a _).mono ?_
    rw [HD.out]
    rintro x w1 ⟨rfl, rfl⟩
    go_wp2
    go_ret2
    exact ⟨rfl, Kq.below_alloc _ _⟩
end Go.Proofs.YtbpgfhcecanikaaGreat
namespace Go.Proofs.YtbpgfhcecanikaaGreat
open Go.RowKit
set_option linter.unusedVariables false
/-- a head in a box -/
def HxC (w : World) (X : Nat) (g sg : Nat) : Prop := w.heap[X]? = some (.cells #[.int .u64 (g : Int), .int .i64 (sg : Int)] 84 (0, 0))
theorem made_str (w : World) (s : ByteArray) : StrsAt (w.alloc (.cells #[.string s] 9)) (some ⟨w.heap.size, 0, none⟩) [s] := ⟨fun j hj => by
  have hj0 : j = 0 := by simpa using hj
  subst hj0
  exact ⟨_, 0, rfl, by simp, by simp⟩⟩
/-- what putHead makes -/
def phF (a b g sg slot : Nat) (ws : List (Int × ByteArray)) (ar : Nat) (st : List Nat) : List (Int × ByteArray) × Nat × List Nat × Int := layF a b slot [hdPut a g sg] ws ar st
/-- the log behind a head that was put *(or not)* -/
def headV (v : WalV) (g sg slot : Nat) (c : Int) : WalV := if c = 0 then { v with g := g, sg := sg, slot := slot } else v
/-- the cells that putHead loads ahead of its calls -/
def PhS (w : World) (R B X a b g sg : Nat) : Prop := w.cell? ⟨R, 0, none⟩ = some (.pointer (some ⟨B, 0, none⟩)) ∧ w.cell? ⟨B, 0, none⟩ = some (.int .i64 (a : Int)) ∧ w.cell? ⟨B, 1, none⟩ = some (.int .i64 (b : Int)) ∧ w.cell? ⟨X, 0, none⟩ = some (.int .u64 (g : Int)) ∧ w.cell? ⟨X, 1, none⟩ = some (.int .i64 (sg : Int))
set_option maxRecDepth 100000 in
set_option maxHeartbeats 2000000 in
theorem wl_putHead {w : World} {base B S a b R N : Nat} {buf : Value} {ws : List (Int × ByteArray)} {ar : Nat} {st : List Nat} {v : WalV} (h : WlS w base B S a b R buf ws ar st v) (ho : StOk a b N ws ar st) (hN : N + 20 ≤ 1000000) (hn : a * b ≤ 3000000) (ha : 64 ≤ a) (ha2 : a ≤ 512) (g sg slot : Nat) (hg0 : 0 < g) (hg : g < M64) (hsg : sg ≤ 1) (hsl : slot ≤ 1) :
    Calls Tryz.prog 51 #[.pointer (some ⟨R, 0, none⟩), .agg #[.int .u64 (g : Int), .int .i64 (sg : Int)], .int .i64 (slot : Int)] w fun x w' => x = .returned (.int .i64 (phF a b g sg slot ws ar st).2.2.2) ∧ WoP w base B S a b R buf (phF a b g sg slot ws ar st).1 (phF a b g sg slot ws ar st).2.1 (phF a b g sg slot ws ar st).2.2.1 (headV v g sg slot (phF a b g sg slot ws ar st).2.2.2) w' := by
  obtain ⟨w1, hw1⟩ : ∃ z, z = w.alloc (.cells #[.int .u64 (g : Int), .int .i64 (sg : Int)] 84) := ⟨_, rfl⟩
  have hb1 : Below w.heap.size w w1 := by rw [hw1]; exact Kq.below_alloc _ _
  obtain ⟨X, hX⟩ : ∃ X, X = w.heap.size := ⟨_, rfl⟩
  have hx1 : HxC w1 X g sg := by unfold HxC; rw [hw1, hX]; exact Kq.blk_new _ _ _ _
  have hlt : X < w1.heap.size := Kq.blk_lt hx1
  have HD : Hid (PhS w1.drew R B X a b g sg ∧ HxC w1.drew X g sg ∧ WlS w1.drew base B S a b R buf ws ar st v ∧ Below w.heap.size w w1.drew) := Lib.hid (by
    have hW := (h.below hb1).drew
    have c0 : w1.drew.cell? ⟨X, 0, none⟩ = some (.int .u64 (g : Int)) := Kq.blk_cell (show w1.drew.heap[X]? = _ from hx1) 0
    have c1 : w1.drew.cell? ⟨X, 1, none⟩ = some (.int .i64 (sg : Int)) := Kq.blk_cell (show w1.drew.heap[X]? = _ from hx1) 1
    exact ⟨⟨hW.c0, hW.d.d.c0, hW.d.d.c1, c0, c1⟩, hx1, hW, hb1.drew⟩)
  have HB : Hid (R < X ∧ B < X ∧ X = w.heap.size) := Lib.hid ⟨by rw [hX]; exact h.lt, by rw [hX]; exact Kq.blk_lt h.d.d.blk, hX⟩
  have HH := Lib.hid (And.intro h (And.intro ho (And.intro hN (And.intro hn (And.intro ha ha2)))))
  have HG : Hid (HdOk (a : Int) g (sg : Int) ∧ g < M64 ∧ slot ≤ 1) := Lib.hid ⟨⟨by omega, by omega, hg0, by omega, by omega⟩, hg, hsl⟩
  have HW1 := Lib.hid (And.intro hw1 hX)
  clear hb1 hx1 hlt h ho hN hn ha ha2 hg0 hg hsg hsl hw1 hX
  go_enter Tryz.func51, Tryz.ntmps51
  go_wp2_with fail
  rw [← HW1.out.1, ← HW1.out.2]
  refine wp_region_held_drew (S := fun w' => PhS w' R B X a b g sg) (by kernel_rfl) HD.out.1 (fun hS0 => ?_)
  generalize w1.drew = wd at *
  unfold PhS at hS0
  dsimp only [PhS]
  refine wpAnyH_take (i := 0) (v := ?_) rfl (by kernel_rfl) (by kernel_rfl) (by kernel_rfl) (fun _ _ _ h => h) (Or.inl ⟨by kernel_rfl, ?_⟩) (by assumption) ?_
  rotate_left
  · intro w hSw; (try dsimp only at hSw); go_simp; (try with_reducible rfl)
  refine wpAnyH_take (i := 1) (v := ?_) rfl (by kernel_rfl) (by kernel_rfl) (by kernel_rfl) (fun _ _ _ h => h) (Or.inl ⟨by kernel_rfl, ?_⟩) (by assumption) ?_
  rotate_left
  · intro w hSw; (try dsimp only at hSw); go_simp; (try with_reducible rfl)
  refine wpAnyH_take (i := 2) (v := ?_) rfl (by kernel_rfl) (by kernel_rfl) (by kernel_rfl) (fun _ _ _ h => h) (Or.inl ⟨by kernel_rfl, ?_⟩) (by assumption) ?_
  rotate_left
  · intro w hSw; (try dsimp only at hSw); go_simp; (try with_reducible rfl)
  refine wpAnyH_take (i := 3) (v := ?_) rfl (by kernel_rfl) (by kernel_rfl) (by kernel_rfl) (fun _ _ _ h => h) (Or.inl ⟨by kernel_rfl, ?_⟩) (by assumption) ?_
  rotate_left
  · intro w hSw; (try dsimp only at hSw); go_simp; (try with_reducible rfl)
  refine wpAnyH_take (i := 4) (v := ?_) rfl (by kernel_rfl) (by kernel_rfl) (by kernel_rfl) (fun _ _ _ h => h) (Or.inl ⟨by kernel_rfl, ?_⟩) (by assumption) ?_
  rotate_left
  · intro w hSw; (try dsimp only at hSw); go_simp; (try with_reducible rfl)
  refine wpAnyH_take (i := 5) (v := ?_) rfl (by kernel_rfl) (by kernel_rfl) (by kernel_rfl) (fun _ _ _ h => h) (Or.inl ⟨by kernel_rfl, ?_⟩) (by assumption) ?_
  rotate_left
  · intro w hSw; (try dsimp only at hSw); go_simp; (try with_reducible rfl)
  refine wpAnyH_take (i := 6) (v := ?_) rfl (by kernel_rfl) (by kernel_rfl) (by kernel_rfl) (fun _ _ _ h => h) (Or.inl ⟨by kernel_rfl, ?_⟩) (by assumption) ?_
  rotate_left
  · intro w hSw; (try dsimp only at hSw); go_simp; (try with_reducible rfl)
  refine wpAnyH_take (i := 8) (v := ?_) rfl (by kernel_rfl) (by kernel_rfl) (by kernel_rfl) (fun _ _ _ h => h) (Or.inl ⟨by kernel_rfl, ?_⟩) (by assumption) ?_
  rotate_left
  · intro w hSw; (try dsimp only at hSw); go_simp; (try with_reducible rfl)
  refine wpAnyH_ready (rs := [7]) (by kernel_rfl) (by simp) ?_
  refine AllReadyH.cons rfl (fun K hK => ?_) AllReadyH.nil
  go_simp
  refine (dk_size (a : Int) (b : Int) wd).mono ?_
  rintro x w2 ⟨rfl, hb2⟩
  have HD2 : Hid (PhS w2 R B X a b g sg ∧ HxC w2 X g sg ∧ WlS w2 base B S a b R buf ws ar st v ∧ Below w.heap.size w w2) := Lib.hid (by
    obtain ⟨h1, h2, h3, h4⟩ := HD.out
    have hW := h3.below hb2
    have hx := Kq.below_blk hb2 h2 (Kq.blk_lt h2)
    exact ⟨⟨hW.c0, hW.d.d.c0, hW.d.d.c1, Kq.blk_cell hx 0, Kq.blk_cell hx 1⟩, hx, hW, h4.trans (hb2.mono h4.size)⟩)
  clear hS0 hb2 HD
  refine hK.out _ _ HD2.out.1 (fun hS0 => ?_)
  clear hK K
  refine wpAnyH_ready (rs := [9]) (by kernel_rfl) (by simp) ?_
  refine AllReadyH.cons rfl (fun K hK => ?_) AllReadyH.nil
  go_simp
  refine (hd_put_ok a g sg w2 HG.out.1 HG.out.2.1).mono ?_
  rintro x w3 ⟨rfl, hb3⟩
  have HD3 : Hid (PhS w3 R B X a b g sg ∧ HxC w3 X g sg ∧ WlS w3 base B S a b R buf ws ar st v ∧ Below w.heap.size w w3) := Lib.hid (by
    obtain ⟨h1, h2, h3, h4⟩ := HD2.out
    have hW := h3.below hb3
    have hx := Kq.below_blk hb3 h2 (Kq.blk_lt h2)
    exact ⟨⟨hW.c0, hW.d.d.c0, hW.d.d.c1, Kq.blk_cell hx 0, Kq.blk_cell hx 1⟩, hx, hW, h4.trans (hb3.mono h4.size)⟩)
  clear hS0 hb3 HD2
  refine hK.out _ _ HD3.out.1 (fun hS0 => ?_)
  clear hK K
  have HPS : Hid ((hdPut a g sg).size ≤ 1000) := Lib.hid (by
    have := HH.out.2.2.2.2
    rw [hdPut_size a g sg (by omega)]; omega)
  have HLF : Hid (∀ z, z = hdPut a g sg → phF a b g sg slot ws ar st = layF a b slot [z] ws ar st) := Lib.hid (fun z hz => by rw [hz]; rfl)
  obtain ⟨T, hT⟩ : ∃ T, T = hdPut a g sg := ⟨_, rfl⟩
  rw [← hT] at HPS ⊢
  have HF := Lib.hid (HLF.out T hT)
  clear hT HLF
  refine wpAnyH_take (i := 10) (v := ?_) rfl (by kernel_rfl) (by kernel_rfl) (by kernel_rfl) (fun _ _ _ h => h) (Or.inl ⟨by kernel_rfl, ?_⟩) (by assumption) ?_
  rotate_left
  · intro w hSw; (try dsimp only at hSw); go_simp; (try with_reducible rfl)
  refine wpAnyH_take (i := 11) (v := ?_) rfl (by kernel_rfl) (by kernel_rfl) (by kernel_rfl) (fun _ _ _ h => h) (Or.inl ⟨by kernel_rfl, ?_⟩) (by assumption) ?_
  rotate_left
  · intro w hSw; (try dsimp only at hSw); go_simp; (try with_reducible rfl)
  refine wpAnyH_take (i := 12) (v := ?_) rfl (by kernel_rfl) (by kernel_rfl) (by kernel_rfl) (fun _ _ _ h => h) (Or.inl ⟨by kernel_rfl, ?_⟩) (by assumption) ?_
  rotate_left
  · intro w hSw; (try dsimp only at hSw); go_simp; (try with_reducible rfl)
  refine wpAnyH_take (i := 13) (v := ?_) rfl (by kernel_rfl) (by kernel_rfl) (by kernel_rfl) (fun _ _ _ h => h) (Or.inl ⟨by kernel_rfl, ?_⟩) (by assumption) ?_
  rotate_left
  · intro w hSw; (try dsimp only at hSw); go_simp; (try with_reducible rfl)
  refine wpAnyH_take (i := 14) (v := ?_) rfl (by kernel_rfl) (by kernel_rfl) (by kernel_rfl) (fun _ _ _ h => h) (Or.inl ⟨by kernel_rfl, ?_⟩) (by assumption) ?_
  rotate_left
  · intro w hSw; (try dsimp only at hSw); go_simp; (try with_reducible rfl)
  refine wpAnyH_done (by kernel_rfl) ?_ _
  clear hS0
  go_simp
  go_wp2_with fail
  have hb4 := Kq.below_alloc w3 (.cells #[.string T] 9)
  have HD4 : Hid (HxC (w3.alloc (.cells #[.string T] 9)) X g sg ∧ WlS (w3.alloc (.cells #[.string T] 9)) base B S a b R buf ws ar st v ∧ Below w.heap.size w (w3.alloc (.cells #[.string T] 9))) := Lib.hid ⟨Kq.below_blk hb4 HD3.out.2.1 (Kq.blk_lt HD3.out.2.1), HD3.out.2.2.1.below hb4, HD3.out.2.2.2.trans (hb4.mono HD3.out.2.2.2.size)⟩
  have HAO : Hid (∀ g o, 0 < [T].length → (some ⟨w3.heap.size, 0, none⟩ : Option Addr) = some ⟨g, o, none⟩ → ¬ (Own B S buf g ∨ g = R)) := Lib.hid (fun g o _ e hh => by
    have e1 : w3.heap.size = g := by injection e with e; injection e
    rcases hh with hh | hh
    · have := HD3.out.2.2.1.d.own_lt hh; omega
    · have := HD3.out.2.2.1.lt; omega)
  have HST := Lib.hid (made_str w3 T)
  clear hb4
  refine (wl_lay (N := N) HD4.out.2.1 HH.out.2.1 (some ⟨w3.heap.size, 0, none⟩) 1 [T] (by have := HH.out.2.2.1; simp; omega) HH.out.2.2.2.1 (by have := HH.out.2.2.2.2; omega) HH.out.2.2.2.2.2 slot (by have := HG.out.2.2; omega) HST.out HAO.out (by simp) (fun s hs => by rw [List.mem_singleton.1 hs]; exact HPS.out)).mono ?_
  rintro x w5 ⟨rfl, hwo⟩
  rw [← HF.out] at hwo ⊢
  have HO := Lib.hid hwo
  clear hwo HST HAO HD3
  obtain ⟨c, hc⟩ : ∃ c, c = (phF a b g sg slot ws ar st).2.2.2 := ⟨_, rfl⟩
  rw [← hc]
  by_cases hc0 : c = 0
  · subst hc0
    have HC := Lib.hid hc
    obtain ⟨buf5, W5, K5, F5⟩ := HO.out
    have hXn : ¬ (Own B S buf X ∨ X = R) := fun hh => by
      rcases hh with hh | hh
      · have := HH.out.1.d.own_lt hh; have := HB.out.2.2; omega
      · have := HB.out.1; omega
    have hx5 : HxC w5 X g sg := K5.blk HD4.out.1 hXn
    have e0 : w5.cell? ⟨X, 0, none⟩ = some (.int .u64 (g : Int)) := Kq.blk_cell hx5 0
    have e1 : w5.cell? ⟨X, 1, none⟩ = some (.int .i64 (sg : Int)) := Kq.blk_cell hx5 1
    have f1 := W5.fz 1
    have f2 := W5.fz 2
    have f3 := W5.fz 3
    have k1 := W5.c1
    have k2 := W5.c2
    have k3 := W5.c3
    obtain ⟨w6, hw6⟩ : ∃ z, z = ((w5.setCell ⟨R, 1, none⟩ (.int .u64 (g : Int))).setCell ⟨R, 2, none⟩ (.int .i64 (sg : Int))).setCell ⟨R, 3, none⟩ (.int .i64 (slot : Int)) := ⟨_, rfl⟩
    have hk6 : Kq.Keeps (· = R) w5 w6 := by
      rw [hw6]
      exact ((Kq.Keeps.setCell (S := (· = R)) _ ⟨R, 1, none⟩ _ rfl).trans (Kq.Keeps.setCell (S := (· = R)) _ ⟨R, 2, none⟩ _ rfl)).trans (Kq.Keeps.setCell (S := (· = R)) _ ⟨R, 3, none⟩ _ rfl)
    have hb6 : w6.heap[R]? = some (.cells (({ v with g := g, sg := sg, slot := slot } : WalV).cells B) 86 (0, 0)) := by
      rw [hw6]
      exact Kq.blk_set (Kq.blk_set (Kq.blk_set W5.blk 1 _) 2 _) 3 _
    have HP : Hid (WoP w base B S a b R buf (phF a b g sg slot ws ar st).1 (phF a b g sg slot ws ar st).2.1 (phF a b g sg slot ws ar st).2.2.1 { v with g := g, sg := sg, slot := slot } w6) := Lib.hid (by
      have h6 : WoP w5 base B S a b R buf5 (phF a b g sg slot ws ar st).1 (phF a b g sg slot ws ar st).2.1 (phF a b g sg slot ws ar st).2.2.1 { v with g := g, sg := sg, slot := slot } w6 := ⟨buf5, W5.set hk6 hb6, hk6.mono (fun _ _ e => Or.inr e), fun j hj => Or.inl hj⟩
      exact WoP.from HD4.out.2.2 (WoP.comp HD4.out.2.1.lt K5 F5 h6))
    clear W5 K5 F5 hXn hx5 hk6 hb6 hc
    go_wp2
    rw [← hw6]
    go_ret
    exact ⟨by rw [← HC.out]; rfl, by unfold headV; rw [if_pos HC.out.symm]; exact HP.out⟩
  · have hcb : (c == 0) = false := beq_eq_false_iff_ne.2 hc0
    have hcn : (c != 0) = true := by rw [bne_iff_ne]; exact hc0
    have HC := Lib.hid (And.intro hc hc0)
    have HP := Lib.hid (WoP.from HD4.out.2.2 HO.out)
    clear hc
    go_wp2
    go_ret
    exact ⟨by rw [← HC.out.1]; rfl, by unfold headV; rw [if_neg (by rw [← HC.out.1]; exact HC.out.2)]; exact HP.out⟩
end Go.Proofs.YtbpgfhcecanikaaGreat
