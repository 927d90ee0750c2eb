/- Merged: WrB, WrC. The reference's log in memory. No condition. Contract of carrackref07.Records. Condition: sizes. -/
import Derived.WalkSpells
import Derived.Outline
import Derived.Test.YtbpgfhcecanikaaGreatWlEQ
import Derived.Test.YtbpgfhcecanikaaGreatWrAQ
import Derived.Deep.QuietTactic
import Derived.Deep.RegionHeld
import Derived.Test.YtbpgfhcecanikaaGreatHdRNewQ
namespace Go.Proofs.YtbpgfhcecanikaaGreat
open Go.RowKit
set_option linter.unusedVariables false
theorem _root_.Go.Kq.Keeps.chain {S : Nat → Prop} {a b c : World} (h : Kq.Keeps S a b) (k : Kq.Keeps (fun j => S j ∨ a.heap.size ≤ j) b c) : Kq.Keeps S a c :=
  ⟨k.os.trans h.os, k.tape.trans h.tape, k.output.trans h.output, Nat.le_trans h.size k.size, fun j hj hn => by
    rw [k.block j (Nat.lt_of_lt_of_le hj h.size) (fun e => e.elim hn (fun e => absurd hj (Nat.not_lt.2 e))), h.block j hj hn]⟩
theorem _root_.Go.Kq.Keeps.belowC {S : Nat → Prop} {a b c : World} (h : Kq.Keeps S a b) (k : Below b.heap.size b c) : Kq.Keeps S a c :=
  h.trans (Kq.Keeps.of_below k (fun j h1 h2 => absurd h1 (Nat.not_le.2 h2)))
structure RvS (w : World) (base R a b Q : Nat) (buf : Value) (ws : List (Int × ByteArray)) (ar : Nat) (st : List Nat) (v : WalV) : Prop where
  d : RfS w base R a b buf ws (ar : Int) st
  blk : w.heap[Q]? = some (.cells (v.cells R) 50 (0, 0))
  sep : ¬ (Q = R ∨ buf.ownBlock = some Q)
section
variable {w w' : World} {base R a b Q : Nat} {buf buf' : Value} {ws ws' : List (Int × ByteArray)} {ar ar' : Nat} {st st' : List Nat} {v v' : WalV}
theorem RvS.below (h : RvS w base R a b Q buf ws ar st v) (hb : Below w.heap.size w w') : RvS w' base R a b Q buf ws ar st v := ⟨h.d.below hb, Kq.below_blk hb h.blk (Kq.blk_lt h.blk), h.sep⟩
theorem RvS.drew (h : RvS w base R a b Q buf ws ar st v) : RvS w.drew base R a b Q buf ws ar st v := h.below (Below.refl _ _).drew
theorem RvS.lt (h : RvS w base R a b Q buf ws ar st v) : Q < w.heap.size := Kq.blk_lt h.blk
theorem RvS.ltR (h : RvS w base R a b Q buf ws ar st v) : R < w.heap.size := Kq.blk_lt h.d.blk
theorem RvS.c0 (h : RvS w base R a b Q buf ws ar st v) : w.cell? ⟨Q, 0, none⟩ = some (.pointer (some ⟨R, 0, none⟩)) := Kq.blk_cell h.blk 0
theorem RvS.c1 (h : RvS w base R a b Q buf ws ar st v) : w.cell? ⟨Q, 1, none⟩ = some (.int .u64 v.g) := Kq.blk_cell h.blk 1
theorem RvS.c2 (h : RvS w base R a b Q buf ws ar st v) : w.cell? ⟨Q, 2, none⟩ = some (.int .i64 v.sg) := Kq.blk_cell h.blk 2
theorem RvS.c3 (h : RvS w base R a b Q buf ws ar st v) : w.cell? ⟨Q, 3, none⟩ = some (.int .i64 v.slot) := Kq.blk_cell h.blk 3
theorem RvS.c4 (h : RvS w base R a b Q buf ws ar st v) : w.cell? ⟨Q, 4, none⟩ = some (.int .i64 v.used) := Kq.blk_cell h.blk 4
theorem RvS.c5 (h : RvS w base R a b Q buf ws ar st v) : w.cell? ⟨Q, 5, none⟩ = some (.int .i64 v.cnt) := Kq.blk_cell h.blk 5
theorem RvS.c6 (h : RvS w base R a b Q buf ws ar st v) : w.cell? ⟨Q, 6, none⟩ = some (.bool v.ready) := Kq.blk_cell h.blk 6
theorem RvS.c7 (h : RvS w base R a b Q buf ws ar st v) : w.cell? ⟨Q, 7, none⟩ = some (.bool v.broken) := Kq.blk_cell h.blk 7
theorem RvS.fz (h : RvS w base R a b Q buf ws ar st v) (i : Nat) : w.frozen? ⟨Q, i, none⟩ = false := Kq.blk_free h.blk i
/-- what a call leaves of the reference's log and its disk -/
def RvP (w : World) (base R a b Q : Nat) (buf : Value) (ws : List (Int × ByteArray)) (ar : Nat) (st : List Nat) (v : WalV) (w' : World) : Prop :=
  ∃ buf', RvS w' base R a b Q buf' ws ar st v ∧ Kq.Keeps (fun j => j = R ∨ j = Q) w w' ∧ (∀ j, buf'.ownBlock = some j → buf.ownBlock = some j ∨ w.heap.size ≤ j)
theorem RvS.step (h : RvS w base R a b Q buf ws ar st v) (hd : RoP w base R a b buf ws' ar' st' w') : RvP w base R a b Q buf ws' ar' st' v w' := by
  obtain ⟨buf', h1, h2, h3⟩ := hd
  refine ⟨buf', ⟨h1, h2.blk h.blk (fun e => h.sep (Or.inl e)), fun ho => ?_⟩, h2.mono (fun _ _ e => Or.inl e), h3⟩
  rcases ho with e | e
  · exact h.sep (Or.inl e)
  · rcases h3 Q e with e | e
    · exact h.sep (Or.inr e)
    · exact absurd h.lt (Nat.not_lt.2 e)
theorem RvS.set (h : RvS w base R a b Q buf ws ar st v) {w' : World} {v' : WalV} (hk : Kq.Keeps (· = Q) w w') (hb : w'.heap[Q]? = some (.cells (v'.cells R) 50 (0, 0))) : RvS w' base R a b Q buf ws ar st v' :=
  ⟨h.d.keeps hk (fun e => h.sep (Or.inl e.symm)) (fun k hk e => h.sep (Or.inr (e ▸ hk))), hb, h.sep⟩
theorem RvP.here (h : RvS w base R a b Q buf ws ar st v) : RvP w base R a b Q buf ws ar st v w := ⟨buf, h, Kq.Keeps.refl _ _, fun j hj => Or.inl hj⟩
theorem RvP.below {w0 : World} (h : RvP w base R a b Q buf ws ar st v w0) (hb : Below w0.heap.size w0 w') : RvP w base R a b Q buf ws ar st v w' := by
  obtain ⟨buf', h1, h2, h3⟩ := h
  exact ⟨buf', h1.below hb, h2.trans (Kq.Keeps.of_below hb (fun k h1 h2 => absurd h1 (Nat.not_le.2 h2))), h3⟩
theorem RvP.from {w0 : World} (hb : Below w.heap.size w w0) (h : RvP w0 base R a b Q buf ws ar st v w') : RvP w base R a b Q buf ws ar st v w' := by
  obtain ⟨buf', h1, h2, h3⟩ := h
  exact ⟨buf', h1, (Kq.Keeps.of_below hb (fun k h1 h2 => absurd h1 (Nat.not_le.2 h2))).trans h2, fun j hj => (h3 j hj).imp id (Nat.le_trans hb.size)⟩
theorem RvP.comp {w1 : World} {buf1 : Value} (h2 : Kq.Keeps (fun j => j = R ∨ j = Q) w w1) (h3 : ∀ j, buf1.ownBlock = some j → buf.ownBlock = some j ∨ w.heap.size ≤ j) (k : RvP w1 base R a b Q buf1 ws ar st v w') : RvP w base R a b Q buf ws ar st v w' := by
  obtain ⟨buf2, k1, k2, k3⟩ := k
  exact ⟨buf2, k1, h2.trans k2, fun j hj => by
    rcases k3 j hj with e | e
    · exact h3 j e
    · exact Or.inr (Nat.le_trans h2.size e)⟩
/-- a disk behind a call, told from the world ahead -/
theorem RvP.disk (h : RvP w base R a b Q buf ws ar st v w') (w0 : World) (hb : Below w0.heap.size w0 w) (hQ : w0.heap.size ≤ Q) : RoP w0 base R a b buf ws ar st w' := by
  obtain ⟨buf', h1, h2, h3⟩ := h
  refine ⟨buf', h1.d, ⟨h2.os.trans hb.os, h2.tape.trans hb.tape, h2.output.trans hb.output, Nat.le_trans hb.size h2.size, fun k hk hn => ?_⟩, fun j hj => (h3 j hj).imp id (Nat.le_trans hb.size)⟩
  rw [h2.block k (Nat.lt_of_lt_of_le hk hb.size) (fun hh => hh.elim hn (fun e => by omega)), hb.block k hk]
end
end Go.Proofs.YtbpgfhcecanikaaGreat
namespace Go.Proofs.YtbpgfhcecanikaaGreat
open Go.RowKit
set_option linter.unusedVariables false
def RecC (w : World) (R X a g : Nat) : Prop := w.cell? ⟨R, 0, none⟩ = some (.int .i64 (a : Int)) ∧ w.cell? ⟨X, 0, none⟩ = some (.int .u64 (g : Int))
def HxR (w : World) (X g sg : Nat) : Prop := w.heap[X]? = some (.cells #[.int .u64 (g : Int), .int .i64 (sg : Int)] 48 (0, 0))
/-- what Records answers -/
def RecPost (w : World) (r : List ByteArray × Nat) (x : Ending) (w' : World) : Prop := ∃ L cap, x = .returned (.tuple #[.slice L r.1.length cap, .int .i64 (r.2 : Int)]) ∧ StrsAt w' L r.1 ∧ (∀ g o, L = some ⟨g, o, none⟩ → w.heap.size ≤ g) ∧ Below w.heap.size w w'
theorem textF_txt {a b : Nat} {ws : List (Int × ByteArray)} {st : List Nat} (k j : Nat) : txt (textF a b ws st k j) ++ (rdF a b ws st ((k + j : Nat) : Int)).1 = txt (textF a b ws st k (j + 1)) := by
  apply nl_inj
  rw [nl_append, nl_txt _ (textF_lt k j), nl_txt _ (textF_lt k (j + 1)), textF]
set_option maxRecDepth 100000 in
set_option maxHeartbeats 2000000 in
theorem rv_records {w : World} {base R a b N : Nat} {buf : Value} {ws : List (Int × ByteArray)} {ar : Nat} {st : List Nat} (h : RfS w base R a b buf ws (ar : Int) st) (ho : StOk a b N ws ar st) (hN : N ≤ 1000000) (hn : a * b ≤ 3000000) (ha : 64 ≤ a) (ha2 : a ≤ 512) (hb : 4 ≤ b) (hb2 : b ≤ 5000) (hsz : segN b * a ≤ 30000) (g sg : Nat) (hg : g < M64) (hsg : sg ≤ 1) :
    Calls Tryz.prog 74 #[.pointer (some ⟨R, 0, none⟩), .agg #[.int .u64 (g : Int), .int .i64 (sg : Int)]] w (RecPost w (scanAll (a : Int) g (segT a b ws st sg))) := by
  obtain ⟨w1, hw1⟩ : ∃ z, z = w.alloc (.cells #[.int .u64 (g : Int), .int .i64 (sg : Int)] 48) := ⟨_, rfl⟩
  obtain ⟨X, hX⟩ : ∃ z, z = w.heap.size := ⟨_, rfl⟩
  have hb1 : Below w.heap.size w w1 := by rw [hw1]; exact Kq.below_alloc _ _
  have hx1 : HxR w1 X g sg := by unfold HxR; rw [hw1, hX]; exact Kq.blk_new _ _ _ _
  have H := Lib.hid (And.intro h (And.intro ho (And.intro hN (And.intro hn (And.intro ha (And.intro ha2 (And.intro hb (And.intro hb2 (And.intro hsz (And.intro hg hsg))))))))))
  have H1 := Lib.hid (And.intro hb1 hx1)
  have HW1 := Lib.hid (And.intro hw1 hX)
  have hsl : segN b ≤ 2500 := by unfold segN; omega
  have hfr : 2 + sg * segN b ≤ 3000 := by
    have h01 : sg = 0 ∨ sg = 1 := by omega
    rcases h01 with e | e <;> rw [e] <;> omega
  have HTF : Hid (segT a b ws st sg = txt (textF a b ws st (2 + sg * segN b) (segN b))) := Lib.hid rfl
  obtain ⟨fr, hfrr⟩ : ∃ z, z = 2 + sg * segN b := ⟨_, rfl⟩
  obtain ⟨sl, hsll⟩ : ∃ z, z = segN b := ⟨_, rfl⟩
  rw [← hfrr] at hfr
  rw [← hsll] at hsl
  rw [← hfrr, ← hsll] at HTF
  have HE := Lib.hid (And.intro hfrr hsll)
  clear hb1 hx1 h ho hN hn ha ha2 hb hb2 hsz hg hsg hw1 hX hfrr hsll
  go_enter Tryz.func74, Tryz.ntmps74
  go_wp2
  rw [← HW1.out.1, ← HW1.out.2]
  go_loopw [6, 7] (fun u i wr => ∃ j : Nat, j ≤ sl ∧ i = .int .i64 (j : Int) ∧ u = .string (txt (textF a b ws st fr j)) ∧ HxR wr X g sg ∧ Below w.heap.size w wr) (fun _ i _ => sl - (intOf i).toNat)
  case atStart => exact ⟨0, Nat.zero_le _, rfl, rfl, H1.out.2, H1.out.1⟩
  case round =>
    obtain ⟨j, hj, rfl, rfl, hx, hbl⟩ := hrel
    have HW := Lib.hid (And.intro hx (And.intro hbl (H.out.1.below hbl)))
    clear hx hbl
    go_wp2_with fail
    refine (rv_segment HW.out.2.2 H.out.2.2.2.2.2.2.1 (by have := H.out.2.2.2.2.2.2.2.1; omega)).mono ?_
    rintro y w2 ⟨rfl, rfl⟩
    rw [← HE.out.2]
    by_cases hlt : j < sl
    · have hi0 : (j : Int) < (sl : Int) := by omega
      have hd : decide ((j : Int) < (sl : Int)) = true := decide_eq_true hi0
      have hd' : decide (j < sl) = true := decide_eq_true hlt
      have HLT := Lib.hid hlt
      have x0 := Kq.blk_cell HW.out.1 0
      have x1 := Kq.blk_cell HW.out.1 1
      simp only [List.getElem?_toArray, List.getElem?_cons_zero, List.getElem?_cons_succ] at x0 x1
      clear hlt
      go_wp2_with fail
      refine (rv_base HW.out.2.2 H.out.2.2.2.2.2.2.1 (by have := H.out.2.2.2.2.2.2.2.1; omega) (g : Int) sg H.out.2.2.2.2.2.2.2.2.2.2).mono ?_
      rintro y w3 ⟨rfl, hb3⟩
      rw [← HE.out.1]
      have HW3 : Hid (HxR w3 X g sg ∧ Below w.heap.size w w3 ∧ RfS w3 base R a b buf ws (ar : Int) st) := Lib.hid ⟨Kq.below_blk hb3 HW.out.1 (Kq.blk_lt HW.out.1), HW.out.2.1.trans (hb3.mono HW.out.2.1.size), HW.out.2.2.below hb3⟩
      obtain ⟨x, hx⟩ : ∃ x, x = fr + j := ⟨_, rfl⟩
      have hw2 : IntKind.i64.wrap ((fr : Int) + (j : Int)) = (x : Int) := by rw [IntWalk.i64_in _ (by omega)]; omega
      have HT : Hid (txt (textF a b ws st fr j) ++ (rdF a b ws st (x : Int)).1 = txt (textF a b ws st fr (j + 1))) := Lib.hid (by rw [hx]; exact textF_txt fr j)
      clear hb3 HW x0 x1 hx
      go_wp2_with fail
      refine (rf_read_all base R a b buf ws (ar : Int) st (x : Int) w3 HW3.out.2.2 H.out.2.1.lt H.out.2.1.len H.out.2.2.2.1 (by have := H.out.2.2.2.2.2.2.2.1; omega) (Nat.le_trans H.out.2.1.nw H.out.2.2.1)).mono ?_
      rintro y w4 ⟨rfl, hb4⟩
      have HW4 : Hid (HxR w4 X g sg ∧ Below w.heap.size w w4) := Lib.hid ⟨Kq.below_blk hb4 HW3.out.1 (Kq.blk_lt HW3.out.1), HW3.out.2.1.trans (hb4.mono HW3.out.2.1.size)⟩
      have HQ := HT.out
      have hcat : (txt (textF a b ws st fr j)).size + (rdF a b ws st (x : Int)).1.size ≤ 9223372036854775807 := by
        rw [txt_size]
        have h1 := textF_length H.out.2.1 fr j
        have h2 := readB_size H.out.2.1 (x : Int)
        have h3 : j * a ≤ 10000 * 512 := Nat.mul_le_mul (by omega) H.out.2.2.2.2.2.1
        have h4 := H.out.2.2.2.2.2.1
        omega
      generalize (rdF a b ws st (x : Int)).1 = s at *
      generalize (rdF a b ws st (x : Int)).2 = e at *
      generalize txt (textF a b ws st fr j) = u at *
      have HQQ := Lib.hid HQ
      clear hb4 HW3 hw2 HQ HT
      go_wp2
      go_roundw
      case rel => exact ⟨j + 1, HLT.out, by go_num, by rw [HQQ.out], HW4.out⟩
      case measure => have := HLT.out; simp [intOf]; omega
    · obtain rfl : j = sl := by omega
      have hd : decide ((j : Int) < (j : Int)) = false := decide_eq_false (by omega)
      have hd' : decide (j < j) = false := decide_eq_false (by omega)
      have HTZ : Hid ((segT a b ws st sg).size ≤ 30000) := Lib.hid (by
        unfold segT
        rw [← nl_length, nl_txt _ (textF_lt _ _)]
        have := textF_length H.out.2.1 (2 + sg * segN b) (segN b)
        have := H.out.2.2.2.2.2.2.2.2.1
        omega)
      rw [← HTF.out]
      have HD : Hid (RecC wr.drew R X a g ∧ HxR wr.drew X g sg ∧ RfS wr.drew base R a b buf ws (ar : Int) st ∧ Below w.heap.size w wr.drew) := Lib.hid (by
        have hR := HW.out.2.2.below (Below.refl _ _).drew
        have hx : HxR wr.drew X g sg := HW.out.1
        exact ⟨⟨hR.c0, Kq.blk_cell hx 0⟩, hx, hR, HW.out.2.1.drew⟩)
      clear HW hlt
      generalize segT a b ws st sg = T at *
      go_wp2_with fail
      refine wp_region_held_drew (S := fun w' => RecC w' R X a g) (by kernel_rfl) HD.out.1 (fun hS0 => ?_)
      generalize wr.drew = wd at *
      unfold RecC at hS0
      dsimp only [RecC]
      refine wpAnyH_take (i := 0) (v := ?_) rfl (by kernel_rfl) (by kernel_rfl) (by kernel_rfl) (fun _ _ _ h => h) (Or.inl ⟨by kernel_rfl, ?_⟩) (by assumption) ?_
      rotate_left
      · intro w hSw; (try dsimp only at hSw); go_simp; (try with_reducible rfl)
      refine wpAnyH_take (i := 1) (v := ?_) rfl (by kernel_rfl) (by kernel_rfl) (by kernel_rfl) (fun _ _ _ h => h) (Or.inl ⟨by kernel_rfl, ?_⟩) (by assumption) ?_
      rotate_left
      · intro w hSw; (try dsimp only at hSw); go_simp; (try with_reducible rfl)
      refine wpAnyH_take (i := 2) (v := ?_) rfl (by kernel_rfl) (by kernel_rfl) (by kernel_rfl) (fun _ _ _ h => h) (Or.inl ⟨by kernel_rfl, ?_⟩) (by assumption) ?_
      rotate_left
      · intro w hSw; (try dsimp only at hSw); go_simp; (try with_reducible rfl)
      refine wpAnyH_take (i := 3) (v := ?_) rfl (by kernel_rfl) (by kernel_rfl) (by kernel_rfl) (fun _ _ _ h => h) (Or.inl ⟨by kernel_rfl, ?_⟩) (by assumption) ?_
      rotate_left
      · intro w hSw; (try dsimp only at hSw); go_simp; (try with_reducible rfl)
      refine wpAnyH_take (i := 4) (v := ?_) rfl (by kernel_rfl) (by kernel_rfl) (by kernel_rfl) (fun _ _ _ h => h) (Or.inl ⟨by kernel_rfl, ?_⟩) (by assumption) ?_
      rotate_left
      · intro w hSw; (try dsimp only at hSw); go_simp; (try with_reducible rfl)
      refine wpAnyH_take (i := 5) (v := ?_) rfl (by kernel_rfl) (by kernel_rfl) (by kernel_rfl) (fun _ _ _ h => h) (Or.inl ⟨by kernel_rfl, ?_⟩) (by assumption) ?_
      rotate_left
      · intro w hSw; (try dsimp only at hSw); go_simp; (try with_reducible rfl)
      refine wpAnyH_take (i := 6) (v := ?_) rfl (by kernel_rfl) (by kernel_rfl) (by kernel_rfl) (fun _ _ _ h => h) (Or.inl ⟨by kernel_rfl, ?_⟩) (by assumption) ?_
      rotate_left
      · intro w hSw; (try dsimp only at hSw); go_simp; (try with_reducible rfl)
      refine wpAnyH_ready (rs := [7]) (by kernel_rfl) (by simp) ?_
      refine AllReadyH.cons rfl (fun K hK => ?_) AllReadyH.nil
      go_simp
      refine (rf_scan (a : Int) g T wd HTZ.out H.out.2.2.2.2.2.2.2.2.2.1).mono ?_
      rintro y w5 ⟨vr, rfl, hrow, hb5⟩
      obtain ⟨rr, hrr⟩ : ∃ r, r = scanAll (a : Int) g T := ⟨_, rfl⟩
      rw [← hrr] at hrow ⊢
      obtain ⟨LA, lcap, rfl, hLA, hge, -⟩ := row_strsW hrow
      have HL : Hid (StrsAt w5 LA rr.1 ∧ (∀ g o, LA = some ⟨g, o, none⟩ → w.heap.size ≤ g) ∧ Below w.heap.size w w5) := Lib.hid ⟨hLA, fun g o e => by have h1 := hge g o e; have := HD.out.2.2.2.size; omega, HD.out.2.2.2.trans (hb5.mono HD.out.2.2.2.size)⟩
      have HFIN : Hid (RecPost w (scanAll (a : Int) g T) (.returned (.tuple #[.slice LA rr.1.length lcap, .int .i64 (rr.2 : Int)])) w5) := Lib.hid (by rw [← hrr]; exact ⟨LA, lcap, rfl, HL.out⟩)
      have hcc : RecC w5 R X a g := ⟨(HD.out.2.2.1.below hb5).c0, Kq.blk_cell (Kq.below_blk hb5 HD.out.2.1 (Kq.blk_lt HD.out.2.1)) 0⟩
      clear hS0 hb5 hrow hLA hge hrr
      refine hK.out _ _ hcc (fun hS0 => ?_)
      clear hK K hcc
      refine wpAnyH_take (i := 8) (v := ?_) rfl (by kernel_rfl) (by kernel_rfl) (by kernel_rfl) (fun _ _ _ h => h) (Or.inl ⟨by kernel_rfl, ?_⟩) (by assumption) ?_
      rotate_left
      · intro w hSw; (try dsimp only at hSw); go_simp; (try with_reducible rfl)
      refine wpAnyH_take (i := 9) (v := ?_) rfl (by kernel_rfl) (by kernel_rfl) (by kernel_rfl) (fun _ _ _ h => h) (Or.inl ⟨by kernel_rfl, ?_⟩) (by assumption) ?_
      rotate_left
      · intro w hSw; (try dsimp only at hSw); go_simp; (try with_reducible rfl)
      refine wpAnyH_take (i := 10) (v := ?_) rfl (by kernel_rfl) (by kernel_rfl) (by kernel_rfl) (fun _ _ _ h => h) (Or.inl ⟨by kernel_rfl, ?_⟩) (by assumption) ?_
      rotate_left
      · intro w hSw; (try dsimp only at hSw); go_simp; (try with_reducible rfl)
      refine wpAnyH_take (i := 11) (v := ?_) rfl (by kernel_rfl) (by kernel_rfl) (by kernel_rfl) (fun _ _ _ h => h) (Or.inl ⟨by kernel_rfl, ?_⟩) (by assumption) ?_
      rotate_left
      · intro w hSw; (try dsimp only at hSw); go_simp; (try with_reducible rfl)
      refine wpAnyH_done (by kernel_rfl) ?_ _
      clear hS0
      go_simp
      go_wp2
      refine bodyPost_ret (v := .tuple #[.slice LA rr.1.length lcap, .int .i64 (rr.2 : Int)]) (by simp [results, Tryz.results74, go_sem]) rfl ?_
      exact HFIN.out
end Go.Proofs.YtbpgfhcecanikaaGreat
