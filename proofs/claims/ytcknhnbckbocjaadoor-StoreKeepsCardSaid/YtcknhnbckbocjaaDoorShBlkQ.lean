/- Contract of carrackref01.block: the reference's mixing in of a block. Condition: sizes, the constants and the words are there. -/
import Derived.BigQuiet
import Derived.Test.YtcknhnbckbocjaaDoorShConstQ
import Derived.Test.YtcknhnbckbocjaaDoorShLaidQ
namespace Go.Proofs.YtcknhnbckbocjaaDoor
open Go.RowKit
set_option linter.unusedVariables false
theorem add_flat0 (b off i : Nat) : (⟨b, off, none⟩ : Addr).add i = ⟨b, off + i, none⟩ := by unfold Addr.add; split <;> simp_all
/-- words at the head of a block -/
def WordsAt (w : World) (G : Nat) (l : List Nat) : Prop := G < w.heap.size ∧ ∀ i, i < l.length → w.cell? ⟨G, i, none⟩ = some (.int .u32 ((l.getD i 0 : Nat) : Int))
theorem WordsAt.below {w w' : World} {G : Nat} {l : List Nat} (h : WordsAt w G l) (hb : Below w.heap.size w w') : WordsAt w' G l :=
  ⟨Nat.lt_of_lt_of_le h.1 hb.size, fun i hi => (hb.cell (p := ⟨G, i, none⟩) h.1).trans (h.2 i hi)⟩
def zc32 (m : Nat) : Array Value := (wcl (List.replicate m 0)).toArray
theorem mk_u32 (w : World) (z : Int) (n : Nat) (hz : z = (n : Int)) (hn : n ≤ 100000) :
    (Instr.makeSlice 82 (.int .i64 z) (.int .i64 z)).run Tryd.prog w = .ok (.slice (some ⟨w.heap.size, 0, none⟩) n n) (w.alloc (.cells (zc32 n) 93)) := by
  obtain ⟨i0, hi, hz0, hz1, hz2⟩ := info_partsH infoU32H
  subst hz
  have := run_makeSlice (P := Tryd.prog) w 82 93 i0 (.int .u32 0) Tryd.underlying82 hi hz0 .i64 .i64 (n : Int) (n : Int) (by omega) (Int.le_refl _) (by rw [hz1]; simp; omega) (by rw [hz2]; omega) (by omega)
  rw [hz1] at this
  have e : madeCells (Value.int IntKind.u32 0).cells n = zc32 n := by
    apply Array.toList_inj.1
    rw [show (Value.int IntKind.u32 0).cells = #[Value.int IntKind.u32 0] from rfl, toList_madeCells_one]
    simp [zc32, wcl]
  simpa [e] using this
theorem zc32_w64 : zc32 64 = w64 [] := rfl
theorem words_src {w : World} {B : Nat} {hs : List Nat} (h : WordsAt w B hs) (h8 : hs.length = 8) (cb : Nat) : Src Tryd.prog 1 82 (.slice (some ⟨B, 0, none⟩) 8 cb) 8 (wcl hs) w := by
  refine Src.ofSlice _ Tryd.underlying82 ⟨B, 0, none⟩ 8 cb (wcl hs) (by simp [wcl, h8]) (fun j u hj => ?_) (fun u hu => by
    simp only [wcl, List.mem_map] at hu
    obtain ⟨x, _, rfl⟩ := hu
    rfl)
  have hj8 : j < hs.length := by
    have := (List.getElem?_eq_some_iff.1 hj).1
    simpa [wcl] using this
  rw [add_flat0, Nat.zero_add, h.2 j hj8, ← hj]
  have := wcl_at hs j hj8
  rw [List.getElem?_toArray] at this
  exact this.symm
theorem empty_row (w : World) : (w.alloc (.cells #[] 93)).ownsRow w.heap.size 93 1 (.slice (some ⟨w.heap.size, 0, none⟩) 0 0) 0 [] :=
  ⟨rfl, .inr ⟨w.heap.size, 0, #[], rfl, Nat.le_refl _, heap_alloc_new w _, Nat.le_refl _, by unfold maxLen; omega, rfl, rfl⟩⟩
theorem words_new (w : World) (l : List Nat) : WordsAt (w.alloc (.cells (wcl l).toArray 93)) w.heap.size l := by
  refine ⟨by simp, fun i hi => ?_⟩
  rw [Kq.blk_cell (Kq.blk_new w _ _ _) i, wcl_at l i hi]
structure SchR (w : World) (l : List Nat) (wr : World) : Prop where
  arr : wr.heap[w.heap.size]? = some (.cells (w64 l) 93 (0, 0))
  bel : Below w.heap.size w wr
theorem SchR.drewN {w : World} {l : List Nat} {wr : World} (h : SchR w l wr) (n : Nat) : SchR w l (wr.drewN n) :=
  ⟨h.arr, ⟨h.bel.os, h.bel.tape, h.bel.output, h.bel.size, h.bel.block⟩⟩
theorem SchR.set {w : World} {l : List Nat} {wr : World} (h : SchR w l wr) (x : Nat) (hl : l.length < 64) : SchR w (l ++ [x]) (wr.setCell ⟨w.heap.size, l.length, none⟩ (.int .u32 (x : Int))) := by
  refine ⟨?_, h.bel.setCell (Nat.le_refl _) _⟩
  rw [Kq.blk_set h.arr, w64_set l x hl]
theorem SchR.below {w : World} {l : List Nat} {wr w' : World} (h : SchR w l wr) (hb : Below wr.heap.size wr w') : SchR w l w' :=
  ⟨Kq.below_blk hb h.arr (Kq.blk_lt h.arr), h.bel.trans (hb.mono h.bel.size)⟩
theorem word_facts (y0 y1 y2 y3 : Nat) (h0 : y0 < 256) (h1 : y1 < 256) (h2 : y2 < 256) (h3 : y3 < 256) : ∃ a0 a1 a2 b1 b2 : Nat,
    IntKind.u32.wrap ((y0 : Int) * 16777216) = (a0 : Int) ∧ IntKind.u32.wrap ((y1 : Int) * 65536) = (a1 : Int) ∧ IntKind.u32.wrap ((y2 : Int) * 256) = (a2 : Int) ∧
    IntKind.u32.wrap ((a0 : Int) + (a1 : Int)) = (b1 : Int) ∧ IntKind.u32.wrap ((b1 : Int) + (a2 : Int)) = (b2 : Int) ∧ IntKind.u32.wrap ((b2 : Int) + (y3 : Int)) = (Sh.word y0 y1 y2 y3 : Int) ∧
    IntKind.u32.wrap (y0 : Int) = (y0 : Int) ∧ IntKind.u32.wrap (y1 : Int) = (y1 : Int) ∧ IntKind.u32.wrap (y2 : Int) = (y2 : Int) ∧ IntKind.u32.wrap (y3 : Int) = (y3 : Int) := by
  refine ⟨y0 * 16777216, y1 * 65536, y2 * 256, y0 * 16777216 + y1 * 65536, y0 * 16777216 + y1 * 65536 + y2 * 256, ?_, ?_, ?_, ?_, ?_, ?_, ?_, ?_, ?_, ?_⟩ <;> rw [IntKind.wrap_u32] <;> (try unfold Sh.word) <;> omega
theorem sum_at (hs : List Nat) (z : Sh.S8) (h : hs.length = 8) (i : Nat) (hi : i < 8) : (toL (Sh.add8 (ofL hs) z)).getD i 0 = (hs.getD i 0 + (toL z).getD i 0) % 4294967296 := by
  rcases i with _ | _ | _ | _ | _ | _ | _ | _ | i
  · rfl
  · rfl
  · rfl
  · rfl
  · rfl
  · rfl
  · rfl
  · rfl
  · omega
def BlkPost (w : World) (hs b : List Nat) (e : Ending) (w' : World) : Prop := ∃ G c, e = .returned (.slice (some ⟨G, 0, none⟩) 8 c) ∧ WordsAt w' G (toL (Sh.mix (ofL hs) b)) ∧ Below w.heap.size w w'
structure BlkI (w : World) (W : List Nat) (G : Nat) (ws : List Nat) (wr : World) : Prop where
  s : SchR w W wr
  x : WordsAt wr G ws
theorem BlkI.drewN {w : World} {W : List Nat} {G : Nat} {ws : List Nat} {wr : World} (h : BlkI w W G ws wr) (n : Nat) : BlkI w W G ws (wr.drewN n) := ⟨h.s.drewN n, h.x⟩
set_option maxRecDepth 100000 in
set_option maxHeartbeats 16000000 in
theorem r_block (s : ByteArray) (A ca B cb : Nat) (hs : List Nat) (w : World) (h64 : s.size = 64) (hA : WordsAt w A Sh.K) (hB : WordsAt w B hs) (h8 : hs.length = 8) (hlt : ∀ x ∈ hs, x < 4294967296) :
    Calls Tryd.prog 86 #[.string s, .slice (some ⟨A, 0, none⟩) 64 ca, .slice (some ⟨B, 0, none⟩) 8 cb] w (BlkPost w hs (nl s)) := by
  obtain ⟨i0, hi, hz0, hz1, hz2⟩ := info_partsH infoU32H
  have HAB := Lib.hid (And.intro hA (And.intro hB (And.intro h8 hlt)))
  have HNB : Hid ((nl s).length = 64 ∧ ∀ b ∈ nl s, b < 256) := Lib.hid ⟨by simp [nl]; exact h64, fun b hb => nl_lt s b hb⟩
  have HZ := Lib.hid h64
  clear hA hB h8 hlt h64
  have hmk := fun w => mk_u32 w 64 64 rfl (by omega)
  go_enter Tryd.func86, Tryd.ntmps86
  go_wp2
  have HS0 : Hid (SchR w [] (w.alloc (.cells (zc32 64) 93))) := Lib.hid ⟨by rw [zc32_w64]; exact Kq.blk_new w _ _ _, Kq.below_alloc w _⟩
  generalize w.alloc _ = w1 at *
  clear hmk
  go_loopw [8] (fun i wr => ∃ k : Nat, k ≤ 16 ∧ i = .int .i64 (k : Int) ∧ SchR w (Sh.words ((nl s).take (4 * k))) wr) (fun i _ => 16 - (intOf i).toNat)
  case atStart => exact ⟨0, by omega, rfl, HS0.out⟩
  case round =>
    obtain ⟨k, hk, rfl, hS⟩ := hrel
    have HS := Lib.hid hS
    clear hS
    by_cases hlt : k < 16
    · have HW := Lib.hid (words_take (nl s) k (by rw [HNB.out.1]; omega))
      have HWL := Lib.hid (words_take_length (nl s) k (by rw [HNB.out.1]; omega))
      obtain ⟨l, hl⟩ : ∃ l, l = Sh.words ((nl s).take (4 * k)) := ⟨_, rfl⟩
      rw [← hl] at HW HWL HS
      clear hl
      obtain ⟨q0, hq0⟩ : ∃ q, q = 4 * k := ⟨_, rfl⟩
      obtain ⟨q1, hq1⟩ : ∃ q, q = 4 * k + 1 := ⟨_, rfl⟩
      obtain ⟨q2, hq2⟩ : ∃ q, q = 4 * k + 2 := ⟨_, rfl⟩
      obtain ⟨q3, hq3⟩ : ∃ q, q = 4 * k + 3 := ⟨_, rfl⟩
      rw [← hq1, ← hq2, ← hq3, ← hq0] at HW
      have p0 : q0 < s.size := by rw [HZ.out]; omega
      have p1 : q1 < s.size := by rw [HZ.out]; omega
      have p2 : q2 < s.size := by rw [HZ.out]; omega
      have p3 : q3 < s.size := by rw [HZ.out]; omega
      have hgd : ∀ q (h : q < s.size), (nl s).getD q 0 = s[q].toNat := fun q h => by
        have := nl_at s q h
        rw [List.getD_eq_getElem?_getD]
        have h2 : (nl s)[q]? = some s[q].toNat := by simp [nl, h, ByteArray.getElem_eq_getElem_data]
        rw [h2]; rfl
      rw [hgd q0 p0, hgd q1 p1, hgd q2 p2, hgd q3 p3] at HW
      obtain ⟨a0, a1, a2, b1, b2, f1, f2, f3, f4, f5, f6, f7, f8, f9, f10⟩ := word_facts s[q0].toNat s[q1].toNat s[q2].toNat s[q3].toNat s[q0].toNat_lt s[q1].toNat_lt s[q2].toNat_lt s[q3].toNat_lt
      obtain ⟨x, hx⟩ : ∃ x, x = Sh.word s[q0].toNat s[q1].toNat s[q2].toNat s[q3].toNat := ⟨_, rfl⟩
      rw [← hx] at f6 HW
      clear hx hgd
      have e0 : 4 * (k : Int) = (q0 : Int) := by omega
      have e1 : (q0 : Int) + 1 = (q1 : Int) := by omega
      have e2 : (q0 : Int) + 2 = (q2 : Int) := by omega
      have e3 : (q0 : Int) + 3 = (q3 : Int) := by omega
      have g0 : IntKind.i64.wrap (q0 : Int) = (q0 : Int) := IntWalk.i64_in _ (by omega)
      have g1 : IntKind.i64.wrap (q1 : Int) = (q1 : Int) := IntWalk.i64_in _ (by omega)
      have g2 : IntKind.i64.wrap (q2 : Int) = (q2 : Int) := IntWalk.i64_in _ (by omega)
      have g3 : IntKind.i64.wrap (q3 : Int) = (q3 : Int) := IntWalk.i64_in _ (by omega)
      have m0 : (q0 : Int) < (s.size : Int) := by have := HZ.out; omega
      have m1 : (q1 : Int) < (s.size : Int) := by have := HZ.out; omega
      have m2 : (q2 : Int) < (s.size : Int) := by have := HZ.out; omega
      have m3 : (q3 : Int) < (s.size : Int) := by have := HZ.out; omega
      have l1 : (k : Int) < 16 := by omega
      have l2 : (k : Int) < 64 := by omega
      obtain ⟨v9, hcell⟩ : ∃ v, wr.cell? ⟨w.heap.size, k, none⟩ = some v := by
        obtain ⟨v, hv⟩ := w64_some l k (by omega) (by rw [HWL.out]; omega)
        exact ⟨v, (Kq.blk_cell HS.out.arr k).trans hv⟩
      have hfz : wr.frozen? ⟨w.heap.size, k, none⟩ = false := Kq.blk_free HS.out.arr k
      have HQ := Lib.hid (And.intro hq0 (And.intro hq1 (And.intro hq2 hq3)))
      clear hq0 hq1 hq2 hq3
      go_wp2
      refine wp_region_any (by kernel_rfl) ?_
      (try (change wpAny _ _ _ _ _ _ _ (World.drew _)))
      refine wpAny_take (i := 0) (v := ?_) rfl (by kernel_rfl) (by kernel_rfl) (by kernel_rfl) (fun _ _ _ h => h) (Or.inl ⟨by kernel_rfl, ?_⟩) ?_
      rotate_left
      · intro w; go_simp; with_reducible rfl
      refine wpAny_take (i := 1) (v := ?_) rfl (by kernel_rfl) (by kernel_rfl) (by kernel_rfl) (fun _ _ _ h => h) (Or.inl ⟨by kernel_rfl, ?_⟩) ?_
      rotate_left
      · intro w; go_simp; with_reducible rfl
      refine wpAny_take (i := 2) (v := ?_) rfl (by kernel_rfl) (by kernel_rfl) (by kernel_rfl) (fun _ _ _ h => h) (Or.inl ⟨by kernel_rfl, ?_⟩) ?_
      rotate_left
      · intro w; go_simp; with_reducible rfl
      refine wpAny_take (i := 3) (v := ?_) rfl (by kernel_rfl) (by kernel_rfl) (by kernel_rfl) (fun _ _ _ h => h) (Or.inl ⟨by kernel_rfl, ?_⟩) ?_
      rotate_left
      · intro w; go_simp; with_reducible rfl
      refine wpAny_take (i := 4) (v := ?_) rfl (by kernel_rfl) (by kernel_rfl) (by kernel_rfl) (fun _ _ _ h => h) (Or.inl ⟨by kernel_rfl, ?_⟩) ?_
      rotate_left
      · intro w; go_simp; with_reducible rfl
      refine wpAny_take (i := 5) (v := ?_) rfl (by kernel_rfl) (by kernel_rfl) (by kernel_rfl) (fun _ _ _ h => h) (Or.inl ⟨by kernel_rfl, ?_⟩) ?_
      rotate_left
      · intro w; go_simp; with_reducible rfl
      refine wpAny_take (i := 6) (v := ?_) rfl (by kernel_rfl) (by kernel_rfl) (by kernel_rfl) (fun _ _ _ h => h) (Or.inl ⟨by kernel_rfl, ?_⟩) ?_
      rotate_left
      · intro w; go_simp; with_reducible rfl
      refine wpAny_take (i := 7) (v := ?_) rfl (by kernel_rfl) (by kernel_rfl) (by kernel_rfl) (fun _ _ _ h => h) (Or.inl ⟨by kernel_rfl, ?_⟩) ?_
      rotate_left
      · intro w; go_simp; with_reducible rfl
      refine wpAny_take (i := 8) (v := ?_) rfl (by kernel_rfl) (by kernel_rfl) (by kernel_rfl) (fun _ _ _ h => h) (Or.inl ⟨by kernel_rfl, ?_⟩) ?_
      rotate_left
      · intro w; go_simp; with_reducible rfl
      refine wpAny_take (i := 9) (v := ?_) rfl (by kernel_rfl) (by kernel_rfl) (by kernel_rfl) (fun _ _ _ h => h) (Or.inl ⟨by kernel_rfl, ?_⟩) ?_
      rotate_left
      · intro w; go_simp; with_reducible rfl
      refine wpAny_take (i := 10) (v := ?_) rfl (by kernel_rfl) (by kernel_rfl) (by kernel_rfl) (fun _ _ _ h => h) (Or.inl ⟨by kernel_rfl, ?_⟩) ?_
      rotate_left
      · intro w; go_simp; with_reducible rfl
      refine wpAny_take (i := 11) (v := ?_) rfl (by kernel_rfl) (by kernel_rfl) (by kernel_rfl) (fun _ _ _ h => h) (Or.inl ⟨by kernel_rfl, ?_⟩) ?_
      rotate_left
      · intro w; go_simp; with_reducible rfl
      refine wpAny_take (i := 12) (v := ?_) rfl (by kernel_rfl) (by kernel_rfl) (by kernel_rfl) (fun _ _ _ h => h) (Or.inl ⟨by kernel_rfl, ?_⟩) ?_
      rotate_left
      · intro w; go_simp; with_reducible rfl
      refine wpAny_take (i := 13) (v := ?_) rfl (by kernel_rfl) (by kernel_rfl) (by kernel_rfl) (fun _ _ _ h => h) (Or.inl ⟨by kernel_rfl, ?_⟩) ?_
      rotate_left
      · intro w; go_simp; with_reducible rfl
      refine wpAny_take (i := 14) (v := ?_) rfl (by kernel_rfl) (by kernel_rfl) (by kernel_rfl) (fun _ _ _ h => h) (Or.inl ⟨by kernel_rfl, ?_⟩) ?_
      rotate_left
      · intro w; go_simp; with_reducible rfl
      refine wpAny_take (i := 15) (v := ?_) rfl (by kernel_rfl) (by kernel_rfl) (by kernel_rfl) (fun _ _ _ h => h) (Or.inl ⟨by kernel_rfl, ?_⟩) ?_
      rotate_left
      · intro w; go_simp; with_reducible rfl
      refine wpAny_take (i := 16) (v := ?_) rfl (by kernel_rfl) (by kernel_rfl) (by kernel_rfl) (fun _ _ _ h => h) (Or.inl ⟨by kernel_rfl, ?_⟩) ?_
      rotate_left
      · intro w; go_simp; with_reducible rfl
      refine wpAny_take (i := 17) (v := ?_) rfl (by kernel_rfl) (by kernel_rfl) (by kernel_rfl) (fun _ _ _ h => h) (Or.inl ⟨by kernel_rfl, ?_⟩) ?_
      rotate_left
      · intro w; go_simp; with_reducible rfl
      refine wpAny_take (i := 18) (v := ?_) rfl (by kernel_rfl) (by kernel_rfl) (by kernel_rfl) (fun _ _ _ h => h) (Or.inl ⟨by kernel_rfl, ?_⟩) ?_
      rotate_left
      · intro w; go_simp; with_reducible rfl
      refine wpAny_take (i := 19) (v := ?_) rfl (by kernel_rfl) (by kernel_rfl) (by kernel_rfl) (fun _ _ _ h => h) (Or.inl ⟨by kernel_rfl, ?_⟩) ?_
      rotate_left
      · intro w; go_simp; with_reducible rfl
      refine wpAny_take (i := 20) (v := ?_) rfl (by kernel_rfl) (by kernel_rfl) (by kernel_rfl) (fun _ _ _ h => h) (Or.inl ⟨by kernel_rfl, ?_⟩) ?_
      rotate_left
      · intro w; go_simp; with_reducible rfl
      refine wpAny_take (i := 21) (v := ?_) rfl (by kernel_rfl) (by kernel_rfl) (by kernel_rfl) (fun _ _ _ h => h) (Or.inl ⟨by kernel_rfl, ?_⟩) ?_
      rotate_left
      · intro w; go_simp; with_reducible rfl
      refine wpAny_take (i := 22) (v := ?_) rfl (by kernel_rfl) (by kernel_rfl) (by kernel_rfl) (fun _ _ _ h => h) (Or.inl ⟨by kernel_rfl, ?_⟩) ?_
      rotate_left
      · intro w; go_simp; with_reducible rfl
      refine wpAny_take (i := 23) (v := ?_) rfl (by kernel_rfl) (by kernel_rfl) (by kernel_rfl) (fun _ _ _ h => h) (Or.inl ⟨by kernel_rfl, ?_⟩) ?_
      rotate_left
      · intro w; go_simp; with_reducible rfl
      refine wpAny_take (i := 24) (v := ?_) rfl (by kernel_rfl) (by kernel_rfl) (by kernel_rfl) (fun _ _ _ h => h) (Or.inl ⟨by kernel_rfl, ?_⟩) ?_
      rotate_left
      · intro w; go_simp; with_reducible rfl
      refine wpAny_take (i := 25) (v := ?_) rfl (by kernel_rfl) (by kernel_rfl) (by kernel_rfl) (fun _ _ _ h => h) (Or.inl ⟨by kernel_rfl, ?_⟩) ?_
      rotate_left
      · intro w; go_simp; with_reducible rfl
      refine wpAny_take (i := 26) (v := ?_) rfl (by kernel_rfl) (by kernel_rfl) (by kernel_rfl) (fun _ _ _ h => h) (Or.inl ⟨by kernel_rfl, ?_⟩) ?_
      rotate_left
      · intro w; go_simp; with_reducible rfl
      refine wpAny_take (i := 27) (v := ?_) rfl (by kernel_rfl) (by kernel_rfl) (by kernel_rfl) (fun _ _ _ h => h) (Or.inl ⟨by kernel_rfl, ?_⟩) ?_
      rotate_left
      · intro w; go_simp; with_reducible rfl
      refine wpAny_take (i := 28) (v := ?_) rfl (by kernel_rfl) (by kernel_rfl) (by kernel_rfl) (fun _ _ _ h => h) (Or.inl ⟨by kernel_rfl, ?_⟩) ?_
      rotate_left
      · intro w; go_simp; with_reducible rfl
      refine wpAny_take (i := 29) (v := ?_) rfl (by kernel_rfl) (by kernel_rfl) (by kernel_rfl) (fun _ _ _ h => h) (Or.inl ⟨by kernel_rfl, ?_⟩) ?_
      rotate_left
      · intro w; go_simp; with_reducible rfl
      refine wpAny_take (i := 30) (v := ?_) rfl (by kernel_rfl) (by kernel_rfl) (by kernel_rfl) (fun _ _ _ h => h) (Or.inl ⟨by kernel_rfl, ?_⟩) ?_
      rotate_left
      · intro w; go_simp; with_reducible rfl
      refine wpAny_take (i := 31) (v := ?_) rfl (by kernel_rfl) (by kernel_rfl) (by kernel_rfl) (fun _ _ _ h => h) (Or.inl ⟨by kernel_rfl, ?_⟩) ?_
      rotate_left
      · intro w; go_simp; with_reducible rfl
      refine wpAny_ready (rs := [32]) (by kernel_rfl) (by simp) ?_
      refine AllReady.cons rfl (fun K hK => ?_) AllReady.nil
      go_simp
      refine hK _ _ ?_
      clear hK K
      refine wpAny_done (by kernel_rfl) ?_ _
      have HN : Hid (SchR w (Sh.words ((nl s).take (4 * (k + 1)))) (wr.setCell ⟨w.heap.size, k, none⟩ (.int .u32 (x : Int))).drew) := Lib.hid (by
        have := HS.out.set x (by rw [HWL.out]; omega)
        rw [HWL.out, ← HW.out] at this
        exact this.drewN 1)
      clear hcell hfz f1 f2 f3 f4 f5 f6 f7 f8 f9 f10 e0 e1 e2 e3 g0 g1 g2 g3
      go_wp2
      go_roundw
      case rel => exact ⟨k + 1, by omega, by go_num, HN.out⟩
      case measure => simp [intOf]; omega
    · have hk16 : k = 16 := by omega
      rw [hk16, words_full (nl s) HNB.out.1] at HS
      clear hk16
      go_wp2
      clear hk hlt
      have HWL := Lib.hid (Sh.words_length 16 (nl s) (by rw [HNB.out.1]))
      go_loopw [9] (fun i wr => ∃ j : Nat, j ≤ 48 ∧ i = .int .i64 ((16 + j : Nat) : Int) ∧ SchR w (Sh.iter Sh.more j (Sh.words (nl s))) wr) (fun i _ => 64 - (intOf i).toNat)
      case atStart => exact ⟨0, by omega, rfl, HS.out⟩
      case round =>
        obtain ⟨j, hj, rfl, hS⟩ := hrel
        have HS := Lib.hid hS
        clear hS
        by_cases hlt : j < 48
        · have HLN := Lib.hid (Sh.iter_length j (Sh.words (nl s)))
          have HLT : Hid (∀ i, (Sh.iter Sh.more j (Sh.words (nl s))).getD i 0 < 4294967296) := Lib.hid (iter_lt j (nl s) HNB.out.2)
          have HIT := Lib.hid (Sh.iter_succ j (Sh.words (nl s)))
          rw [HWL.out] at HLN
          obtain ⟨l, hl⟩ : ∃ l, l = Sh.iter Sh.more j (Sh.words (nl s)) := ⟨_, rfl⟩
          rw [← hl] at HLN HLT HIT HS
          clear hl
          obtain ⟨k, hk⟩ : ∃ k, k = 16 + j := ⟨_, rfl⟩
          rw [← hk] at HLN ⊢
          obtain ⟨p15, e15⟩ : ∃ p : Nat, p + 15 = k := ⟨k - 15, by omega⟩
          obtain ⟨p2, e2⟩ : ∃ p : Nat, p + 2 = k := ⟨k - 2, by omega⟩
          obtain ⟨p7, e7⟩ : ∃ p : Nat, p + 7 = k := ⟨k - 7, by omega⟩
          obtain ⟨p16, e16⟩ : ∃ p : Nat, p + 16 = k := ⟨k - 16, by omega⟩
          have hkl : (k : Int) < 64 := by omega
          have hcl : ∀ p, p < k → wr.cell? ⟨w.heap.size, p, none⟩ = some (Value.int .u32 ((l.getD p 0 : Nat) : Int)) := fun p hp => (Kq.blk_cell HS.out.arr p).trans (w64_at l p (by rw [HLN.out]; exact hp))
          have c15 := hcl p15 (by omega)
          have c2 := hcl p2 (by omega)
          have c7 := Lib.hid (hcl p7 (by omega))
          have c16 := Lib.hid (hcl p16 (by omega))
          have y15 := HLT.out p15
          have y2 := HLT.out p2
          have y7 := HLT.out p7
          have y16 := HLT.out p16
          have HMO : Hid (Sh.more l = l ++ [(Sh.sg1 (l.getD p2 0) + l.getD p7 0 + Sh.sg0 (l.getD p15 0) + l.getD p16 0) % 4294967296]) := Lib.hid (by
            unfold Sh.more
            simp only [HLN.out]
            subst e2
            rw [show p2 + 2 - 2 = p2 by omega, show p2 + 2 - 7 = p7 by omega, show p2 + 2 - 15 = p15 by omega, show p2 + 2 - 16 = p16 by omega]
            rfl)
          generalize l.getD p15 0 = x15 at *
          generalize l.getD p2 0 = x2 at *
          generalize l.getD p7 0 = x7 at *
          generalize l.getD p16 0 = x16 at *
          have f15 : (k : Int) - 15 = (p15 : Int) := by omega
          have f2 : (k : Int) - 2 = (p2 : Int) := by omega
          have f7 : (k : Int) - 7 = (p7 : Int) := by omega
          have f16 : (k : Int) - 16 = (p16 : Int) := by omega
          have b15 : (p15 : Int) < 64 := by omega
          have b2 : (p2 : Int) < 64 := by omega
          have b7 : (p7 : Int) < 64 := by omega
          have b16 : (p16 : Int) < 64 := by omega
          have h15 : IntKind.i64.wrap (p15 : Int) = (p15 : Int) := IntWalk.i64_in _ (by omega)
          have h2 : IntKind.i64.wrap (p2 : Int) = (p2 : Int) := IntWalk.i64_in _ (by omega)
          have h7 : IntKind.i64.wrap (p7 : Int) = (p7 : Int) := IntWalk.i64_in _ (by omega)
          have h16 : IntKind.i64.wrap (p16 : Int) = (p16 : Int) := IntWalk.i64_in _ (by omega)
          have g15 : IntKind.i64.wrap ((k : Int) - 15) = (p15 : Int) := by rw [f15, h15]
          have g2 : IntKind.i64.wrap ((k : Int) - 2) = (p2 : Int) := by rw [f2, h2]
          have g7 : IntKind.i64.wrap ((k : Int) - 7) = (p7 : Int) := by rw [f7, h7]
          have g16 : IntKind.i64.wrap ((k : Int) - 16) = (p16 : Int) := by rw [f16, h16]
          clear hcl
          have HKJ := Lib.hid hk
          have HE := Lib.hid (And.intro e15 (And.intro e2 (And.intro e7 e16)))
          clear hk e15 e2 e7 e16
          have Q7 : Hid (∀ n, Calls Tryd.prog 92 #[.int .u32 (x15 : Int), .int .i64 7] (wr.drewN n) fun e w'' => e = .returned (.int .u32 (Sh.rot x15 7 : Int)) ∧ ∃ m, w'' = wr.drewN m) := Lib.hid (fun n => Calls.quiet_of (sh_right x15 7 (wr.drewN n) y15 (by decide) (by decide)))
          have Q18 : Hid (∀ n, Calls Tryd.prog 92 #[.int .u32 (x15 : Int), .int .i64 18] (wr.drewN n) fun e w'' => e = .returned (.int .u32 (Sh.rot x15 18 : Int)) ∧ ∃ m, w'' = wr.drewN m) := Lib.hid (fun n => Calls.quiet_of (sh_right x15 18 (wr.drewN n) y15 (by decide) (by decide)))
          have Q17 : Hid (∀ (w' : World) n, Calls Tryd.prog 92 #[.int .u32 (x2 : Int), .int .i64 17] (w'.drewN n) fun e w'' => e = .returned (.int .u32 (Sh.rot x2 17 : Int)) ∧ ∃ m, w'' = w'.drewN m) := Lib.hid (fun w' n => Calls.quiet_of (sh_right x2 17 (w'.drewN n) y2 (by decide) (by decide)))
          have Q19 : Hid (∀ (w' : World) n, Calls Tryd.prog 92 #[.int .u32 (x2 : Int), .int .i64 19] (w'.drewN n) fun e w'' => e = .returned (.int .u32 (Sh.rot x2 19 : Int)) ∧ ∃ m, w'' = w'.drewN m) := Lib.hid (fun w' n => Calls.quiet_of (sh_right x2 19 (w'.drewN n) y2 (by decide) (by decide)))
          obtain ⟨z0, hz0', hs0⟩ := sg0_bits x15 y15
          obtain ⟨z1, hz1', hs1⟩ := sg1_bits x2 y2
          obtain ⟨s1, hs'⟩ : ∃ s1 : Nat, s1 = Sh.sg1 x2 := ⟨_, rfl⟩
          rw [← hs'] at hs1 HMO
          obtain ⟨s0, hs''⟩ : ∃ s0 : Nat, s0 = Sh.sg0 x15 := ⟨_, rfl⟩
          rw [← hs''] at hs0 HMO
          clear hs' hs'' y15 y2
          generalize Sh.rot x15 7 = r7 at *
          generalize Sh.rot x15 18 = r18 at *
          generalize Sh.rot x2 17 = r17 at *
          generalize Sh.rot x2 19 = r19 at *
          go_wp2
          go_quiet ((go_at_call 92; first | (with_reducible exact Q7.out _) | (with_reducible exact Q18.out _)))
          clear Q7 Q18 c15
          generalize hwq : wr.drewN _ = wq
          have HQ : Hid (SchR w l wq) := Lib.hid (by rw [← hwq]; exact HS.out.drewN _)
          have c2 : wq.cell? ⟨w.heap.size, p2, none⟩ = some (Value.int .u32 (x2 : Int)) := by rw [← hwq]; exact c2
          have c7 : Hid (wq.cell? ⟨w.heap.size, p7, none⟩ = some (Value.int .u32 (x7 : Int))) := Lib.hid (by rw [← hwq]; exact c7.out)
          have c16 : Hid (wq.cell? ⟨w.heap.size, p16, none⟩ = some (Value.int .u32 (x16 : Int))) := Lib.hid (by rw [← hwq]; exact c16.out)
          clear hwq hz0' hs0
          go_wp2
          go_quiet ((go_at_call 92; first | (with_reducible exact Q17.out _ _) | (with_reducible exact Q19.out _ _)))
          clear Q17 Q19 c2 hz1' hs1
          generalize hwp : wq.drewN _ = wp
          have HP : Hid (SchR w l wp) := Lib.hid (by rw [← hwp]; exact HQ.out.drewN _)
          have c7 : wp.cell? ⟨w.heap.size, p7, none⟩ = some (Value.int .u32 (x7 : Int)) := by rw [← hwp]; exact c7.out
          have c16 : wp.cell? ⟨w.heap.size, p16, none⟩ = some (Value.int .u32 (x16 : Int)) := by rw [← hwp]; exact c16.out
          clear hwp HQ
          obtain ⟨q1, q2, q3, hq1, hq2, hq3, hq⟩ := sum4 s1 x7 s0 x16
          rw [← hq] at HMO
          clear hq
          obtain ⟨v9, hcell⟩ : ∃ v, wp.cell? ⟨w.heap.size, k, none⟩ = some v := by
            obtain ⟨v, hv⟩ := w64_some l k (by omega) (by rw [HLN.out]; omega)
            exact ⟨v, (Kq.blk_cell HP.out.arr k).trans hv⟩
          have hcell := Lib.hid hcell
          have hfz : Hid (wp.frozen? ⟨w.heap.size, k, none⟩ = false) := Lib.hid (Kq.blk_free HP.out.arr k)
          go_wp2
          refine wp_region_held_drew (S := fun w' => w'.cell? ⟨w.heap.size, p7, none⟩ = some (Value.int .u32 (x7 : Int)) ∧ w'.cell? ⟨w.heap.size, p16, none⟩ = some (Value.int .u32 (x16 : Int))) (by kernel_rfl) ⟨c7, c16⟩ (fun hS0 => ?_)
          clear c7 c16
          refine wpAnyH_take (i := 0) (v := ?_) rfl (by kernel_rfl) (by kernel_rfl) (by kernel_rfl) (fun _ _ _ h => h) (Or.inl ⟨by kernel_rfl, ?_⟩) (by assumption) ?_
          rotate_left
          · intro w hSw; (try dsimp only at hSw); go_simp; (try with_reducible rfl)
          refine wpAnyH_take (i := 1) (v := ?_) rfl (by kernel_rfl) (by kernel_rfl) (by kernel_rfl) (fun _ _ _ h => h) (Or.inl ⟨by kernel_rfl, ?_⟩) (by assumption) ?_
          rotate_left
          · intro w hSw; (try dsimp only at hSw); go_simp; (try with_reducible rfl)
          refine wpAnyH_take (i := 2) (v := ?_) rfl (by kernel_rfl) (by kernel_rfl) (by kernel_rfl) (fun _ _ _ h => h) (Or.inl ⟨by kernel_rfl, ?_⟩) (by assumption) ?_
          rotate_left
          · intro w hSw; (try dsimp only at hSw); go_simp; (try with_reducible rfl)
          refine wpAnyH_take (i := 3) (v := ?_) rfl (by kernel_rfl) (by kernel_rfl) (by kernel_rfl) (fun _ _ _ h => h) (Or.inl ⟨by kernel_rfl, ?_⟩) (by assumption) ?_
          rotate_left
          · intro w hSw; (try dsimp only at hSw); go_simp; (try with_reducible rfl)
          refine wpAnyH_take (i := 4) (v := ?_) rfl (by kernel_rfl) (by kernel_rfl) (by kernel_rfl) (fun _ _ _ h => h) (Or.inl ⟨by kernel_rfl, ?_⟩) (by assumption) ?_
          rotate_left
          · intro w hSw; (try dsimp only at hSw); go_simp; (try with_reducible rfl)
          refine wpAnyH_take (i := 5) (v := ?_) rfl (by kernel_rfl) (by kernel_rfl) (by kernel_rfl) (fun _ _ _ h => h) (Or.inl ⟨by kernel_rfl, ?_⟩) (by assumption) ?_
          rotate_left
          · intro w hSw; (try dsimp only at hSw); go_simp; (try with_reducible rfl)
          refine wpAnyH_take (i := 6) (v := ?_) rfl (by kernel_rfl) (by kernel_rfl) (by kernel_rfl) (fun _ _ _ h => h) (Or.inl ⟨by kernel_rfl, ?_⟩) (by assumption) ?_
          rotate_left
          · intro w hSw; (try dsimp only at hSw); go_simp; (try with_reducible rfl)
          refine wpAnyH_take (i := 7) (v := ?_) rfl (by kernel_rfl) (by kernel_rfl) (by kernel_rfl) (fun _ _ _ h => h) (Or.inl ⟨by kernel_rfl, ?_⟩) (by assumption) ?_
          rotate_left
          · intro w hSw; (try dsimp only at hSw); go_simp; (try with_reducible rfl)
          refine wpAnyH_take (i := 8) (v := ?_) rfl (by kernel_rfl) (by kernel_rfl) (by kernel_rfl) (fun _ _ _ h => h) (Or.inl ⟨by kernel_rfl, ?_⟩) (by assumption) ?_
          rotate_left
          · intro w hSw; (try dsimp only at hSw); go_simp; (try with_reducible rfl)
          refine wpAnyH_take (i := 9) (v := ?_) rfl (by kernel_rfl) (by kernel_rfl) (by kernel_rfl) (fun _ _ _ h => h) (Or.inl ⟨by kernel_rfl, ?_⟩) (by assumption) ?_
          rotate_left
          · intro w hSw; (try dsimp only at hSw); go_simp; (try with_reducible rfl)
          refine wpAnyH_take (i := 10) (v := ?_) rfl (by kernel_rfl) (by kernel_rfl) (by kernel_rfl) (fun _ _ _ h => h) (Or.inl ⟨by kernel_rfl, ?_⟩) (by assumption) ?_
          rotate_left
          · intro w hSw; (try dsimp only at hSw); go_simp; (try with_reducible rfl)
          refine wpAnyH_take (i := 11) (v := ?_) rfl (by kernel_rfl) (by kernel_rfl) (by kernel_rfl) (fun _ _ _ h => h) (Or.inl ⟨by kernel_rfl, ?_⟩) (by assumption) ?_
          rotate_left
          · intro w hSw; (try dsimp only at hSw); go_simp; (try with_reducible rfl)
          refine wpAnyH_take (i := 12) (v := ?_) rfl (by kernel_rfl) (by kernel_rfl) (by kernel_rfl) (fun _ _ _ h => h) (Or.inl ⟨by kernel_rfl, ?_⟩) (by assumption) ?_
          rotate_left
          · intro w hSw; (try dsimp only at hSw); go_simp; (try with_reducible rfl)
          refine wpAnyH_take (i := 13) (v := ?_) rfl (by kernel_rfl) (by kernel_rfl) (by kernel_rfl) (fun _ _ _ h => h) (Or.inl ⟨by kernel_rfl, ?_⟩) (by assumption) ?_
          rotate_left
          · intro w hSw; (try dsimp only at hSw); go_simp; (try with_reducible rfl)
          refine wpAnyH_take (i := 14) (v := ?_) rfl (by kernel_rfl) (by kernel_rfl) (by kernel_rfl) (fun _ _ _ h => h) (Or.inl ⟨by kernel_rfl, ?_⟩) (by assumption) ?_
          rotate_left
          · intro w hSw; (try dsimp only at hSw); go_simp; (try with_reducible rfl)
          refine wpAnyH_take (i := 15) (v := ?_) rfl (by kernel_rfl) (by kernel_rfl) (by kernel_rfl) (fun _ _ _ h => h) (Or.inl ⟨by kernel_rfl, ?_⟩) (by assumption) ?_
          rotate_left
          · intro w hSw; (try dsimp only at hSw); go_simp; (try with_reducible rfl)
          refine wpAnyH_take (i := 16) (v := ?_) rfl (by kernel_rfl) (by kernel_rfl) (by kernel_rfl) (fun _ _ _ h => h) (Or.inl ⟨by kernel_rfl, ?_⟩) (by assumption) ?_
          rotate_left
          · intro w hSw; (try dsimp only at hSw); go_simp; (try with_reducible rfl)
          refine wpAnyH_take (i := 17) (v := ?_) rfl (by kernel_rfl) (by kernel_rfl) (by kernel_rfl) (fun _ _ _ h => h) (Or.inl ⟨by kernel_rfl, ?_⟩) (by assumption) ?_
          rotate_left
          · intro w hSw; (try dsimp only at hSw); go_simp; (try with_reducible rfl)
          have hcell := hcell.out
          have hfz := hfz.out
          refine wpAnyH_ready (rs := [18]) (by kernel_rfl) (by simp) ?_
          refine AllReadyH.cons rfl (fun K hK => ?_) AllReadyH.nil
          go_simp
          refine hK.out _ _ ?_ (fun hS1 => ?_)
          · have hk7 : p7 ≠ k := by have := HE.out.2.2.1; omega
            have hk16 : p16 ≠ k := by have := HE.out.2.2.2; omega
            rw [cell_same wp hk7, cell_same wp hk16]
            exact hS0
          clear hK K hS0 hS1
          refine wpAnyH_done (by kernel_rfl) ?_ _
          have HN : Hid (SchR w (Sh.more l) (wp.setCell ⟨w.heap.size, k, none⟩ (.int .u32 (q3 : Int))).drew) := Lib.hid (by
            have := HP.out.set q3 (by rw [HLN.out]; omega)
            rw [HLN.out, ← HMO.out] at this
            exact this.drewN 1)
          clear hcell hfz hq1 hq2 hq3 f15 f2 f7 f16 g15 g2 g7 g16 b15 b2 b7 b16 h15 h2 h7 h16
          go_wp2
          go_roundw
          case rel => exact ⟨j + 1, by omega, by rw [HKJ.out]; go_num, by rw [HIT.out]; exact HN.out⟩
          case measure => simp [intOf]; omega
        · obtain rfl : j = 48 := by omega
          have HF : Hid (Sh.iter Sh.more 48 (Sh.words (nl s)) = Sh.sched (nl s)) := Lib.hid rfl
          rw [HF.out] at HS
          clear hj hlt
          have dj : ¬ (((16 + 48 : Nat) : Int) < 64) := by omega
          have HWN : Hid ((Sh.sched (nl s)).length = 64) := Lib.hid (Sh.sched_length (nl s) HNB.out.1)
          have HWB : Hid (∀ i, (Sh.sched (nl s)).getD i 0 < 4294967296) := Lib.hid (fun i => getD_lt _ (iter_mem_lt 48 _ (words_lt (nl s) HNB.out.2)) i)
          have HMX : Hid (Sh.mix (ofL hs) (nl s) = Sh.add8 (ofL hs) (Sh.rounds (ofL hs) Sh.K (Sh.sched (nl s)))) := Lib.hid rfl
          obtain ⟨W, hW⟩ : ∃ W, W = Sh.sched (nl s) := ⟨_, rfl⟩
          rw [← hW] at HS HWN HWB HMX
          clear hW
          have HB0 := Lib.hid (show WordsAt wr B hs from HAB.out.2.1.below HS.out.bel)
          have HSRC : Hid (Src Tryd.prog 1 82 (.slice (some ⟨B, 0, none⟩) 8 cb) 8 (wcl hs) (wr.alloc (.cells #[] 93))) := Lib.hid (words_src (HB0.out.below (Kq.below_alloc wr _)) HAB.out.2.2.1 cb)
          go_wp2_with (at_builtin; refine Kq.wpList_append_any _ rfl (.tmp 123) (.tmp 124) 82 82 rfl wr.heap.size 93 i0 (.int .u32 0) 1 4 Tryd.underlying82 hi hz0 hz1 hz2 rfl (by decide) (.slice (some ⟨wr.heap.size, 0, none⟩) 0 0) 0 [] rfl (empty_row wr) (.slice (some ⟨B, 0, none⟩) 8 cb) 8 (wcl hs) rfl HSRC.out ?h1 ?h2 ?h3 ?_)
          case h1 => unfold maxLen; omega
          intro v' w2 hown hgrow hfresh
          obtain ⟨G0, c0, hv, hG0, hG1, hGc⟩ := row_u32 hown (by rw [HAB.out.2.2.1]) (by omega)
          subst hv
          have HI0 : Hid (BlkI w W G0 hs w2) := Lib.hid (by
            have hk := Kq.Keeps.grown (S := (· = wr.heap.size)) hgrow (fun j _ hj => by cases hj; rfl)
            have hb : Below wr.heap.size wr w2 := (Kq.below_alloc wr (.cells #[] 93)).trans (hk.below (by simp) (fun j _ e => by rw [e]; exact Nat.le_refl _))
            exact ⟨HS.out.below hb, ⟨hG1, hGc⟩⟩)
          have HSO : Hid (toL (ofL hs) = hs) := Lib.hid (toL_ofL HAB.out.2.2.1)
          clear hown hgrow hfresh hG0 hG1 hGc dj
          have HO := Lib.hid (ofL_ok HAB.out.2.2.2)
          go_wp2
          go_loopw [12, 13] (fun p i wr => ∃ (k : Nat) (s : Sh.S8) (G c : Nat), k ≤ 64 ∧ i = .int .i64 (k : Int) ∧ p = .slice (some ⟨G, 0, none⟩) 8 c ∧ s = Sh.rounds (ofL hs) (Sh.K.take k) (W.take k) ∧ BlkI w W G (toL s) wr) (fun _ i _ => 64 - (intOf i).toNat)
          case atStart => exact ⟨0, ofL hs, G0, _, by omega, rfl, rfl, by simp [Sh.rounds], by rw [HSO.out]; exact HI0.out⟩
          case round =>
            obtain ⟨k, z, G, c, hk, rfl, rfl, hs', hI⟩ := hrel
            have HI := Lib.hid hI
            have HZS := Lib.hid hs'
            have HOK : Hid (Ok8 z) := Lib.hid (by rw [hs']; exact rounds_ok _ _ _ HO.out)
            clear hI hs'
            by_cases hlt : k < 64
            · have hl : (k : Int) < 64 := by omega
              have HST := Lib.hid (rounds_take Sh.K W k (ofL hs) (by rw [K_length]; exact hlt) (by rw [HWN.out]; exact hlt))
              rw [← HZS.out] at HST
              have r0 := (HAB.out.1.below HI.out.s.bel).2 k (by rw [K_length]; exact hlt)
              have r1 : wr.cell? ⟨w.heap.size, k, none⟩ = some (.int .u32 ((W.getD k 0 : Nat) : Int)) := (Kq.blk_cell HI.out.s.arr k).trans (w64_at W k (by rw [HWN.out]; exact hlt))
              generalize Sh.K.getD k 0 = kk at *
              generalize W.getD k 0 = wk at *
              have x0 : wr.cell? ⟨G, 0, none⟩ = some (.int .u32 (z.a : Int)) := HI.out.x.2 0 (by simp [toL])
              have x1 : wr.cell? ⟨G, 1, none⟩ = some (.int .u32 (z.b : Int)) := HI.out.x.2 1 (by simp [toL])
              have x2 : wr.cell? ⟨G, 2, none⟩ = some (.int .u32 (z.c : Int)) := HI.out.x.2 2 (by simp [toL])
              have x3 : wr.cell? ⟨G, 3, none⟩ = some (.int .u32 (z.d : Int)) := HI.out.x.2 3 (by simp [toL])
              have x4 : wr.cell? ⟨G, 4, none⟩ = some (.int .u32 (z.e : Int)) := HI.out.x.2 4 (by simp [toL])
              have x5 : wr.cell? ⟨G, 5, none⟩ = some (.int .u32 (z.f : Int)) := HI.out.x.2 5 (by simp [toL])
              have x6 : wr.cell? ⟨G, 6, none⟩ = some (.int .u32 (z.g : Int)) := HI.out.x.2 6 (by simp [toL])
              have x7 : wr.cell? ⟨G, 7, none⟩ = some (.int .u32 (z.h : Int)) := HI.out.x.2 7 (by simp [toL])
              have T6 : Hid (∀ (w' : World) n, Calls Tryd.prog 92 #[.int .u32 (z.e : Int), .int .i64 6] (w'.drewN n) fun e w'' => e = .returned (.int .u32 (Sh.rot z.e 6 : Int)) ∧ ∃ m, w'' = w'.drewN m) := Lib.hid (fun w' n => Calls.quiet_of (sh_right z.e 6 (w'.drewN n) HOK.out.e (by decide) (by decide)))
              have T11 : Hid (∀ (w' : World) n, Calls Tryd.prog 92 #[.int .u32 (z.e : Int), .int .i64 11] (w'.drewN n) fun e w'' => e = .returned (.int .u32 (Sh.rot z.e 11 : Int)) ∧ ∃ m, w'' = w'.drewN m) := Lib.hid (fun w' n => Calls.quiet_of (sh_right z.e 11 (w'.drewN n) HOK.out.e (by decide) (by decide)))
              have T25 : Hid (∀ (w' : World) n, Calls Tryd.prog 92 #[.int .u32 (z.e : Int), .int .i64 25] (w'.drewN n) fun e w'' => e = .returned (.int .u32 (Sh.rot z.e 25 : Int)) ∧ ∃ m, w'' = w'.drewN m) := Lib.hid (fun w' n => Calls.quiet_of (sh_right z.e 25 (w'.drewN n) HOK.out.e (by decide) (by decide)))
              have T2 := Lib.hid (fun w => sh_right z.a 2 w HOK.out.a (by decide) (by decide))
              have T13 := Lib.hid (fun w => sh_right z.a 13 w HOK.out.a (by decide) (by decide))
              have T22 := Lib.hid (fun w => sh_right z.a 22 w HOK.out.a (by decide) (by decide))
              obtain ⟨y1, f1, f2⟩ := xor3 (Sh.rot z.e 6) (Sh.rot z.e 11) (Sh.rot z.e 25) (rot_lt _ _ HOK.out.e) (rot_lt _ _ HOK.out.e) (rot_lt _ _ HOK.out.e)
              obtain ⟨y2, f3, f4⟩ := xor3 (Sh.rot z.a 2) (Sh.rot z.a 13) (Sh.rot z.a 22) (rot_lt _ _ HOK.out.a) (rot_lt _ _ HOK.out.a) (rot_lt _ _ HOK.out.a)
              obtain ⟨n1, cp, n2, f5, f6, f7, f8, f9⟩ := ch_facts z.e z.f z.g HOK.out.e HOK.out.f HOK.out.g
              obtain ⟨m1, m2, m3, m4, f10, f11, f12, f13, f14⟩ := maj_facts z.a z.b z.c HOK.out.a HOK.out.b HOK.out.c
              obtain ⟨u1', u2', u3', t1, t2, e', a', f15, f16, f17, f18, f19, f20, f21, HSF, q1, q2⟩ := step_facts z _ _ _ _ kk wk rfl rfl rfl rfl
              have HSF := Lib.hid HSF
              clear q1 q2 f6
              have e1 : ((Sh.rot z.e 6 ^^^ Sh.rot z.e 11) ^^^ Sh.rot z.e 25) = Sh.ep1 z.e := rfl
              have e0 : ((Sh.rot z.a 2 ^^^ Sh.rot z.a 13) ^^^ Sh.rot z.a 22) = Sh.ep0 z.a := rfl
              rw [e1] at f2
              rw [e0] at f4
              clear e1 e0
              generalize Sh.rot z.e 6 = ra at *
              generalize Sh.rot z.e 11 = rb at *
              generalize Sh.rot z.e 25 = rc at *
              generalize Sh.rot z.a 2 = rd at *
              generalize Sh.rot z.a 13 = re at *
              generalize Sh.rot z.a 22 = rf at *
              generalize Sh.ep1 z.e = v1 at *
              generalize Sh.ep0 z.a = v0 at *
              generalize Sh.ch z.e z.f z.g = c1 at *
              generalize Sh.maj z.a z.b z.c = mj at *
              have F8 := Lib.hid (And.intro f3 f4)
              have F9 := Lib.hid (And.intro f10 (And.intro f11 (And.intro f12 (And.intro f13 (And.intro f14 (And.intro f19 (And.intro f20 f21)))))))
              have FX := Lib.hid (And.intro x3 (And.intro r0 (And.intro r1 x7)))
              have FA := Lib.hid (And.intro f1 (And.intro f2 (And.intro f5 (And.intro f7 (And.intro f8 (And.intro f9 (And.intro f15 (And.intro f16 (And.intro f17 f18)))))))))
              clear f3 f4 f10 f11 f12 f13 f14 f19 f20 f21 x3 r0 r1 x7 f1 f2 f5 f7 f8 f9 f15 f16 f17 f18
              go_wp2
              go_quiet (fail)
              clear x0 x1 x2 x4 x5 x6
              generalize hwq : wr.drewN _ = wq
              have HQ : Hid (BlkI w W G (toL z) wq) := Lib.hid (by rw [← hwq]; exact HI.out.drewN _)
              obtain ⟨x3, r0, r1, x7⟩ := FX.out
              have x3 := Lib.hid (show wq.cell? ⟨G, 3, none⟩ = some (.int .u32 (z.d : Int)) by rw [← hwq]; exact x3)
              have r0 : wq.cell? ⟨A, k, none⟩ = some (.int .u32 (kk : Int)) := by rw [← hwq]; exact r0
              have r1 : wq.cell? ⟨w.heap.size, k, none⟩ = some (.int .u32 (wk : Int)) := by rw [← hwq]; exact r1
              have x7 : wq.cell? ⟨G, 7, none⟩ = some (.int .u32 (z.h : Int)) := by rw [← hwq]; exact x7
              obtain ⟨f1, f2, f5, f7, f8, f9, f15, f16, f17, f18⟩ := FA.out
              clear hwq FX FA
              go_wp2
              go_quiet ((go_at_call 92; first | (with_reducible exact T6.out _ _) | (with_reducible exact T11.out _ _) | (with_reducible exact T25.out _ _)))
              clear r0 r1 x7 f1 f2 f5 f7 f8 f9 f15 f16 f17 f18 T6 T11 T25
              generalize hwp : wq.drewN _ = wp
              have HP : Hid (BlkI w W G (toL z) wp) := Lib.hid (by rw [← hwp]; exact HQ.out.drewN _)
              have x3 := Lib.hid (show wp.cell? ⟨G, 3, none⟩ = some (.int .u32 (z.d : Int)) by rw [← hwp]; exact x3.out)
              clear hwp HQ
              go_wp2_with fail
              refine (T2.out _).mono ?_
              rintro e wa ⟨rfl, n9, rfl⟩
              go_wp2_with fail
              refine (T13.out _).mono ?_
              rintro e wa ⟨rfl, n10, rfl⟩
              have f3 := F8.out.1
              go_wp2_with fail
              refine (T22.out _).mono ?_
              rintro e wa ⟨rfl, n11, rfl⟩
              have f4 := F8.out.2
              clear T2 T13 T22 F8
              obtain ⟨f10, f11, f12, f13, f14, f19, f20, f21⟩ := F9.out
              have x3 := x3.out
              go_wp2
              clear f3 f4 f10 f11 f12 f13 f14 f19 f20 f21 x3 F9
              have HN : Hid (BlkI w W wp.heap.size (toL ⟨a', z.a, z.b, z.c, e', z.e, z.f, z.g⟩) ((wp.drewN (n9 + n10 + n11)).alloc (.cells #[.int .u32 (a' : Int), .int .u32 (z.a : Int), .int .u32 (z.b : Int), .int .u32 (z.c : Int), .int .u32 (e' : Int), .int .u32 (z.e : Int), .int .u32 (z.f : Int), .int .u32 (z.g : Int)] 93))) := Lib.hid ⟨(HP.out.s.drewN _).below (Kq.below_alloc _ _), words_new (wp.drewN (n9 + n10 + n11)) (toL ⟨a', z.a, z.b, z.c, e', z.e, z.f, z.g⟩)⟩
              go_roundw
              case rel => exact ⟨k + 1, _, wp.heap.size, 8, by omega, by go_num, rfl, HST.out.symm, by rw [HSF.out]; exact HN.out⟩
              case measure => simp [intOf]; omega
            · have hk64 : k = 64 := by omega
              have HF : Hid (z = Sh.rounds (ofL hs) Sh.K W) := Lib.hid (by rw [HZS.out, hk64, List.take_of_length_le (by rw [K_length]; exact Nat.le_refl _), List.take_of_length_le (by rw [HWN.out]; exact Nat.le_refl _)])
              have dk : decide ((k : Int) < 64) = false := decide_eq_false (by omega)
              have dk2 : ¬ (k : Int) < 64 := by omega
              clear hk64
              go_wp2_with fail
              clear hk hlt dk dk2
              have HZ9 := Lib.hid (And.intro HI.out HF.out)
              have HS8 : Hid ((toL (Sh.add8 (ofL hs) z)).length = 8) := Lib.hid rfl
              have HSUM : Hid (∀ i, i < 8 → (toL (Sh.add8 (ofL hs) z)).getD i 0 = (hs.getD i 0 + (toL z).getD i 0) % 4294967296) := Lib.hid (fun i hi => sum_at hs z HAB.out.2.2.1 i hi)
              have HFIN : Hid (toL (Sh.add8 (ofL hs) z) = toL (Sh.mix (ofL hs) (nl s))) := Lib.hid (by rw [HMX.out, ← HF.out])
              obtain ⟨R, hR⟩ : ∃ R, R = toL (Sh.add8 (ofL hs) z) := ⟨_, rfl⟩
              rw [← hR] at HS8 HSUM HFIN
              clear hR
              obtain ⟨w9, hw9⟩ : ∃ w9, w9 = wr := ⟨_, rfl⟩
              have HB9 : Hid (WordsAt w9 B hs ∧ WordsAt w9 G (toL z) ∧ Below w.heap.size w w9) := Lib.hid (by rw [hw9]; exact ⟨HAB.out.2.1.below HI.out.s.bel, HI.out.x, HI.out.s.bel⟩)
              rw [← hw9]
              clear hw9 HI HZ9
              go_loopw [22, 23] (fun o i wr => ∃ (k : Nat) (v : Value), k ≤ 8 ∧ i = .int .i64 (k : Int) ∧ o = v ∧ wr.ownsRow w9.heap.size 93 1 v k (wcl (R.take k)) ∧ Below w9.heap.size w9 wr) (fun _ i _ => 8 - (intOf i).toNat)
              case atStart => exact ⟨0, _, by omega, rfl, rfl, World.ownsRow_nil _ _ _ _, Below.refl _ _⟩
              case round =>
                obtain ⟨k, v, hk, rfl, hov, hrow, hbel⟩ := hrel
                have hov := hov.symm
                subst hov
                have HR := Lib.hid (And.intro hrow hbel)
                clear hrow hbel
                by_cases hlt : k < 8
                · have l1 : (k : Int) < 8 := by omega
                  have dk : decide ((k : Int) < 8) = true := decide_eq_true l1
                  have c1 : wr.cell? ⟨B, k, none⟩ = some (.int .u32 ((hs.getD k 0 : Nat) : Int)) := (HB9.out.1.below HR.out.2).2 k (by rw [HAB.out.2.2.1]; exact hlt)
                  have c2 : wr.cell? ⟨G, k, none⟩ = some (.int .u32 (((toL z).getD k 0 : Nat) : Int)) := (HB9.out.2.1.below HR.out.2).2 k (by simpa [toL] using hlt)
                  have hT : Hid (R.take (k + 1) = R.take k ++ [R.getD k 0]) := Lib.hid (take_getD R k (by rw [HS8.out]; exact hlt))
                  have hsm := HSUM.out k hlt
                  have ha := add32 (hs.getD k 0) ((toL z).getD k 0)
                  rw [← hsm] at ha
                  have HBG : Hid (B < w9.heap.size ∧ G < w9.heap.size) := Lib.hid ⟨HB9.out.1.1, HB9.out.2.1.1⟩
                  generalize hs.getD k 0 = y1 at *
                  generalize (toL z).getD k 0 = y2 at *
                  generalize R.getD k 0 = y3 at *
                  clear hsm
                  go_wp2_with fail
                  refine wp_region_held_drew (S := fun w' => w'.cell? ⟨B, k, none⟩ = some (Value.int .u32 (y1 : Int)) ∧ w'.cell? ⟨G, k, none⟩ = some (Value.int .u32 (y2 : Int))) (by kernel_rfl) ⟨c1, c2⟩ (fun hS0 => ?_)
                  refine wpAnyH_take (i := 0) (v := ?_) rfl (by kernel_rfl) (by kernel_rfl) (by kernel_rfl) (fun _ _ _ h => h) (Or.inl ⟨by kernel_rfl, ?_⟩) (by assumption) ?_
                  rotate_left
                  · intro w hSw; (try dsimp only at hSw); go_simp; (try with_reducible rfl)
                  refine wpAnyH_take (i := 1) (v := ?_) rfl (by kernel_rfl) (by kernel_rfl) (by kernel_rfl) (fun _ _ _ h => h) (Or.inl ⟨by kernel_rfl, ?_⟩) (by assumption) ?_
                  rotate_left
                  · intro w hSw; (try dsimp only at hSw); go_simp; (try with_reducible rfl)
                  refine wpAnyH_take (i := 2) (v := ?_) rfl (by kernel_rfl) (by kernel_rfl) (by kernel_rfl) (fun _ _ _ h => h) (Or.inl ⟨by kernel_rfl, ?_⟩) (by assumption) ?_
                  rotate_left
                  · intro w hSw; (try dsimp only at hSw); go_simp; (try with_reducible rfl)
                  refine wpAnyH_take (i := 3) (v := ?_) rfl (by kernel_rfl) (by kernel_rfl) (by kernel_rfl) (fun _ _ _ h => h) (Or.inl ⟨by kernel_rfl, ?_⟩) (by assumption) ?_
                  rotate_left
                  · intro w hSw; (try dsimp only at hSw); go_simp; (try with_reducible rfl)
                  refine wpAnyH_take (i := 4) (v := ?_) rfl (by kernel_rfl) (by kernel_rfl) (by kernel_rfl) (fun _ _ _ h => h) (Or.inl ⟨by kernel_rfl, ?_⟩) (by assumption) ?_
                  rotate_left
                  · intro w hSw; (try dsimp only at hSw); go_simp; (try with_reducible rfl)
                  refine wpAnyH_take (i := 5) (v := ?_) rfl (by kernel_rfl) (by kernel_rfl) (by kernel_rfl) (fun _ _ _ h => h) (Or.inl ⟨by kernel_rfl, ?_⟩) (by assumption) ?_
                  rotate_left
                  · intro w hSw; (try dsimp only at hSw); go_simp; (try with_reducible rfl)
                  refine wpAnyH_take (i := 6) (v := ?_) rfl (by kernel_rfl) (by kernel_rfl) (by kernel_rfl) (fun _ _ _ h => h) (Or.inl ⟨by kernel_rfl, ?_⟩) (by assumption) ?_
                  rotate_left
                  · intro w hSw; (try dsimp only at hSw); go_simp; (try with_reducible rfl)
                  refine wpAnyH_take (i := 7) (v := ?_) rfl (by kernel_rfl) (by kernel_rfl) (by kernel_rfl) (fun _ _ _ h => h) (Or.inl ⟨by kernel_rfl, ?_⟩) (by assumption) ?_
                  rotate_left
                  · intro w hSw; (try dsimp only at hSw); go_simp; (try with_reducible rfl)
                  refine wpAnyH_take (i := 8) (v := ?_) rfl (by kernel_rfl) (by kernel_rfl) (by kernel_rfl) (fun _ _ _ h => h) (Or.inl ⟨by kernel_rfl, ?_⟩) (by assumption) ?_
                  rotate_left
                  · intro w hSw; (try dsimp only at hSw); go_simp; (try with_reducible rfl)
                  refine wpAnyH_take (i := 9) (v := ?_) rfl (by kernel_rfl) (by kernel_rfl) (by kernel_rfl) (fun _ _ _ h => h) (Or.inl ⟨by kernel_rfl, ?_⟩) (by assumption) ?_
                  rotate_left
                  · intro w hSw; (try dsimp only at hSw); go_simp; (try with_reducible rfl)
                  refine wpAnyH_ready (rs := [10]) (by kernel_rfl) (by simp) ?_
                  refine AllReadyH.cons rfl (fun K hK => ?_) AllReadyH.nil
                  go_simp
                  have hb1 := Kq.below_alloc wr (.cells #[.int .u32 (y3 : Int)] 93)
                  have hlB : B < wr.heap.size ∧ G < wr.heap.size := ⟨Nat.lt_of_lt_of_le HBG.out.1 HR.out.2.size, Nat.lt_of_lt_of_le HBG.out.2 HR.out.2.size⟩
                  refine hK.out _ _ ⟨(hb1.cell (p := ⟨B, k, none⟩) hlB.1).trans c1, (hb1.cell (p := ⟨G, k, none⟩) hlB.2).trans c2⟩ (fun hS1 => ?_)
                  clear hK K hS0
                  obtain ⟨wq, hwq⟩ : ∃ z, z = (wr.alloc (Obj.cells #[Value.int IntKind.u32 (y3 : Int)] 93)).drew := ⟨_, rfl⟩
                  rw [← hwq]
                  have hsrc : Src Tryd.prog 1 82 (.slice (some ⟨wr.heap.size, 0, none⟩) 1 1) 1 (wcl [y3]) wq := by
                    rw [hwq]
                    have h := src_u32 wr y3
                    exact Src.ofSlice _ Tryd.underlying82 ⟨wr.heap.size, 0, none⟩ 1 1 _ rfl (fun j u hj => Kq.cell_new _ _ _ (by
                      rw [← List.getElem?_toArray] at hj
                      exact hj)) (fun u hu => by
                      simp only [wcl, List.map_cons, List.map_nil, List.mem_singleton] at hu
                      rw [hu]; rfl)
                  have hbq : Below wr.heap.size wr wq := by rw [hwq]; exact hb1.drew
                  have hrow : wq.ownsRow w9.heap.size 93 1 v k (wcl (R.take k)) := by rw [hwq]; exact HR.out.1.alloc _
                  refine wpAnyH_ready (rs := [11]) (by kernel_rfl) (by simp) ?_
                  refine AllReadyH.cons rfl (fun K hK => ?_) AllReadyH.nil
                  rw [if_pos (by rfl)]
                  refine Kq.wp_append_any _ (.tmp 218) (.tmp 228) 82 82 rfl w9.heap.size 93 i0 (.int .u32 0) 1 4 Tryd.underlying82 hi hz0 hz1 hz2 rfl (by decide) _ k _ rfl hrow (.slice (some ⟨wr.heap.size, 0, none⟩) 1 1) 1 _ rfl hsrc ?e1 ?e2 (Nat.le_trans HR.out.2.size hbq.size) ?_
                  case e1 => unfold maxLen; omega
                  case e2 => omega
                  intro v' w' hown hgrow hfresh
                  have hgk := Kq.Keeps.grown (S := fun j => w9.heap.size ≤ j) hgrow (fun j _ hj => (own_lt hrow hj).1)
                  have hc1 : w'.cell? ⟨B, k, none⟩ = some (.int .u32 (y1 : Int)) := by
                    rw [World.cell?_of_block (hgk.block B (Nat.lt_of_lt_of_le hlB.1 hbq.size) (Nat.not_le.2 HBG.out.1))]
                    exact (hbq.cell (p := ⟨B, k, none⟩) hlB.1).trans c1
                  have hc2 : w'.cell? ⟨G, k, none⟩ = some (.int .u32 (y2 : Int)) := by
                    rw [World.cell?_of_block (hgk.block G (Nat.lt_of_lt_of_le hlB.2 hbq.size) (Nat.not_le.2 HBG.out.2))]
                    exact (hbq.cell (p := ⟨G, k, none⟩) hlB.2).trans c2
                  have HO : Hid (w'.ownsRow w9.heap.size 93 1 v' (k + 1) (wcl (R.take (k + 1))) ∧ Below w9.heap.size w9 w') := by
                    rw [hT.out]
                    have e : wcl (R.take k ++ [y3]) = wcl (R.take k) ++ wcl [y3] := by simp [wcl]
                    rw [e]
                    exact Lib.hid ⟨hown, (HR.out.2.trans (hbq.mono HR.out.2.size)).trans (hgk.below (Nat.le_trans HR.out.2.size hbq.size) (fun j _ hj => hj))⟩
                  refine hK.out _ _ ⟨hc1, hc2⟩ (fun hS2 => ?_)
                  clear hK K hS1 hown hgrow hfresh hgk hc1 hc2 hrow hbq hsrc hwq hb1 hlB c1 c2
                  refine wpAnyH_take (i := 12) (v := ?_) rfl (by kernel_rfl) (by kernel_rfl) (by kernel_rfl) (fun _ _ _ h => h) (Or.inl ⟨by kernel_rfl, ?_⟩) (by assumption) ?_
                  rotate_left
                  · intro w hSw; (try dsimp only at hSw); go_simp; (try with_reducible rfl)
                  refine wpAnyH_done (by kernel_rfl) ?_ _
                  clear hS2
                  go_wp2
                  go_roundw
                  case rel => exact ⟨k + 1, _, by omega, by go_num, rfl, HO.out.1, HO.out.2⟩
                  case measure => simp [intOf]; omega
                · have hk8 : k = 8 := by omega
                  have dk : decide ((k : Int) < 8) = false := decide_eq_false (by omega)
                  have HF9 : Hid (∃ G' c', v = .slice (some ⟨G', 0, none⟩) 8 c' ∧ WordsAt wr G' (toL (Sh.mix (ofL hs) (nl s))) ∧ Below w.heap.size w wr) := Lib.hid (by
                    have h1 := HR.out.1
                    rw [hk8, List.take_of_length_le (by rw [HS8.out]; exact Nat.le_refl _)] at h1
                    obtain ⟨G', c', hv, _, h2, h3⟩ := row_u32 h1 (by rw [HS8.out]) (by omega)
                    rw [HFIN.out] at h3
                    exact ⟨G', c', hv, ⟨h2, h3⟩, HB9.out.2.2.trans (HR.out.2.mono HB9.out.2.2.size)⟩)
                  clear hk8
                  go_wp2
                  go_ret
                  obtain ⟨G', c', rfl, h1, h2⟩ := HF9.out
                  exact ⟨G', c', rfl, h1, h2⟩
end Go.Proofs.YtcknhnbckbocjaaDoor
