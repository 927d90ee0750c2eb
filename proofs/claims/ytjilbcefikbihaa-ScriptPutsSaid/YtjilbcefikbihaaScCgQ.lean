/- Package script's Config. Condition: the text's size. -/
import Derived.WalkSpells
import Derived.Outline
import Derived.Deep.RegionHeld
import Derived.Test.YtjilbcefikbihaaHeldLastQ
import Derived.Test.YtjilbcefikbihaaScCfgQ
import Derived.Test.YtjilbcefikbihaaScEnQ
namespace Go.Proofs.Ytjilbcefikbihaa
open Go.RowKit
set_option linter.unusedVariables false
def CoV.zero : CoV := ⟨0, 0, 0, 0, 0, 0, 0, 0, 0⟩
def CoV.cells (c : CoV) : Array Value := #[.int .i64 c.sec, .int .i64 c.secs, .int .i64 c.tb, .int .i64 c.bt, .int .i64 c.sc, .int .u64 c.h0, .int .u64 c.h1, .int .u64 c.s0, .int .u64 c.s1]
def cfA (y : CoV × Int × ByteArray) : CoV × Int × ByteArray := ({ y.1 with tb := (byteF y.2.1 y.2.2).1 }, (byteF y.2.1 y.2.2).2)
def cfB (y : CoV × Int × ByteArray) : CoV × Int × ByteArray := ({ y.1 with bt := (byteF y.2.1 y.2.2).1 }, (byteF y.2.1 y.2.2).2)
def cfC (y : CoV × Int × ByteArray) : CoV × Int × ByteArray := ({ y.1 with sc := (byteF y.2.1 y.2.2).1 }, (byteF y.2.1 y.2.2).2)
def cfD (y : CoV × Int × ByteArray) : CoV × Int × ByteArray := ({ y.1 with sec := (pairF y.2.1 y.2.2).1 }, (pairF y.2.1 y.2.2).2)
def cfE (y : CoV × Int × ByteArray) : CoV × Int × ByteArray := ({ y.1 with secs := (pairF y.2.1 y.2.2).1 }, (pairF y.2.1 y.2.2).2)
def cfF (y : CoV × Int × ByteArray) : CoV × Int × ByteArray := ({ y.1 with h0 := (numF y.2.1 y.2.2).1 }, (numF y.2.1 y.2.2).2)
def cfG (y : CoV × Int × ByteArray) : CoV × Int × ByteArray := ({ y.1 with h1 := (numF y.2.1 y.2.2).1 }, (numF y.2.1 y.2.2).2)
def cfH (y : CoV × Int × ByteArray) : CoV × Int × ByteArray := ({ y.1 with s0 := (numF y.2.1 y.2.2).1 }, (numF y.2.1 y.2.2).2)
def cfI (y : CoV × Int × ByteArray) : CoV × Int × ByteArray := ({ y.1 with s1 := (numF y.2.1 y.2.2).1 }, (numF y.2.1 y.2.2).2)
def cfgP (s : ByteArray) : CoV × Int × ByteArray := cfE (cfD (cfC (cfB (cfA (CoV.zero, 0, s)))))
def cfH1 (y : CoV × Int × ByteArray) : Nat → CoV × Int × ByteArray
  | 0 => y
  | 1 => cfF y
  | _ => cfG (cfF y)
def cfH2 (y : CoV × Int × ByteArray) : Nat → CoV × Int × ByteArray
  | 0 => y
  | 1 => cfH y
  | _ => cfI (cfH y)
def cfgF (s : ByteArray) : CoV × Int × ByteArray := cfH2 (cfH1 (cfgP s) 2) 2
structure CgW (w wr : World) (R C0 C1 : Nat) (y : CoV × Int × ByteArray) : Prop where
  rd : Rd wr R y.2.1 y.2.2
  c1 : wr.heap[C1]? = some (.cells y.1.cells 32 (0, 0))
  c0 : wr.heap[C0]? = some (.cells CoV.zero.cells 32 (0, 0))
  bel : Below w.heap.size w wr
  sz : y.2.2.size ≤ 100000000
theorem CgW.set {w wr w2 : World} {R C0 C1 : Nat} {y y' : CoV × Int × ByteArray} (h : CgW w wr R C0 C1 y) (hn : R ≠ C0 ∧ R ≠ C1 ∧ C0 ≠ C1 ∧ w.heap.size ≤ C0 ∧ w.heap.size ≤ C1 ∧ w.heap.size ≤ R) (h2 : Rd w2 R y'.2.1 y'.2.2) (k2 : Kq.Keeps (· = R) wr w2) (hs : y'.2.2.size ≤ y.2.2.size) (i : Nat) (v : Value) (hc : y'.1.cells = y.1.cells.setIfInBounds i v) :
    CgW w (w2.setCell ⟨C1, i, none⟩ v) R C0 C1 y' := by
  obtain ⟨n1, n2, n3, n4, n5, n6⟩ := hn
  have ks : Kq.Keeps (· = C1) w2 (w2.setCell ⟨C1, i, none⟩ v) := Kq.Keeps.setCell _ _ _ rfl
  have hb := k2.blk h.c1 (fun e => n2 e.symm)
  refine ⟨ks.blk h2 n2, ?_, ks.blk (k2.blk h.c0 (fun e => n1 e.symm)) n3, ?_, by have := h.sz; omega⟩
  · rw [Kq.blk_set hb i v, hc]
  · exact (((Kq.Keeps.of_below (S := fun k => k = R ∨ k = C1) h.bel (fun k h1 h2 => absurd h1 (Nat.not_le.2 h2))).trans (k2.mono (fun k _ h => Or.inl h))).trans (ks.mono (fun k _ h => Or.inr h))).below (Nat.le_refl _) (fun k hk h => by omega)
theorem cg_one (c : CoV) : c.cells.all (·.oneCell') = true := by rw [← Array.all_toList]; rfl
set_option maxRecDepth 100000 in
set_option maxHeartbeats 4000000 in
theorem sc_config (s : ByteArray) (w : World) (hs : s.size ≤ 100000000) :
    Calls Try.prog 14 #[.string s] w fun x w' => Below w.heap.size w w' ∧ ((cfgF s).2.1 = 0 → x = .returned (.tuple #[.agg (cfgF s).1.cells, .string (cfgF s).2.2, .int .i64 0])) ∧ ((cfgF s).2.1 ≠ 0 → x = .returned (.tuple #[.agg CoV.zero.cells, .string ⟨#[]⟩, .int .i64 (cfgF s).2.1])) := by
  obtain ⟨C0, hC0⟩ : ∃ z, z = w.heap.size := ⟨_, rfl⟩
  obtain ⟨wa, hwa⟩ : ∃ z, z = w.alloc (.cells #[.int .i64 0, .int .i64 0, .int .i64 0, .int .i64 0, .int .i64 0, .int .u64 0, .int .u64 0, .int .u64 0, .int .u64 0] 32) := ⟨_, rfl⟩
  have HA : Hid (wa.heap[C0]? = some (.cells CoV.zero.cells 32 (0, 0)) ∧ Below w.heap.size w wa ∧ C0 = w.heap.size) := Lib.hid ⟨by rw [hwa, hC0]; exact Kq.blk_new _ _ _ _, by rw [hwa]; exact Kq.below_alloc _ _, hC0⟩
  have HSZ := Lib.hid hs
  clear hs
  go_enter Try.func14, Try.ntmps14
  go_wp2_with fail
  rw [← hwa]
  try rw [← hC0]
  clear hwa hC0
  refine (rd_new s wa).mono ?_
  rintro x wb ⟨rfl, rb, bb⟩
  obtain ⟨R, hR⟩ : ∃ z, z = wa.heap.size := ⟨_, rfl⟩
  obtain ⟨C1, hC1⟩ : ∃ z, z = wb.heap.size := ⟨_, rfl⟩
  obtain ⟨w1, hw1⟩ : ∃ z, z = wb.alloc (.cells #[.int .i64 0, .int .i64 0, .int .i64 0, .int .i64 0, .int .i64 0, .int .u64 0, .int .u64 0, .int .u64 0, .int .u64 0] 32) := ⟨_, rfl⟩
  have HN : Hid (R ≠ C0 ∧ R ≠ C1 ∧ C0 ≠ C1 ∧ w.heap.size ≤ C0 ∧ w.heap.size ≤ C1 ∧ w.heap.size ≤ R) := Lib.hid (by
    have h1 := Kq.blk_lt HA.out.1
    have h2 := HA.out.2.2
    have h3 := HA.out.2.1.size
    have h4 := Kq.blk_lt rb
    have h5 := bb.size
    omega)
  have H1 : Hid (CgW w w1 R C0 C1 (CoV.zero, 0, s)) := Lib.hid (by
    have b1 : Below wb.heap.size wb w1 := by rw [hw1]; exact Kq.below_alloc _ _
    refine ⟨?_, by rw [hw1, hC1]; exact Kq.blk_new _ _ _ _, Kq.below_blk b1 (Kq.below_blk bb HA.out.1 (Kq.blk_lt HA.out.1)) (Nat.lt_of_lt_of_le (Kq.blk_lt HA.out.1) bb.size), HA.out.2.1.trans ((bb.trans (b1.mono bb.size)).mono HA.out.2.1.size), HSZ.out⟩
    rw [← hR] at rb
    exact Kq.below_blk b1 rb (Kq.blk_lt rb))
  clear bb rb
  go_wp2_with fail
  rw [← hw1]
  rw [← hC1, ← hR]
  clear hw1 hC1 hR
  obtain ⟨y, hy⟩ : ∃ z, z = ((CoV.zero, 0, s) : CoV × Int × ByteArray) := ⟨_, rfl⟩
  rw [← hy] at H1
  obtain ⟨n, hn⟩ : ∃ z, z = (byteF y.2.1 y.2.2).1 := ⟨_, rfl⟩
  have HC : Hid (Calls Try.prog 32 #[.pointer (some ⟨R, 0, none⟩)] w1 fun x w' => x = .returned (.int .i64 n) ∧ Rd w' R (cfA y).2.1 (cfA y).2.2 ∧ Kq.Keeps (· = R) w1 w') := Lib.hid ((rd_byte R y.2.1 y.2.2 w1 H1.out.rd (by have := H1.out.sz; unfold maxLen; omega)).mono fun x w' h => ⟨by rw [hn]; exact h.1, h.2.1, h.2.2⟩)
  have HY : Hid ((cfA y).1.cells = y.1.cells.setIfInBounds 2 (.int .i64 n)) := Lib.hid (by rw [hn]; rfl)
  clear hn
  refine HC.out.mono ?_
  rintro x wz ⟨rfl, rz, kz⟩
  have HW : Hid (CgW w (wz.setCell ⟨C1, 2, none⟩ (.int .i64 n)) R C0 C1 (cfA y)) := Lib.hid (CgW.set H1.out HN.out rz kz (byteF_size _ _) 2 _ HY.out)
  have oz : wz.cell? ⟨C1, 2, none⟩ = some ((y.1.cells).getD 2 undef) := (Kq.blk_cell (kz.blk H1.out.c1 (fun e => HN.out.2.1 e.symm)) 2)
  have fz : wz.frozen? ⟨C1, 2, none⟩ = false := Kq.blk_free (kz.blk H1.out.c1 (fun e => HN.out.2.1 e.symm)) 2
  obtain ⟨w2, hw2⟩ : ∃ z, z = wz.setCell ⟨C1, 2, none⟩ (.int .i64 n) := ⟨_, rfl⟩
  rw [← hw2] at HW
  rw [hy] at HW
  clear rz kz HC HY H1 hy
  go_wp2_with fail
  rw [← hw2]
  clear hw2 oz fz y
  have H2 := HW
  clear HW
  obtain ⟨y, hy⟩ : ∃ z, z = (cfA ((CoV.zero, 0, s) : CoV × Int × ByteArray)) := ⟨_, rfl⟩
  rw [← hy] at H2
  obtain ⟨n, hn⟩ : ∃ z, z = (byteF y.2.1 y.2.2).1 := ⟨_, rfl⟩
  have HC : Hid (Calls Try.prog 32 #[.pointer (some ⟨R, 0, none⟩)] w2 fun x w' => x = .returned (.int .i64 n) ∧ Rd w' R (cfB y).2.1 (cfB y).2.2 ∧ Kq.Keeps (· = R) w2 w') := Lib.hid ((rd_byte R y.2.1 y.2.2 w2 H2.out.rd (by have := H2.out.sz; unfold maxLen; omega)).mono fun x w' h => ⟨by rw [hn]; exact h.1, h.2.1, h.2.2⟩)
  have HY : Hid ((cfB y).1.cells = y.1.cells.setIfInBounds 3 (.int .i64 n)) := Lib.hid (by rw [hn]; rfl)
  clear hn
  refine HC.out.mono ?_
  rintro x wz ⟨rfl, rz, kz⟩
  have HW : Hid (CgW w (wz.setCell ⟨C1, 3, none⟩ (.int .i64 n)) R C0 C1 (cfB y)) := Lib.hid (CgW.set H2.out HN.out rz kz (byteF_size _ _) 3 _ HY.out)
  have oz : wz.cell? ⟨C1, 3, none⟩ = some ((y.1.cells).getD 3 undef) := (Kq.blk_cell (kz.blk H2.out.c1 (fun e => HN.out.2.1 e.symm)) 3)
  have fz : wz.frozen? ⟨C1, 3, none⟩ = false := Kq.blk_free (kz.blk H2.out.c1 (fun e => HN.out.2.1 e.symm)) 3
  obtain ⟨w3, hw3⟩ : ∃ z, z = wz.setCell ⟨C1, 3, none⟩ (.int .i64 n) := ⟨_, rfl⟩
  rw [← hw3] at HW
  rw [hy] at HW
  clear rz kz HC HY H2 hy
  go_wp2_with fail
  rw [← hw3]
  clear hw3 oz fz y
  have H3 := HW
  clear HW
  obtain ⟨y, hy⟩ : ∃ z, z = (cfB (cfA ((CoV.zero, 0, s) : CoV × Int × ByteArray))) := ⟨_, rfl⟩
  rw [← hy] at H3
  obtain ⟨n, hn⟩ : ∃ z, z = (byteF y.2.1 y.2.2).1 := ⟨_, rfl⟩
  have HC : Hid (Calls Try.prog 32 #[.pointer (some ⟨R, 0, none⟩)] w3 fun x w' => x = .returned (.int .i64 n) ∧ Rd w' R (cfC y).2.1 (cfC y).2.2 ∧ Kq.Keeps (· = R) w3 w') := Lib.hid ((rd_byte R y.2.1 y.2.2 w3 H3.out.rd (by have := H3.out.sz; unfold maxLen; omega)).mono fun x w' h => ⟨by rw [hn]; exact h.1, h.2.1, h.2.2⟩)
  have HY : Hid ((cfC y).1.cells = y.1.cells.setIfInBounds 4 (.int .i64 n)) := Lib.hid (by rw [hn]; rfl)
  clear hn
  refine HC.out.mono ?_
  rintro x wz ⟨rfl, rz, kz⟩
  have HW : Hid (CgW w (wz.setCell ⟨C1, 4, none⟩ (.int .i64 n)) R C0 C1 (cfC y)) := Lib.hid (CgW.set H3.out HN.out rz kz (byteF_size _ _) 4 _ HY.out)
  have oz : wz.cell? ⟨C1, 4, none⟩ = some ((y.1.cells).getD 4 undef) := (Kq.blk_cell (kz.blk H3.out.c1 (fun e => HN.out.2.1 e.symm)) 4)
  have fz : wz.frozen? ⟨C1, 4, none⟩ = false := Kq.blk_free (kz.blk H3.out.c1 (fun e => HN.out.2.1 e.symm)) 4
  obtain ⟨w4, hw4⟩ : ∃ z, z = wz.setCell ⟨C1, 4, none⟩ (.int .i64 n) := ⟨_, rfl⟩
  rw [← hw4] at HW
  rw [hy] at HW
  clear rz kz HC HY H3 hy
  go_wp2_with fail
  rw [← hw4]
  clear hw4 oz fz y
  have H4 := HW
  clear HW
  obtain ⟨y, hy⟩ : ∃ z, z = (cfC (cfB (cfA ((CoV.zero, 0, s) : CoV × Int × ByteArray)))) := ⟨_, rfl⟩
  rw [← hy] at H4
  obtain ⟨n, hn⟩ : ∃ z, z = (pairF y.2.1 y.2.2).1 := ⟨_, rfl⟩
  have HC : Hid (Calls Try.prog 33 #[.pointer (some ⟨R, 0, none⟩)] w4 fun x w' => x = .returned (.int .i64 n) ∧ Rd w' R (cfD y).2.1 (cfD y).2.2 ∧ Kq.Keeps (· = R) w4 w') := Lib.hid ((sc_getPair R y.2.1 y.2.2 w4 H4.out.rd (by have := H4.out.sz; unfold maxLen; omega)).mono fun x w' h => ⟨by rw [hn]; exact h.1, h.2.1, h.2.2⟩)
  have HY : Hid ((cfD y).1.cells = y.1.cells.setIfInBounds 0 (.int .i64 n)) := Lib.hid (by rw [hn]; rfl)
  clear hn
  refine HC.out.mono ?_
  rintro x wz ⟨rfl, rz, kz⟩
  have HW : Hid (CgW w (wz.setCell ⟨C1, 0, none⟩ (.int .i64 n)) R C0 C1 (cfD y)) := Lib.hid (CgW.set H4.out HN.out rz kz (pairF_size _ _) 0 _ HY.out)
  have oz : wz.cell? ⟨C1, 0, none⟩ = some ((y.1.cells).getD 0 undef) := (Kq.blk_cell (kz.blk H4.out.c1 (fun e => HN.out.2.1 e.symm)) 0)
  have fz : wz.frozen? ⟨C1, 0, none⟩ = false := Kq.blk_free (kz.blk H4.out.c1 (fun e => HN.out.2.1 e.symm)) 0
  obtain ⟨w5, hw5⟩ : ∃ z, z = wz.setCell ⟨C1, 0, none⟩ (.int .i64 n) := ⟨_, rfl⟩
  rw [← hw5] at HW
  rw [hy] at HW
  clear rz kz HC HY H4 hy
  go_wp2_with fail
  rw [← hw5]
  clear hw5 oz fz y
  have H5 := HW
  clear HW
  obtain ⟨y, hy⟩ : ∃ z, z = (cfD (cfC (cfB (cfA ((CoV.zero, 0, s) : CoV × Int × ByteArray))))) := ⟨_, rfl⟩
  rw [← hy] at H5
  obtain ⟨n, hn⟩ : ∃ z, z = (pairF y.2.1 y.2.2).1 := ⟨_, rfl⟩
  have HC : Hid (Calls Try.prog 33 #[.pointer (some ⟨R, 0, none⟩)] w5 fun x w' => x = .returned (.int .i64 n) ∧ Rd w' R (cfE y).2.1 (cfE y).2.2 ∧ Kq.Keeps (· = R) w5 w') := Lib.hid ((sc_getPair R y.2.1 y.2.2 w5 H5.out.rd (by have := H5.out.sz; unfold maxLen; omega)).mono fun x w' h => ⟨by rw [hn]; exact h.1, h.2.1, h.2.2⟩)
  have HY : Hid ((cfE y).1.cells = y.1.cells.setIfInBounds 1 (.int .i64 n)) := Lib.hid (by rw [hn]; rfl)
  clear hn
  refine HC.out.mono ?_
  rintro x wz ⟨rfl, rz, kz⟩
  have HW : Hid (CgW w (wz.setCell ⟨C1, 1, none⟩ (.int .i64 n)) R C0 C1 (cfE y)) := Lib.hid (CgW.set H5.out HN.out rz kz (pairF_size _ _) 1 _ HY.out)
  have oz : wz.cell? ⟨C1, 1, none⟩ = some ((y.1.cells).getD 1 undef) := (Kq.blk_cell (kz.blk H5.out.c1 (fun e => HN.out.2.1 e.symm)) 1)
  have fz : wz.frozen? ⟨C1, 1, none⟩ = false := Kq.blk_free (kz.blk H5.out.c1 (fun e => HN.out.2.1 e.symm)) 1
  obtain ⟨w6, hw6⟩ : ∃ z, z = wz.setCell ⟨C1, 1, none⟩ (.int .i64 n) := ⟨_, rfl⟩
  rw [← hw6] at HW
  rw [hy] at HW
  clear rz kz HC HY H5 hy
  have H6 := HW
  clear HW
  obtain ⟨y5, hy5⟩ : ∃ z, z = cfgP s := ⟨_, rfl⟩
  have HY5 := Lib.hid hy5
  have H6' : Hid (CgW w w6 R C0 C1 y5) := Lib.hid (by rw [hy5]; exact H6.out)
  clear H6 hy5
  go_wp2
  rw [← hw6]
  clear hw6 oz fz y
  go_loopw [27] (fun u wr => ∃ j : Nat, j ≤ 2 ∧ u = .int .i64 (j : Int) ∧ CgW w wr R C0 C1 (cfH1 y5 j)) (fun u _ => 2 - (intOf u).toNat)
  case atStart => exact ⟨0, by omega, rfl, H6'.out⟩
  case round =>
    obtain ⟨j, hj, rfl, hst⟩ := hrel
    have HS := Lib.hid hst
    clear hst
    by_cases hlt : j < 2
    · have hj01 : j = 0 ∨ j = 1 := by omega
      clear hj hlt
      rcases hj01 with rfl | rfl
      · have HS0 := HS
        go_wp2_with fail
        obtain ⟨y, hy⟩ : ∃ z, z = (cfH1 y5 0) := ⟨_, rfl⟩
        rw [← hy] at HS
        obtain ⟨n, hn⟩ : ∃ z, z = (numF y.2.1 y.2.2).1 := ⟨_, rfl⟩
        have HC : Hid (Calls Try.prog 34 #[.pointer (some ⟨R, 0, none⟩)] wr fun x w' => x = .returned (.int .u64 n) ∧ Rd w' R (cfF y).2.1 (cfF y).2.2 ∧ Kq.Keeps (· = R) wr w') := Lib.hid ((rd_number R y.2.1 y.2.2 wr HS.out.rd (by have := HS.out.sz; unfold maxLen; omega)).mono fun x w' h => ⟨by rw [hn]; exact h.1, h.2.1, h.2.2⟩)
        have HY : Hid ((cfF y).1.cells = y.1.cells.setIfInBounds 5 (.int .u64 n)) := Lib.hid (by rw [hn]; rfl)
        clear hn
        refine HC.out.mono ?_
        rintro x wz ⟨rfl, rz, kz⟩
        have HW : Hid (CgW w (wz.setCell ⟨C1, 5, none⟩ (.int .u64 n)) R C0 C1 (cfF y)) := Lib.hid (CgW.set HS.out HN.out rz kz (numF_suf _ _).size 5 _ HY.out)
        have oz : wz.cell? ⟨C1, 5, none⟩ = some ((y.1.cells).getD 5 undef) := (Kq.blk_cell (kz.blk HS.out.c1 (fun e => HN.out.2.1 e.symm)) 5)
        have fz : wz.frozen? ⟨C1, 5, none⟩ = false := Kq.blk_free (kz.blk HS.out.c1 (fun e => HN.out.2.1 e.symm)) 5
        obtain ⟨wn, hwn⟩ : ∃ z, z = wz.setCell ⟨C1, 5, none⟩ (.int .u64 n) := ⟨_, rfl⟩
        rw [← hwn] at HW
        rw [hy] at HW
        clear rz kz HC HY hy
        go_wp2
        rw [← hwn]
        clear hwn oz fz
        go_roundw
        case rel => (first | exact ⟨1, by omega, by go_num, HW.out⟩ | ((repeat apply Exists.intro); exact ⟨⟨1, by omega, by go_num, HW.out⟩, rfl⟩))
        case measure => simp [intOf]
      · have HS0 := HS
        go_wp2_with fail
        obtain ⟨y, hy⟩ : ∃ z, z = (cfH1 y5 1) := ⟨_, rfl⟩
        rw [← hy] at HS
        obtain ⟨n, hn⟩ : ∃ z, z = (numF y.2.1 y.2.2).1 := ⟨_, rfl⟩
        have HC : Hid (Calls Try.prog 34 #[.pointer (some ⟨R, 0, none⟩)] wr fun x w' => x = .returned (.int .u64 n) ∧ Rd w' R (cfG y).2.1 (cfG y).2.2 ∧ Kq.Keeps (· = R) wr w') := Lib.hid ((rd_number R y.2.1 y.2.2 wr HS.out.rd (by have := HS.out.sz; unfold maxLen; omega)).mono fun x w' h => ⟨by rw [hn]; exact h.1, h.2.1, h.2.2⟩)
        have HY : Hid ((cfG y).1.cells = y.1.cells.setIfInBounds 6 (.int .u64 n)) := Lib.hid (by rw [hn]; rfl)
        clear hn
        refine HC.out.mono ?_
        rintro x wz ⟨rfl, rz, kz⟩
        have HW : Hid (CgW w (wz.setCell ⟨C1, 6, none⟩ (.int .u64 n)) R C0 C1 (cfG y)) := Lib.hid (CgW.set HS.out HN.out rz kz (numF_suf _ _).size 6 _ HY.out)
        have oz : wz.cell? ⟨C1, 6, none⟩ = some ((y.1.cells).getD 6 undef) := (Kq.blk_cell (kz.blk HS.out.c1 (fun e => HN.out.2.1 e.symm)) 6)
        have fz : wz.frozen? ⟨C1, 6, none⟩ = false := Kq.blk_free (kz.blk HS.out.c1 (fun e => HN.out.2.1 e.symm)) 6
        obtain ⟨wn, hwn⟩ : ∃ z, z = wz.setCell ⟨C1, 6, none⟩ (.int .u64 n) := ⟨_, rfl⟩
        rw [← hwn] at HW
        rw [hy] at HW
        clear rz kz HC HY hy
        go_wp2
        rw [← hwn]
        clear hwn oz fz
        go_roundw
        case rel => (first | exact ⟨2, by omega, by go_num, HW.out⟩ | ((repeat apply Exists.intro); exact ⟨⟨2, by omega, by go_num, HW.out⟩, rfl⟩))
        case measure => simp [intOf]
    · obtain rfl : j = 2 := by omega
      clear hj hlt
      obtain ⟨y7, hy7⟩ : ∃ z, z = cfH1 y5 2 := ⟨_, rfl⟩
      have H7 : Hid (CgW w wr R C0 C1 (cfH2 y7 0)) := Lib.hid (by rw [hy7]; exact HS.out)
      have HY7 := Lib.hid hy7
      clear HS hy7 H6'
      go_wp2
      go_loopw [36] (fun u wr => ∃ j : Nat, j ≤ 2 ∧ u = .int .i64 (j : Int) ∧ CgW w wr R C0 C1 (cfH2 y7 j)) (fun u _ => 2 - (intOf u).toNat)
      case atStart => exact ⟨0, by omega, rfl, H7.out⟩
      case round =>
        obtain ⟨j, hj, rfl, hst⟩ := hrel
        have HS := Lib.hid hst
        clear hst
        by_cases hlt : j < 2
        · have hj01 : j = 0 ∨ j = 1 := by omega
          clear hj hlt
          rcases hj01 with rfl | rfl
          · have HS0 := HS
            go_wp2_with fail
            obtain ⟨y, hy⟩ : ∃ z, z = (cfH2 y7 0) := ⟨_, rfl⟩
            rw [← hy] at HS
            obtain ⟨n, hn⟩ : ∃ z, z = (numF y.2.1 y.2.2).1 := ⟨_, rfl⟩
            have HC : Hid (Calls Try.prog 34 #[.pointer (some ⟨R, 0, none⟩)] wr fun x w' => x = .returned (.int .u64 n) ∧ Rd w' R (cfH y).2.1 (cfH y).2.2 ∧ Kq.Keeps (· = R) wr w') := Lib.hid ((rd_number R y.2.1 y.2.2 wr HS.out.rd (by have := HS.out.sz; unfold maxLen; omega)).mono fun x w' h => ⟨by rw [hn]; exact h.1, h.2.1, h.2.2⟩)
            have HY : Hid ((cfH y).1.cells = y.1.cells.setIfInBounds 7 (.int .u64 n)) := Lib.hid (by rw [hn]; rfl)
            clear hn
            refine HC.out.mono ?_
            rintro x wz ⟨rfl, rz, kz⟩
            have HW : Hid (CgW w (wz.setCell ⟨C1, 7, none⟩ (.int .u64 n)) R C0 C1 (cfH y)) := Lib.hid (CgW.set HS.out HN.out rz kz (numF_suf _ _).size 7 _ HY.out)
            have oz : wz.cell? ⟨C1, 7, none⟩ = some ((y.1.cells).getD 7 undef) := (Kq.blk_cell (kz.blk HS.out.c1 (fun e => HN.out.2.1 e.symm)) 7)
            have fz : wz.frozen? ⟨C1, 7, none⟩ = false := Kq.blk_free (kz.blk HS.out.c1 (fun e => HN.out.2.1 e.symm)) 7
            obtain ⟨wn, hwn⟩ : ∃ z, z = wz.setCell ⟨C1, 7, none⟩ (.int .u64 n) := ⟨_, rfl⟩
            rw [← hwn] at HW
            rw [hy] at HW
            clear rz kz HC HY hy
            go_wp2
            rw [← hwn]
            clear hwn oz fz
            go_roundw
            case rel => (first | exact ⟨1, by omega, by go_num, HW.out⟩ | ((repeat apply Exists.intro); exact ⟨⟨1, by omega, by go_num, HW.out⟩, rfl⟩))
            case measure => simp [intOf]
          · have HS0 := HS
            go_wp2_with fail
            obtain ⟨y, hy⟩ : ∃ z, z = (cfH2 y7 1) := ⟨_, rfl⟩
            rw [← hy] at HS
            obtain ⟨n, hn⟩ : ∃ z, z = (numF y.2.1 y.2.2).1 := ⟨_, rfl⟩
            have HC : Hid (Calls Try.prog 34 #[.pointer (some ⟨R, 0, none⟩)] wr fun x w' => x = .returned (.int .u64 n) ∧ Rd w' R (cfI y).2.1 (cfI y).2.2 ∧ Kq.Keeps (· = R) wr w') := Lib.hid ((rd_number R y.2.1 y.2.2 wr HS.out.rd (by have := HS.out.sz; unfold maxLen; omega)).mono fun x w' h => ⟨by rw [hn]; exact h.1, h.2.1, h.2.2⟩)
            have HY : Hid ((cfI y).1.cells = y.1.cells.setIfInBounds 8 (.int .u64 n)) := Lib.hid (by rw [hn]; rfl)
            clear hn
            refine HC.out.mono ?_
            rintro x wz ⟨rfl, rz, kz⟩
            have HW : Hid (CgW w (wz.setCell ⟨C1, 8, none⟩ (.int .u64 n)) R C0 C1 (cfI y)) := Lib.hid (CgW.set HS.out HN.out rz kz (numF_suf _ _).size 8 _ HY.out)
            have oz : wz.cell? ⟨C1, 8, none⟩ = some ((y.1.cells).getD 8 undef) := (Kq.blk_cell (kz.blk HS.out.c1 (fun e => HN.out.2.1 e.symm)) 8)
            have fz : wz.frozen? ⟨C1, 8, none⟩ = false := Kq.blk_free (kz.blk HS.out.c1 (fun e => HN.out.2.1 e.symm)) 8
            obtain ⟨wn, hwn⟩ : ∃ z, z = wz.setCell ⟨C1, 8, none⟩ (.int .u64 n) := ⟨_, rfl⟩
            rw [← hwn] at HW
            rw [hy] at HW
            clear rz kz HC HY hy
            go_wp2
            rw [← hwn]
            clear hwn oz fz
            go_roundw
            case rel => (first | exact ⟨2, by omega, by go_num, HW.out⟩ | ((repeat apply Exists.intro); exact ⟨⟨2, by omega, by go_num, HW.out⟩, rfl⟩))
            case measure => simp [intOf]
        · obtain rfl : j = 2 := by omega
          clear hj hlt
          obtain ⟨y9, hy9⟩ : ∃ z, z = cfH2 y7 2 := ⟨_, rfl⟩
          have H9 : Hid (CgW w wr R C0 C1 y9) := Lib.hid (by rw [hy9]; exact HS.out)
          have HE : Hid (cfgF s = y9) := Lib.hid (by rw [hy9, HY7.out, HY5.out]; rfl)
          clear HS hy9
          obtain ⟨c, e, b⟩ := y9
          have te := H9.out.rd.c0
          go_wp2_with fail
          refine (mem_err R e wr te).mono ?_
          rintro x w9 ⟨rfl, rfl⟩
          clear te
          by_cases he : e = 0
          · subst he
            have HB0 := Lib.hid (rd_left R 0 b wr H9.out.rd)
            have HB1 := Lib.hid (rd_raw R 0 b (b.size : Int) wr H9.out.rd (by have : b.size ≤ 100000000 := H9.out.sz; unfold maxLen; omega))
            have HRR : Hid (WireM.raw 0 b (b.size : Int) = (b, 0, b.extract b.size b.size)) := Lib.hid (by
              rw [WireM.raw_ok b b.size (Nat.le_refl _)]
              have : b.extract 0 b.size = b := by
                apply nl_inj
                rw [nl_extract, Nat.sub_zero, List.drop_zero, List.take_of_length_le (by rw [nl_length]; exact Nat.le_refl _)]
              rw [this])
            have HKP : Hid (∀ x w', RawPost wr R 0 b (b.size : Int) x w' → x = .returned (.string b) ∧ Kq.Keeps (· = R) wr w') := Lib.hid (fun x w' h => by
              obtain ⟨h1, h2, h3⟩ := h
              rw [HRR.out] at h1
              exact ⟨h1, h3⟩)
            have HLF : Hid (leftOf 0 b = b.size) := Lib.hid (if_pos rfl)
            go_wp2
            have hS : wr.drew.cell? ⟨C1, 0, none⟩ = some (.int .i64 c.sec) ∧ wr.drew.cell? ⟨C1, 1, none⟩ = some (.int .i64 c.secs) ∧ wr.drew.cell? ⟨C1, 2, none⟩ = some (.int .i64 c.tb) ∧ wr.drew.cell? ⟨C1, 3, none⟩ = some (.int .i64 c.bt) ∧ wr.drew.cell? ⟨C1, 4, none⟩ = some (.int .i64 c.sc) ∧ wr.drew.cell? ⟨C1, 5, none⟩ = some (.int .u64 c.h0) ∧ wr.drew.cell? ⟨C1, 6, none⟩ = some (.int .u64 c.h1) ∧ wr.drew.cell? ⟨C1, 7, none⟩ = some (.int .u64 c.s0) ∧ wr.drew.cell? ⟨C1, 8, none⟩ = some (.int .u64 c.s1) := ⟨Kq.blk_cell H9.out.c1 0, Kq.blk_cell H9.out.c1 1, Kq.blk_cell H9.out.c1 2, Kq.blk_cell H9.out.c1 3, Kq.blk_cell H9.out.c1 4, Kq.blk_cell H9.out.c1 5, Kq.blk_cell H9.out.c1 6, Kq.blk_cell H9.out.c1 7, Kq.blk_cell H9.out.c1 8⟩
            have HD : Hid (Rd wr.drew R 0 b ∧ Below w.heap.size w wr.drew ∧ wr.drew.heap[C0]? = some (.cells CoV.zero.cells 32 (0, 0)) ∧ wr.drew.heap[C1]? = some (.cells c.cells 32 (0, 0)) ∧ Kq.Keeps (· = R) wr wr.drew) := Lib.hid ⟨H9.out.rd, H9.out.bel.drew, H9.out.c0, H9.out.c1, ⟨rfl, rfl, rfl, Nat.le_refl _, fun _ _ _ => rfl⟩⟩
            have HB0 := Lib.hid (rd_left R 0 b wr.drew HD.out.1)
            have HB1 := Lib.hid (rd_raw R 0 b (b.size : Int) wr.drew HD.out.1 (by have : b.size ≤ 100000000 := H9.out.sz; unfold maxLen; omega))
            have HKP : Hid (∀ x w', RawPost wr.drew R 0 b (b.size : Int) x w' → x = .returned (.string b) ∧ Kq.Keeps (· = R) wr.drew w') := Lib.hid (fun x w' h => by
              obtain ⟨h1, h2, h3⟩ := h
              rw [HRR.out] at h1
              exact ⟨h1, h3⟩)
            refine wp_region_held_drew (S := fun cur => cur.cell? ⟨C1, 0, none⟩ = some (.int .i64 c.sec) ∧ cur.cell? ⟨C1, 1, none⟩ = some (.int .i64 c.secs) ∧ cur.cell? ⟨C1, 2, none⟩ = some (.int .i64 c.tb) ∧ cur.cell? ⟨C1, 3, none⟩ = some (.int .i64 c.bt) ∧ cur.cell? ⟨C1, 4, none⟩ = some (.int .i64 c.sc) ∧ cur.cell? ⟨C1, 5, none⟩ = some (.int .u64 c.h0) ∧ cur.cell? ⟨C1, 6, none⟩ = some (.int .u64 c.h1) ∧ cur.cell? ⟨C1, 7, none⟩ = some (.int .u64 c.s0) ∧ cur.cell? ⟨C1, 8, none⟩ = some (.int .u64 c.s1)) (by kernel_rfl) hS (fun hS0 => ?_)
            obtain ⟨wd, hwd⟩ : ∃ z, z = wr.drew := ⟨_, rfl⟩
            rw [← hwd] at hS0 HD HB0 HB1 HKP ⊢
            clear hwd hS
            refine wpAnyH_take (i := 0) (v := ?_) rfl (by kernel_rfl) (by kernel_rfl) (by kernel_rfl) (fun _ _ _ h => h) (Or.inl ⟨by kernel_rfl, ?_⟩) (by assumption) ?_
            rotate_left
            · intro w hSw; (try dsimp only at hSw); go_simp; (try with_reducible rfl)
            refine wpAnyH_take (i := 1) (v := ?_) rfl (by kernel_rfl) (by kernel_rfl) (by kernel_rfl) (fun _ _ _ h => h) (Or.inl ⟨by kernel_rfl, ?_⟩) (by assumption) ?_
            rotate_left
            · intro w hSw; (try dsimp only at hSw); go_simp; (try with_reducible rfl)
            refine wpAnyH_take (i := 2) (v := ?_) rfl (by kernel_rfl) (by kernel_rfl) (by kernel_rfl) (fun _ _ _ h => h) (Or.inl ⟨by kernel_rfl, ?_⟩) (by assumption) ?_
            rotate_left
            · intro w hSw; (try dsimp only at hSw); go_simp; (try with_reducible rfl)
            refine wpAnyH_ready (rs := [3]) (by kernel_rfl) (by simp) ?_
            refine AllReadyH.cons rfl (fun K hK => ?_) AllReadyH.nil
            go_simp
            refine HB0.out.mono ?_
            rintro x w9 ⟨rfl, rfl⟩
            refine hK.out _ _ hS0 (fun hS0 => ?_)
            clear hK K
            rw [HLF.out]
            refine wpAnyH_ready (rs := [4]) (by kernel_rfl) (by simp) ?_
            refine AllReadyH.cons rfl (fun K hK => ?_) AllReadyH.nil
            go_simp
            refine HB1.out.mono ?_
            intro x w10 hp
            obtain ⟨rfl, k10⟩ := HKP.out x w10 hp
            clear hp
            have hS10 : w10.cell? ⟨C1, 0, none⟩ = some (.int .i64 c.sec) ∧ w10.cell? ⟨C1, 1, none⟩ = some (.int .i64 c.secs) ∧ w10.cell? ⟨C1, 2, none⟩ = some (.int .i64 c.tb) ∧ w10.cell? ⟨C1, 3, none⟩ = some (.int .i64 c.bt) ∧ w10.cell? ⟨C1, 4, none⟩ = some (.int .i64 c.sc) ∧ w10.cell? ⟨C1, 5, none⟩ = some (.int .u64 c.h0) ∧ w10.cell? ⟨C1, 6, none⟩ = some (.int .u64 c.h1) ∧ w10.cell? ⟨C1, 7, none⟩ = some (.int .u64 c.s0) ∧ w10.cell? ⟨C1, 8, none⟩ = some (.int .u64 c.s1) := by
              have hb := k10.blk HD.out.2.2.2.1 (fun e => HN.out.2.1 e.symm)
              exact ⟨Kq.blk_cell hb 0, Kq.blk_cell hb 1, Kq.blk_cell hb 2, Kq.blk_cell hb 3, Kq.blk_cell hb 4, Kq.blk_cell hb 5, Kq.blk_cell hb 6, Kq.blk_cell hb 7, Kq.blk_cell hb 8⟩
            have H10 : Hid (w10.heap[C0]? = some (.cells CoV.zero.cells 32 (0, 0)) ∧ Kq.Keeps (· = R) wd w10) := Lib.hid ⟨k10.blk HD.out.2.2.1 (fun e => HN.out.1 e.symm), k10⟩
            clear hS0 k10
            refine hK.out _ _ hS10 (fun hS0 => ?_)
            clear hK K hS10
            refine wpAnyH_ready (rs := [5]) (by kernel_rfl) (by simp) ?_
            refine AllReadyH.cons rfl (fun K hK => ?_) AllReadyH.nil
            rw [if_pos (by kernel_rfl)]
            refine wp_store_row 32 (.tmp 2) (.tmp 53) (by rfl) C0 #[.int .i64 c.sec, .int .i64 c.secs, .int .i64 c.tb, .int .i64 c.bt, .int .i64 c.sc, .int .u64 c.h0, .int .u64 c.h1, .int .u64 c.s0, .int .u64 c.s1] (by rfl) (by rfl) 32 _ H10.out.1 (by kernel_rfl) (by rfl) (cg_one c) ?_
            obtain ⟨wz, hwz⟩ : ∃ z, z = w10.setRow C0 #[.int .i64 c.sec, .int .i64 c.secs, .int .i64 c.tb, .int .i64 c.bt, .int .i64 c.sc, .int .u64 c.h0, .int .u64 c.h1, .int .u64 c.s0, .int .u64 c.s1] := ⟨_, rfl⟩
            rw [← hwz]
            have HZ : Hid (wz.heap[C0]? = some (.cells c.cells 32 (0, 0)) ∧ Below w.heap.size w wz) := Lib.hid (by
              have ks : Kq.Keeps (· = C0) w10 wz := by rw [hwz]; exact ⟨rfl, rfl, rfl, by simp, fun k _ hk => setRow_other _ _ k _ hk⟩
              refine ⟨by rw [hwz]; exact setRow_heap _ _ _ _ _ _ H10.out.1, (((Kq.Keeps.of_below (S := fun k => k = R ∨ k = C0) HD.out.2.1 (fun k h1 h2 => absurd h1 (Nat.not_le.2 h2))).trans (H10.out.2.mono (fun k _ h => Or.inl h))).trans (ks.mono (fun k _ h => Or.inr h))).below (Nat.le_refl _) (fun k hk h => ?_)⟩
              have h1 := HN.out.2.2.2.1
              have h2 := HN.out.2.2.2.2.2
              omega)
            have hSz : wz.cell? ⟨C1, 0, none⟩ = some (.int .i64 c.sec) ∧ wz.cell? ⟨C1, 1, none⟩ = some (.int .i64 c.secs) ∧ wz.cell? ⟨C1, 2, none⟩ = some (.int .i64 c.tb) ∧ wz.cell? ⟨C1, 3, none⟩ = some (.int .i64 c.bt) ∧ wz.cell? ⟨C1, 4, none⟩ = some (.int .i64 c.sc) ∧ wz.cell? ⟨C1, 5, none⟩ = some (.int .u64 c.h0) ∧ wz.cell? ⟨C1, 6, none⟩ = some (.int .u64 c.h1) ∧ wz.cell? ⟨C1, 7, none⟩ = some (.int .u64 c.s0) ∧ wz.cell? ⟨C1, 8, none⟩ = some (.int .u64 c.s1) := by
              have hn := HN.out.2.2.1
              have hc : ∀ i, wz.cell? ⟨C1, i, none⟩ = w10.cell? ⟨C1, i, none⟩ := fun i => by rw [hwz]; exact cell_setRow_other _ _ _ _ (fun e => hn e.symm)
              obtain ⟨s0, s1, s2, s3, s4, s5, s6, s7, s8⟩ := hS0
              exact ⟨(hc 0).trans s0, (hc 1).trans s1, (hc 2).trans s2, (hc 3).trans s3, (hc 4).trans s4, (hc 5).trans s5, (hc 6).trans s6, (hc 7).trans s7, (hc 8).trans s8⟩
            clear hwz hS0
            refine hK.out _ _ hSz (fun hS0 => ?_)
            clear hK K hSz
            refine wpAnyH_take (i := 6) (v := ?_) rfl (by kernel_rfl) (by kernel_rfl) (by kernel_rfl) (fun _ _ _ h => h) (Or.inl ⟨by kernel_rfl, ?_⟩) (by assumption) ?_
            rotate_left
            · intro w hSw; (try dsimp only at hSw); go_simp; (try with_reducible rfl)
            refine wpAnyH_take (i := 7) (v := ?_) rfl (by kernel_rfl) (by kernel_rfl) (by kernel_rfl) (fun _ _ _ h => h) (Or.inl ⟨by kernel_rfl, ?_⟩) (by assumption) ?_
            rotate_left
            · intro w hSw; (try dsimp only at hSw); go_simp; (try with_reducible rfl)
            clear hS0
            refine wpAnyH_done (by kernel_rfl) ?_ _
            go_wp2
            have z0 := Kq.blk_cell HZ.out.1 0
            have z1 := Kq.blk_cell HZ.out.1 1
            have z2 := Kq.blk_cell HZ.out.1 2
            have z3 := Kq.blk_cell HZ.out.1 3
            have z4 := Kq.blk_cell HZ.out.1 4
            have z5 := Kq.blk_cell HZ.out.1 5
            have z6 := Kq.blk_cell HZ.out.1 6
            have z7 := Kq.blk_cell HZ.out.1 7
            have z8 := Kq.blk_cell HZ.out.1 8
            refine bodyPost_ret (v := .tuple #[.agg c.cells, .string b, .int .i64 0]) (by simp [results, Try.results14, go_sem, z0, z1, z2, z3, z4, z5, z6, z7, z8, CoV.cells]) rfl ?_
            rw [HE.out]
            exact ⟨HZ.out.2, fun _ => rfl, fun h => absurd rfl h⟩
          · have te : (e != 0) = true := bne_iff_ne.2 he
            have HK := Lib.hid he
            clear he
            go_wp2_with (refine wpList_store_row (by rfl) 32 (.tmp 2) (.tmp 51) (by rfl) C0 #[.int .i64 0, .int .i64 0, .int .i64 0, .int .i64 0, .int .i64 0, .int .u64 0, .int .u64 0, .int .u64 0, .int .u64 0] (by rfl) (by rfl) 32 _ H9.out.c0 (by kernel_rfl) (by rfl) (cg_one CoV.zero) ?_)
            obtain ⟨wz, hwz⟩ : ∃ z, z = wr.setRow C0 #[.int .i64 0, .int .i64 0, .int .i64 0, .int .i64 0, .int .i64 0, .int .u64 0, .int .u64 0, .int .u64 0, .int .u64 0] := ⟨_, rfl⟩
            rw [← hwz]
            have HZ : Hid (wz.heap[C0]? = some (.cells CoV.zero.cells 32 (0, 0)) ∧ Below w.heap.size w wz) := Lib.hid (by
              have ks : Kq.Keeps (· = C0) wr wz := by rw [hwz]; exact ⟨rfl, rfl, rfl, by simp, fun k _ hk => setRow_other _ _ k _ hk⟩
              exact ⟨by rw [hwz]; exact setRow_heap _ _ _ _ _ _ H9.out.c0, ((keeps_any (S := (· = C0)) (H9.out.bel.mono (Nat.le_refl _))).trans ks).below (Nat.le_refl _) (fun k hk h => by have := HN.out.2.2.2.1; omega)⟩)
            clear hwz te
            go_wp2
            have z0 := Kq.blk_cell HZ.out.1 0
            have z1 := Kq.blk_cell HZ.out.1 1
            have z2 := Kq.blk_cell HZ.out.1 2
            have z3 := Kq.blk_cell HZ.out.1 3
            have z4 := Kq.blk_cell HZ.out.1 4
            have z5 := Kq.blk_cell HZ.out.1 5
            have z6 := Kq.blk_cell HZ.out.1 6
            have z7 := Kq.blk_cell HZ.out.1 7
            have z8 := Kq.blk_cell HZ.out.1 8
            refine bodyPost_ret (v := .tuple #[.agg CoV.zero.cells, .string ⟨#[]⟩, .int .i64 e]) (by simp [results, Try.results14, go_sem, z0, z1, z2, z3, z4, z5, z6, z7, z8, CoV.zero, CoV.cells]) rfl ?_
            rw [HE.out]
            exact ⟨HZ.out.2, fun h => absurd h HK.out, fun _ => rfl⟩
end Go.Proofs.Ytjilbcefikbihaa
