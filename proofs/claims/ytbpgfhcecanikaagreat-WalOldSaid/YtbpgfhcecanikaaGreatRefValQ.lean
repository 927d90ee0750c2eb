/- Merged: FrStrs, HdGet, RefVal. A slice of texts among the arguments, opened, with its capacity; rows of texts with theirs. No condition. Contract of head.Get. No condition but that lengths are ints. Contract of carrackref03.Value: a number of bytes. Condition: eight bytes at most. -/
import Derived.Test.YtbpgfhcecanikaaGreatChecked
import Derived.Lib.SmallJoins
import Derived.SliceStrings
import Derived.SizedLaws
import Derived.Test.YtbpgfhcecanikaaGreatStrsOpenQ
import Derived.Test.YtbpgfhcecanikaaGreatFrScanQ
import Derived.WalkSpells
import Derived.Test.YtbpgfhcecanikaaGreatWireRd2Q
namespace Go.Proofs.YtbpgfhcecanikaaGreat
open Go.RowKit Go.ChangeShapes Go.WideShapes Go.Joins
set_option linter.unusedVariables false
set_option maxRecDepth 100000 in
theorem strs_open_cap {H : Type} {enc : TypeId × Value → H} {W : World} {base : Nat} {v : Value} {d : DataW H} {p : List MemPlace}
    (hval : Value.okWide Tryz.prog W .any base 35 v) (h : DataW.Trod enc Tryz.prog W 0 (fun _ => true) true 35 v d p) (hz : ∀ n ∈ d.weights Tryz.prog 35, n ≤ reachBytes) :
    ∃ A cap l, v = .slice A l.length cap ∧ l.length ≤ maxLen ∧ (∀ s ∈ l, s.size ≤ maxLen) ∧ StrsAt W A l ∧ l.length ≤ cap ∧ cap ≤ maxLen := by
  obtain ⟨A, cap, l, rfl, h1, h2, h3⟩ := strs_open hval h hz
  refine ⟨A, cap, l, rfl, h1, h2, h3, ?_⟩
  obtain ⟨fuel, hf⟩ := h
  rcases open_strings Tryz.underlying35 Tryz.underlying9 (by kernel_rfl) hf with ⟨hcs, _⟩ | ⟨a, len', cap', ss, hcs, _, hl, hm, hss, _, hcell, hsz⟩
  · simp [Value.cells] at hcs
    obtain ⟨-, h4, h5⟩ := hcs
    exact ⟨by rw [h5]; simp [h4], by rw [h5]; exact Nat.zero_le _⟩
  · simp [Value.cells] at hcs
    obtain ⟨-, h4, h5⟩ := hcs
    omega
theorem row_strs_cap {R : Nat} {v : Value} {l : List ByteArray} {w : World} (h : w.ownsRow R 9 1 v l.length (tcells l)) : ∃ A cap, v = .slice A l.length cap ∧ StrsAt w A l ∧ l.length ≤ cap ∧ cap ≤ maxLen := by
  obtain ⟨A, cap, rfl, hA⟩ := row_strs h
  refine ⟨A, cap, rfl, hA, ?_⟩
  rcases h.2 with ⟨e, e2⟩ | ⟨g, cap', cur, e, h3, h4, h5, h6, h7, h8⟩
  · simp at e
    exact ⟨by omega, by omega⟩
  · cases e
    exact ⟨h5, h6⟩
theorem StrsAt.take {w : World} {A : Option Addr} {l : List ByteArray} (h : StrsAt w A l) (n : Nat) : StrsAt w A (l.take n) := ⟨fun j hj => by
  have hj' : j < l.length := by rw [List.length_take] at hj; omega
  obtain ⟨g, o, hA, hg, hc⟩ := h.at_ j hj'
  exact ⟨g, o, hA, hg, by rw [hc, List.getElem_take]⟩⟩
theorem scan_open_cap {a : Int} {g : Nat} {s : ByteArray} {w w' : World} {e : Ending} {l : List ByteArray} {u : Nat} (hq : scanAll a g s = (l, u)) (h : ScanPost a g s w e w') :
    ∃ A cap, e = .returned (.tuple #[.slice A l.length cap, .int .i64 (u : Int)]) ∧ StrsAt w' A l ∧ l.length ≤ cap ∧ cap ≤ maxLen ∧ Below w.heap.size w w' := by
  unfold ScanPost at h
  rw [hq] at h
  obtain ⟨v, rfl, hrow, hb⟩ := h
  obtain ⟨A, ca, rfl, hA, h1, h2⟩ := row_strs_cap hrow
  exact ⟨A, ca, rfl, hA, h1, h2, hb⟩
end Go.Proofs.YtbpgfhcecanikaaGreat
namespace Go.Proofs.YtbpgfhcecanikaaGreat
open Go.RowKit
set_option linter.unusedVariables false
/-- is a sector a head's? -/
def hdGoodB (a : Nat) (s : ByteArray) : Bool := (decide (64 ≤ a ∧ a ≤ 512 ∧ s.size = a) && rightB s) && (decide (0 < gOf s ∧ sOf s ≤ 1) && decide (nl (hdPut a (gOf s) (sOf s)) = nl s))
def hdErr (a : Nat) (s : ByteArray) : Int := if 64 ≤ a ∧ a ≤ 512 then (if s.size = a then (if rightB s = true then 5 else 8) else 6) else 1
structure HdGood (a : Nat) (s : ByteArray) : Prop where
  ha : 64 ≤ a ∧ a ≤ 512
  hs : s.size = a
  hr : rightB s = true
  hg : 0 < gOf s ∧ sOf s ≤ 1
  hp : hdPut a (gOf s) (sOf s) = s
theorem good_of {a : Nat} {s : ByteArray} (h : hdGoodB a s = true) : HdGood a s := by
  unfold hdGoodB at h
  simp only [Bool.and_eq_true, decide_eq_true_eq] at h
  exact ⟨⟨h.1.1.1, h.1.1.2.1⟩, h.1.1.2.2, h.1.2, h.2.1, nl_inj h.2.2⟩
theorem of_good {a : Nat} {s : ByteArray} (h : HdGood a s) : hdGoodB a s = true := by
  unfold hdGoodB
  simp only [Bool.and_eq_true, decide_eq_true_eq]
  exact ⟨⟨⟨h.ha.1, h.ha.2, h.hs⟩, h.hr⟩, h.hg, congrArg nl h.hp⟩
theorem HdGood.ok {a : Nat} {s : ByteArray} (h : HdGood a s) : HdOk a (gOf s) (sOf s) := ⟨by have := h.ha; omega, by have := h.ha; omega, h.hg.1, by omega, by have := h.hg.2; omega⟩
theorem gOf_lt (s : ByteArray) : gOf s < M64 := by
  unfold gOf
  refine Nat.lt_of_lt_of_le (WireM.val_lt _ (fun b hb => nl_lt s b (List.mem_of_mem_drop (List.mem_of_mem_take hb)))) ?_
  have : (((nl s).drop 1).take 8).length ≤ 8 := by rw [List.length_take]; omega
  exact Nat.le_trans (Nat.pow_le_pow_right (by decide) this) (by unfold M64; decide)
theorem read_two (s : ByteArray) (h : 10 ≤ s.size) :
    ∃ t r t2 r2, WireM.raw 0 (s.extract 1 s.size) (8 : Nat) = (t, 0, r) ∧ WireM.val (nl t) = gOf s ∧ WireM.raw 0 r (1 : Nat) = (t2, 0, r2) ∧ WireM.val (nl t2) = sOf s ∧ r.size ≤ s.size := by
  have hz : (s.extract 1 s.size).size = s.size - 1 := by simp
  refine ⟨_, _, _, _, WireM.raw_ok _ 8 (by omega), ?_, WireM.raw_ok _ 1 (by simp; omega), ?_, by simp; omega⟩
  · rw [nl_extract, nl_extract, List.drop_zero, Nat.sub_zero]
    unfold gOf
    congr 1
    rw [List.take_take]
    congr 1
    omega
  · rw [nl_extract, nl_extract, nl_extract, List.drop_zero, Nat.sub_zero]
    have e : (((nl s).drop 1).take (s.size - 1)) = (nl s).drop 1 := List.take_of_length_le (by rw [List.length_drop, nl_length]; exact Nat.le_refl _)
    rw [e, hz]
    have h9 : 9 < (nl s).length := by rw [nl_length]; omega
    rw [List.drop_drop, List.drop_eq_getElem_cons h9]
    rw [show s.size - 1 - 8 = (s.size - 10) + 1 by omega, List.take_succ_cons, List.take_succ_cons, List.take_zero]
    unfold sOf
    rw [List.getD_eq_getElem?_getD, List.getElem?_eq_getElem h9]
    simp [WireM.val]
set_option maxRecDepth 100000 in
set_option maxHeartbeats 1000000 in
theorem hd_get_1 (a : Int) (s : ByteArray) (w : World) (h : ¬ (64 ≤ a ∧ a ≤ 512)) :
    Calls Tryz.prog 79 #[.int .i64 a, .string s] w fun x w' => x = .returned (.tuple #[.agg #[.int .u64 0, .int .i64 0], .int .i64 1]) ∧ Below w.heap.size w w' := by
  have HD : Hid (decide (64 ≤ a ∧ a ≤ 512) = false) := Lib.hid (decide_eq_false h)
  clear h
  go_enter Tryz.func79, Tryz.ntmps79
  go_wp2_with fail
  refine (hd_fits a _).mono ?_
  rw [HD.out]
  rintro x w1 ⟨rfl, rfl⟩
  go_wp2
  refine bodyPost_ret (v := .tuple #[.agg #[.int .u64 0, .int .i64 0], .int .i64 1]) (by simp [results, Tryz.results79, go_sem]) rfl ?_
  exact ⟨rfl, Kq.below_alloc _ _⟩
set_option maxRecDepth 100000 in
set_option maxHeartbeats 1000000 in
theorem hd_get_6 (a : Int) (s : ByteArray) (w : World) (h : 64 ≤ a ∧ a ≤ 512) (hs : (s.size : Int) ≠ a) :
    Calls Tryz.prog 79 #[.int .i64 a, .string s] w fun x w' => x = .returned (.tuple #[.agg #[.int .u64 0, .int .i64 0], .int .i64 6]) ∧ Below w.heap.size w w' := by
  have HD : Hid (decide (64 ≤ a ∧ a ≤ 512) = true) := Lib.hid (decide_eq_true h)
  have hne : ((s.size : Int) != a) = true := by simpa using hs
  clear h hs
  go_enter Tryz.func79, Tryz.ntmps79
  go_wp2_with fail
  refine (hd_fits a _).mono ?_
  rw [HD.out]
  rintro x w1 ⟨rfl, rfl⟩
  go_wp2
  refine bodyPost_ret (v := .tuple #[.agg #[.int .u64 0, .int .i64 0], .int .i64 6]) (by simp [results, Tryz.results79, go_sem]) rfl ?_
  exact ⟨rfl, Kq.below_alloc _ _⟩
/-- two cells filled -/
def fill2 (w : World) (R : Nat) (g sg : Int) : World := (w.setCell ⟨R, 0, none⟩ (.int .u64 g)).setCell ⟨R, 1, none⟩ (.int .i64 sg)
theorem fill2_keeps (w : World) (R : Nat) (g sg : Int) : Kq.Keeps (· = R) w (fill2 w R g sg) := (Kq.Keeps.setCell (S := (· = R)) w ⟨R, 0, none⟩ _ rfl).trans (Kq.Keeps.setCell (S := (· = R)) _ ⟨R, 1, none⟩ _ rfl)
theorem fill2_blk {w : World} {R : Nat} {x y : Value} {t : TypeId} (h : w.heap[R]? = some (.cells #[x, y] t (0, 0))) (g sg : Int) : (fill2 w R g sg).heap[R]? = some (.cells #[.int .u64 g, .int .i64 sg] t (0, 0)) := Kq.blk_set (Kq.blk_set h 0 _) 1 _
set_option maxRecDepth 100000 in
set_option maxHeartbeats 1000000 in
theorem hd_get_8 (a : Nat) (s : ByteArray) (w : World) (h : 64 ≤ a ∧ a ≤ 512) (hs : s.size = a) (hr : rightB s = false) :
    Calls Tryz.prog 79 #[.int .i64 (a : Int), .string s] w fun x w' => x = .returned (.tuple #[.agg #[.int .u64 0, .int .i64 0], .int .i64 8]) ∧ Below w.heap.size w w' := by
  have HD : Hid (decide (64 ≤ (a : Int) ∧ (a : Int) ≤ 512) = true) := Lib.hid (decide_eq_true (by omega))
  have hne : ((s.size : Int) != (a : Int)) = false := by simp [hs]
  have hne2 : (s.size != a) = false := by simp [hs]
  have HS := Lib.hid (And.intro h hs)
  have HR := Lib.hid hr
  have HX := Lib.hid (Kq.blk_new w #[.int .u64 0, .int .i64 0] 84 (0, 0))
  clear h hs hr
  go_enter Tryz.func79, Tryz.ntmps79
  go_wp2_with fail
  refine (hd_fits a _).mono ?_
  rw [HD.out]
  rintro x w1 ⟨rfl, rfl⟩
  go_wp2_with fail
  refine (crc_right s _ (by have := HS.out; unfold maxLen; omega) (by have := HS.out; omega)).mono ?_
  rw [HR.out]
  rintro x w2 ⟨rfl, b2⟩
  have HB := Lib.hid ((Kq.below_alloc w _).trans (b2.mono (Kq.below_alloc w _).size))
  have hbk := Kq.below_blk b2 HX.out (Kq.blk_lt HX.out)
  have HBK := Lib.hid hbk
  have c0 := Kq.blk_cell hbk 0
  have c1 := Kq.blk_cell hbk 1
  have f0 := Kq.blk_free hbk 0
  have f1 := Kq.blk_free hbk 1
  clear b2 hbk
  go_wp2
  change bodyPost _ _ _ _ _ (fill2 w2 w.heap.size 0 0)
  have p1 := fill2_blk HBK.out 0 0
  have p2 := fill2_keeps w2 w.heap.size 0 0
  generalize fill2 w2 w.heap.size 0 0 = z at *
  have z0 := Kq.blk_cell p1 0
  have z1 := Kq.blk_cell p1 1
  refine bodyPost_ret (v := .tuple #[.agg #[.int .u64 0, .int .i64 0], .int .i64 8]) (by simp [results, Tryz.results79, go_sem, z0, z1]) rfl ?_
  exact ⟨rfl, HB.out.trans (p2.below HB.out.size (fun k _ e => by subst e; exact Nat.le_refl _))⟩
/-- the way to what is told: through Put -/
def GS (w wr : World) (R Hh : Nat) (g sg : Int) : Prop := wr.heap[R]? = some (.cells #[.int .u64 0, .int .i64 0] 84 (0, 0)) ∧ wr.heap[Hh]? = some (.cells #[.int .u64 g, .int .i64 sg] 84 (0, 0)) ∧ R ≠ Hh ∧ Below w.heap.size w wr
theorem GS.below {w wr w' : World} {R Hh : Nat} {g sg : Int} (h : GS w wr R Hh g sg) (hb : Below wr.heap.size wr w') : GS w w' R Hh g sg :=
  ⟨Kq.below_blk hb h.1 (Kq.blk_lt h.1), Kq.below_blk hb h.2.1 (Kq.blk_lt h.2.1), h.2.2.1, h.2.2.2.trans (hb.mono h.2.2.2.size)⟩
set_option maxRecDepth 100000 in
set_option maxHeartbeats 2000000 in
theorem hd_get_ok (a : Nat) (s : ByteArray) (w : World) (h : 64 ≤ a ∧ a ≤ 512) (hs : s.size = a) (hr : rightB s = true) (h3 : HdOk a (gOf s) (sOf s)) (h4 : hdPut a (gOf s) (sOf s) = s) :
    Calls Tryz.prog 79 #[.int .i64 (a : Int), .string s] w fun x w' => x = .returned (.tuple #[.agg #[.int .u64 ((gOf s : Nat) : Int), .int .i64 ((sOf s : Nat) : Int)], .int .i64 0]) ∧ Below w.heap.size w w' := by
  have HD : Hid (decide (64 ≤ (a : Int) ∧ (a : Int) ≤ 512) = true) := Lib.hid (decide_eq_true (by omega))
  have hne : ((s.size : Int) != (a : Int)) = false := by simp [hs]
  have hne2 : (s.size != a) = false := by simp [hs]
  have h1s : (1 : Int) ≤ (s.size : Int) := by omega
  have HS := Lib.hid (And.intro h hs)
  have HR := Lib.hid hr
  have HX := Lib.hid (Kq.blk_new w #[.int .u64 0, .int .i64 0] 84 (0, 0))
  obtain ⟨t, r, t2, r2, e1, e2, e3, e4, e5⟩ := read_two s (by omega)
  have HE := Lib.hid (And.intro e1 (And.intro e2 (And.intro e3 (And.intro e4 e5))))
  have HGL := Lib.hid (gOf_lt s)
  have HZ : Hid ((s.extract 1 s.size).size ≤ maxLen ∧ r.size ≤ maxLen) := Lib.hid ⟨by unfold maxLen; simp; omega, by unfold maxLen; omega⟩
  have HO := Lib.hid (And.intro h3 h4)
  clear h3 h4
  clear h hs hr e1 e2 e3 e4 e5
  go_enter Tryz.func79, Tryz.ntmps79
  go_wp2_with fail
  refine (hd_fits a _).mono ?_
  rw [HD.out]
  rintro x w1 ⟨rfl, rfl⟩
  go_wp2_with fail
  refine (crc_right s _ (by have := HS.out; unfold maxLen; omega) (by have := HS.out; omega)).mono ?_
  rw [HR.out]
  rintro x w2 ⟨rfl, b2⟩
  have H2 := Lib.hid (And.intro (Kq.below_blk b2 HX.out (Kq.blk_lt HX.out)) ((Kq.below_alloc w _).trans (b2.mono (Kq.below_alloc w _).size)))
  clear b2 hne hne2
  go_wp2_with fail
  refine (rd_new (s.extract 1 s.size) _).mono ?_
  rintro x w3 ⟨rfl, R3, b3⟩
  have hlt3 : w.heap.size < w2.heap.size := Kq.blk_lt H2.out.1
  have H3 := Lib.hid (And.intro R3 (And.intro (Kq.below_blk b3 H2.out.1 (Kq.blk_lt H2.out.1)) (H2.out.2.trans (b3.mono H2.out.2.size))))
  clear R3 b3 H2
  generalize w2.heap.size = B at *
  have HLT := Lib.hid hlt3
  clear hlt3
  go_wp2_with fail
  refine (rd_number B 0 _ _ H3.out.1 HZ.out.1).mono ?_
  intro x w4 hp
  unfold WholePost at hp
  rw [HE.out.1] at hp
  simp only at hp
  rw [HE.out.2.1] at hp
  obtain ⟨rfl, R4, K4⟩ := hp
  have H4 := Lib.hid (And.intro R4 (And.intro (K4.blk H3.out.2.1 (by have := HLT.out; omega)) (H3.out.2.2.trans (K4.below H3.out.2.2.size (fun k _ e => by subst e; exact Nat.le_of_lt HLT.out)))))
  clear R4 K4 H3
  have HQ : Hid (Rd (w4.alloc (.cells #[.int .u64 ((gOf s : Nat) : Int), .int .i64 0] 84)) B 0 r ∧ (w4.alloc (.cells #[.int .u64 ((gOf s : Nat) : Int), .int .i64 0] 84)).heap[w.heap.size]? = some (.cells #[.int .u64 0, .int .i64 0] 84 (0, 0)) ∧ (w4.alloc (.cells #[.int .u64 ((gOf s : Nat) : Int), .int .i64 0] 84)).heap[w4.heap.size]? = some (.cells #[.int .u64 ((gOf s : Nat) : Int), .int .i64 0] 84 (0, 0)) ∧ Below w.heap.size w (w4.alloc (.cells #[.int .u64 ((gOf s : Nat) : Int), .int .i64 0] 84)) ∧ B < w4.heap.size ∧ w.heap.size < w4.heap.size) :=
    Lib.hid ⟨Kq.below_blk (Kq.below_alloc w4 _) H4.out.1 (Kq.blk_lt H4.out.1), Kq.below_blk (Kq.below_alloc w4 _) H4.out.2.1 (Kq.blk_lt H4.out.2.1), Kq.blk_new _ _ _ _, H4.out.2.2.trans ((Kq.below_alloc w4 _).mono H4.out.2.2.size), Kq.blk_lt H4.out.1, Kq.blk_lt H4.out.2.1⟩
  go_wp2_with fail
  refine (rd_byte B 0 r _ HQ.out.1 HZ.out.2).mono ?_
  intro x w5 hp
  unfold BytePost at hp
  rw [HE.out.2.2.1] at hp
  simp only at hp
  rw [HE.out.2.2.2.1] at hp
  obtain ⟨rfl, R5, K5⟩ := hp
  have H5 := Lib.hid (And.intro (K5.blk HQ.out.2.1 (by have := HLT.out; omega)) (And.intro (K5.blk HQ.out.2.2.1 (by have := HQ.out.2.2.2.2.1; omega)) (HQ.out.2.2.2.1.trans (K5.below HQ.out.2.2.2.1.size (fun k _ e => by subst e; exact Nat.le_of_lt HLT.out)))))
  have HNE := Lib.hid HQ.out.2.2.2.2.2
  clear R5 K5 H4 HQ
  generalize w4.heap.size = Hh at *
  have c0 := Kq.blk_cell H5.out.2.1 0
  have c1 := Kq.blk_cell H5.out.2.1 1
  have f1 := Kq.blk_free H5.out.2.1 1
  have G6 : Hid (GS w (w5.setCell ⟨Hh, 1, none⟩ (.int .i64 ((sOf s : Nat) : Int))) w.heap.size Hh (gOf s : Nat) (sOf s : Nat)) :=
    Lib.hid ⟨(Kq.Keeps.setCell (S := (· = Hh)) w5 ⟨Hh, 1, none⟩ _ rfl).blk H5.out.1 (Nat.ne_of_lt HNE.out), Kq.blk_set H5.out.2.1 1 _, Nat.ne_of_lt HNE.out, H5.out.2.2.trans ((Kq.Keeps.setCell (S := (· = Hh)) w5 ⟨Hh, 1, none⟩ _ rfl).below H5.out.2.2.size (fun k _ e => by subst e; exact Nat.le_of_lt HNE.out))⟩
  go_wp2_with fail
  clear c0 c1 f1
  refine (hd_put_ok a (gOf s) (sOf s) _ HO.out.1 HGL.out).mono ?_
  rw [HO.out.2]
  rintro x w7 ⟨rfl, b7⟩
  have G7 := Lib.hid (G6.out.below b7)
  clear b7 G6 H5
  have c0 := Kq.blk_cell G7.out.2.1 0
  have c1 := Kq.blk_cell G7.out.2.1 1
  have r0 := Kq.blk_cell G7.out.1 0
  have r1 := Kq.blk_cell G7.out.1 1
  have q0 := Kq.blk_free G7.out.1 0
  have q1 := Kq.blk_free G7.out.1 1
  have hne1 : ¬ w.heap.size = Hh := G7.out.2.2.1
  have hne2 : ¬ Hh = w.heap.size := fun e => hne1 e.symm
  go_wp2
  change bodyPost _ _ _ _ _ (fill2 w7 w.heap.size ((gOf s : Nat) : Int) ((sOf s : Nat) : Int))
  have p1 := fill2_blk G7.out.1 ((gOf s : Nat) : Int) ((sOf s : Nat) : Int)
  have p2 := fill2_keeps w7 w.heap.size ((gOf s : Nat) : Int) ((sOf s : Nat) : Int)
  generalize fill2 w7 w.heap.size ((gOf s : Nat) : Int) ((sOf s : Nat) : Int) = z at *
  have z0 := Kq.blk_cell p1 0
  have z1 := Kq.blk_cell p1 1
  refine bodyPost_ret (v := .tuple #[.agg #[.int .u64 ((gOf s : Nat) : Int), .int .i64 ((sOf s : Nat) : Int)], .int .i64 0]) (by simp [results, Tryz.results79, go_sem, z0, z1]) rfl ?_
  exact ⟨rfl, G7.out.2.2.2.trans (p2.below G7.out.2.2.2.size (fun k _ e => by subst e; exact Nat.le_refl _))⟩
set_option maxRecDepth 100000 in
set_option maxHeartbeats 2000000 in
theorem hd_get_ne (a : Nat) (s : ByteArray) (w : World) (h : 64 ≤ a ∧ a ≤ 512) (hs : s.size = a) (hr : rightB s = true) (h3 : HdOk a (gOf s) (sOf s)) (h4 : hdPut a (gOf s) (sOf s) ≠ s) :
    Calls Tryz.prog 79 #[.int .i64 (a : Int), .string s] w fun x w' => x = .returned (.tuple #[.agg #[.int .u64 0, .int .i64 0], .int .i64 5]) ∧ Below w.heap.size w w' := by
  have HD : Hid (decide (64 ≤ (a : Int) ∧ (a : Int) ≤ 512) = true) := Lib.hid (decide_eq_true (by omega))
  have hne : ((s.size : Int) != (a : Int)) = false := by simp [hs]
  have hne2 : (s.size != a) = false := by simp [hs]
  have h1s : (1 : Int) ≤ (s.size : Int) := by omega
  have HS := Lib.hid (And.intro h hs)
  have HR := Lib.hid hr
  have HX := Lib.hid (Kq.blk_new w #[.int .u64 0, .int .i64 0] 84 (0, 0))
  obtain ⟨t, r, t2, r2, e1, e2, e3, e4, e5⟩ := read_two s (by omega)
  have HE := Lib.hid (And.intro e1 (And.intro e2 (And.intro e3 (And.intro e4 e5))))
  have HGL := Lib.hid (gOf_lt s)
  have HZ : Hid ((s.extract 1 s.size).size ≤ maxLen ∧ r.size ≤ maxLen) := Lib.hid ⟨by unfold maxLen; simp; omega, by unfold maxLen; omega⟩
  have hq : ((hdPut a (gOf s) (sOf s)).toList == s.toList) = false := by
    rw [eq_text]
    exact decide_eq_false (fun e => h4 (nl_inj e))
  have HO := Lib.hid h3
  clear h3 h4
  clear h hs hr e1 e2 e3 e4 e5
  go_enter Tryz.func79, Tryz.ntmps79
  go_wp2_with fail
  refine (hd_fits a _).mono ?_
  rw [HD.out]
  rintro x w1 ⟨rfl, rfl⟩
  go_wp2_with fail
  refine (crc_right s _ (by have := HS.out; unfold maxLen; omega) (by have := HS.out; omega)).mono ?_
  rw [HR.out]
  rintro x w2 ⟨rfl, b2⟩
  have H2 := Lib.hid (And.intro (Kq.below_blk b2 HX.out (Kq.blk_lt HX.out)) ((Kq.below_alloc w _).trans (b2.mono (Kq.below_alloc w _).size)))
  clear b2 hne hne2
  go_wp2_with fail
  refine (rd_new (s.extract 1 s.size) _).mono ?_
  rintro x w3 ⟨rfl, R3, b3⟩
  have hlt3 : w.heap.size < w2.heap.size := Kq.blk_lt H2.out.1
  have H3 := Lib.hid (And.intro R3 (And.intro (Kq.below_blk b3 H2.out.1 (Kq.blk_lt H2.out.1)) (H2.out.2.trans (b3.mono H2.out.2.size))))
  clear R3 b3 H2
  generalize w2.heap.size = B at *
  have HLT := Lib.hid hlt3
  clear hlt3
  go_wp2_with fail
  refine (rd_number B 0 _ _ H3.out.1 HZ.out.1).mono ?_
  intro x w4 hp
  unfold WholePost at hp
  rw [HE.out.1] at hp
  simp only at hp
  rw [HE.out.2.1] at hp
  obtain ⟨rfl, R4, K4⟩ := hp
  have H4 := Lib.hid (And.intro R4 (And.intro (K4.blk H3.out.2.1 (by have := HLT.out; omega)) (H3.out.2.2.trans (K4.below H3.out.2.2.size (fun k _ e => by subst e; exact Nat.le_of_lt HLT.out)))))
  clear R4 K4 H3
  have HQ : Hid (Rd (w4.alloc (.cells #[.int .u64 ((gOf s : Nat) : Int), .int .i64 0] 84)) B 0 r ∧ (w4.alloc (.cells #[.int .u64 ((gOf s : Nat) : Int), .int .i64 0] 84)).heap[w.heap.size]? = some (.cells #[.int .u64 0, .int .i64 0] 84 (0, 0)) ∧ (w4.alloc (.cells #[.int .u64 ((gOf s : Nat) : Int), .int .i64 0] 84)).heap[w4.heap.size]? = some (.cells #[.int .u64 ((gOf s : Nat) : Int), .int .i64 0] 84 (0, 0)) ∧ Below w.heap.size w (w4.alloc (.cells #[.int .u64 ((gOf s : Nat) : Int), .int .i64 0] 84)) ∧ B < w4.heap.size ∧ w.heap.size < w4.heap.size) :=
    Lib.hid ⟨Kq.below_blk (Kq.below_alloc w4 _) H4.out.1 (Kq.blk_lt H4.out.1), Kq.below_blk (Kq.below_alloc w4 _) H4.out.2.1 (Kq.blk_lt H4.out.2.1), Kq.blk_new _ _ _ _, H4.out.2.2.trans ((Kq.below_alloc w4 _).mono H4.out.2.2.size), Kq.blk_lt H4.out.1, Kq.blk_lt H4.out.2.1⟩
  go_wp2_with fail
  refine (rd_byte B 0 r _ HQ.out.1 HZ.out.2).mono ?_
  intro x w5 hp
  unfold BytePost at hp
  rw [HE.out.2.2.1] at hp
  simp only at hp
  rw [HE.out.2.2.2.1] at hp
  obtain ⟨rfl, R5, K5⟩ := hp
  have H5 := Lib.hid (And.intro (K5.blk HQ.out.2.1 (by have := HLT.out; omega)) (And.intro (K5.blk HQ.out.2.2.1 (by have := HQ.out.2.2.2.2.1; omega)) (HQ.out.2.2.2.1.trans (K5.below HQ.out.2.2.2.1.size (fun k _ e => by subst e; exact Nat.le_of_lt HLT.out)))))
  have HNE := Lib.hid HQ.out.2.2.2.2.2
  clear R5 K5 H4 HQ
  generalize w4.heap.size = Hh at *
  have c0 := Kq.blk_cell H5.out.2.1 0
  have c1 := Kq.blk_cell H5.out.2.1 1
  have f1 := Kq.blk_free H5.out.2.1 1
  have G6 : Hid (GS w (w5.setCell ⟨Hh, 1, none⟩ (.int .i64 ((sOf s : Nat) : Int))) w.heap.size Hh (gOf s : Nat) (sOf s : Nat)) :=
    Lib.hid ⟨(Kq.Keeps.setCell (S := (· = Hh)) w5 ⟨Hh, 1, none⟩ _ rfl).blk H5.out.1 (Nat.ne_of_lt HNE.out), Kq.blk_set H5.out.2.1 1 _, Nat.ne_of_lt HNE.out, H5.out.2.2.trans ((Kq.Keeps.setCell (S := (· = Hh)) w5 ⟨Hh, 1, none⟩ _ rfl).below H5.out.2.2.size (fun k _ e => by subst e; exact Nat.le_of_lt HNE.out))⟩
  go_wp2_with fail
  clear c0 c1 f1
  refine (hd_put_ok a (gOf s) (sOf s) _ HO.out HGL.out).mono ?_
  generalize hdPut a (gOf s) (sOf s) = T at *
  rintro x w7 ⟨rfl, b7⟩
  have G7 := Lib.hid (G6.out.below b7)
  clear b7 G6 H5
  have c0 := Kq.blk_cell G7.out.2.1 0
  have c1 := Kq.blk_cell G7.out.2.1 1
  have r0 := Kq.blk_cell G7.out.1 0
  have r1 := Kq.blk_cell G7.out.1 1
  have q0 := Kq.blk_free G7.out.1 0
  have q1 := Kq.blk_free G7.out.1 1
  have hne1 : ¬ w.heap.size = Hh := G7.out.2.2.1
  have hne2 : ¬ Hh = w.heap.size := fun e => hne1 e.symm
  go_wp2
  change bodyPost _ _ _ _ _ (fill2 w7 w.heap.size 0 0)
  have p1 := fill2_blk G7.out.1 0 0
  have p2 := fill2_keeps w7 w.heap.size 0 0
  generalize fill2 w7 w.heap.size 0 0 = z at *
  have z0 := Kq.blk_cell p1 0
  have z1 := Kq.blk_cell p1 1
  refine bodyPost_ret (v := .tuple #[.agg #[.int .u64 0, .int .i64 0], .int .i64 5]) (by simp [results, Tryz.results79, go_sem, z0, z1]) rfl ?_
  exact ⟨rfl, G7.out.2.2.2.trans (p2.below G7.out.2.2.2.size (fun k _ e => by subst e; exact Nat.le_refl _))⟩
set_option maxRecDepth 100000 in
set_option maxHeartbeats 2000000 in
theorem hd_get_bad (a : Nat) (s : ByteArray) (w : World) (h : 64 ≤ a ∧ a ≤ 512) (hs : s.size = a) (hr : rightB s = true) (h3 : ¬ HdOk a (gOf s) (sOf s)) :
    Calls Tryz.prog 79 #[.int .i64 (a : Int), .string s] w fun x w' => x = .returned (.tuple #[.agg #[.int .u64 0, .int .i64 0], .int .i64 5]) ∧ Below w.heap.size w w' := by
  have HD : Hid (decide (64 ≤ (a : Int) ∧ (a : Int) ≤ 512) = true) := Lib.hid (decide_eq_true (by omega))
  have hne : ((s.size : Int) != (a : Int)) = false := by simp [hs]
  have hne2 : (s.size != a) = false := by simp [hs]
  have h1s : (1 : Int) ≤ (s.size : Int) := by omega
  have HS := Lib.hid (And.intro h hs)
  have HR := Lib.hid hr
  have HX := Lib.hid (Kq.blk_new w #[.int .u64 0, .int .i64 0] 84 (0, 0))
  obtain ⟨t, r, t2, r2, e1, e2, e3, e4, e5⟩ := read_two s (by omega)
  have HE := Lib.hid (And.intro e1 (And.intro e2 (And.intro e3 (And.intro e4 e5))))
  have HGL := Lib.hid (gOf_lt s)
  have HZ : Hid ((s.extract 1 s.size).size ≤ maxLen ∧ r.size ≤ maxLen) := Lib.hid ⟨by unfold maxLen; simp; omega, by unfold maxLen; omega⟩
  have HO := Lib.hid h3
  clear h3
  clear h hs hr e1 e2 e3 e4 e5
  go_enter Tryz.func79, Tryz.ntmps79
  go_wp2_with fail
  refine (hd_fits a _).mono ?_
  rw [HD.out]
  rintro x w1 ⟨rfl, rfl⟩
  go_wp2_with fail
  refine (crc_right s _ (by have := HS.out; unfold maxLen; omega) (by have := HS.out; omega)).mono ?_
  rw [HR.out]
  rintro x w2 ⟨rfl, b2⟩
  have H2 := Lib.hid (And.intro (Kq.below_blk b2 HX.out (Kq.blk_lt HX.out)) ((Kq.below_alloc w _).trans (b2.mono (Kq.below_alloc w _).size)))
  clear b2 hne hne2
  go_wp2_with fail
  refine (rd_new (s.extract 1 s.size) _).mono ?_
  rintro x w3 ⟨rfl, R3, b3⟩
  have hlt3 : w.heap.size < w2.heap.size := Kq.blk_lt H2.out.1
  have H3 := Lib.hid (And.intro R3 (And.intro (Kq.below_blk b3 H2.out.1 (Kq.blk_lt H2.out.1)) (H2.out.2.trans (b3.mono H2.out.2.size))))
  clear R3 b3 H2
  generalize w2.heap.size = B at *
  have HLT := Lib.hid hlt3
  clear hlt3
  go_wp2_with fail
  refine (rd_number B 0 _ _ H3.out.1 HZ.out.1).mono ?_
  intro x w4 hp
  unfold WholePost at hp
  rw [HE.out.1] at hp
  simp only at hp
  rw [HE.out.2.1] at hp
  obtain ⟨rfl, R4, K4⟩ := hp
  have H4 := Lib.hid (And.intro R4 (And.intro (K4.blk H3.out.2.1 (by have := HLT.out; omega)) (H3.out.2.2.trans (K4.below H3.out.2.2.size (fun k _ e => by subst e; exact Nat.le_of_lt HLT.out)))))
  clear R4 K4 H3
  have HQ : Hid (Rd (w4.alloc (.cells #[.int .u64 ((gOf s : Nat) : Int), .int .i64 0] 84)) B 0 r ∧ (w4.alloc (.cells #[.int .u64 ((gOf s : Nat) : Int), .int .i64 0] 84)).heap[w.heap.size]? = some (.cells #[.int .u64 0, .int .i64 0] 84 (0, 0)) ∧ (w4.alloc (.cells #[.int .u64 ((gOf s : Nat) : Int), .int .i64 0] 84)).heap[w4.heap.size]? = some (.cells #[.int .u64 ((gOf s : Nat) : Int), .int .i64 0] 84 (0, 0)) ∧ Below w.heap.size w (w4.alloc (.cells #[.int .u64 ((gOf s : Nat) : Int), .int .i64 0] 84)) ∧ B < w4.heap.size ∧ w.heap.size < w4.heap.size) :=
    Lib.hid ⟨Kq.below_blk (Kq.below_alloc w4 _) H4.out.1 (Kq.blk_lt H4.out.1), Kq.below_blk (Kq.below_alloc w4 _) H4.out.2.1 (Kq.blk_lt H4.out.2.1), Kq.blk_new _ _ _ _, H4.out.2.2.trans ((Kq.below_alloc w4 _).mono H4.out.2.2.size), Kq.blk_lt H4.out.1, Kq.blk_lt H4.out.2.1⟩
  go_wp2_with fail
  refine (rd_byte B 0 r _ HQ.out.1 HZ.out.2).mono ?_
  intro x w5 hp
  unfold BytePost at hp
  rw [HE.out.2.2.1] at hp
  simp only at hp
  rw [HE.out.2.2.2.1] at hp
  obtain ⟨rfl, R5, K5⟩ := hp
  have H5 := Lib.hid (And.intro (K5.blk HQ.out.2.1 (by have := HLT.out; omega)) (And.intro (K5.blk HQ.out.2.2.1 (by have := HQ.out.2.2.2.2.1; omega)) (HQ.out.2.2.2.1.trans (K5.below HQ.out.2.2.2.1.size (fun k _ e => by subst e; exact Nat.le_of_lt HLT.out)))))
  have HNE := Lib.hid HQ.out.2.2.2.2.2
  clear R5 K5 H4 HQ
  generalize w4.heap.size = Hh at *
  have c0 := Kq.blk_cell H5.out.2.1 0
  have c1 := Kq.blk_cell H5.out.2.1 1
  have f1 := Kq.blk_free H5.out.2.1 1
  have G6 : Hid (GS w (w5.setCell ⟨Hh, 1, none⟩ (.int .i64 ((sOf s : Nat) : Int))) w.heap.size Hh (gOf s : Nat) (sOf s : Nat)) :=
    Lib.hid ⟨(Kq.Keeps.setCell (S := (· = Hh)) w5 ⟨Hh, 1, none⟩ _ rfl).blk H5.out.1 (Nat.ne_of_lt HNE.out), Kq.blk_set H5.out.2.1 1 _, Nat.ne_of_lt HNE.out, H5.out.2.2.trans ((Kq.Keeps.setCell (S := (· = Hh)) w5 ⟨Hh, 1, none⟩ _ rfl).below H5.out.2.2.size (fun k _ e => by subst e; exact Nat.le_of_lt HNE.out))⟩
  go_wp2_with fail
  clear c0 c1 f1
  refine (hd_put_bad a (gOf s) (sOf s) _ HO.out).mono ?_
  rintro x w7 ⟨rfl, b7⟩
  have G7 := Lib.hid (G6.out.below b7)
  clear b7 G6 H5
  have c0 := Kq.blk_cell G7.out.2.1 0
  have c1 := Kq.blk_cell G7.out.2.1 1
  have r0 := Kq.blk_cell G7.out.1 0
  have r1 := Kq.blk_cell G7.out.1 1
  have q0 := Kq.blk_free G7.out.1 0
  have q1 := Kq.blk_free G7.out.1 1
  have hne1 : ¬ w.heap.size = Hh := G7.out.2.2.1
  have hne2 : ¬ Hh = w.heap.size := fun e => hne1 e.symm
  go_wp2
  change bodyPost _ _ _ _ _ (fill2 w7 w.heap.size 0 0)
  have p1 := fill2_blk G7.out.1 0 0
  have p2 := fill2_keeps w7 w.heap.size 0 0
  generalize fill2 w7 w.heap.size 0 0 = z at *
  have z0 := Kq.blk_cell p1 0
  have z1 := Kq.blk_cell p1 1
  refine bodyPost_ret (v := .tuple #[.agg #[.int .u64 0, .int .i64 0], .int .i64 5]) (by simp [results, Tryz.results79, go_sem, z0, z1]) rfl ?_
  exact ⟨rfl, G7.out.2.2.2.trans (p2.below G7.out.2.2.2.size (fun k _ e => by subst e; exact Nat.le_refl _))⟩
theorem hd_get (a : Int) (s : ByteArray) (w : World) (hs : s.size ≤ maxLen) :
    Calls Tryz.prog 79 #[.int .i64 a, .string s] w fun x w' => x = .returned (.tuple #[.agg #[.int .u64 ((if hdGoodB a.toNat s then gOf s else 0 : Nat) : Int), .int .i64 ((if hdGoodB a.toNat s then sOf s else 0 : Nat) : Int)], .int .i64 (if hdGoodB a.toNat s then 0 else hdErr a.toNat s)]) ∧ Below w.heap.size w w' := by
  by_cases h0 : 64 ≤ a ∧ a ≤ 512
  · obtain ⟨n, rfl⟩ := Int.eq_ofNat_of_zero_le (show 0 ≤ a by omega)
    rw [Int.toNat_natCast]
    have hn : 64 ≤ n ∧ n ≤ 512 := by omega
    by_cases h1 : s.size = n
    · cases h2 : rightB s with
      | false =>
        have hb : hdGoodB n s = false := by rw [Bool.eq_false_iff]; intro h; have := (good_of h).hr; rw [h2] at this; cases this
        simp only [hb, hdErr, hn, h1, h2, Bool.false_eq_true, if_false, if_true, and_self]
        exact hd_get_8 n s w hn h1 h2
      | true =>
        by_cases h3 : HdOk n (gOf s) (sOf s)
        · by_cases h4 : hdPut n (gOf s) (sOf s) = s
          · have hb : hdGoodB n s = true := of_good ⟨hn, h1, h2, ⟨h3.g0, by have := h3.s1; omega⟩, h4⟩
            simp only [hb, if_true]
            exact hd_get_ok n s w hn h1 h2 h3 h4
          · have hb : hdGoodB n s = false := by rw [Bool.eq_false_iff]; intro h; exact h4 (good_of h).hp
            simp only [hb, hdErr, hn, h1, h2, Bool.false_eq_true, if_false, if_true, and_self]
            exact hd_get_ne n s w hn h1 h2 h3 h4
        · have hb : hdGoodB n s = false := by rw [Bool.eq_false_iff]; intro h; exact h3 (good_of h).ok
          simp only [hb, hdErr, hn, h1, h2, Bool.false_eq_true, if_false, if_true, and_self]
          exact hd_get_bad n s w hn h1 h2 h3
    · have hb : hdGoodB n s = false := by rw [Bool.eq_false_iff]; intro h; exact h1 (good_of h).hs
      simp only [hb, hdErr, hn, h1, Bool.false_eq_true, if_false, if_true, and_self]
      exact hd_get_6 n s w h0 (by omega)
  · have hb : hdGoodB a.toNat s = false := by rw [Bool.eq_false_iff]; intro h; have := (good_of h).ha; omega
    have hn : ¬ (64 ≤ a.toNat ∧ a.toNat ≤ 512) := by omega
    simp only [hb, hdErr, hn, Bool.false_eq_true, if_false]
    exact hd_get_1 a s w h0
end Go.Proofs.YtbpgfhcecanikaaGreat
namespace Go.Proofs.YtbpgfhcecanikaaGreat
open Go.RowKit
set_option linter.unusedVariables false
theorem val_step (v : Nat) (b : UInt8) (hv : v < 256 ^ 7) : IntKind.u64.wrap ((v : Int) * 256 + ((b.toNat : Nat) : Int)) = ((v * 256 + b.toNat : Nat) : Int) := by
  have hb := b.toNat_lt
  rw [IntWalk.u64_in _ (by omega)]; omega
theorem val_one_byte (b : UInt8) : IntKind.u64.wrap ((b.toNat : Nat) : Int) = ((b.toNat : Nat) : Int) := by
  have hb := b.toNat_lt
  exact IntWalk.u64_in _ (by omega)
theorem val_mul (v : Nat) (hv : v < 256 ^ 7) : IntKind.u64.wrap ((v : Int) * 256) = ((v : Int) * 256) := IntWalk.u64_in _ (by omega)
set_option maxRecDepth 100000 in
set_option maxHeartbeats 800000 in
theorem ref_value (t : ByteArray) (w : World) (hsz : t.size ≤ 8) :
    Calls Tryz.prog 113 #[.string t] w fun x w' => x = .returned (.int .u64 ((WireM.val (nl t) : Nat) : Int)) ∧ w = w' := by
  go_enter Tryz.func113, Tryz.ntmps113
  go_wp2
  go_loop [3, 4] (fun y j => ∃ m : Nat, m ≤ t.size ∧ j = .int .i64 m ∧ y = .int .u64 (WireM.val ((nl t).take m) : Nat)) (fun _ j => t.size - (intOf j).toNat)
  case atStart => exact ⟨0, by omega, rfl, rfl⟩
  case round =>
    obtain ⟨m, hm, rfl, rfl⟩ := hrel
    by_cases hlt : m < t.size
    · have hS := Lib.hid (val_succ t m hlt)
      have hv := val_take_lt t m hlt hsz
      generalize WireM.val ((nl t).take m) = v at *
      have ho := val_step v t[m] hv
      have ho2 := val_mul v hv
      have ho3 := val_one_byte t[m]
      clear hv
      go_wp2
      go_round
      case rel => exact ⟨m + 1, by omega, by go_num, by rw [hS.out, Int.natCast_add, Int.natCast_mul]; rfl⟩
      case measure => simp [intOf]; omega
    · have hm' : m = t.size := Nat.le_antisymm hm (Nat.not_lt.1 hlt)
      subst hm'
      have hT : (nl t).take t.size = nl t := List.take_of_length_le (by rw [nl_length]; exact Nat.le_refl _)
      rw [hT]
      go_wp2
      go_ret
      exact ⟨rfl, rfl⟩
end Go.Proofs.YtbpgfhcecanikaaGreat
