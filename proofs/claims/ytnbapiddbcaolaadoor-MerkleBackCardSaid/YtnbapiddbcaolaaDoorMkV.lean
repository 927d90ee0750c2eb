/- Contract of merkle.Climb. Condition: the constants lie where they lie; sizes. -/
import Derived.WalkSpells
import Derived.Outline
import Derived.Laws.EntriesVeiled
import Derived.Test.YtnbapiddbcaolaaDoorMkU
namespace Go.Proofs.YtnbapiddbcaolaaDoor
open Go.RowKit
set_option linter.unusedVariables false
def CliOk (idx cnt : Int) (ps : List ByteArray) : Prop := 1 ≤ cnt ∧ cnt ≤ 4096 ∧ 0 ≤ idx ∧ idx < cnt ∧ All32 ps
instance (idx cnt : Int) (ps : List ByteArray) : Decidable (CliOk idx cnt ps) := by unfold CliOk; infer_instance
/-- to what a leaf climbs -/
def climbV (idx cnt : Int) (p : PairV) (ps : List ByteArray) : ByteArray × Bool :=
  if CliOk idx cnt ps ∧ (up p idx.toNat cnt.toNat ps).2 = true then (dgT (topT cnt.toNat (up p idx.toNat cnt.toNat ps).1), true) else (⟨#[]⟩, false)
def ClPost (w : World) (r : ByteArray × Bool) (x : Ending) (w' : World) : Prop := x = .returned (.tuple #[.string r.1, .bool r.2]) ∧ Below w.heap.size w w'
set_option maxRecDepth 100000 in
set_option maxHeartbeats 2000000 in
theorem climb_bad (idx cnt : Int) (p : PairV) (ps : List ByteArray) (A : Option Addr) (cap : Nat) (w : World) (hA : PartsAt w A ps) (hn : ps.length ≤ 1000) (hno : ¬ CliOk idx cnt ps) :
    Calls Tryd.prog 23 #[.agg #[.int .i64 idx, .int .i64 cnt, .string p.1, .string p.2, .slice A ps.length cap]] w (ClPost w (climbV idx cnt p ps)) := by
  have HV : Hid (climbV idx cnt p ps = (⟨#[]⟩, false)) := Lib.hid (if_neg (fun h => hno h.1))
  rw [HV.out]
  obtain ⟨k, v⟩ := p
  have HB : Hid (∀ x, x = .returned (.tuple #[.string ⟨#[]⟩, .bool false]) → ClPost w (⟨#[]⟩, false) x (w.alloc (.cells #[.int .i64 idx, .int .i64 cnt, .string k, .string v, .slice A ps.length cap] 44))) := Lib.hid (fun x hx => ⟨hx, Kq.below_alloc _ _⟩)
  have HNO := Lib.hid hno
  have HAA := Lib.hid (hA.below (Kq.below_alloc w (.cells #[.int .i64 idx, .int .i64 cnt, .string k, .string v, .slice A ps.length cap] 44)))
  have HN := Lib.hid hn
  clear hno hA hn HV
  by_cases h1 : cnt < 1
  · have d1 : decide (cnt < 1) = true := decide_eq_true h1
    clear h1
    go_enter Tryd.func23, Tryd.ntmps23
    go_wp2
    go_ret2
    exact HB.out _ rfl
  have d1 : decide (cnt < 1) = false := decide_eq_false h1
  by_cases h2 : 4096 < cnt
  · have d2 : decide (4096 < cnt) = true := decide_eq_true h2
    clear h1 h2
    go_enter Tryd.func23, Tryd.ntmps23
    go_wp2
    go_ret2
    exact HB.out _ rfl
  have d2 : decide (4096 < cnt) = false := decide_eq_false h2
  by_cases h3 : idx < 0
  · have d3 : decide (idx < 0) = true := decide_eq_true h3
    clear h1 h2 h3
    go_enter Tryd.func23, Tryd.ntmps23
    go_wp2
    go_ret2
    exact HB.out _ rfl
  have d3 : decide (idx < 0) = false := decide_eq_false h3
  by_cases h4 : cnt ≤ idx
  · have d4 : decide (cnt ≤ idx) = true := decide_eq_true h4
    clear h1 h2 h3 h4
    go_enter Tryd.func23, Tryd.ntmps23
    go_wp2
    go_ret2
    exact HB.out _ rfl
  have d4 : decide (cnt ≤ idx) = false := decide_eq_false h4
  have HD : Hid (decide (All32 ps) = false) := Lib.hid (decide_eq_false (fun h => HNO.out ⟨by omega, by omega, by omega, by omega, h⟩))
  clear h1 h2 h3 h4
  go_enter Tryd.func23, Tryd.ntmps23
  go_wp2_with fail
  refine (mk_digests A cap ps _ HAA.out HN.out).mono ?_
  rintro x w2 ⟨rfl, rfl⟩
  rw [HD.out]
  go_wp2
  go_ret2
  exact HB.out _ rfl
theorem upat_new (w : World) (T : TypeId) (i c : Int) (p : PairV) (v : Value) :
    UpAt ((w.alloc (.cells #[.int .i64 i, .int .i64 c, .string p.1, .string p.2, v] 44)).alloc (.cells #[.func (.func 36) #[] #[.pointer (some ⟨w.heap.size, 0, none⟩), .pointer (some ⟨w.heap.size + 1, 0, none⟩)]] T)) w.heap.size (w.heap.size + 1) i c p v := by
  have n1 := Kq.blk_new w #[.int .i64 i, .int .i64 c, .string p.1, .string p.2, v] 44 (0, 0)
  have z1 : (w.alloc (.cells #[.int .i64 i, .int .i64 c, .string p.1, .string p.2, v] 44)).heap.size = w.heap.size + 1 := by simp
  generalize w.alloc (.cells #[.int .i64 i, .int .i64 c, .string p.1, .string p.2, v] 44) = w1 at *
  have n2 := Kq.blk_new w1 #[.func (.func 36) #[] #[.pointer (some ⟨w.heap.size, 0, none⟩), .pointer (some ⟨w.heap.size + 1, 0, none⟩)]] T (0, 0)
  rw [z1] at n2
  exact ⟨Kq.below_blk (Kq.below_alloc w1 _) n1 (by omega), Kq.blk_cell n2 0, by simp [z1]⟩
theorem upat_after (w : World) (T : TypeId) (i c : Int) (p : PairV) (v : Value) {w' : World} {f : Value} (hb : Below ((w.alloc (.cells #[.int .i64 i, .int .i64 c, .string p.1, .string p.2, v] 44)).alloc (.cells #[f] T)).heap.size ((w.alloc (.cells #[.int .i64 i, .int .i64 c, .string p.1, .string p.2, v] 44)).alloc (.cells #[f] T)) w') :
    w'.heap[w.heap.size]? = some (.cells #[.int .i64 i, .int .i64 c, .string p.1, .string p.2, v] 44 (0, 0)) ∧ Below w.heap.size w w' := by
  have n1 := Kq.blk_new w #[.int .i64 i, .int .i64 c, .string p.1, .string p.2, v] 44 (0, 0)
  have z1 : (w.alloc (.cells #[.int .i64 i, .int .i64 c, .string p.1, .string p.2, v] 44)).heap.size = w.heap.size + 1 := by simp
  have b1 := Kq.below_alloc w (.cells #[.int .i64 i, .int .i64 c, .string p.1, .string p.2, v] 44)
  generalize w.alloc (.cells #[.int .i64 i, .int .i64 c, .string p.1, .string p.2, v] 44) = w1 at *
  have b2 := Kq.below_alloc w1 (.cells #[f] T)
  have z2 : (w1.alloc (.cells #[f] T)).heap.size = w.heap.size + 2 := by simp [z1]
  exact ⟨Kq.below_blk hb (Kq.below_blk b2 n1 (by omega)) (by omega), b1.trans ((b2.mono (by omega)).trans (hb.mono (by omega)))⟩
set_option maxRecDepth 100000 in
set_option maxHeartbeats 2000000 in
theorem climb_good (i c : Nat) (p : PairV) (ps : List ByteArray) (A : Option Addr) (cap : Nat) (w : World) (hA : PartsAt w A ps) (hn : ps.length ≤ 1000) (hs : p.1.size + p.2.size ≤ 90000) (hcap : ps.length ≤ cap) (hL : LaidOk w) (hyes : CliOk i c ps) :
    Calls Tryd.prog 23 #[.agg #[.int .i64 (i : Int), .int .i64 (c : Int), .string p.1, .string p.2, .slice A ps.length cap]] w (ClPost w (climbV i c p ps)) := by
  obtain ⟨q1, q2, q3, q4, h32⟩ := hyes
  have HV : Hid (climbV i c p ps = if (up p i c ps).2 = true then (dgT (topT c (up p i c ps).1), true) else (⟨#[]⟩, false)) := Lib.hid (by
    unfold climbV
    rw [Int.toNat_natCast, Int.toNat_natCast]
    by_cases h : (up p i c ps).2 = true
    · rw [if_pos ⟨⟨q1, q2, q3, q4, h32⟩, h⟩, if_pos h]
    · rw [if_neg (fun x => h x.2), if_neg h])
  rw [HV.out]
  have HD : Hid (decide (All32 ps) = true) := Lib.hid (decide_eq_true h32)
  have HSZ := Lib.hid (up_size p c i c ps (Nat.le_refl _) (by omega)).1
  have HIH : Hid (∀ w' X U pv, UpAt w' X U i c p pv → PartsAt w' A ps → LaidOk w' → Calls Tryd.prog 36 #[.int .i64 (i : Int), .int .i64 (c : Int), .slice A ps.length cap, .pointer (some ⟨X, 0, none⟩), .pointer (some ⟨U, 0, none⟩)] w' fun x w'' => x = .returned (.tuple #[.string (up p i c ps).1, .bool (up p i c ps).2]) ∧ Below w'.heap.size w' w'') := Lib.hid (fun w' X U pv h1 h2 h3 =>
    up_walk p c i c ps A cap X U i c pv w' (Nat.le_refl _) (by omega) (by omega) (by omega) hs hn h32 h1 h2 hcap h3)
  have hcB : c ≤ 4096 := by omega
  obtain ⟨R, hR⟩ : ∃ R, R = up p i c ps := ⟨_, rfl⟩
  rw [← hR] at HIH HSZ
  rw [← hR]
  clear hR HV
  obtain ⟨D, ok⟩ := R
  simp only at HIH HSZ ⊢
  obtain ⟨k, v⟩ := p
  simp only at HIH ⊢
  have HAA := Lib.hid (And.intro (hA.below (Kq.below_alloc w (.cells #[.int .i64 (i : Int), .int .i64 (c : Int), .string k, .string v, .slice A ps.length cap] 44))) (hL.later (Kq.below_alloc w (.cells #[.int .i64 (i : Int), .int .i64 (c : Int), .string k, .string v, .slice A ps.length cap] 44))))
  have HN := Lib.hid hn
  have d1 : decide ((c : Int) < 1) = false := decide_eq_false (by omega)
  have d2 : decide ((4096 : Int) < (c : Int)) = false := decide_eq_false (by omega)
  have d2' : decide (4096 < c) = false := decide_eq_false (by omega)
  have d3 : decide ((i : Int) < 0) = false := decide_eq_false (by omega)
  have d4 : decide ((c : Int) ≤ (i : Int)) = false := decide_eq_false (by omega)
  have d4' : decide (c ≤ i) = false := decide_eq_false (by omega)
  clear q1 q2 q3 q4 h32 hs hcap hA hL hn
  cases ok with
  | true =>
    rw [if_pos rfl]
    go_enter Tryd.func23, Tryd.ntmps23
    go_wp2_with fail
    refine (mk_digests A cap ps _ HAA.out.1 HN.out).mono ?_
    rintro x w2 ⟨rfl, rfl⟩
    rw [HD.out]
    go_wp2_with fail
    refine (HIH.out _ w.heap.size (w.heap.size + 1) (.slice A ps.length cap) ?hu ?hp ?hl).mono ?_
    case hu => exact upat_new w _ i c (k, v) _
    case hp => exact HAA.out.1.below (Kq.below_alloc _ _)
    case hl => exact HAA.out.2.later (Kq.below_alloc _ _)
    rintro x w3 ⟨rfl, b3⟩
    have H3 := Lib.hid (upat_after w _ i c (k, v) _ b3)
    have H4 := Lib.hid (HAA.out.2.later ((Kq.below_alloc _ _).trans (b3.mono (by simp))))
    clear b3
    have c1 := Kq.blk_cell H3.out.1 1
    simp only [List.getElem?_toArray, List.getElem?_cons_zero, List.getElem?_cons_succ] at c1
    go_wp2_with fail
    refine (mk_top (c : Int) D w3 H4.out (by omega) (by have := HSZ.out; omega)).mono ?_
    rintro x w4 ⟨rfl, b4⟩
    rw [Int.toNat_natCast]
    have H5 : Hid (ClPost w (dgT (topT c D), true) (.returned (.tuple #[.string (dgT (topT c D)), .bool true])) w4) := Lib.hid ⟨rfl, H3.out.2.trans (b4.mono H3.out.2.size)⟩
    clear b4 H3 H4 c1
    go_wp2
    go_ret2
    exact H5.out
  | false =>
    rw [if_neg (by decide)]
    go_enter Tryd.func23, Tryd.ntmps23
    go_wp2_with fail
    refine (mk_digests A cap ps _ HAA.out.1 HN.out).mono ?_
    rintro x w2 ⟨rfl, rfl⟩
    rw [HD.out]
    go_wp2_with fail
    refine (HIH.out _ w.heap.size (w.heap.size + 1) (.slice A ps.length cap) ?hu ?hp ?hl).mono ?_
    case hu => exact upat_new w _ i c (k, v) _
    case hp => exact HAA.out.1.below (Kq.below_alloc _ _)
    case hl => exact HAA.out.2.later (Kq.below_alloc _ _)
    rintro x w3 ⟨rfl, b3⟩
    have H3 := Lib.hid (upat_after w _ i c (k, v) _ b3)
    have H4 := Lib.hid (HAA.out.2.later ((Kq.below_alloc _ _).trans (b3.mono (by simp))))
    clear b3
    have H5 : Hid (ClPost w (⟨#[]⟩, false) (.returned (.tuple #[.string ⟨#[]⟩, .bool false])) w3) := Lib.hid ⟨rfl, H3.out.2⟩
    clear H3 H4
    go_wp2
    go_ret2
    exact H5.out
theorem mk_climb (idx cnt : Int) (p : PairV) (ps : List ByteArray) (A : Option Addr) (cap : Nat) (w : World) (hA : PartsAt w A ps) (hn : ps.length ≤ 1000) (hs : p.1.size + p.2.size ≤ 90000) (hcap : ps.length ≤ cap) (hL : LaidOk w) :
    Calls Tryd.prog 23 #[.agg #[.int .i64 idx, .int .i64 cnt, .string p.1, .string p.2, .slice A ps.length cap]] w (ClPost w (climbV idx cnt p ps)) := by
  by_cases h : CliOk idx cnt ps
  · obtain ⟨i, rfl⟩ := Int.eq_ofNat_of_zero_le h.2.2.1
    obtain ⟨c, rfl⟩ := Int.eq_ofNat_of_zero_le (show 0 ≤ cnt by have := h.1; omega)
    exact climb_good i c p ps A cap w hA hn hs hcap hL h
  · exact climb_bad idx cnt p ps A cap w hA hn h
end Go.Proofs.YtnbapiddbcaolaaDoor
