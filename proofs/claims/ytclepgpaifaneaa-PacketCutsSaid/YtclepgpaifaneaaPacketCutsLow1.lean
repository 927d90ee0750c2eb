/- carracklaw10.PacketCuts walked. No condition. -/
import Derived.WalkSpells
import Derived.Test.YtclepgpaifaneaaPkParse
import Derived.Test.YtclepgpaifaneaaPkCut
import Derived.Test.YtclepgpaifaneaaPkOpen
namespace Go.Proofs.Ytclepgpaifaneaa.packetCuts
open Go.RowKit
set_option linter.unusedVariables false
set_option maxRecDepth 100000 in
set_option maxHeartbeats 1000000 in
theorem low1 (f q t : Int) (d more : ByteArray) (cut : Int) (W : World) (h : ¬ 300 < d.size) (h2 : ¬ 300 < more.size) (hok : PkOk ⟨f, q, t, d⟩) (hq : 0 ≤ q ∧ q < 18446744073709551616) (ht : 0 ≤ t ∧ t < 18446744073709551616) (hcut : cut < 0) (hm0 : 0 < more.size) :
    Calls Try.prog 5 #[.agg #[.int .i64 f, .int .u64 q, .int .u64 t, .string d], .int .i64 cut, .string more] W fun x w' => x = .returned (.bool true) ∧ Below W.heap.size W w' := by
  have HOK := Lib.hid (And.intro hok (And.intro hq ht))
  clear hok hq ht
  go_enter Try.func5, Try.ntmps5
  go_wp2_with fail
  have H0 : Hid (PB (W.alloc (Obj.cells #[Value.int IntKind.i64 f, Value.int IntKind.u64 q, Value.int IntKind.u64 t, Value.string d] 39)) W.heap.size f q t d ∧ Below W.heap.size W (W.alloc (Obj.cells #[Value.int IntKind.i64 f, Value.int IntKind.u64 q, Value.int IntKind.u64 t, Value.string d] 39))) := Lib.hid ⟨⟨Kq.blk_new _ _ _ _⟩, Kq.below_alloc _ _⟩
  refine (awake _).mono ?_
  rintro x w1 ⟨rfl, b1⟩
  have H1 := Lib.hid (And.intro (H0.out.1.laterB b1) (H0.out.2.trans (b1.mono H0.out.2.size)))
  clear b1 H0
  have c0 := H1.out.1.c0
  have c1 := H1.out.1.c1
  have c2 := H1.out.1.c2
  have c3 := H1.out.1.c3
  go_wp2_with fail
  refine (pk_bytes_ok f q t d _ HOK.out.1 HOK.out.2.1 HOK.out.2.2).mono ?_
  rintro x w2 ⟨rfl, b2⟩
  have H2 := Lib.hid (And.intro (H1.out.1.laterB b2) (H1.out.2.trans (b2.mono H1.out.2.size)))
  clear b2 H1 c0 c1 c2 c3
  have hz : (txt (encP ⟨f, q, t, d⟩)).size = 19 + d.size := by rw [txt_size, encP_len]
  have HNL := Lib.hid (nl_txt _ (encP_lt _ HOK.out.1))
  generalize txt (encP ⟨f, q, t, d⟩) = s at *
  have hzs : s.size ≤ 400 := by omega
  have HQ0 : q ≠ 0 := HOK.out.1.2.2.1
  have hq0 : (q == 0) = false := by simpa using HQ0
  clear HQ0
  have HW := Lib.hid (get_whole ⟨f, q, t, d⟩ HOK.out.1 HOK.out.2.1 HOK.out.2.2 s ⟨#[]⟩ (by rw [HNL.out]; exact (List.append_nil _).symm))
  have HM := Lib.hid (get_whole ⟨f, q, t, d⟩ HOK.out.1 HOK.out.2.1 HOK.out.2.2 (s ++ more) more (by rw [nl_append, HNL.out]))
  have HS : Hid ((s).size ≤ maxLen) := Lib.hid (by unfold maxLen; skip; omega)
  have HS2 : Hid ((s ++ more).size ≤ maxLen) := Lib.hid (by unfold maxLen; rw [ByteArray.size_append]; omega)
  have hl : ¬ 9223372036854775807 < s.size + more.size := by omega
  have d5 : decide (cut < 0) = true := decide_eq_true hcut
  clear hcut
  clear hz
  go_wp2_with fail
  refine (pk_parse_ok _ _ f q t d HW.out.1 (by simpa using hq0) HW.out.2 _ HS.out).mono ?_
  rintro x w3 ⟨rfl, b3⟩
  have H3 : Hid (PB (w3.alloc (Obj.cells #[Value.int IntKind.i64 f, Value.int IntKind.u64 q, Value.int IntKind.u64 t, Value.string d] 39)) W.heap.size f q t d ∧ PB (w3.alloc (Obj.cells #[Value.int IntKind.i64 f, Value.int IntKind.u64 q, Value.int IntKind.u64 t, Value.string d] 39)) w3.heap.size f q t d ∧ Below W.heap.size W (w3.alloc (Obj.cells #[Value.int IntKind.i64 f, Value.int IntKind.u64 q, Value.int IntKind.u64 t, Value.string d] 39))) := Lib.hid ⟨(H2.out.1.laterB b3).laterB (Kq.below_alloc w3 _), ⟨Kq.blk_new _ _ _ _⟩, (H2.out.2.trans (b3.mono H2.out.2.size)).trans ((Kq.below_alloc w3 _).mono (Nat.le_trans H2.out.2.size b3.size))⟩
  clear b3 H2
  go_wp2_with fail
  generalize w3.alloc (Obj.cells #[Value.int IntKind.i64 f, Value.int IntKind.u64 q, Value.int IntKind.u64 t, Value.string d] 39) = z3 at *
  generalize w3.heap.size = QA at *
  refine (pk_parse_more _ _ f q t d HM.out.1 (by simpa using hq0) (by rw [HM.out.2]; exact hm0) _ HS2.out).mono ?_
  unfold PkV.val PkV.zero
  rintro x w4 ⟨rfl, b4⟩
  have H4 := Lib.hid (And.intro (H3.out.1.laterB b4) (And.intro (H3.out.2.1.laterB b4) (H3.out.2.2.trans (b4.mono H3.out.2.2.size))))
  clear b4 H3
  have H5 := Lib.hid (H4.out.2.2.trans ((Kq.below_alloc w4 (Obj.cells #[Value.int IntKind.i64 0, Value.int IntKind.u64 0, Value.int IntKind.u64 0, Value.string ⟨#[]⟩] 39)).mono H4.out.2.2.size))
  have c0 := H4.out.1.c0
  have c1 := H4.out.1.c1
  have c2 := H4.out.1.c2
  have c3 := H4.out.1.c3
  have e0 := H4.out.2.1.c0
  have e1 := H4.out.2.1.c1
  have e2 := H4.out.2.1.c2
  have e3 := H4.out.2.1.c3
  have l1 := Kq.blk_lt H4.out.1.blk
  have l2 := Kq.blk_lt H4.out.2.1.blk
  have n1 : ¬ W.heap.size = w4.heap.size := Nat.ne_of_lt l1
  have n2 : ¬ QA = w4.heap.size := Nat.ne_of_lt l2
  have n3 : ¬ w4.heap.size = W.heap.size := fun h => n1 h.symm
  have n4 : ¬ w4.heap.size = QA := fun h => n2 h.symm
  clear hl
  have he : more.toList.isEmpty = false := by
    rw [Lib.toList_data]
    cases hl : more.data.toList with
    | nil => exact absurd (by rw [← ByteArray.size_data, ← Array.length_toList, hl]; rfl) (Nat.ne_of_gt hm0)
    | cons a l => rfl
  clear hm0
  go_wp2
  go_ret
  exact ⟨rfl, H5.out⟩
end Go.Proofs.Ytclepgpaifaneaa.packetCuts
