/- carracklaw10.PacketCuts walked. No condition. -/
import Derived.WalkSpells
import Derived.Test.YtclepgpaifaneaaPkParse
import Derived.Test.YtclepgpaifaneaaPkCut
import Derived.Test.YtclepgpaifaneaaPkOpen
namespace Go.Proofs.Ytclepgpaifaneaa.packetCuts
open Go.RowKit
set_option linter.unusedVariables false
set_option maxRecDepth 100000 in
set_option maxHeartbeats 1000000 in
theorem early1 (f q t : Int) (d more : ByteArray) (cut : Int) (W : World) (h : 300 < d.size) :
    Calls Try.prog 5 #[.agg #[.int .i64 f, .int .u64 q, .int .u64 t, .string d], .int .i64 cut, .string more] W fun x w' => x = .returned (.bool true) ∧ Below W.heap.size W w' := by
  have d1 : decide ((300 : Int) < (d.size : Int)) = true := decide_eq_true (by omega)
  go_enter Try.func5, Try.ntmps5
  go_wp2_with fail
  have H0 : Hid (PB (W.alloc (Obj.cells #[Value.int IntKind.i64 f, Value.int IntKind.u64 q, Value.int IntKind.u64 t, Value.string d] 39)) W.heap.size f q t d ∧ Below W.heap.size W (W.alloc (Obj.cells #[Value.int IntKind.i64 f, Value.int IntKind.u64 q, Value.int IntKind.u64 t, Value.string d] 39))) := Lib.hid ⟨⟨Kq.blk_new _ _ _ _⟩, Kq.below_alloc _ _⟩
  refine (awake _).mono ?_
  rintro x w1 ⟨rfl, b1⟩
  have H1 := Lib.hid (And.intro (H0.out.1.laterB b1) (H0.out.2.trans (b1.mono H0.out.2.size)))
  clear b1 H0
  have c0 := H1.out.1.c0
  have c1 := H1.out.1.c1
  have c2 := H1.out.1.c2
  have c3 := H1.out.1.c3
  go_wp2
  go_ret
  exact ⟨rfl, H1.out.2⟩
set_option maxRecDepth 100000 in
set_option maxHeartbeats 1000000 in
theorem early2 (f q t : Int) (d more : ByteArray) (cut : Int) (W : World) (h : ¬ 300 < d.size) (h2 : 300 < more.size) :
    Calls Try.prog 5 #[.agg #[.int .i64 f, .int .u64 q, .int .u64 t, .string d], .int .i64 cut, .string more] W fun x w' => x = .returned (.bool true) ∧ Below W.heap.size W w' := by
  have d1 : decide ((300 : Int) < (d.size : Int)) = false := decide_eq_false (by omega)
  have d2 : decide ((300 : Int) < (more.size : Int)) = true := decide_eq_true (by omega)
  go_enter Try.func5, Try.ntmps5
  go_wp2_with fail
  have H0 : Hid (PB (W.alloc (Obj.cells #[Value.int IntKind.i64 f, Value.int IntKind.u64 q, Value.int IntKind.u64 t, Value.string d] 39)) W.heap.size f q t d ∧ Below W.heap.size W (W.alloc (Obj.cells #[Value.int IntKind.i64 f, Value.int IntKind.u64 q, Value.int IntKind.u64 t, Value.string d] 39))) := Lib.hid ⟨⟨Kq.blk_new _ _ _ _⟩, Kq.below_alloc _ _⟩
  refine (awake _).mono ?_
  rintro x w1 ⟨rfl, b1⟩
  have H1 := Lib.hid (And.intro (H0.out.1.laterB b1) (H0.out.2.trans (b1.mono H0.out.2.size)))
  clear b1 H0
  have c0 := H1.out.1.c0
  have c1 := H1.out.1.c1
  have c2 := H1.out.1.c2
  have c3 := H1.out.1.c3
  go_wp2
  go_ret
  exact ⟨rfl, H1.out.2⟩
set_option maxRecDepth 100000 in
set_option maxHeartbeats 1000000 in
theorem bad (f q t : Int) (d more : ByteArray) (cut : Int) (W : World) (h : ¬ 300 < d.size) (h2 : ¬ 300 < more.size) (hok : ¬ PkOk ⟨f, q, t, d⟩) :
    Calls Try.prog 5 #[.agg #[.int .i64 f, .int .u64 q, .int .u64 t, .string d], .int .i64 cut, .string more] W fun x w' => x = .returned (.bool true) ∧ Below W.heap.size W w' := by
  have HOK := Lib.hid hok
  clear hok
  go_enter Try.func5, Try.ntmps5
  go_wp2_with fail
  have H0 : Hid (PB (W.alloc (Obj.cells #[Value.int IntKind.i64 f, Value.int IntKind.u64 q, Value.int IntKind.u64 t, Value.string d] 39)) W.heap.size f q t d ∧ Below W.heap.size W (W.alloc (Obj.cells #[Value.int IntKind.i64 f, Value.int IntKind.u64 q, Value.int IntKind.u64 t, Value.string d] 39))) := Lib.hid ⟨⟨Kq.blk_new _ _ _ _⟩, Kq.below_alloc _ _⟩
  refine (awake _).mono ?_
  rintro x w1 ⟨rfl, b1⟩
  have H1 := Lib.hid (And.intro (H0.out.1.laterB b1) (H0.out.2.trans (b1.mono H0.out.2.size)))
  clear b1 H0
  have c0 := H1.out.1.c0
  have c1 := H1.out.1.c1
  have c2 := H1.out.1.c2
  have c3 := H1.out.1.c3
  go_wp2_with fail
  refine (pk_bytes_bad f q t d _ HOK.out).mono ?_
  rintro x w2 ⟨rfl, b2⟩
  have H2 := Lib.hid (H1.out.2.trans (b2.mono H1.out.2.size))
  clear b2
  go_wp2
  go_ret
  exact ⟨rfl, H2.out⟩
set_option maxRecDepth 100000 in
set_option maxHeartbeats 1000000 in
theorem short (f q t : Int) (d more : ByteArray) (n : Nat) (W : World) (h : ¬ 300 < d.size) (h2 : ¬ 300 < more.size) (hok : PkOk ⟨f, q, t, d⟩) (hq : 0 ≤ q ∧ q < 18446744073709551616) (ht : 0 ≤ t ∧ t < 18446744073709551616) (hn : n < 19 + d.size) :
    Calls Try.prog 5 #[.agg #[.int .i64 f, .int .u64 q, .int .u64 t, .string d], .int .i64 (n : Int), .string more] W fun x w' => x = .returned (.bool true) ∧ Below W.heap.size W w' := by
  have HOK := Lib.hid (And.intro hok (And.intro hq ht))
  clear hok hq ht
  go_enter Try.func5, Try.ntmps5
  go_wp2_with fail
  have H0 : Hid (PB (W.alloc (Obj.cells #[Value.int IntKind.i64 f, Value.int IntKind.u64 q, Value.int IntKind.u64 t, Value.string d] 39)) W.heap.size f q t d ∧ Below W.heap.size W (W.alloc (Obj.cells #[Value.int IntKind.i64 f, Value.int IntKind.u64 q, Value.int IntKind.u64 t, Value.string d] 39))) := Lib.hid ⟨⟨Kq.blk_new _ _ _ _⟩, Kq.below_alloc _ _⟩
  refine (awake _).mono ?_
  rintro x w1 ⟨rfl, b1⟩
  have H1 := Lib.hid (And.intro (H0.out.1.laterB b1) (H0.out.2.trans (b1.mono H0.out.2.size)))
  clear b1 H0
  have c0 := H1.out.1.c0
  have c1 := H1.out.1.c1
  have c2 := H1.out.1.c2
  have c3 := H1.out.1.c3
  go_wp2_with fail
  refine (pk_bytes_ok f q t d _ HOK.out.1 HOK.out.2.1 HOK.out.2.2).mono ?_
  rintro x w2 ⟨rfl, b2⟩
  have H2 := Lib.hid (And.intro (H1.out.1.laterB b2) (H1.out.2.trans (b2.mono H1.out.2.size)))
  clear b2 H1 c0 c1 c2 c3
  have hz : (txt (encP ⟨f, q, t, d⟩)).size = 19 + d.size := by rw [txt_size, encP_len]
  have HNL := Lib.hid (nl_txt _ (encP_lt _ HOK.out.1))
  generalize txt (encP ⟨f, q, t, d⟩) = s at *
  have hzs : s.size ≤ 400 := by omega
  have HCUT : Hid (getOf 0 (s.extract 0 n) = (PkV.zero, 6, (gX 0 (s.extract 0 n)).2.2)) := Lib.hid (get_cut ⟨f, q, t, d⟩ _ n (by rw [encP_len]; exact hn) (by rw [nl_extract, List.drop_zero, Nat.sub_zero, HNL.out]))
  have hn1 : n < s.size := by omega
  have HS : Hid ((s.extract 0 n).size ≤ maxLen) := Lib.hid (by unfold maxLen; simp; omega)
  have d1 : decide ((s.size : Int) < (n : Int)) = false := decide_eq_false (by omega)
  have d2 : decide (s.size < n) = false := decide_eq_false (by omega)
  have d3 : decide ((n : Int) < (s.size : Int)) = true := decide_eq_true (by omega)
  have d4 : decide (n < s.size) = true := decide_eq_true (by omega)
  have d5 : decide ((n : Int) < 0) = false := decide_eq_false (by omega)
  clear hz hn
  go_wp2_with fail
  refine (pk_parse_short _ _ 6 HCUT.out _ HS.out).mono ?_
  unfold PkV.val PkV.zero
  rintro x w3 ⟨rfl, b3⟩
  have H3 := Lib.hid ((H2.out.2.trans (b3.mono H2.out.2.size)).trans ((Kq.below_alloc w3 (Obj.cells #[Value.int IntKind.i64 0, Value.int IntKind.u64 0, Value.int IntKind.u64 0, Value.string ⟨#[]⟩] 39)).mono (Nat.le_trans H2.out.2.size b3.size)))
  clear b3 H2
  go_wp2
  go_ret
  exact ⟨rfl, H3.out⟩
end Go.Proofs.Ytclepgpaifaneaa.packetCuts
