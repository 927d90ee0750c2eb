/- The document's example of head. No condition. -/
import Derived.WalkSpells
import Derived.Test.YtejhlommjgibmaaHdNext
namespace Go.Proofs.Ytejhlommjgibmaa
open Go.RowKit
set_option linter.unusedVariables false
theorem good_put (a g sg : Nat) (h : HdOk a g sg) (hg : g < M64) : hdGoodB a (hdPut a g sg) = true := by
  have hs := h.s1
  have ha := h.a0
  refine of_good ⟨⟨by omega, by have := h.a1; omega⟩, hdPut_size a g sg (by omega), ?_, ?_, ?_⟩
  · unfold hdPut; exact right_seal _
  · rw [gOf_put a g sg hg (by omega), sOf_put a g sg (by omega)]; exact ⟨h.g0, by omega⟩
  · rw [gOf_put a g sg hg (by omega), sOf_put a g sg (by omega)]
theorem strs_two (w : World) (s t : ByteArray) (ty : TypeId) : StrsAt (w.alloc (.cells #[.string s, .string t] ty)) (some ⟨w.heap.size, 0, none⟩) [s, t] :=
  ⟨fun j hj => by
    have h : j = 0 ∨ j = 1 := by simp at hj; omega
    rcases h with rfl | rfl
    · exact ⟨w.heap.size, 0, rfl, by simp, Kq.blk_cell (Kq.blk_new _ _ _ _) 0⟩
    · exact ⟨w.heap.size, 0, rfl, by simp, Kq.blk_cell (Kq.blk_new _ _ _ _) 1⟩⟩
theorem ok3 : HdOk (64 : Nat) 3 (0 : Nat) := ⟨by decide, by decide, by decide, by decide, by decide⟩
theorem ok4 : HdOk (64 : Nat) 4 (1 : Nat) := ⟨by decide, by decide, by decide, by decide, by decide⟩
theorem lt3 : 3 < M64 := by unfold M64; decide
theorem lt4 : 4 < M64 := by unfold M64; decide
theorem nw_two (a : Nat) (s t : ByteArray) (g h sg sh : Nat) (hs : hdGoodB a s = true) (ht : hdGoodB a t = true) (gs : gOf s = g) (gt : gOf t = h) (ss : sOf s = sg) (st : sOf t = sh) (hlt : g < h) : nw a [s, t] 2 = (h, sh, 1) := by
  have h1 : nw a [s, t] 1 = (g, sg, 0) := by
    rw [show (1 : Nat) = 0 + 1 from rfl, nw_succ a [s, t] 0 (by simp)]
    show nwStep a (0, 0, -1) s 0 = _
    rw [nwStep, if_pos ⟨hs, Or.inl (by decide)⟩, gs, ss]; rfl
  rw [show (2 : Nat) = 1 + 1 from rfl, nw_succ a [s, t] 1 (by simp), h1]
  show nwStep a (g, sg, 0) t 1 = _
  rw [nwStep, if_pos ⟨ht, Or.inr (by rw [gt]; exact hlt)⟩, gt, st]; rfl
theorem nw_first (a : Nat) (s t : ByteArray) (g sg : Nat) (hs : hdGoodB a s = true) (ht : hdGoodB a t = false) (gs : gOf s = g) (ss : sOf s = sg) : nw a [s, t] 2 = (g, sg, 0) := by
  have h1 : nw a [s, t] 1 = (g, sg, 0) := by
    rw [show (1 : Nat) = 0 + 1 from rfl, nw_succ a [s, t] 0 (by simp)]
    show nwStep a (0, 0, -1) s 0 = _
    rw [nwStep, if_pos ⟨hs, Or.inl (by decide)⟩, gs, ss]; rfl
  rw [show (2 : Nat) = 1 + 1 from rfl, nw_succ a [s, t] 1 (by simp), h1]
  show nwStep a (g, sg, 0) t 1 = _
  rw [nwStep, if_neg (fun h => by rw [ht] at h; cases h.1)]
theorem bad_four : CrcM.over 4294967295 (((hdBody 64 4 1 ++ CrcM.bytes (CrcM.upd 0 (hdBody 64 4 1))).take 63) ++ [63]) ≠ CrcM.residue := by decide +kernel
theorem last_four : (hdBody 64 4 1 ++ CrcM.bytes (CrcM.upd 0 (hdBody 64 4 1))).getD 63 0 ≠ 63 := by decide +kernel
theorem wrong_four : hdGoodB 64 ((hdPut 64 4 1).extract 0 63 ++ ⟨#[63]⟩) = false := by
  rw [Bool.eq_false_iff]
  intro h
  have hr := (good_of h).hr
  have hs := (good_of h).hs
  rw [right_iff _ (by omega)] at hr
  have h2 := of_decide_eq_true hr
  rw [nl_append, nl_extract, List.drop_zero, nl_hdPut 64 4 1 (by decide)] at h2
  exact bad_four h2
set_option maxRecDepth 100000 in
set_option maxHeartbeats 2000000 in
theorem awake (w : World) : Calls Try.prog 6 #[] w fun x w' => x = .returned (.bool true) ∧ Below w.heap.size w w' := by
  have HP3 : Hid (∀ w : World, Calls Try.prog 7 #[.int .i64 64, .agg #[.int .u64 3, .int .i64 0]] w fun x w' => x = .returned (.tuple #[.string (hdPut 64 3 0), .int .i64 0]) ∧ Below w.heap.size w w') := Lib.hid (fun w => hd_put_ok 64 3 0 w ok3 lt3)
  have HP4 : Hid (∀ w : World, Calls Try.prog 7 #[.int .i64 64, .agg #[.int .u64 4, .int .i64 1]] w fun x w' => x = .returned (.tuple #[.string (hdPut 64 4 1), .int .i64 0]) ∧ Below w.heap.size w w') := Lib.hid (fun w => hd_put_ok 64 4 1 w ok4 lt4)
  have HN := Lib.hid (nw_two 64 (hdPut 64 3 0) (hdPut 64 4 1) 3 4 0 1 (good_put 64 3 0 ok3 lt3) (good_put 64 4 1 ok4 lt4) (gOf_put 64 3 0 lt3 (by decide)) (gOf_put 64 4 1 lt4 (by decide)) (sOf_put 64 3 0 (by decide)) (sOf_put 64 4 1 (by decide)) (by decide))
  have HM := Lib.hid (nw_first 64 (hdPut 64 3 0) ((hdPut 64 4 1).extract 0 63 ++ ⟨#[63]⟩) 3 0 (good_put 64 3 0 ok3 lt3) wrong_four (gOf_put 64 3 0 lt3 (by decide)) (sOf_put 64 3 0 (by decide)))
  have s3 := hdPut_size 64 3 0 (by decide)
  have s4 := hdPut_size 64 4 1 (by decide)
  have l4 : (nl (hdPut 64 4 1)).getD 63 0 ≠ 63 := by rw [nl_hdPut 64 4 1 (by decide)]; exact last_four
  generalize hdPut 64 3 0 = A at *
  generalize hdPut 64 4 1 = B at *
  have t3 : ((A.size : Int) != 64) = false := by simp [s3]
  have t4 : ((B.size : Int) != 64) = false := by simp [s4]
  have u3 : (A.size != 64) = false := by simp [s3]
  have u4 : (B.size != 64) = false := by simp [s4]
  have i63 : 63 < B.size := by omega
  have j63 : (63 : Int) < (B.size : Int) := by omega
  have k63 : (63 : Int) ≤ (B.size : Int) := by omega
  have k64 : (B.size : Int) ≤ 64 := by omega
  have hi : (((B[63]'i63).toNat : Int) == 63) = false := by rw [beq_eq_false_iff_ne]; intro e; exact l4 (by rw [at_nl B 63 i63]; omega)
  have HMX : Hid (A.size ≤ maxLen ∧ B.size ≤ maxLen ∧ (B.extract 0 63 ++ ⟨#[63]⟩).size ≤ maxLen) := Lib.hid ⟨by unfold maxLen; omega, by unfold maxLen; omega, by rw [ByteArray.size_append]; unfold maxLen; simp; show _ + 1 ≤ _; omega⟩
  clear s3 s4 l4
  go_enter Try.func6, Try.ntmps6
  go_wp2_with fail
  refine (HP3.out _).mono ?_
  rintro x w1 ⟨rfl, b1⟩
  have H1 := Lib.hid b1
  clear b1
  go_wp2_with fail
  refine (HP4.out _).mono ?_
  rintro x w2 ⟨rfl, b2⟩
  have H2 := Lib.hid (H1.out.trans (b2.mono H1.out.size))
  clear b2
  go_wp2_with fail
  refine (hd_newest 64 (some ⟨w2.heap.size, 0, none⟩) 2 [A, B] _ (by simp) (by intro s hs; simp at hs; rcases hs with rfl | rfl; exact HMX.out.1; exact HMX.out.2.1) (strs_two w2 A B _)).mono ?_
  rw [show nw (64 : Int).toNat [A, B] [A, B].length = (4, 1, 1) from HN.out]
  rintro x w3 ⟨rfl, b3⟩
  have H3 := Lib.hid (H2.out.trans (((Kq.below_alloc w2 (.cells #[.string A, .string B] 9)).trans (b3.mono (Kq.below_alloc w2 _).size)).mono H2.out.size))
  clear b3
  go_wp2_with fail
  have HS2 := Lib.hid (strs_two (w3.alloc (.cells #[.int .u64 4, .int .i64 1] 29)) A (B.extract 0 63 ++ ⟨#[63]⟩) 9)
  rw [World.size_alloc] at HS2
  have TN := Lib.hid (two_new w3 #[.int .u64 4, .int .i64 1] #[.string A, .string (B.extract 0 63 ++ ⟨#[63]⟩)] 29 9)
  refine (hd_newest 64 (some ⟨w3.heap.size + 1, 0, none⟩) 2 [A, B.extract 0 63 ++ ⟨#[63]⟩] _ (by simp) (by intro s hs; simp at hs; rcases hs with rfl | rfl; exact HMX.out.1; exact HMX.out.2.2) HS2.out).mono ?_
  rw [show nw (64 : Int).toNat [A, B.extract 0 63 ++ ⟨#[63]⟩] [A, B.extract 0 63 ++ ⟨#[63]⟩].length = (3, 0, 0) from HM.out]
  rintro x w4 ⟨rfl, b4⟩
  have hbk := Kq.below_blk b4 TN.out.1 (Kq.blk_lt TN.out.1)
  have c0 : w4.cell? ⟨w3.heap.size, 0, none⟩ = some (.int .u64 4) := Kq.blk_cell hbk 0
  have c1 : w4.cell? ⟨w3.heap.size, 1, none⟩ = some (.int .i64 1) := Kq.blk_cell hbk 1
  have hlt := Kq.blk_lt hbk
  have H4 := Lib.hid (H3.out.trans ((TN.out.2.2.trans (b4.mono TN.out.2.2.size)).mono H3.out.size))
  have H5 := Lib.hid (H4.out.trans ((Kq.below_alloc w4 (.cells #[.int .u64 3, .int .i64 0] 29)).mono H4.out.size))
  clear b4 hbk t3 t4 u3 u4
  go_wp2
  go_ret
  exact ⟨rfl, H5.out⟩
end Go.Proofs.Ytejhlommjgibmaa
