/- Contract of the reference's net: Take. Condition: sizes. -/
import Derived.WalkSpells
import Derived.Outline
import Derived.Deep.QuietTactic
import Derived.Test.YtahijpfmpdjceaaNtRefTake
namespace Go.Proofs.Ytahijpfmpdjceaa
open Go.RowKit
set_option linter.unusedVariables false
set_option maxRecDepth 100000 in
set_option maxHeartbeats 4000000 in
theorem rt_take_neg (base R : Nat) (v : Value) (ms : List MsgV) (k : Int) (w : World) (h : RtS w base R v ms) (hk : k < 0) :
    Calls Try.prog 13 #[.pointer (some ⟨R, 0, none⟩), .int .i64 k] w fun e w' => e = .returned (.tuple #[zeroM.val, .int .i64 3]) ∧ RtP w base R v ms w' := by
  have H := Lib.hid h
  obtain ⟨w0, hw0⟩ : ∃ z, z = w.alloc (.cells #[.int .i64 0, .int .i64 0, .int .u64 0, .int .i64 0, .int .u64 0, .int .u64 0, .string ⟨#[]⟩, .string ⟨#[]⟩] 39) := ⟨_, rfl⟩
  have hb0 : Below w.heap.size w w0 := by rw [hw0]; exact Kq.below_alloc _ _
  have hz : w0.heap[w.heap.size]? = some (.cells #[.int .i64 0, .int .i64 0, .int .u64 0, .int .i64 0, .int .u64 0, .int .u64 0, .string ⟨#[]⟩, .string ⟨#[]⟩] 39 (0, 0)) := by rw [hw0]; exact Kq.blk_new _ _ _ _
  obtain ⟨LA, lcap, hv', -, -, -⟩ := h.at
  have c0 := (h.below hb0).c0
  rw [hv'] at c0
  have d1 : decide (k < 0) = true := decide_eq_true hk
  have z0 := Kq.blk_cell hz 0
  have u0 := Kq.blk_free hz 0
  have z1 := Kq.blk_cell hz 1
  have u1 := Kq.blk_free hz 1
  have z2 := Kq.blk_cell hz 2
  have u2 := Kq.blk_free hz 2
  have z3 := Kq.blk_cell hz 3
  have u3 := Kq.blk_free hz 3
  have z4 := Kq.blk_cell hz 4
  have u4 := Kq.blk_free hz 4
  have z5 := Kq.blk_cell hz 5
  have u5 := Kq.blk_free hz 5
  have z6 := Kq.blk_cell hz 6
  have u6 := Kq.blk_free hz 6
  have z7 := Kq.blk_cell hz 7
  have u7 := Kq.blk_free hz 7
  simp only [List.getElem?_toArray, List.getElem?_cons_zero, List.getElem?_cons_succ] at z0 z1 z2 z3 z4 z5 z6 z7
  have HP : Hid (RtP w base R v ms w0) := Lib.hid (RtP.same h hb0)
  have HZ := Lib.hid hz
  rw [hv'] at HP
  subst hv'
  clear hb0 hz h hk H
  unfold zeroM MsgV.val
  subst hw0
  go_enter Try.func13, Try.ntmps13
  go_wp2
  obtain ⟨w0, hw0⟩ : ∃ z, z = w.alloc (.cells #[.int .i64 0, .int .i64 0, .int .u64 0, .int .i64 0, .int .u64 0, .int .u64 0, .string ⟨#[]⟩, .string ⟨#[]⟩] 39) := ⟨_, rfl⟩
  rw [← hw0] at HP HZ ⊢
  have hz' := HZ.out
  clear hw0 z0 z1 z2 z3 z4 z5 z6 z7 u0 u1 u2 u3 u4 u5 u6 u7 c0
  have z0 := Kq.blk_cell hz' 0
  have z1 := Kq.blk_cell hz' 1
  have z2 := Kq.blk_cell hz' 2
  have z3 := Kq.blk_cell hz' 3
  have z4 := Kq.blk_cell hz' 4
  have z5 := Kq.blk_cell hz' 5
  have z6 := Kq.blk_cell hz' 6
  have z7 := Kq.blk_cell hz' 7
  simp only [List.getElem?_toArray, List.getElem?_cons_zero, List.getElem?_cons_succ] at z0 z1 z2 z3 z4 z5 z6 z7
  refine bodyPost_ret (v := .tuple #[.agg #[.int .i64 0, .int .i64 0, .int .u64 0, .int .i64 0, .int .u64 0, .int .u64 0, .string ⟨#[]⟩, .string ⟨#[]⟩], .int .i64 3]) (by simp [results, Try.results13, go_sem, z0, z1, z2, z3, z4, z5, z6, z7]) rfl ?_
  exact ⟨rfl, HP.out⟩
set_option maxRecDepth 100000 in
set_option maxHeartbeats 4000000 in
theorem rt_take_far (base R : Nat) (v : Value) (ms : List MsgV) (k : Int) (w : World) (h : RtS w base R v ms) (hk : 0 ≤ k ∧ (ms.length : Int) ≤ k) :
    Calls Try.prog 13 #[.pointer (some ⟨R, 0, none⟩), .int .i64 k] w fun e w' => e = .returned (.tuple #[zeroM.val, .int .i64 3]) ∧ RtP w base R v ms w' := by
  have H := Lib.hid h
  obtain ⟨w0, hw0⟩ : ∃ z, z = w.alloc (.cells #[.int .i64 0, .int .i64 0, .int .u64 0, .int .i64 0, .int .u64 0, .int .u64 0, .string ⟨#[]⟩, .string ⟨#[]⟩] 39) := ⟨_, rfl⟩
  have hb0 : Below w.heap.size w w0 := by rw [hw0]; exact Kq.below_alloc _ _
  have hz : w0.heap[w.heap.size]? = some (.cells #[.int .i64 0, .int .i64 0, .int .u64 0, .int .i64 0, .int .u64 0, .int .u64 0, .string ⟨#[]⟩, .string ⟨#[]⟩] 39 (0, 0)) := by rw [hw0]; exact Kq.blk_new _ _ _ _
  obtain ⟨LA, lcap, hv', -, -, -⟩ := h.at
  have c0 := (h.below hb0).c0
  rw [hv'] at c0
  have d1 : decide (k < 0) = false := decide_eq_false (by omega)
  have d2 : decide ((ms.length : Int) ≤ k) = true := decide_eq_true hk.2
  have z0 := Kq.blk_cell hz 0
  have u0 := Kq.blk_free hz 0
  have z1 := Kq.blk_cell hz 1
  have u1 := Kq.blk_free hz 1
  have z2 := Kq.blk_cell hz 2
  have u2 := Kq.blk_free hz 2
  have z3 := Kq.blk_cell hz 3
  have u3 := Kq.blk_free hz 3
  have z4 := Kq.blk_cell hz 4
  have u4 := Kq.blk_free hz 4
  have z5 := Kq.blk_cell hz 5
  have u5 := Kq.blk_free hz 5
  have z6 := Kq.blk_cell hz 6
  have u6 := Kq.blk_free hz 6
  have z7 := Kq.blk_cell hz 7
  have u7 := Kq.blk_free hz 7
  simp only [List.getElem?_toArray, List.getElem?_cons_zero, List.getElem?_cons_succ] at z0 z1 z2 z3 z4 z5 z6 z7
  have HP : Hid (RtP w base R v ms w0) := Lib.hid (RtP.same h hb0)
  have HZ := Lib.hid hz
  rw [hv'] at HP
  subst hv'
  clear hb0 hz h hk H
  unfold zeroM MsgV.val
  subst hw0
  go_enter Try.func13, Try.ntmps13
  go_wp2
  obtain ⟨w0, hw0⟩ : ∃ z, z = w.alloc (.cells #[.int .i64 0, .int .i64 0, .int .u64 0, .int .i64 0, .int .u64 0, .int .u64 0, .string ⟨#[]⟩, .string ⟨#[]⟩] 39) := ⟨_, rfl⟩
  rw [← hw0] at HP HZ ⊢
  have hz' := HZ.out
  clear hw0 z0 z1 z2 z3 z4 z5 z6 z7 u0 u1 u2 u3 u4 u5 u6 u7 c0
  have z0 := Kq.blk_cell hz' 0
  have z1 := Kq.blk_cell hz' 1
  have z2 := Kq.blk_cell hz' 2
  have z3 := Kq.blk_cell hz' 3
  have z4 := Kq.blk_cell hz' 4
  have z5 := Kq.blk_cell hz' 5
  have z6 := Kq.blk_cell hz' 6
  have z7 := Kq.blk_cell hz' 7
  simp only [List.getElem?_toArray, List.getElem?_cons_zero, List.getElem?_cons_succ] at z0 z1 z2 z3 z4 z5 z6 z7
  refine bodyPost_ret (v := .tuple #[.agg #[.int .i64 0, .int .i64 0, .int .u64 0, .int .i64 0, .int .u64 0, .int .u64 0, .string ⟨#[]⟩, .string ⟨#[]⟩], .int .i64 3]) (by simp [results, Try.results13, go_sem, z0, z1, z2, z3, z4, z5, z6, z7]) rfl ?_
  exact ⟨rfl, HP.out⟩
theorem rt_take (base R : Nat) (v : Value) (ms : List MsgV) (k : Int) (w : World) (h : RtS w base R v ms) (hm : ms.length ≤ 256) :
    Calls Try.prog 13 #[.pointer (some ⟨R, 0, none⟩), .int .i64 k] w fun e w' => e = .returned (.tuple #[(takeF k ms).1.val, .int .i64 (takeF k ms).2.1]) ∧ RtP w base R v (takeF k ms).2.2 w' := by
  unfold takeF
  by_cases hb : hasF k ms.length = true
  · rw [if_pos hb]
    obtain ⟨k0, k1⟩ := hasF_true hb
    obtain ⟨k, rfl⟩ := Int.eq_ofNat_of_zero_le k0
    have hk : k < ms.length := by omega
    have hge : ms[(k : Int).toNat]! = ms[k] := by rw [Int.toNat_natCast]; exact getElem!_pos ms k hk
    rw [hge, Int.toNat_natCast]
    exact rt_take_go base R v ms k w h hm hk
  · rw [if_neg hb]
    by_cases h0 : k < 0
    · exact rt_take_neg base R v ms k w h h0
    · refine rt_take_far base R v ms k w h ⟨by omega, ?_⟩
      unfold hasF at hb
      simp only [decide_eq_true_eq] at hb
      omega
end Go.Proofs.Ytahijpfmpdjceaa
