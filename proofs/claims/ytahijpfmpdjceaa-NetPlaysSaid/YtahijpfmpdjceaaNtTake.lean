/- Contract of a net's Take in one. Condition: never more than 256 messages. -/
import Derived.WalkSpells
import Derived.Outline
import Derived.Test.YtahijpfmpdjceaaNtTakeA
import Derived.Test.YtahijpfmpdjceaaNtTakeB
namespace Go.Proofs.Ytahijpfmpdjceaa
open Go.RowKit
set_option linter.unusedVariables false
def zeroM : MsgV := ⟨0, 0, 0, 0, 0, 0, ⟨#[]⟩, ⟨#[]⟩⟩
/-- what a Take tells, and leaves -/
def takeF (k : Int) (ms : List MsgV) : MsgV × Int × List MsgV := if hasF k ms.length = true then (ms[k.toNat]!, 0, ms.take k.toNat ++ ms.drop (k.toNat + 1)) else (zeroM, 3, ms)
set_option maxRecDepth 100000 in
set_option maxHeartbeats 4000000 in
theorem nt_take_bad (base N : Nat) (v : Value) (ms : List MsgV) (k : Int) (w : World) (h : NtS w base N v ms) (hb : hasF k ms.length = false) :
    Calls Try.prog 12 #[.pointer (some ⟨N, 0, none⟩), .int .i64 k] w fun e w' => e = .returned (.tuple #[zeroM.val, .int .i64 3]) ∧ NtP w base N v ms w' := by
  have HH1 := Lib.hid (fun (w' : World) (hb : Below w.heap.size w w') => nt_has base N _ ms k w' (h.below hb))
  rw [hb] at HH1
  have H := Lib.hid h
  obtain ⟨w0, hw0⟩ : ∃ z, z = w.alloc (.cells #[.int .i64 0, .int .i64 0, .int .u64 0, .int .i64 0, .int .u64 0, .int .u64 0, .string ⟨#[]⟩, .string ⟨#[]⟩] 39) := ⟨_, rfl⟩
  have hb0 : Below w.heap.size w w0 := by rw [hw0]; exact Kq.below_alloc _ _
  have hz : w0.heap[w.heap.size]? = some (.cells #[.int .i64 0, .int .i64 0, .int .u64 0, .int .i64 0, .int .u64 0, .int .u64 0, .string ⟨#[]⟩, .string ⟨#[]⟩] 39 (0, 0)) := by rw [hw0]; exact Kq.blk_new _ _ _ _
  clear h hb
  unfold zeroM MsgV.val
  go_enter Try.func12, Try.ntmps12
  go_wp2_with fail
  rw [← hw0]
  refine (HH1.out _ hb0).mono ?_
  rintro e w1 ⟨rfl, rfl⟩
  clear hw0
  have z0 := Kq.blk_cell hz 0
  have u0 := Kq.blk_free hz 0
  have z1 := Kq.blk_cell hz 1
  have u1 := Kq.blk_free hz 1
  have z2 := Kq.blk_cell hz 2
  have u2 := Kq.blk_free hz 2
  have z3 := Kq.blk_cell hz 3
  have u3 := Kq.blk_free hz 3
  have z4 := Kq.blk_cell hz 4
  have u4 := Kq.blk_free hz 4
  have z5 := Kq.blk_cell hz 5
  have u5 := Kq.blk_free hz 5
  have z6 := Kq.blk_cell hz 6
  have u6 := Kq.blk_free hz 6
  have z7 := Kq.blk_cell hz 7
  have u7 := Kq.blk_free hz 7
  simp only [List.getElem?_toArray, List.getElem?_cons_zero, List.getElem?_cons_succ] at z0 z1 z2 z3 z4 z5 z6 z7
  obtain ⟨cur', y1, y2, y3⟩ := setMsg_blk (w := w0) (m := zeroM) hz (show 0 + 8 ≤ 8 by omega)
  have HY := Lib.hid (And.intro y1 y3)
  have HP : Hid (NtP w base N v ms (setMsg w0 w.heap.size 0 zeroM)) := by
    have hk := setMsg_keeps w0 w.heap.size 0 zeroM
    have hN := Kq.blk_lt H.out.blk
    have hov : ∀ j, v.ownBlock = some j → j < w.heap.size := fun j hj => (H.out.own.lt j hj).2
    exact Lib.hid ⟨v, (H.out.below hb0).keeps hk (fun e => by omega) (fun j hj e => by have := hov j hj; omega), ⟨hk.os.trans hb0.os, hk.tape.trans hb0.tape, hk.output.trans hb0.output, Nat.le_trans hb0.size hk.size, fun j hj _ => (hk.block j (Nat.lt_of_lt_of_le hj hb0.size) (by omega)).trans (hb0.block j hj)⟩, fun j hj => Or.inl hj⟩
  clear hb0 y1 y2 y3 hz
  go_wp2
  change bodyPost _ _ _ _ _ (setMsg w0 w.heap.size 0 zeroM)
  have hz' : (setMsg w0 w.heap.size 0 zeroM).heap[w.heap.size]? = some (.cells zeroM.cells.toArray 39 (0, 0)) := by
    have e : cur' = zeroM.cells.toArray := by
      apply Array.ext'
      rw [HY.out.2]
      simp [MsgV.cells]
    rw [HY.out.1, e]
  generalize setMsg w0 w.heap.size 0 zeroM = wf at *
  clear z0 z1 z2 z3 z4 z5 z6 z7 u0 u1 u2 u3 u4 u5 u6 u7
  have z0 := Kq.blk_cell hz' 0
  have z1 := Kq.blk_cell hz' 1
  have z2 := Kq.blk_cell hz' 2
  have z3 := Kq.blk_cell hz' 3
  have z4 := Kq.blk_cell hz' 4
  have z5 := Kq.blk_cell hz' 5
  have z6 := Kq.blk_cell hz' 6
  have z7 := Kq.blk_cell hz' 7
  simp only [zeroM, MsgV.cells, List.getElem?_toArray, List.getElem?_cons_zero, List.getElem?_cons_succ] at z0 z1 z2 z3 z4 z5 z6 z7
  refine bodyPost_ret (v := .tuple #[.agg #[.int .i64 0, .int .i64 0, .int .u64 0, .int .i64 0, .int .u64 0, .int .u64 0, .string ⟨#[]⟩, .string ⟨#[]⟩], .int .i64 3]) (by simp [results, Try.results12, go_sem, z0, z1, z2, z3, z4, z5, z6, z7]) rfl ?_
  exact ⟨rfl, HP.out⟩
theorem nt_take (base N : Nat) (v : Value) (ms : List MsgV) (k : Int) (w : World) (h : NtS w base N v ms) (hm : ms.length ≤ 256) :
    Calls Try.prog 12 #[.pointer (some ⟨N, 0, none⟩), .int .i64 k] w fun e w' => e = .returned (.tuple #[(takeF k ms).1.val, .int .i64 (takeF k ms).2.1]) ∧ NtP w base N v (takeF k ms).2.2 w' := by
  unfold takeF
  by_cases hb : hasF k ms.length = true
  · rw [if_pos hb]
    obtain ⟨k0, k1⟩ := hasF_true hb
    obtain ⟨k, rfl⟩ := Int.eq_ofNat_of_zero_le k0
    have hk : k < ms.length := by omega
    have hge : ms[(k : Int).toNat]! = ms[k] := by rw [Int.toNat_natCast]; exact getElem!_pos ms k hk
    rw [hge, Int.toNat_natCast]
    rcases h.own.2 with ⟨rfl, h0⟩ | ⟨g, cap, cur, rfl, _, hbk, hc, _, hcs, hpre⟩
    · omega
    · by_cases hca : cap = k + 1
      · exact nt_take_a base N g cap ms cur k w h hbk hc hcs hpre hk hca hm
      · exact nt_take_b base N g cap ms cur k w h hbk hc hcs hpre hk hca hm
  · rw [if_neg hb]
    exact nt_take_bad base N v ms k w h (by simpa using hb)
end Go.Proofs.Ytahijpfmpdjceaa
