/- What the document's example of layer 20 wants; a net that a law made. No condition. -/
import Derived.WalkSpells
import Derived.Outline
import Derived.Test.YtahijpfmpdjceaaNtTwice
namespace Go.Proofs.Ytahijpfmpdjceaa
open Go.RowKit
set_option linter.unusedVariables false
structure NtI (W w : World) (base N : Nat) (v : Value) (ms : List MsgV) : Prop where
  s : NtS w base N v ms
  bel : Below W.heap.size W w
  hN : W.heap.size ≤ N
  hbase : W.heap.size ≤ base
theorem NtI.below {W w w' : World} {base N : Nat} {v : Value} {ms : List MsgV} (h : NtI W w base N v ms) (hb : Below w.heap.size w w') : NtI W w' base N v ms := ⟨h.s.below hb, h.bel.trans (hb.mono h.bel.size), h.hN, h.hbase⟩
theorem NtI.step {W w w' : World} {base N : Nat} {v : Value} {ms ms' : List MsgV} (h : NtI W w base N v ms) (hd : NtP w base N v ms' w') : ∃ v', NtI W w' base N v' ms' := by
  obtain ⟨v', h1, h2, h3⟩ := hd
  refine ⟨v', h1, h.bel.trans (h2.below h.bel.size (fun j _ hj => ?_)), h.hN, h.hbase⟩
  rcases hj with rfl | e
  · exact h.hN
  · exact Nat.le_trans h.hbase (h.s.own.lt j e).1
theorem NtI.made {W w w' : World} (hW : Below W.heap.size W w) (h : NtS w' w.heap.size w.heap.size (.slice none 0 0) []) (hb : Below w.heap.size w w') : NtI W w' w.heap.size w.heap.size (.slice none 0 0) [] := ⟨h, hW.trans (hb.mono hW.size), hW.size, hW.size⟩
def oneM (h : Int) : MsgV := ⟨1, 0, h, 0, 0, 0, ⟨#[]⟩, ⟨#[]⟩⟩
set_option maxRecDepth 100000 in
theorem nt_one (h : Int) (w : World) : Calls Try.prog 21 #[.int .u64 h] w fun e w' => e = .returned (.agg #[.int .i64 1, .int .i64 0, .int .u64 h, .int .i64 0, .int .u64 0, .int .u64 0, .string ⟨#[]⟩, .string ⟨#[]⟩]) ∧ Below w.heap.size w w' := by
  obtain ⟨wf, hwf⟩ : ∃ z, z = w.alloc (.cells #[.int .i64 1, .int .i64 0, .int .u64 h, .int .i64 0, .int .u64 0, .int .u64 0, .string ⟨#[]⟩, .string ⟨#[]⟩] 39) := ⟨_, rfl⟩
  have hb : Below w.heap.size w wf := by rw [hwf]; exact Kq.below_alloc _ _
  have hk : wf.heap[w.heap.size]? = some (.cells #[.int .i64 1, .int .i64 0, .int .u64 h, .int .i64 0, .int .u64 0, .int .u64 0, .string ⟨#[]⟩, .string ⟨#[]⟩] 39 (0, 0)) := by rw [hwf]; exact Kq.blk_new _ _ _ _
  have z0 := Kq.blk_cell hk 0
  have z1 := Kq.blk_cell hk 1
  have z2 := Kq.blk_cell hk 2
  have z3 := Kq.blk_cell hk 3
  have z4 := Kq.blk_cell hk 4
  have z5 := Kq.blk_cell hk 5
  have z6 := Kq.blk_cell hk 6
  have z7 := Kq.blk_cell hk 7
  simp only [List.getElem?_toArray, List.getElem?_cons_zero, List.getElem?_cons_succ] at z0 z1 z2 z3 z4 z5 z6 z7
  have HB := Lib.hid hb
  clear hb hk
  have HWF := Lib.hid hwf
  clear hwf
  go_enter Try.func21, Try.ntmps21
  go_wp2
  rw [← HWF.out]
  refine bodyPost_ret (v := .agg #[.int .i64 1, .int .i64 0, .int .u64 h, .int .i64 0, .int .u64 0, .int .u64 0, .string ⟨#[]⟩, .string ⟨#[]⟩]) (by simp [results, Try.results21, go_sem, z0, z1, z2, z3, z4, z5, z6, z7]) rfl ?_
  exact ⟨rfl, HB.out⟩
theorem made_ms (w : World) (ms : List MsgV) (T : TypeId) : MsAt (w.alloc (.cells (mcells ms).toArray T)) (some ⟨w.heap.size, 0, none⟩) ms := fun j hj => by
  refine ⟨w.heap.size, 0, rfl, by simp, fun i hi => ?_⟩
  rw [Nat.zero_add, Kq.blk_cell (Kq.blk_new _ _ _ _), List.getElem?_toArray]
  exact mcells_at ms j hj i hi
theorem aw1 : twF ((0 : Nat) : Int) [oneM 1, oneM 2] = ([oneM 1, oneM 2, oneM 1], 0) := by
  simp [twF, hasF]
theorem aw2 : moveF ((2 : Nat) : Int) ((0 : Nat) : Int) [oneM 1, oneM 2, oneM 1] = ([oneM 1, oneM 1, oneM 2], 0) := by
  simp [moveF, hasF, moveL]
theorem aw3 : sendN [oneM 1, oneM 2].length ([] : List MsgV).length = 2 := by simp [sendN]
theorem aw4 (N : Nat) (v : Value) (q : Nat) (w : World) (h : NtS w N N v []) (hm : MsAt w (some ⟨q, 0, none⟩) [oneM 1, oneM 2]) :
    Calls Try.prog 10 #[.pointer (some ⟨N, 0, none⟩), .slice (some ⟨q, 0, none⟩) 2 2] w fun e w' => e = .returned (.int .i64 2) ∧ NtP w N N v [oneM 1, oneM 2] w' := by
  have h := nt_send N N v [] (some ⟨q, 0, none⟩) 2 [oneM 1, oneM 2] w h (by simp) (by simp) (by simp) hm (fun e => by cases e)
  rw [aw3] at h
  exact h
theorem aw5 (N : Nat) (v : Value) (w : World) (h : NtS w N N v [oneM 1, oneM 2]) : Calls Try.prog 14 #[.pointer (some ⟨N, 0, none⟩), .int .i64 0] w fun e w' => e = .returned (.int .i64 0) ∧ NtP w N N v [oneM 1, oneM 2, oneM 1] w' := by
  have h := nt_twice N N v [oneM 1, oneM 2] ((0 : Nat) : Int) w h (by simp)
  rw [aw1] at h
  exact h
theorem aw6 (N : Nat) (v : Value) (w : World) (h : NtS w N N v [oneM 1, oneM 2, oneM 1]) : Calls Try.prog 16 #[.pointer (some ⟨N, 0, none⟩), .int .i64 2, .int .i64 0] w fun e w' => e = .returned (.int .i64 0) ∧ NtP w N N v [oneM 1, oneM 1, oneM 2] w' := by
  have h := nt_move N N v [oneM 1, oneM 2, oneM 1] ((2 : Nat) : Int) ((0 : Nat) : Int) w h (by simp)
  rw [aw2] at h
  exact h
theorem aw7 (A : Option Addr) (ca q : Nat) (w : World) (ha : MsAt w A [oneM 1, oneM 1, oneM 2]) (hb : MsAt w (some ⟨q, 0, none⟩) [oneM 1, oneM 1, oneM 2]) :
    Calls Try.prog 18 #[.slice A 3 ca, .slice (some ⟨q, 0, none⟩) 3 3] w fun e w' => e = .returned (.bool true) ∧ ∃ r, w' = w.drewN r := same_self [oneM 1, oneM 1, oneM 2] A (some ⟨q, 0, none⟩) ca 3 w (by simp) ha hb
theorem aw8 (N : Nat) (v : Value) (w : World) (h : NtS w N N v [oneM 1, oneM 1, oneM 2]) : Calls Try.prog 19 #[.pointer (some ⟨N, 0, none⟩)] w fun e w' => ∃ A c, e = .returned (.slice A 3 c) ∧ MsAt w' A [oneM 1, oneM 1, oneM 2] ∧ Below w.heap.size w w' := by
  refine (nt_list N N v _ w h (by simp)).mono ?_
  rintro e w' ⟨v', rfl, hown, hb⟩
  obtain ⟨A, c, rfl, -, -, hat⟩ := row_ms hown
  exact ⟨A, c, rfl, hat, hb⟩
end Go.Proofs.Ytahijpfmpdjceaa
