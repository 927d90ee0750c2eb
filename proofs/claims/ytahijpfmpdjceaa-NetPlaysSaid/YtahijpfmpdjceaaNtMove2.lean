/- Contract of a net's Move, downward. No condition. -/
import Derived.WalkSpells
import Derived.Outline
import Derived.StillTailTactics
import Derived.Deep.MidRow
import Derived.Test.YtahijpfmpdjceaaNtMove
namespace Go.Proofs.Ytahijpfmpdjceaa
open Go.RowKit
set_option linter.unusedVariables false
theorem move_cells_down {C : List Value} {ms : List MsgV} (hC : C.take (ms.length * 8) = mcells ms) (hl : ms.length * 8 ≤ C.length) {k t : Nat} (hk : t ≤ k) (ht : k < ms.length) (m : MsgV) {C1 : List Value}
    (hC1 : C1 = C.take ((t + 1) * 8) ++ mcells ((ms.drop t).take (k - t)) ++ C.drop ((t + 1) * 8 + (mcells ((ms.drop t).take (k - t))).length)) :
    (C1.take (t * 8) ++ m.cells ++ C1.drop (t * 8 + 8)).take (ms.length * 8) = mcells (ms.take t ++ [m] ++ (ms.drop t).take (k - t) ++ ms.drop (k + 1)) := by
  have q1 : (mcells ((ms.drop t).take (k - t))).length = (k - t) * 8 := by rw [mcells_length, List.length_take, List.length_drop]; congr 1; omega
  have q2 : C.take (t * 8) = mcells (ms.take t) := by rw [mcells_take, ← hC, List.take_take, Nat.min_eq_left (by omega)]
  have q3 : (mcells (ms.take t)).length = t * 8 := by rw [mcells_length, List.length_take]; congr 1; omega
  have hkt : (t + 1) * 8 + (k - t) * 8 = k * 8 + 8 := by omega
  have hT : (C.take ((t + 1) * 8)).length = (t + 1) * 8 := by rw [List.length_take]; omega
  have e1 : C1.take (t * 8) = mcells (ms.take t) := by
    rw [hC1, List.append_assoc, List.take_append_of_le_length (by rw [hT]; omega), List.take_take, Nat.min_eq_left (by omega), q2]
  have e2 : C1.drop (t * 8 + 8) = mcells ((ms.drop t).take (k - t)) ++ C.drop (k * 8 + 8) := by
    rw [hC1, List.append_assoc, List.drop_append_of_le_length (by rw [hT]; omega), List.drop_of_length_le (by rw [hT]; omega), List.nil_append, q1, hkt]
  have e3 : (C.drop (k * 8 + 8)).take (ms.length * 8 - (k * 8 + 8)) = mcells (ms.drop (k + 1)) := by
    rw [mcells_drop, ← hC, List.drop_take]
    congr 1
    · omega
    · congr 1; omega
  rw [e1, e2, ← List.append_assoc, List.take_append, List.length_append, List.length_append, q1, q3, show m.cells.length = 8 from rfl, show t * 8 + 8 + (k - t) * 8 = k * 8 + 8 by omega, e3, List.take_of_length_le (by rw [List.length_append, List.length_append, q1, q3, show m.cells.length = 8 from rfl]; omega)]
  rw [mcells_append, mcells_append, mcells_append]
  simp [mcells]
set_option maxRecDepth 100000 in
set_option maxHeartbeats 2000000 in
theorem nt_move_down (base N g cap : Nat) (ms : List MsgV) (cur : Array Value) (k t : Nat) (w : World) (h : NtS w base N (.slice (some ⟨g, 0, none⟩) ms.length cap) ms) (hb : w.heap[g]? = some (.cells cur 39 (0, 0))) (hcap : ms.length ≤ cap) (hcs : cur.size = cap * 8) (hpre : cur.toList.take (ms.length * 8) = mcells ms)
    (hk : k < ms.length) (ht : t < ms.length) (hkt : t < k) (hm : ms.length ≤ 256) :
    Calls Try.prog 16 #[.pointer (some ⟨N, 0, none⟩), .int .i64 (k : Int), .int .i64 (t : Int)] w fun e w' => e = .returned (.int .i64 0) ∧ NtP w base N (.slice (some ⟨g, 0, none⟩) ms.length cap) (moveL k t ms[k] ms) w' := by
  have HH1 := Lib.hid (nt_has base N _ ms (k : Int) w h)
  have HH2 := Lib.hid (nt_has base N _ ms (t : Int) w h)
  have hh1 : hasF (k : Int) ms.length = true := decide_eq_true (by omega)
  have hh2 : hasF (t : Int) ms.length = true := decide_eq_true (by omega)
  rw [hh1] at HH1
  rw [hh2] at HH2
  have H := Lib.hid (And.intro h (And.intro hb (And.intro hcs hpre)))
  have c0 := h.c0
  obtain ⟨A, cap', hv, -, -, hat⟩ := h.at
  injection hv with hA _ hcc
  subst hA
  subst hcc
  obtain ⟨g', o', hA', hg, hc⟩ := hat k hk
  injection hA' with hA'
  injection hA' with e1 e2
  subst e1
  subst e2
  simp only [Nat.zero_add] at hc
  generalize ms[k] = m at *
  have k0 := hc 0 (by omega)
  have k1 := hc 1 (by omega)
  have k2 := hc 2 (by omega)
  have k3 := hc 3 (by omega)
  have k4 := hc 4 (by omega)
  have k5 := hc 5 (by omega)
  have k6 := hc 6 (by omega)
  have k7 := hc 7 (by omega)
  simp only [Nat.add_zero, MsgV.cells, List.getElem?_cons_zero, List.getElem?_cons_succ] at k0 k1 k2 k3 k4 k5 k6 k7
  have d0 : decide ((k : Int) < (t : Int)) = false := decide_eq_false (by omega)
  have d1 : decide (k < t) = false := decide_eq_false (by omega)
  have e1 : (k : Int) < (ms.length : Int) := by omega
  clear hat hc h hb hcs hpre hh1 hh2
  go_enter Try.func16, Try.ntmps16
  go_wp2_with fail
  refine HH1.out.mono ?_
  rintro e w1 ⟨rfl, rfl⟩
  go_wp2_with fail
  refine HH2.out.mono ?_
  rintro e w1 ⟨rfl, rfl⟩
  go_wp2
  obtain ⟨wb, hwb⟩ : ∃ z, z = w.alloc (.cells #[.int .i64 m.kind, .int .i64 m.to, .int .u64 m.ht, .int .i64 m.fr, .int .u64 m.sq, .int .u64 m.tm, .string m.d, .string m.p] 39) := ⟨_, rfl⟩
  rw [← hwb]
  have hbw : Below w.heap.size w wb := by rw [hwb]; exact Kq.below_alloc _ _
  have hbox : wb.drew.heap[w.heap.size]? = some (.cells #[.int .i64 m.kind, .int .i64 m.to, .int .u64 m.ht, .int .i64 m.fr, .int .u64 m.sq, .int .u64 m.tm, .string m.d, .string m.p] 39 (0, 0)) := by rw [hwb]; exact Kq.blk_new _ _ _ _
  have HB := Lib.hid (And.intro (H.out.1.below hbw.drew) (And.intro (Kq.below_blk hbw.drew H.out.2.1 (Kq.blk_lt H.out.2.1)) (And.intro hbox hbw.drew)))
  have q0 : wb.cell? ⟨N, 0, none⟩ = some (.slice (some ⟨g, 0, none⟩) ms.length cap) := (H.out.1.below hbw).c0
  clear hwb hbw hbox c0 k0 k1 k2 k3 k4 k5 k6 k7
  obtain ⟨a1, ha1⟩ : ∃ a1, a1 = k + 1 := ⟨_, rfl⟩
  obtain ⟨b1, hb1⟩ : ∃ b1, b1 = t + 1 := ⟨_, rfl⟩
  have hle : t ≤ k := Nat.le_of_lt hkt
  obtain ⟨X, hX⟩ : ∃ X, X = (cur.toList.take (b1 * 8) ++ mcells ((ms.drop t).take (k - t)) ++ cur.toList.drop (b1 * 8 + (mcells ((ms.drop t).take (k - t))).length)).toArray := ⟨_, rfl⟩
  have hq : (mcells ((ms.drop t).take (k - t))).length = (k - t) * 8 := by rw [mcells_length, List.length_take, List.length_drop]; congr 1; omega
  have hXs : X.size = cap * 8 := by
    rw [hX, List.size_toArray, List.length_append, List.length_append, List.length_take, List.length_drop, hq, Array.length_toList, H.out.2.2.1]; omega
  have hcp := copy_part (w := wb.drew) (g := g) (cap := cap) (n := 0) (c := 0) HB.out.2.1 H.out.2.2.2 (k1 := t) (d := k - t) (by omega) b1 (k - t) (cap - b1) (cap - t) rfl (by rw [H.out.2.2.1]; omega)
  rw [← hX] at hcp
  obtain ⟨wC, hwC⟩ : ∃ z, z = wb.drew.setRow g X := ⟨_, rfl⟩
  rw [← hwC] at hcp
  have hgN : N ≠ g := fun e => H.out.1.ne g rfl e.symm
  have hgb : w.heap.size ≠ g := by have := Kq.blk_lt H.out.2.1; omega
  have HC : Hid (wC.heap[g]? = some (.cells X 39 (0, 0)) ∧ Kq.Keeps (· = g) wb.drew wC) := Lib.hid (by
    rw [hwC]; exact ⟨setRow_heap wb.drew g cur X _ _ HB.out.2.1, ⟨rfl, rfl, rfl, by simp, fun k _ hn => setRow_other wb.drew g k _ hn⟩⟩)
  have HK1 := Lib.hid (And.intro ha1 hb1)
  have HXE : Hid (X.toList = cur.toList.take ((t + 1) * 8) ++ mcells ((ms.drop t).take (k - t)) ++ cur.toList.drop ((t + 1) * 8 + (mcells ((ms.drop t).take (k - t))).length)) := Lib.hid (by rw [hX, hb1])
  have s1 : (b1 : Int) ≤ (a1 : Int) := by omega
  have s2 : (a1 : Int) ≤ (cap : Int) := by omega
  have s3 : (t : Int) ≤ (k : Int) := by omega
  have s4 : (k : Int) ≤ (cap : Int) := by omega
  have s5 : ¬ cap = b1 := by omega
  have s6 : ¬ cap = t := by omega
  have s7 : a1 - b1 = k - t := by omega
  have HTC : Hid (t * 8 + 8 ≤ cap * 8) := Lib.hid (by omega)
  have HXS := Lib.hid hXs
  obtain ⟨m1, m2⟩ := wrap_succ k a1 ha1 (Nat.le_trans (Nat.le_of_lt hk) hm)
  obtain ⟨m3, m4⟩ := wrap_succ t b1 hb1 (Nat.le_trans (Nat.le_of_lt ht) hm)
  clear hwC hX hq ha1 hb1 hXs
  go_still_tail 16, (by kernel_rfl)
  change wpList _ _ _ _ _ wb.drew
  go_wp2
  clear m1 m2 m3 m4 hcp s1 s2 s3 s4 s5 s6 s7
  have q1 : wC.cell? ⟨N, 0, none⟩ = some (.slice (some ⟨g, 0, none⟩) ms.length cap) := Kq.blk_cell (HC.out.2.blk HB.out.1.blk hgN) 0
  have hbx := HC.out.2.blk HB.out.2.2.1 hgb
  have x0 := Kq.blk_cell hbx 0
  have x1 := Kq.blk_cell hbx 1
  have x2 := Kq.blk_cell hbx 2
  have x3 := Kq.blk_cell hbx 3
  have x4 := Kq.blk_cell hbx 4
  have x5 := Kq.blk_cell hbx 5
  have x6 := Kq.blk_cell hbx 6
  have x7 := Kq.blk_cell hbx 7
  simp only [List.getElem?_toArray, List.getElem?_cons_zero, List.getElem?_cons_succ] at x0 x1 x2 x3 x4 x5 x6 x7
  have HT := Lib.hid (there8 (w := wC.drew) (o := t * 8) HC.out.1 (by rw [HXS.out]; exact HTC.out))
  have HP : Hid (NtP w base N (.slice (some ⟨g, 0, none⟩) ms.length cap) (moveL k t m ms) (setMsg wC.drew g (t * 8) m)) := Lib.hid (by
    refine move_close H.out.1 (wb := wb.drew) HB.out.2.2.2 HC.out.2 HC.out.1 HXS.out HTC.out (moveL_length hk ht) ?_
    unfold moveL
    rw [if_neg (Nat.not_lt.2 hle)]
    exact move_cells_down H.out.2.2.2 (by have h8 := H.out.2.2.1; rw [show cur.toList.length = cur.size from Array.length_toList, h8]; exact Nat.mul_le_mul_right 8 hcap) hle hk m HXE.out)
  have t1 : (t : Int) < (ms.length : Int) := Int.ofNat_lt.2 ht
  clear q0 hbx
  go_still_tail 7, (by kernel_rfl)
  change wpList _ _ _ _ _ wC.drew
  refine wpList_store_mid rfl 39 (.tmp 68) (.tmp 67) rfl g (t * 8) #[.int .i64 m.kind, .int .i64 m.to, .int .u64 m.ht, .int .i64 m.fr, .int .u64 m.sq, .int .u64 m.tm, .string m.d, .string m.p] rfl rfl HT.out (by kernel_rfl) (by simp [Value.oneCell']) ?_
  rw [setMsg_eq]
  generalize setMsg wC.drew g (t * 8) m = wZ at *
  clear x0 x1 x2 x3 x4 x5 x6 x7 q1
  go_wp2
  go_ret
  exact ⟨rfl, HP.out⟩
end Go.Proofs.Ytahijpfmpdjceaa
