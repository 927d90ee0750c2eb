/- Contract of a net's Move, to its own place, without room. No condition. -/
import Derived.WalkSpells
import Derived.Outline
import Derived.StillTailTactics
import Derived.Deep.MidRow
import Derived.Test.YtahijpfmpdjceaaNtMove3
namespace Go.Proofs.Ytahijpfmpdjceaa
open Go.RowKit
set_option linter.unusedVariables false
set_option maxRecDepth 100000 in
set_option maxHeartbeats 2000000 in
theorem nt_move_same_a (base N g cap : Nat) (ms : List MsgV) (cur : Array Value) (k : Nat) (w : World) (h : NtS w base N (.slice (some ⟨g, 0, none⟩) ms.length cap) ms) (hb : w.heap[g]? = some (.cells cur 39 (0, 0))) (hcap : ms.length ≤ cap) (hcs : cur.size = cap * 8) (hpre : cur.toList.take (ms.length * 8) = mcells ms)
    (hk : k < ms.length) (ht : k < ms.length) (ha1 : cap = k + 1) (hm : ms.length ≤ 256) :
    Calls Try.prog 16 #[.pointer (some ⟨N, 0, none⟩), .int .i64 (k : Int), .int .i64 (k : Int)] w fun e w' => e = .returned (.int .i64 0) ∧ NtP w base N (.slice (some ⟨g, 0, none⟩) ms.length cap) (moveL k k ms[k] ms) w' := by
  have HA1 := Lib.hid ha1
  clear ha1
  have HH1 := Lib.hid (nt_has base N _ ms (k : Int) w h)
  have HH2 := Lib.hid (nt_has base N _ ms (k : Int) w h)
  have hh1 : hasF (k : Int) ms.length = true := decide_eq_true (by omega)
  have hh2 : hasF (k : Int) ms.length = true := decide_eq_true (by omega)
  rw [hh1] at HH1
  rw [hh2] at HH2
  have H := Lib.hid (And.intro h (And.intro hb (And.intro hcs hpre)))
  have c0 := h.c0
  obtain ⟨A, cap', hv, -, -, hat⟩ := h.at
  injection hv with hA _ hcc
  subst hA
  subst hcc
  obtain ⟨g', o', hA', hg, hc⟩ := hat k hk
  injection hA' with hA'
  injection hA' with e1 e2
  subst e1
  subst e2
  simp only [Nat.zero_add] at hc
  generalize ms[k] = m at *
  have k0 := hc 0 (by omega)
  have k1 := hc 1 (by omega)
  have k2 := hc 2 (by omega)
  have k3 := hc 3 (by omega)
  have k4 := hc 4 (by omega)
  have k5 := hc 5 (by omega)
  have k6 := hc 6 (by omega)
  have k7 := hc 7 (by omega)
  simp only [Nat.add_zero, MsgV.cells, List.getElem?_cons_zero, List.getElem?_cons_succ] at k0 k1 k2 k3 k4 k5 k6 k7
  have d0 : decide ((k : Int) < (k : Int)) = false := decide_eq_false (by omega)
  have e1 : (k : Int) < (ms.length : Int) := by omega
  clear hat hc h hb hcs hpre hh1 hh2
  go_enter Try.func16, Try.ntmps16
  go_wp2_with fail
  refine HH1.out.mono ?_
  rintro e w1 ⟨rfl, rfl⟩
  go_wp2_with fail
  refine HH2.out.mono ?_
  rintro e w1 ⟨rfl, rfl⟩
  go_wp2
  obtain ⟨wb, hwb⟩ : ∃ z, z = w.alloc (.cells #[.int .i64 m.kind, .int .i64 m.to, .int .u64 m.ht, .int .i64 m.fr, .int .u64 m.sq, .int .u64 m.tm, .string m.d, .string m.p] 39) := ⟨_, rfl⟩
  rw [← hwb]
  have hbw : Below w.heap.size w wb := by rw [hwb]; exact Kq.below_alloc _ _
  have hbox : wb.drew.heap[w.heap.size]? = some (.cells #[.int .i64 m.kind, .int .i64 m.to, .int .u64 m.ht, .int .i64 m.fr, .int .u64 m.sq, .int .u64 m.tm, .string m.d, .string m.p] 39 (0, 0)) := by rw [hwb]; exact Kq.blk_new _ _ _ _
  have HB := Lib.hid (And.intro (H.out.1.below hbw.drew) (And.intro (Kq.below_blk hbw.drew H.out.2.1 (Kq.blk_lt H.out.2.1)) (And.intro hbox hbw.drew)))
  have q0 : wb.cell? ⟨N, 0, none⟩ = some (.slice (some ⟨g, 0, none⟩) ms.length cap) := (H.out.1.below hbw).c0
  clear hwb hbw hbox c0 k0 k1 k2 k3 k4 k5 k6 k7
  have ha1 := HA1.out
  have hle : k ≤ k := Nat.le_refl _
  obtain ⟨X, hX⟩ : ∃ X, X = (cur.toList.take (0) ++ [] ++ cur.toList.drop (0 + ([] : List Value).length)).toArray := ⟨_, rfl⟩
  have hXl : X.toList = cur.toList := by rw [hX]; simp
  have hXs : X.size = cap * 8 := by
    rw [← Array.length_toList, hXl, Array.length_toList, H.out.2.2.1]
  have hcp := fun c1 c2 => Kq.run_copy_rows (P := Try.prog) wb.drew 28 28 3 39 g (0) 0 c1 ⟨g, k * 8, none⟩ 0 c2 8 cur 39 [] Try.underlying28 (by kernel_rfl) HB.out.2.1 rfl (fun j v hj => by cases hj) (by rw [H.out.2.2.1]; show 0 + 0 ≤ _; omega) (fun u hu => by cases hu)
  simp only [← hX] at hcp
  obtain ⟨wC, hwC⟩ : ∃ z, z = wb.drew.setRow g X := ⟨_, rfl⟩
  simp only [← hwC] at hcp
  have hgN : N ≠ g := fun e => H.out.1.ne g rfl e.symm
  have hgb : w.heap.size ≠ g := by have := Kq.blk_lt H.out.2.1; omega
  have HC : Hid (wC.heap[g]? = some (.cells X 39 (0, 0)) ∧ Kq.Keeps (· = g) wb.drew wC) := Lib.hid (by
    rw [hwC]; exact ⟨setRow_heap wb.drew g cur X _ _ HB.out.2.1, ⟨rfl, rfl, rfl, by simp, fun k _ hn => setRow_other wb.drew g k _ hn⟩⟩)
  have HK1 := Lib.hid ha1
  have HXE : Hid (X.toList = cur.toList.take ((k + 1) * 8) ++ mcells ((ms.drop k).take (k - k)) ++ cur.toList.drop ((k + 1) * 8 + (mcells ((ms.drop k).take (k - k))).length)) := Lib.hid (by rw [hXl, Nat.sub_self]; simp [mcells])
  have s4 : (k : Int) ≤ (cap : Int) := by omega
  have s6 : ¬ cap = k := by omega
  have s10 : k ≤ cap := by omega
  have HTC : Hid (k * 8 + 8 ≤ cap * 8) := Lib.hid (by omega)
  have HXS := Lib.hid hXs
  obtain ⟨m1, m2⟩ := wrap_succ k cap ha1 (Nat.le_trans (Nat.le_of_lt hk) hm)
  clear hwC ha1 hXs
  go_still_tail 16, (by kernel_rfl)
  change wpList _ _ _ _ _ wb.drew
  go_wp2
  clear m1 m2 hcp s4 s6 s10
  have q1 : wC.cell? ⟨N, 0, none⟩ = some (.slice (some ⟨g, 0, none⟩) ms.length cap) := Kq.blk_cell (HC.out.2.blk HB.out.1.blk hgN) 0
  have hbx := HC.out.2.blk HB.out.2.2.1 hgb
  have x0 := Kq.blk_cell hbx 0
  have x1 := Kq.blk_cell hbx 1
  have x2 := Kq.blk_cell hbx 2
  have x3 := Kq.blk_cell hbx 3
  have x4 := Kq.blk_cell hbx 4
  have x5 := Kq.blk_cell hbx 5
  have x6 := Kq.blk_cell hbx 6
  have x7 := Kq.blk_cell hbx 7
  simp only [List.getElem?_toArray, List.getElem?_cons_zero, List.getElem?_cons_succ] at x0 x1 x2 x3 x4 x5 x6 x7
  have HT := Lib.hid (there8 (w := wC.drew) (o := k * 8) HC.out.1 (by rw [HXS.out]; exact HTC.out))
  have HP : Hid (NtP w base N (.slice (some ⟨g, 0, none⟩) ms.length cap) (moveL k k m ms) (setMsg wC.drew g (k * 8) m)) := Lib.hid (by
    refine move_close H.out.1 (wb := wb.drew) HB.out.2.2.2 HC.out.2 HC.out.1 HXS.out HTC.out (moveL_length hk ht) ?_
    unfold moveL
    rw [if_neg (Nat.not_lt.2 hle)]
    exact move_cells_down H.out.2.2.2 (by have h8 := H.out.2.2.1; rw [show cur.toList.length = cur.size from Array.length_toList, h8]; exact Nat.mul_le_mul_right 8 hcap) hle hk m HXE.out)
  have t1 : (k : Int) < (ms.length : Int) := Int.ofNat_lt.2 ht
  clear q0 hbx
  go_still_tail 7, (by kernel_rfl)
  change wpList _ _ _ _ _ wC.drew
  refine wpList_store_mid rfl 39 (.tmp 68) (.tmp 67) rfl g (k * 8) #[.int .i64 m.kind, .int .i64 m.to, .int .u64 m.ht, .int .i64 m.fr, .int .u64 m.sq, .int .u64 m.tm, .string m.d, .string m.p] rfl rfl HT.out (by kernel_rfl) (by simp [Value.oneCell']) ?_
  rw [setMsg_eq]
  generalize setMsg wC.drew g (k * 8) m = wZ at *
  clear x0 x1 x2 x3 x4 x5 x6 x7 q1
  go_wp2
  go_ret
  exact ⟨rfl, HP.out⟩
end Go.Proofs.Ytahijpfmpdjceaa
