/- Contract of a net's Take. No condition. -/
import Derived.WalkSpells
import Derived.Outline
import Derived.StillTailTactics
import Derived.Deep.MidRow
import Derived.Deep.QuietTactic
import Derived.BigQuiet
import Derived.Deep.RegionWith
import Derived.Test.YtahijpfmpdjceaaNtTakeM
namespace Go.Proofs.Ytahijpfmpdjceaa
open Go.RowKit
set_option linter.unusedVariables false
set_option maxRecDepth 100000 in
set_option maxHeartbeats 4000000 in
theorem nt_take_a (base N g cap : Nat) (ms : List MsgV) (cur : Array Value) (k : Nat) (w : World) (h : NtS w base N (.slice (some ⟨g, 0, none⟩) ms.length cap) ms) (hb : w.heap[g]? = some (.cells cur 39 (0, 0))) (hcap : ms.length ≤ cap) (hcs : cur.size = cap * 8) (hpre : cur.toList.take (ms.length * 8) = mcells ms)
    (hk : k < ms.length) (hca : cap = k + 1) (hm : ms.length ≤ 256) :
    Calls Try.prog 12 #[.pointer (some ⟨N, 0, none⟩), .int .i64 (k : Int)] w fun e w' => e = .returned (.tuple #[ms[k].val, .int .i64 0]) ∧ NtP w base N (.slice (some ⟨g, 0, none⟩) ms.length cap) (ms.take k ++ ms.drop (k + 1)) w' := by
  have HH1 := Lib.hid (fun (w' : World) (hb : Below w.heap.size w w') => nt_has base N _ ms (k : Int) w' (h.below hb))
  have hh1 : hasF (k : Int) ms.length = true := decide_eq_true (by omega)
  rw [hh1] at HH1
  have H := Lib.hid (And.intro h (And.intro hb (And.intro hcs hpre)))
  have c0 := h.c0
  obtain ⟨A, cap', hv, -, -, hat⟩ := h.at
  injection hv with hA _ hcc
  subst hA
  subst hcc
  obtain ⟨w0, hw0⟩ : ∃ z, z = w.alloc (.cells #[.int .i64 0, .int .i64 0, .int .u64 0, .int .i64 0, .int .u64 0, .int .u64 0, .string ⟨#[]⟩, .string ⟨#[]⟩] 39) := ⟨_, rfl⟩
  have hb0 : Below w.heap.size w w0 := by rw [hw0]; exact Kq.below_alloc _ _
  obtain ⟨g', o', hA', hg, hc⟩ := (hat.below hb0) k hk
  injection hA' with hA'
  injection hA' with e1 e2
  subst e1
  subst e2
  simp only [Nat.zero_add] at hc
  have HCA := Lib.hid hca
  clear hca
  unfold MsgV.val
  generalize ms[k] = m at *
  have e1 : (k : Int) < (ms.length : Int) := by omega
  have HC := Lib.hid hc
  clear hat hc hg h hb hcs hpre hh1
  go_enter Try.func12, Try.ntmps12
  go_wp2_with fail
  rw [← hw0]
  refine (HH1.out _ hb0).mono ?_
  rintro e w1 ⟨rfl, rfl⟩
  have HZ : Hid (w0.heap[w.heap.size]? = some (.cells #[.int .i64 0, .int .i64 0, .int .u64 0, .int .i64 0, .int .u64 0, .int .u64 0, .string ⟨#[]⟩, .string ⟨#[]⟩] 39 (0, 0)) ∧ w0.heap.size = w.heap.size + 1) := Lib.hid (by rw [hw0]; exact ⟨Kq.blk_new _ _ _ _, Array.size_push _⟩)
  have HB0 := Lib.hid hb0
  have c0' : w0.cell? ⟨N, 0, none⟩ = some (.slice (some ⟨g, 0, none⟩) ms.length cap) := (H.out.1.below hb0).c0
  have hcc := HC.out
  have k0 := hcc 0 (by omega)
  have k1 := hcc 1 (by omega)
  have k2 := hcc 2 (by omega)
  have k3 := hcc 3 (by omega)
  have k4 := hcc 4 (by omega)
  have k5 := hcc 5 (by omega)
  have k6 := hcc 6 (by omega)
  have k7 := hcc 7 (by omega)
  simp only [Nat.add_zero, MsgV.cells, List.getElem?_cons_zero, List.getElem?_cons_succ] at k0 k1 k2 k3 k4 k5 k6 k7
  clear hcc hw0 hb0 c0
  go_wp2
  obtain ⟨wb, hwb⟩ : ∃ z, z = w0.alloc (.cells #[.int .i64 m.kind, .int .i64 m.to, .int .u64 m.ht, .int .i64 m.fr, .int .u64 m.sq, .int .u64 m.tm, .string m.d, .string m.p] 39) := ⟨_, rfl⟩
  rw [← hwb]
  have hbw : Below w0.heap.size w0 wb := by rw [hwb]; exact Kq.below_alloc _ _
  have hbx : wb.drew.heap[w0.heap.size]? = some (.cells #[.int .i64 m.kind, .int .i64 m.to, .int .u64 m.ht, .int .i64 m.fr, .int .u64 m.sq, .int .u64 m.tm, .string m.d, .string m.p] 39 (0, 0)) := by rw [hwb]; exact Kq.blk_new _ _ _ _
  have HB : Hid (Below w.heap.size w wb.drew ∧ wb.drew.heap[g]? = some (.cells cur 39 (0, 0)) ∧ wb.drew.heap[w.heap.size]? = some (.cells #[.int .i64 0, .int .i64 0, .int .u64 0, .int .i64 0, .int .u64 0, .int .u64 0, .string ⟨#[]⟩, .string ⟨#[]⟩] 39 (0, 0)) ∧ wb.drew.heap[w0.heap.size]? = some (.cells #[.int .i64 m.kind, .int .i64 m.to, .int .u64 m.ht, .int .i64 m.fr, .int .u64 m.sq, .int .u64 m.tm, .string m.d, .string m.p] 39 (0, 0)) ∧ w0.heap.size = w.heap.size + 1) := by
    have b1 : Below w.heap.size w wb := HB0.out.trans (hbw.mono (by rw [HZ.out.2]; exact Nat.le_succ _))
    exact Lib.hid ⟨b1.drew, Kq.below_blk b1.drew H.out.2.1 (Kq.blk_lt H.out.2.1), Kq.below_blk hbw.drew HZ.out.1 (by rw [HZ.out.2]; exact Nat.lt_succ_self _), hbx, HZ.out.2⟩
  have q0 : wb.cell? ⟨N, 0, none⟩ = some (.slice (some ⟨g, 0, none⟩) ms.length cap) := (H.out.1.below HB.out.1).c0
  have z6 : w0.heap.size = w.heap.size + 1 := HZ.out.2
  clear hwb hbw hbx c0' k0 k1 k2 k3 k4 k5 k6 k7 HZ HB0
  generalize w0.heap.size = M at *
  subst z6
  obtain ⟨a1, ha1⟩ : ∃ a1, a1 = k + 1 := ⟨_, rfl⟩
  have hca := HCA.out
  obtain ⟨X, hX⟩ : ∃ X, X = (cur.toList.take (k * 8) ++ ([] : List Value) ++ cur.toList.drop (k * 8 + ([] : List Value).length)).toArray := ⟨_, rfl⟩
  have hXl : X.toList = cur.toList := by rw [hX]; simp
  have hXs : X.size = cap * 8 := by rw [← Array.length_toList, hXl, Array.length_toList, H.out.2.2.1]
  have hz0 : ms.length - a1 = 0 := by omega
  have hcp := fun dC sC => Kq.run_copy_rows (P := Try.prog) wb.drew 28 28 3 39 g (k * 8) (ms.length - k) dC ⟨g, 0, none⟩ (ms.length - a1) sC 8 cur 39 [] Try.underlying28 (by kernel_rfl) HB.out.2.1 (by rw [hz0]; simp) (fun j v hj => by cases hj) (by rw [H.out.2.2.1]; show k * 8 + 0 ≤ _; omega) (fun u hu => by cases hu)
  simp only [← hX] at hcp
  have HXE := Lib.hid hXl
  clear hXl hz0
  obtain ⟨wC, hwC⟩ : ∃ z, z = wb.drew.setRow g X := ⟨_, rfl⟩
  rw [← hwC] at hcp
  have hgN : N ≠ g := fun e => H.out.1.ne g rfl e.symm
  have hgz : w.heap.size ≠ g := by have := Kq.blk_lt H.out.2.1; omega
  have hgb : w.heap.size + 1 ≠ g := by have := Kq.blk_lt H.out.2.1; omega
  have HC : Hid (wC.heap[g]? = some (.cells X 39 (0, 0)) ∧ Kq.Keeps (· = g) wb.drew wC) := Lib.hid (by
    rw [hwC]; exact ⟨setRow_heap wb.drew g cur X _ _ HB.out.2.1, ⟨rfl, rfl, rfl, by simp, fun k _ hn => setRow_other wb.drew g k _ hn⟩⟩)
  have HA1 := Lib.hid ha1
  have s1 : (k : Int) ≤ (ms.length : Int) := by omega
  have s2 : (a1 : Int) ≤ (ms.length : Int) := by omega
  have s5 : ¬ cap = k := by omega
  have s6 : cap = a1 := by omega
  have HXS := Lib.hid hXs
  obtain ⟨m3, m4⟩ := wrap_succ k a1 ha1 (Nat.le_trans (Nat.le_of_lt hk) hm)
  clear hwC hX ha1 hXs hca
  go_still_tail 13, (by kernel_rfl)
  change wpList _ _ _ _ _ wb.drew
  go_wp2
  clear m3 m4 hcp s1 s2 s5 s6 q0
  have HCK := Lib.hid (And.intro HC.out.1 (HC.out.2.blk HB.out.2.2.1 hgz))
  have HCM := Lib.hid (HC.out.2.blk HB.out.2.2.2.1 hgb)
  have q1 : wC.cell? ⟨N, 0, none⟩ = some (.slice (some ⟨g, 0, none⟩) ms.length cap) := Kq.blk_cell (HC.out.2.blk (H.out.1.below HB.out.1).blk hgN) 0
  obtain ⟨n1, hn1⟩ : ∃ n1, n1 = ms.length - 1 := ⟨_, rfl⟩
  have m1 : wrap64 ((ms.length : Int) - 1) = (n1 : Int) := by rw [IntWalk.wrap64_in _ (by omega)]; omega
  have m2 : IntKind.i64.wrap ((ms.length : Int) - 1) = (n1 : Int) := by rw [IntWalk.i64_in _ (by omega)]; omega
  have s7 : (n1 : Int) ≤ (cap : Int) := by omega
  have hdl : (wC.drew).cell? ⟨N, 0, none⟩ = some (.slice (some ⟨g, 0, none⟩) ms.length cap) := q1
  have f1 : wC.frozen? ⟨N, 0, none⟩ = false := Kq.blk_free (HC.out.2.blk (H.out.1.below HB.out.1).blk hgN) 0
  have HN1 := Lib.hid hn1
  clear hn1
  go_region_with ((go_at_call 20; refine (nt_len_c N _ _ _ _ hdl).mono ?_; rintro e w' ⟨rfl, rfl⟩))
  all_goals
    obtain ⟨wD, hwD⟩ : ∃ z, z = wC.drew.setCell ⟨N, 0, none⟩ (.slice (some ⟨g, 0, none⟩) n1 cap) := ⟨_, rfl⟩
    have hdr : (wC.setCell ⟨N, 0, none⟩ (.slice (some ⟨g, 0, none⟩) n1 cap)).drew = wD := hwD.symm
    rw [hdr]
    have hNz : N ≠ w.heap.size := by have := Kq.blk_lt H.out.1.blk; omega
    have hNm : N ≠ w.heap.size + 1 := by have := Kq.blk_lt H.out.1.blk; omega
    have kD : Kq.Keeps (· = N) wC.drew wD := by rw [hwD]; exact Kq.Keeps.setCell _ _ _ rfl
    have hz := kD.blk (show wC.drew.heap[w.heap.size]? = _ from HCK.out.2) (fun e => hNz e.symm)
    have hm' := kD.blk (show wC.drew.heap[w.heap.size + 1]? = _ from HCM.out) (fun e => hNm e.symm)
    have x0 := Kq.blk_cell hm' 0
    have x1 := Kq.blk_cell hm' 1
    have x2 := Kq.blk_cell hm' 2
    have x3 := Kq.blk_cell hm' 3
    have x4 := Kq.blk_cell hm' 4
    have x5 := Kq.blk_cell hm' 5
    have x6 := Kq.blk_cell hm' 6
    have x7 := Kq.blk_cell hm' 7
    simp only [List.getElem?_toArray, List.getElem?_cons_zero, List.getElem?_cons_succ] at x0 x1 x2 x3 x4 x5 x6 x7
    have z0 := Kq.blk_cell hz 0
    have u0 := Kq.blk_free hz 0
    have z1 := Kq.blk_cell hz 1
    have u1 := Kq.blk_free hz 1
    have z2 := Kq.blk_cell hz 2
    have u2 := Kq.blk_free hz 2
    have z3 := Kq.blk_cell hz 3
    have u3 := Kq.blk_free hz 3
    have z4 := Kq.blk_cell hz 4
    have u4 := Kq.blk_free hz 4
    have z5 := Kq.blk_cell hz 5
    have u5 := Kq.blk_free hz 5
    have z6 := Kq.blk_cell hz 6
    have u6 := Kq.blk_free hz 6
    have z7 := Kq.blk_cell hz 7
    have u7 := Kq.blk_free hz 7
    simp only [List.getElem?_toArray, List.getElem?_cons_zero, List.getElem?_cons_succ] at z0 z1 z2 z3 z4 z5 z6 z7
    have HPZ : Hid (NtP w base N (.slice (some ⟨g, 0, none⟩) ms.length cap) (ms.take k ++ ms.drop (k + 1)) (setMsg wD w.heap.size 0 m)) := by
      have hn1 := HN1.out
      have hl : (ms.take k ++ ms.drop (k + 1)).length = n1 := by rw [List.length_append, List.length_take, List.length_drop]; omega
      exact Lib.hid (take_close (Z := w.heap.size) (ms' := ms.take k ++ ms.drop (k + 1)) (wC := wC.drew) H.out.1 HB.out.1 HC.out.2.drew HC.out.1 HXS.out (by rw [hl]; omega) (by rw [hl, hn1]; exact by rw [HXE.out]; exact take_cells_a H.out.2.2.2 hk (by have := HCA.out; omega)) (by rw [hl, ← hwD]; exact setMsg_keeps wD w.heap.size 0 m) (Nat.le_refl _))
    obtain ⟨cur', y1, y2, y3⟩ := setMsg_blk (w := wD) (m := m) hz (show 0 + 8 ≤ 8 by omega)
    have HY := Lib.hid (And.intro y1 y3)
    clear hz hm' kD hdr hwD HCK HCM HB HC H hdl q1 f1 m1 m2 s7 y1 y2 y3
    go_wp2
    change bodyPost _ _ _ _ _ (setMsg wD w.heap.size 0 m)
    have hz' : (setMsg wD w.heap.size 0 m).heap[w.heap.size]? = some (.cells m.cells.toArray 39 (0, 0)) := by
      have e : cur' = m.cells.toArray := by
        apply Array.ext'
        rw [HY.out.2]
        simp [MsgV.cells]
      rw [HY.out.1, e]
    generalize setMsg wD w.heap.size 0 m = wf at *
    clear z0 z1 z2 z3 z4 z5 z6 z7 u0 u1 u2 u3 u4 u5 u6 u7 x0 x1 x2 x3 x4 x5 x6 x7
    have z0 := Kq.blk_cell hz' 0
    have z1 := Kq.blk_cell hz' 1
    have z2 := Kq.blk_cell hz' 2
    have z3 := Kq.blk_cell hz' 3
    have z4 := Kq.blk_cell hz' 4
    have z5 := Kq.blk_cell hz' 5
    have z6 := Kq.blk_cell hz' 6
    have z7 := Kq.blk_cell hz' 7
    simp only [MsgV.cells, List.getElem?_toArray, List.getElem?_cons_zero, List.getElem?_cons_succ] at z0 z1 z2 z3 z4 z5 z6 z7
    refine bodyPost_ret (v := .tuple #[.agg #[.int .i64 m.kind, .int .i64 m.to, .int .u64 m.ht, .int .i64 m.fr, .int .u64 m.sq, .int .u64 m.tm, .string m.d, .string m.p], .int .i64 0]) (by simp [results, Try.results12, go_sem, z0, z1, z2, z3, z4, z5, z6, z7]) rfl ?_
    exact ⟨rfl, HPZ.out⟩
end Go.Proofs.Ytahijpfmpdjceaa
