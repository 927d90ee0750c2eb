/- Contract of a net's Move. No condition. -/
import Derived.WalkSpells
import Derived.Outline
import Derived.StillTailTactics
import Derived.Deep.MidRow
import Derived.Test.YtahijpfmpdjceaaNtList
namespace Go.Proofs.Ytahijpfmpdjceaa
open Go.RowKit
set_option linter.unusedVariables false
/-- a message stored -/
def setMsg (w : World) (g o : Nat) (m : MsgV) : World :=
  (((((((w.setCell ⟨g, o, none⟩ (.int .i64 m.kind)).setCell ⟨g, o + 1, none⟩ (.int .i64 m.to)).setCell ⟨g, o + 2, none⟩ (.int .u64 m.ht)).setCell ⟨g, o + 3, none⟩ (.int .i64 m.fr)).setCell ⟨g, o + 4, none⟩ (.int .u64 m.sq)).setCell ⟨g, o + 5, none⟩ (.int .u64 m.tm)).setCell ⟨g, o + 6, none⟩ (.string m.d)).setCell ⟨g, o + 7, none⟩ (.string m.p)
theorem setMsg_keeps (w : World) (g o : Nat) (m : MsgV) : Kq.Keeps (· = g) w (setMsg w g o m) := by
  have k : ∀ (w : World) (o : Nat) (v : Value), Kq.Keeps (· = g) w (w.setCell ⟨g, o, none⟩ v) := fun w o v => Kq.Keeps.setCell (S := (· = g)) w ⟨g, o, none⟩ v rfl
  unfold setMsg
  exact (((((((k _ _ _).trans (k _ _ _)).trans (k _ _ _)).trans (k _ _ _)).trans (k _ _ _)).trans (k _ _ _)).trans (k _ _ _)).trans (k _ _ _)
theorem set8 (pre post : List Value) (b0 b1 b2 b3 b4 b5 b6 b7 a0 a1 a2 a3 a4 a5 a6 a7 : Value) : (((((((((pre ++ (b0 :: b1 :: b2 :: b3 :: b4 :: b5 :: b6 :: b7 :: post)).set (pre.length) a0).set (pre.length + 1) a1).set (pre.length + 2) a2).set (pre.length + 3) a3).set (pre.length + 4) a4).set (pre.length + 5) a5).set (pre.length + 6) a6).set (pre.length + 7) a7) = pre ++ (a0 :: a1 :: a2 :: a3 :: a4 :: a5 :: a6 :: a7 :: post) := by
  simp
theorem setMsg_blk {w : World} {g o : Nat} {m : MsgV} {cur : Array Value} {T : TypeId} (h : w.heap[g]? = some (.cells cur T (0, 0))) (ho : o + 8 ≤ cur.size) :
    ∃ cur', (setMsg w g o m).heap[g]? = some (.cells cur' T (0, 0)) ∧ cur'.size = cur.size ∧ cur'.toList = cur.toList.take o ++ m.cells ++ cur.toList.drop (o + 8) := by
  refine ⟨_, Kq.blk_set (Kq.blk_set (Kq.blk_set (Kq.blk_set (Kq.blk_set (Kq.blk_set (Kq.blk_set (Kq.blk_set h _ _) _ _) _ _) _ _) _ _) _ _) _ _) _ _, by simp, ?_⟩
  simp only [Array.toList_setIfInBounds]
  have hl : o + 8 ≤ cur.toList.length := by simpa using ho
  generalize cur.toList = C at *
  have hpl : (C.take o).length = o := by rw [List.length_take]; omega
  have e1 : C = C.take o ++ C.drop o := (List.take_append_drop o C).symm
  have e2 : C.drop (o + 8) = (C.drop o).drop 8 := by rw [List.drop_drop]
  have hdl : 8 ≤ (C.drop o).length := by rw [List.length_drop]; omega
  rw [e2]
  generalize C.drop o = D at *
  generalize C.take o = P at *
  subst e1
  subst hpl
  match D, hdl with
  | b0 :: b1 :: b2 :: b3 :: b4 :: b5 :: b6 :: b7 :: post, _ =>
    rw [set8]
    simp [MsgV.cells]
def moveL (k t : Nat) (m : MsgV) (ms : List MsgV) : List MsgV :=
  if k < t then ms.take k ++ (ms.drop (k + 1)).take (t - k) ++ [m] ++ ms.drop (t + 1) else ms.take t ++ [m] ++ (ms.drop t).take (k - t) ++ ms.drop (k + 1)
theorem move_cells_up {C : List Value} {ms : List MsgV} (hC : C.take (ms.length * 8) = mcells ms) (hl : ms.length * 8 ≤ C.length) {k t : Nat} (hk : k < t) (ht : t < ms.length) (m : MsgV) :
    let C1 := C.take (k * 8) ++ mcells ((ms.drop (k + 1)).take (t - k)) ++ C.drop (k * 8 + (mcells ((ms.drop (k + 1)).take (t - k))).length)
    (C1.take (t * 8) ++ m.cells ++ C1.drop (t * 8 + 8)).take (ms.length * 8) = mcells (ms.take k ++ (ms.drop (k + 1)).take (t - k) ++ [m] ++ ms.drop (t + 1)) := by
  intro C1
  have q1 : (mcells ((ms.drop (k + 1)).take (t - k))).length = (t - k) * 8 := by rw [mcells_length, List.length_take, List.length_drop]; congr 1; omega
  have q2 : C.take (k * 8) = mcells (ms.take k) := by rw [mcells_take, ← hC, List.take_take, Nat.min_eq_left (by omega)]
  have q3 : (mcells (ms.take k)).length = k * 8 := by rw [mcells_length, List.length_take]; congr 1; omega
  have hkt : k * 8 + (t - k) * 8 = t * 8 := by omega
  have e1 : C1.take (t * 8) = mcells (ms.take k) ++ mcells ((ms.drop (k + 1)).take (t - k)) := by
    show (C.take (k * 8) ++ _ ++ _).take (t * 8) = _
    rw [q2, List.take_append_of_le_length (by rw [List.length_append, q1, q3]; omega), List.take_of_length_le (by rw [List.length_append, q1, q3]; omega)]
  have e2 : C1.drop (t * 8 + 8) = C.drop (t * 8 + 8) := by
    show (C.take (k * 8) ++ _ ++ C.drop (k * 8 + _)).drop (t * 8 + 8) = _
    rw [q2, q1, hkt, List.drop_append, List.length_append, q1, q3, hkt, List.drop_of_length_le (by rw [List.length_append, q1, q3]; omega), List.nil_append, List.drop_drop]
    congr 1
    omega
  have e3 : (C.drop (t * 8 + 8)).take (ms.length * 8 - (t * 8 + 8)) = mcells (ms.drop (t + 1)) := by
    rw [mcells_drop, ← hC, List.drop_take]
    congr 1
    · omega
    · congr 1; omega
  rw [e1, e2, List.take_append, List.length_append, List.length_append, q1, q3, show m.cells.length = 8 from rfl, hkt, e3, List.take_of_length_le (by rw [List.length_append, List.length_append, q1, q3, show m.cells.length = 8 from rfl]; omega)]
  rw [mcells_append, mcells_append, mcells_append]
  simp [mcells]
theorem wrap_succ (n a : Nat) (ha : a = n + 1) (h : n ≤ 256) : wrap64 ((n : Int) + 1) = (a : Int) ∧ IntKind.i64.wrap ((n : Int) + 1) = (a : Int) := by
  constructor
  · rw [IntWalk.wrap64_in _ (by omega)]; omega
  · rw [IntWalk.i64_in _ (by omega)]; omega
theorem copy_part {w : World} {g cap n k1 d c : Nat} {ms : List MsgV} {cur : Array Value} (hb : w.heap[g]? = some (.cells cur 39 (0, 0))) (hpre : cur.toList.take (ms.length * 8) = mcells ms) (hfit : k1 + d ≤ ms.length) (o dLen dCap sCap : Nat) (hd : dLen = d) (ho : o * 8 + d * 8 ≤ cur.size) :
    (Builtin.copy_ #[28, 28] 3 #[.slice (some ⟨g, o * 8, none⟩) dLen dCap, .slice (some ⟨g, k1 * 8, none⟩) d sCap]).run Try.prog w =
      .ok (goInt (Nat.min d dLen)) (w.setRow g (cur.toList.take (o * 8) ++ mcells ((ms.drop k1).take d) ++ cur.toList.drop (o * 8 + (mcells ((ms.drop k1).take d)).length)).toArray) := by
  have hl : (mcells ((ms.drop k1).take d)).length = d * 8 := by rw [mcells_length, List.length_take, List.length_drop]; congr 1; omega
  subst hd
  refine Kq.run_copy_rows w _ _ _ 39 g (o * 8) dLen dCap ⟨g, k1 * 8, none⟩ dLen sCap 8 cur 39 _ Try.underlying28 (by kernel_rfl) hb (by rw [hl]; congr 1; exact (Nat.min_self _).symm) (fun j v hj => ?_) (by rw [hl]; exact ho) (mcells_one _)
  have hj' : j < dLen * 8 := by
    rcases Nat.lt_or_ge j (dLen * 8) with h' | h'
    · exact h'
    · rw [List.getElem?_eq_none (by rw [hl]; exact h')] at hj; cases hj
  rw [add_flat, Kq.blk_cell hb, ← Array.getElem?_toList, ← hj, mcells_take, mcells_drop, List.getElem?_take, if_pos hj', List.getElem?_drop, ← hpre, List.getElem?_take, if_pos (by omega)]
theorem there8 {w : World} {g o : Nat} {X : Array Value} {T : TypeId} (h : w.heap[g]? = some (.cells X T (0, 0))) (ho : o + 8 ≤ X.size) : w.there g o 8 := fun j hj => by
  refine ⟨?_, Kq.blk_free h _⟩
  rw [Kq.blk_cell h, Array.getElem?_eq_getElem (show o + j < X.size by omega)]
  rfl
theorem setMsg_eq (w : World) (g o : Nat) (m : MsgV) : w.setCells g o [.int .i64 m.kind, .int .i64 m.to, .int .u64 m.ht, .int .i64 m.fr, .int .u64 m.sq, .int .u64 m.tm, .string m.d, .string m.p] = setMsg w g o m := rfl
theorem moveL_length {k t : Nat} {m : MsgV} {ms : List MsgV} (hk : k < ms.length) (ht : t < ms.length) : (moveL k t m ms).length = ms.length := by
  unfold moveL
  split <;> simp only [List.length_append, List.length_take, List.length_drop, List.length_singleton] <;> omega
theorem move_close {w wb wC : World} {base N g cap o : Nat} {ms ms' : List MsgV} {m : MsgV} {X : Array Value} (h : NtS w base N (.slice (some ⟨g, 0, none⟩) ms.length cap) ms) (hb : Below w.heap.size w wb) (hk : Kq.Keeps (· = g) wb wC)
    (hX : wC.heap[g]? = some (.cells X 39 (0, 0))) (hXs : X.size = cap * 8) (ho : o + 8 ≤ cap * 8) (hlen : ms'.length = ms.length) (hfin : (X.toList.take o ++ m.cells ++ X.toList.drop (o + 8)).take (ms.length * 8) = mcells ms') :
    NtP w base N (.slice (some ⟨g, 0, none⟩) ms.length cap) ms' (setMsg wC.drew g o m) := by
  have hk0 : Kq.Keeps (OwnN N (.slice (some ⟨g, 0, none⟩) ms.length cap)) w (setMsg wC.drew g o m) := by
    have k1 : Kq.Keeps (OwnN N (.slice (some ⟨g, 0, none⟩) ms.length cap)) w wb := Kq.Keeps.of_below hb (fun j h1 h2 => absurd h2 (Nat.not_lt.2 h1))
    have hg : ∀ j, j = g → OwnN N (.slice (some ⟨g, 0, none⟩) ms.length cap) j := fun j e => Or.inr (by rw [e]; rfl)
    exact (k1.trans (hk.mono (fun j _ e => hg j e)).drew).trans ((setMsg_keeps wC.drew g o m).mono (fun j _ e => hg j e))
  have hgN : g ≠ N := h.ne g rfl
  obtain ⟨cur', h1, h2, h3⟩ := setMsg_blk (w := wC.drew) (m := m) hX (show o + 8 ≤ X.size by rw [hXs]; exact ho)
  refine ⟨_, ⟨?_, ?_, h.ne, Nat.le_trans h.base hk0.size⟩, hk0, fun j hj => Or.inl hj⟩
  · have a1 := Kq.below_blk hb h.blk (Kq.blk_lt h.blk)
    have a2 := hk.blk a1 (fun e => hgN e.symm)
    exact (setMsg_keeps wC.drew g o m).blk a2 (fun e => hgN e.symm)
  · rcases h.own.2 with ⟨hv, _⟩ | ⟨g', cap', cur, hv, b1, b2, b3, b4, b5, b6⟩
    · cases hv
    · injection hv with e1 _ e3
      injection e1 with e1
      injection e1 with e1
      subst e1
      subst e3
      rw [hlen]
      exact ⟨by rw [mcells_length, hlen], .inr ⟨g, cap, cur', rfl, b1, h1, b3, b4, by rw [h2, hXs], by rw [h3]; exact hfin⟩⟩
set_option maxRecDepth 100000 in
set_option maxHeartbeats 2000000 in
theorem nt_move_up (base N g cap : Nat) (ms : List MsgV) (cur : Array Value) (k t : Nat) (w : World) (h : NtS w base N (.slice (some ⟨g, 0, none⟩) ms.length cap) ms) (hb : w.heap[g]? = some (.cells cur 39 (0, 0))) (hcap : ms.length ≤ cap) (hcs : cur.size = cap * 8) (hpre : cur.toList.take (ms.length * 8) = mcells ms)
    (hk : k < ms.length) (ht : t < ms.length) (hkt : k < t) (hm : ms.length ≤ 256) :
    Calls Try.prog 16 #[.pointer (some ⟨N, 0, none⟩), .int .i64 (k : Int), .int .i64 (t : Int)] w fun e w' => e = .returned (.int .i64 0) ∧ NtP w base N (.slice (some ⟨g, 0, none⟩) ms.length cap) (moveL k t ms[k] ms) w' := by
  have HH1 := Lib.hid (nt_has base N _ ms (k : Int) w h)
  have HH2 := Lib.hid (nt_has base N _ ms (t : Int) w h)
  have hh1 : hasF (k : Int) ms.length = true := decide_eq_true (by omega)
  have hh2 : hasF (t : Int) ms.length = true := decide_eq_true (by omega)
  rw [hh1] at HH1
  rw [hh2] at HH2
  have H := Lib.hid (And.intro h (And.intro hb (And.intro hcs hpre)))
  have c0 := h.c0
  obtain ⟨A, cap', hv, -, -, hat⟩ := h.at
  injection hv with hA _ hcc
  subst hA
  subst hcc
  obtain ⟨g', o', hA', hg, hc⟩ := hat k hk
  injection hA' with hA'
  injection hA' with e1 e2
  subst e1
  subst e2
  simp only [Nat.zero_add] at hc
  generalize ms[k] = m at *
  have k0 := hc 0 (by omega)
  have k1 := hc 1 (by omega)
  have k2 := hc 2 (by omega)
  have k3 := hc 3 (by omega)
  have k4 := hc 4 (by omega)
  have k5 := hc 5 (by omega)
  have k6 := hc 6 (by omega)
  have k7 := hc 7 (by omega)
  simp only [Nat.add_zero, MsgV.cells, List.getElem?_cons_zero, List.getElem?_cons_succ] at k0 k1 k2 k3 k4 k5 k6 k7
  have d0 : decide ((k : Int) < (t : Int)) = true := decide_eq_true (by omega)
  have d1 : decide (k < t) = true := decide_eq_true hkt
  have e1 : (k : Int) < (ms.length : Int) := by omega
  clear hat hc h hb hcs hpre hh1 hh2
  go_enter Try.func16, Try.ntmps16
  go_wp2_with fail
  refine HH1.out.mono ?_
  rintro e w1 ⟨rfl, rfl⟩
  go_wp2_with fail
  refine HH2.out.mono ?_
  rintro e w1 ⟨rfl, rfl⟩
  go_wp2
  obtain ⟨wb, hwb⟩ : ∃ z, z = w.alloc (.cells #[.int .i64 m.kind, .int .i64 m.to, .int .u64 m.ht, .int .i64 m.fr, .int .u64 m.sq, .int .u64 m.tm, .string m.d, .string m.p] 39) := ⟨_, rfl⟩
  rw [← hwb]
  have hbw : Below w.heap.size w wb := by rw [hwb]; exact Kq.below_alloc _ _
  have hbox : wb.drew.heap[w.heap.size]? = some (.cells #[.int .i64 m.kind, .int .i64 m.to, .int .u64 m.ht, .int .i64 m.fr, .int .u64 m.sq, .int .u64 m.tm, .string m.d, .string m.p] 39 (0, 0)) := by rw [hwb]; exact Kq.blk_new _ _ _ _
  have HB := Lib.hid (And.intro (H.out.1.below hbw.drew) (And.intro (Kq.below_blk hbw.drew H.out.2.1 (Kq.blk_lt H.out.2.1)) (And.intro hbox hbw.drew)))
  have q0 : wb.cell? ⟨N, 0, none⟩ = some (.slice (some ⟨g, 0, none⟩) ms.length cap) := (H.out.1.below hbw).c0
  clear hwb hbw hbox c0 k0 k1 k2 k3 k4 k5 k6 k7
  obtain ⟨a1, ha1⟩ : ∃ a1, a1 = k + 1 := ⟨_, rfl⟩
  obtain ⟨b1, hb1⟩ : ∃ b1, b1 = t + 1 := ⟨_, rfl⟩
  obtain ⟨X, hX⟩ : ∃ X, X = (cur.toList.take (k * 8) ++ mcells ((ms.drop a1).take (t - k)) ++ cur.toList.drop (k * 8 + (mcells ((ms.drop a1).take (t - k))).length)).toArray := ⟨_, rfl⟩
  have hq : (mcells ((ms.drop a1).take (t - k))).length = (t - k) * 8 := by rw [mcells_length, List.length_take, List.length_drop]; congr 1; omega
  have hXs : X.size = cap * 8 := by
    rw [hX, List.size_toArray, List.length_append, List.length_append, List.length_take, List.length_drop, hq, Array.length_toList, H.out.2.2.1]; omega
  have hcp := copy_part (w := wb.drew) (g := g) (cap := cap) (n := 0) (c := 0) HB.out.2.1 H.out.2.2.2 (k1 := a1) (d := b1 - a1) (by omega) k (t - k) (cap - k) (cap - a1) (by omega) (by rw [H.out.2.2.1]; omega)
  rw [show b1 - a1 = t - k by omega, ← hX] at hcp
  obtain ⟨wC, hwC⟩ : ∃ z, z = wb.drew.setRow g X := ⟨_, rfl⟩
  rw [← hwC] at hcp
  have hgN : N ≠ g := fun e => H.out.1.ne g rfl e.symm
  have hgb : w.heap.size ≠ g := by have := Kq.blk_lt H.out.2.1; omega
  have HC : Hid (wC.heap[g]? = some (.cells X 39 (0, 0)) ∧ Kq.Keeps (· = g) wb.drew wC) := Lib.hid (by
    rw [hwC]; exact ⟨setRow_heap wb.drew g cur X _ _ HB.out.2.1, ⟨rfl, rfl, rfl, by simp, fun k _ hn => setRow_other wb.drew g k _ hn⟩⟩)
  have HXE := Lib.hid hX
  have HK1 := Lib.hid (And.intro ha1 hb1)
  have s1 : (k : Int) ≤ (t : Int) := by omega
  have s2 : (t : Int) ≤ (cap : Int) := by omega
  have s3 : (a1 : Int) ≤ (b1 : Int) := by omega
  have s4 : (b1 : Int) ≤ (cap : Int) := by omega
  have s5 : ¬ cap = k := by omega
  have s6 : ¬ cap = a1 := by omega
  have s7 : b1 - a1 = t - k := by omega
  have HTC : Hid (t * 8 + 8 ≤ cap * 8) := Lib.hid (by omega)
  have HXS := Lib.hid hXs
  obtain ⟨m1, m2⟩ := wrap_succ k a1 ha1 (Nat.le_trans (Nat.le_of_lt hk) hm)
  obtain ⟨m3, m4⟩ := wrap_succ t b1 hb1 (Nat.le_trans (Nat.le_of_lt ht) hm)
  clear hwC hX hq ha1 hb1 hXs
  go_still_tail 16, (by kernel_rfl)
  change wpList _ _ _ _ _ wb.drew
  go_wp2
  clear m1 m2 m3 m4 hcp s1 s2 s3 s4 s5 s6 s7
  have q1 : wC.cell? ⟨N, 0, none⟩ = some (.slice (some ⟨g, 0, none⟩) ms.length cap) := Kq.blk_cell (HC.out.2.blk HB.out.1.blk hgN) 0
  have hbx := HC.out.2.blk HB.out.2.2.1 hgb
  have x0 := Kq.blk_cell hbx 0
  have x1 := Kq.blk_cell hbx 1
  have x2 := Kq.blk_cell hbx 2
  have x3 := Kq.blk_cell hbx 3
  have x4 := Kq.blk_cell hbx 4
  have x5 := Kq.blk_cell hbx 5
  have x6 := Kq.blk_cell hbx 6
  have x7 := Kq.blk_cell hbx 7
  simp only [List.getElem?_toArray, List.getElem?_cons_zero, List.getElem?_cons_succ] at x0 x1 x2 x3 x4 x5 x6 x7
  have HT := Lib.hid (there8 (w := wC.drew) (o := t * 8) HC.out.1 (by rw [HXS.out]; exact HTC.out))
  have HP : Hid (NtP w base N (.slice (some ⟨g, 0, none⟩) ms.length cap) (moveL k t m ms) (setMsg wC.drew g (t * 8) m)) := Lib.hid (by
    refine move_close H.out.1 (wb := wb.drew) HB.out.2.2.2 HC.out.2 HC.out.1 HXS.out HTC.out (moveL_length hk ht) ?_
    unfold moveL
    rw [if_pos hkt, HXE.out, HK1.out.1]
    exact move_cells_up H.out.2.2.2 (by have h8 := H.out.2.2.1; rw [show cur.toList.length = cur.size from Array.length_toList, h8]; exact Nat.mul_le_mul_right 8 hcap) hkt ht m)
  have t1 : (t : Int) < (ms.length : Int) := Int.ofNat_lt.2 ht
  clear q0 hbx
  go_still_tail 7, (by kernel_rfl)
  change wpList _ _ _ _ _ wC.drew
  refine wpList_store_mid rfl 39 (.tmp 68) (.tmp 67) rfl g (t * 8) #[.int .i64 m.kind, .int .i64 m.to, .int .u64 m.ht, .int .i64 m.fr, .int .u64 m.sq, .int .u64 m.tm, .string m.d, .string m.p] rfl rfl HT.out (by kernel_rfl) (by simp [Value.oneCell']) ?_
  rw [setMsg_eq]
  generalize setMsg wC.drew g (t * 8) m = wZ at *
  clear x0 x1 x2 x3 x4 x5 x6 x7 q1
  go_wp2
  go_ret
  exact ⟨rfl, HP.out⟩
end Go.Proofs.Ytahijpfmpdjceaa
