/- An act: Apply or Drop, on both sides. Condition: an act of the arguments; the table is in order. -/
import Derived.WalkSpells
import Derived.Outline
import Derived.Test.YtmckpoeolfggmaaTrFit
namespace Go.Proofs.Ytmckpoeolfggmaa
open Go.RowKit Go.Kq
set_option linter.unusedVariables false
/-- a call of a table -/
structure AcV where
  dr : Bool
  n : NtV
def AcV.c (a : AcV) : List Value := [.bool a.dr, .int .i64 a.n.k, .int .i64 a.n.f, .int .u64 a.n.q, .int .u64 a.n.t, .string a.n.d]
def acE : Kq.Elt AcV := ⟨6, AcV.c, fun _ => rfl, fun x u hu => by
  unfold AcV.c at hu
  simp only [List.mem_cons, List.not_mem_nil, or_false] at hu
  rcases hu with rfl | rfl | rfl | rfl | rfl | rfl <;> rfl, by decide⟩
/-- its names are numbers of the language -/
def AcV.wf (a : AcV) : Prop := a.n.wf ∧ nmW (a.n.f, a.n.q)
def actT (s : TbV) (a : AcV) : TbV × Int := if a.dr = true then drpV s a.n.f a.n.q else appV s a.n
def actsT : TbV → List AcV → TbV
  | s, [] => s
  | s, a :: l => actsT (actT s a).1 l
theorem actT_ok {s : TbV} (h : TbOk s) (a : AcV) (hw : a.wf) : TbOk (actT s a).1 := by
  unfold actT
  split
  · exact drpV_ok h _ _
  · exact appV_ok h _ hw.1
theorem actT_room (s : TbV) (a : AcV) : (actT s a).1.room = s.room := by
  unfold actT
  split
  · exact drpV_room s _ _
  · exact appV_room s _
theorem actsT_snoc : ∀ (l : List AcV) (a : AcV) (s : TbV), actsT s (l ++ [a]) = (actT (actsT s l) a).1
  | [], a, s => rfl
  | b :: l, a, s => actsT_snoc l a _
theorem actsT_take (s : TbV) (l : List AcV) (j : Nat) (h : j < l.length) : actsT s (l.take (j + 1)) = (actT (actsT s (l.take j)) l[j]).1 := by
  rw [List.take_succ_eq_append_getElem h, actsT_snoc]
theorem actsT_ok : ∀ (l : List AcV) (s : TbV), TbOk s → (∀ a ∈ l, a.wf) → TbOk (actsT s l)
  | [], s, h, _ => h
  | a :: l, s, h, hw => actsT_ok l _ (actT_ok h a (hw a List.mem_cons_self)) (fun m hm => hw m (List.mem_cons_of_mem _ hm))
theorem actsT_room : ∀ (l : List AcV) (s : TbV), (actsT s l).room = s.room
  | [], s => rfl
  | a :: l, s => (actsT_room l _).trans (actT_room s a)
section
variable (w : World) (O : Nat → Prop) (B : Nat) (s : TbV)
set_option maxRecDepth 100000 in
set_option maxHeartbeats 2000000 in
theorem rt_act (a : AcV) (hw : a.wf) (h : RtP w O B s) (hs : TbOk s) (hO : ∀ k, O k → k < w.heap.size) : Calls Try.prog 13 #[.pointer (some ⟨B, 0, none⟩), .agg #[.bool a.dr, .int .i64 a.n.k, .int .i64 a.n.f, .int .u64 a.n.q, .int .u64 a.n.t, .string a.n.d]] w (StepR w O B (.int .i64 (actT s a).2) (actT s a).1) := by
  obtain ⟨dr, k, f, q, t, d⟩ := a
  have HH := Lib.hid (And.intro hs (And.intro hw hO))
  have HSZ : Hid (s.l.length ≤ 1000) := Lib.hid (by have := hs.len; have := hs.r40; omega)
  obtain ⟨w0, hw0⟩ : ∃ z, z = w.alloc (.cells #[.bool dr, .int .i64 k, .int .i64 f, .int .u64 q, .int .u64 t, .string d] 42) := ⟨_, rfl⟩
  have H0 : Hid (Below w.heap.size w w0 ∧ RtP w0 O B s ∧ w0.heap[w.heap.size]? = some (.cells #[.bool dr, .int .i64 k, .int .i64 f, .int .u64 q, .int .u64 t, .string d] 42 (0, 0))) := Lib.hid (by
    have hb := Kq.below_alloc w (.cells #[.bool dr, .int .i64 k, .int .i64 f, .int .u64 q, .int .u64 t, .string d] 42)
    have hr := Kq.blk_new w #[.bool dr, .int .i64 k, .int .i64 f, .int .u64 q, .int .u64 t, .string d] 42 (0, 0)
    rw [← hw0] at hb hr
    exact ⟨hb, h.below hb, hr⟩)
  clear h hs hw hO
  have c0 := Kq.blk_cell H0.out.2.2 0
  have c1 := Kq.blk_cell H0.out.2.2 1
  have c2 := Kq.blk_cell H0.out.2.2 2
  have c3 := Kq.blk_cell H0.out.2.2 3
  have c4 := Kq.blk_cell H0.out.2.2 4
  have c5 := Kq.blk_cell H0.out.2.2 5
  go_enter Try.func13, Try.ntmps13
  cases dr with
  | true =>
    go_wp2_with fail
    rw [← hw0]
    clear hw0 c0 c1 c2 c3 c4 c5
    refine (rt_drop w0 O B s f q H0.out.2.1 HH.out.1.sort HSZ.out (fun k hk => Nat.lt_of_lt_of_le (HH.out.2.2 k hk) H0.out.1.size)).mono ?_
    intro x w3 hx
    have HX := Lib.hid (StepR.from H0.out.1 hx)
    obtain ⟨rfl, -, -⟩ := hx
    go_wp2
    go_ret
    exact HX.out
  | false =>
    go_wp2_with fail
    rw [← hw0]
    clear hw0 c0 c1 c2 c3 c4 c5
    refine (rt_apply w0 O B s ⟨k, f, q, t, d⟩ HH.out.2.1.1 H0.out.2.1 HH.out.1.sort HSZ.out (fun k hk => Nat.lt_of_lt_of_le (HH.out.2.2 k hk) H0.out.1.size)).mono ?_
    intro x w3 hx
    have HX := Lib.hid (StepR.from H0.out.1 hx)
    obtain ⟨rfl, -, -⟩ := hx
    go_wp2
    go_ret
    exact HX.out
set_option maxRecDepth 100000 in
set_option maxHeartbeats 2000000 in
theorem tb_do (a : AcV) (hw : a.wf) (h : TbP w O B s) (hs : TbOk s) (hO : ∀ k, O k → k < w.heap.size) : Calls Try.prog 12 #[.pointer (some ⟨B, 0, none⟩), .agg #[.bool a.dr, .int .i64 a.n.k, .int .i64 a.n.f, .int .u64 a.n.q, .int .u64 a.n.t, .string a.n.d]] w (StepT w O B (.int .i64 (actT s a).2) (actT s a).1) := by
  obtain ⟨dr, k, f, q, t, d⟩ := a
  have HH := Lib.hid (And.intro hs (And.intro hw hO))
  obtain ⟨w0, hw0⟩ : ∃ z, z = w.alloc (.cells #[.bool dr, .int .i64 k, .int .i64 f, .int .u64 q, .int .u64 t, .string d] 42) := ⟨_, rfl⟩
  have H0 : Hid (Below w.heap.size w w0 ∧ TbP w0 O B s ∧ w0.heap[w.heap.size]? = some (.cells #[.bool dr, .int .i64 k, .int .i64 f, .int .u64 q, .int .u64 t, .string d] 42 (0, 0))) := Lib.hid (by
    have hb := Kq.below_alloc w (.cells #[.bool dr, .int .i64 k, .int .i64 f, .int .u64 q, .int .u64 t, .string d] 42)
    have hr := Kq.blk_new w #[.bool dr, .int .i64 k, .int .i64 f, .int .u64 q, .int .u64 t, .string d] 42 (0, 0)
    rw [← hw0] at hb hr
    exact ⟨hb, h.below hb, hr⟩)
  clear h hs hw hO
  have c0 := Kq.blk_cell H0.out.2.2 0
  have c1 := Kq.blk_cell H0.out.2.2 1
  have c2 := Kq.blk_cell H0.out.2.2 2
  have c3 := Kq.blk_cell H0.out.2.2 3
  have c4 := Kq.blk_cell H0.out.2.2 4
  have c5 := Kq.blk_cell H0.out.2.2 5
  go_enter Try.func12, Try.ntmps12
  cases dr with
  | true =>
    go_wp2_with fail
    rw [← hw0]
    clear hw0 c0 c1 c2 c3 c4 c5
    refine (tb_drop w0 O B s f q HH.out.2.1.2 H0.out.2.1 HH.out.1 (fun k hk => Nat.lt_of_lt_of_le (HH.out.2.2 k hk) H0.out.1.size)).mono ?_
    intro x w3 hx
    have HX := Lib.hid (StepT.from H0.out.1 hx)
    obtain ⟨rfl, -, -⟩ := hx
    go_wp2
    go_ret
    exact HX.out
  | false =>
    go_wp2_with fail
    rw [← hw0]
    clear hw0 c0 c1 c2 c3 c4 c5
    refine (tb_apply w0 O B s ⟨k, f, q, t, d⟩ HH.out.2.1.1 H0.out.2.1 HH.out.1 (fun k hk => Nat.lt_of_lt_of_le (HH.out.2.2 k hk) H0.out.1.size)).mono ?_
    intro x w3 hx
    have HX := Lib.hid (StepT.from H0.out.1 hx)
    obtain ⟨rfl, -, -⟩ := hx
    go_wp2
    go_ret
    exact HX.out
end
/-- few notes, and short -/
def FewN (l : List NtV) : Prop := l.length ≤ 100 ∧ ∀ n ∈ l, n.d.size ≤ 300
instance (l : List NtV) : Decidable (FewN l) := by unfold FewN; infer_instance
set_option maxRecDepth 100000 in
set_option maxHeartbeats 1000000 in
theorem few15 (l : List NtV) (A : Option Addr) (cap : Nat) (w : World) (hA : EnAt NtV.nc w A l) :
    Calls Try.prog 9 #[.slice A l.length cap] w fun x w' => x = .returned (.bool (decide (FewN l))) ∧ w' = w := by
  by_cases h60 : 100 < l.length
  · have d1 : decide ((100 : Int) < (l.length : Int)) = true := decide_eq_true (by omega)
    have d2 : decide (100 < l.length) = true := decide_eq_true h60
    have HE : Hid (decide (FewN l) = false) := Lib.hid (decide_eq_false (fun h => by have := h.1; omega))
    clear h60 hA
    go_enter Try.func9, Try.ntmps9
    go_wp2
    go_ret
    exact ⟨by rw [HE.out]; rfl, rfl⟩
  have d1 : decide ((100 : Int) < (l.length : Int)) = false := decide_eq_false (by omega)
  have d2 : decide (100 < l.length) = false := decide_eq_false h60
  have HA := Lib.hid hA
  have H60 : Hid (l.length ≤ 100) := Lib.hid (by omega)
  clear h60 hA
  go_enter Try.func9, Try.ntmps9
  go_wp2
  go_loopw [3] (fun u wr => ∃ j : Nat, j ≤ l.length ∧ (∀ i (hi : i < l.length), i < j → l[i].d.size ≤ 300) ∧ u = .int .i64 (j : Int) ∧ wr = w) (fun u _ => l.length - (intOf u).toNat)
  case atStart => exact ⟨0, Nat.zero_le _, fun i _ h => absurd h (Nat.not_lt_zero _), rfl, rfl⟩
  case round =>
    obtain ⟨j, hj, hall, rfl, rfl⟩ := hrel
    have HALL := Lib.hid hall
    have h6 := H60.out
    clear hall d1 d2
    by_cases hlt : j < l.length
    · obtain ⟨b, off, rfl, _, hc⟩ := HA.out j hlt
      have t1 : decide ((j : Int) < (l.length : Int)) = true := decide_eq_true (by omega)
      have t2 : decide (j < l.length) = true := decide_eq_true hlt
      have hi0 : (j : Int) < (l.length : Int) := by omega
      obtain ⟨n, hn⟩ : ∃ n, n = l[j] := ⟨_, rfl⟩
      have HNN : Hid (∀ h : j < l.length, n = l[j]'h) := Lib.hid (fun _ => hn)
      rw [← hn] at hc
      have c4 := hc 4 (by omega)
      have HLT := Lib.hid hlt
      obtain ⟨k, f, q, t, d⟩ := n
      simp only [NtV.nc, List.getElem?_cons_zero, List.getElem?_cons_succ] at c4
      obtain ⟨m, hm⟩ : ∃ m, m = d.size := ⟨_, rfl⟩
      have HM := Lib.hid hm
      clear hc hn hlt
      by_cases hs : 300 < d.size
      · have e1 : decide ((300 : Int) < (d.size : Int)) = true := decide_eq_true (by omega)
        have e2 : decide (300 < d.size) = true := decide_eq_true hs
        have HE : Hid (decide (FewN l) = false) := Lib.hid (decide_eq_false (fun h => by
          have h1 := h.2 _ (List.getElem_mem HLT.out)
          rw [← HNN.out HLT.out] at h1
          have h2 : d.size ≤ 300 := h1
          omega))
        clear hs hm
        go_wp2
        go_ret
        exact ⟨by rw [HE.out]; rfl, rfl⟩
      · have e1 : decide ((300 : Int) < (d.size : Int)) = false := decide_eq_false (by omega)
        have e2 : decide (300 < d.size) = false := decide_eq_false hs
        have HS : Hid (d.size ≤ 300) := Lib.hid (by omega)
        clear hs hm
        go_wp2
        go_roundw
        case rel =>
          refine ⟨j + 1, HLT.out, fun i hi hij => ?_, by go_num, by first | trivial | rfl⟩
          rcases Nat.lt_or_ge i j with h' | h'
          · exact HALL.out i hi h'
          · obtain rfl : i = j := by omega
            rw [← HNN.out hi]; exact HS.out
        case measure => have := HLT.out; simp [intOf]; omega
    · obtain rfl : j = l.length := by omega
      have t1 : decide ((l.length : Int) < (l.length : Int)) = false := decide_eq_false (by omega)
      have t2 : decide (l.length < l.length) = false := decide_eq_false hlt
      have HE : Hid (decide (FewN l) = true) := Lib.hid (decide_eq_true ⟨by omega, fun n hn => by
        obtain ⟨i, hi, rfl⟩ := List.mem_iff_getElem.1 hn
        exact HALL.out i hi hi⟩)
      clear hlt hj h6
      go_wp2
      go_ret
      exact ⟨by rw [HE.out]; rfl, rfl⟩
end Go.Proofs.Ytmckpoeolfggmaa
