/- carracklaw15.TableSame walked. No condition. -/
import Derived.WalkSpells
import Derived.Outline
import Derived.Deep.RegionHeld
import Derived.Deep.QuietTactic
import Derived.BigQuiet
import Derived.Test.YtmckpoeolfggmaaTwSame
import Derived.Test.YtmckpoeolfggmaaNtSameI
import Derived.Test.YtmckpoeolfggmaaHeldMono
namespace Go.Proofs.Ytmckpoeolfggmaa
open Go.RowKit
set_option linter.unusedVariables false
namespace tableSame
/-- acts and the note -/
structure Gp (W w : World) (A : Option Addr) (l : List AcV) (n : NtV) : Prop where
  g : GrT W w A l
  p : w.heap[W.heap.size]? = some (.cells #[.int .i64 n.k, .int .i64 n.f, .int .u64 n.q, .int .u64 n.t, .string n.d] 40 (0, 0))
section
variable {W w w' : World} {A : Option Addr} {l : List AcV} {n : NtV}
theorem Gp.far (h : Gp W w A l n) (hb : Below w.heap.size w w') : Gp W w' A l n := ⟨h.g.far hb, Kq.below_blk hb h.p (Kq.blk_lt h.p)⟩
theorem Gp.fb {V : Nat → Prop} (h : Gp W w A l n) (hV : ∀ k, k ≤ W.heap.size → V k) (hb : Fb V w w') : Gp W w' A l n :=
  ⟨h.g.near (Kq.Keeps.below hb h.g.size (fun k _ h => by
    rcases Nat.lt_or_ge k W.heap.size with h2 | h2
    · exact absurd (hV k (by omega)) h
    · exact h2)), hb.blk h.p (fun h => h (hV _ (Nat.le_refl _)))⟩
theorem Gp.frw (h : Gp W w A l n) : FrW (· ≤ W.heap.size) w := fun k hk => by have := Kq.blk_lt h.p; omega
theorem Gp.start (h : GrT W W A l) : Gp W (W.alloc (.cells #[.int .i64 n.k, .int .i64 n.f, .int .u64 n.q, .int .u64 n.t, .string n.d] 40)) A l n := ⟨h.far (Kq.below_alloc W _), Kq.blk_new W _ _ _⟩
end
theorem one_at (w : World) (n : NtV) : EnAt NtV.nc (w.alloc (.cells #[.int .i64 n.k, .int .i64 n.f, .int .u64 n.q, .int .u64 n.t, .string n.d] 40)) (some ⟨w.heap.size, 0, none⟩) [n] := nE_at.1 (Kq.Elt.made_one (E := nE) n w 40)
set_option maxRecDepth 100000 in
set_option maxHeartbeats 1000000 in
theorem early (r : Int) (n : NtV) (A : Option Addr) (ca : Nat) (l : List AcV) (W : World) (h : GrT W W A l) (hno : ¬ YesT l [n]) :
    Calls Try.prog 7 #[.int .i64 r, .slice A l.length ca, .agg #[.int .i64 n.k, .int .i64 n.f, .int .u64 n.q, .int .u64 n.t, .string n.d]] W fun x w' => x = .returned (.bool true) ∧ Below W.heap.size W w' := by
  have HG := Lib.hid (And.intro h hno)
  have H0 := Lib.hid (Gp.start (n := n) h)
  obtain ⟨k, f, q, t, d⟩ := n
  obtain ⟨w0, hw0⟩ : ∃ z, z = W.alloc (.cells #[.int .i64 k, .int .i64 f, .int .u64 q, .int .u64 t, .string d] 40) := ⟨_, rfl⟩
  rw [← hw0] at H0
  clear h hno
  go_enter Try.func7, Try.ntmps7
  go_wp2_with fail
  rw [← hw0]
  clear hw0
  refine (awake15 w0).mono ?_
  rintro x w1 ⟨rfl, b1⟩
  have H1 := Lib.hid (H0.out.far b1)
  clear b1 H0
  by_cases hl : 100 < l.length
  · have d1 : decide ((100 : Int) < (l.length : Int)) = true := decide_eq_true (by omega)
    have d1' : decide (100 < l.length) = true := decide_eq_true hl
    clear hl
    go_wp2
    go_ret
    exact ⟨rfl, H1.out.g.bel⟩
  have d1 : decide ((100 : Int) < (l.length : Int)) = false := decide_eq_false (by omega)
  have d1' : decide (100 < l.length) = false := decide_eq_false hl
  have HL : Hid (l.length ≤ 100) := Lib.hid (by omega)
  clear hl
  go_wp2_with fail
  obtain ⟨N, hN⟩ : ∃ N, N = l.map AcV.n := ⟨_, rfl⟩
  have nn := notes15 A ca l w1 HL.out H1.out.g.at
  rw [← hN] at nn
  have HN := Lib.hid hN
  clear hN
  refine nn.mono ?_
  clear nn
  rintro x w2 ⟨A2, c2, rfl, hat, b2⟩
  have H2 : Hid (Gp W w2 A l ⟨k, f, q, t, d⟩ ∧ EnAt NtV.nc w2 A2 N) := Lib.hid ⟨H1.out.far b2, hat⟩
  clear b2 H1 hat
  go_wp2_with fail
  refine (few15 N A2 c2 w2 H2.out.2).mono ?_
  rintro x w2 ⟨rfl, rfl⟩
  by_cases f1 : FewN N
  · rw [decide_eq_true f1]
    have f2 : ¬ FewN [(⟨k, f, q, t, d⟩ : NtV)] := fun h => HG.out.2 ⟨HL.out, by rw [← HN.out]; exact f1, h⟩
    have e2 := decide_eq_false f2
    have c0 := Kq.blk_cell H2.out.1.p 0
    have c1 := Kq.blk_cell H2.out.1.p 1
    have c2 := Kq.blk_cell H2.out.1.p 2
    have c3 := Kq.blk_cell H2.out.1.p 3
    have c4 := Kq.blk_cell H2.out.1.p 4
    simp only at c0 c1 c2 c3 c4
    clear f1 f2
    go_wp2_with fail
    refine (few15 [⟨k, f, q, t, d⟩] (some ⟨w2.heap.size, 0, none⟩) 1 _ (one_at w2 ⟨k, f, q, t, d⟩)).mono ?_
    rintro x w3 ⟨rfl, rfl⟩
    rw [e2]
    have HB := Lib.hid ((H2.out.1.far (Kq.below_alloc w2 (.cells #[.int .i64 k, .int .i64 f, .int .u64 q, .int .u64 t, .string d] 40))).g.bel)
    clear c0 c1 c2 c3 c4
    go_wp2
    go_ret
    exact ⟨rfl, HB.out⟩
  · rw [decide_eq_false f1]
    clear f1
    go_wp2
    go_ret
    exact ⟨rfl, H2.out.1.g.bel⟩
/-- acts, note, table -/
structure Rnd (W w : World) (A : Option Addr) (l : List AcV) (n : NtV) (B : Nat) (s : TbV) : Prop where
  gp : Gp W w A l n
  tb : OneT (· ≤ W.heap.size) w B s
/-- acts, note, two tables, beside the blocks V -/
structure R2 (W w : World) (V : Nat → Prop) (A : Option Addr) (l : List AcV) (n : NtV) (B1 B2 : Nat) (s1 s2 : TbV) : Prop where
  gp : Gp W w A l n
  tt : TT V w B1 B2 s1 s2
  vw : ∀ k, k ≤ W.heap.size → V k
  frw : FrW V w
section
variable {W w w' : World} {V : Nat → Prop} {A : Option Addr} {l : List AcV} {n : NtV} {B1 B2 : Nat} {s1 s2 s1' s2' : TbV}
theorem R2.far (h : R2 W w V A l n B1 B2 s1 s2) (hb : Below w.heap.size w w') : R2 W w' V A l n B1 B2 s1 s2 := ⟨h.gp.far hb, h.tt.below hb, h.vw, h.frw.later hb.size⟩
theorem R2.next (h : R2 W w V A l n B1 B2 s1 s2) (h1 : TT V w' B1 B2 s1' s2') (h2 : Fb V w w') : R2 W w' V A l n B1 B2 s1' s2' := ⟨h.gp.fb h.vw h2, h1, h.vw, h.frw.later h2.sz⟩
theorem R2.wide (h : R2 W w V A l n B1 B2 s1 s2) (hb : Below w.heap.size w w') : R2 W w' (Wid V w w') A l n B1 B2 s1 s2 := ⟨h.gp.far hb, h.tt.wide hb, fun k hk => Or.inl (h.vw k hk), wid_frw h.frw hb.size⟩
end
set_option maxRecDepth 100000 in
set_option maxHeartbeats 4000000 in
theorem main (r : Int) (n : NtV) (A : Option Addr) (ca : Nat) (l : List AcV) (W : World) (h : GrT W W A l) (hyes : YesT l [n]) (hnw : n.wf) :
    Calls Try.prog 7 #[.int .i64 r, .slice A l.length ca, .agg #[.int .i64 n.k, .int .i64 n.f, .int .u64 n.q, .int .u64 n.t, .string n.d]] W fun x w' => x = .returned (.bool true) ∧ Below W.heap.size W w' := by
  have HG := Lib.hid (And.intro h (And.intro hyes hnw))
  have H0 := Lib.hid (Gp.start (n := n) h)
  obtain ⟨k, f, q, t, d⟩ := n
  obtain ⟨w0, hw0⟩ : ∃ z, z = W.alloc (.cells #[.int .i64 k, .int .i64 f, .int .u64 q, .int .u64 t, .string d] 40) := ⟨_, rfl⟩
  rw [← hw0] at H0
  have d1 : decide ((100 : Int) < (l.length : Int)) = false := decide_eq_false (by have := hyes.1; omega)
  have d1' : decide (100 < l.length) = false := decide_eq_false (by have := hyes.1; omega)
  have f1 := decide_eq_true hyes.2.1
  have f2 := decide_eq_true hyes.2.2
  have HL : Hid (l.length ≤ 100) := Lib.hid hyes.1
  clear h hyes hnw
  go_enter Try.func7, Try.ntmps7
  go_wp2_with fail
  rw [← hw0]
  clear hw0
  refine (awake15 w0).mono ?_
  rintro x w1 ⟨rfl, b1⟩
  have H1 := Lib.hid (H0.out.far b1)
  clear b1 H0
  go_wp2_with fail
  obtain ⟨N, hN⟩ : ∃ N, N = l.map AcV.n := ⟨_, rfl⟩
  have nn := notes15 A ca l w1 HL.out H1.out.g.at
  rw [← hN] at nn
  have HN := Lib.hid hN
  clear hN
  refine nn.mono ?_
  clear nn
  rintro x w2 ⟨A2, c2, rfl, hat, b2⟩
  have H2 : Hid (Gp W w2 A l ⟨k, f, q, t, d⟩ ∧ EnAt NtV.nc w2 A2 N) := Lib.hid ⟨H1.out.far b2, hat⟩
  clear b2 H1 hat
  go_wp2_with fail
  refine (few15 N A2 c2 w2 H2.out.2).mono ?_
  rintro x w2 ⟨rfl, rfl⟩
  rw [show decide (FewN N) = true by rw [HN.out]; exact f1]
  have c0 := Kq.blk_cell H2.out.1.p 0
  have c1 := Kq.blk_cell H2.out.1.p 1
  have c2 := Kq.blk_cell H2.out.1.p 2
  have c3 := Kq.blk_cell H2.out.1.p 3
  have c4 := Kq.blk_cell H2.out.1.p 4
  simp only at c0 c1 c2 c3 c4
  go_wp2_with fail
  refine (few15 [⟨k, f, q, t, d⟩] (some ⟨w2.heap.size, 0, none⟩) 1 _ (one_at w2 ⟨k, f, q, t, d⟩)).mono ?_
  rintro x w3 ⟨rfl, hw3⟩
  rw [f2]
  have H3 : Hid (Gp W w3 A l ⟨k, f, q, t, d⟩) := Lib.hid (by rw [hw3]; exact H2.out.1.far (Kq.below_alloc w2 _))
  clear f1 f2 d1 d1' c0 c1 c2 c3 c4 hw3 H2
  by_cases hr : 1 ≤ r ∧ r ≤ 40
  case neg =>
    go_wp2_with fail
    refine (tb_new_bad r w3 hr).mono ?_
    rintro x w4 ⟨rfl, hw4⟩
    subst hw4
    have HB := Lib.hid H3.out.g.bel
    clear hr H3
    go_wp2
    go_ret
    exact ⟨rfl, HB.out⟩
  obtain ⟨R, hR⟩ : ∃ R : Nat, r = (R : Int) := ⟨r.toNat, by omega⟩
  subst hR
  have HR40 : Hid (1 ≤ R ∧ R ≤ 40) := Lib.hid (by omega)
  clear hr
  go_wp2_with fail
  refine (tb_new R w3 HR40.out.1 HR40.out.2).mono ?_
  rintro x w4 ⟨B, rfl, p4, b4⟩
  have H4 : Hid (Rnd W w4 A l ⟨k, f, q, t, d⟩ B ⟨R, []⟩) := Lib.hid ⟨H3.out.far b4, ⟨_, p4, fun k hk => ⟨fun h => (by have := H3.out.frw k h; omega), hk.2⟩⟩⟩
  clear p4 b4 H3
  go_wp2
  go_loopw [9] (fun i wr => ∃ j : Nat, j ≤ l.length ∧ i = .int .i64 (j : Int) ∧ Rnd W wr A l ⟨k, f, q, t, d⟩ B (actsT ⟨R, []⟩ (l.take j))) (fun i _ => l.length - (intOf i).toNat)
  case atStart => exact ⟨0, by omega, rfl, H4.out⟩
  case round =>
    obtain ⟨j, hj, rfl, hr⟩ := hrel
    have HR := Lib.hid hr
    have h60 := HL.out
    clear hr H4
    by_cases hlt : j < l.length
    · obtain ⟨b, off, rfl, hc⟩ := HR.out.gp.g.act j hlt
      obtain ⟨a, ha⟩ : ∃ a, a = l[j] := ⟨_, rfl⟩
      rw [← ha] at hc
      have HS := Lib.hid (actsT_take ⟨R, []⟩ l j hlt)
      rw [← ha] at HS
      have HWF : Hid a.wf := Lib.hid (by rw [ha]; exact HG.out.1.wf _ (List.getElem_mem hlt))
      have hi0 : (j : Int) < (l.length : Int) := by omega
      have t1 : decide ((j : Int) < (l.length : Int)) = true := decide_eq_true hi0
      have t2 : decide (j < l.length) = true := decide_eq_true hlt
      have HLT := Lib.hid hlt
      have hj6 : j ≤ 100 := by omega
      have hcc := hc _ HR.out.gp.g
      clear hlt ha hc hj h60
      obtain ⟨s, hs⟩ : ∃ s, s = actsT ⟨R, []⟩ (l.take j) := ⟨_, rfl⟩
      have HK : Hid (TbOk s) := Lib.hid (by rw [hs]; exact actsT_ok _ _ (newT_ok R HR40.out.1 HR40.out.2) (fun a h => HG.out.1.wf a (List.mem_of_mem_take h)))
      rw [← hs] at HS HR
      clear hs
      unfold ActC at hcc
      obtain ⟨q0, q1, q2, q3, q4, q5⟩ := hcc
      go_wp2_with fail
      refine (ot_do HR.out.tb HR.out.gp.frw HK.out a HWF.out).mono ?_
      rintro x w5 ⟨p5, rfl, b5⟩
      have H5 : Hid (Rnd W w5 (some ⟨b, off, none⟩) l ⟨k, f, q, t, d⟩ B (actsT ⟨R, []⟩ (l.take (j + 1)))) := Lib.hid (by rw [HS.out]; exact ⟨HR.out.gp.fb (fun k h => h) b5, p5⟩)
      clear p5 b5 q0 q1 q2 q3 q4 q5 HR
      go_wp2
      go_roundw
      case rel => exact ⟨j + 1, HLT.out, by go_num, H5.out⟩
      case measure => have := HLT.out; simp [intOf]; omega
    · obtain rfl : j = l.length := by omega
      have d0 : decide ((l.length : Int) < (l.length : Int)) = false := decide_eq_false (by omega)
      clear hlt hj h60
      obtain ⟨s, hs⟩ : ∃ s, s = actsT ⟨R, []⟩ (l.take l.length) := ⟨_, rfl⟩
      have HK : Hid (TbOk s ∧ s.room = R ∧ s.l.length ≤ 40 ∧ ofV (R : Int) s.l = (0, some s.l)) := Lib.hid (by
        have h1 : TbOk s := by rw [hs]; exact actsT_ok _ _ (newT_ok R HR40.out.1 HR40.out.2) (fun a h => HG.out.1.wf a (List.mem_of_mem_take h))
        have h2 : s.room = R := by rw [hs]; exact actsT_room _ _
        exact ⟨h1, h2, Nat.le_trans h1.len h1.r40, by have := ofV_same h1; rw [h2] at this; exact this⟩)
      rw [← hs] at HR
      clear hs
      go_wp2_with fail
      refine (ot_items HR.out.tb HK.out.1).mono ?_
      rintro x w5 ⟨v, rfl, ⟨A5, c5, rfl, -, hat5, -⟩, b5⟩
      have H5 : Hid (Rnd W w5 A l ⟨k, f, q, t, d⟩ B s ∧ EnAt NtV.ic w5 A5 s.l) := Lib.hid ⟨⟨HR.out.gp.far b5, HR.out.tb.below b5⟩, hat5⟩
      clear b5 hat5 HR
      go_wp2_with fail
      refine (tb_of w5 (R : Int) s.l A5 c5 H5.out.2 (fun n hn => (HK.out.1.ok n hn).2) (by have := HK.out.2.2.1; omega)).mono ?_
      rintro x w6 ⟨b6, hx⟩
      rcases hx with ⟨e, he, hv, -⟩ | ⟨B2, acc, hv, rfl, htb, -⟩
      · rw [HK.out.2.2.2] at hv
        injection hv with h1 h2
        cases h2
      have H6 : Hid (R2 W w6 (· ≤ W.heap.size) A l ⟨k, f, q, t, d⟩ B B2 s s) := Lib.hid (by
        rw [HK.out.2.2.2] at hv
        injection hv with h1 h2
        injection h2 with h2
        subst h2
        have hs : (⟨(R : Int).toNat, s.l⟩ : TbV) = s := by rw [Int.toNat_natCast, ← HK.out.2.1]
        rw [hs] at htb
        exact ⟨H5.out.1.gp.far b6, TT.start H5.out.1.tb H5.out.1.gp.frw htb b6, fun k h => h, (H5.out.1.gp.far b6).frw⟩)
      clear b6 hv htb H5
      go_wp2_with fail
      refine (ot_items H6.out.tt.two HK.out.1).mono ?_
      rintro x w7 ⟨v, rfl, ⟨A7, c7, rfl, -, hat7, -⟩, b7⟩
      have H7 : Hid (R2 W w7 (· ≤ W.heap.size) A l ⟨k, f, q, t, d⟩ B B2 s s ∧ EnAt NtV.ic w7 A7 s.l) := Lib.hid ⟨H6.out.far b7, hat7⟩
      clear b7 hat7 H6
      go_wp2_with fail
      refine (ot_items H7.out.1.tt.one HK.out.1).mono ?_
      rintro x w8 ⟨v, rfl, ⟨A8, c8, rfl, -, hat8, -⟩, b8⟩
      have H8 : Hid (R2 W w8 (· ≤ W.heap.size) A l ⟨k, f, q, t, d⟩ B B2 s s ∧ EnAt NtV.ic w8 A7 s.l ∧ EnAt NtV.ic w8 A8 s.l) := Lib.hid ⟨H7.out.1.far b8, H7.out.2.below b8, hat8⟩
      clear b8 hat8 H7
      go_wp2_with fail
      refine (same_items A7 A8 c7 c8 s.l w8 H8.out.2.1 H8.out.2.2 (by have := HK.out.2.2.1; omega)).mono ?_
      rintro x w9 ⟨rfl, b9⟩
      have H9 := Lib.hid (H8.out.1.far b9)
      clear b9 H8
      obtain ⟨e, he⟩ : ∃ e, e = (appV s ⟨k, f, q, t, d⟩).2 := ⟨_, rfl⟩
      obtain ⟨s', hs'⟩ : ∃ s', s' = (appV s ⟨k, f, q, t, d⟩).1 := ⟨_, rfl⟩
      have HE : Hid (e = (appV s ⟨k, f, q, t, d⟩).2 ∧ s' = (appV s ⟨k, f, q, t, d⟩).1 ∧ TbOk s' ∧ s'.l.length ≤ 40 ∧ (e ≠ 0 → s' = s) ∧ (e = 0 → appV s' ⟨k, f, q, t, d⟩ = (s', 0))) := Lib.hid (by
        have h1 : TbOk s' := by rw [hs']; exact appV_ok HK.out.1 _ HG.out.2.2
        exact ⟨he, hs', h1, Nat.le_trans h1.len h1.r40, fun h => by rw [hs']; exact appV_bad s _ (by rw [← he]; exact h), fun h => by rw [hs']; exact app_twice HK.out.1 (by rw [← he]; exact h)⟩)
      clear he hs'
      have c0 := Kq.blk_cell H9.out.gp.p 0
      have c1 := Kq.blk_cell H9.out.gp.p 1
      have c2 := Kq.blk_cell H9.out.gp.p 2
      have c3 := Kq.blk_cell H9.out.gp.p 3
      have c4 := Kq.blk_cell H9.out.gp.p 4
      simp only at c0 c1 c2 c3 c4
      go_wp2_with fail
      refine (tt_a H9.out.tt H9.out.frw HK.out.1 ⟨k, f, q, t, d⟩ HG.out.2.2).mono ?_
      rintro x w10 ⟨p10, rfl, b10⟩
      rw [← HE.out.1]
      have H10 : Hid (R2 W w10 (· ≤ W.heap.size) A l ⟨k, f, q, t, d⟩ B B2 s' s) := Lib.hid (H9.out.next (by rw [HE.out.2.1]; exact p10) b10)
      clear p10 b10 H9 c0 c1 c2 c3 c4
      have c0 := Kq.blk_cell H10.out.gp.p 0
      have c1 := Kq.blk_cell H10.out.gp.p 1
      have c2 := Kq.blk_cell H10.out.gp.p 2
      have c3 := Kq.blk_cell H10.out.gp.p 3
      have c4 := Kq.blk_cell H10.out.gp.p 4
      simp only at c0 c1 c2 c3 c4
      by_cases h0 : e = 0
      · have e3 : (e != 0) = false := by rw [h0]; rfl
        have HTW := Lib.hid (HE.out.2.2.2.2.2 h0)
        have HE0 : Hid ((appV s ⟨k, f, q, t, d⟩).2 = 0) := Lib.hid (by rw [← HE.out.1]; exact h0)
        clear h0
        go_wp2_with fail
        refine (ot_items H10.out.tt.one HE.out.2.2.1).mono ?_
        rintro x w11 ⟨v, rfl, ⟨A11, c11, rfl, -, hat11, hnew⟩, b11⟩
        have H11 : Hid (∃ V : Nat → Prop, R2 W w11 V A l ⟨k, f, q, t, d⟩ B B2 s' s ∧ EnAt NtV.ic w11 A11 s'.l ∧ ∀ b off, A11 = some ⟨b, off, none⟩ → V b) := Lib.hid ⟨_, H10.out.wide b11, hat11, fun b o e => Or.inr (hnew b o e)⟩
        obtain ⟨V, h11⟩ := H11.out
        replace H11 := Lib.hid h11
        clear h11 b11 hat11 hnew H10 c0 c1 c2 c3 c4
        have c0 := Kq.blk_cell H11.out.1.gp.p 0
        have c1 := Kq.blk_cell H11.out.1.gp.p 1
        have c2 := Kq.blk_cell H11.out.1.gp.p 2
        have c3 := Kq.blk_cell H11.out.1.gp.p 3
        have c4 := Kq.blk_cell H11.out.1.gp.p 4
        simp only at c0 c1 c2 c3 c4
        go_wp2_with fail
        refine (tt_a H11.out.1.tt H11.out.1.frw HE.out.2.2.1 ⟨k, f, q, t, d⟩ HG.out.2.2).mono ?_
        rintro x w12 ⟨p12, rfl, b12⟩
        rw [HTW.out] at p12
        rw [HTW.out]
        have H12 : Hid (R2 W w12 V A l ⟨k, f, q, t, d⟩ B B2 s' s ∧ EnAt NtV.ic w12 A11 s'.l ∧ ∀ b off, A11 = some ⟨b, off, none⟩ → V b) := Lib.hid ⟨H11.out.1.next p12 b12, H11.out.2.1.keeps b12 (fun g o e h => h (H11.out.2.2 g o e)), H11.out.2.2⟩
        clear p12 b12 H11 c0 c1 c2 c3 c4
        go_wp2_with fail
        refine (ot_items H12.out.1.tt.one HE.out.2.2.1).mono ?_
        rintro x w13 ⟨v, rfl, ⟨A13, c13, rfl, -, hat13, -⟩, b13⟩
        have H13 : Hid (R2 W w13 V A l ⟨k, f, q, t, d⟩ B B2 s' s ∧ EnAt NtV.ic w13 A11 s'.l ∧ (∀ b off, A11 = some ⟨b, off, none⟩ → V b) ∧ EnAt NtV.ic w13 A13 s'.l) := Lib.hid ⟨H12.out.1.far b13, H12.out.2.1.below b13, H12.out.2.2, hat13⟩
        clear b13 hat13 H12
        go_wp2_with fail
        refine (same_items A13 A11 c13 c11 s'.l w13 H13.out.2.2.2 H13.out.2.1 (by have := HE.out.2.2.2.1; omega)).mono ?_
        rintro x w14 ⟨rfl, b14⟩
        have H14 : Hid (R2 W w14 V A l ⟨k, f, q, t, d⟩ B B2 s' s ∧ EnAt NtV.ic w14 A11 s'.l ∧ (∀ b off, A11 = some ⟨b, off, none⟩ → V b)) := Lib.hid ⟨H13.out.1.far b14, H13.out.2.1.below b14, H13.out.2.2.1⟩
        clear b14 H13
        have c0 := Kq.blk_cell H14.out.1.gp.p 0
        have c1 := Kq.blk_cell H14.out.1.gp.p 1
        have c2 := Kq.blk_cell H14.out.1.gp.p 2
        have c3 := Kq.blk_cell H14.out.1.gp.p 3
        have c4 := Kq.blk_cell H14.out.1.gp.p 4
        simp only at c0 c1 c2 c3 c4
        go_wp2_with fail
        refine (tt_b H14.out.1.tt H14.out.1.frw HK.out.1 ⟨k, f, q, t, d⟩ HG.out.2.2).mono ?_
        rintro x w15 ⟨p15, rfl, b15⟩
        rw [HE0.out]
        have H15 : Hid (R2 W w15 V A l ⟨k, f, q, t, d⟩ B B2 s' s' ∧ EnAt NtV.ic w15 A11 s'.l) := Lib.hid ⟨H14.out.1.next (by rw [HE.out.2.1] at p15 ⊢; exact p15) b15, H14.out.2.1.keeps b15 (fun g o e h => h (H14.out.2.2 g o e))⟩
        clear p15 b15 H14 c0 c1 c2 c3 c4
        go_wp2_with fail
        refine (ot_items H15.out.1.tt.two HE.out.2.2.1).mono ?_
        rintro x w16 ⟨v, rfl, ⟨A16, c16, rfl, -, hat16, -⟩, b16⟩
        have H16 : Hid (R2 W w16 V A l ⟨k, f, q, t, d⟩ B B2 s' s' ∧ EnAt NtV.ic w16 A11 s'.l ∧ EnAt NtV.ic w16 A16 s'.l) := Lib.hid ⟨H15.out.1.far b16, H15.out.2.below b16, hat16⟩
        clear b16 hat16 H15
        go_wp2_with fail
        refine (same_items A16 A11 c16 c11 s'.l w16 H16.out.2.2 H16.out.2.1 (by have := HE.out.2.2.2.1; omega)).mono ?_
        rintro x w17 ⟨rfl, b17⟩
        have H17 := Lib.hid ((H16.out.1.far b17).gp.g.bel)
        clear b17 H16
        go_wp2
        go_ret
        exact ⟨by simp, H17.out⟩
      · have e3 : (e != 0) = true := by rw [bne_iff_ne]; exact h0
        obtain rfl : s' = s := HE.out.2.2.2.2.1 h0
        clear h0
        go_wp2_with fail
        refine (tt_b H10.out.tt H10.out.frw HK.out.1 ⟨k, f, q, t, d⟩ HG.out.2.2).mono ?_
        rintro x w11 ⟨p11, rfl, b11⟩
        rw [← HE.out.1]
        have H11 : Hid (R2 W w11 (· ≤ W.heap.size) A l ⟨k, f, q, t, d⟩ B B2 s' s') := Lib.hid (H10.out.next (by rw [← HE.out.2.1] at p11; exact p11) b11)
        clear p11 b11 H10 c0 c1 c2 c3 c4
        go_wp2_with fail
        refine (ot_items H11.out.tt.two HK.out.1).mono ?_
        rintro x w12 ⟨v, rfl, ⟨A12, c12, rfl, -, hat12, -⟩, b12⟩
        have H12 : Hid (R2 W w12 (· ≤ W.heap.size) A l ⟨k, f, q, t, d⟩ B B2 s' s' ∧ EnAt NtV.ic w12 A12 s'.l) := Lib.hid ⟨H11.out.far b12, hat12⟩
        clear b12 hat12 H11
        go_wp2_with fail
        refine (ot_items H12.out.1.tt.one HK.out.1).mono ?_
        rintro x w13 ⟨v, rfl, ⟨A13, c13, rfl, -, hat13, -⟩, b13⟩
        have H13 : Hid (R2 W w13 (· ≤ W.heap.size) A l ⟨k, f, q, t, d⟩ B B2 s' s' ∧ EnAt NtV.ic w13 A12 s'.l ∧ EnAt NtV.ic w13 A13 s'.l) := Lib.hid ⟨H12.out.1.far b13, H12.out.2.below b13, hat13⟩
        clear b13 hat13 H12
        go_wp2_with fail
        refine (same_items A12 A13 c12 c13 s'.l w13 H13.out.2.1 H13.out.2.2 (by have := HE.out.2.2.2.1; omega)).mono ?_
        rintro x w14 ⟨rfl, b14⟩
        have H14 := Lib.hid ((H13.out.1.far b14).gp.g.bel)
        clear b14 H13
        go_wp2
        go_ret
        exact ⟨by simp, H14.out⟩
theorem _root_.Go.Proofs.Ytmckpoeolfggmaa.tableSame_walk (r : Int) (v1 v2 : Value) {W : World} (_ : (Lit.int .i64 r).wf = true) (h1 : ∃ A cap l, v1 = .slice A l.length cap ∧ l.length ≤ cap ∧ acE.Lo W W.heap.size A l ∧ ∀ n ∈ l, n.wf) (h2 : ∃ n : NtV, v2 = .agg #[.int .i64 n.k, .int .i64 n.f, .int .u64 n.q, .int .u64 n.t, .string n.d] ∧ n.wf) :
    Calls Try.prog 7 #[.int .i64 r, v1, v2] W fun x w' => x = .returned (.bool true) ∧ Below W.heap.size W w' := by
  obtain ⟨A, ca, l, rfl, hca, hA, hw⟩ := h1
  obtain ⟨n, rfl, hn⟩ := h2
  by_cases hg : YesT l [n]
  · exact main r n A ca l W ⟨hA, hw, Below.refl _ _⟩ hg hn
  · exact early r n A ca l W ⟨hA, hw, Below.refl _ _⟩ hg
end tableSame
end Go.Proofs.Ytmckpoeolfggmaa
