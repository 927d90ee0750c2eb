/- carracklaw15.TableLives walked. No condition. -/
import Derived.WalkSpells
import Derived.Outline
import Derived.Deep.RegionHeld
import Derived.Deep.QuietTactic
import Derived.BigQuiet
import Derived.Test.YtmckpoeolfggmaaTwLive
import Derived.Test.YtmckpoeolfggmaaNtSameI
import Derived.Test.YtmckpoeolfggmaaHeldMono
namespace Go.Proofs.Ytmckpoeolfggmaa
open Go.RowKit
set_option linter.unusedVariables false
namespace tableLives
/-- the packet's block -/
def PkB (W : World) (w : World) (f q t : Int) (d : ByteArray) : Prop := w.heap[W.heap.size]? = some (.cells #[.int .i64 f, .int .u64 q, .int .u64 t, .string d] 38 (0, 0))
/-- acts and packet -/
structure Gp (W w : World) (A : Option Addr) (l : List AcV) (f q t : Int) (d : ByteArray) : Prop where
  g : GrT W w A l
  p : PkB W w f q t d
theorem Gp.far {W w w' : World} {A : Option Addr} {l : List AcV} {f q t : Int} {d : ByteArray} (h : Gp W w A l f q t d) (hb : Below w.heap.size w w') : Gp W w' A l f q t d := ⟨h.g.far hb, Kq.below_blk hb h.p (Kq.blk_lt h.p)⟩
/-- beside a table that lies above the packet's block -/
theorem Gp.fb {W w w' : World} {A : Option Addr} {l : List AcV} {f q t : Int} {d : ByteArray} (h : Gp W w A l f q t d) (hb : Fb (· ≤ W.heap.size) w w') : Gp W w' A l f q t d :=
  ⟨h.g.near (Kq.Keeps.below hb h.g.size (fun k _ h => by omega)), hb.blk h.p (fun h => h (Nat.le_refl _))⟩
theorem Gp.frw {W w : World} {A : Option Addr} {l : List AcV} {f q t : Int} {d : ByteArray} (h : Gp W w A l f q t d) : FrW (· ≤ W.heap.size) w := fun k hk => by have := Kq.blk_lt h.p; omega
def Yes (l : List AcV) (f q t : Int) (d : ByteArray) : Prop := l.length ≤ 100 ∧ FewN (l.map AcV.n) ∧ PkOk ⟨f, q, t, d⟩
set_option maxRecDepth 100000 in
set_option maxHeartbeats 1000000 in
theorem early (f q t : Int) (d : ByteArray) (tu ti : Bool) (A : Option Addr) (ca : Nat) (l : List AcV) (W : World) (h : GrT W W A l) (hno : ¬ Yes l f q t d) :
    Calls Try.prog 6 #[.slice A l.length ca, .agg #[.int .i64 f, .int .u64 q, .int .u64 t, .string d], .bool tu, .bool ti] W fun x w' => x = .returned (.bool true) ∧ Below W.heap.size W w' := by
  have HG := Lib.hid (And.intro h hno)
  obtain ⟨w0, hw0⟩ : ∃ z, z = W.alloc (.cells #[.int .i64 f, .int .u64 q, .int .u64 t, .string d] 38) := ⟨_, rfl⟩
  have H0 : Hid (Gp W w0 A l f q t d) := Lib.hid (by
    have hb := Kq.below_alloc W (.cells #[.int .i64 f, .int .u64 q, .int .u64 t, .string d] 38)
    have hr := Kq.blk_new W #[.int .i64 f, .int .u64 q, .int .u64 t, .string d] 38 (0, 0)
    rw [← hw0] at hb hr
    exact ⟨h.far hb, hr⟩)
  clear h hno
  go_enter Try.func6, Try.ntmps6
  go_wp2_with fail
  rw [← hw0]
  clear hw0
  refine (awake15 w0).mono ?_
  rintro x w1 ⟨rfl, b1⟩
  have H1 := Lib.hid (H0.out.far b1)
  clear b1 H0
  by_cases hl : 100 < l.length
  · have d1 : decide ((100 : Int) < (l.length : Int)) = true := decide_eq_true (by omega)
    have d1' : decide (100 < l.length) = true := decide_eq_true hl
    clear hl
    go_wp2
    go_ret
    exact ⟨rfl, H1.out.g.bel⟩
  have d1 : decide ((100 : Int) < (l.length : Int)) = false := decide_eq_false (by omega)
  have d1' : decide (100 < l.length) = false := decide_eq_false hl
  have HL : Hid (l.length ≤ 100) := Lib.hid (by omega)
  clear hl
  go_wp2_with fail
  obtain ⟨N, hN⟩ : ∃ N, N = l.map AcV.n := ⟨_, rfl⟩
  have nn := notes15 A ca l w1 HL.out H1.out.g.at
  rw [← hN] at nn
  have HN := Lib.hid hN
  clear hN
  refine nn.mono ?_
  clear nn
  rintro x w2 ⟨A2, c2, rfl, hat, b2⟩
  have H2 : Hid (Gp W w2 A l f q t d ∧ EnAt NtV.nc w2 A2 N) := Lib.hid ⟨H1.out.far b2, hat⟩
  clear b2 H1 hat
  go_wp2_with fail
  refine (few15 N A2 c2 w2 H2.out.2).mono ?_
  rintro x w2 ⟨rfl, rfl⟩
  by_cases f1 : FewN N
  · rw [decide_eq_true f1]
    have f2 : ¬ PkOk ⟨f, q, t, d⟩ := fun h => HG.out.2 ⟨HL.out, by rw [← HN.out]; exact f1, h⟩
    have c0 := Kq.blk_cell H2.out.1.p 0
    have c1 := Kq.blk_cell H2.out.1.p 1
    have c2 := Kq.blk_cell H2.out.1.p 2
    have c3 := Kq.blk_cell H2.out.1.p 3
    have HB := Lib.hid H2.out.1.g.bel
    clear f1
    unfold PkOk at f2
    simp only at f2
    by_cases g1 : 64 < d.size
    · have e1 : decide ((64 : Int) < (d.size : Int)) = true := decide_eq_true (by omega)
      have e1' : decide (64 < d.size) = true := decide_eq_true g1
      clear g1 f2
      go_wp2
      go_ret
      exact ⟨rfl, HB.out⟩
    have e1 : decide ((64 : Int) < (d.size : Int)) = false := decide_eq_false (by omega)
    have e1' : decide (64 < d.size) = false := decide_eq_false g1
    by_cases g2 : f < 0
    · have e2 : decide (f < 0) = true := decide_eq_true g2
      clear g1 g2 f2
      go_wp2
      go_ret
      exact ⟨rfl, HB.out⟩
    have e2 : decide (f < 0) = false := decide_eq_false g2
    by_cases g3 : 1 < f
    · have e3 : decide (1 < f) = true := decide_eq_true g3
      clear g1 g2 g3 f2
      go_wp2
      go_ret
      exact ⟨rfl, HB.out⟩
    have e3 : decide (1 < f) = false := decide_eq_false g3
    by_cases g4 : q = 0
    · have e4 : (q == 0) = true := by rw [g4]; rfl
      clear g1 g2 g3 f2 g4
      go_wp2
      go_ret
      exact ⟨rfl, HB.out⟩
    have e4 : (q == 0) = false := beq_eq_false_iff_ne.2 g4
    have g5 : t = 0 := by
      by_cases e : t = 0
      · exact e
      · exact absurd ⟨by omega, by omega, g4, e, by omega⟩ f2
    have e5 : (t == 0) = true := by rw [g5]; rfl
    clear g1 g2 g3 f2 g4 g5
    go_wp2
    go_ret
    exact ⟨rfl, HB.out⟩
  · rw [decide_eq_false f1]
    clear f1
    go_wp2
    go_ret
    exact ⟨rfl, H2.out.1.g.bel⟩
/-- acts, packet, table -/
structure Rnd (W w : World) (A : Option Addr) (l : List AcV) (f q t : Int) (d : ByteArray) (B : Nat) (s : TbV) : Prop where
  gp : Gp W w A l f q t d
  tb : OneT (· ≤ W.heap.size) w B s
theorem Rnd.far {W w w' : World} {A : Option Addr} {l : List AcV} {f q t : Int} {d : ByteArray} {B : Nat} {s : TbV} (h : Rnd W w A l f q t d B s) (hb : Below w.heap.size w w') : Rnd W w' A l f q t d B s := ⟨h.gp.far hb, h.tb.below hb⟩
theorem Rnd.next {W w w' : World} {A : Option Addr} {l : List AcV} {f q t : Int} {d : ByteArray} {B : Nat} {s s' : TbV} (h : Rnd W w A l f q t d B s) (h1 : OneT (· ≤ W.heap.size) w' B s') (h2 : Fb (· ≤ W.heap.size) w w') : Rnd W w' A l f q t d B s' := ⟨h.gp.fb h2, h1⟩
/-- what is kept beside a table: acts, packet, the list that was told -/
structure Kp (W w : World) (V : Nat → Prop) (A : Option Addr) (l : List AcV) (f q t : Int) (d : ByteArray) (Aw : Option Addr) (ws : List NtV) : Prop where
  gp : Gp W w A l f q t d
  vw : ∀ k, k ≤ W.heap.size → V k
  frw : FrW V w
  was : EnAt NtV.ic w Aw ws
  wv : ∀ b off, Aw = some ⟨b, off, none⟩ → V b
section
variable {W w w' : World} {V : Nat → Prop} {A : Option Addr} {l : List AcV} {f q t : Int} {d : ByteArray} {Aw : Option Addr} {ws : List NtV} {B : Nat} {s : TbV}
theorem Kp.far (h : Kp W w V A l f q t d Aw ws) (hb : Below w.heap.size w w') : Kp W w' V A l f q t d Aw ws := ⟨h.gp.far hb, h.vw, h.frw.later hb.size, h.was.below hb, h.wv⟩
theorem Kp.fb (h : Kp W w V A l f q t d Aw ws) (hb : Fb V w w') : Kp W w' V A l f q t d Aw ws := ⟨h.gp.fb (hb.mono (fun k _ hk h2 => hk (h.vw k h2))), h.vw, h.frw.later hb.sz, h.was.keeps hb (fun g o e h2 => h2 (h.wv g o e)), h.wv⟩
/-- more blocks are watched -/
def Wid (V : Nat → Prop) (w w' : World) : Nat → Prop := fun k => V k ∨ (w.heap.size ≤ k ∧ k < w'.heap.size)
theorem Kp.wide (h : Kp W w V A l f q t d Aw ws) (hb : Below w.heap.size w w') : Kp W w' (Wid V w w') A l f q t d Aw ws :=
  ⟨h.gp.far hb, fun k hk => Or.inl (h.vw k hk), fun k hk => by
    rcases hk with hk | hk
    · exact h.frw.later hb.size k hk
    · exact hk.2, h.was.below hb, fun b o e => Or.inl (h.wv b o e)⟩
theorem one_wide (h : OneT V w B s) (hb : Below w.heap.size w w') : OneT (Wid V w w') w' B s := by
  obtain ⟨O, h1, h2⟩ := h
  refine ⟨O, h1.below hb, fun k hk => ⟨fun h3 => ?_, Nat.lt_of_lt_of_le (h2 k hk).2 hb.size⟩⟩
  rcases h3 with h3 | h3
  · exact (h2 k hk).1 h3
  · have := (h2 k hk).2; omega
end
abbrev Nt (k f q t : Int) (d : ByteArray) : Obj := .cells #[.int .i64 k, .int .i64 f, .int .u64 q, .int .u64 t, .string d] 40
set_option maxRecDepth 100000 in
set_option maxHeartbeats 4000000 in
theorem main (f q t : Int) (d : ByteArray) (tu ti : Bool) (A : Option Addr) (ca : Nat) (l : List AcV) (W : World) (h : GrT W W A l) (hyes : Yes l f q t d) (hfq : nmW (f, q)) (hw : NtV.wf ⟨0, f, q, t, d⟩) :
    Calls Try.prog 6 #[.slice A l.length ca, .agg #[.int .i64 f, .int .u64 q, .int .u64 t, .string d], .bool tu, .bool ti] W fun x w' => x = .returned (.bool true) ∧ Below W.heap.size W w' := by
  have HG := Lib.hid (And.intro h (And.intro hyes (And.intro hfq hw)))
  obtain ⟨w0, hw0⟩ : ∃ z, z = W.alloc (.cells #[.int .i64 f, .int .u64 q, .int .u64 t, .string d] 38) := ⟨_, rfl⟩
  have H0 : Hid (Gp W w0 A l f q t d) := Lib.hid (by
    have hb := Kq.below_alloc W (.cells #[.int .i64 f, .int .u64 q, .int .u64 t, .string d] 38)
    have hr := Kq.blk_new W #[.int .i64 f, .int .u64 q, .int .u64 t, .string d] 38 (0, 0)
    rw [← hw0] at hb hr
    exact ⟨h.far hb, hr⟩)
  have d1 : decide ((100 : Int) < (l.length : Int)) = false := decide_eq_false (by have := hyes.1; omega)
  have d1' : decide (100 < l.length) = false := decide_eq_false (by have := hyes.1; omega)
  have f1 := decide_eq_true hyes.2.1
  have HL : Hid (l.length ≤ 100) := Lib.hid hyes.1
  have hp := hyes.2.2
  unfold PkOk at hp
  simp only at hp
  have e1 : decide ((64 : Int) < (d.size : Int)) = false := decide_eq_false (by omega)
  have e1' : decide (64 < d.size) = false := decide_eq_false (by omega)
  have e2 : decide (f < 0) = false := decide_eq_false (by omega)
  have e3 : decide (1 < f) = false := decide_eq_false (by omega)
  have e4 : (q == 0) = false := beq_eq_false_iff_ne.2 hp.2.2.1
  have e5 : (t == 0) = false := beq_eq_false_iff_ne.2 hp.2.2.2.1
  clear h hyes hfq hw hp
  go_enter Try.func6, Try.ntmps6
  go_wp2_with fail
  rw [← hw0]
  clear hw0
  refine (awake15 w0).mono ?_
  rintro x w1 ⟨rfl, b1⟩
  have H1 := Lib.hid (H0.out.far b1)
  clear b1 H0
  go_wp2_with fail
  obtain ⟨N, hN⟩ : ∃ N, N = l.map AcV.n := ⟨_, rfl⟩
  have nn := notes15 A ca l w1 HL.out H1.out.g.at
  rw [← hN] at nn
  have HN := Lib.hid hN
  clear hN
  refine nn.mono ?_
  clear nn
  rintro x w2 ⟨A2, c2, rfl, hat, b2⟩
  have H2 : Hid (Gp W w2 A l f q t d ∧ EnAt NtV.nc w2 A2 N) := Lib.hid ⟨H1.out.far b2, hat⟩
  clear b2 H1 hat
  go_wp2_with fail
  refine (few15 N A2 c2 w2 H2.out.2).mono ?_
  rintro x w2 ⟨rfl, rfl⟩
  rw [show decide (FewN N) = true by rw [HN.out]; exact f1]
  have c0 := Kq.blk_cell H2.out.1.p 0
  have c1 := Kq.blk_cell H2.out.1.p 1
  have c2 := Kq.blk_cell H2.out.1.p 2
  have c3 := Kq.blk_cell H2.out.1.p 3
  clear f1
  go_wp2_with fail
  refine (tb_new 40 w2 (by decide) (by decide)).mono ?_
  rintro x w3 ⟨B, rfl, p3, b3⟩
  have H3 : Hid (Rnd W w3 A l f q t d B ⟨40, []⟩) := Lib.hid ⟨H2.out.1.far b3, ⟨_, p3, fun k hk => ⟨fun h => (by have := H2.out.1.frw k h; omega), hk.2⟩⟩⟩
  clear p3 b3 H2 c0 c1 c2 c3 d1 d1' e1 e1' e2 e3 e4 e5
  go_wp2
  go_loopw [11] (fun i wr => ∃ j : Nat, j ≤ l.length ∧ i = .int .i64 (j : Int) ∧ Rnd W wr A l f q t d B (actsT ⟨40, []⟩ (l.take j))) (fun i _ => l.length - (intOf i).toNat)
  case atStart => exact ⟨0, by omega, rfl, H3.out⟩
  case round =>
    obtain ⟨j, hj, rfl, hr⟩ := hrel
    have HR := Lib.hid hr
    have h60 := HL.out
    clear hr H3
    by_cases hlt : j < l.length
    · obtain ⟨b, off, rfl, hc⟩ := HR.out.gp.g.act j hlt
      obtain ⟨a, ha⟩ : ∃ a, a = l[j] := ⟨_, rfl⟩
      rw [← ha] at hc
      have HS := Lib.hid (actsT_take ⟨40, []⟩ l j hlt)
      rw [← ha] at HS
      have HWF : Hid a.wf := Lib.hid (by rw [ha]; exact HG.out.1.wf _ (List.getElem_mem hlt))
      have hi0 : (j : Int) < (l.length : Int) := by omega
      have t1 : decide ((j : Int) < (l.length : Int)) = true := decide_eq_true hi0
      have t2 : decide (j < l.length) = true := decide_eq_true hlt
      have HLT := Lib.hid hlt
      have hj6 : j ≤ 100 := by omega
      have hcc := hc _ HR.out.gp.g
      clear hlt ha hc hj h60
      obtain ⟨s, hs⟩ : ∃ s, s = actsT ⟨40, []⟩ (l.take j) := ⟨_, rfl⟩
      have HK : Hid (TbOk s) := Lib.hid (by rw [hs]; exact actsT_ok _ _ (newT_ok 40 (by decide) (by decide)) (fun a h => HG.out.1.wf a (List.mem_of_mem_take h)))
      rw [← hs] at HS HR
      clear hs
      unfold ActC at hcc
      obtain ⟨q0, q1, q2, q3, q4, q5⟩ := hcc
      go_wp2_with fail
      refine (ot_do HR.out.tb HR.out.gp.frw HK.out a HWF.out).mono ?_
      rintro x w5 ⟨p5, rfl, b5⟩
      have H5 : Hid (Rnd W w5 (some ⟨b, off, none⟩) l f q t d B (actsT ⟨40, []⟩ (l.take (j + 1)))) := Lib.hid (by rw [HS.out]; exact HR.out.next p5 b5)
      clear p5 b5 q0 q1 q2 q3 q4 q5 HR
      go_wp2
      go_roundw
      case rel => exact ⟨j + 1, HLT.out, by go_num, H5.out⟩
      case measure => have := HLT.out; simp [intOf]; omega
    · obtain rfl : j = l.length := by omega
      have d0 : decide ((l.length : Int) < (l.length : Int)) = false := decide_eq_false (by omega)
      clear hlt hj h60
      obtain ⟨s, hs⟩ : ∃ s, s = actsT ⟨40, []⟩ (l.take l.length) := ⟨_, rfl⟩
      have HK : Hid (TbOk s ∧ s.room = 40) := Lib.hid (by rw [hs]; exact ⟨actsT_ok _ _ (newT_ok 40 (by decide) (by decide)) (fun a h => HG.out.1.wf a (List.mem_of_mem_take h)), actsT_room _ _⟩)
      rw [← hs] at HR
      clear hs
      have c0 := Kq.blk_cell HR.out.gp.p 0
      have c1 := Kq.blk_cell HR.out.gp.p 1
      go_wp2_with fail
      refine (ot_drop HR.out.tb HR.out.gp.frw HK.out.1 f q HG.out.2.2.1).mono ?_
      rintro x w5 ⟨p5, rfl, b5⟩
      have H5 := Lib.hid (HR.out.next p5 b5)
      have HD : Hid (TbOk (drpV s f q).1 ∧ (drpV s f q).1.room = 40 ∧ tbR.look (drpV s f q).1.l (f, q) = none) := Lib.hid ⟨drpV_ok HK.out.1 f q, (drpV_room s f q).trans HK.out.2, drp_none HK.out.1 f q⟩
      clear p5 b5 HR c0 c1
      obtain ⟨e, he⟩ : ∃ e, e = (drpV s f q).2 := ⟨_, rfl⟩
      rw [← he]
      clear he
      obtain ⟨s1, hs1⟩ : ∃ s1, s1 = (drpV s f q).1 := ⟨_, rfl⟩
      rw [← hs1] at H5 HD
      clear hs1 HK
      go_wp2_with fail
      refine (ot_items H5.out.tb HD.out.1).mono ?_
      rintro x w6 ⟨v, rfl, ⟨A6, c6, rfl, -, hat6, hnew⟩, b6⟩
      obtain ⟨n, hn⟩ : ∃ n, n = s1.l.length := ⟨_, rfl⟩
      have HN1 : Hid (n = s1.l.length ∧ n ≤ 40) := Lib.hid ⟨hn, by have := HD.out.1.len; have := HD.out.2.1; omega⟩
      have H6 : Hid (Gp W w6 A l f q t d ∧ EnAt NtV.ic w6 A6 s1.l ∧ (∀ b off, A6 = some ⟨b, off, none⟩ → w5.heap.size ≤ b ∧ b < w6.heap.size) ∧ Below w5.heap.size w5 w6) := Lib.hid ⟨H5.out.gp.far b6, hat6, hnew, b6⟩
      rw [← hn]
      have h40 := HN1.out.2
      clear hn hat6 hnew b6
      by_cases h4 : n = 40
      · have t1 : ((n : Int) == 40) = true := by rw [h4]; rfl
        have t2 : (n == 40) = true := by rw [h4]; rfl
        clear h4 h40
        go_wp2
        go_ret
        exact ⟨rfl, H6.out.1.g.bel⟩
      have t1 : ((n : Int) == 40) = false := beq_eq_false_iff_ne.2 (by omega)
      have t2 : (n == 40) = false := beq_eq_false_iff_ne.2 h4
      have HROOM : Hid (s1.l.length < s1.room) := Lib.hid (by have := HN1.out; have := HD.out.2.1; omega)
      have c0 := Kq.blk_cell H6.out.1.p 0
      have c1 := Kq.blk_cell H6.out.1.p 1
      have c2 := Kq.blk_cell H6.out.1.p 2
      have c3 := Kq.blk_cell H6.out.1.p 3
      have hb7 := Kq.below_alloc w6 (.cells #[.int .i64 1, .int .i64 f, .int .u64 q, .int .u64 t, .string d] 40)
      have H7 : Hid (Gp W (w6.alloc (.cells #[.int .i64 1, .int .i64 f, .int .u64 q, .int .u64 t, .string d] 40)) A l f q t d) := Lib.hid (H6.out.1.far hb7)
      have z0 := Kq.blk_cell H7.out.p 0
      have z1 := Kq.blk_cell H7.out.p 1
      have z2 := Kq.blk_cell H7.out.p 2
      have z3 := Kq.blk_cell H7.out.p 3
      clear hb7 h40 h4
      cases tu with
      | false =>
        go_wp2_with fail
        obtain ⟨X, hX⟩ : ∃ X, X = w6.heap.size := ⟨_, rfl⟩
        obtain ⟨Y, hY⟩ : ∃ Y, Y = w6.heap.size + 1 := ⟨_, rfl⟩
        have H8 : Hid (∃ V : Nat → Prop, Kp W ((w6.alloc (Nt 1 f q t d)).alloc (Nt 2 f q t d)) V A l f q t d A6 s1.l ∧ OneT V ((w6.alloc (Nt 1 f q t d)).alloc (Nt 2 f q t d)) B s1 ∧ ((w6.alloc (Nt 1 f q t d)).alloc (Nt 2 f q t d)).heap[Y]? = some (.cells #[.int .i64 2, .int .i64 f, .int .u64 q, .int .u64 t, .string d] 40 (0, 0)) ∧ V Y) := Lib.hid (by
          have hb : Below w6.heap.size w6 ((w6.alloc (Nt 1 f q t d)).alloc (Nt 2 f q t d)) := (Kq.below_alloc w6 _).trans ((Kq.below_alloc _ _).mono (Kq.below_alloc w6 _).size)
          have hr := Kq.blk_new (w6.alloc (Nt 1 f q t d)) #[.int .i64 2, .int .i64 f, .int .u64 q, .int .u64 t, .string d] 40 (0, 0)
          rw [World.size_alloc, ← hY] at hr
          have h56 := H6.out.2.2.2
          have hsz := h56.size
          have hfull : Below w5.heap.size w5 ((w6.alloc (Nt 1 f q t d)).alloc (Nt 2 f q t d)) := h56.trans (hb.mono hsz)
          refine ⟨Wid (· ≤ W.heap.size) w5 _, ⟨H6.out.1.far hb, fun k hk => Or.inl hk, fun k hk => ?_, H6.out.2.1.below hb, fun b o e => Or.inr ⟨(H6.out.2.2.1 b o e).1, Nat.lt_of_lt_of_le (H6.out.2.2.1 b o e).2 hb.size⟩⟩, one_wide H5.out.tb hfull, hr, Or.inr ⟨by omega, Kq.blk_lt hr⟩⟩
          rcases hk with hk | hk
          · have := (H6.out.1.far hb).frw k hk; exact this
          · exact hk.2)
        obtain ⟨V, h8⟩ := H8.out
        replace H8 := Lib.hid h8
        clear h8
        rw [← hY]
        obtain ⟨w8, hw8⟩ : ∃ z, z = (w6.alloc (Nt 1 f q t d)).alloc (Nt 2 f q t d) := ⟨_, rfl⟩
        rw [← hw8] at H8
        rw [show (w6.alloc (.cells #[.int .i64 1, .int .i64 f, .int .u64 q, .int .u64 t, .string d] 40)).alloc (.cells #[.int .i64 2, .int .i64 f, .int .u64 q, .int .u64 t, .string d] 40) = w8 from hw8.symm]
        clear hw8 hX hY X H6 H7 H5 c0 c1 c2 c3 z0 z1 z2 z3
        have HLV := Lib.hid (live_12 HD.out.1 (p := ⟨0, f, q, t, d⟩) HG.out.2.1.2.2 HG.out.2.2.2 HD.out.2.2 HROOM.out)
        refine (ot_apply H8.out.2.1 H8.out.1.frw HD.out.1 ((⟨0, f, q, t, d⟩ : NtV).as 1) HG.out.2.2.2).mono ?_
        rintro x w9 ⟨p9, rfl, b9⟩
        rw [HLV.out.1]
        have H9 : Hid (Kp W w9 V A l f q t d A6 s1.l ∧ OneT V w9 B (appV s1 ((⟨0, f, q, t, d⟩ : NtV).as 1)).1 ∧ w9.heap[Y]? = some (.cells #[.int .i64 2, .int .i64 f, .int .u64 q, .int .u64 t, .string d] 40 (0, 0))) := Lib.hid ⟨H8.out.1.fb b9, p9, b9.blk H8.out.2.2.1 (fun h => h H8.out.2.2.2)⟩
        clear p9 b9 H8
        have y0 := Kq.blk_cell H9.out.2.2 0
        have y1 := Kq.blk_cell H9.out.2.2 1
        have y2 := Kq.blk_cell H9.out.2.2 2
        have y3 := Kq.blk_cell H9.out.2.2 3
        have y4 := Kq.blk_cell H9.out.2.2 4
        go_wp2_with fail
        refine (ot_apply H9.out.2.1 H9.out.1.frw HLV.out.2.2.1 ((⟨0, f, q, t, d⟩ : NtV).as 2) HG.out.2.2.2).mono ?_
        rintro x w10 ⟨p10, rfl, b10⟩
        rw [HLV.out.2.1]
        have H10 : Hid (Kp W w10 V A l f q t d A6 s1.l ∧ OneT V w10 B (appV (appV s1 ((⟨0, f, q, t, d⟩ : NtV).as 1)).1 ((⟨0, f, q, t, d⟩ : NtV).as 2)).1) := Lib.hid ⟨H9.out.1.fb b10, p10⟩
        clear p10 b10 H9 y0 y1 y2 y3 y4
        replace HLV := Lib.hid HLV.out.2.2.2
        obtain ⟨s3, hs3⟩ : ∃ s3, s3 = (appV (appV s1 ((⟨0, f, q, t, d⟩ : NtV).as 1)).1 ((⟨0, f, q, t, d⟩ : NtV).as 2)).1 := ⟨_, rfl⟩
        rw [← hs3] at H10 HLV
        clear hs3
        replace HLV : Hid (tbR.look s3.l (f, q) = some ⟨2, f, q, t, d⟩ ∧ Live s1 s3 ⟨0, f, q, t, d⟩) := Lib.hid ⟨HLV.out.at_, HLV.out⟩
        have c0 := Kq.blk_cell H10.out.1.gp.p 0
        have c1 := Kq.blk_cell H10.out.1.gp.p 1
        go_wp2_with fail
        refine (ot_get H10.out.2 f q HG.out.2.2.1).mono ?_
        rintro x w11 ⟨rfl, b11⟩
        rw [HLV.out.1]
        have H11 : Hid (Kp W w11 V A l f q t d A6 s1.l ∧ OneT V w11 B s3) := Lib.hid ⟨H10.out.1.far b11, H10.out.2.below b11⟩
        clear b11 H10 c0 c1
        simp only [Option.getD_some, Option.isSome_some, itV]
        have hb12 := Kq.below_alloc w11 (.cells #[.int .i64 f, .int .u64 q, .int .u64 t, .string d, .int .i64 2] 48)
        have H12 : Hid (Kp W (w11.alloc (.cells #[.int .i64 f, .int .u64 q, .int .u64 t, .string d, .int .i64 2] 48)) V A l f q t d A6 s1.l ∧ OneT V (w11.alloc (.cells #[.int .i64 f, .int .u64 q, .int .u64 t, .string d, .int .i64 2] 48)) B s3) := Lib.hid ⟨H11.out.1.far hb12, H11.out.2.below hb12⟩
        have z0 := Kq.blk_cell H12.out.1.gp.p 0
        have z1 := Kq.blk_cell H12.out.1.gp.p 1
        have z2 := Kq.blk_cell H12.out.1.gp.p 2
        have z3 := Kq.blk_cell H12.out.1.gp.p 3
        have nq := fun w => it_neq 2 f q t d w
        clear hb12
        obtain ⟨n2, hn2⟩ : ∃ n2, n2 = n + 1 := ⟨_, rfl⟩
        have HN2 : Hid (s3.l.length = n2) := Lib.hid (by rw [HLV.out.2.len, hn2, HN1.out.1])
        have hwr : IntKind.i64.wrap ((n : Int) + 1) = (n2 : Int) := by rw [IntWalk.i64_in _ (by have := HN1.out.2; omega)]; omega
        have e6 : ((n2 : Int) != (n2 : Int)) = false := by simp
        have e6' : (n2 != n2) = false := by simp
        clear hn2
        go_wp2_with fail
        refine (ot_len H12.out.2).mono ?_
        rintro x w12 ⟨rfl, rfl⟩
        rw [HN2.out]
        clear H12
        cases ti with
        | false =>
          go_wp2_with fail
          obtain ⟨E, hE⟩ : ∃ E, E = w11.heap.size + 1 := ⟨_, rfl⟩
          have H13 : Hid (∃ V2 : Nat → Prop, Kp W ((w11.alloc (.cells #[.int .i64 f, .int .u64 q, .int .u64 t, .string d, .int .i64 2] 48)).alloc (Nt 3 f q t d)) V2 A l f q t d A6 s1.l ∧ OneT V2 ((w11.alloc (.cells #[.int .i64 f, .int .u64 q, .int .u64 t, .string d, .int .i64 2] 48)).alloc (Nt 3 f q t d)) B s3 ∧ ((w11.alloc (.cells #[.int .i64 f, .int .u64 q, .int .u64 t, .string d, .int .i64 2] 48)).alloc (Nt 3 f q t d)).heap[E]? = some (.cells #[.int .i64 3, .int .i64 f, .int .u64 q, .int .u64 t, .string d] 40 (0, 0)) ∧ V2 E) := Lib.hid (by
            have hb : Below w11.heap.size w11 ((w11.alloc (.cells #[.int .i64 f, .int .u64 q, .int .u64 t, .string d, .int .i64 2] 48)).alloc (Nt 3 f q t d)) := (Kq.below_alloc w11 _).trans ((Kq.below_alloc _ _).mono (Kq.below_alloc w11 _).size)
            have hr := Kq.blk_new (w11.alloc (.cells #[.int .i64 f, .int .u64 q, .int .u64 t, .string d, .int .i64 2] 48)) #[.int .i64 3, .int .i64 f, .int .u64 q, .int .u64 t, .string d] 40 (0, 0)
            rw [World.size_alloc, ← hE] at hr
            exact ⟨Wid V w11 _, H11.out.1.wide hb, one_wide H11.out.2 hb, hr, Or.inr ⟨by omega, Kq.blk_lt hr⟩⟩)
          obtain ⟨V2, h13⟩ := H13.out
          replace H13 := Lib.hid h13
          clear h13
          rw [← hE]
          obtain ⟨w13, hw13⟩ : ∃ z, z = (w11.alloc (.cells #[.int .i64 f, .int .u64 q, .int .u64 t, .string d, .int .i64 2] 48)).alloc (Nt 3 f q t d) := ⟨_, rfl⟩
          rw [← hw13] at H13
          rw [show (w11.alloc (.cells #[.int .i64 f, .int .u64 q, .int .u64 t, .string d, .int .i64 2] 48)).alloc (.cells #[.int .i64 3, .int .i64 f, .int .u64 q, .int .u64 t, .string d] 40) = w13 from hw13.symm]
          clear hw13 hE z0 z1 z2 z3 H11
          refine (ot_apply H13.out.2.1 H13.out.1.frw HLV.out.2.ok ((⟨0, f, q, t, d⟩ : NtV).as 3) HG.out.2.2.2).mono ?_
          rintro x w14 ⟨p14, rfl, b14⟩
          rw [HLV.out.2.out 3 (by decide)] at p14
          rw [HLV.out.2.out 3 (by decide)]
          have H14 : Hid (Kp W w14 V2 A l f q t d A6 s1.l ∧ OneT V2 w14 B s1 ∧ w14.heap[E]? = some (.cells #[.int .i64 3, .int .i64 f, .int .u64 q, .int .u64 t, .string d] 40 (0, 0))) := Lib.hid ⟨H13.out.1.fb b14, p14, b14.blk H13.out.2.2.1 (fun h => h H13.out.2.2.2)⟩
          clear p14 b14 H13
          have y0 := Kq.blk_cell H14.out.2.2 0
          have y1 := Kq.blk_cell H14.out.2.2 1
          have y2 := Kq.blk_cell H14.out.2.2 2
          have y3 := Kq.blk_cell H14.out.2.2 3
          have y4 := Kq.blk_cell H14.out.2.2 4
          go_wp2_with fail
          refine (ot_apply H14.out.2.1 H14.out.1.frw HD.out.1 ((⟨0, f, q, t, d⟩ : NtV).as 3) HG.out.2.2.2).mono ?_
          rintro x w15 ⟨p15, rfl, b15⟩
          have HO := Lib.hid (out_gone (s := s1) (p := ⟨0, f, q, t, d⟩) HG.out.2.1.2.2 HD.out.2.2 3 (by decide))
          rw [HO.out] at p15
          rw [HO.out]
          have H15 : Hid (Kp W w15 V2 A l f q t d A6 s1.l ∧ OneT V2 w15 B s1) := Lib.hid ⟨H14.out.1.fb b15, p15⟩
          clear p15 b15 H14 y0 y1 y2 y3 y4
          go_wp2_with fail
          refine (ot_items H15.out.2 HD.out.1).mono ?_
          rintro x w16 ⟨v, rfl, ⟨A16, c16, rfl, -, hat16, -⟩, b16⟩
          have H16 : Hid (Kp W w16 V2 A l f q t d A6 s1.l ∧ EnAt NtV.ic w16 A16 s1.l) := Lib.hid ⟨H15.out.1.far b16, hat16⟩
          clear b16 hat16 H15
          rw [← HN1.out.1]
          go_wp2_with fail
          have ss := same_items A16 A6 c16 c6 s1.l w16 H16.out.2 H16.out.1.was (by have := HN1.out; omega)
          rw [← HN1.out.1] at ss
          refine ss.mono ?_
          clear ss
          rintro x w17 ⟨rfl, b17⟩
          have H17 := Lib.hid ((H16.out.1.far b17).gp.g.bel)
          clear b17 H16
          go_wp2
          go_ret
          exact ⟨by simp, H17.out⟩
        | true =>
          go_wp2_with fail
          obtain ⟨E, hE⟩ : ∃ E, E = w11.heap.size + 1 := ⟨_, rfl⟩
          have H13 : Hid (∃ V2 : Nat → Prop, Kp W ((w11.alloc (.cells #[.int .i64 f, .int .u64 q, .int .u64 t, .string d, .int .i64 2] 48)).alloc (Nt 4 f q t d)) V2 A l f q t d A6 s1.l ∧ OneT V2 ((w11.alloc (.cells #[.int .i64 f, .int .u64 q, .int .u64 t, .string d, .int .i64 2] 48)).alloc (Nt 4 f q t d)) B s3 ∧ ((w11.alloc (.cells #[.int .i64 f, .int .u64 q, .int .u64 t, .string d, .int .i64 2] 48)).alloc (Nt 4 f q t d)).heap[E]? = some (.cells #[.int .i64 4, .int .i64 f, .int .u64 q, .int .u64 t, .string d] 40 (0, 0)) ∧ V2 E) := Lib.hid (by
            have hb : Below w11.heap.size w11 ((w11.alloc (.cells #[.int .i64 f, .int .u64 q, .int .u64 t, .string d, .int .i64 2] 48)).alloc (Nt 4 f q t d)) := (Kq.below_alloc w11 _).trans ((Kq.below_alloc _ _).mono (Kq.below_alloc w11 _).size)
            have hr := Kq.blk_new (w11.alloc (.cells #[.int .i64 f, .int .u64 q, .int .u64 t, .string d, .int .i64 2] 48)) #[.int .i64 4, .int .i64 f, .int .u64 q, .int .u64 t, .string d] 40 (0, 0)
            rw [World.size_alloc, ← hE] at hr
            exact ⟨Wid V w11 _, H11.out.1.wide hb, one_wide H11.out.2 hb, hr, Or.inr ⟨by omega, Kq.blk_lt hr⟩⟩)
          obtain ⟨V2, h13⟩ := H13.out
          replace H13 := Lib.hid h13
          clear h13
          rw [← hE]
          obtain ⟨w13, hw13⟩ : ∃ z, z = (w11.alloc (.cells #[.int .i64 f, .int .u64 q, .int .u64 t, .string d, .int .i64 2] 48)).alloc (Nt 4 f q t d) := ⟨_, rfl⟩
          rw [← hw13] at H13
          rw [show (w11.alloc (.cells #[.int .i64 f, .int .u64 q, .int .u64 t, .string d, .int .i64 2] 48)).alloc (.cells #[.int .i64 4, .int .i64 f, .int .u64 q, .int .u64 t, .string d] 40) = w13 from hw13.symm]
          clear hw13 hE z0 z1 z2 z3 H11
          refine (ot_apply H13.out.2.1 H13.out.1.frw HLV.out.2.ok ((⟨0, f, q, t, d⟩ : NtV).as 4) HG.out.2.2.2).mono ?_
          rintro x w14 ⟨p14, rfl, b14⟩
          rw [HLV.out.2.out 4 (by decide)] at p14
          rw [HLV.out.2.out 4 (by decide)]
          have H14 : Hid (Kp W w14 V2 A l f q t d A6 s1.l ∧ OneT V2 w14 B s1 ∧ w14.heap[E]? = some (.cells #[.int .i64 4, .int .i64 f, .int .u64 q, .int .u64 t, .string d] 40 (0, 0))) := Lib.hid ⟨H13.out.1.fb b14, p14, b14.blk H13.out.2.2.1 (fun h => h H13.out.2.2.2)⟩
          clear p14 b14 H13
          have y0 := Kq.blk_cell H14.out.2.2 0
          have y1 := Kq.blk_cell H14.out.2.2 1
          have y2 := Kq.blk_cell H14.out.2.2 2
          have y3 := Kq.blk_cell H14.out.2.2 3
          have y4 := Kq.blk_cell H14.out.2.2 4
          go_wp2_with fail
          refine (ot_apply H14.out.2.1 H14.out.1.frw HD.out.1 ((⟨0, f, q, t, d⟩ : NtV).as 4) HG.out.2.2.2).mono ?_
          rintro x w15 ⟨p15, rfl, b15⟩
          have HO := Lib.hid (out_gone (s := s1) (p := ⟨0, f, q, t, d⟩) HG.out.2.1.2.2 HD.out.2.2 4 (by decide))
          rw [HO.out] at p15
          rw [HO.out]
          have H15 : Hid (Kp W w15 V2 A l f q t d A6 s1.l ∧ OneT V2 w15 B s1) := Lib.hid ⟨H14.out.1.fb b15, p15⟩
          clear p15 b15 H14 y0 y1 y2 y3 y4
          go_wp2_with fail
          refine (ot_items H15.out.2 HD.out.1).mono ?_
          rintro x w16 ⟨v, rfl, ⟨A16, c16, rfl, -, hat16, -⟩, b16⟩
          have H16 : Hid (Kp W w16 V2 A l f q t d A6 s1.l ∧ EnAt NtV.ic w16 A16 s1.l) := Lib.hid ⟨H15.out.1.far b16, hat16⟩
          clear b16 hat16 H15
          rw [← HN1.out.1]
          go_wp2_with fail
          have ss := same_items A16 A6 c16 c6 s1.l w16 H16.out.2 H16.out.1.was (by have := HN1.out; omega)
          rw [← HN1.out.1] at ss
          refine ss.mono ?_
          clear ss
          rintro x w17 ⟨rfl, b17⟩
          have H17 := Lib.hid ((H16.out.1.far b17).gp.g.bel)
          clear b17 H16
          go_wp2
          go_ret
          exact ⟨by simp, H17.out⟩
      | true =>
        go_wp2_with fail
        obtain ⟨X, hX⟩ : ∃ X, X = w6.heap.size := ⟨_, rfl⟩
        obtain ⟨Y, hY⟩ : ∃ Y, Y = w6.heap.size + 1 := ⟨_, rfl⟩
        have H8 : Hid (∃ V : Nat → Prop, Kp W ((w6.alloc (Nt 2 f q t d)).alloc (Nt 1 f q t d)) V A l f q t d A6 s1.l ∧ OneT V ((w6.alloc (Nt 2 f q t d)).alloc (Nt 1 f q t d)) B s1 ∧ ((w6.alloc (Nt 2 f q t d)).alloc (Nt 1 f q t d)).heap[Y]? = some (.cells #[.int .i64 1, .int .i64 f, .int .u64 q, .int .u64 t, .string d] 40 (0, 0)) ∧ V Y) := Lib.hid (by
          have hb : Below w6.heap.size w6 ((w6.alloc (Nt 2 f q t d)).alloc (Nt 1 f q t d)) := (Kq.below_alloc w6 _).trans ((Kq.below_alloc _ _).mono (Kq.below_alloc w6 _).size)
          have hr := Kq.blk_new (w6.alloc (Nt 2 f q t d)) #[.int .i64 1, .int .i64 f, .int .u64 q, .int .u64 t, .string d] 40 (0, 0)
          rw [World.size_alloc, ← hY] at hr
          have h56 := H6.out.2.2.2
          have hsz := h56.size
          have hfull : Below w5.heap.size w5 ((w6.alloc (Nt 2 f q t d)).alloc (Nt 1 f q t d)) := h56.trans (hb.mono hsz)
          refine ⟨Wid (· ≤ W.heap.size) w5 _, ⟨H6.out.1.far hb, fun k hk => Or.inl hk, fun k hk => ?_, H6.out.2.1.below hb, fun b o e => Or.inr ⟨(H6.out.2.2.1 b o e).1, Nat.lt_of_lt_of_le (H6.out.2.2.1 b o e).2 hb.size⟩⟩, one_wide H5.out.tb hfull, hr, Or.inr ⟨by omega, Kq.blk_lt hr⟩⟩
          rcases hk with hk | hk
          · have := (H6.out.1.far hb).frw k hk; exact this
          · exact hk.2)
        obtain ⟨V, h8⟩ := H8.out
        replace H8 := Lib.hid h8
        clear h8
        rw [← hY]
        obtain ⟨w8, hw8⟩ : ∃ z, z = (w6.alloc (Nt 2 f q t d)).alloc (Nt 1 f q t d) := ⟨_, rfl⟩
        rw [← hw8] at H8
        rw [show (w6.alloc (.cells #[.int .i64 2, .int .i64 f, .int .u64 q, .int .u64 t, .string d] 40)).alloc (.cells #[.int .i64 1, .int .i64 f, .int .u64 q, .int .u64 t, .string d] 40) = w8 from hw8.symm]
        clear hw8 hX hY X H6 H7 H5 c0 c1 c2 c3 z0 z1 z2 z3
        have HLV := Lib.hid (live_21 HD.out.1 (p := ⟨0, f, q, t, d⟩) HG.out.2.1.2.2 HG.out.2.2.2 HD.out.2.2 HROOM.out)
        refine (ot_apply H8.out.2.1 H8.out.1.frw HD.out.1 ((⟨0, f, q, t, d⟩ : NtV).as 2) HG.out.2.2.2).mono ?_
        rintro x w9 ⟨p9, rfl, b9⟩
        rw [HLV.out.1]
        have H9 : Hid (Kp W w9 V A l f q t d A6 s1.l ∧ OneT V w9 B (appV s1 ((⟨0, f, q, t, d⟩ : NtV).as 2)).1 ∧ w9.heap[Y]? = some (.cells #[.int .i64 1, .int .i64 f, .int .u64 q, .int .u64 t, .string d] 40 (0, 0))) := Lib.hid ⟨H8.out.1.fb b9, p9, b9.blk H8.out.2.2.1 (fun h => h H8.out.2.2.2)⟩
        clear p9 b9 H8
        have y0 := Kq.blk_cell H9.out.2.2 0
        have y1 := Kq.blk_cell H9.out.2.2 1
        have y2 := Kq.blk_cell H9.out.2.2 2
        have y3 := Kq.blk_cell H9.out.2.2 3
        have y4 := Kq.blk_cell H9.out.2.2 4
        go_wp2_with fail
        refine (ot_apply H9.out.2.1 H9.out.1.frw HLV.out.2.2.1 ((⟨0, f, q, t, d⟩ : NtV).as 1) HG.out.2.2.2).mono ?_
        rintro x w10 ⟨p10, rfl, b10⟩
        rw [HLV.out.2.1]
        have H10 : Hid (Kp W w10 V A l f q t d A6 s1.l ∧ OneT V w10 B (appV (appV s1 ((⟨0, f, q, t, d⟩ : NtV).as 2)).1 ((⟨0, f, q, t, d⟩ : NtV).as 1)).1) := Lib.hid ⟨H9.out.1.fb b10, p10⟩
        clear p10 b10 H9 y0 y1 y2 y3 y4
        replace HLV := Lib.hid HLV.out.2.2.2
        obtain ⟨s3, hs3⟩ : ∃ s3, s3 = (appV (appV s1 ((⟨0, f, q, t, d⟩ : NtV).as 2)).1 ((⟨0, f, q, t, d⟩ : NtV).as 1)).1 := ⟨_, rfl⟩
        rw [← hs3] at H10 HLV
        clear hs3
        replace HLV : Hid (tbR.look s3.l (f, q) = some ⟨2, f, q, t, d⟩ ∧ Live s1 s3 ⟨0, f, q, t, d⟩) := Lib.hid ⟨HLV.out.at_, HLV.out⟩
        have c0 := Kq.blk_cell H10.out.1.gp.p 0
        have c1 := Kq.blk_cell H10.out.1.gp.p 1
        go_wp2_with fail
        refine (ot_get H10.out.2 f q HG.out.2.2.1).mono ?_
        rintro x w11 ⟨rfl, b11⟩
        rw [HLV.out.1]
        have H11 : Hid (Kp W w11 V A l f q t d A6 s1.l ∧ OneT V w11 B s3) := Lib.hid ⟨H10.out.1.far b11, H10.out.2.below b11⟩
        clear b11 H10 c0 c1
        simp only [Option.getD_some, Option.isSome_some, itV]
        have hb12 := Kq.below_alloc w11 (.cells #[.int .i64 f, .int .u64 q, .int .u64 t, .string d, .int .i64 2] 48)
        have H12 : Hid (Kp W (w11.alloc (.cells #[.int .i64 f, .int .u64 q, .int .u64 t, .string d, .int .i64 2] 48)) V A l f q t d A6 s1.l ∧ OneT V (w11.alloc (.cells #[.int .i64 f, .int .u64 q, .int .u64 t, .string d, .int .i64 2] 48)) B s3) := Lib.hid ⟨H11.out.1.far hb12, H11.out.2.below hb12⟩
        have z0 := Kq.blk_cell H12.out.1.gp.p 0
        have z1 := Kq.blk_cell H12.out.1.gp.p 1
        have z2 := Kq.blk_cell H12.out.1.gp.p 2
        have z3 := Kq.blk_cell H12.out.1.gp.p 3
        have nq := fun w => it_neq 2 f q t d w
        clear hb12
        obtain ⟨n2, hn2⟩ : ∃ n2, n2 = n + 1 := ⟨_, rfl⟩
        have HN2 : Hid (s3.l.length = n2) := Lib.hid (by rw [HLV.out.2.len, hn2, HN1.out.1])
        have hwr : IntKind.i64.wrap ((n : Int) + 1) = (n2 : Int) := by rw [IntWalk.i64_in _ (by have := HN1.out.2; omega)]; omega
        have e6 : ((n2 : Int) != (n2 : Int)) = false := by simp
        have e6' : (n2 != n2) = false := by simp
        clear hn2
        go_wp2_with fail
        refine (ot_len H12.out.2).mono ?_
        rintro x w12 ⟨rfl, rfl⟩
        rw [HN2.out]
        clear H12
        cases ti with
        | false =>
          go_wp2_with fail
          obtain ⟨E, hE⟩ : ∃ E, E = w11.heap.size + 1 := ⟨_, rfl⟩
          have H13 : Hid (∃ V2 : Nat → Prop, Kp W ((w11.alloc (.cells #[.int .i64 f, .int .u64 q, .int .u64 t, .string d, .int .i64 2] 48)).alloc (Nt 3 f q t d)) V2 A l f q t d A6 s1.l ∧ OneT V2 ((w11.alloc (.cells #[.int .i64 f, .int .u64 q, .int .u64 t, .string d, .int .i64 2] 48)).alloc (Nt 3 f q t d)) B s3 ∧ ((w11.alloc (.cells #[.int .i64 f, .int .u64 q, .int .u64 t, .string d, .int .i64 2] 48)).alloc (Nt 3 f q t d)).heap[E]? = some (.cells #[.int .i64 3, .int .i64 f, .int .u64 q, .int .u64 t, .string d] 40 (0, 0)) ∧ V2 E) := Lib.hid (by
            have hb : Below w11.heap.size w11 ((w11.alloc (.cells #[.int .i64 f, .int .u64 q, .int .u64 t, .string d, .int .i64 2] 48)).alloc (Nt 3 f q t d)) := (Kq.below_alloc w11 _).trans ((Kq.below_alloc _ _).mono (Kq.below_alloc w11 _).size)
            have hr := Kq.blk_new (w11.alloc (.cells #[.int .i64 f, .int .u64 q, .int .u64 t, .string d, .int .i64 2] 48)) #[.int .i64 3, .int .i64 f, .int .u64 q, .int .u64 t, .string d] 40 (0, 0)
            rw [World.size_alloc, ← hE] at hr
            exact ⟨Wid V w11 _, H11.out.1.wide hb, one_wide H11.out.2 hb, hr, Or.inr ⟨by omega, Kq.blk_lt hr⟩⟩)
          obtain ⟨V2, h13⟩ := H13.out
          replace H13 := Lib.hid h13
          clear h13
          rw [← hE]
          obtain ⟨w13, hw13⟩ : ∃ z, z = (w11.alloc (.cells #[.int .i64 f, .int .u64 q, .int .u64 t, .string d, .int .i64 2] 48)).alloc (Nt 3 f q t d) := ⟨_, rfl⟩
          rw [← hw13] at H13
          rw [show (w11.alloc (.cells #[.int .i64 f, .int .u64 q, .int .u64 t, .string d, .int .i64 2] 48)).alloc (.cells #[.int .i64 3, .int .i64 f, .int .u64 q, .int .u64 t, .string d] 40) = w13 from hw13.symm]
          clear hw13 hE z0 z1 z2 z3 H11
          refine (ot_apply H13.out.2.1 H13.out.1.frw HLV.out.2.ok ((⟨0, f, q, t, d⟩ : NtV).as 3) HG.out.2.2.2).mono ?_
          rintro x w14 ⟨p14, rfl, b14⟩
          rw [HLV.out.2.out 3 (by decide)] at p14
          rw [HLV.out.2.out 3 (by decide)]
          have H14 : Hid (Kp W w14 V2 A l f q t d A6 s1.l ∧ OneT V2 w14 B s1 ∧ w14.heap[E]? = some (.cells #[.int .i64 3, .int .i64 f, .int .u64 q, .int .u64 t, .string d] 40 (0, 0))) := Lib.hid ⟨H13.out.1.fb b14, p14, b14.blk H13.out.2.2.1 (fun h => h H13.out.2.2.2)⟩
          clear p14 b14 H13
          have y0 := Kq.blk_cell H14.out.2.2 0
          have y1 := Kq.blk_cell H14.out.2.2 1
          have y2 := Kq.blk_cell H14.out.2.2 2
          have y3 := Kq.blk_cell H14.out.2.2 3
          have y4 := Kq.blk_cell H14.out.2.2 4
          go_wp2_with fail
          refine (ot_apply H14.out.2.1 H14.out.1.frw HD.out.1 ((⟨0, f, q, t, d⟩ : NtV).as 3) HG.out.2.2.2).mono ?_
          rintro x w15 ⟨p15, rfl, b15⟩
          have HO := Lib.hid (out_gone (s := s1) (p := ⟨0, f, q, t, d⟩) HG.out.2.1.2.2 HD.out.2.2 3 (by decide))
          rw [HO.out] at p15
          rw [HO.out]
          have H15 : Hid (Kp W w15 V2 A l f q t d A6 s1.l ∧ OneT V2 w15 B s1) := Lib.hid ⟨H14.out.1.fb b15, p15⟩
          clear p15 b15 H14 y0 y1 y2 y3 y4
          go_wp2_with fail
          refine (ot_items H15.out.2 HD.out.1).mono ?_
          rintro x w16 ⟨v, rfl, ⟨A16, c16, rfl, -, hat16, -⟩, b16⟩
          have H16 : Hid (Kp W w16 V2 A l f q t d A6 s1.l ∧ EnAt NtV.ic w16 A16 s1.l) := Lib.hid ⟨H15.out.1.far b16, hat16⟩
          clear b16 hat16 H15
          rw [← HN1.out.1]
          go_wp2_with fail
          have ss := same_items A16 A6 c16 c6 s1.l w16 H16.out.2 H16.out.1.was (by have := HN1.out; omega)
          rw [← HN1.out.1] at ss
          refine ss.mono ?_
          clear ss
          rintro x w17 ⟨rfl, b17⟩
          have H17 := Lib.hid ((H16.out.1.far b17).gp.g.bel)
          clear b17 H16
          go_wp2
          go_ret
          exact ⟨by simp, H17.out⟩
        | true =>
          go_wp2_with fail
          obtain ⟨E, hE⟩ : ∃ E, E = w11.heap.size + 1 := ⟨_, rfl⟩
          have H13 : Hid (∃ V2 : Nat → Prop, Kp W ((w11.alloc (.cells #[.int .i64 f, .int .u64 q, .int .u64 t, .string d, .int .i64 2] 48)).alloc (Nt 4 f q t d)) V2 A l f q t d A6 s1.l ∧ OneT V2 ((w11.alloc (.cells #[.int .i64 f, .int .u64 q, .int .u64 t, .string d, .int .i64 2] 48)).alloc (Nt 4 f q t d)) B s3 ∧ ((w11.alloc (.cells #[.int .i64 f, .int .u64 q, .int .u64 t, .string d, .int .i64 2] 48)).alloc (Nt 4 f q t d)).heap[E]? = some (.cells #[.int .i64 4, .int .i64 f, .int .u64 q, .int .u64 t, .string d] 40 (0, 0)) ∧ V2 E) := Lib.hid (by
            have hb : Below w11.heap.size w11 ((w11.alloc (.cells #[.int .i64 f, .int .u64 q, .int .u64 t, .string d, .int .i64 2] 48)).alloc (Nt 4 f q t d)) := (Kq.below_alloc w11 _).trans ((Kq.below_alloc _ _).mono (Kq.below_alloc w11 _).size)
            have hr := Kq.blk_new (w11.alloc (.cells #[.int .i64 f, .int .u64 q, .int .u64 t, .string d, .int .i64 2] 48)) #[.int .i64 4, .int .i64 f, .int .u64 q, .int .u64 t, .string d] 40 (0, 0)
            rw [World.size_alloc, ← hE] at hr
            exact ⟨Wid V w11 _, H11.out.1.wide hb, one_wide H11.out.2 hb, hr, Or.inr ⟨by omega, Kq.blk_lt hr⟩⟩)
          obtain ⟨V2, h13⟩ := H13.out
          replace H13 := Lib.hid h13
          clear h13
          rw [← hE]
          obtain ⟨w13, hw13⟩ : ∃ z, z = (w11.alloc (.cells #[.int .i64 f, .int .u64 q, .int .u64 t, .string d, .int .i64 2] 48)).alloc (Nt 4 f q t d) := ⟨_, rfl⟩
          rw [← hw13] at H13
          rw [show (w11.alloc (.cells #[.int .i64 f, .int .u64 q, .int .u64 t, .string d, .int .i64 2] 48)).alloc (.cells #[.int .i64 4, .int .i64 f, .int .u64 q, .int .u64 t, .string d] 40) = w13 from hw13.symm]
          clear hw13 hE z0 z1 z2 z3 H11
          refine (ot_apply H13.out.2.1 H13.out.1.frw HLV.out.2.ok ((⟨0, f, q, t, d⟩ : NtV).as 4) HG.out.2.2.2).mono ?_
          rintro x w14 ⟨p14, rfl, b14⟩
          rw [HLV.out.2.out 4 (by decide)] at p14
          rw [HLV.out.2.out 4 (by decide)]
          have H14 : Hid (Kp W w14 V2 A l f q t d A6 s1.l ∧ OneT V2 w14 B s1 ∧ w14.heap[E]? = some (.cells #[.int .i64 4, .int .i64 f, .int .u64 q, .int .u64 t, .string d] 40 (0, 0))) := Lib.hid ⟨H13.out.1.fb b14, p14, b14.blk H13.out.2.2.1 (fun h => h H13.out.2.2.2)⟩
          clear p14 b14 H13
          have y0 := Kq.blk_cell H14.out.2.2 0
          have y1 := Kq.blk_cell H14.out.2.2 1
          have y2 := Kq.blk_cell H14.out.2.2 2
          have y3 := Kq.blk_cell H14.out.2.2 3
          have y4 := Kq.blk_cell H14.out.2.2 4
          go_wp2_with fail
          refine (ot_apply H14.out.2.1 H14.out.1.frw HD.out.1 ((⟨0, f, q, t, d⟩ : NtV).as 4) HG.out.2.2.2).mono ?_
          rintro x w15 ⟨p15, rfl, b15⟩
          have HO := Lib.hid (out_gone (s := s1) (p := ⟨0, f, q, t, d⟩) HG.out.2.1.2.2 HD.out.2.2 4 (by decide))
          rw [HO.out] at p15
          rw [HO.out]
          have H15 : Hid (Kp W w15 V2 A l f q t d A6 s1.l ∧ OneT V2 w15 B s1) := Lib.hid ⟨H14.out.1.fb b15, p15⟩
          clear p15 b15 H14 y0 y1 y2 y3 y4
          go_wp2_with fail
          refine (ot_items H15.out.2 HD.out.1).mono ?_
          rintro x w16 ⟨v, rfl, ⟨A16, c16, rfl, -, hat16, -⟩, b16⟩
          have H16 : Hid (Kp W w16 V2 A l f q t d A6 s1.l ∧ EnAt NtV.ic w16 A16 s1.l) := Lib.hid ⟨H15.out.1.far b16, hat16⟩
          clear b16 hat16 H15
          rw [← HN1.out.1]
          go_wp2_with fail
          have ss := same_items A16 A6 c16 c6 s1.l w16 H16.out.2 H16.out.1.was (by have := HN1.out; omega)
          rw [← HN1.out.1] at ss
          refine ss.mono ?_
          clear ss
          rintro x w17 ⟨rfl, b17⟩
          have H17 := Lib.hid ((H16.out.1.far b17).gp.g.bel)
          clear b17 H16
          go_wp2
          go_ret
          exact ⟨by simp, H17.out⟩
theorem _root_.Go.Proofs.Ytmckpoeolfggmaa.tableLives_walk (v0 v1 : Value) (tu ti : Bool) {W : World} (h0 : ∃ A cap l, v0 = .slice A l.length cap ∧ l.length ≤ cap ∧ acE.Lo W W.heap.size A l ∧ ∀ n ∈ l, n.wf) (h1 : ∃ f q t : Int, ∃ d : ByteArray, v1 = .agg #[.int .i64 f, .int .u64 q, .int .u64 t, .string d] ∧ nmW (f, q) ∧ NtV.wf ⟨0, f, q, t, d⟩) :
    Calls Try.prog 6 #[v0, v1, .bool tu, .bool ti] W fun x w' => x = .returned (.bool true) ∧ Below W.heap.size W w' := by
  obtain ⟨A, ca, l, rfl, hca, hA, hw⟩ := h0
  obtain ⟨f, q, t, d, rfl, hn, hf⟩ := h1
  by_cases hg : l.length ≤ 100 ∧ FewN (l.map AcV.n) ∧ PkOk ⟨f, q, t, d⟩
  · exact main f q t d tu ti A ca l W ⟨hA, hw, Below.refl _ _⟩ hg hn hf
  · exact early f q t d tu ti A ca l W ⟨hA, hw, Below.refl _ _⟩ hg
end tableLives
end Go.Proofs.Ytmckpoeolfggmaa
