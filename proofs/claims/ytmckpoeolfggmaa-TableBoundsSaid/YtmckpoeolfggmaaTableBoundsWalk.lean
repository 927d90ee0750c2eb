/- carracklaw15.TableBounds walked. No condition. -/
import Derived.WalkSpells
import Derived.Outline
import Derived.Deep.RegionHeld
import Derived.Deep.QuietTactic
import Derived.BigQuiet
import Derived.Test.YtmckpoeolfggmaaTwLaw
import Derived.Test.YtmckpoeolfggmaaTwWide
import Derived.Test.YtmckpoeolfggmaaNtSameI
import Derived.Test.YtmckpoeolfggmaaHeldMono
namespace Go.Proofs.Ytmckpoeolfggmaa
open Go.RowKit
set_option linter.unusedVariables false
namespace tableBounds
set_option maxRecDepth 100000 in
set_option maxHeartbeats 1000000 in
theorem early (r : Int) (A : Option Addr) (ca : Nat) (l : List AcV) (Am : Option Addr) (cm : Nat) (m : List NtV) (W : World) (h : GrT W W A l) (hm : EnAt NtV.nc W Am m) (hno : ¬ YesT l m) :
    Calls Try.prog 5 #[.int .i64 r, .slice A l.length ca, .slice Am m.length cm] W fun x w' => x = .returned (.bool true) ∧ Below W.heap.size W w' := by
  have HG := Lib.hid (And.intro h (And.intro hno hm))
  clear h hno hm
  go_enter Try.func5, Try.ntmps5
  go_wp2_with fail
  refine (awake15 W).mono ?_
  rintro x w1 ⟨rfl, b1⟩
  have H1 : Hid (GrT W w1 A l ∧ EnAt NtV.nc w1 Am m) := Lib.hid ⟨HG.out.1.far b1, HG.out.2.2.below b1⟩
  clear b1
  by_cases hl : 100 < l.length
  · have d1 : decide ((100 : Int) < (l.length : Int)) = true := decide_eq_true (by omega)
    have d1' : decide (100 < l.length) = true := decide_eq_true hl
    clear hl
    go_wp2
    go_ret
    exact ⟨rfl, H1.out.1.bel⟩
  have d1 : decide ((100 : Int) < (l.length : Int)) = false := decide_eq_false (by omega)
  have d1' : decide (100 < l.length) = false := decide_eq_false hl
  have HL : Hid (l.length ≤ 100) := Lib.hid (by omega)
  clear hl
  go_wp2_with fail
  obtain ⟨N, hN⟩ : ∃ N, N = l.map AcV.n := ⟨_, rfl⟩
  have nn := notes15 A ca l w1 HL.out H1.out.1.at
  rw [← hN] at nn
  have HN := Lib.hid hN
  clear hN
  refine nn.mono ?_
  clear nn
  rintro x w2 ⟨A2, c2, rfl, hat, b2⟩
  have H2 : Hid (GrT W w2 A l ∧ EnAt NtV.nc w2 Am m ∧ EnAt NtV.nc w2 A2 N) := Lib.hid ⟨H1.out.1.far b2, H1.out.2.below b2, hat⟩
  clear b2 H1 hat
  go_wp2_with fail
  refine (few15 N A2 c2 w2 H2.out.2.2).mono ?_
  rintro x w2 ⟨rfl, rfl⟩
  by_cases f1 : FewN N
  · rw [decide_eq_true f1]
    have f2 : ¬ FewN m := fun h => HG.out.2.1 ⟨HL.out, by rw [← HN.out]; exact f1, h⟩
    have e2 := decide_eq_false f2
    clear f1 f2
    go_wp2_with fail
    refine (few15 m Am cm w2 H2.out.2.1).mono ?_
    rintro x w2 ⟨rfl, rfl⟩
    rw [e2]
    go_wp2
    go_ret
    exact ⟨rfl, H2.out.1.bel⟩
  · rw [decide_eq_false f1]
    clear f1
    go_wp2
    go_ret
    exact ⟨rfl, H2.out.1.bel⟩
/-- what a round keeps -/
structure Rnd (W w : World) (A : Option Addr) (l : List AcV) (B : Nat) (s : TbV) : Prop where
  g : GrT W w A l
  tb : OneT (· < W.heap.size) w B s
theorem Rnd.far {W w w' : World} {A : Option Addr} {l : List AcV} {B : Nat} {s : TbV} (h : Rnd W w A l B s) (hb : Below w.heap.size w w') : Rnd W w' A l B s := ⟨h.g.far hb, h.tb.below hb⟩
set_option maxRecDepth 100000 in
set_option maxHeartbeats 4000000 in
theorem main (r : Int) (A : Option Addr) (ca : Nat) (l : List AcV) (Am : Option Addr) (cm : Nat) (m : List NtV) (W : World) (h : GrT W W A l) (hm : EnAt NtV.nc W Am m) (hmw : ∀ n ∈ m, n.wf) (hyes : YesT l m) :
    Calls Try.prog 5 #[.int .i64 r, .slice A l.length ca, .slice Am m.length cm] W fun x w' => x = .returned (.bool true) ∧ Below W.heap.size W w' := by
  have HG := Lib.hid (And.intro h (And.intro hyes (And.intro hm hmw)))
  have d1 : decide ((100 : Int) < (l.length : Int)) = false := decide_eq_false (by have := hyes.1; omega)
  have d1' : decide (100 < l.length) = false := decide_eq_false (by have := hyes.1; omega)
  have f1 := decide_eq_true hyes.2.1
  have f2 := decide_eq_true hyes.2.2
  have HL : Hid (l.length ≤ 100) := Lib.hid hyes.1
  have HM : Hid (m.length ≤ 100) := Lib.hid hyes.2.2.1
  clear h hyes hm hmw
  go_enter Try.func5, Try.ntmps5
  go_wp2_with fail
  refine (awake15 W).mono ?_
  rintro x w1 ⟨rfl, b1⟩
  have H1 : Hid (GrT W w1 A l ∧ EnAt NtV.nc w1 Am m) := Lib.hid ⟨HG.out.1.far b1, HG.out.2.2.1.below b1⟩
  clear b1
  go_wp2_with fail
  obtain ⟨N, hN⟩ : ∃ N, N = l.map AcV.n := ⟨_, rfl⟩
  have nn := notes15 A ca l w1 HL.out H1.out.1.at
  rw [← hN] at nn
  have HN := Lib.hid hN
  clear hN
  refine nn.mono ?_
  clear nn
  rintro x w2 ⟨A2, c2, rfl, hat, b2⟩
  have H2 : Hid (GrT W w2 A l ∧ EnAt NtV.nc w2 Am m ∧ EnAt NtV.nc w2 A2 N) := Lib.hid ⟨H1.out.1.far b2, H1.out.2.below b2, hat⟩
  clear b2 H1 hat
  go_wp2_with fail
  refine (few15 N A2 c2 w2 H2.out.2.2).mono ?_
  rintro x w2 ⟨rfl, rfl⟩
  rw [show decide (FewN N) = true by rw [HN.out]; exact f1]
  go_wp2_with fail
  refine (few15 m Am cm w2 H2.out.2.1).mono ?_
  rintro x w2 ⟨rfl, rfl⟩
  rw [f2]
  clear f1 f2 d1 d1'
  by_cases hr : 1 ≤ r ∧ r ≤ 40
  case neg =>
    go_wp2_with fail
    refine (tb_new_bad r w2 hr).mono ?_
    rintro x w2 ⟨rfl, rfl⟩
    have HB := Lib.hid H2.out.1.bel
    clear hr H2
    go_wp2
    go_ret
    exact ⟨rfl, HB.out⟩
  obtain ⟨R, hR⟩ : ∃ R : Nat, r = (R : Int) := ⟨r.toNat, by omega⟩
  subst hR
  have HR40 : Hid (1 ≤ R ∧ R ≤ 40) := Lib.hid (by omega)
  clear hr
  go_wp2_with fail
  refine (tb_new R w2 HR40.out.1 HR40.out.2).mono ?_
  rintro x w3 ⟨B, rfl, p3, b3⟩
  have H3 : Hid (Rnd W w3 A l B ⟨R, []⟩) := Lib.hid ⟨H2.out.1.far b3, (OwnT.start H2.out.1.bel p3 b3).tb⟩
  clear p3 b3 H2
  go_wp2
  go_loopw [9] (fun i wr => ∃ j : Nat, j ≤ l.length ∧ i = .int .i64 (j : Int) ∧ Rnd W wr A l B (actsT ⟨R, []⟩ (l.take j))) (fun i _ => l.length - (intOf i).toNat)
  case atStart => exact ⟨0, by omega, rfl, H3.out⟩
  case round =>
    obtain ⟨j, hj, rfl, hr⟩ := hrel
    have HR := Lib.hid hr
    have h60 := HL.out
    clear hr H3
    by_cases hlt : j < l.length
    · obtain ⟨b, off, rfl, hc⟩ := HR.out.g.act j hlt
      obtain ⟨a, ha⟩ : ∃ a, a = l[j] := ⟨_, rfl⟩
      rw [← ha] at hc
      have HC : Hid (∀ w', GrT W w' (some ⟨b, off, none⟩) l → ActC w' b (off + j * 6) a) := Lib.hid hc
      have HS := Lib.hid (actsT_take ⟨R, []⟩ l j hlt)
      rw [← ha] at HS
      have HWF : Hid a.wf := Lib.hid (by rw [ha]; exact HG.out.1.wf _ (List.getElem_mem hlt))
      have hi0 : (j : Int) < (l.length : Int) := by omega
      have t1 : decide ((j : Int) < (l.length : Int)) = true := decide_eq_true hi0
      have t2 : decide (j < l.length) = true := decide_eq_true hlt
      have HLT := Lib.hid hlt
      have hj6 : j ≤ 100 := by omega
      clear hlt ha hc hj h60
      obtain ⟨s, hs⟩ : ∃ s, s = actsT ⟨R, []⟩ (l.take j) := ⟨_, rfl⟩
      obtain ⟨s', hs'⟩ : ∃ s', s' = (actT s a).1 := ⟨_, rfl⟩
      obtain ⟨e, he⟩ : ∃ e, e = (actT s a).2 := ⟨_, rfl⟩
      have HK : Hid (TbOk s ∧ TbOk s' ∧ actsT ⟨R, []⟩ (l.take (j + 1)) = s' ∧ s'.room = R ∧ s'.l.length ≤ 40 ∧ (e ≠ 0 → s' = s)) := Lib.hid (by
        have h1 : TbOk s := by rw [hs]; exact actsT_ok _ _ (newT_ok R HR40.out.1 HR40.out.2) (fun a h => HG.out.1.wf a (List.mem_of_mem_take h))
        have h2 : TbOk s' := by rw [hs']; exact actT_ok h1 a HWF.out
        exact ⟨h1, h2, by rw [hs', hs]; exact HS.out, by rw [hs', actT_room, hs]; exact actsT_room _ _, Nat.le_trans h2.len h2.r40, fun h => by rw [hs']; exact actT_bad s a (by rw [← he]; exact h)⟩)
      rw [← hs] at HR
      have HE := Lib.hid (And.intro hs' he)
      clear hs hs' he HS
      go_wp2_with fail
      refine (ot_items HR.out.tb HK.out.1).mono ?_
      rintro x w5 ⟨v, rfl, ⟨A5, c5, rfl, -, hat5, hnew5⟩, b5⟩
      have H5 : Hid (OneT (Wid (· < W.heap.size) wr w5) w5 B s ∧ GrT W w5 (some ⟨b, off, none⟩) l ∧ FrW (Wid (· < W.heap.size) wr w5) w5 ∧ EnAt NtV.ic w5 A5 s.l ∧ (∀ b off, A5 = some ⟨b, off, none⟩ → Wid (· < W.heap.size) wr w5 b)) := Lib.hid ⟨one_wide HR.out.tb b5, HR.out.g.far b5, wid_frw HR.out.g.frw b5.size, hat5, fun b o e => Or.inr (hnew5 b o e)⟩
      clear b5 hat5 hnew5 HR
      have hcc := HC.out _ H5.out.2.1
      unfold ActC at hcc
      obtain ⟨q0, q1, q2, q3, q4, q5⟩ := hcc
      go_wp2_with fail
      refine (ot_do H5.out.1 H5.out.2.2.1 HK.out.1 a HWF.out).mono ?_
      rintro x w6 ⟨p6, rfl, b6⟩
      rw [← HE.out.1] at p6
      rw [← HE.out.2]
      have H6 : Hid (Rnd W w6 (some ⟨b, off, none⟩) l B s' ∧ EnAt NtV.ic w6 A5 s.l) := Lib.hid ⟨⟨H5.out.2.1.near (Kq.Keeps.below b6 H5.out.2.1.size (fun k _ h => Nat.le_of_not_lt (fun h2 => h (Or.inl h2)))), one_narrow p6 (fun k h => Or.inl h)⟩, H5.out.2.2.2.1.keeps b6 (fun g o e h => h (H5.out.2.2.2.2 g o e))⟩
      clear p6 b6 q0 q1 q2 q3 q4 q5 H5
      go_wp2_with fail
      refine (ot_items H6.out.1.tb HK.out.2.1).mono ?_
      rintro x w7 ⟨v, rfl, ⟨A7, c7, rfl, -, hat7, -⟩, b7⟩
      have H7 : Hid (Rnd W w7 (some ⟨b, off, none⟩) l B s' ∧ EnAt NtV.ic w7 A5 s.l ∧ EnAt NtV.ic w7 A7 s'.l) := Lib.hid ⟨H6.out.1.far b7, H6.out.2.below b7, hat7⟩
      clear b7 hat7 H6
      obtain ⟨n, hn⟩ : ∃ n, n = s'.l.length := ⟨_, rfl⟩
      obtain ⟨n0, hn0⟩ : ∃ n0, n0 = s.l.length := ⟨_, rfl⟩
      have HN : Hid (n = s'.l.length ∧ n ≤ R ∧ n ≤ 40 ∧ n0 = s.l.length) := Lib.hid ⟨hn, by rw [hn, ← HK.out.2.2.2.1]; exact HK.out.2.1.len, by rw [hn]; exact HK.out.2.2.2.2.1, hn0⟩
      rw [← hn, ← hn0]
      clear hn hn0
      have e1 : decide ((R : Int) < (n : Int)) = false := decide_eq_false (by have := HN.out; omega)
      have e1' : decide (R < n) = false := decide_eq_false (by have := HN.out; omega)
      have e2 : ((n : Int) != (n : Int)) = false := by simp
      have e2' : (n != n) = false := by simp
      go_wp2_with fail
      refine (ot_len H7.out.1.tb).mono ?_
      rintro x w7 ⟨rfl, rfl⟩
      rw [← HN.out.1]
      by_cases h0 : e = 0
      · have e3 : (e != 0) = false := by rw [h0]; rfl
        clear h0
        have H8 : Hid (Rnd W w7 (some ⟨b, off, none⟩) l B s' ∧ EnAt NtV.ic w7 A7 s'.l) := Lib.hid ⟨H7.out.1, H7.out.2.2⟩
        clear H7
        go_wp2
        go_loopw [13] (fun i wr => ∃ k : Nat, 1 ≤ k ∧ (k ≤ n ∨ k = 1) ∧ i = .int .i64 (k : Int) ∧ Below w7.heap.size w7 wr) (fun i _ => n + 1 - (intOf i).toNat)
        case atStart => exact ⟨1, by omega, by omega, rfl, Below.refl _ _⟩
        case round =>
          obtain ⟨k, hk1, hkn, rfl, hb⟩ := hrel
          have HBB := Lib.hid hb
          have h40 := HN.out.2.2.1
          by_cases hlt : k < n
          · have hkl : k < s'.l.length := by rw [← HN.out.1]; exact hlt
            have hkl1 : k - 1 < s'.l.length := by omega
            have hord := sort_step HK.out.2.1.sort k hk1 hkl
            obtain ⟨bx, ox, rfl, _, hc⟩ := (H8.out.2.below hb) k hkl
            obtain ⟨bx', ox', e', _, hc'⟩ := (H8.out.2.below hb) (k - 1) hkl1
            injection e' with e'
            injection e' with e1 e2
            subst e1 e2
            obtain ⟨y, hy⟩ : ∃ y, y = s'.l[k] := ⟨_, rfl⟩
            obtain ⟨x, hx⟩ : ∃ x, x = s'.l[k - 1] := ⟨_, rfl⟩
            rw [← hy] at hc hord
            rw [← hx] at hc' hord
            obtain ⟨k1, hk1'⟩ : ∃ k1, k1 = k - 1 := ⟨_, rfl⟩
            rw [← hk1'] at hc'
            have x0 := hc' 0 (by omega)
            have x1 := hc' 1 (by omega)
            have x2 := hc' 2 (by omega)
            have x3 := hc' 3 (by omega)
            have y0 := hc 0 (by omega)
            have y1 := hc 1 (by omega)
            have y2 := hc 2 (by omega)
            have y3 := hc 3 (by omega)
            obtain ⟨xk, xf, xq, xt, xd⟩ := x
            obtain ⟨yk, yf, yq, yt, yd⟩ := y
            simp only [NtV.ic, List.getElem?_cons_zero, List.getElem?_cons_succ, Nat.add_zero] at x0 x1 x2 x3 y0 y1 y2 y3
            have hsub : IntKind.i64.wrap ((k : Int) - 1) = (k1 : Int) := by rw [IntWalk.i64_in _ (by omega)]; omega
            have hi0 : (k : Int) < (n : Int) := by omega
            have hi1 : (k1 : Int) < (n : Int) := by omega
            have t1' : decide ((k : Int) < (n : Int)) = true := decide_eq_true hi0
            have t2' : decide (k < n) = true := decide_eq_true hlt
            have HLT2 : Hid (k < n ∧ 1 ≤ k) := Lib.hid ⟨hlt, hk1⟩
            have g1 : decide (yf < xf) = false := decide_eq_false (by simp only at hord; omega)
            have g2 : xf = yf → decide (yq ≤ xq) = false := fun e => decide_eq_false (by simp only at hord; omega)
            have hkk : k ≤ 1000 := by omega
            clear hc hc' hx hy hb hkn hk1 hlt hkl hkl1 hord hk1'
            go_wp2
            go_region
            all_goals
              by_cases g3 : xf = yf
              · have e3 : (xf == yf) = true := by rw [g3]; simp
                have e4 := g2 g3
                clear g3 g2
                go_wp2
                go_roundw
                case rel => exact ⟨k + 1, by omega, Or.inl HLT2.out.1, by go_num, HBB.out.trans (Below.mono (((Kq.below_alloc wr _).trans ((Kq.below_alloc _ _).mono (Kq.below_alloc wr _).size)).drew) HBB.out.size)⟩
                case measure => have := HLT2.out; simp [intOf]; omega
              · have e3 : (xf == yf) = false := beq_eq_false_iff_ne.2 g3
                clear g3 g2
                go_wp2
                go_roundw
                case rel => exact ⟨k + 1, by omega, Or.inl HLT2.out.1, by go_num, HBB.out.trans (Below.mono (((Kq.below_alloc wr _).trans ((Kq.below_alloc _ _).mono (Kq.below_alloc wr _).size)).drew) HBB.out.size)⟩
                case measure => have := HLT2.out; simp [intOf]; omega
          · have t1' : decide ((k : Int) < (n : Int)) = false := decide_eq_false (by omega)
            have t2' : decide (k < n) = false := decide_eq_false hlt
            have H10 : Hid (Rnd W wr (some ⟨b, off, none⟩) l B (actsT ⟨R, []⟩ (l.take (j + 1)))) := Lib.hid (by rw [HK.out.2.2.1]; exact H8.out.1.far hb)
            clear hlt hkn hk1 hb h40
            go_wp2
            go_roundw
            case rel => exact ⟨j + 1, HLT.out, by go_num, H10.out⟩
            case measure => have := HLT.out; simp [intOf]; omega
      · have e3 : (e != 0) = true := by rw [bne_iff_ne]; exact h0
        have hss := HK.out.2.2.2.2.2 h0
        clear h0
        go_wp2_with fail
        obtain rfl : n = n0 := by rw [HN.out.1, HN.out.2.2.2, hss]
        have ss := same_items A7 A5 c7 c5 s'.l w7 H7.out.2.2 (by rw [hss]; exact H7.out.2.1) (by have := HN.out; omega)
        rw [← HN.out.1] at ss
        refine ss.mono ?_
        clear ss hss
        rintro x w8 ⟨rfl, b8⟩
        have H8 : Hid (Rnd W w8 (some ⟨b, off, none⟩) l B s' ∧ EnAt NtV.ic w8 A7 s'.l) := Lib.hid ⟨H7.out.1.far b8, H7.out.2.2.below b8⟩
        clear b8 H7
        go_wp2
        go_loopw [13] (fun i wr => ∃ k : Nat, 1 ≤ k ∧ (k ≤ n ∨ k = 1) ∧ i = .int .i64 (k : Int) ∧ Below w8.heap.size w8 wr) (fun i _ => n + 1 - (intOf i).toNat)
        case atStart => exact ⟨1, by omega, by omega, rfl, Below.refl _ _⟩
        case round =>
          obtain ⟨k, hk1, hkn, rfl, hb⟩ := hrel
          have HBB := Lib.hid hb
          have h40 := HN.out.2.2.1
          by_cases hlt : k < n
          · have hkl : k < s'.l.length := by rw [← HN.out.1]; exact hlt
            have hkl1 : k - 1 < s'.l.length := by omega
            have hord := sort_step HK.out.2.1.sort k hk1 hkl
            obtain ⟨bx, ox, rfl, _, hc⟩ := (H8.out.2.below hb) k hkl
            obtain ⟨bx', ox', e', _, hc'⟩ := (H8.out.2.below hb) (k - 1) hkl1
            injection e' with e'
            injection e' with e1 e2
            subst e1 e2
            obtain ⟨y, hy⟩ : ∃ y, y = s'.l[k] := ⟨_, rfl⟩
            obtain ⟨x, hx⟩ : ∃ x, x = s'.l[k - 1] := ⟨_, rfl⟩
            rw [← hy] at hc hord
            rw [← hx] at hc' hord
            obtain ⟨k1, hk1'⟩ : ∃ k1, k1 = k - 1 := ⟨_, rfl⟩
            rw [← hk1'] at hc'
            have x0 := hc' 0 (by omega)
            have x1 := hc' 1 (by omega)
            have x2 := hc' 2 (by omega)
            have x3 := hc' 3 (by omega)
            have y0 := hc 0 (by omega)
            have y1 := hc 1 (by omega)
            have y2 := hc 2 (by omega)
            have y3 := hc 3 (by omega)
            obtain ⟨xk, xf, xq, xt, xd⟩ := x
            obtain ⟨yk, yf, yq, yt, yd⟩ := y
            simp only [NtV.ic, List.getElem?_cons_zero, List.getElem?_cons_succ, Nat.add_zero] at x0 x1 x2 x3 y0 y1 y2 y3
            have hsub : IntKind.i64.wrap ((k : Int) - 1) = (k1 : Int) := by rw [IntWalk.i64_in _ (by omega)]; omega
            have hi0 : (k : Int) < (n : Int) := by omega
            have hi1 : (k1 : Int) < (n : Int) := by omega
            have t1' : decide ((k : Int) < (n : Int)) = true := decide_eq_true hi0
            have t2' : decide (k < n) = true := decide_eq_true hlt
            have HLT2 : Hid (k < n ∧ 1 ≤ k) := Lib.hid ⟨hlt, hk1⟩
            have g1 : decide (yf < xf) = false := decide_eq_false (by simp only at hord; omega)
            have g2 : xf = yf → decide (yq ≤ xq) = false := fun e => decide_eq_false (by simp only at hord; omega)
            have hkk : k ≤ 1000 := by omega
            clear hc hc' hx hy hb hkn hk1 hlt hkl hkl1 hord hk1'
            go_wp2
            go_region
            all_goals
              by_cases g3 : xf = yf
              · have e3 : (xf == yf) = true := by rw [g3]; simp
                have e4 := g2 g3
                clear g3 g2
                go_wp2
                go_roundw
                case rel => exact ⟨k + 1, by omega, Or.inl HLT2.out.1, by go_num, HBB.out.trans (Below.mono (((Kq.below_alloc wr _).trans ((Kq.below_alloc _ _).mono (Kq.below_alloc wr _).size)).drew) HBB.out.size)⟩
                case measure => have := HLT2.out; simp [intOf]; omega
              · have e3 : (xf == yf) = false := beq_eq_false_iff_ne.2 g3
                clear g3 g2
                go_wp2
                go_roundw
                case rel => exact ⟨k + 1, by omega, Or.inl HLT2.out.1, by go_num, HBB.out.trans (Below.mono (((Kq.below_alloc wr _).trans ((Kq.below_alloc _ _).mono (Kq.below_alloc wr _).size)).drew) HBB.out.size)⟩
                case measure => have := HLT2.out; simp [intOf]; omega
          · have t1' : decide ((k : Int) < (n : Int)) = false := decide_eq_false (by omega)
            have t2' : decide (k < n) = false := decide_eq_false hlt
            have H10 : Hid (Rnd W wr (some ⟨b, off, none⟩) l B (actsT ⟨R, []⟩ (l.take (j + 1)))) := Lib.hid (by rw [HK.out.2.2.1]; exact H8.out.1.far hb)
            clear hlt hkn hk1 hb h40
            go_wp2
            go_roundw
            case rel => exact ⟨j + 1, HLT.out, by go_num, H10.out⟩
            case measure => have := HLT.out; simp [intOf]; omega
    · obtain rfl : j = l.length := by omega
      have d0 : decide ((l.length : Int) < (l.length : Int)) = false := decide_eq_false (by omega)
      clear hlt hj h60
      obtain ⟨s, hs⟩ : ∃ s, s = actsT ⟨R, []⟩ (l.take l.length) := ⟨_, rfl⟩
      have HK : Hid (TbOk s ∧ s.l.length ≤ 40) := Lib.hid (by
        have h1 : TbOk s := by rw [hs]; exact actsT_ok _ _ (newT_ok R HR40.out.1 HR40.out.2) (fun a h => HG.out.1.wf a (List.mem_of_mem_take h))
        exact ⟨h1, Nat.le_trans h1.len h1.r40⟩)
      rw [← hs] at HR
      clear hs
      go_wp2_with fail
      refine (ot_items HR.out.tb HK.out.1).mono ?_
      rintro x w5 ⟨v, rfl, ⟨A5, c5, rfl, -, hat5, -⟩, b5⟩
      have H5 : Hid (Rnd W w5 A l B s ∧ EnAt NtV.ic w5 A5 s.l) := Lib.hid ⟨HR.out.far b5, hat5⟩
      clear b5 hat5 HR
      go_wp2_with fail
      refine (ot_copy H5.out.1.tb).mono ?_
      rintro x w6 ⟨B', rfl, p6, b6⟩
      have H6 : Hid (Rnd W w5 A l B s ∧ EnAt NtV.ic w5 A5 s.l ∧ OwnT w5 w6 B' s) := Lib.hid ⟨H5.out.1, H5.out.2, OwnT.start (Below.refl _ _) p6 b6⟩
      clear p6 b6 H5
      obtain ⟨F, hF⟩ : ∃ F, F = fitV s m := ⟨_, rfl⟩
      have HF : Hid (F = fitV s m ∧ F ≤ m.length ∧ (∀ i (hi : i < m.length), i < F → (appV (appsV s (m.take i)) m[i]).2 = 0) ∧ ∀ i (hi : i < m.length), i = F → (appV (appsV s (m.take i)) m[i]).2 ≠ 0) := Lib.hid ⟨hF, by rw [hF]; exact fitV_le m s, fun i hi h => fitV_lt m s i hi (by rw [← hF]; exact h), fun i hi h => fitV_end m s i hi (by rw [← hF]; exact h)⟩
      clear hF
      go_wp2_with fail
      refine (ot_fit (H6.out.1.tb.below H6.out.2.2.bel) HK.out.1 m Am cm (HG.out.2.2.1.below (H6.out.1.g.bel.trans (H6.out.2.2.bel.mono H6.out.1.g.size))) HG.out.2.2.2 (by have := HM.out; omega)).mono ?_
      rintro x w7 ⟨rfl, b7⟩
      rw [← HF.out.1]
      have H7 : Hid (Rnd W w5 A l B s ∧ EnAt NtV.ic w5 A5 s.l ∧ OwnT w5 w7 B' (appsV s (m.take 0))) := Lib.hid ⟨H6.out.1, H6.out.2.1, H6.out.2.2.far b7⟩
      have e1 : decide ((F : Int) < 0) = false := decide_eq_false (by omega)
      have e2 : decide ((m.length : Int) < (F : Int)) = false := decide_eq_false (by have := HF.out.2.1; omega)
      have e2' : decide (m.length < F) = false := decide_eq_false (by have := HF.out.2.1; omega)
      clear b7 H6
      go_wp2
      have HMAT : Hid (∀ w', Below w5.heap.size w5 w' → EnAt NtV.nc w' Am m) := Lib.hid (fun w' hb => HG.out.2.2.1.below (H7.out.1.g.bel.trans (hb.mono H7.out.1.g.size)))
      go_loopw [19] (fun i wr => ∃ j : Nat, j ≤ F ∧ i = .int .i64 (j : Int) ∧ OwnT w5 wr B' (appsV s (m.take j))) (fun i _ => F - (intOf i).toNat)
      case atStart => exact ⟨0, by omega, rfl, H7.out.2.2⟩
      case round =>
        obtain ⟨j, hj, rfl, hr⟩ := hrel
        have HRR := Lib.hid hr
        clear hr
        by_cases hlt : j < F
        · have hjm : j < m.length := Nat.lt_of_lt_of_le hlt HF.out.2.1
          obtain ⟨bm, om, rfl, _, hc⟩ := HMAT.out _ HRR.out.bel j hjm
          obtain ⟨n, hn⟩ : ∃ n, n = m[j] := ⟨_, rfl⟩
          rw [← hn] at hc
          have HNX : Hid (n.wf ∧ (appV (appsV s (m.take j)) n).2 = 0 ∧ appsV s (m.take (j + 1)) = (appV (appsV s (m.take j)) n).1 ∧ TbOk (appsV s (m.take j))) := Lib.hid ⟨by rw [hn]; exact HG.out.2.2.2 _ (List.getElem_mem hjm), by rw [hn]; exact HF.out.2.2.1 j hjm hlt, by rw [hn]; exact apps_take s m j hjm, appsV_ok _ _ HK.out.1 (fun n h => HG.out.2.2.2 n (List.mem_of_mem_take h))⟩
          have HLT := Lib.hid hlt
          have c0 := hc 0 (by omega)
          have c1 := hc 1 (by omega)
          have c2 := hc 2 (by omega)
          have c3 := hc 3 (by omega)
          have c4 := hc 4 (by omega)
          obtain ⟨k, f, q, t, d⟩ := n
          simp only [NtV.nc, List.getElem?_cons_zero, List.getElem?_cons_succ, Nat.add_zero] at c0 c1 c2 c3 c4
          have hi0 : (j : Int) < (m.length : Int) := by omega
          have t1 : decide ((j : Int) < (F : Int)) = true := decide_eq_true (by omega)
          have t2 : decide (j < F) = true := decide_eq_true hlt
          have hj6 : j ≤ 1000 := by have := HM.out; omega
          clear hn hc hlt hjm
          go_wp2_with fail
          refine (ot_apply HRR.out.tb HRR.out.frw HNX.out.2.2.2 ⟨k, f, q, t, d⟩ HNX.out.1).mono ?_
          rintro x w8 ⟨p8, rfl, b8⟩
          rw [HNX.out.2.1]
          have H8 : Hid (OwnT w5 w8 B' (appsV s (m.take (j + 1)))) := Lib.hid (by rw [HNX.out.2.2.1]; exact HRR.out.next p8 b8)
          clear p8 b8 HRR c0 c1 c2 c3 c4
          go_wp2
          go_roundw
          case rel => exact ⟨j + 1, HLT.out, by go_num, H8.out⟩
          case measure => have := HLT.out; simp [intOf]; omega
        · obtain rfl : j = F := by omega
          have t1 : decide ((j : Int) < (j : Int)) = false := decide_eq_false (by omega)
          have t2 : decide (j < j) = false := decide_eq_false (by omega)
          clear hlt hj
          have HT : Hid (OneT (· < W.heap.size) wr B s ∧ EnAt NtV.ic wr A5 s.l ∧ GrT W wr A l) := Lib.hid (by
            have hb := HRR.out.bel
            exact ⟨H7.out.1.tb.below hb, H7.out.2.1.below hb, H7.out.1.g.far hb⟩)
          go_wp2_with fail
          refine (ot_items HT.out.1 HK.out.1).mono ?_
          rintro x w8 ⟨v, rfl, ⟨A8, c8, rfl, -, hat8, -⟩, b8⟩
          have H8 : Hid (OwnT w5 w8 B' (appsV s (m.take j)) ∧ EnAt NtV.ic w8 A5 s.l ∧ EnAt NtV.ic w8 A8 s.l ∧ GrT W w8 A l) := Lib.hid ⟨HRR.out.far b8, HT.out.2.1.below b8, hat8, HT.out.2.2.far b8⟩
          clear b8 hat8 HT HRR
          go_wp2_with fail
          have ss := same_items A8 A5 c8 c5 s.l w8 H8.out.2.2.1 H8.out.2.1 (by have := HK.out.2; omega)
          refine ss.mono ?_
          clear ss
          rintro x w9 ⟨rfl, b9⟩
          have H9 : Hid (OwnT w5 w9 B' (appsV s (m.take j)) ∧ GrT W w9 A l) := Lib.hid ⟨H8.out.1.far b9, H8.out.2.2.2.far b9⟩
          clear b9 H8
          by_cases hjm : j < m.length
          · have t3 : ((j : Int) == (m.length : Int)) = false := beq_eq_false_iff_ne.2 (by omega)
            have t3' : (j == m.length) = false := beq_eq_false_iff_ne.2 (by omega)
            obtain ⟨bm, om, rfl, _, hc⟩ := HMAT.out _ H9.out.1.bel j hjm
            obtain ⟨n, hn⟩ : ∃ n, n = m[j] := ⟨_, rfl⟩
            rw [← hn] at hc
            obtain ⟨e, he⟩ : ∃ e, e = (appV (appsV s (m.take j)) n).2 := ⟨_, rfl⟩
            have HNX : Hid (n.wf ∧ e = (appV (appsV s (m.take j)) n).2 ∧ TbOk (appsV s (m.take j))) := Lib.hid ⟨by rw [hn]; exact HG.out.2.2.2 _ (List.getElem_mem hjm), he, appsV_ok _ _ HK.out.1 (fun n h => HG.out.2.2.2 n (List.mem_of_mem_take h))⟩
            have he0 : e ≠ 0 := by rw [he, hn]; exact HF.out.2.2.2 j hjm rfl
            have e3 : (e != 0) = true := by rw [bne_iff_ne]; exact he0
            have c0 := hc 0 (by omega)
            have c1 := hc 1 (by omega)
            have c2 := hc 2 (by omega)
            have c3 := hc 3 (by omega)
            have c4 := hc 4 (by omega)
            obtain ⟨k, f, q, t, d⟩ := n
            simp only [NtV.nc, List.getElem?_cons_zero, List.getElem?_cons_succ, Nat.add_zero] at c0 c1 c2 c3 c4
            have hi0 : (j : Int) < (m.length : Int) := by omega
            have hj6 : j ≤ 1000 := by have := HM.out; omega
            clear hn hc hjm he he0
            go_wp2_with fail
            refine (ot_apply H9.out.1.tb H9.out.1.frw HNX.out.2.2 ⟨k, f, q, t, d⟩ HNX.out.1).mono ?_
            rintro x w10 ⟨p10, rfl, b10⟩
            rw [← HNX.out.2.1]
            have H10 : Hid (Below W.heap.size W w10) := Lib.hid (H9.out.2.bel.trans (Below.mono (fb_below b10 H9.out.1.bel.size) H7.out.1.g.size))
            clear p10 b10 H9 c0 c1 c2 c3 c4
            go_wp2
            go_ret
            exact ⟨by simp, H10.out⟩
          · have hjl : j = m.length := by have := HF.out.2.1; omega
            have t3 : ((j : Int) == (m.length : Int)) = true := by rw [hjl]; simp
            have t3' : (j == m.length) = true := by rw [hjl]; simp
            clear hjm hjl
            go_wp2
            go_ret
            exact ⟨by simp, H9.out.2.bel⟩
theorem _root_.Go.Proofs.Ytmckpoeolfggmaa.tableBounds_walk (r : Int) (v1 v2 : Value) {W : World} (_ : (Lit.int .i64 r).wf = true) (h1 : ∃ A cap l, v1 = .slice A l.length cap ∧ l.length ≤ cap ∧ acE.Lo W W.heap.size A l ∧ ∀ n ∈ l, n.wf) (h2 : ∃ A cap l, v2 = .slice A l.length cap ∧ l.length ≤ cap ∧ (A = none → l.length = 0) ∧ EnAt NtV.nc W A l ∧ ∀ n ∈ l, n.wf) :
    Calls Try.prog 5 #[.int .i64 r, v1, v2] W fun x w' => x = .returned (.bool true) ∧ Below W.heap.size W w' := by
  obtain ⟨A, ca, l, rfl, hca, hA, hw⟩ := h1
  obtain ⟨Am, cm, m, rfl, -, -, hm, hmw⟩ := h2
  by_cases hg : YesT l m
  · exact main r A ca l Am cm m W ⟨hA, hw, Below.refl _ _⟩ hm hmw hg
  · exact early r A ca l Am cm m W ⟨hA, hw, Below.refl _ _⟩ hm hg
end tableBounds
end Go.Proofs.Ytmckpoeolfggmaa
