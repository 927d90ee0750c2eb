/- carracklaw15.TablePlays walked. No condition. -/
import Derived.WalkSpells
import Derived.Outline
import Derived.Deep.RegionHeld
import Derived.Deep.QuietTactic
import Derived.BigQuiet
import Derived.Test.YtmckpoeolfggmaaTwLaw
import Derived.Test.YtmckpoeolfggmaaNtSameI
import Derived.Test.YtmckpoeolfggmaaHeldMono
namespace Go.Proofs.Ytmckpoeolfggmaa
open Go.RowKit
set_option linter.unusedVariables false
namespace tablePlays
/-- a slot that a guard passed over -/
abbrev args (r : Int) (A : Option Addr) (ca : Nat) (l : List AcV) (f q : Int) (Am : Option Addr) (cm : Nat) (m : List NtV) : Array Value := #[.int .i64 r, .slice A l.length ca, .int .i64 f, .int .u64 q, .slice Am m.length cm]
set_option maxRecDepth 100000 in
set_option maxHeartbeats 1000000 in
theorem early (r f q : Int) (A : Option Addr) (ca : Nat) (l : List AcV) (Am : Option Addr) (cm : Nat) (m : List NtV) (W : World) (h : GrT W W A l) (hm : EnAt NtV.nc W Am m) (hno : ¬ YesT l m) :
    Calls Try.prog 3 #[.int .i64 r, .slice A l.length ca, .int .i64 f, .int .u64 q, .slice Am m.length cm] W fun x w' => x = .returned (.bool true) ∧ Below W.heap.size W w' := by
  have HG := Lib.hid (And.intro h (And.intro hno hm))
  clear h hno hm
  go_enter Try.func3, Try.ntmps3
  go_wp2_with fail
  refine (awake15 W).mono ?_
  rintro x w1 ⟨rfl, b1⟩
  have H1 : Hid (GrT W w1 A l ∧ EnAt NtV.nc w1 Am m) := Lib.hid ⟨HG.out.1.far b1, HG.out.2.2.below b1⟩
  clear b1
  by_cases hl : 100 < l.length
  · have d1 : decide ((100 : Int) < (l.length : Int)) = true := decide_eq_true (by omega)
    have d1' : decide (100 < l.length) = true := decide_eq_true hl
    clear hl
    go_wp2
    go_ret
    exact ⟨rfl, H1.out.1.bel⟩
  have d1 : decide ((100 : Int) < (l.length : Int)) = false := decide_eq_false (by omega)
  have d1' : decide (100 < l.length) = false := decide_eq_false hl
  have HL : Hid (l.length ≤ 100) := Lib.hid (by omega)
  clear hl
  go_wp2_with fail
  obtain ⟨N, hN⟩ : ∃ N, N = l.map AcV.n := ⟨_, rfl⟩
  have nn := notes15 A ca l w1 HL.out H1.out.1.at
  rw [← hN] at nn
  have HN := Lib.hid hN
  clear hN
  refine nn.mono ?_
  clear nn
  rintro x w2 ⟨A2, c2, rfl, hat, b2⟩
  have H2 : Hid (GrT W w2 A l ∧ EnAt NtV.nc w2 Am m ∧ EnAt NtV.nc w2 A2 N) := Lib.hid ⟨H1.out.1.far b2, H1.out.2.below b2, hat⟩
  clear b2 H1 hat
  go_wp2_with fail
  refine (few15 N A2 c2 w2 H2.out.2.2).mono ?_
  rintro x w2 ⟨rfl, rfl⟩
  by_cases f1 : FewN N
  · rw [decide_eq_true f1]
    have f2 : ¬ FewN m := fun h => HG.out.2.1 ⟨HL.out, by rw [← HN.out]; exact f1, h⟩
    have e2 := decide_eq_false f2
    clear f1 f2
    go_wp2_with fail
    refine (few15 m Am cm w2 H2.out.2.1).mono ?_
    rintro x w2 ⟨rfl, rfl⟩
    rw [e2]
    go_wp2
    go_ret
    exact ⟨rfl, H2.out.1.bel⟩
  · rw [decide_eq_false f1]
    clear f1
    go_wp2
    go_ret
    exact ⟨rfl, H2.out.1.bel⟩
/-- what a round keeps -/
structure Rnd (W w : World) (A : Option Addr) (l : List AcV) (Am : Option Addr) (m : List NtV) (r B1 B2 j : Nat) : Prop where
  g : GrT W w A l
  m : EnAt NtV.nc W Am m
  du : DuT (· < W.heap.size) w B1 B2 (actsT ⟨r, []⟩ (l.take j)) (actsT ⟨r, []⟩ (l.take j))
def NowC (w : World) (b o : Nat) (a : AcV) (B n cn : Nat) (An : Option Addr) : Prop := ActC w b o a ∧ w.cell? ⟨B, 0, none⟩ = some (.slice An n cn)
set_option maxRecDepth 100000 in
set_option maxHeartbeats 2000000 in
theorem main (r : Int) (f q : Int) (A : Option Addr) (ca : Nat) (l : List AcV) (Am : Option Addr) (cm : Nat) (m : List NtV) (W : World) (h : GrT W W A l) (hm : EnAt NtV.nc W Am m) (hmw : ∀ n ∈ m, n.wf) (hyes : YesT l m) (hfq : nmW (f, q)) :
    Calls Try.prog 3 #[.int .i64 r, .slice A l.length ca, .int .i64 f, .int .u64 q, .slice Am m.length cm] W fun x w' => x = .returned (.bool true) ∧ Below W.heap.size W w' := by
  have HG := Lib.hid (And.intro h (And.intro hyes (And.intro hm (And.intro hmw hfq))))
  have d1 : decide ((100 : Int) < (l.length : Int)) = false := decide_eq_false (by have := hyes.1; omega)
  have d1' : decide (100 < l.length) = false := decide_eq_false (by have := hyes.1; omega)
  have f1 := decide_eq_true hyes.2.1
  have f2 := decide_eq_true hyes.2.2
  have HL : Hid (l.length ≤ 100) := Lib.hid hyes.1
  clear h hyes hm hmw hfq
  go_enter Try.func3, Try.ntmps3
  go_wp2_with fail
  refine (awake15 W).mono ?_
  rintro x w1 ⟨rfl, b1⟩
  have H1 : Hid (GrT W w1 A l ∧ EnAt NtV.nc w1 Am m) := Lib.hid ⟨HG.out.1.far b1, HG.out.2.2.1.below b1⟩
  clear b1
  go_wp2_with fail
  obtain ⟨N, hN⟩ : ∃ N, N = l.map AcV.n := ⟨_, rfl⟩
  have nn := notes15 A ca l w1 HL.out H1.out.1.at
  rw [← hN] at nn
  have HN := Lib.hid hN
  clear hN
  refine nn.mono ?_
  clear nn
  rintro x w2 ⟨A2, c2, rfl, hat, b2⟩
  have H2 : Hid (GrT W w2 A l ∧ EnAt NtV.nc w2 Am m ∧ EnAt NtV.nc w2 A2 N) := Lib.hid ⟨H1.out.1.far b2, H1.out.2.below b2, hat⟩
  clear b2 H1 hat
  go_wp2_with fail
  refine (few15 N A2 c2 w2 H2.out.2.2).mono ?_
  rintro x w2 ⟨rfl, rfl⟩
  rw [show decide (FewN N) = true by rw [HN.out]; exact f1]
  go_wp2_with fail
  refine (few15 m Am cm w2 H2.out.2.1).mono ?_
  rintro x w2 ⟨rfl, rfl⟩
  rw [f2]
  clear f1 f2 d1 d1'
  by_cases hr : 1 ≤ r ∧ r ≤ 40
  case neg =>
    go_wp2_with fail
    refine (tb_new_bad r w2 hr).mono ?_
    rintro x w2 ⟨rfl, rfl⟩
    have HB := Lib.hid H2.out.1.bel
    by_cases r1 : r < 1
    · have e1 : decide (r < 1) = true := decide_eq_true r1
      clear hr r1 H2
      go_wp2
      go_ret
      exact ⟨rfl, HB.out⟩
    · have e1 : decide (r < 1) = false := decide_eq_false r1
      have e2 : decide (40 < r) = true := decide_eq_true (by omega)
      clear hr r1 H2
      go_wp2
      go_ret
      exact ⟨rfl, HB.out⟩
  obtain ⟨R, hR⟩ : ∃ R : Nat, r = (R : Int) := ⟨r.toNat, by omega⟩
  subst hR
  have HR40 : Hid (1 ≤ R ∧ R ≤ 40) := Lib.hid (by omega)
  have e1 : decide ((R : Int) < 1) = false := decide_eq_false (by omega)
  have e2 : decide ((40 : Int) < (R : Int)) = false := decide_eq_false (by omega)
  have e1' : decide (R < 1) = false := decide_eq_false (by omega)
  have e2' : decide (40 < R) = false := decide_eq_false (by omega)
  clear hr
  go_wp2_with fail
  refine (tb_new R w2 HR40.out.1 HR40.out.2).mono ?_
  rintro x w3 ⟨B1, rfl, p3, b3⟩
  have H4 : Hid (Rnd W (w3.alloc (.cells #[.slice none 0 0, .int .i64 (R : Int)] 35)) A l Am m R B1 w3.heap.size 0) := Lib.hid (by
    have hb := Kq.below_alloc w3 (.cells #[.slice none 0 0, .int .i64 (R : Int)] 35)
    exact ⟨(H2.out.1.far b3).far hb, HG.out.2.2.1, DuT.start H2.out.1.frw p3 b3.size (new_rt R w3) hb⟩)
  obtain ⟨B2, hB2⟩ : ∃ B2, B2 = w3.heap.size := ⟨_, rfl⟩
  clear p3 b3 H2
  go_wp2
  rw [← hB2] at H4 ⊢
  obtain ⟨w4, hw4⟩ : ∃ z, z = w3.alloc (.cells #[.slice none 0 0, .int .i64 (R : Int)] 35) := ⟨_, rfl⟩
  rw [← hw4] at H4 ⊢
  clear hw4 hB2 e1 e2 e1' e2'
  go_loopw [14] (fun i wr => ∃ j : Nat, j ≤ l.length ∧ i = .int .i64 (j : Int) ∧ Rnd W wr A l Am m R B1 B2 j) (fun i _ => l.length - (intOf i).toNat)
  case atStart => exact ⟨0, by omega, rfl, H4.out⟩
  case round =>
    obtain ⟨j, hj, rfl, hr⟩ := hrel
    have HR := Lib.hid hr
    have h60 := HL.out
    clear hr H4
    by_cases hlt : j < l.length
    · obtain ⟨b, off, rfl, hc⟩ := HR.out.g.act j hlt
      obtain ⟨a, ha⟩ : ∃ a, a = l[j] := ⟨_, rfl⟩
      rw [← ha] at hc
      have HC : Hid (∀ w', GrT W w' (some ⟨b, off, none⟩) l → ActC w' b (off + j * 6) a) := Lib.hid hc
      have HS := Lib.hid (actsT_take ⟨R, []⟩ l j hlt)
      rw [← ha] at HS
      have HWF : Hid a.wf := Lib.hid (by rw [ha]; exact HG.out.1.wf _ (List.getElem_mem hlt))
      have hi0 : (j : Int) < (l.length : Int) := by omega
      have t1 : decide ((j : Int) < (l.length : Int)) = true := decide_eq_true hi0
      have t2 : decide (j < l.length) = true := decide_eq_true hlt
      have HLT := Lib.hid hlt
      have hj6 : j ≤ 100 := by omega
      clear hlt ha hc hj h60
      obtain ⟨s, hs⟩ : ∃ s, s = actsT ⟨R, []⟩ (l.take j) := ⟨_, rfl⟩
      obtain ⟨s', hs'⟩ : ∃ s', s' = (actT s a).1 := ⟨_, rfl⟩
      obtain ⟨e, he⟩ : ∃ e, e = (actT s a).2 := ⟨_, rfl⟩
      have HQ : Hid (TbOk s ∧ TbOk s' ∧ actsT ⟨R, []⟩ (l.take (j + 1)) = s' ∧ DuT (· < W.heap.size) wr B1 B2 s s ∧ GrT W wr (some ⟨b, off, none⟩) l ∧ s'.l.length ≤ 40) := Lib.hid (by
        have h1 : TbOk s := by rw [hs]; exact actsT_ok _ _ (newT_ok R HR40.out.1 HR40.out.2) (fun a h => HG.out.1.wf a (List.mem_of_mem_take h))
        have h2 : TbOk s' := by rw [hs']; exact actT_ok h1 a HWF.out
        exact ⟨h1, h2, by rw [hs', hs]; exact HS.out, by rw [hs]; exact HR.out.du, HR.out.g, Nat.le_trans h2.len h2.r40⟩)
      have HS' := Lib.hid (And.intro hs' he)
      clear hs hs' he HS HR
      go_wp2
      refine wp_region_held_drew (S := fun w' => ActC w' b (off + j * 6) a) (by kernel_rfl) (HC.out _ (HQ.out.2.2.2.2.1.far (Below.refl _ _).drew)) (fun hS0 => ?_)
      obtain ⟨wd, hwd⟩ : ∃ z, z = wr.drew := ⟨_, rfl⟩
      rw [← hwd] at hS0 ⊢
      have HD : Hid (DuT (· < W.heap.size) wd B1 B2 s s ∧ GrT W wd (some ⟨b, off, none⟩) l) := Lib.hid (by rw [hwd]; exact ⟨HQ.out.2.2.2.1.below (Below.refl _ _).drew, HQ.out.2.2.2.2.1.far (Below.refl _ _).drew⟩)
      clear hwd
      unfold ActC at hS0
      dsimp only [ActC]
      refine wpAnyH_take (i := 0) (v := ?_) rfl (by kernel_rfl) (by kernel_rfl) (by kernel_rfl) (fun _ _ _ h => h) (Or.inl ⟨by kernel_rfl, ?_⟩) (by assumption) ?_
      rotate_left
      · intro w hSw; (try dsimp only at hSw); go_simp; (try with_reducible rfl)
      refine wpAnyH_take (i := 1) (v := ?_) rfl (by kernel_rfl) (by kernel_rfl) (by kernel_rfl) (fun _ _ _ h => h) (Or.inl ⟨by kernel_rfl, ?_⟩) (by assumption) ?_
      rotate_left
      · intro w hSw; (try dsimp only at hSw); go_simp; (try with_reducible rfl)
      refine wpAnyH_take (i := 2) (v := ?_) rfl (by kernel_rfl) (by kernel_rfl) (by kernel_rfl) (fun _ _ _ h => h) (Or.inl ⟨by kernel_rfl, ?_⟩) (by assumption) ?_
      rotate_left
      · intro w hSw; (try dsimp only at hSw); go_simp; (try with_reducible rfl)
      refine wpAnyH_take (i := 3) (v := ?_) rfl (by kernel_rfl) (by kernel_rfl) (by kernel_rfl) (fun _ _ _ h => h) (Or.inl ⟨by kernel_rfl, ?_⟩) (by assumption) ?_
      rotate_left
      · intro w hSw; (try dsimp only at hSw); go_simp; (try with_reducible rfl)
      refine wpAnyH_take (i := 4) (v := ?_) rfl (by kernel_rfl) (by kernel_rfl) (by kernel_rfl) (fun _ _ _ h => h) (Or.inl ⟨by kernel_rfl, ?_⟩) (by assumption) ?_
      rotate_left
      · intro w hSw; (try dsimp only at hSw); go_simp; (try with_reducible rfl)
      refine wpAnyH_take (i := 6) (v := ?_) rfl (by kernel_rfl) (by kernel_rfl) (by kernel_rfl) (fun _ _ _ h => h) (Or.inl ⟨by kernel_rfl, ?_⟩) (by assumption) ?_
      rotate_left
      · intro w hSw; (try dsimp only at hSw); go_simp; (try with_reducible rfl)
      refine wpAnyH_take (i := 7) (v := ?_) rfl (by kernel_rfl) (by kernel_rfl) (by kernel_rfl) (fun _ _ _ h => h) (Or.inl ⟨by kernel_rfl, ?_⟩) (by assumption) ?_
      rotate_left
      · intro w hSw; (try dsimp only at hSw); go_simp; (try with_reducible rfl)
      refine wpAnyH_take (i := 8) (v := ?_) rfl (by kernel_rfl) (by kernel_rfl) (by kernel_rfl) (fun _ _ _ h => h) (Or.inl ⟨by kernel_rfl, ?_⟩) (by assumption) ?_
      rotate_left
      · intro w hSw; (try dsimp only at hSw); go_simp; (try with_reducible rfl)
      refine wpAnyH_take (i := 9) (v := ?_) rfl (by kernel_rfl) (by kernel_rfl) (by kernel_rfl) (fun _ _ _ h => h) (Or.inl ⟨by kernel_rfl, ?_⟩) (by assumption) ?_
      rotate_left
      · intro w hSw; (try dsimp only at hSw); go_simp; (try with_reducible rfl)
      refine wpAnyH_take (i := 10) (v := ?_) rfl (by kernel_rfl) (by kernel_rfl) (by kernel_rfl) (fun _ _ _ h => h) (Or.inl ⟨by kernel_rfl, ?_⟩) (by assumption) ?_
      rotate_left
      · intro w hSw; (try dsimp only at hSw); go_simp; (try with_reducible rfl)
      refine wpAnyH_ready (rs := [5]) (by kernel_rfl) (by simp) ?_
      refine AllReadyH.cons rfl (fun K hK => ?_) AllReadyH.nil
      go_simp
      refine (du_do HD.out.1 HD.out.2.frw HQ.out.1 a HWF.out).mono ?_
      rintro x w5 ⟨p5, rfl, b5⟩
      rw [← HS'.out.1] at p5
      rw [← HS'.out.2]
      have H5 : Hid (DuT (· < W.heap.size) w5 B1 B2 s' s ∧ GrT W w5 (some ⟨b, off, none⟩) l) := Lib.hid ⟨p5, HD.out.2.near (fb_below b5 HD.out.2.size)⟩
      clear p5 b5 hS0 HD
      refine hK.out _ _ (HC.out _ H5.out.2) (fun hS0 => ?_)
      clear hK K
      refine wpAnyH_ready (rs := [11]) (by kernel_rfl) (by simp) ?_
      refine AllReadyH.cons rfl (fun K hK => ?_) AllReadyH.nil
      go_simp
      refine (dr_act H5.out.1 H5.out.2.frw HQ.out.1 a HWF.out).mono ?_
      rintro x w6 ⟨p6, rfl, b6⟩
      rw [← HS'.out.1] at p6
      rw [← HS'.out.2]
      have H6 : Hid (DuT (· < W.heap.size) w6 B1 B2 s' s' ∧ GrT W w6 (some ⟨b, off, none⟩) l) := Lib.hid ⟨p6, H5.out.2.near (fb_below b6 H5.out.2.size)⟩
      clear p6 b6 hS0 H5
      refine hK.out _ _ (HC.out _ H6.out.2) (fun hS0 => ?_)
      clear hK K
      obtain ⟨O1, O2, hp1, ⟨An, cn, hp⟩, htw⟩ := H6.out.1
      obtain ⟨n, hn⟩ : ∃ n, n = s'.l.length := ⟨_, rfl⟩
      have HNB : Hid (∀ w', Below w6.heap.size w6 w' → DuT (· < W.heap.size) w' B1 B2 s' s' ∧ GrT W w' (some ⟨b, off, none⟩) l ∧ NowC w' b (off + j * 6) a B2 n cn An ∧ EnAt NtV.ic w' An s'.l) := Lib.hid (fun w' hb => by
        have hp' := hp.keeps (keepsF (O := O2) hb) (fun _ _ h => h)
        exact ⟨H6.out.1.below hb, H6.out.2.far hb, ⟨HC.out _ (H6.out.2.far hb), by rw [hn]; exact hp'.c0⟩, hp'.at_⟩)
      have HN2 : Hid (n = s'.l.length) := Lib.hid hn
      clear hp1 hp htw hn
      refine Kq.wpAnyH_mono (S' := fun w' => NowC w' b (off + j * 6) a B2 n cn An) (fun w' h => h.1) _ _ _ _ ?_
      have e1 : (e != e) = false := by simp
      have e2 : ((n : Int) != (n : Int)) = false := by simp
      have e2' : (n != n) = false := by simp
      replace hS0 := (HNB.out _ (Below.refl _ _)).2.2.1
      unfold NowC ActC at hS0
      dsimp only [NowC, ActC]
      refine wpAnyH_take (i := 12) (v := ?_) rfl (by kernel_rfl) (by kernel_rfl) (by kernel_rfl) (fun _ _ _ h => h) (Or.inl ⟨by kernel_rfl, ?_⟩) (by assumption) ?_
      rotate_left
      · intro w hSw; (try dsimp only at hSw); go_simp; (try with_reducible rfl)
      refine wpAnyH_take (i := 13) (v := ?_) rfl (by kernel_rfl) (by kernel_rfl) (by kernel_rfl) (fun _ _ _ h => h) (Or.inl ⟨by kernel_rfl, ?_⟩) (by assumption) ?_
      rotate_left
      · intro w hSw; (try dsimp only at hSw); go_simp; (try with_reducible rfl)
      refine wpAnyH_take (i := 14) (v := ?_) rfl (by kernel_rfl) (by kernel_rfl) (by kernel_rfl) (fun _ _ _ h => h) (Or.inl ⟨by kernel_rfl, ?_⟩) (by assumption) ?_
      rotate_left
      · intro w hSw; (try dsimp only at hSw); go_simp; (try with_reducible rfl)
      refine wpAnyH_take (i := 16) (v := ?_) rfl (by kernel_rfl) (by kernel_rfl) (by kernel_rfl) (fun _ _ _ h => h) (Or.inl ⟨by kernel_rfl, ?_⟩) (by assumption) ?_
      rotate_left
      · intro w hSw; (try dsimp only at hSw); go_simp; (try with_reducible rfl)
      refine wpAnyH_take (i := 17) (v := ?_) rfl (by kernel_rfl) (by kernel_rfl) (by kernel_rfl) (fun _ _ _ h => h) (Or.inl ⟨by kernel_rfl, ?_⟩) (by assumption) ?_
      rotate_left
      · intro w hSw; (try dsimp only at hSw); go_simp; (try with_reducible rfl)
      refine wpAnyH_take (i := 18) (v := ?_) rfl (by kernel_rfl) (by kernel_rfl) (by kernel_rfl) (fun _ _ _ h => h) (Or.inl ⟨by kernel_rfl, ?_⟩) (by assumption) ?_
      rotate_left
      · intro w hSw; (try dsimp only at hSw); go_simp; (try with_reducible rfl)
      refine wpAnyH_take (i := 19) (v := ?_) rfl (by kernel_rfl) (by kernel_rfl) (by kernel_rfl) (fun _ _ _ h => h) (Or.inl ⟨by kernel_rfl, ?_⟩) (by assumption) ?_
      rotate_left
      · intro w hSw; (try dsimp only at hSw); go_simp; (try with_reducible rfl)
      refine wpAnyH_ready (rs := [15]) (by kernel_rfl) (by simp) ?_
      refine AllReadyH.cons rfl (fun K hK => ?_) AllReadyH.nil
      go_simp
      refine (ot_items H6.out.1.one HQ.out.2.1).mono ?_
      rintro x w7 ⟨v, rfl, ⟨A7, c7, rfl, hc7, hat7, -⟩, b7⟩
      have H7 : Hid (Below w6.heap.size w6 w7 ∧ EnAt NtV.ic w7 A7 s'.l) := Lib.hid ⟨b7, hat7⟩
      clear b7 hat7 hS0 hc7
      refine hK.out _ _ (HNB.out _ H7.out.1).2.2.1 (fun hS0 => ?_)
      clear hK K
      rw [← HN2.out]
      refine wpAnyH_ready (rs := [20]) (by kernel_rfl) (by simp) ?_
      refine AllReadyH.cons rfl (fun K hK => ?_) AllReadyH.nil
      go_simp
      have ss := same_items A7 An c7 cn s'.l w7 H7.out.2 (HNB.out _ H7.out.1).2.2.2 (by have := HQ.out.2.2.2.2.2; omega)
      rw [← HN2.out] at ss
      refine ss.mono ?_
      clear ss
      rintro x w8 ⟨rfl, b8⟩
      have H8 : Hid (Below w6.heap.size w6 w8) := Lib.hid (H7.out.1.trans (b8.mono H7.out.1.size))
      clear b8 hS0 H7
      refine hK.out _ _ (HNB.out _ H8.out).2.2.1 (fun hS0 => ?_)
      clear hK K
      refine wpAnyH_take (i := 21) (v := ?_) rfl (by kernel_rfl) (by kernel_rfl) (by kernel_rfl) (fun _ _ _ h => h) (Or.inl ⟨by kernel_rfl, ?_⟩) (by assumption) ?_
      rotate_left
      · intro w hSw; (try dsimp only at hSw); go_simp; (try with_reducible rfl)
      refine wpAnyH_take (i := 22) (v := ?_) rfl (by kernel_rfl) (by kernel_rfl) (by kernel_rfl) (fun _ _ _ h => h) (Or.inl ⟨by kernel_rfl, ?_⟩) (by assumption) ?_
      rotate_left
      · intro w hSw; (try dsimp only at hSw); go_simp; (try with_reducible rfl)
      refine wpAnyH_take (i := 23) (v := ?_) rfl (by kernel_rfl) (by kernel_rfl) (by kernel_rfl) (fun _ _ _ h => h) (Or.inl ⟨by kernel_rfl, ?_⟩) (by assumption) ?_
      rotate_left
      · intro w hSw; (try dsimp only at hSw); go_simp; (try with_reducible rfl)
      refine wpAnyH_take (i := 24) (v := ?_) rfl (by kernel_rfl) (by kernel_rfl) (by kernel_rfl) (fun _ _ _ h => h) (Or.inl ⟨by kernel_rfl, ?_⟩) (by assumption) ?_
      rotate_left
      · intro w hSw; (try dsimp only at hSw); go_simp; (try with_reducible rfl)
      refine wpAnyH_take (i := 26) (v := ?_) rfl (by kernel_rfl) (by kernel_rfl) (by kernel_rfl) (fun _ _ _ h => h) (Or.inl ⟨by kernel_rfl, ?_⟩) (by assumption) ?_
      rotate_left
      · intro w hSw; (try dsimp only at hSw); go_simp; (try with_reducible rfl)
      refine wpAnyH_take (i := 27) (v := ?_) rfl (by kernel_rfl) (by kernel_rfl) (by kernel_rfl) (fun _ _ _ h => h) (Or.inl ⟨by kernel_rfl, ?_⟩) (by assumption) ?_
      rotate_left
      · intro w hSw; (try dsimp only at hSw); go_simp; (try with_reducible rfl)
      refine wpAnyH_take (i := 28) (v := ?_) rfl (by kernel_rfl) (by kernel_rfl) (by kernel_rfl) (fun _ _ _ h => h) (Or.inl ⟨by kernel_rfl, ?_⟩) (by assumption) ?_
      rotate_left
      · intro w hSw; (try dsimp only at hSw); go_simp; (try with_reducible rfl)
      refine wpAnyH_take (i := 29) (v := ?_) rfl (by kernel_rfl) (by kernel_rfl) (by kernel_rfl) (fun _ _ _ h => h) (Or.inl ⟨by kernel_rfl, ?_⟩) (by assumption) ?_
      rotate_left
      · intro w hSw; (try dsimp only at hSw); go_simp; (try with_reducible rfl)
      refine wpAnyH_take (i := 30) (v := ?_) rfl (by kernel_rfl) (by kernel_rfl) (by kernel_rfl) (fun _ _ _ h => h) (Or.inl ⟨by kernel_rfl, ?_⟩) (by assumption) ?_
      rotate_left
      · intro w hSw; (try dsimp only at hSw); go_simp; (try with_reducible rfl)
      refine wpAnyH_ready (rs := [25]) (by kernel_rfl) (by simp) ?_
      refine AllReadyH.cons rfl (fun K hK => ?_) AllReadyH.nil
      go_simp
      refine (ot_len (HNB.out _ H8.out).1.one).mono ?_
      rintro x w8 ⟨rfl, rfl⟩
      rw [← HN2.out]
      refine hK.out _ _ (HNB.out _ H8.out).2.2.1 (fun hS0 => ?_)
      clear hK K
      refine wpAnyH_take (i := 31) (v := ?_) rfl (by kernel_rfl) (by kernel_rfl) (by kernel_rfl) (fun _ _ _ h => h) (Or.inl ⟨by kernel_rfl, ?_⟩) (by assumption) ?_
      rotate_left
      · intro w hSw; (try dsimp only at hSw); go_simp; (try with_reducible rfl)
      refine wpAnyH_take (i := 32) (v := ?_) rfl (by kernel_rfl) (by kernel_rfl) (by kernel_rfl) (fun _ _ _ h => h) (Or.inl ⟨by kernel_rfl, ?_⟩) (by assumption) ?_
      rotate_left
      · intro w hSw; (try dsimp only at hSw); go_simp; (try with_reducible rfl)
      refine wpAnyH_done (by kernel_rfl) ?_ _
      clear hS0
      have H9 : Hid (DuT (· < W.heap.size) w8 B1 B2 s' s' ∧ GrT W w8 (some ⟨b, off, none⟩) l) := Lib.hid ⟨(HNB.out _ H8.out).1, (HNB.out _ H8.out).2.1⟩
      clear H8 HNB H6
      go_simp
      go_wp2_with fail
      refine (ot_get H9.out.1.one f q HG.out.2.2.2.2).mono ?_
      rintro x w9 ⟨rfl, b9⟩
      obtain ⟨y, hy⟩ : ∃ y, y = (tbR.look s'.l (f, q)).getD itZ := ⟨_, rfl⟩
      obtain ⟨z, hz⟩ : ∃ z, z = (tbR.look s'.l (f, q)).isSome := ⟨_, rfl⟩
      rw [← hy, ← hz]
      have HYZ := Lib.hid (And.intro hy hz)
      have H10 : Hid (DuT (· < W.heap.size) w9 B1 B2 s' s' ∧ GrT W w9 (some ⟨b, off, none⟩) l) := Lib.hid ⟨H9.out.1.below b9, H9.out.2.far b9⟩
      clear b9 hy hz H9
      obtain ⟨yk, yf, yq, yt, yd⟩ := y
      have H11 : Hid (DuT (· < W.heap.size) (w9.alloc (.cells #[.int .i64 yf, .int .u64 yq, .int .u64 yt, .string yd, .int .i64 yk] 48)) B1 B2 s' s' ∧ GrT W (w9.alloc (.cells #[.int .i64 yf, .int .u64 yq, .int .u64 yt, .string yd, .int .i64 yk] 48)) (some ⟨b, off, none⟩) l ∧ (w9.alloc (.cells #[.int .i64 yf, .int .u64 yq, .int .u64 yt, .string yd, .int .i64 yk] 48)).heap[w9.heap.size]? = some (.cells #[.int .i64 yf, .int .u64 yq, .int .u64 yt, .string yd, .int .i64 yk] 48 (0, 0))) := Lib.hid (by
        have hb := Kq.below_alloc w9 (.cells #[.int .i64 yf, .int .u64 yq, .int .u64 yt, .string yd, .int .i64 yk] 48)
        exact ⟨H10.out.1.below hb, H10.out.2.far hb, Kq.blk_new w9 _ _ _⟩)
      clear H10
      simp only [itV]
      go_wp2_with fail
      obtain ⟨X, hX⟩ : ∃ X, X = w9.heap.size := ⟨_, rfl⟩
      rw [← hX] at H11 ⊢
      obtain ⟨w10, hw10⟩ : ∃ z, z = w9.alloc (.cells #[.int .i64 yf, .int .u64 yq, .int .u64 yt, .string yd, .int .i64 yk] 48) := ⟨_, rfl⟩
      rw [← hw10] at H11 ⊢
      clear hw10 hX
      refine (dr_get H11.out.1 HQ.out.2.1 f q).mono ?_
      rintro x w11 ⟨rfl, b11⟩
      rw [← HYZ.out.1, ← HYZ.out.2]
      have hb11 := Kq.below_alloc w11 (.cells #[.int .i64 yf, .int .u64 yq, .int .u64 yt, .string yd, .int .i64 yk] 48)
      have H12 : Hid (Rnd W (w11.alloc (.cells #[.int .i64 yf, .int .u64 yq, .int .u64 yt, .string yd, .int .i64 yk] 48)) (some ⟨b, off, none⟩) l Am m R B1 B2 (j + 1)) := Lib.hid ⟨(H11.out.2.1.far b11).far hb11, HG.out.2.2.1, by rw [HQ.out.2.2.1]; exact (H11.out.1.below b11).below hb11⟩
      have HXB : Hid (w11.heap[X]? = some (.cells #[.int .i64 yf, .int .u64 yq, .int .u64 yt, .string yd, .int .i64 yk] 48 (0, 0))) := Lib.hid (Kq.below_blk b11 H11.out.2.2 (Kq.blk_lt H11.out.2.2))
      have hXB := Kq.below_blk hb11 HXB.out (Kq.blk_lt HXB.out)
      have x0 := Kq.blk_cell hXB 0
      have x1 := Kq.blk_cell hXB 1
      have x2 := Kq.blk_cell hXB 2
      have x3 := Kq.blk_cell hXB 3
      have x4 := Kq.blk_cell hXB 4
      have nq := fun w => it_neq yk yf yq yt yd w
      have zz : (z != z) = false := by simp
      clear b11 hb11 hXB HXB H11
      simp only [itV]
      go_wp2
      go_roundw
      case rel => exact ⟨j + 1, HLT.out, by go_num, H12.out⟩
      case measure => have := HLT.out; simp [intOf]; omega
    · obtain rfl : j = l.length := by omega
      have d0 : decide ((l.length : Int) < (l.length : Int)) = false := decide_eq_false (by omega)
      clear hlt hj h60
      obtain ⟨s, hs⟩ : ∃ s, s = actsT ⟨R, []⟩ (l.take l.length) := ⟨_, rfl⟩
      have HQ : Hid (TbOk s ∧ DuT (· < W.heap.size) wr B1 B2 s s ∧ GrT W wr A l ∧ s.l.length ≤ 40 ∧ s.room = R) := Lib.hid (by
        have h1 : TbOk s := by rw [hs]; exact actsT_ok _ _ (newT_ok R HR40.out.1 HR40.out.2) (fun a h => HG.out.1.wf a (List.mem_of_mem_take h))
        exact ⟨h1, by rw [hs]; exact HR.out.du, HR.out.g, Nat.le_trans h1.len h1.r40, by rw [hs]; exact actsT_room _ _⟩)
      clear hs HR
      go_wp2_with fail
      refine (ot_copy HQ.out.2.1.one).mono ?_
      rintro x w5 ⟨B', rfl, p5, b5⟩
      have H5 : Hid (DuT (· < W.heap.size) w5 B1 B2 s s ∧ OwnT W w5 B' s ∧ GrT W w5 A l) := Lib.hid ⟨HQ.out.2.1.below b5, OwnT.start HQ.out.2.2.1.bel p5 b5, HQ.out.2.2.1.far b5⟩
      clear p5 b5
      go_wp2
      obtain ⟨wd, hwd⟩ : ∃ z, z = w5.drew := ⟨_, rfl⟩
      have H6 : Hid (DuT (· < W.heap.size) wd B1 B2 s s ∧ OwnT W wd B' s ∧ GrT W wd A l) := Lib.hid (by
        have hb : Below w5.heap.size w5 w5.drew := (Below.refl _ _).drew
        rw [hwd]; exact ⟨H5.out.1.below hb, H5.out.2.1.far hb, H5.out.2.2.far hb⟩)
      obtain ⟨O1, O2, hp1, ⟨An, cn, hp⟩, htw⟩ := H6.out.1
      obtain ⟨n, hn⟩ : ∃ n, n = s.l.length := ⟨_, rfl⟩
      have HNB : Hid (∀ w', Below wd.heap.size wd w' → OneT (· < W.heap.size) w' B1 s ∧ DuT (· < W.heap.size) w' B1 B2 s s ∧ OwnT W w' B' s ∧ GrT W w' A l ∧ w'.cell? ⟨B2, 0, none⟩ = some (.slice An n cn) ∧ EnAt NtV.ic w' An s.l ∧ EnAt NtV.nc w' Am m) := Lib.hid (fun w' hb => by
        have hp' := hp.keeps (keepsF (O := O2) hb) (fun _ _ h => h)
        exact ⟨(H6.out.1.below hb).one, H6.out.1.below hb, H6.out.2.1.far hb, H6.out.2.2.far hb, by rw [hn]; exact hp'.c0, hp'.at_, HG.out.2.2.1.below (H6.out.2.2.far hb).bel⟩)
      have HN2 : Hid (n = s.l.length) := Lib.hid hn
      obtain ⟨F, hF⟩ : ∃ F, F = fitV s m := ⟨_, rfl⟩
      have HF := Lib.hid hF
      have HM : Hid (m.length ≤ 1000000) := Lib.hid (by have := HG.out.2.1.2.2.1; omega)
      clear hp1 hp htw hn H6 H5 hF
      refine wp_region_held_drew (S := fun w' => w'.cell? ⟨B2, 0, none⟩ = some (.slice An n cn)) (by kernel_rfl) (by rw [← hwd]; exact (HNB.out _ (Below.refl _ _)).2.2.2.2.1) (fun hS0 => ?_)
      rw [← hwd] at hS0 ⊢
      clear hwd
      have e1 : ((F : Int) == (F : Int)) = true := by simp
      have e1' : (F == F) = true := by simp
      have e2 : ((R : Int) == (R : Int)) = true := by simp
      have e2' : (R == R) = true := by simp
      refine wpAnyH_take (i := 0) (v := ?_) rfl (by kernel_rfl) (by kernel_rfl) (by kernel_rfl) (fun _ _ _ h => h) (Or.inl ⟨by kernel_rfl, ?_⟩) (by assumption) ?_
      rotate_left
      · intro w hSw; (try dsimp only at hSw); go_simp; (try with_reducible rfl)
      refine wpAnyH_take (i := 1) (v := ?_) rfl (by kernel_rfl) (by kernel_rfl) (by kernel_rfl) (fun _ _ _ h => h) (Or.inl ⟨by kernel_rfl, ?_⟩) (by assumption) ?_
      rotate_left
      · intro w hSw; (try dsimp only at hSw); go_simp; (try with_reducible rfl)
      refine wpAnyH_take (i := 2) (v := ?_) rfl (by kernel_rfl) (by kernel_rfl) (by kernel_rfl) (fun _ _ _ h => h) (Or.inl ⟨by kernel_rfl, ?_⟩) (by assumption) ?_
      rotate_left
      · intro w hSw; (try dsimp only at hSw); go_simp; (try with_reducible rfl)
      refine wpAnyH_take (i := 3) (v := ?_) rfl (by kernel_rfl) (by kernel_rfl) (by kernel_rfl) (fun _ _ _ h => h) (Or.inl ⟨by kernel_rfl, ?_⟩) (by assumption) ?_
      rotate_left
      · intro w hSw; (try dsimp only at hSw); go_simp; (try with_reducible rfl)
      refine wpAnyH_take (i := 4) (v := ?_) rfl (by kernel_rfl) (by kernel_rfl) (by kernel_rfl) (fun _ _ _ h => h) (Or.inl ⟨by kernel_rfl, ?_⟩) (by assumption) ?_
      rotate_left
      · intro w hSw; (try dsimp only at hSw); go_simp; (try with_reducible rfl)
      refine wpAnyH_take (i := 6) (v := ?_) rfl (by kernel_rfl) (by kernel_rfl) (by kernel_rfl) (fun _ _ _ h => h) (Or.inl ⟨by kernel_rfl, ?_⟩) (by assumption) ?_
      rotate_left
      · intro w hSw; (try dsimp only at hSw); go_simp; (try with_reducible rfl)
      refine wpAnyH_take (i := 7) (v := ?_) rfl (by kernel_rfl) (by kernel_rfl) (by kernel_rfl) (fun _ _ _ h => h) (Or.inl ⟨by kernel_rfl, ?_⟩) (by assumption) ?_
      rotate_left
      · intro w hSw; (try dsimp only at hSw); go_simp; (try with_reducible rfl)
      refine wpAnyH_ready (rs := [5]) (by kernel_rfl) (by simp) ?_
      refine AllReadyH.cons rfl (fun K hK => ?_) AllReadyH.nil
      go_simp
      refine (ot_fit (HNB.out _ (Below.refl _ _)).1 HQ.out.1 m Am cm (HNB.out _ (Below.refl _ _)).2.2.2.2.2.2 HG.out.2.2.2.1 HM.out).mono ?_
      rintro x w6 ⟨rfl, b6⟩
      rw [← HF.out]
      have H6 := Lib.hid b6
      clear b6 hS0
      refine hK.out _ _ (HNB.out _ H6.out).2.2.2.2.1 (fun hS0 => ?_)
      clear hK K
      refine wpAnyH_ready (rs := [8]) (by kernel_rfl) (by simp) ?_
      refine AllReadyH.cons rfl (fun K hK => ?_) AllReadyH.nil
      go_simp
      refine (dr_fit (HNB.out _ H6.out).2.1 HQ.out.1 m Am cm (HNB.out _ H6.out).2.2.2.2.2.2 HG.out.2.2.2.1 HM.out).mono ?_
      rintro x w7 ⟨rfl, b7⟩
      rw [← HF.out]
      have H7 := Lib.hid (H6.out.trans (b7.mono H6.out.size))
      clear b7 hS0 H6
      refine hK.out _ _ (HNB.out _ H7.out).2.2.2.2.1 (fun hS0 => ?_)
      clear hK K
      refine wpAnyH_take (i := 9) (v := ?_) rfl (by kernel_rfl) (by kernel_rfl) (by kernel_rfl) (fun _ _ _ h => h) (Or.inl ⟨by kernel_rfl, ?_⟩) (by assumption) ?_
      rotate_left
      · intro w hSw; (try dsimp only at hSw); go_simp; (try with_reducible rfl)
      refine wpAnyH_take (i := 10) (v := ?_) rfl (by kernel_rfl) (by kernel_rfl) (by kernel_rfl) (fun _ _ _ h => h) (Or.inl ⟨by kernel_rfl, ?_⟩) (by assumption) ?_
      rotate_left
      · intro w hSw; (try dsimp only at hSw); go_simp; (try with_reducible rfl)
      refine wpAnyH_take (i := 11) (v := ?_) rfl (by kernel_rfl) (by kernel_rfl) (by kernel_rfl) (fun _ _ _ h => h) (Or.inl ⟨by kernel_rfl, ?_⟩) (by assumption) ?_
      rotate_left
      · intro w hSw; (try dsimp only at hSw); go_simp; (try with_reducible rfl)
      refine wpAnyH_take (i := 12) (v := ?_) rfl (by kernel_rfl) (by kernel_rfl) (by kernel_rfl) (fun _ _ _ h => h) (Or.inl ⟨by kernel_rfl, ?_⟩) (by assumption) ?_
      rotate_left
      · intro w hSw; (try dsimp only at hSw); go_simp; (try with_reducible rfl)
      refine wpAnyH_take (i := 14) (v := ?_) rfl (by kernel_rfl) (by kernel_rfl) (by kernel_rfl) (fun _ _ _ h => h) (Or.inl ⟨by kernel_rfl, ?_⟩) (by assumption) ?_
      rotate_left
      · intro w hSw; (try dsimp only at hSw); go_simp; (try with_reducible rfl)
      refine wpAnyH_take (i := 15) (v := ?_) rfl (by kernel_rfl) (by kernel_rfl) (by kernel_rfl) (fun _ _ _ h => h) (Or.inl ⟨by kernel_rfl, ?_⟩) (by assumption) ?_
      rotate_left
      · intro w hSw; (try dsimp only at hSw); go_simp; (try with_reducible rfl)
      refine wpAnyH_take (i := 16) (v := ?_) rfl (by kernel_rfl) (by kernel_rfl) (by kernel_rfl) (fun _ _ _ h => h) (Or.inl ⟨by kernel_rfl, ?_⟩) (by assumption) ?_
      rotate_left
      · intro w hSw; (try dsimp only at hSw); go_simp; (try with_reducible rfl)
      refine wpAnyH_take (i := 17) (v := ?_) rfl (by kernel_rfl) (by kernel_rfl) (by kernel_rfl) (fun _ _ _ h => h) (Or.inl ⟨by kernel_rfl, ?_⟩) (by assumption) ?_
      rotate_left
      · intro w hSw; (try dsimp only at hSw); go_simp; (try with_reducible rfl)
      refine wpAnyH_ready (rs := [13]) (by kernel_rfl) (by simp) ?_
      refine AllReadyH.cons rfl (fun K hK => ?_) AllReadyH.nil
      go_simp
      refine (ot_items (HNB.out _ H7.out).1 HQ.out.1).mono ?_
      rintro x w8 ⟨v, rfl, ⟨A8, c8, rfl, -, hat8, -⟩, b8⟩
      have H8 : Hid (Below wd.heap.size wd w8 ∧ EnAt NtV.ic w8 A8 s.l) := Lib.hid ⟨H7.out.trans (b8.mono H7.out.size), hat8⟩
      clear b8 hat8 hS0 H7
      refine hK.out _ _ (HNB.out _ H8.out.1).2.2.2.2.1 (fun hS0 => ?_)
      clear hK K
      rw [← HN2.out]
      refine wpAnyH_ready (rs := [18]) (by kernel_rfl) (by simp) ?_
      refine AllReadyH.cons rfl (fun K hK => ?_) AllReadyH.nil
      go_simp
      have ss := same_items A8 An c8 cn s.l w8 H8.out.2 (HNB.out _ H8.out.1).2.2.2.2.2.1 (by have := HQ.out.2.2.2.1; omega)
      rw [← HN2.out] at ss
      refine ss.mono ?_
      clear ss
      rintro x w9 ⟨rfl, b9⟩
      have H9 := Lib.hid (H8.out.1.trans (b9.mono H8.out.1.size))
      clear b9 hS0 H8
      refine hK.out _ _ (HNB.out _ H9.out).2.2.2.2.1 (fun hS0 => ?_)
      clear hK K
      refine wpAnyH_take (i := 19) (v := ?_) rfl (by kernel_rfl) (by kernel_rfl) (by kernel_rfl) (fun _ _ _ h => h) (Or.inl ⟨by kernel_rfl, ?_⟩) (by assumption) ?_
      rotate_left
      · intro w hSw; (try dsimp only at hSw); go_simp; (try with_reducible rfl)
      refine wpAnyH_take (i := 20) (v := ?_) rfl (by kernel_rfl) (by kernel_rfl) (by kernel_rfl) (fun _ _ _ h => h) (Or.inl ⟨by kernel_rfl, ?_⟩) (by assumption) ?_
      rotate_left
      · intro w hSw; (try dsimp only at hSw); go_simp; (try with_reducible rfl)
      refine wpAnyH_take (i := 21) (v := ?_) rfl (by kernel_rfl) (by kernel_rfl) (by kernel_rfl) (fun _ _ _ h => h) (Or.inl ⟨by kernel_rfl, ?_⟩) (by assumption) ?_
      rotate_left
      · intro w hSw; (try dsimp only at hSw); go_simp; (try with_reducible rfl)
      refine wpAnyH_take (i := 23) (v := ?_) rfl (by kernel_rfl) (by kernel_rfl) (by kernel_rfl) (fun _ _ _ h => h) (Or.inl ⟨by kernel_rfl, ?_⟩) (by assumption) ?_
      rotate_left
      · intro w hSw; (try dsimp only at hSw); go_simp; (try with_reducible rfl)
      refine wpAnyH_take (i := 24) (v := ?_) rfl (by kernel_rfl) (by kernel_rfl) (by kernel_rfl) (fun _ _ _ h => h) (Or.inl ⟨by kernel_rfl, ?_⟩) (by assumption) ?_
      rotate_left
      · intro w hSw; (try dsimp only at hSw); go_simp; (try with_reducible rfl)
      refine wpAnyH_take (i := 25) (v := ?_) rfl (by kernel_rfl) (by kernel_rfl) (by kernel_rfl) (fun _ _ _ h => h) (Or.inl ⟨by kernel_rfl, ?_⟩) (by assumption) ?_
      rotate_left
      · intro w hSw; (try dsimp only at hSw); go_simp; (try with_reducible rfl)
      refine wpAnyH_take (i := 26) (v := ?_) rfl (by kernel_rfl) (by kernel_rfl) (by kernel_rfl) (fun _ _ _ h => h) (Or.inl ⟨by kernel_rfl, ?_⟩) (by assumption) ?_
      rotate_left
      · intro w hSw; (try dsimp only at hSw); go_simp; (try with_reducible rfl)
      refine wpAnyH_ready (rs := [22]) (by kernel_rfl) (by simp) ?_
      refine AllReadyH.cons rfl (fun K hK => ?_) AllReadyH.nil
      go_simp
      refine (ot_items (HNB.out _ H9.out).2.2.1.tb HQ.out.1).mono ?_
      rintro x w10 ⟨v, rfl, ⟨A10, c10, rfl, -, hat10, -⟩, b10⟩
      have H10 : Hid (Below wd.heap.size wd w10 ∧ EnAt NtV.ic w10 A10 s.l) := Lib.hid ⟨H9.out.trans (b10.mono H9.out.size), hat10⟩
      clear b10 hat10 hS0 H9
      refine hK.out _ _ (HNB.out _ H10.out.1).2.2.2.2.1 (fun hS0 => ?_)
      clear hK K
      rw [← HN2.out]
      refine wpAnyH_ready (rs := [27]) (by kernel_rfl) (by simp) ?_
      refine AllReadyH.cons rfl (fun K hK => ?_) AllReadyH.nil
      go_simp
      have ss := same_items A10 An c10 cn s.l w10 H10.out.2 (HNB.out _ H10.out.1).2.2.2.2.2.1 (by have := HQ.out.2.2.2.1; omega)
      rw [← HN2.out] at ss
      refine ss.mono ?_
      clear ss
      rintro x w11 ⟨rfl, b11⟩
      have H11 := Lib.hid (H10.out.1.trans (b11.mono H10.out.1.size))
      clear b11 hS0 H10
      refine hK.out _ _ (HNB.out _ H11.out).2.2.2.2.1 (fun hS0 => ?_)
      clear hK K
      refine wpAnyH_take (i := 28) (v := ?_) rfl (by kernel_rfl) (by kernel_rfl) (by kernel_rfl) (fun _ _ _ h => h) (Or.inl ⟨by kernel_rfl, ?_⟩) (by assumption) ?_
      rotate_left
      · intro w hSw; (try dsimp only at hSw); go_simp; (try with_reducible rfl)
      refine wpAnyH_take (i := 29) (v := ?_) rfl (by kernel_rfl) (by kernel_rfl) (by kernel_rfl) (fun _ _ _ h => h) (Or.inl ⟨by kernel_rfl, ?_⟩) (by assumption) ?_
      rotate_left
      · intro w hSw; (try dsimp only at hSw); go_simp; (try with_reducible rfl)
      refine wpAnyH_take (i := 30) (v := ?_) rfl (by kernel_rfl) (by kernel_rfl) (by kernel_rfl) (fun _ _ _ h => h) (Or.inl ⟨by kernel_rfl, ?_⟩) (by assumption) ?_
      rotate_left
      · intro w hSw; (try dsimp only at hSw); go_simp; (try with_reducible rfl)
      refine wpAnyH_take (i := 32) (v := ?_) rfl (by kernel_rfl) (by kernel_rfl) (by kernel_rfl) (fun _ _ _ h => h) (Or.inl ⟨by kernel_rfl, ?_⟩) (by assumption) ?_
      rotate_left
      · intro w hSw; (try dsimp only at hSw); go_simp; (try with_reducible rfl)
      refine wpAnyH_ready (rs := [31]) (by kernel_rfl) (by simp) ?_
      refine AllReadyH.cons rfl (fun K hK => ?_) AllReadyH.nil
      go_simp
      refine (ot_room (HNB.out _ H11.out).1).mono ?_
      rintro x w11 ⟨rfl, rfl⟩
      rw [HQ.out.2.2.2.2]
      refine hK.out _ _ (HNB.out _ H11.out).2.2.2.2.1 (fun hS0 => ?_)
      clear hK K
      refine wpAnyH_take (i := 33) (v := ?_) rfl (by kernel_rfl) (by kernel_rfl) (by kernel_rfl) (fun _ _ _ h => h) (Or.inl ⟨by kernel_rfl, ?_⟩) (by assumption) ?_
      rotate_left
      · intro w hSw; (try dsimp only at hSw); go_simp; (try with_reducible rfl)
      refine wpAnyH_take (i := 34) (v := ?_) rfl (by kernel_rfl) (by kernel_rfl) (by kernel_rfl) (fun _ _ _ h => h) (Or.inl ⟨by kernel_rfl, ?_⟩) (by assumption) ?_
      rotate_left
      · intro w hSw; (try dsimp only at hSw); go_simp; (try with_reducible rfl)
      refine wpAnyH_take (i := 35) (v := ?_) rfl (by kernel_rfl) (by kernel_rfl) (by kernel_rfl) (fun _ _ _ h => h) (Or.inl ⟨by kernel_rfl, ?_⟩) (by assumption) ?_
      rotate_left
      · intro w hSw; (try dsimp only at hSw); go_simp; (try with_reducible rfl)
      refine wpAnyH_take (i := 36) (v := ?_) rfl (by kernel_rfl) (by kernel_rfl) (by kernel_rfl) (fun _ _ _ h => h) (Or.inl ⟨by kernel_rfl, ?_⟩) (by assumption) ?_
      rotate_left
      · intro w hSw; (try dsimp only at hSw); go_simp; (try with_reducible rfl)
      refine wpAnyH_take (i := 38) (v := ?_) rfl (by kernel_rfl) (by kernel_rfl) (by kernel_rfl) (fun _ _ _ h => h) (Or.inl ⟨by kernel_rfl, ?_⟩) (by assumption) ?_
      rotate_left
      · intro w hSw; (try dsimp only at hSw); go_simp; (try with_reducible rfl)
      refine wpAnyH_ready (rs := [37]) (by kernel_rfl) (by simp) ?_
      refine AllReadyH.cons rfl (fun K hK => ?_) AllReadyH.nil
      go_simp
      refine (ot_room (HNB.out _ H11.out).2.2.1.tb).mono ?_
      rintro x w11 ⟨rfl, rfl⟩
      rw [HQ.out.2.2.2.2]
      refine hK.out _ _ (HNB.out _ H11.out).2.2.2.2.1 (fun hS0 => ?_)
      clear hK K
      refine wpAnyH_take (i := 39) (v := ?_) rfl (by kernel_rfl) (by kernel_rfl) (by kernel_rfl) (fun _ _ _ h => h) (Or.inl ⟨by kernel_rfl, ?_⟩) (by assumption) ?_
      rotate_left
      · intro w hSw; (try dsimp only at hSw); go_simp; (try with_reducible rfl)
      refine wpAnyH_take (i := 40) (v := ?_) rfl (by kernel_rfl) (by kernel_rfl) (by kernel_rfl) (fun _ _ _ h => h) (Or.inl ⟨by kernel_rfl, ?_⟩) (by assumption) ?_
      rotate_left
      · intro w hSw; (try dsimp only at hSw); go_simp; (try with_reducible rfl)
      refine wpAnyH_take (i := 41) (v := ?_) rfl (by kernel_rfl) (by kernel_rfl) (by kernel_rfl) (fun _ _ _ h => h) (Or.inl ⟨by kernel_rfl, ?_⟩) (by assumption) ?_
      rotate_left
      · intro w hSw; (try dsimp only at hSw); go_simp; (try with_reducible rfl)
      refine wpAnyH_done (by kernel_rfl) ?_ _
      clear hS0
      go_simp
      go_wp2
      go_ret
      exact ⟨by simp, (HNB.out _ H11.out).2.2.2.1.bel⟩
theorem _root_.Go.Proofs.Ytmckpoeolfggmaa.tablePlays_walk (r : Int) (v1 : Value) (f q : Int) (v4 : Value) {W : World} (_ : (Lit.int .i64 r).wf = true) (h1 : ∃ A cap l, v1 = .slice A l.length cap ∧ l.length ≤ cap ∧ acE.Lo W W.heap.size A l ∧ ∀ n ∈ l, n.wf) (wf : (Lit.int .i64 f).wf = true) (wq : (Lit.int .u64 q).wf = true) (h4 : ∃ A cap l, v4 = .slice A l.length cap ∧ l.length ≤ cap ∧ (A = none → l.length = 0) ∧ EnAt NtV.nc W A l ∧ ∀ n ∈ l, n.wf) :
    Calls Try.prog 3 #[.int .i64 r, v1, .int .i64 f, .int .u64 q, v4] W fun x w' => x = .returned (.bool true) ∧ Below W.heap.size W w' := by
  obtain ⟨A, ca, l, rfl, hca, hA, hw⟩ := h1
  obtain ⟨Am, cm, m, rfl, -, -, hm, hmw⟩ := h4
  by_cases hg : YesT l m
  · exact main r f q A ca l Am cm m W ⟨hA, hw, Below.refl _ _⟩ hm hmw hg ⟨wf, wq⟩
  · exact early r f q A ca l Am cm m W ⟨hA, hw, Below.refl _ _⟩ hm hg
end tablePlays
end Go.Proofs.Ytmckpoeolfggmaa
