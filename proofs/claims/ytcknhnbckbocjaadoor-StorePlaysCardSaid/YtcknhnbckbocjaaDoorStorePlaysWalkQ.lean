/- carracklaw11.StorePlays walked. Condition: the constants lie where they lie. -/
import Derived.WalkSpells
import Derived.Outline
import Derived.Deep.RegionHeld
import Derived.Deep.QuietTactic
import Derived.BigQuiet
import Derived.Test.YtcknhnbckbocjaaDoorStTwoQ
import Derived.Test.YtcknhnbckbocjaaDoorStRPairsQ
import Derived.Test.YtcknhnbckbocjaaDoorHeldLastQ
namespace Go.Proofs.YtcknhnbckbocjaaDoor
open Go.RowKit
set_option linter.unusedVariables false
namespace storePlays
def Yes (l : List ActV) (k : ByteArray) : Prop := Few11 l ∧ k.size ≤ 300
set_option maxRecDepth 100000 in
set_option maxHeartbeats 1000000 in
theorem early (f H : Nat) (k : ByteArray) (A : Option Addr) (ca : Nat) (l : List ActV) (W : World) (h : Gr W W A l) (hno : ¬ Yes l k) :
    Calls Tryd.prog 3 #[.int .u64 (f : Int), .slice A l.length ca, .string k, .int .u64 (H : Int)] W fun x w' => x = .returned (.bool true) ∧ Below W.heap.size W w' := by
  have HG := Lib.hid (And.intro h hno)
  clear h hno
  go_enter Tryd.func3, Tryd.ntmps3
  go_wp2_with fail
  refine (awake11 W).mono ?_
  rintro x w1 ⟨rfl, b1⟩
  have H1 := Lib.hid (HG.out.1.far b1)
  clear b1
  go_wp2_with fail
  refine (few11 l A ca w1 H1.out.at).mono ?_
  rintro x w1 ⟨rfl, rfl⟩
  by_cases f1 : Few11 l
  · rw [decide_eq_true f1]
    have k1 : 300 < k.size := Nat.lt_of_not_le (fun h => HG.out.2 ⟨f1, h⟩)
    have d1 : decide ((300 : Int) < (k.size : Int)) = true := decide_eq_true (by omega)
    have d1' : decide (300 < k.size) = true := decide_eq_true k1
    clear f1 k1
    go_wp2
    go_ret
    exact ⟨rfl, H1.out.bel⟩
  · rw [decide_eq_false f1]
    clear f1
    go_wp2
    go_ret
    exact ⟨rfl, H1.out.bel⟩
/-- what a round keeps -/
def Rnd (W w : World) (A : Option Addr) (l : List ActV) (f B1 B2 j : Nat) : Prop := Gr W w A l ∧ Both W w B1 B2 (runV f l j)
def ActB (w : World) (b o : Nat) (a : ActV) : Prop := w.cell? ⟨b, o, none⟩ = some (.int .i64 a.kd) ∧ w.cell? ⟨b, o + 1, none⟩ = some (.string a.k) ∧ w.cell? ⟨b, o + 2, none⟩ = some (.string a.v)
def NowB (w : World) (b o : Nat) (a : ActV) (B m cn q cb : Nat) (An Ab : Option Addr) : Prop := ActB w b o a ∧ w.cell? ⟨B, 0, none⟩ = some (.slice An m cn) ∧ w.cell? ⟨B, 2, none⟩ = some (.slice Ab q cb)
theorem bo_rheight {W w : World} {B1 B2 : Nat} {s : StV} (h : Both W w B1 B2 s) (hs : StOk s) : Calls Tryd.prog 14 #[.pointer (some ⟨B2, 0, none⟩)] w fun x w' => x = .returned (.int .u64 (s.height : Int)) ∧ ∃ n, w' = w.drewN n := by
  obtain ⟨O, h1, _⟩ := h.two
  exact sr_height w O B2 s h1 hs
theorem bo_rget {W w : World} {B1 B2 : Nat} {s : StV} (h : Both W w B1 B2 s) (hs : StOk s) (k : ByteArray) : Calls Tryd.prog 18 #[.pointer (some ⟨B2, 0, none⟩), .string k] w fun x w' => x = .returned (.tuple #[.string ((lk s.now k).getD ⟨#[]⟩), .bool (lk s.now k).isSome]) ∧ ∃ n, w' = w.drewN n := by
  obtain ⟨O, h1, _⟩ := h.two
  exact sr_get w O B2 s k h1 hs
theorem bo_rat {W w : World} {B1 B2 : Nat} {s : StV} (h : Both W w B1 B2 s) (hs : StOk s) (H : Nat) (hH : H < 18446744073709551616) : Calls Tryd.prog 20 #[.pointer (some ⟨B2, 0, none⟩), .int .u64 (H : Int)] w fun x w' => (∃ A c, x = .returned (.tuple #[.slice A (atV s H).1.length c, .int .i64 (atV s H).2]) ∧ PsAt w A (atV s H).1) ∧ ∃ n, w' = w.drewN n := by
  obtain ⟨O, h1, _⟩ := h.two
  exact (sr_at w O B2 s H hH h1 hs).mono (fun x w' hx => by
    obtain ⟨⟨A, c, e, h2, h3⟩, h4⟩ := hx
    exact ⟨⟨A, c, e, h2.at_⟩, h4⟩)
set_option maxRecDepth 100000 in
set_option maxHeartbeats 2000000 in
theorem main (f H : Nat) (k : ByteArray) (A : Option Addr) (ca : Nat) (l : List ActV) (W : World) (h : Gr W W A l) (hyes : Yes l k) (hf : f < 18446744073709551616) (hH : H < 18446744073709551616) :
    Calls Tryd.prog 3 #[.int .u64 (f : Int), .slice A l.length ca, .string k, .int .u64 (H : Int)] W fun x w' => x = .returned (.bool true) ∧ Below W.heap.size W w' := by
  have HG := Lib.hid (And.intro h hyes)
  have hk := hyes.2
  have d0 := decide_eq_true hyes.1
  have d1 : decide ((300 : Int) < (k.size : Int)) = false := decide_eq_false (by omega)
  have d1' : decide (300 < k.size) = false := decide_eq_false (by omega)
  have HF := Lib.hid (And.intro hf hH)
  have HL : Hid (l.length ≤ 60) := Lib.hid hyes.1.1
  have HK : Hid (k.size ≤ maxLen) := Lib.hid (by unfold maxLen; omega)
  clear h hyes hk hf hH
  go_enter Tryd.func3, Tryd.ntmps3
  go_wp2_with fail
  refine (awake11 W).mono ?_
  rintro x w1 ⟨rfl, b1⟩
  have H1 := Lib.hid (HG.out.1.far b1)
  clear b1
  go_wp2_with fail
  refine (few11 l A ca w1 H1.out.at).mono ?_
  rintro x w1 ⟨rfl, rfl⟩
  rw [d0]
  go_wp2_with fail
  refine (st_new f w1).mono ?_
  rintro x w2 ⟨B1, rfl, p2, b2⟩
  have H2 := Lib.hid (And.intro p2 (H1.out.far b2))
  clear p2 b2 d0 d1 d1'
  go_wp2_with fail
  refine (sr_new f w2).mono ?_
  rintro x w3 ⟨B2, rfl, p3, b3⟩
  have H3 : Hid (Rnd W w3 A l f B1 B2 0) := Lib.hid ⟨H2.out.2.far b3, Duo.start H2.out.1 (fun k hk => ⟨Nat.not_lt.2 (Nat.le_trans H1.out.size hk.1), hk.2⟩) (fun k hk => Nat.lt_of_lt_of_le hk H2.out.2.size) p3 b3⟩
  clear p3 b3 H2 H1
  go_wp2
  go_loopw [11] (fun i wr => ∃ j : Nat, j ≤ l.length ∧ i = .int .i64 (j : Int) ∧ Rnd W wr A l f B1 B2 j) (fun i _ => l.length - (intOf i).toNat)
  case atStart => exact ⟨0, by omega, rfl, H3.out⟩
  case round =>
    obtain ⟨j, hj, rfl, hr⟩ := hrel
    have HR := Lib.hid hr
    have h60 := HL.out
    clear hr H3
    by_cases hlt : j < l.length
    · obtain ⟨b, off, rfl, hc⟩ := HR.out.1.acts_ j hlt
      obtain ⟨a, ha⟩ : ∃ a, a = l[j] := ⟨_, rfl⟩
      rw [← ha] at hc
      have HA : Hid (a.k.size ≤ 300 ∧ a.v.size ≤ 300) := Lib.hid (by rw [ha]; exact HG.out.2.1.2 _ (List.getElem_mem hlt))
      have HC : Hid (∀ w', Gr W w' (some ⟨b, off, none⟩) l → ActB w' b (off + j * 3) a) := Lib.hid hc
      have hi0 : (j : Int) < (l.length : Int) := by omega
      have HS := Lib.hid (runV_succ f l j hlt)
      rw [← ha] at HS
      have HLT := Lib.hid hlt
      have hj6 : j ≤ 60 := by omega
      clear hlt ha hc hj h60
      obtain ⟨s, hs⟩ : ∃ s, s = runV f l j := ⟨_, rfl⟩
      obtain ⟨s', hs'⟩ : ∃ s', s' = actV s a.kd a.k a.v := ⟨_, rfl⟩
      have HQ : Hid (StOk s ∧ StOk s' ∧ runV f l (j + 1) = s' ∧ Both W wr B1 B2 s ∧ Gr W wr (some ⟨b, off, none⟩) l) := Lib.hid (by rw [hs', hs]; exact ⟨runV_ok HF.out.1 l j, actV_ok (runV_ok HF.out.1 l j) _ _ _, HS.out, HR.out.2, HR.out.1⟩)
      have HS' := Lib.hid hs'
      clear hs hs' HS HR
      go_wp2
      refine wp_region_held_drew (S := fun w' => ActB w' b (off + j * 3) a) (by kernel_rfl) (HC.out _ (HQ.out.2.2.2.2.far (Below.refl _ _).drew)) (fun hS0 => ?_)
      obtain ⟨wd, hwd⟩ : ∃ z, z = wr.drew := ⟨_, rfl⟩
      rw [← hwd] at hS0 ⊢
      have HD : Hid (Both W wd B1 B2 s ∧ Gr W wd (some ⟨b, off, none⟩) l) := Lib.hid (by rw [hwd]; exact ⟨HQ.out.2.2.2.1.below (Below.refl _ _).drew, HQ.out.2.2.2.2.far (Below.refl _ _).drew⟩)
      clear hwd
      unfold ActB at hS0
      dsimp only [ActB]
      refine wpAnyH_take (i := 0) (v := ?_) rfl (by kernel_rfl) (by kernel_rfl) (by kernel_rfl) (fun _ _ _ h => h) (Or.inl ⟨by kernel_rfl, ?_⟩) (by assumption) ?_
      rotate_left
      · intro w hSw; (try dsimp only at hSw); go_simp; (try with_reducible rfl)
      refine wpAnyH_take (i := 1) (v := ?_) rfl (by kernel_rfl) (by kernel_rfl) (by kernel_rfl) (fun _ _ _ h => h) (Or.inl ⟨by kernel_rfl, ?_⟩) (by assumption) ?_
      rotate_left
      · intro w hSw; (try dsimp only at hSw); go_simp; (try with_reducible rfl)
      refine wpAnyH_take (i := 2) (v := ?_) rfl (by kernel_rfl) (by kernel_rfl) (by kernel_rfl) (fun _ _ _ h => h) (Or.inl ⟨by kernel_rfl, ?_⟩) (by assumption) ?_
      rotate_left
      · intro w hSw; (try dsimp only at hSw); go_simp; (try with_reducible rfl)
      refine wpAnyH_take (i := 3) (v := ?_) rfl (by kernel_rfl) (by kernel_rfl) (by kernel_rfl) (fun _ _ _ h => h) (Or.inl ⟨by kernel_rfl, ?_⟩) (by assumption) ?_
      rotate_left
      · intro w hSw; (try dsimp only at hSw); go_simp; (try with_reducible rfl)
      refine wpAnyH_take (i := 4) (v := ?_) rfl (by kernel_rfl) (by kernel_rfl) (by kernel_rfl) (fun _ _ _ h => h) (Or.inl ⟨by kernel_rfl, ?_⟩) (by assumption) ?_
      rotate_left
      · intro w hSw; (try dsimp only at hSw); go_simp; (try with_reducible rfl)
      refine wpAnyH_take (i := 5) (v := ?_) rfl (by kernel_rfl) (by kernel_rfl) (by kernel_rfl) (fun _ _ _ h => h) (Or.inl ⟨by kernel_rfl, ?_⟩) (by assumption) ?_
      rotate_left
      · intro w hSw; (try dsimp only at hSw); go_simp; (try with_reducible rfl)
      refine wpAnyH_ready (rs := [6]) (by kernel_rfl) (by simp) ?_
      refine AllReadyH.cons rfl (fun K hK => ?_) AllReadyH.nil
      go_simp
      refine (bo_do HD.out.1 HD.out.2.size HQ.out.1 a HA.out.1 HA.out.2).mono ?_
      rintro x w5 ⟨rfl, p5, b5⟩
      have H5 := Lib.hid (And.intro p5 (HD.out.2.near b5))
      rw [← HS'.out] at H5
      clear p5 b5 hS0 HD
      refine hK.out _ _ (HC.out _ H5.out.2) (fun hS0 => ?_)
      clear hK K
      obtain ⟨O2, hO2, hO2'⟩ := H5.out.1.two
      obtain ⟨An, cn, Ab, cb, hp⟩ := hO2
      have HNB : Hid (∀ w', Below w5.heap.size w5 w' → Both W w' B1 B2 s' ∧ Gr W w' (some ⟨b, off, none⟩) l ∧ NowB w' b (off + j * 3) a B2 s'.now.length cn s'.blks.length cb An Ab) := Lib.hid (fun w' hb => by
        have hlt := Kq.blk_lt hp.blk
        exact ⟨H5.out.1.below hb, H5.out.2.far hb, HC.out _ (H5.out.2.far hb), (hb.cell (p := ⟨B2, 0, none⟩) hlt).trans hp.c0, (hb.cell (p := ⟨B2, 2, none⟩) hlt).trans hp.c2⟩)
      clear hp hO2'
      obtain ⟨m, hm⟩ : ∃ m, m = s'.now.length := ⟨_, rfl⟩
      obtain ⟨q, hq⟩ : ∃ q, q = s'.blks.length := ⟨_, rfl⟩
      obtain ⟨t, ht⟩ : ∃ t, t = s'.height := ⟨_, rfl⟩
      rw [← hm, ← hq] at HNB
      have HMQ := Lib.hid (And.intro hm (And.intro hq ht))
      clear hm hq ht
      refine Kq.wpAnyH_mono (S' := fun w' => NowB w' b (off + j * 3) a B2 m cn q cb An Ab) (fun w' h => h.1) _ _ _ _ ?_
      have e1 : ((t : Int) != (t : Int)) = false := by simp
      have e2 : ((m : Int) != (m : Int)) = false := by simp
      have e3 : ((q : Int) != (q : Int)) = false := by simp
      replace hS0 := (HNB.out _ (Below.refl _ _)).2.2
      unfold NowB ActB at hS0
      dsimp only [NowB, ActB]
      refine wpAnyH_take (i := 7) (v := ?_) rfl (by kernel_rfl) (by kernel_rfl) (by kernel_rfl) (fun _ _ _ h => h) (Or.inl ⟨by kernel_rfl, ?_⟩) (by assumption) ?_
      rotate_left
      · intro w hSw; (try dsimp only at hSw); go_simp; (try with_reducible rfl)
      refine wpAnyH_take (i := 8) (v := ?_) rfl (by kernel_rfl) (by kernel_rfl) (by kernel_rfl) (fun _ _ _ h => h) (Or.inl ⟨by kernel_rfl, ?_⟩) (by assumption) ?_
      rotate_left
      · intro w hSw; (try dsimp only at hSw); go_simp; (try with_reducible rfl)
      refine wpAnyH_take (i := 9) (v := ?_) rfl (by kernel_rfl) (by kernel_rfl) (by kernel_rfl) (fun _ _ _ h => h) (Or.inl ⟨by kernel_rfl, ?_⟩) (by assumption) ?_
      rotate_left
      · intro w hSw; (try dsimp only at hSw); go_simp; (try with_reducible rfl)
      refine wpAnyH_take (i := 11) (v := ?_) rfl (by kernel_rfl) (by kernel_rfl) (by kernel_rfl) (fun _ _ _ h => h) (Or.inl ⟨by kernel_rfl, ?_⟩) (by assumption) ?_
      rotate_left
      · intro w hSw; (try dsimp only at hSw); go_simp; (try with_reducible rfl)
      refine wpAnyH_ready (rs := [10]) (by kernel_rfl) (by simp) ?_
      refine AllReadyH.cons rfl (fun K hK => ?_) AllReadyH.nil
      go_simp
      refine (bo_height H5.out.1).mono ?_
      rintro x w5 ⟨rfl, rfl⟩
      rw [← HMQ.out.2.2]
      refine hK.out _ _ (HNB.out _ (Below.refl _ _)).2.2 (fun hS0 => ?_)
      clear hK K
      refine wpAnyH_ready (rs := [12]) (by kernel_rfl) (by simp) ?_
      refine AllReadyH.cons rfl (fun K hK => ?_) AllReadyH.nil
      go_simp
      refine (bo_rheight H5.out.1 HQ.out.2.1).mono ?_
      rintro x w6 ⟨rfl, n6, hw6⟩
      have H6 : Hid (Below w5.heap.size w5 w6) := Lib.hid (by rw [hw6]; exact below_drewN (Below.refl _ _) _)
      clear hw6 hS0
      rw [← HMQ.out.2.2]
      refine hK.out _ _ (HNB.out _ H6.out).2.2 (fun hS0 => ?_)
      clear hK K
      refine wpAnyH_take (i := 13) (v := ?_) rfl (by kernel_rfl) (by kernel_rfl) (by kernel_rfl) (fun _ _ _ h => h) (Or.inl ⟨by kernel_rfl, ?_⟩) (by assumption) ?_
      rotate_left
      · intro w hSw; (try dsimp only at hSw); go_simp; (try with_reducible rfl)
      refine wpAnyH_take (i := 14) (v := ?_) rfl (by kernel_rfl) (by kernel_rfl) (by kernel_rfl) (fun _ _ _ h => h) (Or.inl ⟨by kernel_rfl, ?_⟩) (by assumption) ?_
      rotate_left
      · intro w hSw; (try dsimp only at hSw); go_simp; (try with_reducible rfl)
      refine wpAnyH_take (i := 15) (v := ?_) rfl (by kernel_rfl) (by kernel_rfl) (by kernel_rfl) (fun _ _ _ h => h) (Or.inl ⟨by kernel_rfl, ?_⟩) (by assumption) ?_
      rotate_left
      · intro w hSw; (try dsimp only at hSw); go_simp; (try with_reducible rfl)
      refine wpAnyH_take (i := 16) (v := ?_) rfl (by kernel_rfl) (by kernel_rfl) (by kernel_rfl) (fun _ _ _ h => h) (Or.inl ⟨by kernel_rfl, ?_⟩) (by assumption) ?_
      rotate_left
      · intro w hSw; (try dsimp only at hSw); go_simp; (try with_reducible rfl)
      refine wpAnyH_take (i := 18) (v := ?_) rfl (by kernel_rfl) (by kernel_rfl) (by kernel_rfl) (fun _ _ _ h => h) (Or.inl ⟨by kernel_rfl, ?_⟩) (by assumption) ?_
      rotate_left
      · intro w hSw; (try dsimp only at hSw); go_simp; (try with_reducible rfl)
      refine wpAnyH_take (i := 19) (v := ?_) rfl (by kernel_rfl) (by kernel_rfl) (by kernel_rfl) (fun _ _ _ h => h) (Or.inl ⟨by kernel_rfl, ?_⟩) (by assumption) ?_
      rotate_left
      · intro w hSw; (try dsimp only at hSw); go_simp; (try with_reducible rfl)
      refine wpAnyH_take (i := 20) (v := ?_) rfl (by kernel_rfl) (by kernel_rfl) (by kernel_rfl) (fun _ _ _ h => h) (Or.inl ⟨by kernel_rfl, ?_⟩) (by assumption) ?_
      rotate_left
      · intro w hSw; (try dsimp only at hSw); go_simp; (try with_reducible rfl)
      refine wpAnyH_take (i := 21) (v := ?_) rfl (by kernel_rfl) (by kernel_rfl) (by kernel_rfl) (fun _ _ _ h => h) (Or.inl ⟨by kernel_rfl, ?_⟩) (by assumption) ?_
      rotate_left
      · intro w hSw; (try dsimp only at hSw); go_simp; (try with_reducible rfl)
      refine wpAnyH_take (i := 22) (v := ?_) rfl (by kernel_rfl) (by kernel_rfl) (by kernel_rfl) (fun _ _ _ h => h) (Or.inl ⟨by kernel_rfl, ?_⟩) (by assumption) ?_
      rotate_left
      · intro w hSw; (try dsimp only at hSw); go_simp; (try with_reducible rfl)
      refine wpAnyH_ready (rs := [17]) (by kernel_rfl) (by simp) ?_
      refine AllReadyH.cons rfl (fun K hK => ?_) AllReadyH.nil
      go_simp
      refine (bo_len (HNB.out _ H6.out).1).mono ?_
      rintro x w6 ⟨rfl, rfl⟩
      rw [← HMQ.out.1]
      refine hK.out _ _ (HNB.out _ H6.out).2.2 (fun hS0 => ?_)
      clear hK K
      refine wpAnyH_take (i := 23) (v := ?_) rfl (by kernel_rfl) (by kernel_rfl) (by kernel_rfl) (fun _ _ _ h => h) (Or.inl ⟨by kernel_rfl, ?_⟩) (by assumption) ?_
      rotate_left
      · intro w hSw; (try dsimp only at hSw); go_simp; (try with_reducible rfl)
      refine wpAnyH_take (i := 24) (v := ?_) rfl (by kernel_rfl) (by kernel_rfl) (by kernel_rfl) (fun _ _ _ h => h) (Or.inl ⟨by kernel_rfl, ?_⟩) (by assumption) ?_
      rotate_left
      · intro w hSw; (try dsimp only at hSw); go_simp; (try with_reducible rfl)
      refine wpAnyH_take (i := 25) (v := ?_) rfl (by kernel_rfl) (by kernel_rfl) (by kernel_rfl) (fun _ _ _ h => h) (Or.inl ⟨by kernel_rfl, ?_⟩) (by assumption) ?_
      rotate_left
      · intro w hSw; (try dsimp only at hSw); go_simp; (try with_reducible rfl)
      refine wpAnyH_take (i := 26) (v := ?_) rfl (by kernel_rfl) (by kernel_rfl) (by kernel_rfl) (fun _ _ _ h => h) (Or.inl ⟨by kernel_rfl, ?_⟩) (by assumption) ?_
      rotate_left
      · intro w hSw; (try dsimp only at hSw); go_simp; (try with_reducible rfl)
      refine wpAnyH_take (i := 28) (v := ?_) rfl (by kernel_rfl) (by kernel_rfl) (by kernel_rfl) (fun _ _ _ h => h) (Or.inl ⟨by kernel_rfl, ?_⟩) (by assumption) ?_
      rotate_left
      · intro w hSw; (try dsimp only at hSw); go_simp; (try with_reducible rfl)
      refine wpAnyH_take (i := 29) (v := ?_) rfl (by kernel_rfl) (by kernel_rfl) (by kernel_rfl) (fun _ _ _ h => h) (Or.inl ⟨by kernel_rfl, ?_⟩) (by assumption) ?_
      rotate_left
      · intro w hSw; (try dsimp only at hSw); go_simp; (try with_reducible rfl)
      refine wpAnyH_take (i := 30) (v := ?_) rfl (by kernel_rfl) (by kernel_rfl) (by kernel_rfl) (fun _ _ _ h => h) (Or.inl ⟨by kernel_rfl, ?_⟩) (by assumption) ?_
      rotate_left
      · intro w hSw; (try dsimp only at hSw); go_simp; (try with_reducible rfl)
      refine wpAnyH_take (i := 31) (v := ?_) rfl (by kernel_rfl) (by kernel_rfl) (by kernel_rfl) (fun _ _ _ h => h) (Or.inl ⟨by kernel_rfl, ?_⟩) (by assumption) ?_
      rotate_left
      · intro w hSw; (try dsimp only at hSw); go_simp; (try with_reducible rfl)
      refine wpAnyH_take (i := 32) (v := ?_) rfl (by kernel_rfl) (by kernel_rfl) (by kernel_rfl) (fun _ _ _ h => h) (Or.inl ⟨by kernel_rfl, ?_⟩) (by assumption) ?_
      rotate_left
      · intro w hSw; (try dsimp only at hSw); go_simp; (try with_reducible rfl)
      refine wpAnyH_ready (rs := [27]) (by kernel_rfl) (by simp) ?_
      refine AllReadyH.cons rfl (fun K hK => ?_) AllReadyH.nil
      go_simp
      refine (bo_blocks (HNB.out _ H6.out).1).mono ?_
      rintro x w6 ⟨rfl, rfl⟩
      rw [← HMQ.out.2.1]
      refine hK.out _ _ (HNB.out _ H6.out).2.2 (fun hS0 => ?_)
      clear hK K
      refine wpAnyH_take (i := 33) (v := ?_) rfl (by kernel_rfl) (by kernel_rfl) (by kernel_rfl) (fun _ _ _ h => h) (Or.inl ⟨by kernel_rfl, ?_⟩) (by assumption) ?_
      rotate_left
      · intro w hSw; (try dsimp only at hSw); go_simp; (try with_reducible rfl)
      refine wpAnyH_take (i := 34) (v := ?_) rfl (by kernel_rfl) (by kernel_rfl) (by kernel_rfl) (fun _ _ _ h => h) (Or.inl ⟨by kernel_rfl, ?_⟩) (by assumption) ?_
      rotate_left
      · intro w hSw; (try dsimp only at hSw); go_simp; (try with_reducible rfl)
      refine wpAnyH_done (by kernel_rfl) ?_ _
      clear hS0
      have H7 : Hid (Both W w6 B1 B2 s' ∧ Gr W w6 (some ⟨b, off, none⟩) l) := Lib.hid ⟨(HNB.out _ H6.out).1, (HNB.out _ H6.out).2.1⟩
      clear H6 HNB H5
      go_simp
      go_wp2_with fail
      refine (bo_get H7.out.1 k HK.out).mono ?_
      rintro x w6 ⟨rfl, rfl⟩
      obtain ⟨u, hu⟩ : ∃ u, u = (lk s'.now k).getD ⟨#[]⟩ := ⟨_, rfl⟩
      obtain ⟨z, hz⟩ : ∃ z, z = (lk s'.now k).isSome := ⟨_, rfl⟩
      rw [← hu, ← hz]
      have HUZ := Lib.hid (And.intro hu hz)
      clear hu hz
      go_wp2_with fail
      refine (bo_rget H7.out.1 HQ.out.2.1 k).mono ?_
      rintro x w8 ⟨rfl, n8, hw8⟩
      rw [← HUZ.out.1, ← HUZ.out.2]
      have H8 : Hid (Both W w8 B1 B2 s' ∧ Gr W w8 (some ⟨b, off, none⟩) l) := Lib.hid (by rw [hw8]; exact ⟨H7.out.1.drewN _, H7.out.2.drewN _⟩)
      clear hw8 H7
      obtain ⟨L, hL⟩ : ∃ L, L = (atV s' H).1 := ⟨_, rfl⟩
      obtain ⟨E, hE⟩ : ∃ E, E = (atV s' H).2 := ⟨_, rfl⟩
      have HLE : Hid (L = (atV s' H).1 ∧ E = (atV s' H).2 ∧ L.length ≤ 1000000) := Lib.hid ⟨hL, hE, by have := (atV_small HQ.out.2.1 H).1; rw [hL]; omega⟩
      clear hL hE
      go_wp2_with fail
      refine (bo_at H8.out.1 HQ.out.2.1 H HF.out.2).mono ?_
      rintro x w9 ⟨v, rfl, ⟨A9, c9, rfl, -, ps9, -⟩, b9⟩
      rw [← HLE.out.1] at ps9
      rw [← HLE.out.1, ← HLE.out.2.1]
      have H9 : Hid (Both W w9 B1 B2 s' ∧ Gr W w9 (some ⟨b, off, none⟩) l ∧ PsAt w9 A9 L) := Lib.hid ⟨H8.out.1.below b9, H8.out.2.far b9, ps9⟩
      clear b9 ps9 H8
      go_wp2_with fail
      refine (bo_rat H9.out.1 HQ.out.2.1 H HF.out.2).mono ?_
      rintro x w10 ⟨⟨C, cc, rfl, ps10⟩, n10, hw10⟩
      rw [← HLE.out.1] at ps10
      rw [← HLE.out.1, ← HLE.out.2.1]
      have H10 : Hid (Both W w10 B1 B2 s' ∧ Gr W w10 (some ⟨b, off, none⟩) l ∧ PsAt w10 A9 L ∧ PsAt w10 C L) := Lib.hid (by rw [hw10]; exact ⟨H9.out.1.drewN _, H9.out.2.1.drewN _, H9.out.2.2.below (below_drewN (Below.refl _ _) _), ps10.below (below_drewN (Below.refl _ _) _)⟩)
      clear hw10 ps10 H9
      have t1 : (u.toList == u.toList) = true := by simp
      have t2 : (z != z) = false := by simp
      have t3 : (E != E) = false := by simp
      go_wp2_with fail
      refine (sr_pairs L A9 C c9 cc w10 HLE.out.2.2 H10.out.2.2.1 H10.out.2.2.2).mono ?_
      rintro x w11 ⟨rfl, n11, hw11⟩
      have H11 : Hid (Rnd W w11 (some ⟨b, off, none⟩) l f B1 B2 (j + 1)) := Lib.hid (by unfold Rnd; rw [hw11, HQ.out.2.2.1]; exact ⟨H10.out.2.1.drewN _, H10.out.1.drewN _⟩)
      clear hw11 H10
      go_wp2
      go_roundw
      case rel => exact ⟨j + 1, HLT.out, by go_num, H11.out⟩
      case measure => have := HLT.out; simp [intOf]; omega
    · obtain rfl : j = l.length := by omega
      have d0 : decide ((l.length : Int) < (l.length : Int)) = false := decide_eq_false (by omega)
      have HFW := Lib.hid (runV_few HF.out.1 l l.length)
      clear hlt hj h60
      obtain ⟨s, hs⟩ : ∃ s, s = runV f l l.length := ⟨_, rfl⟩
      have HQ : Hid (StOk s ∧ Both W wr B1 B2 s ∧ Gr W wr A l ∧ (atV s H).1.length ≤ 60) := Lib.hid (by rw [hs]; exact ⟨runV_ok HF.out.1 l _, HR.out.2, HR.out.1, Nat.le_trans (atV_few HFW.out H) HL.out⟩)
      clear hs HR HFW
      obtain ⟨R, hR⟩ : ∃ R, R = (rootV s H).1 := ⟨_, rfl⟩
      obtain ⟨E, hE⟩ : ∃ E, E = (rootV s H).2 := ⟨_, rfl⟩
      have HRE := Lib.hid (And.intro hR hE)
      clear hR hE
      go_wp2_with fail
      refine (bo_root HQ.out.2.1 HQ.out.1 H HF.out.2 HQ.out.2.2.1.ok).mono ?_
      rintro x w5 ⟨rfl, b5⟩
      rw [← HRE.out.1, ← HRE.out.2]
      have H5 : Hid (Both W w5 B1 B2 s ∧ Gr W w5 A l) := Lib.hid ⟨HQ.out.2.1.below b5, HQ.out.2.2.1.far b5⟩
      clear b5
      go_wp2_with fail
      refine (r_booknewW w5).mono ?_
      rintro x w6 ⟨P, rfl, bk, b6⟩
      obtain ⟨O, hO, hOl⟩ := H5.out.1.two
      have H6 : Hid (RefP w6 O B2 s ∧ (∀ k, O k → k < w5.heap.size) ∧ BookW w6 w5.heap.size w6.heap.size P [] ∧ w5.heap.size ≤ w6.heap.size ∧ Gr W w6 A l) := Lib.hid ⟨hO.below b6, fun k hk => (hOl k hk).2, bk, b6.size, H5.out.2.far b6⟩
      clear hO hOl bk b6
      have t1 : (R.toList == R.toList) = true := by simp
      have t3 : (E == E) = true := by simp
      go_wp2_with fail
      refine (sr_root w6 O B2 s H w5.heap.size w6.heap.size P [] HF.out.2 H6.out.1 HQ.out.1 H6.out.2.2.1 (Nat.le_refl _) H6.out.2.2.2.1 H6.out.2.1 (by have := HQ.out.2.2.2; simp; omega)).mono ?_
      rintro x w7 ⟨rfl, hk7⟩
      rw [← HRE.out.1, ← HRE.out.2]
      have H7 : Hid (Below W.heap.size W w7) := Lib.hid (H6.out.2.2.2.2.bel.trans (Kq.Keeps.below hk7 H6.out.2.2.2.2.size (fun k _ h => Nat.le_trans H5.out.2.size h.1)))
      clear hk7 H6 H5
      go_wp2
      go_ret
      exact ⟨by simp, H7.out⟩
theorem _root_.Go.Proofs.YtcknhnbckbocjaaDoor.storePlays_walk (f : Int) (v1 : Value) (k : ByteArray) (H : Int) {W : World} (wf0 : (Lit.int .u64 f).wf = true) (h1 : ∃ A cap l, v1 = .slice A l.length cap ∧ l.length ≤ cap ∧ AcE.Lo W W.heap.size A l) (_ : k.size ≤ maxLen) (wf2 : (Lit.int .u64 H).wf = true) (w : World) (e : W = w) (hL : LaidOk w) :
    Calls Tryd.prog 3 #[.int .u64 f, v1, .string k, .int .u64 H] w fun x w' => x = .returned (.bool true) ∧ Below w.heap.size w w' := by
  subst e
  obtain ⟨A, ca, l, rfl, hca, hA⟩ := h1
  obtain ⟨n, rfl, hn⟩ := u64_natS wf0
  obtain ⟨m, rfl, hm⟩ := u64_natS wf2
  by_cases hg : Yes l k
  · exact main n m k A ca l W ⟨hL, hA, Below.refl _ _⟩ hg hn hm
  · exact early n m k A ca l W ⟨hL, hA, Below.refl _ _⟩ hg
end storePlays
end Go.Proofs.YtcknhnbckbocjaaDoor
