/- carracklaw15.TableOf walked. No condition. -/
import Derived.WalkSpells
import Derived.Outline
import Derived.Deep.RegionHeld
import Derived.Deep.QuietTactic
import Derived.BigQuiet
import Derived.Test.YtmckpoeolfggmaaTwLaw
import Derived.Test.YtmckpoeolfggmaaTrOf
import Derived.Test.YtmckpoeolfggmaaNtSameI
import Derived.Test.YtmckpoeolfggmaaHeldMono
namespace Go.Proofs.Ytmckpoeolfggmaa
open Go.RowKit
set_option linter.unusedVariables false
namespace tableOf
set_option maxRecDepth 100000 in
set_option maxHeartbeats 2000000 in
theorem main (r : Int) (A : Option Addr) (ca : Nat) (l : List NtV) (W : World) (hA : EnAt NtV.ic W A l) (hw : ∀ n ∈ l, n.wf) :
    Calls Try.prog 4 #[.int .i64 r, .slice A l.length ca] W fun x w' => x = .returned (.bool true) ∧ Below W.heap.size W w' := by
  have HG := Lib.hid (And.intro hA hw)
  clear hA hw
  go_enter Try.func4, Try.ntmps4
  go_wp2_with fail
  refine (awake15 W).mono ?_
  rintro x w1 ⟨rfl, b1⟩
  have H1 := Lib.hid b1
  clear b1
  by_cases hl : 100 < l.length
  · have d1 : decide ((100 : Int) < (l.length : Int)) = true := decide_eq_true (by omega)
    have d1' : decide (100 < l.length) = true := decide_eq_true hl
    clear hl
    go_wp2
    go_ret
    exact ⟨rfl, H1.out⟩
  have d1 : decide ((100 : Int) < (l.length : Int)) = false := decide_eq_false (by omega)
  have d1' : decide (100 < l.length) = false := decide_eq_false hl
  have HL : Hid (l.length ≤ 100) := Lib.hid (by omega)
  clear hl
  go_wp2
  go_loopw [5] (fun i wr => ∃ j : Nat, j ≤ l.length ∧ i = .int .i64 (j : Int) ∧ wr = w1) (fun i _ => l.length - (intOf i).toNat)
  case atStart => exact ⟨0, Nat.zero_le _, rfl, by first | trivial | rfl⟩
  case round =>
    obtain ⟨j, hj, rfl, rfl⟩ := hrel
    have h6 := HL.out
    clear d1 d1'
    by_cases hlt : j < l.length
    · obtain ⟨b, off, rfl, _, hc⟩ := (HG.out.1.below H1.out) j hlt
      have t1 : decide ((j : Int) < (l.length : Int)) = true := decide_eq_true (by omega)
      have t2 : decide (j < l.length) = true := decide_eq_true hlt
      have hi0 : (j : Int) < (l.length : Int) := by omega
      obtain ⟨n, hn⟩ : ∃ n, n = l[j] := ⟨_, rfl⟩
      rw [← hn] at hc
      have c3 := hc 3 (by omega)
      have HLT := Lib.hid hlt
      obtain ⟨k, f, q, t, d⟩ := n
      simp only [NtV.ic, List.getElem?_cons_zero, List.getElem?_cons_succ] at c3
      clear hc hn hlt
      by_cases hs : 300 < d.size
      · have e1 : decide ((300 : Int) < (d.size : Int)) = true := decide_eq_true (by omega)
        have e2 : decide (300 < d.size) = true := decide_eq_true hs
        clear hs
        go_wp2
        go_ret
        exact ⟨rfl, H1.out⟩
      · have e1 : decide ((300 : Int) < (d.size : Int)) = false := decide_eq_false (by omega)
        have e2 : decide (300 < d.size) = false := decide_eq_false hs
        clear hs
        go_wp2
        go_roundw
        case rel => exact ⟨j + 1, HLT.out, by go_num, by first | trivial | rfl⟩
        case measure => have := HLT.out; simp [intOf]; omega
    · obtain rfl : j = l.length := by omega
      have t1 : decide ((l.length : Int) < (l.length : Int)) = false := decide_eq_false (by omega)
      have t2 : decide (l.length < l.length) = false := decide_eq_false hlt
      clear hlt hj h6
      go_wp2_with fail
      refine (tb_of wr r l A ca (HG.out.1.below H1.out) HG.out.2 HL.out).mono ?_
      rintro x w2 ⟨b2, hx⟩
      have HA2 := Lib.hid ((HG.out.1.below H1.out).below b2)
      have HB2 := Lib.hid (H1.out.trans (b2.mono H1.out.size))
      clear t1 t2
      rcases hx with ⟨e, he, hv, rfl⟩ | ⟨B1, acc, hv, rfl, htb, hok⟩
      · have HV := Lib.hid hv
        clear hv b2
        go_wp2_with fail
        refine (rt_of w2 r l A ca HA2.out HG.out.2 HL.out).mono ?_
        rintro x w3 ⟨b3, hx⟩
        rcases hx with ⟨e', he', hv', rfl⟩ | ⟨B2, acc', hv', rfl, hrt⟩
        · obtain rfl : e' = e := by rw [HV.out] at hv'; injection hv' with h1 h2; exact h1.symm
          have HB3 := Lib.hid (HB2.out.trans (b3.mono HB2.out.size))
          have t3 : (e' != e') = false := by simp
          clear b3 hv' he he'
          go_wp2
          go_quiet (fail)
          generalize hwq : w3.drewN nq = wq
          have H4 : Hid (Below W.heap.size W wq) := Lib.hid (by rw [← hwq]; exact below_drewN HB3.out _)
          clear hwq nq
          go_wp2
          go_ret
          exact ⟨by simp, H4.out⟩
        · rw [HV.out] at hv'
          injection hv' with h1 h2
          cases h2
      · have HV := Lib.hid hv
        have H2 : Hid (OwnT W w2 B1 ⟨r.toNat, acc⟩ ∧ TbOk ⟨r.toNat, acc⟩) := Lib.hid ⟨OwnT.start H1.out htb b2, hok⟩
        clear hv b2 htb hok
        go_wp2_with fail
        refine (rt_of w2 r l A ca HA2.out HG.out.2 HL.out).mono ?_
        rintro x w3 ⟨b3, hx⟩
        rcases hx with ⟨e', he', hv', rfl⟩ | ⟨B2, acc', hv', rfl, hrt⟩
        · rw [HV.out] at hv'
          injection hv' with h1 h2
          cases h2
        · obtain rfl : acc' = acc := by rw [HV.out] at hv'; injection hv' with h1 h2; injection h2 with h2; exact h2.symm
          obtain ⟨An, cn, hp⟩ := hrt
          obtain ⟨n, hn⟩ : ∃ n, n = acc'.length := ⟨_, rfl⟩
          have HN := Lib.hid hn
          obtain ⟨O, hO⟩ : ∃ O : Nat → Prop, O = fun k => w2.heap.size ≤ k ∧ k < w3.heap.size := ⟨_, rfl⟩
          rw [← hO] at hp
          have HNB : Hid (∀ w', Below w3.heap.size w3 w' → OwnT W w' B1 ⟨r.toNat, acc'⟩ ∧ w'.cell? ⟨B2, 0, none⟩ = some (.slice An n cn) ∧ EnAt NtV.ic w' An acc') := Lib.hid (fun w' hb => by
            have hp' := hp.keeps (keepsF (O := O) hb) (fun _ _ h => h)
            exact ⟨(H2.out.1.far b3).far hb, by rw [hn]; exact hp'.c0, hp'.at_⟩)
          clear b3 hv' hp hn hO
          go_wp2
          refine wp_region_held_drew (S := fun w' => w'.cell? ⟨B2, 0, none⟩ = some (.slice An n cn)) (by kernel_rfl) (HNB.out _ (Below.refl _ _).drew).2.1 (fun hS0 => ?_)
          obtain ⟨wd, hwd⟩ : ∃ z, z = w3.drew := ⟨_, rfl⟩
          have HD : Hid (Below w3.heap.size w3 wd) := Lib.hid (by rw [hwd]; exact (Below.refl _ _).drew)
          rw [← hwd] at hS0 ⊢
          clear hwd
          refine wpAnyH_take (i := 0) (v := ?_) rfl (by kernel_rfl) (by kernel_rfl) (by kernel_rfl) (fun _ _ _ h => h) (Or.inl ⟨by kernel_rfl, ?_⟩) (by assumption) ?_
          rotate_left
          · intro w hSw; (try dsimp only at hSw); go_simp; (try with_reducible rfl)
          refine wpAnyH_take (i := 1) (v := ?_) rfl (by kernel_rfl) (by kernel_rfl) (by kernel_rfl) (fun _ _ _ h => h) (Or.inl ⟨by kernel_rfl, ?_⟩) (by assumption) ?_
          rotate_left
          · intro w hSw; (try dsimp only at hSw); go_simp; (try with_reducible rfl)
          refine wpAnyH_take (i := 2) (v := ?_) rfl (by kernel_rfl) (by kernel_rfl) (by kernel_rfl) (fun _ _ _ h => h) (Or.inl ⟨by kernel_rfl, ?_⟩) (by assumption) ?_
          rotate_left
          · intro w hSw; (try dsimp only at hSw); go_simp; (try with_reducible rfl)
          refine wpAnyH_take (i := 3) (v := ?_) rfl (by kernel_rfl) (by kernel_rfl) (by kernel_rfl) (fun _ _ _ h => h) (Or.inl ⟨by kernel_rfl, ?_⟩) (by assumption) ?_
          rotate_left
          · intro w hSw; (try dsimp only at hSw); go_simp; (try with_reducible rfl)
          refine wpAnyH_take (i := 5) (v := ?_) rfl (by kernel_rfl) (by kernel_rfl) (by kernel_rfl) (fun _ _ _ h => h) (Or.inl ⟨by kernel_rfl, ?_⟩) (by assumption) ?_
          rotate_left
          · intro w hSw; (try dsimp only at hSw); go_simp; (try with_reducible rfl)
          refine wpAnyH_take (i := 6) (v := ?_) rfl (by kernel_rfl) (by kernel_rfl) (by kernel_rfl) (fun _ _ _ h => h) (Or.inl ⟨by kernel_rfl, ?_⟩) (by assumption) ?_
          rotate_left
          · intro w hSw; (try dsimp only at hSw); go_simp; (try with_reducible rfl)
          refine wpAnyH_take (i := 7) (v := ?_) rfl (by kernel_rfl) (by kernel_rfl) (by kernel_rfl) (fun _ _ _ h => h) (Or.inl ⟨by kernel_rfl, ?_⟩) (by assumption) ?_
          rotate_left
          · intro w hSw; (try dsimp only at hSw); go_simp; (try with_reducible rfl)
          refine wpAnyH_take (i := 8) (v := ?_) rfl (by kernel_rfl) (by kernel_rfl) (by kernel_rfl) (fun _ _ _ h => h) (Or.inl ⟨by kernel_rfl, ?_⟩) (by assumption) ?_
          rotate_left
          · intro w hSw; (try dsimp only at hSw); go_simp; (try with_reducible rfl)
          refine wpAnyH_ready (rs := [4]) (by kernel_rfl) (by simp) ?_
          refine AllReadyH.cons rfl (fun K hK => ?_) AllReadyH.nil
          go_simp
          refine (ot_items (HNB.out _ HD.out).1.tb H2.out.2).mono ?_
          rintro x w5 ⟨v, rfl, ⟨A5, c5, rfl, -, hat5, -⟩, b5⟩
          have H5 : Hid (Below w3.heap.size w3 w5 ∧ EnAt NtV.ic w5 A5 acc') := Lib.hid ⟨HD.out.trans (b5.mono HD.out.size), hat5⟩
          clear b5 hat5 hS0 HD
          refine hK.out _ _ (HNB.out _ H5.out.1).2.1 (fun hS0 => ?_)
          clear hK K
          rw [show (⟨r.toNat, acc'⟩ : TbV).l.length = n from HN.out.symm]
          refine wpAnyH_ready (rs := [9]) (by kernel_rfl) (by simp) ?_
          refine AllReadyH.cons rfl (fun K hK => ?_) AllReadyH.nil
          go_simp
          have ss := same_items A5 An c5 cn acc' w5 H5.out.2 (HNB.out _ H5.out.1).2.2 (by have h1 := H2.out.2.len; have h2 := H2.out.2.r40; have h3 : acc'.length ≤ r.toNat := h1; have h4 : r.toNat ≤ 40 := h2; omega)
          rw [← HN.out] at ss
          refine ss.mono ?_
          clear ss
          rintro x w6 ⟨rfl, b6⟩
          have H6 := Lib.hid (H5.out.1.trans (b6.mono H5.out.1.size))
          clear b6 hS0 H5
          refine hK.out _ _ (HNB.out _ H6.out).2.1 (fun hS0 => ?_)
          clear hK K
          refine wpAnyH_take (i := 10) (v := ?_) rfl (by kernel_rfl) (by kernel_rfl) (by kernel_rfl) (fun _ _ _ h => h) (Or.inl ⟨by kernel_rfl, ?_⟩) (by assumption) ?_
          rotate_left
          · intro w hSw; (try dsimp only at hSw); go_simp; (try with_reducible rfl)
          refine wpAnyH_take (i := 11) (v := ?_) rfl (by kernel_rfl) (by kernel_rfl) (by kernel_rfl) (fun _ _ _ h => h) (Or.inl ⟨by kernel_rfl, ?_⟩) (by assumption) ?_
          rotate_left
          · intro w hSw; (try dsimp only at hSw); go_simp; (try with_reducible rfl)
          refine wpAnyH_done (by kernel_rfl) ?_ _
          clear hS0
          have H7 := Lib.hid (HNB.out _ H6.out).1.bel
          go_simp
          go_wp2
          go_ret
          exact ⟨by simp, H7.out⟩
theorem _root_.Go.Proofs.Ytmckpoeolfggmaa.tableOf_walk (r : Int) (v1 : Value) {W : World} (_ : (Lit.int .i64 r).wf = true) (h1 : ∃ A cap l, v1 = .slice A l.length cap ∧ l.length ≤ cap ∧ (A = none → l.length = 0) ∧ EnAt NtV.ic W A l ∧ ∀ n ∈ l, n.wf) :
    Calls Try.prog 4 #[.int .i64 r, v1] W fun x w' => x = .returned (.bool true) ∧ Below W.heap.size W w' := by
  obtain ⟨A, ca, l, rfl, -, -, hA, hw⟩ := h1
  exact main r A ca l W hA hw
end tableOf
end Go.Proofs.Ytmckpoeolfggmaa
