/- carracklaw12.ClientFrom walked. No condition. -/
import Derived.WalkSpells
import Derived.Outline
import Derived.StillTailTactics
import Derived.Test.YtdonoilcegaleaaClInv
namespace Go.Proofs.Ytdonoilcegaleaa.clientFrom
open Go.RowKit Go.Cl
set_option linter.unusedVariables false
set_option maxRecDepth 100000 in
set_option maxHeartbeats 1000000 in
theorem long (A : Option Addr) (cap : Nat) (l : List (Nat × ByteArray)) (x : Int) (W : World) (hl : 100 < l.length) :
    Calls Try.prog 6 #[.slice A l.length cap, .int .u64 x] W fun e w' => e = .returned (.bool true) ∧ Below W.heap.size W w' := by
  have d0 : decide ((100 : Int) < (l.length : Int)) = true := decide_eq_true (by omega)
  have d1 : decide (100 < l.length) = true := decide_eq_true hl
  clear hl
  go_enter Try.func6, Try.ntmps6
  go_wp2_with fail
  refine (awake _).mono ?_
  rintro x w1 ⟨rfl, b1⟩
  have H1 := Lib.hid b1
  clear b1
  go_wp2
  go_ret
  exact ⟨rfl, H1.out⟩
set_option maxRecDepth 100000 in
set_option maxHeartbeats 4000000 in
theorem few_ (A : Option Addr) (cap : Nat) (l : List (Nat × ByteArray)) (x : Nat) (hx : x < 18446744073709551616) (W : World) (hc : KnAt W A l) (hl : ¬ 100 < l.length) :
    Calls Try.prog 6 #[.slice A l.length cap, .int .u64 (x : Int)] W fun e w' => e = .returned (.bool true) ∧ Below W.heap.size W w' := by
  have d0 : decide ((100 : Int) < (l.length : Int)) = false := decide_eq_false (by omega)
  have d1 : decide (100 < l.length) = false := decide_eq_false hl
  have H := Lib.hid (And.intro hc (And.intro (Nat.not_lt.1 hl) hx))
  clear hc hl hx
  go_enter Try.func6, Try.ntmps6
  go_wp2_with fail
  refine (awake _).mono ?_
  rintro e w1 ⟨rfl, b1⟩
  have H1 := Lib.hid b1
  clear b1
  go_wp2_with fail
  refine (cl_new _).mono ?_
  rintro e w2 ⟨rfl, hc, hb⟩
  have I2 := Lib.hid (CliI.made H1.out hc hb)
  clear hc hb
  generalize w1.heap.size + 1 = C at *
  generalize w1.heap.size = M at *
  clear d0 d1
  go_wp2
  go_loopw [6] (fun i wr => ∃ j : Nat, ∃ v : Value, ∃ hs : List Nat, ∃ f : Int → Option ByteArray, j ≤ l.length ∧ i = .int .i64 (j : Int) ∧ hs.length ≤ j ∧ CliI W wr M C M j v hs f) (fun i _ => l.length - (intOf i).toNat)
  case atStart => exact ⟨0, _, [], _, by omega, rfl, Nat.le_refl _, I2.out⟩
  case round =>
    obtain ⟨j, v, hs, f, hj, rfl, hhj, hd⟩ := hrel
    have HD := Lib.hid (And.intro hd hhj)
    clear hd I2
    by_cases hlt : j < l.length
    · obtain ⟨g, o, rfl, hg, q0, q1, hb0, hb1⟩ := (H.out.1.later HD.out.1.bel) j hlt
      have h100 := H.out.2.1
      obtain ⟨y, hy⟩ : ∃ y, y = l[j].1 := ⟨_, rfl⟩
      obtain ⟨s, hs'⟩ : ∃ s, s = l[j].2 := ⟨_, rfl⟩
      rw [← hy] at q0 hb0
      rw [← hs'] at q1 hb1
      have HB := Lib.hid (And.intro hb0 hb1)
      clear hy hs' hb0 hb1
      go_wp2
      go_still_tail 11, (by kernel_rfl)
      change wpList _ _ _ _ _ wr.drew
      go_wp2_with fail
      have hdd := HD.out.1.below (Below.refl _ _).drew
      refine (cl_set M C M j v hs f y HB.out.1 s HB.out.2 _ hdd.s (by omega) (by omega)).mono ?_
      rintro e w3 ⟨rfl, hd3⟩
      obtain ⟨v3, hi3, -⟩ := hdd.step hd3
      have H3 := Lib.hid hi3
      have hl3 : (setF y s hs f).1.length ≤ j + 1 := by
        unfold setF
        split
        · split
          · show hs.length ≤ _; omega
          · show (ins y hs).length ≤ _; rw [ins_length]; omega
        · show hs.length ≤ _; omega
      clear hd3 hi3 hdd q0 q1
      go_wp2
      go_roundw
      case rel => exact ⟨j + 1, v3, _, _, by omega, by go_num, hl3, H3.out⟩
      case measure => simp [intOf]; omega
    · have hs100 : hs.length ≤ 100 := by have := H.out.2.1; omega
      go_wp2_with fail
      refine (cl_from M C M j v hs f x _ HD.out.1.s (by omega)).mono ?_
      rintro e w3 ⟨rfl, b3⟩
      have H3 := Lib.hid (HD.out.1.below b3)
      clear b3
      obtain ⟨y, ok, hF⟩ : ∃ y ok, fromF x hs = (y, ok) := ⟨_, _, rfl⟩
      have HF := Lib.hid hF
      rw [hF]
      clear hF
      go_wp2_with fail
      refine (cl_heights M C M j v hs f _ H3.out.s (by omega)).mono ?_
      rintro e w4 ⟨v4, rfl, hown, b4⟩
      have H4 := Lib.hid (And.intro (H3.out.below b4) hown)
      clear b4 hown H3 HD
      obtain ⟨A4, cap4, rfl, -, hat⟩ := row_at H4.out.2
      have HAT := Lib.hid hat
      have FF := Lib.hid (from_facts H4.out.1.s.ok.srt HF.out)
      clear hat hlt
      go_wp2
      go_loop [10] (fun i => ∃ k : Nat, k ≤ hs.length ∧ i = .int .i64 (k : Int)) (fun i => hs.length - (intOf i).toNat)
      case atStart => exact ⟨0, Nat.zero_le _, rfl⟩
      case round =>
        obtain ⟨k, hk, rfl⟩ := hrel
        by_cases hlk : k < hs.length
        · obtain ⟨gx, rfl, -, ck⟩ := HAT.out k hlk
          by_cases hxk : x ≤ hs[k]
          · obtain ⟨hok, hy⟩ := FF.out.1 k hlk hxk
            have t0 : decide ((x : Int) ≤ (hs[k] : Int)) = true := decide_eq_true (by omega)
            have t1 : decide (x ≤ hs[k]) = true := decide_eq_true hxk
            have t2 : decide ((hs[k] : Int) < (y : Int)) = false := decide_eq_false (by omega)
            have t3 : decide (hs[k] < y) = false := decide_eq_false (by omega)
            subst hok
            clear hxk hy
            go_wp2
            go_round
            case rel => exact ⟨k + 1, by omega, by go_num⟩
            case measure => simp [intOf]; omega
          · have t0 : decide ((x : Int) ≤ (hs[k] : Int)) = false := decide_eq_false (by omega)
            have t1 : decide (x ≤ hs[k]) = false := decide_eq_false hxk
            clear hxk
            go_wp2
            go_round
            case rel => exact ⟨k + 1, by omega, by go_num⟩
            case measure => simp [intOf]; omega
        · obtain rfl : k = hs.length := by omega
          have hy64 : y < 18446744073709551616 := by
            cases ok with
            | true => exact H4.out.1.s.ok.lt y (FF.out.2.1 rfl).1
            | false => rw [FF.out.2.2 rfl]; decide
          have hroot := cl_root M C M j v hs f y hy64 _ H4.out.1.s
          clear hlk hk
          go_wp2_with fail
          refine hroot.mono ?_
          clear hroot
          rintro e w5 ⟨rfl, rfl⟩
          cases ok with
          | true =>
            obtain ⟨hm, hxy⟩ := FF.out.2.1 rfl
            have hs1 : (f (y : Int)).isSome = true := (H4.out.1.s.ok.mem y).2 hm
            have t0 : decide ((x : Int) ≤ (y : Int)) = true := decide_eq_true (by omega)
            have t1 : decide (x ≤ y) = true := decide_eq_true hxy
            rw [hs1]
            clear hs1 hm hxy
            go_wp2
            go_ret
            exact ⟨by simp_all, H4.out.1.bel⟩
          | false =>
            have hy0 := FF.out.2.2 rfl
            subst hy0
            go_wp2
            go_ret
            exact ⟨rfl, H4.out.1.bel⟩
end Go.Proofs.Ytdonoilcegaleaa.clientFrom
namespace Go.Proofs.Ytdonoilcegaleaa
open Go.RowKit
theorem clientFrom_walk (v : Value) (x : Int) {W : World} (h0 : ∃ A cap l, v = .slice A l.length cap ∧ l.length ≤ maxLen ∧ KnAt W A l) (wx : (Lit.int .u64 x).wf = true) :
    Calls Try.prog 6 #[v, .int .u64 x] W fun e w' => e = .returned (.bool true) ∧ Below W.heap.size W w' := by
  obtain ⟨A, cap, l, rfl, _, hc⟩ := h0
  have w0 : 0 ≤ x ∧ x < 18446744073709551616 := by simp [Lit.wf, IntKind.min, IntKind.max, IntKind.signed, IntKind.bits] at wx; omega
  obtain ⟨m, rfl⟩ := Int.eq_ofNat_of_zero_le w0.1
  by_cases hl : 100 < l.length
  · exact clientFrom.long A cap l _ W hl
  · exact clientFrom.few_ A cap l m (by omega) W hc hl
end Go.Proofs.Ytdonoilcegaleaa
