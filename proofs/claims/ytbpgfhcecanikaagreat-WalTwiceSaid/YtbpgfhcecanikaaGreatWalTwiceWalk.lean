/- carracklaw07.WalTwice walked. No condition. -/
import Derived.WalkSpells
import Derived.Outline
import Derived.Deep.QuietTactic
import Derived.Test.YtbpgfhcecanikaaGreatLwYQ
import Derived.Test.YtbpgfhcecanikaaGreatWrGQ
import Derived.Test.YtbpgfhcecanikaaGreatHeldMonoQ
import Derived.Test.YtbpgfhcecanikaaGreatWlIQ
namespace Go.Proofs.YtbpgfhcecanikaaGreat.walTwice
open Go.RowKit
set_option linter.unusedVariables false
set_option maxRecDepth 100000 in
set_option maxHeartbeats 1000000 in
theorem many (a b : Int) (A : Option Addr) (cap : Nat) (l : List ActW) (n : Int) (W : World) (hc : ActsAtW W A l) (hf : ¬ fewW a b l) :
    Calls Tryz.prog 4 #[.int .i64 a, .int .i64 b, .slice A l.length cap, .int .u8 n] W fun x w' => x = .returned (.bool true) ∧ Below W.heap.size W w' := by
  have H := Lib.hid (And.intro hc hf)
  clear hc hf
  go_enter Tryz.func4, Tryz.ntmps4
  go_wp2_with fail
  refine (lw_awake _).mono ?_
  rintro x w1 ⟨rfl, b1⟩
  have H1 := Lib.hid b1
  clear b1
  go_wp2_with fail
  refine (lw_few a b A cap l _ (H.out.1.later H1.out) false (by simpa using H.out.2)).mono ?_
  rintro x w2 ⟨rfl, rfl⟩
  go_wp2
  go_ret
  exact ⟨rfl, H1.out⟩
set_option maxRecDepth 100000 in
set_option maxHeartbeats 1000000 in
theorem small (a b : Int) (A : Option Addr) (cap : Nat) (l : List ActW) (n : Int) (W : World) (hc : ActsAtW W A l) (hf : fewW a b l) (hb : b < 4) :
    Calls Tryz.prog 4 #[.int .i64 a, .int .i64 b, .slice A l.length cap, .int .u8 n] W fun x w' => x = .returned (.bool true) ∧ Below W.heap.size W w' := by
  have H := Lib.hid (And.intro hc hf)
  have d1 : decide (b < 4) = true := decide_eq_true hb
  clear hc hf hb
  go_enter Tryz.func4, Tryz.ntmps4
  go_wp2_with fail
  refine (lw_awake _).mono ?_
  rintro x w1 ⟨rfl, b1⟩
  have H1 := Lib.hid b1
  clear b1
  go_wp2_with fail
  refine (lw_few a b A cap l _ (H.out.1.later H1.out) true (by simpa using H.out.2)).mono ?_
  rintro x w2 ⟨rfl, rfl⟩
  go_wp2
  go_ret
  exact ⟨rfl, H1.out⟩
theorem PrG.up {W w : World} {A : PairA} {a b N K N' K' : Nat} (h : PrG W w A a b N K) (hN : N ≤ N') (hK : K ≤ K') : PrG W w A a b N' K' := by
  obtain ⟨ws, ar, st, o, e, rl, h1, h2, h3⟩ := h
  exact ⟨ws, ar, st, o, e, rl, h1.up hN, h2.up hK, h3⟩
/-- a pair whose program's side is clean -/
def TwI (W w : World) (A : PairA) (a b : Nat) (st : List Nat) (LA : Option Addr) (rl : List ByteArray) : Prop :=
  ∃ bufD bufR ws2 ar2 st2 vq pw e rs pv N, PrS W w A a b N bufD [] 0 st none bufR ws2 ar2 st2 vq (pcells A pw e rs pv) LA rl
section
variable {W w w' : World} {A : PairA} {a b : Nat} {st : List Nat} {LA : Option Addr} {rl : List ByteArray}
theorem TwI.c0 (h : TwI W w A a b st LA rl) : w.cell? ⟨A.P, 0, none⟩ = some (.pointer (some ⟨A.D, 0, none⟩)) := by obtain ⟨_, _, _, _, _, _, _, _, _, _, _, h⟩ := h; exact h.c0
theorem TwI.bel (h : TwI W w A a b st LA rl) : Below W.heap.size W w := by obtain ⟨_, _, _, _, _, _, _, _, _, _, _, h⟩ := h; exact h.bel
theorem TwI.below (h : TwI W w A a b st LA rl) (hb : Below w.heap.size w w') : TwI W w' A a b st LA rl := by obtain ⟨b1, b2, b3, b4, b5, b6, b7, b8, b9, b10, b11, h⟩ := h; exact ⟨b1, b2, b3, b4, b5, b6, b7, b8, b9, b10, b11, h.below hb⟩
theorem TwI.recs (h : TwI W w A a b st LA rl) : StrsAt w LA rl := by obtain ⟨_, _, _, _, _, _, _, _, _, _, _, h⟩ := h; exact h.recs
theorem tw_crash {N K : Nat} (h : PrG W w A a b N K) (hz : Siz a b) (hK : K ≤ 1000000) :
    Calls Tryz.prog 21 #[.pointer (some ⟨A.D, 0, none⟩), .slice none 0 0] w fun x w' => x = .returned (.tuple #[]) ∧ ∃ st, Cln a b st ∧ TwI W w' A a b st none [] := by
  obtain ⟨ws, ar, st, o, e, rl, ⟨bufD, bufR, vl, vq, LA, cap, hp, _, _⟩, ho, _⟩ := h
  refine (pr_crash (hp.forgetL.forgetR none) ho hz hK none 0 [] ⟨fun j hj => by cases hj⟩ (fun g o e => by cases e) (by simp)).mono ?_
  rintro x w' ⟨rfl, h'⟩
  have hc := crash_ok ho []
  exact ⟨rfl, _, ⟨hc.len, hc.lt⟩, _, _, _, _, _, _, _, _, _, _, _, h'⟩
theorem tw_again (h : TwI W w A a b st LA rl) (hc : Cln a b st) (hz : Siz a b) (CA : Option Addr) (hcw : CwAt w CA [(true, 0)]) (hne : ∀ g o, CA = some ⟨g, o, none⟩ → g ≠ A.S) :
    Calls Tryz.prog 21 #[.pointer (some ⟨A.D, 0, none⟩), .slice CA 1 1] w fun x w' => x = .returned (.tuple #[]) ∧ TwI W w' A a b st LA rl := by
  obtain ⟨b1, b2, b3, b4, b5, b6, b7, b8, b9, b10, b11, hp⟩ := h
  refine (pr_crash hp hc.ok hz (by decide) CA 1 [(true, 0)] hcw hne (by simp)).mono ?_
  rintro x w' ⟨rfl, h'⟩
  exact ⟨rfl, _, b2, b3, b4, b5, b6, b7, b8, b9, b10, b11, h'⟩
theorem TwI.ltS (h : TwI W w A a b st LA rl) : A.S < w.heap.size := by obtain ⟨_, _, _, _, _, _, _, _, _, _, _, h⟩ := h; exact h.ow.lt 0 A.S (ownP.a (Or.inr (Or.inl rfl)))
theorem tw_open (h : TwI W w A a b st LA rl) (hc : Cln a b st) (hz : Siz a b) (hb : 4 ≤ b) :
    Calls Tryz.prog 22 #[.pointer (some ⟨A.D, 0, none⟩)] w fun x w' => ∃ L LB cap, x = .returned (.tuple #[.pointer (some ⟨L, 0, none⟩), .slice LB (opR a b [] 0 st).1.length cap, .int .i64 0]) ∧ TwI W w' A a b (opS a b st) LA rl ∧ (∃ buf, WlS w' A.bD A.D A.S a b L buf [] 0 (opS a b st) (opV a b [] 0 st)) ∧ StrsAt w' LB (opR a b [] 0 st).1 := by
  obtain ⟨b1, b2, b3, b4, b5, b6, b7, b8, b9, b10, b11, hp⟩ := h
  refine (pr_openK hp hc hz hb).mono ?_
  rintro x w' ⟨bufD', L, LB, cap, rfl, h', hW, hs, _⟩
  exact ⟨L, LB, cap, rfl, ⟨_, b2, b3, b4, b5, b6, b7, b8, b9, b10, b11, h'⟩, ⟨_, hW⟩, hs⟩
theorem tw_first (h : TwI W w A a b st none []) (hc : Cln a b st) (hz : Siz a b) (hb : 4 ≤ b) :
    Calls Tryz.prog 22 #[.pointer (some ⟨A.D, 0, none⟩)] w fun x w' => ∃ L LB cap, x = .returned (.tuple #[.pointer (some ⟨L, 0, none⟩), .slice LB (opR a b [] 0 st).1.length cap, .int .i64 0]) ∧ TwI W w' A a b (opS a b st) LB (opR a b [] 0 st).1 := by
  obtain ⟨b1, b2, b3, b4, b5, b6, b7, b8, b9, b10, b11, hp⟩ := h
  refine (pr_openK hp hc hz hb).mono ?_
  rintro x w' ⟨bufD', L, LB, cap, rfl, h', hW, hs, hg⟩
  have hsz := hp.bel.size
  refine ⟨L, LB, cap, rfl, ⟨_, b2, b3, b4, b5, b6, b7, b8, b9, b10, b11, h'.recsNew LB _ hs (fun g o e => Nat.le_trans hsz (hg g o e).1) (fun g o i e hi hj => ?_)⟩⟩
  by_cases e0 : i = 0
  · subst e0
    rcases hj.i0 with e1 | ⟨u, e1⟩
    · exact (hg g o e).2 e1
    · cases e1
  · have h3 := hp.ow.lt i g (hj.not (fun e => absurd e e0) (fun _ => ⟨rfl, rfl⟩) (fun _ => ⟨rfl, rfl⟩))
    have := (hg g o e).1
    omega
theorem tw_stable (h : TwI W w A a b st LA rl) (hc : Cln a b st) :
    Calls Tryz.prog 11 #[.pointer (some ⟨A.D, 0, none⟩)] w fun x w' => x = .returned (.string (txt st)) ∧ w = w' := by
  obtain ⟨b1, b2, b3, b4, b5, b6, b7, b8, b9, b10, b11, hp⟩ := h
  exact dk_stable A.D A.S st w hp.d.d.c2 hp.d.s hc.lt
end
theorem PrG.c0 {W w : World} {A : PairA} {a b N K : Nat} (h : PrG W w A a b N K) : w.cell? ⟨A.P, 0, none⟩ = some (.pointer (some ⟨A.D, 0, none⟩)) := by
  obtain ⟨ws, ar, st, o', e, rl, ⟨bufD, bufR, vl, vq, LA, cap, hp, _, _⟩, h2, h3⟩ := h
  exact hp.c0
theorem PrG.bel {W w : World} {A : PairA} {a b N K : Nat} (h : PrG W w A a b N K) : Below W.heap.size W w := by
  obtain ⟨ws, ar, st, o', e, rl, ⟨bufD, bufR, vl, vq, LA, cap, hp, _, _⟩, h2, h3⟩ := h
  exact hp.bel
theorem made_cw (w : World) : CwAt (w.alloc (.cells #[.bool true, .int .i64 0] 59)) (some ⟨w.heap.size, 0, none⟩) [(true, 0)] := awE_cw (Kq.Elt.made_one (E := awE) (true, 0) w 59)
set_option maxRecDepth 100000 in
set_option maxHeartbeats 8000000 in
theorem few_ (a b : Nat) (A0 : Option Addr) (cap : Nat) (l : List ActW) (n : Nat) (W : World) (hc : ActsAtW W A0 l) (hf : fewW a b l) (hb4 : 4 ≤ b) (hn : n < 256) :
    Calls Tryz.prog 4 #[.int .i64 (a : Int), .int .i64 (b : Int), .slice A0 l.length cap, .int .u8 (n : Int)] W fun x w' => x = .returned (.bool true) ∧ Below W.heap.size W w' := by
  have H := Lib.hid (And.intro hc hf)
  have hA : 64 ≤ a ∧ a ≤ 128 := ⟨by have := hf.1; omega, by have := hf.2.1; omega⟩
  have hB : 1 ≤ b ∧ b ≤ 40 := ⟨by have := hf.2.2.1; omega, by have := hf.2.2.2.1; omega⟩
  have hab : a * b ≤ 128 * 40 := Nat.mul_le_mul hA.2 hB.2
  have hsg : segN b * a ≤ 20 * 128 := Nat.mul_le_mul (by unfold segN; omega) hA.2
  have HZ : Hid (Siz a b ∧ b ≤ 40 ∧ 4 ≤ b) := Lib.hid ⟨⟨hA.1, by omega, hB.1, by omega, by omega, by omega⟩, hB.2, hb4⟩
  have HL : Hid (l.length ≤ 40) := Lib.hid hf.2.2.2.2.1
  have d1 : decide ((b : Int) < 4) = false := decide_eq_false (by omega)
  have d1' : decide (b < 4) = false := decide_eq_false (by omega)
  have HN := Lib.hid hn
  clear hc hf hA hB hab hsg hn hb4
  go_enter Tryz.func4, Tryz.ntmps4
  go_wp2_with fail
  refine (lw_awake _).mono ?_
  rintro x w1 ⟨rfl, b1⟩
  have H1 := Lib.hid b1
  clear b1
  go_wp2_with fail
  refine (lw_few a b A0 cap l _ (H.out.1.later H1.out) true (by simpa using H.out.2)).mono ?_
  rintro x w2 ⟨rfl, rfl⟩
  go_wp2_with fail
  refine (pr_made a b w1 HZ.out.1 (by have := HZ.out.2; omega)).mono ?_
  rintro x w2 ⟨A, rfl, hI⟩
  have hZ0 : StOk a b 0 [] 0 (List.replicate (a * b) 0) := ⟨WsOk.nil a b, List.length_replicate .., fun x hx => by rw [List.eq_of_mem_replicate hx]; decide, Nat.zero_le _, Nat.zero_le _⟩
  have HG : Hid (PrG w1 w2 A a b 1 1) := Lib.hid (PrG.of hI hZ0 HZ.out.1 (by omega))
  have HC := Lib.hid (H.out.1.later H1.out)
  have HFF := Lib.hid H.out.2
  clear hI hZ0 H d1 d1'
  go_wp2
  go_loopw [10] (fun i wr => ∃ j : Nat, j ≤ l.length ∧ i = .int .i64 (j : Int) ∧ PrG w1 wr A a b (1 + 12400 * j) (1 + 300 * j)) (fun i _ => l.length - (intOf i).toNat)
  case atStart => exact ⟨0, Nat.zero_le _, rfl, HG.out⟩
  case round =>
    obtain ⟨j, hj, rfl, hg⟩ := hrel
    have HP := Lib.hid hg
    clear hg
    have hl40 := HL.out
    by_cases hlt : j < l.length
    · have hi0 : (j : Int) < (l.length : Int) := by omega
      have hd : decide ((j : Int) < (l.length : Int)) = true := decide_eq_true hi0
      have hd' : decide (j < l.length) = true := decide_eq_true hlt
      have hww : wrap64 ((j : Int) + 1) = ((j + 1 : Nat) : Int) := by rw [IntWalk.wrap64_in _ (by omega)]; omega
      obtain ⟨g, o, rfl, hgl, hact⟩ := HC.out j hlt
      obtain ⟨f1, f2, f3⟩ := HFF.out.2.2.2.2.2 j hlt
      obtain ⟨c, hcc⟩ : ∃ c, c = l[j] := ⟨_, rfl⟩
      rw [← hcc] at hact f1 f2 f3
      have hc' := hact.later (PrG.bel HP.out) hgl
      have q0 := hc'.c0
      have q1 := hc'.c1
      have q2 := hc'.c2
      have q3 := hc'.c3
      have q4 := hc'.c4
      have HA := Lib.hid (And.intro hact (And.intro hgl (And.intro f1 (And.intro f2 f3))))
      have HLT := Lib.hid hlt
      clear hact hgl f1 f2 f3 hcc hlt hc'
      go_wp2_with fail
      refine (pr_do HP.out HZ.out.1 (by omega) (by omega) c HA.out.2.2.1 HA.out.2.2.2.1 HA.out.2.2.2.2 HA.out.1.w1 HA.out.1.bo HA.out.1.ti).mono ?_
      rintro x w3 ⟨rfl, hg3⟩
      have HG3 : Hid (PrG w1 w3 A a b (1 + 12400 * (j + 1)) (1 + 300 * (j + 1))) := Lib.hid (PrG.up hg3 (by omega) (by omega))
      clear hg3 q0 q1 q2 q3 q4
      go_wp2
      rw [hww] at *
      go_roundw
      case rel => exact ⟨j + 1, HLT.out, rfl, HG3.out⟩
      case measure => have := HLT.out; simp [intOf]; omega
    · obtain rfl : j = l.length := by omega
      have hd : decide ((l.length : Int) < (l.length : Int)) = false := decide_eq_false (by omega)
      have hd' : decide (l.length < l.length) = false := decide_eq_false (by omega)
      have p0 := PrG.c0 HP.out
      clear hlt
      go_wp2_with fail
      refine (tw_crash HP.out HZ.out.1 (by omega)).mono ?_
      rintro x w3 ⟨rfl, st, hcl, h3⟩
      have H3 := Lib.hid (And.intro h3 hcl)
      have q0 := H3.out.1.c0
      clear h3 hcl p0
      go_wp2_with fail
      refine (tw_first H3.out.1 H3.out.2 HZ.out.1 HZ.out.2.2).mono ?_
      rintro x w4 ⟨L, LB, cap4, rfl, h4⟩
      have hagain := op_again H3.out.2 HZ.out.1 HZ.out.2.2
      have hcl := opS_cln H3.out.2 HZ.out.1 HZ.out.2.2
      have hrr : (opR a b [] 0 st).1.length ≤ 100000 := by
        have h := opR_ok H3.out.2.ok HZ.out.1.a0
        have h1 := HZ.out.2.1
        unfold segN at h
        omega
      obtain ⟨S1, hS1⟩ : ∃ z, z = opS a b st := ⟨_, rfl⟩
      obtain ⟨rr, hrrr⟩ : ∃ z, z = (opR a b [] 0 st).1 := ⟨_, rfl⟩
      have hV1 := opV_clean HZ.out.1 HZ.out.2.2 (st := S1)
      rw [← hS1] at hagain hcl h4
      rw [← hrrr] at hrr h4 ⊢
      have H4 := Lib.hid (And.intro h4 hcl)
      have HAG : Hid (opS a b S1 = S1 ∧ (opR a b [] 0 S1).1 = rr) := Lib.hid ⟨hagain.1, by rw [hrrr, hagain.2]⟩
      have HBR : Hid ((opV a b [] 0 S1).broken = false ∧ (opV a b [] 0 S1).ready = false) := Lib.hid (by rw [hV1]; exact ⟨rfl, rfl⟩)
      have HRR := Lib.hid hrr
      have r0 := H4.out.1.c0
      clear h4 hcl hagain hrr hS1 hrrr hV1 q0
      go_wp2_with fail
      refine (tw_stable H4.out.1 H4.out.2).mono ?_
      rintro x w5 ⟨rfl, rfl⟩
      obtain ⟨T, hT⟩ : ∃ T, T = txt S1 := ⟨_, rfl⟩
      rw [← hT]
      have HT := Lib.hid hT
      obtain ⟨m, hm⟩ : ∃ m : Nat, m = n % 4 := ⟨_, rfl⟩
      have hr : (n : Int).tmod 4 = (m : Int) := by rw [Int.tmod_eq_emod_of_nonneg (by omega)]; omega
      have hm4 : m < 4 := by omega
      have hr1 : IntKind.u8.wrap (m : Int) = (m : Int) := by simp [IntKind.wrap, IntKind.bits, IntKind.signed]; omega
      have hr2 : IntKind.i64.wrap (m : Int) = (m : Int) := IntWalk.i64_in _ (by omega)
      have hr3 : IntKind.i64.wrap ((m : Int) + 1) = ((m + 1 : Nat) : Int) := by rw [IntWalk.i64_in _ (by omega)]; omega
      clear hT hm r0
      go_wp2
      go_loopw [15] (fun i wr => ∃ t : Nat, t ≤ m + 1 ∧ i = .int .i64 (t : Int) ∧ TwI w1 wr A a b S1 LB rr) (fun i _ => m + 1 - (intOf i).toNat)
      case atStart => exact ⟨0, Nat.zero_le _, rfl, H4.out.1⟩
      case round =>
        obtain ⟨t, ht, rfl, htw⟩ := hrel
        have HTW := Lib.hid htw
        have s0 := HTW.out.c0
        have hPl : A.P < wr.heap.size := by
          obtain ⟨_, _, _, _, _, _, _, _, _, _, _, h⟩ := HTW.out
          exact Kq.blk_lt h.p
        have hPn : A.P ≠ wr.heap.size := by omega
        clear htw
        by_cases hlt : t < m + 1
        · have hd : decide ((t : Int) < ((m + 1 : Nat) : Int)) = true := decide_eq_true (by omega)
          have hd' : decide (t < m + 1) = true := decide_eq_true hlt
          have hd2 : decide ((t : Int) < (m : Int) + 1) = true := decide_eq_true (by omega)
          have hww : wrap64 ((t : Int) + 1) = ((t + 1 : Nat) : Int) := by rw [IntWalk.wrap64_in _ (by omega)]; omega
          have HLT := Lib.hid hlt
          have hba := Kq.below_alloc wr (.cells #[.bool true, .int .i64 0] 59)
          have H5 : Hid (TwI w1 (wr.alloc (.cells #[.bool true, .int .i64 0] 59)) A a b S1 LB rr ∧ CwAt (wr.alloc (.cells #[.bool true, .int .i64 0] 59)) (some ⟨wr.heap.size, 0, none⟩) [(true, 0)] ∧ (∀ g o, some (⟨wr.heap.size, 0, none⟩ : Addr) = some ⟨g, o, none⟩ → g ≠ A.S)) := Lib.hid ⟨HTW.out.below hba, made_cw wr, fun g o e hh => by
            have h1 := HTW.out.ltS
            simp only [Option.some.injEq, Addr.mk.injEq] at e
            omega⟩
          clear hlt hba
          go_wp2_with fail
          refine (tw_again H5.out.1 H4.out.2 HZ.out.1 (some ⟨wr.heap.size, 0, none⟩) H5.out.2.1 H5.out.2.2).mono ?_
          rintro x w6 ⟨rfl, h6⟩
          have H6 := Lib.hid h6
          have t0 := H6.out.c0
          clear h6 s0 hPl hPn
          go_wp2_with fail
          refine (tw_open H6.out H4.out.2 HZ.out.1 HZ.out.2.2).mono ?_
          rintro x w7 ⟨L7, LB7, cap7, rfl, h7, ⟨buf7, hW7⟩, hs7⟩
          rw [HAG.out.1] at h7 hW7
          rw [HAG.out.2] at hs7 ⊢
          have H7 := Lib.hid (And.intro h7 (And.intro hW7 hs7))
          clear h7 hW7 hs7 t0
          go_wp2_with fail
          refine (wl_broken H7.out.2.1).mono ?_
          rw [HBR.out.1]
          rintro x w8 ⟨rfl, rfl⟩
          go_wp2_with fail
          refine (wl_ready H7.out.2.1).mono ?_
          rw [HBR.out.2]
          rintro x w8 ⟨rfl, rfl⟩
          go_wp2_with fail
          refine (rf_texts LB LB7 cap4 cap7 rr rr w7 HRR.out HRR.out H7.out.1.recs H7.out.2.2).mono ?_
          rintro x w8 ⟨rfl, hb8⟩
          have htt : decide (rr = rr) = true := decide_eq_true rfl
          have H8 := Lib.hid (H7.out.1.below hb8)
          have u0 := H8.out.c0
          clear hb8
          go_wp2_with fail
          refine (tw_stable H8.out H4.out.2).mono ?_
          rw [← HT.out]
          rintro x w9 ⟨rfl, rfl⟩
          go_wp2
          rw [hww] at *
          go_roundw
          case rel => exact ⟨t + 1, HLT.out, rfl, H8.out⟩
          case measure => have := HLT.out; simp [intOf]; omega
        · obtain rfl : t = m + 1 := by omega
          have hd : decide (((m + 1 : Nat) : Int) < ((m + 1 : Nat) : Int)) = false := decide_eq_false (by omega)
          have hd2 : decide ((m : Int) + 1 < (m : Int) + 1) = false := decide_eq_false (by omega)
          have hd' : decide (m + 1 < m + 1) = false := decide_eq_false (by omega)
          have HB := Lib.hid (H1.out.trans (HTW.out.bel.mono H1.out.size))
          clear hlt
          go_wp2
          go_ret
          exact ⟨rfl, HB.out⟩
end Go.Proofs.YtbpgfhcecanikaaGreat.walTwice
namespace Go.Proofs.YtbpgfhcecanikaaGreat
open Go.RowKit
theorem walTwice_walk (a b : Int) (v : Value) (n : Int) {W : World} (wa : (Lit.int .i64 a).wf = true) (wb : (Lit.int .i64 b).wf = true) (h2 : ∃ A cap l, v = .slice A l.length cap ∧ l.length ≤ maxLen ∧ ActsAtW W A l) (wn : (Lit.int .u8 n).wf = true) :
    Calls Tryz.prog 4 #[.int .i64 a, .int .i64 b, v, .int .u8 n] W fun x w' => x = .returned (.bool true) ∧ Below W.heap.size W w' := by
  have hn : 0 ≤ n ∧ n < 256 := by
    simp [Lit.wf, IntKind.min, IntKind.max, IntKind.signed, IntKind.bits] at wn; omega
  obtain ⟨A, cap, l, rfl, _, hc⟩ := h2
  by_cases hf : fewW a b l
  · by_cases hb : b < 4
    · exact walTwice.small a b A cap l n W hc hf hb
    · obtain ⟨p, rfl⟩ := Int.eq_ofNat_of_zero_le (show 0 ≤ a by have := hf.1; omega)
      obtain ⟨m, rfl⟩ := Int.eq_ofNat_of_zero_le (show 0 ≤ b by have := hf.2.2.1; omega)
      obtain ⟨k, rfl⟩ := Int.eq_ofNat_of_zero_le hn.1
      exact walTwice.few_ p m A cap l k W hc hf (by omega) (by omega)
  · exact walTwice.many a b A cap l n W hc hf
end Go.Proofs.YtbpgfhcecanikaaGreat
