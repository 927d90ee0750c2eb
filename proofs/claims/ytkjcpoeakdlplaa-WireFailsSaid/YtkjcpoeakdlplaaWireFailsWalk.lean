/- carracklaw03.WireFails walked. No condition. -/
import Derived.WalkSpells
import Derived.Test.YtkjcpoeakdlplaaWireFew
import Derived.Test.YtkjcpoeakdlplaaAwake
namespace Go.Proofs.Ytkjcpoeakdlplaa.wireFails
open Go.RowKit
set_option linter.unusedVariables false
theorem Rd.keep {w w' : World} {B : Nat} {e : Int} {s : ByteArray} (h : Rd w B e s) : Rd w B e s := h
section
variable (B : Nat) (e : Int) (s : ByteArray) (w : World) (h : Rd w B e s) (hs : s.size ≤ maxLen) (he : e ≠ 0)
include h hs he
theorem st_byte : Calls Try.prog 44 #[.pointer (some ⟨B, 0, none⟩)] w fun x w' => x = .returned (.int .i64 0) ∧ Rd w' B e s ∧ Kq.Keeps (· = B) w w' :=
  (rd_byte B e s w h hs).mono fun x w' hp => by
    unfold BytePost at hp
    rw [WireM.raw_stuck e s _ he] at hp
    exact hp
theorem st_number : Calls Try.prog 45 #[.pointer (some ⟨B, 0, none⟩)] w fun x w' => x = .returned (.int .u64 0) ∧ Rd w' B e s ∧ Kq.Keeps (· = B) w w' :=
  (rd_number B e s w h hs).mono fun x w' hp => by
    unfold WholePost at hp
    rw [WireM.raw_stuck e s _ he] at hp
    exact hp
theorem st_text : Calls Try.prog 46 #[.pointer (some ⟨B, 0, none⟩)] w fun x w' => x = .returned (.string ⟨#[]⟩) ∧ Rd w' B e s ∧ Kq.Keeps (· = B) w w' :=
  (rd_text B e s w h hs).mono fun x w' hp => by
    unfold TextPost RawPost at hp
    rw [WireM.raw_stuck e s _ he] at hp
    simp only [] at hp
    rw [WireM.raw_stuck e s _ he] at hp
    exact hp
theorem st_raw (n : Int) : Calls Try.prog 47 #[.pointer (some ⟨B, 0, none⟩), .int .i64 n] w fun x w' => x = .returned (.string ⟨#[]⟩) ∧ Rd w' B e s ∧ Kq.Keeps (· = B) w w' :=
  (rd_raw B e s n w h hs).mono fun x w' hp => by
    unfold RawPost at hp
    rw [WireM.raw_stuck e s _ he] at hp
    exact hp
omit hs in
theorem st_left : Calls Try.prog 50 #[.pointer (some ⟨B, 0, none⟩)] w fun x w' => x = .returned (.int .i64 0) ∧ w = w' :=
  (rd_left B e s w h).mono fun x w' hp => by
    unfold leftOf at hp
    rw [if_neg he] at hp
    exact hp
omit hs in
theorem st_end : Calls Try.prog 53 #[.pointer (some ⟨B, 0, none⟩)] w fun x w' => x = .returned (.int .i64 e) ∧ w = w' :=
  (rd_end B e s w h).mono fun x w' hp => by
    unfold endOf at hp
    rw [if_neg he] at hp
    exact hp
end
theorem left_fresh (B : Nat) (s : ByteArray) (w : World) (h : Rd w B 0 s) : Calls Try.prog 50 #[.pointer (some ⟨B, 0, none⟩)] w fun x w' => x = .returned (.int .i64 ((s.size : Nat) : Int)) ∧ w = w' := rd_left B 0 s w h
theorem fail_fresh (B : Nat) (f : Int) (s : ByteArray) (w : World) (h : Rd w B 0 s) : Calls Try.prog 48 #[.pointer (some ⟨B, 0, none⟩), .int .i64 f] w fun x w' => x = .returned (.tuple #[]) ∧ Rd w' B f s ∧ Kq.Keeps (· = B) w w' :=
  (rd_fail B 0 f s w h).mono fun x w' hp => by rw [if_pos rfl] at hp; exact hp
theorem fail_stuck (B : Nat) (e f : Int) (s : ByteArray) (w : World) (h : Rd w B e s) (he : e ≠ 0) : Calls Try.prog 48 #[.pointer (some ⟨B, 0, none⟩), .int .i64 f] w fun x w' => x = .returned (.tuple #[]) ∧ Rd w' B e s ∧ Kq.Keeps (· = B) w w' :=
  (rd_fail B e f s w h).mono fun x w' hp => by rw [if_neg he] at hp; exact hp
/-- what the walk keeps: the world below, the reader above it -/
structure St (W : World) (B : Nat) (e : Int) (s : ByteArray) (w : World) : Prop where
  rd : Rd w B e s
  bel : Below W.heap.size W w
  lo : W.heap.size ≤ B
theorem St.step {W w w' : World} {B : Nat} {e e' : Int} {s s' : ByteArray} (h : St W B e s w) (hr : Rd w' B e' s') (hk : Kq.Keeps (· = B) w w') : St W B e' s' w' :=
  ⟨hr, h.bel.trans (hk.below h.bel.size (fun k _ e => by subst e; exact h.lo)), h.lo⟩
set_option maxRecDepth 100000 in
set_option maxHeartbeats 4000000 in
theorem early (s : ByteArray) (e f : Int) (a : Option Addr) (cap : Nat) (l : List CallV) (W : World) (hl : l.length ≤ maxLen) (hc : CallsAt W a l) (hk : ¬ fewOk l ∨ 5000 < s.size ∨ e = 0) :
    Calls Try.prog 11 #[.string s, .int .i64 e, .int .i64 f, .slice a l.length cap] W fun x w' => x = .returned (.bool true) ∧ Below W.heap.size W w' := by
  have HK := Lib.hid hk
  clear hk
  have HC := Lib.hid hc
  clear hc
  by_cases hf : fewOk l
  · have h2 : 5000 < s.size ∨ e = 0 := HK.out.resolve_left (fun h => h hf)
    clear HK
    by_cases h5 : 5000 < s.size
    · clear h2
      go_enter Try.func11, Try.ntmps11
      go_wp2_with fail
      refine (awake _).mono ?_
      rintro x w1 ⟨rfl, hb⟩
      go_wp2_with fail
      refine (few_ok a cap l _ hl (HC.out.later hb) hf).mono ?_
      rintro x w2 ⟨rfl, rfl⟩
      go_wp2
      go_ret
      exact ⟨rfl, hb⟩
    · have he : e = 0 := h2.resolve_left h5
      subst he
      clear h2
      go_enter Try.func11, Try.ntmps11
      go_wp2_with fail
      refine (awake _).mono ?_
      rintro x w1 ⟨rfl, hb⟩
      go_wp2_with fail
      refine (few_ok a cap l _ hl (HC.out.later hb) hf).mono ?_
      rintro x w2 ⟨rfl, rfl⟩
      go_wp2
      go_ret
      exact ⟨rfl, hb⟩
  · clear HK
    go_enter Try.func11, Try.ntmps11
    go_wp2_with fail
    refine (awake _).mono ?_
    rintro x w1 ⟨rfl, hb⟩
    go_wp2_with fail
    refine (few_no a cap l _ hl (HC.out.later hb) hf).mono ?_
    rintro x w2 ⟨rfl, rfl⟩
    go_wp2
    go_ret
    exact ⟨rfl, hb⟩
set_option maxRecDepth 100000 in
set_option maxHeartbeats 8000000 in
theorem main (s : ByteArray) (e f : Int) (a : Option Addr) (cap : Nat) (l : List CallV) (W : World) (hl : l.length ≤ maxLen) (hc : CallsAt W a l) (hs : s.size ≤ maxLen)
    (h5 : ¬ 5000 < s.size) (he : e ≠ 0) (hf : fewOk l) (we : (Lit.int .i64 e).wf = true) (wf : (Lit.int .i64 f).wf = true) :
    Calls Try.prog 11 #[.string s, .int .i64 e, .int .i64 f, .slice a l.length cap] W fun x w' => x = .returned (.bool true) ∧ Below W.heap.size W w' := by
  have HC := Lib.hid hc
  have HM := Lib.hid hl
  unfold maxLen at hl
  have HF := Lib.hid hf
  have HE := Lib.hid he
  have HS := Lib.hid hs
  have he' : (e == 0) = false := by simpa using he
  have he2 : decide (e = 0) = false := by simpa using he
  clear hc hf he hs we wf
  go_enter Try.func11, Try.ntmps11
  go_wp2_with fail
  refine (awake _).mono ?_
  rintro x w1 ⟨rfl, hb1⟩
  go_wp2_with fail
  refine (few_ok a cap l _ HM.out (HC.out.later hb1) HF.out).mono ?_
  rintro x w2 ⟨rfl, rfl⟩
  go_wp2_with fail
  refine (rd_new s _).mono ?_
  rintro x w2 ⟨rfl, R2, b2⟩
  have S2 : St W w1.heap.size 0 s w2 := ⟨R2, hb1.trans (b2.mono hb1.size), hb1.size⟩
  clear R2 b2
  generalize w1.heap.size = B at *
  clear hb1
  go_wp2_with fail
  refine (fail_fresh B 0 s _ S2.rd).mono ?_
  rintro x w3 ⟨rfl, R3, K3⟩
  have S3 := S2.step R3 K3
  clear R3 K3 S2
  go_wp2_with fail
  refine (mem_err B 0 _ S3.rd.c0).mono ?_
  rintro x w4 ⟨rfl, rfl⟩
  go_wp2_with fail
  refine (left_fresh B s _ S3.rd).mono ?_
  rintro x w4 ⟨rfl, rfl⟩
  go_wp2_with fail
  refine (fail_fresh B e s _ S3.rd).mono ?_
  rintro x w4 ⟨rfl, R4, K4⟩
  have S4 := S3.step R4 K4
  clear R4 K4 S3
  go_wp2_with fail
  refine (fail_stuck B e f s _ S4.rd HE.out).mono ?_
  rintro x w5 ⟨rfl, R5, K5⟩
  have S5 := S4.step R5 K5
  clear R5 K5 S4
  have H5 := Lib.hid S5
  clear S5
  go_wp2
  go_loopw [10] (fun i wr => ∃ k : Nat, k ≤ l.length ∧ i = .int .i64 k ∧ St W B e s wr) (fun i _ => l.length - (intOf i).toNat)
  case atStart => exact ⟨0, by omega, rfl, H5.out⟩
  case round =>
    obtain ⟨k, hk, rfl, hS⟩ := hrel
    have HR := Lib.hid hS
    clear hS
    by_cases hlt : k < l.length
    · obtain ⟨b, off, rfl, hb, hcell0⟩ := HC.out.later HR.out.bel k hlt
      obtain ⟨c, hcell⟩ : ∃ c, IsCall _ b (off + k * 4) c := ⟨_, hcell0⟩
      clear hcell0
      have HL := Lib.hid hlt
      have c0 := hcell.c0
      have c1 := hcell.c1
      by_cases q0 : c.kind = 0
      · rw [q0] at c0
        clear q0
        go_wp2_with fail
        refine (st_byte B e s _ HR.out.rd HS.out HE.out).mono ?_
        rintro x w6 ⟨rfl, R6, K6⟩
        have S6 := HR.out.step R6 K6
        clear R6 K6 HR c0 c1
        go_wp2_with fail
        refine (st_left B e s _ S6.rd HE.out).mono ?_
        rintro x w7 ⟨rfl, rfl⟩
        go_wp2_with fail
        refine (mem_err B e _ S6.rd.c0).mono ?_
        rintro x w7 ⟨rfl, rfl⟩
        go_wp2_with fail
        refine (st_end B e s _ S6.rd HE.out).mono ?_
        rintro x w7 ⟨rfl, rfl⟩
        have H6 := Lib.hid S6
        clear S6
        go_wp2
        go_round
        case rel => exact ⟨k + 1, by have := HL.out; omega, by go_num, H6.out⟩
        case measure => have := HL.out; simp [intOf]; omega
      by_cases q1 : c.kind = 1
      · rw [q1] at c0
        clear q0 q1
        go_wp2_with fail
        refine (st_number B e s _ HR.out.rd HS.out HE.out).mono ?_
        rintro x w6 ⟨rfl, R6, K6⟩
        have S6 := HR.out.step R6 K6
        clear R6 K6 HR c0 c1
        go_wp2_with fail
        refine (st_left B e s _ S6.rd HE.out).mono ?_
        rintro x w7 ⟨rfl, rfl⟩
        go_wp2_with fail
        refine (mem_err B e _ S6.rd.c0).mono ?_
        rintro x w7 ⟨rfl, rfl⟩
        go_wp2_with fail
        refine (st_end B e s _ S6.rd HE.out).mono ?_
        rintro x w7 ⟨rfl, rfl⟩
        have H6 := Lib.hid S6
        clear S6
        go_wp2
        go_round
        case rel => exact ⟨k + 1, by have := HL.out; omega, by go_num, H6.out⟩
        case measure => have := HL.out; simp [intOf]; omega
      by_cases q2 : c.kind = 2
      · rw [q2] at c0
        clear q0 q1 q2
        go_wp2_with fail
        refine (st_text B e s _ HR.out.rd HS.out HE.out).mono ?_
        rintro x w6 ⟨rfl, R6, K6⟩
        have S6 := HR.out.step R6 K6
        clear R6 K6 HR c0 c1
        go_wp2_with fail
        refine (st_left B e s _ S6.rd HE.out).mono ?_
        rintro x w7 ⟨rfl, rfl⟩
        go_wp2_with fail
        refine (mem_err B e _ S6.rd.c0).mono ?_
        rintro x w7 ⟨rfl, rfl⟩
        go_wp2_with fail
        refine (st_end B e s _ S6.rd HE.out).mono ?_
        rintro x w7 ⟨rfl, rfl⟩
        have H6 := Lib.hid S6
        clear S6
        go_wp2
        go_round
        case rel => exact ⟨k + 1, by have := HL.out; omega, by go_num, H6.out⟩
        case measure => have := HL.out; simp [intOf]; omega
      have r0 : (c.kind == 0) = false := by simpa using q0
      have r1 : (c.kind == 1) = false := by simpa using q1
      have r2 : (c.kind == 2) = false := by simpa using q2
      go_wp2_with fail
      refine (st_raw B e s _ HR.out.rd HS.out HE.out c.k).mono ?_
      rintro x w6 ⟨rfl, R6, K6⟩
      have S6 := HR.out.step R6 K6
      clear R6 K6 HR c0 c1
      go_wp2_with fail
      refine (st_left B e s _ S6.rd HE.out).mono ?_
      rintro x w7 ⟨rfl, rfl⟩
      go_wp2_with fail
      refine (mem_err B e _ S6.rd.c0).mono ?_
      rintro x w7 ⟨rfl, rfl⟩
      go_wp2_with fail
      refine (st_end B e s _ S6.rd HE.out).mono ?_
      rintro x w7 ⟨rfl, rfl⟩
      have H6 := Lib.hid S6
      clear S6
      go_wp2
      go_round
      case rel => exact ⟨k + 1, by have := HL.out; omega, by go_num, H6.out⟩
      case measure => have := HL.out; simp [intOf]; omega
    · have hk' : k = l.length := Nat.le_antisymm hk (Nat.not_lt.1 hlt)
      subst hk'
      go_wp2_with fail
      refine (st_end B e s _ HR.out.rd HE.out).mono ?_
      rintro x w6 ⟨rfl, rfl⟩
      go_wp2
      go_ret
      exact ⟨rfl, HR.out.bel⟩
theorem wireFails_walk (s : ByteArray) (e f : Int) (v : Value) (hs : s.size ≤ maxLen) (we : (Lit.int .i64 e).wf = true) (wf : (Lit.int .i64 f).wf = true) {W : World}
    (hd : ∃ a len cap l, v = .slice a len cap ∧ l.length = len ∧ len ≤ maxLen ∧ CallsAt W a l) :
    Calls Try.prog 11 #[.string s, .int .i64 e, .int .i64 f, v] W fun x w' => x = .returned (.bool true) ∧ Below W.heap.size W w' := by
  obtain ⟨a, len, cap, l, rfl, rfl, hl, hc⟩ := hd
  by_cases hf : fewOk l
  · by_cases h5 : 5000 < s.size
    · exact early s e f a cap l W hl hc (Or.inr (Or.inl h5))
    · by_cases he : e = 0
      · exact early s e f a cap l W hl hc (Or.inr (Or.inr he))
      · exact main s e f a cap l W hl hc hs h5 he hf we wf
  · exact early s e f a cap l W hl hc (Or.inl hf)
end Go.Proofs.Ytkjcpoeakdlplaa.wireFails
