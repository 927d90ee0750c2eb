/- carracklaw20.NetMoves walked. No condition. -/
import Derived.WalkSpells
import Derived.Outline
import Derived.Deep.QuietTactic
import Derived.BigQuiet
import Derived.Test.YtahijpfmpdjceaaNtAwake
import Derived.Test.YtahijpfmpdjceaaMsgsOpen
namespace Go.Proofs.Ytahijpfmpdjceaa.netMoves
open Go.RowKit
set_option linter.unusedVariables false
set_option maxRecDepth 100000 in
set_option maxHeartbeats 1000000 in
theorem long (A : Option Addr) (cap : Nat) (l : List MsgV) (k t : Int) (W : World) (hl : 300 < l.length) :
    Calls Try.prog 6 #[.slice A l.length cap, .int .i64 k, .int .i64 t] W fun e w' => e = .returned (.bool true) ∧ Below W.heap.size W w' := by
  have d0 : decide ((300 : Int) < (l.length : Int)) = true := decide_eq_true (by omega)
  have d1 : decide (300 < l.length) = true := decide_eq_true hl
  clear hl
  go_enter Try.func6, Try.ntmps6
  go_wp2_with fail
  refine (awake _).mono ?_
  rintro x w1 ⟨rfl, b1⟩
  have H1 := Lib.hid b1
  clear b1
  go_wp2
  go_ret
  exact ⟨rfl, H1.out⟩
set_option maxRecDepth 100000 in
set_option maxHeartbeats 1000000 in
theorem nt_twice_bad (base N : Nat) (v : Value) (ms : List MsgV) (k : Int) (w : World) (h : NtS w base N v ms) (hb : hasF k ms.length = false) :
    Calls Try.prog 14 #[.pointer (some ⟨N, 0, none⟩), .int .i64 k] w fun e w' => e = .returned (.int .i64 3) ∧ w' = w := by
  have HH1 := Lib.hid (nt_has base N v ms k w h)
  rw [hb] at HH1
  clear h hb
  go_enter Try.func14, Try.ntmps14
  go_wp2_with fail
  refine HH1.out.mono ?_
  rintro e w1 ⟨rfl, rfl⟩
  go_wp2
  go_ret
  exact ⟨rfl, rfl⟩
/-- what a List hands out -/
theorem nt_listed (base N : Nat) (v : Value) (ms : List MsgV) (w : World) (h : NtS w base N v ms) (hm : ms.length ≤ 1000000) : Calls Try.prog 19 #[.pointer (some ⟨N, 0, none⟩)] w fun e w' => ∃ A c, e = .returned (.slice A ms.length c) ∧ ms.length ≤ c ∧ (A = none → ms.length = 0) ∧ MsAt w' A ms ∧ Below w.heap.size w w' := by
  refine (nt_list base N v ms w h hm).mono ?_
  rintro e w' ⟨v', rfl, hown, hb⟩
  obtain ⟨A, c, rfl, hc, h0, hat⟩ := row_ms hown
  exact ⟨A, c, rfl, hc, h0, hat, hb⟩
/-- and where it lies: at a place that the net does not write -/
theorem nt_listed_apart (base N : Nat) (v : Value) (ms : List MsgV) (w : World) (h : NtS w base N v ms) (hm : ms.length ≤ 1000000) : Calls Try.prog 19 #[.pointer (some ⟨N, 0, none⟩)] w fun e w' => ∃ A c, e = .returned (.slice A ms.length c) ∧ ms.length ≤ c ∧ (A = none → ms.length = 0) ∧ MsAt w' A ms ∧ (∀ g o, A = some ⟨g, o, none⟩ → ¬ OwnN N v g) ∧ Below w.heap.size w w' := by
  refine (nt_list base N v ms w h hm).mono ?_
  rintro e w' ⟨v', rfl, hown, hb⟩
  have hlt := hown.lt
  obtain ⟨A, c, rfl, hc, h0, hat⟩ := row_ms hown
  refine ⟨A, c, rfl, hc, h0, hat, ?_, hb⟩
  rintro g o rfl hg
  have h1 := (hlt g rfl).1
  rcases hg with rfl | e
  · have c0 := h.c0
    have : g < w.heap.size := Kq.blk_lt h.blk
    omega
  · have := (h.own.lt g e).2
    omega
set_option maxRecDepth 100000 in
set_option maxHeartbeats 4000000 in
theorem few_bad (A : Option Addr) (cap : Nat) (l : List MsgV) (k t : Int) (W : World) (hl : ¬ 300 < l.length) (hlc : l.length ≤ cap) (h0 : A = none → l.length = 0) (ha : MsAt W A l) (hbad : hasF k (l.take (sendN l.length 0)).length = false) :
    Calls Try.prog 6 #[.slice A l.length cap, .int .i64 k, .int .i64 t] W fun e w' => e = .returned (.bool true) ∧ Below W.heap.size W w' := by
  have d0 : decide ((300 : Int) < (l.length : Int)) = false := decide_eq_false (by omega)
  have d1 : decide (300 < l.length) = false := decide_eq_false hl
  have H := Lib.hid (And.intro ha (And.intro hlc (And.intro h0 (Nat.not_lt.1 hl))))
  have hms : (l.take (sendN l.length 0)).length ≤ 256 := by rw [List.length_take]; unfold sendN; omega
  have HMS := Lib.hid (And.intro hms hbad)
  clear hl hlc h0 ha hms hbad
  go_enter Try.func6, Try.ntmps6
  go_wp2_with fail
  refine (awake _).mono ?_
  rintro e w1 ⟨rfl, b1⟩
  have H1 := Lib.hid b1
  clear b1
  go_wp2_with fail
  refine (nt_new _).mono ?_
  rintro e w2 ⟨rfl, hs, hb⟩
  have H2 := Lib.hid (NtI.made H1.out hs hb)
  clear hs hb
  generalize w1.heap.size = N at *
  go_wp2_with fail
  refine (nt_send N N _ [] A cap l _ H2.out.s (by simp) (by have := H.out.2.2.2; omega) H.out.2.1 (H.out.1.below H2.out.bel) H.out.2.2.1).mono ?_
  rintro e w3 ⟨rfl, hd⟩
  obtain ⟨v3, hi3⟩ := H2.out.step hd
  have H3 := Lib.hid hi3
  clear hd hi3 H2
  rw [List.nil_append] at H3
  rw [show ([] : List MsgV).length = 0 from rfl] at H3
  generalize l.take (sendN l.length 0) = ms at *
  go_wp2_with fail
  refine (nt_listed N N v3 ms _ H3.out.s (by have := HMS.out.1; omega)).mono ?_
  rintro e w4 ⟨A4, c4, rfl, hc4, h04, hat4, b4⟩
  have H4 := Lib.hid (And.intro (H3.out.below b4) hat4)
  clear b4 hat4 H3 hc4 h04
  go_wp2_with fail
  have hmv := nt_move_bad N N v3 ms k t _ H4.out.1.s (Or.inl HMS.out.2)
  refine hmv.mono ?_
  clear hmv
  rintro e w5 ⟨rfl, rfl⟩
  go_wp2_with fail
  refine (nt_listed N N v3 ms _ H4.out.1.s (by have := HMS.out.1; omega)).mono ?_
  rintro e w6 ⟨A6, c6, rfl, hc6, h06, hat6, b6⟩
  have H6 := Lib.hid (And.intro (H4.out.1.below b6) (And.intro (H4.out.2.below b6) hat6))
  clear b6 hat6 H4 hc6 h06
  go_wp2_with fail
  refine (same_self ms A6 A4 c6 c4 _ (by have := HMS.out.1; omega) H6.out.2.2 H6.out.2.1).mono ?_
  rintro e w7 ⟨rfl, r7, rfl⟩
  have H7 := Lib.hid (H6.out.1.below ⟨rfl, rfl, rfl, Nat.le_refl _, fun _ _ => rfl⟩ : NtI W (w6.drewN r7) N N v3 ms)
  clear H6
  generalize w6.drewN r7 = w7 at *
  go_wp2_with fail
  refine (nt_listed N N v3 ms _ H7.out.s (by have := HMS.out.1; omega)).mono ?_
  rintro e w8 ⟨A8, c8, rfl, hc8, h08, hat8, b8⟩
  have H8 := Lib.hid (And.intro (H7.out.below b8) hat8)
  clear b8 hat8 H7 hc8 h08
  go_wp2_with fail
  have htw := nt_twice_bad N N v3 ms k _ H8.out.1.s HMS.out.2
  refine htw.mono ?_
  clear htw
  rintro e w9 ⟨rfl, rfl⟩
  go_wp2_with fail
  refine (nt_listed N N v3 ms _ H8.out.1.s (by have := HMS.out.1; omega)).mono ?_
  rintro e w10 ⟨A10, c10, rfl, hc10, h010, hat10, b10⟩
  have H10 := Lib.hid (And.intro (H8.out.1.below b10) (And.intro (H8.out.2.below b10) hat10))
  clear b10 hat10 H8 hc10 h010
  go_wp2_with fail
  refine (same_self ms A10 A8 c10 c8 _ (by have := HMS.out.1; omega) H10.out.2.2 H10.out.2.1).mono ?_
  rintro e w11 ⟨rfl, r11, rfl⟩
  have H11 := Lib.hid (H10.out.1.below ⟨rfl, rfl, rfl, Nat.le_refl _, fun _ _ => rfl⟩ : NtI W (w10.drewN r11) N N v3 ms)
  clear H10
  generalize w10.drewN r11 = w11 at *
  go_wp2
  go_ret
  exact ⟨rfl, H11.out.bel⟩
set_option maxRecDepth 100000 in
set_option maxHeartbeats 4000000 in
theorem few_full (A : Option Addr) (cap : Nat) (l : List MsgV) (k t : Int) (W : World) (hl : ¬ 300 < l.length) (hlc : l.length ≤ cap) (h0 : A = none → l.length = 0) (ha : MsAt W A l) (hkk : hasF k (l.take (sendN l.length 0)).length = true) (hbad : hasF t (l.take (sendN l.length 0)).length = false) (hfull : ¬ (l.take (sendN l.length 0)).length < 256) :
    Calls Try.prog 6 #[.slice A l.length cap, .int .i64 k, .int .i64 t] W fun e w' => e = .returned (.bool true) ∧ Below W.heap.size W w' := by
  have d0 : decide ((300 : Int) < (l.length : Int)) = false := decide_eq_false (by omega)
  have d1 : decide (300 < l.length) = false := decide_eq_false hl
  have H := Lib.hid (And.intro ha (And.intro hlc (And.intro h0 (Nat.not_lt.1 hl))))
  have hms : (l.take (sendN l.length 0)).length ≤ 256 := by rw [List.length_take]; unfold sendN; omega
  have HMS := Lib.hid (And.intro hms (And.intro hbad (And.intro hkk hfull)))
  clear hl hlc h0 ha hms hbad hkk hfull
  go_enter Try.func6, Try.ntmps6
  go_wp2_with fail
  refine (awake _).mono ?_
  rintro e w1 ⟨rfl, b1⟩
  have H1 := Lib.hid b1
  clear b1
  go_wp2_with fail
  refine (nt_new _).mono ?_
  rintro e w2 ⟨rfl, hs, hb⟩
  have H2 := Lib.hid (NtI.made H1.out hs hb)
  clear hs hb
  generalize w1.heap.size = N at *
  go_wp2_with fail
  refine (nt_send N N _ [] A cap l _ H2.out.s (by simp) (by have := H.out.2.2.2; omega) H.out.2.1 (H.out.1.below H2.out.bel) H.out.2.2.1).mono ?_
  rintro e w3 ⟨rfl, hd⟩
  obtain ⟨v3, hi3⟩ := H2.out.step hd
  have H3 := Lib.hid hi3
  clear hd hi3 H2
  rw [List.nil_append] at H3
  rw [show ([] : List MsgV).length = 0 from rfl] at H3
  generalize l.take (sendN l.length 0) = ms at *
  go_wp2_with fail
  refine (nt_listed N N v3 ms _ H3.out.s (by have := HMS.out.1; omega)).mono ?_
  rintro e w4 ⟨A4, c4, rfl, hc4, h04, hat4, b4⟩
  have H4 := Lib.hid (And.intro (H3.out.below b4) hat4)
  clear b4 hat4 H3 hc4 h04
  go_wp2_with fail
  have hmv := nt_move_bad N N v3 ms k t _ H4.out.1.s (Or.inr HMS.out.2.1)
  refine hmv.mono ?_
  clear hmv
  rintro e w5 ⟨rfl, rfl⟩
  go_wp2_with fail
  refine (nt_listed N N v3 ms _ H4.out.1.s (by have := HMS.out.1; omega)).mono ?_
  rintro e w6 ⟨A6, c6, rfl, hc6, h06, hat6, b6⟩
  have H6 := Lib.hid (And.intro (H4.out.1.below b6) (And.intro (H4.out.2.below b6) hat6))
  clear b6 hat6 H4 hc6 h06
  go_wp2_with fail
  refine (same_self ms A6 A4 c6 c4 _ (by have := HMS.out.1; omega) H6.out.2.2 H6.out.2.1).mono ?_
  rintro e w7 ⟨rfl, r7, rfl⟩
  have H7 := Lib.hid (H6.out.1.below ⟨rfl, rfl, rfl, Nat.le_refl _, fun _ _ => rfl⟩ : NtI W (w6.drewN r7) N N v3 ms)
  clear H6
  generalize w6.drewN r7 = w7 at *
  go_wp2_with fail
  refine (nt_listed_apart N N v3 ms _ H7.out.s (by have := HMS.out.1; omega)).mono ?_
  rintro e w8 ⟨A8, c8, rfl, hc8, h08, hat8, hap8, b8⟩
  have H8 := Lib.hid (And.intro (H7.out.below b8) (And.intro hat8 hap8))
  clear b8 hat8 hap8 H7 hc8 h08
  go_wp2_with fail
  have htw := nt_twice N N v3 ms k _ H8.out.1.s HMS.out.1
  rw [show twF k ms = (ms, 2) by unfold twF; rw [if_pos HMS.out.2.2.1, if_neg HMS.out.2.2.2]] at htw
  refine htw.mono ?_
  clear htw
  rintro e w9 ⟨rfl, hp9⟩
  have hk9 : Kq.Keeps (OwnN N v3) w8 w9 := by obtain ⟨_, _, h, _⟩ := hp9; exact h
  obtain ⟨v9, hi9⟩ := H8.out.1.step hp9
  have H9 := Lib.hid (And.intro hi9 (H8.out.2.1.keeps hk9 H8.out.2.2))
  clear hi9 hp9 hk9 H8
  go_wp2_with fail
  refine (nt_listed N N v9 ms _ H9.out.1.s (by have := HMS.out.1; omega)).mono ?_
  rintro e w10 ⟨A10, c10, rfl, hc10, h010, hat10, b10⟩
  have H10 := Lib.hid (And.intro (H9.out.1.below b10) (And.intro (H9.out.2.below b10) hat10))
  clear b10 hat10 H9 hc10 h010
  go_wp2_with fail
  refine (same_self ms A10 A8 c10 c8 _ (by have := HMS.out.1; omega) H10.out.2.2 H10.out.2.1).mono ?_
  rintro e w11 ⟨rfl, r11, rfl⟩
  have H11 := Lib.hid (H10.out.1.below ⟨rfl, rfl, rfl, Nat.le_refl _, fun _ _ => rfl⟩ : NtI W (w10.drewN r11) N N v9 ms)
  clear H10
  generalize w10.drewN r11 = w11 at *
  go_wp2
  go_ret
  exact ⟨rfl, H11.out.bel⟩
set_option maxRecDepth 100000 in
set_option maxHeartbeats 4000000 in
theorem few_more (A : Option Addr) (cap : Nat) (l : List MsgV) (k t : Int) (W : World) (hl : ¬ 300 < l.length) (hlc : l.length ≤ cap) (h0 : A = none → l.length = 0) (ha : MsAt W A l) (hkk : hasF k (l.take (sendN l.length 0)).length = true) (hbad : hasF t (l.take (sendN l.length 0)).length = false) (hfull : (l.take (sendN l.length 0)).length < 256) :
    Calls Try.prog 6 #[.slice A l.length cap, .int .i64 k, .int .i64 t] W fun e w' => e = .returned (.bool true) ∧ Below W.heap.size W w' := by
  have d0 : decide ((300 : Int) < (l.length : Int)) = false := decide_eq_false (by omega)
  have d1 : decide (300 < l.length) = false := decide_eq_false hl
  have H := Lib.hid (And.intro ha (And.intro hlc (And.intro h0 (Nat.not_lt.1 hl))))
  have hms : (l.take (sendN l.length 0)).length ≤ 256 := by rw [List.length_take]; unfold sendN; omega
  have HMS := Lib.hid (And.intro hms (And.intro hbad (And.intro hkk hfull)))
  clear hl hlc h0 ha hms hbad hkk hfull
  go_enter Try.func6, Try.ntmps6
  go_wp2_with fail
  refine (awake _).mono ?_
  rintro e w1 ⟨rfl, b1⟩
  have H1 := Lib.hid b1
  clear b1
  go_wp2_with fail
  refine (nt_new _).mono ?_
  rintro e w2 ⟨rfl, hs, hb⟩
  have H2 := Lib.hid (NtI.made H1.out hs hb)
  clear hs hb
  generalize w1.heap.size = N at *
  go_wp2_with fail
  refine (nt_send N N _ [] A cap l _ H2.out.s (by simp) (by have := H.out.2.2.2; omega) H.out.2.1 (H.out.1.below H2.out.bel) H.out.2.2.1).mono ?_
  rintro e w3 ⟨rfl, hd⟩
  obtain ⟨v3, hi3⟩ := H2.out.step hd
  have H3 := Lib.hid hi3
  clear hd hi3 H2
  rw [List.nil_append] at H3
  rw [show ([] : List MsgV).length = 0 from rfl] at H3
  generalize l.take (sendN l.length 0) = ms at *
  go_wp2_with fail
  refine (nt_listed N N v3 ms _ H3.out.s (by have := HMS.out.1; omega)).mono ?_
  rintro e w4 ⟨A4, c4, rfl, hc4, h04, hat4, b4⟩
  have H4 := Lib.hid (And.intro (H3.out.below b4) hat4)
  clear b4 hat4 H3 hc4 h04
  go_wp2_with fail
  have hmv := nt_move_bad N N v3 ms k t _ H4.out.1.s (Or.inr HMS.out.2.1)
  refine hmv.mono ?_
  clear hmv
  rintro e w5 ⟨rfl, rfl⟩
  go_wp2_with fail
  refine (nt_listed N N v3 ms _ H4.out.1.s (by have := HMS.out.1; omega)).mono ?_
  rintro e w6 ⟨A6, c6, rfl, hc6, h06, hat6, b6⟩
  have H6 := Lib.hid (And.intro (H4.out.1.below b6) (And.intro (H4.out.2.below b6) hat6))
  clear b6 hat6 H4 hc6 h06
  go_wp2_with fail
  refine (same_self ms A6 A4 c6 c4 _ (by have := HMS.out.1; omega) H6.out.2.2 H6.out.2.1).mono ?_
  rintro e w7 ⟨rfl, r7, rfl⟩
  have H7 := Lib.hid (H6.out.1.below ⟨rfl, rfl, rfl, Nat.le_refl _, fun _ _ => rfl⟩ : NtI W (w6.drewN r7) N N v3 ms)
  clear H6
  generalize w6.drewN r7 = w7 at *
  go_wp2_with fail
  refine (nt_listed_apart N N v3 ms _ H7.out.s (by have := HMS.out.1; omega)).mono ?_
  rintro e w8 ⟨A8, c8, rfl, hc8, h08, hat8, hap8, b8⟩
  have H8 := Lib.hid (And.intro (H7.out.below b8) (And.intro hat8 hap8))
  clear b8 hat8 hap8 H7 hc8 h08
  go_wp2_with fail
  have htw := nt_twice N N v3 ms k _ H8.out.1.s HMS.out.1
  rw [show twF k ms = (ms ++ [ms[k.toNat]!], 0) by unfold twF; rw [if_pos HMS.out.2.2.1, if_pos HMS.out.2.2.2]] at htw
  refine htw.mono ?_
  clear htw
  rintro e w9 ⟨rfl, hp9⟩
  have hk9 : Kq.Keeps (OwnN N v3) w8 w9 := by obtain ⟨_, _, h, _⟩ := hp9; exact h
  obtain ⟨v9, hi9⟩ := H8.out.1.step hp9
  have H9 := Lib.hid (And.intro hi9 (H8.out.2.1.keeps hk9 H8.out.2.2))
  clear hi9 hp9 hk9 H8
  go_wp2_with fail
  refine (nt_listed N N v9 _ _ H9.out.1.s (by have := HMS.out.1; rw [List.length_append]; simp only [List.length_cons, List.length_nil]; omega)).mono ?_
  rintro e w10 ⟨A10, c10, rfl, hc10, h010, hat10, b10⟩
  have H10 := Lib.hid (And.intro (H9.out.1.below b10) (And.intro (H9.out.2.below b10) (And.intro hat10 hc10)))
  clear b10 hat10 H9 hc10 h010
  obtain ⟨k0, k1⟩ := hasF_true HMS.out.2.2.1
  obtain ⟨n, rfl⟩ := Int.eq_ofNat_of_zero_le k0
  have d2 : decide (0 ≤ (n : Int)) = true := decide_eq_true k0
  have d3 : decide ((n : Int) < (ms.length : Int)) = true := decide_eq_true k1
  have k2 : n < ms.length := by omega
  rw [List.length_append, List.length_cons, List.length_nil, Nat.zero_add] at *
  have KK := Lib.hid k2
  clear k0 k1 k2
  have d4 : decide (n < ms.length) = true := decide_eq_true KK.out
  have d5 : decide ((ms.length : Int) + 1 = ((ms.length + 1 : Nat) : Int)) = true := decide_eq_true (by omega)
  have hle : ms.length ≤ c10 := by have := H10.out.2.2.2; omega
  have e1 : wrap64 ((ms.length : Int) + 1) = ((ms.length + 1 : Nat) : Int) := by rw [IntWalk.wrap64_in _ (by have := HMS.out.1; omega)]; omega
  have e2 : IntKind.i64.wrap ((ms.length : Int) + 1) = ((ms.length + 1 : Nat) : Int) := by rw [IntWalk.i64_in _ (by have := HMS.out.1; omega)]; omega
  have QL : Hid (∀ r, Calls Try.prog 18 #[.slice A10 ms.length c10, .slice A8 ms.length c8] (w10.drewN r) fun e w'' => e = .returned (.bool true) ∧ ∃ m, w'' = w10.drewN m) := Lib.hid (fun r => Calls.quiet_of (same_self ms A10 A8 c10 c8 _ (by have := HMS.out.1; omega) (by
    intro j hj
    obtain ⟨g, o, hA, hg, hc⟩ := H10.out.2.2.1 j (by rw [List.length_append]; omega)
    refine ⟨g, o, hA, hg, fun i hi => ?_⟩
    have := hc i hi
    rw [List.getElem_append_left hj] at this
    exact this) (fun j hj => H10.out.2.1 j hj)))
  obtain ⟨g8, o8, rfl, hg8, hq8⟩ := H10.out.2.1 n KK.out
  obtain ⟨g10, o10, rfl, hg10, hq10⟩ := H10.out.2.2.1 ms.length (by rw [List.length_append, List.length_cons]; omega)
  have hm10 : ∀ hh, (ms ++ [ms[(n : Int).toNat]!])[ms.length]'hh = ms[n]'KK.out := fun hh => by
    rw [List.getElem_append_right (Nat.le_refl _)]
    simp only [Nat.sub_self, List.getElem_cons_zero, Int.toNat_natCast]
    exact getElem!_pos ms n KK.out
  simp only [hm10] at hq10
  generalize ms[n]'KK.out = m at *
  have x0 := hq8 0 (by omega)
  have x1 := hq8 1 (by omega)
  have x2 := hq8 2 (by omega)
  have x3 := hq8 3 (by omega)
  have x4 := hq8 4 (by omega)
  have x5 := hq8 5 (by omega)
  have x6 := hq8 6 (by omega)
  have x7 := hq8 7 (by omega)
  have y0 := hq10 0 (by omega)
  have y1 := hq10 1 (by omega)
  have y2 := hq10 2 (by omega)
  have y3 := hq10 3 (by omega)
  have y4 := hq10 4 (by omega)
  have y5 := hq10 5 (by omega)
  have y6 := hq10 6 (by omega)
  have y7 := hq10 7 (by omega)
  simp only [Nat.add_zero, MsgV.cells, List.getElem?_cons_zero, List.getElem?_cons_succ] at x0 x1 x2 x3 x4 x5 x6 x7 y0 y1 y2 y3 y4 y5 y6 y7
  have e3 : (ms.length : Int) < ((ms.length + 1 : Nat) : Int) := by omega
  have e4 : ms.length < ms.length + 1 := by omega
  have e5 : (n : Int) < (ms.length : Int) := by have := KK.out; omega
  have e6 := KK.out
  have e7 : (ms.length : Int) < (ms.length : Int) + 1 := by omega
  clear hq8 hq10 hm10
  go_wp2
  go_quiet ((first | (go_at_call 18; exact QL.out _)))
  have H11 := Lib.hid (H10.out.1.below ⟨rfl, rfl, rfl, Nat.le_refl _, fun _ _ => rfl⟩ : NtI W (w10.drewN nq) N N v9 _)
  generalize w10.drewN nq = w11 at *
  go_wp2
  go_ret
  exact ⟨rfl, H11.out.bel⟩
end Go.Proofs.Ytahijpfmpdjceaa.netMoves
