/- carracklaw20.NetMoves where the Move goes. Condition: both places are there. -/
import Derived.WalkSpells
import Derived.Outline
import Derived.Deep.QuietTactic
import Derived.BigQuiet
import Derived.Test.YtahijpfmpdjceaaNetMovesGoM
namespace Go.Proofs.Ytahijpfmpdjceaa.netMoves
open Go.RowKit
set_option linter.unusedVariables false
set_option maxRecDepth 100000 in
set_option maxHeartbeats 4000000 in
theorem few_go_goUpF (A : Option Addr) (cap : Nat) (l : List MsgV) (n t h1 : Nat) (W : World) (hl : ¬ 300 < l.length) (hlc : l.length ≤ cap) (h0 : A = none → l.length = 0) (ha : MsAt W A l) (hnn : n < (l.take (sendN l.length 0)).length) (htt : t < (l.take (sendN l.length 0)).length)
    (hcmp : n < t) (hh1 : h1 = t + 1) (hfull : ¬ (l.take (sendN l.length 0)).length < 256) :
    Calls Try.prog 6 #[.slice A l.length cap, .int .i64 (n : Int), .int .i64 (t : Int)] W fun e w' => e = .returned (.bool true) ∧ Below W.heap.size W w' := by
  have d0 : decide ((300 : Int) < (l.length : Int)) = false := decide_eq_false (by omega)
  have d1 : decide (300 < l.length) = false := decide_eq_false hl
  have H := Lib.hid (And.intro ha (And.intro hlc (And.intro h0 (Nat.not_lt.1 hl))))
  have hms : (l.take (sendN l.length 0)).length ≤ 256 := by rw [List.length_take]; unfold sendN; omega
  have o1 : n ≤ n := by omega
  have o2 : n ≤ t := by omega
  have o3 : n < h1 := by omega
  have o4 : t < h1 := by omega
  have o5 : t = n ∨ t = t := by omega
  have gg1 : ¬ (t : Int) < (n : Int) := by omega
  have gg2 : ¬ t < n := by omega
  have gg3 : (n : Int) < (t : Int) := by omega
  have gg4 : n < t := hcmp
  have HMS := Lib.hid (And.intro hms (And.intro hnn (And.intro htt (And.intro hfull (And.intro o1 (And.intro o2 (And.intro o3 (And.intro o4 (And.intro o5 hh1)))))))))
  clear hl hlc h0 ha hms hnn htt hfull o1 o2 o3 o4 o5 hh1
  go_enter Try.func6, Try.ntmps6
  go_wp2_with fail
  refine (awake _).mono ?_
  rintro e w1 ⟨rfl, b1⟩
  have H1 := Lib.hid b1
  clear b1
  go_wp2_with fail
  refine (nt_new _).mono ?_
  rintro e w2 ⟨rfl, hs, hb⟩
  have H2 := Lib.hid (NtI.made H1.out hs hb)
  clear hs hb
  generalize w1.heap.size = N at *
  go_wp2_with fail
  refine (nt_send N N _ [] A cap l _ H2.out.s (by simp) (by have := H.out.2.2.2; omega) H.out.2.1 (H.out.1.below H2.out.bel) H.out.2.2.1).mono ?_
  rintro e w3 ⟨rfl, hd⟩
  obtain ⟨v3, hi3⟩ := H2.out.step hd
  have H3 := Lib.hid hi3
  clear hd hi3 H2
  rw [List.nil_append] at H3
  rw [show ([] : List MsgV).length = 0 from rfl] at H3
  generalize l.take (sendN l.length 0) = ms at *
  go_wp2_with fail
  refine (nt_listed_apart N N v3 ms _ H3.out.s (by have := HMS.out.1; omega)).mono ?_
  rintro e w4 ⟨A4, c4, rfl, hc4, h04, hat4, hap4, b4⟩
  have H4 := Lib.hid (And.intro (H3.out.below b4) (And.intro hat4 (And.intro hap4 hc4)))
  clear b4 hat4 hap4 H3 hc4 h04
  go_wp2_with fail
  have hmv := nt_move N N v3 ms (n : Int) (t : Int) _ H4.out.1.s HMS.out.1
  rw [show moveF (n : Int) (t : Int) ms = (moveL n t ms[n]! ms, 0) by unfold moveF; rw [if_pos ⟨decide_eq_true (by have := HMS.out.2.1; omega), decide_eq_true (by have := HMS.out.2.2.1; omega)⟩]; rfl] at hmv
  refine hmv.mono ?_
  clear hmv
  rintro e w5 ⟨rfl, hp5⟩
  have hk5 : Kq.Keeps (OwnN N v3) w4 w5 := by obtain ⟨_, _, h, _⟩ := hp5; exact h
  obtain ⟨v5, hi5⟩ := H4.out.1.step hp5
  have H5 := Lib.hid (And.intro hi5 (And.intro (H4.out.2.1.keeps hk5 H4.out.2.2.1) H4.out.2.2.2))
  clear hi5 hp5 hk5 H4
  have hml : (moveL n t ms[n]! ms).length = ms.length := moveL_length HMS.out.2.1 HMS.out.2.2.1
  have M1 := Lib.hid (moveL_take (m := ms[n]!) HMS.out.2.1 HMS.out.2.2.1 n HMS.out.2.2.2.2.1 HMS.out.2.2.2.2.2.1)
  have M2 := Lib.hid (moveL_drop (m := ms[n]!) HMS.out.2.1 HMS.out.2.2.1 h1 HMS.out.2.2.2.2.2.2.1 HMS.out.2.2.2.2.2.2.2.1)
  have M3 := Lib.hid (fun h => moveL_at (m := ms[n]!) HMS.out.2.1 HMS.out.2.2.1 h)
  have M4 : Hid (ms[n]! = ms[n]'HMS.out.2.1) := Lib.hid (getElem!_pos ms n HMS.out.2.1)
  generalize moveL n t ms[n]! ms = ns at *
  have HML := Lib.hid hml
  clear hml
  go_wp2_with fail
  have hnl := nt_listed N N v5 ns _ H5.out.1.s (by have := HMS.out.1; have := HML.out; omega)
  rw [HML.out] at hnl
  refine hnl.mono ?_
  clear hnl
  rintro e w6 ⟨A6, c6, rfl, hc6, h06, hat6, b6⟩
  have H6 := Lib.hid (And.intro (H5.out.1.below b6) (And.intro (H5.out.2.1.below b6) (And.intro hat6 (And.intro H5.out.2.2 hc6))))
  clear b6 hat6 H5 hc6 h06
  have f1 : decide ((n : Int) < 0) = false := decide_eq_false (by omega)
  have f2 : decide ((ms.length : Int) ≤ (t : Int)) = false := decide_eq_false (by have := HMS.out.2.1; have := HMS.out.2.2.1; have := HMS.out.2.2.2.2.2.2.2.2.1; omega)
  have f2' : decide (ms.length ≤ t) = false := decide_eq_false (by have := HMS.out.2.1; have := HMS.out.2.2.1; have := HMS.out.2.2.2.2.2.2.2.2.1; omega)
  have hhL : h1 ≤ ms.length := by have := HMS.out.2.1; have := HMS.out.2.2.1; have := HMS.out.2.2.2.2.2.2.2.2; omega
  have f3 : wrap64 ((t : Int) + 1) = (h1 : Int) := by rw [IntWalk.wrap64_in _ (by have := HMS.out.1; have := HMS.out.2.2.2.2.2.2.2.2.2; omega)]; have := HMS.out.2.2.2.2.2.2.2.2.2; omega
  have f4 : IntKind.i64.wrap ((t : Int) + 1) = (h1 : Int) := by rw [IntWalk.i64_in _ (by have := HMS.out.1; have := HMS.out.2.2.2.2.2.2.2.2.2; omega)]; have := HMS.out.2.2.2.2.2.2.2.2.2; omega
  have sl6 := fun wx => sub_run A6 ms.length c6 h1 hhL wx
  have sl4 := fun wx => sub_run A4 ms.length c4 h1 hhL wx
  generalize hB6 : subA A6 c6 h1 = B6 at *
  generalize hB4 : subA A4 c4 h1 = B4 at *
  have f5 : (n : Int) ≤ (c6 : Int) := by have := H6.out.2.2.2.2; have := HMS.out.2.2.2.2.1; have := HMS.out.2.1; omega
  have f6 : (n : Int) ≤ (c4 : Int) := by have := H6.out.2.2.2.1; have := HMS.out.2.2.2.2.1; have := HMS.out.2.1; omega
  have f7 : (t : Int) < (ms.length : Int) := by have := HMS.out.2.2.1; omega
  have f8 : (n : Int) < (ms.length : Int) := by have := HMS.out.2.1; omega
  have Q1 : Hid (∀ r, Calls Try.prog 18 #[.slice A6 n c6, .slice A4 n c4] (w6.drewN r) fun e w'' => e = .returned (.bool true) ∧ ∃ m, w'' = w6.drewN m) := by
    refine Lib.hid (fun r => ?_)
    have h := same_self (ms.take n) A6 A4 c6 c4 (w6.drewN r) (by rw [List.length_take]; have := HMS.out.1; omega) (by rw [← M1.out]; exact ms_front H6.out.2.2.1 n) (ms_front H6.out.2.1 n)
    rw [show (ms.take n).length = n by rw [List.length_take]; have := HMS.out.2.2.2.2.1; have := HMS.out.2.1; omega] at h
    exact Calls.quiet_of h
  have Q2 : Hid (∀ r, Calls Try.prog 18 #[.slice B6 (ms.length - h1) (c6 - h1), .slice B4 (ms.length - h1) (c4 - h1)] (w6.drewN r) fun e w'' => e = .returned (.bool true) ∧ ∃ m, w'' = w6.drewN m) := by
    refine Lib.hid (fun r => ?_)
    have h := same_self (ms.drop h1) B6 B4 (c6 - h1) (c4 - h1) (w6.drewN r) (by rw [List.length_drop]; have := HMS.out.1; omega) (by rw [← M2.out, ← hB6]; exact ms_sub H6.out.2.2.1 (by rw [HML.out]; exact H6.out.2.2.2.2) h1) (by rw [← hB4]; exact ms_sub H6.out.2.1 H6.out.2.2.2.1 h1)
    rw [List.length_drop] at h
    exact Calls.quiet_of h
  obtain ⟨g6, o6, rfl, hg6, hq6⟩ := H6.out.2.2.1 t (by rw [HML.out]; exact HMS.out.2.2.1)
  obtain ⟨g4, o4, rfl, hg4, hq4⟩ := H6.out.2.1 n HMS.out.2.1
  simp only [M3.out, M4.out] at hq6
  generalize ms[n]'HMS.out.2.1 = m at *
  clear hB6 hB4 hhL
  have x0 := hq6 0 (by omega)
  have x1 := hq6 1 (by omega)
  have x2 := hq6 2 (by omega)
  have x3 := hq6 3 (by omega)
  have x4 := hq6 4 (by omega)
  have x5 := hq6 5 (by omega)
  have x6 := hq6 6 (by omega)
  have x7 := hq6 7 (by omega)
  have y0 := hq4 0 (by omega)
  have y1 := hq4 1 (by omega)
  have y2 := hq4 2 (by omega)
  have y3 := hq4 3 (by omega)
  have y4 := hq4 4 (by omega)
  have y5 := hq4 5 (by omega)
  have y6 := hq4 6 (by omega)
  have y7 := hq4 7 (by omega)
  simp only [Nat.add_zero, MsgV.cells, List.getElem?_cons_zero, List.getElem?_cons_succ] at x0 x1 x2 x3 x4 x5 x6 x7 y0 y1 y2 y3 y4 y5 y6 y7
  clear hq6 hq4
  go_wp2
  go_quiet ((go_at_call 18; first | (with_reducible exact Q1.out _) | (with_reducible exact Q2.out _)))
  have H7 := Lib.hid (H6.out.1.below ⟨rfl, rfl, rfl, Nat.le_refl _, fun _ _ => rfl⟩ : NtI W (w6.drewN nq) N N v5 ns)
  clear H6 Q1 Q2 sl6 sl4 x0 x1 x2 x3 x4 x5 x6 x7 y0 y1 y2 y3 y4 y5 y6 y7
  generalize w6.drewN nq = w7 at *
  have HMS := Lib.hid (And.intro (show ns.length ≤ 256 by rw [HML.out]; exact HMS.out.1) (And.intro True.intro (And.intro (show hasF (n : Int) ns.length = true from decide_eq_true (by have := HMS.out.2.1; have := HML.out; omega)) (show ¬ ns.length < 256 by rw [HML.out]; exact HMS.out.2.2.2.1))))
  clear M1 M2 M3 M4 HML f1 f2 f2' f3 f4 f5 f6 f7 f8 hg6 hg4
  clear gg1 gg2 gg3 gg4 hcmp
  go_wp2_with fail
  refine (nt_listed_apart N N v5 ns _ H7.out.s (by have := HMS.out.1; omega)).mono ?_
  rintro e w8 ⟨A8, c8, rfl, hc8, h08, hat8, hap8, b8⟩
  have H8 := Lib.hid (And.intro (H7.out.below b8) (And.intro hat8 hap8))
  clear b8 hat8 hap8 H7 hc8 h08
  go_wp2_with fail
  have htw := nt_twice N N v5 ns (n : Int) _ H8.out.1.s HMS.out.1
  rw [show twF (n : Int) ns = (ns, 2) by unfold twF; rw [if_pos HMS.out.2.2.1, if_neg HMS.out.2.2.2]] at htw
  refine htw.mono ?_
  clear htw
  rintro e w9 ⟨rfl, hp9⟩
  have hk9 : Kq.Keeps (OwnN N v5) w8 w9 := by obtain ⟨_, _, h, _⟩ := hp9; exact h
  obtain ⟨v9, hi9⟩ := H8.out.1.step hp9
  have H9 := Lib.hid (And.intro hi9 (H8.out.2.1.keeps hk9 H8.out.2.2))
  clear hi9 hp9 hk9 H8
  go_wp2_with fail
  refine (nt_listed N N v9 ns _ H9.out.1.s (by have := HMS.out.1; omega)).mono ?_
  rintro e w10 ⟨A10, c10, rfl, hc10, h010, hat10, b10⟩
  have H10 := Lib.hid (And.intro (H9.out.1.below b10) (And.intro (H9.out.2.below b10) hat10))
  clear b10 hat10 H9 hc10 h010
  go_wp2_with fail
  refine (same_self ns A10 A8 c10 c8 _ (by have := HMS.out.1; omega) H10.out.2.2 H10.out.2.1).mono ?_
  rintro e w11 ⟨rfl, r11, rfl⟩
  have H11 := Lib.hid (H10.out.1.below ⟨rfl, rfl, rfl, Nat.le_refl _, fun _ _ => rfl⟩ : NtI W (w10.drewN r11) N N v9 ns)
  clear H10
  generalize w10.drewN r11 = w11 at *
  go_wp2
  go_ret
  exact ⟨rfl, H11.out.bel⟩
end Go.Proofs.Ytahijpfmpdjceaa.netMoves
