/- carracklaw09.ProofJudges walked. Condition: the constants lie where they lie. -/
import Derived.WalkSpells
import Derived.Outline
import Derived.Test.YtclloplkbajebaaDoorPfJQ
namespace Go.Proofs.YtclloplkbajebaaDoor
open Go.RowKit
set_option linter.unusedVariables false
namespace proofJudges
def Ok (root s key value : ByteArray) : Prop := root.size ≤ 300 ∧ s.size ≤ 3000 ∧ key.size ≤ 300 ∧ value.size ≤ 300
set_option maxRecDepth 100000 in
set_option maxHeartbeats 1000000 in
theorem early (root s key value : ByteArray) (W : World) (hL : LaidOk W) (hno : ¬ Ok root s key value) :
    Calls Tryd.prog 5 #[.string root, .string s, .string key, .string value] W fun x w' => x = .returned (.bool true) ∧ Below W.heap.size W w' := by
  have HA := Lib.hid (awake09 W hL)
  have HNO := Lib.hid hno
  clear hL hno
  by_cases h1 : 300 < root.size
  · have d1 : decide ((300 : Int) < (root.size : Int)) = true := decide_eq_true (by omega)
    have d2 : decide (300 < root.size) = true := decide_eq_true h1
    clear h1
    go_enter Tryd.func5, Tryd.ntmps5
    go_wp2_with fail
    refine HA.out.mono ?_
    rintro x w1 ⟨rfl, b1⟩
    have HB := Lib.hid b1
    clear b1
    go_wp2
    go_ret
    exact ⟨rfl, HB.out⟩
  have d1 : decide ((300 : Int) < (root.size : Int)) = false := decide_eq_false (by omega)
  have d2 : decide (300 < root.size) = false := decide_eq_false h1
  by_cases h2 : 3000 < s.size
  · have d3 : decide ((3000 : Int) < (s.size : Int)) = true := decide_eq_true (by omega)
    have d4 : decide (3000 < s.size) = true := decide_eq_true h2
    clear h1 h2
    go_enter Tryd.func5, Tryd.ntmps5
    go_wp2_with fail
    refine HA.out.mono ?_
    rintro x w1 ⟨rfl, b1⟩
    have HB := Lib.hid b1
    clear b1
    go_wp2
    go_ret
    exact ⟨rfl, HB.out⟩
  have d3 : decide ((3000 : Int) < (s.size : Int)) = false := decide_eq_false (by omega)
  have d4 : decide (3000 < s.size) = false := decide_eq_false h2
  by_cases h3 : 300 < key.size
  · have d5 : decide ((300 : Int) < (key.size : Int)) = true := decide_eq_true (by omega)
    have d6 : decide (300 < key.size) = true := decide_eq_true h3
    clear h1 h2 h3
    go_enter Tryd.func5, Tryd.ntmps5
    go_wp2_with fail
    refine HA.out.mono ?_
    rintro x w1 ⟨rfl, b1⟩
    have HB := Lib.hid b1
    clear b1
    go_wp2
    go_ret
    exact ⟨rfl, HB.out⟩
  have d5 : decide ((300 : Int) < (key.size : Int)) = false := decide_eq_false (by omega)
  have d6 : decide (300 < key.size) = false := decide_eq_false h3
  have h4 : 300 < value.size := by
    by_cases g : 300 < value.size
    · exact g
    · exact absurd ⟨by omega, by omega, by omega, by omega⟩ HNO.out
  have d7 : decide ((300 : Int) < (value.size : Int)) = true := decide_eq_true (by omega)
  have d8 : decide (300 < value.size) = true := decide_eq_true h4
  clear h1 h2 h3 h4
  go_enter Tryd.func5, Tryd.ntmps5
  go_wp2_with fail
  refine HA.out.mono ?_
  rintro x w1 ⟨rfl, b1⟩
  have HB := Lib.hid b1
  clear b1
  go_wp2
  go_ret
  exact ⟨rfl, HB.out⟩
set_option maxRecDepth 100000 in
set_option maxHeartbeats 1000000 in
theorem main (root s key value : ByteArray) (W : World) (hL : LaidOk W) (hok : Ok root s key value) :
    Calls Tryd.prog 5 #[.string root, .string s, .string key, .string value] W fun x w' => x = .returned (.bool true) ∧ Below W.heap.size W w' := by
  obtain ⟨h1, h2, h3, h4⟩ := hok
  have HA := Lib.hid (awake09 W hL)
  have HL := Lib.hid hL
  have HS : Hid (s.size ≤ 100000) := Lib.hid (by omega)
  have d1 : decide ((300 : Int) < (root.size : Int)) = false := decide_eq_false (by omega)
  have d2 : decide (300 < root.size) = false := decide_eq_false (by omega)
  have d3 : decide ((3000 : Int) < (s.size : Int)) = false := decide_eq_false (by omega)
  have d4 : decide (3000 < s.size) = false := decide_eq_false (by omega)
  have d5 : decide ((300 : Int) < (key.size : Int)) = false := decide_eq_false (by omega)
  have d6 : decide (300 < key.size) = false := decide_eq_false (by omega)
  have d7 : decide ((300 : Int) < (value.size : Int)) = false := decide_eq_false (by omega)
  have d8 : decide (300 < value.size) = false := decide_eq_false (by omega)
  obtain ⟨HB, hHB⟩ : ∃ B, B = hasP root key value (pfParse s).1 := ⟨_, rfl⟩
  obtain ⟨LB, hLB⟩ : ∃ B, B = lacksP root key (pfParse s).1 := ⟨_, rfl⟩
  obtain ⟨U, hU⟩ : ∃ U, U = askH (pfParse s).1 [] := ⟨_, rfl⟩
  have HUL : Hid (U.length ≤ 700) := Lib.hid (by rw [hU]; have := askH_le (s := s) []; simp only [List.length_nil] at this; omega)
  have HPH := Lib.hid (fun w hl => pf_has root s key value w HS.out hl)
  have HPL := Lib.hid (fun w hl => pf_lacks root s key w HS.out hl)
  have HRH := Lib.hid (fun lo hi P w a b c => rq_has root s key value lo hi P [] w HS.out a b c (by simp))
  have HRL := Lib.hid (fun lo hi P w a b c => rq_lacks root s key lo hi P U w HS.out a b c HUL.out)
  rw [← hHB] at HPH HRH
  rw [← hLB] at HPL HRL
  rw [← hU] at HRH
  clear hL h1 h2 h3 h4 hHB hLB hU
  go_enter Tryd.func5, Tryd.ntmps5
  go_wp2_with fail
  refine HA.out.mono ?_
  rintro x w1 ⟨rfl, b1⟩
  have H1 : Hid (L9 W w1 none []) := Lib.hid ⟨fun j hj => absurd hj (by simp), HL.out, b1⟩
  clear b1
  go_wp2_with fail
  refine (r_booknewW w1).mono ?_
  rintro x w2 ⟨P, rfl, hbk, hbl⟩
  have H2 := Lib.hid (H1.out.book hbk hbl)
  clear hbk hbl H1 d1 d2 d3 d4 d5 d6 d7 d8
  generalize w1.heap.size = lo at *
  generalize w2.heap.size = hi at *
  go_wp2_with fail
  refine (HPH.out w2 H2.out.ok).mono ?_
  rintro x w3 ⟨rfl, b3⟩
  have H3 := Lib.hid (H2.out.below b3)
  clear b3 H2
  go_wp2_with fail
  refine (HRH.out lo hi P w3 H3.out.bk H3.out.hhi H3.out.hlo).mono ?_
  rintro x w4 ⟨rfl, hbk, hkp⟩
  have H4 := Lib.hid (H3.out.ask hbk hkp)
  clear hbk hkp H3
  have e1 : (HB == HB) = true := by simp
  go_wp2_with fail
  refine (HPL.out w4 H4.out.ok).mono ?_
  rintro x w5 ⟨rfl, b5⟩
  have H5 := Lib.hid (H4.out.below b5)
  clear b5 H4
  go_wp2_with fail
  refine (HRL.out lo hi P w5 H5.out.bk H5.out.hhi H5.out.hlo).mono ?_
  rintro x w6 ⟨rfl, hbk, hkp⟩
  have H6 := Lib.hid (H5.out.ask hbk hkp)
  clear hbk hkp H5
  have e2 : (LB == LB) = true := by simp
  go_wp2
  go_ret
  exact ⟨rfl, H6.out.bel⟩
theorem proofJudges_walk (root s key value : ByteArray) (h0 : root.size ≤ maxLen) (h1 : s.size ≤ maxLen) (h2 : key.size ≤ maxLen) (h3 : value.size ≤ maxLen) (w : World) (hL : LaidOk w) :
    Calls Tryd.prog 5 #[.string root, .string s, .string key, .string value] w fun x w' => x = .returned (.bool true) ∧ Below w.heap.size w w' := by
  by_cases hg : Ok root s key value
  · exact main root s key value w hL hg
  · exact early root s key value w hL hg
end proofJudges
end Go.Proofs.YtclloplkbajebaaDoor
