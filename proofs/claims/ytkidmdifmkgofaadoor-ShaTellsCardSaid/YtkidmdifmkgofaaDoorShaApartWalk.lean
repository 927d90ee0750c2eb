/- The walk of carracklaw01.ShaApart. Condition: the constants lie where they lie. -/
import Derived.Test.YtkidmdifmkgofaaDoorShaPartsWalk
import Derived.Test.YtkidmdifmkgofaaDoorShRNew
namespace Go.Proofs.YtkidmdifmkgofaaDoor
open Go.RowKit
set_option linter.unusedVariables false
namespace shaApart
open shaParts
theorem ne_text (x y : ByteArray) (h : x ≠ y) : (x.toList == y.toList) = false := by rw [eq_text]; exact decide_eq_false (fun e => h (nl_inj e))
theorem same_text (x y : ByteArray) (h : x = y) : (x.toList == y.toList) = true := by rw [eq_text, h]; exact decide_eq_true rfl
set_option maxRecDepth 100000 in
set_option maxHeartbeats 1000000 in
theorem few (a b : ByteArray) (w : World) (hL : LaidOk w) (ha : a.size ≤ 2000) (hb : b.size ≤ 2000) :
    Calls Tryd.prog 6 #[.string a, .string b] w fun x w' => x = .returned (.bool true) ∧ Below w.heap.size w w' := by
  have d1 : decide ((2000 : Int) < (a.size : Int)) = false := decide_eq_false (by omega)
  have d2 : decide ((2000 : Int) < (b.size : Int)) = false := decide_eq_false (by omega)
  have HL := Lib.hid hL
  have HS := Lib.hid (And.intro ha hb)
  clear hL ha hb
  go_enter Tryd.func6, Tryd.ntmps6
  go_wp2_with fail
  refine (sh_awake w HL.out).mono ?_
  rintro x w1 ⟨rfl, hb1⟩
  have HB1 := Lib.hid hb1
  clear hb1
  go_wp2_with fail
  refine (sum_one a w1 (HL.out.later HB1.out) (by have := HS.out.1; omega)).mono ?_
  rintro x w2 ⟨rfl, hb2⟩
  have HB2 := Lib.hid (HB1.out.trans (hb2.mono HB1.out.size))
  clear hb2
  go_wp2_with fail
  refine (sum_one b w2 (HL.out.later HB2.out) (by have := HS.out.2; omega)).mono ?_
  rintro x w3 ⟨rfl, hb3⟩
  have HB3 := Lib.hid (HB2.out.trans (hb3.mono HB2.out.size))
  clear hb3
  by_cases hab : a = b
  · subst hab
    have hz : (dg (nl a)).size = 32 := dg_size _
    generalize hD : dg (nl a) = D at *
    have HD := Lib.hid hD
    clear hD
    go_wp2_with fail
    refine (sum_one a w3 (HL.out.later HB3.out) (by have := HS.out.1; omega)).mono ?_
    rw [HD.out]
    rintro x w4 ⟨rfl, hb4⟩
    have HB4 := Lib.hid (HB3.out.trans (hb4.mono HB3.out.size))
    clear hb4
    go_wp2
    go_ret
    exact ⟨rfl, HB4.out⟩
  · have e2 : (a.toList == b.toList) = false := ne_text a b hab
    by_cases hd : dg (nl a) = dg (nl b)
    · have e1 : ((dg (nl a)).toList == (dg (nl b)).toList) = true := same_text _ _ hd
      have HDE := Lib.hid hd
      have ea : txt (Sh.digest (nl a)) = dg (nl a) := rfl
      have eb : txt (Sh.digest (nl b)) = dg (nl b) := rfl
      clear hd
      go_wp2_with fail
      refine (r_new w3).mono ?_
      rintro x w4 ⟨P, rfl, hbk, hb4⟩
      have HB4 := Lib.hid (show BookAt w4 P ∧ Below w.heap.size w w4 from ⟨hbk, HB3.out.trans (hb4.mono HB3.out.size)⟩)
      clear hbk hb4
      go_wp2_with fail
      refine (r_digest P a w4 HB4.out.1 (by have := HS.out.1; omega)).mono ?_
      rintro x w5 ⟨rfl, hb5⟩
      have HB5 := Lib.hid (show BookAt w5 P ∧ Below w.heap.size w w5 from ⟨HB4.out.1.below hb5, HB4.out.2.trans (hb5.mono HB4.out.2.size)⟩)
      clear hb5
      rw [ea]
      go_wp2_with fail
      refine (r_digest P b w5 HB5.out.1 (by have := HS.out.2; omega)).mono ?_
      rintro x w6 ⟨rfl, hb6⟩
      have HB6 := Lib.hid (HB5.out.2.trans (hb6.mono HB5.out.2.size))
      clear hb6
      rw [eb]
      clear ea eb
      go_wp2
      go_ret
      exact ⟨rfl, HB6.out⟩
    · have e1 : ((dg (nl a)).toList == (dg (nl b)).toList) = false := ne_text _ _ hd
      have hz : (dg (nl a)).size = 32 := dg_size _
      generalize hD : dg (nl a) = D at *
      have HD := Lib.hid hD
      clear hD hd
      go_wp2_with fail
      refine (sum_one a w3 (HL.out.later HB3.out) (by have := HS.out.1; omega)).mono ?_
      rw [HD.out]
      rintro x w4 ⟨rfl, hb4⟩
      have HB4 := Lib.hid (HB3.out.trans (hb4.mono HB3.out.size))
      clear hb4
      go_wp2
      go_ret
      exact ⟨rfl, HB4.out⟩
end shaApart
set_option maxRecDepth 100000 in
theorem shaApart_walk (a b : ByteArray) (w1 : a.size ≤ maxLen) (w2 : b.size ≤ maxLen) (w : World) (hL : LaidOk w) :
    Calls Tryd.prog 6 #[.string a, .string b] w fun x w' => x = .returned (.bool true) ∧ Below w.heap.size w w' := by
  by_cases ha : a.size ≤ 2000
  · by_cases hb : b.size ≤ 2000
    · exact shaApart.few a b w hL ha hb
    · have d1 : decide ((2000 : Int) < (a.size : Int)) = false := decide_eq_false (by omega)
      have d2 : decide ((2000 : Int) < (b.size : Int)) = true := decide_eq_true (by omega)
      clear w1 w2
      go_enter Tryd.func6, Tryd.ntmps6
      go_wp2_with fail
      refine (sh_awake w hL).mono ?_
      rintro x w1 ⟨rfl, hb1⟩
      have HB1 := Lib.hid hb1
      clear hb1
      go_wp2
      go_ret
      exact ⟨rfl, HB1.out⟩
  · have d1 : decide ((2000 : Int) < (a.size : Int)) = true := decide_eq_true (by omega)
    clear w1 w2
    go_enter Tryd.func6, Tryd.ntmps6
    go_wp2_with fail
    refine (sh_awake w hL).mono ?_
    rintro x w1 ⟨rfl, hb1⟩
    have HB1 := Lib.hid hb1
    clear hb1
    go_wp2
    go_ret
    exact ⟨rfl, HB1.out⟩
end Go.Proofs.YtkidmdifmkgofaaDoor
