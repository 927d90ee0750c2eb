/- The walk of carracklaw01.ShaTells. Condition: the constants lie where they lie. -/
import Derived.Test.YtkidmdifmkgofaaDoorShaApartWalk
import Derived.Test.YtkidmdifmkgofaaDoorShRHex
namespace Go.Proofs.YtkidmdifmkgofaaDoor
open Go.RowKit
set_option linter.unusedVariables false
namespace shaTells
open shaParts shaApart
set_option maxRecDepth 100000 in
set_option maxHeartbeats 2000000 in
theorem yes (A : Option Addr) (c : Nat) (l : List ByteArray) (w : World) (hL : LaidOk w) (ha : PartsAt w A l) (hn : l.length ≤ maxLen) (hs : ∀ s ∈ l, s.size ≤ reachBytes) :
    Calls Tryd.prog 3 #[.slice A l.length c] w fun x w' => x = .returned (.bool true) ∧ Below w.heap.size w w' := by
  have HA := Lib.hid (And.intro hL (And.intro ha (And.intro hn hs)))
  clear hL ha hn hs
  go_enter Tryd.func3, Tryd.ntmps3
  go_wp2_with fail
  refine (sh_awake w HA.out.1).mono ?_
  rintro x w1 ⟨rfl, hb1⟩
  have HB1 := Lib.hid hb1
  clear hb1
  go_wp2_with fail
  refine (sh_few A c l w1 (HA.out.2.1.below HB1.out) HA.out.2.2.1 HA.out.2.2.2).mono ?_
  rintro x w2 ⟨r, rfl, hfew, rfl⟩
  cases r with
  | false =>
    clear hfew
    go_wp2
    go_ret
    exact ⟨rfl, HB1.out⟩
  | true =>
    have HF := Lib.hid (hfew rfl)
    have HF2 : Hid ((nls l).length ≤ 2000 ∧ l.length ≤ 201) := Lib.hid ⟨by have := HF.out.2 l.length (Nat.le_refl _); rwa [List.take_length] at this, HF.out.1⟩
    clear hfew
    go_wp2_with fail
    refine (sh_sum A c l w2 (HA.out.2.1.below HB1.out) (HA.out.1.later HB1.out) (by have := HF2.out.2; omega) (by have := HF2.out.1; omega)).mono ?_
    rintro x w3 ⟨rfl, hb3⟩
    have HB3 := Lib.hid (HB1.out.trans (hb3.mono HB1.out.size))
    clear hb3
    go_wp2_with fail
    refine (r_new w3).mono ?_
    rintro x w4 ⟨P, rfl, hbk, hb4⟩
    have HB4 := Lib.hid (show BookAt w4 P ∧ Below w.heap.size w w4 from ⟨hbk, HB3.out.trans (hb4.mono HB3.out.size)⟩)
    clear hbk hb4
    go_wp2_with fail
    refine (sh_join A c l w4 (HA.out.2.1.below HB4.out.2) (by have := HF2.out.2; omega) (fun k hk => by have := HF.out.2 k hk; rw [cat_size]; omega)).mono ?_
    rintro x w5 ⟨rfl, rfl⟩
    have HCT := Lib.hid (nl_cat l)
    have HCS : Hid ((cat l).size ≤ 2000) := Lib.hid (by rw [cat_size]; exact HF2.out.1)
    go_wp2_with fail
    refine (r_digest P (cat l) w5 HB4.out.1 (by have := HCS.out; omega)).mono ?_
    rw [HCT.out]
    rintro x w6 ⟨rfl, hb6⟩
    have HB6 := Lib.hid (HB4.out.2.trans (hb6.mono HB4.out.2.size))
    clear hb6
    have hz : (txt (Sh.digest (nls l))).size = 32 := dg_size _
    have e1 : ((txt (Sh.digest (nls l))).toList == (txt (Sh.digest (nls l))).toList) = true := same_text _ _ rfl
    generalize txt (Sh.digest (nls l)) = D at *
    have HX := Lib.hid (fun w => sh_hex D w (by omega))
    have HY := Lib.hid (fun w => sr_hex D w (by omega))
    have e2 : ((txt (hexl (nl D))).toList == (txt (hexl (nl D))).toList) = true := same_text _ _ rfl
    generalize txt (hexl (nl D)) = X at *
    go_wp2_with fail
    refine (HX.out w6).mono ?_
    rintro x w7 ⟨rfl, hb7⟩
    have HB7 := Lib.hid (HB6.out.trans (hb7.mono HB6.out.size))
    clear hb7
    go_wp2_with fail
    refine (HY.out w7).mono ?_
    rintro x w8 ⟨rfl, m8, rfl⟩
    have HB8 : Hid (Below w.heap.size w (w7.drewN m8)) := Lib.hid ⟨HB7.out.os, HB7.out.tape, HB7.out.output, HB7.out.size, HB7.out.block⟩
    go_wp2
    go_ret
    exact ⟨rfl, HB8.out⟩
end shaTells
set_option maxRecDepth 100000 in
theorem shaTells_walk (v : Value) {W : World} (h : ∃ A cap l, v = .slice A l.length cap ∧ l.length ≤ maxLen ∧ (∀ s ∈ l, s.size ≤ reachBytes) ∧ PartsAt W A l) (w : World) (e : W = w) (hL : LaidOk w) :
    Calls Tryd.prog 3 #[v] w fun x w' => x = .returned (.bool true) ∧ Below w.heap.size w w' := by
  subst e
  obtain ⟨A, cap, l, rfl, h1, h2, h3⟩ := h
  exact shaTells.yes A cap l _ hL h3 h1 h2
end Go.Proofs.YtkidmdifmkgofaaDoor
