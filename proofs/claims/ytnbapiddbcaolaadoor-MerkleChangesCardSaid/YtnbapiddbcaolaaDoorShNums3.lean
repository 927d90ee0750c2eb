/- Contracts of carrackref01's digit, above, least. Condition: sizes. -/
import Derived.Test.YtnbapiddbcaolaaDoorShNums2
namespace Go.Proofs.YtnbapiddbcaolaaDoor
open Go.RowKit
set_option linter.unusedVariables false
set_option maxRecDepth 100000 in
theorem r_digit (G : Nat) (l : List Nat) (c i : Nat) (w : World) (h : Nums w G l) :
    Calls Tryd.prog 63 #[.slice (some ⟨G, 0, none⟩) l.length c, .int .i64 (i : Int)] w fun e w' => e = .returned (.int .u64 ((l.getD i 0 : Nat) : Int)) ∧ w' = w := by
  by_cases hi : i < l.length
  · have d : (i : Int) < (l.length : Int) := by omega
    have c0 := h.cell i hi
    clear h
    generalize l.getD i 0 = v at *
    go_enter Tryd.func63, Tryd.ntmps63
    go_wp2
    go_ret
    exact ⟨rfl, rfl⟩
  · have d : ¬ (i : Int) < (l.length : Int) := by omega
    have hz : l.getD i 0 = 0 := by rw [List.getD_eq_getElem?_getD, List.getElem?_eq_none (by omega)]; rfl
    rw [hz]
    clear h hz
    go_enter Tryd.func63, Tryd.ntmps63
    go_wp2
    go_ret
    exact ⟨rfl, rfl⟩
set_option maxRecDepth 100000 in
set_option maxHeartbeats 1000000 in
theorem r_above (G : Nat) (a : List Nat) (ca : Nat) (F : Nat) (b : List Nat) (cb : Nat) (w : World) (ha : Nums w G a) (hb : Nums w F b) (hl : a.length + b.length ≤ 1000) :
    Calls Tryd.prog 57 #[.slice (some ⟨G, 0, none⟩) a.length ca, .slice (some ⟨F, 0, none⟩) b.length cb] w fun e w' => e = .returned (.bool (Sh.aboveL a b)) ∧ w' = w := by
  have H := Lib.hid (And.intro ha hb)
  clear ha hb
  go_enter Tryd.func57, Tryd.ntmps57
  go_wp2
  go_loopw [5] (fun i wr => ∃ (n : Nat) (z : Int), n ≤ a.length + b.length + 1 ∧ z = (n : Int) - 1 ∧ i = .int .i64 z ∧ Sh.aboveN a b n = Sh.aboveL a b ∧ wr = w) (fun i _ => (intOf i + 1).toNat)
  case atStart => exact ⟨a.length + b.length + 1, _, Nat.le_refl _, by omega, rfl, rfl, rfl⟩
  case round =>
    obtain ⟨n, z, hn, hz, rfl, hab, rfl⟩ := hrel
    have HAB := Lib.hid hab
    clear hab
    rcases n with _ | n
    · obtain rfl : z = -1 := by omega
      have HR : Hid (Sh.aboveL a b = false) := Lib.hid HAB.out.symm
      clear hz
      go_wp2
      go_ret
      exact ⟨by rw [HR.out]; rfl, rfl⟩
    · obtain rfl : z = (n : Int) := by omega
      have d0 : (0 : Int) ≤ (n : Int) := by omega
      have d1 : (n : Int) ≤ 1000 := by omega
      clear hz
      have HS : Hid ((if a.getD n 0 = b.getD n 0 then Sh.aboveN a b n else decide (b.getD n 0 < a.getD n 0)) = Sh.aboveL a b) := Lib.hid HAB.out
      have KA := Lib.hid (r_digit G a ca n wr H.out.1)
      have KB := Lib.hid (r_digit F b cb n wr H.out.2)
      generalize a.getD n 0 = x at *
      generalize b.getD n 0 = y at *
      go_wp2_with fail
      with_reducible refine KA.out.mono ?_
      rintro e w1 ⟨rfl, rfl⟩
      go_wp2_with fail
      with_reducible refine KB.out.mono ?_
      rintro e w2 ⟨rfl, rfl⟩
      by_cases hxy : x = y
      · subst hxy
        have HN : Hid (Sh.aboveN a b n = Sh.aboveL a b) := Lib.hid (by have := HS.out; rwa [if_pos rfl] at this)
        go_wp2
        go_roundw
        case rel => exact ⟨n, _, by omega, rfl, rfl, HN.out, trivial⟩
        case measure => simp [intOf]
      · have HN : Hid (decide (y < x) = Sh.aboveL a b) := Lib.hid (by have := HS.out; rwa [if_neg hxy] at this)
        have e1 : ¬ (x : Int) = (y : Int) := by omega
        have e2 : decide ((y : Int) < (x : Int)) = decide (y < x) := by simp
        go_wp2
        go_ret
        exact ⟨by rw [← HN.out]; rfl, rfl⟩
end Go.Proofs.YtnbapiddbcaolaaDoor
