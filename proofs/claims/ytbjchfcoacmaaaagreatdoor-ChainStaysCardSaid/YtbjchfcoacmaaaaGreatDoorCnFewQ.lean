/- carracklaw13's few. No condition. -/
import Derived.WalkSpells
import Derived.Outline
import Derived.ProofKit
import Derived.Test.YtbjchfcoacmaaaaGreatDoorProg
import Derived.Test.YtbjchfcoacmaaaaGreatDoorCaMQ
import Derived.Test.YtbjchfcoacmaaaaGreatDoorObjQ
namespace Go.Proofs.YtbjchfcoacmaaaaGreatDoor
open Go.RowKit
set_option linter.unusedVariables false
def FewC (s0 s1 : Nat) (l : List CaV) : Prop := (s0 ≠ 0 ∧ s1 ≠ 0) ∧ l.length ≤ 50 ∧ ∀ a ∈ l, a.d.size ≤ 2000 ∧ a.pd.size ≤ 300
instance (s0 s1 : Nat) (l : List CaV) : Decidable (FewC s0 s1 l) := by unfold FewC; infer_instance
set_option maxRecDepth 100000 in
set_option maxHeartbeats 1000000 in
theorem few13 (s0 s1 : Nat) (l : List CaV) (A : Option Addr) (cap : Nat) (w : World) (hA : caE.At w A l) :
    Calls Tryz.prog 15 #[.agg #[.int .u64 (s0 : Int), .int .u64 (s1 : Int)], .slice A l.length cap] w fun x w' => x = .returned (.bool (decide (FewC s0 s1 l))) ∧ Below w.heap.size w w' := by
  have HB := Lib.hid (Kq.below_alloc w (.cells #[.int .u64 (s0 : Int), .int .u64 (s1 : Int)] 40))
  by_cases h0 : s0 = 0
  · subst h0
    have HE : Hid (decide (FewC 0 s1 l) = false) := Lib.hid (decide_eq_false (fun h => h.1.1 rfl))
    clear hA
    go_enter Tryz.func15, Tryz.ntmps15
    go_wp2
    go_ret
    exact ⟨by rw [HE.out]; rfl, HB.out⟩
  have e0 : ((s0 : Int) == 0) = false := by rw [beq_eq_false_iff_ne]; omega
  have e0' : (s0 == 0) = false := by rw [beq_eq_false_iff_ne]; omega
  by_cases h1 : s1 = 0
  · subst h1
    have HE : Hid (decide (FewC s0 0 l) = false) := Lib.hid (decide_eq_false (fun h => h.1.2 rfl))
    clear hA h0
    go_enter Tryz.func15, Tryz.ntmps15
    go_wp2
    go_ret
    exact ⟨by rw [HE.out]; rfl, HB.out⟩
  have e1 : ((s1 : Int) == 0) = false := by rw [beq_eq_false_iff_ne]; omega
  have e1' : (s1 == 0) = false := by rw [beq_eq_false_iff_ne]; omega
  by_cases h60 : 50 < l.length
  · have d1 : decide ((50 : Int) < (l.length : Int)) = true := decide_eq_true (by omega)
    have d2 : decide (50 < l.length) = true := decide_eq_true h60
    have HE : Hid (decide (FewC s0 s1 l) = false) := Lib.hid (decide_eq_false (fun h => by have := h.2.1; omega))
    clear h60 hA h0 h1
    go_enter Tryz.func15, Tryz.ntmps15
    go_wp2
    go_ret
    exact ⟨by rw [HE.out]; rfl, HB.out⟩
  have d1 : decide ((50 : Int) < (l.length : Int)) = false := decide_eq_false (by omega)
  have d2 : decide (50 < l.length) = false := decide_eq_false h60
  have HA := Lib.hid (hA.below HB.out)
  have H60 : Hid (l.length ≤ 50) := Lib.hid (by omega)
  have H00 := Lib.hid (And.intro h0 h1)
  clear hA h60 h0 h1
  go_enter Tryz.func15, Tryz.ntmps15
  go_wp2
  clear d1 d2 e0 e0' e1 e1'
  obtain ⟨wq, hwq⟩ : ∃ z, z = w.alloc (.cells #[.int .u64 (s0 : Int), .int .u64 (s1 : Int)] 40) := ⟨_, rfl⟩
  rw [← hwq] at HA HB ⊢
  clear hwq
  go_loopw [5] (fun u wr => ∃ j : Nat, j ≤ l.length ∧ u = .int .i64 (j : Int) ∧ wr = wq ∧ ∀ i (h : i < l.length), i < j → l[i].d.size ≤ 2000 ∧ l[i].pd.size ≤ 300) (fun u _ => l.length - (intOf u).toNat)
  case atStart => exact ⟨0, by omega, rfl, rfl, fun i _ h => absurd h (Nat.not_lt_zero _)⟩
  case round =>
    obtain ⟨j, hj, rfl, rfl, hup⟩ := hrel
    have hn := H60.out
    have HUP := Lib.hid hup
    clear hup
    by_cases hlt : j < l.length
    · obtain ⟨b, off, rfl, hb, hc⟩ := HA.out j hlt
      obtain ⟨x, hx⟩ : ∃ x, x = l[j] := ⟨_, rfl⟩
      rw [← hx] at hc
      have HX := Lib.hid hx
      have HLT := Lib.hid hlt
      have c1 := hc 3 (by decide)
      have c2 := hc 7 (by decide)
      have hi0 : (j : Int) < (l.length : Int) := by omega
      obtain ⟨kd, id, h, d, f, q, t, pd, sp⟩ := x
      rw [show caE.n = 9 from rfl] at c1 c2
      have c1' : wr.cell? ⟨b, off + j * 9 + 3, none⟩ = some (.string d) := c1
      have c2' : wr.cell? ⟨b, off + j * 9 + 7, none⟩ = some (.string pd) := c2
      clear hx hb hc c1 c2
      by_cases k0 : 2000 < d.size
      · have e1 : decide ((2000 : Int) < (d.size : Int)) = true := decide_eq_true (by omega)
        have e2 : decide (2000 < d.size) = true := decide_eq_true k0
        have HE : Hid (decide (FewC s0 s1 l) = false) := Lib.hid (decide_eq_false (fun h => by
          have := (h.2.2 _ (List.getElem_mem HLT.out)).1
          rw [← HX.out] at this
          simp only at this
          omega))
        clear k0
        go_wp2
        go_ret
        exact ⟨by rw [HE.out]; rfl, HB.out⟩
      have e1 : decide ((2000 : Int) < (d.size : Int)) = false := decide_eq_false (by omega)
      have e2 : decide (2000 < d.size) = false := decide_eq_false k0
      by_cases v0 : 300 < pd.size
      · have e3 : decide ((300 : Int) < (pd.size : Int)) = true := decide_eq_true (by omega)
        have e4 : decide (300 < pd.size) = true := decide_eq_true v0
        have HE : Hid (decide (FewC s0 s1 l) = false) := Lib.hid (decide_eq_false (fun h => by
          have := (h.2.2 _ (List.getElem_mem HLT.out)).2
          rw [← HX.out] at this
          simp only at this
          omega))
        clear k0 v0
        go_wp2
        go_ret
        exact ⟨by rw [HE.out]; rfl, HB.out⟩
      have e3 : decide ((300 : Int) < (pd.size : Int)) = false := decide_eq_false (by omega)
      have e4 : decide (300 < pd.size) = false := decide_eq_false v0
      have HS : Hid (d.size ≤ 2000 ∧ pd.size ≤ 300) := Lib.hid (by omega)
      clear k0 v0
      go_wp2
      go_roundw
      case rel =>
        refine ⟨j + 1, HLT.out, by go_num, by first | trivial | rfl, fun i hi h => ?_⟩
        rcases Nat.lt_or_ge i j with h' | h'
        · exact HUP.out i hi h'
        · obtain rfl : i = j := by omega
          rw [← HX.out]; exact HS.out
      case measure => have := HLT.out; simp [intOf]; omega
    · obtain rfl : j = l.length := by omega
      have HE : Hid (decide (FewC s0 s1 l) = true) := Lib.hid (decide_eq_true ⟨H00.out, H60.out, fun a ha => by
        obtain ⟨i, hi, rfl⟩ := List.getElem_of_mem ha
        exact HUP.out i hi hi⟩)
      clear hlt
      go_wp2
      go_ret
      exact ⟨by rw [HE.out]; rfl, HB.out⟩
end Go.Proofs.YtbjchfcoacmaaaaGreatDoor
