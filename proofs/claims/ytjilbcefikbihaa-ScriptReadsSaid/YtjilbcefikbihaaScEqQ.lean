/- slices.Equal of writes. Condition: lengths. -/
import Derived.WalkSpells
import Derived.Outline
import Derived.Deep.QuietTactic
import Derived.BigQuiet
import Derived.Test.YtjilbcefikbihaaScAQ
namespace Go.Proofs.Ytjilbcefikbihaa
open Go.RowKit
set_option linter.unusedVariables false
def eqW (l m : List (Bool × Int)) : Bool := decide (l = m)
theorem eqW_len {l m : List (Bool × Int)} (h : l.length ≠ m.length) : eqW l m = false := decide_eq_false (fun e => h (by rw [e]))
set_option maxRecDepth 100000 in
set_option maxHeartbeats 2000000 in
theorem sc_equal (s1 s2 : Value) (l m : List (Bool × Int)) (w : World) (h1 : WsAt w s1 l) (h2 : WsAt w s2 m) (hl : l.length ≤ 1000) (hm : m.length ≤ 1000) :
    Calls Try.prog 51 #[s1, s2] w fun x w' => x = .returned (.bool (eqW l m)) ∧ Below w.heap.size w w' := by
  obtain ⟨A1, cap1, rfl, h1⟩ := h1
  obtain ⟨A2, cap2, rfl, h2⟩ := h2
  have HH := Lib.hid (And.intro h1 (And.intro h2 (And.intro hl hm)))
  clear h1 h2
  by_cases hlen : l.length = m.length
  · have t0 : ((l.length : Int) != (m.length : Int)) = false := by simp [hlen]
    have t00 : (l.length != m.length) = false := by simp [hlen]
    have HL := Lib.hid hlen
    clear hlen
    go_enter Try.func51, Try.ntmps51
    go_wp2
    go_loopw [13] (fun u wr => ∃ j : Nat, j ≤ l.length ∧ u = .int .i64 (j : Int) ∧ (∀ i (hi : i < l.length) (hi2 : i < m.length), i < j → l[i] = m[i]) ∧ Below w.heap.size w wr) (fun u _ => l.length - (intOf u).toNat)
    case atStart => exact ⟨0, Nat.zero_le _, rfl, fun i _ _ h => absurd h (Nat.not_lt_zero _), Below.refl _ _⟩
    case round =>
      obtain ⟨j, hj, rfl, hall, hb⟩ := hrel
      have hj6 : j ≤ 1000 := by omega
      by_cases hlt : j < l.length
      · have hlt2 : j < m.length := by rw [← HL.out]; exact hlt
        obtain ⟨b1, o1, rfl, g1, c0, c1⟩ := HH.out.1 j hlt
        obtain ⟨b2, o2, rfl, g2, d0, d1⟩ := HH.out.2.1 j hlt2
        obtain ⟨x, hx⟩ : ∃ z, z = l[j]'hlt := ⟨_, rfl⟩
        obtain ⟨y, hy⟩ : ∃ z, z = m[j]'hlt2 := ⟨_, rfl⟩
        rw [← hx] at c0 c1
        rw [← hy] at d0 d1
        have HXY : Hid (∀ h1 : j < l.length, ∀ h2 : j < m.length, l[j]'h1 = x ∧ m[j]'h2 = y) := Lib.hid (fun _ _ => ⟨hx.symm, hy.symm⟩)
        clear hx hy
        obtain ⟨xb, xt⟩ := x
        obtain ⟨yb, yt⟩ := y
        simp only at c0 c1 d0 d1
        have e0 := (hb.cell (p := ⟨b1, _, none⟩) g1).trans c0
        have e1 := (hb.cell (p := ⟨b1, _, none⟩) g1).trans c1
        have e2 := (hb.cell (p := ⟨b2, _, none⟩) g2).trans d0
        have e3 := (hb.cell (p := ⟨b2, _, none⟩) g2).trans d1
        have HB := Lib.hid hb
        have HALL := Lib.hid hall
        have HLT := Lib.hid (And.intro hlt hlt2)
        have t1 : decide ((j : Int) < (l.length : Int)) = true := decide_eq_true (by omega)
        have t2 : decide (j < l.length) = true := decide_eq_true hlt
        have hi0 : (j : Int) < (l.length : Int) := by omega
        have hi1 : (j : Int) < (m.length : Int) := by omega
        clear c0 c1 d0 d1 g1 g2 hall hlt hlt2 hb hj
        by_cases hq : xb = yb ∧ xt = yt
        · obtain ⟨rfl, rfl⟩ := hq
          go_wp2
          go_quiet (fail)
          go_wp2
          go_roundw
          case rel =>
            refine ⟨j + 1, HLT.out.1, by go_num, fun i hi hi2 hij => ?_, below_drewN HB.out _⟩
            rcases Nat.lt_or_ge i j with h' | h'
            · exact HALL.out i hi hi2 h'
            · obtain rfl : i = j := by omega
              rw [(HXY.out hi hi2).1, (HXY.out hi hi2).2]
          case measure => have := HLT.out.1; simp [intOf]; omega
        · have HN : Hid (eqW l m = false) := Lib.hid (decide_eq_false (fun e => hq (by
            have h := HXY.out HLT.out.1 HLT.out.2
            subst e
            have := h.1.symm.trans h.2
            injection this with h1 h2
            exact ⟨h1, h2⟩)))
          by_cases hbb : xb = yb
          · subst hbb
            have htt : xt ≠ yt := fun e => hq ⟨rfl, e⟩
            have hq2 : (xt == yt) = false := by simp [htt]
            clear htt; clear hq
            go_wp2
            go_quiet (fail)
            go_wp2
            go_ret
            exact ⟨by rw [HN.out]; rfl, below_drewN HB.out _⟩
          · have hq2 : (xb == yb) = false := by simp [hbb]
            clear hbb; clear hq
            go_wp2
            go_quiet (fail)
            go_wp2
            go_ret
            exact ⟨by rw [HN.out]; rfl, below_drewN HB.out _⟩
      · obtain rfl : j = l.length := by omega
        have HE : Hid (eqW l m = true) := Lib.hid (decide_eq_true (List.ext_getElem HL.out (fun i hi hi2 => hall i hi hi2 hi)))
        have HB := Lib.hid hb
        have t1 : decide ((l.length : Int) < (l.length : Int)) = false := decide_eq_false (by omega)
        have t2 : decide (l.length < l.length) = false := decide_eq_false hlt
        clear hall hlt hb hj
        go_wp2
        go_ret
        exact ⟨by rw [HE.out]; rfl, HB.out⟩
  · have t0 : ((l.length : Int) != (m.length : Int)) = true := by simp; omega
    have t00 : (l.length != m.length) = true := by simp [hlen]
    have HN := Lib.hid (eqW_len hlen)
    clear hlen
    go_enter Try.func51, Try.ntmps51
    go_wp2
    go_ret
    exact ⟨by rw [HN.out]; rfl, Below.refl _ _⟩
end Go.Proofs.Ytjilbcefikbihaa
