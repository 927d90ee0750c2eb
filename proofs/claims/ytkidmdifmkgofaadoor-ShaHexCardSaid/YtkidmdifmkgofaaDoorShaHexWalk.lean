/- The walk of carracklaw01.ShaHex. Condition: the constants lie where they lie. -/
import Derived.Test.YtkidmdifmkgofaaDoorShAwake
namespace Go.Proofs.YtkidmdifmkgofaaDoor
open Go.RowKit
set_option linter.unusedVariables false
namespace shaHex
theorem hexd_inj (p q : Nat) (hp : p < 16) (hq : q < 16) (h : hexd p = hexd q) : p = q := by
  unfold hexd at h
  split at h <;> split at h <;> omega
theorem hexl_inj : ∀ (l m : List Nat), (∀ b ∈ l, b < 256) → (∀ b ∈ m, b < 256) → hexl l = hexl m → l = m
  | [], [], _, _, _ => rfl
  | [], _ :: _, _, _, h => by simp [hexl] at h
  | _ :: _, [], _, _, h => by simp [hexl] at h
  | b :: l, c :: m, hl, hm, h => by
    simp only [hexl, List.cons.injEq] at h
    have hb := hl b (by simp)
    have hc := hm c (by simp)
    have h1 := hexd_inj _ _ (by omega) (by omega) h.1
    have h2 := hexd_inj _ _ (by omega) (by omega) h.2.1
    rw [hexl_inj l m (fun x hx => hl x (by simp [hx])) (fun x hx => hm x (by simp [hx])) h.2.2, show b = c by omega]
theorem hexd_range (q : Nat) (h : q < 16) : (48 ≤ hexd q ∧ hexd q ≤ 57) ∨ (97 ≤ hexd q ∧ hexd q ≤ 102) := by
  unfold hexd; split <;> omega
theorem hexl_range (l : List Nat) (hl : ∀ b ∈ l, b < 256) : ∀ x ∈ hexl l, (48 ≤ x ∧ x ≤ 57) ∨ (97 ≤ x ∧ x ≤ 102) := by
  induction l with
  | nil => intro x hx; cases hx
  | cons b l ih =>
    intro x hx
    have hb := hl b (by simp)
    simp only [hexl, List.mem_cons] at hx
    rcases hx with rfl | rfl | hx
    · exact hexd_range _ (by omega)
    · exact hexd_range _ (by omega)
    · exact ih (fun y hy => hl y (by simp [hy])) x hx
/-- the digits of a text -/
def hx (s : ByteArray) : ByteArray := txt (hexl (nl s))
theorem nl_hx (s : ByteArray) : nl (hx s) = hexl (nl s) := nl_txt _ (hexl_lt _ (fun b hb => nl_lt s b hb))
theorem hx_size (s : ByteArray) : (hx s).size = 2 * s.size := by
  rw [hx, txt_size, hexl_length]; simp [nl]
theorem hx_inj {a b : ByteArray} (h : hx a = hx b) : a = b := by
  have := congrArg nl h
  rw [nl_hx, nl_hx] at this
  exact nl_inj (hexl_inj _ _ (fun b hb => nl_lt _ b hb) (fun b hb => nl_lt _ b hb) this)
theorem hx_append (a b : ByteArray) : hx (a ++ b) = hx a ++ hx b := by
  apply nl_inj
  rw [nl_append, nl_hx, nl_hx, nl_hx, nl_append, hexl_append]
theorem hx_at (s : ByteArray) (k : Nat) (h : k < (hx s).size) : (48 ≤ (hx s)[k].toNat ∧ (hx s)[k].toNat ≤ 57) ∨ (97 ≤ (hx s)[k].toNat ∧ (hx s)[k].toNat ≤ 102) := by
  have h1 : (hx s)[k].toNat ∈ nl (hx s) := by
    unfold nl
    exact List.mem_map.2 ⟨(hx s)[k], by simp [ByteArray.getElem_eq_getElem_data], rfl⟩
  rw [nl_hx] at h1
  exact hexl_range _ (fun b hb => nl_lt s b hb) _ h1
set_option maxRecDepth 100000 in
set_option maxHeartbeats 1000000 in
theorem few (a b : ByteArray) (w : World) (hL : LaidOk w) (ha : a.size ≤ 2000) (hb : b.size ≤ 2000) :
    Calls Tryd.prog 5 #[.string a, .string b] w fun x w' => x = .returned (.bool true) ∧ Below w.heap.size w w' := by
  have d1 : decide ((2000 : Int) < (a.size : Int)) = false := decide_eq_false (by omega)
  have d2 : decide ((2000 : Int) < (b.size : Int)) = false := decide_eq_false (by omega)
  have KA := Lib.hid (fun w => sh_hex a w (by omega))
  have KB := Lib.hid (fun w => sh_hex b w (by omega))
  have KC := Lib.hid (fun w => sh_hex (a ++ b) w (by rw [ByteArray.size_append]; omega))
  have ea : txt (hexl (nl a)) = hx a := rfl
  have eb : txt (hexl (nl b)) = hx b := rfl
  have ec : txt (hexl (nl (a ++ b))) = hx a ++ hx b := hx_append a b
  rw [ea] at KA
  rw [eb] at KB
  rw [ec] at KC
  have HAT := Lib.hid (hx_at a)
  have HIJ : Hid (a ≠ b → hx a ≠ hx b) := Lib.hid (fun h e => h (hx_inj e))
  have sa : (hx a).size = 2 * a.size := hx_size a
  have sb : (hx b).size = 2 * b.size := hx_size b
  have HSA := Lib.hid sa
  have se := Lib.hid (show ((hx a).size : Int) = 2 * (a.size : Int) by omega)
  have sc : (hx a).size ≤ 4000 := by omega
  have sd : (hx b).size ≤ 4000 := by omega
  have HEQ : Hid (a = b → hx a = hx b) := Lib.hid (fun h => by rw [h])
  clear ea eb ec sa sb
  generalize hx a = X at *
  generalize hx b = Y at *
  go_enter Tryd.func5, Tryd.ntmps5
  go_wp2_with fail
  refine (sh_awake w hL).mono ?_
  rintro x w1 ⟨rfl, hb1⟩
  have HB1 := Lib.hid hb1
  clear hb1
  go_wp2_with fail
  refine (KA.out _).mono ?_
  rintro x w2 ⟨rfl, hb2⟩
  have HB2 := Lib.hid (HB1.out.trans (hb2.mono HB1.out.size))
  clear hb2
  go_wp2_with fail
  refine (KB.out _).mono ?_
  rintro x w3 ⟨rfl, hb3⟩
  have HB3 := Lib.hid (HB2.out.trans (hb3.mono HB2.out.size))
  clear hb3
  go_wp2
  go_loopw [7] (fun i wr => ∃ k : Nat, k ≤ X.size ∧ i = .int .i64 (k : Int) ∧ wr = w3) (fun i _ => X.size - (intOf i).toNat)
  case atStart => exact ⟨0, Nat.zero_le _, rfl, rfl⟩
  case round =>
    obtain ⟨k, hk, rfl, rfl⟩ := hrel
    by_cases hlt : k < X.size
    · have l1 : (k : Int) < (X.size : Int) := by omega
      have hr := HAT.out k hlt
      rcases hr with hr | hr
      · have r1 : (48 : Int) ≤ (X[k].toNat : Int) := by omega
        have r2 : (X[k].toNat : Int) ≤ 57 := by omega
        go_wp2
        go_roundw
        case rel => exact ⟨k + 1, by omega, by go_num, trivial⟩
        case measure => simp [intOf]; omega
      · have r0 : ¬ (X[k].toNat : Int) ≤ 57 := by omega
        have r0' : (48 : Int) ≤ (X[k].toNat : Int) := by omega
        have r1 : (97 : Int) ≤ (X[k].toNat : Int) := by omega
        have r2 : (X[k].toNat : Int) ≤ 102 := by omega
        go_wp2
        go_roundw
        case rel => exact ⟨k + 1, by omega, by go_num, trivial⟩
        case measure => simp [intOf]; omega
    · have hkx : k = X.size := by omega
      have HKX := Lib.hid hkx
      clear hkx
      have se := se.out
      have d3 : decide ((k : Int) < (X.size : Int)) = false := decide_eq_false (by omega)
      have d4 : decide ((k : Int) < 2 * (a.size : Int)) = false := decide_eq_false (by omega)
      have hz : ¬ 9223372036854775807 < a.size + b.size := by omega
      have hz2 : ¬ 9223372036854775807 < X.size + Y.size := by omega
      by_cases hab : a = b
      · have hxy := HEQ.out hab
        subst hab
        subst hxy
        go_wp2_with fail
        refine (KC.out _).mono ?_
        rintro x w4 ⟨rfl, hb4⟩
        have HB4 := Lib.hid (HB3.out.trans (hb4.mono HB3.out.size))
        clear hb4
        go_wp2
        go_ret
        exact ⟨rfl, HB4.out⟩
      · have hxy := HIJ.out hab
        have e1 : (X.toList == Y.toList) = false := by rw [eq_text]; exact decide_eq_false (fun e => hxy (nl_inj e))
        have e2 : (a.toList == b.toList) = false := by rw [eq_text]; exact decide_eq_false (fun e => hab (nl_inj e))
        go_wp2_with fail
        refine (KC.out _).mono ?_
        rintro x w4 ⟨rfl, hb4⟩
        have HB4 := Lib.hid (HB3.out.trans (hb4.mono HB3.out.size))
        clear hb4
        go_wp2
        go_ret
        exact ⟨rfl, HB4.out⟩
end shaHex
set_option maxRecDepth 100000 in
theorem shaHex_walk (a b : ByteArray) (w1 : a.size ≤ maxLen) (w2 : b.size ≤ maxLen) (w : World) (hL : LaidOk w) :
    Calls Tryd.prog 5 #[.string a, .string b] w fun x w' => x = .returned (.bool true) ∧ Below w.heap.size w w' := by
  by_cases ha : a.size ≤ 2000
  · by_cases hb : b.size ≤ 2000
    · exact shaHex.few a b w hL ha hb
    · have d1 : decide ((2000 : Int) < (a.size : Int)) = false := decide_eq_false (by omega)
      have d2 : decide ((2000 : Int) < (b.size : Int)) = true := decide_eq_true (by omega)
      clear w1 w2
      go_enter Tryd.func5, Tryd.ntmps5
      go_wp2_with fail
      refine (sh_awake w hL).mono ?_
      rintro x w1 ⟨rfl, hb1⟩
      have HB1 := Lib.hid hb1
      clear hb1
      go_wp2
      go_ret
      exact ⟨rfl, HB1.out⟩
  · have d1 : decide ((2000 : Int) < (a.size : Int)) = true := decide_eq_true (by omega)
    clear w1 w2
    go_enter Tryd.func5, Tryd.ntmps5
    go_wp2_with fail
    refine (sh_awake w hL).mono ?_
    rintro x w1 ⟨rfl, hb1⟩
    have HB1 := Lib.hid hb1
    clear hb1
    go_wp2
    go_ret
    exact ⟨rfl, HB1.out⟩
end Go.Proofs.YtkidmdifmkgofaaDoor
