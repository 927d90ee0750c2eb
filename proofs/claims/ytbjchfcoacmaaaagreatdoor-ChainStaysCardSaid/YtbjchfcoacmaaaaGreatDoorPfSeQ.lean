/- Merged: ShTurn, ClSearch, PfSe. Contract of sha.turn and of carrackref01.right; words of 32 bits put together bit by bit. Condition: words of 32 bits. Contract of sort.Search at the client's test. Condition: the test's own contract. Contract of sort.Search at the test of proof.find. Condition: the test's own contract. -/
import Derived.WalkSpells
import Derived.Outline
import Derived.Deep.QuietTactic
import Derived.BigQuiet
import Derived.Test.YtbjchfcoacmaaaaGreatDoorChecked
import Derived.Test.YtbjchfcoacmaaaaGreatDoorObjQ
import Derived.Test.YtbjchfcoacmaaaaGreatDoorShRootMQ
namespace Go.Proofs.YtbjchfcoacmaaaaGreatDoor
open Go.RowKit
set_option linter.unusedVariables false
theorem or_u32 (a b : Nat) (ha : a < 4294967296) (hb : b < 4294967296) : bits .or .u32 (a : Int) (b : Int) = ((a ||| b : Nat) : Int) := by
  have hx : a ||| b < 2 ^ 32 := Nat.or_lt_two_pow (by omega) (by omega)
  have h1 : (BitVec.ofInt 32 (a : Int)).toNat = a := by
    rw [BitVec.ofInt_natCast, BitVec.toNat_ofNat]; exact Nat.mod_eq_of_lt (by omega)
  have h2 : (BitVec.ofInt 32 (b : Int)).toNat = b := by
    rw [BitVec.ofInt_natCast, BitVec.toNat_ofNat]; exact Nat.mod_eq_of_lt (by omega)
  show IntKind.u32.wrap ((BitVec.ofInt 32 (a : Int) ||| BitVec.ofInt 32 (b : Int)).toNat : Int) = _
  rw [BitVec.toNat_or, h1, h2, IntKind.wrap_u32]
  omega
theorem and_u32 (a b : Nat) (ha : a < 4294967296) (hb : b < 4294967296) : bits .and .u32 (a : Int) (b : Int) = ((a &&& b : Nat) : Int) := by
  have hx : a &&& b < 2 ^ 32 := Nat.and_lt_two_pow _ (by omega)
  have h1 : (BitVec.ofInt 32 (a : Int)).toNat = a := by
    rw [BitVec.ofInt_natCast, BitVec.toNat_ofNat]; exact Nat.mod_eq_of_lt (by omega)
  have h2 : (BitVec.ofInt 32 (b : Int)).toNat = b := by
    rw [BitVec.ofInt_natCast, BitVec.toNat_ofNat]; exact Nat.mod_eq_of_lt (by omega)
  show IntKind.u32.wrap ((BitVec.ofInt 32 (a : Int) &&& BitVec.ofInt 32 (b : Int)).toNat : Int) = _
  rw [BitVec.toNat_and, h1, h2, IntKind.wrap_u32]
  omega
theorem xor_u32 (a b : Nat) (ha : a < 4294967296) (hb : b < 4294967296) : bits .xor .u32 (a : Int) (b : Int) = ((a ^^^ b : Nat) : Int) := by
  have hx : a ^^^ b < 2 ^ 32 := Nat.xor_lt_two_pow (by omega) (by omega)
  have h1 : (BitVec.ofInt 32 (a : Int)).toNat = a := by
    rw [BitVec.ofInt_natCast, BitVec.toNat_ofNat]; exact Nat.mod_eq_of_lt (by omega)
  have h2 : (BitVec.ofInt 32 (b : Int)).toNat = b := by
    rw [BitVec.ofInt_natCast, BitVec.toNat_ofNat]; exact Nat.mod_eq_of_lt (by omega)
  show IntKind.u32.wrap ((BitVec.ofInt 32 (a : Int) ^^^ BitVec.ofInt 32 (b : Int)).toNat : Int) = _
  rw [BitVec.toNat_xor, h1, h2, IntKind.wrap_u32]
  omega
theorem rot_lt (x n : Nat) (hx : x < 4294967296) : Sh.rot x n < 4294967296 := by
  unfold Sh.rot Sh.M32
  have h1 : x >>> n < 2 ^ 32 := by rw [Nat.shiftRight_eq_div_pow]; exact Nat.lt_of_le_of_lt (Nat.div_le_self _ _) (by omega)
  have h2 : (x <<< (32 - n)) % 4294967296 < 2 ^ 32 := by have := Nat.mod_lt (x <<< (32 - n)) (show 0 < 4294967296 by decide); omega
  have := Nat.or_lt_two_pow h1 h2
  omega
theorem rot_bits (x n : Nat) (hx : x < 4294967296) : bits .or .u32 ((x : Int) / 2 ^ n) ((x : Int) * 2 ^ (32 - n) % 4294967296) = (Sh.rot x n : Int) := by
  have e1 : (x : Int) / 2 ^ n = ((x / 2 ^ n : Nat) : Int) := by norm_cast
  have e2 : (x : Int) * 2 ^ (32 - n) % 4294967296 = ((x * 2 ^ (32 - n) % 4294967296 : Nat) : Int) := by
    have e3 : (x : Int) * 2 ^ (32 - n) = ((x * 2 ^ (32 - n) : Nat) : Int) := by norm_cast
    rw [e3]
    generalize x * 2 ^ (32 - n) = y
    omega
  rw [e1, e2, or_u32 _ _ (Nat.lt_of_le_of_lt (Nat.div_le_self _ _) hx) (Nat.mod_lt _ (by decide))]
  unfold Sh.rot Sh.M32
  rw [Nat.shiftRight_eq_div_pow, Nat.shiftLeft_eq]
set_option maxRecDepth 100000 in
theorem sh_turn (x n : Nat) (w : World) (hx : x < 4294967296) (hn : 0 < n) (hn2 : n < 32) :
    Calls Tryz.prog 186 #[.int .u32 (x : Int), .int .i64 (n : Int)] w fun e w' => e = .returned (.int .u32 (Sh.rot x n : Int)) ∧ ∃ m, w' = w.drewN m := by
  have HX := Lib.hid (rot_bits x n hx)
  go_enter Tryz.func186, Tryz.ntmps186
  go_wp2
  go_quiet (fail)
  go_wp2
  go_ret
  exact ⟨by rw [HX.out]; rfl, _, rfl⟩
end Go.Proofs.YtbjchfcoacmaaaaGreatDoor
namespace Go.Proofs.YtbjchfcoacmaaaaGreatDoor
open Go.RowKit
set_option linter.unusedVariables false
set_option maxRecDepth 100000 in
set_option maxHeartbeats 1000000 in
theorem search_ok (n p : Nat) (hp : p ≤ n) (hn : n ≤ 1000000) (x y : Value) (w : World)
    (KF : ∀ q i, i < n → Calls Tryz.prog 162 #[.int .i64 (i : Int), x, y] (w.drewN q) fun e w' => e = .returned (.bool (decide (p ≤ i))) ∧ ∃ r, w' = w.drewN r) :
    Calls Tryz.prog 136 #[.int .i64 (n : Int), .func (.func 162) #[] #[x, y]] w fun e w' => e = .returned (.int .i64 (p : Int)) ∧ ∃ r, w' = w.drewN r := by
  have HF := Lib.hid KF
  clear KF
  go_enter Tryz.func136, Tryz.ntmps136
  go_wp2
  go_loopw [5, 6] (fun u v wr => ∃ i j r : Nat, u = .int .i64 (i : Int) ∧ v = .int .i64 (j : Int) ∧ i ≤ p ∧ p ≤ j ∧ j ≤ n ∧ wr = w.drewN r) (fun u v _ => (intOf v - intOf u).toNat)
  case atStart => exact ⟨0, n, 0, rfl, rfl, Nat.zero_le _, hp, Nat.le_refl _, rfl⟩
  case round =>
    obtain ⟨i, j, r, rfl, rfl, hi, hj, hjn, rfl⟩ := hrel
    by_cases hij : i < j
    · obtain ⟨h, hh⟩ : ∃ h, h = (i + j) / 2 := ⟨_, rfl⟩
      have hhn : h < n := by omega
      have hib : i ≤ h := by omega
      have hjb : h < j := by omega
      have m1 : wrap64 ((i : Int) + (j : Int)) = ((i + j : Nat) : Int) := by rw [IntWalk.wrap64_in _ (by omega)]; omega
      have m2 : IntKind.i64.wrap ((i : Int) + (j : Int)) = ((i + j : Nat) : Int) := by rw [IntWalk.i64_in _ (by omega)]; omega
      go_wp2_with fail
      rw [show ((i : Int) + (j : Int)) / 2 = (h : Int) by omega]
      refine (HF.out r h hhn).mono ?_
      rintro e w' ⟨rfl, r', rfl⟩
      by_cases hph : p ≤ h
      · have d0 : decide (p ≤ h) = true := decide_eq_true hph
        clear hh m1 m2
        go_wp2
        go_roundw
        case rel => exact ⟨i, h, r', rfl, rfl, hi, hph, by omega, rfl⟩
        case measure => simp [intOf]; omega
      · have d0 : decide (p ≤ h) = false := decide_eq_false hph
        clear hh m1 m2
        go_wp2
        go_roundw
        case rel => exact ⟨h + 1, j, r', by go_num, rfl, by omega, hj, hjn, rfl⟩
        case measure => simp [intOf]; omega
    · obtain rfl : i = p := by omega
      go_wp2
      go_ret
      exact ⟨rfl, r, rfl⟩
end Go.Proofs.YtbjchfcoacmaaaaGreatDoor
namespace Go.Proofs.YtbjchfcoacmaaaaGreatDoor
open Go.RowKit
set_option linter.unusedVariables false
set_option maxRecDepth 100000 in
set_option maxHeartbeats 1000000 in
theorem search_okP (n p : Nat) (hp : p ≤ n) (hn : n ≤ 1000000) (x y : Value) (w : World)
    (KF : ∀ q i, i < n → Calls Tryz.prog 137 #[.int .i64 (i : Int), x, y] (w.drewN q) fun e w' => e = .returned (.bool (decide (p ≤ i))) ∧ ∃ r, w' = w.drewN r) :
    Calls Tryz.prog 136 #[.int .i64 (n : Int), .func (.func 137) #[] #[x, y]] w fun e w' => e = .returned (.int .i64 (p : Int)) ∧ ∃ r, w' = w.drewN r := by
  have HF := Lib.hid KF
  clear KF
  go_enter Tryz.func136, Tryz.ntmps136
  go_wp2
  go_loopw [5, 6] (fun u v wr => ∃ i j r : Nat, u = .int .i64 (i : Int) ∧ v = .int .i64 (j : Int) ∧ i ≤ p ∧ p ≤ j ∧ j ≤ n ∧ wr = w.drewN r) (fun u v _ => (intOf v - intOf u).toNat)
  case atStart => exact ⟨0, n, 0, rfl, rfl, Nat.zero_le _, hp, Nat.le_refl _, rfl⟩
  case round =>
    obtain ⟨i, j, r, rfl, rfl, hi, hj, hjn, rfl⟩ := hrel
    by_cases hij : i < j
    · obtain ⟨h, hh⟩ : ∃ h, h = (i + j) / 2 := ⟨_, rfl⟩
      have hhn : h < n := by omega
      have hib : i ≤ h := by omega
      have hjb : h < j := by omega
      have m1 : wrap64 ((i : Int) + (j : Int)) = ((i + j : Nat) : Int) := by rw [IntWalk.wrap64_in _ (by omega)]; omega
      have m2 : IntKind.i64.wrap ((i : Int) + (j : Int)) = ((i + j : Nat) : Int) := by rw [IntWalk.i64_in _ (by omega)]; omega
      go_wp2_with fail
      rw [show ((i : Int) + (j : Int)) / 2 = (h : Int) by omega]
      refine (HF.out r h hhn).mono ?_
      rintro e w' ⟨rfl, r', rfl⟩
      by_cases hph : p ≤ h
      · have d0 : decide (p ≤ h) = true := decide_eq_true hph
        clear hh m1 m2
        go_wp2
        go_roundw
        case rel => exact ⟨i, h, r', rfl, rfl, hi, hph, by omega, rfl⟩
        case measure => simp [intOf]; omega
      · have d0 : decide (p ≤ h) = false := decide_eq_false hph
        clear hh m1 m2
        go_wp2
        go_roundw
        case rel => exact ⟨h + 1, j, r', by go_num, rfl, by omega, hj, hjn, rfl⟩
        case measure => simp [intOf]; omega
    · obtain rfl : i = p := by omega
      go_wp2
      go_ret
      exact ⟨rfl, r, rfl⟩
end Go.Proofs.YtbjchfcoacmaaaaGreatDoor
