/- carrackref23's fits, num, text. Condition: a text is no longer than told. -/
import Derived.WalkSpells
import Derived.Outline
import Derived.Test.YtjilbcefikbihaaScMQ
import Derived.Test.YtjilbcefikbihaaScBkQ
namespace Go.Proofs.Ytjilbcefikbihaa
open Go.RowKit
set_option linter.unusedVariables false
theorem rf_fits (n : Int) (w : World) : Calls Try.prog 25 #[.int .i64 n, .int .i64 1] w fun x w' => x = .returned (.bool (decide (0 ≤ n ∧ n ≤ 255))) ∧ w = w' := by
  by_cases h0 : 0 ≤ n
  · by_cases h1 : n ≤ 255
    · have t0 : decide (0 ≤ n) = true := decide_eq_true h0
      have t1 : decide (n ≤ 255) = true := decide_eq_true h1
      have HE : Hid (decide (0 ≤ n ∧ n ≤ 255) = true) := Lib.hid (decide_eq_true ⟨h0, h1⟩)
      go_enter Try.func25, Try.ntmps25
      go_wp2
      go_ret
      exact ⟨(by first | (rw [HE.out]; rfl) | rfl), rfl⟩
    · have t0 : decide (0 ≤ n) = true := decide_eq_true h0
      have t1 : decide (n ≤ 255) = false := decide_eq_false h1
      have HE : Hid (decide (0 ≤ n ∧ n ≤ 255) = false) := Lib.hid (decide_eq_false (fun h => h1 h.2))
      go_enter Try.func25, Try.ntmps25
      go_wp2
      go_ret
      exact ⟨(by first | (rw [HE.out]; rfl) | rfl), rfl⟩
  · have t0 : decide (0 ≤ n) = false := decide_eq_false h0
    have HE : Hid (decide (0 ≤ n ∧ n ≤ 255) = false) := Lib.hid (decide_eq_false (fun h => h0 h.1))
    go_enter Try.func25, Try.ntmps25
    go_wp2
    go_ret
    exact ⟨(by first | (rw [HE.out]; rfl) | rfl), rfl⟩
theorem rf_fits2 (n : Int) (w : World) : Calls Try.prog 25 #[.int .i64 n, .int .i64 2] w fun x w' => x = .returned (.bool (decide (0 ≤ n ∧ n ≤ 65535))) ∧ w = w' := by
  by_cases h0 : 0 ≤ n
  · by_cases h1 : n ≤ 65535
    · have t0 : decide (0 ≤ n) = true := decide_eq_true h0
      have t1 : decide (n ≤ 65535) = true := decide_eq_true h1
      have HE : Hid (decide (0 ≤ n ∧ n ≤ 65535) = true) := Lib.hid (decide_eq_true ⟨h0, h1⟩)
      go_enter Try.func25, Try.ntmps25
      go_wp2
      go_ret
      exact ⟨(by first | (rw [HE.out]; rfl) | rfl), rfl⟩
    · have t0 : decide (0 ≤ n) = true := decide_eq_true h0
      have t1 : decide (n ≤ 65535) = false := decide_eq_false h1
      have HE : Hid (decide (0 ≤ n ∧ n ≤ 65535) = false) := Lib.hid (decide_eq_false (fun h => h1 h.2))
      go_enter Try.func25, Try.ntmps25
      go_wp2
      go_ret
      exact ⟨(by first | (rw [HE.out]; rfl) | rfl), rfl⟩
  · have t0 : decide (0 ≤ n) = false := decide_eq_false h0
    have HE : Hid (decide (0 ≤ n ∧ n ≤ 65535) = false) := Lib.hid (decide_eq_false (fun h => h0 h.1))
    go_enter Try.func25, Try.ntmps25
    go_wp2
    go_ret
    exact ⟨(by first | (rw [HE.out]; rfl) | rfl), rfl⟩
/-- a number as it comes modulo 2 to the 64 -/
def u64 (n : Int) : Nat := (n % 18446744073709551616).toNat
set_option maxRecDepth 100000 in
set_option maxHeartbeats 800000 in
theorem rf_num (n : Int) (c : Nat) (hc : c ≤ 8) (w : World) : Calls Try.prog 24 #[.int .i64 n, .int .i64 (c : Int)] w fun x w' => x = .returned (.string (txt (be (u64 n) c))) ∧ Below w.heap.size w w' := by
  have hu : IntKind.u64.wrap n = ((u64 n : Nat) : Int) := by
    rw [IntKind.wrap_u64]
    unfold u64
    omega
  have HL : Hid (u64 n < M64) := Lib.hid (by unfold u64 M64; omega)
  have HC := Lib.hid hc
  clear hc
  generalize u64 n = m at *
  go_enter Try.func24, Try.ntmps24
  go_wp2_with fail
  refine (ref_num m c w HL.out HC.out).mono ?_
  rintro x w2 ⟨rfl, b2⟩
  have H2 := Lib.hid b2
  clear b2
  go_wp2
  go_ret
  exact ⟨rfl, H2.out⟩
theorem u64_small (n : Int) (h : 0 ≤ n ∧ n < 18446744073709551616) : u64 n = n.toNat := by unfold u64; omega
theorem be1_u64 (n : Int) : be (u64 n) 1 = [(n % 256).toNat] := by
  have : u64 n % 256 = (n % 256).toNat := by unfold u64; omega
  simp [be, List.range, List.range.loop, this]
theorem be2_u64 (n : Int) : be (u64 n) 2 = [(n / 256 % 256).toNat, (n % 256).toNat] := by
  have h1 : u64 n % 256 = (n % 256).toNat := by unfold u64; omega
  have h2 : u64 n / 256 % 256 = (n / 256 % 256).toNat := by unfold u64; omega
  simp [be, List.range, List.range.loop, h1, h2]
set_option maxRecDepth 100000 in
set_option maxHeartbeats 800000 in
theorem rf_text (s : ByteArray) (hs : s.size ≤ 70000) (w : World) : Calls Try.prog 27 #[.string s] w fun x w' => x = .returned (.string (txt (be s.size 2 ++ nl s))) ∧ Below w.heap.size w w' := by
  have HT : Hid (txt (be s.size 2) ++ s = txt (be s.size 2 ++ nl s)) := Lib.hid (by
    have := txt_appS (be s.size 2) (nl s) (be_lt _ _) (nl_lt s)
    rw [txt_nlS] at this
    exact this)
  have HU : Hid (u64 (s.size : Int) = s.size) := Lib.hid (by unfold u64; omega)
  have hss : (txt (be s.size 2)).size + s.size ≤ 9223372036854775807 := by rw [txt_size, be_len]; omega
  clear hs
  go_enter Try.func27, Try.ntmps27
  go_wp2_with fail
  refine (rf_num (s.size : Int) 2 (by decide) w).mono ?_
  rintro x w2 ⟨rfl, b2⟩
  rw [HU.out]
  have H2 := Lib.hid b2
  clear b2
  go_wp2
  go_ret
  exact ⟨by rw [← HT.out]; rfl, H2.out⟩
end Go.Proofs.Ytjilbcefikbihaa
