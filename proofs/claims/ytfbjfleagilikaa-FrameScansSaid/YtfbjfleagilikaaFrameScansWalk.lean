/- carracklaw05.FrameScans walked. No condition. -/
import Derived.WalkSpells
import Derived.Test.YtfbjfleagilikaaFrAwake
import Derived.Test.YtfbjfleagilikaaFrRefD
namespace Go.Proofs.Ytfbjfleagilikaa.frameScans
open Go.RowKit
set_option linter.unusedVariables false
set_option maxRecDepth 100000 in
set_option maxHeartbeats 2000000 in
theorem frameScans_walk (a g : Int) (s : ByteArray) (ha : (Lit.int .i64 a).wf = true) (hg : (Lit.int .u64 g).wf = true) (hs : s.size ≤ maxLen) (W : World) :
    Calls Try.prog 4 #[.int .i64 a, .int .u64 g, .string s] W fun x w' => x = .returned (.bool true) ∧ Below W.heap.size W w' := by
  obtain ⟨n, rfl, hn⟩ : ∃ n : Nat, g = (n : Int) ∧ n < M64 := by
    simp [Lit.wf, IntKind.min, IntKind.max, IntKind.signed, IntKind.bits] at hg
    exact ⟨g.toNat, by omega, by unfold M64; omega⟩
  by_cases hbig : 20000 < s.size
  · have d0 : decide ((20000 : Int) < (s.size : Int)) = true := decide_eq_true (by omega)
    have d1 : decide (20000 < s.size) = true := decide_eq_true hbig
    unfold maxLen at hs
    clear ha hg hbig
    go_enter Try.func4, Try.ntmps4
    go_wp2_with fail
    refine (fr_awake _).mono ?_
    rintro x w1 ⟨rfl, rfl⟩
    go_wp2
    go_ret
    exact ⟨rfl, Below.refl _ _⟩
  · have d0 : decide ((20000 : Int) < (s.size : Int)) = false := decide_eq_false (by omega)
    have d1 : decide (20000 < s.size) = false := decide_eq_false hbig
    have K1 := Lib.hid (fun w => fr_scan a n s w (by omega) hn)
    have K2 := Lib.hid (fun w => rf_scan a n s w (by omega) hn)
    have HLN : Hid ((scanAll a n s).1.length ≤ 100000) := Lib.hid (Nat.le_trans (scan_len a n s) (by omega))
    unfold maxLen at hs
    clear ha hg hbig hn
    generalize hsa : scanAll a n s = r at *
    obtain ⟨l, u⟩ := r
    have HSA := Lib.hid hsa
    clear hsa
    go_enter Try.func4, Try.ntmps4
    go_wp2_with fail
    refine (fr_awake _).mono ?_
    rintro x w1 ⟨rfl, rfl⟩
    go_wp2_with fail
    refine (K1.out _).mono ?_
    intro e w2 hp
    unfold ScanPost at hp
    rw [HSA.out] at hp
    obtain ⟨v, rfl, hrow, hb⟩ := hp
    obtain ⟨A, ca, rfl, hA⟩ := row_strs hrow
    have H2 := Lib.hid (And.intro hA hb)
    clear hrow hA hb d0 d1
    go_wp2_with fail
    refine (K2.out _).mono ?_
    intro e w3 hp
    unfold ScanPost at hp
    rw [HSA.out] at hp
    obtain ⟨v, rfl, hrow, hb⟩ := hp
    obtain ⟨B, cb, rfl, hB⟩ := row_strs hrow
    have H3 := Lib.hid (And.intro (H2.out.1.below hb) (And.intro hB (H2.out.2.trans (hb.mono H2.out.2.size))))
    clear hrow hB hb H2
    go_wp2_with fail
    refine (rf_texts A B ca cb l l _ HLN.out HLN.out H3.out.1 H3.out.2.1).mono ?_
    rw [decide_eq_true (rfl : l = l)]
    rintro e w4 ⟨rfl, hb⟩
    have H4 := Lib.hid (H3.out.2.2.trans (hb.mono H3.out.2.2.size))
    clear hb H3
    go_wp2
    go_ret
    exact ⟨by simp, H4.out⟩
end Go.Proofs.Ytfbjfleagilikaa.frameScans
