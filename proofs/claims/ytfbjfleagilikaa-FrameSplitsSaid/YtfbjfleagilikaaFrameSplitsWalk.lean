/- carracklaw05.FrameSplits walked. No condition. -/
import Derived.WalkSpells
import Derived.Test.YtfbjfleagilikaaFrAwake
import Derived.Test.YtfbjfleagilikaaFrRSplit
import Derived.Test.YtfbjfleagilikaaFrRefD
namespace Go.Proofs.Ytfbjfleagilikaa.frameSplits
open Go.RowKit
set_option linter.unusedVariables false
theorem u64_nat {g : Int} (hg : (Lit.int .u64 g).wf = true) : ∃ n : Nat, g = (n : Int) ∧ n < M64 := by
  simp [Lit.wf, IntKind.min, IntKind.max, IntKind.signed, IntKind.bits] at hg
  exact ⟨g.toNat, by omega, by unfold M64; omega⟩
theorem split_len (a : Int) (g x : Nat) (s : ByteArray) : (frSplit a g x s).1.length ≤ 1000 := by
  unfold frSplit
  split
  · rename_i h
    simp only [List.length_map, List.length_range]
    have := (nParts_le a.toNat s.size (by have := h.1.1; omega) h.2).2
    omega
  · simp
set_option maxRecDepth 100000 in
set_option maxHeartbeats 2000000 in
theorem frameSplits_walk (a g x : Int) (s : ByteArray) (ha : (Lit.int .i64 a).wf = true) (hg : (Lit.int .u64 g).wf = true) (hx : (Lit.int .u64 x).wf = true) (hs : s.size ≤ maxLen) (W : World) :
    Calls Try.prog 3 #[.int .i64 a, .int .u64 g, .int .u64 x, .string s] W fun e w' => e = .returned (.bool true) ∧ Below W.heap.size W w' := by
  obtain ⟨g, rfl, hg'⟩ := u64_nat hg
  obtain ⟨x, rfl, hx'⟩ := u64_nat hx
  by_cases hbig : 5000 < s.size
  · have d0 : decide ((5000 : Int) < (s.size : Int)) = true := decide_eq_true (by omega)
    have d1 : decide (5000 < s.size) = true := decide_eq_true hbig
    unfold maxLen at hs
    clear ha hg hx hbig hg' hx'
    go_enter Try.func3, Try.ntmps3
    go_wp2_with fail
    refine (fr_awake _).mono ?_
    rintro e w1 ⟨rfl, rfl⟩
    go_wp2
    go_ret
    exact ⟨rfl, Below.refl _ _⟩
  · have d0 : decide ((5000 : Int) < (s.size : Int)) = false := decide_eq_false (by omega)
    have d1 : decide (5000 < s.size) = false := decide_eq_false hbig
    have K1 := Lib.hid (fun w => fr_split a g x s w hg' hx')
    have K2 := Lib.hid (fun w => rf_split a g x s w hg' hx')
    have K3 := Lib.hid (fun w => fr_parts a s.size w)
    have K4 := Lib.hid (fun w => rf_parts a s.size w)
    have HLN : Hid ((frSplit a g x s).1.length ≤ 100000) := Lib.hid (Nat.le_trans (split_len a g x s) (by omega))
    unfold maxLen at hs
    clear ha hg hx hbig hg' hx'
    generalize hsa : frSplit a g x s = r at *
    obtain ⟨l, u⟩ := r
    have HSA := Lib.hid hsa
    clear hsa
    generalize frParts a (s.size : Int) = np at *
    go_enter Try.func3, Try.ntmps3
    go_wp2_with fail
    refine (fr_awake _).mono ?_
    rintro e w1 ⟨rfl, rfl⟩
    go_wp2_with fail
    refine (K1.out _).mono ?_
    intro e w2 hp
    unfold SplitPost at hp
    rw [HSA.out] at hp
    obtain ⟨v, rfl, hrow, hb⟩ := hp
    obtain ⟨A, ca, rfl, hA⟩ := row_strs hrow
    have H2 := Lib.hid (And.intro hA hb)
    clear hrow hA hb d0 d1
    go_wp2_with fail
    refine (K2.out _).mono ?_
    intro e w3 hp
    unfold SplitPost at hp
    rw [HSA.out] at hp
    obtain ⟨v, rfl, hrow, hb⟩ := hp
    obtain ⟨B, cb, rfl, hB⟩ := row_strs hrow
    have H3 := Lib.hid (And.intro (H2.out.1.below hb) (And.intro hB (H2.out.2.trans (hb.mono H2.out.2.size))))
    clear hrow hB hb H2
    go_wp2_with fail
    refine (rf_texts A B ca cb l l _ HLN.out HLN.out H3.out.1 H3.out.2.1).mono ?_
    rw [decide_eq_true (rfl : l = l)]
    rintro e w4 ⟨rfl, hb⟩
    have H4 := Lib.hid (H3.out.2.2.trans (hb.mono H3.out.2.2.size))
    clear hb H3
    go_wp2_with fail
    refine (K3.out _).mono ?_
    rintro e w5 ⟨rfl, rfl⟩
    go_wp2_with fail
    refine (K4.out _).mono ?_
    rintro e w6 ⟨rfl, rfl⟩
    go_wp2
    go_ret
    exact ⟨by simp, H4.out⟩
end Go.Proofs.Ytfbjfleagilikaa.frameSplits
