/- carracklaw03.WireWrites walked. No condition. -/
import Derived.WalkSpells
import Derived.Test.YtiokelnnimoljaaRefWrite
namespace Go.Proofs.Ytiokelnnimoljaa.wireWrites
open Go.RowKit
set_option linter.unusedVariables false
set_option maxRecDepth 100000 in
set_option maxHeartbeats 4000000 in
theorem early (a : Option Addr) (cap : Nat) (l : List CallV) (W : World) (hl : l.length ≤ maxLen) (hc : CallsAt W a l) (hf : ¬ fewOk l) :
    Calls Try.prog 3 #[.slice a l.length cap] W fun x w' => x = .returned (.bool true) ∧ Below W.heap.size W w' := by
  have HC := Lib.hid hc
  clear hc
  go_enter Try.func3, Try.ntmps3
  go_wp2_with fail
  refine (awake _).mono ?_
  rintro x w1 ⟨rfl, hb⟩
  go_wp2_with fail
  refine (few_no a cap l _ hl (HC.out.later hb) hf).mono ?_
  rintro x w2 ⟨rfl, rfl⟩
  go_wp2
  go_ret
  exact ⟨rfl, hb⟩
set_option maxRecDepth 100000 in
set_option maxHeartbeats 4000000 in
theorem main (a : Option Addr) (cap : Nat) (l : List CallV) (W : World) (hl : l.length ≤ maxLen) (hc : CallsAt W a l) (hf : fewOk l) :
    Calls Try.prog 3 #[.slice a l.length cap] W fun x w' => x = .returned (.bool true) ∧ Below W.heap.size W w' := by
  have HC := Lib.hid hc
  have HF := Lib.hid hf
  clear hc hf
  go_enter Try.func3, Try.ntmps3
  go_wp2_with fail
  refine (awake _).mono ?_
  rintro x w1 ⟨rfl, hb⟩
  have HB := Lib.hid hb
  clear hb
  go_wp2_with fail
  refine (few_ok a cap l _ hl (HC.out.later HB.out) HF.out).mono ?_
  rintro x w2 ⟨rfl, rfl⟩
  go_wp2_with fail
  refine (put_fresh w1.heap.size w1.heap.size a cap l W _ hl HC.out (HB.out.trans ((Kq.below_alloc _ _).mono HB.out.size)) HB.out.size HF.out (wr_new w1)).mono ?_
  rintro x w4 ⟨rfl, va, A4, K4, oa⟩
  have H4 := Lib.hid ((HB.out.trans ((Kq.below_alloc _ _).mono HB.out.size)).trans (K4.below (Nat.le_trans HB.out.size (Kq.below_alloc _ _).size) (fun k _ e => by subst e; exact HB.out.size)))
  have HA := Lib.hid A4
  clear A4 K4 oa
  go_wp2_with fail
  refine (wr_bytes w1.heap.size w1.heap.size _ va _ _ HA.out (putAll_lt _ l (by simp))).mono ?_
  rintro x w5 ⟨rfl, rfl⟩
  go_wp2_with fail
  refine (ref_write a cap l _ hl (HC.out.later H4.out) HF.out).mono ?_
  rintro x w6 ⟨rfl, b6⟩
  have H6 := Lib.hid (H4.out.trans (b6.mono H4.out.size))
  clear b6
  generalize bytesOf (putAll (0, []) l).1 (putAll (0, []) l).2 = s at *
  generalize (putAll (0, []) l).1 = e at *
  go_wp2
  go_ret
  exact ⟨rfl, H6.out⟩
theorem wireWrites_walk (v : Value) {W : World} (hd : ∃ a len cap l, v = .slice a len cap ∧ l.length = len ∧ len ≤ maxLen ∧ CallsAt W a l) :
    Calls Try.prog 3 #[v] W fun x w' => x = .returned (.bool true) ∧ Below W.heap.size W w' := by
  obtain ⟨a, len, cap, l, rfl, rfl, hl, hc⟩ := hd
  by_cases hf : fewOk l
  · exact main a cap l W hl hc hf
  · exact early a cap l W hl hc hf
end Go.Proofs.Ytiokelnnimoljaa.wireWrites
