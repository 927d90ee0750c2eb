/- Contract of crc.Sum, for parts that stand in memory, and for none; condition: lengths are ints. -/
import Derived.Test.YtfbjfleagilikaaCrcUpdate
namespace Go.Proofs.Ytfbjfleagilikaa
open Go.RowKit
def sumAll (x : Nat) (ss : List ByteArray) : Nat := ss.foldl (fun x s => CrcM.upd x (nl s)) x
theorem sumAll_lt (x : Nat) (hx : x < CrcM.M) (ss : List ByteArray) : sumAll x ss < CrcM.M := by
  induction ss generalizing x with
  | nil => exact hx
  | cons s ss ih => exact ih _ (CrcM.upd_lt _ _)
theorem sumAll_succ (x : Nat) (ss : List ByteArray) (k : Nat) (h : k < ss.length) : sumAll x (ss.take (k + 1)) = CrcM.upd (sumAll x (ss.take k)) (nl ss[k]) := by
  unfold sumAll; rw [List.take_succ_eq_append_getElem h, List.foldl_append]; rfl
set_option maxRecDepth 100000 in
theorem crc_sum_none (w : World) : Calls Try.prog 29 #[.slice none 0 0] w fun e w' => e = .returned (.int .u32 0) ∧ Below w.heap.size w w' := by
  go_enter Try.func29, Try.ntmps29
  go_wp2
  refine wp_loop_rounds 1 ?_; rw [rounds_succ]
  go_wp2
  go_ret
  exact ⟨rfl, Below.refl _ _⟩
set_option maxRecDepth 100000 in
set_option maxHeartbeats 400000 in
theorem crc_sum (b c : Nat) (ss : List ByteArray) (w : World) (hb : b < w.heap.size) (hl : ss.length ≤ maxLen) (hs : ∀ s ∈ ss, s.size ≤ maxLen)
    (hc : ∀ j (h : j < ss.length), w.cell? ⟨b, j, none⟩ = some (.string ss[j])) :
    Calls Try.prog 29 #[.slice (some ⟨b, 0, none⟩) ss.length c] w fun e w' => e = .returned (.int .u32 ((sumAll 0 ss : Nat) : Int)) ∧ Below w.heap.size w w' := by
  unfold maxLen at hl
  have HC := Lib.hid hc
  have HS := Lib.hid hs
  clear hc hs
  go_enter Try.func29, Try.ntmps29
  go_wp2
  go_loopw [3, 8] (fun y j wr => ∃ k : Nat, k ≤ ss.length ∧ j = .int .i64 k ∧ y = .int .u32 (sumAll 0 (ss.take k) : Nat) ∧ Below w.heap.size w wr) (fun _ j _ => ss.length - (intOf j).toNat)
  case atStart => exact ⟨0, by omega, rfl, rfl, Below.refl _ _⟩
  case round =>
    obtain ⟨k, hk, rfl, rfl, hbl⟩ := hrel
    by_cases hlt : k < ss.length
    · have hcell := (hbl.cell (p := ⟨b, k, none⟩) hb).trans (HC.out k hlt)
      have hsk := Lib.hid (HS.out ss[k] (List.getElem_mem _))
      have hS := Lib.hid (sumAll_succ 0 ss k hlt)
      have hXlt := Lib.hid (sumAll_lt 0 (by decide) (ss.take k))
      go_wp2_with fail
      refine (crc_update _ _ _ hXlt.out hsk.out).mono ?_
      rintro e w2 ⟨rfl, hb2⟩
      have hbl2 := hbl.trans (hb2.mono hbl.size)
      clear hb2 hbl hcell
      go_wp2
      go_roundw
      case rel => exact ⟨k + 1, by omega, by go_num, by rw [hS.out], hbl2⟩
      case measure => simp [intOf]; omega
    · obtain rfl : k = ss.length := by omega
      rw [List.take_length]
      go_wp2
      go_ret
      exact ⟨rfl, hbl⟩
end Go.Proofs.Ytfbjfleagilikaa
