/- Contracts of slices.Index and slices.Contains, of ints that stand in memory. Condition: a length is an int. -/
import Derived.Test.YtkdommljaciahaaWireWr2
namespace Go.Proofs.Ytkdommljaciahaa
open Go.RowKit
set_option linter.unusedVariables false
set_option maxRecDepth 100000 in
set_option maxHeartbeats 800000 in
theorem nt_index (b c : Nat) (zs : List Int) (x : Int) (w : World) (hb : b < w.heap.size) (hl : zs.length ≤ maxLen)
    (hc : ∀ j (h : j < zs.length), w.cell? ⟨b, j, none⟩ = some (.int .i64 zs[j])) :
    Calls Try.prog 56 #[.slice (some ⟨b, 0, none⟩) zs.length c, .int .i64 x] w fun e w' => (∃ i : Int, e = .returned (.int .i64 i) ∧ decide (0 ≤ i) = decide (x ∈ zs)) ∧ Below w.heap.size w w' := by
  unfold maxLen at hl
  have HC := Lib.hid hc
  clear hc
  go_enter Try.func56, Try.ntmps56
  go_wp2
  go_loopw [8] (fun j wr => ∃ k : Nat, k ≤ zs.length ∧ j = .int .i64 k ∧ x ∉ zs.take k ∧ Below w.heap.size w wr) (fun j _ => zs.length - (intOf j).toNat)
  case atStart => exact ⟨0, by omega, rfl, by simp, Below.refl _ _⟩
  case round =>
    obtain ⟨k, hk, rfl, hno, hbl⟩ := hrel
    have HN := Lib.hid hno
    clear hno
    by_cases hlt : k < zs.length
    · have hcell := (hbl.cell (p := ⟨b, k, none⟩) hb).trans (HC.out k hlt)
      generalize hy : zs[k] = y at hcell
      have HY := Lib.hid hy
      clear hy
      by_cases hxy : x = y
      · go_wp2
        go_ret
        exact ⟨⟨k, rfl, by rw [decide_eq_true (show (0 : Int) ≤ k by omega), decide_eq_true]; rw [hxy, ← HY.out]; exact List.getElem_mem _⟩, hbl⟩
      · go_wp2
        go_roundw
        case rel =>
          refine ⟨k + 1, by omega, by go_num, ?_, hbl⟩
          rw [List.take_succ_eq_append_getElem hlt, HY.out]
          simp only [List.mem_append, List.mem_singleton, not_or]
          exact ⟨HN.out, hxy⟩
        case measure => simp [intOf]; omega
    · obtain rfl : k = zs.length := by omega
      have hno := HN.out
      rw [List.take_length] at hno
      go_wp2
      go_ret
      exact ⟨⟨-1, rfl, by rw [decide_eq_false hno]; rfl⟩, hbl⟩
set_option maxRecDepth 100000 in
theorem nt_contains (b c : Nat) (zs : List Int) (x : Int) (w : World) (hb : b < w.heap.size) (hl : zs.length ≤ maxLen)
    (hc : ∀ j (h : j < zs.length), w.cell? ⟨b, j, none⟩ = some (.int .i64 zs[j])) :
    Calls Try.prog 51 #[.slice (some ⟨b, 0, none⟩) zs.length c, .int .i64 x] w fun e w' => e = .returned (.bool (decide (x ∈ zs))) ∧ Below w.heap.size w w' := by
  have HC := Lib.hid hc
  clear hc
  go_enter Try.func51, Try.ntmps51
  go_wp2_with fail
  refine (nt_index b c zs x w hb hl HC.out).mono ?_
  rintro e w' ⟨⟨i, rfl, hi⟩, hbl⟩
  have HI := Lib.hid hi
  clear hi
  go_wp2
  go_ret
  rw [HI.out]
  exact ⟨rfl, hbl⟩
/-- a mark that may not be: the writer remembers ErrRange -/
theorem nt_refuse (base B : Nat) (e : Int) (v : Value) (l : List Nat) (w : World) (h : Wr w base B e v l) :
    Calls Try.prog 38 #[.pointer (some ⟨B, 0, none⟩)] w (WrAny w base B v (keepE e 1) l) := by
  have H := Lib.hid h
  clear h
  go_enter Try.func38, Try.ntmps38
  go_wp2_with fail
  refine (wr_byte_bad base B e v l (-1) w H.out (Or.inl (by omega))).mono ?_
  rintro x w2 ⟨rfl, H2⟩
  have HP : WrAny w base B v (keepE e 1) l (.returned (.tuple #[])) w2 := ⟨rfl, H2⟩
  have HP := Lib.hid HP
  clear H2
  go_wp2
  first | go_end0 | refine bodyPost_ret (results_none rfl _ _ _) rfl ?_
  exact HP.out
end Go.Proofs.Ytkdommljaciahaa
