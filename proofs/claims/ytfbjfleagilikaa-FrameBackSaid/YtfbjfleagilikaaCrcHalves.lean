/- Contract of crc.halves: to what each four bits come; no condition. -/
import Derived.Test.YtfbjfleagilikaaChecked
import Derived.WalkKit
import Derived.WalkLawsBesides
import Derived.Lib.Hide
import Derived.KernelRfl
import Derived.Test.YtfbjfleagilikaaCrcMath
import Derived.Test.YtfbjfleagilikaaKit
namespace Go.Proofs.Ytfbjfleagilikaa
open Go.RowKit
def tabAt (k : Nat) : Array Value := ((List.range 16).map fun i => Value.int .u32 ((if i < k then CrcM.steps 4 i else 0 : Nat) : Int)).toArray
theorem and_one_u32 (x : Nat) (hx : x < CrcM.M) : bits .and .u32 (x : Int) 1 = ((x % 2 : Nat) : Int) := by
  have := u32_and_nat x 1 hx (by decide)
  rw [nat_mask1] at this
  exact this
theorem halves_step (x : Nat) (hx : x < CrcM.M) : bits .xor .u32 ((x : Int) / 2) (3988292384 * bits .and .u32 (x : Int) 1 % 4294967296) = ((CrcM.step x : Nat) : Int) := by
  rw [and_one_u32 x hx]
  have h2 : (x : Int) / 2 = ((x / 2 : Nat) : Int) := by omega
  have h3 : (3988292384 : Int) * ((x % 2 : Nat) : Int) % 4294967296 = ((if x % 2 = 1 then CrcM.poly else 0 : Nat) : Int) := by
    unfold CrcM.poly
    rcases Nat.mod_two_eq_zero_or_one x with h | h <;> rw [h] <;> decide
  rw [h2, h3, u32_xor_nat _ _ (by unfold CrcM.M at hx; omega) (by unfold CrcM.poly; split <;> decide)]
  rfl
theorem tab_get (k : Nat) (h : k < 16) : (tabAt k)[k]? = some (Value.int .u32 0) := by
  simp [tabAt, h]
theorem tab_set (k : Nat) (h : k < 16) : (tabAt k).setIfInBounds k (.int .u32 (CrcM.steps 4 k : Nat)) = tabAt (k + 1) := by
  apply Array.ext'
  simp only [tabAt, Array.toList_setIfInBounds, List.toList_toArray]
  apply List.ext_getElem?
  intro i
  rw [List.getElem?_set]
  by_cases hi : k = i
  · subst hi; simp [h]
  · rw [if_neg hi]
    simp only [List.getElem?_map]
    by_cases h16 : i < 16
    · simp only [List.getElem?_range h16, Option.map_some]
      congr 4
      by_cases h1 : i < k
      · simp [h1, show i < k + 1 by omega]
      · simp [h1, show ¬ i < k + 1 by omega]
    · simp [h16]
def tabLit : Array Value := #[Value.int .u32 0, Value.int .u32 498536548, Value.int .u32 997073096, Value.int .u32 651767980, Value.int .u32 1994146192, Value.int .u32 1802195444, Value.int .u32 1303535960, Value.int .u32 1342533948, Value.int .u32 3988292384, Value.int .u32 4027552580, Value.int .u32 3604390888, Value.int .u32 3412177804, Value.int .u32 2607071920, Value.int .u32 2262029012, Value.int .u32 2685067896, Value.int .u32 3183342108]
theorem tab_lit : tabAt 16 = tabLit := by kernel_rfl
set_option maxRecDepth 100000 in
theorem crc_halves (w : World) : Calls Try.prog 58 #[] w fun e w' => e = .returned (.agg (tabAt 16)) ∧ Below w.heap.size w w' := by
  go_enter Try.func58, Try.ntmps58
  go_wp2
  go_loopw [5] (fun i wr => ∃ k : Nat, k ≤ 16 ∧ i = .int .i64 k ∧ wr = (w.alloc (.cells (tabAt 0) 102)).alloc (.cells (tabAt k) 102)) (fun i _ => 16 - (intOf i).toNat)
  case atStart => exact ⟨0, by omega, rfl, rfl⟩
  case round =>
    obtain ⟨k, hk, rfl, rfl⟩ := hrel
    by_cases hlt : k < 16
    · have htab := tab_get k hlt
      have hset := Lib.hid (tab_set k hlt)
      have hkM : k < CrcM.M := by unfold CrcM.M; omega
      go_wp2
      go_loop [3, 10] (fun x j => ∃ m : Nat, m ≤ 4 ∧ j = .int .i64 m ∧ x = .int .u32 (CrcM.steps m k : Nat)) (fun _ j => 4 - (intOf j).toNat)
      case atStart => exact ⟨0, by omega, rfl, by simp [CrcM.steps]⟩
      case round =>
        obtain ⟨m, hm, rfl, rfl⟩ := hrel
        have hst := Lib.hid (halves_step (CrcM.steps m k) (CrcM.steps_lt hkM))
        by_cases hlt2 : m < 4
        · go_wp2
          go_round
          case rel => exact ⟨m + 1, by omega, by go_num, by rw [hst.out, CrcM.steps_add m 1]; rfl⟩
          case measure => simp [intOf]; omega
        · obtain rfl : m = 4 := by omega
          clear hst
          go_wp2
          go_roundw
          case rel => exact ⟨k + 1, by omega, by go_num, by rw [hset.out]⟩
          case measure => simp [intOf]; omega
    · obtain rfl : k = 16 := by omega
      have e0 : tabAt 0 = #[Value.int .u32 0, Value.int .u32 0, Value.int .u32 0, Value.int .u32 0, Value.int .u32 0, Value.int .u32 0, Value.int .u32 0, Value.int .u32 0, Value.int .u32 0, Value.int .u32 0, Value.int .u32 0, Value.int .u32 0, Value.int .u32 0, Value.int .u32 0, Value.int .u32 0, Value.int .u32 0] := by rfl
      rw [tab_lit, e0]
      unfold tabLit
      clear hk hlt
      go_wp2
      exact bodyPost_ret (v := .agg tabLit) (by simp [results, Try.results58, go_sem, tabLit]) rfl ⟨by rw [tab_lit], ((Below.refl _ _).alloc (Nat.le_refl _) _).alloc (by simp) _⟩
end Go.Proofs.Ytfbjfleagilikaa
