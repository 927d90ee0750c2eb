/- Contracts of crc.Update and crc.Sum; condition: the number fits, the text's length is an int. -/
import Derived.Deep.WholeRow
import Derived.Test.YtfbjfleagilikaaCrcHalves
import Derived.Test.YtfbjfleagilikaaCrcBytes
namespace Go.Proofs.Ytfbjfleagilikaa
open Go.RowKit
theorem tab_cell (w1 : World) (j : Nat) (h : j < 16) : (w1.alloc (.cells (tabAt 16) 102)).cell? ⟨w1.heap.size, j, none⟩ = some (.int .u32 ((CrcM.steps 4 j : Nat) : Int)) := by
  rw [World.cell?_alloc_at _ _ _ _ rfl]
  simp [tabAt, h]
theorem half_step (y : Nat) (hy : y < CrcM.M) : bits .xor .u32 ((y : Int) / 16) ((CrcM.steps 4 (y % 16) : Nat) : Int) = ((CrcM.steps 4 y : Nat) : Int) := by
  have h2 : (y : Int) / 16 = ((y / 16 : Nat) : Int) := by omega
  have h3 : y % 16 < CrcM.M := by unfold CrcM.M; omega
  rw [h2, u32_xor_nat _ _ (by unfold CrcM.M at hy; omega) (CrcM.steps_lt h3), ← CrcM.steps4]
theorem half_and (y : Nat) (hy : y < CrcM.M) : bits .and .u32 (y : Int) 15 = ((y % 16 : Nat) : Int) := by
  have := u32_and_nat y 15 hy (by decide)
  rw [nat_mask4] at this
  exact this
theorem byte_xor (x : Nat) (b : UInt8) (hx : x < CrcM.M) : bits .xor .u32 (x : Int) ((b.toNat : Nat) : Int) = ((x ^^^ b.toNat : Nat) : Int) :=
  u32_xor_nat _ _ hx (Nat.lt_trans b.toNat_lt (by decide))
theorem byte_xor_lt (x : Nat) (b : UInt8) (hx : x < CrcM.M) : x ^^^ b.toNat < CrcM.M :=
  CrcM.xor_lt_M' hx (Nat.lt_trans b.toNat_lt (by decide))
theorem u32_cpl (x : Nat) (hx : x < CrcM.M) : bits .xor .u32 IntKind.u32.max (x : Int) = ((CrcM.cpl x : Nat) : Int) := by
  have h : IntKind.u32.max = ((4294967295 : Nat) : Int) := by rfl
  rw [h, u32_xor_nat _ _ (by decide) hx, CrcM.cpl_xor hx, Nat.xor_comm]
theorem byte_u32 (b : UInt8) : ((b.toNat : Nat) : Int) % 4294967296 = ((b.toNat : Nat) : Int) := by
  have := b.toNat_lt; omega
theorem over_succ (x : Nat) (s : ByteArray) (k : Nat) (h : k < s.size) : CrcM.over x ((nl s).take (k + 1)) = CrcM.steps 4 (CrcM.steps 4 (CrcM.over x ((nl s).take k) ^^^ s[k].toNat)) := by
  rw [take_succ_nl s k h, CrcM.over_append, CrcM.over_cons, CrcM.over_nil, CrcM.steps8]
set_option maxRecDepth 100000 in
set_option maxHeartbeats 400000 in
theorem crc_update (x : Nat) (s : ByteArray) (w : World) (hx : x < CrcM.M) (hs : s.size ≤ maxLen) :
    Calls Try.prog 43 #[.int .u32 (x : Int), .string s] w fun e w' => e = .returned (.int .u32 ((CrcM.upd x (nl s) : Nat) : Int)) ∧ Below w.heap.size w w' := by
  unfold maxLen at hs
  have hx' := Lib.hid hx
  clear hx
  go_enter Try.func43, Try.ntmps43
  go_wp2_with fail
  refine (crc_halves _).mono ?_
  rintro e w1 ⟨rfl, hb1⟩
  have hsz := hb1.size
  have h16 : (tabAt 16).size = 16 := by simp [tabAt]
  have hst := run_storeCells_new (P := Try.prog) w1 102 #[Value.int .u32 0, Value.int .u32 0, Value.int .u32 0, Value.int .u32 0, Value.int .u32 0, Value.int .u32 0, Value.int .u32 0, Value.int .u32 0, Value.int .u32 0, Value.int .u32 0, Value.int .u32 0, Value.int .u32 0, Value.int .u32 0, Value.int .u32 0, Value.int .u32 0, Value.int .u32 0] (tabAt 16) (by rw [h16]; kernel_rfl) rfl (by simp [tabAt, Value.oneCell'])
  have hx := hx'.out
  have hcx := u32_cpl x hx
  clear hx
  go_wp2
  clear hst hcx
  go_loop [0, 12] (fun y j => ∃ k : Nat, k ≤ s.size ∧ j = .int .i64 k ∧ y = .int .u32 (CrcM.over (CrcM.cpl x) ((nl s).take k) : Nat)) (fun _ j => s.size - (intOf j).toNat)
  case atStart => exact ⟨0, by omega, rfl, by simp [CrcM.over]⟩
  case round =>
    obtain ⟨k, hk, rfl, rfl⟩ := hrel
    by_cases hlt : k < s.size
    · have hXlt := Lib.hid (CrcM.over_lt (CrcM.cpl_lt x) ((nl s).take k) (fun b hb => nl_lt s b (List.mem_of_mem_take hb)))
      have hS := Lib.hid (over_succ (CrcM.cpl x) s k hlt)
      obtain ⟨X, hX⟩ : ∃ X, X = CrcM.over (CrcM.cpl x) ((nl s).take k) := ⟨_, rfl⟩
      rw [← hX] at hXlt hS ⊢
      clear hX
      obtain ⟨y, hy⟩ : ∃ y, y = X ^^^ s[k].toNat := ⟨_, rfl⟩
      have hyM : y < CrcM.M := by rw [hy]; exact byte_xor_lt X _ hXlt.out
      have hb0 := byte_u32 s[k]
      have hx1 := byte_xor X s[k] hXlt.out
      rw [← hy] at hx1 hS
      clear hy
      have ha1 := half_and y hyM
      have hc1 := tab_cell w1 (y % 16) (Nat.mod_lt _ (by decide))
      have hx2 := half_step y hyM
      obtain ⟨z, hz⟩ : ∃ z, z = CrcM.steps 4 y := ⟨_, rfl⟩
      have hzM : z < CrcM.M := by rw [hz]; exact CrcM.steps_lt hyM
      rw [← hz] at hx2 hS
      clear hz
      have ha2 := half_and z hzM
      have hc2 := tab_cell w1 (z % 16) (Nat.mod_lt _ (by decide))
      have hx3 := half_step z hzM
      obtain ⟨u, hu⟩ : ∃ u, u = CrcM.steps 4 z := ⟨_, rfl⟩
      rw [← hu] at hx3 hS
      clear hu hyM hzM
      have hy16 : y % 16 < 16 := Nat.mod_lt _ (by decide)
      have hz16 : z % 16 < 16 := Nat.mod_lt _ (by decide)
      go_wp2
      go_round
      case rel => exact ⟨k + 1, by omega, by go_num, by rw [hS.out]⟩
      case measure => simp [intOf]; omega
    · obtain rfl : k = s.size := by omega
      have hX := u32_cpl _ (CrcM.over_lt (CrcM.cpl_lt x) ((nl s).take s.size) (fun b hb => nl_lt s b (List.mem_of_mem_take hb)))
      have hT : (nl s).take s.size = nl s := List.take_of_length_le (by rw [nl_length]; exact Nat.le_refl _)
      rw [hT] at hX ⊢
      go_wp2
      go_ret
      exact ⟨rfl, hb1.trans ((Kq.below_alloc _ _).mono hsz)⟩
end Go.Proofs.Ytfbjfleagilikaa
