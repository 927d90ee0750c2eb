/- The walk of carracklaw02.CrcBursts. No condition but that the text's length is an int. -/
import Derived.Deep.DeepCutAuto
import Derived.OpenShut
import Derived.Test.YtkjcpoeakdlplaaCrcFlip
namespace Go.Proofs.Ytkjcpoeakdlplaa
open Go.RowKit
set_option linter.unusedVariables false
set_option maxRecDepth 100000 in
set_option maxHeartbeats 4000000 in
theorem crcBursts_walk (s : ByteArray) (a by_ : Int) (hs : s.size ≤ maxLen) (wa : (Lit.int .i64 a).wf = true) (wb : (Lit.int .u32 by_).wf = true) (w : World) :
    Calls Try.prog 5 #[.string s, .int .i64 a, .int .u32 by_] w fun e w' => e = .returned (.bool true) ∧ Below w.heap.size w w' := by
  have hby := Go.bounds_u32 wb
  have HB := Lib.hid hby
  clear wa wb hby
  obtain ⟨y, rfl⟩ := Int.eq_ofNat_of_zero_le HB.out.1
  by_cases k0 : 2000 < s.size
  · go_enter Try.func5, Try.ntmps5
    go_wp2_with fail
    refine (crc_awake _).mono ?_
    rintro e w1 ⟨rfl, hb1⟩
    go_wp2
    go_ret
    exact ⟨rfl, hb1⟩
  by_cases k1 : y = 0
  · subst k1
    go_enter Try.func5, Try.ntmps5
    go_wp2_with fail
    refine (crc_awake _).mono ?_
    rintro e w1 ⟨rfl, hb1⟩
    go_wp2
    go_ret
    exact ⟨rfl, hb1⟩
  have k1' : ((y : Int) == 0) = false := by simpa using k1
  have HK := Lib.hid k1
  clear k1
  by_cases k2 : a < 0
  · go_enter Try.func5, Try.ntmps5
    go_wp2_with fail
    refine (crc_awake _).mono ?_
    rintro e w1 ⟨rfl, hb1⟩
    go_wp2
    go_ret
    exact ⟨rfl, hb1⟩
  by_cases k3 : 8 * ((s.size : Int) + 4) ≤ a
  · go_enter Try.func5, Try.ntmps5
    go_wp2_with fail
    refine (crc_awake _).mono ?_
    rintro e w1 ⟨rfl, hb1⟩
    go_wp2
    go_ret
    exact ⟨rfl, hb1⟩
  obtain ⟨a, rfl⟩ := Int.eq_ofNat_of_zero_le (Int.not_lt.1 k2)
  have hmax : s.size ≤ 2000 := by omega
  have HA8 : Hid (a < 8 * (s.size + 4)) := Lib.hid (by omega)
  go_enter Try.func5, Try.ntmps5
  go_wp2_with fail
  refine (crc_awake _).mono ?_
  rintro e w1 ⟨rfl, hb1⟩
  go_wp2_with fail
  refine (crc_seal s _ (small_max s hmax)).mono ?_
  rintro e w2 ⟨rfl, hb2⟩
  have hcv := run_bytes_of_string (P := Try.prog) w2 9 32 5 (sealT s) Try.underlying9 Try.underlying32 Try.underlying5
  have hrow := Kq.row_bytes w2.drew (sealT s) (grownCap w2 (sealT s).size 0 5) 5 (bytesRow (sealT s) (grownCap w2 (sealT s).size 0 5)).size (by simp [bytesRow])
  generalize grownCap w2 (sealT s).size 0 5 = cap at hcv hrow
  have s1 := hb1.size
  have s2 := hb2.size
  have HZ := Lib.hid (seal_size s)
  have hrow' := Lib.hid hrow
  clear hrow
  go_wp2
  clear hcv
  obtain ⟨L, hL⟩ : ∃ L, L = nl (sealT s) := ⟨_, rfl⟩
  obtain ⟨wy, hwy⟩ : ∃ wy, wy = (w2.alloc (Obj.cells (bytesRow (sealT s) cap) 5 ((bytesRow (sealT s) cap).size, (bytesRow (sealT s) cap).size + 1))).drew := ⟨_, rfl⟩
  rw [← hwy]
  have R0 : Kq.Row wy w2.heap.size L := by rw [hwy, hL]; exact hrow'.out
  have B0 : Below w.heap.size w wy := by rw [hwy]; exact ((hb1.trans (hb2.mono s1)).trans ((Kq.below_alloc _ _).mono (by omega))).drew
  have hLl : L.length = s.size + 4 := by rw [hL, nl_length, HZ.out]
  have hLb : ∀ b ∈ L, b < 256 := by rw [hL]; exact nl_lt _
  have HL := Lib.hid hL
  have HLl := Lib.hid hLl
  have HLb := Lib.hid hLb
  clear hwy hrow' hb1 hb2 hL hLl hLb
  generalize w2.heap.size = B at *
  generalize (sealT s).size = n at *
  go_loopw [8] (fun j wr => ∃ k : Nat, k ≤ 32 ∧ j = .int .i64 k ∧ ∃ M : List Nat, M.length = s.size + 4 ∧ (∀ b ∈ M, b < 256) ∧ CrcM.le M = CrcM.le L ^^^ (2 ^ a * (y % 2 ^ k)) ∧ Kq.Row wr B M ∧ Below w.heap.size w wr) (fun j _ => 32 - (intOf j).toNat)
  case atStart => exact ⟨0, by omega, rfl, L, HLl.out, HLb.out, by simp [Nat.mod_one], R0, B0⟩
  case round =>
    clear R0 B0
    obtain ⟨k, hk, rfl, M, hMl, hMb, hMe, R0, B0⟩ := hrel
    have HMl := Lib.hid hMl
    have HMb := Lib.hid hMb
    have HMe := Lib.hid hMe
    clear hMl hMb hMe
    have hyM : y < CrcM.M := by have := HB.out; unfold CrcM.M; omega
    have hnb : n ≤ 2004 := by have := HZ.out; omega
    by_cases hlt : k < 32
    · have hbt := bit_test y k hyM
      by_cases hbit : y / 2 ^ k % 2 = 1
      · have ht : (bits .and .u32 ((y : Int) / 2 ^ k) 1 == 1) = true := by rw [hbt, hbit]; rfl
        have HBit := Lib.hid hbit
        clear hbt hbit
        by_cases hge : 8 * (n : Int) ≤ (a : Int) + (k : Int)
        · go_wp2
          go_ret
          exact ⟨rfl, B0⟩
        · have hq : ((a : Int) + (k : Int)).tdiv 8 = (((a + k) / 8 : Nat) : Int) := by rw [Int.tdiv_eq_ediv_of_nonneg (by omega)]; omega
          have hr : ((a : Int) + (k : Int)).tmod 8 = (((a + k) % 8 : Nat) : Int) := by rw [Int.tmod_eq_emod_of_nonneg (by omega)]; omega
          have HF : Hid (flip M (a + k) = M.set ((a + k) / 8) (M.getD ((a + k) / 8) 0 ^^^ 2 ^ ((a + k) % 8))) := Lib.hid rfl
          have hqn : (((a + k) / 8 : Nat) : Int) < (n : Int) := by omega
          have hql : (a + k) / 8 < M.length := by have := HMl.out; have := HZ.out; omega
          have hr8 : (a + k) % 8 < 8 := by omega
          have HE := Lib.hid (burst_step y k a L M HMb.out hql HMe.out HBit.out)
          generalize (a + k) / 8 = q at hq HF hqn hql
          generalize (a + k) % 8 = r at hr HF hr8
          have hwq : IntKind.i64.wrap (q : Int) = (q : Int) := IntWalk.i64_in _ (by omega)
          have hwr : IntKind.i64.wrap (r : Int) = (r : Int) := IntWalk.i64_in _ (by omega)
          have hcell := R0.cell q hql
          have hfree := R0.free q hql
          go_wp2
          refine wp_region_any (by kernel_rfl) ?_
          (try (change wpAny _ _ _ _ _ _ _ (World.drew _)))
          refine wpAny_take (i := 0) (v := ?_) rfl (by kernel_rfl) (by kernel_rfl) (by kernel_rfl) (fun _ _ _ h => h) (Or.inl ⟨by kernel_rfl, ?_⟩) ?_
          rotate_left
          · intro w; go_simp; with_reducible rfl
          refine wpAny_take (i := 1) (v := ?_) rfl (by kernel_rfl) (by kernel_rfl) (by kernel_rfl) (fun _ _ _ h => h) (Or.inl ⟨by kernel_rfl, ?_⟩) ?_
          rotate_left
          · intro w; go_simp; with_reducible rfl
          refine wpAny_take (i := 2) (v := ?_) rfl (by kernel_rfl) (by kernel_rfl) (by kernel_rfl) (fun _ _ _ h => h) (Or.inl ⟨by kernel_rfl, ?_⟩) ?_
          rotate_left
          · intro w; go_simp; with_reducible rfl
          refine wpAny_take (i := 3) (v := ?_) rfl (by kernel_rfl) (by kernel_rfl) (by kernel_rfl) (fun _ _ _ h => h) (Or.inl ⟨by kernel_rfl, ?_⟩) ?_
          rotate_left
          · intro w; go_simp; with_reducible rfl
          refine wpAny_take (i := 4) (v := ?_) rfl (by kernel_rfl) (by kernel_rfl) (by kernel_rfl) (fun _ _ _ h => h) (Or.inl ⟨by kernel_rfl, ?_⟩) ?_
          rotate_left
          · intro w; go_simp; with_reducible rfl
          refine wpAny_take (i := 5) (v := ?_) rfl (by kernel_rfl) (by kernel_rfl) (by kernel_rfl) (fun _ _ _ h => h) (Or.inl ⟨by kernel_rfl, ?_⟩) ?_
          rotate_left
          · intro w; go_simp; with_reducible rfl
          refine wpAny_take (i := 6) (v := ?_) rfl (by kernel_rfl) (by kernel_rfl) (by kernel_rfl) (fun _ _ _ h => h) (Or.inl ⟨by kernel_rfl, ?_⟩) ?_
          rotate_left
          · intro w; go_simp; with_reducible rfl
          refine wpAny_take (i := 8) (v := ?_) rfl (by kernel_rfl) (by kernel_rfl) (by kernel_rfl) (fun _ _ _ h => h) (Or.inl ⟨by kernel_rfl, ?_⟩) ?_
          rotate_left
          · intro w; go_simp; with_reducible rfl
          refine wpAny_take (i := 9) (v := ?_) rfl (by kernel_rfl) (by kernel_rfl) (by kernel_rfl) (fun _ _ _ h => h) (Or.inl ⟨by kernel_rfl, ?_⟩) ?_
          rotate_left
          · intro w; go_simp; with_reducible rfl
          refine wpAny_take (i := 10) (v := ?_) rfl (by kernel_rfl) (by kernel_rfl) (by kernel_rfl) (fun _ _ _ h => h) (Or.inl ⟨by kernel_rfl, ?_⟩) ?_
          rotate_left
          · intro w; go_simp; with_reducible rfl
          refine wpAny_ready (rs := [7]) (by kernel_rfl) (by simp) ?_
          refine AllReady.cons rfl (fun K hK => ?_) AllReady.nil
          go_simp
          (first | (refine hK _ _ ?_; clear hK K) | skip)
          refine wpAny_take (i := 11) (v := ?_) rfl (by kernel_rfl) (by kernel_rfl) (by kernel_rfl) (fun _ _ _ h => h) (Or.inl ⟨by kernel_rfl, ?_⟩) ?_
          rotate_left
          · intro w; go_simp; with_reducible rfl
          refine wpAny_take (i := 12) (v := ?_) rfl (by kernel_rfl) (by kernel_rfl) (by kernel_rfl) (fun _ _ _ h => h) (Or.inl ⟨by kernel_rfl, ?_⟩) ?_
          rotate_left
          · intro w; go_simp; with_reducible rfl
          refine wpAny_ready (rs := [13]) (by kernel_rfl) (by simp) ?_
          refine AllReady.cons rfl (fun K hK => ?_) AllReady.nil
          go_simp
          (first | (refine hK _ _ ?_; clear hK K) | skip)
          refine wpAny_done (by kernel_rfl) ?_ _
          clear hcell hfree hq hr
          go_wp2
          go_roundw
          case rel => exact ⟨k + 1, by omega, by go_num, flip M (a + k), by rw [flip_length]; exact HMl.out, flip_lt M HMb.out _, HE.out, flip_row R0 HMb.out hql hr8 HF.out, (B0.setCell (by simp; omega) _).drew⟩
          case measure => simp [intOf]; omega
      · have ht : (bits .and .u32 ((y : Int) / 2 ^ k) 1 == 1) = false := by
          rw [hbt, (Nat.mod_two_eq_zero_or_one (y / 2 ^ k)).resolve_right hbit]; rfl
        have HBit := Lib.hid hbit
        clear hbt hbit
        go_wp2
        go_roundw
        case rel => exact ⟨k + 1, by omega, by go_num, M, HMl.out, HMb.out, by rw [low_succ0 y k HBit.out]; exact HMe.out, R0, B0⟩
        case measure => simp [intOf]; omega
    · have hk32 : k = 32 := Nat.le_antisymm hk (Nat.not_lt.1 hlt)
      subst hk32
      have hW := Lib.hid (burst_wrong s a y M HK.out hyM HA8.out HMl.out HMb.out (by have := HMe.out; rw [HL.out] at this; exact this))
      have hlb := HMb.out
      have hll : M.length = n := by rw [HMl.out, HZ.out]
      have hcv := Kq.Row.text (P := Try.prog) R0 hlb (src := 32) (dst := 9) cap Try.underlying32 Try.underlying5 Try.underlying9
      rw [hll] at hcv
      have hsz : (txt M).size = n := by rw [txt_size, hll]
      have hsm : (txt M).size ≤ maxLen := by rw [hsz, HZ.out]; unfold maxLen; omega
      have hs4 : 4 ≤ (txt M).size := by rw [hsz, HZ.out]; omega
      clear hll hsz hk hlt hlb
      go_wp2_with fail
      refine (crc_right (txt M) _ hsm hs4).mono ?_
      rintro e w9 ⟨rfl, hb9⟩
      rw [hW.out]
      clear hcv
      go_wp2
      go_ret
      exact ⟨rfl, B0.trans (hb9.mono B0.size)⟩
end Go.Proofs.Ytkjcpoeakdlplaa
