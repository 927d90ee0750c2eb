/- Contracts of the document's crc (carrackref02). No condition but that numbers fit and lengths are ints. -/
import Derived.WalkSpells
import Derived.Test.YtfbjfleagilikaaCrcLawM
namespace Go.Proofs.Ytfbjfleagilikaa
open Go.RowKit
set_option linter.unusedVariables false
theorem step_odd (x : Nat) (hx : x < CrcM.M) (h : x % 2 = 1) : bits .xor .u32 ((x : Int) / 2) 3988292384 = ((CrcM.step x : Nat) : Int) := by
  have h2 : (x : Int) / 2 = ((x / 2 : Nat) : Int) := by omega
  have := u32_xor_nat (x / 2) 3988292384 (by unfold CrcM.M at hx; omega) (by decide)
  rw [h2]
  unfold CrcM.step
  rw [if_pos h]
  exact this
theorem step_even (x : Nat) (h : ¬ x % 2 = 1) : (x : Int) / 2 = ((CrcM.step x : Nat) : Int) := by
  unfold CrcM.step
  rw [if_neg h, Nat.xor_zero]; omega
set_option maxRecDepth 100000 in
theorem ref_step (x : Nat) (w : World) (hx : x < CrcM.M) : Calls Try.prog 68 #[.int .u32 (x : Int)] w fun e w' => e = .returned (.int .u32 ((CrcM.step x : Nat) : Int)) ∧ w = w' := by
  have hX := Lib.hid hx
  clear hx
  by_cases h : x % 2 = 1
  · have ht : ((x : Int) % 2 == 1) = true := by rw [beq_iff_eq]; omega
    have hs := step_odd x hX.out h
    have hm : (x : Int) / 2 % 4294967296 = (x : Int) / 2 := by have := hX.out; unfold CrcM.M at this; omega
    go_enter Try.func68, Try.ntmps68
    go_wp2
    go_ret
    exact ⟨rfl, rfl⟩
  · have ht : ((x : Int) % 2 == 1) = false := by rw [beq_eq_false_iff_ne]; omega
    have hs := step_even x h
    have hm : ((CrcM.step x : Nat) : Int) % 4294967296 = ((CrcM.step x : Nat) : Int) := by have := CrcM.step_lt hX.out; unfold CrcM.M at this; omega
    clear h
    go_enter Try.func68, Try.ntmps68
    go_wp2
    go_ret
    exact ⟨rfl, rfl⟩
theorem over_succ8 (x : Nat) (s : ByteArray) (k : Nat) (h : k < s.size) : CrcM.over x ((nl s).take (k + 1)) = CrcM.steps 8 (CrcM.over x ((nl s).take k) ^^^ s[k].toNat) := by
  rw [take_succ_nl s k h, CrcM.over_append, CrcM.over_cons, CrcM.over_nil]
theorem steps_snoc (n x : Nat) : CrcM.steps (n + 1) x = CrcM.step (CrcM.steps n x) := CrcM.steps_add n 1 x
set_option maxRecDepth 100000 in
set_option maxHeartbeats 400000 in
theorem ref_over (x : Nat) (s : ByteArray) (w : World) (hx : x < CrcM.M) (hs : s.size ≤ maxLen) :
    Calls Try.prog 67 #[.int .u32 (x : Int), .string s] w fun e w' => e = .returned (.int .u32 ((CrcM.over x (nl s) : Nat) : Int)) ∧ w = w' := by
  unfold maxLen at hs
  have hX := Lib.hid hx
  clear hx
  go_enter Try.func67, Try.ntmps67
  go_wp2
  go_loop [0, 5] (fun y j => ∃ k : Nat, k ≤ s.size ∧ j = .int .i64 k ∧ y = .int .u32 (CrcM.over x ((nl s).take k) : Nat)) (fun _ j => s.size - (intOf j).toNat)
  case atStart => exact ⟨0, by omega, rfl, by simp [CrcM.over]⟩
  case round =>
    obtain ⟨k, hk, rfl, rfl⟩ := hrel
    by_cases hlt : k < s.size
    · have hYlt := CrcM.over_lt hX.out ((nl s).take k) (fun b hb => nl_lt s b (List.mem_of_mem_take hb))
      have hS := Lib.hid (over_succ8 x s k hlt)
      obtain ⟨Y, hY⟩ : ∃ Y, Y = CrcM.over x ((nl s).take k) := ⟨_, rfl⟩
      rw [← hY] at hYlt hS ⊢
      clear hY
      obtain ⟨y, hy⟩ : ∃ y, y = Y ^^^ s[k].toNat := ⟨_, rfl⟩
      have hyM := Lib.hid (show y < CrcM.M by rw [hy]; exact byte_xor_lt Y _ hYlt)
      have hb0 := byte_u32 s[k]
      have hx1 := byte_xor Y s[k] hYlt
      rw [← hy] at hx1 hS
      clear hy hYlt
      go_wp2
      go_loop [0, 6] (fun z j => ∃ m : Nat, m ≤ 8 ∧ j = .int .i64 m ∧ z = .int .u32 (CrcM.steps m y : Nat)) (fun _ j => 8 - (intOf j).toNat)
      case atStart => exact ⟨0, by omega, rfl, rfl⟩
      case round =>
        obtain ⟨m, hm, rfl, rfl⟩ := hrel
        have hst := Lib.hid (steps_snoc m y)
        have hlt8 := Lib.hid (CrcM.steps_lt (n := m) hyM.out)
        by_cases hlt2 : m < 8
        · go_wp2_with fail
          refine (ref_step _ _ hlt8.out).mono ?_
          rintro e w2 ⟨rfl, rfl⟩
          go_wp2
          go_round
          case rel => exact ⟨m + 1, by omega, by go_num, by rw [hst.out]⟩
          case measure => simp [intOf]; omega
        · have hm8 : m = 8 := Nat.le_antisymm hm (Nat.not_lt.1 hlt2)
          subst hm8
          go_wp2
          go_round
          case rel => exact ⟨k + 1, by omega, by go_num, by rw [hS.out]⟩
          case measure => simp [intOf]; omega
    · have hk' : k = s.size := Nat.le_antisymm hk (Nat.not_lt.1 hlt)
      subst hk'
      have hT : (nl s).take s.size = nl s := List.take_of_length_le (by rw [nl_length]; exact Nat.le_refl _)
      rw [hT]
      go_wp2
      go_ret
      exact ⟨rfl, rfl⟩
theorem cpl_int (x : Nat) (hx : x < CrcM.M) : (4294967295 - (x : Int)) % 4294967296 = ((CrcM.cpl x : Nat) : Int) := by
  unfold CrcM.cpl CrcM.M at *; omega
set_option maxRecDepth 100000 in
theorem ref_update (x : Nat) (s : ByteArray) (w : World) (hx : x < CrcM.M) (hs : s.size ≤ maxLen) :
    Calls Try.prog 64 #[.int .u32 (x : Int), .string s] w fun e w' => e = .returned (.int .u32 ((CrcM.upd x (nl s) : Nat) : Int)) ∧ w = w' := by
  have h1 := cpl_int x hx
  have h2 := cpl_int _ (CrcM.over_lt (CrcM.cpl_lt x) (nl s) (nl_lt s))
  have hU : Hid (CrcM.upd x (nl s) = CrcM.cpl (CrcM.over (CrcM.cpl x) (nl s))) := Lib.hid rfl
  clear hx
  go_enter Try.func64, Try.ntmps64
  go_wp2_with fail
  refine (ref_over (CrcM.cpl x) s _ (CrcM.cpl_lt x) hs).mono ?_
  rintro e w2 ⟨rfl, rfl⟩
  go_wp2
  go_ret
  exact ⟨by rw [hU.out, ← h2]; rfl, rfl⟩
set_option maxRecDepth 100000 in
theorem ref_sum (s : ByteArray) (w : World) (hs : s.size ≤ maxLen) :
    Calls Try.prog 53 #[.string s] w fun e w' => e = .returned (.int .u32 ((CrcM.upd 0 (nl s) : Nat) : Int)) ∧ w = w' := by
  go_enter Try.func53, Try.ntmps53
  go_wp2_with fail
  refine (ref_update 0 s _ (by decide) hs).mono ?_
  rintro e w2 ⟨rfl, rfl⟩
  go_wp2
  go_ret
  exact ⟨rfl, rfl⟩
set_option maxRecDepth 100000 in
theorem ref_bytes (x : Nat) (w : World) : Calls Try.prog 52 #[.int .u32 (x : Int)] w fun e w' => e = .returned (.string (txt (CrcM.bytes x))) ∧ Below w.heap.size w w' := by
  have hcv := Kq.conv_bytes (P := Try.prog) (w.alloc (Obj.cells #[Value.int IntKind.u8 ((x : Int) % 256), Value.int IntKind.u8 ((x : Int) / 256 % 256), Value.int IntKind.u8 ((x : Int) / 65536 % 256), Value.int IntKind.u8 ((x : Int) / 16777216 % 256)] 5))
    (src := 37) (dst := 9) ⟨w.heap.size, 0, none⟩ ((CrcM.bytes x).map UInt8.ofNat) 4 Try.underlying37 Try.underlying5 Try.underlying9
    (fun j v hj => Kq.cell_new _ _ _ (by
      rw [← hj, ← List.getElem?_toArray]
      congr 1
      simp [CrcM.bytes]))
  simp only [List.length_map, CrcM.bytes_length] at hcv
  go_enter Try.func52, Try.ntmps52
  go_wp2
  go_ret
  exact ⟨rfl, Kq.below_alloc _ _⟩
set_option maxRecDepth 100000 in
theorem ref_seal (s : ByteArray) (w : World) (hs : s.size + 4 ≤ maxLen) :
    Calls Try.prog 37 #[.string s] w fun e w' => e = .returned (.string (sealT s)) ∧ Below w.heap.size w w' := by
  unfold maxLen at hs
  have hs' : s.size ≤ maxLen := by unfold maxLen; omega
  have hlen : ¬ 9223372036854775807 < s.size + (txt (CrcM.bytes (CrcM.upd 0 (nl s)))).size := by rw [txt_size, CrcM.bytes_length]; omega
  go_enter Try.func37, Try.ntmps37
  go_wp2_with fail
  refine (ref_sum s _ hs').mono ?_
  rintro e w1 ⟨rfl, rfl⟩
  go_wp2_with fail
  refine (ref_bytes _ _).mono ?_
  rintro e w2 ⟨rfl, hb2⟩
  go_wp2
  go_ret
  exact ⟨rfl, hb2⟩
theorem right_same (s : ByteArray) (h4 : 4 ≤ s.size) : (s.toList == (sealT (s.extract 0 (s.size - 4))).toList) = rightB s := by
  have h := CrcM.right_iff (nl s) (nl_lt s) (by rw [nl_length]; exact h4)
  rw [nl_length] at h
  rw [right_iff s h4, eq_text, nl_seal, nl_extract, Nat.sub_zero, List.drop_zero]
  refine decide_eq_decide.2 (Iff.trans ?_ h)
  constructor
  · intro e
    have e2 : (nl s).take (s.size - 4) ++ (nl s).drop (s.size - 4) = (nl s).take (s.size - 4) ++ CrcM.bytes (CrcM.upd 0 ((nl s).take (s.size - 4))) := by
      rw [List.take_append_drop]; exact e
    exact (List.append_cancel_left e2).symm
  · intro e
    rw [e, List.take_append_drop]
set_option maxRecDepth 100000 in
theorem ref_right (s : ByteArray) (w : World) (hs : s.size ≤ maxLen) (h4 : 4 ≤ s.size) :
    Calls Try.prog 54 #[.string s] w fun e w' => e = .returned (.bool (rightB s)) ∧ Below w.heap.size w w' := by
  have hS := Lib.hid (right_same s h4)
  unfold maxLen at hs
  have hex : (s.extract 0 (s.size - 4)).size + 4 ≤ maxLen := by simp [maxLen]; omega
  have hd : decide ((4 : Int) ≤ (s.size : Int)) = true := by simp; omega
  have hd2 : ((s.size : Int) - 4) = ((s.size - 4 : Nat) : Int) := by omega
  have hle : s.size - 4 ≤ s.size := by omega
  generalize s.size - 4 = n at *
  go_enter Try.func54, Try.ntmps54
  go_wp2_with fail
  refine (ref_seal (s.extract 0 n) _ hex).mono ?_
  rintro e w2 ⟨rfl, hb2⟩
  go_wp2
  go_ret
  exact ⟨by rw [← hS.out]; rfl, hb2⟩
set_option maxRecDepth 100000 in
theorem ref_right_short (s : ByteArray) (w : World) (h4 : s.size < 4) :
    Calls Try.prog 54 #[.string s] w fun e w' => e = .returned (.bool false) ∧ Below w.heap.size w w' := by
  have hd : decide ((4 : Int) ≤ (s.size : Int)) = false := by simp; omega
  go_enter Try.func54, Try.ntmps54
  go_wp2
  go_ret
  exact ⟨rfl, Below.refl _ _⟩
set_option maxRecDepth 100000 in
theorem crc_right_short (s : ByteArray) (w : World) (h4 : s.size < 4) :
    Calls Try.prog 24 #[.string s] w fun e w' => e = .returned (.bool false) ∧ Below w.heap.size w w' := by
  have hd : decide ((0 : Int) ≤ (s.size : Int) - 4) = false := by simp; omega
  have hd2 : decide ((4 : Int) ≤ (s.size : Int)) = false := by simp; omega
  go_enter Try.func24, Try.ntmps24
  go_wp2_with fail
  refine wp_region_any (by kernel_rfl) ?_
  (try (change wpAny _ _ _ _ _ _ _ (World.drew _)))
  refine wpAny_take (i := 0) (v := ?_) rfl (by kernel_rfl) (by kernel_rfl) (by kernel_rfl) (fun _ _ _ h => h) (Or.inl ⟨by kernel_rfl, ?_⟩) ?_
  rotate_left
  · intro w; go_simp; with_reducible rfl
  refine wpAny_take (i := 1) (v := ?_) rfl (by kernel_rfl) (by kernel_rfl) (by kernel_rfl) (fun _ _ _ h => h) (Or.inl ⟨by kernel_rfl, ?_⟩) ?_
  rotate_left
  · intro w; go_simp; with_reducible rfl
  refine wpAny_take (i := 2) (v := ?_) rfl (by kernel_rfl) (by kernel_rfl) (by kernel_rfl) (fun _ _ _ h => h) (Or.inl ⟨by kernel_rfl, ?_⟩) ?_
  rotate_left
  · intro w; go_simp; with_reducible rfl
  refine wpAny_take (i := 3) (v := undef) rfl (by kernel_rfl) (by kernel_rfl) (by kernel_rfl) (fun _ _ _ h => h) (Or.inr ⟨by kernel_rfl, rfl⟩) ?_
  refine wpAny_take (i := 4) (v := undef) rfl (by kernel_rfl) (by kernel_rfl) (by kernel_rfl) (fun _ _ _ h => h) (Or.inr ⟨by kernel_rfl, rfl⟩) ?_
  refine wpAny_take (i := 5) (v := undef) rfl (by kernel_rfl) (by kernel_rfl) (by kernel_rfl) (fun _ _ _ h => h) (Or.inr ⟨by kernel_rfl, rfl⟩) ?_
  refine wpAny_take (i := 6) (v := undef) rfl (by kernel_rfl) (by kernel_rfl) (by kernel_rfl) (fun _ _ _ h => h) (Or.inr ⟨by kernel_rfl, rfl⟩) ?_
  refine wpAny_take (i := 7) (v := undef) rfl (by kernel_rfl) (by kernel_rfl) (by kernel_rfl) (fun _ _ _ h => h) (Or.inr ⟨by kernel_rfl, rfl⟩) ?_
  refine wpAny_take (i := 8) (v := undef) rfl (by kernel_rfl) (by kernel_rfl) (by kernel_rfl) (fun _ _ _ h => h) (Or.inr ⟨by kernel_rfl, rfl⟩) ?_
  refine wpAny_take (i := 9) (v := undef) rfl (by kernel_rfl) (by kernel_rfl) (by kernel_rfl) (fun _ _ _ h => h) (Or.inr ⟨by kernel_rfl, rfl⟩) ?_
  refine wpAny_take (i := 10) (v := undef) rfl (by kernel_rfl) (by kernel_rfl) (by kernel_rfl) (fun _ _ _ h => h) (Or.inr ⟨by kernel_rfl, rfl⟩) ?_
  refine wpAny_take (i := 11) (v := undef) rfl (by kernel_rfl) (by kernel_rfl) (by kernel_rfl) (fun _ _ _ h => h) (Or.inr ⟨by kernel_rfl, rfl⟩) ?_
  refine wpAny_take (i := 12) (v := undef) rfl (by kernel_rfl) (by kernel_rfl) (by kernel_rfl) (fun _ _ _ h => h) (Or.inr ⟨by kernel_rfl, rfl⟩) ?_
  refine wpAny_take (i := 13) (v := ?_) rfl (by kernel_rfl) (by kernel_rfl) (by kernel_rfl) (fun _ _ _ h => h) (Or.inl ⟨by kernel_rfl, ?_⟩) ?_
  rotate_left
  · intro w; go_simp; with_reducible rfl
  refine wpAny_ready (rs := [14]) (by kernel_rfl) (by simp) ?_
  refine AllReady.cons rfl (fun K hK => ?_) AllReady.nil
  go_simp
  (first | (refine hK _ _ ?_; clear hK K) | skip)
  refine wpAny_done (by kernel_rfl) ?_ _
  go_wp2
  go_ret
  exact ⟨rfl, (Below.refl _ _).drew⟩
end Go.Proofs.Ytfbjfleagilikaa
