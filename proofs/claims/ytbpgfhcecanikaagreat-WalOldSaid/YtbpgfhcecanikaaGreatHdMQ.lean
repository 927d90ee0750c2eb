/- Merged: CrcSeal, CrcLawM, CrcRef, RefNum, HdM. Contracts of crc.Seal, crc.Right; condition: lengths are ints. What the laws of crc lean on: texts as lists of numbers. No condition. Contracts of the document's crc (carrackref02). No condition but that numbers fit and lengths are ints. Contract of carrackref03.Bytes: a number by so many bytes. Condition: eight bytes at most. Plain mathematics of a head's sector. No condition but sizes. -/
import Derived.Deep.RegionWith
import Derived.Test.YtbpgfhcecanikaaGreatCrcSumQ
import Derived.Lib.Strings
import Derived.WalkSpells
import Derived.Test.YtbpgfhcecanikaaGreatWireTextQ
import Derived.Lib.Repeat
namespace Go.Proofs.YtbpgfhcecanikaaGreat
open Go.RowKit
theorem crc_sum1 (b : Nat) (s : ByteArray) (w : World) (hb : b < w.heap.size) (hs : s.size ≤ maxLen) (hc : w.cell? ⟨b, 0, none⟩ = some (.string s)) :
    Calls Tryz.prog 90 #[.slice (some ⟨b, 0, none⟩) 1 1] w fun e w' => e = .returned (.int .u32 ((CrcM.upd 0 (nl s) : Nat) : Int)) ∧ Below w.heap.size w w' :=
  crc_sum b 1 [s] w hb (by simp [maxLen]) (by simpa using hs) (fun j h => by
    have : j = 0 := by simpa using h
    subst this; exact hc)
theorem crc_sum2 (b : Nat) (s t : ByteArray) (w : World) (hb : b < w.heap.size) (hs : s.size ≤ maxLen) (ht : t.size ≤ maxLen) (hc : w.cell? ⟨b, 0, none⟩ = some (.string s)) (hd : w.cell? ⟨b, 1, none⟩ = some (.string t)) :
    Calls Tryz.prog 90 #[.slice (some ⟨b, 0, none⟩) 2 2] w fun e w' => e = .returned (.int .u32 ((CrcM.upd (CrcM.upd 0 (nl s)) (nl t) : Nat) : Int)) ∧ Below w.heap.size w w' :=
  crc_sum b 2 [s, t] w hb (by simp [maxLen]) (by simp [hs, ht]) (fun j h => by
    have : j = 0 ∨ j = 1 := by simp at h; omega
    rcases this with rfl | rfl
    · exact hc
    · exact hd)
def sealT (s : ByteArray) : ByteArray := s ++ txt (CrcM.bytes (CrcM.upd 0 (nl s)))
set_option maxRecDepth 100000 in
theorem crc_seal (s : ByteArray) (w : World) (hs : s.size + 4 ≤ maxLen) :
    Calls Tryz.prog 68 #[.string s] w fun e w' => e = .returned (.string (sealT s)) ∧ Below w.heap.size w w' := by
  unfold maxLen at hs
  have hs' : s.size ≤ maxLen := by unfold maxLen; omega
  have hlen : ¬ 9223372036854775807 < s.size + (txt (CrcM.bytes (CrcM.upd 0 (nl s)))).size := by rw [txt_size, CrcM.bytes_length]; omega
  go_enter Tryz.func68, Tryz.ntmps68
  go_wp2_with fail
  refine (crc_sum1 _ s _ (by simp) hs' (by simp)).mono ?_
  rintro e w1 ⟨rfl, hb1⟩
  go_wp2_with fail
  refine (crc_bytes _ _).mono ?_
  rintro e w2 ⟨rfl, hb2⟩
  go_wp2
  go_ret
  have hs1 := hb1.size
  simp only [World.size_alloc] at hs1
  exact ⟨rfl, ((Kq.below_alloc _ _).trans (hb1.mono (by simp))).trans (hb2.mono (by omega))⟩
/-- is a text sealed? as the code asks -/
def rightB (s : ByteArray) : Bool := (txt (CrcM.bytes (CrcM.upd 0 (nl (s.extract 0 (s.size - 4)))))).toList == (s.extract (s.size - 4) s.size).toList
set_option maxRecDepth 100000 in
set_option maxHeartbeats 400000 in
theorem crc_right (s : ByteArray) (w : World) (hs : s.size ≤ maxLen) (h4 : 4 ≤ s.size) :
    Calls Tryz.prog 97 #[.string s] w fun e w' => e = .returned (.bool (rightB s)) ∧ Below w.heap.size w w' := by
  unfold maxLen at hs
  go_enter Tryz.func97, Tryz.ntmps97
  go_wp2_with fail
  rw [show ((s.size : Int) - 4) = ((s.size - 4 : Nat) : Int) from by omega]
  have hle : s.size - 4 ≤ s.size := by omega
  have hex : (s.extract 0 (s.size - 4)).size ≤ maxLen := by simp [maxLen]; omega
  have hR : Hid (rightB s = ((txt (CrcM.bytes (CrcM.upd 0 (nl (s.extract 0 (s.size - 4)))))).toList == (s.extract (s.size - 4) s.size).toList)) := Lib.hid rfl
  generalize s.size - 4 = n at *
  have hd : decide ((0 : Int) ≤ (n : Int)) = true := by simp
  refine wp_region_any (by kernel_rfl) ?_
  (try (change wpAny _ _ _ _ _ _ _ (World.drew _)))
  refine wpAny_take (i := 0) (v := ?_) rfl (by kernel_rfl) (by kernel_rfl) (by kernel_rfl) (fun _ _ _ h => h) (Or.inl ⟨by kernel_rfl, ?_⟩) ?_
  rotate_left
  · intro w; go_simp; with_reducible rfl
  refine wpAny_take (i := 1) (v := ?_) rfl (by kernel_rfl) (by kernel_rfl) (by kernel_rfl) (fun _ _ _ h => h) (Or.inl ⟨by kernel_rfl, ?_⟩) ?_
  rotate_left
  · intro w; go_simp; with_reducible rfl
  refine wpAny_take (i := 2) (v := ?_) rfl (by kernel_rfl) (by kernel_rfl) (by kernel_rfl) (fun _ _ _ h => h) (Or.inl ⟨by kernel_rfl, ?_⟩) ?_
  rotate_left
  · intro w; go_simp; with_reducible rfl
  refine wpAny_take (i := 3) (v := ?_) rfl (by kernel_rfl) (by kernel_rfl) (by kernel_rfl) (fun _ _ _ h => h) (Or.inl ⟨by kernel_rfl, ?_⟩) ?_
  rotate_left
  · intro w; go_simp; with_reducible rfl
  refine wpAny_take (i := 4) (v := ?_) rfl (by kernel_rfl) (by kernel_rfl) (by kernel_rfl) (fun _ _ _ h => h) (Or.inl ⟨by kernel_rfl, ?_⟩) ?_
  rotate_left
  · intro w; go_simp; with_reducible rfl
  refine wpAny_take (i := 5) (v := ?_) rfl (by kernel_rfl) (by kernel_rfl) (by kernel_rfl) (fun _ _ _ h => h) (Or.inl ⟨by kernel_rfl, ?_⟩) ?_
  rotate_left
  · intro w; go_simp; with_reducible rfl
  refine wpAny_take (i := 9) (v := ?_) rfl (by kernel_rfl) (by kernel_rfl) (by kernel_rfl) (fun _ _ _ h => h) (Or.inl ⟨by kernel_rfl, ?_⟩) ?_
  rotate_left
  · intro w; go_simp; with_reducible rfl
  refine wpAny_take (i := 10) (v := ?_) rfl (by kernel_rfl) (by kernel_rfl) (by kernel_rfl) (fun _ _ _ h => h) (Or.inl ⟨by kernel_rfl, ?_⟩) ?_
  rotate_left
  · intro w; go_simp; with_reducible rfl
  refine wpAny_take (i := 11) (v := ?_) rfl (by kernel_rfl) (by kernel_rfl) (by kernel_rfl) (fun _ _ _ h => h) (Or.inl ⟨by kernel_rfl, ?_⟩) ?_
  rotate_left
  · intro w; go_simp; with_reducible rfl
  refine wpAny_ready (rs := [6]) (by kernel_rfl) (by simp) ?_
  refine AllReady.cons rfl (fun K hK => ?_) AllReady.nil
  go_simp
  (first | (refine hK _ _ ?_; clear hK K) | skip)
  refine wpAny_ready (rs := [7]) (by kernel_rfl) (by simp) ?_
  refine AllReady.cons rfl (fun K hK => ?_) AllReady.nil
  go_simp
  go_wp2_with (go_at_call 90; refine (crc_sum1 _ (s.extract 0 n) _ (by show w.heap.size < (w.alloc _).heap.size; simp) hex (by show (w.alloc _).cell? _ = _; simp)).mono ?_; rintro e w1 ⟨rfl, hb1⟩)
  (first | (refine hK _ _ ?_; clear hK K) | skip)
  refine wpAny_ready (rs := [8]) (by kernel_rfl) (by simp) ?_
  refine AllReady.cons rfl (fun K hK => ?_) AllReady.nil
  go_simp
  go_wp2_with (go_at_call 89; refine (crc_bytes _ _).mono ?_; rintro e w2 ⟨rfl, hb2⟩)
  (first | (refine hK _ _ ?_; clear hK K) | skip)
  refine wpAny_take (i := 12) (v := ?_) rfl (by kernel_rfl) (by kernel_rfl) (by kernel_rfl) (fun _ _ _ h => h) (Or.inl ⟨by kernel_rfl, ?_⟩) ?_
  rotate_left
  · intro w; go_simp; with_reducible rfl
  refine wpAny_take (i := 13) (v := ?_) rfl (by kernel_rfl) (by kernel_rfl) (by kernel_rfl) (fun _ _ _ h => h) (Or.inl ⟨by kernel_rfl, ?_⟩) ?_
  rotate_left
  · intro w; go_simp; with_reducible rfl
  refine wpAny_ready (rs := [14]) (by kernel_rfl) (by simp) ?_
  refine AllReady.cons rfl (fun K hK => ?_) AllReady.nil
  go_simp
  (first | (refine hK _ _ ?_; clear hK K) | skip)
  refine wpAny_done (by kernel_rfl) ?_ _
  go_wp2
  go_ret
  have hs1 := hb1.size
  have e1 : (w.alloc (Obj.cells #[Value.string (s.extract 0 n)] 9)).drew.heap.size = w.heap.size + 1 := by show (w.alloc _).heap.size = _; simp
  rw [e1] at hs1 hb1
  exact ⟨by rw [hR.out]; rfl, ((Kq.below_alloc _ _).drew.trans (hb1.mono (by omega))).trans (hb2.mono (by omega))⟩
end Go.Proofs.YtbpgfhcecanikaaGreat
namespace Go.Proofs.YtbpgfhcecanikaaGreat
open Go.RowKit
theorem nl_bytes (x : Nat) : nl (txt (CrcM.bytes x)) = CrcM.bytes x := nl_txt _ (CrcM.bytes_lt _)
theorem nl_seal (s : ByteArray) : nl (sealT s) = nl s ++ CrcM.bytes (CrcM.upd 0 (nl s)) := by
  rw [sealT, nl_append, nl_bytes]
theorem seal_size (s : ByteArray) : (sealT s).size = s.size + 4 := by
  rw [← nl_length, nl_seal, List.length_append, nl_length, CrcM.bytes_length]
theorem seal_max (s : ByteArray) (h : s.size ≤ 2000) : (sealT s).size ≤ maxLen := by rw [seal_size]; unfold maxLen; omega
theorem small_max (s : ByteArray) (h : s.size ≤ 2000) : s.size + 4 ≤ maxLen := by unfold maxLen; omega
theorem right_iff (s : ByteArray) (h4 : 4 ≤ s.size) : rightB s = decide (CrcM.over 4294967295 (nl s) = CrcM.residue) := by
  have h := CrcM.right_iff (nl s) (nl_lt s) (by rw [nl_length]; exact h4)
  rw [nl_length] at h
  rw [rightB, eq_text, nl_bytes, nl_extract, nl_extract, Nat.sub_zero, List.drop_zero]
  rw [List.take_of_length_le (i := s.size - (s.size - 4)) (by rw [List.length_drop, nl_length]; exact Nat.le_refl _)]
  exact decide_eq_decide.2 h
theorem right_seal (s : ByteArray) : rightB (sealT s) = true := by
  rw [right_iff _ (by rw [seal_size]; omega), nl_seal]
  exact decide_eq_true (CrcM.over_seal _ (nl_lt s))
theorem upd_sealT (s : ByteArray) : CrcM.upd 0 (nl (sealT s)) = CrcM.cpl CrcM.residue := by
  rw [nl_seal, CrcM.upd_seal _ (nl_lt s)]
end Go.Proofs.YtbpgfhcecanikaaGreat
namespace Go.Proofs.YtbpgfhcecanikaaGreat
open Go.RowKit
set_option linter.unusedVariables false
theorem step_odd (x : Nat) (hx : x < CrcM.M) (h : x % 2 = 1) : bits .xor .u32 ((x : Int) / 2) 3988292384 = ((CrcM.step x : Nat) : Int) := by
  have h2 : (x : Int) / 2 = ((x / 2 : Nat) : Int) := by omega
  have := u32_xor_nat (x / 2) 3988292384 (by unfold CrcM.M at hx; omega) (by decide)
  rw [h2]
  unfold CrcM.step
  rw [if_pos h]
  exact this
theorem step_even (x : Nat) (h : ¬ x % 2 = 1) : (x : Int) / 2 = ((CrcM.step x : Nat) : Int) := by
  unfold CrcM.step
  rw [if_neg h, Nat.xor_zero]; omega
set_option maxRecDepth 100000 in
theorem ref_step (x : Nat) (w : World) (hx : x < CrcM.M) : Calls Tryz.prog 129 #[.int .u32 (x : Int)] w fun e w' => e = .returned (.int .u32 ((CrcM.step x : Nat) : Int)) ∧ w = w' := by
  have hX := Lib.hid hx
  clear hx
  by_cases h : x % 2 = 1
  · have ht : ((x : Int) % 2 == 1) = true := by rw [beq_iff_eq]; omega
    have hs := step_odd x hX.out h
    have hm : (x : Int) / 2 % 4294967296 = (x : Int) / 2 := by have := hX.out; unfold CrcM.M at this; omega
    go_enter Tryz.func129, Tryz.ntmps129
    go_wp2
    go_ret
    exact ⟨rfl, rfl⟩
  · have ht : ((x : Int) % 2 == 1) = false := by rw [beq_eq_false_iff_ne]; omega
    have hs := step_even x h
    have hm : ((CrcM.step x : Nat) : Int) % 4294967296 = ((CrcM.step x : Nat) : Int) := by have := CrcM.step_lt hX.out; unfold CrcM.M at this; omega
    clear h
    go_enter Tryz.func129, Tryz.ntmps129
    go_wp2
    go_ret
    exact ⟨rfl, rfl⟩
theorem over_succ8 (x : Nat) (s : ByteArray) (k : Nat) (h : k < s.size) : CrcM.over x ((nl s).take (k + 1)) = CrcM.steps 8 (CrcM.over x ((nl s).take k) ^^^ s[k].toNat) := by
  rw [take_succ_nl s k h, CrcM.over_append, CrcM.over_cons, CrcM.over_nil]
theorem steps_snoc (n x : Nat) : CrcM.steps (n + 1) x = CrcM.step (CrcM.steps n x) := CrcM.steps_add n 1 x
set_option maxRecDepth 100000 in
set_option maxHeartbeats 400000 in
theorem ref_over (x : Nat) (s : ByteArray) (w : World) (hx : x < CrcM.M) (hs : s.size ≤ maxLen) :
    Calls Tryz.prog 125 #[.int .u32 (x : Int), .string s] w fun e w' => e = .returned (.int .u32 ((CrcM.over x (nl s) : Nat) : Int)) ∧ w = w' := by
  unfold maxLen at hs
  have hX := Lib.hid hx
  clear hx
  go_enter Tryz.func125, Tryz.ntmps125
  go_wp2
  go_loop [0, 5] (fun y j => ∃ k : Nat, k ≤ s.size ∧ j = .int .i64 k ∧ y = .int .u32 (CrcM.over x ((nl s).take k) : Nat)) (fun _ j => s.size - (intOf j).toNat)
  case atStart => exact ⟨0, by omega, rfl, by simp [CrcM.over]⟩
  case round =>
    obtain ⟨k, hk, rfl, rfl⟩ := hrel
    by_cases hlt : k < s.size
    · have hYlt := CrcM.over_lt hX.out ((nl s).take k) (fun b hb => nl_lt s b (List.mem_of_mem_take hb))
      have hS := Lib.hid (over_succ8 x s k hlt)
      obtain ⟨Y, hY⟩ : ∃ Y, Y = CrcM.over x ((nl s).take k) := ⟨_, rfl⟩
      rw [← hY] at hYlt hS ⊢
      clear hY
      obtain ⟨y, hy⟩ : ∃ y, y = Y ^^^ s[k].toNat := ⟨_, rfl⟩
      have hyM := Lib.hid (show y < CrcM.M by rw [hy]; exact byte_xor_lt Y _ hYlt)
      have hb0 := byte_u32 s[k]
      have hx1 := byte_xor Y s[k] hYlt
      rw [← hy] at hx1 hS
      clear hy hYlt
      go_wp2
      go_loop [0, 6] (fun z j => ∃ m : Nat, m ≤ 8 ∧ j = .int .i64 m ∧ z = .int .u32 (CrcM.steps m y : Nat)) (fun _ j => 8 - (intOf j).toNat)
      case atStart => exact ⟨0, by omega, rfl, rfl⟩
      case round =>
        obtain ⟨m, hm, rfl, rfl⟩ := hrel
        have hst := Lib.hid (steps_snoc m y)
        have hlt8 := Lib.hid (CrcM.steps_lt (n := m) hyM.out)
        by_cases hlt2 : m < 8
        · go_wp2_with fail
          refine (ref_step _ _ hlt8.out).mono ?_
          rintro e w2 ⟨rfl, rfl⟩
          go_wp2
          go_round
          case rel => exact ⟨m + 1, by omega, by go_num, by rw [hst.out]⟩
          case measure => simp [intOf]; omega
        · have hm8 : m = 8 := Nat.le_antisymm hm (Nat.not_lt.1 hlt2)
          subst hm8
          go_wp2
          go_round
          case rel => exact ⟨k + 1, by omega, by go_num, by rw [hS.out]⟩
          case measure => simp [intOf]; omega
    · have hk' : k = s.size := Nat.le_antisymm hk (Nat.not_lt.1 hlt)
      subst hk'
      have hT : (nl s).take s.size = nl s := List.take_of_length_le (by rw [nl_length]; exact Nat.le_refl _)
      rw [hT]
      go_wp2
      go_ret
      exact ⟨rfl, rfl⟩
theorem cpl_int (x : Nat) (hx : x < CrcM.M) : (4294967295 - (x : Int)) % 4294967296 = ((CrcM.cpl x : Nat) : Int) := by
  unfold CrcM.cpl CrcM.M at *; omega
set_option maxRecDepth 100000 in
theorem ref_update (x : Nat) (s : ByteArray) (w : World) (hx : x < CrcM.M) (hs : s.size ≤ maxLen) :
    Calls Tryz.prog 115 #[.int .u32 (x : Int), .string s] w fun e w' => e = .returned (.int .u32 ((CrcM.upd x (nl s) : Nat) : Int)) ∧ w = w' := by
  have h1 := cpl_int x hx
  have h2 := cpl_int _ (CrcM.over_lt (CrcM.cpl_lt x) (nl s) (nl_lt s))
  have hU : Hid (CrcM.upd x (nl s) = CrcM.cpl (CrcM.over (CrcM.cpl x) (nl s))) := Lib.hid rfl
  clear hx
  go_enter Tryz.func115, Tryz.ntmps115
  go_wp2_with fail
  refine (ref_over (CrcM.cpl x) s _ (CrcM.cpl_lt x) hs).mono ?_
  rintro e w2 ⟨rfl, rfl⟩
  go_wp2
  go_ret
  exact ⟨by rw [hU.out, ← h2]; rfl, rfl⟩
set_option maxRecDepth 100000 in
theorem ref_sum (s : ByteArray) (w : World) (hs : s.size ≤ maxLen) :
    Calls Tryz.prog 96 #[.string s] w fun e w' => e = .returned (.int .u32 ((CrcM.upd 0 (nl s) : Nat) : Int)) ∧ w = w' := by
  go_enter Tryz.func96, Tryz.ntmps96
  go_wp2_with fail
  refine (ref_update 0 s _ (by decide) hs).mono ?_
  rintro e w2 ⟨rfl, rfl⟩
  go_wp2
  go_ret
  exact ⟨rfl, rfl⟩
set_option maxRecDepth 100000 in
theorem ref_bytes (x : Nat) (w : World) : Calls Tryz.prog 95 #[.int .u32 (x : Int)] w fun e w' => e = .returned (.string (txt (CrcM.bytes x))) ∧ Below w.heap.size w w' := by
  have hcv := Kq.conv_bytes (P := Tryz.prog) (w.alloc (Obj.cells #[Value.int IntKind.u8 ((x : Int) % 256), Value.int IntKind.u8 ((x : Int) / 256 % 256), Value.int IntKind.u8 ((x : Int) / 65536 % 256), Value.int IntKind.u8 ((x : Int) / 16777216 % 256)] 5))
    (src := 64) (dst := 9) ⟨w.heap.size, 0, none⟩ ((CrcM.bytes x).map UInt8.ofNat) 4 Tryz.underlying64 Tryz.underlying5 Tryz.underlying9
    (fun j v hj => Kq.cell_new _ _ _ (by
      rw [← hj, ← List.getElem?_toArray]
      congr 1
      simp [CrcM.bytes]))
  simp only [List.length_map, CrcM.bytes_length] at hcv
  go_enter Tryz.func95, Tryz.ntmps95
  go_wp2
  go_ret
  exact ⟨rfl, Kq.below_alloc _ _⟩
set_option maxRecDepth 100000 in
theorem ref_seal (s : ByteArray) (w : World) (hs : s.size + 4 ≤ maxLen) :
    Calls Tryz.prog 78 #[.string s] w fun e w' => e = .returned (.string (sealT s)) ∧ Below w.heap.size w w' := by
  unfold maxLen at hs
  have hs' : s.size ≤ maxLen := by unfold maxLen; omega
  have hlen : ¬ 9223372036854775807 < s.size + (txt (CrcM.bytes (CrcM.upd 0 (nl s)))).size := by rw [txt_size, CrcM.bytes_length]; omega
  go_enter Tryz.func78, Tryz.ntmps78
  go_wp2_with fail
  refine (ref_sum s _ hs').mono ?_
  rintro e w1 ⟨rfl, rfl⟩
  go_wp2_with fail
  refine (ref_bytes _ _).mono ?_
  rintro e w2 ⟨rfl, hb2⟩
  go_wp2
  go_ret
  exact ⟨rfl, hb2⟩
theorem right_same (s : ByteArray) (h4 : 4 ≤ s.size) : (s.toList == (sealT (s.extract 0 (s.size - 4))).toList) = rightB s := by
  have h := CrcM.right_iff (nl s) (nl_lt s) (by rw [nl_length]; exact h4)
  rw [nl_length] at h
  rw [right_iff s h4, eq_text, nl_seal, nl_extract, Nat.sub_zero, List.drop_zero]
  refine decide_eq_decide.2 (Iff.trans ?_ h)
  constructor
  · intro e
    have e2 : (nl s).take (s.size - 4) ++ (nl s).drop (s.size - 4) = (nl s).take (s.size - 4) ++ CrcM.bytes (CrcM.upd 0 ((nl s).take (s.size - 4))) := by
      rw [List.take_append_drop]; exact e
    exact (List.append_cancel_left e2).symm
  · intro e
    rw [e, List.take_append_drop]
set_option maxRecDepth 100000 in
theorem ref_right (s : ByteArray) (w : World) (hs : s.size ≤ maxLen) (h4 : 4 ≤ s.size) :
    Calls Tryz.prog 112 #[.string s] w fun e w' => e = .returned (.bool (rightB s)) ∧ Below w.heap.size w w' := by
  have hS := Lib.hid (right_same s h4)
  unfold maxLen at hs
  have hex : (s.extract 0 (s.size - 4)).size + 4 ≤ maxLen := by simp [maxLen]; omega
  have hd : decide ((4 : Int) ≤ (s.size : Int)) = true := by simp; omega
  have hd2 : ((s.size : Int) - 4) = ((s.size - 4 : Nat) : Int) := by omega
  have hle : s.size - 4 ≤ s.size := by omega
  generalize s.size - 4 = n at *
  go_enter Tryz.func112, Tryz.ntmps112
  go_wp2_with fail
  refine (ref_seal (s.extract 0 n) _ hex).mono ?_
  rintro e w2 ⟨rfl, hb2⟩
  go_wp2
  go_ret
  exact ⟨by rw [← hS.out]; rfl, hb2⟩
set_option maxRecDepth 100000 in
theorem ref_right_short (s : ByteArray) (w : World) (h4 : s.size < 4) :
    Calls Tryz.prog 112 #[.string s] w fun e w' => e = .returned (.bool false) ∧ Below w.heap.size w w' := by
  have hd : decide ((4 : Int) ≤ (s.size : Int)) = false := by simp; omega
  go_enter Tryz.func112, Tryz.ntmps112
  go_wp2
  go_ret
  exact ⟨rfl, Below.refl _ _⟩
set_option maxRecDepth 100000 in
theorem crc_right_short (s : ByteArray) (w : World) (h4 : s.size < 4) :
    Calls Tryz.prog 97 #[.string s] w fun e w' => e = .returned (.bool false) ∧ Below w.heap.size w w' := by
  have hd : decide ((0 : Int) ≤ (s.size : Int) - 4) = false := by simp; omega
  have hd2 : decide ((4 : Int) ≤ (s.size : Int)) = false := by simp; omega
  go_enter Tryz.func97, Tryz.ntmps97
  go_wp2_with fail
  refine wp_region_any (by kernel_rfl) ?_
  (try (change wpAny _ _ _ _ _ _ _ (World.drew _)))
  refine wpAny_take (i := 0) (v := ?_) rfl (by kernel_rfl) (by kernel_rfl) (by kernel_rfl) (fun _ _ _ h => h) (Or.inl ⟨by kernel_rfl, ?_⟩) ?_
  rotate_left
  · intro w; go_simp; with_reducible rfl
  refine wpAny_take (i := 1) (v := ?_) rfl (by kernel_rfl) (by kernel_rfl) (by kernel_rfl) (fun _ _ _ h => h) (Or.inl ⟨by kernel_rfl, ?_⟩) ?_
  rotate_left
  · intro w; go_simp; with_reducible rfl
  refine wpAny_take (i := 2) (v := ?_) rfl (by kernel_rfl) (by kernel_rfl) (by kernel_rfl) (fun _ _ _ h => h) (Or.inl ⟨by kernel_rfl, ?_⟩) ?_
  rotate_left
  · intro w; go_simp; with_reducible rfl
  refine wpAny_take (i := 3) (v := undef) rfl (by kernel_rfl) (by kernel_rfl) (by kernel_rfl) (fun _ _ _ h => h) (Or.inr ⟨by kernel_rfl, rfl⟩) ?_
  refine wpAny_take (i := 4) (v := undef) rfl (by kernel_rfl) (by kernel_rfl) (by kernel_rfl) (fun _ _ _ h => h) (Or.inr ⟨by kernel_rfl, rfl⟩) ?_
  refine wpAny_take (i := 5) (v := undef) rfl (by kernel_rfl) (by kernel_rfl) (by kernel_rfl) (fun _ _ _ h => h) (Or.inr ⟨by kernel_rfl, rfl⟩) ?_
  refine wpAny_take (i := 6) (v := undef) rfl (by kernel_rfl) (by kernel_rfl) (by kernel_rfl) (fun _ _ _ h => h) (Or.inr ⟨by kernel_rfl, rfl⟩) ?_
  refine wpAny_take (i := 7) (v := undef) rfl (by kernel_rfl) (by kernel_rfl) (by kernel_rfl) (fun _ _ _ h => h) (Or.inr ⟨by kernel_rfl, rfl⟩) ?_
  refine wpAny_take (i := 8) (v := undef) rfl (by kernel_rfl) (by kernel_rfl) (by kernel_rfl) (fun _ _ _ h => h) (Or.inr ⟨by kernel_rfl, rfl⟩) ?_
  refine wpAny_take (i := 9) (v := undef) rfl (by kernel_rfl) (by kernel_rfl) (by kernel_rfl) (fun _ _ _ h => h) (Or.inr ⟨by kernel_rfl, rfl⟩) ?_
  refine wpAny_take (i := 10) (v := undef) rfl (by kernel_rfl) (by kernel_rfl) (by kernel_rfl) (fun _ _ _ h => h) (Or.inr ⟨by kernel_rfl, rfl⟩) ?_
  refine wpAny_take (i := 11) (v := undef) rfl (by kernel_rfl) (by kernel_rfl) (by kernel_rfl) (fun _ _ _ h => h) (Or.inr ⟨by kernel_rfl, rfl⟩) ?_
  refine wpAny_take (i := 12) (v := undef) rfl (by kernel_rfl) (by kernel_rfl) (by kernel_rfl) (fun _ _ _ h => h) (Or.inr ⟨by kernel_rfl, rfl⟩) ?_
  refine wpAny_take (i := 13) (v := ?_) rfl (by kernel_rfl) (by kernel_rfl) (by kernel_rfl) (fun _ _ _ h => h) (Or.inl ⟨by kernel_rfl, ?_⟩) ?_
  rotate_left
  · intro w; go_simp; with_reducible rfl
  refine wpAny_ready (rs := [14]) (by kernel_rfl) (by simp) ?_
  refine AllReady.cons rfl (fun K hK => ?_) AllReady.nil
  go_simp
  (first | (refine hK _ _ ?_; clear hK K) | skip)
  refine wpAny_done (by kernel_rfl) ?_ _
  go_wp2
  go_ret
  exact ⟨rfl, (Below.refl _ _).drew⟩
end Go.Proofs.YtbpgfhcecanikaaGreat
namespace Go.Proofs.YtbpgfhcecanikaaGreat
open Go.RowKit
set_option linter.unusedVariables false
theorem val_num8 (n : Nat) (h : n < M64) : WireM.val (num8 n) = n := by
  unfold M64 at h
  simp only [WireM.val, num8, List.foldl_cons, List.foldl_nil]
  omega
theorem val_hi2 (n : Nat) : WireM.val (hi2 n) = n := by
  simp only [WireM.val, hi2, List.foldl_cons, List.foldl_nil]
  omega
theorem val_one (n : Nat) : WireM.val [n] = n := by simp [WireM.val]
end Go.Proofs.YtbpgfhcecanikaaGreat
namespace Go.Proofs.YtbpgfhcecanikaaGreat
open Go.RowKit
set_option linter.unusedVariables false
structure HdOk (a : Int) (g : Nat) (sg : Int) : Prop where
  a0 : 64 ≤ a
  a1 : a ≤ 512
  g0 : 0 < g
  s0 : 0 ≤ sg
  s1 : sg ≤ 1
def hdBody (a g sg : Nat) : List Nat := (([72] ++ num8 g) ++ [sg]) ++ List.replicate (a - 14) 0
def hdPut (a g sg : Nat) : ByteArray := sealT (txt (hdBody a g sg))
theorem num8_length (g : Nat) : (num8 g).length = 8 := rfl
theorem hdBody_lt (a g sg : Nat) (h : sg < 256) : ∀ b ∈ hdBody a g sg, b < 256 := by
  intro b hb
  unfold hdBody at hb
  rcases List.mem_append.1 hb with hb | hb
  · rcases List.mem_append.1 hb with hb | hb
    · rcases List.mem_append.1 hb with hb | hb
      · rw [List.mem_singleton.1 hb]; decide
      · exact num8_lt g b hb
    · rw [List.mem_singleton.1 hb]; exact h
  · rw [List.eq_of_mem_replicate hb]; decide
theorem hdBody_length (a g sg : Nat) (h : 14 ≤ a) : (hdBody a g sg).length = a - 4 := by
  unfold hdBody
  simp only [List.length_append, List.length_singleton, num8_length, List.length_replicate]
  omega
theorem hdPut_size (a g sg : Nat) (h : 14 ≤ a) : (hdPut a g sg).size = a := by
  unfold hdPut
  rw [seal_size, txt_size, hdBody_length a g sg h]
  omega
theorem nl_hdPut (a g sg : Nat) (h : sg < 256) : nl (hdPut a g sg) = hdBody a g sg ++ CrcM.bytes (CrcM.upd 0 (hdBody a g sg)) := by
  unfold hdPut
  rw [nl_seal, nl_txt _ (hdBody_lt a g sg h)]
theorem repeat_zero (c : Nat) : (⟨(Lib.repeatL (⟨#[0]⟩ : ByteArray).data.toList c).toArray⟩ : ByteArray) = txt (List.replicate c 0) := by
  have := Lib.repeatL_replicate 0 1 c
  rw [Nat.mul_one] at this
  show (⟨(Lib.repeatL [0] c).toArray⟩ : ByteArray) = _
  rw [show ([0] : List UInt8) = List.replicate 1 0 from rfl, this]
  unfold txt
  rw [List.map_replicate]
  rfl
theorem num8_val (l : List Nat) (h : l.length = 8) (hl : ∀ b ∈ l, b < 256) : num8 (WireM.val l) = l := by
  match l, h with
  | [a, b, c, d, e, f, g, k], _ =>
    have ha := hl a (by simp)
    have hb := hl b (by simp)
    have hc := hl c (by simp)
    have hd := hl d (by simp)
    have he := hl e (by simp)
    have hf := hl f (by simp)
    have hg := hl g (by simp)
    have hk := hl k (by simp)
    simp only [WireM.val, num8, List.foldl_cons, List.foldl_nil, List.cons.injEq, and_true]
    refine ⟨?_, ?_, ?_, ?_, ?_, ?_, ?_, ?_⟩ <;> omega
/-- a sealed text is its body's seal -/
theorem right_take (s : ByteArray) (h4 : 4 ≤ s.size) (hr : rightB s = true) : nl s = (nl s).take (s.size - 4) ++ CrcM.bytes (CrcM.upd 0 ((nl s).take (s.size - 4))) := by
  have h := right_same s h4
  rw [hr, beq_iff_eq] at h
  have e : s = sealT (s.extract 0 (s.size - 4)) := nl_inj (by unfold nl; rw [← Lib.toList_data, ← Lib.toList_data, h])
  have e2 : nl s = nl (sealT (s.extract 0 (s.size - 4))) := congrArg nl e
  rw [nl_seal, nl_extract, List.drop_zero, Nat.sub_zero] at e2
  exact e2
/-- what stands in a sector at a head's places -/
def gOf (s : ByteArray) : Nat := WireM.val (((nl s).drop 1).take 8)
def sOf (s : ByteArray) : Nat := (nl s).getD 9 0
/-- a sector that is right is that of the head that stands in it, just if its first letter, and its last bytes, are so -/
theorem put_iff (a : Nat) (s : ByteArray) (h14 : 14 ≤ a) (hs : s.size = a) (hr : rightB s = true) :
    hdPut a (gOf s) (sOf s) = s ↔ ((nl s).getD 0 0 = 72 ∧ ∀ i, 10 ≤ i → i < a - 4 → (nl s).getD i 0 = 0) := by
  have hl : (nl s).length = a := by rw [nl_length, hs]
  have hlt := nl_lt s
  have hsg : sOf s < 256 := by
    unfold sOf
    rw [List.getD_eq_getElem?_getD, List.getElem?_eq_getElem (by omega)]
    exact hlt _ (List.getElem_mem _)
  have hrt := right_take s (by omega) hr
  rw [hs] at hrt
  have hnum : num8 (gOf s) = ((nl s).drop 1).take 8 := num8_val _ (by simp; omega) (fun b hb => hlt b (List.mem_of_mem_drop (List.mem_of_mem_take hb)))
  have key : hdPut a (gOf s) (sOf s) = s ↔ hdBody a (gOf s) (sOf s) = (nl s).take (a - 4) := by
    constructor
    · intro h
      have h2 := congrArg nl h
      rw [nl_hdPut _ _ _ hsg] at h2
      have h3 := congrArg (List.take (a - 4)) h2
      rwa [List.take_append_of_le_length (by rw [hdBody_length _ _ _ h14]; exact Nat.le_refl _), List.take_of_length_le (by rw [hdBody_length _ _ _ h14]; exact Nat.le_refl _)] at h3
    · intro h
      apply nl_inj
      rw [nl_hdPut _ _ _ hsg, h]
      exact hrt.symm
  rw [key]
  constructor
  · intro h
    have hg : ∀ i, i < a - 4 → (nl s).getD i 0 = (hdBody a (gOf s) (sOf s)).getD i 0 := fun i hi => by
      rw [h, List.getD_eq_getElem?_getD, List.getD_eq_getElem?_getD, List.getElem?_take, if_pos hi]
    refine ⟨by rw [hg 0 (by omega)]; rfl, fun i h1 h2 => ?_⟩
    rw [hg i h2]
    unfold hdBody
    rw [List.getD_eq_getElem?_getD, List.getElem?_append_right (by simp [num8_length]; omega), List.getElem?_replicate]
    split <;> rfl
  · rintro ⟨h0, hz⟩
    apply List.ext_getElem?
    intro i
    by_cases hi : i < a - 4
    · rw [List.getElem?_take, if_pos hi]
      have hgi : (nl s)[i]? = some ((nl s).getD i 0) := by rw [List.getD_eq_getElem?_getD, List.getElem?_eq_getElem (by omega)]; rfl
      rw [hgi]
      unfold hdBody
      by_cases h1 : i < 10
      · rw [List.getElem?_append_left (by simp [num8_length]; omega)]
        rw [hnum]
        have hc : i = 0 ∨ (1 ≤ i ∧ i ≤ 8) ∨ i = 9 := by omega
        have hl8 : (((nl s).drop 1).take 8).length = 8 := by simp; omega
        rcases hc with rfl | ⟨h2, h3⟩ | rfl
        · rw [h0]; rfl
        · rw [List.getElem?_append_left (by rw [List.length_append, hl8, List.length_singleton]; omega), List.getElem?_append_right (by simp; omega), List.getElem?_take, if_pos (by simp; omega), List.getElem?_drop, ← hgi]
          congr 1
          simp; omega
        · rw [List.getElem?_append_right (by rw [List.length_append, hl8]; simp)]
          have e9 : 9 - ([72] ++ ((nl s).drop 1).take 8 : List Nat).length = 0 := by rw [List.length_append, hl8]; rfl
          rw [e9]
          rfl
      · rw [List.getElem?_append_right (by simp [num8_length]; omega), hz i (by omega) hi, List.getElem?_replicate, if_pos (by simp [num8_length]; omega)]
    · rw [List.getElem?_eq_none (by rw [hdBody_length _ _ _ h14]; omega), List.getElem?_eq_none (by simp; omega)]
/-- a head that was put stands at its places -/
theorem gOf_put (a g sg : Nat) (hg : g < M64) (h : sg < 256) : gOf (hdPut a g sg) = g := by
  unfold gOf
  rw [nl_hdPut _ _ _ h]
  generalize CrcM.bytes (CrcM.upd 0 (hdBody a g sg)) = T
  unfold hdBody
  rw [show (((([72] ++ num8 g) ++ [sg]) ++ List.replicate (a - 14) 0) ++ T) = 72 :: (num8 g ++ ([sg] ++ (List.replicate (a - 14) 0 ++ T))) by simp only [List.append_assoc, List.cons_append, List.nil_append], List.drop_succ_cons, List.drop_zero, List.take_append_of_le_length (by rw [num8_length]; exact Nat.le_refl _), List.take_of_length_le (by rw [num8_length]; exact Nat.le_refl _)]
  exact val_num8 g hg
theorem sOf_put (a g sg : Nat) (h : sg < 256) : sOf (hdPut a g sg) = sg := by
  unfold sOf
  rw [nl_hdPut _ _ _ h]
  rfl
end Go.Proofs.YtbpgfhcecanikaaGreat
