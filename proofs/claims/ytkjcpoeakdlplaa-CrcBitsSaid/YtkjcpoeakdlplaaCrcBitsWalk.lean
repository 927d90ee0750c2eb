/- The walk of carracklaw02.CrcBits. No condition but that the text's length is an int. -/
import Derived.WalkSpells
import Derived.Deep.DeepCutAuto
import Derived.Test.YtkjcpoeakdlplaaCrcFlip
namespace Go.Proofs.Ytkjcpoeakdlplaa
open Go.RowKit
set_option linter.unusedVariables false
set_option maxRecDepth 100000 in
set_option maxHeartbeats 4000000 in
theorem crcBits_walk (s : ByteArray) (a b c : Int) (hs : s.size ≤ maxLen) (wa : (Lit.int .i64 a).wf = true) (wb : (Lit.int .i64 b).wf = true) (wc : (Lit.int .i64 c).wf = true) (w : World) :
    Calls Try.prog 6 #[.string s, .int .i64 a, .int .i64 b, .int .i64 c] w fun e w' => e = .returned (.bool true) ∧ Below w.heap.size w w' := by
  clear wa wb wc
  by_cases k0 : 2000 < s.size
  · go_enter Try.func6, Try.ntmps6
    go_wp2_with fail
    refine (crc_awake _).mono ?_
    rintro e w1 ⟨rfl, hb1⟩
    go_wp2
    go_ret
    exact ⟨rfl, hb1⟩
  by_cases k1 : a < 0
  · go_enter Try.func6, Try.ntmps6
    go_wp2_with fail
    refine (crc_awake _).mono ?_
    rintro e w1 ⟨rfl, hb1⟩
    go_wp2
    go_ret
    exact ⟨rfl, hb1⟩
  by_cases k2 : b < 0
  · go_enter Try.func6, Try.ntmps6
    go_wp2_with fail
    refine (crc_awake _).mono ?_
    rintro e w1 ⟨rfl, hb1⟩
    go_wp2
    go_ret
    exact ⟨rfl, hb1⟩
  by_cases k3 : c < 0
  · go_enter Try.func6, Try.ntmps6
    go_wp2_with fail
    refine (crc_awake _).mono ?_
    rintro e w1 ⟨rfl, hb1⟩
    go_wp2
    go_ret
    exact ⟨rfl, hb1⟩
  by_cases k4 : 8 * ((s.size : Int) + 4) ≤ a
  · go_enter Try.func6, Try.ntmps6
    go_wp2_with fail
    refine (crc_awake _).mono ?_
    rintro e w1 ⟨rfl, hb1⟩
    go_wp2
    go_ret
    exact ⟨rfl, hb1⟩
  by_cases k5 : 8 * ((s.size : Int) + 4) ≤ b
  · go_enter Try.func6, Try.ntmps6
    go_wp2_with fail
    refine (crc_awake _).mono ?_
    rintro e w1 ⟨rfl, hb1⟩
    go_wp2
    go_ret
    exact ⟨rfl, hb1⟩
  by_cases k6 : 8 * ((s.size : Int) + 4) ≤ c
  · go_enter Try.func6, Try.ntmps6
    go_wp2_with fail
    refine (crc_awake _).mono ?_
    rintro e w1 ⟨rfl, hb1⟩
    go_wp2
    go_ret
    exact ⟨rfl, hb1⟩
  obtain ⟨a, rfl⟩ := Int.eq_ofNat_of_zero_le (Int.not_lt.1 k1)
  obtain ⟨b, rfl⟩ := Int.eq_ofNat_of_zero_le (Int.not_lt.1 k2)
  obtain ⟨c, rfl⟩ := Int.eq_ofNat_of_zero_le (Int.not_lt.1 k3)
  have hmax : s.size ≤ 2000 := by omega
  go_enter Try.func6, Try.ntmps6
  go_wp2_with fail
  refine (crc_awake _).mono ?_
  rintro e w1 ⟨rfl, hb1⟩
  go_wp2_with fail
  refine (crc_seal s _ (small_max s hmax)).mono ?_
  rintro e w2 ⟨rfl, hb2⟩
  have hcv := run_bytes_of_string (P := Try.prog) w2 9 32 5 (sealT s) Try.underlying9 Try.underlying32 Try.underlying5
  have hrow := Kq.row_bytes w2.drew (sealT s) (grownCap w2 (sealT s).size 0 5) 5 (bytesRow (sealT s) (grownCap w2 (sealT s).size 0 5)).size (by simp [bytesRow])
  generalize grownCap w2 (sealT s).size 0 5 = cap at hcv hrow
  have s1 := hb1.size
  have s2 := hb2.size
  have HZ := Lib.hid (seal_size s)
  have hrow' := Lib.hid hrow
  clear hrow
  go_upto_region 7 with (fail)
  clear hcv
  obtain ⟨L, hL⟩ : ∃ L, L = nl (sealT s) := ⟨_, rfl⟩
  obtain ⟨wy, hwy⟩ : ∃ wy, wy = (w2.alloc (Obj.cells (bytesRow (sealT s) cap) 5 ((bytesRow (sealT s) cap).size, (bytesRow (sealT s) cap).size + 1))).drew := ⟨_, rfl⟩
  rw [← hwy]
  have R0 : Kq.Row wy w2.heap.size L := by rw [hwy, hL]; exact hrow'.out
  have B0 : Below w.heap.size w wy := by rw [hwy]; exact ((hb1.trans (hb2.mono s1)).trans ((Kq.below_alloc _ _).mono (by omega))).drew
  have hLl : L.length = s.size + 4 := by rw [hL, nl_length, HZ.out]
  have hLb : ∀ b ∈ L, b < 256 := by rw [hL]; exact nl_lt _
  have HL := Lib.hid hL
  have HLl := Lib.hid hLl
  clear hwy hrow' hb1 hb2 hL hLl
  generalize w2.heap.size = B at *
  generalize (sealT s).size = n at *
  go_cut [0, 1, 2, 3, 10] (fun v0 v1 v2 v3 v10 wr => v0 = .string s ∧ v1 = .int .i64 a ∧ v2 = .int .i64 b ∧ v3 = .int .i64 c ∧ v10 = .slice (some ⟨B, 0, none⟩) n cap ∧ Kq.Row wr B (flip L a) ∧ Below w.heap.size w wr)
  case first =>
    have hq : (a : Int) / 8 = ((a / 8 : Nat) : Int) := by omega
    have hr : (a : Int).tmod 8 = ((a % 8 : Nat) : Int) := by rw [Int.tmod_eq_emod_of_nonneg (by omega)]; omega
    have HF : Hid (flip L a = L.set (a / 8) (L.getD (a / 8) 0 ^^^ 2 ^ (a % 8))) := Lib.hid rfl
    have hqn : ((a / 8 : Nat) : Int) < (n : Int) := by have := HZ.out; omega
    have hql : a / 8 < L.length := by have := HLl.out; omega
    have hr8 : a % 8 < 8 := by omega
    generalize a / 8 = q at *
    generalize a % 8 = r at *
    have hwq : IntKind.i64.wrap (q : Int) = (q : Int) := IntWalk.i64_in _ (by omega)
    have hwr : IntKind.i64.wrap (r : Int) = (r : Int) := IntWalk.i64_in _ (by omega)
    have hcell := R0.cell q hql
    have hfree := R0.free q hql
    refine wp_region_any (by kernel_rfl) ?_
    (try (change wpAny _ _ _ _ _ _ _ (World.drew _)))
    refine wpAny_take (i := 0) (v := ?_) rfl (by kernel_rfl) (by kernel_rfl) (by kernel_rfl) (fun _ _ _ h => h) (Or.inl ⟨by kernel_rfl, ?_⟩) ?_
    rotate_left
    · intro w; go_simp; with_reducible rfl
    refine wpAny_take (i := 1) (v := ?_) rfl (by kernel_rfl) (by kernel_rfl) (by kernel_rfl) (fun _ _ _ h => h) (Or.inl ⟨by kernel_rfl, ?_⟩) ?_
    rotate_left
    · intro w; go_simp; with_reducible rfl
    refine wpAny_take (i := 2) (v := ?_) rfl (by kernel_rfl) (by kernel_rfl) (by kernel_rfl) (fun _ _ _ h => h) (Or.inl ⟨by kernel_rfl, ?_⟩) ?_
    rotate_left
    · intro w; go_simp; with_reducible rfl
    refine wpAny_take (i := 3) (v := ?_) rfl (by kernel_rfl) (by kernel_rfl) (by kernel_rfl) (fun _ _ _ h => h) (Or.inl ⟨by kernel_rfl, ?_⟩) ?_
    rotate_left
    · intro w; go_simp; with_reducible rfl
    refine wpAny_take (i := 4) (v := ?_) rfl (by kernel_rfl) (by kernel_rfl) (by kernel_rfl) (fun _ _ _ h => h) (Or.inl ⟨by kernel_rfl, ?_⟩) ?_
    rotate_left
    · intro w; go_simp; with_reducible rfl
    refine wpAny_take (i := 5) (v := ?_) rfl (by kernel_rfl) (by kernel_rfl) (by kernel_rfl) (fun _ _ _ h => h) (Or.inl ⟨by kernel_rfl, ?_⟩) ?_
    rotate_left
    · intro w; go_simp; with_reducible rfl
    refine wpAny_take (i := 6) (v := ?_) rfl (by kernel_rfl) (by kernel_rfl) (by kernel_rfl) (fun _ _ _ h => h) (Or.inl ⟨by kernel_rfl, ?_⟩) ?_
    rotate_left
    · intro w; go_simp; with_reducible rfl
    refine wpAny_take (i := 8) (v := ?_) rfl (by kernel_rfl) (by kernel_rfl) (by kernel_rfl) (fun _ _ _ h => h) (Or.inl ⟨by kernel_rfl, ?_⟩) ?_
    rotate_left
    · intro w; go_simp; with_reducible rfl
    refine wpAny_take (i := 9) (v := ?_) rfl (by kernel_rfl) (by kernel_rfl) (by kernel_rfl) (fun _ _ _ h => h) (Or.inl ⟨by kernel_rfl, ?_⟩) ?_
    rotate_left
    · intro w; go_simp; with_reducible rfl
    refine wpAny_take (i := 10) (v := ?_) rfl (by kernel_rfl) (by kernel_rfl) (by kernel_rfl) (fun _ _ _ h => h) (Or.inl ⟨by kernel_rfl, ?_⟩) ?_
    rotate_left
    · intro w; go_simp; with_reducible rfl
    refine wpAny_ready (rs := [7]) (by kernel_rfl) (by simp) ?_
    refine AllReady.cons rfl (fun K hK => ?_) AllReady.nil
    go_simp
    (first | (refine hK _ _ ?_; clear hK K) | skip)
    refine wpAny_take (i := 11) (v := ?_) rfl (by kernel_rfl) (by kernel_rfl) (by kernel_rfl) (fun _ _ _ h => h) (Or.inl ⟨by kernel_rfl, ?_⟩) ?_
    rotate_left
    · intro w; go_simp; with_reducible rfl
    refine wpAny_take (i := 12) (v := ?_) rfl (by kernel_rfl) (by kernel_rfl) (by kernel_rfl) (fun _ _ _ h => h) (Or.inl ⟨by kernel_rfl, ?_⟩) ?_
    rotate_left
    · intro w; go_simp; with_reducible rfl
    refine wpAny_ready (rs := [13]) (by kernel_rfl) (by simp) ?_
    refine AllReady.cons rfl (fun K hK => ?_) AllReady.nil
    go_simp
    (first | (refine hK _ _ ?_; clear hK K) | skip)
    refine wpAny_done (by kernel_rfl) ?_ _
    go_wp2
    go_meet
    case rel => exact ⟨rfl, rfl, rfl, rfl, rfl, flip_row R0 hLb hql hr8 HF.out, (B0.setCell (by simp; omega) _).drew⟩
  case rest =>
    clear R0 B0
    obtain ⟨rfl, rfl, rfl, rfl, rfl, R0, B0⟩ := hcut
    have HLl : Hid ((flip L a).length = s.size + 4) := by rw [flip_length]; exact HLl
    have hLb := flip_lt L hLb a
    have HL1 : Hid (L = nl (sealT s)) := HL
    generalize hL1 : flip L a = L1 at *
    have HL1 := Lib.hid hL1
    clear hL1
    go_upto_if 65 with (fail)
    go_cut [0, 1, 2, 3, 10] (fun v0 v1 v2 v3 v10 wr => v0 = .string s ∧ v1 = .int .i64 a ∧ v2 = .int .i64 b ∧ v3 = .int .i64 c ∧ v10 = .slice (some ⟨B, 0, none⟩) n cap ∧ Kq.Row wr B (if b = a then L1 else flip L1 b) ∧ Below w.heap.size w wr)
    case first =>
      by_cases hba : b = a
      · subst hba
        go_wp2
        go_meet
        case rel => exact ⟨rfl, rfl, rfl, rfl, rfl, by simpa using R0, B0⟩
      · have hbt : ((b : Int) == (a : Int)) = false := by simp; omega
        have HN := Lib.hid hba
        clear hba
        have hq : (b : Int) / 8 = ((b / 8 : Nat) : Int) := by omega
        have hr : (b : Int).tmod 8 = ((b % 8 : Nat) : Int) := by rw [Int.tmod_eq_emod_of_nonneg (by omega)]; omega
        have HF : Hid (flip L1 b = L1.set (b / 8) (L1.getD (b / 8) 0 ^^^ 2 ^ (b % 8))) := Lib.hid rfl
        have hqn : ((b / 8 : Nat) : Int) < (n : Int) := by have := HZ.out; omega
        have hql : b / 8 < L1.length := by have := HLl.out; omega
        have hr8 : b % 8 < 8 := by omega
        generalize b / 8 = q at *
        generalize b % 8 = r at *
        have hwq : IntKind.i64.wrap (q : Int) = (q : Int) := IntWalk.i64_in _ (by omega)
        have hwr : IntKind.i64.wrap (r : Int) = (r : Int) := IntWalk.i64_in _ (by omega)
        have hcell := R0.cell q hql
        have hfree := R0.free q hql
        go_wp2
        refine wp_region_any (by kernel_rfl) ?_
        (try (change wpAny _ _ _ _ _ _ _ (World.drew _)))
        refine wpAny_take (i := 0) (v := ?_) rfl (by kernel_rfl) (by kernel_rfl) (by kernel_rfl) (fun _ _ _ h => h) (Or.inl ⟨by kernel_rfl, ?_⟩) ?_
        rotate_left
        · intro w; go_simp; with_reducible rfl
        refine wpAny_take (i := 1) (v := ?_) rfl (by kernel_rfl) (by kernel_rfl) (by kernel_rfl) (fun _ _ _ h => h) (Or.inl ⟨by kernel_rfl, ?_⟩) ?_
        rotate_left
        · intro w; go_simp; with_reducible rfl
        refine wpAny_take (i := 2) (v := ?_) rfl (by kernel_rfl) (by kernel_rfl) (by kernel_rfl) (fun _ _ _ h => h) (Or.inl ⟨by kernel_rfl, ?_⟩) ?_
        rotate_left
        · intro w; go_simp; with_reducible rfl
        refine wpAny_take (i := 3) (v := ?_) rfl (by kernel_rfl) (by kernel_rfl) (by kernel_rfl) (fun _ _ _ h => h) (Or.inl ⟨by kernel_rfl, ?_⟩) ?_
        rotate_left
        · intro w; go_simp; with_reducible rfl
        refine wpAny_take (i := 4) (v := ?_) rfl (by kernel_rfl) (by kernel_rfl) (by kernel_rfl) (fun _ _ _ h => h) (Or.inl ⟨by kernel_rfl, ?_⟩) ?_
        rotate_left
        · intro w; go_simp; with_reducible rfl
        refine wpAny_take (i := 5) (v := ?_) rfl (by kernel_rfl) (by kernel_rfl) (by kernel_rfl) (fun _ _ _ h => h) (Or.inl ⟨by kernel_rfl, ?_⟩) ?_
        rotate_left
        · intro w; go_simp; with_reducible rfl
        refine wpAny_take (i := 6) (v := ?_) rfl (by kernel_rfl) (by kernel_rfl) (by kernel_rfl) (fun _ _ _ h => h) (Or.inl ⟨by kernel_rfl, ?_⟩) ?_
        rotate_left
        · intro w; go_simp; with_reducible rfl
        refine wpAny_take (i := 8) (v := ?_) rfl (by kernel_rfl) (by kernel_rfl) (by kernel_rfl) (fun _ _ _ h => h) (Or.inl ⟨by kernel_rfl, ?_⟩) ?_
        rotate_left
        · intro w; go_simp; with_reducible rfl
        refine wpAny_take (i := 9) (v := ?_) rfl (by kernel_rfl) (by kernel_rfl) (by kernel_rfl) (fun _ _ _ h => h) (Or.inl ⟨by kernel_rfl, ?_⟩) ?_
        rotate_left
        · intro w; go_simp; with_reducible rfl
        refine wpAny_take (i := 10) (v := ?_) rfl (by kernel_rfl) (by kernel_rfl) (by kernel_rfl) (fun _ _ _ h => h) (Or.inl ⟨by kernel_rfl, ?_⟩) ?_
        rotate_left
        · intro w; go_simp; with_reducible rfl
        refine wpAny_ready (rs := [7]) (by kernel_rfl) (by simp) ?_
        refine AllReady.cons rfl (fun K hK => ?_) AllReady.nil
        go_simp
        (first | (refine hK _ _ ?_; clear hK K) | skip)
        refine wpAny_take (i := 11) (v := ?_) rfl (by kernel_rfl) (by kernel_rfl) (by kernel_rfl) (fun _ _ _ h => h) (Or.inl ⟨by kernel_rfl, ?_⟩) ?_
        rotate_left
        · intro w; go_simp; with_reducible rfl
        refine wpAny_take (i := 12) (v := ?_) rfl (by kernel_rfl) (by kernel_rfl) (by kernel_rfl) (fun _ _ _ h => h) (Or.inl ⟨by kernel_rfl, ?_⟩) ?_
        rotate_left
        · intro w; go_simp; with_reducible rfl
        refine wpAny_ready (rs := [13]) (by kernel_rfl) (by simp) ?_
        refine AllReady.cons rfl (fun K hK => ?_) AllReady.nil
        go_simp
        (first | (refine hK _ _ ?_; clear hK K) | skip)
        refine wpAny_done (by kernel_rfl) ?_ _
        go_wp2
        go_meet
        case rel => exact ⟨rfl, rfl, rfl, rfl, rfl, by rw [if_neg HN.out]; exact flip_row R0 hLb hql hr8 HF.out, (B0.setCell (by simp; omega) _).drew⟩
    case rest =>
      clear R0 B0
      obtain ⟨rfl, rfl, rfl, rfl, rfl, R0, B0⟩ := hcut
      have HLl : Hid ((if b = a then L1 else flip L1 b).length = s.size + 4) := by
        by_cases h : b = a
        · rw [if_pos h]; exact HLl
        · rw [if_neg h, flip_length]; exact HLl
      have hLb : ∀ x ∈ (if b = a then L1 else flip L1 b), x < 256 := by
        by_cases h : b = a
        · rw [if_pos h]; exact hLb
        · rw [if_neg h]; exact flip_lt L1 hLb b
      generalize hL2 : (if b = a then L1 else flip L1 b) = L2 at *
      have HL2 := Lib.hid hL2
      clear hL2
      by_cases hca : c = a
      · subst hca
        have hW := Lib.hid (bits_wrong s hmax c b c (by omega) (by omega) (by omega) L1 L2 L2 (by have := HL1.out; rw [HL.out] at this; exact this) HL2.out (if_pos (Or.inl rfl)))
        have hlb : ∀ x ∈ L2, x < 256 := hLb
        have hll : L2.length = n := by rw [HLl.out, HZ.out]
        have hcv := Kq.Row.text (P := Try.prog) R0 hlb (src := 32) (dst := 9) cap Try.underlying32 Try.underlying5 Try.underlying9
        rw [hll] at hcv
        have hsz : (txt L2).size = n := by rw [txt_size, hll]
        have hsm : (txt L2).size ≤ maxLen := by rw [hsz, HZ.out]; unfold maxLen; omega
        have hs4 : 4 ≤ (txt L2).size := by rw [hsz, HZ.out]; omega
        have HB := B0
        clear hll hsz
        go_wp2_with fail
        refine (crc_right (txt L2) _ hsm hs4).mono ?_
        rintro e w9 ⟨rfl, hb9⟩
        rw [hW.out]
        clear hcv
        go_wp2
        go_ret
        exact ⟨rfl, HB.trans (hb9.mono HB.size)⟩
      · by_cases hcb : c = b
        · subst hcb
          have hW := Lib.hid (bits_wrong s hmax a c c (by omega) (by omega) (by omega) L1 L2 L2 (by have := HL1.out; rw [HL.out] at this; exact this) HL2.out (if_pos (Or.inr rfl)))
          have hlb : ∀ x ∈ L2, x < 256 := hLb
          have hll : L2.length = n := by rw [HLl.out, HZ.out]
          have hcv := Kq.Row.text (P := Try.prog) R0 hlb (src := 32) (dst := 9) cap Try.underlying32 Try.underlying5 Try.underlying9
          rw [hll] at hcv
          have hsz : (txt L2).size = n := by rw [txt_size, hll]
          have hsm : (txt L2).size ≤ maxLen := by rw [hsz, HZ.out]; unfold maxLen; omega
          have hs4 : 4 ≤ (txt L2).size := by rw [hsz, HZ.out]; omega
          have HB := B0
          clear hll hsz
          go_wp2_with fail
          refine (crc_right (txt L2) _ hsm hs4).mono ?_
          rintro e w9 ⟨rfl, hb9⟩
          rw [hW.out]
          clear hcv
          go_wp2
          go_ret
          exact ⟨rfl, HB.trans (hb9.mono HB.size)⟩
        · skip
          have hca' : ((c : Int) == (a : Int)) = false := by simp; omega
          have hcb' : ((c : Int) == (b : Int)) = false := by simp; omega
          have hca2 : ((c : Int) != (a : Int)) = true := by simp; omega
          have hcb2 : ((c : Int) != (b : Int)) = true := by simp; omega
          have HN : Hid (¬ (c = a ∨ c = b)) := fun h => h.elim hca hcb
          clear hca hcb
          have hq : (c : Int) / 8 = ((c / 8 : Nat) : Int) := by omega
          have hr : (c : Int).tmod 8 = ((c % 8 : Nat) : Int) := by rw [Int.tmod_eq_emod_of_nonneg (by omega)]; omega
          have HF : Hid (flip L2 c = L2.set (c / 8) (L2.getD (c / 8) 0 ^^^ 2 ^ (c % 8))) := Lib.hid rfl
          have hqn : ((c / 8 : Nat) : Int) < (n : Int) := by have := HZ.out; omega
          have hql : c / 8 < L2.length := by have := HLl.out; omega
          have hr8 : c % 8 < 8 := by omega
          generalize c / 8 = q at *
          generalize c % 8 = r at *
          have hwq : IntKind.i64.wrap (q : Int) = (q : Int) := IntWalk.i64_in _ (by omega)
          have hwr : IntKind.i64.wrap (r : Int) = (r : Int) := IntWalk.i64_in _ (by omega)
          have hcell := R0.cell q hql
          have hfree := R0.free q hql
          go_wp2
          refine wp_region_any (by kernel_rfl) ?_
          (try (change wpAny _ _ _ _ _ _ _ (World.drew _)))
          refine wpAny_take (i := 0) (v := ?_) rfl (by kernel_rfl) (by kernel_rfl) (by kernel_rfl) (fun _ _ _ h => h) (Or.inl ⟨by kernel_rfl, ?_⟩) ?_
          rotate_left
          · intro w; go_simp; with_reducible rfl
          refine wpAny_take (i := 1) (v := ?_) rfl (by kernel_rfl) (by kernel_rfl) (by kernel_rfl) (fun _ _ _ h => h) (Or.inl ⟨by kernel_rfl, ?_⟩) ?_
          rotate_left
          · intro w; go_simp; with_reducible rfl
          refine wpAny_take (i := 2) (v := ?_) rfl (by kernel_rfl) (by kernel_rfl) (by kernel_rfl) (fun _ _ _ h => h) (Or.inl ⟨by kernel_rfl, ?_⟩) ?_
          rotate_left
          · intro w; go_simp; with_reducible rfl
          refine wpAny_take (i := 3) (v := ?_) rfl (by kernel_rfl) (by kernel_rfl) (by kernel_rfl) (fun _ _ _ h => h) (Or.inl ⟨by kernel_rfl, ?_⟩) ?_
          rotate_left
          · intro w; go_simp; with_reducible rfl
          refine wpAny_take (i := 4) (v := ?_) rfl (by kernel_rfl) (by kernel_rfl) (by kernel_rfl) (fun _ _ _ h => h) (Or.inl ⟨by kernel_rfl, ?_⟩) ?_
          rotate_left
          · intro w; go_simp; with_reducible rfl
          refine wpAny_take (i := 5) (v := ?_) rfl (by kernel_rfl) (by kernel_rfl) (by kernel_rfl) (fun _ _ _ h => h) (Or.inl ⟨by kernel_rfl, ?_⟩) ?_
          rotate_left
          · intro w; go_simp; with_reducible rfl
          refine wpAny_take (i := 6) (v := ?_) rfl (by kernel_rfl) (by kernel_rfl) (by kernel_rfl) (fun _ _ _ h => h) (Or.inl ⟨by kernel_rfl, ?_⟩) ?_
          rotate_left
          · intro w; go_simp; with_reducible rfl
          refine wpAny_take (i := 8) (v := ?_) rfl (by kernel_rfl) (by kernel_rfl) (by kernel_rfl) (fun _ _ _ h => h) (Or.inl ⟨by kernel_rfl, ?_⟩) ?_
          rotate_left
          · intro w; go_simp; with_reducible rfl
          refine wpAny_take (i := 9) (v := ?_) rfl (by kernel_rfl) (by kernel_rfl) (by kernel_rfl) (fun _ _ _ h => h) (Or.inl ⟨by kernel_rfl, ?_⟩) ?_
          rotate_left
          · intro w; go_simp; with_reducible rfl
          refine wpAny_take (i := 10) (v := ?_) rfl (by kernel_rfl) (by kernel_rfl) (by kernel_rfl) (fun _ _ _ h => h) (Or.inl ⟨by kernel_rfl, ?_⟩) ?_
          rotate_left
          · intro w; go_simp; with_reducible rfl
          refine wpAny_ready (rs := [7]) (by kernel_rfl) (by simp) ?_
          refine AllReady.cons rfl (fun K hK => ?_) AllReady.nil
          go_simp
          (first | (refine hK _ _ ?_; clear hK K) | skip)
          refine wpAny_take (i := 11) (v := ?_) rfl (by kernel_rfl) (by kernel_rfl) (by kernel_rfl) (fun _ _ _ h => h) (Or.inl ⟨by kernel_rfl, ?_⟩) ?_
          rotate_left
          · intro w; go_simp; with_reducible rfl
          refine wpAny_take (i := 12) (v := ?_) rfl (by kernel_rfl) (by kernel_rfl) (by kernel_rfl) (fun _ _ _ h => h) (Or.inl ⟨by kernel_rfl, ?_⟩) ?_
          rotate_left
          · intro w; go_simp; with_reducible rfl
          refine wpAny_ready (rs := [13]) (by kernel_rfl) (by simp) ?_
          refine AllReady.cons rfl (fun K hK => ?_) AllReady.nil
          go_simp
          (first | (refine hK _ _ ?_; clear hK K) | skip)
          refine wpAny_done (by kernel_rfl) ?_ _
          have hW := Lib.hid (bits_wrong s hmax a b c (by omega) (by omega) (by omega) L1 L2 (flip L2 c) (by have := HL1.out; rw [HL.out] at this; exact this) HL2.out (if_neg HN.out))
          have hlb : ∀ x ∈ (flip L2 c), x < 256 := flip_lt L2 hLb c
          have hll : (flip L2 c).length = n := by rw [flip_length, HLl.out, HZ.out]
          have hcv := Kq.Row.text (P := Try.prog) (flip_row R0 hLb hql hr8 HF.out) hlb (src := 32) (dst := 9) cap Try.underlying32 Try.underlying5 Try.underlying9
          rw [hll] at hcv
          have hsz : (txt (flip L2 c)).size = n := by rw [txt_size, hll]
          have hsm : (txt (flip L2 c)).size ≤ maxLen := by rw [hsz, HZ.out]; unfold maxLen; omega
          have hs4 : 4 ≤ (txt (flip L2 c)).size := by rw [hsz, HZ.out]; omega
          have HB := (B0.setCell (p := ⟨B, q, none⟩) (by simp; omega) (.int .u8 (bits .xor .u8 ((L2[q] : Nat) : Int) (IntKind.u8.wrap (2 ^ r))))).drew
          clear hll hsz
          go_wp2_with fail
          refine (crc_right (txt (flip L2 c)) _ hsm hs4).mono ?_
          rintro e w9 ⟨rfl, hb9⟩
          rw [hW.out]
          clear hcv
          go_wp2
          go_ret
          exact ⟨rfl, HB.trans (hb9.mono HB.size)⟩
end Go.Proofs.Ytkjcpoeakdlplaa
