/- carracklaw05.FrameApart walked. No condition. -/
import Derived.Test.YtfbjfleagilikaaFrLawK
namespace Go.Proofs.Ytfbjfleagilikaa.frameApart
open Go.RowKit
set_option linter.unusedVariables false
theorem head_step (r : Nat) (s : ByteArray) (k : Nat) : s.extract 0 (k * r) ++ pieceC r s k = s.extract 0 ((k + 1) * r) := by
  apply nl_inj
  unfold pieceC
  have e : (k + 1) * r = k * r + r := by rw [Nat.add_mul, Nat.one_mul]
  rw [e, nl_append, nl_extract, nl_extract, nl_extract, List.drop_zero, Nat.sub_zero, Nat.add_sub_cancel_left, Nat.sub_zero, List.take_add]
theorem head_all (a : Nat) (s : ByteArray) (ha : 64 ≤ a) : s.extract 0 (nParts a s.size * (a - 25)) = s := by
  apply nl_inj
  rw [nl_extract, List.drop_zero, Nat.sub_zero, full_take a s ha]
set_option maxRecDepth 100000 in
set_option maxHeartbeats 4000000 in
theorem main0 (a g1 g2 x1 x2 : Nat) (s t : ByteArray) (W : World) (ha : 64 ≤ a) (h5 : a ≤ 512) (hs : s.size ≤ 1000) (ht : t.size ≤ 1000) (hg1 : g1 < M64) (hg2 : g2 < M64) (hx1 : x1 < M64) (hx2 : x2 < M64) (q0 : ¬ g1 = g2) :
    Calls Try.prog 7 #[.int .i64 (a : Int), .int .u64 (g1 : Int), .int .u64 (g2 : Int), .int .u64 (x1 : Int), .int .u64 (x2 : Int), .string s, .string t] W fun e w' => e = .returned (.bool true) ∧ Below W.heap.size W w' := by
  have HSO := Lib.hid (secOk a g1 x1 s ha h5 (by omega) hg1 hx1)
  have HSO2 := Lib.hid (secOk a g2 x2 t ha h5 (by omega) hg2 hx2)
  have KSP := Lib.hid (fun w => fr_split a g1 x1 s w hg1 hx1)
  have KSP2 := Lib.hid (fun w => fr_split a g2 x2 t w hg2 hx2)
  have HOP : Hid (∀ w e w', SplitPost a g1 x1 s w e w' → _) := Lib.hid (fun w e w' h => split_open ha h5 (by omega) hg1 hx1 h)
  have HOP2 : Hid (∀ w e w', SplitPost a g2 x2 t w e w' → _) := Lib.hid (fun w e w' h => split_open ha h5 (by omega) hg2 hx2 h)
  have KPA := Lib.hid (fun w => fr_parts_ok a s.size w ha h5 (by omega))
  have HALL := Lib.hid (head_all a s ha)
  have HST := Lib.hid (head_step (a - 25) s)
  have HPZ := Lib.hid (piece_size (a - 25) s)
  have b0 : ((g1 : Int) == (g2 : Int)) = false := by simp; omega
  have b0' : (g1 == g2) = false := by simp; omega
  have HSAME : Hid (decide (secs a g1 x1 s = secs a g2 x2 t) = false) := Lib.hid (decide_eq_false (fun e => by have h := secs_inj ha h5 (by omega) (by omega) hg1 hx1 hg2 hx2 e; exact q0 h.1))
  have HA := Lib.hid (And.intro ha h5)
  have ha1 : 64 ≤ (a : Int) := by omega
  have ha2 : (a : Int) ≤ 512 := by omega
  have d0 : decide ((a : Int) < 64) = false := decide_eq_false (by omega)
  have d1 : decide ((512 : Int) < (a : Int)) = false := decide_eq_false (by omega)
  have d2 : decide ((1000 : Int) < (s.size : Int)) = false := decide_eq_false (by omega)
  have d3 : decide ((1000 : Int) < (t.size : Int)) = false := decide_eq_false (by omega)
  have e0 : decide (a < 64) = false := decide_eq_false (by omega)
  have e1 : decide (512 < a) = false := decide_eq_false (by omega)
  have e2 : decide (1000 < s.size) = false := decide_eq_false (by omega)
  have e3 : decide (1000 < t.size) = false := decide_eq_false (by omega)
  have HSZ := Lib.hid (And.intro hs ht)
  skip
  generalize secs a g1 x1 s = S at *
  generalize secs a g2 x2 t = S2 at *
  generalize nParts a s.size = N at *
  generalize nParts a t.size = N2 at *
  have hN106 : N ≤ 106 := HSO.out.le.2
  have hN2106 : N2 ≤ 106 := HSO2.out.le.2
  clear ha h5 hs ht hg1 hg2 hx1 hx2 q0
  go_enter Try.func7, Try.ntmps7
  go_wp2_with fail
  refine (fr_awake _).mono ?_
  rintro e w1 ⟨rfl, rfl⟩
  go_wp2_with fail
  refine (KSP.out _).mono ?_
  intro e w2 hp
  obtain ⟨A, cap, rfl, hA, hb⟩ := HOP.out _ _ _ hp
  have H2 := Lib.hid (And.intro hA hb)
  clear hp hA hb d0 d1 d2 d3 e0 e1 e2 e3 KSP HOP
  go_wp2_with fail
  refine (KSP2.out _).mono ?_
  intro e w3 hp
  obtain ⟨A2, cap2, rfl, hA, hb⟩ := HOP2.out _ _ _ hp
  have H3 := Lib.hid (And.intro (H2.out.1.below hb) (And.intro hA (H2.out.2.trans (hb.mono H2.out.2.size))))
  clear hp hA hb KSP2 HOP2 H2
  go_wp2_with fail
  refine (KPA.out _).mono ?_
  rintro e w4 ⟨rfl, rfl⟩
  clear KPA
  go_wp2
  clear b0 b0' 
  go_loopg [20, 21] N (fun gk tx i wr => ∃ k : Nat, k + gk = N ∧ i = .int .i64 (k : Int) ∧ tx = .string (s.extract 0 (k * (a - 25))) ∧ Below w3.heap.size w3 wr)
  case atStart => exact ⟨0, by omega, rfl, by simp; rfl, Below.refl _ _⟩
  case round =>
    obtain ⟨k, hgk, rfl, rfl, hbw⟩ := hrel
    have HB := Lib.hid hbw
    have HGK := Lib.hid hgk
    clear hbw hgk
    by_cases hk : k < N
    · have d0 : decide ((k : Int) < (N : Int)) = true := decide_eq_true (by omega)
      have d1 : decide (k < N) = true := decide_eq_true hk
      have hkl : k < S.length := by rw [HSO.out.len]; exact hk
      obtain ⟨B, off, rfl, hB, hc⟩ := H3.out.1.at_ k hkl
      have c0 := (HB.out.cell (p := ⟨B, off + k, none⟩) hB).trans hc
      have HRD := Lib.hid (HSO.out.rd k hkl)
      have hct := HST.out k
      have hz1 : (s.extract 0 (k * (a - 25))).size ≤ 1000 := by have := HSZ.out.1; simp; omega
      have hz2 : (pieceC (a - 25) s k).size ≤ 512 := by have := HPZ.out k; have := HA.out; omega
      have hz3 : ¬ 9223372036854775807 < (s.extract 0 (k * (a - 25))).size + (pieceC (a - 25) s k).size := by omega
      have hkb : k ≤ 106 := by omega
      have HK := Lib.hid hk
      have hkn : (k : Int) < (N : Int) := by omega
      obtain ⟨k2, hk2⟩ : ∃ z, z = k + 1 := ⟨_, rfl⟩
      rw [← hk2] at hct
      have hk3 : (k : Int) + 1 = (k2 : Int) := by omega
      have HK2 := Lib.hid hk2
      clear hk hk2 hB hc
      generalize hsk : S[k]'hkl = sk at *
      generalize pieceC (a - 25) s k = pc at *
      generalize s.extract 0 (k * (a - 25)) = tk at *
      generalize hct2 : s.extract 0 (k2 * (a - 25)) = tk2 at *
      have HT2 := Lib.hid hct2
      have HSK := Lib.hid hsk
      clear hsk hct2
      go_wp2_with fail
      refine (fr_read (a : Int) sk _).mono ?_
      rw [HRD.out]
      rintro e w5 ⟨rfl, b3⟩
      have H4 := Lib.hid (HB.out.trans (b3.mono HB.out.size))
      have H5 := Lib.hid (H4.out.trans ((Kq.below_alloc w5 (.cells #[.int .u64 (g1 : Int), .int .u64 (x1 : Int), .int .i64 (k : Int), .int .i64 (N : Int), .string pc] 40)).mono H4.out.size))
      have HBK := Lib.hid (Kq.blk_new w5 #[.int .u64 (g1 : Int), .int .u64 (x1 : Int), .int .i64 (k : Int), .int .i64 (N : Int), .string pc] 40 (0, 0))
      clear b3
      simp only [readVal, partOf, FrP.val]
      have q0 := Kq.blk_cell HBK.out 0
      have q1 := Kq.blk_cell HBK.out 1
      have q2 := Kq.blk_cell HBK.out 2
      have q3 := Kq.blk_cell HBK.out 3
      have q4 := Kq.blk_cell HBK.out 4
      go_wp2
      go_roundg (N - (k + 1))
      case measure => have := HGK.out; have := HK.out; omega
      case rel => exact ⟨k2, by have := HGK.out; have := HK.out; have := HK2.out; omega, rfl, by rw [HT2.out], H5.out⟩
    · obtain rfl : k = N := by have := HGK.out; omega
      have d0 : decide ((k : Int) < (k : Int)) = false := decide_eq_false (by omega)
      rw [HALL.out]
      have HLL := Lib.hid (And.intro HSO.out.len HSO2.out.len)
      clear hk
      have KT := Lib.hid (fun w (hA : StrsAt w A S) (hB : StrsAt w A2 S2) => rf_texts A A2 cap cap2 S S2 w (by rw [HSO.out.len]; omega) (by rw [HSO2.out.len]; omega) hA hB)
      rw [HSO.out.len, HSO2.out.len, HSAME.out] at KT
      have t0 : (s.toList == s.toList) = true := by simp
      go_wp2_with fail
      refine (KT.out _ (H3.out.1.below HB.out) (H3.out.2.1.below HB.out)).mono ?_
      rintro e w6 ⟨rfl, b6⟩
      have H6 := Lib.hid ((H3.out.2.2.trans (HB.out.mono H3.out.2.2.size)).trans (b6.mono (Nat.le_trans H3.out.2.2.size HB.out.size)))
      clear b6
      go_wp2
      go_ret
      exact ⟨by simp, H6.out⟩
set_option maxRecDepth 100000 in
set_option maxHeartbeats 4000000 in
theorem main1 (a g1 g2 x1 x2 : Nat) (s t : ByteArray) (W : World) (ha : 64 ≤ a) (h5 : a ≤ 512) (hs : s.size ≤ 1000) (ht : t.size ≤ 1000) (hg1 : g1 < M64) (hg2 : g2 < M64) (hx1 : x1 < M64) (hx2 : x2 < M64) (q0 : g1 = g2) (q1 : ¬ x1 = x2) :
    Calls Try.prog 7 #[.int .i64 (a : Int), .int .u64 (g1 : Int), .int .u64 (g2 : Int), .int .u64 (x1 : Int), .int .u64 (x2 : Int), .string s, .string t] W fun e w' => e = .returned (.bool true) ∧ Below W.heap.size W w' := by
  have HSO := Lib.hid (secOk a g1 x1 s ha h5 (by omega) hg1 hx1)
  have HSO2 := Lib.hid (secOk a g2 x2 t ha h5 (by omega) hg2 hx2)
  have KSP := Lib.hid (fun w => fr_split a g1 x1 s w hg1 hx1)
  have KSP2 := Lib.hid (fun w => fr_split a g2 x2 t w hg2 hx2)
  have HOP : Hid (∀ w e w', SplitPost a g1 x1 s w e w' → _) := Lib.hid (fun w e w' h => split_open ha h5 (by omega) hg1 hx1 h)
  have HOP2 : Hid (∀ w e w', SplitPost a g2 x2 t w e w' → _) := Lib.hid (fun w e w' h => split_open ha h5 (by omega) hg2 hx2 h)
  have KPA := Lib.hid (fun w => fr_parts_ok a s.size w ha h5 (by omega))
  have HALL := Lib.hid (head_all a s ha)
  have HST := Lib.hid (head_step (a - 25) s)
  have HPZ := Lib.hid (piece_size (a - 25) s)
  have b0 : ((g1 : Int) == (g2 : Int)) = true := by simp; omega
  have b0' : (g1 == g2) = true := by simp; omega
  have b1 : ((x1 : Int) == (x2 : Int)) = false := by simp; omega
  have b1' : (x1 == x2) = false := by simp; omega
  have HSAME : Hid (decide (secs a g1 x1 s = secs a g2 x2 t) = false) := Lib.hid (decide_eq_false (fun e => by have h := secs_inj ha h5 (by omega) (by omega) hg1 hx1 hg2 hx2 e; exact q1 h.2.1))
  have HA := Lib.hid (And.intro ha h5)
  have ha1 : 64 ≤ (a : Int) := by omega
  have ha2 : (a : Int) ≤ 512 := by omega
  have d0 : decide ((a : Int) < 64) = false := decide_eq_false (by omega)
  have d1 : decide ((512 : Int) < (a : Int)) = false := decide_eq_false (by omega)
  have d2 : decide ((1000 : Int) < (s.size : Int)) = false := decide_eq_false (by omega)
  have d3 : decide ((1000 : Int) < (t.size : Int)) = false := decide_eq_false (by omega)
  have e0 : decide (a < 64) = false := decide_eq_false (by omega)
  have e1 : decide (512 < a) = false := decide_eq_false (by omega)
  have e2 : decide (1000 < s.size) = false := decide_eq_false (by omega)
  have e3 : decide (1000 < t.size) = false := decide_eq_false (by omega)
  have HSZ := Lib.hid (And.intro hs ht)
  skip
  generalize secs a g1 x1 s = S at *
  generalize secs a g2 x2 t = S2 at *
  generalize nParts a s.size = N at *
  generalize nParts a t.size = N2 at *
  have hN106 : N ≤ 106 := HSO.out.le.2
  have hN2106 : N2 ≤ 106 := HSO2.out.le.2
  clear ha h5 hs ht hg1 hg2 hx1 hx2 q0 q1
  go_enter Try.func7, Try.ntmps7
  go_wp2_with fail
  refine (fr_awake _).mono ?_
  rintro e w1 ⟨rfl, rfl⟩
  go_wp2_with fail
  refine (KSP.out _).mono ?_
  intro e w2 hp
  obtain ⟨A, cap, rfl, hA, hb⟩ := HOP.out _ _ _ hp
  have H2 := Lib.hid (And.intro hA hb)
  clear hp hA hb d0 d1 d2 d3 e0 e1 e2 e3 KSP HOP
  go_wp2_with fail
  refine (KSP2.out _).mono ?_
  intro e w3 hp
  obtain ⟨A2, cap2, rfl, hA, hb⟩ := HOP2.out _ _ _ hp
  have H3 := Lib.hid (And.intro (H2.out.1.below hb) (And.intro hA (H2.out.2.trans (hb.mono H2.out.2.size))))
  clear hp hA hb KSP2 HOP2 H2
  go_wp2_with fail
  refine (KPA.out _).mono ?_
  rintro e w4 ⟨rfl, rfl⟩
  clear KPA
  go_wp2
  clear b0 b0' b1 b1' 
  go_loopg [20, 21] N (fun gk tx i wr => ∃ k : Nat, k + gk = N ∧ i = .int .i64 (k : Int) ∧ tx = .string (s.extract 0 (k * (a - 25))) ∧ Below w3.heap.size w3 wr)
  case atStart => exact ⟨0, by omega, rfl, by simp; rfl, Below.refl _ _⟩
  case round =>
    obtain ⟨k, hgk, rfl, rfl, hbw⟩ := hrel
    have HB := Lib.hid hbw
    have HGK := Lib.hid hgk
    clear hbw hgk
    by_cases hk : k < N
    · have d0 : decide ((k : Int) < (N : Int)) = true := decide_eq_true (by omega)
      have d1 : decide (k < N) = true := decide_eq_true hk
      have hkl : k < S.length := by rw [HSO.out.len]; exact hk
      obtain ⟨B, off, rfl, hB, hc⟩ := H3.out.1.at_ k hkl
      have c0 := (HB.out.cell (p := ⟨B, off + k, none⟩) hB).trans hc
      have HRD := Lib.hid (HSO.out.rd k hkl)
      have hct := HST.out k
      have hz1 : (s.extract 0 (k * (a - 25))).size ≤ 1000 := by have := HSZ.out.1; simp; omega
      have hz2 : (pieceC (a - 25) s k).size ≤ 512 := by have := HPZ.out k; have := HA.out; omega
      have hz3 : ¬ 9223372036854775807 < (s.extract 0 (k * (a - 25))).size + (pieceC (a - 25) s k).size := by omega
      have hkb : k ≤ 106 := by omega
      have HK := Lib.hid hk
      have hkn : (k : Int) < (N : Int) := by omega
      obtain ⟨k2, hk2⟩ : ∃ z, z = k + 1 := ⟨_, rfl⟩
      rw [← hk2] at hct
      have hk3 : (k : Int) + 1 = (k2 : Int) := by omega
      have HK2 := Lib.hid hk2
      clear hk hk2 hB hc
      generalize hsk : S[k]'hkl = sk at *
      generalize pieceC (a - 25) s k = pc at *
      generalize s.extract 0 (k * (a - 25)) = tk at *
      generalize hct2 : s.extract 0 (k2 * (a - 25)) = tk2 at *
      have HT2 := Lib.hid hct2
      have HSK := Lib.hid hsk
      clear hsk hct2
      go_wp2_with fail
      refine (fr_read (a : Int) sk _).mono ?_
      rw [HRD.out]
      rintro e w5 ⟨rfl, b3⟩
      have H4 := Lib.hid (HB.out.trans (b3.mono HB.out.size))
      have H5 := Lib.hid (H4.out.trans ((Kq.below_alloc w5 (.cells #[.int .u64 (g1 : Int), .int .u64 (x1 : Int), .int .i64 (k : Int), .int .i64 (N : Int), .string pc] 40)).mono H4.out.size))
      have HBK := Lib.hid (Kq.blk_new w5 #[.int .u64 (g1 : Int), .int .u64 (x1 : Int), .int .i64 (k : Int), .int .i64 (N : Int), .string pc] 40 (0, 0))
      clear b3
      simp only [readVal, partOf, FrP.val]
      have q0 := Kq.blk_cell HBK.out 0
      have q1 := Kq.blk_cell HBK.out 1
      have q2 := Kq.blk_cell HBK.out 2
      have q3 := Kq.blk_cell HBK.out 3
      have q4 := Kq.blk_cell HBK.out 4
      go_wp2
      go_roundg (N - (k + 1))
      case measure => have := HGK.out; have := HK.out; omega
      case rel => exact ⟨k2, by have := HGK.out; have := HK.out; have := HK2.out; omega, rfl, by rw [HT2.out], H5.out⟩
    · obtain rfl : k = N := by have := HGK.out; omega
      have d0 : decide ((k : Int) < (k : Int)) = false := decide_eq_false (by omega)
      rw [HALL.out]
      have HLL := Lib.hid (And.intro HSO.out.len HSO2.out.len)
      clear hk
      have KT := Lib.hid (fun w (hA : StrsAt w A S) (hB : StrsAt w A2 S2) => rf_texts A A2 cap cap2 S S2 w (by rw [HSO.out.len]; omega) (by rw [HSO2.out.len]; omega) hA hB)
      rw [HSO.out.len, HSO2.out.len, HSAME.out] at KT
      have t0 : (s.toList == s.toList) = true := by simp
      go_wp2_with fail
      refine (KT.out _ (H3.out.1.below HB.out) (H3.out.2.1.below HB.out)).mono ?_
      rintro e w6 ⟨rfl, b6⟩
      have H6 := Lib.hid ((H3.out.2.2.trans (HB.out.mono H3.out.2.2.size)).trans (b6.mono (Nat.le_trans H3.out.2.2.size HB.out.size)))
      clear b6
      go_wp2
      go_ret
      exact ⟨by simp, H6.out⟩
set_option maxRecDepth 100000 in
set_option maxHeartbeats 4000000 in
theorem main2 (a g1 g2 x1 x2 : Nat) (s t : ByteArray) (W : World) (ha : 64 ≤ a) (h5 : a ≤ 512) (hs : s.size ≤ 1000) (ht : t.size ≤ 1000) (hg1 : g1 < M64) (hg2 : g2 < M64) (hx1 : x1 < M64) (hx2 : x2 < M64) (q0 : g1 = g2) (q1 : x1 = x2) (q2 : ¬ s = t) :
    Calls Try.prog 7 #[.int .i64 (a : Int), .int .u64 (g1 : Int), .int .u64 (g2 : Int), .int .u64 (x1 : Int), .int .u64 (x2 : Int), .string s, .string t] W fun e w' => e = .returned (.bool true) ∧ Below W.heap.size W w' := by
  have HSO := Lib.hid (secOk a g1 x1 s ha h5 (by omega) hg1 hx1)
  have HSO2 := Lib.hid (secOk a g2 x2 t ha h5 (by omega) hg2 hx2)
  have KSP := Lib.hid (fun w => fr_split a g1 x1 s w hg1 hx1)
  have KSP2 := Lib.hid (fun w => fr_split a g2 x2 t w hg2 hx2)
  have HOP : Hid (∀ w e w', SplitPost a g1 x1 s w e w' → _) := Lib.hid (fun w e w' h => split_open ha h5 (by omega) hg1 hx1 h)
  have HOP2 : Hid (∀ w e w', SplitPost a g2 x2 t w e w' → _) := Lib.hid (fun w e w' h => split_open ha h5 (by omega) hg2 hx2 h)
  have KPA := Lib.hid (fun w => fr_parts_ok a s.size w ha h5 (by omega))
  have HALL := Lib.hid (head_all a s ha)
  have HST := Lib.hid (head_step (a - 25) s)
  have HPZ := Lib.hid (piece_size (a - 25) s)
  have b0 : ((g1 : Int) == (g2 : Int)) = true := by simp; omega
  have b0' : (g1 == g2) = true := by simp; omega
  have b1 : ((x1 : Int) == (x2 : Int)) = true := by simp; omega
  have b1' : (x1 == x2) = true := by simp; omega
  have b2 : (s.toList == t.toList) = false := by rw [eq_text, decide_eq_false (fun e => q2 (nl_inj e))]
  have HSAME : Hid (decide (secs a g1 x1 s = secs a g2 x2 t) = false) := Lib.hid (decide_eq_false (fun e => by have h := secs_inj ha h5 (by omega) (by omega) hg1 hx1 hg2 hx2 e; exact q2 h.2.2))
  have HA := Lib.hid (And.intro ha h5)
  have ha1 : 64 ≤ (a : Int) := by omega
  have ha2 : (a : Int) ≤ 512 := by omega
  have d0 : decide ((a : Int) < 64) = false := decide_eq_false (by omega)
  have d1 : decide ((512 : Int) < (a : Int)) = false := decide_eq_false (by omega)
  have d2 : decide ((1000 : Int) < (s.size : Int)) = false := decide_eq_false (by omega)
  have d3 : decide ((1000 : Int) < (t.size : Int)) = false := decide_eq_false (by omega)
  have e0 : decide (a < 64) = false := decide_eq_false (by omega)
  have e1 : decide (512 < a) = false := decide_eq_false (by omega)
  have e2 : decide (1000 < s.size) = false := decide_eq_false (by omega)
  have e3 : decide (1000 < t.size) = false := decide_eq_false (by omega)
  have HSZ := Lib.hid (And.intro hs ht)
  skip
  generalize secs a g1 x1 s = S at *
  generalize secs a g2 x2 t = S2 at *
  generalize nParts a s.size = N at *
  generalize nParts a t.size = N2 at *
  have hN106 : N ≤ 106 := HSO.out.le.2
  have hN2106 : N2 ≤ 106 := HSO2.out.le.2
  clear ha h5 hs ht hg1 hg2 hx1 hx2 q0 q1 q2
  go_enter Try.func7, Try.ntmps7
  go_wp2_with fail
  refine (fr_awake _).mono ?_
  rintro e w1 ⟨rfl, rfl⟩
  go_wp2_with fail
  refine (KSP.out _).mono ?_
  intro e w2 hp
  obtain ⟨A, cap, rfl, hA, hb⟩ := HOP.out _ _ _ hp
  have H2 := Lib.hid (And.intro hA hb)
  clear hp hA hb d0 d1 d2 d3 e0 e1 e2 e3 KSP HOP
  go_wp2_with fail
  refine (KSP2.out _).mono ?_
  intro e w3 hp
  obtain ⟨A2, cap2, rfl, hA, hb⟩ := HOP2.out _ _ _ hp
  have H3 := Lib.hid (And.intro (H2.out.1.below hb) (And.intro hA (H2.out.2.trans (hb.mono H2.out.2.size))))
  clear hp hA hb KSP2 HOP2 H2
  go_wp2_with fail
  refine (KPA.out _).mono ?_
  rintro e w4 ⟨rfl, rfl⟩
  clear KPA
  go_wp2
  clear b0 b0' b1 b1' b2
  go_loopg [20, 21] N (fun gk tx i wr => ∃ k : Nat, k + gk = N ∧ i = .int .i64 (k : Int) ∧ tx = .string (s.extract 0 (k * (a - 25))) ∧ Below w3.heap.size w3 wr)
  case atStart => exact ⟨0, by omega, rfl, by simp; rfl, Below.refl _ _⟩
  case round =>
    obtain ⟨k, hgk, rfl, rfl, hbw⟩ := hrel
    have HB := Lib.hid hbw
    have HGK := Lib.hid hgk
    clear hbw hgk
    by_cases hk : k < N
    · have d0 : decide ((k : Int) < (N : Int)) = true := decide_eq_true (by omega)
      have d1 : decide (k < N) = true := decide_eq_true hk
      have hkl : k < S.length := by rw [HSO.out.len]; exact hk
      obtain ⟨B, off, rfl, hB, hc⟩ := H3.out.1.at_ k hkl
      have c0 := (HB.out.cell (p := ⟨B, off + k, none⟩) hB).trans hc
      have HRD := Lib.hid (HSO.out.rd k hkl)
      have hct := HST.out k
      have hz1 : (s.extract 0 (k * (a - 25))).size ≤ 1000 := by have := HSZ.out.1; simp; omega
      have hz2 : (pieceC (a - 25) s k).size ≤ 512 := by have := HPZ.out k; have := HA.out; omega
      have hz3 : ¬ 9223372036854775807 < (s.extract 0 (k * (a - 25))).size + (pieceC (a - 25) s k).size := by omega
      have hkb : k ≤ 106 := by omega
      have HK := Lib.hid hk
      have hkn : (k : Int) < (N : Int) := by omega
      obtain ⟨k2, hk2⟩ : ∃ z, z = k + 1 := ⟨_, rfl⟩
      rw [← hk2] at hct
      have hk3 : (k : Int) + 1 = (k2 : Int) := by omega
      have HK2 := Lib.hid hk2
      clear hk hk2 hB hc
      generalize hsk : S[k]'hkl = sk at *
      generalize pieceC (a - 25) s k = pc at *
      generalize s.extract 0 (k * (a - 25)) = tk at *
      generalize hct2 : s.extract 0 (k2 * (a - 25)) = tk2 at *
      have HT2 := Lib.hid hct2
      have HSK := Lib.hid hsk
      clear hsk hct2
      go_wp2_with fail
      refine (fr_read (a : Int) sk _).mono ?_
      rw [HRD.out]
      rintro e w5 ⟨rfl, b3⟩
      have H4 := Lib.hid (HB.out.trans (b3.mono HB.out.size))
      have H5 := Lib.hid (H4.out.trans ((Kq.below_alloc w5 (.cells #[.int .u64 (g1 : Int), .int .u64 (x1 : Int), .int .i64 (k : Int), .int .i64 (N : Int), .string pc] 40)).mono H4.out.size))
      have HBK := Lib.hid (Kq.blk_new w5 #[.int .u64 (g1 : Int), .int .u64 (x1 : Int), .int .i64 (k : Int), .int .i64 (N : Int), .string pc] 40 (0, 0))
      clear b3
      simp only [readVal, partOf, FrP.val]
      have q0 := Kq.blk_cell HBK.out 0
      have q1 := Kq.blk_cell HBK.out 1
      have q2 := Kq.blk_cell HBK.out 2
      have q3 := Kq.blk_cell HBK.out 3
      have q4 := Kq.blk_cell HBK.out 4
      go_wp2
      go_roundg (N - (k + 1))
      case measure => have := HGK.out; have := HK.out; omega
      case rel => exact ⟨k2, by have := HGK.out; have := HK.out; have := HK2.out; omega, rfl, by rw [HT2.out], H5.out⟩
    · obtain rfl : k = N := by have := HGK.out; omega
      have d0 : decide ((k : Int) < (k : Int)) = false := decide_eq_false (by omega)
      rw [HALL.out]
      have HLL := Lib.hid (And.intro HSO.out.len HSO2.out.len)
      clear hk
      have KT := Lib.hid (fun w (hA : StrsAt w A S) (hB : StrsAt w A2 S2) => rf_texts A A2 cap cap2 S S2 w (by rw [HSO.out.len]; omega) (by rw [HSO2.out.len]; omega) hA hB)
      rw [HSO.out.len, HSO2.out.len, HSAME.out] at KT
      have t0 : (s.toList == s.toList) = true := by simp
      go_wp2_with fail
      refine (KT.out _ (H3.out.1.below HB.out) (H3.out.2.1.below HB.out)).mono ?_
      rintro e w6 ⟨rfl, b6⟩
      have H6 := Lib.hid ((H3.out.2.2.trans (HB.out.mono H3.out.2.2.size)).trans (b6.mono (Nat.le_trans H3.out.2.2.size HB.out.size)))
      clear b6
      go_wp2
      go_ret
      exact ⟨by simp, H6.out⟩
set_option maxRecDepth 100000 in
set_option maxHeartbeats 4000000 in
theorem main3 (a g1 g2 x1 x2 : Nat) (s t : ByteArray) (W : World) (ha : 64 ≤ a) (h5 : a ≤ 512) (hs : s.size ≤ 1000) (ht : t.size ≤ 1000) (hg1 : g1 < M64) (hg2 : g2 < M64) (hx1 : x1 < M64) (hx2 : x2 < M64) (q0 : g1 = g2) (q1 : x1 = x2) (q2 : s = t) :
    Calls Try.prog 7 #[.int .i64 (a : Int), .int .u64 (g1 : Int), .int .u64 (g2 : Int), .int .u64 (x1 : Int), .int .u64 (x2 : Int), .string s, .string t] W fun e w' => e = .returned (.bool true) ∧ Below W.heap.size W w' := by
  have HSO := Lib.hid (secOk a g1 x1 s ha h5 (by omega) hg1 hx1)
  have HSO2 := Lib.hid (secOk a g2 x2 t ha h5 (by omega) hg2 hx2)
  have KSP := Lib.hid (fun w => fr_split a g1 x1 s w hg1 hx1)
  have KSP2 := Lib.hid (fun w => fr_split a g2 x2 t w hg2 hx2)
  have HOP : Hid (∀ w e w', SplitPost a g1 x1 s w e w' → _) := Lib.hid (fun w e w' h => split_open ha h5 (by omega) hg1 hx1 h)
  have HOP2 : Hid (∀ w e w', SplitPost a g2 x2 t w e w' → _) := Lib.hid (fun w e w' h => split_open ha h5 (by omega) hg2 hx2 h)
  have KPA := Lib.hid (fun w => fr_parts_ok a s.size w ha h5 (by omega))
  have HALL := Lib.hid (head_all a s ha)
  have HST := Lib.hid (head_step (a - 25) s)
  have HPZ := Lib.hid (piece_size (a - 25) s)
  have b0 : ((g1 : Int) == (g2 : Int)) = true := by simp; omega
  have b0' : (g1 == g2) = true := by simp; omega
  have b1 : ((x1 : Int) == (x2 : Int)) = true := by simp; omega
  have b1' : (x1 == x2) = true := by simp; omega
  have b2 : (s.toList == t.toList) = true := by rw [q2]; simp
  have HSAME : Hid (decide (secs a g1 x1 s = secs a g2 x2 t) = true) := Lib.hid (decide_eq_true (by rw [q0, q1, q2]))
  have b3 : nParts a s.size = nParts a t.size := by rw [q2]
  have HA := Lib.hid (And.intro ha h5)
  have ha1 : 64 ≤ (a : Int) := by omega
  have ha2 : (a : Int) ≤ 512 := by omega
  have d0 : decide ((a : Int) < 64) = false := decide_eq_false (by omega)
  have d1 : decide ((512 : Int) < (a : Int)) = false := decide_eq_false (by omega)
  have d2 : decide ((1000 : Int) < (s.size : Int)) = false := decide_eq_false (by omega)
  have d3 : decide ((1000 : Int) < (t.size : Int)) = false := decide_eq_false (by omega)
  have e0 : decide (a < 64) = false := decide_eq_false (by omega)
  have e1 : decide (512 < a) = false := decide_eq_false (by omega)
  have e2 : decide (1000 < s.size) = false := decide_eq_false (by omega)
  have e3 : decide (1000 < t.size) = false := decide_eq_false (by omega)
  have HSZ := Lib.hid (And.intro hs ht)
  skip
  generalize secs a g1 x1 s = S at *
  generalize secs a g2 x2 t = S2 at *
  generalize nParts a s.size = N at *
  generalize nParts a t.size = N2 at *
  have hN106 : N ≤ 106 := HSO.out.le.2
  have hN2106 : N2 ≤ 106 := HSO2.out.le.2
  clear ha h5 hs ht hg1 hg2 hx1 hx2 q0 q1 q2 b3
  go_enter Try.func7, Try.ntmps7
  go_wp2_with fail
  refine (fr_awake _).mono ?_
  rintro e w1 ⟨rfl, rfl⟩
  go_wp2_with fail
  refine (KSP.out _).mono ?_
  intro e w2 hp
  obtain ⟨A, cap, rfl, hA, hb⟩ := HOP.out _ _ _ hp
  have H2 := Lib.hid (And.intro hA hb)
  clear hp hA hb d0 d1 d2 d3 e0 e1 e2 e3 KSP HOP
  go_wp2_with fail
  refine (KSP2.out _).mono ?_
  intro e w3 hp
  obtain ⟨A2, cap2, rfl, hA, hb⟩ := HOP2.out _ _ _ hp
  have H3 := Lib.hid (And.intro (H2.out.1.below hb) (And.intro hA (H2.out.2.trans (hb.mono H2.out.2.size))))
  clear hp hA hb KSP2 HOP2 H2
  go_wp2_with fail
  refine (KPA.out _).mono ?_
  rintro e w4 ⟨rfl, rfl⟩
  clear KPA
  go_wp2
  clear b0 b0' b1 b1' b2
  go_loopg [20, 21] N (fun gk tx i wr => ∃ k : Nat, k + gk = N ∧ i = .int .i64 (k : Int) ∧ tx = .string (s.extract 0 (k * (a - 25))) ∧ Below w3.heap.size w3 wr)
  case atStart => exact ⟨0, by omega, rfl, by simp; rfl, Below.refl _ _⟩
  case round =>
    obtain ⟨k, hgk, rfl, rfl, hbw⟩ := hrel
    have HB := Lib.hid hbw
    have HGK := Lib.hid hgk
    clear hbw hgk
    by_cases hk : k < N
    · have d0 : decide ((k : Int) < (N : Int)) = true := decide_eq_true (by omega)
      have d1 : decide (k < N) = true := decide_eq_true hk
      have hkl : k < S.length := by rw [HSO.out.len]; exact hk
      obtain ⟨B, off, rfl, hB, hc⟩ := H3.out.1.at_ k hkl
      have c0 := (HB.out.cell (p := ⟨B, off + k, none⟩) hB).trans hc
      have HRD := Lib.hid (HSO.out.rd k hkl)
      have hct := HST.out k
      have hz1 : (s.extract 0 (k * (a - 25))).size ≤ 1000 := by have := HSZ.out.1; simp; omega
      have hz2 : (pieceC (a - 25) s k).size ≤ 512 := by have := HPZ.out k; have := HA.out; omega
      have hz3 : ¬ 9223372036854775807 < (s.extract 0 (k * (a - 25))).size + (pieceC (a - 25) s k).size := by omega
      have hkb : k ≤ 106 := by omega
      have HK := Lib.hid hk
      have hkn : (k : Int) < (N : Int) := by omega
      obtain ⟨k2, hk2⟩ : ∃ z, z = k + 1 := ⟨_, rfl⟩
      rw [← hk2] at hct
      have hk3 : (k : Int) + 1 = (k2 : Int) := by omega
      have HK2 := Lib.hid hk2
      clear hk hk2 hB hc
      generalize hsk : S[k]'hkl = sk at *
      generalize pieceC (a - 25) s k = pc at *
      generalize s.extract 0 (k * (a - 25)) = tk at *
      generalize hct2 : s.extract 0 (k2 * (a - 25)) = tk2 at *
      have HT2 := Lib.hid hct2
      have HSK := Lib.hid hsk
      clear hsk hct2
      go_wp2_with fail
      refine (fr_read (a : Int) sk _).mono ?_
      rw [HRD.out]
      rintro e w5 ⟨rfl, b3⟩
      have H4 := Lib.hid (HB.out.trans (b3.mono HB.out.size))
      have H5 := Lib.hid (H4.out.trans ((Kq.below_alloc w5 (.cells #[.int .u64 (g1 : Int), .int .u64 (x1 : Int), .int .i64 (k : Int), .int .i64 (N : Int), .string pc] 40)).mono H4.out.size))
      have HBK := Lib.hid (Kq.blk_new w5 #[.int .u64 (g1 : Int), .int .u64 (x1 : Int), .int .i64 (k : Int), .int .i64 (N : Int), .string pc] 40 (0, 0))
      clear b3
      simp only [readVal, partOf, FrP.val]
      have q0 := Kq.blk_cell HBK.out 0
      have q1 := Kq.blk_cell HBK.out 1
      have q2 := Kq.blk_cell HBK.out 2
      have q3 := Kq.blk_cell HBK.out 3
      have q4 := Kq.blk_cell HBK.out 4
      go_wp2
      go_roundg (N - (k + 1))
      case measure => have := HGK.out; have := HK.out; omega
      case rel => exact ⟨k2, by have := HGK.out; have := HK.out; have := HK2.out; omega, rfl, by rw [HT2.out], H5.out⟩
    · obtain rfl : k = N := by have := HGK.out; omega
      have d0 : decide ((k : Int) < (k : Int)) = false := decide_eq_false (by omega)
      rw [HALL.out]
      have HLL := Lib.hid (And.intro HSO.out.len HSO2.out.len)
      clear hk
      have KT := Lib.hid (fun w (hA : StrsAt w A S) (hB : StrsAt w A2 S2) => rf_texts A A2 cap cap2 S S2 w (by rw [HSO.out.len]; omega) (by rw [HSO2.out.len]; omega) hA hB)
      rw [HSO.out.len, HSO2.out.len, HSAME.out] at KT
      have t0 : (s.toList == s.toList) = true := by simp
      go_wp2_with fail
      refine (KT.out _ (H3.out.1.below HB.out) (H3.out.2.1.below HB.out)).mono ?_
      rintro e w6 ⟨rfl, b6⟩
      have H6 := Lib.hid ((H3.out.2.2.trans (HB.out.mono H3.out.2.2.size)).trans (b6.mono (Nat.le_trans H3.out.2.2.size HB.out.size)))
      clear b6
      go_wp2
      go_ret
      exact ⟨by simp, H6.out⟩
set_option maxRecDepth 100000 in
set_option maxHeartbeats 1000000 in
theorem early (a : Int) (g1 g2 x1 x2 : Nat) (s t : ByteArray) (W : World) (hs : s.size ≤ maxLen) (ht : t.size ≤ maxLen) (h : ¬ (64 ≤ a ∧ a ≤ 512 ∧ s.size ≤ 1000 ∧ t.size ≤ 1000)) :
    Calls Try.prog 7 #[.int .i64 a, .int .u64 (g1 : Int), .int .u64 (g2 : Int), .int .u64 (x1 : Int), .int .u64 (x2 : Int), .string s, .string t] W fun e w' => e = .returned (.bool true) ∧ Below W.heap.size W w' := by
  unfold maxLen at hs ht
  by_cases h0 : a < 64
  · have d00 : decide (a < 64) = true := decide_eq_true (by omega)
    clear h h0
    go_enter Try.func7, Try.ntmps7
    go_wp2_with fail
    refine (fr_awake _).mono ?_
    rintro e w1 ⟨rfl, rfl⟩
    go_wp2
    go_ret
    exact ⟨rfl, Below.refl _ _⟩
  have d00 : decide (a < 64) = false := decide_eq_false (by omega)
  by_cases h1 : 512 < a
  · have d10 : decide (512 < a) = true := decide_eq_true (by omega)
    clear h h0 h1
    go_enter Try.func7, Try.ntmps7
    go_wp2_with fail
    refine (fr_awake _).mono ?_
    rintro e w1 ⟨rfl, rfl⟩
    go_wp2
    go_ret
    exact ⟨rfl, Below.refl _ _⟩
  have d10 : decide (512 < a) = false := decide_eq_false (by omega)
  by_cases h2 : 1000 < s.size
  · have d20 : decide ((1000 : Int) < (s.size : Int)) = true := decide_eq_true (by omega)
    have d21 : decide (1000 < s.size) = true := decide_eq_true (by omega)
    clear h h0 h1 h2
    go_enter Try.func7, Try.ntmps7
    go_wp2_with fail
    refine (fr_awake _).mono ?_
    rintro e w1 ⟨rfl, rfl⟩
    go_wp2
    go_ret
    exact ⟨rfl, Below.refl _ _⟩
  have d20 : decide ((1000 : Int) < (s.size : Int)) = false := decide_eq_false (by omega)
  have d21 : decide (1000 < s.size) = false := decide_eq_false (by omega)
  by_cases h3 : 1000 < t.size
  · have d30 : decide ((1000 : Int) < (t.size : Int)) = true := decide_eq_true (by omega)
    have d31 : decide (1000 < t.size) = true := decide_eq_true (by omega)
    clear h h0 h1 h2 h3
    go_enter Try.func7, Try.ntmps7
    go_wp2_with fail
    refine (fr_awake _).mono ?_
    rintro e w1 ⟨rfl, rfl⟩
    go_wp2
    go_ret
    exact ⟨rfl, Below.refl _ _⟩
  have d30 : decide ((1000 : Int) < (t.size : Int)) = false := decide_eq_false (by omega)
  have d31 : decide (1000 < t.size) = false := decide_eq_false (by omega)
  exact absurd ⟨by omega, by omega, by omega, by omega⟩ h
theorem frameApart_walk (a g1 g2 x1 x2 : Int) (s t : ByteArray) (ha : (Lit.int .i64 a).wf = true) (hg1 : (Lit.int .u64 g1).wf = true) (hg2 : (Lit.int .u64 g2).wf = true) (hx1 : (Lit.int .u64 x1).wf = true) (hx2 : (Lit.int .u64 x2).wf = true) (hs : s.size ≤ maxLen) (ht : t.size ≤ maxLen) (W : World) :
    Calls Try.prog 7 #[.int .i64 a, .int .u64 g1, .int .u64 g2, .int .u64 x1, .int .u64 x2, .string s, .string t] W fun e w' => e = .returned (.bool true) ∧ Below W.heap.size W w' := by
  obtain ⟨g1, rfl, k1⟩ := u64_nat' hg1
  obtain ⟨g2, rfl, k2⟩ := u64_nat' hg2
  obtain ⟨x1, rfl, k3⟩ := u64_nat' hx1
  obtain ⟨x2, rfl, k4⟩ := u64_nat' hx2
  by_cases h : 64 ≤ a ∧ a ≤ 512 ∧ s.size ≤ 1000 ∧ t.size ≤ 1000
  · obtain ⟨n, rfl⟩ := Int.eq_ofNat_of_zero_le (show 0 ≤ a by omega)
    by_cases q0 : g1 = g2
    · by_cases q1 : x1 = x2
      · by_cases q2 : s = t
        · exact main3 n g1 g2 x1 x2 s t W (by omega) (by omega) h.2.2.1 h.2.2.2 k1 k2 k3 k4 q0 q1 q2
        · exact main2 n g1 g2 x1 x2 s t W (by omega) (by omega) h.2.2.1 h.2.2.2 k1 k2 k3 k4 q0 q1 q2
      · exact main1 n g1 g2 x1 x2 s t W (by omega) (by omega) h.2.2.1 h.2.2.2 k1 k2 k3 k4 q0 q1
    · exact main0 n g1 g2 x1 x2 s t W (by omega) (by omega) h.2.2.1 h.2.2.2 k1 k2 k3 k4 q0
  · exact early a g1 g2 x1 x2 s t W hs ht h
end Go.Proofs.Ytfbjfleagilikaa.frameApart
