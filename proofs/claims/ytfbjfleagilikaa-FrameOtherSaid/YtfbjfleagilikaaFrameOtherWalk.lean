/- carracklaw05.FrameOther walked. No condition. -/
import Derived.Test.YtfbjfleagilikaaFrLawK
namespace Go.Proofs.Ytfbjfleagilikaa.frameOther
open Go.RowKit
set_option linter.unusedVariables false
set_option maxRecDepth 100000 in
set_option maxHeartbeats 4000000 in
theorem main (a g o x : Nat) (s : ByteArray) (W : World) (ha : 64 ≤ a) (h5 : a ≤ 512) (hs : s.size ≤ 3000) (hg : g < M64) (ho : o < M64) (hx : x < M64) :
    Calls Try.prog 6 #[.int .i64 (a : Int), .int .u64 (g : Int), .int .u64 (o : Int), .int .u64 (x : Int), .string s] W fun e w' => e = .returned (.bool true) ∧ Below W.heap.size W w' := by
  have HSO := Lib.hid (secOk a g x s ha h5 (by omega) hg hx)
  have HSC := Lib.hid (scan_one (a := a) (g := g) (x := x) (o := o) (s := s) ha h5 (by omega) hg hx)
  have KSP := Lib.hid (fun w => fr_split a g x s w hg hx)
  have HOP : Hid (∀ w e w', SplitPost a g x s w e w' → _) := Lib.hid (fun w e w' h => split_open ha h5 (by omega) hg hx h)
  have HA := Lib.hid (And.intro ha (And.intro h5 ho))
  have ha1 : 64 ≤ (a : Int) := by omega
  have ha2 : (a : Int) ≤ 512 := by omega
  have d0 : decide ((a : Int) < 64) = false := decide_eq_false (by omega)
  have d1 : decide ((512 : Int) < (a : Int)) = false := decide_eq_false (by omega)
  have d2 : decide ((3000 : Int) < (s.size : Int)) = false := decide_eq_false (by omega)
  have e0 : decide (a < 64) = false := decide_eq_false (by omega)
  have e1 : decide (512 < a) = false := decide_eq_false (by omega)
  have e2 : decide (3000 < s.size) = false := decide_eq_false (by omega)
  have HTZ : Hid ((catL (secs a g x s)).size ≤ 30000) := Lib.hid (by
    rw [catL_size a _ (sec_size a g x s ha (by omega)), secs_len]
    have := n_room a s.size ha h5 (by omega)
    omega)
  generalize secs a g x s = S at *
  generalize nParts a s.size = N at *
  have hN106 : N ≤ 106 := HSO.out.le.2
  clear ha h5 hs hg hx ho
  go_enter Try.func6, Try.ntmps6
  go_wp2_with fail
  refine (fr_awake _).mono ?_
  rintro e w1 ⟨rfl, rfl⟩
  go_wp2_with fail
  refine (KSP.out _).mono ?_
  intro e w2 hp
  obtain ⟨A, cap, rfl, hA, hb⟩ := HOP.out _ _ _ hp
  have H2 := Lib.hid (And.intro hA hb)
  clear hp hA hb d0 d1 d2 e0 e1 e2 KSP HOP
  go_wp2
  go_loopg [13, 14] N (fun gk t i wr => ∃ k : Nat, k + gk = N ∧ i = .int .i64 (k : Int) ∧ t = .string (catL (S.take k)) ∧ Below w2.heap.size w2 wr)
  case atStart => exact ⟨0, by omega, rfl, rfl, Below.refl _ _⟩
  case round =>
    obtain ⟨k, hgk, rfl, rfl, hbw⟩ := hrel
    have HB := Lib.hid hbw
    have HGK := Lib.hid hgk
    clear hbw hgk
    by_cases hk : k < N
    · have d0 : decide ((k : Int) < (N : Int)) = true := decide_eq_true (by omega)
      have d1 : decide (k < N) = true := decide_eq_true hk
      have hkl : k < S.length := by rw [HSO.out.len]; exact hk
      obtain ⟨B, off, rfl, hB, hc⟩ := H2.out.1.at_ k hkl
      have c0 := (HB.out.cell (p := ⟨B, off + k, none⟩) hB).trans hc
      have HRD := Lib.hid (HSO.out.rd k hkl)
      have hct := catL_take S k hkl
      have hz1 : (catL (S.take k)).size ≤ 106 * 512 := by rw [catL_take_size a S HSO.out.sz k (by omega)]; exact Nat.mul_le_mul (by omega) HA.out.2.1
      have hz2 : (S[k]'hkl).size ≤ 512 := by rw [HSO.out.sz _ (List.getElem_mem _)]; exact HA.out.2.1
      have hz3 : ¬ 9223372036854775807 < (catL (S.take k)).size + (S[k]'hkl).size := by omega
      have hkb : k ≤ 106 := by omega
      have HK := Lib.hid hk
      have hkn : (k : Int) < (N : Int) := by omega
      obtain ⟨k2, hk2⟩ : ∃ z, z = k + 1 := ⟨_, rfl⟩
      rw [← hk2] at hct
      have hk3 : (k : Int) + 1 = (k2 : Int) := by omega
      have HK2 := Lib.hid hk2
      clear hk hk2 hB hc
      generalize hsk : S[k]'hkl = sk at *
      generalize catL (S.take k) = tk at *
      generalize hct2 : catL (S.take k2) = tk2 at *
      have HT2 := Lib.hid hct2
      have HSK := Lib.hid hsk
      clear hsk hct2
      go_wp2_with fail
      refine (fr_read (a : Int) sk _).mono ?_
      rw [HRD.out]
      rintro e w3 ⟨rfl, b3⟩
      have H3 := Lib.hid (HB.out.trans (b3.mono HB.out.size))
      have H4 := Lib.hid (H3.out.trans ((Kq.below_alloc w3 (.cells #[.int .u64 (g : Int), .int .u64 (x : Int), .int .i64 (k : Int), .int .i64 (N : Int), .string (pieceC (a - 25) s k)] 40)).mono H3.out.size))
      have HBK := Lib.hid (Kq.blk_new w3 #[.int .u64 (g : Int), .int .u64 (x : Int), .int .i64 (k : Int), .int .i64 (N : Int), .string (pieceC (a - 25) s k)] 40 (0, 0))
      clear b3
      simp only [readVal, partOf, FrP.val]
      generalize pieceC (a - 25) s k = pc at *
      have q0 := Kq.blk_cell HBK.out 0
      have q1 := Kq.blk_cell HBK.out 1
      have q2 := Kq.blk_cell HBK.out 2
      have q3 := Kq.blk_cell HBK.out 3
      go_wp2
      go_roundg (N - (k + 1))
      case measure => have := HGK.out; have := HK.out; omega
      case rel => exact ⟨k2, by have := HGK.out; have := HK.out; have := HK2.out; omega, rfl, by rw [HT2.out], H4.out⟩
    · have d0 : decide ((k : Int) < (N : Int)) = false := decide_eq_false (by omega)
      have d1 : decide (k < N) = false := decide_eq_false hk
      obtain rfl : k = N := by have := HGK.out; omega
      have hte : S.take k = S := List.take_of_length_le (by rw [HSO.out.len]; exact Nat.le_refl _)
      rw [hte]
      clear hte hk d0 d1
      have d0 : decide ((k : Int) < (k : Int)) = false := decide_eq_false (by omega)
      by_cases hc : o = g ∧ x = 0
      · rw [if_pos hc] at HSC
        have KSC := Lib.hid (fun w e w' (h : ScanPost a o (catL S) w e w') => scan_open HSC.out h)
        have KC := Lib.hid (fun w => fr_scan a o (catL S) w HTZ.out HA.out.2.2)
        generalize catL S = T at *
        have c0 : ((o : Int) == (g : Int)) = true := by rw [hc.1]; simp
        have c0' : (o == g) = true := by rw [hc.1]; simp
        have c1 : ((x : Int) == 0) = true := by rw [hc.2]; rfl
        have c1' : (x == 0) = true := by rw [hc.2]; rfl
        clear hc
        go_wp2_with fail
        refine (KC.out _).mono ?_
        intro e w5 hp
        obtain ⟨A5, cap5, rfl, h5, b5⟩ := KSC.out _ _ _ hp
        have H5 := Lib.hid ((H2.out.2.trans (HB.out.mono H2.out.2.size)).trans (b5.mono (Nat.le_trans H2.out.2.size HB.out.size)))
        obtain ⟨B5, o5, rfl, hB5, hc5⟩ := h5.at_ 0 (by simp)
        simp only [List.getElem_cons_zero, Nat.add_zero] at hc5
        clear hp h5 b5 hB5
        simp only [List.length_cons, List.length_nil, Nat.zero_add]
        go_wp2
        go_ret
        exact ⟨by simp, H5.out⟩
      · rw [if_neg hc] at HSC
        have KSC := Lib.hid (fun w e w' (h : ScanPost a o (catL S) w e w') => scan_open HSC.out h)
        have KC := Lib.hid (fun w => fr_scan a o (catL S) w HTZ.out HA.out.2.2)
        generalize catL S = T at *
        by_cases hog : o = g
        · have c0 : ((o : Int) == (g : Int)) = true := by rw [hog]; simp
          have c0' : (o == g) = true := by rw [hog]; simp
          have c1 : ((x : Int) == 0) = false := by simp; intro h; exact hc ⟨hog, h⟩
          have c1' : (x == 0) = false := by simp; intro h; exact hc ⟨hog, h⟩
          clear hc hog
          go_wp2_with fail
          refine (KC.out _).mono ?_
          intro e w5 hp
          obtain ⟨A5, cap5, rfl, h5, b5⟩ := KSC.out _ _ _ hp
          have H5 := Lib.hid ((H2.out.2.trans (HB.out.mono H2.out.2.size)).trans (b5.mono (Nat.le_trans H2.out.2.size HB.out.size)))
          clear hp h5 b5
          go_wp2
          go_ret
          exact ⟨by simp, H5.out⟩
        · have c0 : ((o : Int) == (g : Int)) = false := by simp; omega
          have c0' : (o == g) = false := by simp; exact hog
          clear hc hog
          go_wp2_with fail
          refine (KC.out _).mono ?_
          intro e w5 hp
          obtain ⟨A5, cap5, rfl, h5, b5⟩ := KSC.out _ _ _ hp
          have H5 := Lib.hid ((H2.out.2.trans (HB.out.mono H2.out.2.size)).trans (b5.mono (Nat.le_trans H2.out.2.size HB.out.size)))
          clear hp h5 b5
          go_wp2
          go_ret
          exact ⟨by simp, H5.out⟩
set_option maxRecDepth 100000 in
set_option maxHeartbeats 1000000 in
theorem early (a : Int) (g o x : Nat) (s : ByteArray) (W : World) (hs : s.size ≤ maxLen) (h : ¬ (64 ≤ a ∧ a ≤ 512 ∧ s.size ≤ 3000)) :
    Calls Try.prog 6 #[.int .i64 a, .int .u64 (g : Int), .int .u64 (o : Int), .int .u64 (x : Int), .string s] W fun e w' => e = .returned (.bool true) ∧ Below W.heap.size W w' := by
  unfold maxLen at hs
  by_cases h0 : a < 64
  · have d0 : decide (a < 64) = true := decide_eq_true h0
    clear h h0
    go_enter Try.func6, Try.ntmps6
    go_wp2_with fail
    refine (fr_awake _).mono ?_
    rintro e w1 ⟨rfl, rfl⟩
    go_wp2
    go_ret
    exact ⟨rfl, Below.refl _ _⟩
  have d0 : decide (a < 64) = false := decide_eq_false h0
  by_cases h1 : 512 < a
  · have d1 : decide (512 < a) = true := decide_eq_true h1
    clear h h0 h1
    go_enter Try.func6, Try.ntmps6
    go_wp2_with fail
    refine (fr_awake _).mono ?_
    rintro e w1 ⟨rfl, rfl⟩
    go_wp2
    go_ret
    exact ⟨rfl, Below.refl _ _⟩
  have d1 : decide (512 < a) = false := decide_eq_false h1
  have d2 : decide ((3000 : Int) < (s.size : Int)) = true := decide_eq_true (by omega)
  have d2' : decide (3000 < s.size) = true := decide_eq_true (by omega)
  clear h h0 h1
  go_enter Try.func6, Try.ntmps6
  go_wp2_with fail
  refine (fr_awake _).mono ?_
  rintro e w1 ⟨rfl, rfl⟩
  go_wp2
  go_ret
  exact ⟨rfl, Below.refl _ _⟩
theorem frameOther_walk (a g o x : Int) (s : ByteArray) (ha : (Lit.int .i64 a).wf = true) (hg : (Lit.int .u64 g).wf = true) (ho : (Lit.int .u64 o).wf = true) (hx : (Lit.int .u64 x).wf = true) (hs : s.size ≤ maxLen) (W : World) :
    Calls Try.prog 6 #[.int .i64 a, .int .u64 g, .int .u64 o, .int .u64 x, .string s] W fun e w' => e = .returned (.bool true) ∧ Below W.heap.size W w' := by
  obtain ⟨g, rfl, hg'⟩ := u64_nat' hg
  obtain ⟨o, rfl, ho'⟩ := u64_nat' ho
  obtain ⟨x, rfl, hx'⟩ := u64_nat' hx
  by_cases h : 64 ≤ a ∧ a ≤ 512 ∧ s.size ≤ 3000
  · obtain ⟨n, rfl⟩ := Int.eq_ofNat_of_zero_le (show 0 ≤ a by omega)
    exact main n g o x s W (by omega) (by omega) h.2.2 hg' ho' hx'
  · exact early a g o x s W hs h
end Go.Proofs.Ytfbjfleagilikaa.frameOther
