/- carracklaw06.HeadTells walked. No condition. -/
import Derived.WalkSpells
import Derived.Test.YtejhlommjgibmaaHdAwake
import Derived.Test.YtejhlommjgibmaaStrsOpen
namespace Go.Proofs.Ytejhlommjgibmaa.headTells
open Go.RowKit
set_option linter.unusedVariables false
theorem kp {w w' : World} {k : Nat} {o : Obj} (h : w.heap[k]? = some o) (hb : Below w.heap.size w w') : w'.heap[k]? = some o := Kq.below_blk hb h (Kq.blk_lt h)
theorem boxed (W w : World) (cs : Array Value) (t : TypeId) (h : Below W.heap.size W w) : (w.alloc (.cells cs t)).heap[w.heap.size]? = some (.cells cs t (0, 0)) ∧ Below W.heap.size W (w.alloc (.cells cs t)) ∧ (∀ (k : Nat) (o : Obj), w.heap[k]? = some o → (w.alloc (.cells cs t)).heap[k]? = some o) :=
  ⟨Kq.blk_new w cs t (0, 0), h.trans ((Kq.below_alloc w _).mono h.size), fun k o hk => kp hk (Kq.below_alloc w _)⟩
/-- both puts tell the same -/
theorem puts (a : Int) (g : Nat) (sg : Int) (hg : g < M64) : ∃ (S : ByteArray) (e : Int), (∀ w : World, Calls Try.prog 7 #[.int .i64 a, .agg #[.int .u64 (g : Int), .int .i64 sg]] w fun x w' => x = .returned (.tuple #[.string S, .int .i64 e]) ∧ Below w.heap.size w w') ∧
    (∀ w : World, Calls Try.prog 8 #[.int .i64 a, .agg #[.int .u64 (g : Int), .int .i64 sg]] w fun x w' => x = .returned (.tuple #[.string S, .int .i64 e]) ∧ Below w.heap.size w w') := by
  by_cases h : HdOk a g sg
  · obtain ⟨n, rfl⟩ := Int.eq_ofNat_of_zero_le (show 0 ≤ a by have := h.a0; omega)
    obtain ⟨m, rfl⟩ := Int.eq_ofNat_of_zero_le h.s0
    exact ⟨_, _, fun w => hd_put_ok n g m w h hg, fun w => rf_put_ok n g m w h hg⟩
  · exact ⟨_, _, fun w => hd_put_bad a g sg w h, fun w => rf_put_bad a g sg w h⟩
set_option maxRecDepth 100000 in
set_option maxHeartbeats 2000000 in
theorem early (a g sg : Int) (A : Option Addr) (cap : Nat) (l : List ByteArray) (W : World) (hl : l.length ≤ maxLen) (h : 20 < l.length) :
    Calls Try.prog 3 #[.int .i64 a, .int .u64 g, .int .i64 sg, .slice A l.length cap] W fun x w' => x = .returned (.bool true) ∧ Below W.heap.size W w' := by
  unfold maxLen at hl
  have d0 : decide ((20 : Int) < (l.length : Int)) = true := decide_eq_true (by omega)
  have d1 : decide (20 < l.length) = true := decide_eq_true h
  go_enter Try.func3, Try.ntmps3
  go_wp2_with fail
  refine (awake _).mono ?_
  rintro x w1 ⟨rfl, b1⟩
  have H1 := Lib.hid b1
  clear b1
  go_wp2
  go_ret
  exact ⟨rfl, H1.out⟩
set_option maxRecDepth 100000 in
set_option maxHeartbeats 8000000 in
theorem main (a : Int) (g : Nat) (sg : Int) (A : Option Addr) (cap : Nat) (l : List ByteArray) (W : World) (hl : l.length ≤ 20) (hg : g < M64) (hs : ∀ s ∈ l, s.size ≤ maxLen) (hc : StrsAt W A l) :
    Calls Try.prog 3 #[.int .i64 a, .int .u64 (g : Int), .int .i64 sg, .slice A l.length cap] W fun x w' => x = .returned (.bool true) ∧ Below W.heap.size W w' := by
  have d0 : decide ((20 : Int) < (l.length : Int)) = false := decide_eq_false (by omega)
  have d1 : decide (20 < l.length) = false := decide_eq_false (by omega)
  obtain ⟨S, E, hp1, hp2⟩ := puts a g sg hg
  have HP1 := Lib.hid hp1
  have HP2 := Lib.hid hp2
  have HG := Lib.hid hg
  have HS := Lib.hid hs
  have HC := Lib.hid hc
  clear hp1 hp2 hg hs hc
  go_enter Try.func3, Try.ntmps3
  go_wp2_with fail
  refine (awake _).mono ?_
  rintro x w1 ⟨rfl, b1⟩
  have H1 := Lib.hid b1
  clear b1
  go_wp2
  clear d0 d1
  go_loop [9] (fun i => ∃ j : Nat, j ≤ l.length ∧ i = .int .i64 (j : Int)) (fun i => l.length - (intOf i).toNat)
  case atStart => exact ⟨0, by omega, rfl⟩
  case round =>
    obtain ⟨j, hj, rfl⟩ := hrel
    by_cases hlt : j < l.length
    · obtain ⟨G, o, rfl, hG, hcell⟩ := HC.out.at_ j hlt
      have hst : w1.cell? ⟨G, o + j, none⟩ = some (.string l[j]) := (H1.out.cell (p := ⟨G, o + j, none⟩) hG).trans hcell
      have HSZ := Lib.hid (HS.out l[j] (List.getElem_mem _))
      generalize l[j] = s at *
      clear hG hcell
      by_cases hbig : 1000 < s.size
      · have e0 : decide ((1000 : Int) < (s.size : Int)) = true := decide_eq_true (by omega)
        go_wp2
        go_ret
        exact ⟨rfl, H1.out⟩
      · have e0 : decide ((1000 : Int) < (s.size : Int)) = false := decide_eq_false (by omega)
        clear hbig
        go_wp2
        go_round
        case rel => exact ⟨j + 1, by omega, by go_num⟩
        case measure => simp [intOf]; omega
    · have hk' : j = l.length := Nat.le_antisymm hj (Nat.not_lt.1 hlt)
      subst hk'
      go_wp2_with fail
      refine (HP1.out _).mono ?_
      rintro x w2 ⟨rfl, b2⟩
      have H2 := Lib.hid (H1.out.trans (b2.mono H1.out.size))
      clear b2
      go_wp2_with fail
      refine (HP2.out _).mono ?_
      rintro x w3 ⟨rfl, b3⟩
      have H3 := Lib.hid (H2.out.trans (b3.mono H2.out.size))
      clear b3
      go_wp2_with fail
      refine (hd_newest a A cap l _ (by omega) HS.out (HC.out.below H3.out)).mono ?_
      obtain ⟨n, hn⟩ : ∃ n, n = nw a.toNat l l.length := ⟨_, rfl⟩
      rw [← hn]
      have HNW := Lib.hid hn
      clear hn
      obtain ⟨ng, nsg, nat⟩ := n
      simp only
      rintro x w4 ⟨rfl, b4⟩
      have H4 := Lib.hid (boxed W w4 #[.int .u64 ((ng : Nat) : Int), .int .i64 ((nsg : Nat) : Int)] 29 (H3.out.trans (b4.mono H3.out.size)))
      clear b4 H3
      go_wp2_with fail
      refine (r6.rf_newest a A cap l _ (by omega) HS.out (HC.out.below H4.out.2.1)).mono ?_
      rw [← HNW.out]
      simp only
      rintro x w5 ⟨rfl, b5⟩
      have Q5 := Lib.hid (boxed W w5 #[.int .u64 ((ng : Nat) : Int), .int .i64 ((nsg : Nat) : Int)] 32 (H4.out.2.1.trans (b5.mono H4.out.2.1.size)))
      have H5 := Lib.hid (And.intro (Q5.out.2.2 _ _ (kp H4.out.1 b5)) (And.intro Q5.out.1 Q5.out.2.1))
      clear b5 H4 HNW Q5
      generalize w4.heap.size = X1 at *
      go_wp2_with fail
      refine (hd_next g sg _ HG.out).mono ?_
      rintro x w6 ⟨rfl, b6⟩
      have Q6 := Lib.hid (boxed W w6 #[.int .u64 ((nxG g : Nat) : Int), .int .i64 (nxS g sg)] 29 (H5.out.2.2.trans (b6.mono H5.out.2.2.size)))
      have H6 := Lib.hid (And.intro (Q6.out.2.2 _ _ (kp H5.out.1 b6)) (And.intro (Q6.out.2.2 _ _ (kp H5.out.2.1 b6)) (And.intro Q6.out.1 Q6.out.2.1)))
      clear b6 H5 Q6
      generalize w5.heap.size = X2 at *
      go_wp2_with fail
      refine (rf_next g sg _ HG.out).mono ?_
      rintro x w7 ⟨rfl, b7⟩
      have Q7 := Lib.hid (boxed W w7 #[.int .u64 ((nxG g : Nat) : Int), .int .i64 (nxS g sg)] 32 (H6.out.2.2.2.trans (b7.mono H6.out.2.2.2.size)))
      have H7 := Lib.hid (And.intro (Q7.out.2.2 _ _ (kp H6.out.1 b7)) (And.intro (Q7.out.2.2 _ _ (kp H6.out.2.1 b7)) (And.intro (Q7.out.2.2 _ _ (kp H6.out.2.2.1 b7)) (And.intro Q7.out.1 Q7.out.2.1))))
      clear b7 H6 Q7
      generalize w6.heap.size = X3 at *
      generalize nxE g = xe at *
      generalize nxS g sg = xs at *
      generalize ((nxG g : Nat) : Int) = xg at *
      have a0 := Kq.blk_cell H7.out.1 0
      have a1 := Kq.blk_cell H7.out.1 1
      have a2 := Kq.blk_cell H7.out.2.1 0
      have a3 := Kq.blk_cell H7.out.2.1 1
      have a4 := Kq.blk_cell H7.out.2.2.1 0
      have a5 := Kq.blk_cell H7.out.2.2.1 1
      have a6 := Kq.blk_cell H7.out.2.2.2.1 0
      have a7 := Kq.blk_cell H7.out.2.2.2.1 1
      have HB7 := Lib.hid H7.out.2.2.2.2
      clear H7
      go_wp2
      obtain ⟨wo, hwo⟩ : ∃ wo, wo = w7.alloc (.cells #[.int .u64 xg, .int .i64 xs] 32) := ⟨_, rfl⟩
      rw [← hwo] at HB7 ⊢
      clear a0 a1 a2 a3 a4 a5 a6 a7 hwo
      go_loopw [22] (fun i wr => ∃ j : Nat, j ≤ l.length ∧ i = .int .i64 (j : Int) ∧ Below W.heap.size W wr) (fun i _ => l.length - (intOf i).toNat)
      case atStart => exact ⟨0, by omega, rfl, HB7.out⟩
      case round =>
        obtain ⟨j, hj, rfl, hbw⟩ := hrel
        have HBW := Lib.hid hbw
        clear hbw
        by_cases hlt : j < l.length
        · obtain ⟨G, o, rfl, hG, hcell⟩ := HC.out.at_ j hlt
          have HSZ := Lib.hid (HS.out l[j] (List.getElem_mem _))
          generalize l[j] = s at *
          have HCL := Lib.hid (And.intro hG hcell)
          have hst : wr.cell? ⟨G, o + j, none⟩ = some (.string s) := (HBW.out.cell (p := ⟨G, o + j, none⟩) HCL.out.1).trans HCL.out.2
          clear hG hcell
          obtain ⟨rg, rs, re, hR⟩ : ∃ rg rs re, HdRes a.toNat s = .tuple #[.agg #[.int .u64 rg, .int .i64 rs], .int .i64 re] := ⟨_, _, _, rfl⟩
          have HRS := Lib.hid hR
          clear hR
          go_wp2_with fail
          refine (hd_get' a s _ HSZ.out).mono ?_
          rw [HRS.out]
          rintro x w8 ⟨rfl, b8⟩
          have H8 := Lib.hid (boxed W w8 #[.int .u64 rg, .int .i64 rs] 29 (HBW.out.trans (b8.mono HBW.out.size)))
          clear b8 hst
          have hst : (w8.alloc (.cells #[.int .u64 rg, .int .i64 rs] 29)).cell? ⟨G, o + j, none⟩ = some (.string s) := (H8.out.2.1.cell (p := ⟨G, o + j, none⟩) HCL.out.1).trans HCL.out.2
          have hG8 : G < w8.heap.size := by
            have h1 := Nat.lt_of_lt_of_le HCL.out.1 HBW.out.size
            have h2 := H8.out.2.1.size
            have h3 := Kq.blk_lt H8.out.1
            rcases Nat.lt_or_ge G w8.heap.size with h | h
            · exact h
            · exfalso
              have h4 := Kq.blk_cell H8.out.1 (o + j)
              have : G = w8.heap.size := by
                have h5 := HCL.out.1
                have h6 := HBW.out.size
                have h7 := H8.out.2.1.size
                rw [World.size_alloc] at h3
                have h8 : (w8.alloc (.cells #[.int .u64 rg, .int .i64 rs] 29)).cell? ⟨G, o + j, none⟩ = some (.string s) := hst
                have h9 : G < (w8.alloc (.cells #[.int .u64 rg, .int .i64 rs] 29)).heap.size := Nat.lt_of_lt_of_le h5 h7
                rw [World.size_alloc] at h9
                omega
              subst this
              rw [hst] at h4
              have hk : o + j = 0 ∨ o + j = 1 ∨ 2 ≤ o + j := by omega
              rcases hk with h | h | h
              · rw [h] at h4; cases h4
              · rw [h] at h4; cases h4
              · rw [Array.getElem?_eq_none (by simpa using h)] at h4; cases h4
          go_wp2_with fail
          refine (rf_get a s _).mono ?_
          rw [HRS.out]
          rintro x w9 ⟨rfl, b9⟩
          have Q9 := Lib.hid (boxed W w9 #[.int .u64 rg, .int .i64 rs] 32 (H8.out.2.1.trans (b9.mono H8.out.2.1.size)))
          have H9 := Lib.hid (And.intro (Q9.out.2.2 _ _ (kp H8.out.1 b9)) (And.intro Q9.out.1 Q9.out.2.1))
          clear b9 hst hG8 H8 Q9
          generalize w8.heap.size = Y1 at *
          have a0 := Kq.blk_cell H9.out.1 0
          have a1 := Kq.blk_cell H9.out.1 1
          have a2 := Kq.blk_cell H9.out.2.1 0
          have a3 := Kq.blk_cell H9.out.2.1 1
          go_wp2
          go_roundw
          case rel => exact ⟨j + 1, by omega, by go_num, H9.out.2.2⟩
          case measure => simp [intOf]; omega
        · have hk' : j = l.length := Nat.le_antisymm hj (Nat.not_lt.1 hlt)
          subst hk'
          go_wp2
          go_ret
          exact ⟨rfl, HBW.out⟩
theorem headTells_walk (a g sg : Int) (v : Value) {W : World} (wa : (Lit.int .i64 a).wf = true) (wg : (Lit.int .u64 g).wf = true) (ws : (Lit.int .i64 sg).wf = true) (hd : ∃ A cap l, v = .slice A l.length cap ∧ l.length ≤ maxLen ∧ (∀ s ∈ l, s.size ≤ maxLen) ∧ StrsAt W A l) :
    Calls Try.prog 3 #[.int .i64 a, .int .u64 g, .int .i64 sg, v] W fun x w' => x = .returned (.bool true) ∧ Below W.heap.size W w' := by
  obtain ⟨A, cap, l, rfl, hl, hs, hc⟩ := hd
  have hg : 0 ≤ g ∧ g < 18446744073709551616 := by
    simp [Lit.wf, IntKind.min, IntKind.max, IntKind.signed, IntKind.bits] at wg; omega
  obtain ⟨n, rfl⟩ := Int.eq_ofNat_of_zero_le hg.1
  by_cases h : 20 < l.length
  · exact early a n sg A cap l W hl h
  · exact main a n sg A cap l W (by omega) (by unfold M64; omega) hs hc
end Go.Proofs.Ytejhlommjgibmaa.headTells
