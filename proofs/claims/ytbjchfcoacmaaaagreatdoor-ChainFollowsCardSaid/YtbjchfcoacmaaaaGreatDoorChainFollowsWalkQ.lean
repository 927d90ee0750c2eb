/- Merged: ChainProvesWalk, ChainFollowsWalk. carracklaw13.ChainProves walked. Condition: the constants lie where they lie. carracklaw13.ChainFollows walked. Condition: the constants lie where they lie. -/
import Derived.WalkSpells
import Derived.Outline
import Derived.ProofKit
import Derived.Test.YtbjchfcoacmaaaaGreatDoorCnNkQ
import Derived.Test.YtbjchfcoacmaaaaGreatDoorCnFewQ
import Derived.Test.YtbjchfcoacmaaaaGreatDoorCnOpenQ
import Derived.Test.YtbjchfcoacmaaaaGreatDoorCnPrvMQ
import Derived.Test.YtbjchfcoacmaaaaGreatDoorPfQ2Q
import Derived.Deep.LoopGhost
import Derived.Test.YtbjchfcoacmaaaaGreatDoorCnLogQ
import Derived.Test.YtbjchfcoacmaaaaGreatDoorNtSameNQ
namespace Go.Proofs.YtbjchfcoacmaaaaGreatDoor
open Go.RowKit
set_option linter.unusedVariables false
namespace chainProves
set_option maxRecDepth 100000 in
set_option maxHeartbeats 1000000 in
theorem early (h0 h1 s0 s1 : Nat) (A : Option Addr) (ca : Nat) (l : List CaV) (key : ByteArray) (W : World) (hA : caE.Lo W W.heap.size A l) (hL : LaidOk W) (hno : ¬ FewC s0 s1 l) :
    Calls Tryz.prog 6 #[.agg #[.int .u64 (h0 : Int), .int .u64 (h1 : Int)], .agg #[.int .u64 (s0 : Int), .int .u64 (s1 : Int)], .slice A l.length ca, .string key] W fun x w' => x = .returned (.bool true) ∧ Below W.heap.size W w' := by
  have d0 : Hid (decide (FewC s0 s1 l) = false) := Lib.hid (decide_eq_false hno)
  clear hno
  obtain ⟨Y, hY⟩ : ∃ Y, Y = W.heap.size := ⟨_, rfl⟩
  obtain ⟨wb, hwb⟩ : ∃ z, z = (W.alloc (.cells #[.int .u64 (h0 : Int), .int .u64 (h1 : Int)] 40)).alloc (.cells #[.int .u64 (s0 : Int), .int .u64 (s1 : Int)] 40) := ⟨_, rfl⟩
  have H0 : Hid (ArrB wb Y (h0 : Int) (h1 : Int) (s0 : Int) (s1 : Int) ∧ Below W.heap.size W wb) := Lib.hid (by
    have := ArrB.new W (h0 : Int) (h1 : Int) (s0 : Int) (s1 : Int)
    rw [← hwb, ← hY] at this
    exact ⟨this.1, by rw [← hY]; exact this.2⟩)
  have HL := Lib.hid hL
  have HA := Lib.hid hA
  clear hL hA
  go_enter Tryz.func6, Tryz.ntmps6
  go_wp2_with fail
  rw [← hwb, ← hY]
  clear hwb hY
  refine (awake13 wb (HL.out.later H0.out.2)).mono ?_
  rintro x w1 ⟨rfl, b1⟩
  have H1 : Hid (ArrB w1 Y (h0 : Int) (h1 : Int) (s0 : Int) (s1 : Int) ∧ Below W.heap.size W w1) := Lib.hid ⟨H0.out.1.below b1, H0.out.2.trans (b1.mono H0.out.2.size)⟩
  clear b1 H0
  have y0 := Kq.blk_cell H1.out.1.2 0
  have y1 := Kq.blk_cell H1.out.1.2 1
  go_wp2_with fail
  refine (few13 s0 s1 l A ca w1 (HA.out.below H1.out.2).at).mono ?_
  rintro x w2 ⟨rfl, b2⟩
  have H2 : Hid (ArrB w2 Y (h0 : Int) (h1 : Int) (s0 : Int) (s1 : Int) ∧ Below W.heap.size W w2) := Lib.hid ⟨H1.out.1.below b2, H1.out.2.trans (b2.mono H1.out.2.size)⟩
  clear b2 H1 y0 y1
  rw [d0.out]
  clear d0
  go_wp2
  go_ret
  exact ⟨rfl, H2.out.2⟩
set_option maxRecDepth 100000 in
set_option maxHeartbeats 4000000 in
theorem short (h0 h1 s0 s1 : Nat) (A : Option Addr) (ca : Nat) (l : List CaV) (key : ByteArray) (W : World) (hA : caE.Lo W W.heap.size A l) (hL : LaidOk W) (hf : FewC s0 s1 l) (hwf : ∀ a ∈ l, a.wf) (hh0 : h0 < 18446744073709551616) (hh1 : h1 < 18446744073709551616) (hs0 : s0 < 18446744073709551616) (hs1 : s1 < 18446744073709551616) (hk : key.size < 1) :
    Calls Tryz.prog 6 #[.agg #[.int .u64 (h0 : Int), .int .u64 (h1 : Int)], .agg #[.int .u64 (s0 : Int), .int .u64 (s1 : Int)], .slice A l.length ca, .string key] W fun x w' => x = .returned (.bool true) ∧ Below W.heap.size W w' := by
  have k1 : decide ((key.size : Int) < 1) = true := decide_eq_true (by omega)
  have k2 : decide (key.size < 1) = true := decide_eq_true hk
  clear hk
  have d0 : Hid (decide (FewC s0 s1 l) = true) := Lib.hid (decide_eq_true hf)
  have HF : Hid (l.length ≤ 50 ∧ ∀ j (h : j < l.length), CaOk l[j]) := Lib.hid ⟨hf.2.1, fun j h => ⟨(hwf _ (List.getElem_mem h)).1, (hwf _ (List.getElem_mem h)).2.1, (hwf _ (List.getElem_mem h)).2.2, (hf.2.2 _ (List.getElem_mem h)).1, (hf.2.2 _ (List.getElem_mem h)).2⟩⟩
  have HSQ := Lib.hid (And.intro hf.1.1 (And.intro hf.1.2 (And.intro hs0 (And.intro hs1 (And.intro hh0 hh1)))))
  clear hf hwf hh0 hh1 hs0 hs1
  obtain ⟨Y, hY⟩ : ∃ Y, Y = W.heap.size := ⟨_, rfl⟩
  obtain ⟨wb, hwb⟩ : ∃ z, z = (W.alloc (.cells #[.int .u64 (h0 : Int), .int .u64 (h1 : Int)] 40)).alloc (.cells #[.int .u64 (s0 : Int), .int .u64 (s1 : Int)] 40) := ⟨_, rfl⟩
  have H0 : Hid (ArrB wb Y (h0 : Int) (h1 : Int) (s0 : Int) (s1 : Int) ∧ Below W.heap.size W wb) := Lib.hid (by
    have := ArrB.new W (h0 : Int) (h1 : Int) (s0 : Int) (s1 : Int)
    rw [← hwb, ← hY] at this
    exact ⟨this.1, by rw [← hY]; exact this.2⟩)
  have HL := Lib.hid hL
  have HA := Lib.hid hA
  clear hL hA
  go_enter Tryz.func6, Tryz.ntmps6
  go_wp2_with fail
  rw [← hwb, ← hY]
  clear hwb hY
  refine (awake13 wb (HL.out.later H0.out.2)).mono ?_
  rintro x w1 ⟨rfl, b1⟩
  have H1 : Hid (ArrB w1 Y (h0 : Int) (h1 : Int) (s0 : Int) (s1 : Int) ∧ Below W.heap.size W w1) := Lib.hid ⟨H0.out.1.below b1, H0.out.2.trans (b1.mono H0.out.2.size)⟩
  clear b1 H0
  have y0 := Kq.blk_cell H1.out.1.2 0
  have y1 := Kq.blk_cell H1.out.1.2 1
  go_wp2_with fail
  refine (few13 s0 s1 l A ca w1 (HA.out.below H1.out.2).at).mono ?_
  rintro x w2 ⟨rfl, b2⟩
  have H2 : Hid (ArrB w2 Y (h0 : Int) (h1 : Int) (s0 : Int) (s1 : Int) ∧ Below W.heap.size W w2) := Lib.hid ⟨H1.out.1.below b2, H1.out.2.trans (b2.mono H1.out.2.size)⟩
  clear b2 H1 y0 y1
  rw [d0.out]
  clear d0
  go_wp2
  go_ret
  exact ⟨rfl, H2.out.2⟩
set_option maxRecDepth 100000 in
set_option maxHeartbeats 4000000 in
theorem long (h0 h1 s0 s1 : Nat) (A : Option Addr) (ca : Nat) (l : List CaV) (key : ByteArray) (W : World) (hA : caE.Lo W W.heap.size A l) (hL : LaidOk W) (hf : FewC s0 s1 l) (hwf : ∀ a ∈ l, a.wf) (hh0 : h0 < 18446744073709551616) (hh1 : h1 < 18446744073709551616) (hs0 : s0 < 18446744073709551616) (hs1 : s1 < 18446744073709551616) (hk1 : ¬ key.size < 1) (hk : 16 < key.size) :
    Calls Tryz.prog 6 #[.agg #[.int .u64 (h0 : Int), .int .u64 (h1 : Int)], .agg #[.int .u64 (s0 : Int), .int .u64 (s1 : Int)], .slice A l.length ca, .string key] W fun x w' => x = .returned (.bool true) ∧ Below W.heap.size W w' := by
  have k1 : decide ((key.size : Int) < 1) = false := decide_eq_false (by omega)
  have k2 : decide (key.size < 1) = false := decide_eq_false hk1
  have k3 : decide ((16 : Int) < (key.size : Int)) = true := decide_eq_true (by omega)
  have k4 : decide (16 < key.size) = true := decide_eq_true hk
  clear hk hk1
  have d0 : Hid (decide (FewC s0 s1 l) = true) := Lib.hid (decide_eq_true hf)
  have HF : Hid (l.length ≤ 50 ∧ ∀ j (h : j < l.length), CaOk l[j]) := Lib.hid ⟨hf.2.1, fun j h => ⟨(hwf _ (List.getElem_mem h)).1, (hwf _ (List.getElem_mem h)).2.1, (hwf _ (List.getElem_mem h)).2.2, (hf.2.2 _ (List.getElem_mem h)).1, (hf.2.2 _ (List.getElem_mem h)).2⟩⟩
  have HSQ := Lib.hid (And.intro hf.1.1 (And.intro hf.1.2 (And.intro hs0 (And.intro hs1 (And.intro hh0 hh1)))))
  clear hf hwf hh0 hh1 hs0 hs1
  obtain ⟨Y, hY⟩ : ∃ Y, Y = W.heap.size := ⟨_, rfl⟩
  obtain ⟨wb, hwb⟩ : ∃ z, z = (W.alloc (.cells #[.int .u64 (h0 : Int), .int .u64 (h1 : Int)] 40)).alloc (.cells #[.int .u64 (s0 : Int), .int .u64 (s1 : Int)] 40) := ⟨_, rfl⟩
  have H0 : Hid (ArrB wb Y (h0 : Int) (h1 : Int) (s0 : Int) (s1 : Int) ∧ Below W.heap.size W wb) := Lib.hid (by
    have := ArrB.new W (h0 : Int) (h1 : Int) (s0 : Int) (s1 : Int)
    rw [← hwb, ← hY] at this
    exact ⟨this.1, by rw [← hY]; exact this.2⟩)
  have HL := Lib.hid hL
  have HA := Lib.hid hA
  clear hL hA
  go_enter Tryz.func6, Tryz.ntmps6
  go_wp2_with fail
  rw [← hwb, ← hY]
  clear hwb hY
  refine (awake13 wb (HL.out.later H0.out.2)).mono ?_
  rintro x w1 ⟨rfl, b1⟩
  have H1 : Hid (ArrB w1 Y (h0 : Int) (h1 : Int) (s0 : Int) (s1 : Int) ∧ Below W.heap.size W w1) := Lib.hid ⟨H0.out.1.below b1, H0.out.2.trans (b1.mono H0.out.2.size)⟩
  clear b1 H0
  have y0 := Kq.blk_cell H1.out.1.2 0
  have y1 := Kq.blk_cell H1.out.1.2 1
  go_wp2_with fail
  refine (few13 s0 s1 l A ca w1 (HA.out.below H1.out.2).at).mono ?_
  rintro x w2 ⟨rfl, b2⟩
  have H2 : Hid (ArrB w2 Y (h0 : Int) (h1 : Int) (s0 : Int) (s1 : Int) ∧ Below W.heap.size W w2) := Lib.hid ⟨H1.out.1.below b2, H1.out.2.trans (b2.mono H1.out.2.size)⟩
  clear b2 H1 y0 y1
  rw [d0.out]
  clear d0
  go_wp2
  go_ret
  exact ⟨rfl, H2.out.2⟩
set_option maxRecDepth 100000 in
set_option maxHeartbeats 4000000 in
theorem main (h0 h1 s0 s1 : Nat) (A : Option Addr) (ca : Nat) (l : List CaV) (key : ByteArray) (W : World) (hA : caE.Lo W W.heap.size A l) (hL : LaidOk W) (hf : FewC s0 s1 l) (hwf : ∀ a ∈ l, a.wf) (hh0 : h0 < 18446744073709551616) (hh1 : h1 < 18446744073709551616) (hs0 : s0 < 18446744073709551616) (hs1 : s1 < 18446744073709551616) (hk1 : 1 ≤ key.size) (hk2 : key.size ≤ 16) :
    Calls Tryz.prog 6 #[.agg #[.int .u64 (h0 : Int), .int .u64 (h1 : Int)], .agg #[.int .u64 (s0 : Int), .int .u64 (s1 : Int)], .slice A l.length ca, .string key] W fun x w' => x = .returned (.bool true) ∧ Below W.heap.size W w' := by
  have k1 : decide ((key.size : Int) < 1) = false := decide_eq_false (by omega)
  have k2 : decide (key.size < 1) = false := decide_eq_false (by omega)
  have k3 : decide ((16 : Int) < (key.size : Int)) = false := decide_eq_false (by omega)
  have k4 : decide (16 < key.size) = false := decide_eq_false (by omega)
  have HKS := Lib.hid (And.intro hk1 hk2)
  clear hk1 hk2
  have d0 : Hid (decide (FewC s0 s1 l) = true) := Lib.hid (decide_eq_true hf)
  have HF : Hid (l.length ≤ 50 ∧ ∀ j (h : j < l.length), CaOk l[j]) := Lib.hid ⟨hf.2.1, fun j h => ⟨(hwf _ (List.getElem_mem h)).1, (hwf _ (List.getElem_mem h)).2.1, (hwf _ (List.getElem_mem h)).2.2, (hf.2.2 _ (List.getElem_mem h)).1, (hf.2.2 _ (List.getElem_mem h)).2⟩⟩
  have HSQ := Lib.hid (And.intro hf.1.1 (And.intro hf.1.2 (And.intro hs0 (And.intro hs1 (And.intro hh0 hh1)))))
  clear hf hwf hh0 hh1 hs0 hs1
  obtain ⟨Y, hY⟩ : ∃ Y, Y = W.heap.size := ⟨_, rfl⟩
  obtain ⟨wb, hwb⟩ : ∃ z, z = (W.alloc (.cells #[.int .u64 (h0 : Int), .int .u64 (h1 : Int)] 40)).alloc (.cells #[.int .u64 (s0 : Int), .int .u64 (s1 : Int)] 40) := ⟨_, rfl⟩
  have H0 : Hid (ArrB wb Y (h0 : Int) (h1 : Int) (s0 : Int) (s1 : Int) ∧ Below W.heap.size W wb) := Lib.hid (by
    have := ArrB.new W (h0 : Int) (h1 : Int) (s0 : Int) (s1 : Int)
    rw [← hwb, ← hY] at this
    exact ⟨this.1, by rw [← hY]; exact this.2⟩)
  have HL := Lib.hid hL
  have HA := Lib.hid hA
  clear hL hA
  go_enter Tryz.func6, Tryz.ntmps6
  go_wp2_with fail
  rw [← hwb, ← hY]
  clear hwb hY
  refine (awake13 wb (HL.out.later H0.out.2)).mono ?_
  rintro x w1 ⟨rfl, b1⟩
  have H1 : Hid (ArrB w1 Y (h0 : Int) (h1 : Int) (s0 : Int) (s1 : Int) ∧ Below W.heap.size W w1) := Lib.hid ⟨H0.out.1.below b1, H0.out.2.trans (b1.mono H0.out.2.size)⟩
  clear b1 H0
  have y0 := Kq.blk_cell H1.out.1.2 0
  have y1 := Kq.blk_cell H1.out.1.2 1
  go_wp2_with fail
  refine (few13 s0 s1 l A ca w1 (HA.out.below H1.out.2).at).mono ?_
  rintro x w2 ⟨rfl, b2⟩
  have H2 : Hid (ArrB w2 Y (h0 : Int) (h1 : Int) (s0 : Int) (s1 : Int) ∧ Below W.heap.size W w2) := Lib.hid ⟨H1.out.1.below b2, H1.out.2.trans (b2.mono H1.out.2.size)⟩
  clear b2 H1 y0 y1
  rw [d0.out]
  clear d0
  have y0 := Kq.blk_cell H2.out.1.2 0
  have y1 := Kq.blk_cell H2.out.1.2 1
  have x0 := Kq.blk_cell H2.out.1.1 0
  have x1 := Kq.blk_cell H2.out.1.1 1
  go_wp2_with fail
  clear k1 k2 k3 k4
  refine (made13 h0 h1 s0 s1 w2 HSQ.out.1 HSQ.out.2.1).mono ?_
  rintro x w3 ⟨X, rfl, ht, b1⟩
  have H3 : Hid (LwT (fun _ => False) W X 0 (newTw h0 h1 s0 s1) w3) := Lib.hid (LwT.made (HL.out.later H2.out.2) HSQ.out.1 HSQ.out.2.1 HSQ.out.2.2.1 HSQ.out.2.2.2.1 HSQ.out.2.2.2.2.1 HSQ.out.2.2.2.2.2 W H2.out.2 HL.out (fun _ h => h.elim) ht b1)
  clear ht b1 H2 y0 y1 x0 x1
  go_wp2
  go_loopw [10] (fun u wr => ∃ (j : Nat) (cc : Nat → ChV), u = .int .i64 (j : Int) ∧ j ≤ l.length ∧ LwT (fun _ => False) W X j cc wr) (fun u _ => l.length - (intOf u).toNat)
  case atStart => exact ⟨0, _, rfl, by omega, H3.out⟩
  case round =>
    clear H3
    obtain ⟨j, cc, rfl, hj, hM⟩ := hrel
    have HM := Lib.hid hM
    have hn := HF.out.1
    clear hM
    by_cases hlt : j < l.length
    · obtain ⟨b, off, rfl, hb, hb2, hc⟩ := (HA.out.below HM.out.bel) j hlt
      obtain ⟨x, hx⟩ : ∃ x, x = l[j] := ⟨_, rfl⟩
      rw [← hx] at hc
      have HX : Hid (CaOk x) := Lib.hid (by rw [hx]; exact HF.out.2 j hlt)
      have HD := Lib.hid (lw_do x HM.out (by omega) HX.out)
      have HLT := Lib.hid hlt
      have hi0 : (j : Int) < (l.length : Int) := by omega
      obtain ⟨kd, id, h, d, f, q, t, pd, sp⟩ := x
      have c0 : wr.cell? ⟨b, off + j * 9 + 0, none⟩ = some (.int .i64 kd) := hc 0 (by decide)
      have c1 : wr.cell? ⟨b, off + j * 9 + 1, none⟩ = some (.int .i64 id) := hc 1 (by decide)
      have c2 : wr.cell? ⟨b, off + j * 9 + 2, none⟩ = some (.int .u64 (h : Int)) := hc 2 (by decide)
      have c3 : wr.cell? ⟨b, off + j * 9 + 3, none⟩ = some (.string d) := hc 3 (by decide)
      have c4 : wr.cell? ⟨b, off + j * 9 + 4, none⟩ = some (.int .i64 f) := hc 4 (by decide)
      have c5 : wr.cell? ⟨b, off + j * 9 + 5, none⟩ = some (.int .u64 (q : Int)) := hc 5 (by decide)
      have c6 : wr.cell? ⟨b, off + j * 9 + 6, none⟩ = some (.int .u64 (t : Int)) := hc 6 (by decide)
      have c7 : wr.cell? ⟨b, off + j * 9 + 7, none⟩ = some (.string pd) := hc 7 (by decide)
      have c8 : wr.cell? ⟨b, off + j * 9 + 8, none⟩ = some (.bool sp) := hc 8 (by decide)
      rw [Nat.add_zero] at c0
      clear hx hb hb2 hc
      cases sp
      · go_wp2_with fail
        refine HD.out.mono ?_
        rintro x w5 ⟨hx, hl, -⟩
        simp only [PkV.val] at hx
        subst hx
        have HE := Lib.hid hl
        clear hl c0 c1 c2 c3 c4 c5 c6 c7 c8
        go_wp2
        go_roundw
        case rel => exact ⟨j + 1, _, by go_num, HLT.out, HE.out⟩
        case measure => have := HLT.out; simp [intOf]; omega
      · go_wp2_with fail
        refine HD.out.mono ?_
        rintro x w5 ⟨hx, hl, -⟩
        simp only [PkV.val] at hx
        subst hx
        have HE := Lib.hid hl
        clear hl c0 c1 c2 c3 c4 c5 c6 c7 c8
        go_wp2
        go_roundw
        case rel => exact ⟨j + 1, _, by go_num, HLT.out, HE.out⟩
        case measure => have := HLT.out; simp [intOf]; omega
    · obtain rfl : j = l.length := by omega
      clear hlt
      have H4 : Hid (LwT (fun _ => False) W X 60 cc wr) := Lib.hid (HM.out.mono (by omega))
      clear HM
      go_wp2
      go_loopw [11] (fun u wr => ∃ (k : Nat) (cc : Nat → ChV), u = .int .i64 (k : Int) ∧ k ≤ 2 ∧ LwT (fun _ => False) W X (60 + k) cc wr) (fun u _ => 2 - (intOf u).toNat)
      case atStart => exact ⟨0, cc, rfl, by omega, H4.out⟩
      case round =>
        clear H4
        obtain ⟨k, cc, rfl, hk, hM⟩ := hrel
        have HM := Lib.hid hM
        clear hM
        by_cases hk2 : k < 2
        · obtain ⟨B, P, x0, hc0, hst0, hp0⟩ := HM.out.one k hk2
          have HC0 := Lib.hid (And.intro hc0 hst0)
          have HCK := Lib.hid (HM.out.ok k hk2)
          have HLA := Lib.hid HM.out.laid
          have HKL := Lib.hid hk2
          have i1 : (k : Int) < 2 := by omega
          have HG := Lib.hid (cn_get key (by have := HKS.out; unfold maxLen; omega) hc0)
          obtain ⟨c, hc⟩ : ∃ c, c = cc k := ⟨_, rfl⟩
          rw [← hc] at HC0 HCK HG
          have HCC := Lib.hid hc
          clear hc0 hst0 hp0 hk2 hc
          have HCM := Lib.hid (cn_com HC0.out.1 HCK.out.ok (by have := HCK.out.nb; omega))
          rw [show comR c.st = .tuple #[.int .u64 ((comV c.st).2.1 : Int), .int .i64 (comV c.st).2.2] from rfl] at HCM
          obtain ⟨hn, hhn⟩ : ∃ hn, hn = (comV c.st).2.1 := ⟨_, rfl⟩
          obtain ⟨er, her⟩ : ∃ er, er = (comV c.st).2.2 := ⟨_, rfl⟩
          rw [← hhn, ← her] at HCM
          have HHN := Lib.hid (And.intro hhn her)
          obtain ⟨vv, hvv⟩ : ∃ vv, vv = (lk c.st.now key).getD ⟨#[]⟩ := ⟨_, rfl⟩
          obtain ⟨th, hth⟩ : ∃ th, th = (lk c.st.now key).isSome := ⟨_, rfl⟩
          rw [← hvv, ← hth] at HG
          have HVT := Lib.hid (And.intro hvv hth)
          clear hhn her hvv hth
          go_wp2_with fail
          refine HG.out.mono ?_
          rintro x w5 ⟨rfl, rfl⟩
          clear x0
          go_wp2_with fail
          refine HCM.out.mono ?_
          rintro x w6 hst
          have hx := hst.1
          subst hx
          obtain ⟨hl6, -⟩ := HC0.out.2 _ _ _ _ (HCK.out.com (by omega)) hst
          have H6 := Lib.hid hl6
          by_cases e0 : er = 0
          · subst e0
            have HEZ : Hid ((comV c.st).2.2 = 0) := Lib.hid HHN.out.2.symm
            have HST : Hid (ChP w6 (Ext P w5 w6) B (comC c) ∧ ChOk (comC c) ∧ (comC c).st = (comV c.st).1) := Lib.hid ⟨hst.2.1, (HCK.out.com (by omega)).ok, by unfold comC; rw [if_pos HEZ.out]⟩
            have hl := HCK.out.now
            have HSM : Hid (smallP c.st.now ∧ c.st.now.length ≤ 1000) := Lib.hid ⟨HCK.out.ok.st.now, by omega⟩
            have HHL : Hid (hn < 18446744073709551616) := Lib.hid (by rw [HHN.out.1, (com_ok HEZ.out).2.1]; have h1 := HCK.out.ok.st.top; have h3 := HCK.out.ok.st.one; have h2 := (com_ok HEZ.out).2.2; unfold StV.height at h2 ⊢; omega)
            have HBL : Hid (∀ l ∈ (comC c).st.blks, l.length ≤ 1000) := Lib.hid (fun l hl => by have := (HCK.out.com (by omega)).bl l hl; omega)
            have HRT := Lib.hid (cn_root hn HST.out.1 HST.out.2.1 HHL.out H6.out.laid)
            have HPV := Lib.hid (fun z (hb : Below w6.heap.size w6 z) => cn_prove (w := z) key hn (HST.out.1.below hb) HST.out.2.1 HHL.out HBL.out (H6.out.laid.later hb))
            rw [HST.out.2.2, HHN.out.1, com_root HCK.out.ok.st HEZ.out, ← HHN.out.1] at HRT
            rw [HST.out.2.2, HHN.out.1, com_prove HCK.out.ok.st HEZ.out, ← HHN.out.1] at HPV
            have hpv := prv_has HSM.out.1 HSM.out.2 HKS.out.1 HKS.out.2
            rw [← HVT.out.1, ← HVT.out.2] at hpv
            have hps := proveL_size HSM.out.1 HSM.out.2 key
            obtain ⟨rt, hrt⟩ : ∃ rt, rt = rootP c.st.now := ⟨_, rfl⟩
            obtain ⟨pp, hpp⟩ : ∃ pp, pp = (proveL c.st.now key).1 := ⟨_, rfl⟩
            rw [hpv.2.2] at HPV
            rw [← hrt] at HRT hpv
            rw [← hpp] at HPV hpv hps
            have HHA := Lib.hid (fun z hL => pf_has rt pp key vv z (by omega) hL)
            have HLK := Lib.hid (fun z hL => pf_lacks rt pp key z (by omega) hL)
            rw [hpv.1] at HHA
            rw [hpv.2.1] at HLK
            clear hpv hps hrt hpp hl hst hl6
            have HCL := Lib.hid (HM.out.bel)
            clear HG HCM HC0
            go_wp2_with fail
            refine HRT.out.mono ?_
            rintro x w7 ⟨rfl, b7⟩
            have H7 := Lib.hid b7
            have HL7 := Lib.hid (H6.out.laid.later b7)
            clear b7
            go_wp2_with fail
            refine (HPV.out w7 H7.out).mono ?_
            rintro x w8 ⟨rfl, b8⟩
            have H8 := Lib.hid (H7.out.trans (b8.mono H7.out.size))
            have HL8 := Lib.hid (HL7.out.later b8)
            clear b8 HPV HRT
            cases th
            · go_wp2_with fail
              refine (HHA.out w8 HL8.out).mono ?_
              rintro x w9 ⟨rfl, b9⟩
              have H9 := Lib.hid (H8.out.trans (b9.mono H8.out.size))
              have HL9 := Lib.hid (HL8.out.later b9)
              clear b9
              go_wp2_with fail
              refine (HLK.out w9 HL9.out).mono ?_
              rintro x w10 ⟨rfl, b10⟩
              have HE : Hid (LwT (fun _ => False) W X (60 + (k + 1)) (updF cc k (comC c)) w10) := Lib.hid (H6.out.below (H9.out.trans (b10.mono H9.out.size)))
              clear b10
              go_wp2
              go_roundw
              case rel => exact ⟨k + 1, _, by go_num, HKL.out, HE.out⟩
              case measure => have := HKL.out; simp [intOf]; omega
            · go_wp2_with fail
              refine (HHA.out w8 HL8.out).mono ?_
              rintro x w9 ⟨rfl, b9⟩
              have H9 := Lib.hid (H8.out.trans (b9.mono H8.out.size))
              have HL9 := Lib.hid (HL8.out.later b9)
              clear b9
              go_wp2_with fail
              refine (HLK.out w9 HL9.out).mono ?_
              rintro x w10 ⟨rfl, b10⟩
              have HE : Hid (LwT (fun _ => False) W X (60 + (k + 1)) (updF cc k (comC c)) w10) := Lib.hid (H6.out.below (H9.out.trans (b10.mono H9.out.size)))
              clear b10
              go_wp2
              go_roundw
              case rel => exact ⟨k + 1, _, by go_num, HKL.out, HE.out⟩
              case measure => have := HKL.out; simp [intOf]; omega
          · have e1 : (er != 0) = true := bne_iff_ne.2 e0
            clear hst e0 hl6 HG HCM HC0
            go_wp2
            go_roundw
            case rel => exact ⟨k + 1, _, by go_num, HKL.out, H6.out⟩
            case measure => have := HKL.out; simp [intOf]; omega
        · obtain rfl : k = 2 := by omega
          have HE := Lib.hid HM.out.bel
          clear hk2 HM
          go_wp2
          go_ret
          exact ⟨rfl, HE.out⟩
end chainProves
theorem chainProves_walk (v0 v1 v2 : Value) (key : ByteArray) {W : World} (k0 : ∃ a b : Nat, v0 = .agg #[.int .u64 (a : Int), .int .u64 (b : Int)] ∧ a < 18446744073709551616 ∧ b < 18446744073709551616) (k1 : ∃ a b : Nat, v1 = .agg #[.int .u64 (a : Int), .int .u64 (b : Int)] ∧ a < 18446744073709551616 ∧ b < 18446744073709551616) (k2 : ∃ A cap l, v2 = .slice A l.length cap ∧ l.length ≤ cap ∧ caE.Lo W W.heap.size A l ∧ ∀ n ∈ l, n.wf) (k3 : key.size ≤ maxLen) (w : World) (e : W = w) (hL : LaidOk w) :
    Calls Tryz.prog 6 #[v0, v1, v2, .string key] w fun x w' => x = .returned (.bool true) ∧ Below w.heap.size w w' := by
  subst e
  obtain ⟨h0, h1, rfl, g0, g1⟩ := k0
  obtain ⟨s0, s1, rfl, g2, g3⟩ := k1
  obtain ⟨A, ca, l, rfl, hca, hA, hwf⟩ := k2
  by_cases hf : FewC s0 s1 l
  · by_cases a1 : key.size < 1
    · exact chainProves.short h0 h1 s0 s1 A ca l key W hA hL hf hwf g0 g1 g2 g3 a1
    · by_cases a2 : 16 < key.size
      · exact chainProves.long h0 h1 s0 s1 A ca l key W hA hL hf hwf g0 g1 g2 g3 a1 a2
      · exact chainProves.main h0 h1 s0 s1 A ca l key W hA hL hf hwf g0 g1 g2 g3 (by omega) (by omega)
  · exact chainProves.early h0 h1 s0 s1 A ca l key W hA hL hf
end Go.Proofs.YtbjchfcoacmaaaaGreatDoor
namespace Go.Proofs.YtbjchfcoacmaaaaGreatDoor
open Go.RowKit
set_option linter.unusedVariables false
namespace chainFollows
theorem newTw_nt (h0 h1 s0 s1 : Nat) : ∀ k, k < 2 → NtK (newTw h0 h1 s0 s1 k) := fun k hk => by
  obtain rfl | rfl : k = 0 ∨ k = 1 := by omega
  · exact NtK.new 0 h0 s0
  · exact NtK.new 1 h1 s1
/-- while a log is read on -/
structure Fw (wk : World) (c : ChV) (AT E : Nat) (va : Value) (he ie stp n j x i : Nat) (L g : List NtV) (v : Value) (w : World) : Prop where
  at_ : w.heap[AT]? = some (.cells #[.int .u64 (x : Int), .int .i64 (i : Int)] 30 (0, 0))
  en : w.heap[E]? = some (.cells #[.int .u64 (he : Int), .int .i64 (ie : Int)] 30 (0, 0))
  all : w.ownsRow wk.heap.size 58 5 va L.length (ntE.flat L)
  got : w.ownsRow wk.heap.size 58 5 v g.length (ntE.flat g)
  gne : ∀ k, v.ownBlock = some k → va.ownBlock ≠ some k
  bel : Below wk.heap.size wk w
  atl : wk.heap.size ≤ AT
  ane : AT ≠ E
  xe : x = c.first + j
  hj : ∃ h : j < c.blks.length, i ≤ c.blks[j].length
  pos : posL c.blks j i = min (n * stp) c.blks.flatten.length
  ge : g = c.blks.flatten.take (min (n * stp) c.blks.flatten.length)
  end_ : 1 ≤ n → EndL c.blks j i
theorem Fw.below0 {wk : World} {c : ChV} {AT E : Nat} {va : Value} {he ie stp n j x i : Nat} {L g : List NtV} {v : Value} {w w' : World} (h : Fw wk c AT E va he ie stp n j x i L g v w) (hb : Below w.heap.size w w') (h1 : w'.ownsRow wk.heap.size 58 5 va L.length (ntE.flat L)) (h2 : w'.ownsRow wk.heap.size 58 5 v g.length (ntE.flat g)) : Fw wk c AT E va he ie stp n j x i L g v w' :=
  ⟨Kq.below_blk hb h.at_ (Kq.blk_lt h.at_), Kq.below_blk hb h.en (Kq.blk_lt h.en), h1, h2, h.gne, h.bel.trans (hb.mono h.bel.size), h.atl, h.ane, h.xe, h.hj, h.pos, h.ge, h.end_⟩
theorem own_low13 {w w' : World} {base size : Nat} {e : TypeId} {v : Value} {n : Nat} {xs : List Value} (h : w.ownsRow base e size v n xs) (hb : Below w.heap.size w w') : w'.ownsRow base e size v n xs := own_keepsS h (Kq.Keeps.of_below (S := fun _ => False) hb (fun k h1 h2 => absurd h1 (Nat.not_le.2 h2))) (fun _ h => h.elim)
theorem own_en13 {w : World} {base n c : Nat} {A : Option Addr} {l : List NtV} (h : w.ownsRow base 58 5 (.slice A n c) l.length (ntE.flat l)) : EnAt NtV.nc w A l := by
  obtain ⟨A', c', h1, -, h2, -⟩ := Kq.Elt.own_at (E := ntE) h
  injection h1 with h1
  subst h1
  exact h2
theorem place_ne {w : World} {b s n X : Nat} {e : TypeId} {v : Value} {xs : List Value} {cs : Array Value} {t : TypeId} {f : Nat × Nat} (h : w.ownsRow b e s v n xs) (hb : w.heap[X]? = some (.cells cs t f)) (hne : e ≠ t) : v.ownBlock ≠ some X := fun hk => by
  rcases h.2 with ⟨e', _⟩ | ⟨g, c, cur, e', _, hb', _⟩
  · rw [e'] at hk; cases hk
  · rw [e'] at hk
    have q1 : g = X := Option.some.inj hk
    rw [q1, hb] at hb'
    injection hb' with hb'
    injection hb' with h3 h4
    exact hne h4.symm
theorem Fw.below {wk : World} {c : ChV} {AT E : Nat} {va : Value} {he ie stp n j x i : Nat} {L g : List NtV} {v : Value} {w w' : World} (h : Fw wk c AT E va he ie stp n j x i L g v w) (hb : Below w.heap.size w w') : Fw wk c AT E va he ie stp n j x i L g v w' :=
  h.below0 hb (own_low13 h.all hb) (own_low13 h.got hb)
set_option maxRecDepth 100000 in
set_option maxHeartbeats 1000000 in
theorem early (h0 h1 s0 s1 : Nat) (A : Option Addr) (ca : Nat) (l : List CaV) (st : Nat) (W : World) (hA : caE.Lo W W.heap.size A l) (hL : LaidOk W) (hno : ¬ FewC s0 s1 l) :
    Calls Tryz.prog 4 #[.agg #[.int .u64 (h0 : Int), .int .u64 (h1 : Int)], .agg #[.int .u64 (s0 : Int), .int .u64 (s1 : Int)], .slice A l.length ca, .int .u8 (st : Int)] W fun x w' => x = .returned (.bool true) ∧ Below W.heap.size W w' := by
  have d0 : Hid (decide (FewC s0 s1 l) = false) := Lib.hid (decide_eq_false hno)
  clear hno
  obtain ⟨Y, hY⟩ : ∃ Y, Y = W.heap.size := ⟨_, rfl⟩
  obtain ⟨wb, hwb⟩ : ∃ z, z = (W.alloc (.cells #[.int .u64 (h0 : Int), .int .u64 (h1 : Int)] 40)).alloc (.cells #[.int .u64 (s0 : Int), .int .u64 (s1 : Int)] 40) := ⟨_, rfl⟩
  have H0 : Hid (ArrB wb Y (h0 : Int) (h1 : Int) (s0 : Int) (s1 : Int) ∧ Below W.heap.size W wb) := Lib.hid (by
    have := ArrB.new W (h0 : Int) (h1 : Int) (s0 : Int) (s1 : Int)
    rw [← hwb, ← hY] at this
    exact ⟨this.1, by rw [← hY]; exact this.2⟩)
  have HL := Lib.hid hL
  have HA := Lib.hid hA
  clear hL hA
  go_enter Tryz.func4, Tryz.ntmps4
  go_wp2_with fail
  rw [← hwb, ← hY]
  clear hwb hY
  refine (awake13 wb (HL.out.later H0.out.2)).mono ?_
  rintro x w1 ⟨rfl, b1⟩
  have H1 : Hid (ArrB w1 Y (h0 : Int) (h1 : Int) (s0 : Int) (s1 : Int) ∧ Below W.heap.size W w1) := Lib.hid ⟨H0.out.1.below b1, H0.out.2.trans (b1.mono H0.out.2.size)⟩
  clear b1 H0
  have y0 := Kq.blk_cell H1.out.1.2 0
  have y1 := Kq.blk_cell H1.out.1.2 1
  go_wp2_with fail
  refine (few13 s0 s1 l A ca w1 (HA.out.below H1.out.2).at).mono ?_
  rintro x w2 ⟨rfl, b2⟩
  have H2 : Hid (ArrB w2 Y (h0 : Int) (h1 : Int) (s0 : Int) (s1 : Int) ∧ Below W.heap.size W w2) := Lib.hid ⟨H1.out.1.below b2, H1.out.2.trans (b2.mono H1.out.2.size)⟩
  clear b2 H1 y0 y1
  rw [d0.out]
  clear d0
  go_wp2
  go_ret
  exact ⟨rfl, H2.out.2⟩
set_option maxRecDepth 100000 in
set_option maxHeartbeats 4000000 in
theorem main (h0 h1 s0 s1 : Nat) (A : Option Addr) (ca : Nat) (l : List CaV) (st : Nat) (W : World) (hA : caE.Lo W W.heap.size A l) (hL : LaidOk W) (hf : FewC s0 s1 l) (hwf : ∀ a ∈ l, a.wf) (hh0 : h0 < 18446744073709551616) (hh1 : h1 < 18446744073709551616) (hs0 : s0 < 18446744073709551616) (hs1 : s1 < 18446744073709551616) (hst : st < 256) :
    Calls Tryz.prog 4 #[.agg #[.int .u64 (h0 : Int), .int .u64 (h1 : Int)], .agg #[.int .u64 (s0 : Int), .int .u64 (s1 : Int)], .slice A l.length ca, .int .u8 (st : Int)] W fun x w' => x = .returned (.bool true) ∧ Below W.heap.size W w' := by
  obtain ⟨i0, hi0, hz0, hz1, hz2⟩ := info_partsB infoNt
  obtain ⟨rm, hrm⟩ : ∃ rm, rm = st % 4 := ⟨_, rfl⟩
  obtain ⟨stp, hstp⟩ : ∃ stp, stp = rm + 1 := ⟨_, rfl⟩
  have HRM : Hid (rm ≤ 3 ∧ 1 ≤ stp ∧ stp ≤ 4 ∧ (st : Int) % 4 = (rm : Int) ∧ Int.tmod (st : Int) 4 = (rm : Int) ∧ IntKind.i64.wrap (rm : Int) = (rm : Int) ∧ IntKind.i64.wrap ((rm : Int) + 1) = (stp : Int) ∧ IntKind.u8.wrap (rm : Int) = (rm : Int)) := Lib.hid ⟨by omega, by omega, by omega, by omega, by rw [Int.tmod_eq_emod_of_nonneg (by omega)]; omega, IntWalk.i64_in _ (by omega), by rw [IntWalk.i64_in _ (by omega)]; omega, by rw [IntWalk.u8_in _ (by omega)]⟩
  clear hrm hstp hst
  have d0 : Hid (decide (FewC s0 s1 l) = true) := Lib.hid (decide_eq_true hf)
  have HF : Hid (l.length ≤ 50 ∧ ∀ j (h : j < l.length), CaOk l[j]) := Lib.hid ⟨hf.2.1, fun j h => ⟨(hwf _ (List.getElem_mem h)).1, (hwf _ (List.getElem_mem h)).2.1, (hwf _ (List.getElem_mem h)).2.2, (hf.2.2 _ (List.getElem_mem h)).1, (hf.2.2 _ (List.getElem_mem h)).2⟩⟩
  have HSQ := Lib.hid (And.intro hf.1.1 (And.intro hf.1.2 (And.intro hs0 (And.intro hs1 (And.intro hh0 hh1)))))
  clear hf hwf hh0 hh1 hs0 hs1
  obtain ⟨Y, hY⟩ : ∃ Y, Y = W.heap.size := ⟨_, rfl⟩
  obtain ⟨wb, hwb⟩ : ∃ z, z = (W.alloc (.cells #[.int .u64 (h0 : Int), .int .u64 (h1 : Int)] 40)).alloc (.cells #[.int .u64 (s0 : Int), .int .u64 (s1 : Int)] 40) := ⟨_, rfl⟩
  have H0 : Hid (ArrB wb Y (h0 : Int) (h1 : Int) (s0 : Int) (s1 : Int) ∧ Below W.heap.size W wb) := Lib.hid (by
    have := ArrB.new W (h0 : Int) (h1 : Int) (s0 : Int) (s1 : Int)
    rw [← hwb, ← hY] at this
    exact ⟨this.1, by rw [← hY]; exact this.2⟩)
  have HL := Lib.hid hL
  have HA := Lib.hid hA
  clear hL hA
  go_enter Tryz.func4, Tryz.ntmps4
  go_wp2_with fail
  rw [← hwb, ← hY]
  clear hwb hY
  refine (awake13 wb (HL.out.later H0.out.2)).mono ?_
  rintro x w1 ⟨rfl, b1⟩
  have H1 : Hid (ArrB w1 Y (h0 : Int) (h1 : Int) (s0 : Int) (s1 : Int) ∧ Below W.heap.size W w1) := Lib.hid ⟨H0.out.1.below b1, H0.out.2.trans (b1.mono H0.out.2.size)⟩
  clear b1 H0
  have y0 := Kq.blk_cell H1.out.1.2 0
  have y1 := Kq.blk_cell H1.out.1.2 1
  go_wp2_with fail
  refine (few13 s0 s1 l A ca w1 (HA.out.below H1.out.2).at).mono ?_
  rintro x w2 ⟨rfl, b2⟩
  have H2 : Hid (ArrB w2 Y (h0 : Int) (h1 : Int) (s0 : Int) (s1 : Int) ∧ Below W.heap.size W w2) := Lib.hid ⟨H1.out.1.below b2, H1.out.2.trans (b2.mono H1.out.2.size)⟩
  clear b2 H1 y0 y1
  rw [d0.out]
  clear d0
  have y0 := Kq.blk_cell H2.out.1.2 0
  have y1 := Kq.blk_cell H2.out.1.2 1
  have x0 := Kq.blk_cell H2.out.1.1 0
  have x1 := Kq.blk_cell H2.out.1.1 1
  go_wp2_with fail
  refine (made13 h0 h1 s0 s1 w2 HSQ.out.1 HSQ.out.2.1).mono ?_
  rintro x w3 ⟨X, rfl, ht, b1⟩
  have H3 : Hid (LwT (fun _ => False) W X 0 (newTw h0 h1 s0 s1) w3) := Lib.hid (LwT.made (HL.out.later H2.out.2) HSQ.out.1 HSQ.out.2.1 HSQ.out.2.2.1 HSQ.out.2.2.2.1 HSQ.out.2.2.2.2.1 HSQ.out.2.2.2.2.2 W H2.out.2 HL.out (fun _ h => h.elim) ht b1)
  clear ht b1 H2 y0 y1 x0 x1
  go_wp2
  go_loopw [10] (fun u wr => ∃ (j : Nat) (cc : Nat → ChV), u = .int .i64 (j : Int) ∧ j ≤ l.length ∧ LwT (fun _ => False) W X j cc wr ∧ ∀ k, k < 2 → NtK (cc k)) (fun u _ => l.length - (intOf u).toNat)
  case atStart => exact ⟨0, _, rfl, by omega, H3.out, newTw_nt h0 h1 s0 s1⟩
  case round =>
    clear H3
    obtain ⟨j, cc, rfl, hj, hM, hI⟩ := hrel
    have HM := Lib.hid hM
    have HI := Lib.hid hI
    clear hI
    have hn := HF.out.1
    clear hM
    by_cases hlt : j < l.length
    · obtain ⟨b, off, rfl, hb, hb2, hc⟩ := (HA.out.below HM.out.bel) j hlt
      obtain ⟨x, hx⟩ : ∃ x, x = l[j] := ⟨_, rfl⟩
      rw [← hx] at hc
      have HX : Hid (CaOk x) := Lib.hid (by rw [hx]; exact HF.out.2 j hlt)
      have HD := Lib.hid (lw_do x HM.out (by omega) HX.out)
      have HLT := Lib.hid hlt
      have hi0 : (j : Int) < (l.length : Int) := by omega
      obtain ⟨kd, id, h, d, f, q, t, pd, sp⟩ := x
      have c0 : wr.cell? ⟨b, off + j * 9 + 0, none⟩ = some (.int .i64 kd) := hc 0 (by decide)
      have c1 : wr.cell? ⟨b, off + j * 9 + 1, none⟩ = some (.int .i64 id) := hc 1 (by decide)
      have c2 : wr.cell? ⟨b, off + j * 9 + 2, none⟩ = some (.int .u64 (h : Int)) := hc 2 (by decide)
      have c3 : wr.cell? ⟨b, off + j * 9 + 3, none⟩ = some (.string d) := hc 3 (by decide)
      have c4 : wr.cell? ⟨b, off + j * 9 + 4, none⟩ = some (.int .i64 f) := hc 4 (by decide)
      have c5 : wr.cell? ⟨b, off + j * 9 + 5, none⟩ = some (.int .u64 (q : Int)) := hc 5 (by decide)
      have c6 : wr.cell? ⟨b, off + j * 9 + 6, none⟩ = some (.int .u64 (t : Int)) := hc 6 (by decide)
      have c7 : wr.cell? ⟨b, off + j * 9 + 7, none⟩ = some (.string pd) := hc 7 (by decide)
      have c8 : wr.cell? ⟨b, off + j * 9 + 8, none⟩ = some (.bool sp) := hc 8 (by decide)
      rw [Nat.add_zero] at c0
      clear hx hb hb2 hc
      cases sp
      · go_wp2_with fail
        refine HD.out.mono ?_
        rintro x w5 ⟨hx, hl, -⟩
        simp only [PkV.val] at hx
        subst hx
        have HE := Lib.hid hl
        clear hl c0 c1 c2 c3 c4 c5 c6 c7 c8
        go_wp2
        go_roundw
        case rel => exact ⟨j + 1, _, by go_num, HLT.out, HE.out, NtK.do HI.out _⟩
        case measure => have := HLT.out; simp [intOf]; omega
      · go_wp2_with fail
        refine HD.out.mono ?_
        rintro x w5 ⟨hx, hl, -⟩
        simp only [PkV.val] at hx
        subst hx
        have HE := Lib.hid hl
        clear hl c0 c1 c2 c3 c4 c5 c6 c7 c8
        go_wp2
        go_roundw
        case rel => exact ⟨j + 1, _, by go_num, HLT.out, HE.out, NtK.do HI.out _⟩
        case measure => have := HLT.out; simp [intOf]; omega
    · obtain rfl : j = l.length := by omega
      clear hlt
      have H4 : Hid (LwT (fun _ => False) W X 60 cc wr) := Lib.hid (HM.out.mono (by omega))
      clear HM
      go_wp2
      go_loopw [11] (fun u wr => ∃ k : Nat, u = .int .i64 (k : Int) ∧ k ≤ 2 ∧ LwT (fun _ => False) W X 60 cc wr) (fun u _ => 2 - (intOf u).toNat)
      case atStart => exact ⟨0, rfl, by omega, H4.out⟩
      case round =>
        clear H4
        obtain ⟨k, rfl, hk, hM⟩ := hrel
        have HM := Lib.hid hM
        clear hM
        by_cases hk2 : k < 2
        · obtain ⟨B, P, x0, hc0⟩ := HM.out.ask k hk2
          have HKL := Lib.hid hk2
          have i1 : (k : Int) < 2 := by omega
          obtain ⟨c, hc⟩ : ∃ c, c = cc k := ⟨_, rfl⟩
          have HCK : Hid (ChK 60 c) := Lib.hid (by rw [hc]; exact HM.out.ok k hk2)
          have HNK : Hid (NtK c) := Lib.hid (by rw [hc]; exact HI.out k hk2)
          rw [← hc] at hc0
          have hnb := HCK.out.nb
          have htt := HCK.out.tot
          have HFS : Hid (c.first ≤ c.st.height ∧ c.blks.length = c.st.blks.length ∧ c.st.height = c.first + (c.st.blks.length - 1) ∧ 1 ≤ c.blks.length ∧ c.blks.flatten.length ≤ 60 ∧ c.st.height < 18446744073709551616 ∧ c.blks.length ≤ 61) := Lib.hid (by
            have h1 := HCK.out.ok.first
            have h2 := HCK.out.ok.len
            have h3 := HCK.out.ok.st.one
            have h4 := HCK.out.ok.st.top
            unfold StV.height
            omega)
          have HFP := Lib.hid (fun z (hb : Below wr.heap.size wr z) => cn_firstp (hc0.below hb))
          have HLG := Lib.hid (fun z (hb : Below wr.heap.size wr z) H i q h1 h2 h3 h4 => cn_log (w := z) (c := c) H i q (hc0.below hb) HCK.out.ok h1 h2 h3 h4 (by omega) (by omega))
          have HLA : Hid (∀ z, Below wr.heap.size wr z → LwT (fun _ => False) W X 60 cc z) := Lib.hid (fun z hb => HM.out.below hb)
          obtain ⟨wk, hwk⟩ : ∃ wk, wk = wr := ⟨_, rfl⟩
          rw [← hwk] at HFP HLG HLA x0 ⊢
          clear hc0 hnb htt hc hk2 HM hwk
          go_wp2_with fail
          refine (HFP.out wk (Below.refl _ _)).mono ?_
          rintro x w5 ⟨rfl, b5⟩
          have H5 := Lib.hid b5
          have HL1 := Lib.hid (HLG.out w5 b5 c.first 0 1000 ⟨Nat.le_refl _, HFS.out.1⟩ (fun _ => Nat.zero_le _) (by omega) (by omega))
          rw [Nat.sub_self, List.drop_zero, show ((0 : Nat) : Int) = 0 from rfl, show ((1000 : Nat) : Int) = 1000 from rfl] at HL1
          clear b5 x0
          go_wp2_with fail
          refine HL1.out.mono ?_
          rintro x w6 ⟨va, rfl, hown, b6⟩
          have H6 := Lib.hid (H5.out.trans (b6.mono H5.out.size))
          obtain ⟨fl, hfl0⟩ : ∃ fl, fl = c.blks.flatten := ⟨_, rfl⟩
          have HFE := Lib.hid hfl0
          have HAL : Hid ((logG c.blks 0 1000).1 = fl ∧ EndL c.blks (logG c.blks 0 1000).2.1 (logG c.blks 0 1000).2.2 ∧ posL c.blks (logG c.blks 0 1000).2.1 (logG c.blks 0 1000).2.2 = fl.length) := Lib.hid (by
            rw [hfl0]
            have h1 := HFS.out.2.2.2.1
            have h2 := HFS.out.2.2.2.2.1
            obtain ⟨e1, e2, e3⟩ := logG_at c.blks 0 0 1000 (by omega) (Nat.zero_le _)
            simp only [List.drop_zero, Nat.zero_add] at e1 e2 e3
            have hp0 : posL c.blks 0 0 = 0 := rfl
            rw [hp0] at e1 e3
            refine ⟨by rw [e1, List.drop_zero, List.take_of_length_le (by omega)], e2, by rw [e3]; omega⟩)
          obtain ⟨he, hhe⟩ : ∃ he, he = c.first + (logG c.blks 0 1000).2.1 := ⟨_, rfl⟩
          obtain ⟨ie, hie⟩ : ∃ ie, ie = (logG c.blks 0 1000).2.2 := ⟨_, rfl⟩
          rw [← hhe, ← hie]
          rw [HAL.out.1] at hown
          have HHE := Lib.hid (And.intro hhe hie)
          have HOW := Lib.hid (own_base hown (Nat.le_trans H5.out.size (Nat.le_refl _)))
          obtain ⟨vA, vc, hva, -⟩ := Kq.Elt.own_at (E := ntE) hown
          subst hva
          clear hhe hie hown b6 HL1 hfl0
          obtain ⟨w7, hw7⟩ : ∃ z, z = w6.alloc (.cells #[.int .u64 (he : Int), .int .i64 (ie : Int)] 30) := ⟨_, rfl⟩
          obtain ⟨E, hE⟩ : ∃ E, E = w6.heap.size := ⟨_, rfl⟩
          have HW7 := Lib.hid (And.intro hw7 hE)
          have H7 : Hid (Below wk.heap.size wk w7 ∧ w7.heap[E]? = some (.cells #[.int .u64 (he : Int), .int .i64 (ie : Int)] 30 (0, 0)) ∧ w7.ownsRow wk.heap.size 58 5 (.slice vA fl.length vc) fl.length (ntE.flat fl)) := Lib.hid (by
            have hb := Kq.below_alloc w6 (.cells #[.int .u64 (he : Int), .int .i64 (ie : Int)] 30)
            rw [hw7, hE]
            exact ⟨H6.out.trans (hb.mono H6.out.size), Kq.blk_new _ _ _ _, own_low13 HOW.out hb⟩)
          clear hw7 hE HOW
          go_wp2_with fail
          rw [← HW7.out.1, ← HW7.out.2]
          refine (HFP.out w7 H7.out.1).mono ?_
          rintro x w8 ⟨rfl, b8⟩
          obtain ⟨w9, hw9⟩ : ∃ z, z = w8.alloc (.cells #[.int .u64 (c.first : Int), .int .i64 0] 30) := ⟨_, rfl⟩
          obtain ⟨AT, hAT⟩ : ∃ AT, AT = w8.heap.size := ⟨_, rfl⟩
          have HW9 := Lib.hid (And.intro hw9 hAT)
          have H9 : Hid (Fw wk c AT E (.slice vA fl.length vc) he ie stp 0 0 c.first 0 fl [] (.slice none 0 0) w9) := Lib.hid (by
            have hb := Kq.below_alloc w8 (.cells #[.int .u64 (c.first : Int), .int .i64 0] 30)
            have hbb := b8.trans (hb.mono b8.size)
            have hel := Kq.blk_lt H7.out.2.1
            have hz := H7.out.1.size
            have hz2 := b8.size
            rw [hw9, hAT]
            refine ⟨Kq.blk_new _ _ _ _, Kq.below_blk hbb H7.out.2.1 hel, own_low13 H7.out.2.2 hbb, ⟨rfl, Or.inl ⟨rfl, rfl⟩⟩, fun _ h => (by cases h), H7.out.1.trans (hbb.mono hz), by omega, by omega, rfl, ⟨HFS.out.2.2.2.1, Nat.zero_le _⟩, ?_, ?_, fun h => (by omega)⟩
            · rw [Nat.zero_mul, Nat.zero_min]; rfl
            · rw [Nat.zero_mul, Nat.zero_min]; rfl)
          clear hw9 hAT b8 HW7 H7 H6 H5
          go_wp2
          rw [← HW9.out.1, ← HW9.out.2]
          clear HW9
          go_loopw [15, 17] (fun v u w10 => ∃ (n j x i : Nat) (g : List NtV), u = .int .i64 (n : Int) ∧ n ≤ 200 ∧ Fw wk c AT E (.slice vA fl.length vc) he ie stp n j x i fl g v w10) (fun _ u _ => 200 - (intOf u).toNat)
          case atStart => exact ⟨0, 0, c.first, 0, [], rfl, by omega, H9.out⟩
          case round =>
            clear H9
            obtain ⟨n, j, x, i, g, rfl, hn, hF⟩ := hrel
            generalize wr = wi at *
            have HF2 := Lib.hid hF
            obtain ⟨gA, gc, rfl, -⟩ := Kq.Elt.own_at (E := ntE) hF.got
            clear hF
            have hgl : g.length ≤ 60 := by have := HF2.out.ge; have h2 := HFS.out.2.2.2.2.1; rw [this, List.length_take]; omega
            have HGL := Lib.hid hgl
            by_cases hn2 : n < 200
            · have HNL := Lib.hid hn2
              have i2 : (n : Int) < 200 := by omega
              obtain ⟨hjl, hil⟩ := HF2.out.hj
              have HST := Lib.hid (fw_step (n := n) (stp := stp) hjl hil HF2.out.pos)
              obtain ⟨r, hr⟩ : ∃ r, r = logG (c.blks.drop j) i stp := ⟨_, rfl⟩
              have HIL : Hid (i ≤ 60) := Lib.hid (by have := flat_mem (List.getElem_mem hjl); have := HFS.out.2.2.2.2.1; omega)
              have HL2 := Lib.hid (HLG.out wi HF2.out.bel x i stp (by have := HF2.out.xe; have := HFS.out; omega) (fun hj' => by
                have hx := HF2.out.xe
                have : x - c.first = j := by omega
                rw [show c.blks[x - c.first] = c.blks[j] from by congr 1] ; exact hil) (by have := HIL.out; omega) (by have := HRM.out; omega))
              rw [show x - c.first = j by have := HF2.out.xe; omega] at HL2
              unfold LogPost at HL2
              rw [← hr] at HL2 HST
              obtain ⟨x2, hx2⟩ : ∃ x2, x2 = x + r.2.1 := ⟨_, rfl⟩
              obtain ⟨i2', hi2'⟩ : ∃ i2', i2' = r.2.2 := ⟨_, rfl⟩
              rw [← hx2, ← hi2'] at HL2
              have HXI := Lib.hid (And.intro hx2 hi2')
              have a0 := Kq.blk_cell HF2.out.at_ 0
              have a1 := Kq.blk_cell HF2.out.at_ 1
              have t1 := HRM.out.2.2.2.1
              have t2 := HRM.out.2.2.2.2.1
              have t3 := HRM.out.2.2.2.2.2.1
              have t4 := HRM.out.2.2.2.2.2.2.1
              have t5 := HRM.out.2.2.2.2.2.2.2
              clear hjl hil hr hx2 hi2' hn2 hgl
              go_wp2_with fail
              refine HL2.out.mono ?_
              rintro y w11 ⟨vm, rfl, hown, b11⟩
              obtain ⟨mA, mc, hvm, -⟩ := Kq.Elt.own_at (E := ntE) hown
              subst hvm
              obtain ⟨w12, hw12⟩ : ∃ z, z = w11.alloc (.cells #[.int .u64 (x2 : Int), .int .i64 (i2' : Int)] 30) := ⟨_, rfl⟩
              obtain ⟨N, hN⟩ : ∃ N, N = w11.heap.size := ⟨_, rfl⟩
              have HW12 := Lib.hid (And.intro hw12 hN)
              have hb := Kq.below_alloc w11 (.cells #[.int .u64 (x2 : Int), .int .i64 (i2' : Int)] 30)
              have hbb := b11.trans (hb.mono b11.size)
              have HX : Hid (Fw wk c AT E (.slice vA fl.length vc) he ie stp n j x i fl g (.slice gA g.length gc) w12 ∧ w12.heap[N]? = some (.cells #[.int .u64 (x2 : Int), .int .i64 (i2' : Int)] 30 (0, 0)) ∧ w12.ownsRow wi.heap.size 58 5 (.slice mA r.1.length mc) r.1.length (ntE.flat r.1) ∧ wi.heap.size ≤ w12.heap.size ∧ wi.heap.size ≤ N) := Lib.hid (by
                have h := HF2.out
                rw [hw12, hN]
                exact ⟨⟨Kq.below_blk hbb h.at_ (Kq.blk_lt h.at_), Kq.below_blk hbb h.en (Kq.blk_lt h.en), own_low13 h.all hbb, own_low13 h.got hbb, h.gne, h.bel.trans (hbb.mono h.bel.size), h.atl, h.ane, h.xe, h.hj, h.pos, h.ge, h.end_⟩, Kq.blk_new _ _ _ _, own_low13 hown hb, hbb.size, b11.size⟩)
              clear hown b11 hb hbb hw12 hN HL2 a0 a1
              have a0 := Kq.blk_cell HX.out.1.at_ 0
              have a1 := Kq.blk_cell HX.out.1.at_ 1
              have n0 := Kq.blk_cell HX.out.2.1 0
              have n1 := Kq.blk_cell HX.out.2.1 1
              rw [HW12.out.1, HW12.out.2] at n0 n1
              rw [HW12.out.1] at a0 a1
              have hml : r.1.length ≤ stp := HST.out.2.2.2.1
              have h4 : stp ≤ 4 := HRM.out.2.2.1
              obtain ⟨q, hq⟩ : ∃ q, q = r.1.length := ⟨_, rfl⟩
              have HQ := Lib.hid hq
              have t6 : IntKind.i64.wrap ((i : Int) + (q : Int)) = ((i + q : Nat) : Int) := by rw [IntWalk.i64_in _ (by have := HIL.out; omega)]; rfl
              obtain ⟨iq, hiq⟩ : ∃ iq, iq = i + q := ⟨_, rfl⟩
              rw [← hiq] at t6
              have e1 : decide ((x2 : Int) < (x : Int)) = false := decide_eq_false (by have := HXI.out.1; omega)
              have e1' : decide (x2 < x) = false := decide_eq_false (by have := HXI.out.1; omega)
              have e3 : decide ((stp : Int) < (q : Int)) = false := decide_eq_false (by omega)
              have e3' : decide (stp < q) = false := decide_eq_false (by omega)
              have hx1 : x2 = x → i2' = iq := fun h => by
                have := HST.out.2.2.2.2 (by have := HXI.out.1; omega)
                have := HXI.out.2
                omega
              have HIQ := Lib.hid hiq
              rw [← hq] at hml ⊢
              rw [← hq] at HX
              clear hq hiq
              by_cases hxx : x2 = x
              · obtain rfl := hx1 hxx
                subst hxx
                clear hx1
                have HSRC : Hid (Src Tryz.prog 5 28 (.slice mA q mc) q (ntE.flat r.1) w12) := Lib.hid (by
                  obtain ⟨A', c', h1, -, h2, -⟩ := Kq.Elt.own_at (E := ntE) (by rw [← HQ.out]; exact HX.out.2.2.1 : w12.ownsRow wi.heap.size 58 ntE.n (.slice mA q mc) r.1.length (ntE.flat r.1))
                  injection h1 with h1
                  subst h1
                  have := Kq.Elt.At.srcA Tryz.underlying28 mc h2
                  rwa [← HQ.out] at this)
                rw [HW12.out.1] at HSRC
                have HGT : Hid ((w11.alloc (.cells #[.int .u64 (x2 : Int), .int .i64 (i2' : Int)] 30)).ownsRow wk.heap.size 58 5 (.slice gA g.length gc) g.length (ntE.flat g)) := Lib.hid (by rw [← HW12.out.1]; exact HX.out.1.got)
                go_wp2_with (at_builtin; refine Kq.wpList_append_any _ rfl (.tmp 108) (.tmp 109) 28 28 rfl wk.heap.size 58 i0 (.agg #[.int .i64 0, .int .i64 0, .int .u64 0, .int .u64 0, .string ⟨#[]⟩]) 5 48 Tryz.underlying28 hi0 hz0 hz1 hz2 rfl (by decide) (.slice gA g.length gc) g.length (ntE.flat g) rfl HGT.out (.slice mA q mc) q (ntE.flat r.1) rfl HSRC.out ?h1 ?h2 ?h3 ?_)
                case h1 => have := HGL.out; unfold maxLen; omega
                case h2 => have := HGL.out; omega
                case h3 => have := HX.out.1.bel.size; rw [HW12.out.1] at this; exact this
                intro v' z3 hown3 hgrow hfresh
                rw [← HW12.out.1] at hgrow
                have hfresh : ∀ k, v'.ownBlock = some k → some k = (Value.slice gA g.length gc).ownBlock ∨ w12.heap.size ≤ k := fun k e => by rw [HW12.out.1]; simpa using hfresh k e
                have k3 : Kq.Keeps (fun b => (Value.slice gA g.length gc).ownBlock = some b) w12 z3 := Kq.Keeps.grown hgrow (fun b _ hb => hb)
                have HZ : Hid (z3.heap[AT]? = some (.cells #[.int .u64 (x2 : Int), .int .i64 (i : Int)] 30 (0, 0)) ∧ z3.heap[N]? = some (.cells #[.int .u64 (x2 : Int), .int .i64 (i2' : Int)] 30 (0, 0)) ∧ z3.heap[E]? = some (.cells #[.int .u64 (he : Int), .int .i64 (ie : Int)] 30 (0, 0)) ∧ z3.ownsRow wk.heap.size 58 5 (.slice vA fl.length vc) fl.length (ntE.flat fl) ∧ z3.ownsRow wk.heap.size 58 5 v' (g ++ r.1).length (ntE.flat (g ++ r.1)) ∧ (∀ k, v'.ownBlock = some k → (Value.slice vA fl.length vc).ownBlock ≠ some k) ∧ Below wk.heap.size wk z3) := Lib.hid (by
                  have h := HX.out.1
                  refine ⟨k3.blk h.at_ (place_ne h.got h.at_ (by decide)), k3.blk HX.out.2.1 (place_ne h.got HX.out.2.1 (by decide)), k3.blk h.en (place_ne h.got h.en (by decide)), own_keepsS h.all k3 (fun k hk => h.gne k hk), ?_, fun k hk => ?_, h.bel.trans (k3.below h.bel.size (fun k _ hk => own_geF h.got hk))⟩
                  · rw [List.length_append, ← HQ.out, Kq.Elt.flat_append]; exact hown3
                  · rcases hfresh k hk with h' | h'
                    · exact h.gne k h'.symm
                    · intro h2
                      have := own_ltK h.all h2; omega)
                obtain ⟨vA', vc', hv', -⟩ := Kq.Elt.own_at (E := ntE) HZ.out.2.2.2.2.1
                rw [List.length_append, ← HQ.out] at hv'
                subst hv'
                clear hown3 hgrow hfresh k3 HSRC HGT n0 n1 a0 a1 t1 t2 t3 t4 t5 t6 e1 e1' e3 e3' 
                have a0 := Kq.blk_cell HZ.out.1 0
                have a1 := Kq.blk_cell HZ.out.1 1
                have n0 := Kq.blk_cell HZ.out.2.1 0
                have n1 := Kq.blk_cell HZ.out.2.1 1
                rw [HW12.out.2] at n0 n1
                have f0 := Kq.blk_free HZ.out.1 0
                have f1 := Kq.blk_free HZ.out.1 1
                go_wp2
                have HE : Hid (Fw wk c AT E (.slice vA fl.length vc) he ie stp (n + 1) (j + r.2.1) x2 i2' fl (g ++ r.1) (.slice vA' (g.length + q) vc') ((z3.setCell ⟨AT, 0, none⟩ (.int .u64 (x2 : Int))).setCell ⟨AT, 1, none⟩ (.int .i64 (i2' : Int)))) := Lib.hid (by
                  have h := HX.out.1
                  have k1 : Kq.Keeps (· = AT) z3 (z3.setCell ⟨AT, 0, none⟩ (.int .u64 (x2 : Int))) := Kq.Keeps.setCell _ _ _ rfl
                  have k2 : Kq.Keeps (· = AT) (z3.setCell ⟨AT, 0, none⟩ (.int .u64 (x2 : Int))) ((z3.setCell ⟨AT, 0, none⟩ (.int .u64 (x2 : Int))).setCell ⟨AT, 1, none⟩ (.int .i64 (i2' : Int))) := Kq.Keeps.setCell _ _ _ rfl
                  have k12 := k1.trans k2
                  refine ⟨Kq.blk_set (Kq.blk_set HZ.out.1 0 _) 1 _, k12.blk HZ.out.2.2.1 (fun e => h.ane e.symm), own_keepsS HZ.out.2.2.2.1 k12 (fun k hk e => ?_), own_keepsS HZ.out.2.2.2.2.1 k12 (fun k hk e => ?_), HZ.out.2.2.2.2.2.1, below_past HZ.out.2.2.2.2.2.2 k12 (Nat.le_refl _) (fun k _ e => by have e : k = AT := e; have := h.atl; omega), h.atl, h.ane, by rw [HXI.out.1, h.xe]; omega, ?_, ?_, ?_, fun _ => ?_⟩
                  · have hk : k = AT := hk
                    subst hk
                    exact place_ne HZ.out.2.2.2.1 HZ.out.1 (by decide) e
                  · have hk : k = AT := hk
                    subst hk
                    exact place_ne HZ.out.2.2.2.2.1 HZ.out.1 (by decide) e
                  · obtain ⟨g1, g2, -⟩ := HST.out.1
                    exact ⟨g1, by rw [HXI.out.2]; exact g2⟩
                  · rw [HXI.out.2]; exact HST.out.2.1
                  · rw [h.ge]; exact HST.out.2.2.1
                  · rw [HXI.out.2]; exact HST.out.1)
                go_roundw
                case rel => exact ⟨n + 1, _, _, _, _, by go_num, HNL.out, HE.out⟩
                case measure => have := HNL.out; simp [intOf]; omega
              · have e2 : ((x2 : Int) == (x : Int)) = false := by rw [beq_eq_false_iff_ne]; omega
                have e2' : (x2 == x) = false := by rw [beq_eq_false_iff_ne]; exact hxx
                clear hx1 hxx
                have HSRC : Hid (Src Tryz.prog 5 28 (.slice mA q mc) q (ntE.flat r.1) w12) := Lib.hid (by
                  obtain ⟨A', c', h1, -, h2, -⟩ := Kq.Elt.own_at (E := ntE) (by rw [← HQ.out]; exact HX.out.2.2.1 : w12.ownsRow wi.heap.size 58 ntE.n (.slice mA q mc) r.1.length (ntE.flat r.1))
                  injection h1 with h1
                  subst h1
                  have := Kq.Elt.At.srcA Tryz.underlying28 mc h2
                  rwa [← HQ.out] at this)
                rw [HW12.out.1] at HSRC
                have HGT : Hid ((w11.alloc (.cells #[.int .u64 (x2 : Int), .int .i64 (i2' : Int)] 30)).ownsRow wk.heap.size 58 5 (.slice gA g.length gc) g.length (ntE.flat g)) := Lib.hid (by rw [← HW12.out.1]; exact HX.out.1.got)
                go_wp2_with (at_builtin; refine Kq.wpList_append_any _ rfl (.tmp 108) (.tmp 109) 28 28 rfl wk.heap.size 58 i0 (.agg #[.int .i64 0, .int .i64 0, .int .u64 0, .int .u64 0, .string ⟨#[]⟩]) 5 48 Tryz.underlying28 hi0 hz0 hz1 hz2 rfl (by decide) (.slice gA g.length gc) g.length (ntE.flat g) rfl HGT.out (.slice mA q mc) q (ntE.flat r.1) rfl HSRC.out ?h1 ?h2 ?h3 ?_)
                case h1 => have := HGL.out; unfold maxLen; omega
                case h2 => have := HGL.out; omega
                case h3 => have := HX.out.1.bel.size; rw [HW12.out.1] at this; exact this
                intro v' z3 hown3 hgrow hfresh
                rw [← HW12.out.1] at hgrow
                have hfresh : ∀ k, v'.ownBlock = some k → some k = (Value.slice gA g.length gc).ownBlock ∨ w12.heap.size ≤ k := fun k e => by rw [HW12.out.1]; simpa using hfresh k e
                have k3 : Kq.Keeps (fun b => (Value.slice gA g.length gc).ownBlock = some b) w12 z3 := Kq.Keeps.grown hgrow (fun b _ hb => hb)
                have HZ : Hid (z3.heap[AT]? = some (.cells #[.int .u64 (x : Int), .int .i64 (i : Int)] 30 (0, 0)) ∧ z3.heap[N]? = some (.cells #[.int .u64 (x2 : Int), .int .i64 (i2' : Int)] 30 (0, 0)) ∧ z3.heap[E]? = some (.cells #[.int .u64 (he : Int), .int .i64 (ie : Int)] 30 (0, 0)) ∧ z3.ownsRow wk.heap.size 58 5 (.slice vA fl.length vc) fl.length (ntE.flat fl) ∧ z3.ownsRow wk.heap.size 58 5 v' (g ++ r.1).length (ntE.flat (g ++ r.1)) ∧ (∀ k, v'.ownBlock = some k → (Value.slice vA fl.length vc).ownBlock ≠ some k) ∧ Below wk.heap.size wk z3) := Lib.hid (by
                  have h := HX.out.1
                  refine ⟨k3.blk h.at_ (place_ne h.got h.at_ (by decide)), k3.blk HX.out.2.1 (place_ne h.got HX.out.2.1 (by decide)), k3.blk h.en (place_ne h.got h.en (by decide)), own_keepsS h.all k3 (fun k hk => h.gne k hk), ?_, fun k hk => ?_, h.bel.trans (k3.below h.bel.size (fun k _ hk => own_geF h.got hk))⟩
                  · rw [List.length_append, ← HQ.out, Kq.Elt.flat_append]; exact hown3
                  · rcases hfresh k hk with h' | h'
                    · exact h.gne k h'.symm
                    · intro h2
                      have := own_ltK h.all h2; omega)
                obtain ⟨vA', vc', hv', -⟩ := Kq.Elt.own_at (E := ntE) HZ.out.2.2.2.2.1
                rw [List.length_append, ← HQ.out] at hv'
                subst hv'
                clear hown3 hgrow hfresh k3 HSRC HGT n0 n1 a0 a1 t1 t2 t3 t4 t5 t6 e1 e1' e3 e3' e2 e2'
                have a0 := Kq.blk_cell HZ.out.1 0
                have a1 := Kq.blk_cell HZ.out.1 1
                have n0 := Kq.blk_cell HZ.out.2.1 0
                have n1 := Kq.blk_cell HZ.out.2.1 1
                rw [HW12.out.2] at n0 n1
                have f0 := Kq.blk_free HZ.out.1 0
                have f1 := Kq.blk_free HZ.out.1 1
                go_wp2
                have HE : Hid (Fw wk c AT E (.slice vA fl.length vc) he ie stp (n + 1) (j + r.2.1) x2 i2' fl (g ++ r.1) (.slice vA' (g.length + q) vc') ((z3.setCell ⟨AT, 0, none⟩ (.int .u64 (x2 : Int))).setCell ⟨AT, 1, none⟩ (.int .i64 (i2' : Int)))) := Lib.hid (by
                  have h := HX.out.1
                  have k1 : Kq.Keeps (· = AT) z3 (z3.setCell ⟨AT, 0, none⟩ (.int .u64 (x2 : Int))) := Kq.Keeps.setCell _ _ _ rfl
                  have k2 : Kq.Keeps (· = AT) (z3.setCell ⟨AT, 0, none⟩ (.int .u64 (x2 : Int))) ((z3.setCell ⟨AT, 0, none⟩ (.int .u64 (x2 : Int))).setCell ⟨AT, 1, none⟩ (.int .i64 (i2' : Int))) := Kq.Keeps.setCell _ _ _ rfl
                  have k12 := k1.trans k2
                  refine ⟨Kq.blk_set (Kq.blk_set HZ.out.1 0 _) 1 _, k12.blk HZ.out.2.2.1 (fun e => h.ane e.symm), own_keepsS HZ.out.2.2.2.1 k12 (fun k hk e => ?_), own_keepsS HZ.out.2.2.2.2.1 k12 (fun k hk e => ?_), HZ.out.2.2.2.2.2.1, below_past HZ.out.2.2.2.2.2.2 k12 (Nat.le_refl _) (fun k _ e => by have e : k = AT := e; have := h.atl; omega), h.atl, h.ane, by rw [HXI.out.1, h.xe]; omega, ?_, ?_, ?_, fun _ => ?_⟩
                  · have hk : k = AT := hk
                    subst hk
                    exact place_ne HZ.out.2.2.2.1 HZ.out.1 (by decide) e
                  · have hk : k = AT := hk
                    subst hk
                    exact place_ne HZ.out.2.2.2.2.1 HZ.out.1 (by decide) e
                  · obtain ⟨g1, g2, -⟩ := HST.out.1
                    exact ⟨g1, by rw [HXI.out.2]; exact g2⟩
                  · rw [HXI.out.2]; exact HST.out.2.1
                  · rw [h.ge]; exact HST.out.2.2.1
                  · rw [HXI.out.2]; exact HST.out.1)
                go_roundw
                case rel => exact ⟨n + 1, _, _, _, _, by go_num, HNL.out, HE.out⟩
                case measure => have := HNL.out; simp [intOf]; omega
            · obtain rfl : n = 200 := by omega
              have HEQ : Hid (g = fl ∧ x = he ∧ i = ie) := Lib.hid (by
                rw [HFE.out]
                have h1 := HRM.out.2.1
                have h2 := HFS.out.2.2.2.2.1
                have hmin : min (200 * stp) c.blks.flatten.length = c.blks.flatten.length := by omega
                have hp := HF2.out.pos
                rw [hmin] at hp
                obtain ⟨q1, q2⟩ := EndL.one (HF2.out.end_ (by omega)) HAL.out.2.1 (hp.trans (by rw [HAL.out.2.2, HFE.out]))
                refine ⟨by rw [HF2.out.ge, hmin, List.take_length], by rw [HF2.out.xe, HHE.out.1, q1], by rw [HHE.out.2, q2]⟩)
              obtain ⟨rfl, rfl, rfl⟩ := HEQ.out
              have hF := HF2.out
              clear HEQ hn hn2
              have HFF : Hid (Fw wk c AT E (.slice vA g.length vc) x i stp 200 j x i g g (.slice gA g.length gc) wi) := Lib.hid hF
              have HFL : Hid (g.length ≤ 60 ∧ ∀ n ∈ g, NOk n) := Lib.hid ⟨by rw [HFE.out]; exact HFS.out.2.2.2.2.1, by rw [HFE.out]; exact HNK.out.bl⟩
              clear hF
              have HSN := Lib.hid (same_notes gA vA gc vc g wi (by
                obtain ⟨A', c', h1, -, h2, -⟩ := Kq.Elt.own_at (E := ntE) HFF.out.got
                injection h1 with h1
                subst h1; exact h2) (by
                obtain ⟨A', c', h1, -, h2, -⟩ := Kq.Elt.own_at (E := ntE) HFF.out.all
                injection h1 with h1
                subst h1; exact h2) (by have := HFL.out.1; omega))
              have HIN : Hid (Below wk.heap.size wk wi) := Lib.hid HFF.out.bel
              clear HF2 HGL HAL HHE HFS HNK HLG HFP
              go_wp2_with fail
              refine HSN.out.mono ?_
              rintro y w13 ⟨rfl, b13⟩
              have HF3 := Lib.hid (HFF.out.below b13)
              clear b13 HFF HSN HIN
              have a0 := Kq.blk_cell HF3.out.at_ 0
              have a1 := Kq.blk_cell HF3.out.at_ 1
              have e0 := Kq.blk_cell HF3.out.en 0
              have e1 := Kq.blk_cell HF3.out.en 1
              go_wp2
              clear a0 a1 e0 e1
              go_loopw [20] (fun u w14 => ∃ q : Nat, u = .int .i64 (q : Int) ∧ q ≤ g.length ∧ Fw wk c AT E (.slice vA g.length vc) x i stp 200 j x i g g (.slice gA g.length gc) w14) (fun u _ => g.length - (intOf u).toNat)
              case atStart => exact ⟨0, rfl, by omega, HF3.out⟩
              case round =>
                clear HF3
                obtain ⟨q, rfl, hq, hF⟩ := hrel
                generalize wr = wz at *
                have HF3 := Lib.hid hF
                have hfl := HFL.out.1
                clear hF
                by_cases hq2 : q < g.length
                · obtain ⟨b, off, rfl, hb, hc⟩ := own_en13 HF3.out.all q hq2
                  obtain ⟨nn, hnn⟩ : ∃ nn, nn = g[q] := ⟨_, rfl⟩
                  rw [← hnn] at hc
                  have HNO : Hid (NOk nn) := Lib.hid (by rw [hnn]; exact HFL.out.2 _ (List.getElem_mem hq2))
                  have HQL := Lib.hid hq2
                  have i3 : (q : Int) < (g.length : Int) := by omega
                  obtain ⟨kd, f, sq, t, d⟩ := nn
                  have c0 : wz.cell? ⟨b, off + q * 5 + 0, none⟩ = some (.int .i64 kd) := hc 0 (by decide)
                  have c1 : wz.cell? ⟨b, off + q * 5 + 1, none⟩ = some (.int .i64 f) := hc 1 (by decide)
                  have c2 : wz.cell? ⟨b, off + q * 5 + 2, none⟩ = some (.int .u64 sq) := hc 2 (by decide)
                  have c3 : wz.cell? ⟨b, off + q * 5 + 3, none⟩ = some (.int .u64 t) := hc 3 (by decide)
                  have c4 : wz.cell? ⟨b, off + q * 5 + 4, none⟩ = some (.string d) := hc 4 (by decide)
                  rw [Nat.add_zero] at c0
                  have HCK2 := Lib.hid (pk_check_ok f sq t d wz HNO.out.2)
                  have HBK := Lib.hid hb
                  have HC0 := Lib.hid c0
                  have k1 : decide (kd < 1) = false := decide_eq_false (by have := HNO.out.1.1; simp only at this; omega)
                  have k2 : decide (4 < kd) = false := decide_eq_false (by have := HNO.out.1.2; simp only at this; omega)
                  clear hnn hc hb hq2
                  go_wp2_with fail
                  refine HCK2.out.mono ?_
                  rintro y w15 ⟨rfl, b15⟩
                  have HF4 := Lib.hid (HF3.out.below b15)
                  have d0 := (b15.cell (p := ⟨b, off + q * 5, none⟩) HBK.out).trans HC0.out
                  clear b15 HF3 HCK2 c0 c1 c2 c3 c4 HC0
                  go_wp2
                  go_roundw
                  case rel => first | exact ⟨q + 1, by go_num, HQL.out, HF4.out⟩ | ((repeat apply Exists.intro); refine ⟨⟨q + 1, ?_, HQL.out, HF4.out⟩, rfl⟩; go_num)
                  case measure => have := HQL.out; simp [intOf]; omega
                · obtain rfl : q = g.length := by omega
                  have HE := Lib.hid (HLA.out _ HF3.out.bel)
                  clear hq2 HF3
                  go_wp2
                  go_roundw
                  case rel => exact ⟨k + 1, by go_num, HKL.out, HE.out⟩
                  case measure => have := HKL.out; simp [intOf]; omega
        · obtain rfl : k = 2 := by omega
          have HE := Lib.hid HM.out.bel
          clear hk2 HM
          go_wp2
          go_ret
          exact ⟨rfl, HE.out⟩
end chainFollows
theorem chainFollows_walk (v0 v1 v2 : Value) (a3 : Int) {W : World} (k0 : ∃ a b : Nat, v0 = .agg #[.int .u64 (a : Int), .int .u64 (b : Int)] ∧ a < 18446744073709551616 ∧ b < 18446744073709551616) (k1 : ∃ a b : Nat, v1 = .agg #[.int .u64 (a : Int), .int .u64 (b : Int)] ∧ a < 18446744073709551616 ∧ b < 18446744073709551616) (k2 : ∃ A cap l, v2 = .slice A l.length cap ∧ l.length ≤ cap ∧ caE.Lo W W.heap.size A l ∧ ∀ n ∈ l, n.wf) (k3 : (Lit.int .u8 a3).wf = true) (w : World) (e : W = w) (hL : LaidOk w) :
    Calls Tryz.prog 4 #[v0, v1, v2, .int .u8 a3] w fun x w' => x = .returned (.bool true) ∧ Below w.heap.size w w' := by
  subst e
  obtain ⟨h0, h1, rfl, g0, g1⟩ := k0
  obtain ⟨s0, s1, rfl, g2, g3⟩ := k1
  obtain ⟨A, ca, l, rfl, hca, hA, hwf⟩ := k2
  obtain ⟨st, rfl, hst⟩ : ∃ st : Nat, a3 = (st : Int) ∧ st < 256 := by
    simp [Lit.wf, IntKind.min, IntKind.max, IntKind.signed, IntKind.bits] at k3
    exact ⟨a3.toNat, by omega, by omega⟩
  by_cases hf : FewC s0 s1 l
  · exact chainFollows.main h0 h1 s0 s1 A ca l st W hA hL hf hwf g0 g1 g2 g3 hst
  · exact chainFollows.early h0 h1 s0 s1 A ca l st W hA hL hf
end Go.Proofs.YtbjchfcoacmaaaaGreatDoor
