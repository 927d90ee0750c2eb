/- carracklaw08.MerkleClimbs walked. Condition: the constants lie where they lie. -/
import Derived.WalkSpells
import Derived.Outline
import Derived.Deep.RegionHeld
import Derived.Test.YtnbapiddbcaolaaDoorMkC
import Derived.Test.YtnbapiddbcaolaaDoorRkV
import Derived.Test.YtnbapiddbcaolaaDoorMkLeaf
namespace Go.Proofs.YtnbapiddbcaolaaDoor
open Go.RowKit
set_option linter.unusedVariables false
namespace merkleClimbs
/-- the law's box, and the constants -/
structure LC (W w : World) (idx cnt : Int) (k u : ByteArray) (A : Option Addr) (cap : Nat) (ps : List ByteArray) : Prop where
  x : XBox w W.heap.size idx cnt (k, u) (.slice A ps.length cap)
  t : TxLo W W.heap.size A ps
  laid : LaidOk W
  bel : Below W.heap.size W w
variable {W w w' : World} {idx cnt : Int} {k u : ByteArray} {A : Option Addr} {cap : Nat} {ps : List ByteArray}
theorem LC.below (h : LC W w idx cnt k u A cap ps) (hb : Below w.heap.size w w') : LC W w' idx cnt k u A cap ps := ⟨h.x.below hb, h.t, h.laid, h.bel.trans (hb.mono h.bel.size)⟩
theorem LC.drew (h : LC W w idx cnt k u A cap ps) : LC W w.drew idx cnt k u A cap ps := ⟨⟨h.x.bx⟩, h.t, h.laid, h.bel.drew⟩
theorem LC.keeps {lo hi : Nat} (h : LC W w idx cnt k u A cap ps) (hk : Kq.Keeps (fun j => lo ≤ j ∧ j < hi) w w') (hlo : W.heap.size + 1 ≤ lo) : LC W w' idx cnt k u A cap ps :=
  ⟨h.x.keeps hk (fun h => by omega), h.t, h.laid, by
    have hb := h.bel
    exact ⟨hk.os.trans hb.os, hk.tape.trans hb.tape, hk.output.trans hb.output, Nat.le_trans hb.size hk.size, fun j hj => by rw [hk.block j (Nat.lt_of_lt_of_le hj hb.size) (fun h => by omega), hb.block j hj]⟩⟩
theorem LC.lt (h : LC W w idx cnt k u A cap ps) : W.heap.size + 1 ≤ w.heap.size := Kq.blk_lt h.x.bx
theorem LC.tx (h : LC W w idx cnt k u A cap ps) : TxLo w W.heap.size A ps := h.t.below h.bel
theorem LC.ok (h : LC W w idx cnt k u A cap ps) : LaidOk w := h.laid.later h.bel
theorem LC.start (ht : TxLo W W.heap.size A ps) (hL : LaidOk W) : LC W (W.alloc (.cells #[.int .i64 idx, .int .i64 cnt, .string k, .string u, .slice A ps.length cap] 44)) idx cnt k u A cap ps := ⟨⟨Kq.blk_new _ _ _ _⟩, ht, hL, Kq.below_alloc _ _⟩
def FewC (k u : ByteArray) (ps : List ByteArray) : Prop := ps.length ≤ 40 ∧ k.size ≤ 300 ∧ u.size ≤ 300
set_option maxRecDepth 100000 in
set_option maxHeartbeats 2000000 in
theorem early (idx cnt : Int) (k u : ByteArray) (A : Option Addr) (cap : Nat) (ps : List ByteArray) (W : World) (ht : TxLo W W.heap.size A ps) (hL : LaidOk W) (hno : ¬ FewC k u ps) :
    Calls Tryd.prog 4 #[.agg #[.int .i64 idx, .int .i64 cnt, .string k, .string u, .slice A ps.length cap]] W fun x w' => x = .returned (.bool true) ∧ Below W.heap.size W w' := by
  have H := Lib.hid (LC.start (idx := idx) (cnt := cnt) (k := k) (u := u) (cap := cap) ht hL)
  have HNO := Lib.hid hno
  clear ht hL hno
  by_cases h1 : 40 < ps.length
  · have d1 : decide ((40 : Int) < (ps.length : Int)) = true := decide_eq_true (by omega)
    have d1' : decide (40 < ps.length) = true := decide_eq_true h1
    clear h1
    go_enter Tryd.func4, Tryd.ntmps4
    go_wp2_with fail
    refine (awake08 _ H.out.ok).mono ?_
    rintro x w1 ⟨rfl, b1⟩
    have H1 := Lib.hid (H.out.below b1)
    clear b1 H
    have c4 := H1.out.x.c4
    go_wp2
    go_ret
    exact ⟨rfl, H1.out.bel⟩
  have d1 : decide ((40 : Int) < (ps.length : Int)) = false := decide_eq_false (by omega)
  have d1' : decide (40 < ps.length) = false := decide_eq_false h1
  by_cases h2 : 300 < k.size
  · have d2 : decide ((300 : Int) < (k.size : Int)) = true := decide_eq_true (by omega)
    have d2' : decide (300 < k.size) = true := decide_eq_true h2
    clear h1 h2
    go_enter Tryd.func4, Tryd.ntmps4
    go_wp2_with fail
    refine (awake08 _ H.out.ok).mono ?_
    rintro x w1 ⟨rfl, b1⟩
    have H1 := Lib.hid (H.out.below b1)
    clear b1 H
    have c4 := H1.out.x.c4
    have c2 : w1.cell? ⟨W.heap.size, 2, none⟩ = some (.string k) := H1.out.x.c2
    go_wp2
    go_ret
    exact ⟨rfl, H1.out.bel⟩
  have d2 : decide ((300 : Int) < (k.size : Int)) = false := decide_eq_false (by omega)
  have d2' : decide (300 < k.size) = false := decide_eq_false h2
  have h3 : 300 < u.size := Nat.lt_of_not_le fun h => HNO.out ⟨by omega, by omega, h⟩
  have d3 : decide ((300 : Int) < (u.size : Int)) = true := decide_eq_true (by omega)
  have d3' : decide (300 < u.size) = true := decide_eq_true h3
  clear h1 h2 h3
  go_enter Tryd.func4, Tryd.ntmps4
  go_wp2_with fail
  refine (awake08 _ H.out.ok).mono ?_
  rintro x w1 ⟨rfl, b1⟩
  have H1 := Lib.hid (H.out.below b1)
  clear b1 H
  have c4 := H1.out.x.c4
  have c2 : w1.cell? ⟨W.heap.size, 2, none⟩ = some (.string k) := H1.out.x.c2
  have c3 : w1.cell? ⟨W.heap.size, 3, none⟩ = some (.string u) := H1.out.x.c3
  go_wp2
  go_ret
  exact ⟨rfl, H1.out.bel⟩
set_option maxRecDepth 100000 in
set_option maxHeartbeats 4000000 in
theorem main (idx cnt : Int) (k u : ByteArray) (A : Option Addr) (cap : Nat) (ps : List ByteArray) (W : World) (ht : TxLo W W.heap.size A ps) (hL : LaidOk W) (hcap : ps.length ≤ cap) (hyes : FewC k u ps) :
    Calls Tryd.prog 4 #[.agg #[.int .i64 idx, .int .i64 cnt, .string k, .string u, .slice A ps.length cap]] W fun x w' => x = .returned (.bool true) ∧ Below W.heap.size W w' := by
  have H := Lib.hid (LC.start (idx := idx) (cnt := cnt) (k := k) (u := u) (cap := cap) ht hL)
  have HY := Lib.hid (And.intro hyes hcap)
  have d1 : decide ((40 : Int) < (ps.length : Int)) = false := decide_eq_false (by have := hyes.1; omega)
  have d1' : decide (40 < ps.length) = false := decide_eq_false (by have := hyes.1; omega)
  have d2 : decide ((300 : Int) < (k.size : Int)) = false := decide_eq_false (by have := hyes.2.1; omega)
  have d2' : decide (300 < k.size) = false := decide_eq_false (by have := hyes.2.1; omega)
  have d3 : decide ((300 : Int) < (u.size : Int)) = false := decide_eq_false (by have := hyes.2.2; omega)
  have d3' : decide (300 < u.size) = false := decide_eq_false (by have := hyes.2.2; omega)
  clear ht hL hcap hyes
  go_enter Tryd.func4, Tryd.ntmps4
  go_wp2_with fail
  refine (awake08 _ H.out.ok).mono ?_
  rintro x w1 ⟨rfl, b1⟩
  have H1 := Lib.hid (H.out.below b1)
  clear b1 H
  have c0 := H1.out.x.c0
  have c1 := H1.out.x.c1
  have c4 := H1.out.x.c4
  have c2 : w1.cell? ⟨W.heap.size, 2, none⟩ = some (.string k) := H1.out.x.c2
  have c3 : w1.cell? ⟨W.heap.size, 3, none⟩ = some (.string u) := H1.out.x.c3
  go_wp2
  go_loop [3] (fun x => ∃ j : Nat, j ≤ ps.length ∧ x = .int .i64 (j : Int)) (fun x => ps.length - (intOf x).toNat)
  case atStart => exact ⟨0, by omega, rfl⟩
  case round =>
    obtain ⟨j, hj, rfl⟩ := hrel
    have hn' : ps.length ≤ 40 := HY.out.1.1
    by_cases hlt : j < ps.length
    · obtain ⟨g, o, rfl, hg0, hg, cj⟩ := H1.out.tx j hlt
      obtain ⟨s, hs⟩ : ∃ s, s = ps[j] := ⟨_, rfl⟩
      rw [← hs] at cj
      have HLT := Lib.hid hlt
      have hi0 : (j : Int) < (ps.length : Int) := by omega
      clear hg hg0 hs
      by_cases h300 : 300 < s.size
      · have q1 : decide ((300 : Int) < (s.size : Int)) = true := decide_eq_true (by omega)
        have q2 : decide (300 < s.size) = true := decide_eq_true h300
        clear h300
        go_wp2
        go_ret
        exact ⟨rfl, H1.out.bel⟩
      · have q1 : decide ((300 : Int) < (s.size : Int)) = false := decide_eq_false (by omega)
        have q2 : decide (300 < s.size) = false := decide_eq_false h300
        clear h300
        go_wp2
        go_round
        case rel => exact ⟨j + 1, HLT.out, by go_num⟩
        case measure => have := HLT.out; simp [intOf]; omega
    · obtain rfl : j = ps.length := by omega
      clear hlt
      go_wp2_with fail
      refine (mk_climb idx cnt (k, u) ps A cap w1 H1.out.tx.at (by omega) (by have h1 := HY.out.1.2.1; have h2 := HY.out.1.2.2; show k.size + u.size ≤ 90000; omega) HY.out.2 H1.out.ok).mono ?_
      rintro x w2 ⟨rfl, b2⟩
      have H2 := Lib.hid (H1.out.below b2).drew
      clear b2 H1 c0 c1 c2 c3 c4
      have HRC := Lib.hid (fun lo hi P w0 => rk_climb idx cnt k u ps A cap lo hi P [] w0)
      generalize askC idx cnt (k, u) ps = U at *
      generalize climbV idx cnt (k, u) ps = R at *
      obtain ⟨D, ok⟩ := R
      go_wp2
      refine wp_region_held_drew (S := fun w' => VBox w' W.heap.size idx cnt k u (.slice A ps.length cap)) (by kernel_rfl) H2.out.x.v (fun hS0 => ?_)
      generalize w2.drew = z0 at *
      unfold VBox at hS0
      dsimp only [VBox]
      refine wpAnyH_take (i := 1) (v := ?_) rfl (by kernel_rfl) (by kernel_rfl) (by kernel_rfl) (fun _ _ _ h => h) (Or.inl ⟨by kernel_rfl, ?_⟩) (by assumption) ?_
      rotate_left
      · intro w hSw; (try dsimp only at hSw); go_simp; (try with_reducible rfl)
      refine wpAnyH_ready (rs := [0]) (by kernel_rfl) (by simp) ?_
      refine AllReadyH.cons rfl (fun K hK => ?_) AllReadyH.nil
      go_simp
      refine (r_booknewW z0).mono ?_
      rintro x z1 ⟨P, rfl, hbk, hb1⟩
      have H3 := Lib.hid (show LC W z1 idx cnt k u A cap ps ∧ BookW z1 z0.heap.size z1.heap.size P [] ∧ z0.heap.size ≤ z1.heap.size ∧ W.heap.size + 1 ≤ z0.heap.size from ⟨H2.out.below hb1, hbk, hb1.size, H2.out.lt⟩)
      clear hbk hb1 H2 hS0
      refine hK.out _ _ H3.out.1.x.v (fun hS0 => ?_)
      clear hK K
      refine wpAnyH_ready (rs := [2]) (by kernel_rfl) (by simp) ?_
      refine AllReadyH.cons rfl (fun K hK => ?_) AllReadyH.nil
      go_simp
      refine (HRC.out z0.heap.size z1.heap.size P z1 H3.out.2.1 (Nat.le_refl _) H3.out.2.2.1 (H3.out.1.tx.raise (by have := H3.out.2.2.2; omega)) (by have := HY.out.1.1; omega) (by have h1 := HY.out.1.2.1; have h2 := HY.out.1.2.2; omega) (by simp)).mono ?_
      rintro x z2 ⟨rfl, hbk, hkp⟩
      have H4 := Lib.hid (H3.out.1.keeps hkp H3.out.2.2.2)
      clear hbk hkp H3 hS0
      refine hK.out _ _ H4.out.x.v (fun hS0 => ?_)
      clear hK K
      refine wpAnyH_take (i := 3) (v := ?_) rfl (by kernel_rfl) (by kernel_rfl) (by kernel_rfl) (fun _ _ _ h => h) (Or.inl ⟨by kernel_rfl, ?_⟩) (by assumption) ?_
      rotate_left
      · intro w hSw; (try dsimp only at hSw); go_simp; (try with_reducible rfl)
      refine wpAnyH_take (i := 4) (v := ?_) rfl (by kernel_rfl) (by kernel_rfl) (by kernel_rfl) (fun _ _ _ h => h) (Or.inl ⟨by kernel_rfl, ?_⟩) (by assumption) ?_
      rotate_left
      · intro w hSw; (try dsimp only at hSw); go_simp; (try with_reducible rfl)
      refine wpAnyH_take (i := 5) (v := ?_) rfl (by kernel_rfl) (by kernel_rfl) (by kernel_rfl) (fun _ _ _ h => h) (Or.inl ⟨by kernel_rfl, ?_⟩) (by assumption) ?_
      rotate_left
      · intro w hSw; (try dsimp only at hSw); go_simp; (try with_reducible rfl)
      refine wpAnyH_take (i := 6) (v := ?_) rfl (by kernel_rfl) (by kernel_rfl) (by kernel_rfl) (fun _ _ _ h => h) (Or.inl ⟨by kernel_rfl, ?_⟩) (by assumption) ?_
      rotate_left
      · intro w hSw; (try dsimp only at hSw); go_simp; (try with_reducible rfl)
      refine wpAnyH_take (i := 7) (v := ?_) rfl (by kernel_rfl) (by kernel_rfl) (by kernel_rfl) (fun _ _ _ h => h) (Or.inl ⟨by kernel_rfl, ?_⟩) (by assumption) ?_
      rotate_left
      · intro w hSw; (try dsimp only at hSw); go_simp; (try with_reducible rfl)
      refine wpAnyH_done (by kernel_rfl) ?_ _
      have e1 : (D.toList == D.toList) = true := by simp
      have e2 : (ok == ok) = true := by simp
      go_wp2
      go_ret
      exact ⟨rfl, H4.out.bel⟩
theorem merkleClimbs_walk (v0 : Value) {W : World} (h0 : ∃ idx cnt k u A cap ps, v0 = .agg #[.int .i64 idx, .int .i64 cnt, .string k, .string u, .slice A (List.length ps) cap] ∧ List.length ps ≤ cap ∧ TxLo W W.heap.size A ps) (w : World) (e : W = w) (hL : LaidOk w) :
    Calls Tryd.prog 4 #[v0] w fun x w' => x = .returned (.bool true) ∧ Below w.heap.size w w' := by
  subst e
  obtain ⟨idx, cnt, k, u, A, cap, ps, rfl, hcap, ht⟩ := h0
  by_cases hg : FewC k u ps
  · exact main idx cnt k u A cap ps W ht hL hcap hg
  · exact early idx cnt k u A cap ps W ht hL hg
end merkleClimbs
end Go.Proofs.YtnbapiddbcaolaaDoor
