/- carracklaw08.MerkleBack walked. Condition: the constants lie where they lie. -/
import Derived.WalkSpells
import Derived.Outline
import Derived.Deep.RegionHeld
import Derived.Test.YtnbapiddbcaolaaDoorMkC
import Derived.Test.YtnbapiddbcaolaaDoorMkV
import Derived.Test.YtnbapiddbcaolaaDoorMkOpen
namespace Go.Proofs.YtnbapiddbcaolaaDoor
open Go.RowKit
set_option linter.unusedVariables false
theorem row_parts {w : World} {base : Nat} {v : Value} {ps : List ByteArray} (h : w.ownsRow base 9 1 v ps.length (scells ps)) : ∃ A cap, v = .slice A ps.length cap ∧ ps.length ≤ cap ∧ PartsAt w A ps := by
  rcases h.2 with ⟨rfl, h0⟩ | ⟨g, cap, cur, rfl, _, hb, hc, _, _, ht⟩
  · exact ⟨none, 0, by rw [h0], by omega, fun j hj => by omega⟩
  · refine ⟨_, cap, rfl, hc, fun j hj => ⟨g, 0, rfl, Kq.blk_lt hb, ?_⟩⟩
    have h1 : (scells ps)[j]? = some (.string ps[j]) := by simp [scells, hj]
    rw [Nat.zero_add, Kq.blk_cell hb, ← h1, ← ht, List.getElem?_take, if_pos (by omega), Array.getElem?_toList]
/-- what Path tells, opened -/
def PathAt (w : World) (ps : List ByteArray) (x : Ending) (w' : World) : Prop := ∃ A cap, x = .returned (.slice A ps.length cap) ∧ ps.length ≤ cap ∧ PartsAt w' A ps ∧ Below w.heap.size w w'
theorem PathPost.at {w : World} {ps : List ByteArray} {x : Ending} {w' : World} (h : PathPost w ps x w') : PathAt w ps x w' := by
  obtain ⟨v, rfl, hown, hb⟩ := h
  obtain ⟨A, cap, rfl, hc, hp⟩ := row_parts hown
  exact ⟨A, cap, rfl, hc, hp, hb⟩
namespace merkleBack
/-- the law's list in memory, and the constants -/
structure LO (W w : World) (A : Option Addr) (l : List PairV) : Prop where
  a : PsLo W W.heap.size A l
  laid : LaidOk W
  bel : Below W.heap.size W w
variable {W w w' : World} {A : Option Addr} {l : List PairV}
theorem LO.below (h : LO W w A l) (hb : Below w.heap.size w w') : LO W w' A l := ⟨h.a, h.laid, h.bel.trans (hb.mono h.bel.size)⟩
theorem LO.pa (h : LO W w A l) : PsAt w A l := (h.a.below h.bel).at
theorem LO.ok (h : LO W w A l) : LaidOk w := h.laid.later h.bel
set_option maxRecDepth 100000 in
set_option maxHeartbeats 1000000 in
theorem early (A : Option Addr) (ca : Nat) (l : List PairV) (W : World) (h : LO W W A l) (hno : ¬ (FewP l ∧ chkE l = 0)) :
    Calls Tryd.prog 5 #[.slice A l.length ca] W fun x w' => x = .returned (.bool true) ∧ Below W.heap.size W w' := by
  have H := Lib.hid h
  have HNO := Lib.hid hno
  clear h hno
  go_enter Tryd.func5, Tryd.ntmps5
  go_wp2_with fail
  refine (awake08 W H.out.ok).mono ?_
  rintro x w1 ⟨rfl, b1⟩
  have H1 := Lib.hid (H.out.below b1)
  clear b1 H
  go_wp2_with fail
  refine (few08 l A ca w1 H1.out.pa).mono ?_
  rintro x w2 ⟨rfl, rfl⟩
  by_cases f1 : FewP l
  · rw [decide_eq_true f1]
    have HF := Lib.hid f1
    clear f1
    go_wp2_with fail
    refine (mk_check l A ca w1 H1.out.pa HF.out.1).mono ?_
    rintro x w3 ⟨rfl, b3⟩
    have H3 := Lib.hid (H1.out.below b3)
    clear b3 H1
    have c1 : (chkE l != 0) = true := by rw [bne_iff_ne]; exact fun h => HNO.out ⟨HF.out, h⟩
    generalize chkE l = cl at *
    go_wp2
    go_ret
    exact ⟨rfl, H3.out.bel⟩
  · rw [decide_eq_false f1]
    clear f1
    go_wp2
    go_ret
    exact ⟨rfl, H1.out.bel⟩
theorem climb_back (l : List PairV) (j : Nat) (h : j < l.length) (hl : l.length ≤ 40) : climbV (j : Int) (l.length : Int) l[j] (pathL l j) = (dgT (topT l.length (digL l)), true) := by
  have hb := back l.length l j l[j] (Nat.le_refl _) (List.getElem?_eq_getElem h)
  unfold climbV
  rw [Int.toNat_natCast, Int.toNat_natCast, hb]
  rw [if_pos]
  exact ⟨⟨by omega, by omega, by omega, by omega, fun s hs => pathL_size _ l j (Nat.le_refl _) s hs⟩, rfl⟩
def PBox (w' : World) (b o : Nat) (p : PairV) : Prop := w'.cell? ⟨b, o, none⟩ = some (.string p.1) ∧ w'.cell? ⟨b, o + 1, none⟩ = some (.string p.2)
set_option maxRecDepth 100000 in
set_option maxHeartbeats 2000000 in
theorem main (A : Option Addr) (ca : Nat) (l : List PairV) (W : World) (h : LO W W A l) (hf : FewP l) (hc : chkE l = 0) (hca : l.length ≤ ca) :
    Calls Tryd.prog 5 #[.slice A l.length ca] W fun x w' => x = .returned (.bool true) ∧ Below W.heap.size W w' := by
  have H := Lib.hid h
  have HF := Lib.hid (And.intro hf (And.intro hc hca))
  have d1 : Hid (decide (FewP l) = true) := Lib.hid (decide_eq_true hf)
  have HL := Lib.hid (show l.length ≤ 40 from hf.1)
  obtain ⟨RT, hRT⟩ : ∃ RT, RT = dgT (topT l.length (digL l)) := ⟨_, rfl⟩
  have HCB := Lib.hid (fun j (h : j < l.length) => climb_back l j h hf.1)
  rw [← hRT] at HCB
  have HRT := Lib.hid hRT
  clear h hf hc hca hRT
  go_enter Tryd.func5, Tryd.ntmps5
  go_wp2_with fail
  refine (awake08 W H.out.ok).mono ?_
  rintro x w1 ⟨rfl, b1⟩
  have H1 := Lib.hid (H.out.below b1)
  clear b1 H
  go_wp2_with fail
  refine (few08 l A ca w1 H1.out.pa).mono ?_
  rintro x w2 ⟨rfl, rfl⟩
  rw [d1.out]
  go_wp2_with fail
  refine (mk_check l A ca w1 H1.out.pa HL.out).mono ?_
  rintro x w3 ⟨rfl, b3⟩
  rw [HF.out.2.1]
  have H3 := Lib.hid (H1.out.below b3)
  clear b3 H1
  go_wp2_with fail
  refine (mk_root l A ca w3 (by have := HL.out; omega) HF.out.1.fit H3.out.pa H3.out.ok HF.out.2.2).mono ?_
  rintro x w4 ⟨rfl, b4⟩
  rw [← HRT.out]
  have H4 := Lib.hid (H3.out.below b4)
  clear b4 H3
  go_wp2
  go_loopw [4] (fun i wr => ∃ j : Nat, j ≤ l.length ∧ i = .int .i64 (j : Int) ∧ LO W wr A l) (fun i _ => l.length - (intOf i).toNat)
  case atStart => exact ⟨0, by omega, rfl, H4.out⟩
  case round =>
    obtain ⟨j, hj, rfl, hlo⟩ := hrel
    have H5 := Lib.hid hlo
    have hl40 := HL.out
    by_cases hlt : j < l.length
    · obtain ⟨b, off, rfl, hb, c0, c1⟩ := hlo.pa j hlt
      obtain ⟨p, hp⟩ : ∃ p, p = l[j] := ⟨_, rfl⟩
      rw [← hp] at c0 c1
      have hi0 : (j : Int) < (l.length : Int) := by omega
      have HLT := Lib.hid hlt
      have HCL := Lib.hid (HCB.out j hlt)
      rw [← hp] at HCL
      have HSZ : Hid (p.1.size + p.2.size ≤ 90000) := Lib.hid (HF.out.1.fit p (by rw [hp]; exact List.getElem_mem _))
      have HPL : Hid ((pathL l j).length ≤ 1000) := Lib.hid (by have := pathL_len _ l j (Nat.le_refl _); omega)
      have HPA := Lib.hid (fun w' (hps : PsAt w' (some ⟨b, off, none⟩) l) (hlk : LaidOk w') => mk_path l.length l j (some ⟨b, off, none⟩) ca w' (Nat.le_refl _) (by omega) HF.out.1.fit hps hlk HF.out.2.2 hlt)
      have hcl := hlo
      clear hlo hp hlt hcl
      obtain ⟨k, v⟩ := p
      simp only at c0 c1
      have HD : Hid (LO W wr.drew (some ⟨b, off, none⟩) l ∧ PBox wr.drew b (off + j * 2) (k, v) ∧ b < wr.drew.heap.size) := Lib.hid ⟨H5.out.below (Below.refl _ _).drew, ⟨c0, c1⟩, hb⟩
      clear c0 c1 hb
      obtain ⟨PL, hPL⟩ : ∃ PL, PL = pathL l j := ⟨_, rfl⟩
      rw [← hPL] at HCL HPL HPA
      clear hPL
      go_wp2
      refine wp_region_held_drew (S := fun w' => PBox w' b (off + j * 2) (k, v)) (by kernel_rfl) HD.out.2.1 (fun hS0 => ?_)
      generalize wr.drew = z0 at *
      unfold PBox at hS0
      dsimp only [PBox]
      dsimp only at hS0
      refine wpAnyH_take (i := 0) (v := ?_) rfl (by kernel_rfl) (by kernel_rfl) (by kernel_rfl) (fun _ _ _ h => h) (Or.inl ⟨by kernel_rfl, ?_⟩) (by assumption) ?_
      rotate_left
      · intro w hSw; (try dsimp only at hSw); go_simp; (try with_reducible rfl)
      refine wpAnyH_take (i := 1) (v := ?_) rfl (by kernel_rfl) (by kernel_rfl) (by kernel_rfl) (fun _ _ _ h => h) (Or.inl ⟨by kernel_rfl, ?_⟩) (by assumption) ?_
      rotate_left
      · intro w hSw; (try dsimp only at hSw); go_simp; (try with_reducible rfl)
      refine wpAnyH_take (i := 2) (v := ?_) rfl (by kernel_rfl) (by kernel_rfl) (by kernel_rfl) (fun _ _ _ h => h) (Or.inl ⟨by kernel_rfl, ?_⟩) (by assumption) ?_
      rotate_left
      · intro w hSw; (try dsimp only at hSw); go_simp; (try with_reducible rfl)
      refine wpAnyH_take (i := 3) (v := ?_) rfl (by kernel_rfl) (by kernel_rfl) (by kernel_rfl) (fun _ _ _ h => h) (Or.inl ⟨by kernel_rfl, ?_⟩) (by assumption) ?_
      rotate_left
      · intro w hSw; (try dsimp only at hSw); go_simp; (try with_reducible rfl)
      refine wpAnyH_take (i := 4) (v := ?_) rfl (by kernel_rfl) (by kernel_rfl) (by kernel_rfl) (fun _ _ _ h => h) (Or.inl ⟨by kernel_rfl, ?_⟩) (by assumption) ?_
      rotate_left
      · intro w hSw; (try dsimp only at hSw); go_simp; (try with_reducible rfl)
      refine wpAnyH_take (i := 5) (v := ?_) rfl (by kernel_rfl) (by kernel_rfl) (by kernel_rfl) (fun _ _ _ h => h) (Or.inl ⟨by kernel_rfl, ?_⟩) (by assumption) ?_
      rotate_left
      · intro w hSw; (try dsimp only at hSw); go_simp; (try with_reducible rfl)
      refine wpAnyH_take (i := 6) (v := ?_) rfl (by kernel_rfl) (by kernel_rfl) (by kernel_rfl) (fun _ _ _ h => h) (Or.inl ⟨by kernel_rfl, ?_⟩) (by assumption) ?_
      rotate_left
      · intro w hSw; (try dsimp only at hSw); go_simp; (try with_reducible rfl)
      refine wpAnyH_take (i := 7) (v := ?_) rfl (by kernel_rfl) (by kernel_rfl) (by kernel_rfl) (fun _ _ _ h => h) (Or.inl ⟨by kernel_rfl, ?_⟩) (by assumption) ?_
      rotate_left
      · intro w hSw; (try dsimp only at hSw); go_simp; (try with_reducible rfl)
      refine wpAnyH_take (i := 8) (v := ?_) rfl (by kernel_rfl) (by kernel_rfl) (by kernel_rfl) (fun _ _ _ h => h) (Or.inl ⟨by kernel_rfl, ?_⟩) (by assumption) ?_
      rotate_left
      · intro w hSw; (try dsimp only at hSw); go_simp; (try with_reducible rfl)
      refine wpAnyH_ready (rs := [9]) (by kernel_rfl) (by simp) ?_
      refine AllReadyH.cons rfl (fun K hK => ?_) AllReadyH.nil
      go_simp
      refine (HPA.out z0 HD.out.1.pa HD.out.1.ok).mono ?_
      rintro x z1 hpp
      obtain ⟨PA, pc, rfl, hpc, hpa, hb1⟩ := hpp.at
      have HD1 : Hid (LO W z1 (some ⟨b, off, none⟩) l ∧ PBox z1 b (off + j * 2) (k, v) ∧ b < z1.heap.size ∧ PartsAt z1 PA PL ∧ PL.length ≤ pc) := Lib.hid ⟨HD.out.1.below hb1, ⟨(hb1.cell (p := ⟨b, off + j * 2, none⟩) HD.out.2.2).trans HD.out.2.1.1, (hb1.cell (p := ⟨b, off + j * 2 + 1, none⟩) HD.out.2.2).trans HD.out.2.1.2⟩, Nat.lt_of_lt_of_le HD.out.2.2 hb1.size, hpa, hpc⟩
      clear hpp hpc hpa hb1 HD hS0
      refine hK.out _ _ HD1.out.2.1 (fun hS0 => ?_)
      clear hK K
      refine wpAnyH_take (i := 10) (v := ?_) rfl (by kernel_rfl) (by kernel_rfl) (by kernel_rfl) (fun _ _ _ h => h) (Or.inl ⟨by kernel_rfl, ?_⟩) (by assumption) ?_
      rotate_left
      · intro w hSw; (try dsimp only at hSw); go_simp; (try with_reducible rfl)
      refine wpAnyH_ready (rs := [11]) (by kernel_rfl) (by simp) ?_
      refine AllReadyH.cons rfl (fun K hK => ?_) AllReadyH.nil
      go_simp
      refine (mk_climb (j : Int) (l.length : Int) (k, v) PL PA pc z1 HD1.out.2.2.2.1 HPL.out HSZ.out HD1.out.2.2.2.2 HD1.out.1.ok).mono ?_
      rintro x z2 ⟨rfl, hb2⟩
      rw [HCL.out]
      have HD2 : Hid (LO W z2 (some ⟨b, off, none⟩) l ∧ PBox z2 b (off + j * 2) (k, v)) := Lib.hid ⟨HD1.out.1.below hb2, ⟨(hb2.cell (p := ⟨b, off + j * 2, none⟩) HD1.out.2.2.1).trans HD1.out.2.1.1, (hb2.cell (p := ⟨b, off + j * 2 + 1, none⟩) HD1.out.2.2.1).trans HD1.out.2.1.2⟩⟩
      clear hb2 HD1 hS0
      refine hK.out _ _ HD2.out.2 (fun hS0 => ?_)
      clear hK K
      refine wpAnyH_take (i := 12) (v := ?_) rfl (by kernel_rfl) (by kernel_rfl) (by kernel_rfl) (fun _ _ _ h => h) (Or.inl ⟨by kernel_rfl, ?_⟩) (by assumption) ?_
      rotate_left
      · intro w hSw; (try dsimp only at hSw); go_simp; (try with_reducible rfl)
      refine wpAnyH_take (i := 13) (v := ?_) rfl (by kernel_rfl) (by kernel_rfl) (by kernel_rfl) (fun _ _ _ h => h) (Or.inl ⟨by kernel_rfl, ?_⟩) (by assumption) ?_
      rotate_left
      · intro w hSw; (try dsimp only at hSw); go_simp; (try with_reducible rfl)
      refine wpAnyH_take (i := 14) (v := ?_) rfl (by kernel_rfl) (by kernel_rfl) (by kernel_rfl) (fun _ _ _ h => h) (Or.inl ⟨by kernel_rfl, ?_⟩) (by assumption) ?_
      rotate_left
      · intro w hSw; (try dsimp only at hSw); go_simp; (try with_reducible rfl)
      refine wpAnyH_take (i := 15) (v := ?_) rfl (by kernel_rfl) (by kernel_rfl) (by kernel_rfl) (fun _ _ _ h => h) (Or.inl ⟨by kernel_rfl, ?_⟩) (by assumption) ?_
      rotate_left
      · intro w hSw; (try dsimp only at hSw); go_simp; (try with_reducible rfl)
      refine wpAnyH_take (i := 16) (v := ?_) rfl (by kernel_rfl) (by kernel_rfl) (by kernel_rfl) (fun _ _ _ h => h) (Or.inl ⟨by kernel_rfl, ?_⟩) (by assumption) ?_
      rotate_left
      · intro w hSw; (try dsimp only at hSw); go_simp; (try with_reducible rfl)
      refine wpAnyH_done (by kernel_rfl) ?_ _
      have er : (RT.toList != RT.toList) = false := by simp
      have er2 : (RT.toList == RT.toList) = true := by simp
      go_wp2
      go_roundw
      case rel => exact ⟨j + 1, HLT.out, by go_num, HD2.out.1⟩
      case measure => have := HLT.out; simp [intOf]; omega
    · obtain rfl : j = l.length := by omega
      clear hlo
      go_wp2
      go_ret
      exact ⟨rfl, H5.out.bel⟩
theorem merkleBack_walk (v0 : Value) {W : World} (h0 : ∃ A cap l, v0 = .slice A l.length cap ∧ l.length ≤ cap ∧ PsLo W W.heap.size A l) (w : World) (e : W = w) (hL : LaidOk w) :
    Calls Tryd.prog 5 #[v0] w fun x w' => x = .returned (.bool true) ∧ Below w.heap.size w w' := by
  subst e
  obtain ⟨A, ca, l, rfl, hca, hA⟩ := h0
  by_cases hg : FewP l ∧ chkE l = 0
  · exact main A ca l W ⟨hA, hL, Below.refl _ _⟩ hg.1 hg.2 hca
  · exact early A ca l W ⟨hA, hL, Below.refl _ _⟩ hg
end merkleBack
end Go.Proofs.YtnbapiddbcaolaaDoor
