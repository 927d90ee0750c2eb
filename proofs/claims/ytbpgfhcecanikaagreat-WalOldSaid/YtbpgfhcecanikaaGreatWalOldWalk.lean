import Derived.WalkSpells
import Derived.Outline
import Derived.Deep.QuietTactic
import Derived.Deep.RegionHeld
import Derived.Test.YtbpgfhcecanikaaGreatLwVQ
import Derived.Test.YtbpgfhcecanikaaGreatWlIQ
import Derived.Test.YtbpgfhcecanikaaGreatHdRNewQ
namespace Go.Proofs.YtbpgfhcecanikaaGreat.walOld
open Go.RowKit
set_option linter.unusedVariables false
set_option maxRecDepth 100000 in
set_option maxHeartbeats 1000000 in
theorem many (a b : Int) (A : Option Addr) (cap : Nat) (l : List ActW) (W : World) (hc : ActsAtW W A l) (hf : ¬ fewW a b l) :
    Calls Tryz.prog 6 #[.int .i64 a, .int .i64 b, .slice A l.length cap] W fun x w' => x = .returned (.bool true) ∧ Below W.heap.size W w' := by
  have H := Lib.hid (And.intro hc hf)
  clear hc hf
  go_enter Tryz.func6, Tryz.ntmps6
  go_wp2_with fail
  refine (lw_awake _).mono ?_
  rintro x w1 ⟨rfl, b1⟩
  have H1 := Lib.hid b1
  clear b1
  go_wp2_with fail
  refine (lw_few a b A cap l _ (H.out.1.later H1.out) false (by simpa using H.out.2)).mono ?_
  rintro x w2 ⟨rfl, rfl⟩
  go_wp2
  go_ret
  exact ⟨rfl, H1.out⟩
set_option maxRecDepth 100000 in
set_option maxHeartbeats 1000000 in
theorem small (a b : Int) (A : Option Addr) (cap : Nat) (l : List ActW) (W : World) (hc : ActsAtW W A l) (hf : fewW a b l) (hb : b < 4) :
    Calls Tryz.prog 6 #[.int .i64 a, .int .i64 b, .slice A l.length cap] W fun x w' => x = .returned (.bool true) ∧ Below W.heap.size W w' := by
  have H := Lib.hid (And.intro hc hf)
  have d1 : decide (b < 4) = true := decide_eq_true hb
  clear hc hf hb
  go_enter Tryz.func6, Tryz.ntmps6
  go_wp2_with fail
  refine (lw_awake _).mono ?_
  rintro x w1 ⟨rfl, b1⟩
  have H1 := Lib.hid b1
  clear b1
  go_wp2_with fail
  refine (lw_few a b A cap l _ (H.out.1.later H1.out) true (by simpa using H.out.2)).mono ?_
  rintro x w2 ⟨rfl, rfl⟩
  go_wp2
  go_ret
  exact ⟨rfl, H1.out⟩
def OlC (w : World) (A : PairA) (L g o : Nat) (s : ByteArray) : Prop := w.cell? ⟨A.P, 1, none⟩ = some (.pointer (some ⟨L, 0, none⟩)) ∧ w.cell? ⟨g, o + 2, none⟩ = some (.string s)
set_option maxRecDepth 100000 in
set_option maxHeartbeats 16000000 in
theorem few_ (a b : Nat) (A0 : Option Addr) (cap : Nat) (l : List ActW) (W : World) (hc : ActsAtW W A0 l) (hf : fewW a b l) (hb4 : 4 ≤ b) :
    Calls Tryz.prog 6 #[.int .i64 (a : Int), .int .i64 (b : Int), .slice A0 l.length cap] W fun x w' => x = .returned (.bool true) ∧ Below W.heap.size W w' := by
  obtain ⟨j0, ji, jz0, jz1, jz2⟩ := info_parts infoStr
  have H := Lib.hid (And.intro hc hf)
  have hA : 64 ≤ a ∧ a ≤ 128 := ⟨by have := hf.1; omega, by have := hf.2.1; omega⟩
  have hB : 1 ≤ b ∧ b ≤ 40 := ⟨by have := hf.2.2.1; omega, by have := hf.2.2.2.1; omega⟩
  have hab : a * b ≤ 128 * 40 := Nat.mul_le_mul hA.2 hB.2
  have hsg : segN b * a ≤ 20 * 128 := Nat.mul_le_mul (by unfold segN; omega) hA.2
  have HZ : Hid (Siz a b ∧ b ≤ 40 ∧ 4 ≤ b) := Lib.hid ⟨⟨hA.1, by omega, hB.1, by omega, by omega, by omega⟩, hB.2, hb4⟩
  have HL : Hid (l.length ≤ 40) := Lib.hid hf.2.2.2.2.1
  have d1 : decide ((b : Int) < 4) = false := decide_eq_false (by omega)
  have d1' : decide (b < 4) = false := decide_eq_false (by omega)
  clear hc hf hA hB hab hsg hb4
  go_enter Tryz.func6, Tryz.ntmps6
  go_wp2_with fail
  refine (lw_awake _).mono ?_
  rintro x w1 ⟨rfl, b1⟩
  have H1 := Lib.hid b1
  clear b1
  go_wp2_with fail
  refine (lw_few a b A0 cap l _ (H.out.1.later H1.out) true (by simpa using H.out.2)).mono ?_
  rintro x w2 ⟨rfl, rfl⟩
  go_wp2_with fail
  refine (pr_made a b w1 HZ.out.1 (by have := HZ.out.2; omega)).mono ?_
  rintro x w2 ⟨A, rfl, hI⟩
  obtain ⟨L, b1, b2, b3, b4, b5, b6, b7, b8, b9, LA0, rl0, N0, hp⟩ := made_fi HZ.out.1 HZ.out.2.2 hI
  obtain ⟨ho, -, -⟩ := OldI.start HZ.out.1 HZ.out.2.2
  have HO : Hid (OdI w1 w2 A a b L (opV a b [] 0 (List.replicate (a * b) 0)) none [] []) := Lib.hid ⟨b1, b2, b3, b4, b5, b6, b7, b8, b9, N0, _, hp.forgetR none, ho⟩
  have HC := Lib.hid (H.out.1.later H1.out)
  have HFF := Lib.hid H.out.2
  have p1 := HO.out.c1
  clear hI ho hp H d1 d1'
  go_wp2
  clear p1
  go_loopw [8, 9] (fun u i wr => ∃ j : Nat, ∃ v now NA ncap, j ≤ l.length ∧ i = .int .i64 (j : Int) ∧ u = .slice NA now.length ncap ∧ OdI w1 wr A a b L v NA now now) (fun _ i _ => l.length - (intOf i).toNat)
  case atStart => exact ⟨0, _, [], none, 0, Nat.zero_le _, rfl, rfl, HO.out⟩
  case round =>
    obtain ⟨j, v, now, NA, ncap, hj, rfl, rfl, hod⟩ := hrel
    have HD := Lib.hid hod
    clear hod
    have hl40 := HL.out
    by_cases hlt : j < l.length
    · have hi0 : (j : Int) < (l.length : Int) := by omega
      have hd : decide ((j : Int) < (l.length : Int)) = true := decide_eq_true hi0
      have hd' : decide (j < l.length) = true := decide_eq_true hlt
      have hww : wrap64 ((j : Int) + 1) = ((j + 1 : Nat) : Int) := by rw [IntWalk.wrap64_in _ (by omega)]; omega
      have HWW := Lib.hid hww
      obtain ⟨g, o, rfl, hgl, hact⟩ := HC.out j hlt
      obtain ⟨f1, f2, f3⟩ := HFF.out.2.2.2.2.2 j hlt
      obtain ⟨c, hcc⟩ : ∃ c, c = l[j] := ⟨_, rfl⟩
      rw [← hcc] at hact f1 f2 f3
      have hc' := hact.later (OdI.bel HD.out) hgl
      have q0 := hc'.c0
      have HA := Lib.hid (And.intro hact (And.intro hgl f1))
      have HLT := Lib.hid hlt
      clear hact hgl f1 f2 f3 hcc hlt hc' hww
      by_cases hk1 : 1 < c.kind
      · have dk : decide (1 < c.kind) = true := decide_eq_true hk1
        go_wp2
        rw [HWW.out] at *
        go_roundw
        case rel => exact ⟨j + 1, v, now, NA, ncap, HLT.out, rfl, rfl, HD.out⟩
        case measure => have := HLT.out; simp [intOf]; omega
      · have dk : decide (1 < c.kind) = false := decide_eq_false hk1
        have HDd : Hid (OdI w1 wr.drew A a b L v NA now now) := Lib.hid (HD.out.below (Below.refl _ _).drew)
        have hol : OlC wr.drew A L g (o + j * 5) c.s := ⟨HDd.out.c1, (HA.out.1.later (OdI.bel HDd.out) HA.out.2.1).c2⟩
        by_cases hk0 : c.kind = 0
        · have dk0 : (c.kind == 0) = true := by rw [hk0]; rfl
          rw [hk0] at q0 dk
          go_wp2_with fail
          refine wp_region_held_drew (S := fun w' => OlC w' A L g (o + j * 5) c.s) (by kernel_rfl) hol (fun hS0 => ?_)
          generalize wr.drew = wd at *
          unfold OlC at hS0
          dsimp only [OlC]
          clear hol
          refine wpAnyH_take (i := 0) (v := ?_) rfl (by kernel_rfl) (by kernel_rfl) (by kernel_rfl) (fun _ _ _ h => h) (Or.inl ⟨by kernel_rfl, ?_⟩) (by assumption) ?_
          rotate_left
          · intro w hSw; (try dsimp only at hSw); go_simp; (try with_reducible rfl)
          refine wpAnyH_take (i := 1) (v := ?_) rfl (by kernel_rfl) (by kernel_rfl) (by kernel_rfl) (fun _ _ _ h => h) (Or.inl ⟨by kernel_rfl, ?_⟩) (by assumption) ?_
          rotate_left
          · intro w hSw; (try dsimp only at hSw); go_simp; (try with_reducible rfl)
          refine wpAnyH_take (i := 2) (v := ?_) rfl (by kernel_rfl) (by kernel_rfl) (by kernel_rfl) (fun _ _ _ h => h) (Or.inl ⟨by kernel_rfl, ?_⟩) (by assumption) ?_
          rotate_left
          · intro w hSw; (try dsimp only at hSw); go_simp; (try with_reducible rfl)
          refine wpAnyH_take (i := 3) (v := ?_) rfl (by kernel_rfl) (by kernel_rfl) (by kernel_rfl) (fun _ _ _ h => h) (Or.inl ⟨by kernel_rfl, ?_⟩) (by assumption) ?_
          rotate_left
          · intro w hSw; (try dsimp only at hSw); go_simp; (try with_reducible rfl)
          refine wpAnyH_take (i := 4) (v := ?_) rfl (by kernel_rfl) (by kernel_rfl) (by kernel_rfl) (fun _ _ _ h => h) (Or.inl ⟨by kernel_rfl, ?_⟩) (by assumption) ?_
          rotate_left
          · intro w hSw; (try dsimp only at hSw); go_simp; (try with_reducible rfl)
          refine wpAnyH_take (i := 5) (v := ?_) rfl (by kernel_rfl) (by kernel_rfl) (by kernel_rfl) (fun _ _ _ h => h) (Or.inl ⟨by kernel_rfl, ?_⟩) (by assumption) ?_
          rotate_left
          · intro w hSw; (try dsimp only at hSw); go_simp; (try with_reducible rfl)
          refine wpAnyH_take (i := 6) (v := ?_) rfl (by kernel_rfl) (by kernel_rfl) (by kernel_rfl) (fun _ _ _ h => h) (Or.inl ⟨by kernel_rfl, ?_⟩) (by assumption) ?_
          rotate_left
          · intro w hSw; (try dsimp only at hSw); go_simp; (try with_reducible rfl)
          refine wpAnyH_take (i := 7) (v := ?_) rfl (by kernel_rfl) (by kernel_rfl) (by kernel_rfl) (fun _ _ _ h => h) (Or.inl ⟨by kernel_rfl, ?_⟩) (by assumption) ?_
          rotate_left
          · intro w hSw; (try dsimp only at hSw); go_simp; (try with_reducible rfl)
          refine wpAnyH_take (i := 8) (v := ?_) rfl (by kernel_rfl) (by kernel_rfl) (by kernel_rfl) (fun _ _ _ h => h) (Or.inl ⟨by kernel_rfl, ?_⟩) (by assumption) ?_
          rotate_left
          · intro w hSw; (try dsimp only at hSw); go_simp; (try with_reducible rfl)
          refine wpAnyH_ready (rs := [9]) (by kernel_rfl) (by simp) ?_
          refine AllReadyH.cons rfl (fun K hK => ?_) AllReadyH.nil
          go_simp
          refine (od_append HDd.out HZ.out.1 HZ.out.2.2 c.s).mono ?_
          rintro x w3 (⟨rfl, v3, h3⟩ | ⟨co, rfl, hc0, hc13, h3⟩)
          · have H3 := Lib.hid h3
            have hol : OlC w3 A L g (o + j * 5) c.s := ⟨H3.out.c1, (HA.out.1.later (OdI.bel H3.out) HA.out.2.1).c2⟩
            clear h3 hS0
            refine hK.out _ _ hol (fun hS0 => ?_)
            clear hK K
            refine wpAnyH_take (i := 10) (v := ?_) rfl (by kernel_rfl) (by kernel_rfl) (by kernel_rfl) (fun _ _ _ h => h) (Or.inl ⟨by kernel_rfl, ?_⟩) (by assumption) ?_
            rotate_left
            · intro w hSw; (try dsimp only at hSw); go_simp; (try with_reducible rfl)
            refine wpAnyH_done (by kernel_rfl) ?_ _
            clear hS0 hol
            go_simp
            have H3d : Hid (OdI w1 w3.drew A a b L v3 NA now (now ++ [c.s])) := Lib.hid (H3.out.below (Below.refl _ _).drew)
            have hq := (HA.out.1.later (OdI.bel H3d.out) HA.out.2.1).c2
            have SH : ∀ cur : World, Below w3.drew.heap.size w3.drew cur → cur.cell? ⟨g, o + j * 5 + 2, none⟩ = some (.string c.s) := fun cur hb => (HA.out.1.later (OdI.bel (H3d.out.below hb)) HA.out.2.1).c2
            have HSH := Lib.hid SH
            have HNL : Hid (now.length ≤ 3000) := Lib.hid (by have := H3d.out.len HZ.out.1; rw [List.length_append] at this; omega)
            clear SH
            go_wp2_with fail
            refine wp_region_held_drew (S := fun cur => cur.cell? ⟨g, o + j * 5 + 2, none⟩ = some (.string c.s)) (by kernel_rfl) hq (fun hS0 => ?_)
            generalize w3.drew = wd3 at *
            clear hq
            refine wpAnyH_take (i := 1) (v := ?_) rfl (by kernel_rfl) (by kernel_rfl) (by kernel_rfl) (fun _ _ _ h => h) (Or.inl ⟨by kernel_rfl, ?_⟩) (by assumption) ?_
            rotate_left
            · intro w hSw; (try dsimp only at hSw); go_simp; (try with_reducible rfl)
            refine wpAnyH_take (i := 3) (v := ?_) rfl (by kernel_rfl) (by kernel_rfl) (by kernel_rfl) (fun _ _ _ h => h) (Or.inl ⟨by kernel_rfl, ?_⟩) (by assumption) ?_
            rotate_left
            · intro w hSw; (try dsimp only at hSw); go_simp; (try with_reducible rfl)
            refine wpAnyH_take (i := 4) (v := ?_) rfl (by kernel_rfl) (by kernel_rfl) (by kernel_rfl) (fun _ _ _ h => h) (Or.inl ⟨by kernel_rfl, ?_⟩) (by assumption) ?_
            rotate_left
            · intro w hSw; (try dsimp only at hSw); go_simp; (try with_reducible rfl)
            refine wpAnyH_take (i := 5) (v := ?_) rfl (by kernel_rfl) (by kernel_rfl) (by kernel_rfl) (fun _ _ _ h => h) (Or.inl ⟨by kernel_rfl, ?_⟩) (by assumption) ?_
            rotate_left
            · intro w hSw; (try dsimp only at hSw); go_simp; (try with_reducible rfl)
            refine wpAnyH_take (i := 6) (v := ?_) rfl (by kernel_rfl) (by kernel_rfl) (by kernel_rfl) (fun _ _ _ h => h) (Or.inl ⟨by kernel_rfl, ?_⟩) (by assumption) ?_
            rotate_left
            · intro w hSw; (try dsimp only at hSw); go_simp; (try with_reducible rfl)
            refine wpAnyH_take (i := 7) (v := ?_) rfl (by kernel_rfl) (by kernel_rfl) (by kernel_rfl) (fun _ _ _ h => h) (Or.inl ⟨by kernel_rfl, ?_⟩) (by assumption) ?_
            rotate_left
            · intro w hSw; (try dsimp only at hSw); go_simp; (try with_reducible rfl)
            refine wpAnyH_ready (rs := [0, 8]) (by kernel_rfl) (by simp) ?_
            refine (AllReadyH.cons rfl (fun K hK => ?_) (AllReadyH.cons rfl (fun K hK => ?_) AllReadyH.nil))
            · skip
              go_simp
              obtain ⟨x1, hwx1⟩ : ∃ z, z = wd3.alloc (.cells #[] 9) := ⟨_, rfl⟩
              rw [← hwx1]
              obtain ⟨zb, hzb⟩ : ∃ z, z = wd3.heap.size := ⟨_, rfl⟩
              have hbx1 : Below wd3.heap.size wd3 x1 := by rw [hwx1]; exact Kq.below_alloc _ _
              have HMx1 : Hid (Below wd3.heap.size wd3 x1 ∧ wd3.heap.size ≤ zb) := Lib.hid ⟨hbx1, by rw [hzb]; exact Nat.le_refl _⟩
              have HRow : Hid (x1.ownsRow wd3.heap.size 9 1 (.slice (some ⟨zb, 0, none⟩) 0 0) 0 []) := Lib.hid (by rw [hwx1, hzb]; exact World.ownsRow_made wd3 #[] 0 (Nat.le_refl _) (Nat.zero_le _) rfl)
              rw [← hzb]
              clear hwx1 hzb hbx1 hS0
              refine hK.out _ _ (HSH.out x1 HMx1.out.1) (fun hS0 => ?_)
              clear hK K
              refine wpAnyH_ready (rs := [2, 8]) (by kernel_rfl) (by simp) ?_
              refine (AllReadyH.cons rfl (fun K hK => ?_) (AllReadyH.cons rfl (fun K hK => ?_) AllReadyH.nil))
              · rw [if_pos (by kernel_rfl)]
                refine Kq.wp_append_any _ (.tmp 67) (.tmp 68) 35 35 rfl wd3.heap.size 9 j0 (.string ⟨#[]⟩) 1 16 Tryz.underlying35 ji jz0 jz1 jz2 rfl (by decide) (.slice (some ⟨zb, 0, none⟩) 0 0) 0 [] (by kernel_rfl) HRow.out (.slice NA now.length ncap) now.length (tcells now) (by kernel_rfl) (strs_srcS (H3d.out.below HMx1.out.1).recs ncap) ?e1 ?e2 HMx1.out.1.size ?_
                case e1 => have := HNL.out; unfold maxLen; omega
                case e2 => have := HNL.out; omega
                intro vr x2 hown hgrow hfresh
                rw [Nat.zero_add, List.nil_append] at hown
                have hbx2 : Below wd3.heap.size x1 x2 := grown_belowL HRow.out hgrow HMx1.out.1.size
                have HMx2 : Hid (Below wd3.heap.size wd3 x2 ∧ True) := Lib.hid ⟨HMx1.out.1.trans hbx2, trivial⟩
                have HRow := Lib.hid hown
                clear hown hgrow hfresh hbx2 hS0
                refine hK.out _ _ (HSH.out x2 HMx2.out.1) (fun hS0 => ?_)
                clear hK K
                refine wpAnyH_ready (rs := [8]) (by kernel_rfl) (by simp) ?_
                refine AllReadyH.cons rfl (fun K hK => ?_) AllReadyH.nil
                rw [if_pos (by kernel_rfl)]
                go_simp
                obtain ⟨x3, hwx3⟩ : ∃ z, z = x2.alloc (.cells #[.string c.s] 9) := ⟨_, rfl⟩
                rw [← hwx3]
                obtain ⟨ob, hob⟩ : ∃ z, z = x2.heap.size := ⟨_, rfl⟩
                have hbx3 : Below x2.heap.size x2 x3 := by rw [hwx3]; exact Kq.below_alloc _ _
                have HMx3 : Hid (Below wd3.heap.size wd3 x3 ∧ True) := Lib.hid ⟨HMx2.out.1.trans (hbx3.mono HMx2.out.1.size), trivial⟩
                have HOne : Hid (StrsAt x3 (some ⟨ob, 0, none⟩) [c.s]) := Lib.hid (by rw [hwx3, hob]; exact made_str x2 c.s)
                have HRow := Lib.hid (own_belowL HRow.out hbx3)
                rw [← hob]
                clear hwx3 hob hbx3 hS0
                refine hK.out _ _ (HSH.out x3 HMx3.out.1) (fun hS0 => ?_)
                clear hK K
                refine wpAnyH_ready (rs := [9]) (by kernel_rfl) (by simp) ?_
                refine AllReadyH.cons rfl (fun K hK => ?_) AllReadyH.nil
                rw [if_pos (by kernel_rfl)]
                refine Kq.wp_append_any _ (.tmp 69) (.tmp 75) 35 35 rfl wd3.heap.size 9 j0 (.string ⟨#[]⟩) 1 16 Tryz.underlying35 ji jz0 jz1 jz2 rfl (by decide) vr now.length (tcells now) (by kernel_rfl) HRow.out (.slice (some ⟨ob, 0, none⟩) 1 1) 1 (tcells [c.s]) (by kernel_rfl) (strs_srcS HOne.out 1) ?e1 ?e2 HMx3.out.1.size ?_
                case e1 => have := HNL.out; unfold maxLen; omega
                case e2 => have := HNL.out; omega
                intro vn x4 hown hgrow hfresh
                rw [← tcells_append] at hown
                have hbx4 : Below wd3.heap.size x3 x4 := grown_belowL HRow.out hgrow HMx3.out.1.size
                have HMx4 : Hid (Below wd3.heap.size wd3 x4) := Lib.hid (HMx3.out.1.trans hbx4)
                have hown2 : x4.ownsRow wd3.heap.size 9 1 vn (now ++ [c.s]).length (tcells (now ++ [c.s])) := by rw [List.length_append]; exact hown
                obtain ⟨nw, hnw⟩ : ∃ z, z = now ++ [c.s] := ⟨_, rfl⟩
                rw [← hnw] at hown2
                obtain ⟨NB, nbc, rfl, hNB, hge, -⟩ := row_strsW hown2
                have HNB : Hid (OdI w1 x4 A a b L v3 NB nw nw) := Lib.hid (by
                  have h := OdI.list (H3d.out.below HMx4.out) hNB H3d.out hge HMx4.out
                  rw [← hnw] at h
                  exact h)
                clear hnw hown hown2 hgrow hfresh hbx4 hS0 hNB hge
                refine hK.out _ _ (HSH.out x4 HMx4.out) (fun hS0 => ?_)
                clear hK K
                refine wpAnyH_take (i := 10) (v := ?_) rfl (by kernel_rfl) (by kernel_rfl) (by kernel_rfl) (fun _ _ _ h => h) (Or.inl ⟨by kernel_rfl, ?_⟩) (by assumption) ?_
                rotate_left
                · intro w hSw; (try dsimp only at hSw); go_simp; (try with_reducible rfl)
                refine wpAnyH_done (by kernel_rfl) ?_ _
                clear hS0
                go_simp
                obtain ⟨wz, hwz⟩ : ∃ z, z = x4 := ⟨_, rfl⟩
                have HZZ : Hid (OdI w1 wz A a b L v3 NB nw nw) := Lib.hid (by rw [hwz]; exact HNB.out)
                have s1 : (x4).cell? ⟨A.P, 1, none⟩ = some (.pointer (some ⟨L, 0, none⟩)) := HNB.out.c1
                have HWZ := Lib.hid hwz
                clear hwz
                go_wp2_with fail
                rw [← HWZ.out]
                have hbk := HZZ.out.wl
                obtain ⟨bufb, stb, hwb⟩ := hbk
                refine (wl_broken hwb).mono ?_
                rw [HZZ.out.brk]
                rintro x w4 ⟨rfl, rfl⟩
                clear hwb s1 HWZ
                have s0 := HZZ.out.c0
                go_wp2_with fail
                refine (od_crash HZZ.out HZ.out.1).mono ?_
                rintro x w5 ⟨rfl, h5⟩
                have H5 := Lib.hid h5
                have t0 := H5.out.c0
                clear h5 s0
                go_wp2_with fail
                refine (od_open H5.out HZ.out.1 HZ.out.2.2 (by have := HZ.out.2.1; omega)).mono ?_
                rintro x w6 ⟨L2, LB, cap6, v6, rfl, h6, ⟨buf6, st6, hw6⟩, hs6, hg6, hu6⟩
                have H6 : Hid (OdI w1 w6.drew A a b L v3 NB nw nw ∧ WlS w6.drew A.bD A.D A.S a b L2 buf6 [] 0 st6 v6 ∧ StrsAt w6.drew LB nw) := Lib.hid ⟨h6.below (Below.refl _ _).drew, hw6.drew, hs6.below (Below.refl _ _).drew⟩
                have HGU := Lib.hid (And.intro hg6 hu6)
                clear h6 hw6 hs6 hg6 hu6 t0
                go_wp2_with fail
                refine wp_region_held_drew (S := fun w' => w'.cell? ⟨A.P, 1, none⟩ = some (.pointer (some ⟨L, 0, none⟩))) (by kernel_rfl) H6.out.1.c1 (fun hS0 => ?_)
                generalize w6.drew = w7 at *
                refine wpAnyH_take (i := 0) (v := ?_) rfl (by kernel_rfl) (by kernel_rfl) (by kernel_rfl) (fun _ _ _ h => h) (Or.inl ⟨by kernel_rfl, ?_⟩) (by assumption) ?_
                rotate_left
                · intro w hSw; (try dsimp only at hSw); go_simp; (try with_reducible rfl)
                refine wpAnyH_take (i := 1) (v := ?_) rfl (by kernel_rfl) (by kernel_rfl) (by kernel_rfl) (fun _ _ _ h => h) (Or.inl ⟨by kernel_rfl, ?_⟩) (by assumption) ?_
                rotate_left
                · intro w hSw; (try dsimp only at hSw); go_simp; (try with_reducible rfl)
                refine wpAnyH_take (i := 2) (v := ?_) rfl (by kernel_rfl) (by kernel_rfl) (by kernel_rfl) (fun _ _ _ h => h) (Or.inl ⟨by kernel_rfl, ?_⟩) (by assumption) ?_
                rotate_left
                · intro w hSw; (try dsimp only at hSw); go_simp; (try with_reducible rfl)
                refine wpAnyH_take (i := 3) (v := ?_) rfl (by kernel_rfl) (by kernel_rfl) (by kernel_rfl) (fun _ _ _ h => h) (Or.inl ⟨by kernel_rfl, ?_⟩) (by assumption) ?_
                rotate_left
                · intro w hSw; (try dsimp only at hSw); go_simp; (try with_reducible rfl)
                refine wpAnyH_take (i := 4) (v := ?_) rfl (by kernel_rfl) (by kernel_rfl) (by kernel_rfl) (fun _ _ _ h => h) (Or.inl ⟨by kernel_rfl, ?_⟩) (by assumption) ?_
                rotate_left
                · intro w hSw; (try dsimp only at hSw); go_simp; (try with_reducible rfl)
                refine wpAnyH_take (i := 5) (v := ?_) rfl (by kernel_rfl) (by kernel_rfl) (by kernel_rfl) (fun _ _ _ h => h) (Or.inl ⟨by kernel_rfl, ?_⟩) (by assumption) ?_
                rotate_left
                · intro w hSw; (try dsimp only at hSw); go_simp; (try with_reducible rfl)
                refine wpAnyH_take (i := 6) (v := ?_) rfl (by kernel_rfl) (by kernel_rfl) (by kernel_rfl) (fun _ _ _ h => h) (Or.inl ⟨by kernel_rfl, ?_⟩) (by assumption) ?_
                rotate_left
                · intro w hSw; (try dsimp only at hSw); go_simp; (try with_reducible rfl)
                refine wpAnyH_take (i := 7) (v := ?_) rfl (by kernel_rfl) (by kernel_rfl) (by kernel_rfl) (fun _ _ _ h => h) (Or.inl ⟨by kernel_rfl, ?_⟩) (by assumption) ?_
                rotate_left
                · intro w hSw; (try dsimp only at hSw); go_simp; (try with_reducible rfl)
                refine wpAnyH_take (i := 8) (v := ?_) rfl (by kernel_rfl) (by kernel_rfl) (by kernel_rfl) (fun _ _ _ h => h) (Or.inl ⟨by kernel_rfl, ?_⟩) (by assumption) ?_
                rotate_left
                · intro w hSw; (try dsimp only at hSw); go_simp; (try with_reducible rfl)
                refine wpAnyH_ready (rs := [9]) (by kernel_rfl) (by simp) ?_
                refine AllReadyH.cons rfl (fun K hK => ?_) AllReadyH.nil
                go_simp
                refine (rf_texts LB NB cap6 nbc nw nw w7 (by have := H6.out.1.len HZ.out.1; omega) (by have := H6.out.1.len HZ.out.1; omega) H6.out.2.2 H6.out.1.recs).mono ?_
                rintro x w8 ⟨rfl, hb8⟩
                have htt : decide (nw = nw) = true := decide_eq_true rfl
                have H8 : Hid (OdI w1 w8 A a b L v3 NB nw nw ∧ WlS w8 A.bD A.D A.S a b L2 buf6 [] 0 st6 v6) := Lib.hid ⟨H6.out.1.below hb8, H6.out.2.1.below hb8⟩
                clear hS0 hb8
                refine hK.out _ _ H8.out.1.c1 (fun hS0 => ?_)
                clear hK K
                refine wpAnyH_take (i := 10) (v := ?_) rfl (by kernel_rfl) (by kernel_rfl) (by kernel_rfl) (fun _ _ _ h => h) (Or.inl ⟨by kernel_rfl, ?_⟩) (by assumption) ?_
                rotate_left
                · intro w hSw; (try dsimp only at hSw); go_simp; (try with_reducible rfl)
                refine wpAnyH_take (i := 11) (v := ?_) rfl (by kernel_rfl) (by kernel_rfl) (by kernel_rfl) (fun _ _ _ h => h) (Or.inl ⟨by kernel_rfl, ?_⟩) (by assumption) ?_
                rotate_left
                · intro w hSw; (try dsimp only at hSw); go_simp; (try with_reducible rfl)
                refine wpAnyH_take (i := 12) (v := ?_) rfl (by kernel_rfl) (by kernel_rfl) (by kernel_rfl) (fun _ _ _ h => h) (Or.inl ⟨by kernel_rfl, ?_⟩) (by assumption) ?_
                rotate_left
                · intro w hSw; (try dsimp only at hSw); go_simp; (try with_reducible rfl)
                refine wpAnyH_take (i := 13) (v := ?_) rfl (by kernel_rfl) (by kernel_rfl) (by kernel_rfl) (fun _ _ _ h => h) (Or.inl ⟨by kernel_rfl, ?_⟩) (by assumption) ?_
                rotate_left
                · intro w hSw; (try dsimp only at hSw); go_simp; (try with_reducible rfl)
                refine wpAnyH_take (i := 15) (v := ?_) rfl (by kernel_rfl) (by kernel_rfl) (by kernel_rfl) (fun _ _ _ h => h) (Or.inl ⟨by kernel_rfl, ?_⟩) (by assumption) ?_
                rotate_left
                · intro w hSw; (try dsimp only at hSw); go_simp; (try with_reducible rfl)
                refine wpAnyH_take (i := 16) (v := ?_) rfl (by kernel_rfl) (by kernel_rfl) (by kernel_rfl) (fun _ _ _ h => h) (Or.inl ⟨by kernel_rfl, ?_⟩) (by assumption) ?_
                rotate_left
                · intro w hSw; (try dsimp only at hSw); go_simp; (try with_reducible rfl)
                refine wpAnyH_take (i := 17) (v := ?_) rfl (by kernel_rfl) (by kernel_rfl) (by kernel_rfl) (fun _ _ _ h => h) (Or.inl ⟨by kernel_rfl, ?_⟩) (by assumption) ?_
                rotate_left
                · intro w hSw; (try dsimp only at hSw); go_simp; (try with_reducible rfl)
                refine wpAnyH_take (i := 18) (v := ?_) rfl (by kernel_rfl) (by kernel_rfl) (by kernel_rfl) (fun _ _ _ h => h) (Or.inl ⟨by kernel_rfl, ?_⟩) (by assumption) ?_
                rotate_left
                · intro w hSw; (try dsimp only at hSw); go_simp; (try with_reducible rfl)
                refine wpAnyH_ready (rs := [14]) (by kernel_rfl) (by simp) ?_
                refine AllReadyH.cons rfl (fun K hK => ?_) AllReadyH.nil
                go_simp
                refine (wl_gen H8.out.2).mono ?_
                rw [HGU.out.1]
                rintro x w9 ⟨rfl, rfl⟩
                refine hK.out _ _ H8.out.1.c1 (fun hS1 => ?_)
                clear hK K hS1
                refine wpAnyH_ready (rs := [19]) (by kernel_rfl) (by simp) ?_
                refine AllReadyH.cons rfl (fun K hK => ?_) AllReadyH.nil
                go_simp
                have hbk := H8.out.1.wl
                obtain ⟨bufb, stb, hwb⟩ := hbk
                refine (wl_gen hwb).mono ?_
                rintro x w9 ⟨rfl, rfl⟩
                refine hK.out _ _ H8.out.1.c1 (fun hS1 => ?_)
                clear hK K hS1
                refine wpAnyH_take (i := 20) (v := ?_) rfl (by kernel_rfl) (by kernel_rfl) (by kernel_rfl) (fun _ _ _ h => h) (Or.inl ⟨by kernel_rfl, ?_⟩) (by assumption) ?_
                rotate_left
                · intro w hSw; (try dsimp only at hSw); go_simp; (try with_reducible rfl)
                refine wpAnyH_take (i := 21) (v := ?_) rfl (by kernel_rfl) (by kernel_rfl) (by kernel_rfl) (fun _ _ _ h => h) (Or.inl ⟨by kernel_rfl, ?_⟩) (by assumption) ?_
                rotate_left
                · intro w hSw; (try dsimp only at hSw); go_simp; (try with_reducible rfl)
                refine wpAnyH_take (i := 22) (v := ?_) rfl (by kernel_rfl) (by kernel_rfl) (by kernel_rfl) (fun _ _ _ h => h) (Or.inl ⟨by kernel_rfl, ?_⟩) (by assumption) ?_
                rotate_left
                · intro w hSw; (try dsimp only at hSw); go_simp; (try with_reducible rfl)
                refine wpAnyH_take (i := 23) (v := ?_) rfl (by kernel_rfl) (by kernel_rfl) (by kernel_rfl) (fun _ _ _ h => h) (Or.inl ⟨by kernel_rfl, ?_⟩) (by assumption) ?_
                rotate_left
                · intro w hSw; (try dsimp only at hSw); go_simp; (try with_reducible rfl)
                refine wpAnyH_take (i := 25) (v := ?_) rfl (by kernel_rfl) (by kernel_rfl) (by kernel_rfl) (fun _ _ _ h => h) (Or.inl ⟨by kernel_rfl, ?_⟩) (by assumption) ?_
                rotate_left
                · intro w hSw; (try dsimp only at hSw); go_simp; (try with_reducible rfl)
                refine wpAnyH_take (i := 26) (v := ?_) rfl (by kernel_rfl) (by kernel_rfl) (by kernel_rfl) (fun _ _ _ h => h) (Or.inl ⟨by kernel_rfl, ?_⟩) (by assumption) ?_
                rotate_left
                · intro w hSw; (try dsimp only at hSw); go_simp; (try with_reducible rfl)
                refine wpAnyH_take (i := 27) (v := ?_) rfl (by kernel_rfl) (by kernel_rfl) (by kernel_rfl) (fun _ _ _ h => h) (Or.inl ⟨by kernel_rfl, ?_⟩) (by assumption) ?_
                rotate_left
                · intro w hSw; (try dsimp only at hSw); go_simp; (try with_reducible rfl)
                refine wpAnyH_take (i := 28) (v := ?_) rfl (by kernel_rfl) (by kernel_rfl) (by kernel_rfl) (fun _ _ _ h => h) (Or.inl ⟨by kernel_rfl, ?_⟩) (by assumption) ?_
                rotate_left
                · intro w hSw; (try dsimp only at hSw); go_simp; (try with_reducible rfl)
                refine wpAnyH_ready (rs := [24]) (by kernel_rfl) (by simp) ?_
                refine AllReadyH.cons rfl (fun K hK => ?_) AllReadyH.nil
                go_simp
                refine (wl_used H8.out.2).mono ?_
                rw [HGU.out.2]
                rintro x w9 ⟨rfl, rfl⟩
                refine hK.out _ _ H8.out.1.c1 (fun hS1 => ?_)
                clear hK K hS1
                refine wpAnyH_ready (rs := [29]) (by kernel_rfl) (by simp) ?_
                refine AllReadyH.cons rfl (fun K hK => ?_) AllReadyH.nil
                go_simp
                refine (wl_used hwb).mono ?_
                rintro x w9 ⟨rfl, rfl⟩
                refine hK.out _ _ H8.out.1.c1 (fun hS1 => ?_)
                clear hK K hS1
                refine wpAnyH_take (i := 30) (v := ?_) rfl (by kernel_rfl) (by kernel_rfl) (by kernel_rfl) (fun _ _ _ h => h) (Or.inl ⟨by kernel_rfl, ?_⟩) (by assumption) ?_
                rotate_left
                · intro w hSw; (try dsimp only at hSw); go_simp; (try with_reducible rfl)
                refine wpAnyH_take (i := 31) (v := ?_) rfl (by kernel_rfl) (by kernel_rfl) (by kernel_rfl) (fun _ _ _ h => h) (Or.inl ⟨by kernel_rfl, ?_⟩) (by assumption) ?_
                rotate_left
                · intro w hSw; (try dsimp only at hSw); go_simp; (try with_reducible rfl)
                refine wpAnyH_done (by kernel_rfl) ?_ _
                clear hS0 hwb
                go_simp
                go_wp2
                rw [HWW.out] at *
                go_roundw
                case rel => exact ⟨j + 1, v3, nw, NB, nbc, HLT.out, rfl, rfl, H8.out.1⟩
                case measure => have := HLT.out; simp [intOf]; omega
              · skip
                go_simp
                have hzlt : zb < x1.heap.size := by
                  rcases HRow.out.2 with ⟨e, _⟩ | ⟨gg, cc, cu, e, _, hbb, _⟩
                  · cases e
                  · injection e with e1 e2 e3
                    injection e1 with e1
                    injection e1 with e1
                    rw [e1]
                    exact Kq.blk_lt hbb
                obtain ⟨x2, hwx2⟩ : ∃ z, z = x1.alloc (.cells #[.string c.s] 9) := ⟨_, rfl⟩
                rw [← hwx2]
                obtain ⟨ob, hob⟩ : ∃ z, z = x1.heap.size := ⟨_, rfl⟩
                have hbx2 : Below x1.heap.size x1 x2 := by rw [hwx2]; exact Kq.below_alloc _ _
                have HMx2 : Hid (Below wd3.heap.size wd3 x2 ∧ True) := Lib.hid ⟨HMx1.out.1.trans (hbx2.mono HMx1.out.1.size), trivial⟩
                have HOne : Hid (StrsAt x2 (some ⟨ob, 0, none⟩) [c.s]) := Lib.hid (by rw [hwx2, hob]; exact made_str x1 c.s)
                have HRow := Lib.hid (own_belowL HRow.out hbx2)
                have HNE : Hid (ob ≠ zb) := Lib.hid (by omega)
                rw [← hob]
                clear hwx2 hob hbx2 hS0
                refine hK.out _ _ (HSH.out x2 HMx2.out.1) (fun hS0 => ?_)
                clear hK K
                clear hzlt
                refine wpAnyH_ready (rs := [2]) (by kernel_rfl) (by simp) ?_
                refine AllReadyH.cons rfl (fun K hK => ?_) AllReadyH.nil
                rw [if_pos (by kernel_rfl)]
                refine Kq.wp_append_any _ (.tmp 67) (.tmp 68) 35 35 rfl wd3.heap.size 9 j0 (.string ⟨#[]⟩) 1 16 Tryz.underlying35 ji jz0 jz1 jz2 rfl (by decide) (.slice (some ⟨zb, 0, none⟩) 0 0) 0 [] (by kernel_rfl) HRow.out (.slice NA now.length ncap) now.length (tcells now) (by kernel_rfl) (strs_srcS (H3d.out.below HMx2.out.1).recs ncap) ?e1 ?e2 HMx2.out.1.size ?_
                case e1 => have := HNL.out; unfold maxLen; omega
                case e2 => have := HNL.out; omega
                intro vr x3 hown hgrow hfresh
                rw [Nat.zero_add, List.nil_append] at hown
                have hbx3 : Below wd3.heap.size x2 x3 := grown_belowL HRow.out hgrow HMx2.out.1.size
                have HMx3 : Hid (Below wd3.heap.size wd3 x3 ∧ True) := Lib.hid ⟨HMx2.out.1.trans hbx3, trivial⟩
                have HOne : Hid (StrsAt x3 (some ⟨ob, 0, none⟩) [c.s]) := Lib.hid (HOne.out.keepsW (Kq.Keeps.grown (S := fun k => k = zb) hgrow (fun k _ e => by simpa [Value.ownBlock] using e.symm)) (fun g' o' _ e hh => by
                  simp only [Option.some.injEq, Addr.mk.injEq] at e
                  have := HNE.out
                  omega))
                have HRow := Lib.hid hown
                clear hown hgrow hfresh hbx3 hS0
                refine hK.out _ _ (HSH.out x3 HMx3.out.1) (fun hS0 => ?_)
                clear hK K
                refine wpAnyH_ready (rs := [9]) (by kernel_rfl) (by simp) ?_
                refine AllReadyH.cons rfl (fun K hK => ?_) AllReadyH.nil
                rw [if_pos (by kernel_rfl)]
                refine Kq.wp_append_any _ (.tmp 69) (.tmp 75) 35 35 rfl wd3.heap.size 9 j0 (.string ⟨#[]⟩) 1 16 Tryz.underlying35 ji jz0 jz1 jz2 rfl (by decide) vr now.length (tcells now) (by kernel_rfl) HRow.out (.slice (some ⟨ob, 0, none⟩) 1 1) 1 (tcells [c.s]) (by kernel_rfl) (strs_srcS HOne.out 1) ?e1 ?e2 HMx3.out.1.size ?_
                case e1 => have := HNL.out; unfold maxLen; omega
                case e2 => have := HNL.out; omega
                intro vn x4 hown hgrow hfresh
                rw [← tcells_append] at hown
                have hbx4 : Below wd3.heap.size x3 x4 := grown_belowL HRow.out hgrow HMx3.out.1.size
                have HMx4 : Hid (Below wd3.heap.size wd3 x4) := Lib.hid (HMx3.out.1.trans hbx4)
                have hown2 : x4.ownsRow wd3.heap.size 9 1 vn (now ++ [c.s]).length (tcells (now ++ [c.s])) := by rw [List.length_append]; exact hown
                obtain ⟨nw, hnw⟩ : ∃ z, z = now ++ [c.s] := ⟨_, rfl⟩
                rw [← hnw] at hown2
                obtain ⟨NB, nbc, rfl, hNB, hge, -⟩ := row_strsW hown2
                have HNB : Hid (OdI w1 x4 A a b L v3 NB nw nw) := Lib.hid (by
                  have h := OdI.list (H3d.out.below HMx4.out) hNB H3d.out hge HMx4.out
                  rw [← hnw] at h
                  exact h)
                clear hnw hown hown2 hgrow hfresh hbx4 hS0 hNB hge
                refine hK.out _ _ (HSH.out x4 HMx4.out) (fun hS0 => ?_)
                clear hK K
                refine wpAnyH_take (i := 10) (v := ?_) rfl (by kernel_rfl) (by kernel_rfl) (by kernel_rfl) (fun _ _ _ h => h) (Or.inl ⟨by kernel_rfl, ?_⟩) (by assumption) ?_
                rotate_left
                · intro w hSw; (try dsimp only at hSw); go_simp; (try with_reducible rfl)
                refine wpAnyH_done (by kernel_rfl) ?_ _
                clear hS0
                go_simp
                obtain ⟨wz, hwz⟩ : ∃ z, z = x4 := ⟨_, rfl⟩
                have HZZ : Hid (OdI w1 wz A a b L v3 NB nw nw) := Lib.hid (by rw [hwz]; exact HNB.out)
                have s1 : (x4).cell? ⟨A.P, 1, none⟩ = some (.pointer (some ⟨L, 0, none⟩)) := HNB.out.c1
                have HWZ := Lib.hid hwz
                clear hwz
                go_wp2_with fail
                rw [← HWZ.out]
                have hbk := HZZ.out.wl
                obtain ⟨bufb, stb, hwb⟩ := hbk
                refine (wl_broken hwb).mono ?_
                rw [HZZ.out.brk]
                rintro x w4 ⟨rfl, rfl⟩
                clear hwb s1 HWZ
                have s0 := HZZ.out.c0
                go_wp2_with fail
                refine (od_crash HZZ.out HZ.out.1).mono ?_
                rintro x w5 ⟨rfl, h5⟩
                have H5 := Lib.hid h5
                have t0 := H5.out.c0
                clear h5 s0
                go_wp2_with fail
                refine (od_open H5.out HZ.out.1 HZ.out.2.2 (by have := HZ.out.2.1; omega)).mono ?_
                rintro x w6 ⟨L2, LB, cap6, v6, rfl, h6, ⟨buf6, st6, hw6⟩, hs6, hg6, hu6⟩
                have H6 : Hid (OdI w1 w6.drew A a b L v3 NB nw nw ∧ WlS w6.drew A.bD A.D A.S a b L2 buf6 [] 0 st6 v6 ∧ StrsAt w6.drew LB nw) := Lib.hid ⟨h6.below (Below.refl _ _).drew, hw6.drew, hs6.below (Below.refl _ _).drew⟩
                have HGU := Lib.hid (And.intro hg6 hu6)
                clear h6 hw6 hs6 hg6 hu6 t0
                go_wp2_with fail
                refine wp_region_held_drew (S := fun w' => w'.cell? ⟨A.P, 1, none⟩ = some (.pointer (some ⟨L, 0, none⟩))) (by kernel_rfl) H6.out.1.c1 (fun hS0 => ?_)
                generalize w6.drew = w7 at *
                refine wpAnyH_take (i := 0) (v := ?_) rfl (by kernel_rfl) (by kernel_rfl) (by kernel_rfl) (fun _ _ _ h => h) (Or.inl ⟨by kernel_rfl, ?_⟩) (by assumption) ?_
                rotate_left
                · intro w hSw; (try dsimp only at hSw); go_simp; (try with_reducible rfl)
                refine wpAnyH_take (i := 1) (v := ?_) rfl (by kernel_rfl) (by kernel_rfl) (by kernel_rfl) (fun _ _ _ h => h) (Or.inl ⟨by kernel_rfl, ?_⟩) (by assumption) ?_
                rotate_left
                · intro w hSw; (try dsimp only at hSw); go_simp; (try with_reducible rfl)
                refine wpAnyH_take (i := 2) (v := ?_) rfl (by kernel_rfl) (by kernel_rfl) (by kernel_rfl) (fun _ _ _ h => h) (Or.inl ⟨by kernel_rfl, ?_⟩) (by assumption) ?_
                rotate_left
                · intro w hSw; (try dsimp only at hSw); go_simp; (try with_reducible rfl)
                refine wpAnyH_take (i := 3) (v := ?_) rfl (by kernel_rfl) (by kernel_rfl) (by kernel_rfl) (fun _ _ _ h => h) (Or.inl ⟨by kernel_rfl, ?_⟩) (by assumption) ?_
                rotate_left
                · intro w hSw; (try dsimp only at hSw); go_simp; (try with_reducible rfl)
                refine wpAnyH_take (i := 4) (v := ?_) rfl (by kernel_rfl) (by kernel_rfl) (by kernel_rfl) (fun _ _ _ h => h) (Or.inl ⟨by kernel_rfl, ?_⟩) (by assumption) ?_
                rotate_left
                · intro w hSw; (try dsimp only at hSw); go_simp; (try with_reducible rfl)
                refine wpAnyH_take (i := 5) (v := ?_) rfl (by kernel_rfl) (by kernel_rfl) (by kernel_rfl) (fun _ _ _ h => h) (Or.inl ⟨by kernel_rfl, ?_⟩) (by assumption) ?_
                rotate_left
                · intro w hSw; (try dsimp only at hSw); go_simp; (try with_reducible rfl)
                refine wpAnyH_take (i := 6) (v := ?_) rfl (by kernel_rfl) (by kernel_rfl) (by kernel_rfl) (fun _ _ _ h => h) (Or.inl ⟨by kernel_rfl, ?_⟩) (by assumption) ?_
                rotate_left
                · intro w hSw; (try dsimp only at hSw); go_simp; (try with_reducible rfl)
                refine wpAnyH_take (i := 7) (v := ?_) rfl (by kernel_rfl) (by kernel_rfl) (by kernel_rfl) (fun _ _ _ h => h) (Or.inl ⟨by kernel_rfl, ?_⟩) (by assumption) ?_
                rotate_left
                · intro w hSw; (try dsimp only at hSw); go_simp; (try with_reducible rfl)
                refine wpAnyH_take (i := 8) (v := ?_) rfl (by kernel_rfl) (by kernel_rfl) (by kernel_rfl) (fun _ _ _ h => h) (Or.inl ⟨by kernel_rfl, ?_⟩) (by assumption) ?_
                rotate_left
                · intro w hSw; (try dsimp only at hSw); go_simp; (try with_reducible rfl)
                refine wpAnyH_ready (rs := [9]) (by kernel_rfl) (by simp) ?_
                refine AllReadyH.cons rfl (fun K hK => ?_) AllReadyH.nil
                go_simp
                refine (rf_texts LB NB cap6 nbc nw nw w7 (by have := H6.out.1.len HZ.out.1; omega) (by have := H6.out.1.len HZ.out.1; omega) H6.out.2.2 H6.out.1.recs).mono ?_
                rintro x w8 ⟨rfl, hb8⟩
                have htt : decide (nw = nw) = true := decide_eq_true rfl
                have H8 : Hid (OdI w1 w8 A a b L v3 NB nw nw ∧ WlS w8 A.bD A.D A.S a b L2 buf6 [] 0 st6 v6) := Lib.hid ⟨H6.out.1.below hb8, H6.out.2.1.below hb8⟩
                clear hS0 hb8
                refine hK.out _ _ H8.out.1.c1 (fun hS0 => ?_)
                clear hK K
                refine wpAnyH_take (i := 10) (v := ?_) rfl (by kernel_rfl) (by kernel_rfl) (by kernel_rfl) (fun _ _ _ h => h) (Or.inl ⟨by kernel_rfl, ?_⟩) (by assumption) ?_
                rotate_left
                · intro w hSw; (try dsimp only at hSw); go_simp; (try with_reducible rfl)
                refine wpAnyH_take (i := 11) (v := ?_) rfl (by kernel_rfl) (by kernel_rfl) (by kernel_rfl) (fun _ _ _ h => h) (Or.inl ⟨by kernel_rfl, ?_⟩) (by assumption) ?_
                rotate_left
                · intro w hSw; (try dsimp only at hSw); go_simp; (try with_reducible rfl)
                refine wpAnyH_take (i := 12) (v := ?_) rfl (by kernel_rfl) (by kernel_rfl) (by kernel_rfl) (fun _ _ _ h => h) (Or.inl ⟨by kernel_rfl, ?_⟩) (by assumption) ?_
                rotate_left
                · intro w hSw; (try dsimp only at hSw); go_simp; (try with_reducible rfl)
                refine wpAnyH_take (i := 13) (v := ?_) rfl (by kernel_rfl) (by kernel_rfl) (by kernel_rfl) (fun _ _ _ h => h) (Or.inl ⟨by kernel_rfl, ?_⟩) (by assumption) ?_
                rotate_left
                · intro w hSw; (try dsimp only at hSw); go_simp; (try with_reducible rfl)
                refine wpAnyH_take (i := 15) (v := ?_) rfl (by kernel_rfl) (by kernel_rfl) (by kernel_rfl) (fun _ _ _ h => h) (Or.inl ⟨by kernel_rfl, ?_⟩) (by assumption) ?_
                rotate_left
                · intro w hSw; (try dsimp only at hSw); go_simp; (try with_reducible rfl)
                refine wpAnyH_take (i := 16) (v := ?_) rfl (by kernel_rfl) (by kernel_rfl) (by kernel_rfl) (fun _ _ _ h => h) (Or.inl ⟨by kernel_rfl, ?_⟩) (by assumption) ?_
                rotate_left
                · intro w hSw; (try dsimp only at hSw); go_simp; (try with_reducible rfl)
                refine wpAnyH_take (i := 17) (v := ?_) rfl (by kernel_rfl) (by kernel_rfl) (by kernel_rfl) (fun _ _ _ h => h) (Or.inl ⟨by kernel_rfl, ?_⟩) (by assumption) ?_
                rotate_left
                · intro w hSw; (try dsimp only at hSw); go_simp; (try with_reducible rfl)
                refine wpAnyH_take (i := 18) (v := ?_) rfl (by kernel_rfl) (by kernel_rfl) (by kernel_rfl) (fun _ _ _ h => h) (Or.inl ⟨by kernel_rfl, ?_⟩) (by assumption) ?_
                rotate_left
                · intro w hSw; (try dsimp only at hSw); go_simp; (try with_reducible rfl)
                refine wpAnyH_ready (rs := [14]) (by kernel_rfl) (by simp) ?_
                refine AllReadyH.cons rfl (fun K hK => ?_) AllReadyH.nil
                go_simp
                refine (wl_gen H8.out.2).mono ?_
                rw [HGU.out.1]
                rintro x w9 ⟨rfl, rfl⟩
                refine hK.out _ _ H8.out.1.c1 (fun hS1 => ?_)
                clear hK K hS1
                refine wpAnyH_ready (rs := [19]) (by kernel_rfl) (by simp) ?_
                refine AllReadyH.cons rfl (fun K hK => ?_) AllReadyH.nil
                go_simp
                have hbk := H8.out.1.wl
                obtain ⟨bufb, stb, hwb⟩ := hbk
                refine (wl_gen hwb).mono ?_
                rintro x w9 ⟨rfl, rfl⟩
                refine hK.out _ _ H8.out.1.c1 (fun hS1 => ?_)
                clear hK K hS1
                refine wpAnyH_take (i := 20) (v := ?_) rfl (by kernel_rfl) (by kernel_rfl) (by kernel_rfl) (fun _ _ _ h => h) (Or.inl ⟨by kernel_rfl, ?_⟩) (by assumption) ?_
                rotate_left
                · intro w hSw; (try dsimp only at hSw); go_simp; (try with_reducible rfl)
                refine wpAnyH_take (i := 21) (v := ?_) rfl (by kernel_rfl) (by kernel_rfl) (by kernel_rfl) (fun _ _ _ h => h) (Or.inl ⟨by kernel_rfl, ?_⟩) (by assumption) ?_
                rotate_left
                · intro w hSw; (try dsimp only at hSw); go_simp; (try with_reducible rfl)
                refine wpAnyH_take (i := 22) (v := ?_) rfl (by kernel_rfl) (by kernel_rfl) (by kernel_rfl) (fun _ _ _ h => h) (Or.inl ⟨by kernel_rfl, ?_⟩) (by assumption) ?_
                rotate_left
                · intro w hSw; (try dsimp only at hSw); go_simp; (try with_reducible rfl)
                refine wpAnyH_take (i := 23) (v := ?_) rfl (by kernel_rfl) (by kernel_rfl) (by kernel_rfl) (fun _ _ _ h => h) (Or.inl ⟨by kernel_rfl, ?_⟩) (by assumption) ?_
                rotate_left
                · intro w hSw; (try dsimp only at hSw); go_simp; (try with_reducible rfl)
                refine wpAnyH_take (i := 25) (v := ?_) rfl (by kernel_rfl) (by kernel_rfl) (by kernel_rfl) (fun _ _ _ h => h) (Or.inl ⟨by kernel_rfl, ?_⟩) (by assumption) ?_
                rotate_left
                · intro w hSw; (try dsimp only at hSw); go_simp; (try with_reducible rfl)
                refine wpAnyH_take (i := 26) (v := ?_) rfl (by kernel_rfl) (by kernel_rfl) (by kernel_rfl) (fun _ _ _ h => h) (Or.inl ⟨by kernel_rfl, ?_⟩) (by assumption) ?_
                rotate_left
                · intro w hSw; (try dsimp only at hSw); go_simp; (try with_reducible rfl)
                refine wpAnyH_take (i := 27) (v := ?_) rfl (by kernel_rfl) (by kernel_rfl) (by kernel_rfl) (fun _ _ _ h => h) (Or.inl ⟨by kernel_rfl, ?_⟩) (by assumption) ?_
                rotate_left
                · intro w hSw; (try dsimp only at hSw); go_simp; (try with_reducible rfl)
                refine wpAnyH_take (i := 28) (v := ?_) rfl (by kernel_rfl) (by kernel_rfl) (by kernel_rfl) (fun _ _ _ h => h) (Or.inl ⟨by kernel_rfl, ?_⟩) (by assumption) ?_
                rotate_left
                · intro w hSw; (try dsimp only at hSw); go_simp; (try with_reducible rfl)
                refine wpAnyH_ready (rs := [24]) (by kernel_rfl) (by simp) ?_
                refine AllReadyH.cons rfl (fun K hK => ?_) AllReadyH.nil
                go_simp
                refine (wl_used H8.out.2).mono ?_
                rw [HGU.out.2]
                rintro x w9 ⟨rfl, rfl⟩
                refine hK.out _ _ H8.out.1.c1 (fun hS1 => ?_)
                clear hK K hS1
                refine wpAnyH_ready (rs := [29]) (by kernel_rfl) (by simp) ?_
                refine AllReadyH.cons rfl (fun K hK => ?_) AllReadyH.nil
                go_simp
                refine (wl_used hwb).mono ?_
                rintro x w9 ⟨rfl, rfl⟩
                refine hK.out _ _ H8.out.1.c1 (fun hS1 => ?_)
                clear hK K hS1
                refine wpAnyH_take (i := 30) (v := ?_) rfl (by kernel_rfl) (by kernel_rfl) (by kernel_rfl) (fun _ _ _ h => h) (Or.inl ⟨by kernel_rfl, ?_⟩) (by assumption) ?_
                rotate_left
                · intro w hSw; (try dsimp only at hSw); go_simp; (try with_reducible rfl)
                refine wpAnyH_take (i := 31) (v := ?_) rfl (by kernel_rfl) (by kernel_rfl) (by kernel_rfl) (fun _ _ _ h => h) (Or.inl ⟨by kernel_rfl, ?_⟩) (by assumption) ?_
                rotate_left
                · intro w hSw; (try dsimp only at hSw); go_simp; (try with_reducible rfl)
                refine wpAnyH_done (by kernel_rfl) ?_ _
                clear hS0 hwb
                go_simp
                go_wp2
                rw [HWW.out] at *
                go_roundw
                case rel => exact ⟨j + 1, v3, nw, NB, nbc, HLT.out, rfl, rfl, H8.out.1⟩
                case measure => have := HLT.out; simp [intOf]; omega
            · skip
              go_simp
              obtain ⟨x1, hwx1⟩ : ∃ z, z = wd3.alloc (.cells #[.string c.s] 9) := ⟨_, rfl⟩
              rw [← hwx1]
              obtain ⟨ob, hob⟩ : ∃ z, z = wd3.heap.size := ⟨_, rfl⟩
              have hbx1 : Below wd3.heap.size wd3 x1 := by rw [hwx1]; exact Kq.below_alloc _ _
              have HMx1 : Hid (Below wd3.heap.size wd3 x1 ∧ True) := Lib.hid ⟨hbx1, trivial⟩
              have HOne : Hid (StrsAt x1 (some ⟨ob, 0, none⟩) [c.s]) := Lib.hid (by rw [hwx1, hob]; exact made_str wd3 c.s)
              rw [← hob]
              clear hwx1 hob hbx1 hS0
              refine hK.out _ _ (HSH.out x1 HMx1.out.1) (fun hS0 => ?_)
              clear hK K
              have hol2 : ob < x1.heap.size := by
                obtain ⟨gg, oo, e, hlt2, _⟩ := HOne.out.at_ 0 (by simp)
                injection e with e
                injection e with e
                rw [e]; exact hlt2
              refine wpAnyH_ready (rs := [0]) (by kernel_rfl) (by simp) ?_
              refine AllReadyH.cons rfl (fun K hK => ?_) AllReadyH.nil
              go_simp
              obtain ⟨x2, hwx2⟩ : ∃ z, z = x1.alloc (.cells #[] 9) := ⟨_, rfl⟩
              rw [← hwx2]
              obtain ⟨zb, hzb⟩ : ∃ z, z = x1.heap.size := ⟨_, rfl⟩
              have hbx2 : Below x1.heap.size x1 x2 := by rw [hwx2]; exact Kq.below_alloc _ _
              have HMx2 : Hid (Below wd3.heap.size wd3 x2 ∧ wd3.heap.size ≤ zb) := Lib.hid ⟨HMx1.out.1.trans (hbx2.mono HMx1.out.1.size), by rw [hzb]; exact HMx1.out.1.size⟩
              have HRow : Hid (x2.ownsRow wd3.heap.size 9 1 (.slice (some ⟨zb, 0, none⟩) 0 0) 0 []) := Lib.hid (by rw [hwx2, hzb]; exact World.ownsRow_made x1 #[] 0 (HMx1.out.1.size) (Nat.zero_le _) rfl)
              have HOne : Hid (StrsAt x2 (some ⟨ob, 0, none⟩) [c.s]) := Lib.hid (HOne.out.below hbx2)
              have HNE : Hid (ob ≠ zb) := Lib.hid (by omega)
              rw [← hzb]
              clear hwx2 hzb hbx2 hS0
              refine hK.out _ _ (HSH.out x2 HMx2.out.1) (fun hS0 => ?_)
              clear hK K
              clear hol2
              refine wpAnyH_ready (rs := [2]) (by kernel_rfl) (by simp) ?_
              refine AllReadyH.cons rfl (fun K hK => ?_) AllReadyH.nil
              rw [if_pos (by kernel_rfl)]
              refine Kq.wp_append_any _ (.tmp 67) (.tmp 68) 35 35 rfl wd3.heap.size 9 j0 (.string ⟨#[]⟩) 1 16 Tryz.underlying35 ji jz0 jz1 jz2 rfl (by decide) (.slice (some ⟨zb, 0, none⟩) 0 0) 0 [] (by kernel_rfl) HRow.out (.slice NA now.length ncap) now.length (tcells now) (by kernel_rfl) (strs_srcS (H3d.out.below HMx2.out.1).recs ncap) ?e1 ?e2 HMx2.out.1.size ?_
              case e1 => have := HNL.out; unfold maxLen; omega
              case e2 => have := HNL.out; omega
              intro vr x3 hown hgrow hfresh
              rw [Nat.zero_add, List.nil_append] at hown
              have hbx3 : Below wd3.heap.size x2 x3 := grown_belowL HRow.out hgrow HMx2.out.1.size
              have HMx3 : Hid (Below wd3.heap.size wd3 x3 ∧ True) := Lib.hid ⟨HMx2.out.1.trans hbx3, trivial⟩
              have HOne : Hid (StrsAt x3 (some ⟨ob, 0, none⟩) [c.s]) := Lib.hid (HOne.out.keepsW (Kq.Keeps.grown (S := fun k => k = zb) hgrow (fun k _ e => by simpa [Value.ownBlock] using e.symm)) (fun g' o' _ e hh => by
                simp only [Option.some.injEq, Addr.mk.injEq] at e
                have := HNE.out
                omega))
              have HRow := Lib.hid hown
              clear hown hgrow hfresh hbx3 hS0
              refine hK.out _ _ (HSH.out x3 HMx3.out.1) (fun hS0 => ?_)
              clear hK K
              refine wpAnyH_ready (rs := [9]) (by kernel_rfl) (by simp) ?_
              refine AllReadyH.cons rfl (fun K hK => ?_) AllReadyH.nil
              rw [if_pos (by kernel_rfl)]
              refine Kq.wp_append_any _ (.tmp 69) (.tmp 75) 35 35 rfl wd3.heap.size 9 j0 (.string ⟨#[]⟩) 1 16 Tryz.underlying35 ji jz0 jz1 jz2 rfl (by decide) vr now.length (tcells now) (by kernel_rfl) HRow.out (.slice (some ⟨ob, 0, none⟩) 1 1) 1 (tcells [c.s]) (by kernel_rfl) (strs_srcS HOne.out 1) ?e1 ?e2 HMx3.out.1.size ?_
              case e1 => have := HNL.out; unfold maxLen; omega
              case e2 => have := HNL.out; omega
              intro vn x4 hown hgrow hfresh
              rw [← tcells_append] at hown
              have hbx4 : Below wd3.heap.size x3 x4 := grown_belowL HRow.out hgrow HMx3.out.1.size
              have HMx4 : Hid (Below wd3.heap.size wd3 x4) := Lib.hid (HMx3.out.1.trans hbx4)
              have hown2 : x4.ownsRow wd3.heap.size 9 1 vn (now ++ [c.s]).length (tcells (now ++ [c.s])) := by rw [List.length_append]; exact hown
              obtain ⟨nw, hnw⟩ : ∃ z, z = now ++ [c.s] := ⟨_, rfl⟩
              rw [← hnw] at hown2
              obtain ⟨NB, nbc, rfl, hNB, hge, -⟩ := row_strsW hown2
              have HNB : Hid (OdI w1 x4 A a b L v3 NB nw nw) := Lib.hid (by
                have h := OdI.list (H3d.out.below HMx4.out) hNB H3d.out hge HMx4.out
                rw [← hnw] at h
                exact h)
              clear hnw hown hown2 hgrow hfresh hbx4 hS0 hNB hge
              refine hK.out _ _ (HSH.out x4 HMx4.out) (fun hS0 => ?_)
              clear hK K
              refine wpAnyH_take (i := 10) (v := ?_) rfl (by kernel_rfl) (by kernel_rfl) (by kernel_rfl) (fun _ _ _ h => h) (Or.inl ⟨by kernel_rfl, ?_⟩) (by assumption) ?_
              rotate_left
              · intro w hSw; (try dsimp only at hSw); go_simp; (try with_reducible rfl)
              refine wpAnyH_done (by kernel_rfl) ?_ _
              clear hS0
              go_simp
              obtain ⟨wz, hwz⟩ : ∃ z, z = x4 := ⟨_, rfl⟩
              have HZZ : Hid (OdI w1 wz A a b L v3 NB nw nw) := Lib.hid (by rw [hwz]; exact HNB.out)
              have s1 : (x4).cell? ⟨A.P, 1, none⟩ = some (.pointer (some ⟨L, 0, none⟩)) := HNB.out.c1
              have HWZ := Lib.hid hwz
              clear hwz
              go_wp2_with fail
              rw [← HWZ.out]
              have hbk := HZZ.out.wl
              obtain ⟨bufb, stb, hwb⟩ := hbk
              refine (wl_broken hwb).mono ?_
              rw [HZZ.out.brk]
              rintro x w4 ⟨rfl, rfl⟩
              clear hwb s1 HWZ
              have s0 := HZZ.out.c0
              go_wp2_with fail
              refine (od_crash HZZ.out HZ.out.1).mono ?_
              rintro x w5 ⟨rfl, h5⟩
              have H5 := Lib.hid h5
              have t0 := H5.out.c0
              clear h5 s0
              go_wp2_with fail
              refine (od_open H5.out HZ.out.1 HZ.out.2.2 (by have := HZ.out.2.1; omega)).mono ?_
              rintro x w6 ⟨L2, LB, cap6, v6, rfl, h6, ⟨buf6, st6, hw6⟩, hs6, hg6, hu6⟩
              have H6 : Hid (OdI w1 w6.drew A a b L v3 NB nw nw ∧ WlS w6.drew A.bD A.D A.S a b L2 buf6 [] 0 st6 v6 ∧ StrsAt w6.drew LB nw) := Lib.hid ⟨h6.below (Below.refl _ _).drew, hw6.drew, hs6.below (Below.refl _ _).drew⟩
              have HGU := Lib.hid (And.intro hg6 hu6)
              clear h6 hw6 hs6 hg6 hu6 t0
              go_wp2_with fail
              refine wp_region_held_drew (S := fun w' => w'.cell? ⟨A.P, 1, none⟩ = some (.pointer (some ⟨L, 0, none⟩))) (by kernel_rfl) H6.out.1.c1 (fun hS0 => ?_)
              generalize w6.drew = w7 at *
              refine wpAnyH_take (i := 0) (v := ?_) rfl (by kernel_rfl) (by kernel_rfl) (by kernel_rfl) (fun _ _ _ h => h) (Or.inl ⟨by kernel_rfl, ?_⟩) (by assumption) ?_
              rotate_left
              · intro w hSw; (try dsimp only at hSw); go_simp; (try with_reducible rfl)
              refine wpAnyH_take (i := 1) (v := ?_) rfl (by kernel_rfl) (by kernel_rfl) (by kernel_rfl) (fun _ _ _ h => h) (Or.inl ⟨by kernel_rfl, ?_⟩) (by assumption) ?_
              rotate_left
              · intro w hSw; (try dsimp only at hSw); go_simp; (try with_reducible rfl)
              refine wpAnyH_take (i := 2) (v := ?_) rfl (by kernel_rfl) (by kernel_rfl) (by kernel_rfl) (fun _ _ _ h => h) (Or.inl ⟨by kernel_rfl, ?_⟩) (by assumption) ?_
              rotate_left
              · intro w hSw; (try dsimp only at hSw); go_simp; (try with_reducible rfl)
              refine wpAnyH_take (i := 3) (v := ?_) rfl (by kernel_rfl) (by kernel_rfl) (by kernel_rfl) (fun _ _ _ h => h) (Or.inl ⟨by kernel_rfl, ?_⟩) (by assumption) ?_
              rotate_left
              · intro w hSw; (try dsimp only at hSw); go_simp; (try with_reducible rfl)
              refine wpAnyH_take (i := 4) (v := ?_) rfl (by kernel_rfl) (by kernel_rfl) (by kernel_rfl) (fun _ _ _ h => h) (Or.inl ⟨by kernel_rfl, ?_⟩) (by assumption) ?_
              rotate_left
              · intro w hSw; (try dsimp only at hSw); go_simp; (try with_reducible rfl)
              refine wpAnyH_take (i := 5) (v := ?_) rfl (by kernel_rfl) (by kernel_rfl) (by kernel_rfl) (fun _ _ _ h => h) (Or.inl ⟨by kernel_rfl, ?_⟩) (by assumption) ?_
              rotate_left
              · intro w hSw; (try dsimp only at hSw); go_simp; (try with_reducible rfl)
              refine wpAnyH_take (i := 6) (v := ?_) rfl (by kernel_rfl) (by kernel_rfl) (by kernel_rfl) (fun _ _ _ h => h) (Or.inl ⟨by kernel_rfl, ?_⟩) (by assumption) ?_
              rotate_left
              · intro w hSw; (try dsimp only at hSw); go_simp; (try with_reducible rfl)
              refine wpAnyH_take (i := 7) (v := ?_) rfl (by kernel_rfl) (by kernel_rfl) (by kernel_rfl) (fun _ _ _ h => h) (Or.inl ⟨by kernel_rfl, ?_⟩) (by assumption) ?_
              rotate_left
              · intro w hSw; (try dsimp only at hSw); go_simp; (try with_reducible rfl)
              refine wpAnyH_take (i := 8) (v := ?_) rfl (by kernel_rfl) (by kernel_rfl) (by kernel_rfl) (fun _ _ _ h => h) (Or.inl ⟨by kernel_rfl, ?_⟩) (by assumption) ?_
              rotate_left
              · intro w hSw; (try dsimp only at hSw); go_simp; (try with_reducible rfl)
              refine wpAnyH_ready (rs := [9]) (by kernel_rfl) (by simp) ?_
              refine AllReadyH.cons rfl (fun K hK => ?_) AllReadyH.nil
              go_simp
              refine (rf_texts LB NB cap6 nbc nw nw w7 (by have := H6.out.1.len HZ.out.1; omega) (by have := H6.out.1.len HZ.out.1; omega) H6.out.2.2 H6.out.1.recs).mono ?_
              rintro x w8 ⟨rfl, hb8⟩
              have htt : decide (nw = nw) = true := decide_eq_true rfl
              have H8 : Hid (OdI w1 w8 A a b L v3 NB nw nw ∧ WlS w8 A.bD A.D A.S a b L2 buf6 [] 0 st6 v6) := Lib.hid ⟨H6.out.1.below hb8, H6.out.2.1.below hb8⟩
              clear hS0 hb8
              refine hK.out _ _ H8.out.1.c1 (fun hS0 => ?_)
              clear hK K
              refine wpAnyH_take (i := 10) (v := ?_) rfl (by kernel_rfl) (by kernel_rfl) (by kernel_rfl) (fun _ _ _ h => h) (Or.inl ⟨by kernel_rfl, ?_⟩) (by assumption) ?_
              rotate_left
              · intro w hSw; (try dsimp only at hSw); go_simp; (try with_reducible rfl)
              refine wpAnyH_take (i := 11) (v := ?_) rfl (by kernel_rfl) (by kernel_rfl) (by kernel_rfl) (fun _ _ _ h => h) (Or.inl ⟨by kernel_rfl, ?_⟩) (by assumption) ?_
              rotate_left
              · intro w hSw; (try dsimp only at hSw); go_simp; (try with_reducible rfl)
              refine wpAnyH_take (i := 12) (v := ?_) rfl (by kernel_rfl) (by kernel_rfl) (by kernel_rfl) (fun _ _ _ h => h) (Or.inl ⟨by kernel_rfl, ?_⟩) (by assumption) ?_
              rotate_left
              · intro w hSw; (try dsimp only at hSw); go_simp; (try with_reducible rfl)
              refine wpAnyH_take (i := 13) (v := ?_) rfl (by kernel_rfl) (by kernel_rfl) (by kernel_rfl) (fun _ _ _ h => h) (Or.inl ⟨by kernel_rfl, ?_⟩) (by assumption) ?_
              rotate_left
              · intro w hSw; (try dsimp only at hSw); go_simp; (try with_reducible rfl)
              refine wpAnyH_take (i := 15) (v := ?_) rfl (by kernel_rfl) (by kernel_rfl) (by kernel_rfl) (fun _ _ _ h => h) (Or.inl ⟨by kernel_rfl, ?_⟩) (by assumption) ?_
              rotate_left
              · intro w hSw; (try dsimp only at hSw); go_simp; (try with_reducible rfl)
              refine wpAnyH_take (i := 16) (v := ?_) rfl (by kernel_rfl) (by kernel_rfl) (by kernel_rfl) (fun _ _ _ h => h) (Or.inl ⟨by kernel_rfl, ?_⟩) (by assumption) ?_
              rotate_left
              · intro w hSw; (try dsimp only at hSw); go_simp; (try with_reducible rfl)
              refine wpAnyH_take (i := 17) (v := ?_) rfl (by kernel_rfl) (by kernel_rfl) (by kernel_rfl) (fun _ _ _ h => h) (Or.inl ⟨by kernel_rfl, ?_⟩) (by assumption) ?_
              rotate_left
              · intro w hSw; (try dsimp only at hSw); go_simp; (try with_reducible rfl)
              refine wpAnyH_take (i := 18) (v := ?_) rfl (by kernel_rfl) (by kernel_rfl) (by kernel_rfl) (fun _ _ _ h => h) (Or.inl ⟨by kernel_rfl, ?_⟩) (by assumption) ?_
              rotate_left
              · intro w hSw; (try dsimp only at hSw); go_simp; (try with_reducible rfl)
              refine wpAnyH_ready (rs := [14]) (by kernel_rfl) (by simp) ?_
              refine AllReadyH.cons rfl (fun K hK => ?_) AllReadyH.nil
              go_simp
              refine (wl_gen H8.out.2).mono ?_
              rw [HGU.out.1]
              rintro x w9 ⟨rfl, rfl⟩
              refine hK.out _ _ H8.out.1.c1 (fun hS1 => ?_)
              clear hK K hS1
              refine wpAnyH_ready (rs := [19]) (by kernel_rfl) (by simp) ?_
              refine AllReadyH.cons rfl (fun K hK => ?_) AllReadyH.nil
              go_simp
              have hbk := H8.out.1.wl
              obtain ⟨bufb, stb, hwb⟩ := hbk
              refine (wl_gen hwb).mono ?_
              rintro x w9 ⟨rfl, rfl⟩
              refine hK.out _ _ H8.out.1.c1 (fun hS1 => ?_)
              clear hK K hS1
              refine wpAnyH_take (i := 20) (v := ?_) rfl (by kernel_rfl) (by kernel_rfl) (by kernel_rfl) (fun _ _ _ h => h) (Or.inl ⟨by kernel_rfl, ?_⟩) (by assumption) ?_
              rotate_left
              · intro w hSw; (try dsimp only at hSw); go_simp; (try with_reducible rfl)
              refine wpAnyH_take (i := 21) (v := ?_) rfl (by kernel_rfl) (by kernel_rfl) (by kernel_rfl) (fun _ _ _ h => h) (Or.inl ⟨by kernel_rfl, ?_⟩) (by assumption) ?_
              rotate_left
              · intro w hSw; (try dsimp only at hSw); go_simp; (try with_reducible rfl)
              refine wpAnyH_take (i := 22) (v := ?_) rfl (by kernel_rfl) (by kernel_rfl) (by kernel_rfl) (fun _ _ _ h => h) (Or.inl ⟨by kernel_rfl, ?_⟩) (by assumption) ?_
              rotate_left
              · intro w hSw; (try dsimp only at hSw); go_simp; (try with_reducible rfl)
              refine wpAnyH_take (i := 23) (v := ?_) rfl (by kernel_rfl) (by kernel_rfl) (by kernel_rfl) (fun _ _ _ h => h) (Or.inl ⟨by kernel_rfl, ?_⟩) (by assumption) ?_
              rotate_left
              · intro w hSw; (try dsimp only at hSw); go_simp; (try with_reducible rfl)
              refine wpAnyH_take (i := 25) (v := ?_) rfl (by kernel_rfl) (by kernel_rfl) (by kernel_rfl) (fun _ _ _ h => h) (Or.inl ⟨by kernel_rfl, ?_⟩) (by assumption) ?_
              rotate_left
              · intro w hSw; (try dsimp only at hSw); go_simp; (try with_reducible rfl)
              refine wpAnyH_take (i := 26) (v := ?_) rfl (by kernel_rfl) (by kernel_rfl) (by kernel_rfl) (fun _ _ _ h => h) (Or.inl ⟨by kernel_rfl, ?_⟩) (by assumption) ?_
              rotate_left
              · intro w hSw; (try dsimp only at hSw); go_simp; (try with_reducible rfl)
              refine wpAnyH_take (i := 27) (v := ?_) rfl (by kernel_rfl) (by kernel_rfl) (by kernel_rfl) (fun _ _ _ h => h) (Or.inl ⟨by kernel_rfl, ?_⟩) (by assumption) ?_
              rotate_left
              · intro w hSw; (try dsimp only at hSw); go_simp; (try with_reducible rfl)
              refine wpAnyH_take (i := 28) (v := ?_) rfl (by kernel_rfl) (by kernel_rfl) (by kernel_rfl) (fun _ _ _ h => h) (Or.inl ⟨by kernel_rfl, ?_⟩) (by assumption) ?_
              rotate_left
              · intro w hSw; (try dsimp only at hSw); go_simp; (try with_reducible rfl)
              refine wpAnyH_ready (rs := [24]) (by kernel_rfl) (by simp) ?_
              refine AllReadyH.cons rfl (fun K hK => ?_) AllReadyH.nil
              go_simp
              refine (wl_used H8.out.2).mono ?_
              rw [HGU.out.2]
              rintro x w9 ⟨rfl, rfl⟩
              refine hK.out _ _ H8.out.1.c1 (fun hS1 => ?_)
              clear hK K hS1
              refine wpAnyH_ready (rs := [29]) (by kernel_rfl) (by simp) ?_
              refine AllReadyH.cons rfl (fun K hK => ?_) AllReadyH.nil
              go_simp
              refine (wl_used hwb).mono ?_
              rintro x w9 ⟨rfl, rfl⟩
              refine hK.out _ _ H8.out.1.c1 (fun hS1 => ?_)
              clear hK K hS1
              refine wpAnyH_take (i := 30) (v := ?_) rfl (by kernel_rfl) (by kernel_rfl) (by kernel_rfl) (fun _ _ _ h => h) (Or.inl ⟨by kernel_rfl, ?_⟩) (by assumption) ?_
              rotate_left
              · intro w hSw; (try dsimp only at hSw); go_simp; (try with_reducible rfl)
              refine wpAnyH_take (i := 31) (v := ?_) rfl (by kernel_rfl) (by kernel_rfl) (by kernel_rfl) (fun _ _ _ h => h) (Or.inl ⟨by kernel_rfl, ?_⟩) (by assumption) ?_
              rotate_left
              · intro w hSw; (try dsimp only at hSw); go_simp; (try with_reducible rfl)
              refine wpAnyH_done (by kernel_rfl) ?_ _
              clear hS0 hwb
              go_simp
              go_wp2
              rw [HWW.out] at *
              go_roundw
              case rel => exact ⟨j + 1, v3, nw, NB, nbc, HLT.out, rfl, rfl, H8.out.1⟩
              case measure => have := HLT.out; simp [intOf]; omega
          · have H3 := Lib.hid h3
            have hol : OlC w3 A L g (o + j * 5) c.s := ⟨H3.out.c1, (HA.out.1.later (OdI.bel H3.out) HA.out.2.1).c2⟩
            have e0 : (co == 0) = false := beq_eq_false_iff_ne.2 hc0
            have e13 : (co == 13) = false := beq_eq_false_iff_ne.2 hc13
            clear h3 hS0 hc0 hc13
            refine hK.out _ _ hol (fun hS0 => ?_)
            clear hK K
            refine wpAnyH_take (i := 10) (v := ?_) rfl (by kernel_rfl) (by kernel_rfl) (by kernel_rfl) (fun _ _ _ h => h) (Or.inl ⟨by kernel_rfl, ?_⟩) (by assumption) ?_
            rotate_left
            · intro w hSw; (try dsimp only at hSw); go_simp; (try with_reducible rfl)
            refine wpAnyH_done (by kernel_rfl) ?_ _
            clear hS0 hol
            go_simp
            obtain ⟨wz, hwz⟩ : ∃ z, z = w3 := ⟨_, rfl⟩
            have HZZ : Hid (OdI w1 wz A a b L v NA now now) := Lib.hid (by rw [hwz]; exact H3.out)
            have s1 : (w3).cell? ⟨A.P, 1, none⟩ = some (.pointer (some ⟨L, 0, none⟩)) := H3.out.c1
            have HWZ := Lib.hid hwz
            clear hwz
            go_wp2_with fail
            rw [← HWZ.out]
            have hbk := HZZ.out.wl
            obtain ⟨bufb, stb, hwb⟩ := hbk
            refine (wl_broken hwb).mono ?_
            rw [HZZ.out.brk]
            rintro x w4 ⟨rfl, rfl⟩
            clear hwb s1 HWZ
            have s0 := HZZ.out.c0
            go_wp2_with fail
            refine (od_crash HZZ.out HZ.out.1).mono ?_
            rintro x w5 ⟨rfl, h5⟩
            have H5 := Lib.hid h5
            have t0 := H5.out.c0
            clear h5 s0
            go_wp2_with fail
            refine (od_open H5.out HZ.out.1 HZ.out.2.2 (by have := HZ.out.2.1; omega)).mono ?_
            rintro x w6 ⟨L2, LB, cap6, v6, rfl, h6, ⟨buf6, st6, hw6⟩, hs6, hg6, hu6⟩
            have H6 : Hid (OdI w1 w6.drew A a b L v NA now now ∧ WlS w6.drew A.bD A.D A.S a b L2 buf6 [] 0 st6 v6 ∧ StrsAt w6.drew LB now) := Lib.hid ⟨h6.below (Below.refl _ _).drew, hw6.drew, hs6.below (Below.refl _ _).drew⟩
            have HGU := Lib.hid (And.intro hg6 hu6)
            clear h6 hw6 hs6 hg6 hu6 t0
            go_wp2_with fail
            refine wp_region_held_drew (S := fun w' => w'.cell? ⟨A.P, 1, none⟩ = some (.pointer (some ⟨L, 0, none⟩))) (by kernel_rfl) H6.out.1.c1 (fun hS0 => ?_)
            generalize w6.drew = w7 at *
            refine wpAnyH_take (i := 0) (v := ?_) rfl (by kernel_rfl) (by kernel_rfl) (by kernel_rfl) (fun _ _ _ h => h) (Or.inl ⟨by kernel_rfl, ?_⟩) (by assumption) ?_
            rotate_left
            · intro w hSw; (try dsimp only at hSw); go_simp; (try with_reducible rfl)
            refine wpAnyH_take (i := 1) (v := ?_) rfl (by kernel_rfl) (by kernel_rfl) (by kernel_rfl) (fun _ _ _ h => h) (Or.inl ⟨by kernel_rfl, ?_⟩) (by assumption) ?_
            rotate_left
            · intro w hSw; (try dsimp only at hSw); go_simp; (try with_reducible rfl)
            refine wpAnyH_take (i := 2) (v := ?_) rfl (by kernel_rfl) (by kernel_rfl) (by kernel_rfl) (fun _ _ _ h => h) (Or.inl ⟨by kernel_rfl, ?_⟩) (by assumption) ?_
            rotate_left
            · intro w hSw; (try dsimp only at hSw); go_simp; (try with_reducible rfl)
            refine wpAnyH_take (i := 3) (v := ?_) rfl (by kernel_rfl) (by kernel_rfl) (by kernel_rfl) (fun _ _ _ h => h) (Or.inl ⟨by kernel_rfl, ?_⟩) (by assumption) ?_
            rotate_left
            · intro w hSw; (try dsimp only at hSw); go_simp; (try with_reducible rfl)
            refine wpAnyH_take (i := 4) (v := ?_) rfl (by kernel_rfl) (by kernel_rfl) (by kernel_rfl) (fun _ _ _ h => h) (Or.inl ⟨by kernel_rfl, ?_⟩) (by assumption) ?_
            rotate_left
            · intro w hSw; (try dsimp only at hSw); go_simp; (try with_reducible rfl)
            refine wpAnyH_take (i := 5) (v := ?_) rfl (by kernel_rfl) (by kernel_rfl) (by kernel_rfl) (fun _ _ _ h => h) (Or.inl ⟨by kernel_rfl, ?_⟩) (by assumption) ?_
            rotate_left
            · intro w hSw; (try dsimp only at hSw); go_simp; (try with_reducible rfl)
            refine wpAnyH_take (i := 6) (v := ?_) rfl (by kernel_rfl) (by kernel_rfl) (by kernel_rfl) (fun _ _ _ h => h) (Or.inl ⟨by kernel_rfl, ?_⟩) (by assumption) ?_
            rotate_left
            · intro w hSw; (try dsimp only at hSw); go_simp; (try with_reducible rfl)
            refine wpAnyH_take (i := 7) (v := ?_) rfl (by kernel_rfl) (by kernel_rfl) (by kernel_rfl) (fun _ _ _ h => h) (Or.inl ⟨by kernel_rfl, ?_⟩) (by assumption) ?_
            rotate_left
            · intro w hSw; (try dsimp only at hSw); go_simp; (try with_reducible rfl)
            refine wpAnyH_take (i := 8) (v := ?_) rfl (by kernel_rfl) (by kernel_rfl) (by kernel_rfl) (fun _ _ _ h => h) (Or.inl ⟨by kernel_rfl, ?_⟩) (by assumption) ?_
            rotate_left
            · intro w hSw; (try dsimp only at hSw); go_simp; (try with_reducible rfl)
            refine wpAnyH_ready (rs := [9]) (by kernel_rfl) (by simp) ?_
            refine AllReadyH.cons rfl (fun K hK => ?_) AllReadyH.nil
            go_simp
            refine (rf_texts LB NA cap6 ncap now now w7 (by have := H6.out.1.len HZ.out.1; omega) (by have := H6.out.1.len HZ.out.1; omega) H6.out.2.2 H6.out.1.recs).mono ?_
            rintro x w8 ⟨rfl, hb8⟩
            have htt : decide (now = now) = true := decide_eq_true rfl
            have H8 : Hid (OdI w1 w8 A a b L v NA now now ∧ WlS w8 A.bD A.D A.S a b L2 buf6 [] 0 st6 v6) := Lib.hid ⟨H6.out.1.below hb8, H6.out.2.1.below hb8⟩
            clear hS0 hb8
            refine hK.out _ _ H8.out.1.c1 (fun hS0 => ?_)
            clear hK K
            refine wpAnyH_take (i := 10) (v := ?_) rfl (by kernel_rfl) (by kernel_rfl) (by kernel_rfl) (fun _ _ _ h => h) (Or.inl ⟨by kernel_rfl, ?_⟩) (by assumption) ?_
            rotate_left
            · intro w hSw; (try dsimp only at hSw); go_simp; (try with_reducible rfl)
            refine wpAnyH_take (i := 11) (v := ?_) rfl (by kernel_rfl) (by kernel_rfl) (by kernel_rfl) (fun _ _ _ h => h) (Or.inl ⟨by kernel_rfl, ?_⟩) (by assumption) ?_
            rotate_left
            · intro w hSw; (try dsimp only at hSw); go_simp; (try with_reducible rfl)
            refine wpAnyH_take (i := 12) (v := ?_) rfl (by kernel_rfl) (by kernel_rfl) (by kernel_rfl) (fun _ _ _ h => h) (Or.inl ⟨by kernel_rfl, ?_⟩) (by assumption) ?_
            rotate_left
            · intro w hSw; (try dsimp only at hSw); go_simp; (try with_reducible rfl)
            refine wpAnyH_take (i := 13) (v := ?_) rfl (by kernel_rfl) (by kernel_rfl) (by kernel_rfl) (fun _ _ _ h => h) (Or.inl ⟨by kernel_rfl, ?_⟩) (by assumption) ?_
            rotate_left
            · intro w hSw; (try dsimp only at hSw); go_simp; (try with_reducible rfl)
            refine wpAnyH_take (i := 15) (v := ?_) rfl (by kernel_rfl) (by kernel_rfl) (by kernel_rfl) (fun _ _ _ h => h) (Or.inl ⟨by kernel_rfl, ?_⟩) (by assumption) ?_
            rotate_left
            · intro w hSw; (try dsimp only at hSw); go_simp; (try with_reducible rfl)
            refine wpAnyH_take (i := 16) (v := ?_) rfl (by kernel_rfl) (by kernel_rfl) (by kernel_rfl) (fun _ _ _ h => h) (Or.inl ⟨by kernel_rfl, ?_⟩) (by assumption) ?_
            rotate_left
            · intro w hSw; (try dsimp only at hSw); go_simp; (try with_reducible rfl)
            refine wpAnyH_take (i := 17) (v := ?_) rfl (by kernel_rfl) (by kernel_rfl) (by kernel_rfl) (fun _ _ _ h => h) (Or.inl ⟨by kernel_rfl, ?_⟩) (by assumption) ?_
            rotate_left
            · intro w hSw; (try dsimp only at hSw); go_simp; (try with_reducible rfl)
            refine wpAnyH_take (i := 18) (v := ?_) rfl (by kernel_rfl) (by kernel_rfl) (by kernel_rfl) (fun _ _ _ h => h) (Or.inl ⟨by kernel_rfl, ?_⟩) (by assumption) ?_
            rotate_left
            · intro w hSw; (try dsimp only at hSw); go_simp; (try with_reducible rfl)
            refine wpAnyH_ready (rs := [14]) (by kernel_rfl) (by simp) ?_
            refine AllReadyH.cons rfl (fun K hK => ?_) AllReadyH.nil
            go_simp
            refine (wl_gen H8.out.2).mono ?_
            rw [HGU.out.1]
            rintro x w9 ⟨rfl, rfl⟩
            refine hK.out _ _ H8.out.1.c1 (fun hS1 => ?_)
            clear hK K hS1
            refine wpAnyH_ready (rs := [19]) (by kernel_rfl) (by simp) ?_
            refine AllReadyH.cons rfl (fun K hK => ?_) AllReadyH.nil
            go_simp
            have hbk := H8.out.1.wl
            obtain ⟨bufb, stb, hwb⟩ := hbk
            refine (wl_gen hwb).mono ?_
            rintro x w9 ⟨rfl, rfl⟩
            refine hK.out _ _ H8.out.1.c1 (fun hS1 => ?_)
            clear hK K hS1
            refine wpAnyH_take (i := 20) (v := ?_) rfl (by kernel_rfl) (by kernel_rfl) (by kernel_rfl) (fun _ _ _ h => h) (Or.inl ⟨by kernel_rfl, ?_⟩) (by assumption) ?_
            rotate_left
            · intro w hSw; (try dsimp only at hSw); go_simp; (try with_reducible rfl)
            refine wpAnyH_take (i := 21) (v := ?_) rfl (by kernel_rfl) (by kernel_rfl) (by kernel_rfl) (fun _ _ _ h => h) (Or.inl ⟨by kernel_rfl, ?_⟩) (by assumption) ?_
            rotate_left
            · intro w hSw; (try dsimp only at hSw); go_simp; (try with_reducible rfl)
            refine wpAnyH_take (i := 22) (v := ?_) rfl (by kernel_rfl) (by kernel_rfl) (by kernel_rfl) (fun _ _ _ h => h) (Or.inl ⟨by kernel_rfl, ?_⟩) (by assumption) ?_
            rotate_left
            · intro w hSw; (try dsimp only at hSw); go_simp; (try with_reducible rfl)
            refine wpAnyH_take (i := 23) (v := ?_) rfl (by kernel_rfl) (by kernel_rfl) (by kernel_rfl) (fun _ _ _ h => h) (Or.inl ⟨by kernel_rfl, ?_⟩) (by assumption) ?_
            rotate_left
            · intro w hSw; (try dsimp only at hSw); go_simp; (try with_reducible rfl)
            refine wpAnyH_take (i := 25) (v := ?_) rfl (by kernel_rfl) (by kernel_rfl) (by kernel_rfl) (fun _ _ _ h => h) (Or.inl ⟨by kernel_rfl, ?_⟩) (by assumption) ?_
            rotate_left
            · intro w hSw; (try dsimp only at hSw); go_simp; (try with_reducible rfl)
            refine wpAnyH_take (i := 26) (v := ?_) rfl (by kernel_rfl) (by kernel_rfl) (by kernel_rfl) (fun _ _ _ h => h) (Or.inl ⟨by kernel_rfl, ?_⟩) (by assumption) ?_
            rotate_left
            · intro w hSw; (try dsimp only at hSw); go_simp; (try with_reducible rfl)
            refine wpAnyH_take (i := 27) (v := ?_) rfl (by kernel_rfl) (by kernel_rfl) (by kernel_rfl) (fun _ _ _ h => h) (Or.inl ⟨by kernel_rfl, ?_⟩) (by assumption) ?_
            rotate_left
            · intro w hSw; (try dsimp only at hSw); go_simp; (try with_reducible rfl)
            refine wpAnyH_take (i := 28) (v := ?_) rfl (by kernel_rfl) (by kernel_rfl) (by kernel_rfl) (fun _ _ _ h => h) (Or.inl ⟨by kernel_rfl, ?_⟩) (by assumption) ?_
            rotate_left
            · intro w hSw; (try dsimp only at hSw); go_simp; (try with_reducible rfl)
            refine wpAnyH_ready (rs := [24]) (by kernel_rfl) (by simp) ?_
            refine AllReadyH.cons rfl (fun K hK => ?_) AllReadyH.nil
            go_simp
            refine (wl_used H8.out.2).mono ?_
            rw [HGU.out.2]
            rintro x w9 ⟨rfl, rfl⟩
            refine hK.out _ _ H8.out.1.c1 (fun hS1 => ?_)
            clear hK K hS1
            refine wpAnyH_ready (rs := [29]) (by kernel_rfl) (by simp) ?_
            refine AllReadyH.cons rfl (fun K hK => ?_) AllReadyH.nil
            go_simp
            refine (wl_used hwb).mono ?_
            rintro x w9 ⟨rfl, rfl⟩
            refine hK.out _ _ H8.out.1.c1 (fun hS1 => ?_)
            clear hK K hS1
            refine wpAnyH_take (i := 30) (v := ?_) rfl (by kernel_rfl) (by kernel_rfl) (by kernel_rfl) (fun _ _ _ h => h) (Or.inl ⟨by kernel_rfl, ?_⟩) (by assumption) ?_
            rotate_left
            · intro w hSw; (try dsimp only at hSw); go_simp; (try with_reducible rfl)
            refine wpAnyH_take (i := 31) (v := ?_) rfl (by kernel_rfl) (by kernel_rfl) (by kernel_rfl) (fun _ _ _ h => h) (Or.inl ⟨by kernel_rfl, ?_⟩) (by assumption) ?_
            rotate_left
            · intro w hSw; (try dsimp only at hSw); go_simp; (try with_reducible rfl)
            refine wpAnyH_done (by kernel_rfl) ?_ _
            clear hS0 hwb
            go_simp
            go_wp2
            rw [HWW.out] at *
            go_roundw
            case rel => exact ⟨j + 1, v, now, NA, ncap, HLT.out, rfl, rfl, H8.out.1⟩
            case measure => have := HLT.out; simp [intOf]; omega
        · have dk0 : (c.kind == 0) = false := beq_eq_false_iff_ne.2 hk0
          go_wp2_with fail
          refine wp_region_held_drew (S := fun w' => OlC w' A L g (o + j * 5) c.s) (by kernel_rfl) hol (fun hS0 => ?_)
          generalize wr.drew = wd at *
          unfold OlC at hS0
          dsimp only [OlC]
          clear hol
          refine wpAnyH_take (i := 0) (v := ?_) rfl (by kernel_rfl) (by kernel_rfl) (by kernel_rfl) (fun _ _ _ h => h) (Or.inl ⟨by kernel_rfl, ?_⟩) (by assumption) ?_
          rotate_left
          · intro w hSw; (try dsimp only at hSw); go_simp; (try with_reducible rfl)
          refine wpAnyH_take (i := 1) (v := ?_) rfl (by kernel_rfl) (by kernel_rfl) (by kernel_rfl) (fun _ _ _ h => h) (Or.inl ⟨by kernel_rfl, ?_⟩) (by assumption) ?_
          rotate_left
          · intro w hSw; (try dsimp only at hSw); go_simp; (try with_reducible rfl)
          refine wpAnyH_take (i := 2) (v := ?_) rfl (by kernel_rfl) (by kernel_rfl) (by kernel_rfl) (fun _ _ _ h => h) (Or.inl ⟨by kernel_rfl, ?_⟩) (by assumption) ?_
          rotate_left
          · intro w hSw; (try dsimp only at hSw); go_simp; (try with_reducible rfl)
          refine wpAnyH_take (i := 3) (v := ?_) rfl (by kernel_rfl) (by kernel_rfl) (by kernel_rfl) (fun _ _ _ h => h) (Or.inl ⟨by kernel_rfl, ?_⟩) (by assumption) ?_
          rotate_left
          · intro w hSw; (try dsimp only at hSw); go_simp; (try with_reducible rfl)
          refine wpAnyH_take (i := 4) (v := ?_) rfl (by kernel_rfl) (by kernel_rfl) (by kernel_rfl) (fun _ _ _ h => h) (Or.inl ⟨by kernel_rfl, ?_⟩) (by assumption) ?_
          rotate_left
          · intro w hSw; (try dsimp only at hSw); go_simp; (try with_reducible rfl)
          refine wpAnyH_take (i := 5) (v := ?_) rfl (by kernel_rfl) (by kernel_rfl) (by kernel_rfl) (fun _ _ _ h => h) (Or.inl ⟨by kernel_rfl, ?_⟩) (by assumption) ?_
          rotate_left
          · intro w hSw; (try dsimp only at hSw); go_simp; (try with_reducible rfl)
          refine wpAnyH_take (i := 6) (v := ?_) rfl (by kernel_rfl) (by kernel_rfl) (by kernel_rfl) (fun _ _ _ h => h) (Or.inl ⟨by kernel_rfl, ?_⟩) (by assumption) ?_
          rotate_left
          · intro w hSw; (try dsimp only at hSw); go_simp; (try with_reducible rfl)
          refine wpAnyH_take (i := 7) (v := ?_) rfl (by kernel_rfl) (by kernel_rfl) (by kernel_rfl) (fun _ _ _ h => h) (Or.inl ⟨by kernel_rfl, ?_⟩) (by assumption) ?_
          rotate_left
          · intro w hSw; (try dsimp only at hSw); go_simp; (try with_reducible rfl)
          refine wpAnyH_take (i := 8) (v := ?_) rfl (by kernel_rfl) (by kernel_rfl) (by kernel_rfl) (fun _ _ _ h => h) (Or.inl ⟨by kernel_rfl, ?_⟩) (by assumption) ?_
          rotate_left
          · intro w hSw; (try dsimp only at hSw); go_simp; (try with_reducible rfl)
          refine wpAnyH_ready (rs := [9]) (by kernel_rfl) (by simp) ?_
          refine AllReadyH.cons rfl (fun K hK => ?_) AllReadyH.nil
          go_simp
          refine (od_ckpt HDd.out HZ.out.1 HZ.out.2.2 c.s (by have := HA.out.2.2; omega)).mono ?_
          rintro x w3 (⟨rfl, v3, h3⟩ | ⟨co, rfl, hc0, hc13, h3⟩)
          · have H3 := Lib.hid h3
            have hol : OlC w3 A L g (o + j * 5) c.s := ⟨H3.out.c1, (HA.out.1.later (OdI.bel H3.out) HA.out.2.1).c2⟩
            clear h3 hS0
            refine hK.out _ _ hol (fun hS0 => ?_)
            clear hK K
            refine wpAnyH_take (i := 10) (v := ?_) rfl (by kernel_rfl) (by kernel_rfl) (by kernel_rfl) (fun _ _ _ h => h) (Or.inl ⟨by kernel_rfl, ?_⟩) (by assumption) ?_
            rotate_left
            · intro w hSw; (try dsimp only at hSw); go_simp; (try with_reducible rfl)
            refine wpAnyH_done (by kernel_rfl) ?_ _
            clear hS0
            go_simp
            have hq := hol.2
            have ha4 := Kq.below_alloc w3 (.cells #[.string c.s] 9)
            have H4 : Hid (OdI w1 (w3.alloc (.cells #[.string c.s] 9)) A a b L v3 (some ⟨w3.heap.size, 0, none⟩) [c.s] [c.s]) := Lib.hid (OdI.list (H3.out.below ha4) (made_str w3 c.s) H3.out (fun g' o' e => by
              simp only [Option.some.injEq, Addr.mk.injEq] at e
              omega) ha4)
            have hp1 := H4.out.c1
            clear hol ha4
            obtain ⟨wz, hwz⟩ : ∃ z, z = (w3.alloc (.cells #[.string c.s] 9)) := ⟨_, rfl⟩
            have HZZ : Hid (OdI w1 wz A a b L v3 (some ⟨w3.heap.size, 0, none⟩) [c.s] [c.s]) := Lib.hid (by rw [hwz]; exact H4.out)
            have s1 : ((w3.alloc (.cells #[.string c.s] 9))).cell? ⟨A.P, 1, none⟩ = some (.pointer (some ⟨L, 0, none⟩)) := H4.out.c1
            have HWZ := Lib.hid hwz
            clear hwz
            go_wp2_with fail
            rw [← HWZ.out]
            have hbk := HZZ.out.wl
            obtain ⟨bufb, stb, hwb⟩ := hbk
            refine (wl_broken hwb).mono ?_
            rw [HZZ.out.brk]
            rintro x w4 ⟨rfl, rfl⟩
            clear hwb s1 HWZ
            have s0 := HZZ.out.c0
            go_wp2_with fail
            refine (od_crash HZZ.out HZ.out.1).mono ?_
            rintro x w5 ⟨rfl, h5⟩
            have H5 := Lib.hid h5
            have t0 := H5.out.c0
            clear h5 s0
            go_wp2_with fail
            refine (od_open H5.out HZ.out.1 HZ.out.2.2 (by have := HZ.out.2.1; omega)).mono ?_
            rintro x w6 ⟨L2, LB, cap6, v6, rfl, h6, ⟨buf6, st6, hw6⟩, hs6, hg6, hu6⟩
            have H6 : Hid (OdI w1 w6.drew A a b L v3 (some ⟨w3.heap.size, 0, none⟩) [c.s] [c.s] ∧ WlS w6.drew A.bD A.D A.S a b L2 buf6 [] 0 st6 v6 ∧ StrsAt w6.drew LB [c.s]) := Lib.hid ⟨h6.below (Below.refl _ _).drew, hw6.drew, hs6.below (Below.refl _ _).drew⟩
            have HGU := Lib.hid (And.intro hg6 hu6)
            clear h6 hw6 hs6 hg6 hu6 t0
            go_wp2_with fail
            refine wp_region_held_drew (S := fun w' => w'.cell? ⟨A.P, 1, none⟩ = some (.pointer (some ⟨L, 0, none⟩))) (by kernel_rfl) H6.out.1.c1 (fun hS0 => ?_)
            generalize w6.drew = w7 at *
            refine wpAnyH_take (i := 0) (v := ?_) rfl (by kernel_rfl) (by kernel_rfl) (by kernel_rfl) (fun _ _ _ h => h) (Or.inl ⟨by kernel_rfl, ?_⟩) (by assumption) ?_
            rotate_left
            · intro w hSw; (try dsimp only at hSw); go_simp; (try with_reducible rfl)
            refine wpAnyH_take (i := 1) (v := ?_) rfl (by kernel_rfl) (by kernel_rfl) (by kernel_rfl) (fun _ _ _ h => h) (Or.inl ⟨by kernel_rfl, ?_⟩) (by assumption) ?_
            rotate_left
            · intro w hSw; (try dsimp only at hSw); go_simp; (try with_reducible rfl)
            refine wpAnyH_take (i := 2) (v := ?_) rfl (by kernel_rfl) (by kernel_rfl) (by kernel_rfl) (fun _ _ _ h => h) (Or.inl ⟨by kernel_rfl, ?_⟩) (by assumption) ?_
            rotate_left
            · intro w hSw; (try dsimp only at hSw); go_simp; (try with_reducible rfl)
            refine wpAnyH_take (i := 3) (v := ?_) rfl (by kernel_rfl) (by kernel_rfl) (by kernel_rfl) (fun _ _ _ h => h) (Or.inl ⟨by kernel_rfl, ?_⟩) (by assumption) ?_
            rotate_left
            · intro w hSw; (try dsimp only at hSw); go_simp; (try with_reducible rfl)
            refine wpAnyH_take (i := 4) (v := ?_) rfl (by kernel_rfl) (by kernel_rfl) (by kernel_rfl) (fun _ _ _ h => h) (Or.inl ⟨by kernel_rfl, ?_⟩) (by assumption) ?_
            rotate_left
            · intro w hSw; (try dsimp only at hSw); go_simp; (try with_reducible rfl)
            refine wpAnyH_take (i := 5) (v := ?_) rfl (by kernel_rfl) (by kernel_rfl) (by kernel_rfl) (fun _ _ _ h => h) (Or.inl ⟨by kernel_rfl, ?_⟩) (by assumption) ?_
            rotate_left
            · intro w hSw; (try dsimp only at hSw); go_simp; (try with_reducible rfl)
            refine wpAnyH_take (i := 6) (v := ?_) rfl (by kernel_rfl) (by kernel_rfl) (by kernel_rfl) (fun _ _ _ h => h) (Or.inl ⟨by kernel_rfl, ?_⟩) (by assumption) ?_
            rotate_left
            · intro w hSw; (try dsimp only at hSw); go_simp; (try with_reducible rfl)
            refine wpAnyH_take (i := 7) (v := ?_) rfl (by kernel_rfl) (by kernel_rfl) (by kernel_rfl) (fun _ _ _ h => h) (Or.inl ⟨by kernel_rfl, ?_⟩) (by assumption) ?_
            rotate_left
            · intro w hSw; (try dsimp only at hSw); go_simp; (try with_reducible rfl)
            refine wpAnyH_take (i := 8) (v := ?_) rfl (by kernel_rfl) (by kernel_rfl) (by kernel_rfl) (fun _ _ _ h => h) (Or.inl ⟨by kernel_rfl, ?_⟩) (by assumption) ?_
            rotate_left
            · intro w hSw; (try dsimp only at hSw); go_simp; (try with_reducible rfl)
            refine wpAnyH_ready (rs := [9]) (by kernel_rfl) (by simp) ?_
            refine AllReadyH.cons rfl (fun K hK => ?_) AllReadyH.nil
            go_simp
            refine (rf_texts LB (some ⟨w3.heap.size, 0, none⟩) cap6 1 [c.s] [c.s] w7 (by have := H6.out.1.len HZ.out.1; omega) (by have := H6.out.1.len HZ.out.1; omega) H6.out.2.2 H6.out.1.recs).mono ?_
            rintro x w8 ⟨rfl, hb8⟩
            have htt : decide ([c.s] = [c.s]) = true := decide_eq_true rfl
            have H8 : Hid (OdI w1 w8 A a b L v3 (some ⟨w3.heap.size, 0, none⟩) [c.s] [c.s] ∧ WlS w8 A.bD A.D A.S a b L2 buf6 [] 0 st6 v6) := Lib.hid ⟨H6.out.1.below hb8, H6.out.2.1.below hb8⟩
            clear hS0 hb8
            refine hK.out _ _ H8.out.1.c1 (fun hS0 => ?_)
            clear hK K
            refine wpAnyH_take (i := 10) (v := ?_) rfl (by kernel_rfl) (by kernel_rfl) (by kernel_rfl) (fun _ _ _ h => h) (Or.inl ⟨by kernel_rfl, ?_⟩) (by assumption) ?_
            rotate_left
            · intro w hSw; (try dsimp only at hSw); go_simp; (try with_reducible rfl)
            refine wpAnyH_take (i := 11) (v := ?_) rfl (by kernel_rfl) (by kernel_rfl) (by kernel_rfl) (fun _ _ _ h => h) (Or.inl ⟨by kernel_rfl, ?_⟩) (by assumption) ?_
            rotate_left
            · intro w hSw; (try dsimp only at hSw); go_simp; (try with_reducible rfl)
            refine wpAnyH_take (i := 12) (v := ?_) rfl (by kernel_rfl) (by kernel_rfl) (by kernel_rfl) (fun _ _ _ h => h) (Or.inl ⟨by kernel_rfl, ?_⟩) (by assumption) ?_
            rotate_left
            · intro w hSw; (try dsimp only at hSw); go_simp; (try with_reducible rfl)
            refine wpAnyH_take (i := 13) (v := ?_) rfl (by kernel_rfl) (by kernel_rfl) (by kernel_rfl) (fun _ _ _ h => h) (Or.inl ⟨by kernel_rfl, ?_⟩) (by assumption) ?_
            rotate_left
            · intro w hSw; (try dsimp only at hSw); go_simp; (try with_reducible rfl)
            refine wpAnyH_take (i := 15) (v := ?_) rfl (by kernel_rfl) (by kernel_rfl) (by kernel_rfl) (fun _ _ _ h => h) (Or.inl ⟨by kernel_rfl, ?_⟩) (by assumption) ?_
            rotate_left
            · intro w hSw; (try dsimp only at hSw); go_simp; (try with_reducible rfl)
            refine wpAnyH_take (i := 16) (v := ?_) rfl (by kernel_rfl) (by kernel_rfl) (by kernel_rfl) (fun _ _ _ h => h) (Or.inl ⟨by kernel_rfl, ?_⟩) (by assumption) ?_
            rotate_left
            · intro w hSw; (try dsimp only at hSw); go_simp; (try with_reducible rfl)
            refine wpAnyH_take (i := 17) (v := ?_) rfl (by kernel_rfl) (by kernel_rfl) (by kernel_rfl) (fun _ _ _ h => h) (Or.inl ⟨by kernel_rfl, ?_⟩) (by assumption) ?_
            rotate_left
            · intro w hSw; (try dsimp only at hSw); go_simp; (try with_reducible rfl)
            refine wpAnyH_take (i := 18) (v := ?_) rfl (by kernel_rfl) (by kernel_rfl) (by kernel_rfl) (fun _ _ _ h => h) (Or.inl ⟨by kernel_rfl, ?_⟩) (by assumption) ?_
            rotate_left
            · intro w hSw; (try dsimp only at hSw); go_simp; (try with_reducible rfl)
            refine wpAnyH_ready (rs := [14]) (by kernel_rfl) (by simp) ?_
            refine AllReadyH.cons rfl (fun K hK => ?_) AllReadyH.nil
            go_simp
            refine (wl_gen H8.out.2).mono ?_
            rw [HGU.out.1]
            rintro x w9 ⟨rfl, rfl⟩
            refine hK.out _ _ H8.out.1.c1 (fun hS1 => ?_)
            clear hK K hS1
            refine wpAnyH_ready (rs := [19]) (by kernel_rfl) (by simp) ?_
            refine AllReadyH.cons rfl (fun K hK => ?_) AllReadyH.nil
            go_simp
            have hbk := H8.out.1.wl
            obtain ⟨bufb, stb, hwb⟩ := hbk
            refine (wl_gen hwb).mono ?_
            rintro x w9 ⟨rfl, rfl⟩
            refine hK.out _ _ H8.out.1.c1 (fun hS1 => ?_)
            clear hK K hS1
            refine wpAnyH_take (i := 20) (v := ?_) rfl (by kernel_rfl) (by kernel_rfl) (by kernel_rfl) (fun _ _ _ h => h) (Or.inl ⟨by kernel_rfl, ?_⟩) (by assumption) ?_
            rotate_left
            · intro w hSw; (try dsimp only at hSw); go_simp; (try with_reducible rfl)
            refine wpAnyH_take (i := 21) (v := ?_) rfl (by kernel_rfl) (by kernel_rfl) (by kernel_rfl) (fun _ _ _ h => h) (Or.inl ⟨by kernel_rfl, ?_⟩) (by assumption) ?_
            rotate_left
            · intro w hSw; (try dsimp only at hSw); go_simp; (try with_reducible rfl)
            refine wpAnyH_take (i := 22) (v := ?_) rfl (by kernel_rfl) (by kernel_rfl) (by kernel_rfl) (fun _ _ _ h => h) (Or.inl ⟨by kernel_rfl, ?_⟩) (by assumption) ?_
            rotate_left
            · intro w hSw; (try dsimp only at hSw); go_simp; (try with_reducible rfl)
            refine wpAnyH_take (i := 23) (v := ?_) rfl (by kernel_rfl) (by kernel_rfl) (by kernel_rfl) (fun _ _ _ h => h) (Or.inl ⟨by kernel_rfl, ?_⟩) (by assumption) ?_
            rotate_left
            · intro w hSw; (try dsimp only at hSw); go_simp; (try with_reducible rfl)
            refine wpAnyH_take (i := 25) (v := ?_) rfl (by kernel_rfl) (by kernel_rfl) (by kernel_rfl) (fun _ _ _ h => h) (Or.inl ⟨by kernel_rfl, ?_⟩) (by assumption) ?_
            rotate_left
            · intro w hSw; (try dsimp only at hSw); go_simp; (try with_reducible rfl)
            refine wpAnyH_take (i := 26) (v := ?_) rfl (by kernel_rfl) (by kernel_rfl) (by kernel_rfl) (fun _ _ _ h => h) (Or.inl ⟨by kernel_rfl, ?_⟩) (by assumption) ?_
            rotate_left
            · intro w hSw; (try dsimp only at hSw); go_simp; (try with_reducible rfl)
            refine wpAnyH_take (i := 27) (v := ?_) rfl (by kernel_rfl) (by kernel_rfl) (by kernel_rfl) (fun _ _ _ h => h) (Or.inl ⟨by kernel_rfl, ?_⟩) (by assumption) ?_
            rotate_left
            · intro w hSw; (try dsimp only at hSw); go_simp; (try with_reducible rfl)
            refine wpAnyH_take (i := 28) (v := ?_) rfl (by kernel_rfl) (by kernel_rfl) (by kernel_rfl) (fun _ _ _ h => h) (Or.inl ⟨by kernel_rfl, ?_⟩) (by assumption) ?_
            rotate_left
            · intro w hSw; (try dsimp only at hSw); go_simp; (try with_reducible rfl)
            refine wpAnyH_ready (rs := [24]) (by kernel_rfl) (by simp) ?_
            refine AllReadyH.cons rfl (fun K hK => ?_) AllReadyH.nil
            go_simp
            refine (wl_used H8.out.2).mono ?_
            rw [HGU.out.2]
            rintro x w9 ⟨rfl, rfl⟩
            refine hK.out _ _ H8.out.1.c1 (fun hS1 => ?_)
            clear hK K hS1
            refine wpAnyH_ready (rs := [29]) (by kernel_rfl) (by simp) ?_
            refine AllReadyH.cons rfl (fun K hK => ?_) AllReadyH.nil
            go_simp
            refine (wl_used hwb).mono ?_
            rintro x w9 ⟨rfl, rfl⟩
            refine hK.out _ _ H8.out.1.c1 (fun hS1 => ?_)
            clear hK K hS1
            refine wpAnyH_take (i := 30) (v := ?_) rfl (by kernel_rfl) (by kernel_rfl) (by kernel_rfl) (fun _ _ _ h => h) (Or.inl ⟨by kernel_rfl, ?_⟩) (by assumption) ?_
            rotate_left
            · intro w hSw; (try dsimp only at hSw); go_simp; (try with_reducible rfl)
            refine wpAnyH_take (i := 31) (v := ?_) rfl (by kernel_rfl) (by kernel_rfl) (by kernel_rfl) (fun _ _ _ h => h) (Or.inl ⟨by kernel_rfl, ?_⟩) (by assumption) ?_
            rotate_left
            · intro w hSw; (try dsimp only at hSw); go_simp; (try with_reducible rfl)
            refine wpAnyH_done (by kernel_rfl) ?_ _
            clear hS0 hwb
            go_simp
            go_wp2
            rw [HWW.out] at *
            go_roundw
            case rel => exact ⟨j + 1, v3, [c.s], (some ⟨w3.heap.size, 0, none⟩), 1, HLT.out, rfl, rfl, H8.out.1⟩
            case measure => have := HLT.out; simp [intOf]; omega
          · have H3 := Lib.hid h3
            have hol : OlC w3 A L g (o + j * 5) c.s := ⟨H3.out.c1, (HA.out.1.later (OdI.bel H3.out) HA.out.2.1).c2⟩
            have e0 : (co == 0) = false := beq_eq_false_iff_ne.2 hc0
            have e13 : (co == 13) = false := beq_eq_false_iff_ne.2 hc13
            clear h3 hS0 hc0 hc13
            refine hK.out _ _ hol (fun hS0 => ?_)
            clear hK K
            refine wpAnyH_take (i := 10) (v := ?_) rfl (by kernel_rfl) (by kernel_rfl) (by kernel_rfl) (fun _ _ _ h => h) (Or.inl ⟨by kernel_rfl, ?_⟩) (by assumption) ?_
            rotate_left
            · intro w hSw; (try dsimp only at hSw); go_simp; (try with_reducible rfl)
            refine wpAnyH_done (by kernel_rfl) ?_ _
            clear hS0 hol
            go_simp
            obtain ⟨wz, hwz⟩ : ∃ z, z = w3 := ⟨_, rfl⟩
            have HZZ : Hid (OdI w1 wz A a b L v NA now now) := Lib.hid (by rw [hwz]; exact H3.out)
            have s1 : (w3).cell? ⟨A.P, 1, none⟩ = some (.pointer (some ⟨L, 0, none⟩)) := H3.out.c1
            have HWZ := Lib.hid hwz
            clear hwz
            go_wp2_with fail
            rw [← HWZ.out]
            have hbk := HZZ.out.wl
            obtain ⟨bufb, stb, hwb⟩ := hbk
            refine (wl_broken hwb).mono ?_
            rw [HZZ.out.brk]
            rintro x w4 ⟨rfl, rfl⟩
            clear hwb s1 HWZ
            have s0 := HZZ.out.c0
            go_wp2_with fail
            refine (od_crash HZZ.out HZ.out.1).mono ?_
            rintro x w5 ⟨rfl, h5⟩
            have H5 := Lib.hid h5
            have t0 := H5.out.c0
            clear h5 s0
            go_wp2_with fail
            refine (od_open H5.out HZ.out.1 HZ.out.2.2 (by have := HZ.out.2.1; omega)).mono ?_
            rintro x w6 ⟨L2, LB, cap6, v6, rfl, h6, ⟨buf6, st6, hw6⟩, hs6, hg6, hu6⟩
            have H6 : Hid (OdI w1 w6.drew A a b L v NA now now ∧ WlS w6.drew A.bD A.D A.S a b L2 buf6 [] 0 st6 v6 ∧ StrsAt w6.drew LB now) := Lib.hid ⟨h6.below (Below.refl _ _).drew, hw6.drew, hs6.below (Below.refl _ _).drew⟩
            have HGU := Lib.hid (And.intro hg6 hu6)
            clear h6 hw6 hs6 hg6 hu6 t0
            go_wp2_with fail
            refine wp_region_held_drew (S := fun w' => w'.cell? ⟨A.P, 1, none⟩ = some (.pointer (some ⟨L, 0, none⟩))) (by kernel_rfl) H6.out.1.c1 (fun hS0 => ?_)
            generalize w6.drew = w7 at *
            refine wpAnyH_take (i := 0) (v := ?_) rfl (by kernel_rfl) (by kernel_rfl) (by kernel_rfl) (fun _ _ _ h => h) (Or.inl ⟨by kernel_rfl, ?_⟩) (by assumption) ?_
            rotate_left
            · intro w hSw; (try dsimp only at hSw); go_simp; (try with_reducible rfl)
            refine wpAnyH_take (i := 1) (v := ?_) rfl (by kernel_rfl) (by kernel_rfl) (by kernel_rfl) (fun _ _ _ h => h) (Or.inl ⟨by kernel_rfl, ?_⟩) (by assumption) ?_
            rotate_left
            · intro w hSw; (try dsimp only at hSw); go_simp; (try with_reducible rfl)
            refine wpAnyH_take (i := 2) (v := ?_) rfl (by kernel_rfl) (by kernel_rfl) (by kernel_rfl) (fun _ _ _ h => h) (Or.inl ⟨by kernel_rfl, ?_⟩) (by assumption) ?_
            rotate_left
            · intro w hSw; (try dsimp only at hSw); go_simp; (try with_reducible rfl)
            refine wpAnyH_take (i := 3) (v := ?_) rfl (by kernel_rfl) (by kernel_rfl) (by kernel_rfl) (fun _ _ _ h => h) (Or.inl ⟨by kernel_rfl, ?_⟩) (by assumption) ?_
            rotate_left
            · intro w hSw; (try dsimp only at hSw); go_simp; (try with_reducible rfl)
            refine wpAnyH_take (i := 4) (v := ?_) rfl (by kernel_rfl) (by kernel_rfl) (by kernel_rfl) (fun _ _ _ h => h) (Or.inl ⟨by kernel_rfl, ?_⟩) (by assumption) ?_
            rotate_left
            · intro w hSw; (try dsimp only at hSw); go_simp; (try with_reducible rfl)
            refine wpAnyH_take (i := 5) (v := ?_) rfl (by kernel_rfl) (by kernel_rfl) (by kernel_rfl) (fun _ _ _ h => h) (Or.inl ⟨by kernel_rfl, ?_⟩) (by assumption) ?_
            rotate_left
            · intro w hSw; (try dsimp only at hSw); go_simp; (try with_reducible rfl)
            refine wpAnyH_take (i := 6) (v := ?_) rfl (by kernel_rfl) (by kernel_rfl) (by kernel_rfl) (fun _ _ _ h => h) (Or.inl ⟨by kernel_rfl, ?_⟩) (by assumption) ?_
            rotate_left
            · intro w hSw; (try dsimp only at hSw); go_simp; (try with_reducible rfl)
            refine wpAnyH_take (i := 7) (v := ?_) rfl (by kernel_rfl) (by kernel_rfl) (by kernel_rfl) (fun _ _ _ h => h) (Or.inl ⟨by kernel_rfl, ?_⟩) (by assumption) ?_
            rotate_left
            · intro w hSw; (try dsimp only at hSw); go_simp; (try with_reducible rfl)
            refine wpAnyH_take (i := 8) (v := ?_) rfl (by kernel_rfl) (by kernel_rfl) (by kernel_rfl) (fun _ _ _ h => h) (Or.inl ⟨by kernel_rfl, ?_⟩) (by assumption) ?_
            rotate_left
            · intro w hSw; (try dsimp only at hSw); go_simp; (try with_reducible rfl)
            refine wpAnyH_ready (rs := [9]) (by kernel_rfl) (by simp) ?_
            refine AllReadyH.cons rfl (fun K hK => ?_) AllReadyH.nil
            go_simp
            refine (rf_texts LB NA cap6 ncap now now w7 (by have := H6.out.1.len HZ.out.1; omega) (by have := H6.out.1.len HZ.out.1; omega) H6.out.2.2 H6.out.1.recs).mono ?_
            rintro x w8 ⟨rfl, hb8⟩
            have htt : decide (now = now) = true := decide_eq_true rfl
            have H8 : Hid (OdI w1 w8 A a b L v NA now now ∧ WlS w8 A.bD A.D A.S a b L2 buf6 [] 0 st6 v6) := Lib.hid ⟨H6.out.1.below hb8, H6.out.2.1.below hb8⟩
            clear hS0 hb8
            refine hK.out _ _ H8.out.1.c1 (fun hS0 => ?_)
            clear hK K
            refine wpAnyH_take (i := 10) (v := ?_) rfl (by kernel_rfl) (by kernel_rfl) (by kernel_rfl) (fun _ _ _ h => h) (Or.inl ⟨by kernel_rfl, ?_⟩) (by assumption) ?_
            rotate_left
            · intro w hSw; (try dsimp only at hSw); go_simp; (try with_reducible rfl)
            refine wpAnyH_take (i := 11) (v := ?_) rfl (by kernel_rfl) (by kernel_rfl) (by kernel_rfl) (fun _ _ _ h => h) (Or.inl ⟨by kernel_rfl, ?_⟩) (by assumption) ?_
            rotate_left
            · intro w hSw; (try dsimp only at hSw); go_simp; (try with_reducible rfl)
            refine wpAnyH_take (i := 12) (v := ?_) rfl (by kernel_rfl) (by kernel_rfl) (by kernel_rfl) (fun _ _ _ h => h) (Or.inl ⟨by kernel_rfl, ?_⟩) (by assumption) ?_
            rotate_left
            · intro w hSw; (try dsimp only at hSw); go_simp; (try with_reducible rfl)
            refine wpAnyH_take (i := 13) (v := ?_) rfl (by kernel_rfl) (by kernel_rfl) (by kernel_rfl) (fun _ _ _ h => h) (Or.inl ⟨by kernel_rfl, ?_⟩) (by assumption) ?_
            rotate_left
            · intro w hSw; (try dsimp only at hSw); go_simp; (try with_reducible rfl)
            refine wpAnyH_take (i := 15) (v := ?_) rfl (by kernel_rfl) (by kernel_rfl) (by kernel_rfl) (fun _ _ _ h => h) (Or.inl ⟨by kernel_rfl, ?_⟩) (by assumption) ?_
            rotate_left
            · intro w hSw; (try dsimp only at hSw); go_simp; (try with_reducible rfl)
            refine wpAnyH_take (i := 16) (v := ?_) rfl (by kernel_rfl) (by kernel_rfl) (by kernel_rfl) (fun _ _ _ h => h) (Or.inl ⟨by kernel_rfl, ?_⟩) (by assumption) ?_
            rotate_left
            · intro w hSw; (try dsimp only at hSw); go_simp; (try with_reducible rfl)
            refine wpAnyH_take (i := 17) (v := ?_) rfl (by kernel_rfl) (by kernel_rfl) (by kernel_rfl) (fun _ _ _ h => h) (Or.inl ⟨by kernel_rfl, ?_⟩) (by assumption) ?_
            rotate_left
            · intro w hSw; (try dsimp only at hSw); go_simp; (try with_reducible rfl)
            refine wpAnyH_take (i := 18) (v := ?_) rfl (by kernel_rfl) (by kernel_rfl) (by kernel_rfl) (fun _ _ _ h => h) (Or.inl ⟨by kernel_rfl, ?_⟩) (by assumption) ?_
            rotate_left
            · intro w hSw; (try dsimp only at hSw); go_simp; (try with_reducible rfl)
            refine wpAnyH_ready (rs := [14]) (by kernel_rfl) (by simp) ?_
            refine AllReadyH.cons rfl (fun K hK => ?_) AllReadyH.nil
            go_simp
            refine (wl_gen H8.out.2).mono ?_
            rw [HGU.out.1]
            rintro x w9 ⟨rfl, rfl⟩
            refine hK.out _ _ H8.out.1.c1 (fun hS1 => ?_)
            clear hK K hS1
            refine wpAnyH_ready (rs := [19]) (by kernel_rfl) (by simp) ?_
            refine AllReadyH.cons rfl (fun K hK => ?_) AllReadyH.nil
            go_simp
            have hbk := H8.out.1.wl
            obtain ⟨bufb, stb, hwb⟩ := hbk
            refine (wl_gen hwb).mono ?_
            rintro x w9 ⟨rfl, rfl⟩
            refine hK.out _ _ H8.out.1.c1 (fun hS1 => ?_)
            clear hK K hS1
            refine wpAnyH_take (i := 20) (v := ?_) rfl (by kernel_rfl) (by kernel_rfl) (by kernel_rfl) (fun _ _ _ h => h) (Or.inl ⟨by kernel_rfl, ?_⟩) (by assumption) ?_
            rotate_left
            · intro w hSw; (try dsimp only at hSw); go_simp; (try with_reducible rfl)
            refine wpAnyH_take (i := 21) (v := ?_) rfl (by kernel_rfl) (by kernel_rfl) (by kernel_rfl) (fun _ _ _ h => h) (Or.inl ⟨by kernel_rfl, ?_⟩) (by assumption) ?_
            rotate_left
            · intro w hSw; (try dsimp only at hSw); go_simp; (try with_reducible rfl)
            refine wpAnyH_take (i := 22) (v := ?_) rfl (by kernel_rfl) (by kernel_rfl) (by kernel_rfl) (fun _ _ _ h => h) (Or.inl ⟨by kernel_rfl, ?_⟩) (by assumption) ?_
            rotate_left
            · intro w hSw; (try dsimp only at hSw); go_simp; (try with_reducible rfl)
            refine wpAnyH_take (i := 23) (v := ?_) rfl (by kernel_rfl) (by kernel_rfl) (by kernel_rfl) (fun _ _ _ h => h) (Or.inl ⟨by kernel_rfl, ?_⟩) (by assumption) ?_
            rotate_left
            · intro w hSw; (try dsimp only at hSw); go_simp; (try with_reducible rfl)
            refine wpAnyH_take (i := 25) (v := ?_) rfl (by kernel_rfl) (by kernel_rfl) (by kernel_rfl) (fun _ _ _ h => h) (Or.inl ⟨by kernel_rfl, ?_⟩) (by assumption) ?_
            rotate_left
            · intro w hSw; (try dsimp only at hSw); go_simp; (try with_reducible rfl)
            refine wpAnyH_take (i := 26) (v := ?_) rfl (by kernel_rfl) (by kernel_rfl) (by kernel_rfl) (fun _ _ _ h => h) (Or.inl ⟨by kernel_rfl, ?_⟩) (by assumption) ?_
            rotate_left
            · intro w hSw; (try dsimp only at hSw); go_simp; (try with_reducible rfl)
            refine wpAnyH_take (i := 27) (v := ?_) rfl (by kernel_rfl) (by kernel_rfl) (by kernel_rfl) (fun _ _ _ h => h) (Or.inl ⟨by kernel_rfl, ?_⟩) (by assumption) ?_
            rotate_left
            · intro w hSw; (try dsimp only at hSw); go_simp; (try with_reducible rfl)
            refine wpAnyH_take (i := 28) (v := ?_) rfl (by kernel_rfl) (by kernel_rfl) (by kernel_rfl) (fun _ _ _ h => h) (Or.inl ⟨by kernel_rfl, ?_⟩) (by assumption) ?_
            rotate_left
            · intro w hSw; (try dsimp only at hSw); go_simp; (try with_reducible rfl)
            refine wpAnyH_ready (rs := [24]) (by kernel_rfl) (by simp) ?_
            refine AllReadyH.cons rfl (fun K hK => ?_) AllReadyH.nil
            go_simp
            refine (wl_used H8.out.2).mono ?_
            rw [HGU.out.2]
            rintro x w9 ⟨rfl, rfl⟩
            refine hK.out _ _ H8.out.1.c1 (fun hS1 => ?_)
            clear hK K hS1
            refine wpAnyH_ready (rs := [29]) (by kernel_rfl) (by simp) ?_
            refine AllReadyH.cons rfl (fun K hK => ?_) AllReadyH.nil
            go_simp
            refine (wl_used hwb).mono ?_
            rintro x w9 ⟨rfl, rfl⟩
            refine hK.out _ _ H8.out.1.c1 (fun hS1 => ?_)
            clear hK K hS1
            refine wpAnyH_take (i := 30) (v := ?_) rfl (by kernel_rfl) (by kernel_rfl) (by kernel_rfl) (fun _ _ _ h => h) (Or.inl ⟨by kernel_rfl, ?_⟩) (by assumption) ?_
            rotate_left
            · intro w hSw; (try dsimp only at hSw); go_simp; (try with_reducible rfl)
            refine wpAnyH_take (i := 31) (v := ?_) rfl (by kernel_rfl) (by kernel_rfl) (by kernel_rfl) (fun _ _ _ h => h) (Or.inl ⟨by kernel_rfl, ?_⟩) (by assumption) ?_
            rotate_left
            · intro w hSw; (try dsimp only at hSw); go_simp; (try with_reducible rfl)
            refine wpAnyH_done (by kernel_rfl) ?_ _
            clear hS0 hwb
            go_simp
            go_wp2
            rw [HWW.out] at *
            go_roundw
            case rel => exact ⟨j + 1, v, now, NA, ncap, HLT.out, rfl, rfl, H8.out.1⟩
            case measure => have := HLT.out; simp [intOf]; omega
    · obtain rfl : j = l.length := by omega
      have hd : decide ((l.length : Int) < (l.length : Int)) = false := decide_eq_false (by omega)
      have hd' : decide (l.length < l.length) = false := decide_eq_false (by omega)
      have HB := Lib.hid (H1.out.trans ((OdI.bel HD.out).mono H1.out.size))
      clear hlt
      go_wp2
      go_ret
      exact ⟨rfl, HB.out⟩
end Go.Proofs.YtbpgfhcecanikaaGreat.walOld
namespace Go.Proofs.YtbpgfhcecanikaaGreat
open Go.RowKit
theorem walOld_walk (a b : Int) (v : Value) {W : World} (wa : (Lit.int .i64 a).wf = true) (wb : (Lit.int .i64 b).wf = true) (h2 : ∃ A cap l, v = .slice A l.length cap ∧ l.length ≤ maxLen ∧ ActsAtW W A l) :
    Calls Tryz.prog 6 #[.int .i64 a, .int .i64 b, v] W fun x w' => x = .returned (.bool true) ∧ Below W.heap.size W w' := by
  obtain ⟨A, cap, l, rfl, _, hc⟩ := h2
  by_cases hf : fewW a b l
  · by_cases hb : b < 4
    · exact walOld.small a b A cap l W hc hf hb
    · obtain ⟨p, rfl⟩ := Int.eq_ofNat_of_zero_le (show 0 ≤ a by have := hf.1; omega)
      obtain ⟨m, rfl⟩ := Int.eq_ofNat_of_zero_le (show 0 ≤ b by have := hf.2.2.1; omega)
      exact walOld.few_ p m A cap l W hc hf (by omega)
  · exact walOld.many a b A cap l W hc hf
end Go.Proofs.YtbpgfhcecanikaaGreat
