/- carracklaw20.NetPlays walked. No condition. -/
import Derived.WalkSpells
import Derived.Outline
import Derived.Deep.QuietTactic
import Derived.Test.YtahijpfmpdjceaaHeldMono
import Derived.Test.YtahijpfmpdjceaaNetPlaysM
namespace Go.Proofs.Ytahijpfmpdjceaa.netPlays
open Go.RowKit
set_option linter.unusedVariables false
set_option maxRecDepth 100000 in
set_option maxHeartbeats 8000000 in
theorem few_ (A : Option Addr) (cap : Nat) (l : List NAct) (W : World) (hlm : l.length ≤ maxLen) (ha : NActsAt W A l) :
    Calls Try.prog 3 #[.slice A l.length cap] W fun e w' => e = .returned (.bool true) ∧ Below W.heap.size W w' := by
  have HA := Lib.hid (And.intro ha hlm)
  clear ha hlm
  go_enter Try.func3, Try.ntmps3
  go_wp2_with fail
  refine (awake _).mono ?_
  rintro e w1 ⟨rfl, b1⟩
  have H1 := Lib.hid b1
  clear b1
  go_wp2_with fail
  refine (nt_few A cap l _ HA.out.2 (HA.out.1.later H1.out)).mono ?_
  rintro e w1' ⟨r, rfl, hr, rfl⟩
  cases r with
  | false =>
    go_wp2
    go_ret
    exact ⟨rfl, H1.out⟩
  | true =>
    have HF := Lib.hid (hr rfl)
    have h60 : l.length ≤ 60 := (hr rfl).1
    clear hr
    go_wp2_with fail
    refine (nt_new _).mono ?_
    rintro e w2 ⟨rfl, hs, hb⟩
    have H2 := Lib.hid (NtI.made H1.out hs hb)
    clear hs hb
    generalize w1'.heap.size = N at *
    go_wp2
    obtain ⟨w3, hw3⟩ : ∃ z, z = w2.alloc (.cells #[.slice none 0 0] 30) := ⟨_, rfl⟩
    have hc3 : Du W w3 N w2.heap.size (.slice none 0 0) (.slice none 0 0) [] [] := by rw [hw3]; exact Du.made H2.out
    rw [← hw3]
    generalize w2.heap.size = R at *
    have H3 := Lib.hid hc3
    clear hc3 hw3 H2 H1
    go_loopw [5] (fun i wr => ∃ j : Nat, ∃ v u : Value, ∃ ms : List MsgV, j ≤ l.length ∧ i = .int .i64 (j : Int) ∧ Du W wr N R v u ms ms ∧ ms.length ≤ 256) (fun i _ => l.length - (intOf i).toNat)
    case atStart => exact ⟨0, _, _, [], Nat.zero_le _, rfl, H3.out, by simp⟩
    case round =>
      obtain ⟨j, v, u, ms, hj, rfl, hdu, hlen⟩ := hrel
      have HJ := Lib.hid hj
      have HC := Lib.hid (And.intro hdu hlen)
      clear hj hdu hlen
      by_cases hlt : j < l.length
      · have l1 : (j : Int) < (l.length : Int) := by omega
        have HLT := Lib.hid hlt
        obtain ⟨g, o, rfl, hg, hact0⟩ := HA.out.1 j hlt
        have hact := hact0.later HC.out.1.net.bel hg
        have hl300 := HF.out.2 j hlt
        generalize l[j] = a at *
        have c0 := hact.c0
        have c1 := hact.c1
        have c2 := hact.c2
        have c3 := hact.c3
        have HACT := Lib.hid (And.intro hact0 hl300)
        clear hact hact0 hg hl300 hlt
        by_cases hk0 : a.kind = 0
        · rw [hk0] at c0
          go_wp2_with fail
          obtain ⟨wb, hwb⟩ : ∃ z, z = wr.alloc (.cells #[.int .i64 0, .int .i64 a.k, .int .i64 a.to, .slice a.la a.l.length a.lcap] 32) := ⟨_, rfl⟩
          rw [← hwb]
          have hbw : Below wr.heap.size wr wb := by rw [hwb]; exact Kq.below_alloc _ _
          have hbx : wb.heap[wr.heap.size]? = some (.cells #[.int .i64 0, .int .i64 a.k, .int .i64 a.to, .slice a.la a.l.length a.lcap] 32 (0, 0)) := by rw [hwb]; exact Kq.blk_new _ _ _ _
          have hno : ∀ x, OwnN N v x → x < wr.heap.size := fun x hx => by
            rcases hx with rfl | e
            · exact Kq.blk_lt HC.out.1.net.s.blk
            · exact (HC.out.1.net.s.own.lt x e).2
          have hnR : R < wr.heap.size := Kq.blk_lt HC.out.1.ref.blk
          have HB := Lib.hid (HC.out.1.below hbw)
          have HLN := Lib.hid HC.out.2
          have HBX := Lib.hid (And.intro hbx (And.intro hno hnR))
          generalize wr.heap.size = Bx at *
          clear hbw hbx hno hwb hnR c0 c1 c2 c3 HC

          have HD := Lib.hid (HB.out.below (Below.refl _ _).drew)
          have hbd : wb.drew.heap[Bx]? = _ := HBX.out.1
          refine wp_region_held_drew (S := fun w' => w'.cell? ⟨Bx, 3, none⟩ = some (.slice a.la a.l.length a.lcap)) (by kernel_rfl) (Kq.blk_cell hbd 3) (fun hS0 => ?_)
          generalize wb.drew = wd at *
          have HBD := Lib.hid hbd
          clear hbd HB
          refine wpAnyH_take (i := 0) (v := ?_) rfl (by kernel_rfl) (by kernel_rfl) (by kernel_rfl) (fun _ _ _ h => h) (Or.inl ⟨by kernel_rfl, ?_⟩) (by assumption) ?_
          rotate_left
          · intro w hSw; (try dsimp only at hSw); go_simp; (try with_reducible rfl)
          refine wpAnyH_take (i := 1) (v := ?_) rfl (by kernel_rfl) (by kernel_rfl) (by kernel_rfl) (fun _ _ _ h => h) (Or.inl ⟨by kernel_rfl, ?_⟩) (by assumption) ?_
          rotate_left
          · intro w hSw; (try dsimp only at hSw); go_simp; (try with_reducible rfl)
          refine wpAnyH_take (i := 2) (v := ?_) rfl (by kernel_rfl) (by kernel_rfl) (by kernel_rfl) (fun _ _ _ h => h) (Or.inl ⟨by kernel_rfl, ?_⟩) (by assumption) ?_
          rotate_left
          · intro w hSw; (try dsimp only at hSw); go_simp; (try with_reducible rfl)
          refine wpAnyH_take (i := 4) (v := ?_) rfl (by kernel_rfl) (by kernel_rfl) (by kernel_rfl) (fun _ _ _ h => h) (Or.inl ⟨by kernel_rfl, ?_⟩) (by assumption) ?_
          rotate_left
          · intro w hSw; (try dsimp only at hSw); go_simp; (try with_reducible rfl)
          refine wpAnyH_take (i := 5) (v := ?_) rfl (by kernel_rfl) (by kernel_rfl) (by kernel_rfl) (fun _ _ _ h => h) (Or.inl ⟨by kernel_rfl, ?_⟩) (by assumption) ?_
          rotate_left
          · intro w hSw; (try dsimp only at hSw); go_simp; (try with_reducible rfl)
          refine wpAnyH_take (i := 6) (v := ?_) rfl (by kernel_rfl) (by kernel_rfl) (by kernel_rfl) (fun _ _ _ h => h) (Or.inl ⟨by kernel_rfl, ?_⟩) (by assumption) ?_
          rotate_left
          · intro w hSw; (try dsimp only at hSw); go_simp; (try with_reducible rfl)
          refine wpAnyH_ready (rs := [3]) (by kernel_rfl) (by simp) ?_
          refine AllReadyH.cons rfl (fun K hK => ?_) AllReadyH.nil
          go_simp
          have HAR : Hid (0 < a.l.length → ∀ g' o', a.la = some ⟨g', o', none⟩ → g' ≠ R) := Lib.hid (fun h0 g' o' e => by
            obtain ⟨g2, o2, e2, hg2, _⟩ := HACT.out.1.ms 0 h0
            rw [e] at e2
            injection e2 with e2
            injection e2 with e2 _
            subst e2
            have := HD.out.hR; omega)
          have hopN := nt_send N N v ms a.la a.lcap a.l _ HD.out.net.s HLN.out (by have := HACT.out.2; omega) HACT.out.1.cap (HACT.out.1.ms.below HD.out.net.bel) HACT.out.1.nil
          have hl9 : (ms ++ a.l.take (sendN a.l.length ms.length)).length ≤ 256 := by have := HLN.out; rw [List.length_append, List.length_take]; unfold sendN; omega
          generalize hns : ms ++ a.l.take (sendN a.l.length ms.length) = ns at *
          have HNS := Lib.hid hns
          have HL9 := Lib.hid hl9
          clear hns hl9
          refine hopN.mono ?_
          clear hopN
          rintro e w4 ⟨rfl, hp4⟩
          have hk4 : Kq.Keeps (OwnN N v) wd w4 := by obtain ⟨_, _, h, _⟩ := hp4; exact h
          have hb4 := hk4.blk HBD.out (fun e => absurd (HBX.out.2.1 _ e) (Nat.lt_irrefl _))
          obtain ⟨v4, hc4⟩ := HD.out.stepN hp4
          have H4 := Lib.hid hc4
          have HB4 := Lib.hid hb4
          clear hp4 hk4 hc4 HD HBD
          refine hK.out _ _ (Kq.blk_cell hb4 3) (fun hS1 => ?_)
          clear hK K hS0 hb4
          refine wpAnyH_ready (rs := [7]) (by kernel_rfl) (by simp) ?_
          refine AllReadyH.cons rfl (fun K hK => ?_) AllReadyH.nil
          go_simp
          have hopR := rt_send R R u ms a.la a.lcap a.l _ H4.out.ref HLN.out (by have := HACT.out.2; omega) HACT.out.1.cap (HACT.out.1.ms.below H4.out.net.bel) HAR.out
          rw [HNS.out] at hopR
          refine hopR.mono ?_
          clear hopR
          rintro e w5 ⟨rfl, hp5⟩
          have hk5 : Kq.Keeps (· = R) w4 w5 := by obtain ⟨_, _, h, _⟩ := hp5; exact h
          have hb5 := hk5.blk HB4.out (fun e => by have := HBX.out.2.2; omega)
          obtain ⟨u5, hc5⟩ := H4.out.stepR hp5
          have HE := Lib.hid hc5
          have HNL : Hid (ns.length ≤ 256) := Lib.hid (HL9.out)
          clear hp5 hk5 hc5 H4
          refine hK.out _ _ (Kq.blk_cell hb5 3) (fun hS2 => ?_)
          clear hK K hS1 hb5
          refine wpAnyH_take (i := 8) (v := ?_) rfl (by kernel_rfl) (by kernel_rfl) (by kernel_rfl) (fun _ _ _ h => h) (Or.inl ⟨by kernel_rfl, ?_⟩) (by assumption) ?_
          rotate_left
          · intro w hSw; (try dsimp only at hSw); go_simp; (try with_reducible rfl)
          refine wpAnyH_take (i := 9) (v := ?_) rfl (by kernel_rfl) (by kernel_rfl) (by kernel_rfl) (fun _ _ _ h => h) (Or.inl ⟨by kernel_rfl, ?_⟩) (by assumption) ?_
          rotate_left
          · intro w hSw; (try dsimp only at hSw); go_simp; (try with_reducible rfl)
          refine wpAnyH_done (by kernel_rfl) ?_ _
          clear hS2 HBX HB4

          go_wp2
          have HD := Lib.hid (HE.out.below (Below.refl _ _).drew)
          obtain ⟨UA, ucap, hu, hUc, hU0, -⟩ := HE.out.ref.at
          subst hu
          have hS := HD.out.ref.c0
          refine wp_region_held_drew (S := fun w' => w'.cell? ⟨R, 0, none⟩ = some (.slice UA ns.length ucap)) (by kernel_rfl) hS (fun hS0 => ?_)
          generalize hwd : World.drew _ = wd at *
          clear hwd hS HE hUc hU0
          refine wpAnyH_take (i := 0) (v := ?_) rfl (by kernel_rfl) (by kernel_rfl) (by kernel_rfl) (fun _ _ _ h => h) (Or.inl ⟨by kernel_rfl, ?_⟩) (by assumption) ?_
          rotate_left
          · intro w hSw; (try dsimp only at hSw); go_simp; (try with_reducible rfl)
          refine wpAnyH_take (i := 1) (v := ?_) rfl (by kernel_rfl) (by kernel_rfl) (by kernel_rfl) (fun _ _ _ h => h) (Or.inl ⟨by kernel_rfl, ?_⟩) (by assumption) ?_
          rotate_left
          · intro w hSw; (try dsimp only at hSw); go_simp; (try with_reducible rfl)
          refine wpAnyH_take (i := 2) (v := ?_) rfl (by kernel_rfl) (by kernel_rfl) (by kernel_rfl) (fun _ _ _ h => h) (Or.inl ⟨by kernel_rfl, ?_⟩) (by assumption) ?_
          rotate_left
          · intro w hSw; (try dsimp only at hSw); go_simp; (try with_reducible rfl)
          refine wpAnyH_take (i := 3) (v := ?_) rfl (by kernel_rfl) (by kernel_rfl) (by kernel_rfl) (fun _ _ _ h => h) (Or.inl ⟨by kernel_rfl, ?_⟩) (by assumption) ?_
          rotate_left
          · intro w hSw; (try dsimp only at hSw); go_simp; (try with_reducible rfl)
          refine wpAnyH_take (i := 5) (v := ?_) rfl (by kernel_rfl) (by kernel_rfl) (by kernel_rfl) (fun _ _ _ h => h) (Or.inl ⟨by kernel_rfl, ?_⟩) (by assumption) ?_
          rotate_left
          · intro w hSw; (try dsimp only at hSw); go_simp; (try with_reducible rfl)
          refine wpAnyH_take (i := 6) (v := ?_) rfl (by kernel_rfl) (by kernel_rfl) (by kernel_rfl) (fun _ _ _ h => h) (Or.inl ⟨by kernel_rfl, ?_⟩) (by assumption) ?_
          rotate_left
          · intro w hSw; (try dsimp only at hSw); go_simp; (try with_reducible rfl)
          refine wpAnyH_take (i := 7) (v := ?_) rfl (by kernel_rfl) (by kernel_rfl) (by kernel_rfl) (fun _ _ _ h => h) (Or.inl ⟨by kernel_rfl, ?_⟩) (by assumption) ?_
          rotate_left
          · intro w hSw; (try dsimp only at hSw); go_simp; (try with_reducible rfl)
          refine wpAnyH_take (i := 8) (v := ?_) rfl (by kernel_rfl) (by kernel_rfl) (by kernel_rfl) (fun _ _ _ h => h) (Or.inl ⟨by kernel_rfl, ?_⟩) (by assumption) ?_
          rotate_left
          · intro w hSw; (try dsimp only at hSw); go_simp; (try with_reducible rfl)
          refine wpAnyH_ready (rs := [4]) (by kernel_rfl) (by simp) ?_
          refine AllReadyH.cons rfl (fun K hK => ?_) AllReadyH.nil
          go_simp
          refine (netMoves.nt_listed N N _ ns _ HD.out.net.s (by have := HNL.out; omega)).mono ?_
          rintro e wL ⟨AL, cL, rfl, hcL, h0L, hatL, bL⟩
          have HG := Lib.hid (And.intro (HD.out.below bL) hatL)
          clear bL hatL hcL h0L
          refine hK.out _ _ HG.out.1.ref.c0 (fun hS1 => ?_)
          clear hK K hS0 HD
          refine wpAnyH_ready (rs := [9]) (by kernel_rfl) (by simp) ?_
          refine AllReadyH.cons rfl (fun K hK => ?_) AllReadyH.nil
          go_simp
          refine (same_self ns AL UA cL ucap _ (by have := HNL.out; omega) HG.out.2 (by obtain ⟨A', c', e, _, _, h⟩ := HG.out.1.ref.at; injection e with e1 _ _; rw [e1]; exact h)).mono ?_
          rintro e wS ⟨rfl, rS, rfl⟩
          have HH := Lib.hid (HG.out.1.below ⟨rfl, rfl, rfl, Nat.le_refl _, fun _ _ => rfl⟩ : Du W (wL.drewN rS) N R _ (.slice UA ns.length ucap) ns ns)
          generalize wL.drewN rS = wS at *
          clear HG hS1
          refine hK.out _ _ HH.out.ref.c0 (fun hS2 => ?_)
          clear hK K
          refine wpAnyH_take (i := 10) (v := ?_) rfl (by kernel_rfl) (by kernel_rfl) (by kernel_rfl) (fun _ _ _ h => h) (Or.inl ⟨by kernel_rfl, ?_⟩) (by assumption) ?_
          rotate_left
          · intro w hSw; (try dsimp only at hSw); go_simp; (try with_reducible rfl)
          refine wpAnyH_take (i := 11) (v := ?_) rfl (by kernel_rfl) (by kernel_rfl) (by kernel_rfl) (fun _ _ _ h => h) (Or.inl ⟨by kernel_rfl, ?_⟩) (by assumption) ?_
          rotate_left
          · intro w hSw; (try dsimp only at hSw); go_simp; (try with_reducible rfl)
          refine wpAnyH_take (i := 12) (v := ?_) rfl (by kernel_rfl) (by kernel_rfl) (by kernel_rfl) (fun _ _ _ h => h) (Or.inl ⟨by kernel_rfl, ?_⟩) (by assumption) ?_
          rotate_left
          · intro w hSw; (try dsimp only at hSw); go_simp; (try with_reducible rfl)
          refine wpAnyH_take (i := 13) (v := ?_) rfl (by kernel_rfl) (by kernel_rfl) (by kernel_rfl) (fun _ _ _ h => h) (Or.inl ⟨by kernel_rfl, ?_⟩) (by assumption) ?_
          rotate_left
          · intro w hSw; (try dsimp only at hSw); go_simp; (try with_reducible rfl)
          refine wpAnyH_take (i := 15) (v := ?_) rfl (by kernel_rfl) (by kernel_rfl) (by kernel_rfl) (fun _ _ _ h => h) (Or.inl ⟨by kernel_rfl, ?_⟩) (by assumption) ?_
          rotate_left
          · intro w hSw; (try dsimp only at hSw); go_simp; (try with_reducible rfl)
          refine wpAnyH_take (i := 16) (v := ?_) rfl (by kernel_rfl) (by kernel_rfl) (by kernel_rfl) (fun _ _ _ h => h) (Or.inl ⟨by kernel_rfl, ?_⟩) (by assumption) ?_
          rotate_left
          · intro w hSw; (try dsimp only at hSw); go_simp; (try with_reducible rfl)
          refine wpAnyH_take (i := 17) (v := ?_) rfl (by kernel_rfl) (by kernel_rfl) (by kernel_rfl) (fun _ _ _ h => h) (Or.inl ⟨by kernel_rfl, ?_⟩) (by assumption) ?_
          rotate_left
          · intro w hSw; (try dsimp only at hSw); go_simp; (try with_reducible rfl)
          refine wpAnyH_take (i := 18) (v := ?_) rfl (by kernel_rfl) (by kernel_rfl) (by kernel_rfl) (fun _ _ _ h => h) (Or.inl ⟨by kernel_rfl, ?_⟩) (by assumption) ?_
          rotate_left
          · intro w hSw; (try dsimp only at hSw); go_simp; (try with_reducible rfl)
          refine wpAnyH_take (i := 19) (v := ?_) rfl (by kernel_rfl) (by kernel_rfl) (by kernel_rfl) (fun _ _ _ h => h) (Or.inl ⟨by kernel_rfl, ?_⟩) (by assumption) ?_
          rotate_left
          · intro w hSw; (try dsimp only at hSw); go_simp; (try with_reducible rfl)
          refine wpAnyH_ready (rs := [14]) (by kernel_rfl) (by simp) ?_
          refine AllReadyH.cons rfl (fun K hK => ?_) AllReadyH.nil
          go_simp
          refine (nt_len N N _ ns _ HH.out.net.s).mono ?_
          rintro e wT ⟨rfl, rfl⟩
          refine hK.out _ _ hS2 (fun hS3 => ?_)
          clear hK K hS2
          refine wpAnyH_take (i := 20) (v := ?_) rfl (by kernel_rfl) (by kernel_rfl) (by kernel_rfl) (fun _ _ _ h => h) (Or.inl ⟨by kernel_rfl, ?_⟩) (by assumption) ?_
          rotate_left
          · intro w hSw; (try dsimp only at hSw); go_simp; (try with_reducible rfl)
          refine wpAnyH_take (i := 21) (v := ?_) rfl (by kernel_rfl) (by kernel_rfl) (by kernel_rfl) (fun _ _ _ h => h) (Or.inl ⟨by kernel_rfl, ?_⟩) (by assumption) ?_
          rotate_left
          · intro w hSw; (try dsimp only at hSw); go_simp; (try with_reducible rfl)
          refine wpAnyH_done (by kernel_rfl) ?_ _
          clear hS3
          go_wp2
          go_roundw
          case rel => exact ⟨j + 1, _, _, ns, by have := HLT.out; omega, by go_num, HH.out, HNL.out⟩
          case measure => simp [intOf]; have := HLT.out; omega
        · by_cases hk1 : a.kind = 1
          · rw [hk1] at c0
            go_wp2_with fail
            obtain ⟨wb, hwb⟩ : ∃ z, z = wr.alloc (.cells #[.int .i64 1, .int .i64 a.k, .int .i64 a.to, .slice a.la a.l.length a.lcap] 32) := ⟨_, rfl⟩
            rw [← hwb]
            have hbw : Below wr.heap.size wr wb := by rw [hwb]; exact Kq.below_alloc _ _
            have hbx : wb.heap[wr.heap.size]? = some (.cells #[.int .i64 1, .int .i64 a.k, .int .i64 a.to, .slice a.la a.l.length a.lcap] 32 (0, 0)) := by rw [hwb]; exact Kq.blk_new _ _ _ _
            have hno : ∀ x, OwnN N v x → x < wr.heap.size := fun x hx => by
              rcases hx with rfl | e
              · exact Kq.blk_lt HC.out.1.net.s.blk
              · exact (HC.out.1.net.s.own.lt x e).2
            have hnR : R < wr.heap.size := Kq.blk_lt HC.out.1.ref.blk
            have HB := Lib.hid (HC.out.1.below hbw)
            have HLN := Lib.hid HC.out.2
            have HBX := Lib.hid (And.intro hbx (And.intro hno hnR))
            generalize wr.heap.size = Bx at *
            clear hbw hbx hno hwb hnR c0 c1 c2 c3 HC

            have bx1 := Kq.blk_cell HBX.out.1 1
            have hopN := nt_take N N v ms a.k _ HB.out.net.s HLN.out
            have hl9 : (takeF a.k ms).2.2.length ≤ 256 := takeF_len HLN.out
            obtain ⟨T, hT⟩ : ∃ T, T = takeF a.k ms := ⟨_, rfl⟩
            rw [← hT] at hopN hl9
            obtain ⟨m, cc, ns⟩ := T
            have HT := Lib.hid hT
            have HNL := Lib.hid hl9
            clear hT hl9
            refine hopN.mono ?_
            clear hopN
            rintro e w4 ⟨rfl, hp4⟩
            have hk4 : Kq.Keeps (OwnN N v) wb w4 := by obtain ⟨_, _, h, _⟩ := hp4; exact h
            have hb4 := hk4.blk HBX.out.1 (fun e => absurd (HBX.out.2.1 _ e) (Nat.lt_irrefl _))
            obtain ⟨v4, hc4⟩ := HB.out.stepN hp4
            have hbl := Kq.below_alloc w4 (.cells #[.int .i64 m.kind, .int .i64 m.to, .int .u64 m.ht, .int .i64 m.fr, .int .u64 m.sq, .int .u64 m.tm, .string m.d, .string m.p] 39)
            have bx1 := Kq.blk_cell (Kq.below_blk hbl hb4 (Kq.blk_lt hb4)) 1
            simp only [List.getElem?_toArray, List.getElem?_cons_zero, List.getElem?_cons_succ] at bx1
            have H4 := Lib.hid (hc4.below hbl)
            have hx4 : (w4.alloc (.cells #[.int .i64 m.kind, .int .i64 m.to, .int .u64 m.ht, .int .i64 m.fr, .int .u64 m.sq, .int .u64 m.tm, .string m.d, .string m.p] 39)).heap[w4.heap.size]? = some (.cells #[.int .i64 m.kind, .int .i64 m.to, .int .u64 m.ht, .int .i64 m.fr, .int .u64 m.sq, .int .u64 m.tm, .string m.d, .string m.p] 39 (0, 0)) := Kq.blk_new _ _ _ _
            have HX4 := Lib.hid hx4
            clear hp4 hk4 hc4 hb4 hbl hx4 HB
            unfold MsgV.val
            go_wp2_with fail
            clear bx1
            obtain ⟨wx, hwx⟩ : ∃ z, z = w4.alloc (.cells #[.int .i64 m.kind, .int .i64 m.to, .int .u64 m.ht, .int .i64 m.fr, .int .u64 m.sq, .int .u64 m.tm, .string m.d, .string m.p] 39) := ⟨_, rfl⟩
            rw [← hwx] at H4 HX4 ⊢
            clear hwx
            have hopR := rt_take R R u ms a.k _ H4.out.ref HLN.out
            rw [← HT.out] at hopR
            refine hopR.mono ?_
            clear hopR
            rintro e w5 ⟨rfl, hp5⟩
            have hk5 : Kq.Keeps (· = R) wx w5 := by obtain ⟨_, _, h, _⟩ := hp5; exact h
            have hx5 := hk5.blk HX4.out (fun e => by have := HBX.out.2.2; have := Kq.blk_lt HX4.out; have hh := H4.out.ref.blk; rw [← e] at hh; rw [HX4.out] at hh; injection hh with hh; injection hh with _ hh _; exact absurd hh (by decide))
            obtain ⟨u5, hc5⟩ := H4.out.stepR hp5
            have hbl := Kq.below_alloc w5 (.cells #[.int .i64 m.kind, .int .i64 m.to, .int .u64 m.ht, .int .i64 m.fr, .int .u64 m.sq, .int .u64 m.tm, .string m.d, .string m.p] 39)
            have HE := Lib.hid (hc5.below hbl)
            have hx7 := Kq.below_blk hbl hx5 (Kq.blk_lt hx5)
            have hy7 : (w5.alloc (.cells #[.int .i64 m.kind, .int .i64 m.to, .int .u64 m.ht, .int .i64 m.fr, .int .u64 m.sq, .int .u64 m.tm, .string m.d, .string m.p] 39)).heap[w5.heap.size]? = some (.cells #[.int .i64 m.kind, .int .i64 m.to, .int .u64 m.ht, .int .i64 m.fr, .int .u64 m.sq, .int .u64 m.tm, .string m.d, .string m.p] 39 (0, 0)) := Kq.blk_new _ _ _ _
            have x0 := Kq.blk_cell hx7 0
            have x1 := Kq.blk_cell hx7 1
            have x2 := Kq.blk_cell hx7 2
            have x3 := Kq.blk_cell hx7 3
            have x4 := Kq.blk_cell hx7 4
            have x5 := Kq.blk_cell hx7 5
            have x6 := Kq.blk_cell hx7 6
            have x7 := Kq.blk_cell hx7 7
            have y0 := Kq.blk_cell hy7 0
            have y1 := Kq.blk_cell hy7 1
            have y2 := Kq.blk_cell hy7 2
            have y3 := Kq.blk_cell hy7 3
            have y4 := Kq.blk_cell hy7 4
            have y5 := Kq.blk_cell hy7 5
            have y6 := Kq.blk_cell hy7 6
            have y7 := Kq.blk_cell hy7 7
            simp only [List.getElem?_toArray, List.getElem?_cons_zero, List.getElem?_cons_succ] at x0 x1 x2 x3 x4 x5 x6 x7 y0 y1 y2 y3 y4 y5 y6 y7
            clear hp5 hk5 hx5 hc5 hbl hx7 hy7 H4 HX4 HBX
            unfold MsgV.val

            go_wp2
            clear x0 x1 x2 x3 x4 x5 x6 x7 y0 y1 y2 y3 y4 y5 y6 y7
            have HD := Lib.hid (HE.out.below (Below.refl _ _).drew)
            obtain ⟨UA, ucap, hu, hUc, hU0, -⟩ := HE.out.ref.at
            subst hu
            have hS := HD.out.ref.c0
            refine wp_region_held_drew (S := fun w' => w'.cell? ⟨R, 0, none⟩ = some (.slice UA ns.length ucap)) (by kernel_rfl) hS (fun hS0 => ?_)
            generalize hwd : World.drew _ = wd at *
            clear hwd hS HE hUc hU0
            refine wpAnyH_take (i := 0) (v := ?_) rfl (by kernel_rfl) (by kernel_rfl) (by kernel_rfl) (fun _ _ _ h => h) (Or.inl ⟨by kernel_rfl, ?_⟩) (by assumption) ?_
            rotate_left
            · intro w hSw; (try dsimp only at hSw); go_simp; (try with_reducible rfl)
            refine wpAnyH_take (i := 1) (v := ?_) rfl (by kernel_rfl) (by kernel_rfl) (by kernel_rfl) (fun _ _ _ h => h) (Or.inl ⟨by kernel_rfl, ?_⟩) (by assumption) ?_
            rotate_left
            · intro w hSw; (try dsimp only at hSw); go_simp; (try with_reducible rfl)
            refine wpAnyH_take (i := 2) (v := ?_) rfl (by kernel_rfl) (by kernel_rfl) (by kernel_rfl) (fun _ _ _ h => h) (Or.inl ⟨by kernel_rfl, ?_⟩) (by assumption) ?_
            rotate_left
            · intro w hSw; (try dsimp only at hSw); go_simp; (try with_reducible rfl)
            refine wpAnyH_take (i := 3) (v := ?_) rfl (by kernel_rfl) (by kernel_rfl) (by kernel_rfl) (fun _ _ _ h => h) (Or.inl ⟨by kernel_rfl, ?_⟩) (by assumption) ?_
            rotate_left
            · intro w hSw; (try dsimp only at hSw); go_simp; (try with_reducible rfl)
            refine wpAnyH_take (i := 5) (v := ?_) rfl (by kernel_rfl) (by kernel_rfl) (by kernel_rfl) (fun _ _ _ h => h) (Or.inl ⟨by kernel_rfl, ?_⟩) (by assumption) ?_
            rotate_left
            · intro w hSw; (try dsimp only at hSw); go_simp; (try with_reducible rfl)
            refine wpAnyH_take (i := 6) (v := ?_) rfl (by kernel_rfl) (by kernel_rfl) (by kernel_rfl) (fun _ _ _ h => h) (Or.inl ⟨by kernel_rfl, ?_⟩) (by assumption) ?_
            rotate_left
            · intro w hSw; (try dsimp only at hSw); go_simp; (try with_reducible rfl)
            refine wpAnyH_take (i := 7) (v := ?_) rfl (by kernel_rfl) (by kernel_rfl) (by kernel_rfl) (fun _ _ _ h => h) (Or.inl ⟨by kernel_rfl, ?_⟩) (by assumption) ?_
            rotate_left
            · intro w hSw; (try dsimp only at hSw); go_simp; (try with_reducible rfl)
            refine wpAnyH_take (i := 8) (v := ?_) rfl (by kernel_rfl) (by kernel_rfl) (by kernel_rfl) (fun _ _ _ h => h) (Or.inl ⟨by kernel_rfl, ?_⟩) (by assumption) ?_
            rotate_left
            · intro w hSw; (try dsimp only at hSw); go_simp; (try with_reducible rfl)
            refine wpAnyH_ready (rs := [4]) (by kernel_rfl) (by simp) ?_
            refine AllReadyH.cons rfl (fun K hK => ?_) AllReadyH.nil
            go_simp
            refine (netMoves.nt_listed N N _ ns _ HD.out.net.s (by have := HNL.out; omega)).mono ?_
            rintro e wL ⟨AL, cL, rfl, hcL, h0L, hatL, bL⟩
            have HG := Lib.hid (And.intro (HD.out.below bL) hatL)
            clear bL hatL hcL h0L
            refine hK.out _ _ HG.out.1.ref.c0 (fun hS1 => ?_)
            clear hK K hS0 HD
            refine wpAnyH_ready (rs := [9]) (by kernel_rfl) (by simp) ?_
            refine AllReadyH.cons rfl (fun K hK => ?_) AllReadyH.nil
            go_simp
            refine (same_self ns AL UA cL ucap _ (by have := HNL.out; omega) HG.out.2 (by obtain ⟨A', c', e, _, _, h⟩ := HG.out.1.ref.at; injection e with e1 _ _; rw [e1]; exact h)).mono ?_
            rintro e wS ⟨rfl, rS, rfl⟩
            have HH := Lib.hid (HG.out.1.below ⟨rfl, rfl, rfl, Nat.le_refl _, fun _ _ => rfl⟩ : Du W (wL.drewN rS) N R _ (.slice UA ns.length ucap) ns ns)
            generalize wL.drewN rS = wS at *
            clear HG hS1
            refine hK.out _ _ HH.out.ref.c0 (fun hS2 => ?_)
            clear hK K
            refine wpAnyH_take (i := 10) (v := ?_) rfl (by kernel_rfl) (by kernel_rfl) (by kernel_rfl) (fun _ _ _ h => h) (Or.inl ⟨by kernel_rfl, ?_⟩) (by assumption) ?_
            rotate_left
            · intro w hSw; (try dsimp only at hSw); go_simp; (try with_reducible rfl)
            refine wpAnyH_take (i := 11) (v := ?_) rfl (by kernel_rfl) (by kernel_rfl) (by kernel_rfl) (fun _ _ _ h => h) (Or.inl ⟨by kernel_rfl, ?_⟩) (by assumption) ?_
            rotate_left
            · intro w hSw; (try dsimp only at hSw); go_simp; (try with_reducible rfl)
            refine wpAnyH_take (i := 12) (v := ?_) rfl (by kernel_rfl) (by kernel_rfl) (by kernel_rfl) (fun _ _ _ h => h) (Or.inl ⟨by kernel_rfl, ?_⟩) (by assumption) ?_
            rotate_left
            · intro w hSw; (try dsimp only at hSw); go_simp; (try with_reducible rfl)
            refine wpAnyH_take (i := 13) (v := ?_) rfl (by kernel_rfl) (by kernel_rfl) (by kernel_rfl) (fun _ _ _ h => h) (Or.inl ⟨by kernel_rfl, ?_⟩) (by assumption) ?_
            rotate_left
            · intro w hSw; (try dsimp only at hSw); go_simp; (try with_reducible rfl)
            refine wpAnyH_take (i := 15) (v := ?_) rfl (by kernel_rfl) (by kernel_rfl) (by kernel_rfl) (fun _ _ _ h => h) (Or.inl ⟨by kernel_rfl, ?_⟩) (by assumption) ?_
            rotate_left
            · intro w hSw; (try dsimp only at hSw); go_simp; (try with_reducible rfl)
            refine wpAnyH_take (i := 16) (v := ?_) rfl (by kernel_rfl) (by kernel_rfl) (by kernel_rfl) (fun _ _ _ h => h) (Or.inl ⟨by kernel_rfl, ?_⟩) (by assumption) ?_
            rotate_left
            · intro w hSw; (try dsimp only at hSw); go_simp; (try with_reducible rfl)
            refine wpAnyH_take (i := 17) (v := ?_) rfl (by kernel_rfl) (by kernel_rfl) (by kernel_rfl) (fun _ _ _ h => h) (Or.inl ⟨by kernel_rfl, ?_⟩) (by assumption) ?_
            rotate_left
            · intro w hSw; (try dsimp only at hSw); go_simp; (try with_reducible rfl)
            refine wpAnyH_take (i := 18) (v := ?_) rfl (by kernel_rfl) (by kernel_rfl) (by kernel_rfl) (fun _ _ _ h => h) (Or.inl ⟨by kernel_rfl, ?_⟩) (by assumption) ?_
            rotate_left
            · intro w hSw; (try dsimp only at hSw); go_simp; (try with_reducible rfl)
            refine wpAnyH_take (i := 19) (v := ?_) rfl (by kernel_rfl) (by kernel_rfl) (by kernel_rfl) (fun _ _ _ h => h) (Or.inl ⟨by kernel_rfl, ?_⟩) (by assumption) ?_
            rotate_left
            · intro w hSw; (try dsimp only at hSw); go_simp; (try with_reducible rfl)
            refine wpAnyH_ready (rs := [14]) (by kernel_rfl) (by simp) ?_
            refine AllReadyH.cons rfl (fun K hK => ?_) AllReadyH.nil
            go_simp
            refine (nt_len N N _ ns _ HH.out.net.s).mono ?_
            rintro e wT ⟨rfl, rfl⟩
            refine hK.out _ _ hS2 (fun hS3 => ?_)
            clear hK K hS2
            refine wpAnyH_take (i := 20) (v := ?_) rfl (by kernel_rfl) (by kernel_rfl) (by kernel_rfl) (fun _ _ _ h => h) (Or.inl ⟨by kernel_rfl, ?_⟩) (by assumption) ?_
            rotate_left
            · intro w hSw; (try dsimp only at hSw); go_simp; (try with_reducible rfl)
            refine wpAnyH_take (i := 21) (v := ?_) rfl (by kernel_rfl) (by kernel_rfl) (by kernel_rfl) (fun _ _ _ h => h) (Or.inl ⟨by kernel_rfl, ?_⟩) (by assumption) ?_
            rotate_left
            · intro w hSw; (try dsimp only at hSw); go_simp; (try with_reducible rfl)
            refine wpAnyH_done (by kernel_rfl) ?_ _
            clear hS3
            go_wp2
            go_roundw
            case rel => exact ⟨j + 1, _, _, ns, by have := HLT.out; omega, by go_num, HH.out, HNL.out⟩
            case measure => simp [intOf]; have := HLT.out; omega
          · by_cases hk2 : a.kind = 2
            · rw [hk2] at c0
              go_wp2_with fail
              obtain ⟨wb, hwb⟩ : ∃ z, z = wr.alloc (.cells #[.int .i64 2, .int .i64 a.k, .int .i64 a.to, .slice a.la a.l.length a.lcap] 32) := ⟨_, rfl⟩
              rw [← hwb]
              have hbw : Below wr.heap.size wr wb := by rw [hwb]; exact Kq.below_alloc _ _
              have hbx : wb.heap[wr.heap.size]? = some (.cells #[.int .i64 2, .int .i64 a.k, .int .i64 a.to, .slice a.la a.l.length a.lcap] 32 (0, 0)) := by rw [hwb]; exact Kq.blk_new _ _ _ _
              have hno : ∀ x, OwnN N v x → x < wr.heap.size := fun x hx => by
                rcases hx with rfl | e
                · exact Kq.blk_lt HC.out.1.net.s.blk
                · exact (HC.out.1.net.s.own.lt x e).2
              have hnR : R < wr.heap.size := Kq.blk_lt HC.out.1.ref.blk
              have HB := Lib.hid (HC.out.1.below hbw)
              have HLN := Lib.hid HC.out.2
              have HBX := Lib.hid (And.intro hbx (And.intro hno hnR))
              generalize wr.heap.size = Bx at *
              clear hbw hbx hno hwb hnR c0 c1 c2 c3 HC

              have HD := Lib.hid (HB.out.below (Below.refl _ _).drew)
              have hbd : wb.drew.heap[Bx]? = _ := HBX.out.1
              refine wp_region_held_drew (S := fun w' => w'.cell? ⟨Bx, 1, none⟩ = some (.int .i64 a.k)) (by kernel_rfl) (Kq.blk_cell hbd 1) (fun hS0 => ?_)
              generalize wb.drew = wd at *
              have HBD := Lib.hid hbd
              clear hbd HB
              refine wpAnyH_take (i := 0) (v := ?_) rfl (by kernel_rfl) (by kernel_rfl) (by kernel_rfl) (fun _ _ _ h => h) (Or.inl ⟨by kernel_rfl, ?_⟩) (by assumption) ?_
              rotate_left
              · intro w hSw; (try dsimp only at hSw); go_simp; (try with_reducible rfl)
              refine wpAnyH_take (i := 1) (v := ?_) rfl (by kernel_rfl) (by kernel_rfl) (by kernel_rfl) (fun _ _ _ h => h) (Or.inl ⟨by kernel_rfl, ?_⟩) (by assumption) ?_
              rotate_left
              · intro w hSw; (try dsimp only at hSw); go_simp; (try with_reducible rfl)
              refine wpAnyH_take (i := 2) (v := ?_) rfl (by kernel_rfl) (by kernel_rfl) (by kernel_rfl) (fun _ _ _ h => h) (Or.inl ⟨by kernel_rfl, ?_⟩) (by assumption) ?_
              rotate_left
              · intro w hSw; (try dsimp only at hSw); go_simp; (try with_reducible rfl)
              refine wpAnyH_take (i := 4) (v := ?_) rfl (by kernel_rfl) (by kernel_rfl) (by kernel_rfl) (fun _ _ _ h => h) (Or.inl ⟨by kernel_rfl, ?_⟩) (by assumption) ?_
              rotate_left
              · intro w hSw; (try dsimp only at hSw); go_simp; (try with_reducible rfl)
              refine wpAnyH_take (i := 5) (v := ?_) rfl (by kernel_rfl) (by kernel_rfl) (by kernel_rfl) (fun _ _ _ h => h) (Or.inl ⟨by kernel_rfl, ?_⟩) (by assumption) ?_
              rotate_left
              · intro w hSw; (try dsimp only at hSw); go_simp; (try with_reducible rfl)
              refine wpAnyH_take (i := 6) (v := ?_) rfl (by kernel_rfl) (by kernel_rfl) (by kernel_rfl) (fun _ _ _ h => h) (Or.inl ⟨by kernel_rfl, ?_⟩) (by assumption) ?_
              rotate_left
              · intro w hSw; (try dsimp only at hSw); go_simp; (try with_reducible rfl)
              refine wpAnyH_ready (rs := [3]) (by kernel_rfl) (by simp) ?_
              refine AllReadyH.cons rfl (fun K hK => ?_) AllReadyH.nil
              go_simp
              have hopN := nt_twice N N v ms a.k _ HD.out.net.s HLN.out
              have hl9 : (twF a.k ms).1.length ≤ 256 := twF_len HLN.out
              obtain ⟨T, hT⟩ : ∃ T, T = twF a.k ms := ⟨_, rfl⟩
              rw [← hT] at hopN hl9
              obtain ⟨ns, cc⟩ := T
              have HT := Lib.hid hT
              have HL9 := Lib.hid hl9
              clear hT hl9
              refine hopN.mono ?_
              clear hopN
              rintro e w4 ⟨rfl, hp4⟩
              have hk4 : Kq.Keeps (OwnN N v) wd w4 := by obtain ⟨_, _, h, _⟩ := hp4; exact h
              have hb4 := hk4.blk HBD.out (fun e => absurd (HBX.out.2.1 _ e) (Nat.lt_irrefl _))
              obtain ⟨v4, hc4⟩ := HD.out.stepN hp4
              have H4 := Lib.hid hc4
              have HB4 := Lib.hid hb4
              clear hp4 hk4 hc4 HD HBD
              refine hK.out _ _ (Kq.blk_cell hb4 1) (fun hS1 => ?_)
              clear hK K hS0 hb4
              refine wpAnyH_ready (rs := [7]) (by kernel_rfl) (by simp) ?_
              refine AllReadyH.cons rfl (fun K hK => ?_) AllReadyH.nil
              go_simp
              have hopR := rt_twice R R u ms a.k _ H4.out.ref HLN.out
              rw [← HT.out] at hopR
              refine hopR.mono ?_
              clear hopR
              rintro e w5 ⟨rfl, hp5⟩
              have hk5 : Kq.Keeps (· = R) w4 w5 := by obtain ⟨_, _, h, _⟩ := hp5; exact h
              have hb5 := hk5.blk HB4.out (fun e => by have := HBX.out.2.2; omega)
              obtain ⟨u5, hc5⟩ := H4.out.stepR hp5
              have HE := Lib.hid hc5
              have HNL : Hid (ns.length ≤ 256) := Lib.hid (HL9.out)
              clear hp5 hk5 hc5 H4
              refine hK.out _ _ (Kq.blk_cell hb5 1) (fun hS2 => ?_)
              clear hK K hS1 hb5
              refine wpAnyH_take (i := 8) (v := ?_) rfl (by kernel_rfl) (by kernel_rfl) (by kernel_rfl) (fun _ _ _ h => h) (Or.inl ⟨by kernel_rfl, ?_⟩) (by assumption) ?_
              rotate_left
              · intro w hSw; (try dsimp only at hSw); go_simp; (try with_reducible rfl)
              refine wpAnyH_take (i := 9) (v := ?_) rfl (by kernel_rfl) (by kernel_rfl) (by kernel_rfl) (fun _ _ _ h => h) (Or.inl ⟨by kernel_rfl, ?_⟩) (by assumption) ?_
              rotate_left
              · intro w hSw; (try dsimp only at hSw); go_simp; (try with_reducible rfl)
              refine wpAnyH_done (by kernel_rfl) ?_ _
              clear hS2 HBX HB4

              go_wp2
              have HD := Lib.hid (HE.out.below (Below.refl _ _).drew)
              obtain ⟨UA, ucap, hu, hUc, hU0, -⟩ := HE.out.ref.at
              subst hu
              have hS := HD.out.ref.c0
              refine wp_region_held_drew (S := fun w' => w'.cell? ⟨R, 0, none⟩ = some (.slice UA ns.length ucap)) (by kernel_rfl) hS (fun hS0 => ?_)
              generalize hwd : World.drew _ = wd at *
              clear hwd hS HE hUc hU0
              refine wpAnyH_take (i := 0) (v := ?_) rfl (by kernel_rfl) (by kernel_rfl) (by kernel_rfl) (fun _ _ _ h => h) (Or.inl ⟨by kernel_rfl, ?_⟩) (by assumption) ?_
              rotate_left
              · intro w hSw; (try dsimp only at hSw); go_simp; (try with_reducible rfl)
              refine wpAnyH_take (i := 1) (v := ?_) rfl (by kernel_rfl) (by kernel_rfl) (by kernel_rfl) (fun _ _ _ h => h) (Or.inl ⟨by kernel_rfl, ?_⟩) (by assumption) ?_
              rotate_left
              · intro w hSw; (try dsimp only at hSw); go_simp; (try with_reducible rfl)
              refine wpAnyH_take (i := 2) (v := ?_) rfl (by kernel_rfl) (by kernel_rfl) (by kernel_rfl) (fun _ _ _ h => h) (Or.inl ⟨by kernel_rfl, ?_⟩) (by assumption) ?_
              rotate_left
              · intro w hSw; (try dsimp only at hSw); go_simp; (try with_reducible rfl)
              refine wpAnyH_take (i := 3) (v := ?_) rfl (by kernel_rfl) (by kernel_rfl) (by kernel_rfl) (fun _ _ _ h => h) (Or.inl ⟨by kernel_rfl, ?_⟩) (by assumption) ?_
              rotate_left
              · intro w hSw; (try dsimp only at hSw); go_simp; (try with_reducible rfl)
              refine wpAnyH_take (i := 5) (v := ?_) rfl (by kernel_rfl) (by kernel_rfl) (by kernel_rfl) (fun _ _ _ h => h) (Or.inl ⟨by kernel_rfl, ?_⟩) (by assumption) ?_
              rotate_left
              · intro w hSw; (try dsimp only at hSw); go_simp; (try with_reducible rfl)
              refine wpAnyH_take (i := 6) (v := ?_) rfl (by kernel_rfl) (by kernel_rfl) (by kernel_rfl) (fun _ _ _ h => h) (Or.inl ⟨by kernel_rfl, ?_⟩) (by assumption) ?_
              rotate_left
              · intro w hSw; (try dsimp only at hSw); go_simp; (try with_reducible rfl)
              refine wpAnyH_take (i := 7) (v := ?_) rfl (by kernel_rfl) (by kernel_rfl) (by kernel_rfl) (fun _ _ _ h => h) (Or.inl ⟨by kernel_rfl, ?_⟩) (by assumption) ?_
              rotate_left
              · intro w hSw; (try dsimp only at hSw); go_simp; (try with_reducible rfl)
              refine wpAnyH_take (i := 8) (v := ?_) rfl (by kernel_rfl) (by kernel_rfl) (by kernel_rfl) (fun _ _ _ h => h) (Or.inl ⟨by kernel_rfl, ?_⟩) (by assumption) ?_
              rotate_left
              · intro w hSw; (try dsimp only at hSw); go_simp; (try with_reducible rfl)
              refine wpAnyH_ready (rs := [4]) (by kernel_rfl) (by simp) ?_
              refine AllReadyH.cons rfl (fun K hK => ?_) AllReadyH.nil
              go_simp
              refine (netMoves.nt_listed N N _ ns _ HD.out.net.s (by have := HNL.out; omega)).mono ?_
              rintro e wL ⟨AL, cL, rfl, hcL, h0L, hatL, bL⟩
              have HG := Lib.hid (And.intro (HD.out.below bL) hatL)
              clear bL hatL hcL h0L
              refine hK.out _ _ HG.out.1.ref.c0 (fun hS1 => ?_)
              clear hK K hS0 HD
              refine wpAnyH_ready (rs := [9]) (by kernel_rfl) (by simp) ?_
              refine AllReadyH.cons rfl (fun K hK => ?_) AllReadyH.nil
              go_simp
              refine (same_self ns AL UA cL ucap _ (by have := HNL.out; omega) HG.out.2 (by obtain ⟨A', c', e, _, _, h⟩ := HG.out.1.ref.at; injection e with e1 _ _; rw [e1]; exact h)).mono ?_
              rintro e wS ⟨rfl, rS, rfl⟩
              have HH := Lib.hid (HG.out.1.below ⟨rfl, rfl, rfl, Nat.le_refl _, fun _ _ => rfl⟩ : Du W (wL.drewN rS) N R _ (.slice UA ns.length ucap) ns ns)
              generalize wL.drewN rS = wS at *
              clear HG hS1
              refine hK.out _ _ HH.out.ref.c0 (fun hS2 => ?_)
              clear hK K
              refine wpAnyH_take (i := 10) (v := ?_) rfl (by kernel_rfl) (by kernel_rfl) (by kernel_rfl) (fun _ _ _ h => h) (Or.inl ⟨by kernel_rfl, ?_⟩) (by assumption) ?_
              rotate_left
              · intro w hSw; (try dsimp only at hSw); go_simp; (try with_reducible rfl)
              refine wpAnyH_take (i := 11) (v := ?_) rfl (by kernel_rfl) (by kernel_rfl) (by kernel_rfl) (fun _ _ _ h => h) (Or.inl ⟨by kernel_rfl, ?_⟩) (by assumption) ?_
              rotate_left
              · intro w hSw; (try dsimp only at hSw); go_simp; (try with_reducible rfl)
              refine wpAnyH_take (i := 12) (v := ?_) rfl (by kernel_rfl) (by kernel_rfl) (by kernel_rfl) (fun _ _ _ h => h) (Or.inl ⟨by kernel_rfl, ?_⟩) (by assumption) ?_
              rotate_left
              · intro w hSw; (try dsimp only at hSw); go_simp; (try with_reducible rfl)
              refine wpAnyH_take (i := 13) (v := ?_) rfl (by kernel_rfl) (by kernel_rfl) (by kernel_rfl) (fun _ _ _ h => h) (Or.inl ⟨by kernel_rfl, ?_⟩) (by assumption) ?_
              rotate_left
              · intro w hSw; (try dsimp only at hSw); go_simp; (try with_reducible rfl)
              refine wpAnyH_take (i := 15) (v := ?_) rfl (by kernel_rfl) (by kernel_rfl) (by kernel_rfl) (fun _ _ _ h => h) (Or.inl ⟨by kernel_rfl, ?_⟩) (by assumption) ?_
              rotate_left
              · intro w hSw; (try dsimp only at hSw); go_simp; (try with_reducible rfl)
              refine wpAnyH_take (i := 16) (v := ?_) rfl (by kernel_rfl) (by kernel_rfl) (by kernel_rfl) (fun _ _ _ h => h) (Or.inl ⟨by kernel_rfl, ?_⟩) (by assumption) ?_
              rotate_left
              · intro w hSw; (try dsimp only at hSw); go_simp; (try with_reducible rfl)
              refine wpAnyH_take (i := 17) (v := ?_) rfl (by kernel_rfl) (by kernel_rfl) (by kernel_rfl) (fun _ _ _ h => h) (Or.inl ⟨by kernel_rfl, ?_⟩) (by assumption) ?_
              rotate_left
              · intro w hSw; (try dsimp only at hSw); go_simp; (try with_reducible rfl)
              refine wpAnyH_take (i := 18) (v := ?_) rfl (by kernel_rfl) (by kernel_rfl) (by kernel_rfl) (fun _ _ _ h => h) (Or.inl ⟨by kernel_rfl, ?_⟩) (by assumption) ?_
              rotate_left
              · intro w hSw; (try dsimp only at hSw); go_simp; (try with_reducible rfl)
              refine wpAnyH_take (i := 19) (v := ?_) rfl (by kernel_rfl) (by kernel_rfl) (by kernel_rfl) (fun _ _ _ h => h) (Or.inl ⟨by kernel_rfl, ?_⟩) (by assumption) ?_
              rotate_left
              · intro w hSw; (try dsimp only at hSw); go_simp; (try with_reducible rfl)
              refine wpAnyH_ready (rs := [14]) (by kernel_rfl) (by simp) ?_
              refine AllReadyH.cons rfl (fun K hK => ?_) AllReadyH.nil
              go_simp
              refine (nt_len N N _ ns _ HH.out.net.s).mono ?_
              rintro e wT ⟨rfl, rfl⟩
              refine hK.out _ _ hS2 (fun hS3 => ?_)
              clear hK K hS2
              refine wpAnyH_take (i := 20) (v := ?_) rfl (by kernel_rfl) (by kernel_rfl) (by kernel_rfl) (fun _ _ _ h => h) (Or.inl ⟨by kernel_rfl, ?_⟩) (by assumption) ?_
              rotate_left
              · intro w hSw; (try dsimp only at hSw); go_simp; (try with_reducible rfl)
              refine wpAnyH_take (i := 21) (v := ?_) rfl (by kernel_rfl) (by kernel_rfl) (by kernel_rfl) (fun _ _ _ h => h) (Or.inl ⟨by kernel_rfl, ?_⟩) (by assumption) ?_
              rotate_left
              · intro w hSw; (try dsimp only at hSw); go_simp; (try with_reducible rfl)
              refine wpAnyH_done (by kernel_rfl) ?_ _
              clear hS3
              go_wp2
              go_roundw
              case rel => exact ⟨j + 1, _, _, ns, by have := HLT.out; omega, by go_num, HH.out, HNL.out⟩
              case measure => simp [intOf]; have := HLT.out; omega
            · have q0 : decide (a.kind = 0) = false := decide_eq_false hk0
              have q1 : decide (a.kind = 1) = false := decide_eq_false hk1
              have q2 : decide (a.kind = 2) = false := decide_eq_false hk2
              go_wp2_with fail
              obtain ⟨wb, hwb⟩ : ∃ z, z = wr.alloc (.cells #[.int .i64 a.kind, .int .i64 a.k, .int .i64 a.to, .slice a.la a.l.length a.lcap] 32) := ⟨_, rfl⟩
              rw [← hwb]
              have hbw : Below wr.heap.size wr wb := by rw [hwb]; exact Kq.below_alloc _ _
              have hbx : wb.heap[wr.heap.size]? = some (.cells #[.int .i64 a.kind, .int .i64 a.k, .int .i64 a.to, .slice a.la a.l.length a.lcap] 32 (0, 0)) := by rw [hwb]; exact Kq.blk_new _ _ _ _
              have hno : ∀ x, OwnN N v x → x < wr.heap.size := fun x hx => by
                rcases hx with rfl | e
                · exact Kq.blk_lt HC.out.1.net.s.blk
                · exact (HC.out.1.net.s.own.lt x e).2
              have hnR : R < wr.heap.size := Kq.blk_lt HC.out.1.ref.blk
              have HB := Lib.hid (HC.out.1.below hbw)
              have HLN := Lib.hid HC.out.2
              have HBX := Lib.hid (And.intro hbx (And.intro hno hnR))
              generalize wr.heap.size = Bx at *
              clear hbw hbx hno hwb hnR c0 c1 c2 c3 HC

              have HD := Lib.hid (HB.out.below (Below.refl _ _).drew)
              have hbd : wb.drew.heap[Bx]? = _ := HBX.out.1
              refine wp_region_held_drew (S := fun w' => w'.cell? ⟨Bx, 1, none⟩ = some (.int .i64 a.k) ∧ w'.cell? ⟨Bx, 2, none⟩ = some (.int .i64 a.to)) (by kernel_rfl) ⟨Kq.blk_cell hbd 1, Kq.blk_cell hbd 2⟩ (fun hS0 => ?_)
              generalize wb.drew = wd at *
              have HBD := Lib.hid hbd
              clear hbd HB
              refine wpAnyH_take (i := 0) (v := ?_) rfl (by kernel_rfl) (by kernel_rfl) (by kernel_rfl) (fun _ _ _ h => h) (Or.inl ⟨by kernel_rfl, ?_⟩) (by assumption) ?_
              rotate_left
              · intro w hSw; (try dsimp only at hSw); go_simp; (try with_reducible rfl)
              refine wpAnyH_take (i := 1) (v := ?_) rfl (by kernel_rfl) (by kernel_rfl) (by kernel_rfl) (fun _ _ _ h => h) (Or.inl ⟨by kernel_rfl, ?_⟩) (by assumption) ?_
              rotate_left
              · intro w hSw; (try dsimp only at hSw); go_simp; (try with_reducible rfl)
              refine wpAnyH_take (i := 2) (v := ?_) rfl (by kernel_rfl) (by kernel_rfl) (by kernel_rfl) (fun _ _ _ h => h) (Or.inl ⟨by kernel_rfl, ?_⟩) (by assumption) ?_
              rotate_left
              · intro w hSw; (try dsimp only at hSw); go_simp; (try with_reducible rfl)
              refine wpAnyH_take (i := 3) (v := ?_) rfl (by kernel_rfl) (by kernel_rfl) (by kernel_rfl) (fun _ _ _ h => h) (Or.inl ⟨by kernel_rfl, ?_⟩) (by assumption) ?_
              rotate_left
              · intro w hSw; (try dsimp only at hSw); go_simp; (try with_reducible rfl)
              refine wpAnyH_take (i := 4) (v := ?_) rfl (by kernel_rfl) (by kernel_rfl) (by kernel_rfl) (fun _ _ _ h => h) (Or.inl ⟨by kernel_rfl, ?_⟩) (by assumption) ?_
              rotate_left
              · intro w hSw; (try dsimp only at hSw); go_simp; (try with_reducible rfl)
              refine wpAnyH_take (i := 6) (v := ?_) rfl (by kernel_rfl) (by kernel_rfl) (by kernel_rfl) (fun _ _ _ h => h) (Or.inl ⟨by kernel_rfl, ?_⟩) (by assumption) ?_
              rotate_left
              · intro w hSw; (try dsimp only at hSw); go_simp; (try with_reducible rfl)
              refine wpAnyH_take (i := 7) (v := ?_) rfl (by kernel_rfl) (by kernel_rfl) (by kernel_rfl) (fun _ _ _ h => h) (Or.inl ⟨by kernel_rfl, ?_⟩) (by assumption) ?_
              rotate_left
              · intro w hSw; (try dsimp only at hSw); go_simp; (try with_reducible rfl)
              refine wpAnyH_take (i := 8) (v := ?_) rfl (by kernel_rfl) (by kernel_rfl) (by kernel_rfl) (fun _ _ _ h => h) (Or.inl ⟨by kernel_rfl, ?_⟩) (by assumption) ?_
              rotate_left
              · intro w hSw; (try dsimp only at hSw); go_simp; (try with_reducible rfl)
              refine wpAnyH_take (i := 9) (v := ?_) rfl (by kernel_rfl) (by kernel_rfl) (by kernel_rfl) (fun _ _ _ h => h) (Or.inl ⟨by kernel_rfl, ?_⟩) (by assumption) ?_
              rotate_left
              · intro w hSw; (try dsimp only at hSw); go_simp; (try with_reducible rfl)
              refine wpAnyH_take (i := 10) (v := ?_) rfl (by kernel_rfl) (by kernel_rfl) (by kernel_rfl) (fun _ _ _ h => h) (Or.inl ⟨by kernel_rfl, ?_⟩) (by assumption) ?_
              rotate_left
              · intro w hSw; (try dsimp only at hSw); go_simp; (try with_reducible rfl)
              refine wpAnyH_ready (rs := [5]) (by kernel_rfl) (by simp) ?_
              refine AllReadyH.cons rfl (fun K hK => ?_) AllReadyH.nil
              go_simp
              have hopN := nt_move N N v ms a.k a.to _ HD.out.net.s HLN.out
              have hl9 : (moveF a.k a.to ms).1.length ≤ 256 := moveF_len HLN.out
              obtain ⟨T, hT⟩ : ∃ T, T = moveF a.k a.to ms := ⟨_, rfl⟩
              rw [← hT] at hopN hl9
              obtain ⟨ns, cc⟩ := T
              have HT := Lib.hid hT
              have HL9 := Lib.hid hl9
              clear hT hl9
              refine hopN.mono ?_
              clear hopN
              rintro e w4 ⟨rfl, hp4⟩
              have hk4 : Kq.Keeps (OwnN N v) wd w4 := by obtain ⟨_, _, h, _⟩ := hp4; exact h
              have hb4 := hk4.blk HBD.out (fun e => absurd (HBX.out.2.1 _ e) (Nat.lt_irrefl _))
              obtain ⟨v4, hc4⟩ := HD.out.stepN hp4
              have H4 := Lib.hid hc4
              have HB4 := Lib.hid hb4
              clear hp4 hk4 hc4 HD HBD
              refine hK.out _ _ ⟨Kq.blk_cell hb4 1, Kq.blk_cell hb4 2⟩ (fun hS1 => ?_)
              clear hK K hS0 hb4
              refine wpAnyH_ready (rs := [11]) (by kernel_rfl) (by simp) ?_
              refine AllReadyH.cons rfl (fun K hK => ?_) AllReadyH.nil
              go_simp
              have hopR := rt_move R R u ms a.k a.to _ H4.out.ref HLN.out
              rw [← HT.out] at hopR
              refine hopR.mono ?_
              clear hopR
              rintro e w5 ⟨rfl, hp5⟩
              have hk5 : Kq.Keeps (· = R) w4 w5 := by obtain ⟨_, _, h, _⟩ := hp5; exact h
              have hb5 := hk5.blk HB4.out (fun e => by have := HBX.out.2.2; omega)
              obtain ⟨u5, hc5⟩ := H4.out.stepR hp5
              have HE := Lib.hid hc5
              have HNL : Hid (ns.length ≤ 256) := Lib.hid (HL9.out)
              clear hp5 hk5 hc5 H4
              refine hK.out _ _ ⟨Kq.blk_cell hb5 1, Kq.blk_cell hb5 2⟩ (fun hS2 => ?_)
              clear hK K hS1 hb5
              refine wpAnyH_take (i := 12) (v := ?_) rfl (by kernel_rfl) (by kernel_rfl) (by kernel_rfl) (fun _ _ _ h => h) (Or.inl ⟨by kernel_rfl, ?_⟩) (by assumption) ?_
              rotate_left
              · intro w hSw; (try dsimp only at hSw); go_simp; (try with_reducible rfl)
              refine wpAnyH_take (i := 13) (v := ?_) rfl (by kernel_rfl) (by kernel_rfl) (by kernel_rfl) (fun _ _ _ h => h) (Or.inl ⟨by kernel_rfl, ?_⟩) (by assumption) ?_
              rotate_left
              · intro w hSw; (try dsimp only at hSw); go_simp; (try with_reducible rfl)
              refine wpAnyH_done (by kernel_rfl) ?_ _
              clear hS2 HBX HB4

              go_wp2
              have HD := Lib.hid (HE.out.below (Below.refl _ _).drew)
              obtain ⟨UA, ucap, hu, hUc, hU0, -⟩ := HE.out.ref.at
              subst hu
              have hS := HD.out.ref.c0
              refine wp_region_held_drew (S := fun w' => w'.cell? ⟨R, 0, none⟩ = some (.slice UA ns.length ucap)) (by kernel_rfl) hS (fun hS0 => ?_)
              generalize hwd : World.drew _ = wd at *
              clear hwd hS HE hUc hU0
              refine wpAnyH_take (i := 0) (v := ?_) rfl (by kernel_rfl) (by kernel_rfl) (by kernel_rfl) (fun _ _ _ h => h) (Or.inl ⟨by kernel_rfl, ?_⟩) (by assumption) ?_
              rotate_left
              · intro w hSw; (try dsimp only at hSw); go_simp; (try with_reducible rfl)
              refine wpAnyH_take (i := 1) (v := ?_) rfl (by kernel_rfl) (by kernel_rfl) (by kernel_rfl) (fun _ _ _ h => h) (Or.inl ⟨by kernel_rfl, ?_⟩) (by assumption) ?_
              rotate_left
              · intro w hSw; (try dsimp only at hSw); go_simp; (try with_reducible rfl)
              refine wpAnyH_take (i := 2) (v := ?_) rfl (by kernel_rfl) (by kernel_rfl) (by kernel_rfl) (fun _ _ _ h => h) (Or.inl ⟨by kernel_rfl, ?_⟩) (by assumption) ?_
              rotate_left
              · intro w hSw; (try dsimp only at hSw); go_simp; (try with_reducible rfl)
              refine wpAnyH_take (i := 3) (v := ?_) rfl (by kernel_rfl) (by kernel_rfl) (by kernel_rfl) (fun _ _ _ h => h) (Or.inl ⟨by kernel_rfl, ?_⟩) (by assumption) ?_
              rotate_left
              · intro w hSw; (try dsimp only at hSw); go_simp; (try with_reducible rfl)
              refine wpAnyH_take (i := 5) (v := ?_) rfl (by kernel_rfl) (by kernel_rfl) (by kernel_rfl) (fun _ _ _ h => h) (Or.inl ⟨by kernel_rfl, ?_⟩) (by assumption) ?_
              rotate_left
              · intro w hSw; (try dsimp only at hSw); go_simp; (try with_reducible rfl)
              refine wpAnyH_take (i := 6) (v := ?_) rfl (by kernel_rfl) (by kernel_rfl) (by kernel_rfl) (fun _ _ _ h => h) (Or.inl ⟨by kernel_rfl, ?_⟩) (by assumption) ?_
              rotate_left
              · intro w hSw; (try dsimp only at hSw); go_simp; (try with_reducible rfl)
              refine wpAnyH_take (i := 7) (v := ?_) rfl (by kernel_rfl) (by kernel_rfl) (by kernel_rfl) (fun _ _ _ h => h) (Or.inl ⟨by kernel_rfl, ?_⟩) (by assumption) ?_
              rotate_left
              · intro w hSw; (try dsimp only at hSw); go_simp; (try with_reducible rfl)
              refine wpAnyH_take (i := 8) (v := ?_) rfl (by kernel_rfl) (by kernel_rfl) (by kernel_rfl) (fun _ _ _ h => h) (Or.inl ⟨by kernel_rfl, ?_⟩) (by assumption) ?_
              rotate_left
              · intro w hSw; (try dsimp only at hSw); go_simp; (try with_reducible rfl)
              refine wpAnyH_ready (rs := [4]) (by kernel_rfl) (by simp) ?_
              refine AllReadyH.cons rfl (fun K hK => ?_) AllReadyH.nil
              go_simp
              refine (netMoves.nt_listed N N _ ns _ HD.out.net.s (by have := HNL.out; omega)).mono ?_
              rintro e wL ⟨AL, cL, rfl, hcL, h0L, hatL, bL⟩
              have HG := Lib.hid (And.intro (HD.out.below bL) hatL)
              clear bL hatL hcL h0L
              refine hK.out _ _ HG.out.1.ref.c0 (fun hS1 => ?_)
              clear hK K hS0 HD
              refine wpAnyH_ready (rs := [9]) (by kernel_rfl) (by simp) ?_
              refine AllReadyH.cons rfl (fun K hK => ?_) AllReadyH.nil
              go_simp
              refine (same_self ns AL UA cL ucap _ (by have := HNL.out; omega) HG.out.2 (by obtain ⟨A', c', e, _, _, h⟩ := HG.out.1.ref.at; injection e with e1 _ _; rw [e1]; exact h)).mono ?_
              rintro e wS ⟨rfl, rS, rfl⟩
              have HH := Lib.hid (HG.out.1.below ⟨rfl, rfl, rfl, Nat.le_refl _, fun _ _ => rfl⟩ : Du W (wL.drewN rS) N R _ (.slice UA ns.length ucap) ns ns)
              generalize wL.drewN rS = wS at *
              clear HG hS1
              refine hK.out _ _ HH.out.ref.c0 (fun hS2 => ?_)
              clear hK K
              refine wpAnyH_take (i := 10) (v := ?_) rfl (by kernel_rfl) (by kernel_rfl) (by kernel_rfl) (fun _ _ _ h => h) (Or.inl ⟨by kernel_rfl, ?_⟩) (by assumption) ?_
              rotate_left
              · intro w hSw; (try dsimp only at hSw); go_simp; (try with_reducible rfl)
              refine wpAnyH_take (i := 11) (v := ?_) rfl (by kernel_rfl) (by kernel_rfl) (by kernel_rfl) (fun _ _ _ h => h) (Or.inl ⟨by kernel_rfl, ?_⟩) (by assumption) ?_
              rotate_left
              · intro w hSw; (try dsimp only at hSw); go_simp; (try with_reducible rfl)
              refine wpAnyH_take (i := 12) (v := ?_) rfl (by kernel_rfl) (by kernel_rfl) (by kernel_rfl) (fun _ _ _ h => h) (Or.inl ⟨by kernel_rfl, ?_⟩) (by assumption) ?_
              rotate_left
              · intro w hSw; (try dsimp only at hSw); go_simp; (try with_reducible rfl)
              refine wpAnyH_take (i := 13) (v := ?_) rfl (by kernel_rfl) (by kernel_rfl) (by kernel_rfl) (fun _ _ _ h => h) (Or.inl ⟨by kernel_rfl, ?_⟩) (by assumption) ?_
              rotate_left
              · intro w hSw; (try dsimp only at hSw); go_simp; (try with_reducible rfl)
              refine wpAnyH_take (i := 15) (v := ?_) rfl (by kernel_rfl) (by kernel_rfl) (by kernel_rfl) (fun _ _ _ h => h) (Or.inl ⟨by kernel_rfl, ?_⟩) (by assumption) ?_
              rotate_left
              · intro w hSw; (try dsimp only at hSw); go_simp; (try with_reducible rfl)
              refine wpAnyH_take (i := 16) (v := ?_) rfl (by kernel_rfl) (by kernel_rfl) (by kernel_rfl) (fun _ _ _ h => h) (Or.inl ⟨by kernel_rfl, ?_⟩) (by assumption) ?_
              rotate_left
              · intro w hSw; (try dsimp only at hSw); go_simp; (try with_reducible rfl)
              refine wpAnyH_take (i := 17) (v := ?_) rfl (by kernel_rfl) (by kernel_rfl) (by kernel_rfl) (fun _ _ _ h => h) (Or.inl ⟨by kernel_rfl, ?_⟩) (by assumption) ?_
              rotate_left
              · intro w hSw; (try dsimp only at hSw); go_simp; (try with_reducible rfl)
              refine wpAnyH_take (i := 18) (v := ?_) rfl (by kernel_rfl) (by kernel_rfl) (by kernel_rfl) (fun _ _ _ h => h) (Or.inl ⟨by kernel_rfl, ?_⟩) (by assumption) ?_
              rotate_left
              · intro w hSw; (try dsimp only at hSw); go_simp; (try with_reducible rfl)
              refine wpAnyH_take (i := 19) (v := ?_) rfl (by kernel_rfl) (by kernel_rfl) (by kernel_rfl) (fun _ _ _ h => h) (Or.inl ⟨by kernel_rfl, ?_⟩) (by assumption) ?_
              rotate_left
              · intro w hSw; (try dsimp only at hSw); go_simp; (try with_reducible rfl)
              refine wpAnyH_ready (rs := [14]) (by kernel_rfl) (by simp) ?_
              refine AllReadyH.cons rfl (fun K hK => ?_) AllReadyH.nil
              go_simp
              refine (nt_len N N _ ns _ HH.out.net.s).mono ?_
              rintro e wT ⟨rfl, rfl⟩
              refine hK.out _ _ hS2 (fun hS3 => ?_)
              clear hK K hS2
              refine wpAnyH_take (i := 20) (v := ?_) rfl (by kernel_rfl) (by kernel_rfl) (by kernel_rfl) (fun _ _ _ h => h) (Or.inl ⟨by kernel_rfl, ?_⟩) (by assumption) ?_
              rotate_left
              · intro w hSw; (try dsimp only at hSw); go_simp; (try with_reducible rfl)
              refine wpAnyH_take (i := 21) (v := ?_) rfl (by kernel_rfl) (by kernel_rfl) (by kernel_rfl) (fun _ _ _ h => h) (Or.inl ⟨by kernel_rfl, ?_⟩) (by assumption) ?_
              rotate_left
              · intro w hSw; (try dsimp only at hSw); go_simp; (try with_reducible rfl)
              refine wpAnyH_done (by kernel_rfl) ?_ _
              clear hS3
              go_wp2
              go_roundw
              case rel => exact ⟨j + 1, _, _, ns, by have := HLT.out; omega, by go_num, HH.out, HNL.out⟩
              case measure => simp [intOf]; have := HLT.out; omega
      · have l1 : ¬ (j : Int) < (l.length : Int) := by omega
        go_wp2
        go_ret
        exact ⟨rfl, HC.out.1.net.bel⟩
end Go.Proofs.Ytahijpfmpdjceaa.netPlays
namespace Go.Proofs.Ytahijpfmpdjceaa
open Go.RowKit
theorem netPlays_walk (v : Value) {W : World} (h0 : ∃ A cap l, v = .slice A l.length cap ∧ l.length ≤ maxLen ∧ NActsAt W A l) :
    Calls Try.prog 3 #[v] W fun x w' => x = .returned (.bool true) ∧ Below W.heap.size W w' := by
  obtain ⟨A, cap, l, rfl, hl, ha⟩ := h0
  exact netPlays.few_ A cap l W hl ha
end Go.Proofs.Ytahijpfmpdjceaa
