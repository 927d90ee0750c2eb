/- carracklaw13.ChainStays walked. Condition: the constants lie where they lie. -/
import Derived.WalkSpells
import Derived.Outline
import Derived.ProofKit
import Derived.Test.YtbjchfcoacmaaaaGreatDoorCnStMQ
import Derived.Test.YtbjchfcoacmaaaaGreatDoorCnFewQ
import Derived.Test.YtbjchfcoacmaaaaGreatDoorCnOpenQ
import Derived.Deep.QuietTactic
import Derived.Deep.RegionHeld
import Derived.Test.YtbjchfcoacmaaaaGreatDoorChainMadeWalkQ
import Derived.Test.YtbjchfcoacmaaaaGreatDoorCnLogQ
import Derived.Test.YtbjchfcoacmaaaaGreatDoorCnPrvQ
import Derived.Test.YtbjchfcoacmaaaaGreatDoorStRPairsQ
namespace Go.Proofs.YtbjchfcoacmaaaaGreatDoor
open Go.RowKit
set_option linter.unusedVariables false
namespace chainStays
theorem newTw_mp (h0 h1 s0 s1 : Nat) : ∀ k, k < 2 → MpK (newTw h0 h1 s0 s1 k) := fun k hk => by
  obtain rfl | rfl : k = 0 ∨ k = 1 := by omega
  · exact MpK.new 0 h0 s0
  · exact MpK.new 1 h1 s1
theorem same_cell {w w' : World} {X k : Nat} {v v' : Value} (h : w'.heap[X]? = w.heap[X]?) (h1 : w.cell? ⟨X, k, none⟩ = some v) (h2 : w'.cell? ⟨X, k, none⟩ = some v') : v' = v := by
  have := World.cell?_of_block (a := ⟨X, k, none⟩) h
  rw [h1, h2] at this
  exact Option.some.inj this
theorem ps_fb {w w' : World} {V : Nat → Prop} {A : Option Addr} {l : List PairV} (h : PsAt w A l) (hb : Fb V w w') (hV : ∀ b off, A = some ⟨b, off, none⟩ → V b) : PsAt w' A l := fun j hj => by
  obtain ⟨b, off, e, h1, h2, h3⟩ := h j hj
  have hk : w'.heap[b]? = w.heap[b]? := hb.block b h1 (fun hn => hn (hV b off e))
  exact ⟨b, off, e, Nat.lt_of_lt_of_le h1 hb.size, (World.cell?_of_block hk).trans h2, (World.cell?_of_block hk).trans h3⟩
set_option maxRecDepth 100000 in
set_option maxHeartbeats 1000000 in
theorem early (h0 h1 s0 s1 : Nat) (A : Option Addr) (ca : Nat) (l : List CaV) (W : World) (hA : caE.Lo W W.heap.size A l) (hL : LaidOk W) (hno : ¬ FewC s0 s1 l) :
    Calls Tryz.prog 5 #[.agg #[.int .u64 (h0 : Int), .int .u64 (h1 : Int)], .agg #[.int .u64 (s0 : Int), .int .u64 (s1 : Int)], .slice A l.length ca] W fun x w' => x = .returned (.bool true) ∧ Below W.heap.size W w' := by
  have d0 : Hid (decide (FewC s0 s1 l) = false) := Lib.hid (decide_eq_false hno)
  clear hno
  obtain ⟨Y, hY⟩ : ∃ Y, Y = W.heap.size := ⟨_, rfl⟩
  obtain ⟨wb, hwb⟩ : ∃ z, z = (W.alloc (.cells #[.int .u64 (h0 : Int), .int .u64 (h1 : Int)] 40)).alloc (.cells #[.int .u64 (s0 : Int), .int .u64 (s1 : Int)] 40) := ⟨_, rfl⟩
  have H0 : Hid (ArrB wb Y (h0 : Int) (h1 : Int) (s0 : Int) (s1 : Int) ∧ Below W.heap.size W wb) := Lib.hid (by
    have := ArrB.new W (h0 : Int) (h1 : Int) (s0 : Int) (s1 : Int)
    rw [← hwb, ← hY] at this
    exact ⟨this.1, by rw [← hY]; exact this.2⟩)
  have HL := Lib.hid hL
  have HA := Lib.hid hA
  clear hL hA
  go_enter Tryz.func5, Tryz.ntmps5
  go_wp2_with fail
  rw [← hwb, ← hY]
  clear hwb hY
  refine (awake13 wb (HL.out.later H0.out.2)).mono ?_
  rintro x w1 ⟨rfl, b1⟩
  have H1 : Hid (ArrB w1 Y (h0 : Int) (h1 : Int) (s0 : Int) (s1 : Int) ∧ Below W.heap.size W w1) := Lib.hid ⟨H0.out.1.below b1, H0.out.2.trans (b1.mono H0.out.2.size)⟩
  clear b1 H0
  have y0 := Kq.blk_cell H1.out.1.2 0
  have y1 := Kq.blk_cell H1.out.1.2 1
  go_wp2_with fail
  refine (few13 s0 s1 l A ca w1 (HA.out.below H1.out.2).at).mono ?_
  rintro x w2 ⟨rfl, b2⟩
  have H2 : Hid (ArrB w2 Y (h0 : Int) (h1 : Int) (s0 : Int) (s1 : Int) ∧ Below W.heap.size W w2) := Lib.hid ⟨H1.out.1.below b2, H1.out.2.trans (b2.mono H1.out.2.size)⟩
  clear b2 H1 y0 y1
  rw [d0.out]
  clear d0
  go_wp2
  go_ret
  exact ⟨rfl, H2.out.2⟩
set_option maxRecDepth 100000 in
set_option maxHeartbeats 4000000 in
theorem main (h0 h1 s0 s1 : Nat) (A : Option Addr) (ca : Nat) (l : List CaV) (W : World) (hA : caE.Lo W W.heap.size A l) (hL : LaidOk W) (hf : FewC s0 s1 l) (hwf : ∀ a ∈ l, a.wf) (hh0 : h0 < 18446744073709551616) (hh1 : h1 < 18446744073709551616) (hs0 : s0 < 18446744073709551616) (hs1 : s1 < 18446744073709551616) :
    Calls Tryz.prog 5 #[.agg #[.int .u64 (h0 : Int), .int .u64 (h1 : Int)], .agg #[.int .u64 (s0 : Int), .int .u64 (s1 : Int)], .slice A l.length ca] W fun x w' => x = .returned (.bool true) ∧ Below W.heap.size W w' := by
  have d0 : Hid (decide (FewC s0 s1 l) = true) := Lib.hid (decide_eq_true hf)
  have HF : Hid (l.length ≤ 50 ∧ ∀ j (h : j < l.length), CaOk l[j]) := Lib.hid ⟨hf.2.1, fun j h => ⟨(hwf _ (List.getElem_mem h)).1, (hwf _ (List.getElem_mem h)).2.1, (hwf _ (List.getElem_mem h)).2.2, (hf.2.2 _ (List.getElem_mem h)).1, (hf.2.2 _ (List.getElem_mem h)).2⟩⟩
  have HSQ := Lib.hid (And.intro hf.1.1 (And.intro hf.1.2 (And.intro hs0 (And.intro hs1 (And.intro hh0 hh1)))))
  clear hf hwf hh0 hh1 hs0 hs1
  obtain ⟨Y, hY⟩ : ∃ Y, Y = W.heap.size := ⟨_, rfl⟩
  obtain ⟨wb, hwb⟩ : ∃ z, z = (W.alloc (.cells #[.int .u64 (h0 : Int), .int .u64 (h1 : Int)] 40)).alloc (.cells #[.int .u64 (s0 : Int), .int .u64 (s1 : Int)] 40) := ⟨_, rfl⟩
  have H0 : Hid (ArrB wb Y (h0 : Int) (h1 : Int) (s0 : Int) (s1 : Int) ∧ Below W.heap.size W wb) := Lib.hid (by
    have := ArrB.new W (h0 : Int) (h1 : Int) (s0 : Int) (s1 : Int)
    rw [← hwb, ← hY] at this
    exact ⟨this.1, by rw [← hY]; exact this.2⟩)
  have HL := Lib.hid hL
  have HA := Lib.hid hA
  clear hL hA
  go_enter Tryz.func5, Tryz.ntmps5
  go_wp2_with fail
  rw [← hwb, ← hY]
  clear hwb hY
  refine (awake13 wb (HL.out.later H0.out.2)).mono ?_
  rintro x w1 ⟨rfl, b1⟩
  have H1 : Hid (ArrB w1 Y (h0 : Int) (h1 : Int) (s0 : Int) (s1 : Int) ∧ Below W.heap.size W w1) := Lib.hid ⟨H0.out.1.below b1, H0.out.2.trans (b1.mono H0.out.2.size)⟩
  clear b1 H0
  have y0 := Kq.blk_cell H1.out.1.2 0
  have y1 := Kq.blk_cell H1.out.1.2 1
  go_wp2_with fail
  refine (few13 s0 s1 l A ca w1 (HA.out.below H1.out.2).at).mono ?_
  rintro x w2 ⟨rfl, b2⟩
  have H2 : Hid (ArrB w2 Y (h0 : Int) (h1 : Int) (s0 : Int) (s1 : Int) ∧ Below W.heap.size W w2) := Lib.hid ⟨H1.out.1.below b2, H1.out.2.trans (b2.mono H1.out.2.size)⟩
  clear b2 H1 y0 y1
  rw [d0.out]
  clear d0
  have y0 := Kq.blk_cell H2.out.1.2 0
  have y1 := Kq.blk_cell H2.out.1.2 1
  have x0 := Kq.blk_cell H2.out.1.1 0
  have x1 := Kq.blk_cell H2.out.1.1 1
  go_wp2_with fail
  refine (made13 h0 h1 s0 s1 w2 HSQ.out.1 HSQ.out.2.1).mono ?_
  rintro x w3 ⟨X, rfl, ht, b1⟩
  have H3 : Hid (LwT (fun _ => False) W X 0 (newTw h0 h1 s0 s1) w3) := Lib.hid (LwT.made (HL.out.later H2.out.2) HSQ.out.1 HSQ.out.2.1 HSQ.out.2.2.1 HSQ.out.2.2.2.1 HSQ.out.2.2.2.2.1 HSQ.out.2.2.2.2.2 W H2.out.2 HL.out (fun _ h => h.elim) ht b1)
  clear ht b1 H2 y0 y1 x0 x1
  go_wp2
  obtain ⟨w4, hw4⟩ : ∃ z, z = w3.alloc (.cells #[.int .i64 0, .int .i64 0] 60) := ⟨_, rfl⟩
  obtain ⟨G, hG⟩ : ∃ G, G = w3.heap.size := ⟨_, rfl⟩
  have H4 : Hid (LwT (· = G) W X 0 (newTw h0 h1 s0 s1) w4 ∧ (∀ k, k < 2 → MpK (newTw h0 h1 s0 s1 k)) ∧ GoT w4 G (fun k => totC (newTw h0 h1 s0 s1 k)) ∧ W.heap.size ≤ G) := Lib.hid (by
    have hb := Kq.below_alloc w3 (.cells #[.int .i64 0, .int .i64 0] 60)
    have hn := Kq.blk_new w3 #[.int .i64 0, .int .i64 0] 60 (0, 0)
    rw [hw4, hG]
    refine ⟨(H3.out.wide hb).narrow (fun k hk => ?_), newTw_mp h0 h1 s0 s1, hn, H3.out.bel.size⟩
    have hk : k = w3.heap.size := hk
    rw [hk]; exact Or.inr ⟨Nat.le_refl _, Kq.blk_lt hn⟩)
  rw [← hw4, ← hG]
  clear hw4 hG H3
  go_loopw [9] (fun u wr => ∃ (j : Nat) (cc : Nat → ChV), u = .int .i64 (j : Int) ∧ j ≤ l.length ∧ LwT (· = G) W X j cc wr ∧ (∀ k, k < 2 → MpK (cc k)) ∧ GoT wr G (fun k => totC (cc k)) ∧ W.heap.size ≤ G) (fun u _ => l.length - (intOf u).toNat)
  case atStart => exact ⟨0, _, rfl, by omega, H4.out⟩
  case round =>
    clear H4
    obtain ⟨j, cc, rfl, hj, hM, hP, hGo, hWG⟩ := hrel
    have HM := Lib.hid hM
    have HP := Lib.hid hP
    have HG : Hid (GoT wr G (fun k => totC (cc k))) := Lib.hid hGo
    have HWG := Lib.hid hWG
    have hn := HF.out.1
    clear hM hP hGo hWG
    by_cases hlt : j < l.length
    · have hAt := HA.out.below HM.out.bel
      obtain ⟨b, off, rfl, hb, hb2, hc⟩ := hAt j hlt
      obtain ⟨x, hx⟩ : ∃ x, x = l[j] := ⟨_, rfl⟩
      rw [← hx] at hc
      have HX : Hid (CaOk x) := Lib.hid (by rw [hx]; exact HF.out.2 j hlt)
      have HLT := Lib.hid hlt
      have hi0 : (j : Int) < (l.length : Int) := by omega
      obtain ⟨kd, id, h, d, f, q, t, pd, sp⟩ := x
      obtain ⟨a, ha⟩ : ∃ a : CaV, a = ⟨kd, id, h, d, f, q, t, pd, sp⟩ := ⟨_, rfl⟩
      have HAA := Lib.hid ha
      have HCL : Hid (∀ z, Below wr.heap.size wr z → (z.cell? ⟨b, off + j * 9, none⟩ = some (.int .i64 kd) ∧ z.cell? ⟨b, off + j * 9 + 1, none⟩ = some (.int .i64 id) ∧ z.cell? ⟨b, off + j * 9 + 2, none⟩ = some (.int .u64 (h : Int)) ∧ z.cell? ⟨b, off + j * 9 + 3, none⟩ = some (.string d) ∧ z.cell? ⟨b, off + j * 9 + 4, none⟩ = some (.int .i64 f) ∧ z.cell? ⟨b, off + j * 9 + 5, none⟩ = some (.int .u64 (q : Int)) ∧ z.cell? ⟨b, off + j * 9 + 6, none⟩ = some (.int .u64 (t : Int)) ∧ z.cell? ⟨b, off + j * 9 + 7, none⟩ = some (.string pd) ∧ z.cell? ⟨b, off + j * 9 + 8, none⟩ = some (.bool sp))) := Lib.hid (fun z hz => by
        have e : ∀ i u, wr.cell? ⟨b, off + j * 9 + i, none⟩ = some u → z.cell? ⟨b, off + j * 9 + i, none⟩ = some u := fun i u hu => (hz.cell (p := ⟨b, off + j * 9 + i, none⟩) hb2).trans hu
        exact ⟨e 0 _ (hc 0 (by decide)), e 1 _ (hc 1 (by decide)), e 2 _ (hc 2 (by decide)), e 3 _ (hc 3 (by decide)), e 4 _ (hc 4 (by decide)), e 5 _ (hc 5 (by decide)), e 6 _ (hc 6 (by decide)), e 7 _ (hc 7 (by decide)), e 8 _ (hc 8 (by decide))⟩)
      have HAR : Hid (∀ z, Below W.heap.size W z → z.cell? ⟨b, off + j * 9, none⟩ = some (.int .i64 kd)) := Lib.hid (fun z hz => by
        obtain ⟨b', off', e, hb', _, hc'⟩ := (HA.out.below hz) j HLT.out
        injection e with e
        injection e with e1 e2
        subst e1
        subst e2
        have := hc' 0 (by decide)
        rw [← hx] at this
        exact this)
      obtain ⟨s, hs⟩ : ∃ s, s = sideN id := ⟨_, rfl⟩
      have HSS : Hid (s < 2 ∧ a.s = s) := Lib.hid ⟨by rw [hs]; exact sideN_lt id, by rw [ha, hs]; rfl⟩
      obtain ⟨B, P, x0, hch⟩ := HM.out.ask s HSS.out.1
      obtain ⟨c, hcc⟩ : ∃ c, c = cc s := ⟨_, rfl⟩
      rw [← hcc] at hch
      have HCC := Lib.hid hcc
      have HCH := Lib.hid hch
      have HX0 := Lib.hid x0
      have HCK : Hid (ChK j c ∧ MpK c) := Lib.hid (by rw [hcc]; exact ⟨HM.out.ok s HSS.out.1, HP.out s HSS.out.1⟩)
      have HSI := Lib.hid (side_one id wr)
      rw [← hs] at HSI
      have i1 : (s : Int) < 2 := by have := HSS.out.1; omega
      have k1 := (HCL.out wr (Below.refl _ _)).2.1
      clear hx hb hb2 hc hAt hs hcc hch ha hlt
      go_wp2_with fail
      refine HSI.out.mono ?_
      rintro x wr ⟨rfl, rfl⟩
      clear k1 HSI
      go_wp2_with fail
      refine (cn_map HCH.out HCK.out.1.ok HCK.out.2).mono ?_
      rintro x w5 ⟨v, rfl, ⟨mA, mc, rfl, hmc, hps, hnew⟩, b5⟩
      have H5 := Lib.hid b5
      have HPS := Lib.hid (And.intro hps (And.intro hnew hmc))
      clear x0 b5 hps hnew hmc
      go_wp2_with fail
      refine (cn_next (HCH.out.below H5.out)).mono ?_
      rintro x w5 ⟨rfl, rfl⟩
      go_wp2_with fail
      refine (cn_known (HCH.out.below H5.out) HCK.out.1.ok).mono ?_
      rintro x w6 ⟨v', rfl, hkn, b6⟩
      obtain ⟨kA, kc, rfl⟩ : ∃ kA kc, v' = .slice kA c.hs.length kc := by
        rcases hkn.2 with ⟨e, h0⟩ | ⟨g, cp, cur, e, _⟩
        · exact ⟨none, 0, by rw [e, h0]⟩
        · exact ⟨_, _, e⟩
      have H6 := Lib.hid (H5.out.trans (b6.mono H5.out.size))
      have HPW : Hid (w5.heap.size ≤ w6.heap.size) := Lib.hid b6.size
      have HPS6 : Hid (PsAt w6 mA c.st.now) := Lib.hid (HPS.out.1.below b6)
      have hhl : c.hs.length ≤ 4000 := by have := HCK.out.1.ok.hs; have := HCK.out.1.ok.n; omega
      clear hkn b6
      go_wp2_with fail
      refine (cn_height (HCH.out.below H6.out)).mono ?_
      rintro x w6 ⟨rfl, rfl⟩
      have HD := Lib.hid (lw_do a (HM.out.wide H6.out) (by omega) (by rw [HAA.out]; exact HX.out))
      rw [HAA.out] at HD
      obtain ⟨k0, k1, k2, k3, k4, k5, k6, k7, k8⟩ := HCL.out w6 H6.out
      obtain ⟨nx, hnx⟩ : ∃ nx, nx = c.next := ⟨_, rfl⟩
      obtain ⟨hl, hhl'⟩ : ∃ hl, hl = c.hs.length := ⟨_, rfl⟩
      obtain ⟨hg, hhg⟩ : ∃ hg, hg = c.st.height := ⟨_, rfl⟩
      obtain ⟨nw, hnw⟩ : ∃ nw, nw = c.st.now := ⟨_, rfl⟩
      rw [← hhl'] at hhl
      rw [← hnx, ← hhl', ← hhg, ← hnw]
      have HNN := Lib.hid (And.intro hnx (And.intro hhl' (And.intro hhg hnw)))
      have HNL : Hid (nw.length ≤ 1000) := Lib.hid (by rw [hnw]; have := HCK.out.1.now; omega)
      rw [← hnw] at HPS6
      have HPN := Lib.hid HPS.out.2.1
      clear hnx hhl' hhg hnw HPS
      cases sp
      · go_wp2_with fail
        refine HD.out.mono ?_
        rintro x w7 ⟨hx, hl7, hf7, hX7⟩
        rw [← HAA.out] at hx hl7
        obtain ⟨pf, pq, pt, ppd, hp⟩ : ∃ pf pq pt ppd, doP cc a = ⟨pf, pq, pt, ppd⟩ := ⟨_, _, _, _, rfl⟩
        obtain ⟨er, her⟩ : ∃ er, er = doE cc a := ⟨_, rfl⟩
        obtain ⟨hh, hhh⟩ : ∃ hh : Int, hh = (doH cc a : Int) := ⟨_, rfl⟩
        rw [hp, ← her, ← hhh] at hx
        simp only [PkV.val] at hx
        subst hx
        have HER := Lib.hid her
        obtain ⟨w8, hw8⟩ : ∃ z, z = w7.alloc (.cells #[.int .i64 pf, .int .u64 pq, .int .u64 pt, .string ppd] 46) := ⟨_, rfl⟩
        have H8 : Hid (LwT (· = G) W X (j + 1) (doV cc a) w8 ∧ (∀ k, k < 2 → MpK (doV cc a k)) ∧ GoT w8 G (fun k => totC (cc k)) ∧ PsAt w8 mA nw ∧ w8.heap[X]? = wr.heap[X]?) := Lib.hid (by
          have hb := Kq.below_alloc w7 (.cells #[.int .i64 pf, .int .u64 pq, .int .u64 pt, .string ppd] 46)
          have hbx : (w7.alloc (.cells #[.int .i64 pf, .int .u64 pq, .int .u64 pt, .string ppd] 46)).heap[X]? = w7.heap[X]? := hb.block X hl7.xlt
          have hx6 : w6.heap[X]? = wr.heap[X]? := H6.out.block X HM.out.xlt
          rw [hw8]
          refine ⟨(hl7.narrow (fun k hk => Or.inl hk)).below hb, MpK.do HP.out HM.out.ok a (by rw [HAA.out]; exact HX.out), ((HG.out.below H6.out).fb hf7 (Or.inl rfl)).below hb, (ps_fb HPS6.out hf7 (fun b' off' e => Or.inr ?_)).below hb, hbx.trans (hX7.trans hx6)⟩
          obtain ⟨g1, g2⟩ := HPN.out b' off' e
          exact ⟨g1, Nat.lt_of_lt_of_le g2 (HPW.out)⟩)
        have HW8 := Lib.hid hw8
        clear hp her hhh hl7 hf7 hX7 k0 k1 k2 k3 k4 k5 k6 k7 k8 HD hw8
        by_cases e0 : er = 0
        · have e1 : (er != 0) = false := by rw [e0]; rfl
          have HER : Hid (0 = doE cc a) := Lib.hid (by rw [← HER.out, e0])
          subst e0
          have kk := HAR.out w8 H8.out.1.bel
          by_cases q0 : kd = 0
          · have q0' : (kd == 0) = true := by rw [q0]; rfl
            have HNO : Hid (noted kd) := Lib.hid (Or.inl q0)
            clear q0
            have g0 := H8.out.2.2.1.cell s HSS.out.1
            have f0 := Kq.blk_free H8.out.2.2.1 s
            obtain ⟨n0, hn0⟩ : ∃ n0, n0 = totC (cc s) := ⟨_, rfl⟩
            obtain ⟨n1, hn1⟩ : ∃ n1, n1 = n0 + 1 := ⟨_, rfl⟩
            have g0 : w8.cell? ⟨G, s, none⟩ = some (.int .i64 (n0 : Int)) := by rw [hn0]; exact g0
            have hle : n0 ≤ j := by rw [hn0]; exact (HM.out.ok s HSS.out.1).tot
            have mm : IntKind.i64.wrap ((n0 : Int) + 1) = (n1 : Int) := by rw [IntWalk.i64_in _ (by omega)]; omega
            have HE : Hid (LwT (· = G) W X (j + 1) (doV cc a) (w8.setCell ⟨G, s, none⟩ (.int .i64 (n1 : Int))) ∧ (∀ k, k < 2 → MpK (doV cc a k)) ∧ GoT (w8.setCell ⟨G, s, none⟩ (.int .i64 (n1 : Int))) G (fun k => totC (doV cc a k)) ∧ W.heap.size ≤ G) := Lib.hid (by
              have k1 : Kq.Keeps (· = G) w8 (w8.setCell ⟨G, s, none⟩ (.int .i64 (n1 : Int))) := Kq.Keeps.setCell _ _ _ rfl
              refine ⟨H8.out.1.own k1 (fun k hk => hk) (fun k hk => by have hk : k = G := hk; have := HWG.out; omega), H8.out.2.1, ?_, HWG.out⟩
              rw [hn1, hn0]
              refine H8.out.2.2.1.set s HSS.out.1 ?_ (fun jj hjj => ?_)
              · show totC (doV cc a s) = totC (cc s) + 1
                rw [← HSS.out.2, do_own]
                exact do_good cc a HER.out.symm (by rw [HAA.out]; exact HNO.out)
              · show totC (doV cc a jj) = totC (cc jj)
                rw [do_other cc a jj (by rw [HSS.out.2]; exact hjj)])
            rw [HW8.out] at g0 f0 kk
            clear hn0 hn1 hle e1
            go_wp2
            rw [← HW8.out]
            go_roundw
            case rel => first | exact ⟨j + 1, _, by go_num, HLT.out, HE.out⟩ | ((repeat apply Exists.intro); refine ⟨⟨j + 1, _, ?_, HLT.out, HE.out⟩, rfl⟩; go_num)
            case measure => have := HLT.out; simp [intOf]; omega
          have q0' : (kd == 0) = false := by rw [beq_eq_false_iff_ne]; exact q0
          by_cases q2 : 2 ≤ kd
          · have q2' : decide (2 ≤ kd) = true := decide_eq_true q2
            by_cases q4 : kd ≤ 4
            · have q4' : decide (kd ≤ 4) = true := decide_eq_true q4
              have HNO : Hid (noted kd) := Lib.hid (Or.inr ⟨q2, q4⟩)
              clear q0 q2 q4
              have g0 := H8.out.2.2.1.cell s HSS.out.1
              have f0 := Kq.blk_free H8.out.2.2.1 s
              obtain ⟨n0, hn0⟩ : ∃ n0, n0 = totC (cc s) := ⟨_, rfl⟩
              obtain ⟨n1, hn1⟩ : ∃ n1, n1 = n0 + 1 := ⟨_, rfl⟩
              have g0 : w8.cell? ⟨G, s, none⟩ = some (.int .i64 (n0 : Int)) := by rw [hn0]; exact g0
              have hle : n0 ≤ j := by rw [hn0]; exact (HM.out.ok s HSS.out.1).tot
              have mm : IntKind.i64.wrap ((n0 : Int) + 1) = (n1 : Int) := by rw [IntWalk.i64_in _ (by omega)]; omega
              have HE : Hid (LwT (· = G) W X (j + 1) (doV cc a) (w8.setCell ⟨G, s, none⟩ (.int .i64 (n1 : Int))) ∧ (∀ k, k < 2 → MpK (doV cc a k)) ∧ GoT (w8.setCell ⟨G, s, none⟩ (.int .i64 (n1 : Int))) G (fun k => totC (doV cc a k)) ∧ W.heap.size ≤ G) := Lib.hid (by
                have k1 : Kq.Keeps (· = G) w8 (w8.setCell ⟨G, s, none⟩ (.int .i64 (n1 : Int))) := Kq.Keeps.setCell _ _ _ rfl
                refine ⟨H8.out.1.own k1 (fun k hk => hk) (fun k hk => by have hk : k = G := hk; have := HWG.out; omega), H8.out.2.1, ?_, HWG.out⟩
                rw [hn1, hn0]
                refine H8.out.2.2.1.set s HSS.out.1 ?_ (fun jj hjj => ?_)
                · show totC (doV cc a s) = totC (cc s) + 1
                  rw [← HSS.out.2, do_own]
                  exact do_good cc a HER.out.symm (by rw [HAA.out]; exact HNO.out)
                · show totC (doV cc a jj) = totC (cc jj)
                  rw [do_other cc a jj (by rw [HSS.out.2]; exact hjj)])
              rw [HW8.out] at g0 f0 kk
              clear hn0 hn1 hle e1
              go_wp2
              rw [← HW8.out]
              go_roundw
              case rel => first | exact ⟨j + 1, _, by go_num, HLT.out, HE.out⟩ | ((repeat apply Exists.intro); refine ⟨⟨j + 1, _, ?_, HLT.out, HE.out⟩, rfl⟩; go_num)
              case measure => have := HLT.out; simp [intOf]; omega
            · have q4' : decide (kd ≤ 4) = false := decide_eq_false q4
              have HNO : Hid (¬ noted kd) := Lib.hid (fun h => by rcases h with h | h <;> omega)
              clear q0 q2 q4
              have HE : Hid (LwT (· = G) W X (j + 1) (doV cc a) w8 ∧ (∀ k, k < 2 → MpK (doV cc a k)) ∧ GoT w8 G (fun k => totC (doV cc a k)) ∧ W.heap.size ≤ G) := Lib.hid (by
                refine ⟨H8.out.1, H8.out.2.1, H8.out.2.2.1.congr (fun k hk => ?_), HWG.out⟩
                by_cases ek : k = a.s
                · rw [ek, do_own]; exact do_none cc a (by rw [HAA.out]; exact HNO.out)
                · rw [do_other cc a k ek])
              rw [HW8.out] at kk
              clear e1
              go_wp2
              rw [← HW8.out]
              go_roundw
              case rel => first | exact ⟨j + 1, _, by go_num, HLT.out, HE.out⟩ | ((repeat apply Exists.intro); refine ⟨⟨j + 1, _, ?_, HLT.out, HE.out⟩, rfl⟩; go_num)
              case measure => have := HLT.out; simp [intOf]; omega
          · have q2' : decide (2 ≤ kd) = false := decide_eq_false q2
            have HNO : Hid (¬ noted kd) := Lib.hid (fun h => by rcases h with h | h <;> omega)
            clear q0 q2
            have HE : Hid (LwT (· = G) W X (j + 1) (doV cc a) w8 ∧ (∀ k, k < 2 → MpK (doV cc a k)) ∧ GoT w8 G (fun k => totC (doV cc a k)) ∧ W.heap.size ≤ G) := Lib.hid (by
              refine ⟨H8.out.1, H8.out.2.1, H8.out.2.2.1.congr (fun k hk => ?_), HWG.out⟩
              by_cases ek : k = a.s
              · rw [ek, do_own]; exact do_none cc a (by rw [HAA.out]; exact HNO.out)
              · rw [do_other cc a k ek])
            rw [HW8.out] at kk
            clear e1
            go_wp2
            rw [← HW8.out]
            go_roundw
            case rel => first | exact ⟨j + 1, _, by go_num, HLT.out, HE.out⟩ | ((repeat apply Exists.intro); refine ⟨⟨j + 1, _, ?_, HLT.out, HE.out⟩, rfl⟩; go_num)
            case measure => have := HLT.out; simp [intOf]; omega
        · have e1 : (er != 0) = true := bne_iff_ne.2 e0
          have e2 : (er == 0) = false := beq_eq_false_iff_ne.2 e0
          have hsm := do_bad cc a (by rw [← HER.out]; exact e0)
          have hds : doV cc a s = doC cc a := by rw [← HSS.out.2]; exact do_own cc a
          obtain ⟨B', P', x0', hch'⟩ := H8.out.1.ask s HSS.out.1
          have hBB := same_cell H8.out.2.2.2.2 HX0.out x0'
          injection hBB with hBB
          injection hBB with hBB
          injection hBB with hBB
          subst hBB
          rw [HSS.out.2, ← HCC.out] at hsm
          rw [← hds] at hsm
          obtain ⟨c8, hc8⟩ : ∃ c8, c8 = doV cc a s := ⟨_, rfl⟩
          rw [← hc8] at hch' hsm
          have HS8 : Hid (ChP w8 P' B' c8 ∧ ChK (j + 1) c8 ∧ MpK c8 ∧ c8.st.now = nw ∧ c8.next = nx ∧ c8.hs.length = hl ∧ c8.st.height = hg) := Lib.hid ⟨hch', by rw [hc8]; exact H8.out.1.ok s HSS.out.1, by rw [hc8]; exact H8.out.2.1 s HSS.out.1, by rw [hsm.st]; exact HNN.out.2.2.2.symm, by rw [hsm.next]; exact HNN.out.1.symm, by rw [hsm.hs]; exact HNN.out.2.1.symm, by rw [hsm.st]; exact HNN.out.2.2.1.symm⟩
          have HEG : Hid (∀ k, k < 2 → totC (doV cc a k) = totC (cc k)) := Lib.hid (fun k hk => by
            by_cases ek : k = s
            · rw [ek, ← hc8, ← HCC.out]; exact hsm.tot
            · rw [do_other cc a k (by rw [HSS.out.2]; exact ek)])
          clear hsm hds x0' hch' hc8 e0
          go_wp2_with fail
          rw [← HW8.out]
          refine (cn_map HS8.out.1 HS8.out.2.1.ok HS8.out.2.2.1).mono ?_
          rintro x w9 ⟨v, rfl, ⟨mA2, mc2, rfl, hmc2, hps2, -⟩, b9⟩
          rw [HS8.out.2.2.2.1] at hps2 ⊢
          have H9 := Lib.hid b9
          have HPR := Lib.hid (sr_pairs nw mA2 mA mc2 mc w9 (by have := HNL.out; omega) hps2 (H8.out.2.2.2.1.below b9))
          clear hmc2 hps2 b9
          go_wp2_with fail
          refine HPR.out.mono ?_
          rintro x w10 ⟨rfl, nd, hw10⟩
          have H10 : Hid (Below w8.heap.size w8 w10) := Lib.hid (by rw [hw10]; exact below_drewN H9.out nd)
          clear hw10 HPR
          have HQ1 := cn_next (HS8.out.1.below H10.out)
          rw [HS8.out.2.2.2.2.1] at HQ1
          go_wp2_with fail
          refine HQ1.mono ?_
          rintro x w10 ⟨rfl, rfl⟩
          clear HQ1
          go_wp2_with fail
          refine (cn_known (HS8.out.1.below H10.out) HS8.out.2.1.ok).mono ?_
          rintro x w11 ⟨v', rfl, hkn, b11⟩
          rw [HS8.out.2.2.2.2.2.1] at hkn
          obtain ⟨kA2, kc2, rfl⟩ : ∃ kA kc, v' = .slice kA hl kc := by
            rcases hkn.2 with ⟨e, h0⟩ | ⟨g, cp, cur, e, _⟩
            · exact ⟨none, 0, by rw [e, h0]⟩
            · exact ⟨_, _, e⟩
          have H11 := Lib.hid (H10.out.trans (b11.mono H10.out.size))
          clear hkn b11
          have HQ2 := cn_height (HS8.out.1.below H11.out)
          rw [HS8.out.2.2.2.2.2.2] at HQ2
          go_wp2_with fail
          refine HQ2.mono ?_
          rintro x w11 ⟨rfl, rfl⟩
          have HE : Hid (LwT (· = G) W X (j + 1) (doV cc a) w11 ∧ (∀ k, k < 2 → MpK (doV cc a k)) ∧ GoT w11 G (fun k => totC (doV cc a k)) ∧ W.heap.size ≤ G) := Lib.hid ⟨H8.out.1.below H11.out, H8.out.2.1, (H8.out.2.2.1.below H11.out).congr HEG.out, HWG.out⟩
          clear HQ2
          go_wp2
          go_roundw
          case rel => first | exact ⟨j + 1, _, by go_num, HLT.out, HE.out⟩ | ((repeat apply Exists.intro); refine ⟨⟨j + 1, _, ?_, HLT.out, HE.out⟩, rfl⟩; go_num)
          case measure => have := HLT.out; simp [intOf]; omega
      · go_wp2_with fail
        refine HD.out.mono ?_
        rintro x w7 ⟨hx, hl7, hf7, hX7⟩
        rw [← HAA.out] at hx hl7
        obtain ⟨pf, pq, pt, ppd, hp⟩ : ∃ pf pq pt ppd, doP cc a = ⟨pf, pq, pt, ppd⟩ := ⟨_, _, _, _, rfl⟩
        obtain ⟨er, her⟩ : ∃ er, er = doE cc a := ⟨_, rfl⟩
        obtain ⟨hh, hhh⟩ : ∃ hh : Int, hh = (doH cc a : Int) := ⟨_, rfl⟩
        rw [hp, ← her, ← hhh] at hx
        simp only [PkV.val] at hx
        subst hx
        have HER := Lib.hid her
        obtain ⟨w8, hw8⟩ : ∃ z, z = w7.alloc (.cells #[.int .i64 pf, .int .u64 pq, .int .u64 pt, .string ppd] 46) := ⟨_, rfl⟩
        have H8 : Hid (LwT (· = G) W X (j + 1) (doV cc a) w8 ∧ (∀ k, k < 2 → MpK (doV cc a k)) ∧ GoT w8 G (fun k => totC (cc k)) ∧ PsAt w8 mA nw ∧ w8.heap[X]? = wr.heap[X]?) := Lib.hid (by
          have hb := Kq.below_alloc w7 (.cells #[.int .i64 pf, .int .u64 pq, .int .u64 pt, .string ppd] 46)
          have hbx : (w7.alloc (.cells #[.int .i64 pf, .int .u64 pq, .int .u64 pt, .string ppd] 46)).heap[X]? = w7.heap[X]? := hb.block X hl7.xlt
          have hx6 : w6.heap[X]? = wr.heap[X]? := H6.out.block X HM.out.xlt
          rw [hw8]
          refine ⟨(hl7.narrow (fun k hk => Or.inl hk)).below hb, MpK.do HP.out HM.out.ok a (by rw [HAA.out]; exact HX.out), ((HG.out.below H6.out).fb hf7 (Or.inl rfl)).below hb, (ps_fb HPS6.out hf7 (fun b' off' e => Or.inr ?_)).below hb, hbx.trans (hX7.trans hx6)⟩
          obtain ⟨g1, g2⟩ := HPN.out b' off' e
          exact ⟨g1, Nat.lt_of_lt_of_le g2 (HPW.out)⟩)
        have HW8 := Lib.hid hw8
        clear hp her hhh hl7 hf7 hX7 k0 k1 k2 k3 k4 k5 k6 k7 k8 HD hw8
        by_cases e0 : er = 0
        · have e1 : (er != 0) = false := by rw [e0]; rfl
          have HER : Hid (0 = doE cc a) := Lib.hid (by rw [← HER.out, e0])
          subst e0
          have kk := HAR.out w8 H8.out.1.bel
          by_cases q0 : kd = 0
          · have q0' : (kd == 0) = true := by rw [q0]; rfl
            have HNO : Hid (noted kd) := Lib.hid (Or.inl q0)
            clear q0
            have g0 := H8.out.2.2.1.cell s HSS.out.1
            have f0 := Kq.blk_free H8.out.2.2.1 s
            obtain ⟨n0, hn0⟩ : ∃ n0, n0 = totC (cc s) := ⟨_, rfl⟩
            obtain ⟨n1, hn1⟩ : ∃ n1, n1 = n0 + 1 := ⟨_, rfl⟩
            have g0 : w8.cell? ⟨G, s, none⟩ = some (.int .i64 (n0 : Int)) := by rw [hn0]; exact g0
            have hle : n0 ≤ j := by rw [hn0]; exact (HM.out.ok s HSS.out.1).tot
            have mm : IntKind.i64.wrap ((n0 : Int) + 1) = (n1 : Int) := by rw [IntWalk.i64_in _ (by omega)]; omega
            have HE : Hid (LwT (· = G) W X (j + 1) (doV cc a) (w8.setCell ⟨G, s, none⟩ (.int .i64 (n1 : Int))) ∧ (∀ k, k < 2 → MpK (doV cc a k)) ∧ GoT (w8.setCell ⟨G, s, none⟩ (.int .i64 (n1 : Int))) G (fun k => totC (doV cc a k)) ∧ W.heap.size ≤ G) := Lib.hid (by
              have k1 : Kq.Keeps (· = G) w8 (w8.setCell ⟨G, s, none⟩ (.int .i64 (n1 : Int))) := Kq.Keeps.setCell _ _ _ rfl
              refine ⟨H8.out.1.own k1 (fun k hk => hk) (fun k hk => by have hk : k = G := hk; have := HWG.out; omega), H8.out.2.1, ?_, HWG.out⟩
              rw [hn1, hn0]
              refine H8.out.2.2.1.set s HSS.out.1 ?_ (fun jj hjj => ?_)
              · show totC (doV cc a s) = totC (cc s) + 1
                rw [← HSS.out.2, do_own]
                exact do_good cc a HER.out.symm (by rw [HAA.out]; exact HNO.out)
              · show totC (doV cc a jj) = totC (cc jj)
                rw [do_other cc a jj (by rw [HSS.out.2]; exact hjj)])
            rw [HW8.out] at g0 f0 kk
            clear hn0 hn1 hle e1
            go_wp2
            rw [← HW8.out]
            go_roundw
            case rel => first | exact ⟨j + 1, _, by go_num, HLT.out, HE.out⟩ | ((repeat apply Exists.intro); refine ⟨⟨j + 1, _, ?_, HLT.out, HE.out⟩, rfl⟩; go_num)
            case measure => have := HLT.out; simp [intOf]; omega
          have q0' : (kd == 0) = false := by rw [beq_eq_false_iff_ne]; exact q0
          by_cases q2 : 2 ≤ kd
          · have q2' : decide (2 ≤ kd) = true := decide_eq_true q2
            by_cases q4 : kd ≤ 4
            · have q4' : decide (kd ≤ 4) = true := decide_eq_true q4
              have HNO : Hid (noted kd) := Lib.hid (Or.inr ⟨q2, q4⟩)
              clear q0 q2 q4
              have g0 := H8.out.2.2.1.cell s HSS.out.1
              have f0 := Kq.blk_free H8.out.2.2.1 s
              obtain ⟨n0, hn0⟩ : ∃ n0, n0 = totC (cc s) := ⟨_, rfl⟩
              obtain ⟨n1, hn1⟩ : ∃ n1, n1 = n0 + 1 := ⟨_, rfl⟩
              have g0 : w8.cell? ⟨G, s, none⟩ = some (.int .i64 (n0 : Int)) := by rw [hn0]; exact g0
              have hle : n0 ≤ j := by rw [hn0]; exact (HM.out.ok s HSS.out.1).tot
              have mm : IntKind.i64.wrap ((n0 : Int) + 1) = (n1 : Int) := by rw [IntWalk.i64_in _ (by omega)]; omega
              have HE : Hid (LwT (· = G) W X (j + 1) (doV cc a) (w8.setCell ⟨G, s, none⟩ (.int .i64 (n1 : Int))) ∧ (∀ k, k < 2 → MpK (doV cc a k)) ∧ GoT (w8.setCell ⟨G, s, none⟩ (.int .i64 (n1 : Int))) G (fun k => totC (doV cc a k)) ∧ W.heap.size ≤ G) := Lib.hid (by
                have k1 : Kq.Keeps (· = G) w8 (w8.setCell ⟨G, s, none⟩ (.int .i64 (n1 : Int))) := Kq.Keeps.setCell _ _ _ rfl
                refine ⟨H8.out.1.own k1 (fun k hk => hk) (fun k hk => by have hk : k = G := hk; have := HWG.out; omega), H8.out.2.1, ?_, HWG.out⟩
                rw [hn1, hn0]
                refine H8.out.2.2.1.set s HSS.out.1 ?_ (fun jj hjj => ?_)
                · show totC (doV cc a s) = totC (cc s) + 1
                  rw [← HSS.out.2, do_own]
                  exact do_good cc a HER.out.symm (by rw [HAA.out]; exact HNO.out)
                · show totC (doV cc a jj) = totC (cc jj)
                  rw [do_other cc a jj (by rw [HSS.out.2]; exact hjj)])
              rw [HW8.out] at g0 f0 kk
              clear hn0 hn1 hle e1
              go_wp2
              rw [← HW8.out]
              go_roundw
              case rel => first | exact ⟨j + 1, _, by go_num, HLT.out, HE.out⟩ | ((repeat apply Exists.intro); refine ⟨⟨j + 1, _, ?_, HLT.out, HE.out⟩, rfl⟩; go_num)
              case measure => have := HLT.out; simp [intOf]; omega
            · have q4' : decide (kd ≤ 4) = false := decide_eq_false q4
              have HNO : Hid (¬ noted kd) := Lib.hid (fun h => by rcases h with h | h <;> omega)
              clear q0 q2 q4
              have HE : Hid (LwT (· = G) W X (j + 1) (doV cc a) w8 ∧ (∀ k, k < 2 → MpK (doV cc a k)) ∧ GoT w8 G (fun k => totC (doV cc a k)) ∧ W.heap.size ≤ G) := Lib.hid (by
                refine ⟨H8.out.1, H8.out.2.1, H8.out.2.2.1.congr (fun k hk => ?_), HWG.out⟩
                by_cases ek : k = a.s
                · rw [ek, do_own]; exact do_none cc a (by rw [HAA.out]; exact HNO.out)
                · rw [do_other cc a k ek])
              rw [HW8.out] at kk
              clear e1
              go_wp2
              rw [← HW8.out]
              go_roundw
              case rel => first | exact ⟨j + 1, _, by go_num, HLT.out, HE.out⟩ | ((repeat apply Exists.intro); refine ⟨⟨j + 1, _, ?_, HLT.out, HE.out⟩, rfl⟩; go_num)
              case measure => have := HLT.out; simp [intOf]; omega
          · have q2' : decide (2 ≤ kd) = false := decide_eq_false q2
            have HNO : Hid (¬ noted kd) := Lib.hid (fun h => by rcases h with h | h <;> omega)
            clear q0 q2
            have HE : Hid (LwT (· = G) W X (j + 1) (doV cc a) w8 ∧ (∀ k, k < 2 → MpK (doV cc a k)) ∧ GoT w8 G (fun k => totC (doV cc a k)) ∧ W.heap.size ≤ G) := Lib.hid (by
              refine ⟨H8.out.1, H8.out.2.1, H8.out.2.2.1.congr (fun k hk => ?_), HWG.out⟩
              by_cases ek : k = a.s
              · rw [ek, do_own]; exact do_none cc a (by rw [HAA.out]; exact HNO.out)
              · rw [do_other cc a k ek])
            rw [HW8.out] at kk
            clear e1
            go_wp2
            rw [← HW8.out]
            go_roundw
            case rel => first | exact ⟨j + 1, _, by go_num, HLT.out, HE.out⟩ | ((repeat apply Exists.intro); refine ⟨⟨j + 1, _, ?_, HLT.out, HE.out⟩, rfl⟩; go_num)
            case measure => have := HLT.out; simp [intOf]; omega
        · have e1 : (er != 0) = true := bne_iff_ne.2 e0
          have e2 : (er == 0) = false := beq_eq_false_iff_ne.2 e0
          have hsm := do_bad cc a (by rw [← HER.out]; exact e0)
          have hds : doV cc a s = doC cc a := by rw [← HSS.out.2]; exact do_own cc a
          obtain ⟨B', P', x0', hch'⟩ := H8.out.1.ask s HSS.out.1
          have hBB := same_cell H8.out.2.2.2.2 HX0.out x0'
          injection hBB with hBB
          injection hBB with hBB
          injection hBB with hBB
          subst hBB
          rw [HSS.out.2, ← HCC.out] at hsm
          rw [← hds] at hsm
          obtain ⟨c8, hc8⟩ : ∃ c8, c8 = doV cc a s := ⟨_, rfl⟩
          rw [← hc8] at hch' hsm
          have HS8 : Hid (ChP w8 P' B' c8 ∧ ChK (j + 1) c8 ∧ MpK c8 ∧ c8.st.now = nw ∧ c8.next = nx ∧ c8.hs.length = hl ∧ c8.st.height = hg) := Lib.hid ⟨hch', by rw [hc8]; exact H8.out.1.ok s HSS.out.1, by rw [hc8]; exact H8.out.2.1 s HSS.out.1, by rw [hsm.st]; exact HNN.out.2.2.2.symm, by rw [hsm.next]; exact HNN.out.1.symm, by rw [hsm.hs]; exact HNN.out.2.1.symm, by rw [hsm.st]; exact HNN.out.2.2.1.symm⟩
          have HEG : Hid (∀ k, k < 2 → totC (doV cc a k) = totC (cc k)) := Lib.hid (fun k hk => by
            by_cases ek : k = s
            · rw [ek, ← hc8, ← HCC.out]; exact hsm.tot
            · rw [do_other cc a k (by rw [HSS.out.2]; exact ek)])
          clear hsm hds x0' hch' hc8 e0
          go_wp2_with fail
          rw [← HW8.out]
          refine (cn_map HS8.out.1 HS8.out.2.1.ok HS8.out.2.2.1).mono ?_
          rintro x w9 ⟨v, rfl, ⟨mA2, mc2, rfl, hmc2, hps2, -⟩, b9⟩
          rw [HS8.out.2.2.2.1] at hps2 ⊢
          have H9 := Lib.hid b9
          have HPR := Lib.hid (sr_pairs nw mA2 mA mc2 mc w9 (by have := HNL.out; omega) hps2 (H8.out.2.2.2.1.below b9))
          clear hmc2 hps2 b9
          go_wp2_with fail
          refine HPR.out.mono ?_
          rintro x w10 ⟨rfl, nd, hw10⟩
          have H10 : Hid (Below w8.heap.size w8 w10) := Lib.hid (by rw [hw10]; exact below_drewN H9.out nd)
          clear hw10 HPR
          have HQ1 := cn_next (HS8.out.1.below H10.out)
          rw [HS8.out.2.2.2.2.1] at HQ1
          go_wp2_with fail
          refine HQ1.mono ?_
          rintro x w10 ⟨rfl, rfl⟩
          clear HQ1
          go_wp2_with fail
          refine (cn_known (HS8.out.1.below H10.out) HS8.out.2.1.ok).mono ?_
          rintro x w11 ⟨v', rfl, hkn, b11⟩
          rw [HS8.out.2.2.2.2.2.1] at hkn
          obtain ⟨kA2, kc2, rfl⟩ : ∃ kA kc, v' = .slice kA hl kc := by
            rcases hkn.2 with ⟨e, h0⟩ | ⟨g, cp, cur, e, _⟩
            · exact ⟨none, 0, by rw [e, h0]⟩
            · exact ⟨_, _, e⟩
          have H11 := Lib.hid (H10.out.trans (b11.mono H10.out.size))
          clear hkn b11
          have HQ2 := cn_height (HS8.out.1.below H11.out)
          rw [HS8.out.2.2.2.2.2.2] at HQ2
          go_wp2_with fail
          refine HQ2.mono ?_
          rintro x w11 ⟨rfl, rfl⟩
          have HE : Hid (LwT (· = G) W X (j + 1) (doV cc a) w11 ∧ (∀ k, k < 2 → MpK (doV cc a k)) ∧ GoT w11 G (fun k => totC (doV cc a k)) ∧ W.heap.size ≤ G) := Lib.hid ⟨H8.out.1.below H11.out, H8.out.2.1, (H8.out.2.2.1.below H11.out).congr HEG.out, HWG.out⟩
          clear HQ2
          go_wp2
          go_roundw
          case rel => first | exact ⟨j + 1, _, by go_num, HLT.out, HE.out⟩ | ((repeat apply Exists.intro); refine ⟨⟨j + 1, _, ?_, HLT.out, HE.out⟩, rfl⟩; go_num)
          case measure => have := HLT.out; simp [intOf]; omega
    · obtain rfl : j = l.length := by omega
      clear hlt
      have H4 : Hid (LwT (· = G) W X 60 cc wr ∧ GoT wr G (fun k => totC (cc k))) := Lib.hid ⟨HM.out.mono (by omega), HG.out⟩
      clear HM HG HP
      go_wp2
      go_loopw [19] (fun u wr => ∃ (k : Nat) (cc : Nat → ChV), u = .int .i64 (k : Int) ∧ k ≤ 2 ∧ LwT (· = G) W X (60 + k) cc wr ∧ GoT wr G (fun k => totC (cc k))) (fun u _ => 2 - (intOf u).toNat)
      case atStart => exact ⟨0, cc, rfl, by omega, H4.out⟩
      case round =>
        clear H4
        obtain ⟨k, cc, rfl, hk, hM⟩ := hrel
        have HM : Hid (LwT (· = G) W X (60 + k) cc wr ∧ GoT wr G (fun k => totC (cc k))) := Lib.hid hM
        clear hM
        by_cases hk2 : k < 2
        · obtain ⟨B, P, x0, hc0, hst0, -⟩ := HM.out.1.one k hk2
          have HC0 := Lib.hid hst0
          have HCK := Lib.hid (HM.out.1.ok k hk2)
          have HKL := Lib.hid hk2
          have HX0 := Lib.hid x0
          have i1 : (k : Int) < 2 := by omega
          obtain ⟨c, hc⟩ : ∃ c, c = cc k := ⟨_, rfl⟩
          rw [← hc] at hc0 HCK
          have HCC := Lib.hid hc
          have HCM := Lib.hid (cn_com hc0 HCK.out.ok (by have := HCK.out.nb; omega))
          rw [show comR c.st = .tuple #[.int .u64 ((comV c.st).2.1 : Int), .int .i64 (comV c.st).2.2] from rfl] at HCM
          obtain ⟨hn, hhn⟩ : ∃ hn : Int, hn = ((comV c.st).2.1 : Int) := ⟨_, rfl⟩
          obtain ⟨er, her⟩ : ∃ er, er = (comV c.st).2.2 := ⟨_, rfl⟩
          rw [← hhn, ← her] at HCM
          have HER := Lib.hid her
          clear hc0 hst0 hk2 hc hhn her
          go_wp2_with fail
          refine HCM.out.mono ?_
          rintro x w6 hst
          have hx := hst.1
          subst hx
          obtain ⟨hl6, hf6, hx6⟩ := HC0.out _ _ _ _ (HCK.out.com (by omega)) hst
          have H6 : Hid (LwT (· = G) W X (60 + (k + 1)) (updF cc k (comC c)) w6 ∧ GoT w6 G (fun j => totC (updF cc k (comC c) j)) ∧ w6.heap[X]? = wr.heap[X]?) := Lib.hid ⟨hl6, (HM.out.2.fb hf6 rfl).congr (fun j hj => by
            show totC (updF cc k (comC c) j) = totC (cc j)
            unfold updF
            by_cases e : j = k
            · rw [if_pos e, tot_com, HCC.out, e]
            · rw [if_neg e]), hx6⟩
          clear hl6 hf6 hx6 HCM HC0 x0 hst
          by_cases e0 : er = 0
          · subst e0
            obtain ⟨B', P', x6, hch⟩ := H6.out.1.ask k HKL.out
            have hBB := same_cell H6.out.2.2 HX0.out x6
            injection hBB with hBB
            injection hBB with hBB
            injection hBB with hBB
            obtain rfl : B = B' := hBB.symm
            rw [show updF cc k (comC c) k = comC c from if_pos rfl] at hch
            obtain ⟨c', hc'⟩ : ∃ c', c' = comC c := ⟨_, rfl⟩
            rw [← hc'] at hch
            have HK' : Hid (ChK (60 + (k + 1)) c') := Lib.hid (by rw [hc']; exact HCK.out.com (by omega))
            have hkk := HKL.out
            have HFS : Hid (c'.first ≤ c'.st.height ∧ c'.blks.flatten.length ≤ 70 ∧ c'.blks.length ≤ 70 ∧ 1 ≤ c'.blks.length) := Lib.hid (by
              have h1 := HK'.out.ok.first
              have h2 := HK'.out.ok.len
              have h3 := HK'.out.ok.st.one
              have h4 := HK'.out.tot
              have h5 := HK'.out.nb
              unfold StV.height
              omega)
            have HTT : Hid ((logG c'.blks 0 1000).1.length = totC (updF cc k (comC c) k)) := Lib.hid (by
              have h1 := HFS.out.2.2.2
              have h2 := HFS.out.2.1
              obtain ⟨e1, -, -⟩ := logG_at c'.blks 0 0 1000 (by omega) (Nat.zero_le _)
              simp only [List.drop_zero] at e1
              have hp0 : posL c'.blks 0 0 = 0 := rfl
              rw [hp0, List.drop_zero, List.take_of_length_le (by omega)] at e1
              rw [e1, show updF cc k (comC c) k = comC c from if_pos rfl, ← hc']
              have hb : c'.built = [] := by rw [hc']; unfold comC; rw [if_pos HER.out.symm]
              unfold totC
              rw [hb]; rfl)
            have HCH := Lib.hid hch
            have HXS : Hid (∀ z, Below w6.heap.size w6 z → z.cell? ⟨X, k, none⟩ = some (.pointer (some ⟨B, 0, none⟩))) := Lib.hid (fun z hz => (hz.cell (p := ⟨X, k, none⟩) H6.out.1.xlt).trans x6)
            have HFP := Lib.hid (fun z (hb : Below w6.heap.size w6 z) => cn_firstp (hch.below hb))
            have HLG := Lib.hid (fun z (hb : Below w6.heap.size w6 z) => cn_log (w := z) (c := c') c'.first 0 1000 (hch.below hb) HK'.out.ok ⟨Nat.le_refl _, HFS.out.1⟩ (fun _ => Nat.zero_le _) (by omega) (by omega) (by have := HFS.out.2.2.1; omega) (by have := HFS.out.2.1; omega))
            rw [Nat.sub_self, List.drop_zero, show ((0 : Nat) : Int) = 0 from rfl, show ((1000 : Nat) : Int) = 1000 from rfl] at HLG
            unfold LogPost at HLG
            obtain ⟨lg, hlg⟩ : ∃ lg, lg = logG c'.blks 0 1000 := ⟨_, rfl⟩
            rw [← hlg] at HLG HTT
            obtain ⟨x2, hx2⟩ : ∃ x2, x2 = c'.first + lg.2.1 := ⟨_, rfl⟩
            obtain ⟨ie, hie⟩ : ∃ ie, ie = lg.2.2 := ⟨_, rfl⟩
            obtain ⟨ln, hln⟩ : ∃ ln, ln = lg.1.length := ⟨_, rfl⟩
            rw [← hx2, ← hie, ← hln] at HLG
            rw [← hln] at HTT
            clear hlg hx2 hie hln hch hc' x6 hkk
            go_wp2
            refine wp_region_held_drew (S := fun w' => w'.cell? ⟨X, k, none⟩ = some (.pointer (some ⟨B, 0, none⟩))) (by kernel_rfl) (HXS.out _ (Below.refl _ _).drew) (fun hS0 => ?_)
            have H7 : Hid (Below w6.heap.size w6 w6.drew) := Lib.hid (Below.refl _ _).drew
            generalize w6.drew = z0 at *
            refine wpAnyH_take (i := 0) (v := ?_) rfl (by kernel_rfl) (by kernel_rfl) (by kernel_rfl) (fun _ _ _ h => h) (Or.inl ⟨by kernel_rfl, ?_⟩) (by assumption) ?_
            rotate_left
            · intro w hSw; (try dsimp only at hSw); go_simp; (try with_reducible rfl)
            refine wpAnyH_take (i := 1) (v := ?_) rfl (by kernel_rfl) (by kernel_rfl) (by kernel_rfl) (fun _ _ _ h => h) (Or.inl ⟨by kernel_rfl, ?_⟩) (by assumption) ?_
            rotate_left
            · intro w hSw; (try dsimp only at hSw); go_simp; (try with_reducible rfl)
            refine wpAnyH_take (i := 2) (v := ?_) rfl (by kernel_rfl) (by kernel_rfl) (by kernel_rfl) (fun _ _ _ h => h) (Or.inl ⟨by kernel_rfl, ?_⟩) (by assumption) ?_
            rotate_left
            · intro w hSw; (try dsimp only at hSw); go_simp; (try with_reducible rfl)
            refine wpAnyH_take (i := 3) (v := ?_) rfl (by kernel_rfl) (by kernel_rfl) (by kernel_rfl) (fun _ _ _ h => h) (Or.inl ⟨by kernel_rfl, ?_⟩) (by assumption) ?_
            rotate_left
            · intro w hSw; (try dsimp only at hSw); go_simp; (try with_reducible rfl)
            refine wpAnyH_take (i := 4) (v := ?_) rfl (by kernel_rfl) (by kernel_rfl) (by kernel_rfl) (fun _ _ _ h => h) (Or.inl ⟨by kernel_rfl, ?_⟩) (by assumption) ?_
            rotate_left
            · intro w hSw; (try dsimp only at hSw); go_simp; (try with_reducible rfl)
            refine wpAnyH_take (i := 5) (v := ?_) rfl (by kernel_rfl) (by kernel_rfl) (by kernel_rfl) (fun _ _ _ h => h) (Or.inl ⟨by kernel_rfl, ?_⟩) (by assumption) ?_
            rotate_left
            · intro w hSw; (try dsimp only at hSw); go_simp; (try with_reducible rfl)
            refine wpAnyH_take (i := 6) (v := ?_) rfl (by kernel_rfl) (by kernel_rfl) (by kernel_rfl) (fun _ _ _ h => h) (Or.inl ⟨by kernel_rfl, ?_⟩) (by assumption) ?_
            rotate_left
            · intro w hSw; (try dsimp only at hSw); go_simp; (try with_reducible rfl)
            refine wpAnyH_take (i := 7) (v := ?_) rfl (by kernel_rfl) (by kernel_rfl) (by kernel_rfl) (fun _ _ _ h => h) (Or.inl ⟨by kernel_rfl, ?_⟩) (by assumption) ?_
            rotate_left
            · intro w hSw; (try dsimp only at hSw); go_simp; (try with_reducible rfl)
            refine wpAnyH_take (i := 8) (v := ?_) rfl (by kernel_rfl) (by kernel_rfl) (by kernel_rfl) (fun _ _ _ h => h) (Or.inl ⟨by kernel_rfl, ?_⟩) (by assumption) ?_
            rotate_left
            · intro w hSw; (try dsimp only at hSw); go_simp; (try with_reducible rfl)
            refine wpAnyH_take (i := 9) (v := ?_) rfl (by kernel_rfl) (by kernel_rfl) (by kernel_rfl) (fun _ _ _ h => h) (Or.inl ⟨by kernel_rfl, ?_⟩) (by assumption) ?_
            rotate_left
            · intro w hSw; (try dsimp only at hSw); go_simp; (try with_reducible rfl)
            refine wpAnyH_take (i := 10) (v := ?_) rfl (by kernel_rfl) (by kernel_rfl) (by kernel_rfl) (fun _ _ _ h => h) (Or.inl ⟨by kernel_rfl, ?_⟩) (by assumption) ?_
            rotate_left
            · intro w hSw; (try dsimp only at hSw); go_simp; (try with_reducible rfl)
            refine wpAnyH_take (i := 11) (v := ?_) rfl (by kernel_rfl) (by kernel_rfl) (by kernel_rfl) (fun _ _ _ h => h) (Or.inl ⟨by kernel_rfl, ?_⟩) (by assumption) ?_
            rotate_left
            · intro w hSw; (try dsimp only at hSw); go_simp; (try with_reducible rfl)
            refine wpAnyH_ready (rs := [12, 17]) (by kernel_rfl) (by simp) ?_
            refine AllReadyH.cons rfl (fun K hK => ?g12) (AllReadyH.cons rfl (fun K hK => ?g17) AllReadyH.nil)
            case g12 =>
              go_simp
              refine (HFP.out z0 H7.out).mono ?_
              rintro x z1 ⟨rfl, bz⟩
              have H8 := Lib.hid (H7.out.trans (bz.mono H7.out.size))
              clear bz
              clear hS0
              refine hK.out _ _ (HXS.out _ H8.out) (fun hS0 => ?_)
              clear hK K
              refine wpAnyH_ready (rs := [13, 17]) (by kernel_rfl) (by simp) ?_
              refine AllReadyH.cons rfl (fun K hK => ?g13) (AllReadyH.cons rfl (fun K hK => ?g17b) AllReadyH.nil)
              case g13 =>
                go_simp
                refine (HLG.out z1 H8.out).mono ?_
                rintro x z2 ⟨va, rfl, hown, bz⟩
                obtain ⟨lA, lc, rfl⟩ : ∃ lA lc, va = .slice lA ln lc := by
                  rcases hown.2 with ⟨e, h0⟩ | ⟨g, cp, cur, e, _⟩
                  · exact ⟨none, 0, by rw [e, h0]⟩
                  · exact ⟨_, _, e⟩
                have H9 := Lib.hid (H8.out.trans (bz.mono H8.out.size))
                clear hown
                have H9a := Lib.hid bz.size
                clear bz
                clear hS0 H9a
                refine hK.out _ _ (HXS.out _ H9.out) (fun hS0 => ?_)
                clear hK K
                refine wpAnyH_take (i := 14) (v := ?_) rfl (by kernel_rfl) (by kernel_rfl) (by kernel_rfl) (fun _ _ _ h => h) (Or.inl ⟨by kernel_rfl, ?_⟩) (by assumption) ?_
                rotate_left
                · intro w hSw; (try dsimp only at hSw); go_simp; (try with_reducible rfl)
                refine wpAnyH_take (i := 15) (v := ?_) rfl (by kernel_rfl) (by kernel_rfl) (by kernel_rfl) (fun _ _ _ h => h) (Or.inl ⟨by kernel_rfl, ?_⟩) (by assumption) ?_
                rotate_left
                · intro w hSw; (try dsimp only at hSw); go_simp; (try with_reducible rfl)
                refine wpAnyH_take (i := 16) (v := ?_) rfl (by kernel_rfl) (by kernel_rfl) (by kernel_rfl) (fun _ _ _ h => h) (Or.inl ⟨by kernel_rfl, ?_⟩) (by assumption) ?_
                rotate_left
                · intro w hSw; (try dsimp only at hSw); go_simp; (try with_reducible rfl)
                refine wpAnyH_ready (rs := [17]) (by kernel_rfl) (by simp) ?_
                refine AllReadyH.cons rfl (fun K hK => ?_) AllReadyH.nil
                go_simp
                have HA0 := Lib.hid (H9.out.trans ((Kq.below_alloc z2 (.cells #[.int .u64 0, .int .i64 0] 30)).mono H9.out.size))
                clear hS0
                refine hK.out _ _ (HXS.out _ HA0.out) (fun hS0 => ?_)
                clear hK K
                refine wpAnyH_take (i := 18) (v := ?_) rfl (by kernel_rfl) (by kernel_rfl) (by kernel_rfl) (fun _ _ _ h => h) (Or.inl ⟨by kernel_rfl, ?_⟩) (by assumption) ?_
                rotate_left
                · intro w hSw; (try dsimp only at hSw); go_simp; (try with_reducible rfl)
                refine wpAnyH_ready (rs := [19]) (by kernel_rfl) (by simp) ?_
                refine AllReadyH.cons rfl (fun K hK => ?_) AllReadyH.nil
                go_simp
                have HA1 := Lib.hid (H9.out.trans ((Kq.below_alloc z2 (.cells #[.int .u64 (x2 : Int), .int .i64 (ie : Int)] 30)).mono H9.out.size))
                clear hS0
                refine hK.out _ _ (HXS.out _ HA1.out) (fun hS0 => ?_)
                clear hK K
                refine wpAnyH_done (by kernel_rfl) ?_ _
                clear hS0
                go_simp
                obtain ⟨wz, hwz⟩ : ∃ z, z = z2.alloc (.cells #[.int .u64 (x2 : Int), .int .i64 (ie : Int)] 30) := ⟨_, rfl⟩
                have HZ : Hid (Below w6.heap.size w6 wz) := Lib.hid (by rw [hwz]; exact HA1.out)
                rw [← hwz]
                clear hwz
                have g0 := (H6.out.2.1.below HZ.out).cell k HKL.out
                rw [← HTT.out] at g0
                have HE : Hid (LwT (· = G) W X (60 + (k + 1)) (updF cc k (comC c)) wz ∧ GoT wz G (fun j => totC (updF cc k (comC c) j))) := Lib.hid ⟨H6.out.1.below HZ.out, H6.out.2.1.below HZ.out⟩
                have e9 : ((ln : Int) != (ln : Int)) = false := by simp
                go_wp2
                go_roundw
                case rel => first | exact ⟨k + 1, _, by go_num, HKL.out, HE.out⟩ | ((repeat apply Exists.intro); refine ⟨⟨k + 1, _, ?_, HKL.out, HE.out⟩, rfl⟩; go_num)
                case measure => have := HKL.out; simp [intOf]; omega
              case g17b =>
                go_simp
                have ba := Kq.below_alloc z1 (.cells #[.int .u64 0, .int .i64 0] 30)
                have bn := Kq.blk_new z1 #[.int .u64 0, .int .i64 0] 30 (0, 0)
                obtain ⟨y1, hy⟩ : ∃ z, z = z1.alloc (.cells #[.int .u64 0, .int .i64 0] 30) := ⟨_, rfl⟩
                obtain ⟨Zb, hZb⟩ : ∃ z, z = z1.heap.size := ⟨_, rfl⟩
                rw [← hy] at ba bn ⊢
                rw [← hZb] at bn ⊢
                have HY := Lib.hid (H8.out.trans (ba.mono H8.out.size))
                have HBN : Hid (y1.heap[Zb]? = some (.cells #[.int .u64 0, .int .i64 0] 30 (0, 0)) ∧ w6.heap.size ≤ Zb) := Lib.hid ⟨bn, by rw [hZb]; exact H8.out.size⟩
                clear ba bn hy hZb
                clear hS0
                refine hK.out _ _ (HXS.out _ HY.out) (fun hS0 => ?_)
                clear hK K
                refine wpAnyH_ready (rs := [13]) (by kernel_rfl) (by simp) ?_
                refine AllReadyH.cons rfl (fun K hK => ?_) AllReadyH.nil
                go_simp
                refine (HLG.out y1 HY.out).mono ?_
                rintro x z2 ⟨va, rfl, hown, bz⟩
                obtain ⟨lA, lc, rfl⟩ : ∃ lA lc, va = .slice lA ln lc := by
                  rcases hown.2 with ⟨e, h0⟩ | ⟨g, cp, cur, e, _⟩
                  · exact ⟨none, 0, by rw [e, h0]⟩
                  · exact ⟨_, _, e⟩
                have H9 := Lib.hid (HY.out.trans (bz.mono HY.out.size))
                clear hown
                have HBN2 := Lib.hid (Kq.below_blk bz HBN.out.1 (Kq.blk_lt HBN.out.1))
                clear bz
                clear hS0
                refine hK.out _ _ (HXS.out _ H9.out) (fun hS0 => ?_)
                clear hK K
                refine wpAnyH_take (i := 14) (v := ?_) rfl (by kernel_rfl) (by kernel_rfl) (by kernel_rfl) (fun _ _ _ h => h) (Or.inl ⟨by kernel_rfl, ?_⟩) (by assumption) ?_
                rotate_left
                · intro w hSw; (try dsimp only at hSw); go_simp; (try with_reducible rfl)
                refine wpAnyH_take (i := 15) (v := ?_) rfl (by kernel_rfl) (by kernel_rfl) (by kernel_rfl) (fun _ _ _ h => h) (Or.inl ⟨by kernel_rfl, ?_⟩) (by assumption) ?_
                rotate_left
                · intro w hSw; (try dsimp only at hSw); go_simp; (try with_reducible rfl)
                refine wpAnyH_take (i := 16) (v := ?_) rfl (by kernel_rfl) (by kernel_rfl) (by kernel_rfl) (fun _ _ _ h => h) (Or.inl ⟨by kernel_rfl, ?_⟩) (by assumption) ?_
                rotate_left
                · intro w hSw; (try dsimp only at hSw); go_simp; (try with_reducible rfl)
                refine wpAnyH_take (i := 18) (v := ?_) rfl (by kernel_rfl) (by kernel_rfl) (by kernel_rfl) (fun _ _ _ h => h) (Or.inl ⟨by kernel_rfl, ?_⟩) (by assumption) ?_
                rotate_left
                · intro w hSw; (try dsimp only at hSw); go_simp; (try with_reducible rfl)
                have g0 := Kq.blk_free HBN2.out 0
                have g1 := Kq.blk_free HBN2.out 1
                have r0 := Kq.blk_cell HBN2.out 0
                have r1 := Kq.blk_cell HBN2.out 1
                refine wpAnyH_ready (rs := [19]) (by kernel_rfl) (by simp) ?_
                refine AllReadyH.cons rfl (fun K hK => ?_) AllReadyH.nil
                go_simp
                have HA1 : Hid (Below w6.heap.size w6 ((z2.setCell ⟨Zb, 0, none⟩ (.int .u64 (x2 : Int))).setCell ⟨Zb, 1, none⟩ (.int .i64 (ie : Int)))) := Lib.hid (by
                    have k1 : Kq.Keeps (· = Zb) z2 (z2.setCell ⟨Zb, 0, none⟩ (.int .u64 (x2 : Int))) := Kq.Keeps.setCell _ _ _ rfl
                    have k2 : Kq.Keeps (· = Zb) (z2.setCell ⟨Zb, 0, none⟩ (.int .u64 (x2 : Int))) ((z2.setCell ⟨Zb, 0, none⟩ (.int .u64 (x2 : Int))).setCell ⟨Zb, 1, none⟩ (.int .i64 (ie : Int))) := Kq.Keeps.setCell _ _ _ rfl
                    exact below_past H9.out (k1.trans k2) (Nat.le_refl _) (fun k _ e => by have e : k = Zb := e; have := HBN.out.2; omega))
                clear hS0 g0 g1 r0 r1
                refine hK.out _ _ (HXS.out _ HA1.out) (fun hS0 => ?_)
                clear hK K
                refine wpAnyH_done (by kernel_rfl) ?_ _
                clear hS0
                go_simp
                obtain ⟨wz, hwz⟩ : ∃ z, z = (z2.setCell ⟨Zb, 0, none⟩ (.int .u64 (x2 : Int))).setCell ⟨Zb, 1, none⟩ (.int .i64 (ie : Int)) := ⟨_, rfl⟩
                have HZ : Hid (Below w6.heap.size w6 wz) := Lib.hid (by rw [hwz]; exact HA1.out)
                rw [← hwz]
                clear hwz
                have g0 := (H6.out.2.1.below HZ.out).cell k HKL.out
                rw [← HTT.out] at g0
                have HE : Hid (LwT (· = G) W X (60 + (k + 1)) (updF cc k (comC c)) wz ∧ GoT wz G (fun j => totC (updF cc k (comC c) j))) := Lib.hid ⟨H6.out.1.below HZ.out, H6.out.2.1.below HZ.out⟩
                have e9 : ((ln : Int) != (ln : Int)) = false := by simp
                go_wp2
                go_roundw
                case rel => first | exact ⟨k + 1, _, by go_num, HKL.out, HE.out⟩ | ((repeat apply Exists.intro); refine ⟨⟨k + 1, _, ?_, HKL.out, HE.out⟩, rfl⟩; go_num)
                case measure => have := HKL.out; simp [intOf]; omega
            case g17 =>
              go_simp
              have ba := Kq.below_alloc z0 (.cells #[.int .u64 0, .int .i64 0] 30)
              have bn := Kq.blk_new z0 #[.int .u64 0, .int .i64 0] 30 (0, 0)
              obtain ⟨y1, hy⟩ : ∃ z, z = z0.alloc (.cells #[.int .u64 0, .int .i64 0] 30) := ⟨_, rfl⟩
              obtain ⟨Zb, hZb⟩ : ∃ z, z = z0.heap.size := ⟨_, rfl⟩
              rw [← hy] at ba bn ⊢
              rw [← hZb] at bn ⊢
              have HY := Lib.hid (H7.out.trans (ba.mono H7.out.size))
              have HBN : Hid (y1.heap[Zb]? = some (.cells #[.int .u64 0, .int .i64 0] 30 (0, 0)) ∧ w6.heap.size ≤ Zb) := Lib.hid ⟨bn, by rw [hZb]; exact H7.out.size⟩
              clear ba bn hy hZb
              clear hS0
              refine hK.out _ _ (HXS.out _ HY.out) (fun hS0 => ?_)
              clear hK K
              refine wpAnyH_ready (rs := [12]) (by kernel_rfl) (by simp) ?_
              refine AllReadyH.cons rfl (fun K hK => ?_) AllReadyH.nil
              go_simp
              refine (HFP.out y1 HY.out).mono ?_
              rintro x z1 ⟨rfl, bz⟩
              have H8 := Lib.hid (HY.out.trans (bz.mono HY.out.size))
              have HBN1 := Lib.hid (Kq.below_blk bz HBN.out.1 (Kq.blk_lt HBN.out.1))
              clear bz
              clear hS0
              refine hK.out _ _ (HXS.out _ H8.out) (fun hS0 => ?_)
              clear hK K
              refine wpAnyH_ready (rs := [13]) (by kernel_rfl) (by simp) ?_
              refine AllReadyH.cons rfl (fun K hK => ?_) AllReadyH.nil
              go_simp
              refine (HLG.out z1 H8.out).mono ?_
              rintro x z2 ⟨va, rfl, hown, bz⟩
              obtain ⟨lA, lc, rfl⟩ : ∃ lA lc, va = .slice lA ln lc := by
                rcases hown.2 with ⟨e, h0⟩ | ⟨g, cp, cur, e, _⟩
                · exact ⟨none, 0, by rw [e, h0]⟩
                · exact ⟨_, _, e⟩
              have H9 := Lib.hid (H8.out.trans (bz.mono H8.out.size))
              clear hown
              have HBN2 := Lib.hid (Kq.below_blk bz HBN1.out (Kq.blk_lt HBN1.out))
              clear bz
              clear hS0
              refine hK.out _ _ (HXS.out _ H9.out) (fun hS0 => ?_)
              clear hK K
              refine wpAnyH_take (i := 14) (v := ?_) rfl (by kernel_rfl) (by kernel_rfl) (by kernel_rfl) (fun _ _ _ h => h) (Or.inl ⟨by kernel_rfl, ?_⟩) (by assumption) ?_
              rotate_left
              · intro w hSw; (try dsimp only at hSw); go_simp; (try with_reducible rfl)
              refine wpAnyH_take (i := 15) (v := ?_) rfl (by kernel_rfl) (by kernel_rfl) (by kernel_rfl) (fun _ _ _ h => h) (Or.inl ⟨by kernel_rfl, ?_⟩) (by assumption) ?_
              rotate_left
              · intro w hSw; (try dsimp only at hSw); go_simp; (try with_reducible rfl)
              refine wpAnyH_take (i := 16) (v := ?_) rfl (by kernel_rfl) (by kernel_rfl) (by kernel_rfl) (fun _ _ _ h => h) (Or.inl ⟨by kernel_rfl, ?_⟩) (by assumption) ?_
              rotate_left
              · intro w hSw; (try dsimp only at hSw); go_simp; (try with_reducible rfl)
              refine wpAnyH_take (i := 18) (v := ?_) rfl (by kernel_rfl) (by kernel_rfl) (by kernel_rfl) (fun _ _ _ h => h) (Or.inl ⟨by kernel_rfl, ?_⟩) (by assumption) ?_
              rotate_left
              · intro w hSw; (try dsimp only at hSw); go_simp; (try with_reducible rfl)
              have g0 := Kq.blk_free HBN2.out 0
              have g1 := Kq.blk_free HBN2.out 1
              have r0 := Kq.blk_cell HBN2.out 0
              have r1 := Kq.blk_cell HBN2.out 1
              refine wpAnyH_ready (rs := [19]) (by kernel_rfl) (by simp) ?_
              refine AllReadyH.cons rfl (fun K hK => ?_) AllReadyH.nil
              go_simp
              have HA1 : Hid (Below w6.heap.size w6 ((z2.setCell ⟨Zb, 0, none⟩ (.int .u64 (x2 : Int))).setCell ⟨Zb, 1, none⟩ (.int .i64 (ie : Int)))) := Lib.hid (by
                  have k1 : Kq.Keeps (· = Zb) z2 (z2.setCell ⟨Zb, 0, none⟩ (.int .u64 (x2 : Int))) := Kq.Keeps.setCell _ _ _ rfl
                  have k2 : Kq.Keeps (· = Zb) (z2.setCell ⟨Zb, 0, none⟩ (.int .u64 (x2 : Int))) ((z2.setCell ⟨Zb, 0, none⟩ (.int .u64 (x2 : Int))).setCell ⟨Zb, 1, none⟩ (.int .i64 (ie : Int))) := Kq.Keeps.setCell _ _ _ rfl
                  exact below_past H9.out (k1.trans k2) (Nat.le_refl _) (fun k _ e => by have e : k = Zb := e; have := HBN.out.2; omega))
              clear hS0 g0 g1 r0 r1
              refine hK.out _ _ (HXS.out _ HA1.out) (fun hS0 => ?_)
              clear hK K
              refine wpAnyH_done (by kernel_rfl) ?_ _
              clear hS0
              go_simp
              obtain ⟨wz, hwz⟩ : ∃ z, z = (z2.setCell ⟨Zb, 0, none⟩ (.int .u64 (x2 : Int))).setCell ⟨Zb, 1, none⟩ (.int .i64 (ie : Int)) := ⟨_, rfl⟩
              have HZ : Hid (Below w6.heap.size w6 wz) := Lib.hid (by rw [hwz]; exact HA1.out)
              rw [← hwz]
              clear hwz
              have g0 := (H6.out.2.1.below HZ.out).cell k HKL.out
              rw [← HTT.out] at g0
              have HE : Hid (LwT (· = G) W X (60 + (k + 1)) (updF cc k (comC c)) wz ∧ GoT wz G (fun j => totC (updF cc k (comC c) j))) := Lib.hid ⟨H6.out.1.below HZ.out, H6.out.2.1.below HZ.out⟩
              have e9 : ((ln : Int) != (ln : Int)) = false := by simp
              go_wp2
              go_roundw
              case rel => first | exact ⟨k + 1, _, by go_num, HKL.out, HE.out⟩ | ((repeat apply Exists.intro); refine ⟨⟨k + 1, _, ?_, HKL.out, HE.out⟩, rfl⟩; go_num)
              case measure => have := HKL.out; simp [intOf]; omega
          · have e1 : (er != 0) = true := bne_iff_ne.2 e0
            clear e0
            go_wp2
            go_roundw
            case rel => first | exact ⟨k + 1, _, by go_num, HKL.out, H6.out.1, H6.out.2.1⟩ | ((repeat apply Exists.intro); refine ⟨⟨k + 1, _, ?_, HKL.out, H6.out.1, H6.out.2.1⟩, rfl⟩; go_num)
            case measure => have := HKL.out; simp [intOf]; omega
        · obtain rfl : k = 2 := by omega
          have HE := Lib.hid HM.out.1.bel
          clear hk2 HM
          go_wp2
          go_ret
          exact ⟨rfl, HE.out⟩
end chainStays
theorem chainStays_walk (v0 v1 v2 : Value) {W : World} (k0 : ∃ a b : Nat, v0 = .agg #[.int .u64 (a : Int), .int .u64 (b : Int)] ∧ a < 18446744073709551616 ∧ b < 18446744073709551616) (k1 : ∃ a b : Nat, v1 = .agg #[.int .u64 (a : Int), .int .u64 (b : Int)] ∧ a < 18446744073709551616 ∧ b < 18446744073709551616) (k2 : ∃ A cap l, v2 = .slice A l.length cap ∧ l.length ≤ cap ∧ caE.Lo W W.heap.size A l ∧ ∀ n ∈ l, n.wf) (w : World) (e : W = w) (hL : LaidOk w) :
    Calls Tryz.prog 5 #[v0, v1, v2] w fun x w' => x = .returned (.bool true) ∧ Below w.heap.size w w' := by
  subst e
  obtain ⟨h0, h1, rfl, g0, g1⟩ := k0
  obtain ⟨s0, s1, rfl, g2, g3⟩ := k1
  obtain ⟨A, ca, l, rfl, hca, hA, hwf⟩ := k2
  by_cases hf : FewC s0 s1 l
  · exact chainStays.main h0 h1 s0 s1 A ca l W hA hL hf hwf g0 g1 g2 g3
  · exact chainStays.early h0 h1 s0 s1 A ca l W hA hL hf
end Go.Proofs.YtbjchfcoacmaaaaGreatDoor
