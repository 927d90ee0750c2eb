/- carracklaw20.NetCounts walked. No condition. -/
import Derived.WalkSpells
import Derived.Outline
import Derived.Carry
import Derived.Test.YtahijpfmpdjceaaNetCountsM
namespace Go.Proofs.Ytahijpfmpdjceaa.netCounts
open Go.RowKit
set_option linter.unusedVariables false
/-- what a round needs of its act -/
theorem act_there {W : World} {A : Option Addr} {l : List NAct} (h : NActsAt W A l) (j : Nat) (hj : j < l.length) : ∃ g o, A = some ⟨g, o, none⟩ ∧ g < W.heap.size ∧ IsNAct W g (o + j * 4) l[j] := h j hj
theorem moveL_mem {k t : Nat} {x m : MsgV} {ms : List MsgV} (hm : m ∈ ms) (h : x ∈ moveL k t m ms) : x ∈ ms := by
  unfold moveL at h
  split at h <;> simp only [List.mem_append, List.mem_cons, List.not_mem_nil, or_false] at h
  · rcases h with ((h | h) | h) | h
    · exact List.mem_of_mem_take h
    · exact List.mem_of_mem_drop (List.mem_of_mem_take h)
    · rw [h]; exact hm
    · exact List.mem_of_mem_drop h
  · rcases h with ((h | h) | h) | h
    · exact List.mem_of_mem_take h
    · rw [h]; exact hm
    · exact List.mem_of_mem_drop (List.mem_of_mem_take h)
    · exact List.mem_of_mem_drop h
theorem at_mem {k : Int} {ms : List MsgV} (h : hasF k ms.length = true) : ms[k.toNat]! ∈ ms := by
  obtain ⟨h0, h1⟩ := hasF_true h
  rw [getElem!_pos ms k.toNat (by omega)]
  exact List.getElem_mem _
set_option maxRecDepth 100000 in
set_option maxHeartbeats 8000000 in
theorem few_ (A : Option Addr) (cap : Nat) (l : List NAct) (W : World) (hlm : l.length ≤ maxLen) (ha : NActsAt W A l) :
    Calls Try.prog 5 #[.slice A l.length cap] W fun e w' => e = .returned (.bool true) ∧ Below W.heap.size W w' := by
  have HA := Lib.hid (And.intro ha hlm)
  clear ha hlm
  go_enter Try.func5, Try.ntmps5
  go_wp2_with fail
  refine (awake _).mono ?_
  rintro e w1 ⟨rfl, b1⟩
  have H1 := Lib.hid b1
  clear b1
  go_wp2_with fail
  refine (nt_few A cap l _ HA.out.2 (HA.out.1.later H1.out)).mono ?_
  rintro e w1' ⟨r, rfl, hr, rfl⟩
  cases r with
  | false =>
    go_wp2
    go_ret
    exact ⟨rfl, H1.out⟩
  | true =>
    have HF := Lib.hid (hr rfl)
    have h60 : l.length ≤ 60 := (hr rfl).1
    clear hr
    go_wp2_with fail
    refine (nt_new _).mono ?_
    rintro e w2 ⟨rfl, hs, hb⟩
    have H2 := Lib.hid (NtI.made H1.out hs hb)
    clear hs hb
    generalize w1'.heap.size = N at *
    have hmm := @run_makeMap Try.prog
    go_wp2
    clear hmm
    obtain ⟨w3, hw3⟩ : ∃ z, z = w2.alloc (.map #[] 0) := ⟨_, rfl⟩
    have hc3 : Cn W w3 N w2.heap.size (.slice none 0 0) [] [] 0 := by rw [hw3]; exact Cn.made H2.out
    rw [← hw3]
    generalize w2.heap.size = M at *
    have H3 := Lib.hid hc3
    clear hc3 hw3 H2 H1
    go_loopw [4, 6] (fun cnt i wr => ∃ j : Nat, ∃ v : Value, ∃ ms K : List MsgV, ∃ c : Nat, j ≤ l.length ∧ i = .int .i64 (j : Int) ∧ cnt = .int .i64 (ms.length : Int) ∧ Cn W wr N M v ms K c ∧ c ≤ j * 300 ∧ ∀ m ∈ ms, m ∈ K) (fun cnt i _ => l.length - (intOf i).toNat)
    case atStart => exact ⟨0, _, [], [], 0, Nat.zero_le _, rfl, rfl, H3.out, Nat.zero_le _, fun m hm => by cases hm⟩
    case round =>
      obtain ⟨j, v, ms, K, c, hj, rfl, rfl, hcn, hcj, hsub⟩ := hrel
      have HJ := Lib.hid (And.intro hj hcj)
      have HS := Lib.hid hsub
      have HC := Lib.hid hcn
      clear hj hcj hsub hcn
      by_cases hlt : j < l.length
      · have l1 : (j : Int) < (l.length : Int) := by omega
        have HLT := Lib.hid hlt
        obtain ⟨g, o, rfl, hg, hact0⟩ := act_there HA.out.1 j hlt
        have hact := hact0.later HC.out.net.bel hg
        have hl300 := HF.out.2 j hlt
        generalize l[j] = a at *
        have c0 := hact.c0
        have c1 := hact.c1
        have c2 := hact.c2
        have c3 := hact.c3
        have HACT := Lib.hid (And.intro hact0 hl300)
        clear hact hact0 hg hl300 hlt
        by_cases hk0 : a.kind = 0
        · rw [hk0] at c0
          go_wp2_with fail
          obtain ⟨wb, hwb⟩ : ∃ z, z = wr.alloc (.cells #[.int .i64 0, .int .i64 a.k, .int .i64 a.to, .slice a.la a.l.length a.lcap] 32) := ⟨_, rfl⟩
          rw [← hwb]
          have hbw : Below wr.heap.size wr wb := by rw [hwb]; exact Kq.below_alloc _ _
          have hbx : wb.heap[wr.heap.size]? = some (.cells #[.int .i64 0, .int .i64 a.k, .int .i64 a.to, .slice a.la a.l.length a.lcap] 32 (0, 0)) := by rw [hwb]; exact Kq.blk_new _ _ _ _
          have hno : ∀ x, OwnN N v x → x < wr.heap.size := fun x hx => by
            rcases hx with rfl | e
            · exact Kq.blk_lt HC.out.net.s.blk
            · exact (HC.out.net.s.own.lt x e).2
          have HB := Lib.hid (HC.out.below hbw)
          have HBX := Lib.hid (And.intro hbx hno)
          have hBM : wr.heap.size ≠ M := fun e => by have := HC.out.map.lt; omega
          generalize wr.heap.size = Bx at *
          clear hbw hbx hno hwb c0 c1 c2 c3 HC
          refine (netMoves.nt_listed_apart N N v ms _ HB.out.net.s (by have := HB.out.len; omega)).mono ?_
          rintro e wl ⟨A8, c8, rfl, hc8, h08, hat8, hap8, b8⟩
          have HL := Lib.hid (And.intro (HB.out.below b8) (And.intro hat8 hap8))
          have hbx := Kq.below_blk b8 HBX.out.1 (Kq.blk_lt HBX.out.1)
          have HBY := Lib.hid (And.intro hbx HBX.out.2)
          have bx0 := Kq.blk_cell hbx 0
          have bx1 := Kq.blk_cell hbx 1
          have bx2 := Kq.blk_cell hbx 2
          have bx3 := Kq.blk_cell hbx 3
          simp only [List.getElem?_toArray, List.getElem?_cons_zero, List.getElem?_cons_succ] at bx0 bx1 bx2 bx3
          clear hbx b8 hat8 hap8 HB HBX hc8 h08
          go_wp2_with fail

          refine (nt_send N N v ms a.la a.lcap a.l _ HL.out.1.net.s HL.out.1.len (by have := HACT.out.2; omega) HACT.out.1.cap (HACT.out.1.ms.below HL.out.1.net.bel) HACT.out.1.nil).mono ?_
          rintro e w4 ⟨rfl, hp4⟩
          have hk4 : Kq.Keeps (OwnN N v) wl w4 := by obtain ⟨_, _, h, _⟩ := hp4; exact h
          obtain ⟨s, hs⟩ : ∃ s, s = sendN a.l.length ms.length := ⟨_, rfl⟩
          rw [← hs] at hp4 ⊢
          have hsl : s ≤ a.l.length := by rw [hs]; exact Nat.min_le_left _ _
          have hs6 : ms.length + s ≤ 256 := by have := HL.out.1.len; rw [hs]; unfold sendN; omega
          have hnl : (ms ++ a.l.take s).length = ms.length + s := by rw [List.length_append, List.length_take]; omega
          obtain ⟨v4, hc4⟩ := HL.out.1.step hp4 (by rw [hnl]; exact hs6)
          have hb4 := hk4.blk HBY.out.1 (fun e => absurd (HBY.out.2 _ e) (Nat.lt_irrefl _))
          have HB4 := Lib.hid hb4
          have bx3 := Kq.blk_cell hb4 3
          simp only [List.getElem?_toArray, List.getElem?_cons_zero, List.getElem?_cons_succ] at bx3
          have H4 := Lib.hid hc4
          have HSL := Lib.hid (And.intro hsl (And.intro hs6 hnl))
          have t1 : decide ((s : Int) < 0) = false := decide_eq_false (by omega)
          have t2 : decide ((a.l.length : Int) < (s : Int)) = false := decide_eq_false (by omega)
          have t3 : decide (a.l.length < s) = false := decide_eq_false (by omega)
          have s256 : s ≤ 256 := by omega
          obtain ⟨ns, hns⟩ : ∃ ns, ns = ms ++ a.l.take s := ⟨_, rfl⟩
          obtain ⟨nn, hnn⟩ : ∃ nn, nn = ns.length := ⟨_, rfl⟩
          have t4 : wrap64 ((ms.length : Int) + (s : Int)) = (nn : Int) := by rw [IntWalk.wrap64_in _ (by omega), hnn, hns, hnl]; omega
          have t5 : IntKind.i64.wrap ((ms.length : Int) + (s : Int)) = (nn : Int) := by rw [IntWalk.i64_in _ (by omega), hnn, hns, hnl]; omega
          have HNN := Lib.hid hnn
          have HNS := Lib.hid hns
          rw [← hns] at H4
          clear hp4 hk4 hs hsl hs6 hnl hc4 hb4 HL HBY bx0 bx1 bx2 hns hnn
          go_wp2
          go_loopw [11] (fun i wx => ∃ q c' : Nat, q ≤ s ∧ i = .int .i64 (q : Int) ∧ Cn W wx N M v4 ns (K ++ a.l.take q) c' ∧ c' ≤ c + q ∧ wx.cell? ⟨Bx, 3, none⟩ = some (.slice a.la a.l.length a.lcap)) (fun i _ => s - (intOf i).toNat)
          case atStart => exact ⟨0, c, Nat.zero_le _, rfl, by rw [List.take_zero, List.append_nil]; exact H4.out, Nat.le_refl _, bx3⟩
          case round =>
            obtain ⟨q, c', hq, rfl, hcq, hc'q, hbq⟩ := hrel
            have HI := Lib.hid hcq
            have HQ := Lib.hid (And.intro hq hc'q)
            clear hcq bx3
            by_cases hqs : q < s
            · have l2 : (q : Int) < (s : Int) := by omega
              have hql : q < a.l.length := by have := HSL.out.1; omega
              have l3 : (q : Int) < (a.l.length : Int) := by omega
              have hwf := HACT.out.1.wf _ (List.getElem_mem hql)
              obtain ⟨wp, hrun, hcp, hkp⟩ := HI.out.put (by have := HQ.out.2; have := HJ.out.2; have := HJ.out.1; have := HSL.out.2.1; omega) _ hwf
              rw [List.append_assoc, ← List.take_succ_eq_append_getElem hql] at hcp
              obtain ⟨g2, o2, hA2, hg2, hc2⟩ := (HACT.out.1.ms.below HI.out.net.bel) q hql
              have hb' : wp.cell? ⟨Bx, 3, none⟩ = some (.slice a.la a.l.length a.lcap) := by
                have hlt : Bx < _ := cell_lt hbq
                rw [World.cell?_of_block (hkp.block Bx hlt hBM)]
                exact hbq
              have HB' := Lib.hid hb'
              have HP := Lib.hid hcp
              rw [hA2] at hbq
              generalize a.l[q] = m at *
              have x0 := hc2 0 (by omega)
              have x1 := hc2 1 (by omega)
              have x2 := hc2 2 (by omega)
              have x3 := hc2 3 (by omega)
              have x4 := hc2 4 (by omega)
              have x5 := hc2 5 (by omega)
              have x6 := hc2 6 (by omega)
              have x7 := hc2 7 (by omega)
              simp only [Nat.add_zero, MsgV.cells, List.getElem?_cons_zero, List.getElem?_cons_succ] at x0 x1 x2 x3 x4 x5 x6 x7
              have HQS := Lib.hid hqs
              clear hc2 hg2 hwf hcp hb' hq hc'q
              unfold MsgV.val at hrun
              go_wp2
              go_roundw
              case rel => exact ⟨q + 1, c' + 1, by have := HQS.out; omega, by go_num, HP.out, by have := HQ.out.2; omega, HB'.out⟩
              case measure => simp [intOf]; have := HQS.out; omega
            · have l2 : ¬ (q : Int) < (s : Int) := by omega
              obtain rfl : q = s := by omega
              have HE := Lib.hid HI.out
              have HSU : Hid (∀ m ∈ ns, m ∈ K ++ a.l.take q) := Lib.hid (fun m hm => by
                rw [HNS.out] at hm
                rcases List.mem_append.1 hm with hm | hm
                · exact List.mem_append_left _ (HS.out m hm)
                · exact List.mem_append_right _ hm)
              have HCE : Hid (c' ≤ (j + 1) * 300) := Lib.hid (by have := HQ.out.2; have := HJ.out.2; have := HSL.out.2.1; omega)
              clear hq hc'q hbq
              go_wp2_with fail
              have hls := netMoves.nt_listed N N _ ns _ HE.out.net.s (by have := HE.out.len; omega)
              rw [← HNN.out] at hls
              refine hls.mono ?_
              clear hls
              rintro e wL ⟨AL, cL, rfl, hcL, h0L, hatL, bL⟩
              have HG := Lib.hid (And.intro (HE.out.below bL) hatL)
              clear bL hatL hcL h0L
              have u3 : nn ≤ 256 := by have := HG.out.1.len; have := HNN.out; omega
              have u1 : decide ((256 : Int) < (nn : Int)) = false := decide_eq_false (by omega)
              have u2 : decide (256 < nn) = false := decide_eq_false (by omega)
              clear HE
              go_wp2
              go_loopw [15] (fun i wx => ∃ p : Nat, p ≤ nn ∧ i = .int .i64 (p : Int) ∧ wx = wL) (fun i _ => nn - (intOf i).toNat)
              case atStart => exact ⟨0, Nat.zero_le _, rfl, rfl⟩
              case round =>
                obtain ⟨p, hq, rfl, rfl⟩ := hrel
                by_cases hqt : p < nn
                · have l2 : (p : Int) < (nn : Int) := by omega
                  have hqt' : p < (ns).length := by have := HNN.out; omega
                  obtain ⟨g2, o2, rfl, hg2, hc2⟩ := HG.out.2 p hqt'
                  have hmem : (ns)[p] ∈ (K ++ a.l.take q) := HSU.out _ (List.getElem_mem hqt')
                  have hget := HG.out.1.map.get _ hmem (HG.out.1.wf _ hmem)
                  clear hmem
                  generalize (ns)[p] = m at *
                  have x0 := hc2 0 (by omega)
                  have x1 := hc2 1 (by omega)
                  have x2 := hc2 2 (by omega)
                  have x3 := hc2 3 (by omega)
                  have x4 := hc2 4 (by omega)
                  have x5 := hc2 5 (by omega)
                  have x6 := hc2 6 (by omega)
                  have x7 := hc2 7 (by omega)
                  simp only [Nat.add_zero, MsgV.cells, List.getElem?_cons_zero, List.getElem?_cons_succ] at x0 x1 x2 x3 x4 x5 x6 x7
                  clear hc2 hg2 hqt'
                  unfold MsgV.val at hget
                  go_wp2
                  go_roundw
                  case rel => exact ⟨p + 1, by omega, by go_num, trivial⟩
                  case measure => simp [intOf]; omega
                · have l2 : ¬ (p : Int) < (nn : Int) := by omega
                  go_wp2
                  go_roundw
                  case rel => exact ⟨j + 1, _, ns, (K ++ a.l.take q), _, by have := HLT.out; omega, by go_num, by rw [HNN.out], HG.out.1, HCE.out, HSU.out⟩
                  case measure => simp [intOf]; have := HLT.out; omega
        · by_cases hk1 : a.kind = 1
          · rw [hk1] at c0
            cases hf : hasF a.k ms.length with
            | true =>
              go_wp2_with fail
              obtain ⟨wb, hwb⟩ : ∃ z, z = wr.alloc (.cells #[.int .i64 1, .int .i64 a.k, .int .i64 a.to, .slice a.la a.l.length a.lcap] 32) := ⟨_, rfl⟩
              rw [← hwb]
              have hbw : Below wr.heap.size wr wb := by rw [hwb]; exact Kq.below_alloc _ _
              have hbx : wb.heap[wr.heap.size]? = some (.cells #[.int .i64 1, .int .i64 a.k, .int .i64 a.to, .slice a.la a.l.length a.lcap] 32 (0, 0)) := by rw [hwb]; exact Kq.blk_new _ _ _ _
              have hno : ∀ x, OwnN N v x → x < wr.heap.size := fun x hx => by
                rcases hx with rfl | e
                · exact Kq.blk_lt HC.out.net.s.blk
                · exact (HC.out.net.s.own.lt x e).2
              have HB := Lib.hid (HC.out.below hbw)
              have HBX := Lib.hid (And.intro hbx hno)
              have hBM : wr.heap.size ≠ M := fun e => by have := HC.out.map.lt; omega
              generalize wr.heap.size = Bx at *
              clear hbw hbx hno hwb c0 c1 c2 c3 HC
              refine (netMoves.nt_listed_apart N N v ms _ HB.out.net.s (by have := HB.out.len; omega)).mono ?_
              rintro e wl ⟨A8, c8, rfl, hc8, h08, hat8, hap8, b8⟩
              have HL := Lib.hid (And.intro (HB.out.below b8) (And.intro hat8 hap8))
              have hbx := Kq.below_blk b8 HBX.out.1 (Kq.blk_lt HBX.out.1)
              have HBY := Lib.hid (And.intro hbx HBX.out.2)
              have bx0 := Kq.blk_cell hbx 0
              have bx1 := Kq.blk_cell hbx 1
              have bx2 := Kq.blk_cell hbx 2
              have bx3 := Kq.blk_cell hbx 3
              simp only [List.getElem?_toArray, List.getElem?_cons_zero, List.getElem?_cons_succ] at bx0 bx1 bx2 bx3
              clear hbx b8 hat8 hap8 HB HBX hc8 h08
              go_wp2_with fail

              have hop := nt_take N N v ms a.k _ HL.out.1.net.s HL.out.1.len
              rw [show takeF a.k ms = (ms[a.k.toNat]!, 0, ms.take a.k.toNat ++ ms.drop (a.k.toNat + 1)) from by unfold takeF; exact if_pos hf] at hop
              refine hop.mono ?_
              clear hop
              rintro e w4 ⟨rfl, hp4⟩
              have hk4 : Kq.Keeps (OwnN N v) wl w4 := by obtain ⟨_, _, h, _⟩ := hp4; exact h
              obtain ⟨v4, hc4⟩ := HL.out.1.step hp4 (by have := HL.out.1.len; rw [List.length_append, List.length_take, List.length_drop]; omega)
              have H4 := Lib.hid hc4
              clear hp4 hk4 hc4 bx0 bx1 bx2 bx3 HBY

              have hmem : ms[a.k.toNat]! ∈ ms := at_mem hf
              have HMW := Lib.hid (And.intro (HS.out _ hmem) (HL.out.1.wf _ (HS.out _ hmem)))
              obtain ⟨ns, hns⟩ : ∃ ns, ns = ms.take a.k.toNat ++ ms.drop (a.k.toNat + 1) := ⟨_, rfl⟩
              have hnl : ns.length = ms.length - 1 := by
                obtain ⟨h0, h1⟩ := hasF_true hf
                rw [hns, List.length_append, List.length_take, List.length_drop]; omega
              have h1l : 0 < ms.length := by
                obtain ⟨h0, h1⟩ := hasF_true hf
                omega
              have h2l := HL.out.1.len
              obtain ⟨nn, hnn⟩ : ∃ nn, nn = ns.length := ⟨_, rfl⟩
              have t4 : wrap64 ((ms.length : Int) - 1) = (nn : Int) := by rw [IntWalk.wrap64_in _ (by omega), hnn, hnl]; omega
              have t5 : IntKind.i64.wrap ((ms.length : Int) - 1) = (nn : Int) := by rw [IntWalk.i64_in _ (by omega), hnn, hnl]; omega
              have HSU : Hid (∀ m ∈ ns, m ∈ K) := Lib.hid (fun m hm => by
                rw [hns] at hm
                rcases List.mem_append.1 hm with hm | hm
                · exact HS.out m (List.mem_of_mem_take hm)
                · exact HS.out m (List.mem_of_mem_drop hm))
              have HCE : Hid (c ≤ (j + 1) * 300) := Lib.hid (by have := HJ.out.2; omega)
              have HNN := Lib.hid hnn
              rw [← hns] at H4
              generalize ms[a.k.toNat]! = m at *
              have HE := Lib.hid (H4.out.below (Kq.below_alloc w4 (.cells #[.int .i64 m.kind, .int .i64 m.to, .int .u64 m.ht, .int .i64 m.fr, .int .u64 m.sq, .int .u64 m.tm, .string m.d, .string m.p] 39)))
              have hget := HE.out.map.get m HMW.out.1 HMW.out.2
              unfold MsgV.val at hget ⊢
              clear hmem hns hnl h1l h2l hnn H4 HL hf

              go_wp2_with fail
              have hls := netMoves.nt_listed N N _ ns _ HE.out.net.s (by have := HE.out.len; omega)
              rw [← HNN.out] at hls
              refine hls.mono ?_
              clear hls
              rintro e wL ⟨AL, cL, rfl, hcL, h0L, hatL, bL⟩
              have HG := Lib.hid (And.intro (HE.out.below bL) hatL)
              clear bL hatL hcL h0L
              have u3 : nn ≤ 256 := by have := HG.out.1.len; have := HNN.out; omega
              have u1 : decide ((256 : Int) < (nn : Int)) = false := decide_eq_false (by omega)
              have u2 : decide (256 < nn) = false := decide_eq_false (by omega)
              clear HE
              go_wp2
              go_loopw [15] (fun i wx => ∃ p : Nat, p ≤ nn ∧ i = .int .i64 (p : Int) ∧ wx = wL) (fun i _ => nn - (intOf i).toNat)
              case atStart => exact ⟨0, Nat.zero_le _, rfl, rfl⟩
              case round =>
                obtain ⟨p, hq, rfl, rfl⟩ := hrel
                by_cases hqt : p < nn
                · have l2 : (p : Int) < (nn : Int) := by omega
                  have hqt' : p < (ns).length := by have := HNN.out; omega
                  obtain ⟨g2, o2, rfl, hg2, hc2⟩ := HG.out.2 p hqt'
                  have hmem : (ns)[p] ∈ K := HSU.out _ (List.getElem_mem hqt')
                  have hget := HG.out.1.map.get _ hmem (HG.out.1.wf _ hmem)
                  clear hmem
                  generalize (ns)[p] = m at *
                  have x0 := hc2 0 (by omega)
                  have x1 := hc2 1 (by omega)
                  have x2 := hc2 2 (by omega)
                  have x3 := hc2 3 (by omega)
                  have x4 := hc2 4 (by omega)
                  have x5 := hc2 5 (by omega)
                  have x6 := hc2 6 (by omega)
                  have x7 := hc2 7 (by omega)
                  simp only [Nat.add_zero, MsgV.cells, List.getElem?_cons_zero, List.getElem?_cons_succ] at x0 x1 x2 x3 x4 x5 x6 x7
                  clear hc2 hg2 hqt'
                  unfold MsgV.val at hget
                  go_wp2
                  go_roundw
                  case rel => exact ⟨p + 1, by omega, by go_num, trivial⟩
                  case measure => simp [intOf]; omega
                · have l2 : ¬ (p : Int) < (nn : Int) := by omega
                  go_wp2
                  go_roundw
                  case rel => exact ⟨j + 1, _, ns, K, _, by have := HLT.out; omega, by go_num, by rw [HNN.out], HG.out.1, HCE.out, HSU.out⟩
                  case measure => simp [intOf]; have := HLT.out; omega
            | false =>
              go_wp2_with fail
              obtain ⟨wb, hwb⟩ : ∃ z, z = wr.alloc (.cells #[.int .i64 1, .int .i64 a.k, .int .i64 a.to, .slice a.la a.l.length a.lcap] 32) := ⟨_, rfl⟩
              rw [← hwb]
              have hbw : Below wr.heap.size wr wb := by rw [hwb]; exact Kq.below_alloc _ _
              have hbx : wb.heap[wr.heap.size]? = some (.cells #[.int .i64 1, .int .i64 a.k, .int .i64 a.to, .slice a.la a.l.length a.lcap] 32 (0, 0)) := by rw [hwb]; exact Kq.blk_new _ _ _ _
              have hno : ∀ x, OwnN N v x → x < wr.heap.size := fun x hx => by
                rcases hx with rfl | e
                · exact Kq.blk_lt HC.out.net.s.blk
                · exact (HC.out.net.s.own.lt x e).2
              have HB := Lib.hid (HC.out.below hbw)
              have HBX := Lib.hid (And.intro hbx hno)
              have hBM : wr.heap.size ≠ M := fun e => by have := HC.out.map.lt; omega
              generalize wr.heap.size = Bx at *
              clear hbw hbx hno hwb c0 c1 c2 c3 HC
              refine (netMoves.nt_listed_apart N N v ms _ HB.out.net.s (by have := HB.out.len; omega)).mono ?_
              rintro e wl ⟨A8, c8, rfl, hc8, h08, hat8, hap8, b8⟩
              have HL := Lib.hid (And.intro (HB.out.below b8) (And.intro hat8 hap8))
              have hbx := Kq.below_blk b8 HBX.out.1 (Kq.blk_lt HBX.out.1)
              have HBY := Lib.hid (And.intro hbx HBX.out.2)
              have bx0 := Kq.blk_cell hbx 0
              have bx1 := Kq.blk_cell hbx 1
              have bx2 := Kq.blk_cell hbx 2
              have bx3 := Kq.blk_cell hbx 3
              simp only [List.getElem?_toArray, List.getElem?_cons_zero, List.getElem?_cons_succ] at bx0 bx1 bx2 bx3
              clear hbx b8 hat8 hap8 HB HBX hc8 h08
              go_wp2_with fail

              have hop := nt_take N N v ms a.k _ HL.out.1.net.s HL.out.1.len
              rw [show takeF a.k ms = (zeroM, 3, ms) from by unfold takeF; exact if_neg (by rw [hf]; decide)] at hop
              refine hop.mono ?_
              clear hop
              rintro e w4 ⟨rfl, hp4⟩
              have hk4 : Kq.Keeps (OwnN N v) wl w4 := by obtain ⟨_, _, h, _⟩ := hp4; exact h
              obtain ⟨v4, hc4⟩ := HL.out.1.step hp4 (by exact HL.out.1.len)
              have H4 := Lib.hid hc4
              have HWA := Lib.hid (HL.out.2.1.keeps hk4 HL.out.2.2)
              clear hp4 hk4 hc4 bx0 bx1 bx2 bx3 HBY
              have HSU : Hid (∀ m ∈ ms, m ∈ K) := HS
              have HCE : Hid (c ≤ (j + 1) * 300) := Lib.hid (by have := HJ.out.2; omega)
              have HNN : Hid (ms.length = ms.length) := Lib.hid rfl

              have HWA := Lib.hid (HWA.out.below (Kq.below_alloc w4 (.cells #[.int .i64 0, .int .i64 0, .int .u64 0, .int .i64 0, .int .u64 0, .int .u64 0, .string ⟨#[]⟩, .string ⟨#[]⟩] 39)))
              have HE := Lib.hid (H4.out.below (Kq.below_alloc w4 (.cells #[.int .i64 0, .int .i64 0, .int .u64 0, .int .i64 0, .int .u64 0, .int .u64 0, .string ⟨#[]⟩, .string ⟨#[]⟩] 39)))
              unfold MsgV.val zeroM
              clear H4 HL hf

              go_wp2_with fail
              have hls := netMoves.nt_listed N N _ ms _ HE.out.net.s (by have := HE.out.len; omega)
              refine hls.mono ?_
              clear hls
              rintro e wL ⟨AL, cL, rfl, hcL, h0L, hatL, bL⟩
              have HG := Lib.hid (And.intro (HE.out.below bL) hatL)
              have HWB := Lib.hid (HWA.out.below bL)
              clear bL hatL hcL h0L
              have u3 : ms.length ≤ 256 := by have := HG.out.1.len; have := HNN.out; omega
              have u1 : decide ((256 : Int) < (ms.length : Int)) = false := decide_eq_false (by omega)
              have u2 : decide (256 < ms.length) = false := decide_eq_false (by omega)
              clear HE
              go_wp2_with fail
              refine (same_self ms AL A8 cL c8 _ (by have := HG.out.1.len; omega) HG.out.2 HWB.out).mono ?_
              rintro e wS ⟨rfl, rS, rfl⟩
              have HG := Lib.hid (And.intro (HG.out.1.below ⟨rfl, rfl, rfl, Nat.le_refl _, fun _ _ => rfl⟩ : Cn W (wL.drewN rS) N M _ ms K c) (MsAt.below (w := wL) HG.out.2 ⟨rfl, rfl, rfl, Nat.le_refl _, fun _ _ => rfl⟩ : MsAt (wL.drewN rS) AL ms))
              generalize wL.drewN rS = wS at *
              go_wp2
              go_loopw [15] (fun i wx => ∃ p : Nat, p ≤ ms.length ∧ i = .int .i64 (p : Int) ∧ wx = wS) (fun i _ => ms.length - (intOf i).toNat)
              case atStart => exact ⟨0, Nat.zero_le _, rfl, rfl⟩
              case round =>
                obtain ⟨p, hq, rfl, rfl⟩ := hrel
                by_cases hqt : p < ms.length
                · have l2 : (p : Int) < (ms.length : Int) := by omega
                  have hqt' : p < (ms).length := by have := HNN.out; omega
                  obtain ⟨g2, o2, rfl, hg2, hc2⟩ := HG.out.2 p hqt'
                  have hmem : (ms)[p] ∈ K := HSU.out _ (List.getElem_mem hqt')
                  have hget := HG.out.1.map.get _ hmem (HG.out.1.wf _ hmem)
                  clear hmem
                  generalize (ms)[p] = m at *
                  have x0 := hc2 0 (by omega)
                  have x1 := hc2 1 (by omega)
                  have x2 := hc2 2 (by omega)
                  have x3 := hc2 3 (by omega)
                  have x4 := hc2 4 (by omega)
                  have x5 := hc2 5 (by omega)
                  have x6 := hc2 6 (by omega)
                  have x7 := hc2 7 (by omega)
                  simp only [Nat.add_zero, MsgV.cells, List.getElem?_cons_zero, List.getElem?_cons_succ] at x0 x1 x2 x3 x4 x5 x6 x7
                  clear hc2 hg2 hqt'
                  unfold MsgV.val at hget
                  go_wp2
                  go_roundw
                  case rel => exact ⟨p + 1, by omega, by go_num, trivial⟩
                  case measure => simp [intOf]; omega
                · have l2 : ¬ (p : Int) < (ms.length : Int) := by omega
                  go_wp2
                  go_roundw
                  case rel => exact ⟨j + 1, _, ms, K, _, by have := HLT.out; omega, by go_num, rfl, HG.out.1, HCE.out, HSU.out⟩
                  case measure => simp [intOf]; have := HLT.out; omega
          · by_cases hk2 : a.kind = 2
            · rw [hk2] at c0
              cases hf : hasF a.k ms.length with
              | true =>
                by_cases hf2 : ms.length < 256
                · go_wp2_with fail
                  obtain ⟨wb, hwb⟩ : ∃ z, z = wr.alloc (.cells #[.int .i64 2, .int .i64 a.k, .int .i64 a.to, .slice a.la a.l.length a.lcap] 32) := ⟨_, rfl⟩
                  rw [← hwb]
                  have hbw : Below wr.heap.size wr wb := by rw [hwb]; exact Kq.below_alloc _ _
                  have hbx : wb.heap[wr.heap.size]? = some (.cells #[.int .i64 2, .int .i64 a.k, .int .i64 a.to, .slice a.la a.l.length a.lcap] 32 (0, 0)) := by rw [hwb]; exact Kq.blk_new _ _ _ _
                  have hno : ∀ x, OwnN N v x → x < wr.heap.size := fun x hx => by
                    rcases hx with rfl | e
                    · exact Kq.blk_lt HC.out.net.s.blk
                    · exact (HC.out.net.s.own.lt x e).2
                  have HB := Lib.hid (HC.out.below hbw)
                  have HBX := Lib.hid (And.intro hbx hno)
                  have hBM : wr.heap.size ≠ M := fun e => by have := HC.out.map.lt; omega
                  generalize wr.heap.size = Bx at *
                  clear hbw hbx hno hwb c0 c1 c2 c3 HC
                  refine (netMoves.nt_listed_apart N N v ms _ HB.out.net.s (by have := HB.out.len; omega)).mono ?_
                  rintro e wl ⟨A8, c8, rfl, hc8, h08, hat8, hap8, b8⟩
                  have HL := Lib.hid (And.intro (HB.out.below b8) (And.intro hat8 hap8))
                  have hbx := Kq.below_blk b8 HBX.out.1 (Kq.blk_lt HBX.out.1)
                  have HBY := Lib.hid (And.intro hbx HBX.out.2)
                  have bx0 := Kq.blk_cell hbx 0
                  have bx1 := Kq.blk_cell hbx 1
                  have bx2 := Kq.blk_cell hbx 2
                  have bx3 := Kq.blk_cell hbx 3
                  simp only [List.getElem?_toArray, List.getElem?_cons_zero, List.getElem?_cons_succ] at bx0 bx1 bx2 bx3
                  clear hbx b8 hat8 hap8 HB HBX hc8 h08
                  go_wp2_with fail

                  have hop := nt_twice N N v ms a.k _ HL.out.1.net.s HL.out.1.len
                  rw [show twF a.k ms = (ms ++ [ms[a.k.toNat]!], 0) from by unfold twF; rw [if_pos hf, if_pos hf2]] at hop
                  refine hop.mono ?_
                  clear hop
                  rintro e w4 ⟨rfl, hp4⟩
                  have hk4 : Kq.Keeps (OwnN N v) wl w4 := by obtain ⟨_, _, h, _⟩ := hp4; exact h
                  obtain ⟨v4, hc4⟩ := HL.out.1.step hp4 (by rw [List.length_append, List.length_cons, List.length_nil]; omega)
                  have H4 := Lib.hid hc4
                  clear hp4 hk4 hc4 bx0 bx1 bx2 bx3 HBY

                  have hmem : ms[a.k.toNat]! ∈ ms := at_mem hf
                  obtain ⟨ns, hns⟩ : ∃ ns, ns = ms ++ [ms[a.k.toNat]!] := ⟨_, rfl⟩
                  have hnl : ns.length = ms.length + 1 := by rw [hns, List.length_append, List.length_cons, List.length_nil]
                  obtain ⟨nn, hnn⟩ : ∃ nn, nn = ns.length := ⟨_, rfl⟩
                  have t4 : wrap64 ((ms.length : Int) + 1) = (nn : Int) := by rw [IntWalk.wrap64_in _ (by omega), hnn, hnl]; omega
                  have t5 : IntKind.i64.wrap ((ms.length : Int) + 1) = (nn : Int) := by rw [IntWalk.i64_in _ (by omega), hnn, hnl]; omega
                  have HSU : Hid (∀ m ∈ ns, m ∈ K) := Lib.hid (fun m hm => by
                    rw [hns] at hm
                    rcases List.mem_append.1 hm with hm | hm
                    · exact HS.out m hm
                    · simp only [List.mem_cons, List.not_mem_nil, or_false] at hm
                      rw [hm]; exact HS.out _ hmem)
                  have HCE : Hid (c ≤ (j + 1) * 300) := Lib.hid (by have := HJ.out.2; omega)
                  have HNN := Lib.hid hnn
                  rw [← hns] at H4
                  have HE := Lib.hid H4.out
                  clear hmem hns hnl hnn H4 HL hf hf2

                  go_wp2_with fail
                  have hls := netMoves.nt_listed N N _ ns _ HE.out.net.s (by have := HE.out.len; omega)
                  rw [← HNN.out] at hls
                  refine hls.mono ?_
                  clear hls
                  rintro e wL ⟨AL, cL, rfl, hcL, h0L, hatL, bL⟩
                  have HG := Lib.hid (And.intro (HE.out.below bL) hatL)
                  clear bL hatL hcL h0L
                  have u3 : nn ≤ 256 := by have := HG.out.1.len; have := HNN.out; omega
                  have u1 : decide ((256 : Int) < (nn : Int)) = false := decide_eq_false (by omega)
                  have u2 : decide (256 < nn) = false := decide_eq_false (by omega)
                  clear HE
                  go_wp2
                  go_loopw [15] (fun i wx => ∃ p : Nat, p ≤ nn ∧ i = .int .i64 (p : Int) ∧ wx = wL) (fun i _ => nn - (intOf i).toNat)
                  case atStart => exact ⟨0, Nat.zero_le _, rfl, rfl⟩
                  case round =>
                    obtain ⟨p, hq, rfl, rfl⟩ := hrel
                    by_cases hqt : p < nn
                    · have l2 : (p : Int) < (nn : Int) := by omega
                      have hqt' : p < (ns).length := by have := HNN.out; omega
                      obtain ⟨g2, o2, rfl, hg2, hc2⟩ := HG.out.2 p hqt'
                      have hmem : (ns)[p] ∈ K := HSU.out _ (List.getElem_mem hqt')
                      have hget := HG.out.1.map.get _ hmem (HG.out.1.wf _ hmem)
                      clear hmem
                      generalize (ns)[p] = m at *
                      have x0 := hc2 0 (by omega)
                      have x1 := hc2 1 (by omega)
                      have x2 := hc2 2 (by omega)
                      have x3 := hc2 3 (by omega)
                      have x4 := hc2 4 (by omega)
                      have x5 := hc2 5 (by omega)
                      have x6 := hc2 6 (by omega)
                      have x7 := hc2 7 (by omega)
                      simp only [Nat.add_zero, MsgV.cells, List.getElem?_cons_zero, List.getElem?_cons_succ] at x0 x1 x2 x3 x4 x5 x6 x7
                      clear hc2 hg2 hqt'
                      unfold MsgV.val at hget
                      go_wp2
                      go_roundw
                      case rel => exact ⟨p + 1, by omega, by go_num, trivial⟩
                      case measure => simp [intOf]; omega
                    · have l2 : ¬ (p : Int) < (nn : Int) := by omega
                      go_wp2
                      go_roundw
                      case rel => exact ⟨j + 1, _, ns, K, _, by have := HLT.out; omega, by go_num, by rw [HNN.out], HG.out.1, HCE.out, HSU.out⟩
                      case measure => simp [intOf]; have := HLT.out; omega
                · go_wp2_with fail
                  obtain ⟨wb, hwb⟩ : ∃ z, z = wr.alloc (.cells #[.int .i64 2, .int .i64 a.k, .int .i64 a.to, .slice a.la a.l.length a.lcap] 32) := ⟨_, rfl⟩
                  rw [← hwb]
                  have hbw : Below wr.heap.size wr wb := by rw [hwb]; exact Kq.below_alloc _ _
                  have hbx : wb.heap[wr.heap.size]? = some (.cells #[.int .i64 2, .int .i64 a.k, .int .i64 a.to, .slice a.la a.l.length a.lcap] 32 (0, 0)) := by rw [hwb]; exact Kq.blk_new _ _ _ _
                  have hno : ∀ x, OwnN N v x → x < wr.heap.size := fun x hx => by
                    rcases hx with rfl | e
                    · exact Kq.blk_lt HC.out.net.s.blk
                    · exact (HC.out.net.s.own.lt x e).2
                  have HB := Lib.hid (HC.out.below hbw)
                  have HBX := Lib.hid (And.intro hbx hno)
                  have hBM : wr.heap.size ≠ M := fun e => by have := HC.out.map.lt; omega
                  generalize wr.heap.size = Bx at *
                  clear hbw hbx hno hwb c0 c1 c2 c3 HC
                  refine (netMoves.nt_listed_apart N N v ms _ HB.out.net.s (by have := HB.out.len; omega)).mono ?_
                  rintro e wl ⟨A8, c8, rfl, hc8, h08, hat8, hap8, b8⟩
                  have HL := Lib.hid (And.intro (HB.out.below b8) (And.intro hat8 hap8))
                  have hbx := Kq.below_blk b8 HBX.out.1 (Kq.blk_lt HBX.out.1)
                  have HBY := Lib.hid (And.intro hbx HBX.out.2)
                  have bx0 := Kq.blk_cell hbx 0
                  have bx1 := Kq.blk_cell hbx 1
                  have bx2 := Kq.blk_cell hbx 2
                  have bx3 := Kq.blk_cell hbx 3
                  simp only [List.getElem?_toArray, List.getElem?_cons_zero, List.getElem?_cons_succ] at bx0 bx1 bx2 bx3
                  clear hbx b8 hat8 hap8 HB HBX hc8 h08
                  go_wp2_with fail

                  have hop := nt_twice N N v ms a.k _ HL.out.1.net.s HL.out.1.len
                  rw [show twF a.k ms = (ms, 2) from by unfold twF; rw [if_pos hf, if_neg hf2]] at hop
                  refine hop.mono ?_
                  clear hop
                  rintro e w4 ⟨rfl, hp4⟩
                  have hk4 : Kq.Keeps (OwnN N v) wl w4 := by obtain ⟨_, _, h, _⟩ := hp4; exact h
                  obtain ⟨v4, hc4⟩ := HL.out.1.step hp4 (by exact HL.out.1.len)
                  have H4 := Lib.hid hc4
                  have HWA := Lib.hid (HL.out.2.1.keeps hk4 HL.out.2.2)
                  clear hp4 hk4 hc4 bx0 bx1 bx2 bx3 HBY
                  have HSU : Hid (∀ m ∈ ms, m ∈ K) := HS
                  have HCE : Hid (c ≤ (j + 1) * 300) := Lib.hid (by have := HJ.out.2; omega)
                  have HNN : Hid (ms.length = ms.length) := Lib.hid rfl
                  have HE := Lib.hid H4.out
                  clear H4 HL hf hf2

                  go_wp2_with fail
                  have hls := netMoves.nt_listed N N _ ms _ HE.out.net.s (by have := HE.out.len; omega)
                  refine hls.mono ?_
                  clear hls
                  rintro e wL ⟨AL, cL, rfl, hcL, h0L, hatL, bL⟩
                  have HG := Lib.hid (And.intro (HE.out.below bL) hatL)
                  have HWB := Lib.hid (HWA.out.below bL)
                  clear bL hatL hcL h0L
                  have u3 : ms.length ≤ 256 := by have := HG.out.1.len; have := HNN.out; omega
                  have u1 : decide ((256 : Int) < (ms.length : Int)) = false := decide_eq_false (by omega)
                  have u2 : decide (256 < ms.length) = false := decide_eq_false (by omega)
                  clear HE
                  go_wp2_with fail
                  refine (same_self ms AL A8 cL c8 _ (by have := HG.out.1.len; omega) HG.out.2 HWB.out).mono ?_
                  rintro e wS ⟨rfl, rS, rfl⟩
                  have HG := Lib.hid (And.intro (HG.out.1.below ⟨rfl, rfl, rfl, Nat.le_refl _, fun _ _ => rfl⟩ : Cn W (wL.drewN rS) N M _ ms K c) (MsAt.below (w := wL) HG.out.2 ⟨rfl, rfl, rfl, Nat.le_refl _, fun _ _ => rfl⟩ : MsAt (wL.drewN rS) AL ms))
                  generalize wL.drewN rS = wS at *
                  go_wp2
                  go_loopw [15] (fun i wx => ∃ p : Nat, p ≤ ms.length ∧ i = .int .i64 (p : Int) ∧ wx = wS) (fun i _ => ms.length - (intOf i).toNat)
                  case atStart => exact ⟨0, Nat.zero_le _, rfl, rfl⟩
                  case round =>
                    obtain ⟨p, hq, rfl, rfl⟩ := hrel
                    by_cases hqt : p < ms.length
                    · have l2 : (p : Int) < (ms.length : Int) := by omega
                      have hqt' : p < (ms).length := by have := HNN.out; omega
                      obtain ⟨g2, o2, rfl, hg2, hc2⟩ := HG.out.2 p hqt'
                      have hmem : (ms)[p] ∈ K := HSU.out _ (List.getElem_mem hqt')
                      have hget := HG.out.1.map.get _ hmem (HG.out.1.wf _ hmem)
                      clear hmem
                      generalize (ms)[p] = m at *
                      have x0 := hc2 0 (by omega)
                      have x1 := hc2 1 (by omega)
                      have x2 := hc2 2 (by omega)
                      have x3 := hc2 3 (by omega)
                      have x4 := hc2 4 (by omega)
                      have x5 := hc2 5 (by omega)
                      have x6 := hc2 6 (by omega)
                      have x7 := hc2 7 (by omega)
                      simp only [Nat.add_zero, MsgV.cells, List.getElem?_cons_zero, List.getElem?_cons_succ] at x0 x1 x2 x3 x4 x5 x6 x7
                      clear hc2 hg2 hqt'
                      unfold MsgV.val at hget
                      go_wp2
                      go_roundw
                      case rel => exact ⟨p + 1, by omega, by go_num, trivial⟩
                      case measure => simp [intOf]; omega
                    · have l2 : ¬ (p : Int) < (ms.length : Int) := by omega
                      go_wp2
                      go_roundw
                      case rel => exact ⟨j + 1, _, ms, K, _, by have := HLT.out; omega, by go_num, rfl, HG.out.1, HCE.out, HSU.out⟩
                      case measure => simp [intOf]; have := HLT.out; omega
              | false =>
                go_wp2_with fail
                obtain ⟨wb, hwb⟩ : ∃ z, z = wr.alloc (.cells #[.int .i64 2, .int .i64 a.k, .int .i64 a.to, .slice a.la a.l.length a.lcap] 32) := ⟨_, rfl⟩
                rw [← hwb]
                have hbw : Below wr.heap.size wr wb := by rw [hwb]; exact Kq.below_alloc _ _
                have hbx : wb.heap[wr.heap.size]? = some (.cells #[.int .i64 2, .int .i64 a.k, .int .i64 a.to, .slice a.la a.l.length a.lcap] 32 (0, 0)) := by rw [hwb]; exact Kq.blk_new _ _ _ _
                have hno : ∀ x, OwnN N v x → x < wr.heap.size := fun x hx => by
                  rcases hx with rfl | e
                  · exact Kq.blk_lt HC.out.net.s.blk
                  · exact (HC.out.net.s.own.lt x e).2
                have HB := Lib.hid (HC.out.below hbw)
                have HBX := Lib.hid (And.intro hbx hno)
                have hBM : wr.heap.size ≠ M := fun e => by have := HC.out.map.lt; omega
                generalize wr.heap.size = Bx at *
                clear hbw hbx hno hwb c0 c1 c2 c3 HC
                refine (netMoves.nt_listed_apart N N v ms _ HB.out.net.s (by have := HB.out.len; omega)).mono ?_
                rintro e wl ⟨A8, c8, rfl, hc8, h08, hat8, hap8, b8⟩
                have HL := Lib.hid (And.intro (HB.out.below b8) (And.intro hat8 hap8))
                have hbx := Kq.below_blk b8 HBX.out.1 (Kq.blk_lt HBX.out.1)
                have HBY := Lib.hid (And.intro hbx HBX.out.2)
                have bx0 := Kq.blk_cell hbx 0
                have bx1 := Kq.blk_cell hbx 1
                have bx2 := Kq.blk_cell hbx 2
                have bx3 := Kq.blk_cell hbx 3
                simp only [List.getElem?_toArray, List.getElem?_cons_zero, List.getElem?_cons_succ] at bx0 bx1 bx2 bx3
                clear hbx b8 hat8 hap8 HB HBX hc8 h08
                go_wp2_with fail

                have hop := nt_twice N N v ms a.k _ HL.out.1.net.s HL.out.1.len
                rw [show twF a.k ms = (ms, 3) from by unfold twF; exact if_neg (by rw [hf]; decide)] at hop
                refine hop.mono ?_
                clear hop
                rintro e w4 ⟨rfl, hp4⟩
                have hk4 : Kq.Keeps (OwnN N v) wl w4 := by obtain ⟨_, _, h, _⟩ := hp4; exact h
                obtain ⟨v4, hc4⟩ := HL.out.1.step hp4 (by exact HL.out.1.len)
                have H4 := Lib.hid hc4
                have HWA := Lib.hid (HL.out.2.1.keeps hk4 HL.out.2.2)
                clear hp4 hk4 hc4 bx0 bx1 bx2 bx3 HBY
                have HSU : Hid (∀ m ∈ ms, m ∈ K) := HS
                have HCE : Hid (c ≤ (j + 1) * 300) := Lib.hid (by have := HJ.out.2; omega)
                have HNN : Hid (ms.length = ms.length) := Lib.hid rfl
                have HE := Lib.hid H4.out
                clear H4 HL hf

                go_wp2_with fail
                have hls := netMoves.nt_listed N N _ ms _ HE.out.net.s (by have := HE.out.len; omega)
                refine hls.mono ?_
                clear hls
                rintro e wL ⟨AL, cL, rfl, hcL, h0L, hatL, bL⟩
                have HG := Lib.hid (And.intro (HE.out.below bL) hatL)
                have HWB := Lib.hid (HWA.out.below bL)
                clear bL hatL hcL h0L
                have u3 : ms.length ≤ 256 := by have := HG.out.1.len; have := HNN.out; omega
                have u1 : decide ((256 : Int) < (ms.length : Int)) = false := decide_eq_false (by omega)
                have u2 : decide (256 < ms.length) = false := decide_eq_false (by omega)
                clear HE
                go_wp2_with fail
                refine (same_self ms AL A8 cL c8 _ (by have := HG.out.1.len; omega) HG.out.2 HWB.out).mono ?_
                rintro e wS ⟨rfl, rS, rfl⟩
                have HG := Lib.hid (And.intro (HG.out.1.below ⟨rfl, rfl, rfl, Nat.le_refl _, fun _ _ => rfl⟩ : Cn W (wL.drewN rS) N M _ ms K c) (MsAt.below (w := wL) HG.out.2 ⟨rfl, rfl, rfl, Nat.le_refl _, fun _ _ => rfl⟩ : MsAt (wL.drewN rS) AL ms))
                generalize wL.drewN rS = wS at *
                go_wp2
                go_loopw [15] (fun i wx => ∃ p : Nat, p ≤ ms.length ∧ i = .int .i64 (p : Int) ∧ wx = wS) (fun i _ => ms.length - (intOf i).toNat)
                case atStart => exact ⟨0, Nat.zero_le _, rfl, rfl⟩
                case round =>
                  obtain ⟨p, hq, rfl, rfl⟩ := hrel
                  by_cases hqt : p < ms.length
                  · have l2 : (p : Int) < (ms.length : Int) := by omega
                    have hqt' : p < (ms).length := by have := HNN.out; omega
                    obtain ⟨g2, o2, rfl, hg2, hc2⟩ := HG.out.2 p hqt'
                    have hmem : (ms)[p] ∈ K := HSU.out _ (List.getElem_mem hqt')
                    have hget := HG.out.1.map.get _ hmem (HG.out.1.wf _ hmem)
                    clear hmem
                    generalize (ms)[p] = m at *
                    have x0 := hc2 0 (by omega)
                    have x1 := hc2 1 (by omega)
                    have x2 := hc2 2 (by omega)
                    have x3 := hc2 3 (by omega)
                    have x4 := hc2 4 (by omega)
                    have x5 := hc2 5 (by omega)
                    have x6 := hc2 6 (by omega)
                    have x7 := hc2 7 (by omega)
                    simp only [Nat.add_zero, MsgV.cells, List.getElem?_cons_zero, List.getElem?_cons_succ] at x0 x1 x2 x3 x4 x5 x6 x7
                    clear hc2 hg2 hqt'
                    unfold MsgV.val at hget
                    go_wp2
                    go_roundw
                    case rel => exact ⟨p + 1, by omega, by go_num, trivial⟩
                    case measure => simp [intOf]; omega
                  · have l2 : ¬ (p : Int) < (ms.length : Int) := by omega
                    go_wp2
                    go_roundw
                    case rel => exact ⟨j + 1, _, ms, K, _, by have := HLT.out; omega, by go_num, rfl, HG.out.1, HCE.out, HSU.out⟩
                    case measure => simp [intOf]; have := HLT.out; omega
            · have q0 : decide (a.kind = 0) = false := decide_eq_false hk0
              have q1 : decide (a.kind = 1) = false := decide_eq_false hk1
              have q2 : decide (a.kind = 2) = false := decide_eq_false hk2
              by_cases hf : hasF a.k ms.length = true ∧ hasF a.to ms.length = true
              · go_wp2_with fail
                obtain ⟨wb, hwb⟩ : ∃ z, z = wr.alloc (.cells #[.int .i64 a.kind, .int .i64 a.k, .int .i64 a.to, .slice a.la a.l.length a.lcap] 32) := ⟨_, rfl⟩
                rw [← hwb]
                have hbw : Below wr.heap.size wr wb := by rw [hwb]; exact Kq.below_alloc _ _
                have hbx : wb.heap[wr.heap.size]? = some (.cells #[.int .i64 a.kind, .int .i64 a.k, .int .i64 a.to, .slice a.la a.l.length a.lcap] 32 (0, 0)) := by rw [hwb]; exact Kq.blk_new _ _ _ _
                have hno : ∀ x, OwnN N v x → x < wr.heap.size := fun x hx => by
                  rcases hx with rfl | e
                  · exact Kq.blk_lt HC.out.net.s.blk
                  · exact (HC.out.net.s.own.lt x e).2
                have HB := Lib.hid (HC.out.below hbw)
                have HBX := Lib.hid (And.intro hbx hno)
                have hBM : wr.heap.size ≠ M := fun e => by have := HC.out.map.lt; omega
                generalize wr.heap.size = Bx at *
                clear hbw hbx hno hwb c0 c1 c2 c3 HC
                refine (netMoves.nt_listed_apart N N v ms _ HB.out.net.s (by have := HB.out.len; omega)).mono ?_
                rintro e wl ⟨A8, c8, rfl, hc8, h08, hat8, hap8, b8⟩
                have HL := Lib.hid (And.intro (HB.out.below b8) (And.intro hat8 hap8))
                have hbx := Kq.below_blk b8 HBX.out.1 (Kq.blk_lt HBX.out.1)
                have HBY := Lib.hid (And.intro hbx HBX.out.2)
                have bx0 := Kq.blk_cell hbx 0
                have bx1 := Kq.blk_cell hbx 1
                have bx2 := Kq.blk_cell hbx 2
                have bx3 := Kq.blk_cell hbx 3
                simp only [List.getElem?_toArray, List.getElem?_cons_zero, List.getElem?_cons_succ] at bx0 bx1 bx2 bx3
                clear hbx b8 hat8 hap8 HB HBX hc8 h08
                go_wp2_with fail

                have hml : (moveL a.k.toNat a.to.toNat ms[a.k.toNat]! ms).length = ms.length := by
                  obtain ⟨h0, h1⟩ := hasF_true hf.1
                  obtain ⟨h2, h3⟩ := hasF_true hf.2
                  exact moveL_length (by omega) (by omega)
                have hop := nt_move N N v ms a.k a.to _ HL.out.1.net.s HL.out.1.len
                rw [show moveF a.k a.to ms = (moveL a.k.toNat a.to.toNat ms[a.k.toNat]! ms, 0) from by unfold moveF; exact if_pos hf] at hop
                refine hop.mono ?_
                clear hop
                rintro e w4 ⟨rfl, hp4⟩
                have hk4 : Kq.Keeps (OwnN N v) wl w4 := by obtain ⟨_, _, h, _⟩ := hp4; exact h
                obtain ⟨v4, hc4⟩ := HL.out.1.step hp4 (by have := HL.out.1.len; rw [hml]; exact this)
                have H4 := Lib.hid hc4
                clear hp4 hk4 hc4 bx0 bx1 bx2 bx3 HBY

                have hmem : ms[a.k.toNat]! ∈ ms := at_mem hf.1
                obtain ⟨ns, hns⟩ : ∃ ns, ns = moveL a.k.toNat a.to.toNat ms[a.k.toNat]! ms := ⟨_, rfl⟩
                rw [← hns] at H4 hml
                have HSU : Hid (∀ m ∈ ns, m ∈ K) := Lib.hid (fun m hm => by
                  rw [hns] at hm
                  exact HS.out m (moveL_mem hmem hm))
                have HCE : Hid (c ≤ (j + 1) * 300) := Lib.hid (by have := HJ.out.2; omega)
                have HNN : Hid (ms.length = ns.length) := Lib.hid hml.symm
                have HE := Lib.hid H4.out
                clear hmem hns hml H4 HL hf

                go_wp2_with fail
                have hls := netMoves.nt_listed N N _ ns _ HE.out.net.s (by have := HE.out.len; omega)
                rw [← HNN.out] at hls
                refine hls.mono ?_
                clear hls
                rintro e wL ⟨AL, cL, rfl, hcL, h0L, hatL, bL⟩
                have HG := Lib.hid (And.intro (HE.out.below bL) hatL)
                clear bL hatL hcL h0L
                have u3 : ms.length ≤ 256 := by have := HG.out.1.len; have := HNN.out; omega
                have u1 : decide ((256 : Int) < (ms.length : Int)) = false := decide_eq_false (by omega)
                have u2 : decide (256 < ms.length) = false := decide_eq_false (by omega)
                clear HE
                go_wp2
                go_loopw [15] (fun i wx => ∃ p : Nat, p ≤ ms.length ∧ i = .int .i64 (p : Int) ∧ wx = wL) (fun i _ => ms.length - (intOf i).toNat)
                case atStart => exact ⟨0, Nat.zero_le _, rfl, rfl⟩
                case round =>
                  obtain ⟨p, hq, rfl, rfl⟩ := hrel
                  by_cases hqt : p < ms.length
                  · have l2 : (p : Int) < (ms.length : Int) := by omega
                    have hqt' : p < (ns).length := by have := HNN.out; omega
                    obtain ⟨g2, o2, rfl, hg2, hc2⟩ := HG.out.2 p hqt'
                    have hmem : (ns)[p] ∈ K := HSU.out _ (List.getElem_mem hqt')
                    have hget := HG.out.1.map.get _ hmem (HG.out.1.wf _ hmem)
                    clear hmem
                    generalize (ns)[p] = m at *
                    have x0 := hc2 0 (by omega)
                    have x1 := hc2 1 (by omega)
                    have x2 := hc2 2 (by omega)
                    have x3 := hc2 3 (by omega)
                    have x4 := hc2 4 (by omega)
                    have x5 := hc2 5 (by omega)
                    have x6 := hc2 6 (by omega)
                    have x7 := hc2 7 (by omega)
                    simp only [Nat.add_zero, MsgV.cells, List.getElem?_cons_zero, List.getElem?_cons_succ] at x0 x1 x2 x3 x4 x5 x6 x7
                    clear hc2 hg2 hqt'
                    unfold MsgV.val at hget
                    go_wp2
                    go_roundw
                    case rel => exact ⟨p + 1, by omega, by go_num, trivial⟩
                    case measure => simp [intOf]; omega
                  · have l2 : ¬ (p : Int) < (ms.length : Int) := by omega
                    go_wp2
                    go_roundw
                    case rel => exact ⟨j + 1, _, ns, K, _, by have := HLT.out; omega, by go_num, by rw [HNN.out], HG.out.1, HCE.out, HSU.out⟩
                    case measure => simp [intOf]; have := HLT.out; omega
              · go_wp2_with fail
                obtain ⟨wb, hwb⟩ : ∃ z, z = wr.alloc (.cells #[.int .i64 a.kind, .int .i64 a.k, .int .i64 a.to, .slice a.la a.l.length a.lcap] 32) := ⟨_, rfl⟩
                rw [← hwb]
                have hbw : Below wr.heap.size wr wb := by rw [hwb]; exact Kq.below_alloc _ _
                have hbx : wb.heap[wr.heap.size]? = some (.cells #[.int .i64 a.kind, .int .i64 a.k, .int .i64 a.to, .slice a.la a.l.length a.lcap] 32 (0, 0)) := by rw [hwb]; exact Kq.blk_new _ _ _ _
                have hno : ∀ x, OwnN N v x → x < wr.heap.size := fun x hx => by
                  rcases hx with rfl | e
                  · exact Kq.blk_lt HC.out.net.s.blk
                  · exact (HC.out.net.s.own.lt x e).2
                have HB := Lib.hid (HC.out.below hbw)
                have HBX := Lib.hid (And.intro hbx hno)
                have hBM : wr.heap.size ≠ M := fun e => by have := HC.out.map.lt; omega
                generalize wr.heap.size = Bx at *
                clear hbw hbx hno hwb c0 c1 c2 c3 HC
                refine (netMoves.nt_listed_apart N N v ms _ HB.out.net.s (by have := HB.out.len; omega)).mono ?_
                rintro e wl ⟨A8, c8, rfl, hc8, h08, hat8, hap8, b8⟩
                have HL := Lib.hid (And.intro (HB.out.below b8) (And.intro hat8 hap8))
                have hbx := Kq.below_blk b8 HBX.out.1 (Kq.blk_lt HBX.out.1)
                have HBY := Lib.hid (And.intro hbx HBX.out.2)
                have bx0 := Kq.blk_cell hbx 0
                have bx1 := Kq.blk_cell hbx 1
                have bx2 := Kq.blk_cell hbx 2
                have bx3 := Kq.blk_cell hbx 3
                simp only [List.getElem?_toArray, List.getElem?_cons_zero, List.getElem?_cons_succ] at bx0 bx1 bx2 bx3
                clear hbx b8 hat8 hap8 HB HBX hc8 h08
                go_wp2_with fail

                have hop := nt_move N N v ms a.k a.to _ HL.out.1.net.s HL.out.1.len
                rw [show moveF a.k a.to ms = (ms, 3) from by unfold moveF; exact if_neg hf] at hop
                refine hop.mono ?_
                clear hop
                rintro e w4 ⟨rfl, hp4⟩
                have hk4 : Kq.Keeps (OwnN N v) wl w4 := by obtain ⟨_, _, h, _⟩ := hp4; exact h
                obtain ⟨v4, hc4⟩ := HL.out.1.step hp4 (by exact HL.out.1.len)
                have H4 := Lib.hid hc4
                have HWA := Lib.hid (HL.out.2.1.keeps hk4 HL.out.2.2)
                clear hp4 hk4 hc4 bx0 bx1 bx2 bx3 HBY
                have HSU : Hid (∀ m ∈ ms, m ∈ K) := HS
                have HCE : Hid (c ≤ (j + 1) * 300) := Lib.hid (by have := HJ.out.2; omega)
                have HNN : Hid (ms.length = ms.length) := Lib.hid rfl
                have HE := Lib.hid H4.out
                clear H4 HL hf

                go_wp2_with fail
                have hls := netMoves.nt_listed N N _ ms _ HE.out.net.s (by have := HE.out.len; omega)
                refine hls.mono ?_
                clear hls
                rintro e wL ⟨AL, cL, rfl, hcL, h0L, hatL, bL⟩
                have HG := Lib.hid (And.intro (HE.out.below bL) hatL)
                have HWB := Lib.hid (HWA.out.below bL)
                clear bL hatL hcL h0L
                have u3 : ms.length ≤ 256 := by have := HG.out.1.len; have := HNN.out; omega
                have u1 : decide ((256 : Int) < (ms.length : Int)) = false := decide_eq_false (by omega)
                have u2 : decide (256 < ms.length) = false := decide_eq_false (by omega)
                clear HE
                go_wp2_with fail
                refine (same_self ms AL A8 cL c8 _ (by have := HG.out.1.len; omega) HG.out.2 HWB.out).mono ?_
                rintro e wS ⟨rfl, rS, rfl⟩
                have HG := Lib.hid (And.intro (HG.out.1.below ⟨rfl, rfl, rfl, Nat.le_refl _, fun _ _ => rfl⟩ : Cn W (wL.drewN rS) N M _ ms K c) (MsAt.below (w := wL) HG.out.2 ⟨rfl, rfl, rfl, Nat.le_refl _, fun _ _ => rfl⟩ : MsAt (wL.drewN rS) AL ms))
                generalize wL.drewN rS = wS at *
                go_wp2
                go_loopw [15] (fun i wx => ∃ p : Nat, p ≤ ms.length ∧ i = .int .i64 (p : Int) ∧ wx = wS) (fun i _ => ms.length - (intOf i).toNat)
                case atStart => exact ⟨0, Nat.zero_le _, rfl, rfl⟩
                case round =>
                  obtain ⟨p, hq, rfl, rfl⟩ := hrel
                  by_cases hqt : p < ms.length
                  · have l2 : (p : Int) < (ms.length : Int) := by omega
                    have hqt' : p < (ms).length := by have := HNN.out; omega
                    obtain ⟨g2, o2, rfl, hg2, hc2⟩ := HG.out.2 p hqt'
                    have hmem : (ms)[p] ∈ K := HSU.out _ (List.getElem_mem hqt')
                    have hget := HG.out.1.map.get _ hmem (HG.out.1.wf _ hmem)
                    clear hmem
                    generalize (ms)[p] = m at *
                    have x0 := hc2 0 (by omega)
                    have x1 := hc2 1 (by omega)
                    have x2 := hc2 2 (by omega)
                    have x3 := hc2 3 (by omega)
                    have x4 := hc2 4 (by omega)
                    have x5 := hc2 5 (by omega)
                    have x6 := hc2 6 (by omega)
                    have x7 := hc2 7 (by omega)
                    simp only [Nat.add_zero, MsgV.cells, List.getElem?_cons_zero, List.getElem?_cons_succ] at x0 x1 x2 x3 x4 x5 x6 x7
                    clear hc2 hg2 hqt'
                    unfold MsgV.val at hget
                    go_wp2
                    go_roundw
                    case rel => exact ⟨p + 1, by omega, by go_num, trivial⟩
                    case measure => simp [intOf]; omega
                  · have l2 : ¬ (p : Int) < (ms.length : Int) := by omega
                    go_wp2
                    go_roundw
                    case rel => exact ⟨j + 1, _, ms, K, _, by have := HLT.out; omega, by go_num, rfl, HG.out.1, HCE.out, HSU.out⟩
                    case measure => simp [intOf]; have := HLT.out; omega
      · have l1 : ¬ (j : Int) < (l.length : Int) := by omega
        go_wp2
        go_ret
        exact ⟨rfl, HC.out.net.bel⟩
end Go.Proofs.Ytahijpfmpdjceaa.netCounts
namespace Go.Proofs.Ytahijpfmpdjceaa
open Go.RowKit
theorem netCounts_walk (v : Value) {W : World} (h0 : ∃ A cap l, v = .slice A l.length cap ∧ l.length ≤ maxLen ∧ NActsAt W A l) :
    Calls Try.prog 5 #[v] W fun x w' => x = .returned (.bool true) ∧ Below W.heap.size W w' := by
  obtain ⟨A, cap, l, rfl, hl, ha⟩ := h0
  exact netCounts.few_ A cap l W hl ha
end Go.Proofs.Ytahijpfmpdjceaa
