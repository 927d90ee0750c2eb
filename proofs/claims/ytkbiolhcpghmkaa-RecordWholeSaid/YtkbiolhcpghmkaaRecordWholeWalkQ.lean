/- carracklaw17.RecordWhole walked. No condition. -/
import Derived.WalkSpells
import Derived.Outline
import Derived.Deep.RegionHeld
import Derived.Test.YtkbiolhcpghmkaaRwMQ
import Derived.Test.YtkbiolhcpghmkaaRowGQ
import Derived.Test.YtkbiolhcpghmkaaTwoFQ
namespace Go.Proofs.Ytkbiolhcpghmkaa
open Go.RowKit Go.Kq
set_option linter.unusedVariables false
namespace recordWhole
def rsOf (l : List ReW) : List ReV := l.map ReW.r
theorem rsOf_len (l : List ReW) : (rsOf l).length = l.length := by simp [rsOf]
theorem rsOf_at (l : List ReW) (j : Nat) (h : j < l.length) : (rsOf l)[j]'(by rw [rsOf_len]; exact h) = l[j].r := by simp [rsOf]
theorem rsOf_take (l : List ReW) (j : Nat) (h : j < l.length) : (rsOf l).take (j + 1) = (rsOf l).take j ++ [l[j].r] := by
  rw [List.take_succ_eq_append_getElem (by rw [rsOf_len]; exact h), rsOf_at l j h]
set_option maxRecDepth 100000 in
set_option maxHeartbeats 4000000 in
theorem main (room : Int) (G : Option Addr) (cap : Nat) (l : List ReW) (W : World) (hG : RecsAt W G l) :
    Calls Try.prog 3 #[.int .i64 room, .slice G l.length cap] W fun x w' => x = .returned (.bool true) ∧ Below W.heap.size W w' := by
  obtain ⟨i0, hi0, hz0, hz1, hz2⟩ := info_partsF infoTx
  have HG := Lib.hid hG
  clear hG
  go_enter Try.func3, Try.ntmps3
  go_wp2_with fail
  refine (awake17 W).mono ?_
  rintro x w1 ⟨rfl, b1⟩
  have H1 := Lib.hid b1
  clear b1
  by_cases hl : 30 < l.length
  · have d1 : decide ((30 : Int) < (l.length : Int)) = true := decide_eq_true (by omega)
    have d1' : decide (30 < l.length) = true := decide_eq_true hl
    clear hl
    go_wp2
    go_ret
    exact ⟨rfl, H1.out⟩
  have d1 : decide ((30 : Int) < (l.length : Int)) = false := decide_eq_false (by omega)
  have d1' : decide (30 < l.length) = false := decide_eq_false hl
  have HL : Hid (l.length ≤ 30) := Lib.hid (by omega)
  clear hl
  by_cases hz : l = []
  · subst hz
    rw [List.length_nil] at d1 d1' ⊢
    go_wp2
    go_ret
    exact ⟨rfl, H1.out⟩
  have hz0 : 0 < l.length := List.length_pos_iff.2 hz
  have e0 : ((l.length : Int) == 0) = false := beq_eq_false_iff_ne.2 (by omega)
  have e0' : (l.length == 0) = false := beq_eq_false_iff_ne.2 (by omega)
  have HZ := Lib.hid hz0
  clear hz hz0
  go_wp2
  clear d1 d1' e0 e0'
  go_loopw [5, 6, 7] (fun v la i wr => ∃ j lt : Nat, j ≤ l.length ∧ i = .int .i64 (j : Int) ∧ la = .int .i64 (lt : Int) ∧ (lt = 0 ∨ (lt < j ∧ ∀ h : lt < l.length, (l[lt]'h).r.k = 1)) ∧ (∀ i (h : i < l.length), i < j → RecOk (l[i]'h).r ∧ FewR (l[i]'h).r) ∧ wr.ownsRow W.heap.size 9 1 v j (txE.flat ((rsOf l).take j)) ∧ Below W.heap.size W wr) (fun _ _ i _ => l.length - (intOf i).toNat)
  case atStart => exact ⟨0, 0, Nat.zero_le _, rfl, rfl, Or.inl rfl, fun i _ h => absurd h (Nat.not_lt_zero _), World.ownsRow_nil _ _ _ _, H1.out⟩
  case round =>
    obtain ⟨j, lt, hj, rfl, rfl, hlt, hall, hown, hbl⟩ := hrel
    by_cases hj2 : j < l.length
    · obtain ⟨b, off, rfl, hbz, hc, hrl⟩ := HG.out j hj2
      obtain ⟨e, he⟩ : ∃ e, e = l[j] := ⟨_, rfl⟩
      rw [← he] at hc hrl
      have HTK : Hid ((rsOf l).take (j + 1) = (rsOf l).take j ++ [e.r]) := Lib.hid (by rw [he]; exact rsOf_take l j hj2)
      have HEJ : Hid (∀ h : j < l.length, l[j]'h = e) := Lib.hid (fun _ => he.symm)
      have HALL := Lib.hid hall
      have HLT := Lib.hid hlt
      have HO := Lib.hid (And.intro hown hbl)
      have HRL := Lib.hid hrl
      have HC := Lib.hid (And.intro hbz hc)
      have HJ := Lib.hid hj2
      have t1 : decide ((j : Int) < (l.length : Int)) = true := decide_eq_true (by omega)
      have t1' : decide (j < l.length) = true := decide_eq_true hj2
      have hi0' : (j : Int) < (l.length : Int) := by omega
      obtain ⟨a', n', c', rfl⟩ := Kq.own_shape hown
      have hcw : ∀ i, i < 10 → wr.cell? ⟨b, off + j * 10 + i, none⟩ = (e.cs)[i]? := fun i hi => (hbl.cell (p := ⟨b, off + j * 10 + i, none⟩) hbz).trans (hc i hi)
      clear he hall hlt hown hbl hrl hbz hc
      obtain ⟨⟨k, ⟨q0, q1, m⟩, c, p, ns⟩, A, ca, C, cc⟩ := e
      have u0 := hcw 0 (by decide)
      have u1 := hcw 1 (by decide)
      have u2 := hcw 2 (by decide)
      have u3 := hcw 3 (by decide)
      have u4 := hcw 4 (by decide)
      have u5 := hcw 5 (by decide)
      have u6 := hcw 6 (by decide)
      have u7 := hcw 7 (by decide)
      have u8 := hcw 8 (by decide)
      have u9 := hcw 9 (by decide)
      simp only [ReW.cs, List.getElem?_cons_zero, List.getElem?_cons_succ, Nat.add_zero] at u0 u1 u2 u3 u4 u5 u6 u7 u8 u9
      clear hcw
      go_wp2_with fail
      refine (few17 A ca C cc ⟨k, ⟨q0, q1, m⟩, c, p, ns⟩ wr (HRL.out.d.l.below HO.out.2) (HRL.out.ns.below HO.out.2)).mono ?_
      rintro x w2 ⟨rfl, b2⟩
      have H2 : Hid (Below W.heap.size W w2 ∧ w2.ownsRow W.heap.size 9 1 (.slice a' n' c') j (txE.flat ((rsOf l).take j))) := Lib.hid ⟨HO.out.2.trans (b2.mono HO.out.2.size), own_belowF HO.out.1 b2⟩
      clear b2 HO u0 u1 u2 u3 u4 u5 u6 u7 u8 u9
      by_cases hf : FewR ⟨k, ⟨q0, q1, m⟩, c, p, ns⟩
      case neg =>
        rw [decide_eq_false hf]
        clear hf
        go_wp2
        go_ret
        exact ⟨rfl, H2.out.1⟩
      rw [decide_eq_true hf]
      have HF := Lib.hid hf
      clear hf
      have hcw : ∀ i, i < 10 → w2.cell? ⟨b, off + j * 10 + i, none⟩ = ((⟨⟨k, ⟨q0, q1, m⟩, c, p, ns⟩, A, ca, C, cc⟩ : ReW).cs)[i]? := fun i hi => (H2.out.1.cell (p := ⟨b, off + j * 10 + i, none⟩) HC.out.1).trans (HC.out.2 i hi)
      have u0 := hcw 0 (by decide)
      have u1 := hcw 1 (by decide)
      have u2 := hcw 2 (by decide)
      have u3 := hcw 3 (by decide)
      have u4 := hcw 4 (by decide)
      have u5 := hcw 5 (by decide)
      have u6 := hcw 6 (by decide)
      have u7 := hcw 7 (by decide)
      have u8 := hcw 8 (by decide)
      have u9 := hcw 9 (by decide)
      simp only [ReW.cs, List.getElem?_cons_zero, List.getElem?_cons_succ, Nat.add_zero] at u0 u1 u2 u3 u4 u5 u6 u7 u8 u9
      clear hcw
      go_wp2_with fail
      refine (rec_bytes A ca C cc ⟨k, ⟨q0, q1, m⟩, c, p, ns⟩ w2 ((HRL.out.few HF.out.1.2 HF.out.1.1).below H2.out.1)).mono ?_
      rintro x w3 ⟨rfl, b3⟩
      have H3 : Hid (Below W.heap.size W w3 ∧ w3.ownsRow W.heap.size 9 1 (.slice a' n' c') j (txE.flat ((rsOf l).take j))) := Lib.hid ⟨H2.out.1.trans (b3.mono H2.out.1.size), own_belowF H2.out.2 b3⟩
      clear b3 H2 u0 u1 u2 u3 u4 u5 u6 u7 u8 u9
      by_cases hok : RecOk ⟨k, ⟨q0, q1, m⟩, c, p, ns⟩
      case neg =>
        rw [show recE ⟨k, ⟨q0, q1, m⟩, c, p, ns⟩ = 1 from if_neg hok]
        generalize recT ⟨k, ⟨q0, q1, m⟩, c, p, ns⟩ = tt
        clear hok
        go_wp2
        go_ret
        exact ⟨rfl, H3.out.1⟩
      rw [recE_ok hok, recT_ok hok]
      have HOK := Lib.hid hok
      clear hok
      obtain ⟨s, hs⟩ : ∃ s, s = txt (encR ⟨k, ⟨q0, q1, m⟩, c, p, ns⟩) := ⟨_, rfl⟩
      rw [← hs]
      have HS := Lib.hid hs
      clear hs
      have hj30 : j ≤ 30 := by have h1 := HL.out; have h2 := HJ.out; omega
      have HAL : Hid (txE.At (w3.alloc (.cells #[.string s] 9)) (some ⟨w3.heap.size, 0, none⟩) [⟨k, ⟨q0, q1, m⟩, c, p, ns⟩] ∧ (w3.alloc (.cells #[.string s] 9)).ownsRow W.heap.size 9 1 (.slice a' n' c') j (txE.flat ((rsOf l).take j)) ∧ Below W.heap.size W (w3.alloc (.cells #[.string s] 9))) := Lib.hid ⟨by rw [HS.out]; exact Kq.Elt.made_one (E := txE) ⟨k, ⟨q0, q1, m⟩, c, p, ns⟩ w3 9, own_belowF H3.out.2 (Kq.below_alloc w3 _), H3.out.1.trans ((Kq.below_alloc w3 _).mono H3.out.1.size)⟩
      go_wp2_with (at_builtin; refine Kq.wpList_append_any _ rfl (.tmp 49) (.tmp 51) 24 24 rfl W.heap.size 9 i0 (.string ⟨#[]⟩) 1 16 Try.underlying24 hi0 hz0 hz1 hz2 rfl (by decide) (.slice a' n' c') j (txE.flat ((rsOf l).take j)) rfl HAL.out.2.1 (.slice (some ⟨w3.heap.size, 0, none⟩) 1 1) 1 (txE.flat [⟨k, ⟨q0, q1, m⟩, c, p, ns⟩]) rfl (HAL.out.1.src Try.underlying24 1) ?h1 ?h2 HAL.out.2.2.size ?_)
      case h1 => unfold maxLen; omega
      case h2 => omega
      intro v' z2 hown2 hgrow hfresh
      have hbg : Below W.heap.size (w3.alloc (.cells #[.string s] 9)) z2 := (Kq.Keeps.grown (S := fun k => W.heap.size ≤ k) hgrow (fun k _ e => own_geF HAL.out.2.1 e)).below HAL.out.2.2.size (fun k _ h => h)
      have HD2 : Hid (z2.ownsRow W.heap.size 9 1 v' (j + 1) (txE.flat ((rsOf l).take (j + 1))) ∧ Below W.heap.size W z2) := Lib.hid ⟨by rw [HTK.out, txE.flat_append]; exact hown2, HAL.out.2.2.trans hbg⟩
      have HNX : Hid (∀ i (h : i < l.length), i < j + 1 → RecOk (l[i]'h).r ∧ FewR (l[i]'h).r) := Lib.hid (fun i h hi => by
        rcases Nat.lt_or_ge i j with h' | h'
        · exact HALL.out i h h'
        · obtain rfl : i = j := by omega
          rw [HEJ.out h]
          exact ⟨HOK.out, HF.out⟩)
      have hcw : ∀ i, i < 10 → z2.cell? ⟨b, off + j * 10 + i, none⟩ = ((⟨⟨k, ⟨q0, q1, m⟩, c, p, ns⟩, A, ca, C, cc⟩ : ReW).cs)[i]? := fun i hi => (HD2.out.2.cell (p := ⟨b, off + j * 10 + i, none⟩) HC.out.1).trans (HC.out.2 i hi)
      have u0 := hcw 0 (by decide)
      simp only [ReW.cs, List.getElem?_cons_zero, Nat.add_zero] at u0
      clear hown2 hgrow hfresh hbg HAL H3 hcw
      by_cases hk : k = 1
      · have hk1 : (k == 1) = true := by rw [hk]; rfl
        have HK := Lib.hid hk
        clear hk
        go_wp2
        go_roundw
        case rel => exact ⟨j + 1, j, HJ.out, by go_num, rfl, Or.inr ⟨Nat.lt_succ_self _, fun h => by rw [HEJ.out h]; exact HK.out⟩, HNX.out, HD2.out⟩
        case measure => have := HJ.out; simp [intOf]; omega
      · have hk1 : (k == 1) = false := beq_eq_false_iff_ne.2 hk
        clear hk
        go_wp2
        go_roundw
        case rel => exact ⟨j + 1, lt, HJ.out, by go_num, rfl, HLT.out.imp id (fun h => ⟨Nat.lt_succ_of_lt h.1, h.2⟩), HNX.out, HD2.out⟩
        case measure => have := HJ.out; simp [intOf]; omega
    · obtain rfl : j = l.length := by omega
      have e1 : decide ((l.length : Int) < (l.length : Int)) = false := decide_eq_false (by omega)
      have e1' : decide (l.length < l.length) = false := decide_eq_false hj2
      have HTX : Hid (∃ b' o' c', u5 = .slice (some ⟨b', o', none⟩) (rsOf l).length c' ∧ (rsOf l).length ≤ c' ∧ TxAt wr (some ⟨b', o', none⟩) (rsOf l) ∧ W.heap.size ≤ b' ∧ b' < wr.heap.size) := Lib.hid (by
        rw [← rsOf_len, List.take_length] at hown
        obtain ⟨A', c', e, hc', hat, hge, hno⟩ := Kq.Elt.own_at (E := txE) hown
        have h0 := HZ.out
        obtain ⟨b', o', rfl, hb', -⟩ := hat 0 (by rw [rsOf_len]; exact h0)
        exact ⟨b', o', c', e, hc', txE_at hat, hge b' o' rfl, hb'⟩)
      have HALL : Hid (∀ r ∈ rsOf l, RecOk r ∧ RcNum r) := Lib.hid (fun r hr => by
        obtain ⟨x, hx, rfl⟩ := List.mem_map.1 hr
        obtain ⟨i, hi, rfl⟩ := List.mem_iff_getElem.1 hx
        obtain ⟨_, _, _, _, _, hrl⟩ := HG.out i hi
        exact ⟨(hall i hi hi).1, ⟨hrl.d.p0, hrl.d.p1, hrl.p, hrl.d.lw, hrl.nw⟩⟩)
      have HFEW : Hid (∀ i (h : i < l.length), FewR (l[i]'h).r) := Lib.hid (fun i h => (hall i h h).2)
      have HLT := Lib.hid hlt
      have HB := Lib.hid hbl
      obtain ⟨tb, to, tc, rfl, _, _⟩ := HTX.out
      replace HTX : Hid ((rsOf l).length ≤ tc ∧ TxAt wr (some ⟨tb, to, none⟩) (rsOf l) ∧ W.heap.size ≤ tb ∧ tb < wr.heap.size) := Lib.hid (by
        obtain ⟨b', o', c', e, h1, h2, h3, h4⟩ := HTX.out
        have hq : (tb = b' ∧ to = o') ∧ tc = c' := by simpa using e
        obtain ⟨⟨rfl, rfl⟩, rfl⟩ := hq
        exact ⟨h1, h2, h3, h4⟩)
      have HLEN : Hid ((rsOf l).length = l.length) := Lib.hid (rsOf_len l)
      clear hown hall hlt hbl hj2 hj
      go_wp2_with fail
      refine (rec_replay room (some ⟨tb, to, none⟩) tc (rsOf l) wr HTX.out.2.1 HALL.out (by have h1 := HLEN.out; have h2 := HL.out; omega)).mono ?_
      intro x w3 hx
      obtain ⟨rv, hrv⟩ : ∃ rv, rv = replayV room (rsOf l) := ⟨_, rfl⟩
      rw [← hrv] at hx
      have HRV := Lib.hid hrv
      clear hrv
      obtain ⟨e, dv⟩ := rv
      simp only at hx
      have HDV : Hid (e = 0 → DaNum dv ∧ chkV dv room = 0) := Lib.hid (fun h => by
        have h1 := repl_num (fun r hr => (HALL.out r hr).2) (show (replayV room (rsOf l)).1 = 0 by rw [← HRV.out]; exact h)
        rw [← HRV.out] at h1; exact h1)
      obtain ⟨gd, A1, c1, rfl, hgw, hg1, hg2, hg3⟩ := hx.box (fun h => ⟨(HDV.out h).1, chk_len (HDV.out h).1 (HDV.out h).2⟩)
      have H3 : Hid (Below W.heap.size W w3 ∧ TxAt w3 (some ⟨tb, to, none⟩) (rsOf l) ∧ DaW w3 A1 gd ∧ Below wr.heap.size wr w3) := Lib.hid ⟨HB.out.trans (hx.1.mono HB.out.size), HTX.out.2.1.below hx.1, hgw, hx.1⟩
      have HGD := Lib.hid (And.intro hg1 (And.intro hg2 hg3))
      clear hx hgw hg1 hg2 hg3
      obtain ⟨X10, hX10⟩ : ∃ X, X = w3.heap.size := ⟨_, rfl⟩
      obtain ⟨w4, hw4⟩ : ∃ z, z = w3.alloc (.cells #[.int .u64 gd.p0.h, .int .i64 gd.p0.i, .int .u64 gd.p1.h, .int .i64 gd.p1.i, .slice A1 gd.l.length c1] 32) := ⟨_, rfl⟩
      have H4 : Hid (Below W.heap.size W w4 ∧ TxAt w4 (some ⟨tb, to, none⟩) (rsOf l) ∧ BoxD w4 X10 A1 c1 gd (· = w4.heap.size) ∧ tb < w4.heap.size) := Lib.hid (by
        have hb := Kq.below_alloc w3 (.cells #[.int .u64 gd.p0.h, .int .i64 gd.p0.i, .int .u64 gd.p1.h, .int .i64 gd.p1.i, .slice A1 gd.l.length c1] 32)
        have hr := Kq.blk_new w3 #[.int .u64 gd.p0.h, .int .i64 gd.p0.i, .int .u64 gd.p1.h, .int .i64 gd.p1.i, .slice A1 gd.l.length c1] 32 (0, 0)
        rw [← hw4] at hb
        rw [← hw4, ← hX10] at hr
        refine ⟨H3.out.1.trans (hb.mono H3.out.1.size), H3.out.2.1.below hb, ⟨hr, H3.out.2.2.1.below hb, fun _ b off e h => ?_⟩, ?_⟩
        · have h1 := (HGD.out.2.2 b off e).2
          have h2 := hb.size
          have h3 : b = w4.heap.size := h
          omega
        · have h1 := HTX.out.2.2.2
          have h2 := H3.out.2.2.2.size
          have h3 := hb.size
          omega)
      have HTC : Hid ((rsOf l).length ≤ tc ∧ W.heap.size ≤ tb) := Lib.hid ⟨HTX.out.1, HTX.out.2.2.1⟩
      have HX10 : Hid (W.heap.size ≤ X10) := Lib.hid (by rw [hX10]; exact H3.out.1.size)
      obtain ⟨b, off, rfl, hbz, hc, hrl⟩ := HG.out 0 HZ.out
      obtain ⟨r0, hr0⟩ : ∃ r0, r0 = l[0]'HZ.out := ⟨_, rfl⟩
      rw [← hr0] at hc hrl
      have HR0 : Hid (∃ t, rsOf l = r0.r :: t) := Lib.hid (by
        cases l with
        | nil => exact absurd HZ.out (Nat.lt_irrefl _)
        | cons a t => exact ⟨t.map ReW.r, by rw [hr0]; rfl⟩)
      have HF0 : Hid (FewR r0.r) := Lib.hid (by rw [hr0]; exact HFEW.out 0 HZ.out)
      have HRL := Lib.hid hrl
      have HC := Lib.hid (And.intro hbz hc)
      have hcw : ∀ i, i < 10 → w4.cell? ⟨b, off + 0 * 10 + i, none⟩ = (r0.cs)[i]? := fun i hi => (H4.out.1.cell (p := ⟨b, off + 0 * 10 + i, none⟩) hbz).trans (hc i hi)
      clear hrl hbz hc hr0
      obtain ⟨⟨k, ⟨q0, q1, m⟩, c, p, ns⟩, A0, ca0, C0, cc0⟩ := r0
      have u0 := hcw 0 (by decide)
      have u1 := hcw 1 (by decide)
      have u2 := hcw 2 (by decide)
      have u3 := hcw 3 (by decide)
      have u4 := hcw 4 (by decide)
      have u5 := hcw 5 (by decide)
      simp only [ReW.cs, List.getElem?_cons_zero, List.getElem?_cons_succ, Nat.add_zero, Nat.zero_mul] at u0 u1 u2 u3 u4 u5
      clear hcw
      rw [hw4] at u0 u1 u2 u3 u4 u5
      have hpos : (0 : Int) < (l.length : Int) := by have := HZ.out; omega
      unfold daV
      by_cases hk : k = 1
      case neg =>
        have hk1 : (k != 1) = true := by rw [bne_iff_ne]; exact hk
        have he5 : e = 5 := by
          obtain ⟨t, ht⟩ := HR0.out
          have hne : nextE ⟨k, ⟨q0, q1, m⟩, c, p, ns⟩ room = 5 := if_neg hk
          have h1 : (replayV room (rsOf l)).1 = 5 := by rw [ht, repl_bad1 (by rw [hne]; decide)]; exact hne
          rw [← HRV.out] at h1; exact h1
        clear hk
        subst he5
        go_wp2
        rw [← hw4]
        go_ret
        exact ⟨rfl, H4.out.1⟩
      have hk1 : (k != 1) = false := by rw [hk]; rfl
      have HK := Lib.hid hk
      clear hk
      obtain ⟨X12, hX12⟩ : ∃ X, X = w4.heap.size := ⟨_, rfl⟩
      obtain ⟨w5, hw5⟩ : ∃ z, z = w4.alloc (.cells #[.int .u64 q0.h, .int .i64 q0.i, .int .u64 q1.h, .int .i64 q1.i, .slice A0 m.length ca0] 32) := ⟨_, rfl⟩
      have H5 : Hid (Below W.heap.size W w5 ∧ TxAt w5 (some ⟨tb, to, none⟩) (rsOf l) ∧ BoxD w5 X10 A1 c1 gd (· = X12) ∧ BoxD w5 X12 A0 ca0 ⟨q0, q1, m⟩ (· = X12) ∧ tb ≠ X12 ∧ X10 ≠ X12 ∧ W.heap.size ≤ X12) := Lib.hid (by
        have hb := Kq.below_alloc w4 (.cells #[.int .u64 q0.h, .int .i64 q0.i, .int .u64 q1.h, .int .i64 q1.i, .slice A0 m.length ca0] 32)
        have hr := Kq.blk_new w4 #[.int .u64 q0.h, .int .i64 q0.i, .int .u64 q1.h, .int .i64 q1.i, .slice A0 m.length ca0] 32 (0, 0)
        rw [← hw5] at hb
        rw [← hw5, ← hX12] at hr
        have hW5 := H4.out.1.trans (hb.mono H4.out.1.size)
        have hw : DaW w5 A0 ⟨q0, q1, m⟩ := ⟨HRL.out.d.p0, HRL.out.d.p1, HRL.out.d.l.below hW5, HRL.out.d.lw, HF0.out.1.2⟩
        have h10 := Kq.blk_lt H4.out.2.2.1.x
        rw [hX12] at hr ⊢
        refine ⟨hW5, H4.out.2.1.below hb, H4.out.2.2.1.below hb, ⟨hr, hw, fun hm b' off' e h => ?_⟩, Nat.ne_of_lt H4.out.2.2.2, Nat.ne_of_lt h10, H4.out.1.size⟩
        have h3 : b' = w4.heap.size := h
        have h4 := H4.out.1.size
        obtain ⟨b2, o2, e2, hlt2, _⟩ := HRL.out.d.l 0 hm
        rw [show A0 = some ⟨b', off', none⟩ from e] at e2
        have hq : b' = b2 ∧ off' = o2 := by
          injection e2 with e3
          injection e3 with e4 e5
          exact ⟨e4, e5⟩
        omega)
      have hX12s : X12 = w3.heap.size + 1 := by rw [hX12, hw4]; simp
      go_wp2_with fail
      rw [← hw4, ← hw5, ← hX12s, ← hX10]
      have HSEP : Hid (tb ≠ X12 ∧ X10 ≠ X12 ∧ W.heap.size ≤ X12) := Lib.hid H5.out.2.2.2.2
      clear hw4 hw5 hX12 hX12s hX10 hk1 hpos u0 u1 u2 u3 u4 u5
      refine (rec_check A0 ca0 ⟨q0, q1, m⟩ room w5 H5.out.2.2.2.1.w').mono ?_
      rintro x w6 ⟨rfl, b6⟩
      have H6 : Hid (Below W.heap.size W w6 ∧ TxAt w6 (some ⟨tb, to, none⟩) (rsOf l) ∧ BoxD w6 X10 A1 c1 gd (· = X12) ∧ BoxD w6 X12 A0 ca0 ⟨q0, q1, m⟩ (· = X12)) := Lib.hid ⟨H5.out.1.trans (b6.mono H5.out.1.size), H5.out.2.1.below b6, H5.out.2.2.1.below b6, H5.out.2.2.2.1.below b6⟩
      clear b6 H5 H4 H3
      obtain ⟨f0, hf0⟩ : ∃ f0, f0 = chkV ⟨q0, q1, m⟩ room := ⟨_, rfl⟩
      rw [← hf0]
      have HST : Hid ((f0 = 0 → replayV room ((rsOf l).take 1) = (0, ⟨q0, q1, m⟩)) ∧ (f0 ≠ 0 → e = f0)) := Lib.hid (by
        obtain ⟨t, ht⟩ := HR0.out
        have hne : nextE ⟨k, ⟨q0, q1, m⟩, c, p, ns⟩ room = f0 := by rw [hf0]; exact if_pos HK.out
        refine ⟨fun h => ?_, fun h => ?_⟩
        · rw [ht]
          exact repl_one (by rw [hne]; exact h)
        · have h1 : (replayV room (rsOf l)).1 = f0 := by rw [ht, repl_bad1 (by rw [hne]; exact h)]; exact hne
          rw [← HRV.out] at h1; exact h1)
      clear hf0
      go_wp2
      go_loopw [13, 14] (fun f i wr => ∃ (j : Nat) (fv : Int) (d : DaV) (A : Option Addr) (cA : Nat), 1 ≤ j ∧ j ≤ l.length ∧ i = .int .i64 (j : Int) ∧ f = .int .i64 fv ∧ (Below W.heap.size W wr ∧ TxAt wr (some ⟨tb, to, none⟩) (rsOf l) ∧ BoxD wr X10 A1 c1 gd (· = X12) ∧ BoxD wr X12 A cA d (· = X12)) ∧ (fv = 0 → replayV room ((rsOf l).take j) = (0, d)) ∧ (fv ≠ 0 → e = fv)) (fun _ i _ => l.length - (intOf i).toNat)
      case atStart => exact ⟨1, f0, ⟨q0, q1, m⟩, A0, ca0, Nat.le_refl _, HZ.out, rfl, rfl, H6.out, HST.out⟩
      case round =>
        obtain ⟨j, fv, d, A, cA, hj1, hj, rfl, rfl, hcom, hfv0, hfv1⟩ := hrel
        have HCM := Lib.hid hcom
        have HFV := Lib.hid (And.intro hfv0 hfv1)
        clear hcom hfv0 hfv1
        by_cases hj2 : j < l.length
        · have t1 : decide ((j : Int) < (l.length : Int)) = true := decide_eq_true (by omega)
          have t1' : decide (j < l.length) = true := decide_eq_true hj2
          by_cases hz : fv = 0
          · subst hz
            have HREP := Lib.hid (HFV.out.1 rfl)
            clear HFV
            obtain ⟨bb, oo, ebb, hbz, hc, hrl⟩ := HG.out j hj2
            have hq : b = bb ∧ off = oo := by
              injection ebb with e3
              injection e3 with e4 e5
              exact ⟨e4, e5⟩
            obtain ⟨rfl, rfl⟩ := hq
            obtain ⟨r, hr⟩ : ∃ r, r = l[j] := ⟨_, rfl⟩
            rw [← hr] at hc hrl
            have HTK : Hid ((rsOf l).take (j + 1) = (rsOf l).take j ++ [r.r] ∧ rsOf l = (rsOf l).take j ++ r.r :: (rsOf l).drop (j + 1)) := Lib.hid (by
              rw [hr]
              refine ⟨rsOf_take l j hj2, ?_⟩
              have h1 : j < (rsOf l).length := by rw [rsOf_len]; exact hj2
              rw [← rsOf_at l j hj2, ← List.drop_eq_getElem_cons h1, List.take_append_drop])
            have HF2 : Hid (FewR r.r) := Lib.hid (by rw [hr]; exact HFEW.out j hj2)
            have HRN : Hid (RcNum r.r) := Lib.hid ⟨hrl.d.p0, hrl.d.p1, hrl.p, hrl.d.lw, hrl.nw⟩
            have HRJ := Lib.hid hrl
            have hi0' : (j : Int) < (l.length : Int) := by omega
            have HJ := Lib.hid hj2
            have hcw : ∀ i, i < 10 → wr.cell? ⟨b, off + j * 10 + i, none⟩ = (r.cs)[i]? := fun i hi => (HCM.out.1.cell (p := ⟨b, off + j * 10 + i, none⟩) hbz).trans (hc i hi)
            clear hrl hbz hc hr ebb
            obtain ⟨⟨rk, ⟨rp0, rp1, rm⟩, rc, rp, rns⟩, RA, rca, RC, rcc⟩ := r
            have u0 := hcw 0 (by decide)
            have u1 := hcw 1 (by decide)
            have u2 := hcw 2 (by decide)
            have u3 := hcw 3 (by decide)
            have u4 := hcw 4 (by decide)
            have u5 := hcw 5 (by decide)
            have u6 := hcw 6 (by decide)
            have u7 := hcw 7 (by decide)
            have u8 := hcw 8 (by decide)
            have u9 := hcw 9 (by decide)
            simp only [ReW.cs, List.getElem?_cons_zero, List.getElem?_cons_succ, Nat.add_zero] at u0 u1 u2 u3 u4 u5 u6 u7 u8 u9
            clear hcw
            have x0 := Kq.blk_cell HCM.out.2.2.2.x 0
            have x1 := Kq.blk_cell HCM.out.2.2.2.x 1
            have x2 := Kq.blk_cell HCM.out.2.2.2.x 2
            have x3 := Kq.blk_cell HCM.out.2.2.2.x 3
            have x4 := Kq.blk_cell HCM.out.2.2.2.x 4
            go_wp2
            refine wp_region_any (by kernel_rfl) ?_
            (try (change wpAny _ _ _ _ _ _ _ (World.drew _)))
            obtain ⟨wd, hwd⟩ : ∃ z, z = wr.drew := ⟨_, rfl⟩
            have HCD : Hid (Below W.heap.size W wd ∧ TxAt wd (some ⟨tb, to, none⟩) (rsOf l) ∧ BoxD wd X10 A1 c1 gd (· = X12) ∧ BoxD wd X12 A cA d (· = X12)) := Lib.hid (by
              have hb : Below wr.heap.size wr wd := by rw [hwd]; exact (Below.refl _ _).drew
              exact ⟨HCM.out.1.trans (hb.mono HCM.out.1.size), HCM.out.2.1.below hb, HCM.out.2.2.1.below hb, HCM.out.2.2.2.below hb⟩)
            replace HRJ : Hid (RecW wd RA RC ⟨rk, ⟨rp0, rp1, rm⟩, rc, rp, rns⟩) := Lib.hid ((HRJ.out.few HF2.out.1.2 HF2.out.1.1).below HCD.out.1)
            replace x0 := (show wd.cell? ⟨X12, 0, none⟩ = wr.cell? ⟨X12, 0, none⟩ by rw [hwd]; rfl).trans x0
            replace x1 := (show wd.cell? ⟨X12, 1, none⟩ = wr.cell? ⟨X12, 1, none⟩ by rw [hwd]; rfl).trans x1
            replace x2 := (show wd.cell? ⟨X12, 2, none⟩ = wr.cell? ⟨X12, 2, none⟩ by rw [hwd]; rfl).trans x2
            replace x3 := (show wd.cell? ⟨X12, 3, none⟩ = wr.cell? ⟨X12, 3, none⟩ by rw [hwd]; rfl).trans x3
            replace x4 := (show wd.cell? ⟨X12, 4, none⟩ = wr.cell? ⟨X12, 4, none⟩ by rw [hwd]; rfl).trans x4
            replace u0 := (show wd.cell? ⟨b, off + j * 10, none⟩ = wr.cell? ⟨b, off + j * 10, none⟩ by rw [hwd]; rfl).trans u0
            replace u1 := (show wd.cell? ⟨b, off + j * 10 + 1, none⟩ = wr.cell? ⟨b, off + j * 10 + 1, none⟩ by rw [hwd]; rfl).trans u1
            replace u2 := (show wd.cell? ⟨b, off + j * 10 + 2, none⟩ = wr.cell? ⟨b, off + j * 10 + 2, none⟩ by rw [hwd]; rfl).trans u2
            replace u3 := (show wd.cell? ⟨b, off + j * 10 + 3, none⟩ = wr.cell? ⟨b, off + j * 10 + 3, none⟩ by rw [hwd]; rfl).trans u3
            replace u4 := (show wd.cell? ⟨b, off + j * 10 + 4, none⟩ = wr.cell? ⟨b, off + j * 10 + 4, none⟩ by rw [hwd]; rfl).trans u4
            replace u5 := (show wd.cell? ⟨b, off + j * 10 + 5, none⟩ = wr.cell? ⟨b, off + j * 10 + 5, none⟩ by rw [hwd]; rfl).trans u5
            replace u6 := (show wd.cell? ⟨b, off + j * 10 + 6, none⟩ = wr.cell? ⟨b, off + j * 10 + 6, none⟩ by rw [hwd]; rfl).trans u6
            replace u7 := (show wd.cell? ⟨b, off + j * 10 + 7, none⟩ = wr.cell? ⟨b, off + j * 10 + 7, none⟩ by rw [hwd]; rfl).trans u7
            replace u8 := (show wd.cell? ⟨b, off + j * 10 + 8, none⟩ = wr.cell? ⟨b, off + j * 10 + 8, none⟩ by rw [hwd]; rfl).trans u8
            replace u9 := (show wd.cell? ⟨b, off + j * 10 + 9, none⟩ = wr.cell? ⟨b, off + j * 10 + 9, none⟩ by rw [hwd]; rfl).trans u9
            rw [← hwd]
            clear hwd HCM
            refine wpAny_take (i := 1) (v := ?_) rfl (by kernel_rfl) (by kernel_rfl) (by kernel_rfl) (fun _ _ _ h => h) (Or.inl ⟨by kernel_rfl, ?_⟩) ?_
            rotate_left
            · intro w; go_simp; with_reducible rfl
            refine wpAny_take (i := 2) (v := ?_) rfl (by kernel_rfl) (by kernel_rfl) (by kernel_rfl) (fun _ _ _ h => h) (Or.inl ⟨by kernel_rfl, ?_⟩) ?_
            rotate_left
            · intro w; go_simp; with_reducible rfl
            refine wpAny_take (i := 3) (v := ?_) rfl (by kernel_rfl) (by kernel_rfl) (by kernel_rfl) (fun _ _ _ h => h) (Or.inl ⟨by kernel_rfl, ?_⟩) ?_
            rotate_left
            · intro w; go_simp; with_reducible rfl
            refine wpAny_take (i := 4) (v := ?_) rfl (by kernel_rfl) (by kernel_rfl) (by kernel_rfl) (fun _ _ _ h => h) (Or.inl ⟨by kernel_rfl, ?_⟩) ?_
            rotate_left
            · intro w; go_simp; with_reducible rfl
            refine wpAny_ready (rs := [0, 5]) (by kernel_rfl) (by simp) ?_
            refine AllReady.cons rfl (fun K hK => ?g0) (AllReady.cons rfl (fun K hK => ?g5) AllReady.nil)
            case' g0 =>
              go_simp
              refine hK _ _ ?_
              clear hK K
              refine wpAny_ready (rs := [5]) (by kernel_rfl) (by simp) ?_
              refine AllReady.cons rfl (fun K hK => ?_) AllReady.nil
              go_simp
              refine hK _ _ ?_
              clear hK K
            case' g5 =>
              go_simp
              refine hK _ _ ?_
              clear hK K
              refine wpAny_ready (rs := [0]) (by kernel_rfl) (by simp) ?_
              refine AllReady.cons rfl (fun K hK => ?_) AllReady.nil
              go_simp
              refine hK _ _ ?_
              clear hK K
            all_goals
              refine wpAny_ready (rs := [6]) (by kernel_rfl) (by simp) ?_
              refine AllReady.cons rfl (fun K hK => ?_) AllReady.nil
              go_simp
              refine (rec_step A cA d room RA rca RC rcc ⟨rk, ⟨rp0, rp1, rm⟩, rc, rp, rns⟩ wd HCD.out.2.2.2.w' HRJ.out).mono ?_
              intro x w4 hx
              obtain ⟨sv, hsv⟩ : ∃ sv, sv = stepV d room ⟨rk, ⟨rp0, rp1, rm⟩, rc, rp, rns⟩ := ⟨_, rfl⟩
              rw [← hsv] at hx
              have HSV := Lib.hid hsv
              clear hsv
              obtain ⟨e2, d2⟩ := sv
              simp only at hx
              have HD2 : Hid (e2 = 0 → DaNum d2 ∧ chkV d2 room = 0) := Lib.hid (fun h => by
                have h1 := step_num HCD.out.2.2.2.w'.num HRN.out (show (stepV d room ⟨rk, ⟨rp0, rp1, rm⟩, rc, rp, rns⟩).1 = 0 by rw [← HSV.out]; exact h)
                rw [← HSV.out] at h1; exact h1)
              obtain ⟨g2, A2, c2, rfl, hgw2, hga, hgb, hgc⟩ := hx.box (fun h => ⟨(HD2.out h).1, chk_len (HD2.out h).1 (HD2.out h).2⟩)
              have H7 : Hid (Below W.heap.size W w4 ∧ TxAt w4 (some ⟨tb, to, none⟩) (rsOf l) ∧ BoxD w4 X10 A1 c1 gd (· = X12) ∧ BoxD w4 X12 A cA d (· = X12)) := Lib.hid ⟨HCD.out.1.trans (hx.1.mono HCD.out.1.size), HCD.out.2.1.below hx.1, HCD.out.2.2.1.below hx.1, HCD.out.2.2.2.below hx.1⟩
              have H8 : Hid (DaW w4 A2 g2 ∧ (∀ b off, A2 = some ⟨b, off, none⟩ → b ≠ X12) ∧ (e2 = 0 → g2 = d2)) := Lib.hid ⟨hgw2, fun b off e => by have h1 := (hgc b off e).1; have h2 := Kq.blk_lt HCD.out.2.2.2.x; omega, hgb⟩
              clear hx hgw2 hga hgb hgc HCD HRJ x0 x1 x2 x3 x4 u0 u1 u2 u3 u4 u5 u6 u7 u8 u9
              refine hK _ _ ?_
              clear hK K
              unfold daV
              refine wpAny_take (i := 7) (v := ?_) rfl (by kernel_rfl) (by kernel_rfl) (by kernel_rfl) (fun _ _ _ h => h) (Or.inl ⟨by kernel_rfl, ?_⟩) ?_
              rotate_left
              · intro w; go_simp; with_reducible rfl
              refine wpAny_take (i := 8) (v := ?_) rfl (by kernel_rfl) (by kernel_rfl) (by kernel_rfl) (fun _ _ _ h => h) (Or.inl ⟨by kernel_rfl, ?_⟩) ?_
              rotate_left
              · intro w; go_simp; with_reducible rfl
              refine wpAny_take (i := 9) (v := ?_) rfl (by kernel_rfl) (by kernel_rfl) (by kernel_rfl) (fun _ _ _ h => h) (Or.inl ⟨by kernel_rfl, ?_⟩) ?_
              rotate_left
              · intro w; go_simp; with_reducible rfl
              have y0 := Kq.blk_cell H7.out.2.2.2.x 0
              have y1 := Kq.blk_cell H7.out.2.2.2.x 1
              have y2 := Kq.blk_cell H7.out.2.2.2.x 2
              have y3 := Kq.blk_cell H7.out.2.2.2.x 3
              have y4 := Kq.blk_cell H7.out.2.2.2.x 4
              have f0' := Kq.blk_free H7.out.2.2.2.x 0
              have f1' := Kq.blk_free H7.out.2.2.2.x 1
              have f2' := Kq.blk_free H7.out.2.2.2.x 2
              have f3' := Kq.blk_free H7.out.2.2.2.x 3
              have f4' := Kq.blk_free H7.out.2.2.2.x 4
              refine wpAny_ready (rs := [10]) (by kernel_rfl) (by simp) ?_
              refine AllReady.cons rfl (fun K hK => ?_) AllReady.nil
              go_simp
              refine hK _ _ ?_
              clear hK K
              clear y0 y1 y2 y3 y4 f0' f1' f2' f3' f4'
              obtain ⟨w8, hw8⟩ : ∃ z, z = fillD w4 X12 g2.p0.h g2.p0.i g2.p1.h g2.p1.i (.slice A2 g2.l.length c2) := ⟨_, rfl⟩
              have H9 : Hid (Below W.heap.size W w8 ∧ TxAt w8 (some ⟨tb, to, none⟩) (rsOf l) ∧ BoxD w8 X10 A1 c1 gd (· = X12) ∧ BoxD w8 X12 A2 c2 g2 (· = X12)) := Lib.hid (by
                have p1' := fillD_blk H7.out.2.2.2.x g2.p0.h g2.p0.i g2.p1.h g2.p1.i (.slice A2 g2.l.length c2)
                have p2' := fillD_keeps w4 X12 g2.p0.h g2.p0.i g2.p1.h g2.p1.i (.slice A2 g2.l.length c2)
                rw [← hw8] at p1' p2'
                refine ⟨H7.out.1.trans (p2'.below H7.out.1.size (fun k _ h => by rw [show k = X12 from h]; exact HSEP.out.2.2)), H7.out.2.1.keeps p2' HSEP.out.1, H7.out.2.2.1.keeps p2' HSEP.out.2.1, ⟨p1', ⟨H8.out.1.p0, H8.out.1.p1, H8.out.1.l.keeps p2' (fun g o e => H8.out.2.1 g o e), H8.out.1.lw, H8.out.1.ll⟩, fun _ b off e => H8.out.2.1 b off e⟩⟩)
              rw [show ((((w4.setCell ⟨X12, 0, none⟩ (.int .u64 g2.p0.h)).setCell ⟨X12, 1, none⟩ (.int .i64 g2.p0.i)).setCell ⟨X12, 2, none⟩ (.int .u64 g2.p1.h)).setCell ⟨X12, 3, none⟩ (.int .i64 g2.p1.i)).setCell ⟨X12, 4, none⟩ (.slice A2 g2.l.length c2) = w8 from hw8.symm]
              clear hw8
              refine wpAny_take (i := 11) (v := ?_) rfl (by kernel_rfl) (by kernel_rfl) (by kernel_rfl) (fun _ _ _ h => h) (Or.inl ⟨by kernel_rfl, ?_⟩) ?_
              rotate_left
              · intro w; go_simp; with_reducible rfl
              refine wpAny_done (by kernel_rfl) ?_ _
              have HNX : Hid ((e2 = 0 → replayV room ((rsOf l).take (j + 1)) = (0, g2)) ∧ (e2 ≠ 0 → e = e2)) := Lib.hid (by
                refine ⟨fun h => ?_, fun h => ?_⟩
                · have h2 := repl_next HREP.out (show (stepV d room ⟨rk, ⟨rp0, rp1, rm⟩, rc, rp, rns⟩).1 = 0 by rw [← HSV.out]; exact h)
                  rw [HTK.out.1, h2, H8.out.2.2 h, ← HSV.out]
                · have h2 := repl_bad ((rsOf l).drop (j + 1)) HREP.out (show (stepV d room ⟨rk, ⟨rp0, rp1, rm⟩, rc, rp, rns⟩).1 ≠ 0 by rw [← HSV.out]; exact h)
                  rw [← HTK.out.2, ← HRV.out, ← HSV.out] at h2
                  exact h2)
              clear H7 H8 HSV HD2 HREP HTK
              have hj30 : j ≤ 30 := by have h1 := HL.out; have h2 := HJ.out; omega
              go_wp2
              go_roundw
              case rel => exact ⟨j + 1, e2, g2, A2, c2, Nat.succ_le_succ (Nat.zero_le _), HJ.out, by go_num, rfl, H9.out, HNX.out⟩
              case measure => have := HJ.out; simp [intOf]; omega
          · have he0 : e ≠ 0 := by rw [HFV.out.2 hz]; exact hz
            have hfe : fv = e := (HFV.out.2 hz).symm
            subst hfe
            have hz1 : (fv == 0) = false := beq_eq_false_iff_ne.2 hz
            clear hz
            have he1 : (fv != 0) = true := by rw [bne_iff_ne]; exact he0
            have hee : (fv != fv) = false := by simp
            have hgz : gd = ⟨PlV.z, PlV.z, []⟩ := HGD.out.1 he0
            have HGW := Lib.hid HCM.out
            rw [hgz] at HGW
            have x0 := Kq.blk_cell HCM.out.2.2.1.x 0
            have x1 := Kq.blk_cell HCM.out.2.2.1.x 1
            have x2 := Kq.blk_cell HCM.out.2.2.1.x 2
            have x3 := Kq.blk_cell HCM.out.2.2.1.x 3
            have x4 := Kq.blk_cell HCM.out.2.2.1.x 4
            rw [hgz] at x0 x1 x2 x3 x4
            simp only [PlV.z, List.length_nil] at x0 x1 x2 x3 x4
            clear he0 hgz
            go_wp2_with fail
            refine (same_state A1 none c1 0 ⟨PlV.z, PlV.z, []⟩ wr plz_wf plz_wf (enAt_nil _ _ _) (enAt_nil _ _ _) (by decide)).mono ?_
            rintro x w8 ⟨rfl, b8⟩
            have H8 := Lib.hid (HGW.out.1.trans (b8.mono HGW.out.1.size))
            clear b8
            go_wp2
            go_ret
            exact ⟨rfl, H8.out⟩
        · obtain rfl : j = l.length := by omega
          have t1 : decide ((l.length : Int) < (l.length : Int)) = false := decide_eq_false (by omega)
          have t1' : decide (l.length < l.length) = false := decide_eq_false hj2
          by_cases hz : fv = 0
          · subst hz
            have hrep := HFV.out.1 rfl
            rw [← HLEN.out, List.take_length, ← HRV.out] at hrep
            have he0 : e = 0 := congrArg Prod.fst hrep
            have hdv : dv = d := congrArg Prod.snd hrep
            have hgd : gd = d := (HGD.out.2.1 he0).trans hdv
            have HDN : Hid (DaNum d ∧ chkV d room = 0) := Lib.hid (by rw [← hdv]; exact HDV.out he0)
            subst he0 hdv
            replace HCM : Hid (Below W.heap.size W wr ∧ TxAt wr (some ⟨tb, to, none⟩) (rsOf l) ∧ BoxD wr X10 A1 c1 dv (· = X12) ∧ BoxD wr X12 A cA dv (· = X12)) := Lib.hid (by rw [← hgd]; rw [← hgd] at HCM; exact HCM.out)
            have HLTL : Hid (lt < (rsOf l).length) := Lib.hid (by
              have h1 := HZ.out
              have h2 := HLEN.out
              rcases HLT.out with h | h <;> omega)
            have HLATE : Hid (replayV room ((rsOf l).drop lt) = (0, dv)) := Lib.hid (by
              have h1 := late_same (fun r hr => (HALL.out r hr).2) (show (replayV room (rsOf l)).1 = 0 by rw [← HRV.out]) HLTL.out (by
                rcases HLT.out with h | h
                · exact Or.inl h
                · have h3 : lt < l.length := by have h4 := HLEN.out; have h5 := HLTL.out; omega
                  exact Or.inr (by rw [rsOf_at l lt h3]; exact h.2 h3))
              rw [h1, ← HRV.out])
            have hlt1 : (lt : Int) ≤ ((rsOf l).length : Int) := by have := HLTL.out; omega
            have hlt2 : ((rsOf l).length : Int) ≤ (tc : Int) := by have := HTC.out.1; omega
            have hlt3 : lt < tc := by have h1 := HTC.out.1; have h2 := HLTL.out; omega
            have hlt4 : ¬ tc = lt := by omega
            clear hgd hrep HFV HRV
            go_wp2_with fail
            rw [show (rsOf l).length - lt = ((rsOf l).drop lt).length from List.length_drop.symm]
            refine (rec_replay room (some ⟨tb, to + lt, none⟩) (tc - lt) ((rsOf l).drop lt) wr (HCM.out.2.1.drop lt) (fun r hr => HALL.out r (List.mem_of_mem_drop hr)) (by rw [List.length_drop]; have h1 := HLEN.out; have h2 := HL.out; omega)).mono ?_
            intro x w8 hx
            rw [HLATE.out] at hx
            obtain ⟨gd3, A3, c3, rfl, hgw, hga, hgb, hgc⟩ := hx.box (fun _ => ⟨HDN.out.1, chk_len HDN.out.1 HDN.out.2⟩)
            have hgq : dv = gd3 := (hgb rfl).symm
            subst hgq
            obtain ⟨X15, hX15⟩ : ∃ X, X = w8.heap.size := ⟨_, rfl⟩
            obtain ⟨w9, hw9⟩ : ∃ z, z = w8.alloc (.cells #[.int .u64 dv.p0.h, .int .i64 dv.p0.i, .int .u64 dv.p1.h, .int .i64 dv.p1.i, .slice A3 dv.l.length c3] 32) := ⟨_, rfl⟩
            have H9 : Hid (Below W.heap.size W w9 ∧ BoxD w9 X10 A1 c1 dv (· = X12) ∧ BoxD w9 X12 A cA dv (· = X12) ∧ BoxD w9 X15 A3 c3 dv (fun _ => False)) := Lib.hid (by
              have hb := Kq.below_alloc w8 (.cells #[.int .u64 dv.p0.h, .int .i64 dv.p0.i, .int .u64 dv.p1.h, .int .i64 dv.p1.i, .slice A3 dv.l.length c3] 32)
              have hr := Kq.blk_new w8 #[.int .u64 dv.p0.h, .int .i64 dv.p0.i, .int .u64 dv.p1.h, .int .i64 dv.p1.i, .slice A3 dv.l.length c3] 32 (0, 0)
              rw [← hw9] at hb
              rw [← hw9, ← hX15] at hr
              exact ⟨(HCM.out.1.trans (hx.1.mono HCM.out.1.size)).trans (hb.mono (Nat.le_trans HCM.out.1.size hx.1.size)), (HCM.out.2.2.1.below hx.1).below hb, (HCM.out.2.2.2.below hx.1).below hb, hr, hgw.below hb, fun _ _ _ _ h => h⟩)
            clear hx hgw hga hgb hgc HCM hlt1 hlt2 hlt3 hlt4
            have x0 := Kq.blk_cell H9.out.2.1.x 0
            have x1 := Kq.blk_cell H9.out.2.1.x 1
            have x2 := Kq.blk_cell H9.out.2.1.x 2
            have x3 := Kq.blk_cell H9.out.2.1.x 3
            have x4 := Kq.blk_cell H9.out.2.1.x 4
            have y0 := Kq.blk_cell H9.out.2.2.1.x 0
            have y1 := Kq.blk_cell H9.out.2.2.1.x 1
            have y2 := Kq.blk_cell H9.out.2.2.1.x 2
            have y3 := Kq.blk_cell H9.out.2.2.1.x 3
            have y4 := Kq.blk_cell H9.out.2.2.1.x 4
            have z0 := Kq.blk_cell H9.out.2.2.2.x 0
            have z1 := Kq.blk_cell H9.out.2.2.2.x 1
            have z2 := Kq.blk_cell H9.out.2.2.2.x 2
            have z3 := Kq.blk_cell H9.out.2.2.2.x 3
            have z4 := Kq.blk_cell H9.out.2.2.2.x 4
            have HCELL := Lib.hid (And.intro x0 (And.intro x1 (And.intro x2 (And.intro x3 (And.intro x4 (And.intro y0 (And.intro y1 (And.intro y2 (And.intro y3 (And.intro y4 (And.intro z0 (And.intro z1 (And.intro z2 (And.intro z3 z4))))))))))))))
            rw [hw9] at x0 x1 x2 x3 x4 y0 y1 y2 y3 y4 z0 z1 z2 z3 z4
            unfold daV
            go_wp2_with fail
            rw [← hw9, ← hX15]
            clear x0 x1 x2 x3 x4 y0 y1 y2 y3 y4 z0 z1 z2 z3 z4 hw9 hX15
            refine (same_state A1 A c1 cA dv w9 HDN.out.1.p0 HDN.out.1.p1 H9.out.2.1.w'.l H9.out.2.2.1.w'.l (chk_len HDN.out.1 HDN.out.2)).mono ?_
            rintro x w10 ⟨rfl, b10⟩
            have H10 : Hid (Below W.heap.size W w10 ∧ BoxD w10 X10 A1 c1 dv (· = X12) ∧ BoxD w10 X12 A cA dv (· = X12) ∧ BoxD w10 X15 A3 c3 dv (fun _ => False)) := Lib.hid ⟨H9.out.1.trans (b10.mono H9.out.1.size), H9.out.2.1.below b10, H9.out.2.2.1.below b10, H9.out.2.2.2.below b10⟩
            clear b10 H9 HCELL
            have y0 := Kq.blk_cell H10.out.2.2.1.x 0
            have y1 := Kq.blk_cell H10.out.2.2.1.x 1
            have y2 := Kq.blk_cell H10.out.2.2.1.x 2
            have y3 := Kq.blk_cell H10.out.2.2.1.x 3
            have y4 := Kq.blk_cell H10.out.2.2.1.x 4
            have z0 := Kq.blk_cell H10.out.2.2.2.x 0
            have z1 := Kq.blk_cell H10.out.2.2.2.x 1
            have z2 := Kq.blk_cell H10.out.2.2.2.x 2
            have z3 := Kq.blk_cell H10.out.2.2.2.x 3
            have z4 := Kq.blk_cell H10.out.2.2.2.x 4
            go_wp2_with fail
            clear y0 y1 y2 y3 y4 z0 z1 z2 z3 z4
            refine (same_state A3 A c3 cA dv w10 HDN.out.1.p0 HDN.out.1.p1 H10.out.2.2.2.w'.l H10.out.2.2.1.w'.l (chk_len HDN.out.1 HDN.out.2)).mono ?_
            rintro x w11 ⟨rfl, b11⟩
            have H11 : Hid (Below W.heap.size W w11 ∧ BoxD w11 X10 A1 c1 dv (· = X12) ∧ BoxD w11 X12 A cA dv (· = X12) ∧ BoxD w11 X15 A3 c3 dv (fun _ => False)) := Lib.hid ⟨H10.out.1.trans (b11.mono H10.out.1.size), H10.out.2.1.below b11, H10.out.2.2.1.below b11, H10.out.2.2.2.below b11⟩
            clear b11 H10
            have y0 := Kq.blk_cell H11.out.2.2.1.x 0
            have y1 := Kq.blk_cell H11.out.2.2.1.x 1
            have y2 := Kq.blk_cell H11.out.2.2.1.x 2
            have y3 := Kq.blk_cell H11.out.2.2.1.x 3
            have y4 := Kq.blk_cell H11.out.2.2.1.x 4
            go_wp2_with fail
            clear y0 y1 y2 y3 y4
            refine (rec_check A cA dv room w11 H11.out.2.2.1.w').mono ?_
            rintro x w12 ⟨rfl, b12⟩
            rw [HDN.out.2]
            have H12 := Lib.hid (H11.out.1.trans (b12.mono H11.out.1.size))
            clear b12 H11
            go_wp2
            go_ret
            exact ⟨rfl, H12.out⟩
          · have he0 : e ≠ 0 := by rw [HFV.out.2 hz]; exact hz
            have hfe : fv = e := (HFV.out.2 hz).symm
            subst hfe
            clear hz
            have he1 : (fv != 0) = true := by rw [bne_iff_ne]; exact he0
            have hee : (fv != fv) = false := by simp
            have hgz : gd = ⟨PlV.z, PlV.z, []⟩ := HGD.out.1 he0
            have HGW := Lib.hid HCM.out
            rw [hgz] at HGW
            have x0 := Kq.blk_cell HCM.out.2.2.1.x 0
            have x1 := Kq.blk_cell HCM.out.2.2.1.x 1
            have x2 := Kq.blk_cell HCM.out.2.2.1.x 2
            have x3 := Kq.blk_cell HCM.out.2.2.1.x 3
            have x4 := Kq.blk_cell HCM.out.2.2.1.x 4
            rw [hgz] at x0 x1 x2 x3 x4
            simp only [PlV.z, List.length_nil] at x0 x1 x2 x3 x4
            clear he0 hgz
            go_wp2_with fail
            refine (same_state A1 none c1 0 ⟨PlV.z, PlV.z, []⟩ wr plz_wf plz_wf (enAt_nil _ _ _) (enAt_nil _ _ _) (by decide)).mono ?_
            rintro x w8 ⟨rfl, b8⟩
            have H8 := Lib.hid (HGW.out.1.trans (b8.mono HGW.out.1.size))
            clear b8
            go_wp2
            go_ret
            exact ⟨rfl, H8.out⟩
end recordWhole
theorem recordWhole_walk {W : World} (a0 : Int) (v1 : Value) (w0 : (Lit.int .i64 a0).wf = true) (hd1 : ∃ A cap, ∃ l : List ReW, v1 = .slice A l.length cap ∧ l.length ≤ cap ∧ RecsAt W A l) :
    Calls Try.prog 3 #[.int .i64 a0, v1] W fun x w' => x = .returned (.bool true) ∧ Below W.heap.size W w' := by
  obtain ⟨A, cap, l, rfl, _, h⟩ := hd1
  exact recordWhole.main a0 A cap l W h
end Go.Proofs.Ytkbiolhcpghmkaa
