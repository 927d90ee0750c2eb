/- carracklaw20.NetOrder walked. No condition. -/
import Derived.WalkSpells
import Derived.Outline
import Derived.Deep.QuietTactic
import Derived.BigQuiet
import Derived.Test.YtahijpfmpdjceaaHeldMono
import Derived.Test.YtahijpfmpdjceaaNetOrderM
namespace Go.Proofs.Ytahijpfmpdjceaa.netOrder
open Go.RowKit
set_option linter.unusedVariables false
set_option maxRecDepth 100000 in
set_option maxHeartbeats 4000000 in
theorem few_Mgo (A : Option Addr) (cap : Nat) (l : List MsgV) (n t : Nat) (W : World) (hl : ¬ 400 < l.length) (hlc : l.length ≤ cap) (h0 : A = none → l.length = 0) (ha : MsAt W A l) (hS : l.length ≤ 256) (hk : n < l.length ∧ t < l.length) :
    Calls Try.prog 4 #[.slice A l.length cap, .int .i64 (n : Int), .int .i64 (t : Int)] W fun e w' => e = .returned (.bool true) ∧ Below W.heap.size W w' := by
  have d0 : decide ((400 : Int) < (l.length : Int)) = false := decide_eq_false (by omega)
  have d1 : decide (400 < l.length) = false := decide_eq_false hl
  have d6 : decide ((256 : Int) < (l.length : Int)) = false := decide_eq_false (by omega)
  have d7 : decide (256 < l.length) = false := decide_eq_false (by omega)
  have d8 : ¬ 256 < l.length := by omega
  have d9 : ¬ (256 : Int) < (l.length : Int) := by omega
  have hsn : sendN l.length 0 = l.length := by unfold sendN; omega
  have hml : (l.take (sendN l.length 0)).length = l.length := by rw [List.length_take, hsn]; omega
  have hme : ∀ j (h : j < (l.take (sendN l.length 0)).length) (h' : j < l.length), (l.take (sendN l.length 0))[j] = l[j] := fun j h h' => List.getElem_take
  have H := Lib.hid (And.intro ha (And.intro hlc (And.intro h0 (Nat.not_lt.1 hl))))
  have HS := Lib.hid hS
  have HK := Lib.hid (hk)
  have HSN := Lib.hid hsn
  have HML := Lib.hid hml
  have HME := Lib.hid hme
  clear hl hlc h0 ha hml hme hsn hS hk
  go_enter Try.func4, Try.ntmps4
  go_wp2_with fail
  refine (awake _).mono ?_
  rintro e w1 ⟨rfl, b1⟩
  have H1 := Lib.hid b1
  clear b1
  go_wp2_with fail
  refine (nt_new _).mono ?_
  rintro e w2 ⟨rfl, hs, hb⟩
  have H2 := Lib.hid (NtI.made H1.out hs hb)
  clear hs hb
  generalize w1.heap.size = N at *
  go_wp2_with fail
  have hse := nt_send N N _ [] A cap l _ H2.out.s (by simp) (by have := H.out.2.2.2; omega) H.out.2.1 (H.out.1.below H2.out.bel) H.out.2.2.1
  rw [List.nil_append, show ([] : List MsgV).length = 0 from rfl] at hse
  generalize l.take (sendN l.length 0) = ms at *
  rw [HSN.out] at hse
  refine hse.mono ?_
  clear hse
  rintro e w3 ⟨rfl, hd⟩
  obtain ⟨v3, hi3⟩ := H2.out.step hd
  have H3 := Lib.hid hi3
  clear hd hi3 H2
  go_wp2_with fail
  have hlen := nt_len N N v3 ms _ H3.out.s
  rw [HML.out] at hlen
  refine hlen.mono ?_
  clear hlen
  rintro e w4 ⟨rfl, rfl⟩
  go_wp2_with fail

  have hnm : n < ms.length := by rw [HML.out]; exact HK.out.1
  have htm : t < ms.length := by rw [HML.out]; exact HK.out.2
  have hnl : n < l.length := by have := HK.out.1; have := HS.out; omega
  have hmv := nt_move N N v3 ms (n : Int) (t : Int) _ H3.out.s (by rw [HML.out]; exact HS.out)
  rw [show moveF (n : Int) (t : Int) ms = (moveL n t ms[n]! ms, 0) by unfold moveF; rw [if_pos ⟨decide_eq_true (by omega), decide_eq_true (by omega)⟩]; rfl] at hmv
  refine hmv.mono ?_
  clear hmv
  rintro e wa ⟨rfl, hp⟩
  obtain ⟨va, hia⟩ := H3.out.step hp
  have HA := Lib.hid hia
  have hns : (moveL n t ms[n]! ms).length = l.length := by rw [moveL_length hnm htm, HML.out]
  have hat : ∀ h, (moveL n t ms[n]! ms)[t]'h = l[n] := fun h => by rw [netMoves.moveL_at hnm htm h, getElem!_pos ms n hnm, HME.out n hnm hnl]
  have hbk : moveL t n (moveL n t ms[n]! ms)[t]! (moveL n t ms[n]! ms) = ms := moveL_back hnm htm
  generalize moveL n t ms[n]! ms = ns at *
  have HNS := Lib.hid (And.intro hns hbk)
  have htn : t < ns.length := by rw [hns]; exact HK.out.2
  have HAT := Lib.hid (hat htn)
  clear hp hia hns hat hbk H3
  go_wp2_with fail
  have hls := netMoves.nt_listed_apart N N va ns _ HA.out.s (by rw [HNS.out.1]; have := HS.out; omega)
  rw [HNS.out.1] at hls
  refine hls.mono ?_
  clear hls
  rintro e wb ⟨A6, c6, rfl, hc6, h06, hat6, hap6, b6⟩
  have HM6 := Lib.hid (And.intro hat6 hap6)
  have HB := Lib.hid (HA.out.below b6)
  obtain ⟨g6, o6, rfl, hg6, hq6⟩ := hat6 t htn
  obtain ⟨g4, o4, rfl, hg4, hq4⟩ := (H.out.1.below HB.out.bel) n hnl
  rw [HAT.out] at hq6
  have KMB : Hid (Calls Try.prog 16 #[.pointer (some ⟨N, 0, none⟩), .int .i64 (t : Int), .int .i64 (n : Int)] wb.drew fun e w' => e = .returned (.int .i64 0) ∧ NtP wb.drew N N va ms w') := by
    have hmv := nt_move N N va ns (t : Int) (n : Int) wb.drew (HB.out.below (Below.refl _ _).drew).s (by rw [HNS.out.1]; exact HS.out)
    rw [show moveF (t : Int) (n : Int) ns = (moveL t n ns[t]! ns, 0) by unfold moveF; rw [if_pos ⟨decide_eq_true (by omega), decide_eq_true (by have := HNS.out.1; have := HML.out; omega)⟩]; rfl, HNS.out.2] at hmv
    exact Lib.hid hmv
  have HNL := Lib.hid hnl
  have HTN := Lib.hid htn
  obtain ⟨m, hm⟩ : ∃ m, m = l[n]'hnl := ⟨_, rfl⟩
  have HML4 : Hid (l[n]'HNL.out = m) := Lib.hid hm.symm
  have HAT : Hid (ns[t]'HTN.out = m) := Lib.hid (by rw [hm]; exact HAT.out)
  rw [← hm] at hq6 hq4
  clear hm
  have x0 := hq6 0 (by omega)
  have x1 := hq6 1 (by omega)
  have x2 := hq6 2 (by omega)
  have x3 := hq6 3 (by omega)
  have x4 := hq6 4 (by omega)
  have x5 := hq6 5 (by omega)
  have x6 := hq6 6 (by omega)
  have x7 := hq6 7 (by omega)
  have y0 := hq4 0 (by omega)
  have y1 := hq4 1 (by omega)
  have y2 := hq4 2 (by omega)
  have y3 := hq4 3 (by omega)
  have y4 := hq4 4 (by omega)
  have y5 := hq4 5 (by omega)
  have y6 := hq4 6 (by omega)
  have y7 := hq4 7 (by omega)
  simp only [Nat.add_zero, MsgV.cells, List.getElem?_cons_zero, List.getElem?_cons_succ] at x0 x1 x2 x3 x4 x5 x6 x7 y0 y1 y2 y3 y4 y5 y6 y7
  have f7 : (t : Int) < (l.length : Int) := by have := HK.out.2; omega
  have f8 : (n : Int) < (l.length : Int) := by omega
  clear hq6 hq4 hg6 hg4 hat6 hap6 b6 hc6 h06 HA hnm htm
  go_wp2
  refine wp_region_held_drew (S := fun w' => w'.cell? ⟨g6, o6 + t * 8, none⟩ = some (.int .i64 m.kind) ∧ w'.cell? ⟨g6, o6 + t * 8 + 1, none⟩ = some (.int .i64 m.to) ∧ w'.cell? ⟨g6, o6 + t * 8 + 2, none⟩ = some (.int .u64 m.ht) ∧ w'.cell? ⟨g6, o6 + t * 8 + 3, none⟩ = some (.int .i64 m.fr) ∧ w'.cell? ⟨g6, o6 + t * 8 + 4, none⟩ = some (.int .u64 m.sq) ∧ w'.cell? ⟨g6, o6 + t * 8 + 5, none⟩ = some (.int .u64 m.tm) ∧ w'.cell? ⟨g6, o6 + t * 8 + 6, none⟩ = some (.string m.d) ∧ w'.cell? ⟨g6, o6 + t * 8 + 7, none⟩ = some (.string m.p) ∧ w'.cell? ⟨g4, o4 + n * 8, none⟩ = some (.int .i64 m.kind) ∧ w'.cell? ⟨g4, o4 + n * 8 + 1, none⟩ = some (.int .i64 m.to) ∧ w'.cell? ⟨g4, o4 + n * 8 + 2, none⟩ = some (.int .u64 m.ht) ∧ w'.cell? ⟨g4, o4 + n * 8 + 3, none⟩ = some (.int .i64 m.fr) ∧ w'.cell? ⟨g4, o4 + n * 8 + 4, none⟩ = some (.int .u64 m.sq) ∧ w'.cell? ⟨g4, o4 + n * 8 + 5, none⟩ = some (.int .u64 m.tm) ∧ w'.cell? ⟨g4, o4 + n * 8 + 6, none⟩ = some (.string m.d) ∧ w'.cell? ⟨g4, o4 + n * 8 + 7, none⟩ = some (.string m.p)) (by kernel_rfl) ⟨x0, x1, x2, x3, x4, x5, x6, x7, y0, y1, y2, y3, y4, y5, y6, y7⟩ (fun hS0 => ?_)
  clear x0 x1 x2 x3 x4 x5 x6 x7 y0 y1 y2 y3 y4 y5 y6 y7
  refine wpAnyH_take (i := 0) (v := ?_) rfl (by kernel_rfl) (by kernel_rfl) (by kernel_rfl) (fun _ _ _ h => h) (Or.inl ⟨by kernel_rfl, ?_⟩) (by assumption) ?_
  rotate_left
  · intro w hSw; (try dsimp only at hSw); go_simp; (try with_reducible rfl)
  refine wpAnyH_take (i := 1) (v := ?_) rfl (by kernel_rfl) (by kernel_rfl) (by kernel_rfl) (fun _ _ _ h => h) (Or.inl ⟨by kernel_rfl, ?_⟩) (by assumption) ?_
  rotate_left
  · intro w hSw; (try dsimp only at hSw); go_simp; (try with_reducible rfl)
  refine wpAnyH_take (i := 2) (v := ?_) rfl (by kernel_rfl) (by kernel_rfl) (by kernel_rfl) (fun _ _ _ h => h) (Or.inl ⟨by kernel_rfl, ?_⟩) (by assumption) ?_
  rotate_left
  · intro w hSw; (try dsimp only at hSw); go_simp; (try with_reducible rfl)
  refine wpAnyH_take (i := 3) (v := ?_) rfl (by kernel_rfl) (by kernel_rfl) (by kernel_rfl) (fun _ _ _ h => h) (Or.inl ⟨by kernel_rfl, ?_⟩) (by assumption) ?_
  rotate_left
  · intro w hSw; (try dsimp only at hSw); go_simp; (try with_reducible rfl)
  refine wpAnyH_take (i := 4) (v := ?_) rfl (by kernel_rfl) (by kernel_rfl) (by kernel_rfl) (fun _ _ _ h => h) (Or.inl ⟨by kernel_rfl, ?_⟩) (by assumption) ?_
  rotate_left
  · intro w hSw; (try dsimp only at hSw); go_simp; (try with_reducible rfl)
  refine wpAnyH_take (i := 5) (v := ?_) rfl (by kernel_rfl) (by kernel_rfl) (by kernel_rfl) (fun _ _ _ h => h) (Or.inl ⟨by kernel_rfl, ?_⟩) (by assumption) ?_
  rotate_left
  · intro w hSw; (try dsimp only at hSw); go_simp; (try with_reducible rfl)
  refine wpAnyH_take (i := 6) (v := ?_) rfl (by kernel_rfl) (by kernel_rfl) (by kernel_rfl) (fun _ _ _ h => h) (Or.inl ⟨by kernel_rfl, ?_⟩) (by assumption) ?_
  rotate_left
  · intro w hSw; (try dsimp only at hSw); go_simp; (try with_reducible rfl)
  refine wpAnyH_take (i := 7) (v := ?_) rfl (by kernel_rfl) (by kernel_rfl) (by kernel_rfl) (fun _ _ _ h => h) (Or.inl ⟨by kernel_rfl, ?_⟩) (by assumption) ?_
  rotate_left
  · intro w hSw; (try dsimp only at hSw); go_simp; (try with_reducible rfl)
  refine wpAnyH_take (i := 9) (v := ?_) rfl (by kernel_rfl) (by kernel_rfl) (by kernel_rfl) (fun _ _ _ h => h) (Or.inl ⟨by kernel_rfl, ?_⟩) (by assumption) ?_
  rotate_left
  · intro w hSw; (try dsimp only at hSw); go_simp; (try with_reducible rfl)
  refine wpAnyH_take (i := 10) (v := ?_) rfl (by kernel_rfl) (by kernel_rfl) (by kernel_rfl) (fun _ _ _ h => h) (Or.inl ⟨by kernel_rfl, ?_⟩) (by assumption) ?_
  rotate_left
  · intro w hSw; (try dsimp only at hSw); go_simp; (try with_reducible rfl)
  refine wpAnyH_take (i := 11) (v := ?_) rfl (by kernel_rfl) (by kernel_rfl) (by kernel_rfl) (fun _ _ _ h => h) (Or.inl ⟨by kernel_rfl, ?_⟩) (by assumption) ?_
  rotate_left
  · intro w hSw; (try dsimp only at hSw); go_simp; (try with_reducible rfl)
  refine wpAnyH_take (i := 8) (v := ?_) rfl (by kernel_rfl) (by kernel_rfl) (by kernel_rfl) (fun _ _ _ h => h) (Or.inl ⟨by kernel_rfl, ?_⟩) (by assumption) ?_
  rotate_left
  · intro w hSw; (try dsimp only at hSw); go_simp; (try with_reducible rfl)
  refine wpAnyH_take (i := 12) (v := ?_) rfl (by kernel_rfl) (by kernel_rfl) (by kernel_rfl) (fun _ _ _ h => h) (Or.inl ⟨by kernel_rfl, ?_⟩) (by assumption) ?_
  rotate_left
  · intro w hSw; (try dsimp only at hSw); go_simp; (try with_reducible rfl)
  refine wpAnyH_take (i := 13) (v := ?_) rfl (by kernel_rfl) (by kernel_rfl) (by kernel_rfl) (fun _ _ _ h => h) (Or.inl ⟨by kernel_rfl, ?_⟩) (by assumption) ?_
  rotate_left
  · intro w hSw; (try dsimp only at hSw); go_simp; (try with_reducible rfl)
  refine wpAnyH_take (i := 14) (v := ?_) rfl (by kernel_rfl) (by kernel_rfl) (by kernel_rfl) (fun _ _ _ h => h) (Or.inl ⟨by kernel_rfl, ?_⟩) (by assumption) ?_
  rotate_left
  · intro w hSw; (try dsimp only at hSw); go_simp; (try with_reducible rfl)
  refine wpAnyH_take (i := 15) (v := ?_) rfl (by kernel_rfl) (by kernel_rfl) (by kernel_rfl) (fun _ _ _ h => h) (Or.inl ⟨by kernel_rfl, ?_⟩) (by assumption) ?_
  rotate_left
  · intro w hSw; (try dsimp only at hSw); go_simp; (try with_reducible rfl)
  refine wpAnyH_take (i := 16) (v := ?_) rfl (by kernel_rfl) (by kernel_rfl) (by kernel_rfl) (fun _ _ _ h => h) (Or.inl ⟨by kernel_rfl, ?_⟩) (by assumption) ?_
  rotate_left
  · intro w hSw; (try dsimp only at hSw); go_simp; (try with_reducible rfl)
  refine wpAnyH_take (i := 17) (v := ?_) rfl (by kernel_rfl) (by kernel_rfl) (by kernel_rfl) (fun _ _ _ h => h) (Or.inl ⟨by kernel_rfl, ?_⟩) (by assumption) ?_
  rotate_left
  · intro w hSw; (try dsimp only at hSw); go_simp; (try with_reducible rfl)
  refine wpAnyH_take (i := 18) (v := ?_) rfl (by kernel_rfl) (by kernel_rfl) (by kernel_rfl) (fun _ _ _ h => h) (Or.inl ⟨by kernel_rfl, ?_⟩) (by assumption) ?_
  rotate_left
  · intro w hSw; (try dsimp only at hSw); go_simp; (try with_reducible rfl)
  refine wpAnyH_ready (rs := [19]) (by kernel_rfl) (by simp) ?_
  refine AllReadyH.cons rfl (fun K hK => ?_) AllReadyH.nil
  go_simp
  with_reducible refine KMB.out.mono ?_
  rintro e w5 ⟨rfl, hp5⟩
  have hk5 : Kq.Keeps (OwnN N va) wb.drew w5 := by obtain ⟨_, _, h, _⟩ := hp5; exact h
  have hm6 : MsAt w5 (some ⟨g6, o6, none⟩) ns := MsAt.keeps (w := wb.drew) HM6.out.1 hk5 HM6.out.2
  obtain ⟨v5, hi5⟩ := (HB.out.below (Below.refl _ _).drew).step hp5
  have H5 := Lib.hid hi5
  have hq6 : ∀ i, i < 8 → w5.cell? ⟨g6, o6 + t * 8 + i, none⟩ = m.cells[i]? := fun i hi => by
    obtain ⟨g', o', e, _, hc⟩ := hm6 t HTN.out
    injection e with e
    injection e with e1 e2
    subst e1
    subst e2
    rw [hc i hi, HAT.out]
  have hq4 : ∀ i, i < 8 → w5.cell? ⟨g4, o4 + n * 8 + i, none⟩ = m.cells[i]? := fun i hi => by
    obtain ⟨g', o', e, _, hc⟩ := (H.out.1.below H5.out.bel) n HNL.out
    injection e with e
    injection e with e1 e2
    subst e1
    subst e2
    rw [hc i hi, HML4.out]
  have x0 := hq6 0 (by omega)
  have y0 := hq4 0 (by omega)
  have x1 := hq6 1 (by omega)
  have y1 := hq4 1 (by omega)
  have x2 := hq6 2 (by omega)
  have y2 := hq4 2 (by omega)
  have x3 := hq6 3 (by omega)
  have y3 := hq4 3 (by omega)
  have x4 := hq6 4 (by omega)
  have y4 := hq4 4 (by omega)
  have x5 := hq6 5 (by omega)
  have y5 := hq4 5 (by omega)
  have x6 := hq6 6 (by omega)
  have y6 := hq4 6 (by omega)
  have x7 := hq6 7 (by omega)
  have y7 := hq4 7 (by omega)
  simp only [Nat.add_zero, MsgV.cells, List.getElem?_cons_zero, List.getElem?_cons_succ] at x0 x1 x2 x3 x4 x5 x6 x7 y0 y1 y2 y3 y4 y5 y6 y7
  clear hi5 hp5 KMB HB hq6 hq4 hk5 hm6 hS0
  refine hK.out _ _ ⟨x0, x1, x2, x3, x4, x5, x6, x7, y0, y1, y2, y3, y4, y5, y6, y7⟩ (fun hS0 => ?_)
  clear hK K x0 x1 x2 x3 x4 x5 x6 x7 y0 y1 y2 y3 y4 y5 y6 y7
  refine wpAnyH_take (i := 20) (v := ?_) rfl (by kernel_rfl) (by kernel_rfl) (by kernel_rfl) (fun _ _ _ h => h) (Or.inl ⟨by kernel_rfl, ?_⟩) (by assumption) ?_
  rotate_left
  · intro w hSw; (try dsimp only at hSw); go_simp; (try with_reducible rfl)
  refine wpAnyH_take (i := 21) (v := ?_) rfl (by kernel_rfl) (by kernel_rfl) (by kernel_rfl) (fun _ _ _ h => h) (Or.inl ⟨by kernel_rfl, ?_⟩) (by assumption) ?_
  rotate_left
  · intro w hSw; (try dsimp only at hSw); go_simp; (try with_reducible rfl)
  refine wpAnyH_done (by kernel_rfl) ?_ _
  clear f7 f8 hS0
  go_wp2
  go_loopw [10] (fun i wr => ∃ j : Nat, ∃ v : Value, j ≤ l.length ∧ i = .int .i64 (j : Int) ∧ NtI W wr N N v (ms.drop j)) (fun i _ => l.length - (intOf i).toNat)
  case atStart => exact ⟨0, _, Nat.zero_le _, rfl, by rw [List.drop_zero]; exact H5.out⟩
  case round =>
    obtain ⟨j, v, hj, rfl, hi⟩ := hrel
    have HI := Lib.hid hi
    have HJ := Lib.hid hj
    clear hi hj
    by_cases hlt : j < l.length
    · have l1 : (j : Int) < (l.length : Int) := by omega
      have l2 : decide ((j : Int) < (l.length : Int)) = true := decide_eq_true l1
      have HLT := Lib.hid hlt
      have hjl : j < l.length := by have := HS.out; omega
      have hjm : j < ms.length := by rw [HML.out]; exact hlt
      obtain ⟨g, o, hA, hg, hc⟩ := H.out.1 j hjl
      injection hA with hA
      injection hA with e1 e2
      have e1 := e1.symm
      have e2 := e2.symm
      subst e1
      subst e2
      have hem := HME.out j hjm hjl
      have htk := nt_take N N v (ms.drop j) 0 wr HI.out.s (by rw [List.length_drop, HML.out]; omega)
      rw [takeF_zero j hjm, hem] at htk
      have l3 : (j : Int) < (l.length : Int) := by omega
      generalize l[j] = m at *
      have HC := Lib.hid (And.intro hg hc)
      have HT := Lib.hid htk
      clear hlt hjm hem hg hc htk
      go_wp2_with fail
      refine HT.out.mono ?_
      rintro e w6 ⟨rfl, hp6⟩
      obtain ⟨v6, hi6⟩ := HI.out.step hp6
      have H6 := Lib.hid hi6
      clear hi6 hp6 HT HI
      unfold MsgV.val
      go_wp2
      obtain ⟨wb, hwb⟩ : ∃ z, z = w6.alloc (.cells #[.int .i64 m.kind, .int .i64 m.to, .int .u64 m.ht, .int .i64 m.fr, .int .u64 m.sq, .int .u64 m.tm, .string m.d, .string m.p] 39) := ⟨_, rfl⟩
      rw [← hwb]
      have hbw : Below w6.heap.size w6 wb := by rw [hwb]; exact Kq.below_alloc _ _
      have hbx : wb.heap[w6.heap.size]? = some (.cells #[.int .i64 m.kind, .int .i64 m.to, .int .u64 m.ht, .int .i64 m.fr, .int .u64 m.sq, .int .u64 m.tm, .string m.d, .string m.p] 39 (0, 0)) := by rw [hwb]; exact Kq.blk_new _ _ _ _
      have H7 := Lib.hid (H6.out.below hbw)
      have hc := HC.out.2
      have hcc : ∀ i, i < 8 → wb.cell? ⟨g, o + j * 8 + i, none⟩ = m.cells[i]? := fun i hi => by rw [← hc i hi]; exact World.cell?_of_block (H7.out.bel.block g HC.out.1)
      have x0 := Kq.blk_cell hbx 0
      have x1 := Kq.blk_cell hbx 1
      have x2 := Kq.blk_cell hbx 2
      have x3 := Kq.blk_cell hbx 3
      have x4 := Kq.blk_cell hbx 4
      have x5 := Kq.blk_cell hbx 5
      have x6 := Kq.blk_cell hbx 6
      have x7 := Kq.blk_cell hbx 7
      have y0 := hcc 0 (by omega)
      have y1 := hcc 1 (by omega)
      have y2 := hcc 2 (by omega)
      have y3 := hcc 3 (by omega)
      have y4 := hcc 4 (by omega)
      have y5 := hcc 5 (by omega)
      have y6 := hcc 6 (by omega)
      have y7 := hcc 7 (by omega)
      simp only [Nat.add_zero, MsgV.cells, List.getElem?_toArray, List.getElem?_cons_zero, List.getElem?_cons_succ] at x0 x1 x2 x3 x4 x5 x6 x7 y0 y1 y2 y3 y4 y5 y6 y7
      clear hc hcc hbx hbw hwb H6
      go_quiet (fail)
      go_wp2
      go_roundw
      case rel => exact ⟨j + 1, v6, by have := HLT.out; omega, by go_num, H7.out.below ⟨rfl, rfl, rfl, Nat.le_refl _, fun _ _ => rfl⟩⟩
      case measure => simp [intOf]; have := HLT.out; omega
    · have l1 : ¬ (j : Int) < (l.length : Int) := by omega
      have hjs : j = ms.length := by have := HJ.out; rw [HML.out]; omega
      have htk := nt_take N N v (ms.drop j) 0 wr HI.out.s (by rw [List.length_drop, HML.out]; omega)
      rw [hjs, takeF_none] at htk
      have HT := Lib.hid htk
      rw [hjs] at HI
      clear htk hjs
      go_wp2_with fail
      refine HT.out.mono ?_
      rintro e w6 ⟨rfl, hp6⟩
      obtain ⟨v6, hi6⟩ := HI.out.step hp6
      have H6 := Lib.hid hi6
      clear hi6 hp6 HT HI
      unfold MsgV.val zeroM
      go_wp2_with fail
      obtain ⟨wb, hwb⟩ : ∃ z, z = w6.alloc (.cells #[.int .i64 0, .int .i64 0, .int .u64 0, .int .i64 0, .int .u64 0, .int .u64 0, .string ⟨#[]⟩, .string ⟨#[]⟩] 39) := ⟨_, rfl⟩
      rw [← hwb]
      have hbw : Below w6.heap.size w6 wb := by rw [hwb]; exact Kq.below_alloc _ _
      have H7 := Lib.hid (H6.out.below hbw)
      clear hbw hwb H6
      have hlen := nt_len N N v6 [] _ H7.out.s
      refine hlen.mono ?_
      clear hlen
      rintro e w7 ⟨rfl, rfl⟩
      go_wp2
      go_ret
      exact ⟨rfl, H7.out.bel⟩
end Go.Proofs.Ytahijpfmpdjceaa.netOrder
