/- carracklaw20.NetOrder walked. No condition. -/
import Derived.WalkSpells
import Derived.Outline
import Derived.Deep.QuietTactic
import Derived.BigQuiet
import Derived.Test.YtahijpfmpdjceaaHeldMono
import Derived.Test.YtahijpfmpdjceaaNetOrderM
namespace Go.Proofs.Ytahijpfmpdjceaa.netOrder
open Go.RowKit
set_option linter.unusedVariables false
set_option maxRecDepth 100000 in
set_option maxHeartbeats 4000000 in
theorem few_Mt0 (A : Option Addr) (cap : Nat) (l : List MsgV) (k t : Int) (W : World) (hl : ¬ 400 < l.length) (hlc : l.length ≤ cap) (h0 : A = none → l.length = 0) (ha : MsAt W A l) (hS : l.length ≤ 256) (hk : 0 ≤ k ∧ k < (l.length : Int) ∧ ¬ 0 ≤ t) :
    Calls Try.prog 4 #[.slice A l.length cap, .int .i64 k, .int .i64 t] W fun e w' => e = .returned (.bool true) ∧ Below W.heap.size W w' := by
  have d0 : decide ((400 : Int) < (l.length : Int)) = false := decide_eq_false (by omega)
  have d1 : decide (400 < l.length) = false := decide_eq_false hl
  have d2 : decide (0 ≤ k) = true := decide_eq_true hk.1
  have d3 : decide (k < (l.length : Int)) = true := decide_eq_true hk.2.1
  have d4 : decide (0 ≤ t) = false := decide_eq_false hk.2.2
  have d6 : decide ((256 : Int) < (l.length : Int)) = false := decide_eq_false (by omega)
  have d7 : decide (256 < l.length) = false := decide_eq_false (by omega)
  have d8 : ¬ 256 < l.length := by omega
  have d9 : ¬ (256 : Int) < (l.length : Int) := by omega
  have hsn : sendN l.length 0 = l.length := by unfold sendN; omega
  have hml : (l.take (sendN l.length 0)).length = l.length := by rw [List.length_take, hsn]; omega
  have hme : ∀ j (h : j < (l.take (sendN l.length 0)).length) (h' : j < l.length), (l.take (sendN l.length 0))[j] = l[j] := fun j h h' => List.getElem_take
  have H := Lib.hid (And.intro ha (And.intro hlc (And.intro h0 (Nat.not_lt.1 hl))))
  have HS := Lib.hid hS
  have HK := Lib.hid (hk)
  have HSN := Lib.hid hsn
  have HML := Lib.hid hml
  have HME := Lib.hid hme
  clear hl hlc h0 ha hml hme hsn hS hk
  go_enter Try.func4, Try.ntmps4
  go_wp2_with fail
  refine (awake _).mono ?_
  rintro e w1 ⟨rfl, b1⟩
  have H1 := Lib.hid b1
  clear b1
  go_wp2_with fail
  refine (nt_new _).mono ?_
  rintro e w2 ⟨rfl, hs, hb⟩
  have H2 := Lib.hid (NtI.made H1.out hs hb)
  clear hs hb
  generalize w1.heap.size = N at *
  go_wp2_with fail
  have hse := nt_send N N _ [] A cap l _ H2.out.s (by simp) (by have := H.out.2.2.2; omega) H.out.2.1 (H.out.1.below H2.out.bel) H.out.2.2.1
  rw [List.nil_append, show ([] : List MsgV).length = 0 from rfl] at hse
  generalize l.take (sendN l.length 0) = ms at *
  rw [HSN.out] at hse
  refine hse.mono ?_
  clear hse
  rintro e w3 ⟨rfl, hd⟩
  obtain ⟨v3, hi3⟩ := H2.out.step hd
  have H3 := Lib.hid hi3
  clear hd hi3 H2
  go_wp2_with fail
  have hlen := nt_len N N v3 ms _ H3.out.s
  rw [HML.out] at hlen
  refine hlen.mono ?_
  clear hlen
  rintro e w4 ⟨rfl, rfl⟩
  go_wp2_with fail

  have hmv := nt_move_bad N N v3 ms k t _ H3.out.s (by rw [HML.out]; right; unfold hasF; exact decide_eq_false (by have := HK.out; omega))
  refine hmv.mono ?_
  clear hmv
  rintro e w5 ⟨rfl, rfl⟩
  have H5 := Lib.hid H3.out
  clear H3
  go_wp2
  go_loopw [10] (fun i wr => ∃ j : Nat, ∃ v : Value, j ≤ l.length ∧ i = .int .i64 (j : Int) ∧ NtI W wr N N v (ms.drop j)) (fun i _ => l.length - (intOf i).toNat)
  case atStart => exact ⟨0, _, Nat.zero_le _, rfl, by rw [List.drop_zero]; exact H5.out⟩
  case round =>
    obtain ⟨j, v, hj, rfl, hi⟩ := hrel
    have HI := Lib.hid hi
    have HJ := Lib.hid hj
    clear hi hj
    by_cases hlt : j < l.length
    · have l1 : (j : Int) < (l.length : Int) := by omega
      have l2 : decide ((j : Int) < (l.length : Int)) = true := decide_eq_true l1
      have HLT := Lib.hid hlt
      have hjl : j < l.length := by have := HS.out; omega
      have hjm : j < ms.length := by rw [HML.out]; exact hlt
      obtain ⟨g, o, hA, hg, hc⟩ := H.out.1 j hjl
      subst hA
      have hem := HME.out j hjm hjl
      have htk := nt_take N N v (ms.drop j) 0 wr HI.out.s (by rw [List.length_drop, HML.out]; omega)
      rw [takeF_zero j hjm, hem] at htk
      have l3 : (j : Int) < (l.length : Int) := by omega
      generalize l[j] = m at *
      have HC := Lib.hid (And.intro hg hc)
      have HT := Lib.hid htk
      clear hlt hjm hem hg hc htk
      go_wp2_with fail
      refine HT.out.mono ?_
      rintro e w6 ⟨rfl, hp6⟩
      obtain ⟨v6, hi6⟩ := HI.out.step hp6
      have H6 := Lib.hid hi6
      clear hi6 hp6 HT HI
      unfold MsgV.val
      go_wp2
      obtain ⟨wb, hwb⟩ : ∃ z, z = w6.alloc (.cells #[.int .i64 m.kind, .int .i64 m.to, .int .u64 m.ht, .int .i64 m.fr, .int .u64 m.sq, .int .u64 m.tm, .string m.d, .string m.p] 39) := ⟨_, rfl⟩
      rw [← hwb]
      have hbw : Below w6.heap.size w6 wb := by rw [hwb]; exact Kq.below_alloc _ _
      have hbx : wb.heap[w6.heap.size]? = some (.cells #[.int .i64 m.kind, .int .i64 m.to, .int .u64 m.ht, .int .i64 m.fr, .int .u64 m.sq, .int .u64 m.tm, .string m.d, .string m.p] 39 (0, 0)) := by rw [hwb]; exact Kq.blk_new _ _ _ _
      have H7 := Lib.hid (H6.out.below hbw)
      have hc := HC.out.2
      have hcc : ∀ i, i < 8 → wb.cell? ⟨g, o + j * 8 + i, none⟩ = m.cells[i]? := fun i hi => by rw [← hc i hi]; exact World.cell?_of_block (H7.out.bel.block g HC.out.1)
      have x0 := Kq.blk_cell hbx 0
      have x1 := Kq.blk_cell hbx 1
      have x2 := Kq.blk_cell hbx 2
      have x3 := Kq.blk_cell hbx 3
      have x4 := Kq.blk_cell hbx 4
      have x5 := Kq.blk_cell hbx 5
      have x6 := Kq.blk_cell hbx 6
      have x7 := Kq.blk_cell hbx 7
      have y0 := hcc 0 (by omega)
      have y1 := hcc 1 (by omega)
      have y2 := hcc 2 (by omega)
      have y3 := hcc 3 (by omega)
      have y4 := hcc 4 (by omega)
      have y5 := hcc 5 (by omega)
      have y6 := hcc 6 (by omega)
      have y7 := hcc 7 (by omega)
      simp only [Nat.add_zero, MsgV.cells, List.getElem?_toArray, List.getElem?_cons_zero, List.getElem?_cons_succ] at x0 x1 x2 x3 x4 x5 x6 x7 y0 y1 y2 y3 y4 y5 y6 y7
      clear hc hcc hbx hbw hwb H6
      go_quiet (fail)
      go_wp2
      go_roundw
      case rel => exact ⟨j + 1, v6, by have := HLT.out; omega, by go_num, H7.out.below ⟨rfl, rfl, rfl, Nat.le_refl _, fun _ _ => rfl⟩⟩
      case measure => simp [intOf]; have := HLT.out; omega
    · have l1 : ¬ (j : Int) < (l.length : Int) := by omega
      have hjs : j = ms.length := by have := HJ.out; rw [HML.out]; omega
      have htk := nt_take N N v (ms.drop j) 0 wr HI.out.s (by rw [List.length_drop, HML.out]; omega)
      rw [hjs, takeF_none] at htk
      have HT := Lib.hid htk
      rw [hjs] at HI
      clear htk hjs
      go_wp2_with fail
      refine HT.out.mono ?_
      rintro e w6 ⟨rfl, hp6⟩
      obtain ⟨v6, hi6⟩ := HI.out.step hp6
      have H6 := Lib.hid hi6
      clear hi6 hp6 HT HI
      unfold MsgV.val zeroM
      go_wp2_with fail
      obtain ⟨wb, hwb⟩ : ∃ z, z = w6.alloc (.cells #[.int .i64 0, .int .i64 0, .int .u64 0, .int .i64 0, .int .u64 0, .int .u64 0, .string ⟨#[]⟩, .string ⟨#[]⟩] 39) := ⟨_, rfl⟩
      rw [← hwb]
      have hbw : Below w6.heap.size w6 wb := by rw [hwb]; exact Kq.below_alloc _ _
      have H7 := Lib.hid (H6.out.below hbw)
      clear hbw hwb H6
      have hlen := nt_len N N v6 [] _ H7.out.s
      refine hlen.mono ?_
      clear hlen
      rintro e w7 ⟨rfl, rfl⟩
      go_wp2
      go_ret
      exact ⟨rfl, H7.out.bel⟩
end Go.Proofs.Ytahijpfmpdjceaa.netOrder
