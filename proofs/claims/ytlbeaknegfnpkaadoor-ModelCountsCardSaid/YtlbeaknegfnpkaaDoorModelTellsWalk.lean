/- carracklaw22.ModelTells walked. Condition: the table of states lies where it lies. -/
import Derived.WalkSpells
import Derived.Outline
import Derived.Deep.QuietTactic
import Derived.Deep.RegionHeld
import Derived.BigQuiet
import Derived.Test.YtlbeaknegfnpkaaDoorMdAwake
import Derived.Test.YtlbeaknegfnpkaaDoorMdCount
import Derived.Test.YtlbeaknegfnpkaaDoorMdStep
import Derived.Test.YtlbeaknegfnpkaaDoorMdRStep
namespace Go.Proofs.YtlbeaknegfnpkaaDoor
open Go.RowKit
set_option linter.unusedVariables false
/-- the law's lists, and those of the program -/
structure TW (W w : World) (A B X Y : Option Addr) (l m : List EnV) : Prop where
  a : enE.At w A l
  b : enE.At w B m
  x : enE.At w X l
  y : enE.At w Y m
  laid : LaidOk w
  bel : Below W.heap.size W w
theorem TW.below {W w w' : World} {A B X Y : Option Addr} {l m : List EnV} (h : TW W w A B X Y l m) (hb : Below w.heap.size w w') : TW W w' A B X Y l m :=
  ⟨h.a.below hb, h.b.below hb, h.x.below hb, h.y.below hb, h.laid.below hb, h.bel.trans (hb.mono h.bel.size)⟩
/-- an array of five counts -/
def CnC (w : World) (C n0 n1 n2 n3 n4 : Nat) : Prop := w.cell? ⟨C, 0, none⟩ = some (.int .i64 (n0 : Int)) ∧ w.cell? ⟨C, 1, none⟩ = some (.int .i64 (n1 : Int)) ∧ w.cell? ⟨C, 2, none⟩ = some (.int .i64 (n2 : Int)) ∧ w.cell? ⟨C, 3, none⟩ = some (.int .i64 (n3 : Int)) ∧ w.cell? ⟨C, 4, none⟩ = some (.int .i64 (n4 : Int))
theorem CnC.below {w w' : World} {C n0 n1 n2 n3 n4 B : Nat} (h : CnC w C n0 n1 n2 n3 n4) (hb : Below B w w') (hB : C < B) : CnC w' C n0 n1 n2 n3 n4 :=
  ⟨(hb.cell (p := ⟨C, 0, none⟩) hB).trans h.1, (hb.cell (p := ⟨C, 1, none⟩) hB).trans h.2.1, (hb.cell (p := ⟨C, 2, none⟩) hB).trans h.2.2.1, (hb.cell (p := ⟨C, 3, none⟩) hB).trans h.2.2.2.1, (hb.cell (p := ⟨C, 4, none⟩) hB).trans h.2.2.2.2⟩
set_option maxRecDepth 100000 in
set_option maxHeartbeats 2000000 in
theorem modelTells_walk {W : World} (a b : Int) (v0 v1 : Value) (wa : (Lit.int .i64 a).wf = true) (wb : (Lit.int .i64 b).wf = true) (h0 : ∃ A cap l, v0 = .slice A l.length cap ∧ l.length ≤ cap ∧ enE.At W A l ∧ ∀ e ∈ l, EnV.wf e) (h1 : ∃ A cap l, v1 = .slice A l.length cap ∧ l.length ≤ cap ∧ enE.At W A l ∧ ∀ e ∈ l, EnV.wf e) (w : World) (e : W = w) (hL : LaidOk w) :
    Calls Tryd.prog 3 #[.int .i64 a, .int .i64 b, v0, v1] w fun x w' => x = .returned (.bool true) ∧ Below w.heap.size w w' := by
  subst e
  obtain ⟨A, ca, l, rfl, hca, hA, hlw⟩ := h0
  obtain ⟨B, cb, m, rfl, hcb, hB, hmw⟩ := h1
  have H := Lib.hid (And.intro hA (And.intro hB (And.intro hL (And.intro hlw hmw))))
  clear hA hB hL hlw hmw wa wb hca hcb
  go_enter Tryd.func3, Tryd.ntmps3
  go_wp2_with fail
  refine (awake22 W H.out.2.2.1).mono ?_
  rintro x w1 ⟨rfl, rfl⟩
  by_cases g1 : 60 < l.length
  · have d1 : decide ((60 : Int) < (l.length : Int)) = true := decide_eq_true (by omega)
    have d1' : decide (60 < l.length) = true := decide_eq_true g1
    clear g1
    go_wp2
    go_ret
    exact ⟨rfl, Below.refl _ _⟩
  have d1 : decide ((60 : Int) < (l.length : Int)) = false := decide_eq_false (by omega)
  have d1' : decide (60 < l.length) = false := decide_eq_false g1
  by_cases g2 : 60 < m.length
  · have d2 : decide ((60 : Int) < (m.length : Int)) = true := decide_eq_true (by omega)
    have d2' : decide (60 < m.length) = true := decide_eq_true g2
    clear g1 g2
    go_wp2
    go_ret
    exact ⟨rfl, Below.refl _ _⟩
  have d2 : decide ((60 : Int) < (m.length : Int)) = false := decide_eq_false (by omega)
  have d2' : decide (60 < m.length) = false := decide_eq_false g2
  have HLM : Hid (l.length ≤ 60 ∧ m.length ≤ 60) := Lib.hid ⟨by omega, by omega⟩
  clear g1 g2
  go_wp2_with fail
  refine (lw_turned A ca l w1 HLM.out.1 H.out.1).mono ?_
  rintro x w2 ⟨vx, rfl, hox, hb2⟩
  obtain ⟨X, cx, rfl, -, hX, -⟩ := Kq.Elt.own_at hox
  have HX := Lib.hid (And.intro hX hb2)
  clear hox hb2 hX
  go_wp2_with fail
  refine (lw_turned B cb m w2 HLM.out.2 (H.out.2.1.below HX.out.2)).mono ?_
  rintro x w3 ⟨vy, rfl, hoy, hb3⟩
  obtain ⟨Y, cy, rfl, -, hY, -⟩ := Kq.Elt.own_at hoy
  have T3 : Hid (TW w1 w3 A B X Y l m) := Lib.hid (by
    have hbb := HX.out.2.trans (hb3.mono HX.out.2.size)
    exact ⟨H.out.1.below hbb, H.out.2.1.below hbb, HX.out.1.below hb3, hY, H.out.2.2.1.below hbb, hbb⟩)
  have HW := Lib.hid (And.intro H.out.2.2.2.1 H.out.2.2.2.2)
  clear hoy hb3 hY HX H
  go_wp2_with fail
  refine (md_follows a b w3 T3.out.laid).mono ?_
  rintro x w4 ⟨rfl, rfl⟩
  go_wp2_with fail
  refine (rf_follows a b w4).mono ?_
  rintro x w5 ⟨rfl, rfl⟩
  generalize folB a b = r1
  go_wp2_with fail
  refine (md_reached a b w5 T3.out.laid).mono ?_
  rintro x w6 ⟨rfl, rfl⟩
  go_wp2_with fail
  refine (rf_reached a b w6).mono ?_
  rintro x w7 ⟨rfl, hb7⟩
  generalize rchB a b = r2
  have T7 := Lib.hid (T3.out.below hb7)
  clear hb7 T3
  go_wp2_with fail
  refine (md_step X Y _ _ l m w7 HLM.out.1 HLM.out.2 T7.out.x T7.out.y HW.out.1 HW.out.2 T7.out.laid).mono ?_
  rintro x w8 ⟨rfl, hb8⟩
  have T8 := Lib.hid (T7.out.below hb8)
  clear hb8 T7
  go_wp2_with fail
  refine (rf_step A B ca cb l m w8 HLM.out.1 HLM.out.2 T8.out.a T8.out.b).mono ?_
  rintro x w9 ⟨rfl, hb9⟩
  generalize stepB l m = r3
  have T9 := Lib.hid (T8.out.below hb9)
  clear hb9 T8
  go_wp2
  obtain ⟨C, hC⟩ : ∃ C, C = w9.heap.size := ⟨_, rfl⟩
  have HST : Hid ((w9.alloc (.cells #[.int .i64 0, .int .i64 0, .int .i64 0, .int .i64 0, .int .i64 0] 29)).heap[C]? = some (.cells #[.int .i64 0, .int .i64 0, .int .i64 0, .int .i64 0, .int .i64 0] 29 (0, 0)) ∧ Below w9.heap.size w9 (w9.alloc (.cells #[.int .i64 0, .int .i64 0, .int .i64 0, .int .i64 0, .int .i64 0] 29))) := Lib.hid ⟨by rw [hC]; exact Kq.blk_new _ _ _ _, Kq.below_alloc _ _⟩
  rw [← hC]
  have HC := Lib.hid hC
  clear hC
  go_loopw [12] (fun i wr => ∃ j : Nat, j ≤ l.length ∧ i = .int .i64 (j : Int) ∧ wr.heap[C]? = some (.cells (cnts (l.take j)) 29 (0, 0)) ∧ Below w9.heap.size w9 wr) (fun i _ => l.length - (intOf i).toNat)
  case atStart => exact ⟨0, Nat.zero_le _, rfl, HST.out.1, HST.out.2⟩
  case round =>
    obtain ⟨j, hj, rfl, hbC, hbl⟩ := hrel
    have HO := Lib.hid (And.intro hbC hbl)
    by_cases hlt : j < l.length
    · have hi0' : (j : Int) < (l.length : Int) := by omega
      obtain ⟨b0, off, rfl, hb, hc⟩ := en_at (T9.out.below hbl).a hlt
      obtain ⟨e, he⟩ : ∃ e, e = l[j] := ⟨_, rfl⟩
      rw [← he] at hc
      have HE := Lib.hid he
      have HLT := Lib.hid hlt
      have hj60 : j ≤ 60 := by have := HLM.out; omega
      unfold EnC at hc
      obtain ⟨-, -, -, -, c4⟩ := hc
      obtain ⟨p0, es⟩ := e
      simp only at c4
      clear hbl hb he
      by_cases hs : isS es = true
      · have h1 := of_decide_eq_true hs
        obtain ⟨s, rfl⟩ := Int.eq_ofNat_of_zero_le h1.1
        have s1 : (s : Int) < 5 := by omega
        have s1' : decide ((s : Int) < 5) = true := decide_eq_true s1
        have s2' : decide (s < 5) = true := decide_eq_true (by omega)
        have s0' : decide (0 ≤ (s : Int)) = true := decide_eq_true (by omega)
        have hs5 : s < 5 := by omega
        have cB : wr.cell? ⟨C, s, none⟩ = some (.int .i64 (cntL (l.take j) (s : Int) : Nat)) := by rw [Kq.blk_cell hbC]; exact cnts_at _ s hs5
        have fB := Kq.blk_free hbC s
        have hc60 : cntL (l.take j) (s : Int) ≤ 60 := by have := cntL_le (l.take j) (s : Int); rw [List.length_take] at this; omega
        have HN : Hid ((wr.setCell ⟨C, s, none⟩ (.int .i64 ((cntL (l.take j) (s : Int) + 1 : Nat) : Int))).heap[C]? = some (.cells (cnts (l.take (j + 1))) 29 (0, 0))) := Lib.hid (by
          rw [Kq.blk_set hbC, cnts_in _ ⟨p0, (s : Int)⟩ s hs5 rfl, take_succ_snoc l j HLT.out, ← HE.out])
        obtain ⟨c, hcc⟩ : ∃ c, c = cntL (l.take j) (s : Int) := ⟨_, rfl⟩
        rw [← hcc] at cB hc60 HN
        obtain ⟨c1, hc1⟩ : ∃ c1, c1 = c + 1 := ⟨_, rfl⟩
        have hw1 : IntKind.i64.wrap ((c : Int) + 1) = (c1 : Int) := by rw [IntWalk.i64_in _ (by omega)]; omega
        rw [← hc1] at HN
        obtain ⟨wn, hwn⟩ : ∃ z, z = wr.setCell ⟨C, s, none⟩ (.int .i64 (c1 : Int)) := ⟨_, rfl⟩
        have HD : Hid (wn.heap[C]? = some (.cells (cnts (l.take (j + 1))) 29 (0, 0)) ∧ Below w9.heap.size w9 wn) := Lib.hid (by
          have hk : Kq.Keeps (· = C) wr wn := by rw [hwn]; exact Kq.Keeps.setCell _ _ _ rfl
          exact ⟨by rw [hwn]; exact HN.out, HO.out.2.trans (hk.below HO.out.2.size (fun k _ e => by have := HC.out; omega))⟩)
        clear hc1 hcc HN h1 hs hbC
        go_wp2
        rw [← hwn]
        go_roundw
        case rel => exact ⟨j + 1, HLT.out, by go_num, HD.out.1, HD.out.2⟩
        case measure => have := HLT.out; simp [intOf]; omega
      · have hs' : isS es = false := by simpa using hs
        have HD : Hid (cnts (l.take (j + 1)) = cnts (l.take j)) := Lib.hid (by rw [take_succ_snoc l j HLT.out, ← HE.out]; exact cnts_out _ _ hs')
        have hout := of_decide_eq_false hs'
        by_cases h0 : 0 ≤ es
        · have s0' : decide (0 ≤ es) = true := decide_eq_true h0
          have s1' : decide (es < 5) = false := decide_eq_false (by omega)
          clear hs hs' hout h0 hbC
          go_wp2
          go_roundw
          case rel => exact ⟨j + 1, HLT.out, by go_num, by rw [HD.out]; exact HO.out.1, HO.out.2⟩
          case measure => have := HLT.out; simp [intOf]; omega
        · have s0' : decide (0 ≤ es) = false := decide_eq_false h0
          clear hs hs' hout h0 hbC
          go_wp2
          go_roundw
          case rel => exact ⟨j + 1, HLT.out, by go_num, by rw [HD.out]; exact HO.out.1, HO.out.2⟩
          case measure => have := HLT.out; simp [intOf]; omega
    · obtain rfl : j = l.length := by omega
      rw [List.take_length] at hbC
      have TR := Lib.hid (And.intro (T9.out.below hbl) hbC)
      clear hbl hbC hlt HO T9 HST
      go_wp2_with fail
      refine (md_open X cx l wr HLM.out.1 TR.out.1.x).mono ?_
      rintro x u1 ⟨vp, rfl, hop, hbp⟩
      obtain ⟨Pp, cp, rfl, -, hP, -⟩ := Kq.Elt.own_at hop
      have T1 := Lib.hid (And.intro (TR.out.1.below hbp) (And.intro (Kq.below_blk hbp TR.out.2 (Kq.blk_lt TR.out.2)) hP))
      clear hop hbp hP TR
      go_wp2_with fail
      refine (rf_open A ca l u1 HLM.out.1 T1.out.1.a).mono ?_
      rintro x u2 ⟨vq, rfl, hoq, hbq⟩
      obtain ⟨Qq, cq, rfl, -, hQ, -⟩ := Kq.Elt.own_at hoq
      have T2 := Lib.hid (And.intro (T1.out.1.below hbq) (And.intro (Kq.below_blk hbq T1.out.2.1 (Kq.blk_lt T1.out.2.1)) (And.intro (T1.out.2.2.below hbq) hQ)))
      clear hoq hbq hQ T1
      have hc0 : cntL l 0 < 1000000 := by have := cntL_le l 0; have := HLM.out; omega
      have hc1 : cntL l 1 < 1000000 := by have := cntL_le l 1; have := HLM.out; omega
      have hc2 : cntL l 2 < 1000000 := by have := cntL_le l 2; have := HLM.out; omega
      have hc3 : cntL l 3 < 1000000 := by have := cntL_le l 3; have := HLM.out; omega
      have hc4 : cntL l 4 < 1000000 := by have := cntL_le l 4; have := HLM.out; omega
      have hq := fun wx => arr5_neq (cntL l 0) (cntL l 1) (cntL l 2) (cntL l 3) (cntL l 4) hc0 hc1 hc2 hc3 hc4 wx
      have HCN : Hid (∀ w, enE.At w X l → Calls Tryd.prog 16 #[.slice X l.length cx] w fun x w' => x = .returned (.agg #[.int .i64 (cntL l 0 : Nat), .int .i64 (cntL l 1 : Nat), .int .i64 (cntL l 2 : Nat), .int .i64 (cntL l 3 : Nat), .int .i64 (cntL l 4 : Nat)]) ∧ Below w.heap.size w w') := Lib.hid (fun w h => md_count X cx l w HLM.out.1 h)
      have hS : CnC u2.drew C (cntL l 0) (cntL l 1) (cntL l 2) (cntL l 3) (cntL l 4) := by
        have hb := T2.out.2.1
        unfold cnts at hb
        exact ⟨Kq.blk_cell hb 0, Kq.blk_cell hb 1, Kq.blk_cell hb 2, Kq.blk_cell hb 3, Kq.blk_cell hb 4⟩
      have hCl : C < u2.drew.heap.size := Kq.blk_lt T2.out.2.1
      generalize cntL l 0 = n0 at *
      generalize cntL l 1 = n1 at *
      generalize cntL l 2 = n2 at *
      generalize cntL l 3 = n3 at *
      generalize cntL l 4 = n4 at *
      clear hc0 hc1 hc2 hc3 hc4
      have TD : Hid (TW w1 u2.drew A B X Y l m ∧ ptE.At u2.drew Pp (openL l) ∧ ptE.At u2.drew Qq (openL l)) := Lib.hid ⟨T2.out.1.below (Below.refl _ _).drew, T2.out.2.2.1, T2.out.2.2.2⟩
      have HS := Lib.hid (And.intro hS hCl)
      clear hS hCl T2
      obtain ⟨ol, hol⟩ : ∃ o, o = openL l := ⟨_, rfl⟩
      rw [← hol] at TD ⊢
      have hol60 : ol.length ≤ 120 := by rw [hol, openL_len]; have := cntL_le l 1; have := cntL_le l 2; have := HLM.out; omega
      have HOL := Lib.hid hol60
      clear hol hol60
      go_wp2
      refine wp_region_held_drew (S := fun w' => CnC w' C n0 n1 n2 n3 n4) (by kernel_rfl) HS.out.1 (fun hS0 => ?_)
      generalize u2.drew = wd at *
      unfold CnC at hS0
      dsimp only [CnC]
      refine wpAnyH_take (i := 0) (v := ?_) rfl (by kernel_rfl) (by kernel_rfl) (by kernel_rfl) (fun _ _ _ h => h) (Or.inl ⟨by kernel_rfl, ?_⟩) (by assumption) ?_
      rotate_left
      · intro w hSw; (try dsimp only at hSw); go_simp; (try with_reducible rfl)
      refine wpAnyH_take (i := 1) (v := ?_) rfl (by kernel_rfl) (by kernel_rfl) (by kernel_rfl) (fun _ _ _ h => h) (Or.inl ⟨by kernel_rfl, ?_⟩) (by assumption) ?_
      rotate_left
      · intro w hSw; (try dsimp only at hSw); go_simp; (try with_reducible rfl)
      refine wpAnyH_take (i := 2) (v := ?_) rfl (by kernel_rfl) (by kernel_rfl) (by kernel_rfl) (fun _ _ _ h => h) (Or.inl ⟨by kernel_rfl, ?_⟩) (by assumption) ?_
      rotate_left
      · intro w hSw; (try dsimp only at hSw); go_simp; (try with_reducible rfl)
      refine wpAnyH_take (i := 3) (v := ?_) rfl (by kernel_rfl) (by kernel_rfl) (by kernel_rfl) (fun _ _ _ h => h) (Or.inl ⟨by kernel_rfl, ?_⟩) (by assumption) ?_
      rotate_left
      · intro w hSw; (try dsimp only at hSw); go_simp; (try with_reducible rfl)
      refine wpAnyH_take (i := 4) (v := ?_) rfl (by kernel_rfl) (by kernel_rfl) (by kernel_rfl) (fun _ _ _ h => h) (Or.inl ⟨by kernel_rfl, ?_⟩) (by assumption) ?_
      rotate_left
      · intro w hSw; (try dsimp only at hSw); go_simp; (try with_reducible rfl)
      refine wpAnyH_take (i := 5) (v := ?_) rfl (by kernel_rfl) (by kernel_rfl) (by kernel_rfl) (fun _ _ _ h => h) (Or.inl ⟨by kernel_rfl, ?_⟩) (by assumption) ?_
      rotate_left
      · intro w hSw; (try dsimp only at hSw); go_simp; (try with_reducible rfl)
      refine wpAnyH_take (i := 6) (v := ?_) rfl (by kernel_rfl) (by kernel_rfl) (by kernel_rfl) (fun _ _ _ h => h) (Or.inl ⟨by kernel_rfl, ?_⟩) (by assumption) ?_
      rotate_left
      · intro w hSw; (try dsimp only at hSw); go_simp; (try with_reducible rfl)
      refine wpAnyH_take (i := 8) (v := ?_) rfl (by kernel_rfl) (by kernel_rfl) (by kernel_rfl) (fun _ _ _ h => h) (Or.inl ⟨by kernel_rfl, ?_⟩) (by assumption) ?_
      rotate_left
      · intro w hSw; (try dsimp only at hSw); go_simp; (try with_reducible rfl)
      refine wpAnyH_ready (rs := [7]) (by kernel_rfl) (by simp) ?_
      refine AllReadyH.cons rfl (fun K hK => ?_) AllReadyH.nil
      go_simp
      refine (HCN.out wd TD.out.1.x).mono ?_
      rintro x u3 ⟨rfl, hb3⟩
      have TD3 : Hid ((TW w1 u3 A B X Y l m ∧ ptE.At u3 Pp ol ∧ ptE.At u3 Qq ol) ∧ CnC u3 C n0 n1 n2 n3 n4) := Lib.hid ⟨⟨TD.out.1.below hb3, TD.out.2.1.below hb3, TD.out.2.2.below hb3⟩, HS.out.1.below hb3 HS.out.2⟩
      clear hb3 TD HS hS0
      refine hK.out _ _ TD3.out.2 (fun hS0 => ?_)
      clear hK K
      refine wpAnyH_take (i := 9) (v := ?_) rfl (by kernel_rfl) (by kernel_rfl) (by kernel_rfl) (fun _ _ _ h => h) (Or.inl ⟨by kernel_rfl, ?_⟩) (by assumption) ?_
      rotate_left
      · intro w hSw; (try dsimp only at hSw); go_simp; (try with_reducible rfl)
      refine wpAnyH_take (i := 10) (v := ?_) rfl (by kernel_rfl) (by kernel_rfl) (by kernel_rfl) (fun _ _ _ h => h) (Or.inl ⟨by kernel_rfl, ?_⟩) (by assumption) ?_
      rotate_left
      · intro w hSw; (try dsimp only at hSw); go_simp; (try with_reducible rfl)
      refine wpAnyH_done (by kernel_rfl) ?_ _
      clear hS0 hq HCN
      go_simp
      go_wp2
      go_loopw [16] (fun i wr => ∃ j : Nat, j ≤ ol.length ∧ i = .int .i64 (j : Int) ∧ Below u3.heap.size u3 wr) (fun i _ => ol.length - (intOf i).toNat)
      case atStart => exact ⟨0, Nat.zero_le _, rfl, Below.refl _ _⟩
      case round =>
        obtain ⟨j, hj, rfl, hbl⟩ := hrel
        have HBL := Lib.hid hbl
        by_cases hlt : j < ol.length
        · have hi0' : (j : Int) < (ol.length : Int) := by omega
          obtain ⟨b1, o1, rfl, -, c0, c1, c2, c3⟩ := pt_cells (TD3.out.1.2.1.below hbl) hlt
          obtain ⟨b2, o2, rfl, -, e0, e1, e2, e3⟩ := pt_cells (TD3.out.1.2.2.below hbl) hlt
          have hj120 : j ≤ 120 := by have := HOL.out; omega
          obtain ⟨p, hp⟩ : ∃ p, p = ol[j] := ⟨_, rfl⟩
          rw [← hp] at c0 c1 c2 c3 e0 e1 e2 e3
          have hq := fun wx => pt_neq p p wx
          simp only [decide_true, Bool.not_true] at hq
          have HLT := Lib.hid hlt
          clear hbl hp
          go_wp2
          go_quiet (fail)
          generalize hwq : wr.drewN nq = wq
          have HQ : Hid (Below u3.heap.size u3 wq) := Lib.hid (by rw [← hwq]; exact below_drewN HBL.out nq)
          clear hwq hq c0 c1 c2 c3 e0 e1 e2 e3 HBL
          go_wp2
          go_roundw
          case rel => exact ⟨j + 1, HLT.out, by go_num, HQ.out⟩
          case measure => have := HLT.out; simp [intOf]; omega
        · obtain rfl : j = ol.length := by omega
          clear hbl hlt
          go_wp2
          go_ret
          exact ⟨rfl, TD3.out.1.1.bel.trans (HBL.out.mono TD3.out.1.1.bel.size)⟩
end Go.Proofs.YtlbeaknegfnpkaaDoor
