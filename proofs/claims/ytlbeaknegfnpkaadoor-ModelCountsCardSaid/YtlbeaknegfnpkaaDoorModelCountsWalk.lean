/- carracklaw22.ModelCounts walked. Condition: the table of states lies where it lies. -/
import Derived.WalkSpells
import Derived.Outline
import Derived.Deep.QuietTactic
import Derived.Deep.RegionHeld
import Derived.BigQuiet
import Derived.Test.YtlbeaknegfnpkaaDoorModelTellsWalk
namespace Go.Proofs.YtlbeaknegfnpkaaDoor
open Go.RowKit
set_option linter.unusedVariables false
namespace modelCounts
def cin (l : List EnV) : Nat := l.countP (fun e => isS e.s)
theorem cin_snoc (l : List EnV) (e : EnV) : cin (l ++ [e]) = cin l + if isS e.s then 1 else 0 := by
  unfold cin
  rw [List.countP_append]
  by_cases h : isS e.s <;> simp [h]
theorem cin_le (l : List EnV) : cin l ≤ l.length := List.countP_le_length
theorem cin_sum (l : List EnV) : cntL l 0 + cntL l 1 + cntL l 2 + cntL l 3 + cntL l 4 = cin l := by
  induction l with
  | nil => rfl
  | cons e l ih =>
    have h2 : ∀ k, cntL (e :: l) k = cntL l k + if e.s = k then 1 else 0 := fun k => by
      unfold cntL
      rw [List.countP_cons]
      by_cases h : e.s = k <;> simp [h]
    have h3 : cin (e :: l) = cin l + if isS e.s then 1 else 0 := by
      unfold cin
      rw [List.countP_cons]
    rw [h2, h2, h2, h2, h2, h3, ← ih]
    by_cases h : isS e.s = true
    · rw [if_pos h]
      have h' := of_decide_eq_true h
      have : e.s = 0 ∨ e.s = 1 ∨ e.s = 2 ∨ e.s = 3 ∨ e.s = 4 := by omega
      rcases this with h | h | h | h | h <;> simp [h] <;> omega
    · have h0 : isS e.s = false := by simpa using h
      have h' := of_decide_eq_false h0
      rw [if_neg h, if_neg (by omega), if_neg (by omega), if_neg (by omega), if_neg (by omega), if_neg (by omega)]
      omega
/-- the sum of the first so many counts -/
def sT (n0 n1 n2 n3 n4 : Nat) : Nat → Nat
  | 0 => 0
  | 1 => n0
  | 2 => n0 + n1
  | 3 => n0 + n1 + n2
  | 4 => n0 + n1 + n2 + n3
  | _ => n0 + n1 + n2 + n3 + n4
def nT (n0 n1 n2 n3 n4 : Nat) : Nat → Nat
  | 0 => n0
  | 1 => n1
  | 2 => n2
  | 3 => n3
  | _ => n4
theorem sT_succ (n0 n1 n2 n3 n4 i : Nat) (h : i < 5) : sT n0 n1 n2 n3 n4 (i + 1) = sT n0 n1 n2 n3 n4 i + nT n0 n1 n2 n3 n4 i := by
  have : i = 0 ∨ i = 1 ∨ i = 2 ∨ i = 3 ∨ i = 4 := by omega
  rcases this with rfl | rfl | rfl | rfl | rfl <;> simp [sT, nT]
theorem CnC.at {w : World} {C n0 n1 n2 n3 n4 : Nat} (h : CnC w C n0 n1 n2 n3 n4) (i : Nat) (hi : i < 5) : w.cell? ⟨C, i, none⟩ = some (.int .i64 (nT n0 n1 n2 n3 n4 i : Nat)) := by
  have : i = 0 ∨ i = 1 ∨ i = 2 ∨ i = 3 ∨ i = 4 := by omega
  rcases this with rfl | rfl | rfl | rfl | rfl
  · exact h.1
  · exact h.2.1
  · exact h.2.2.1
  · exact h.2.2.2.1
  · exact h.2.2.2.2
theorem sT_le (n0 n1 n2 n3 n4 i : Nat) (h0 : n0 ≤ 60) (h1 : n1 ≤ 60) (h2 : n2 ≤ 60) (h3 : n3 ≤ 60) (h4 : n4 ≤ 60) (hi : i ≤ 5) : sT n0 n1 n2 n3 n4 i ≤ 300 := by
  have : i = 0 ∨ i = 1 ∨ i = 2 ∨ i = 3 ∨ i = 4 ∨ i = 5 := by omega
  rcases this with rfl | rfl | rfl | rfl | rfl | rfl <;> simp only [sT] <;> omega
theorem nT_le (n0 n1 n2 n3 n4 i : Nat) (h0 : n0 ≤ 60) (h1 : n1 ≤ 60) (h2 : n2 ≤ 60) (h3 : n3 ≤ 60) (h4 : n4 ≤ 60) (hi : i < 5) : nT n0 n1 n2 n3 n4 i ≤ 60 := by
  have : i = 0 ∨ i = 1 ∨ i = 2 ∨ i = 3 ∨ i = 4 := by omega
  rcases this with rfl | rfl | rfl | rfl | rfl <;> simp only [nT] <;> assumption
set_option maxRecDepth 100000 in
theorem sub1_run (b o n c a a1 : Nat) (h : a1 = a + 1) (h1 : a1 ≤ c) (w : World) : (Instr.slice 24 (.slice (some ⟨b, o, none⟩) n c) (some (.int .i64 (a : Int))) (some (.int .i64 (a1 : Int))) none).run Tryd.prog w = .ok (.slice (some ⟨b, o + a * 5, none⟩) 1 (c - a)) w := by
  rw [run_slice_lh w 24 (some ⟨b, o, none⟩) n c Tryd.underlying24 .i64 .i64 (a : Int) (a1 : Int) (by omega) (by omega) (by omega)]
  have e : sliced (some ⟨b, o, none⟩) (a : Int).toNat (a1 : Int).toNat c 5 = .slice (some ⟨b, o + a * 5, none⟩) 1 (c - a) := by
    unfold sliced
    have hn : ¬ c = a := by omega
    have e1 : a1 - a = 1 := by omega
    simp [hn, Kq.Elt.add_flat, e1]
  rw [← e]
  rfl
theorem stepB_one (e : EnV) (m : List EnV) : stepB [e] m = okE e (findE m e.p) := by unfold stepB; simp
theorem stepB_take (l m : List EnV) (j : Nat) (h : j < l.length) : stepB (l.take (j + 1)) m = (stepB (l.take j) m && okE l[j] (findE m l[j].p)) := by
  rw [take_succ_snoc l j h]
  unfold stepB
  rw [List.all_append]
  simp
end modelCounts
open modelCounts in
set_option maxRecDepth 100000 in
set_option maxHeartbeats 2000000 in
theorem modelCounts_walk {W : World} (v0 v1 : Value) (h0 : ∃ A cap l, v0 = .slice A l.length cap ∧ l.length ≤ cap ∧ enE.At W A l ∧ ∀ e ∈ l, EnV.wf e) (h1 : ∃ A cap l, v1 = .slice A l.length cap ∧ l.length ≤ cap ∧ enE.At W A l ∧ ∀ e ∈ l, EnV.wf e) (w : World) (e : W = w) (hL : LaidOk w) :
    Calls Tryd.prog 5 #[v0, v1] w fun x w' => x = .returned (.bool true) ∧ Below w.heap.size w w' := by
  subst e
  obtain ⟨A, ca, l, rfl, hca, hA, hlw⟩ := h0
  obtain ⟨B, cb, m, rfl, hcb, hB, hmw⟩ := h1
  have H := Lib.hid (And.intro hA (And.intro hB (And.intro hL (And.intro hlw hmw))))
  clear hA hB hL hlw hmw hca hcb
  go_enter Tryd.func5, Tryd.ntmps5
  go_wp2_with fail
  refine (awake22 W H.out.2.2.1).mono ?_
  rintro x w1 ⟨rfl, rfl⟩
  by_cases g1 : 60 < l.length
  · have d1 : decide ((60 : Int) < (l.length : Int)) = true := decide_eq_true (by omega)
    have d1' : decide (60 < l.length) = true := decide_eq_true g1
    clear g1
    go_wp2
    go_ret
    exact ⟨rfl, Below.refl _ _⟩
  have d1 : decide ((60 : Int) < (l.length : Int)) = false := decide_eq_false (by omega)
  have d1' : decide (60 < l.length) = false := decide_eq_false g1
  by_cases g2 : 60 < m.length
  · have d2 : decide ((60 : Int) < (m.length : Int)) = true := decide_eq_true (by omega)
    have d2' : decide (60 < m.length) = true := decide_eq_true g2
    clear g1 g2
    go_wp2
    go_ret
    exact ⟨rfl, Below.refl _ _⟩
  have d2 : decide ((60 : Int) < (m.length : Int)) = false := decide_eq_false (by omega)
  have d2' : decide (60 < m.length) = false := decide_eq_false g2
  have HLM : Hid (l.length ≤ 60 ∧ m.length ≤ 60) := Lib.hid ⟨by omega, by omega⟩
  clear g1 g2
  go_wp2_with fail
  refine (lw_turned A ca l w1 HLM.out.1 H.out.1).mono ?_
  rintro x w2 ⟨vx, rfl, hox, hb2⟩
  obtain ⟨X, cx, rfl, hcx, hX, -⟩ := Kq.Elt.own_at hox
  have HX := Lib.hid (And.intro hX (And.intro hb2 hcx))
  clear hox hb2 hX hcx
  go_wp2_with fail
  refine (lw_turned B cb m w2 HLM.out.2 (H.out.2.1.below HX.out.2.1)).mono ?_
  rintro x w3 ⟨vy, rfl, hoy, hb3⟩
  obtain ⟨Y, cy, rfl, -, hY, -⟩ := Kq.Elt.own_at hoy
  have T3 : Hid (TW w1 w3 A B X Y l m) := Lib.hid (by
    have hbb := HX.out.2.1.trans (hb3.mono HX.out.2.1.size)
    exact ⟨H.out.1.below hbb, H.out.2.1.below hbb, HX.out.1.below hb3, hY, H.out.2.2.1.below hbb, hbb⟩)
  have HW := Lib.hid (And.intro H.out.2.2.2.1 (And.intro H.out.2.2.2.2 HX.out.2.2))
  clear hoy hb3 hY HX H
  have hc0 : cntL l 0 ≤ 60 := by have := cntL_le l 0; have := HLM.out; omega
  have hc1 : cntL l 1 ≤ 60 := by have := cntL_le l 1; have := HLM.out; omega
  have hc2 : cntL l 2 ≤ 60 := by have := cntL_le l 2; have := HLM.out; omega
  have hc3 : cntL l 3 ≤ 60 := by have := cntL_le l 3; have := HLM.out; omega
  have hc4 : cntL l 4 ≤ 60 := by have := cntL_le l 4; have := HLM.out; omega
  have HCN : Hid (∀ w, enE.At w X l → Calls Tryd.prog 16 #[.slice X l.length cx] w fun x w' => x = .returned (.agg #[.int .i64 (cntL l 0 : Nat), .int .i64 (cntL l 1 : Nat), .int .i64 (cntL l 2 : Nat), .int .i64 (cntL l 3 : Nat), .int .i64 (cntL l 4 : Nat)]) ∧ Below w.heap.size w w') := Lib.hid (fun w h => md_count X cx l w HLM.out.1 h)
  have hsum := cin_sum l
  have hol := openL_len l
  generalize cntL l 0 = n0 at *
  generalize cntL l 1 = n1 at *
  generalize cntL l 2 = n2 at *
  generalize cntL l 3 = n3 at *
  generalize cntL l 4 = n4 at *
  have HB5 := Lib.hid (And.intro hc0 (And.intro hc1 (And.intro hc2 (And.intro hc3 hc4))))
  have HSUM := Lib.hid (And.intro hsum hol)
  clear hc0 hc1 hc2 hc3 hc4 hsum hol
  go_wp2_with fail
  refine (HCN.out w3 T3.out.x).mono ?_
  rintro x w4 ⟨rfl, hb4⟩
  have T4 := Lib.hid (T3.out.below hb4)
  clear hb4 T3 HCN
  go_wp2
  obtain ⟨w5, hw5⟩ : ∃ z, z = w4.alloc (.cells #[.int .i64 (n0 : Int), .int .i64 (n1 : Int), .int .i64 (n2 : Int), .int .i64 (n3 : Int), .int .i64 (n4 : Int)] 29) := ⟨_, rfl⟩
  obtain ⟨C, hC⟩ : ∃ C, C = w4.heap.size := ⟨_, rfl⟩
  have T5 : Hid (TW w1 w5 A B X Y l m ∧ CnC w5 C n0 n1 n2 n3 n4 ∧ C < w5.heap.size) := Lib.hid (by
    have hb : Below w4.heap.size w4 w5 := by rw [hw5]; exact Kq.below_alloc _ _
    refine ⟨T4.out.below hb, ?_, by rw [hC, hw5]; simp⟩
    rw [hC, hw5]
    exact ⟨by simp, by simp, by simp, by simp, by simp⟩)
  rw [← hC, ← hw5]
  clear hC hw5 T4
  go_loopw [8, 9] (fun n i wr => ∃ j : Nat, j ≤ l.length ∧ i = .int .i64 (j : Int) ∧ n = .int .i64 (cin (l.take j) : Nat) ∧ wr = w5) (fun _ i _ => l.length - (intOf i).toNat)
  case atStart => exact ⟨0, Nat.zero_le _, rfl, rfl, rfl⟩
  case round =>
    obtain ⟨j, hj, rfl, rfl, rfl⟩ := hrel
    by_cases hlt : j < l.length
    · have hi0' : (j : Int) < (l.length : Int) := by omega
      obtain ⟨b0, off, rfl, hb, hc⟩ := en_at T5.out.1.a hlt
      obtain ⟨e, he⟩ : ∃ e, e = l[j] := ⟨_, rfl⟩
      rw [← he] at hc
      have HE := Lib.hid he
      have HLT := Lib.hid hlt
      have hj60 : j ≤ 60 := by have := HLM.out; omega
      unfold EnC at hc
      obtain ⟨-, -, -, -, c4⟩ := hc
      obtain ⟨p0, es⟩ := e
      simp only at c4
      have hcin : cin (l.take j) ≤ 60 := by have := cin_le (l.take j); rw [List.length_take] at this; omega
      obtain ⟨c, hcc⟩ : ∃ c, c = cin (l.take j) := ⟨_, rfl⟩
      rw [← hcc] at hcin ⊢
      obtain ⟨c1, hc1⟩ : ∃ c1, c1 = c + 1 := ⟨_, rfl⟩
      have hw1 : IntKind.i64.wrap ((c : Int) + 1) = (c1 : Int) := by rw [IntWalk.i64_in _ (by omega)]; omega
      have HCC := Lib.hid (And.intro hcc hc1)
      clear hb he hcc hc1
      by_cases hs : isS es = true
      · have h1 := of_decide_eq_true hs
        have s0' : decide (0 ≤ es) = true := decide_eq_true h1.1
        have s1' : decide (es ≤ 4) = true := decide_eq_true (by omega)
        have HN : Hid (cin (l.take (j + 1)) = c1) := Lib.hid (by rw [take_succ_snoc l j HLT.out, cin_snoc, ← HE.out, if_pos hs, HCC.out.2, HCC.out.1])
        clear hs h1
        go_wp2
        go_roundw
        case rel => exact ⟨j + 1, HLT.out, by go_num, by rw [HN.out], (by first | rfl | trivial)⟩
        case measure => have := HLT.out; simp [intOf]; omega
      · have hs' : isS es = false := by simpa using hs
        have hout := of_decide_eq_false hs'
        have HN : Hid (cin (l.take (j + 1)) = c) := Lib.hid (by rw [take_succ_snoc l j HLT.out, cin_snoc, ← HE.out, if_neg hs, HCC.out.1]; rfl)
        by_cases h0 : 0 ≤ es
        · have s0' : decide (0 ≤ es) = true := decide_eq_true h0
          have s1' : decide (es ≤ 4) = false := decide_eq_false (by omega)
          clear hs hs' hout h0
          go_wp2
          go_roundw
          case rel => exact ⟨j + 1, HLT.out, by go_num, by rw [HN.out], (by first | rfl | trivial)⟩
          case measure => have := HLT.out; simp [intOf]; omega
        · have s0' : decide (0 ≤ es) = false := decide_eq_false h0
          clear hs hs' hout h0
          go_wp2
          go_roundw
          case rel => exact ⟨j + 1, HLT.out, by go_num, by rw [HN.out], (by first | rfl | trivial)⟩
          case measure => have := HLT.out; simp [intOf]; omega
    · obtain rfl : j = l.length := by omega
      rw [List.take_length]
      clear hlt
      go_wp2
      go_loopw [10, 11] (fun s i wr' => ∃ j : Nat, j ≤ 5 ∧ i = .int .i64 (j : Int) ∧ s = .int .i64 (sT n0 n1 n2 n3 n4 j : Nat) ∧ wr' = wr) (fun _ i _ => 5 - (intOf i).toNat)
      case atStart => exact ⟨0, Nat.zero_le _, rfl, rfl, rfl⟩
      case round =>
        obtain ⟨j, hj, rfl, rfl, rfl⟩ := hrel
        by_cases hlt : j < 5
        · have hi0' : (j : Int) < 5 := by omega
          have cc := CnC.at T5.out.2.1 j hlt
          have hs300 := sT_le n0 n1 n2 n3 n4 j HB5.out.1 HB5.out.2.1 HB5.out.2.2.1 HB5.out.2.2.2.1 HB5.out.2.2.2.2 hj
          have hn60 := nT_le n0 n1 n2 n3 n4 j HB5.out.1 HB5.out.2.1 HB5.out.2.2.1 HB5.out.2.2.2.1 HB5.out.2.2.2.2 hlt
          have hsn := sT_succ n0 n1 n2 n3 n4 j hlt
          have HLT := Lib.hid hlt
          obtain ⟨sj, hsj⟩ : ∃ s, s = sT n0 n1 n2 n3 n4 j := ⟨_, rfl⟩
          obtain ⟨nj, hnj⟩ : ∃ s, s = nT n0 n1 n2 n3 n4 j := ⟨_, rfl⟩
          rw [← hsj] at hs300 hsn ⊢
          rw [← hnj] at cc hn60 hsn
          obtain ⟨s1, hs1⟩ : ∃ s, s = sT n0 n1 n2 n3 n4 (j + 1) := ⟨_, rfl⟩
          have hw1 : IntKind.i64.wrap ((sj : Int) + (nj : Int)) = (s1 : Int) := by rw [IntWalk.i64_in _ (by omega)]; omega
          have HS1 := Lib.hid hs1
          clear hs1 hsn hsj hnj hlt
          go_wp2
          go_roundw
          case rel => exact ⟨j + 1, HLT.out, by go_num, by rw [← HS1.out], (by first | rfl | trivial)⟩
          case measure => have := HLT.out; simp [intOf]; omega
        · obtain rfl : j = 5 := by omega
          clear hlt
          have hse : sT n0 n1 n2 n3 n4 5 = cin l := by rw [← HSUM.out.1]; rfl
          rw [hse]
          generalize cin l = cl at *
          obtain ⟨ol, hol⟩ : ∃ o, o = (openL l).length := ⟨_, rfl⟩
          have hw2 : IntKind.i64.wrap ((n1 : Int) + (n2 : Int)) = (ol : Int) := by rw [IntWalk.i64_in _ (by have := HB5.out; omega)]; have := HSUM.out.2; omega
          have HO : Hid (∀ w, enE.At w X l → Calls Tryd.prog 14 #[.slice X l.length cx] w fun x w' => ∃ P cp, x = .returned (.slice P ol cp) ∧ Below w.heap.size w w') := Lib.hid (fun w h => (md_open X cx l w HLM.out.1 h).mono fun x w' hx => by
            obtain ⟨v, rfl, hop, hb⟩ := hx
            obtain ⟨P, cp, rfl, -⟩ := Kq.Elt.own_at hop
            exact ⟨P, cp, by rw [hol], hb⟩)
          have HN : Hid (∀ w, enE.At w Y m → LaidOk w → Calls Tryd.prog 12 #[.slice none 0 0, .slice Y m.length cy] w fun x w' => x = .returned (.bool true) ∧ Below w.heap.size w w') := Lib.hid (fun w h hl => md_step none Y 0 cy [] m w (by simp) HLM.out.2 Kq.Elt.At.nil h (fun e he => by cases he) HW.out.2.1 hl)
          have TD : Hid (TW w1 wr.drew A B X Y l m ∧ CnC wr.drew C n0 n1 n2 n3 n4 ∧ C < wr.drew.heap.size) := Lib.hid ⟨T5.out.1.below (Below.refl _ _).drew, T5.out.2.1, T5.out.2.2⟩
          clear hse hol T5
          go_wp2
          refine wp_region_held_drew (S := fun w' => CnC w' C n0 n1 n2 n3 n4) (by kernel_rfl) TD.out.2.1 (fun hS0 => ?_)
          generalize wr.drew = wd at *
          unfold CnC at hS0
          dsimp only [CnC]
          refine wpAnyH_take (i := 0) (v := ?_) rfl (by kernel_rfl) (by kernel_rfl) (by kernel_rfl) (fun _ _ _ h => h) (Or.inl ⟨by kernel_rfl, ?_⟩) (by assumption) ?_
          rotate_left
          · intro w hSw; (try dsimp only at hSw); go_simp; (try with_reducible rfl)
          refine wpAnyH_take (i := 1) (v := ?_) rfl (by kernel_rfl) (by kernel_rfl) (by kernel_rfl) (fun _ _ _ h => h) (Or.inl ⟨by kernel_rfl, ?_⟩) (by assumption) ?_
          rotate_left
          · intro w hSw; (try dsimp only at hSw); go_simp; (try with_reducible rfl)
          refine wpAnyH_take (i := 2) (v := ?_) rfl (by kernel_rfl) (by kernel_rfl) (by kernel_rfl) (fun _ _ _ h => h) (Or.inl ⟨by kernel_rfl, ?_⟩) (by assumption) ?_
          rotate_left
          · intro w hSw; (try dsimp only at hSw); go_simp; (try with_reducible rfl)
          refine wpAnyH_take (i := 3) (v := ?_) rfl (by kernel_rfl) (by kernel_rfl) (by kernel_rfl) (fun _ _ _ h => h) (Or.inl ⟨by kernel_rfl, ?_⟩) (by assumption) ?_
          rotate_left
          · intro w hSw; (try dsimp only at hSw); go_simp; (try with_reducible rfl)
          refine wpAnyH_take (i := 4) (v := ?_) rfl (by kernel_rfl) (by kernel_rfl) (by kernel_rfl) (fun _ _ _ h => h) (Or.inl ⟨by kernel_rfl, ?_⟩) (by assumption) ?_
          rotate_left
          · intro w hSw; (try dsimp only at hSw); go_simp; (try with_reducible rfl)
          refine wpAnyH_take (i := 7) (v := ?_) rfl (by kernel_rfl) (by kernel_rfl) (by kernel_rfl) (fun _ _ _ h => h) (Or.inl ⟨by kernel_rfl, ?_⟩) (by assumption) ?_
          rotate_left
          · intro w hSw; (try dsimp only at hSw); go_simp; (try with_reducible rfl)
          refine wpAnyH_take (i := 9) (v := ?_) rfl (by kernel_rfl) (by kernel_rfl) (by kernel_rfl) (fun _ _ _ h => h) (Or.inl ⟨by kernel_rfl, ?_⟩) (by assumption) ?_
          rotate_left
          · intro w hSw; (try dsimp only at hSw); go_simp; (try with_reducible rfl)
          refine wpAnyH_take (i := 8) (v := ?_) rfl (by kernel_rfl) (by kernel_rfl) (by kernel_rfl) (fun _ _ _ h => h) (Or.inl ⟨by kernel_rfl, ?_⟩) (by assumption) ?_
          rotate_left
          · intro w hSw; (try dsimp only at hSw); go_simp; (try with_reducible rfl)
          refine wpAnyH_take (i := 10) (v := ?_) rfl (by kernel_rfl) (by kernel_rfl) (by kernel_rfl) (fun _ _ _ h => h) (Or.inl ⟨by kernel_rfl, ?_⟩) (by assumption) ?_
          rotate_left
          · intro w hSw; (try dsimp only at hSw); go_simp; (try with_reducible rfl)
          refine wpAnyH_take (i := 11) (v := ?_) rfl (by kernel_rfl) (by kernel_rfl) (by kernel_rfl) (fun _ _ _ h => h) (Or.inl ⟨by kernel_rfl, ?_⟩) (by assumption) ?_
          rotate_left
          · intro w hSw; (try dsimp only at hSw); go_simp; (try with_reducible rfl)
          refine wpAnyH_ready (rs := [5]) (by kernel_rfl) (by simp) ?_
          refine AllReadyH.cons rfl (fun K hK => ?_) AllReadyH.nil
          go_simp
          refine (HO.out wd TD.out.1.x).mono ?_
          rintro x u3 ⟨P, cp, rfl, hb3⟩
          have TD3 : Hid (TW w1 u3 A B X Y l m ∧ CnC u3 C n0 n1 n2 n3 n4 ∧ C < u3.heap.size) := Lib.hid ⟨TD.out.1.below hb3, TD.out.2.1.below hb3 TD.out.2.2, Nat.lt_of_lt_of_le TD.out.2.2 hb3.size⟩
          clear hb3 TD HO hS0
          refine hK.out _ _ TD3.out.2.1 (fun hS0 => ?_)
          clear hK K
          refine wpAnyH_take (i := 6) (v := ?_) rfl (by kernel_rfl) (by kernel_rfl) (by kernel_rfl) (fun _ _ _ h => h) (Or.inl ⟨by kernel_rfl, ?_⟩) (by assumption) ?_
          rotate_left
          · intro w hSw; (try dsimp only at hSw); go_simp; (try with_reducible rfl)
          refine wpAnyH_take (i := 12) (v := ?_) rfl (by kernel_rfl) (by kernel_rfl) (by kernel_rfl) (fun _ _ _ h => h) (Or.inl ⟨by kernel_rfl, ?_⟩) (by assumption) ?_
          rotate_left
          · intro w hSw; (try dsimp only at hSw); go_simp; (try with_reducible rfl)
          refine wpAnyH_take (i := 13) (v := ?_) rfl (by kernel_rfl) (by kernel_rfl) (by kernel_rfl) (fun _ _ _ h => h) (Or.inl ⟨by kernel_rfl, ?_⟩) (by assumption) ?_
          rotate_left
          · intro w hSw; (try dsimp only at hSw); go_simp; (try with_reducible rfl)
          refine wpAnyH_take (i := 14) (v := ?_) rfl (by kernel_rfl) (by kernel_rfl) (by kernel_rfl) (fun _ _ _ h => h) (Or.inl ⟨by kernel_rfl, ?_⟩) (by assumption) ?_
          rotate_left
          · intro w hSw; (try dsimp only at hSw); go_simp; (try with_reducible rfl)
          refine wpAnyH_take (i := 15) (v := ?_) rfl (by kernel_rfl) (by kernel_rfl) (by kernel_rfl) (fun _ _ _ h => h) (Or.inl ⟨by kernel_rfl, ?_⟩) (by assumption) ?_
          rotate_left
          · intro w hSw; (try dsimp only at hSw); go_simp; (try with_reducible rfl)
          refine wpAnyH_ready (rs := [16]) (by kernel_rfl) (by simp) ?_
          refine AllReadyH.cons rfl (fun K hK => ?_) AllReadyH.nil
          go_simp
          refine (HN.out u3 TD3.out.1.y TD3.out.1.laid).mono ?_
          rintro x u4 ⟨rfl, hb4⟩
          have TD4 : Hid (TW w1 u4 A B X Y l m ∧ CnC u4 C n0 n1 n2 n3 n4) := Lib.hid ⟨TD3.out.1.below hb4, TD3.out.2.1.below hb4 TD3.out.2.2⟩
          clear hb4 TD3 HN hS0
          refine hK.out _ _ TD4.out.2 (fun hS0 => ?_)
          clear hK K
          refine wpAnyH_take (i := 17) (v := ?_) rfl (by kernel_rfl) (by kernel_rfl) (by kernel_rfl) (fun _ _ _ h => h) (Or.inl ⟨by kernel_rfl, ?_⟩) (by assumption) ?_
          rotate_left
          · intro w hSw; (try dsimp only at hSw); go_simp; (try with_reducible rfl)
          refine wpAnyH_take (i := 18) (v := ?_) rfl (by kernel_rfl) (by kernel_rfl) (by kernel_rfl) (fun _ _ _ h => h) (Or.inl ⟨by kernel_rfl, ?_⟩) (by assumption) ?_
          rotate_left
          · intro w hSw; (try dsimp only at hSw); go_simp; (try with_reducible rfl)
          refine wpAnyH_done (by kernel_rfl) ?_ _
          clear hS0 hw2
          go_simp
          go_wp2
          go_loopw [12, 13] (fun al i wr => ∃ j : Nat, j ≤ l.length ∧ i = .int .i64 (j : Int) ∧ al = .bool (stepB (l.take j) m) ∧ Below u4.heap.size u4 wr) (fun _ i _ => l.length - (intOf i).toNat)
          case atStart => exact ⟨0, Nat.zero_le _, rfl, rfl, Below.refl _ _⟩
          case round =>
            obtain ⟨j, hj, rfl, rfl, hbl⟩ := hrel
            by_cases hlt : j < l.length
            · have hi0' : (j : Int) < (l.length : Int) := by omega
              have hj60 : j ≤ 60 := by have := HLM.out; omega
              have HLT := Lib.hid hlt
              have TR := Lib.hid (TD4.out.1.below hbl)
              have hst := stepB_take l m j hlt
              obtain ⟨b0, off, rfl, -⟩ := TR.out.x j hlt
              obtain ⟨j1, hj1⟩ : ∃ k, k = j + 1 := ⟨_, rfl⟩
              have hwj : IntKind.i64.wrap ((j : Int) + 1) = (j1 : Int) := by rw [IntWalk.i64_in _ (by omega)]; omega
              have sl := fun wx => sub1_run b0 off l.length cx j j1 hj1 (by have := HW.out.2.2; omega) wx
              have HBL := Lib.hid hbl
              cases hs : stepB (l.take j) m with
              | false =>
                have HN : Hid (stepB (l.take (j + 1)) m = false) := Lib.hid (by rw [hst, hs]; rfl)
                clear hst hs hbl hj1 hwj sl
                go_wp2
                go_roundw
                case rel => exact ⟨j + 1, HLT.out, by go_num, by rw [HN.out], HBL.out⟩
                case measure => have := HLT.out; simp [intOf]; omega
              | true =>
                have HN : Hid (stepB (l.take (j + 1)) m = okE l[j] (findE m (l[j]'hlt).p)) := Lib.hid (by rw [hst, hs, Bool.true_and]; rfl)
                have HJ := Lib.hid hj1
                have HST : Hid (Calls Tryd.prog 12 #[.slice (some ⟨b0, off + j * 5, none⟩) 1 (cx - j), .slice Y m.length cy] wr fun x w' => x = .returned (.bool (stepB (l.take (j + 1)) m)) ∧ Below wr.heap.size wr w') := Lib.hid (by
                  have hd := (TR.out.x.drop j).take 1
                  have hone : (l.drop j).take 1 = [l[j]'hlt] := by rw [List.drop_eq_getElem_cons hlt]; rfl
                  rw [hone] at hd
                  have := md_step (some ⟨b0, off + j * 5, none⟩) Y (cx - j) cy [l[j]'hlt] m wr (by simp) HLM.out.2 hd TR.out.y (fun e he => by
                    obtain rfl := List.mem_singleton.1 he
                    exact HW.out.1 _ (List.getElem_mem _)) HW.out.2.1 TR.out.laid
                  have e2 : stepB [l[j]'hlt] m = stepB (l.take (j + 1)) m := (stepB_one _ m).trans HN.out.symm
                  rw [e2] at this
                  exact this)
                clear hst hs hbl hj1 HN
                go_wp2_with fail
                refine HST.out.mono ?_
                rintro x u5 ⟨rfl, hb5⟩
                have HB : Hid (Below u4.heap.size u4 u5) := Lib.hid (HBL.out.trans (hb5.mono HBL.out.size))
                clear hb5 HST sl hwj
                generalize hgs : stepB (l.take (j + 1)) m = sb
                have HG := Lib.hid hgs
                clear hgs
                go_wp2
                go_roundw
                case rel => exact ⟨j + 1, HLT.out, by go_num, by rw [HG.out], HB.out⟩
                case measure => have := HLT.out; simp [intOf]; omega
            · obtain rfl : j = l.length := by omega
              rw [List.take_length]
              have TR := Lib.hid (TD4.out.1.below hbl)
              clear hlt hbl TD4
              go_wp2_with fail
              refine (md_step X Y _ _ l m wr HLM.out.1 HLM.out.2 TR.out.x TR.out.y HW.out.1 HW.out.2.1 TR.out.laid).mono ?_
              rintro x u5 ⟨rfl, hb5⟩
              have T6 := Lib.hid (TR.out.bel.trans (hb5.mono TR.out.bel.size))
              clear hb5 TR
              generalize stepB l m = sb
              go_wp2
              go_ret
              exact ⟨by simp, T6.out⟩
end Go.Proofs.YtlbeaknegfnpkaaDoor
