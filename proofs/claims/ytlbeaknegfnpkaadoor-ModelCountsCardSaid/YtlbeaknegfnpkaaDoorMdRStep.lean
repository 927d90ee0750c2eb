/- Contract of carrackref22.Step. Condition: few entries. -/
import Derived.WalkSpells
import Derived.Outline
import Derived.Deep.QuietTactic
import Derived.Deep.RegionHeld
import Derived.BigQuiet
import Derived.Test.YtlbeaknegfnpkaaDoorMdTurn
import Derived.Test.YtlbeaknegfnpkaaDoorMdRef
import Derived.Test.YtlbeaknegfnpkaaDoorMdEq
import Derived.Test.YtlbeaknegfnpkaaDoorCommon
namespace Go.Proofs.YtlbeaknegfnpkaaDoor
open Go.RowKit
set_option linter.unusedVariables false
theorem findE_at {m : List EnV} {p : PtV} {k : Nat} (hk : k < m.length) (hup : ∀ i (hi : i < m.length), i < k → m[i].p ≠ p) (he : m[k].p = p) : findE m p = some m[k].s := by
  unfold findE
  have : m.find? (fun e => decide (e.p = p)) = some m[k] := by
    rw [List.find?_eq_some_iff_getElem]
    refine ⟨by simpa using he, k, hk, rfl, fun j hj => ?_⟩
    simpa using hup j (by omega) hj
  rw [this]; rfl
theorem findE_none {m : List EnV} {p : PtV} (hup : ∀ i (hi : i < m.length), m[i].p ≠ p) : findE m p = none := by
  unfold findE
  have : m.find? (fun e => decide (e.p = p)) = none := by
    rw [List.find?_eq_none]
    intro x hx
    obtain ⟨i, hi, rfl⟩ := List.getElem_of_mem hx
    simpa using hup i hi
  rw [this]; rfl
theorem cell_lt2 {w : World} {b o : Nat} {v : Value} (h : w.cell? ⟨b, o, none⟩ = some v) : b < w.heap.size := by
  rcases Nat.lt_or_ge b w.heap.size with h' | h'
  · exact h'
  · simp [World.cell?, Array.getElem?_eq_none h'] at h
theorem stepR_no {l m : List EnV} {j : Nat} (hj : j < l.length) (h : okE l[j] (findE m l[j].p) = false) : stepB l m = false := by
  unfold stepB
  rw [List.all_eq_false]
  exact ⟨l[j], List.getElem_mem _, by rw [h]; decide⟩
theorem stepR_yes {l m : List EnV} (h : ∀ i (hi : i < l.length), okE l[i] (findE m l[i].p) = true) : stepB l m = true := by
  unfold stepB
  rw [List.all_eq_true]
  intro e he
  obtain ⟨i, hi, rfl⟩ := List.getElem_of_mem he
  exact h i hi
set_option maxRecDepth 100000 in
set_option maxHeartbeats 4000000 in
theorem rf_step (A B : Option Addr) (ca cb : Nat) (l m : List EnV) (w : World) (hl : l.length ≤ 60) (hm : m.length ≤ 60) (hA : enE.At w A l) (hB : enE.At w B m) :
    Calls Tryd.prog 13 #[.slice A l.length ca, .slice B m.length cb] w fun x w' => x = .returned (.bool (stepB l m)) ∧ Below w.heap.size w w' := by
  have HA := Lib.hid (And.intro hA hl)
  have HB := Lib.hid (And.intro hB hm)
  clear hA hB hl hm
  go_enter Tryd.func13, Tryd.ntmps13
  go_wp2
  go_loopw [5] (fun i wr => ∃ j : Nat, j ≤ l.length ∧ i = .int .i64 (j : Int) ∧ Below w.heap.size w wr ∧ ∀ i (hi : i < l.length), i < j → okE l[i] (findE m l[i].p) = true) (fun i _ => l.length - (intOf i).toNat)
  case atStart => exact ⟨0, Nat.zero_le _, rfl, Below.refl _ _, fun i _ hi => absurd hi (Nat.not_lt_zero _)⟩
  case round =>
    obtain ⟨j, hj, rfl, hbl, hup⟩ := hrel
    have HU := Lib.hid (And.intro hbl hup)
    clear hbl hup
    by_cases hlt : j < l.length
    · have hi0' : (j : Int) < (l.length : Int) := by omega
      have hj60 : j ≤ 60 := by have := HA.out.2; omega
      have HLT := Lib.hid hlt
      go_wp2
      go_loopw [6] (fun i wr => ∃ k : Nat, k ≤ m.length ∧ i = .int .i64 (k : Int) ∧ Below w.heap.size w wr ∧ ∀ i (hi : i < m.length), i < k → m[i].p ≠ (l[j]'hlt).p) (fun i _ => m.length - (intOf i).toNat)
      case atStart => exact ⟨0, Nat.zero_le _, rfl, HU.out.1, fun i _ hi => absurd hi (Nat.not_lt_zero _)⟩
      case round =>
        obtain ⟨k, hk, rfl, hbl, hne⟩ := hrel
        obtain ⟨b, off, rfl, hb, hc⟩ := en_at (HA.out.1.below hbl) HLT.out
        obtain ⟨e, he⟩ : ∃ e, e = l[j]'HLT.out := ⟨_, rfl⟩
        rw [← he] at hc
        unfold EnC at hc
        obtain ⟨c0, c1, c2, c3, c4⟩ := hc
        by_cases hltk : k < m.length
        · have hk0' : (k : Int) < (m.length : Int) := by omega
          have hk60 : k ≤ 60 := by have := HB.out.2; omega
          have dk : decide ((k : Int) < (m.length : Int)) = true := decide_eq_true hk0'
          have dk' : decide (k < m.length) = true := decide_eq_true hltk
          obtain ⟨b2, off2, rfl, hb2, hc2⟩ := en_at (HB.out.1.below hbl) hltk
          obtain ⟨x, hx⟩ : ∃ x, x = m[k] := ⟨_, rfl⟩
          rw [← hx] at hc2
          unfold EnC at hc2
          obtain ⟨e0, e1, e2, e3, e4⟩ := hc2
          have hq := fun wx => pt_neq x.p e.p wx
          have HX := Lib.hid (And.intro hx (And.intro he hne))
          have HLTK := Lib.hid hltk
          have HBL := Lib.hid hbl
          have qk : ((k : Int) == (m.length : Int)) = false := beq_eq_false_iff_ne.2 (by omega)
          have qk' : (k == m.length) = false := beq_eq_false_iff_ne.2 (by omega)
          clear hx he hne hb hb2 hbl
          by_cases hpp : x.p = e.p
          · have HF : Hid (okE e (findE m e.p) = rchB e.s x.s) := Lib.hid (by
              rw [findE_at HLTK.out (fun i hi h => by rw [HX.out.2.1]; exact HX.out.2.2 i hi h) (by rw [← HX.out.1]; exact hpp), ← HX.out.1]; rfl)
            rw [decide_eq_true hpp] at hq
            clear hpp
            go_wp2
            go_quiet (fail)
            generalize hwq : wr.drewN nq = wq
            have HC : Hid ((wq.drew.cell? ⟨b, off + j * 5 + 4, none⟩ = some (.int .i64 e.s) ∧ wq.drew.cell? ⟨b2, off2 + k * 5 + 4, none⟩ = some (.int .i64 x.s)) ∧ Below w.heap.size w wq.drew ∧ b < wq.drew.heap.size ∧ b2 < wq.drew.heap.size) := Lib.hid (by
              have hbq : Below wr.heap.size wr wq.drew := by rw [← hwq]; exact (below_drewN (Below.refl _ _) nq).drew
              have h1 : b < wr.heap.size := cell_lt2 c4
              have h2 : b2 < wr.heap.size := cell_lt2 e4
              exact ⟨⟨(hbq.cell (p := ⟨b, off + j * 5 + 4, none⟩) h1).trans c4, (hbq.cell (p := ⟨b2, off2 + k * 5 + 4, none⟩) h2).trans e4⟩, HBL.out.trans (hbq.mono HBL.out.size), Nat.lt_of_lt_of_le h1 hbq.size, Nat.lt_of_lt_of_le h2 hbq.size⟩)
            clear hwq hq c0 c1 c2 c3 c4 e0 e1 e2 e3 e4 HBL dk dk'
            go_wp2_with fail
            refine wp_region_held_drew (S := fun w' => w'.cell? ⟨b, off + j * 5 + 4, none⟩ = some (.int .i64 e.s) ∧ w'.cell? ⟨b2, off2 + k * 5 + 4, none⟩ = some (.int .i64 x.s)) (by kernel_rfl) HC.out.1 (fun hS0 => ?_)
            generalize wq.drew = wd at *
            refine wpAnyH_take (i := 0) (v := ?_) rfl (by kernel_rfl) (by kernel_rfl) (by kernel_rfl) (fun _ _ _ h => h) (Or.inl ⟨by kernel_rfl, ?_⟩) (by assumption) ?_
            rotate_left
            · intro w hSw; (try dsimp only at hSw); go_simp; (try with_reducible rfl)
            refine wpAnyH_take (i := 1) (v := ?_) rfl (by kernel_rfl) (by kernel_rfl) (by kernel_rfl) (fun _ _ _ h => h) (Or.inl ⟨by kernel_rfl, ?_⟩) (by assumption) ?_
            rotate_left
            · intro w hSw; (try dsimp only at hSw); go_simp; (try with_reducible rfl)
            refine wpAnyH_take (i := 2) (v := ?_) rfl (by kernel_rfl) (by kernel_rfl) (by kernel_rfl) (fun _ _ _ h => h) (Or.inl ⟨by kernel_rfl, ?_⟩) (by assumption) ?_
            rotate_left
            · intro w hSw; (try dsimp only at hSw); go_simp; (try with_reducible rfl)
            refine wpAnyH_take (i := 3) (v := ?_) rfl (by kernel_rfl) (by kernel_rfl) (by kernel_rfl) (fun _ _ _ h => h) (Or.inl ⟨by kernel_rfl, ?_⟩) (by assumption) ?_
            rotate_left
            · intro w hSw; (try dsimp only at hSw); go_simp; (try with_reducible rfl)
            refine wpAnyH_take (i := 4) (v := ?_) rfl (by kernel_rfl) (by kernel_rfl) (by kernel_rfl) (fun _ _ _ h => h) (Or.inl ⟨by kernel_rfl, ?_⟩) (by assumption) ?_
            rotate_left
            · intro w hSw; (try dsimp only at hSw); go_simp; (try with_reducible rfl)
            refine wpAnyH_take (i := 5) (v := ?_) rfl (by kernel_rfl) (by kernel_rfl) (by kernel_rfl) (fun _ _ _ h => h) (Or.inl ⟨by kernel_rfl, ?_⟩) (by assumption) ?_
            rotate_left
            · intro w hSw; (try dsimp only at hSw); go_simp; (try with_reducible rfl)
            refine wpAnyH_take (i := 6) (v := ?_) rfl (by kernel_rfl) (by kernel_rfl) (by kernel_rfl) (fun _ _ _ h => h) (Or.inl ⟨by kernel_rfl, ?_⟩) (by assumption) ?_
            rotate_left
            · intro w hSw; (try dsimp only at hSw); go_simp; (try with_reducible rfl)
            refine wpAnyH_take (i := 7) (v := ?_) rfl (by kernel_rfl) (by kernel_rfl) (by kernel_rfl) (fun _ _ _ h => h) (Or.inl ⟨by kernel_rfl, ?_⟩) (by assumption) ?_
            rotate_left
            · intro w hSw; (try dsimp only at hSw); go_simp; (try with_reducible rfl)
            refine wpAnyH_take (i := 8) (v := ?_) rfl (by kernel_rfl) (by kernel_rfl) (by kernel_rfl) (fun _ _ _ h => h) (Or.inl ⟨by kernel_rfl, ?_⟩) (by assumption) ?_
            rotate_left
            · intro w hSw; (try dsimp only at hSw); go_simp; (try with_reducible rfl)
            refine wpAnyH_take (i := 10) (v := ?_) rfl (by kernel_rfl) (by kernel_rfl) (by kernel_rfl) (fun _ _ _ h => h) (Or.inl ⟨by kernel_rfl, ?_⟩) (by assumption) ?_
            rotate_left
            · intro w hSw; (try dsimp only at hSw); go_simp; (try with_reducible rfl)
            refine wpAnyH_take (i := 11) (v := ?_) rfl (by kernel_rfl) (by kernel_rfl) (by kernel_rfl) (fun _ _ _ h => h) (Or.inl ⟨by kernel_rfl, ?_⟩) (by assumption) ?_
            rotate_left
            · intro w hSw; (try dsimp only at hSw); go_simp; (try with_reducible rfl)
            refine wpAnyH_take (i := 12) (v := ?_) rfl (by kernel_rfl) (by kernel_rfl) (by kernel_rfl) (fun _ _ _ h => h) (Or.inl ⟨by kernel_rfl, ?_⟩) (by assumption) ?_
            rotate_left
            · intro w hSw; (try dsimp only at hSw); go_simp; (try with_reducible rfl)
            refine wpAnyH_take (i := 13) (v := ?_) rfl (by kernel_rfl) (by kernel_rfl) (by kernel_rfl) (fun _ _ _ h => h) (Or.inl ⟨by kernel_rfl, ?_⟩) (by assumption) ?_
            rotate_left
            · intro w hSw; (try dsimp only at hSw); go_simp; (try with_reducible rfl)
            refine wpAnyH_take (i := 9) (v := ?_) rfl (by kernel_rfl) (by kernel_rfl) (by kernel_rfl) (fun _ _ _ h => h) (Or.inl ⟨by kernel_rfl, ?_⟩) (by assumption) ?_
            rotate_left
            · intro w hSw; (try dsimp only at hSw); go_simp; (try with_reducible rfl)
            refine wpAnyH_take (i := 14) (v := ?_) rfl (by kernel_rfl) (by kernel_rfl) (by kernel_rfl) (fun _ _ _ h => h) (Or.inl ⟨by kernel_rfl, ?_⟩) (by assumption) ?_
            rotate_left
            · intro w hSw; (try dsimp only at hSw); go_simp; (try with_reducible rfl)
            refine wpAnyH_ready (rs := [15]) (by kernel_rfl) (by simp) ?_
            refine AllReadyH.cons rfl (fun K hK => ?_) AllReadyH.nil
            go_simp
            refine (rf_reached e.s x.s wd).mono ?_
            rintro y w3 ⟨rfl, hb3⟩
            have HC3 : Hid ((w3.cell? ⟨b, off + j * 5 + 4, none⟩ = some (.int .i64 e.s) ∧ w3.cell? ⟨b2, off2 + k * 5 + 4, none⟩ = some (.int .i64 x.s)) ∧ Below w.heap.size w w3) := Lib.hid ⟨⟨(hb3.cell (p := ⟨b, off + j * 5 + 4, none⟩) HC.out.2.2.1).trans HC.out.1.1, (hb3.cell (p := ⟨b2, off2 + k * 5 + 4, none⟩) HC.out.2.2.2).trans HC.out.1.2⟩, HC.out.2.1.trans (hb3.mono HC.out.2.1.size)⟩
            clear hS0 hb3 HC
            refine hK.out _ _ HC3.out.1 (fun hS0 => ?_)
            clear hK K
            refine wpAnyH_take (i := 16) (v := ?_) rfl (by kernel_rfl) (by kernel_rfl) (by kernel_rfl) (fun _ _ _ h => h) (Or.inl ⟨by kernel_rfl, ?_⟩) (by assumption) ?_
            rotate_left
            · intro w hSw; (try dsimp only at hSw); go_simp; (try with_reducible rfl)
            refine wpAnyH_take (i := 17) (v := ?_) rfl (by kernel_rfl) (by kernel_rfl) (by kernel_rfl) (fun _ _ _ h => h) (Or.inl ⟨by kernel_rfl, ?_⟩) (by assumption) ?_
            rotate_left
            · intro w hSw; (try dsimp only at hSw); go_simp; (try with_reducible rfl)
            refine wpAnyH_done (by kernel_rfl) ?_ _
            clear hS0
            go_simp
            cases hr : rchB e.s x.s with
            | true =>
              have HR : Hid (okE e (findE m e.p) = true) := Lib.hid (by rw [HF.out, hr])
              clear hr
              go_wp2
              go_roundw
              case rel =>
                refine ⟨j + 1, HLT.out, by go_num, HC3.out.2, fun i hi h => ?_⟩
                rcases Nat.lt_or_ge i j with h' | h'
                · exact HU.out.2 i hi h'
                · have : i = j := by omega
                  subst this
                  rw [← HX.out.2.1]
                  exact HR.out
              case measure => have := HLT.out; simp [intOf]; omega
            | false =>
              have HN : Hid (stepB l m = false) := Lib.hid (stepR_no HLT.out (by rw [← HX.out.2.1, HF.out, hr]))
              clear hr
              go_wp2
              go_ret
              exact ⟨by rw [HN.out]; rfl, HC3.out.2⟩
          · rw [decide_eq_false hpp] at hq
            have HP := Lib.hid hpp
            clear hpp qk qk'
            go_wp2
            go_quiet (fail)
            generalize hwq : wr.drewN nq = wq
            have HQ : Hid (Below w.heap.size w wq) := Lib.hid (by rw [← hwq]; exact below_drewN HBL.out nq)
            clear hwq hq c0 c1 c2 c3 c4 e0 e1 e2 e3 e4 HBL
            go_wp2
            go_roundw
            case rel =>
              refine ⟨k + 1, HLTK.out, by go_num, HQ.out, fun i hi h => ?_⟩
              rcases Nat.lt_or_ge i k with h' | h'
              · exact HX.out.2.2 i hi h'
              · have : i = k := by omega
                subst this
                rw [← HX.out.1, ← HX.out.2.1]
                exact HP.out
            case measure => have := HLTK.out; simp [intOf]; omega
        · obtain rfl : k = m.length := by omega
          have dk : decide ((m.length : Int) < (m.length : Int)) = false := decide_eq_false (by omega)
          have HN : Hid (stepB l m = false) := Lib.hid (stepR_no HLT.out (by rw [findE_none (fun i hi => hne i hi hi)]; rfl))
          have HBL := Lib.hid hbl
          clear hltk hne hbl hb he c0 c1 c2 c3 c4
          go_wp2
          go_quiet (fail)
          generalize hwq : wr.drewN nq = wq
          have HQ : Hid (Below w.heap.size w wq) := Lib.hid (by rw [← hwq]; exact below_drewN HBL.out nq)
          clear hwq HBL dk
          go_wp2_with fail
          go_quiet (fail)
          generalize hwq : wq.drewN nq = wq2
          have HQ2 : Hid (Below w.heap.size w wq2) := Lib.hid (by rw [← hwq]; exact below_drewN HQ.out nq)
          clear hwq
          go_wp2
          go_ret
          exact ⟨by rw [HN.out]; rfl, HQ2.out⟩
    · obtain rfl : j = l.length := by omega
      have HN : Hid (stepB l m = true) := Lib.hid (stepR_yes (fun i hi => HU.out.2 i hi hi))
      clear hlt
      go_wp2
      go_ret
      exact ⟨by rw [HN.out]; rfl, HU.out.1⟩
end Go.Proofs.YtlbeaknegfnpkaaDoor
