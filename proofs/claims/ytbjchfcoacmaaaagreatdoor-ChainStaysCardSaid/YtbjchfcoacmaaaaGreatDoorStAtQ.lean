/- Contracts of store's At, Root. Condition: sizes. -/
import Derived.WalkSpells
import Derived.Outline
import Derived.Deep.QuietTactic
import Derived.BigQuiet
import Derived.Test.YtbjchfcoacmaaaaGreatDoorStComQ
import Derived.Test.YtbjchfcoacmaaaaGreatDoorStSortQ
import Derived.Test.YtbjchfcoacmaaaaGreatDoorHeldLastQ
import Derived.Test.YtbjchfcoacmaaaaGreatDoorStRPairsQ
import Derived.Test.YtbjchfcoacmaaaaGreatDoorShLaidQ
namespace Go.Proofs.YtbjchfcoacmaaaaGreatDoor
open Go.RowKit Go.Maps
set_option linter.unusedVariables false
def AtP (w : World) (s : StV) (H : Nat) (x : Ending) (w' : World) : Prop := ∃ v, x = .returned (.tuple #[v, .int .i64 (atV s H).2]) ∧ NewL w.heap.size (atV s H).1 v w' ∧ Below w.heap.size w w'
theorem newL_nil (W : Nat) (w' : World) : NewL W [] (.slice none 0 0) w' := ⟨none, 0, rfl, Nat.le_refl _, fun j hj => absurd hj (Nat.not_lt_zero _), fun b off e => by cases e⟩
theorem AtP.none {w : World} {s : StV} {H : Nat} (h : ¬ (s.first ≤ H ∧ H ≤ s.height)) : AtP w s H (.returned (.tuple #[.slice none 0 0, .int .i64 3])) w := by
  have e : atV s H = ([], 3) := if_neg h
  refine ⟨_, by rw [e], ?_, Below.refl _ _⟩
  rw [e]
  exact newL_nil _ _
section
variable (w : World) (O : Nat → Prop) (B : Nat) (s : StV)
def CaB (w : World) (B : Nat) (v : Value) (g i : Nat) (u : Value) : Prop := w.cell? ⟨B, 3, none⟩ = some v ∧ w.cell? ⟨g, i, none⟩ = some u
set_option maxRecDepth 100000 in
set_option maxHeartbeats 2000000 in
theorem st_at (H : Nat) (hH : H < 18446744073709551616) (h : StP w O B s) (hs : StOk s) : Calls Tryz.prog 33 #[.pointer (some ⟨B, 0, none⟩), .int .u64 (H : Int)] w (AtP w s H) := by
  obtain ⟨Mn, sh, A, q, cap, Ms, h⟩ := h
  have hq := h.q_eq
  have hlen := h.len
  have hfew := hs.few
  have htop := hs.top
  have hone := hs.one
  obtain ⟨t, ht⟩ : ∃ t, t = s.height := ⟨_, rfl⟩
  have htt : t = s.first + (q - 1) := by rw [ht, hq]; rfl
  have c2 := h.c2
  have c3 := h.c3
  rw [← ht] at c2
  by_cases t0 : t < H
  · have HE := Lib.hid (AtP.none (w := w) (s := s) (H := H) (by rw [← ht]; omega))
    have e0 : decide ((t : Int) < (H : Int)) = true := decide_eq_true (by omega)
    have e0' : decide (t < H) = true := decide_eq_true t0
    clear h hs hq hlen hfew htop hone htt ht t0 hH
    go_enter Tryz.func33, Tryz.ntmps33
    go_wp2
    go_ret2
    exact HE.out
  have e0 : decide ((t : Int) < (H : Int)) = false := decide_eq_false (by omega)
  have e0' : decide (t < H) = false := decide_eq_false t0
  obtain ⟨b, hb⟩ : ∃ b, b = t - H := ⟨_, rfl⟩
  have hw1 : IntKind.u64.wrap ((t : Int) - (H : Int)) = (b : Int) := by rw [IntWalk.u64_in _ (by omega)]; omega
  have hw2 : IntKind.u64.wrap (q : Int) = (q : Int) := by rw [IntWalk.u64_in _ (by omega)]
  by_cases b0 : q ≤ b
  · have HE := Lib.hid (AtP.none (w := w) (s := s) (H := H) (by rw [← ht]; omega))
    have e1 : decide ((q : Int) ≤ (b : Int)) = true := decide_eq_true (by omega)
    have e1' : decide (q ≤ b) = true := decide_eq_true b0
    clear h hs hq hlen hfew htop hone htt ht t0 hH hb b0
    go_enter Tryz.func33, Tryz.ntmps33
    go_wp2
    go_ret2
    exact HE.out
  have e1 : decide ((q : Int) ≤ (b : Int)) = false := decide_eq_false (by omega)
  have e1' : decide (q ≤ b) = false := decide_eq_false b0
  obtain ⟨i, hi⟩ : ∃ i, i = H - s.first := ⟨_, rfl⟩
  have hiq : i < q := by omega
  have hiM : i < Ms.length := by omega
  have hiB : i < s.blks.length := by omega
  have HE : Hid (atV s H = (s.blks[i], 0)) := Lib.hid (by
    unfold atV
    rw [if_pos ⟨by omega, by rw [← ht]; omega⟩, ← hi, List.getD_eq_getElem?_getD, List.getElem?_eq_getElem hiB]; rfl)
  have HM := Lib.hid (h.at_ i hiM hiB)
  have HSM := Lib.hid (hs.blks _ (List.getElem_mem hiB))
  obtain ⟨M, hM⟩ : ∃ M, M = Ms[i] := ⟨_, rfl⟩
  rw [← hM] at HM
  obtain ⟨L, hL⟩ : ∃ L, L = s.blks[i] := ⟨_, rfl⟩
  rw [← hL] at HM HSM HE
  obtain ⟨g, hA, hrow⟩ : ∃ g, A = some ⟨g, 0, none⟩ ∧ w.cell? ⟨g, i, none⟩ = some (.map (some M)) := by
    rcases h.own.2 with ⟨e2, e3⟩ | ⟨g, c, cur, e2, h1, h2, h3, h4, h5, h6⟩
    · omega
    · injection e2 with e2 e3 e4
      refine ⟨g, e2, ?_⟩
      rw [Kq.blk_cell h2 i]
      have h7 : (cur.toList.take (Ms.length * 1))[i]? = (Ms.map fun m => Value.map (some m))[i]? := by rw [h6]
      rw [List.getElem?_take, if_pos (by omega), Array.getElem?_toList, List.getElem?_map, List.getElem?_eq_getElem hiM] at h7
      rw [h7, hM]; rfl
  subst hA
  have hi0 : (i : Int) < (q : Int) := by omega
  have hw3 : IntKind.i64.wrap ((q : Int) - 1) = ((q - 1 : Nat) : Int) := by rw [IntWalk.i64_in _ (by omega)]; omega
  have hw4 : IntKind.i64.wrap (b : Int) = (b : Int) := by rw [IntWalk.i64_in _ (by omega)]
  have hw5 : IntKind.i64.wrap (((q - 1 : Nat) : Int) - (b : Int)) = (i : Int) := by rw [IntWalk.i64_in _ (by omega)]; omega
  have hw7 : IntKind.i64.wrap (i : Int) = (i : Int) := by rw [IntWalk.i64_in _ (by omega)]
  have hi1 : (0 : Int) ≤ (i : Int) := by omega
  have hqs : q ≤ 4096 := by omega
  have hq1 : 1 ≤ q := by omega
  have HBG : Hid (B < w.heap.size ∧ g < w.heap.size) := Lib.hid ⟨h.lt, by
    rcases h.own.2 with ⟨e2, _⟩ | ⟨g', c, cur, e2, h1, h2, _⟩
    · cases e2
    · injection e2 with e2
      injection e2 with e2
      injection e2 with e2
      rw [e2]; exact Kq.blk_lt h2⟩
  have HS : Hid (CaB w.drew B (.slice (some ⟨g, 0, none⟩) q cap) g i (.map (some M))) := Lib.hid ⟨c3, hrow⟩
  clear h hs hq hlen hfew htop hone htt ht t0 hH hb b0 hi hiq hiM hiB hM hL
  go_enter Tryz.func33, Tryz.ntmps33
  go_wp2
  refine Kq.wp_region_T 16 (fun cur => CaB cur B (.slice (some ⟨g, 0, none⟩) q cap) g i (.map (some M))) (by kernel_rfl) HS.out (fun hS0 => ?_)
  unfold CaB at hS0
  dsimp only [CaB]
  refine Kq.wpAnyT_take (i := 0) (v := ?_) rfl rfl (by kernel_rfl) (by kernel_rfl) (by kernel_rfl) (by kernel_rfl) (fun _ _ _ h => h) (Or.inl ⟨by kernel_rfl, ?_⟩) (by assumption) ?_
  rotate_left
  · intro w hSw; (try dsimp only at hSw); go_simp; (try with_reducible rfl)
  refine Kq.wpAnyT_take (i := 1) (v := ?_) rfl rfl (by kernel_rfl) (by kernel_rfl) (by kernel_rfl) (by kernel_rfl) (fun _ _ _ h => h) (Or.inl ⟨by kernel_rfl, ?_⟩) (by assumption) ?_
  rotate_left
  · intro w hSw; (try dsimp only at hSw); go_simp; (try with_reducible rfl)
  refine Kq.wpAnyT_take (i := 2) (v := ?_) rfl rfl (by kernel_rfl) (by kernel_rfl) (by kernel_rfl) (by kernel_rfl) (fun _ _ _ h => h) (Or.inl ⟨by kernel_rfl, ?_⟩) (by assumption) ?_
  rotate_left
  · intro w hSw; (try dsimp only at hSw); go_simp; (try with_reducible rfl)
  refine Kq.wpAnyT_take (i := 3) (v := ?_) rfl rfl (by kernel_rfl) (by kernel_rfl) (by kernel_rfl) (by kernel_rfl) (fun _ _ _ h => h) (Or.inl ⟨by kernel_rfl, ?_⟩) (by assumption) ?_
  rotate_left
  · intro w hSw; (try dsimp only at hSw); go_simp; (try with_reducible rfl)
  refine Kq.wpAnyT_take (i := 4) (v := ?_) rfl rfl (by kernel_rfl) (by kernel_rfl) (by kernel_rfl) (by kernel_rfl) (fun _ _ _ h => h) (Or.inl ⟨by kernel_rfl, ?_⟩) (by assumption) ?_
  rotate_left
  · intro w hSw; (try dsimp only at hSw); go_simp; (try with_reducible rfl)
  refine Kq.wpAnyT_take (i := 5) (v := ?_) rfl rfl (by kernel_rfl) (by kernel_rfl) (by kernel_rfl) (by kernel_rfl) (fun _ _ _ h => h) (Or.inl ⟨by kernel_rfl, ?_⟩) (by assumption) ?_
  rotate_left
  · intro w hSw; (try dsimp only at hSw); go_simp; (try with_reducible rfl)
  refine Kq.wpAnyT_take (i := 6) (v := ?_) rfl rfl (by kernel_rfl) (by kernel_rfl) (by kernel_rfl) (by kernel_rfl) (fun _ _ _ h => h) (Or.inl ⟨by kernel_rfl, ?_⟩) (by assumption) ?_
  rotate_left
  · intro w hSw; (try dsimp only at hSw); go_simp; (try with_reducible rfl)
  refine Kq.wpAnyT_take (i := 7) (v := ?_) rfl rfl (by kernel_rfl) (by kernel_rfl) (by kernel_rfl) (by kernel_rfl) (fun _ _ _ h => h) (Or.inl ⟨by kernel_rfl, ?_⟩) (by assumption) ?_
  rotate_left
  · intro w hSw; (try dsimp only at hSw); go_simp; (try with_reducible rfl)
  refine Kq.wpAnyT_take (i := 8) (v := ?_) rfl rfl (by kernel_rfl) (by kernel_rfl) (by kernel_rfl) (by kernel_rfl) (fun _ _ _ h => h) (Or.inl ⟨by kernel_rfl, ?_⟩) (by assumption) ?_
  rotate_left
  · intro w hSw; (try dsimp only at hSw); go_simp; (try with_reducible rfl)
  refine Kq.wpAnyT_take (i := 9) (v := ?_) rfl rfl (by kernel_rfl) (by kernel_rfl) (by kernel_rfl) (by kernel_rfl) (fun _ _ _ h => h) (Or.inl ⟨by kernel_rfl, ?_⟩) (by assumption) ?_
  rotate_left
  · intro w hSw; (try dsimp only at hSw); go_simp; (try with_reducible rfl)
  refine Kq.wpAnyT_take (i := 10) (v := ?_) rfl rfl (by kernel_rfl) (by kernel_rfl) (by kernel_rfl) (by kernel_rfl) (fun _ _ _ h => h) (Or.inl ⟨by kernel_rfl, ?_⟩) (by assumption) ?_
  rotate_left
  · intro w hSw; (try dsimp only at hSw); go_simp; (try with_reducible rfl)
  refine Kq.wpAnyT_take (i := 11) (v := ?_) rfl rfl (by kernel_rfl) (by kernel_rfl) (by kernel_rfl) (by kernel_rfl) (fun _ _ _ h => h) (Or.inl ⟨by kernel_rfl, ?_⟩) (by assumption) ?_
  rotate_left
  · intro w hSw; (try dsimp only at hSw); go_simp; (try with_reducible rfl)
  refine Kq.wpAnyT_take (i := 12) (v := ?_) rfl rfl (by kernel_rfl) (by kernel_rfl) (by kernel_rfl) (by kernel_rfl) (fun _ _ _ h => h) (Or.inl ⟨by kernel_rfl, ?_⟩) (by assumption) ?_
  rotate_left
  · intro w hSw; (try dsimp only at hSw); go_simp; (try with_reducible rfl)
  refine Kq.wpAnyT_take (i := 13) (v := ?_) rfl rfl (by kernel_rfl) (by kernel_rfl) (by kernel_rfl) (by kernel_rfl) (fun _ _ _ h => h) (Or.inl ⟨by kernel_rfl, ?_⟩) (by assumption) ?_
  rotate_left
  · intro w hSw; (try dsimp only at hSw); go_simp; (try with_reducible rfl)
  refine Kq.wpAnyT_take (i := 14) (v := ?_) rfl rfl (by kernel_rfl) (by kernel_rfl) (by kernel_rfl) (by kernel_rfl) (fun _ _ _ h => h) (Or.inl ⟨by kernel_rfl, ?_⟩) (by assumption) ?_
  rotate_left
  · intro w hSw; (try dsimp only at hSw); go_simp; (try with_reducible rfl)
  refine Kq.wpAnyT_one (i := 15) (by kernel_rfl) rfl (fun K hK => ?_)
  go_simp
  have hb0 := (Kq.below_alloc w (.cells #[.map none] 125)).drew
  have hr0 : (w.alloc (.cells #[.map none] 125)).drew.heap[w.heap.size]? = some (.cells #[.map none] 125 (0, 0)) := Kq.blk_new w #[.map none] 125 (0, 0)
  have HA : Hid ((w.alloc (.cells #[.map none] 125)).drew.heap[w.heap.size]? = some (.cells #[.map none] 125 (0, 0)) ∧ Below w.heap.size w (w.alloc (.cells #[.map none] 125)).drew ∧ CaB (w.alloc (.cells #[.map none] 125)).drew B (.slice (some ⟨g, 0, none⟩) q cap) g i (.map (some M))) := Lib.hid ⟨hr0, hb0, (hb0.cell (p := ⟨B, 3, none⟩) HBG.out.1).trans c3, (hb0.cell (p := ⟨g, i, none⟩) HBG.out.2).trans hrow⟩
  clear hb0 hr0
  obtain ⟨wa, hwa⟩ : ∃ z, z = (w.alloc (.cells #[.map none] 125)).drew := ⟨_, rfl⟩
  rw [← hwa] at HA ⊢
  clear hwa hS0
  refine hK.out _ _ HA.out.2.2 (fun hS0 => ?_)
  clear hK K
  have f0 := Kq.blk_free HA.out.1 0
  have c0 := Kq.blk_cell HA.out.1 0
  refine Kq.wpAnyT_last (by kernel_rfl) rfl (fun K hK => ?_)
  go_simp
  refine hK.out _ _ ?_
  clear hK K
  refine Kq.wpAnyT_done (by kernel_rfl) ?_ _
  have H2 : Hid ((wa.setCell ⟨w.heap.size, 0, none⟩ (.map (some M))).cell? ⟨w.heap.size, 0, none⟩ = some (.map (some M)) ∧ Below w.heap.size w (wa.setCell ⟨w.heap.size, 0, none⟩ (.map (some M))) ∧ MapL (wa.setCell ⟨w.heap.size, 0, none⟩ (.map (some M))) M L) := Lib.hid (by
    have hk : Kq.Keeps (· = w.heap.size) wa (wa.setCell ⟨w.heap.size, 0, none⟩ (.map (some M))) := Kq.Keeps.setCell _ _ _ rfl
    have hml := HM.out.lt
    refine ⟨Kq.blk_cell (Kq.blk_set HA.out.1 0 _) 0, below_past HA.out.2.1 hk (Nat.le_refl _) (fun k _ e => by have : k = w.heap.size := e; omega), (HM.out.below HA.out.2.1).keeps hk (by omega)⟩)
  obtain ⟨w2, hw2'⟩ : ∃ z, z = wa.setCell ⟨w.heap.size, 0, none⟩ (.map (some M)) := ⟨_, rfl⟩
  rw [← hw2'] at H2
  (try rw [← hw2'])
  have d0 := H2.out.1
  clear hw2' f0 c0 hS0 c2 c3 hrow e0 e0' e1 e1' hw1 hw2 hw3 hw4 hw5 hw7 hi0 hi1 HA
  go_wp2_with fail
  refine (st_sorted sort_ok M L w2 H2.out.2.2 HSM.out).mono ?_
  rintro x w3 ⟨v, rfl, hv, hb3⟩
  have HF : Hid (NewL w.heap.size L v w3 ∧ Below w.heap.size w w3) := Lib.hid (by
    obtain ⟨A', c', e1, e2, e3, e4⟩ := hv
    refine ⟨⟨A', c', e1, e2, e3, fun b off e => ⟨Nat.le_trans H2.out.2.1.size (e4 b off e).1, (e4 b off e).2⟩⟩, H2.out.2.1.trans (hb3.mono H2.out.2.1.size)⟩)
  clear hv hb3 H2 d0
  go_wp2
  go_ret2
  exact ⟨v, by rw [HE.out]; rfl, by rw [HE.out]; exact HF.out.1, HF.out.2⟩
theorem smallP.fit {l : List PairV} (h : smallP l) : Fit l := fun p hp => by have := h.2.2 p hp; omega
/-- a list's root -/
def rootP (l : List PairV) : ByteArray := dgT (topT l.length (digL l))
def rootV (s : StV) (H : Nat) : ByteArray × Int := if (atV s H).2 = 0 then (rootP (atV s H).1, 0) else (⟨#[]⟩, (atV s H).2)
theorem atV_cases (s : StV) (H : Nat) : ((atV s H).2 = 0 ∧ ∃ l ∈ s.blks ++ [[]], (atV s H).1 = l) ∨ atV s H = ([], 3) := by
  unfold atV
  by_cases h : s.first ≤ H ∧ H ≤ s.height
  · rw [if_pos h]
    refine Or.inl ⟨rfl, _, ?_, rfl⟩
    show s.blks.getD (H - s.first) [] ∈ _
    rw [List.getD_eq_getElem?_getD]
    by_cases hi : H - s.first < s.blks.length
    · rw [List.getElem?_eq_getElem hi]
      exact List.mem_append_left _ (List.getElem_mem hi)
    · rw [List.getElem?_eq_none (by omega)]
      simp
  · rw [if_neg h]; exact Or.inr rfl
theorem atV_small {s : StV} (hs : StOk s) (H : Nat) : smallP (atV s H).1 := by
  have h0 : smallP [] := ⟨by simp, List.Pairwise.nil, fun p hp => by cases hp⟩
  rcases atV_cases s H with ⟨_, l, hl, e⟩ | e
  · rw [e]
    rcases List.mem_append.1 hl with hl | hl
    · exact hs.blks l hl
    · rw [List.mem_singleton.1 hl]; exact h0
  · rw [e]; exact h0
set_option maxRecDepth 100000 in
set_option maxHeartbeats 1000000 in
theorem st_root (H : Nat) (hH : H < 18446744073709551616) (h : StP w O B s) (hs : StOk s) (hL : LaidOk w) : Calls Tryz.prog 49 #[.pointer (some ⟨B, 0, none⟩), .int .u64 (H : Int)] w fun x w' => x = .returned (.tuple #[.string (rootV s H).1, .int .i64 (rootV s H).2]) ∧ Below w.heap.size w w' := by
  have HA := Lib.hid (st_at w O B s H hH h hs)
  have HS := Lib.hid (atV_small hs H)
  have HC := Lib.hid (atV_cases s H)
  have HL := Lib.hid hL
  obtain ⟨r, hr⟩ : ∃ r, r = rootV s H := ⟨_, rfl⟩
  rw [← hr]
  have HR := Lib.hid hr
  clear h hs hL hr hH
  go_enter Tryz.func49, Tryz.ntmps49
  go_wp2_with fail
  refine HA.out.mono ?_
  rintro x w1 ⟨v, rfl, ⟨A, cap, rfl, hcap, hps, hnew⟩, hb⟩
  obtain ⟨l, hl⟩ : ∃ l, l = (atV s H).1 := ⟨_, rfl⟩
  rw [← hl] at hcap hps ⊢
  have HB := Lib.hid (And.intro hb (And.intro hcap (And.intro hps hl)))
  rcases HC.out with ⟨e, -⟩ | e
  · have HE : Hid (r = (rootP l, 0)) := Lib.hid (by rw [HR.out]; unfold rootV; rw [if_pos e, hl])
    rw [e]
    clear e hl hcap hps hnew hb HA HC
    go_wp2_with fail
    refine (mk_root l A cap w1 (by have := HS.out.1; rw [← HB.out.2.2.2] at this; omega) (by have := HS.out.fit; rw [← HB.out.2.2.2] at this; exact this) HB.out.2.2.1 (HL.out.later HB.out.1) HB.out.2.1).mono ?_
    rintro x w2 ⟨rfl, hb2⟩
    have HF := Lib.hid (HB.out.1.trans (hb2.mono HB.out.1.size))
    clear hb2
    go_wp2
    go_ret2
    exact ⟨by rw [HE.out]; rfl, HF.out⟩
  · have HE : Hid (r = (⟨#[]⟩, 3)) := Lib.hid (by rw [HR.out]; unfold rootV; rw [e]; rfl)
    rw [e]
    clear e hl hcap hps hnew HA HC
    go_wp2
    go_ret2
    exact ⟨by rw [HE.out]; rfl, HB.out.1⟩
end
end Go.Proofs.YtbjchfcoacmaaaaGreatDoor
