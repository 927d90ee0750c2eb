/- Contract of carrackref06.Get. No condition but that lengths are ints. -/
import Derived.WalkSpells
import Derived.Deep.RegionHeld
import Derived.Test.YtbpgfhcecanikaaGreatRefValQ
namespace Go.Proofs.YtbpgfhcecanikaaGreat
open Go.RowKit
set_option linter.unusedVariables false
theorem fill2_blk' {w : World} {R : Nat} {x y : Value} {t : TypeId} (h : w.heap[R]? = some (.cells #[x, y] t (0, 0))) (g sg : Int) : (fill2 w R g sg).heap[R]? = some (.cells #[.int .u64 g, .int .i64 sg] t (0, 0)) := Kq.blk_set (Kq.blk_set h 0 _) 1 _
set_option maxRecDepth 100000 in
set_option maxHeartbeats 1000000 in
theorem rf_get_1 (a : Int) (s : ByteArray) (w : World) (h : ¬ (64 ≤ a ∧ a ≤ 512)) :
    Calls Tryz.prog 93 #[.int .i64 a, .string s] w fun x w' => x = .returned (.tuple #[.agg #[.int .u64 0, .int .i64 0], .int .i64 1]) ∧ Below w.heap.size w w' := by
  have HD : Hid (decide (64 ≤ a ∧ a ≤ 512) = false) := Lib.hid (decide_eq_false h)
  clear h
  go_enter Tryz.func93, Tryz.ntmps93
  go_wp2_with fail
  refine (rf_fits a _).mono ?_
  rw [HD.out]
  rintro x w1 ⟨rfl, rfl⟩
  go_wp2
  refine bodyPost_ret (v := .tuple #[.agg #[.int .u64 0, .int .i64 0], .int .i64 1]) (by simp [results, Tryz.results93, go_sem]) rfl ?_
  exact ⟨rfl, Kq.below_alloc _ _⟩
set_option maxRecDepth 100000 in
set_option maxHeartbeats 1000000 in
theorem rf_get_6 (a : Int) (s : ByteArray) (w : World) (h : 64 ≤ a ∧ a ≤ 512) (hs : (s.size : Int) ≠ a) :
    Calls Tryz.prog 93 #[.int .i64 a, .string s] w fun x w' => x = .returned (.tuple #[.agg #[.int .u64 0, .int .i64 0], .int .i64 6]) ∧ Below w.heap.size w w' := by
  have HD : Hid (decide (64 ≤ a ∧ a ≤ 512) = true) := Lib.hid (decide_eq_true h)
  have hne : ((s.size : Int) != a) = true := by simpa using hs
  clear h hs
  go_enter Tryz.func93, Tryz.ntmps93
  go_wp2_with fail
  refine (rf_fits a _).mono ?_
  rw [HD.out]
  rintro x w1 ⟨rfl, rfl⟩
  go_wp2
  refine bodyPost_ret (v := .tuple #[.agg #[.int .u64 0, .int .i64 0], .int .i64 6]) (by simp [results, Tryz.results93, go_sem]) rfl ?_
  exact ⟨rfl, Kq.below_alloc _ _⟩
set_option maxRecDepth 100000 in
set_option maxHeartbeats 1000000 in
theorem rf_get_8 (a : Nat) (s : ByteArray) (w : World) (h : 64 ≤ a ∧ a ≤ 512) (hs : s.size = a) (hr : rightB s = false) :
    Calls Tryz.prog 93 #[.int .i64 (a : Int), .string s] w fun x w' => x = .returned (.tuple #[.agg #[.int .u64 0, .int .i64 0], .int .i64 8]) ∧ Below w.heap.size w w' := by
  have HD : Hid (decide (64 ≤ (a : Int) ∧ (a : Int) ≤ 512) = true) := Lib.hid (decide_eq_true (by omega))
  have hne : ((s.size : Int) != (a : Int)) = false := by simp [hs]
  have hne2 : (s.size != a) = false := by simp [hs]
  have HS := Lib.hid (And.intro h hs)
  have HR := Lib.hid hr
  have HX := Lib.hid (Kq.blk_new w #[.int .u64 0, .int .i64 0] 48 (0, 0))
  clear h hs hr
  go_enter Tryz.func93, Tryz.ntmps93
  go_wp2_with fail
  refine (rf_fits a _).mono ?_
  rw [HD.out]
  rintro x w1 ⟨rfl, rfl⟩
  go_wp2_with fail
  refine (ref_right s _ (by have := HS.out; unfold maxLen; omega) (by have := HS.out; omega)).mono ?_
  rw [HR.out]
  rintro x w2 ⟨rfl, b2⟩
  have HB := Lib.hid ((Kq.below_alloc w _).trans (b2.mono (Kq.below_alloc w _).size))
  have hbk := Kq.below_blk b2 HX.out (Kq.blk_lt HX.out)
  have HBK := Lib.hid hbk
  have c0 := Kq.blk_cell hbk 0
  have c1 := Kq.blk_cell hbk 1
  have f0 := Kq.blk_free hbk 0
  have f1 := Kq.blk_free hbk 1
  clear b2 hbk
  go_wp2
  change bodyPost _ _ _ _ _ (fill2 w2 w.heap.size 0 0)
  have p1 := fill2_blk HBK.out 0 0
  have p2 := fill2_keeps w2 w.heap.size 0 0
  generalize fill2 w2 w.heap.size 0 0 = z at *
  have z0 := Kq.blk_cell p1 0
  have z1 := Kq.blk_cell p1 1
  refine bodyPost_ret (v := .tuple #[.agg #[.int .u64 0, .int .i64 0], .int .i64 8]) (by simp [results, Tryz.results93, go_sem, z0, z1]) rfl ?_
  exact ⟨rfl, HB.out.trans (p2.below HB.out.size (fun k _ e => by subst e; exact Nat.le_refl _))⟩
/-- are the bytes ahead of a place 00? -/
def okZ (s : ByteArray) : Nat → Bool
  | 0 => true
  | i + 1 => okZ s i && (decide (i < 10) || (nl s).getD i 0 == 0)
theorem okZ_ten (s : ByteArray) : ∀ i, i ≤ 10 → okZ s i = true
  | 0, _ => rfl
  | i + 1, h => by rw [okZ, okZ_ten s i (by omega), decide_eq_true (show i < 10 by omega)]; rfl
theorem okZ_iff (s : ByteArray) : ∀ n, okZ s n = true ↔ ∀ i, 10 ≤ i → i < n → (nl s).getD i 0 = 0
  | 0 => by simp [okZ]
  | n + 1 => by
    rw [okZ, Bool.and_eq_true, okZ_iff s n]
    constructor
    · rintro ⟨h1, h2⟩ i hi hn
      rcases Nat.lt_or_ge i n with h | h
      · exact h1 i hi h
      · have : i = n := by omega
        subst this
        have : decide (i < 10) = false := decide_eq_false (by omega)
        rw [this, Bool.false_or, beq_iff_eq] at h2
        exact h2
    · intro h
      refine ⟨fun i hi hn => h i hi (by omega), ?_⟩
      by_cases hn : n < 10
      · rw [decide_eq_true hn]; rfl
      · rw [decide_eq_false hn, Bool.false_or, beq_iff_eq]
        exact h n (by omega) (by omega)
theorem at_nl (s : ByteArray) (i : Nat) (h : i < s.size) : (nl s).getD i 0 = s[i].toNat := by
  rw [List.getD_eq_getElem?_getD, List.getElem?_eq_getElem (by rw [nl_length]; exact h)]
  simp [nl]; rfl
theorem gOf_extract (s : ByteArray) : WireM.val (nl (s.extract 1 9)) = gOf s := by rw [nl_extract]; rfl
theorem good_iff {a : Nat} {s : ByteArray} (h : 64 ≤ a ∧ a ≤ 512) (hs : s.size = a) (hr : rightB s = true) : hdGoodB a s = true ↔ ((nl s).getD 0 0 = 72 ∧ 0 < gOf s ∧ sOf s < 2) ∧ okZ s (a - 4) = true := by
  have hp := put_iff a s (by omega) hs hr
  rw [okZ_iff]
  constructor
  · intro hg
    have g := good_of hg
    obtain ⟨q1, q2⟩ := hp.1 g.hp
    exact ⟨⟨q1, g.hg.1, by have := g.hg.2; omega⟩, q2⟩
  · rintro ⟨⟨q1, q2, q3⟩, q4⟩
    exact of_good ⟨h, hs, hr, ⟨q2, by omega⟩, hp.2 ⟨q1, q4⟩⟩
/-- the result, whatever comes out -/
def HdRes (a : Nat) (s : ByteArray) : Value := .tuple #[.agg #[.int .u64 ((if hdGoodB a s then gOf s else 0 : Nat) : Int), .int .i64 ((if hdGoodB a s then sOf s else 0 : Nat) : Int)], .int .i64 (if hdGoodB a s then 0 else hdErr a s)]
theorem res_good {a : Nat} {s : ByteArray} (h : hdGoodB a s = true) : HdRes a s = .tuple #[.agg #[.int .u64 ((gOf s : Nat) : Int), .int .i64 ((sOf s : Nat) : Int)], .int .i64 0] := by
  unfold HdRes; simp only [h, if_true]
theorem res_form {a : Nat} {s : ByteArray} (h : hdGoodB a s = false) (ha : 64 ≤ a ∧ a ≤ 512) (hs : s.size = a) (hr : rightB s = true) : HdRes a s = .tuple #[.agg #[.int .u64 0, .int .i64 0], .int .i64 5] := by
  unfold HdRes; simp only [h, hdErr, ha, hs, hr, and_self, Bool.false_eq_true, if_false, if_true]; rfl
set_option maxRecDepth 100000 in
set_option maxHeartbeats 2000000 in
theorem rf_get_a (a : Nat) (s : ByteArray) (w : World) (h : 64 ≤ a ∧ a ≤ 512) (hs : s.size = a) (hr : rightB s = true) (p0 : (nl s).getD 0 0 ≠ 72) :
    Calls Tryz.prog 93 #[.int .i64 (a : Int), .string s] w fun x w' => x = .returned (HdRes a s) ∧ Below w.heap.size w w' := by
  have HD : Hid (decide (64 ≤ (a : Int) ∧ (a : Int) ≤ 512) = true) := Lib.hid (decide_eq_true (by omega))
  have hne : ((s.size : Int) != (a : Int)) = false := by simp [hs]
  have hne2 : (s.size != a) = false := by simp [hs]
  have i9 : 9 < s.size := by omega
  have i0 : 0 < s.size := by omega
  have b9 : (9 : Int) ≤ (s.size : Int) := by omega
  have b10 : (9 : Int) < (s.size : Int) := by omega
  have b0 : (0 : Int) < (s.size : Int) := by omega
  have HS := Lib.hid (And.intro h hs)
  have HR := Lib.hid hr
  have HG := Lib.hid (good_iff h hs hr)
  have HF := Lib.hid (fun q => res_form (a := a) (s := s) q h hs hr)
  have HV := Lib.hid (fun w : World => gOf_extract s ▸ ref_value (s.extract 1 9) w (by simp; omega))
  have h9 : sOf s = (s[9]'i9).toNat := at_nl s 9 i9
  have h0 : (nl s).getD 0 0 = (s[0]'i0).toNat := at_nl s 0 i0
  have HX := Lib.hid (Kq.blk_new w #[.int .u64 0, .int .i64 0] 48 (0, 0))
  have b24 : IntKind.i64.wrap (((s[9]'i9).toNat : Nat) : Int) = (((s[9]'i9).toNat : Nat) : Int) := IntWalk.i64_in _ (by have := (s[9]'i9).toNat_lt; omega)
  have t0 : ((((s[0]'i0).toNat : Nat) : Int) == 72) = false := by rw [beq_eq_false_iff_ne]; intro e; exact p0 (by omega)
  have HOK : Hid (¬ ((nl s).getD 0 0 = 72 ∧ 0 < gOf s ∧ sOf s < 2)) := Lib.hid (fun q => p0 q.1)
  have H9 := Lib.hid h9
  clear h hs hr h9 h0 p0
  go_enter Tryz.func93, Tryz.ntmps93
  go_wp2_with fail
  refine (rf_fits a _).mono ?_
  rw [HD.out]
  rintro x w1 ⟨rfl, rfl⟩
  go_wp2_with fail
  refine (ref_right s _ (by have := HS.out; unfold maxLen; omega) (by have := HS.out; omega)).mono ?_
  rw [HR.out]
  rintro x w2 ⟨rfl, b2⟩
  have H2 := Lib.hid (And.intro (Kq.below_blk b2 HX.out (Kq.blk_lt HX.out)) ((Kq.below_alloc w _).trans (b2.mono (Kq.below_alloc w _).size)))
  clear b2 hne hne2
  go_wp2
  go_region_held (fun w' => True) (trivial)
    ((go_at_call 113; refine (HV.out _).mono ?_; rintro e z1 ⟨rfl, rfl⟩))
  all_goals
    obtain ⟨z0, hz0⟩ : ∃ z, z = (w2.alloc (.cells #[.int .u64 ((gOf s : Nat) : Int), .int .i64 (((s[9]'i9).toNat : Nat) : Int)] 48)).drew := ⟨_, rfl⟩
    rw [← hz0]
    have H3 : Hid (z0.heap[w.heap.size]? = some (.cells #[.int .u64 0, .int .i64 0] 48 (0, 0)) ∧ z0.heap[w2.heap.size]? = some (.cells #[.int .u64 ((gOf s : Nat) : Int), .int .i64 (((s[9]'i9).toNat : Nat) : Int)] 48 (0, 0)) ∧ w.heap.size ≠ w2.heap.size ∧ Below w.heap.size w z0) :=
      Lib.hid (by rw [hz0]; exact ⟨Kq.below_blk (Kq.below_alloc w2 _).drew H2.out.1 (Kq.blk_lt H2.out.1), Kq.blk_new w2 _ _ _, Nat.ne_of_lt (Kq.blk_lt H2.out.1), H2.out.2.trans ((Kq.below_alloc w2 _).drew.mono H2.out.2.size)⟩)
    clear hz0 H2
    generalize w2.heap.size = Hh at *
    have c0 := Kq.blk_cell H3.out.2.1 0
    have c1 := Kq.blk_cell H3.out.2.1 1
    have hmx : s.size ≤ 512 := by have := HS.out; omega
    have ha4 : (a : Int) ≤ 512 := by have := HS.out; omega
    have ha5 : (64 : Int) ≤ (a : Int) := by have := HS.out; omega
    have HT0 : Hid (okZ s 10 = true) := Lib.hid (okZ_ten s 10 (by omega))
    clear b24
    go_wp2
    clear t0
    go_loop [7, 8] (fun tv i => ∃ j : Nat, 10 ≤ j ∧ j ≤ a - 4 ∧ i = .int .i64 (j : Int) ∧ tv = .bool false) (fun _ i => a - (intOf i).toNat)
    case atStart => exact ⟨10, by omega, by omega, rfl, rfl⟩
    case round =>
      obtain ⟨j, hj0, hj, rfl, rfl⟩ := hrel
      by_cases hlt : j < a - 4
      · have hjs : j < s.size := by have := HS.out; omega
        have hat := at_nl s j hjs
        have HN : Hid (okZ s (j + 1) = (okZ s j && (nl s).getD j 0 == 0)) := Lib.hid (by rw [okZ, decide_eq_false (show ¬ j < 10 by omega), Bool.false_or])
        have dl : decide ((j : Int) < (a : Int) - 4) = true := decide_eq_true (by omega)
        have hji : (j : Int) < (s.size : Int) := by omega
        cases hb : okZ s j with
        | false =>
          rw [hb, Bool.false_and] at HN
          clear hat hb
          go_wp2
          go_round
          case rel => exact ⟨j + 1, by omega, by omega, by go_num, rfl⟩
          case measure => simp [intOf]; omega
        | true =>
          rw [hb, Bool.true_and, hat] at HN
          by_cases hz : s[j].toNat = 0
          · have tz : (((s[j].toNat : Nat) : Int) == 0) = true := by rw [hz]; rfl
            have HN2 : Hid (okZ s (j + 1) = true) := Lib.hid (by rw [HN.out, hz]; rfl)
            clear hat hb hz HN
            go_wp2
            all_goals
              go_round
              case rel => exact ⟨j + 1, by omega, by omega, by go_num, rfl⟩
              case measure => simp [intOf]; omega
          · have tz : (((s[j].toNat : Nat) : Int) == 0) = false := by simpa using hz
            have tz2 : (s[j].toNat == 0) = false := by simpa using hz
            have HN2 : Hid (okZ s (j + 1) = false) := Lib.hid (by rw [HN.out, tz2])
            clear hat hb hz HN tz2
            go_wp2
            all_goals
              go_round
              case rel => exact ⟨j + 1, by omega, by omega, by go_num, rfl⟩
              case measure => simp [intOf]; omega
      · have hk' : j = a - 4 := Nat.le_antisymm hj (Nat.not_lt.1 hlt)
        subst hk'
        have dl : decide (((a - 4 : Nat) : Int) < (a : Int) - 4) = false := decide_eq_false (by omega)
        have dl2 : ¬ ((a - 4 : Nat) : Int) < (a : Int) - 4 := by omega
        have r0 := Kq.blk_cell H3.out.1 0
        have r1 := Kq.blk_cell H3.out.1 1
        have q0 := Kq.blk_free H3.out.1 0
        have q1 := Kq.blk_free H3.out.1 1
        have hne1 : ¬ w.heap.size = Hh := H3.out.2.2.1
        have hne2 : ¬ Hh = w.heap.size := fun e => hne1 e.symm
        cases hb : okZ s (a - 4) with
        | false =>
          have HRES := Lib.hid (HF.out (by rw [Bool.eq_false_iff]; intro g; have := (HG.out.1 g).2; rw [hb] at this; cases this))
          clear hb
          go_wp2
          change bodyPost _ _ _ _ _ (fill2 z0 w.heap.size 0 0)
          have p1 := fill2_blk H3.out.1 0 0
          have p2 := fill2_keeps z0 w.heap.size 0 0
          generalize fill2 z0 w.heap.size 0 0 = z at *
          have z0 := Kq.blk_cell p1 0
          have z1 := Kq.blk_cell p1 1
          refine bodyPost_ret (v := .tuple #[.agg #[.int .u64 0, .int .i64 0], .int .i64 5]) (by simp [results, Tryz.results93, go_sem, z0, z1]) rfl ?_
          exact ⟨by rw [HRES.out], H3.out.2.2.2.trans (p2.below H3.out.2.2.2.size (fun k _ e => by subst e; exact Nat.le_refl _))⟩
        | true =>
          have HRES := Lib.hid (HF.out (by rw [Bool.eq_false_iff]; intro g; exact HOK.out (HG.out.1 g).1))
          clear hb
          go_wp2
          change bodyPost _ _ _ _ _ (fill2 z0 w.heap.size 0 0)
          have p1 := fill2_blk H3.out.1 0 0
          have p2 := fill2_keeps z0 w.heap.size 0 0
          generalize fill2 z0 w.heap.size 0 0 = z at *
          have z0 := Kq.blk_cell p1 0
          have z1 := Kq.blk_cell p1 1
          refine bodyPost_ret (v := .tuple #[.agg #[.int .u64 0, .int .i64 0], .int .i64 5]) (by simp [results, Tryz.results93, go_sem, z0, z1]) rfl ?_
          exact ⟨by rw [HRES.out], H3.out.2.2.2.trans (p2.below H3.out.2.2.2.size (fun k _ e => by subst e; exact Nat.le_refl _))⟩
set_option maxRecDepth 100000 in
set_option maxHeartbeats 2000000 in
theorem rf_get_b (a : Nat) (s : ByteArray) (w : World) (h : 64 ≤ a ∧ a ≤ 512) (hs : s.size = a) (hr : rightB s = true) (p0 : (nl s).getD 0 0 = 72) (p1 : ¬ 0 < gOf s) :
    Calls Tryz.prog 93 #[.int .i64 (a : Int), .string s] w fun x w' => x = .returned (HdRes a s) ∧ Below w.heap.size w w' := by
  have HD : Hid (decide (64 ≤ (a : Int) ∧ (a : Int) ≤ 512) = true) := Lib.hid (decide_eq_true (by omega))
  have hne : ((s.size : Int) != (a : Int)) = false := by simp [hs]
  have hne2 : (s.size != a) = false := by simp [hs]
  have i9 : 9 < s.size := by omega
  have i0 : 0 < s.size := by omega
  have b9 : (9 : Int) ≤ (s.size : Int) := by omega
  have b10 : (9 : Int) < (s.size : Int) := by omega
  have b0 : (0 : Int) < (s.size : Int) := by omega
  have HS := Lib.hid (And.intro h hs)
  have HR := Lib.hid hr
  have HG := Lib.hid (good_iff h hs hr)
  have HF := Lib.hid (fun q => res_form (a := a) (s := s) q h hs hr)
  have HV := Lib.hid (fun w : World => gOf_extract s ▸ ref_value (s.extract 1 9) w (by simp; omega))
  have h9 : sOf s = (s[9]'i9).toNat := at_nl s 9 i9
  have h0 : (nl s).getD 0 0 = (s[0]'i0).toNat := at_nl s 0 i0
  have HX := Lib.hid (Kq.blk_new w #[.int .u64 0, .int .i64 0] 48 (0, 0))
  have b24 : IntKind.i64.wrap (((s[9]'i9).toNat : Nat) : Int) = (((s[9]'i9).toNat : Nat) : Int) := IntWalk.i64_in _ (by have := (s[9]'i9).toNat_lt; omega)
  have t0 : ((((s[0]'i0).toNat : Nat) : Int) == 72) = true := by rw [← h0, p0]; rfl
  have g1 : decide ((0 : Int) < ((gOf s : Nat) : Int)) = false := decide_eq_false (by omega)
  have g2 : decide (0 < gOf s) = false := decide_eq_false (by omega)
  have HOK : Hid (¬ ((nl s).getD 0 0 = 72 ∧ 0 < gOf s ∧ sOf s < 2)) := Lib.hid (fun q => p1 q.2.1)
  have H9 := Lib.hid h9
  clear h hs hr h9 h0 p0 p1
  go_enter Tryz.func93, Tryz.ntmps93
  go_wp2_with fail
  refine (rf_fits a _).mono ?_
  rw [HD.out]
  rintro x w1 ⟨rfl, rfl⟩
  go_wp2_with fail
  refine (ref_right s _ (by have := HS.out; unfold maxLen; omega) (by have := HS.out; omega)).mono ?_
  rw [HR.out]
  rintro x w2 ⟨rfl, b2⟩
  have H2 := Lib.hid (And.intro (Kq.below_blk b2 HX.out (Kq.blk_lt HX.out)) ((Kq.below_alloc w _).trans (b2.mono (Kq.below_alloc w _).size)))
  clear b2 hne hne2
  go_wp2
  go_region_held (fun w' => True) (trivial)
    ((go_at_call 113; refine (HV.out _).mono ?_; rintro e z1 ⟨rfl, rfl⟩))
  all_goals
    obtain ⟨z0, hz0⟩ : ∃ z, z = (w2.alloc (.cells #[.int .u64 ((gOf s : Nat) : Int), .int .i64 (((s[9]'i9).toNat : Nat) : Int)] 48)).drew := ⟨_, rfl⟩
    rw [← hz0]
    have H3 : Hid (z0.heap[w.heap.size]? = some (.cells #[.int .u64 0, .int .i64 0] 48 (0, 0)) ∧ z0.heap[w2.heap.size]? = some (.cells #[.int .u64 ((gOf s : Nat) : Int), .int .i64 (((s[9]'i9).toNat : Nat) : Int)] 48 (0, 0)) ∧ w.heap.size ≠ w2.heap.size ∧ Below w.heap.size w z0) :=
      Lib.hid (by rw [hz0]; exact ⟨Kq.below_blk (Kq.below_alloc w2 _).drew H2.out.1 (Kq.blk_lt H2.out.1), Kq.blk_new w2 _ _ _, Nat.ne_of_lt (Kq.blk_lt H2.out.1), H2.out.2.trans ((Kq.below_alloc w2 _).drew.mono H2.out.2.size)⟩)
    clear hz0 H2
    generalize w2.heap.size = Hh at *
    have c0 := Kq.blk_cell H3.out.2.1 0
    have c1 := Kq.blk_cell H3.out.2.1 1
    have hmx : s.size ≤ 512 := by have := HS.out; omega
    have ha4 : (a : Int) ≤ 512 := by have := HS.out; omega
    have ha5 : (64 : Int) ≤ (a : Int) := by have := HS.out; omega
    have HT0 : Hid (okZ s 10 = true) := Lib.hid (okZ_ten s 10 (by omega))
    clear b24
    go_wp2
    clear t0 g1 g2
    go_loop [7, 8] (fun tv i => ∃ j : Nat, 10 ≤ j ∧ j ≤ a - 4 ∧ i = .int .i64 (j : Int) ∧ tv = .bool false) (fun _ i => a - (intOf i).toNat)
    case atStart => exact ⟨10, by omega, by omega, rfl, rfl⟩
    case round =>
      obtain ⟨j, hj0, hj, rfl, rfl⟩ := hrel
      by_cases hlt : j < a - 4
      · have hjs : j < s.size := by have := HS.out; omega
        have hat := at_nl s j hjs
        have HN : Hid (okZ s (j + 1) = (okZ s j && (nl s).getD j 0 == 0)) := Lib.hid (by rw [okZ, decide_eq_false (show ¬ j < 10 by omega), Bool.false_or])
        have dl : decide ((j : Int) < (a : Int) - 4) = true := decide_eq_true (by omega)
        have hji : (j : Int) < (s.size : Int) := by omega
        cases hb : okZ s j with
        | false =>
          rw [hb, Bool.false_and] at HN
          clear hat hb
          go_wp2
          go_round
          case rel => exact ⟨j + 1, by omega, by omega, by go_num, rfl⟩
          case measure => simp [intOf]; omega
        | true =>
          rw [hb, Bool.true_and, hat] at HN
          by_cases hz : s[j].toNat = 0
          · have tz : (((s[j].toNat : Nat) : Int) == 0) = true := by rw [hz]; rfl
            have HN2 : Hid (okZ s (j + 1) = true) := Lib.hid (by rw [HN.out, hz]; rfl)
            clear hat hb hz HN
            go_wp2
            all_goals
              go_round
              case rel => exact ⟨j + 1, by omega, by omega, by go_num, rfl⟩
              case measure => simp [intOf]; omega
          · have tz : (((s[j].toNat : Nat) : Int) == 0) = false := by simpa using hz
            have tz2 : (s[j].toNat == 0) = false := by simpa using hz
            have HN2 : Hid (okZ s (j + 1) = false) := Lib.hid (by rw [HN.out, tz2])
            clear hat hb hz HN tz2
            go_wp2
            all_goals
              go_round
              case rel => exact ⟨j + 1, by omega, by omega, by go_num, rfl⟩
              case measure => simp [intOf]; omega
      · have hk' : j = a - 4 := Nat.le_antisymm hj (Nat.not_lt.1 hlt)
        subst hk'
        have dl : decide (((a - 4 : Nat) : Int) < (a : Int) - 4) = false := decide_eq_false (by omega)
        have dl2 : ¬ ((a - 4 : Nat) : Int) < (a : Int) - 4 := by omega
        have r0 := Kq.blk_cell H3.out.1 0
        have r1 := Kq.blk_cell H3.out.1 1
        have q0 := Kq.blk_free H3.out.1 0
        have q1 := Kq.blk_free H3.out.1 1
        have hne1 : ¬ w.heap.size = Hh := H3.out.2.2.1
        have hne2 : ¬ Hh = w.heap.size := fun e => hne1 e.symm
        cases hb : okZ s (a - 4) with
        | false =>
          have HRES := Lib.hid (HF.out (by rw [Bool.eq_false_iff]; intro g; have := (HG.out.1 g).2; rw [hb] at this; cases this))
          clear hb
          go_wp2
          change bodyPost _ _ _ _ _ (fill2 z0 w.heap.size 0 0)
          have p1 := fill2_blk H3.out.1 0 0
          have p2 := fill2_keeps z0 w.heap.size 0 0
          generalize fill2 z0 w.heap.size 0 0 = z at *
          have z0 := Kq.blk_cell p1 0
          have z1 := Kq.blk_cell p1 1
          refine bodyPost_ret (v := .tuple #[.agg #[.int .u64 0, .int .i64 0], .int .i64 5]) (by simp [results, Tryz.results93, go_sem, z0, z1]) rfl ?_
          exact ⟨by rw [HRES.out], H3.out.2.2.2.trans (p2.below H3.out.2.2.2.size (fun k _ e => by subst e; exact Nat.le_refl _))⟩
        | true =>
          have HRES := Lib.hid (HF.out (by rw [Bool.eq_false_iff]; intro g; exact HOK.out (HG.out.1 g).1))
          clear hb
          go_wp2
          change bodyPost _ _ _ _ _ (fill2 z0 w.heap.size 0 0)
          have p1 := fill2_blk H3.out.1 0 0
          have p2 := fill2_keeps z0 w.heap.size 0 0
          generalize fill2 z0 w.heap.size 0 0 = z at *
          have z0 := Kq.blk_cell p1 0
          have z1 := Kq.blk_cell p1 1
          refine bodyPost_ret (v := .tuple #[.agg #[.int .u64 0, .int .i64 0], .int .i64 5]) (by simp [results, Tryz.results93, go_sem, z0, z1]) rfl ?_
          exact ⟨by rw [HRES.out], H3.out.2.2.2.trans (p2.below H3.out.2.2.2.size (fun k _ e => by subst e; exact Nat.le_refl _))⟩
set_option maxRecDepth 100000 in
set_option maxHeartbeats 2000000 in
theorem rf_get_c (a : Nat) (s : ByteArray) (w : World) (h : 64 ≤ a ∧ a ≤ 512) (hs : s.size = a) (hr : rightB s = true) (p0 : (nl s).getD 0 0 = 72) (p1 : 0 < gOf s) (p2 : ¬ sOf s < 2) :
    Calls Tryz.prog 93 #[.int .i64 (a : Int), .string s] w fun x w' => x = .returned (HdRes a s) ∧ Below w.heap.size w w' := by
  have HD : Hid (decide (64 ≤ (a : Int) ∧ (a : Int) ≤ 512) = true) := Lib.hid (decide_eq_true (by omega))
  have hne : ((s.size : Int) != (a : Int)) = false := by simp [hs]
  have hne2 : (s.size != a) = false := by simp [hs]
  have i9 : 9 < s.size := by omega
  have i0 : 0 < s.size := by omega
  have b9 : (9 : Int) ≤ (s.size : Int) := by omega
  have b10 : (9 : Int) < (s.size : Int) := by omega
  have b0 : (0 : Int) < (s.size : Int) := by omega
  have HS := Lib.hid (And.intro h hs)
  have HR := Lib.hid hr
  have HG := Lib.hid (good_iff h hs hr)
  have HF := Lib.hid (fun q => res_form (a := a) (s := s) q h hs hr)
  have HV := Lib.hid (fun w : World => gOf_extract s ▸ ref_value (s.extract 1 9) w (by simp; omega))
  have h9 : sOf s = (s[9]'i9).toNat := at_nl s 9 i9
  have h0 : (nl s).getD 0 0 = (s[0]'i0).toNat := at_nl s 0 i0
  have HX := Lib.hid (Kq.blk_new w #[.int .u64 0, .int .i64 0] 48 (0, 0))
  have b24 : IntKind.i64.wrap (((s[9]'i9).toNat : Nat) : Int) = (((s[9]'i9).toNat : Nat) : Int) := IntWalk.i64_in _ (by have := (s[9]'i9).toNat_lt; omega)
  have t0 : ((((s[0]'i0).toNat : Nat) : Int) == 72) = true := by rw [← h0, p0]; rfl
  have g1 : decide ((0 : Int) < ((gOf s : Nat) : Int)) = true := decide_eq_true (by omega)
  have g2 : decide (0 < gOf s) = true := decide_eq_true (by omega)
  have s1 : decide ((((s[9]'i9).toNat : Nat) : Int) < 2) = false := decide_eq_false (by omega)
  have s2 : decide ((s[9]'i9).toNat < 2) = false := decide_eq_false (by omega)
  have HOK : Hid (¬ ((nl s).getD 0 0 = 72 ∧ 0 < gOf s ∧ sOf s < 2)) := Lib.hid (fun q => p2 q.2.2)
  have H9 := Lib.hid h9
  clear h hs hr h9 h0 p0 p1 p2
  go_enter Tryz.func93, Tryz.ntmps93
  go_wp2_with fail
  refine (rf_fits a _).mono ?_
  rw [HD.out]
  rintro x w1 ⟨rfl, rfl⟩
  go_wp2_with fail
  refine (ref_right s _ (by have := HS.out; unfold maxLen; omega) (by have := HS.out; omega)).mono ?_
  rw [HR.out]
  rintro x w2 ⟨rfl, b2⟩
  have H2 := Lib.hid (And.intro (Kq.below_blk b2 HX.out (Kq.blk_lt HX.out)) ((Kq.below_alloc w _).trans (b2.mono (Kq.below_alloc w _).size)))
  clear b2 hne hne2
  go_wp2
  go_region_held (fun w' => True) (trivial)
    ((go_at_call 113; refine (HV.out _).mono ?_; rintro e z1 ⟨rfl, rfl⟩))
  all_goals
    obtain ⟨z0, hz0⟩ : ∃ z, z = (w2.alloc (.cells #[.int .u64 ((gOf s : Nat) : Int), .int .i64 (((s[9]'i9).toNat : Nat) : Int)] 48)).drew := ⟨_, rfl⟩
    rw [← hz0]
    have H3 : Hid (z0.heap[w.heap.size]? = some (.cells #[.int .u64 0, .int .i64 0] 48 (0, 0)) ∧ z0.heap[w2.heap.size]? = some (.cells #[.int .u64 ((gOf s : Nat) : Int), .int .i64 (((s[9]'i9).toNat : Nat) : Int)] 48 (0, 0)) ∧ w.heap.size ≠ w2.heap.size ∧ Below w.heap.size w z0) :=
      Lib.hid (by rw [hz0]; exact ⟨Kq.below_blk (Kq.below_alloc w2 _).drew H2.out.1 (Kq.blk_lt H2.out.1), Kq.blk_new w2 _ _ _, Nat.ne_of_lt (Kq.blk_lt H2.out.1), H2.out.2.trans ((Kq.below_alloc w2 _).drew.mono H2.out.2.size)⟩)
    clear hz0 H2
    generalize w2.heap.size = Hh at *
    have c0 := Kq.blk_cell H3.out.2.1 0
    have c1 := Kq.blk_cell H3.out.2.1 1
    have hmx : s.size ≤ 512 := by have := HS.out; omega
    have ha4 : (a : Int) ≤ 512 := by have := HS.out; omega
    have ha5 : (64 : Int) ≤ (a : Int) := by have := HS.out; omega
    have HT0 : Hid (okZ s 10 = true) := Lib.hid (okZ_ten s 10 (by omega))
    clear b24
    go_wp2
    clear t0 g1 g2 s1 s2
    go_loop [7, 8] (fun tv i => ∃ j : Nat, 10 ≤ j ∧ j ≤ a - 4 ∧ i = .int .i64 (j : Int) ∧ tv = .bool false) (fun _ i => a - (intOf i).toNat)
    case atStart => exact ⟨10, by omega, by omega, rfl, rfl⟩
    case round =>
      obtain ⟨j, hj0, hj, rfl, rfl⟩ := hrel
      by_cases hlt : j < a - 4
      · have hjs : j < s.size := by have := HS.out; omega
        have hat := at_nl s j hjs
        have HN : Hid (okZ s (j + 1) = (okZ s j && (nl s).getD j 0 == 0)) := Lib.hid (by rw [okZ, decide_eq_false (show ¬ j < 10 by omega), Bool.false_or])
        have dl : decide ((j : Int) < (a : Int) - 4) = true := decide_eq_true (by omega)
        have hji : (j : Int) < (s.size : Int) := by omega
        cases hb : okZ s j with
        | false =>
          rw [hb, Bool.false_and] at HN
          clear hat hb
          go_wp2
          go_round
          case rel => exact ⟨j + 1, by omega, by omega, by go_num, rfl⟩
          case measure => simp [intOf]; omega
        | true =>
          rw [hb, Bool.true_and, hat] at HN
          by_cases hz : s[j].toNat = 0
          · have tz : (((s[j].toNat : Nat) : Int) == 0) = true := by rw [hz]; rfl
            have HN2 : Hid (okZ s (j + 1) = true) := Lib.hid (by rw [HN.out, hz]; rfl)
            clear hat hb hz HN
            go_wp2
            all_goals
              go_round
              case rel => exact ⟨j + 1, by omega, by omega, by go_num, rfl⟩
              case measure => simp [intOf]; omega
          · have tz : (((s[j].toNat : Nat) : Int) == 0) = false := by simpa using hz
            have tz2 : (s[j].toNat == 0) = false := by simpa using hz
            have HN2 : Hid (okZ s (j + 1) = false) := Lib.hid (by rw [HN.out, tz2])
            clear hat hb hz HN tz2
            go_wp2
            all_goals
              go_round
              case rel => exact ⟨j + 1, by omega, by omega, by go_num, rfl⟩
              case measure => simp [intOf]; omega
      · have hk' : j = a - 4 := Nat.le_antisymm hj (Nat.not_lt.1 hlt)
        subst hk'
        have dl : decide (((a - 4 : Nat) : Int) < (a : Int) - 4) = false := decide_eq_false (by omega)
        have dl2 : ¬ ((a - 4 : Nat) : Int) < (a : Int) - 4 := by omega
        have r0 := Kq.blk_cell H3.out.1 0
        have r1 := Kq.blk_cell H3.out.1 1
        have q0 := Kq.blk_free H3.out.1 0
        have q1 := Kq.blk_free H3.out.1 1
        have hne1 : ¬ w.heap.size = Hh := H3.out.2.2.1
        have hne2 : ¬ Hh = w.heap.size := fun e => hne1 e.symm
        cases hb : okZ s (a - 4) with
        | false =>
          have HRES := Lib.hid (HF.out (by rw [Bool.eq_false_iff]; intro g; have := (HG.out.1 g).2; rw [hb] at this; cases this))
          clear hb
          go_wp2
          change bodyPost _ _ _ _ _ (fill2 z0 w.heap.size 0 0)
          have p1 := fill2_blk H3.out.1 0 0
          have p2 := fill2_keeps z0 w.heap.size 0 0
          generalize fill2 z0 w.heap.size 0 0 = z at *
          have z0 := Kq.blk_cell p1 0
          have z1 := Kq.blk_cell p1 1
          refine bodyPost_ret (v := .tuple #[.agg #[.int .u64 0, .int .i64 0], .int .i64 5]) (by simp [results, Tryz.results93, go_sem, z0, z1]) rfl ?_
          exact ⟨by rw [HRES.out], H3.out.2.2.2.trans (p2.below H3.out.2.2.2.size (fun k _ e => by subst e; exact Nat.le_refl _))⟩
        | true =>
          have HRES := Lib.hid (HF.out (by rw [Bool.eq_false_iff]; intro g; exact HOK.out (HG.out.1 g).1))
          clear hb
          go_wp2
          change bodyPost _ _ _ _ _ (fill2 z0 w.heap.size 0 0)
          have p1 := fill2_blk H3.out.1 0 0
          have p2 := fill2_keeps z0 w.heap.size 0 0
          generalize fill2 z0 w.heap.size 0 0 = z at *
          have z0 := Kq.blk_cell p1 0
          have z1 := Kq.blk_cell p1 1
          refine bodyPost_ret (v := .tuple #[.agg #[.int .u64 0, .int .i64 0], .int .i64 5]) (by simp [results, Tryz.results93, go_sem, z0, z1]) rfl ?_
          exact ⟨by rw [HRES.out], H3.out.2.2.2.trans (p2.below H3.out.2.2.2.size (fun k _ e => by subst e; exact Nat.le_refl _))⟩
set_option maxRecDepth 100000 in
set_option maxHeartbeats 2000000 in
theorem rf_get_d (a : Nat) (s : ByteArray) (w : World) (h : 64 ≤ a ∧ a ≤ 512) (hs : s.size = a) (hr : rightB s = true) (p0 : (nl s).getD 0 0 = 72) (p1 : 0 < gOf s) (p2 : sOf s < 2) :
    Calls Tryz.prog 93 #[.int .i64 (a : Int), .string s] w fun x w' => x = .returned (HdRes a s) ∧ Below w.heap.size w w' := by
  have HD : Hid (decide (64 ≤ (a : Int) ∧ (a : Int) ≤ 512) = true) := Lib.hid (decide_eq_true (by omega))
  have hne : ((s.size : Int) != (a : Int)) = false := by simp [hs]
  have hne2 : (s.size != a) = false := by simp [hs]
  have i9 : 9 < s.size := by omega
  have i0 : 0 < s.size := by omega
  have b9 : (9 : Int) ≤ (s.size : Int) := by omega
  have b10 : (9 : Int) < (s.size : Int) := by omega
  have b0 : (0 : Int) < (s.size : Int) := by omega
  have HS := Lib.hid (And.intro h hs)
  have HR := Lib.hid hr
  have HG := Lib.hid (good_iff h hs hr)
  have HF := Lib.hid (fun q => res_form (a := a) (s := s) q h hs hr)
  have HV := Lib.hid (fun w : World => gOf_extract s ▸ ref_value (s.extract 1 9) w (by simp; omega))
  have h9 : sOf s = (s[9]'i9).toNat := at_nl s 9 i9
  have h0 : (nl s).getD 0 0 = (s[0]'i0).toNat := at_nl s 0 i0
  have HX := Lib.hid (Kq.blk_new w #[.int .u64 0, .int .i64 0] 48 (0, 0))
  have b24 : IntKind.i64.wrap (((s[9]'i9).toNat : Nat) : Int) = (((s[9]'i9).toNat : Nat) : Int) := IntWalk.i64_in _ (by have := (s[9]'i9).toNat_lt; omega)
  have t0 : ((((s[0]'i0).toNat : Nat) : Int) == 72) = true := by rw [← h0, p0]; rfl
  have g1 : decide ((0 : Int) < ((gOf s : Nat) : Int)) = true := decide_eq_true (by omega)
  have g2 : decide (0 < gOf s) = true := decide_eq_true (by omega)
  have s1 : decide ((((s[9]'i9).toNat : Nat) : Int) < 2) = true := decide_eq_true (by omega)
  have s2 : decide ((s[9]'i9).toNat < 2) = true := decide_eq_true (by omega)
  have HOK : Hid ((nl s).getD 0 0 = 72 ∧ 0 < gOf s ∧ sOf s < 2) := Lib.hid (⟨p0, p1, p2⟩)
  have H9 := Lib.hid h9
  clear h hs hr h9 h0 p0 p1 p2
  go_enter Tryz.func93, Tryz.ntmps93
  go_wp2_with fail
  refine (rf_fits a _).mono ?_
  rw [HD.out]
  rintro x w1 ⟨rfl, rfl⟩
  go_wp2_with fail
  refine (ref_right s _ (by have := HS.out; unfold maxLen; omega) (by have := HS.out; omega)).mono ?_
  rw [HR.out]
  rintro x w2 ⟨rfl, b2⟩
  have H2 := Lib.hid (And.intro (Kq.below_blk b2 HX.out (Kq.blk_lt HX.out)) ((Kq.below_alloc w _).trans (b2.mono (Kq.below_alloc w _).size)))
  clear b2 hne hne2
  go_wp2
  go_region_held (fun w' => True) (trivial)
    ((go_at_call 113; refine (HV.out _).mono ?_; rintro e z1 ⟨rfl, rfl⟩))
  all_goals
    obtain ⟨z0, hz0⟩ : ∃ z, z = (w2.alloc (.cells #[.int .u64 ((gOf s : Nat) : Int), .int .i64 (((s[9]'i9).toNat : Nat) : Int)] 48)).drew := ⟨_, rfl⟩
    rw [← hz0]
    have H3 : Hid (z0.heap[w.heap.size]? = some (.cells #[.int .u64 0, .int .i64 0] 48 (0, 0)) ∧ z0.heap[w2.heap.size]? = some (.cells #[.int .u64 ((gOf s : Nat) : Int), .int .i64 (((s[9]'i9).toNat : Nat) : Int)] 48 (0, 0)) ∧ w.heap.size ≠ w2.heap.size ∧ Below w.heap.size w z0) :=
      Lib.hid (by rw [hz0]; exact ⟨Kq.below_blk (Kq.below_alloc w2 _).drew H2.out.1 (Kq.blk_lt H2.out.1), Kq.blk_new w2 _ _ _, Nat.ne_of_lt (Kq.blk_lt H2.out.1), H2.out.2.trans ((Kq.below_alloc w2 _).drew.mono H2.out.2.size)⟩)
    clear hz0 H2
    generalize w2.heap.size = Hh at *
    have c0 := Kq.blk_cell H3.out.2.1 0
    have c1 := Kq.blk_cell H3.out.2.1 1
    have hmx : s.size ≤ 512 := by have := HS.out; omega
    have ha4 : (a : Int) ≤ 512 := by have := HS.out; omega
    have ha5 : (64 : Int) ≤ (a : Int) := by have := HS.out; omega
    have HT0 : Hid (okZ s 10 = true) := Lib.hid (okZ_ten s 10 (by omega))
    clear b24
    go_wp2
    clear t0 g1 g2 s1 s2
    go_loop [7, 8] (fun tv i => ∃ j : Nat, 10 ≤ j ∧ j ≤ a - 4 ∧ i = .int .i64 (j : Int) ∧ tv = .bool (okZ s j)) (fun _ i => a - (intOf i).toNat)
    case atStart => exact ⟨10, by omega, by omega, rfl, by rw [HT0.out]⟩
    case round =>
      obtain ⟨j, hj0, hj, rfl, rfl⟩ := hrel
      by_cases hlt : j < a - 4
      · have hjs : j < s.size := by have := HS.out; omega
        have hat := at_nl s j hjs
        have HN : Hid (okZ s (j + 1) = (okZ s j && (nl s).getD j 0 == 0)) := Lib.hid (by rw [okZ, decide_eq_false (show ¬ j < 10 by omega), Bool.false_or])
        have dl : decide ((j : Int) < (a : Int) - 4) = true := decide_eq_true (by omega)
        have hji : (j : Int) < (s.size : Int) := by omega
        cases hb : okZ s j with
        | false =>
          rw [hb, Bool.false_and] at HN
          clear hat hb
          go_wp2
          go_round
          case rel => exact ⟨j + 1, by omega, by omega, by go_num, by rw [HN.out]⟩
          case measure => simp [intOf]; omega
        | true =>
          rw [hb, Bool.true_and, hat] at HN
          by_cases hz : s[j].toNat = 0
          · have tz : (((s[j].toNat : Nat) : Int) == 0) = true := by rw [hz]; rfl
            have HN2 : Hid (okZ s (j + 1) = true) := Lib.hid (by rw [HN.out, hz]; rfl)
            clear hat hb hz HN
            go_wp2
            all_goals
              go_round
              case rel => exact ⟨j + 1, by omega, by omega, by go_num, by rw [HN2.out]⟩
              case measure => simp [intOf]; omega
          · have tz : (((s[j].toNat : Nat) : Int) == 0) = false := by simpa using hz
            have tz2 : (s[j].toNat == 0) = false := by simpa using hz
            have HN2 : Hid (okZ s (j + 1) = false) := Lib.hid (by rw [HN.out, tz2])
            clear hat hb hz HN tz2
            go_wp2
            all_goals
              go_round
              case rel => exact ⟨j + 1, by omega, by omega, by go_num, by rw [HN2.out]⟩
              case measure => simp [intOf]; omega
      · have hk' : j = a - 4 := Nat.le_antisymm hj (Nat.not_lt.1 hlt)
        subst hk'
        have dl : decide (((a - 4 : Nat) : Int) < (a : Int) - 4) = false := decide_eq_false (by omega)
        have dl2 : ¬ ((a - 4 : Nat) : Int) < (a : Int) - 4 := by omega
        have r0 := Kq.blk_cell H3.out.1 0
        have r1 := Kq.blk_cell H3.out.1 1
        have q0 := Kq.blk_free H3.out.1 0
        have q1 := Kq.blk_free H3.out.1 1
        have hne1 : ¬ w.heap.size = Hh := H3.out.2.2.1
        have hne2 : ¬ Hh = w.heap.size := fun e => hne1 e.symm
        cases hb : okZ s (a - 4) with
        | false =>
          have HRES := Lib.hid (HF.out (by rw [Bool.eq_false_iff]; intro g; have := (HG.out.1 g).2; rw [hb] at this; cases this))
          clear hb
          go_wp2
          change bodyPost _ _ _ _ _ (fill2 z0 w.heap.size 0 0)
          have p1 := fill2_blk H3.out.1 0 0
          have p2 := fill2_keeps z0 w.heap.size 0 0
          generalize fill2 z0 w.heap.size 0 0 = z at *
          have z0 := Kq.blk_cell p1 0
          have z1 := Kq.blk_cell p1 1
          refine bodyPost_ret (v := .tuple #[.agg #[.int .u64 0, .int .i64 0], .int .i64 5]) (by simp [results, Tryz.results93, go_sem, z0, z1]) rfl ?_
          exact ⟨by rw [HRES.out], H3.out.2.2.2.trans (p2.below H3.out.2.2.2.size (fun k _ e => by subst e; exact Nat.le_refl _))⟩
        | true =>
          have HRES : Hid (HdRes a s = .tuple #[.agg #[.int .u64 ((gOf s : Nat) : Int), .int .i64 (((s[9]'i9).toNat : Nat) : Int)], .int .i64 0]) := Lib.hid (by rw [← H9.out]; exact res_good (HG.out.2 ⟨HOK.out, hb⟩))
          clear hb
          go_wp2
          change bodyPost _ _ _ _ _ (fill2 z0 w.heap.size ((gOf s : Nat) : Int) (((s[9]'i9).toNat : Nat) : Int))
          have p1 := fill2_blk H3.out.1 ((gOf s : Nat) : Int) (((s[9]'i9).toNat : Nat) : Int)
          have p2 := fill2_keeps z0 w.heap.size ((gOf s : Nat) : Int) (((s[9]'i9).toNat : Nat) : Int)
          generalize fill2 z0 w.heap.size ((gOf s : Nat) : Int) (((s[9]'i9).toNat : Nat) : Int) = z at *
          have z0 := Kq.blk_cell p1 0
          have z1 := Kq.blk_cell p1 1
          refine bodyPost_ret (v := .tuple #[.agg #[.int .u64 ((gOf s : Nat) : Int), .int .i64 (((s[9]'i9).toNat : Nat) : Int)], .int .i64 0]) (by simp [results, Tryz.results93, go_sem, z0, z1]) rfl ?_
          exact ⟨by rw [HRES.out], H3.out.2.2.2.trans (p2.below H3.out.2.2.2.size (fun k _ e => by subst e; exact Nat.le_refl _))⟩
theorem rf_get (a : Int) (s : ByteArray) (w : World) :
    Calls Tryz.prog 93 #[.int .i64 a, .string s] w fun x w' => x = .returned (HdRes a.toNat s) ∧ Below w.heap.size w w' := by
  by_cases h0 : 64 ≤ a ∧ a ≤ 512
  · obtain ⟨n, rfl⟩ := Int.eq_ofNat_of_zero_le (show 0 ≤ a by omega)
    rw [Int.toNat_natCast]
    have hn : 64 ≤ n ∧ n ≤ 512 := by omega
    by_cases h1 : s.size = n
    · cases h2 : rightB s with
      | false =>
        have hb : hdGoodB n s = false := by rw [Bool.eq_false_iff]; intro h; have := (good_of h).hr; rw [h2] at this; cases this
        have e : HdRes n s = .tuple #[.agg #[.int .u64 0, .int .i64 0], .int .i64 8] := by unfold HdRes; simp only [hb, hdErr, hn, h1, h2, Bool.false_eq_true, if_false, if_true, and_self]; rfl
        rw [e]
        exact rf_get_8 n s w hn h1 h2
      | true =>
        by_cases p0 : (nl s).getD 0 0 = 72
        · by_cases p1 : 0 < gOf s
          · by_cases p2 : sOf s < 2
            · exact rf_get_d n s w hn h1 h2 p0 p1 p2
            · exact rf_get_c n s w hn h1 h2 p0 p1 p2
          · exact rf_get_b n s w hn h1 h2 p0 p1
        · exact rf_get_a n s w hn h1 h2 p0
    · have hb : hdGoodB n s = false := by rw [Bool.eq_false_iff]; intro h; exact h1 (good_of h).hs
      have e : HdRes n s = .tuple #[.agg #[.int .u64 0, .int .i64 0], .int .i64 6] := by unfold HdRes; simp only [hb, hdErr, hn, h1, Bool.false_eq_true, if_false, if_true, and_self]; rfl
      rw [e]
      exact rf_get_6 n s w h0 (by omega)
  · have hb : hdGoodB a.toNat s = false := by rw [Bool.eq_false_iff]; intro h; have := (good_of h).ha; omega
    have hn : ¬ (64 ≤ a.toNat ∧ a.toNat ≤ 512) := by omega
    have e : HdRes a.toNat s = .tuple #[.agg #[.int .u64 0, .int .i64 0], .int .i64 1] := by unfold HdRes; simp only [hb, hdErr, hn, Bool.false_eq_true, if_false]; rfl
    rw [e]
    exact rf_get_1 a s w h0
end Go.Proofs.YtbpgfhcecanikaaGreat
