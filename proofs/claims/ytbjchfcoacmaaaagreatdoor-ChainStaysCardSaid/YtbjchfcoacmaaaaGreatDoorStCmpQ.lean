/- cmp.Compare at texts; the test of a store's sort. No condition. -/
import Derived.WalkSpells
import Derived.Outline
import Derived.Deep.QuietTactic
import Derived.BigQuiet
import Derived.Shelf.SlSortCmp.WholeK
import Derived.Test.YtbjchfcoacmaaaaGreatDoorStRPairsQ
namespace Go.Proofs.YtbjchfcoacmaaaaGreatDoor
open Go.RowKit Go.Sort
set_option linter.unusedVariables false
set_option maxRecDepth 100000 in
set_option maxHeartbeats 1000000 in
theorem st_isNaN (s : ByteArray) (w : World) : Calls Tryz.prog 155 #[.string s] w fun e w' => e = .returned (.bool false) ∧ w' = w := by
  have e1 : (s.toList != s.toList) = false := by simp
  go_enter Tryz.func155, Tryz.ntmps155
  go_wp2
  go_ret
  exact ⟨rfl, rfl⟩
def cmpT (a b : ByteArray) : Int := if ltT a b = true then -1 else if ltT b a = true then 1 else 0
theorem gt_eqS (a b : List UInt8) : (!Op.bytesLess a b && !(a == b)) = Op.bytesLess b a := by
  rw [less_not a b]
  cases h : Op.bytesLess b a with
  | false =>
    cases e : b == a with
    | false => rfl
    | true =>
      have h2 : b = a := by simpa using e
      subst h2
      simp
  | true =>
    have hn : (a == b) = false := by
      rw [beq_eq_false_iff_ne]
      intro e
      subst e
      rw [bl_irr] at h
      cases h
    rw [hn]; rfl
set_option maxRecDepth 100000 in
set_option maxHeartbeats 1000000 in
theorem st_cmp (a b : ByteArray) (w : World) : Calls Tryz.prog 113 #[.string a, .string b] w fun e w' => e = .returned (.int .i64 (cmpT a b)) ∧ w' = w := by
  have HA := Lib.hid (st_isNaN a w)
  have HB := Lib.hid (st_isNaN b w)
  have hg := gt_eqS a.toList b.toList
  obtain ⟨r, hr⟩ : ∃ r, r = cmpT a b := ⟨_, rfl⟩
  rw [← hr]
  have hg1 : ∀ B C, Op.bytesLess a.toList b.toList = B → Op.bytesLess b.toList a.toList = C → r = if B = true then -1 else if C = true then 1 else 0 := fun B C h1 h2 => by rw [hr]; unfold cmpT ltT; rw [h1, h2]
  obtain ⟨B, hB⟩ : ∃ B, Op.bytesLess a.toList b.toList = B := ⟨_, rfl⟩
  obtain ⟨C, hC⟩ : ∃ C, Op.bytesLess b.toList a.toList = C := ⟨_, rfl⟩
  obtain ⟨E, hE⟩ : ∃ E, (a.toList == b.toList) = E := ⟨_, rfl⟩
  have HR := Lib.hid (hg1 B C hB hC)
  rw [hB, hC, hE] at hg
  clear hr hg1 hC
  cases B <;> cases E
  all_goals
    have HC : Hid (_ = C) := Lib.hid hg
    clear hg
    go_enter Tryz.func113, Tryz.ntmps113
    go_wp2_with fail
    refine HA.out.mono ?_
    rintro x w1 ⟨rfl, rfl⟩
    go_wp2_with fail
    refine HB.out.mono ?_
    rintro x w2 ⟨rfl, rfl⟩
    go_wp2
    go_ret
    exact ⟨by rw [HR.out, ← HC.out]; rfl, rfl⟩
def encPr (x : PairV) : List Value := [.string x.1, .string x.2]
set_option maxRecDepth 100000 in
set_option maxHeartbeats 1000000 in
theorem st_clo (x y : PairV) (W : World) : Calls Tryz.prog 112 #[.agg #[.string x.1, .string x.2], .agg #[.string y.1, .string y.2]] W fun e w' => e = .returned (.int .i64 (cmpT x.1 y.1)) ∧ ∃ q os', w' = grow (W.drewN q) os' := by
  have HC := Lib.hid (fun w => st_cmp x.1 y.1 w)
  obtain ⟨r, hr⟩ : ∃ r, r = cmpT x.1 y.1 := ⟨_, rfl⟩
  rw [← hr] at HC ⊢
  clear hr
  obtain ⟨a, b⟩ := x
  obtain ⟨c, d⟩ := y
  go_enter Tryz.func112, Tryz.ntmps112
  go_wp2_with fail
  refine (HC.out _).mono ?_
  rintro x w1 ⟨rfl, rfl⟩
  go_wp2
  go_ret
  exact ⟨rfl, 0, _, by rw [alloc_eq_grow, alloc_eq_grow, grow_grow]; rfl⟩
theorem lt_cmp (x y : PairV) : ltOf (fun x y : PairV => cmpT x.1 y.1) x y = ltT x.1 y.1 := by
  unfold ltOf cmpT
  cases h1 : ltT x.1 y.1 with
  | true => simp [h1]
  | false => cases h2 : ltT y.1 x.1 <;> simp [h1, h2]
theorem st_swo : SWO (ltOf fun x y : PairV => cmpT x.1 y.1) where
  irrefl x := by rw [lt_cmp]; exact lt_irr _
  trans x y z h1 h2 := by rw [lt_cmp] at *; exact lt_trans h1 h2
  ntrans x y z h1 h2 := by
    rw [lt_cmp] at *
    cases h : ltT x.1 z.1 with
    | false => rfl
    | true =>
      by_cases e : x.1 = y.1
      · rw [e] at h; rw [h] at h2; cases h2
      · have h3 := lt_tri h1 e
        rw [lt_trans h3 h] at h2; cases h2
end Go.Proofs.YtbjchfcoacmaaaaGreatDoor
