/- Order of keys; contract of merkle.Check. Condition: few pairs. -/
import Derived.WalkSpells
import Derived.WalkLawsBesides
import Derived.Outline
import Derived.Deep.QuietTactic
import Derived.BigQuiet
import Derived.Test.YtcknhnbckbocjaaDoorMkBQ
namespace Go.Proofs.YtcknhnbckbocjaaDoor
open Go.RowKit
set_option linter.unusedVariables false
def ltT (a b : ByteArray) : Bool := Op.bytesLess a.toList b.toList
theorem less_not : ∀ x y : List UInt8, (!Op.bytesLess x y) = (Op.bytesLess y x || y == x)
  | [], [] => rfl
  | [], b :: y => by simp [Op.bytesLess]
  | a :: x, [] => by simp [Op.bytesLess]
  | a :: x, b :: y => by
    have ih := less_not x y
    simp only [Op.bytesLess]
    by_cases h1 : a < b
    · have h2 : ¬ b < a := fun h => by have := UInt8.lt_iff_toNat_lt.1 h1; have := UInt8.lt_iff_toNat_lt.1 h; omega
      have h3 : (b == a) = false := by rw [beq_eq_false_iff_ne]; rintro rfl; exact h2 h1
      simp [h1, h2, h3]
    · by_cases h2 : b < a
      · have h3 : (a == b) = false := by rw [beq_eq_false_iff_ne]; rintro rfl; exact h1 h2
        simp [h1, h2, h3]
      · have h3 : a = b := UInt8.toNat_inj.1 (by have n1 : ¬ a.toNat < b.toNat := fun h => h1 (UInt8.lt_iff_toNat_lt.2 h); have n2 : ¬ b.toNat < a.toNat := fun h => h2 (UInt8.lt_iff_toNat_lt.2 h); omega)
        subst h3
        simp only [h1, decide_false, Bool.false_or, beq_self_eq_true, Bool.true_and]
        rw [ih]
        simp
def badB (p : PairV) : Bool := decide (p.1.size = 0 ∨ 16 < p.1.size ∨ 64 < p.2.size)
def ordB (l : List PairV) : Bool := (List.range (l.length - 1)).all fun i => ltT (l.getD i (⟨#[]⟩, ⟨#[]⟩)).1 (l.getD (i + 1) (⟨#[]⟩, ⟨#[]⟩)).1
/-- what Check tells, of few pairs -/
def chkE (l : List PairV) : Int := if l.any badB then 1 else if ordB l then 0 else 15
theorem chk_bad {l : List PairV} {j : Nat} (h : j < l.length) (hb : badB l[j] = true) : chkE l = 1 := by
  unfold chkE
  rw [if_pos (List.any_eq_true.2 ⟨l[j], List.getElem_mem _, hb⟩)]
theorem any_not {l : List PairV} (h : ∀ i (hi : i < l.length), badB l[i] = false) : l.any badB = false := by
  rw [List.any_eq_false]
  intro p hp
  obtain ⟨i, hi, rfl⟩ := List.getElem_of_mem hp
  rw [h i hi]; decide
theorem getD_at {l : List PairV} {i : Nat} (h : i < l.length) : l.getD i (⟨#[]⟩, ⟨#[]⟩) = l[i] := by
  rw [List.getD_eq_getElem?_getD, List.getElem?_eq_getElem h]; rfl
theorem chk_order {l : List PairV} {j : Nat} (hg : ∀ i (hi : i < l.length), badB l[i] = false) (h : j + 1 < l.length) (hb : ltT l[j].1 l[j + 1].1 = false) : chkE l = 15 := by
  unfold chkE
  rw [any_not hg, if_neg (by decide), if_neg]
  intro ho
  have := List.all_eq_true.1 ho j (List.mem_range.2 (by omega))
  rw [getD_at (by omega), getD_at h, hb] at this
  cases this
theorem chk_ok {l : List PairV} (hg : ∀ i (hi : i < l.length), badB l[i] = false) (h : ∀ i (hi : i + 1 < l.length), ltT l[i].1 l[i + 1].1 = true) : chkE l = 0 := by
  unfold chkE
  rw [any_not hg, if_neg (by decide), if_pos]
  refine List.all_eq_true.2 fun i hi => ?_
  have hi' := List.mem_range.1 hi
  rw [getD_at (by omega), getD_at (by omega)]
  exact h i (by omega)
theorem chk_small {l : List PairV} (h : chkE l = 0) : ∀ p ∈ l, 0 < p.1.size ∧ p.1.size ≤ 16 ∧ p.2.size ≤ 64 := by
  intro p hp
  unfold chkE at h
  by_cases hb : l.any badB = true
  · rw [if_pos hb] at h; cases h
  · have := List.any_eq_false.1 (by simpa using hb) p hp
    unfold badB at this
    simp only [decide_eq_true_eq, not_or] at this
    omega
theorem nonempty_of {k : ByteArray} (h : ¬ k.size = 0) : k.toList.isEmpty = false := by
  rw [List.isEmpty_eq_false_iff, Lib.toList_data]
  intro e
  apply h
  have h2 : k.data.toList.length = 0 := by rw [e]; rfl
  rw [Array.length_toList] at h2
  exact h2
set_option maxRecDepth 100000 in
set_option maxHeartbeats 4000000 in
theorem mk_checkN (l : List PairV) (A : Option Addr) (cap : Nat) (w : World) (hA : PsAt w A l) (hl : l.length ≤ 1000) :
    Calls Tryd.prog 25 #[.slice A l.length cap] w fun x w' => x = .returned (.int .i64 (chkE l)) ∧ Below w.heap.size w w' := by
  have HA := Lib.hid hA
  have HL := Lib.hid hl
  have d1 : decide ((4096 : Int) < (l.length : Int)) = false := decide_eq_false (by omega)
  have d2 : decide (4096 < l.length) = false := decide_eq_false (by omega)
  clear hA hl
  go_enter Tryd.func25, Tryd.ntmps25
  go_wp2
  go_loopw [11] (fun i wr => ∃ j : Nat, j ≤ l.length ∧ i = .int .i64 (j : Int) ∧ (∀ i (hi : i < l.length), i < j → badB l[i] = false) ∧ Below w.heap.size w wr) (fun i _ => l.length - (intOf i).toNat)
  case atStart => exact ⟨0, by omega, rfl, fun i _ hi => absurd hi (Nat.not_lt_zero _), Below.refl _ _⟩
  case round =>
    obtain ⟨j, hj, rfl, hup, hbl⟩ := hrel
    have HUP := Lib.hid (And.intro hup hbl)
    have hl40 := HL.out
    by_cases hlt : j < l.length
    · obtain ⟨b, off, rfl, hb, c0, c1⟩ := (HA.out.below hbl) j hlt
      obtain ⟨p, hp⟩ : ∃ p, p = l[j] := ⟨_, rfl⟩
      rw [← hp] at c0 c1
      have HPJ := Lib.hid hp
      have HLT := Lib.hid hlt
      have hi0 : (j : Int) < (l.length : Int) := by omega
      clear hup hbl hb hp
      obtain ⟨k, v⟩ := p
      simp only at c0 c1
      by_cases hbad : k.size = 0 ∨ 16 < k.size ∨ 64 < v.size
      · have HE : Hid (chkE l = 1) := Lib.hid (chk_bad HLT.out (by rw [← HPJ.out]; exact decide_eq_true hbad))
        have HB : Hid (Below w.heap.size w (wr.alloc (.cells #[.string k, .string v] 59))) := Lib.hid (HUP.out.2.trans ((Kq.below_alloc _ _).mono HUP.out.2.size))
        by_cases hz : k.size = 0
        · obtain rfl : k = ⟨#[]⟩ := by
            apply nl_inj
            rw [List.eq_nil_of_length_eq_zero (show (nl k).length = 0 by rw [nl_length]; exact hz)]; rfl
          clear hbad hz
          go_wp2
          go_ret
          exact ⟨by rw [HE.out]; rfl, HB.out⟩
        · have hk1 : k.toList.isEmpty = false := nonempty_of hz
          have hbad' := hbad.resolve_left hz
          by_cases h16 : 16 < k.size
          · have t1 : decide ((16 : Int) < (k.size : Int)) = true := decide_eq_true (by omega)
            have t2 : decide (16 < k.size) = true := decide_eq_true h16
            clear hbad hbad' hz h16
            go_wp2
            go_ret
            exact ⟨by rw [HE.out]; rfl, HB.out⟩
          · have t1 : decide ((16 : Int) < (k.size : Int)) = false := decide_eq_false (by omega)
            have t2 : decide (16 < k.size) = false := decide_eq_false h16
            have h64 := hbad'.resolve_left h16
            have t3 : decide ((64 : Int) < (v.size : Int)) = true := decide_eq_true (by omega)
            have t4 : decide (64 < v.size) = true := decide_eq_true h64
            clear hbad hbad' hz h16 h64
            go_wp2
            go_ret
            exact ⟨by rw [HE.out]; rfl, HB.out⟩
      · have HG : Hid (badB (l[j]'HLT.out) = false) := Lib.hid (by rw [← HPJ.out]; exact decide_eq_false hbad)
        have HB : Hid (Below w.heap.size w (wr.alloc (.cells #[.string k, .string v] 59))) := Lib.hid (HUP.out.2.trans ((Kq.below_alloc _ _).mono HUP.out.2.size))
        have hz : ¬ k.size = 0 := fun h => hbad (Or.inl h)
        have h16 : ¬ 16 < k.size := fun h => hbad (Or.inr (Or.inl h))
        have h64 : ¬ 64 < v.size := fun h => hbad (Or.inr (Or.inr h))
        have hk1 : k.toList.isEmpty = false := nonempty_of hz
        have t1 : decide ((16 : Int) < (k.size : Int)) = false := decide_eq_false (by omega)
        have t2 : decide (16 < k.size) = false := decide_eq_false h16
        have t3 : decide ((64 : Int) < (v.size : Int)) = false := decide_eq_false (by omega)
        have t4 : decide (64 < v.size) = false := decide_eq_false h64
        clear hbad hz h16 h64
        go_wp2
        go_roundw
        case rel =>
          refine ⟨j + 1, HLT.out, by go_num, fun i hi h => ?_, HB.out⟩
          rcases Nat.lt_or_ge i j with h' | h'
          · exact HUP.out.1 i hi h'
          · have : i = j := by omega
            subst this
            exact HG.out
        case measure => have := HLT.out; simp [intOf]; omega
    · obtain rfl : j = l.length := by omega
      have HALL : Hid (∀ i (hi : i < l.length), badB l[i] = false) := Lib.hid (fun i hi => HUP.out.1 i hi hi)
      have HB1 := Lib.hid hbl
      clear HUP hup hbl
      go_wp2
      obtain ⟨wo, rfl⟩ : ∃ wo : World, wo = wr := ⟨_, rfl⟩
      go_loopw [5] (fun i wr => ∃ j : Nat, 1 ≤ j ∧ i = .int .i64 (j : Int) ∧ j ≤ l.length + 1 ∧ (∀ i (hi : i + 1 < l.length), i + 1 < j → ltT l[i].1 l[i + 1].1 = true) ∧ Below w.heap.size w wr) (fun i _ => l.length + 1 - (intOf i).toNat)
      case atStart => exact ⟨1, by omega, rfl, by omega, fun i _ hi => absurd hi (by omega), HB1.out⟩
      case round =>
        obtain ⟨m, hm1, rfl, hm, hup, hbl⟩ := hrel
        have HUP := Lib.hid (And.intro hup hbl)
        by_cases hlt2 : m < l.length
        · obtain ⟨b, off, rfl, hb, c0, -⟩ := (HA.out.below hbl) (m - 1) (by omega)
          obtain ⟨b2, off2, he, hb2, e0, -⟩ := (HA.out.below hbl) m hlt2
          simp only [Option.some.injEq, Addr.mk.injEq] at he
          obtain ⟨rfl, rfl, -⟩ := he
          obtain ⟨j, hj⟩ : ∃ j, j = m - 1 := ⟨_, rfl⟩
          obtain rfl : m = j + 1 := by omega
          clear hj
          have hjl : j < l.length := by omega
          have hk0 : l[j + 1 - 1].1 = (l[j]'hjl).1 := by simp
          rw [hk0, show j + 1 - 1 = j by omega] at c0
          obtain ⟨k0, hk0'⟩ : ∃ k, k = (l[j]'hjl).1 := ⟨_, rfl⟩
          obtain ⟨k1, hk1'⟩ : ∃ k, k = (l[j + 1]'hlt2).1 := ⟨_, rfl⟩
          rw [← hk0'] at c0
          rw [← hk1'] at e0
          have HK := Lib.hid (And.intro hk0' hk1')
          have HLT2 := Lib.hid hlt2
          have hw1 : IntKind.i64.wrap (((j + 1 : Nat) : Int) - 1) = (j : Int) := by rw [IntWalk.i64_in _ (by omega)]; omega
          have hi0 : ((j + 1 : Nat) : Int) < (l.length : Int) := by omega
          have hi1 : (j : Int) < (l.length : Int) := by omega
          have HBL := Lib.hid hbl
          clear hup hbl hb hb2 hk0 hm1 hk0' hk1'
          obtain ⟨m, hm'⟩ : ∃ m, m = j + 1 := ⟨_, rfl⟩
          rw [← hm'] at hw1 hi0 e0 ⊢
          have HM := Lib.hid hm'
          have hmb : m ≤ 1000 := by omega
          clear hm'
          by_cases hord : Op.bytesLess k0.toList k1.toList = true
          · go_wp2
            go_quiet (fail)
            generalize hwq : wr.drewN nq = wq
            have HQ : Hid (Below w.heap.size w wq) := Lib.hid (by rw [← hwq]; exact below_drewN HBL.out nq)
            clear hwq c0 e0 hw1 hi0 hi1
            go_wp2
            go_roundw
            case rel =>
              refine ⟨m + 1, by omega, by go_num, by have := HLT2.out; have := HM.out; omega, fun i hi h => ?_, HQ.out⟩
              have hme := HM.out
              rcases Nat.lt_or_ge (i + 1) m with h' | h'
              · exact HUP.out.1 i hi (by omega)
              · have : i = j := by omega
                subst this
                unfold ltT
                rw [← HK.out.1, ← HK.out.2]
                exact hord
            case measure => have := HLT2.out; have := HM.out; simp [intOf]; omega
          · have hord' : Op.bytesLess k0.toList k1.toList = false := by simpa using hord
            have HE : Hid (chkE l = 15) := Lib.hid (chk_order HALL.out HLT2.out (by unfold ltT; rw [← HK.out.1, ← HK.out.2]; exact hord'))
            clear hord
            go_wp2
            go_quiet (fail)
            generalize hwq : wr.drewN nq = wq
            have HQ : Hid (Below w.heap.size w wq) := Lib.hid (by rw [← hwq]; exact below_drewN HBL.out nq)
            clear hwq c0 e0 hw1 hi0 hi1
            go_wp2
            go_ret
            exact ⟨by rw [HE.out]; rfl, HQ.out⟩
        · have HE : Hid (chkE l = 0) := Lib.hid (chk_ok HALL.out (fun i hi => hup i hi (by omega)))
          have HBL := Lib.hid hbl
          clear hup hbl HUP
          go_wp2
          go_ret
          exact ⟨by rw [HE.out]; rfl, HBL.out⟩
theorem mk_check (l : List PairV) (A : Option Addr) (cap : Nat) (w : World) (hA : PsAt w A l) (hl : l.length ≤ 40) :     Calls Tryd.prog 25 #[.slice A l.length cap] w fun x w' => x = .returned (.int .i64 (chkE l)) ∧ Below w.heap.size w w' := mk_checkN l A cap w hA (by omega)
end Go.Proofs.YtcknhnbckbocjaaDoor
