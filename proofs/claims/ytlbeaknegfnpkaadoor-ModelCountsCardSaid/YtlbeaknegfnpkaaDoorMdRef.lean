/- Contracts of carrackref22.Follows, Reached. No condition. -/
import Derived.WalkSpells
import Derived.Outline
import Derived.Deep.QuietTactic
import Derived.Test.YtlbeaknegfnpkaaDoorMdM
import Derived.Test.YtlbeaknegfnpkaaDoorMapG
import Derived.Test.YtlbeaknegfnpkaaDoorChecked
namespace Go.Proofs.YtlbeaknegfnpkaaDoor
open Go.RowKit Go.Maps
set_option linter.unusedVariables false
set_option maxRecDepth 100000 in
set_option maxHeartbeats 1000000 in
theorem rf_follows (a b : Int) (w : World) : Calls Tryd.prog 9 #[.int .i64 a, .int .i64 b] w fun x w' => x = .returned (.bool (folB a b)) ∧ w' = w := by
  by_cases a0 : a = 0
  · subst a0
    by_cases b1 : b = 1
    · subst b1
      have e : folB 0 1 = true := decide_eq_true (by omega)
      rw [e]
      clear e
      go_enter Tryd.func9, Tryd.ntmps9
      go_wp2
      go_ret
      exact ⟨rfl, rfl⟩
    · have e : folB 0 b = false := decide_eq_false (by omega)
      rw [e]
      clear e
      have eb1 : (b == 1) = false := beq_eq_false_iff_ne.2 (by omega)
      clear b1
      go_enter Tryd.func9, Tryd.ntmps9
      go_wp2
      go_ret
      exact ⟨rfl, rfl⟩
  by_cases a1 : a = 1
  · subst a1
    clear a0
    by_cases b2 : b = 2
    · subst b2
      have e : folB 1 2 = true := decide_eq_true (by omega)
      rw [e]
      clear e
      go_enter Tryd.func9, Tryd.ntmps9
      go_wp2
      go_ret
      exact ⟨rfl, rfl⟩
    by_cases b4 : b = 4
    · subst b4
      have e : folB 1 4 = true := decide_eq_true (by omega)
      rw [e]
      clear e
      clear b2
      go_enter Tryd.func9, Tryd.ntmps9
      go_wp2
      go_ret
      exact ⟨rfl, rfl⟩
    · have e : folB 1 b = false := decide_eq_false (by omega)
      rw [e]
      clear e
      have eb2 : (b == 2) = false := beq_eq_false_iff_ne.2 (by omega)
      have eb4 : (b == 4) = false := beq_eq_false_iff_ne.2 (by omega)
      clear b2 b4
      go_enter Tryd.func9, Tryd.ntmps9
      go_wp2
      go_ret
      exact ⟨rfl, rfl⟩
  by_cases a2 : a = 2
  · subst a2
    clear a0 a1
    by_cases b3 : b = 3
    · subst b3
      have e : folB 2 3 = true := decide_eq_true (by omega)
      rw [e]
      clear e
      go_enter Tryd.func9, Tryd.ntmps9
      go_wp2
      go_ret
      exact ⟨rfl, rfl⟩
    · have e : folB 2 b = false := decide_eq_false (by omega)
      rw [e]
      clear e
      have eb3 : (b == 3) = false := beq_eq_false_iff_ne.2 (by omega)
      clear b3
      go_enter Tryd.func9, Tryd.ntmps9
      go_wp2
      go_ret
      exact ⟨rfl, rfl⟩
  · have e : folB a b = false := decide_eq_false (by omega)
    rw [e]
    clear e
    have ea0 : (a == 0) = false := beq_eq_false_iff_ne.2 (by omega)
    have ea1 : (a == 1) = false := beq_eq_false_iff_ne.2 (by omega)
    have ea2 : (a == 2) = false := beq_eq_false_iff_ne.2 (by omega)
    clear a0 a1 a2
    go_enter Tryd.func9, Tryd.ntmps9
    go_wp2
    go_ret
    exact ⟨rfl, rfl⟩
theorem i64_small {x : Nat} (hx : x < 1000000) : (Lit.int .i64 (x : Int)).wf = true := by simp [Lit.wf, IntKind.min, IntKind.max, IntKind.signed, IntKind.bits]; omega
/-! a map of ints to bools -/
noncomputable def kInt : Kq.KeyK Tryd.prog 3 Int := ⟨int_keyed Tryd.underlying3, fun z => .int .i64 z, fun z => .int .i64 z, fun z => (Lit.int .i64 z).wf = true, fun a h => keyOf_int_mk Tryd.underlying3 h, fun a b h => by injection h⟩
theorem boolElem_inv {H : Type} {v : Value} {z : DataW H × List MemPlace} (h : plainElem (H := H) Tryd.prog 4 v = some z) : ∃ x, v = .bool x ∧ z = (.lit (.bool x), []) := by
  unfold plainElem at h
  rw [Tryd.underlying4] at h
  cases v <;> simp at h
  rename_i x
  exact ⟨x, rfl, h.symm⟩
noncomputable def eBool : Kq.ElK Tryd.prog 4 Bool := ⟨plainElem Tryd.prog 4, fun b => .bool b, fun b => .lit (.bool b), fun _ => True, false, trivial, fun w => by kernel_rfl, fun b _ => plainElem_bool Tryd.underlying4 b, fun v z h => by obtain ⟨x, h1, h2⟩ := boolElem_inv h; exact ⟨x, h1, by rw [h2]⟩, fun a b h => by injection h with h; injection h⟩
/-- the marks: from a on, so many pairs (x, y) done, five times over -/
def mkF (a : Nat) : Nat → Nat → Bool
  | 0, x => x == a
  | n + 1, x => mkF a n x || (mkF a n (n / 5 % 5) && folB ((n / 5 % 5 : Nat) : Int) ((n % 5 : Nat) : Int) && x == n % 5)
theorem mkF_end : ∀ a : Nat, a < 5 → ∀ b : Nat, b < 5 → mkF a 125 b = rchB a b := by decide +kernel
theorem mkF_low (a n x : Nat) (ha : a < 5) (h : mkF a n x = true) : x < 5 := by
  induction n with
  | zero => simp [mkF] at h; omega
  | succ n ih =>
    simp only [mkF, Bool.or_eq_true, Bool.and_eq_true, beq_iff_eq] at h
    rcases h with h | ⟨_, h⟩
    · exact ih h
    · omega
/-- the map holds just the marks -/
structure MkP (w : World) (M a n : Nat) : Prop where
  ex : ∃ f sz, Kq.MapG kInt eBool w M (n + 1) f sz ∧ ∀ x : Nat, (f (x : Int)).getD false = mkF a n x
theorem MkP.get {w : World} {M a n : Nat} (h : MkP w M a n) (x : Nat) (hx : x < 5) : (Instr.lookup 46 (.map (some M)) (.int .i64 (x : Int)) false).run Tryd.prog w = .ok (.bool (mkF a n x)) w := by
  obtain ⟨f, sz, hm, hf⟩ := h.ex
  have := hm.get Tryd.underlying46 (x : Int) (show (Lit.int .i64 (x : Int)).wf = true from i64_small (by omega))
  rw [← hf]
  exact this
theorem MkP.same {w : World} {M a n : Nat} (h : MkP w M a n) (hs : (mkF a n (n / 5 % 5) && folB ((n / 5 % 5 : Nat) : Int) ((n % 5 : Nat) : Int)) = false) : MkP w M a (n + 1) := by
  obtain ⟨f, sz, hm, hf⟩ := h.ex
  refine ⟨f, sz, hm.up (by omega), fun x => ?_⟩
  rw [hf, mkF, hs]; simp
theorem MkP.put {w : World} {M a n : Nat} (h : MkP w M a n) (hn : n < 1000) (hs : (mkF a n (n / 5 % 5) && folB ((n / 5 % 5 : Nat) : Int) ((n % 5 : Nat) : Int)) = true) :
    ∃ w', (Instr.mapUpdate 46 (.map (some M)) (.int .i64 ((n % 5 : Nat) : Int)) (.bool true)).run Tryd.prog w = .ok () w' ∧ MkP w' M a (n + 1) ∧ Kq.Keeps (· = M) w w' := by
  obtain ⟨f, sz, hm, hf⟩ := h.ex
  obtain ⟨w', hrun, hm', hk⟩ := hm.put (by omega) Tryd.underlying46 ((n % 5 : Nat) : Int) (show (Lit.int .i64 ((n % 5 : Nat) : Int)).wf = true from i64_small (by omega)) true trivial
  refine ⟨w', hrun, ⟨_, _, hm', fun x => ?_⟩, hk⟩
  unfold Kq.updG
  rw [mkF, hs, Bool.true_and]
  by_cases hx : x = n % 5
  · subst hx; simp
  · have hx' : ¬ (x : Int) = ((n % 5 : Nat) : Int) := by omega
    rw [if_neg hx', hf]
    have : (x == n % 5) = false := by rw [beq_eq_false_iff_ne]; exact hx
    rw [this]; simp
theorem MkP.made {w w' : World} {M a : Nat} {n : Nat} {f : Int → Option Bool} {sz : Nat} (h : Kq.MapG kInt eBool w M 1 f sz) (hf : ∀ x : Nat, (f (x : Int)).getD false = (x == a)) : MkP w M a 0 := ⟨f, sz, h, hf⟩
theorem MkP.start (w : World) (a : Nat) (ha : a < 5) : ∃ w', (Instr.mapUpdate 46 (.map (some w.heap.size)) (.int .i64 (a : Int)) (.bool true)).run Tryd.prog (w.alloc (.map #[] 0)) = .ok () w' ∧ MkP w' w.heap.size a 0 ∧ Below w.heap.size w w' := by
  obtain ⟨w', hrun, hm', hk⟩ := (Kq.MapG.made kInt eBool w).put (by omega) Tryd.underlying46 (a : Int) (show (Lit.int .i64 (a : Int)).wf = true from i64_small (by omega)) true trivial
  refine ⟨w', hrun, ⟨_, _, hm', fun x => ?_⟩, (Kq.below_alloc w _).trans (hk.below (by simp) (fun k _ e => by omega))⟩
  unfold Kq.updG
  by_cases hx : x = a
  · subst hx; simp [mkF]
  · have hx' : ¬ (x : Int) = (a : Int) := by omega
    rw [if_neg hx']
    have : (x == a) = false := by rw [beq_eq_false_iff_ne]; exact hx
    show false = (x == a)
    rw [this]
theorem MkP.lt {w : World} {M a n : Nat} (h : MkP w M a n) : M < w.heap.size := by
  obtain ⟨f, sz, hm, hf⟩ := h.ex
  exact hm.lt
theorem idx_x {j x y : Nat} (hx : x < 5) (hy : y < 5) : (j * 25 + x * 5 + y) / 5 % 5 = x := by omega
theorem idx_y {j x y : Nat} (hx : x < 5) (hy : y < 5) : (j * 25 + x * 5 + y) % 5 = y := by omega
set_option maxRecDepth 100000 in
set_option maxHeartbeats 4000000 in
theorem rf_reached_in (a b : Nat) (w : World) (ha : a < 5) (hb : b < 5) : Calls Tryd.prog 11 #[.int .i64 (a : Int), .int .i64 (b : Int)] w fun x w' => x = .returned (.bool (rchB a b)) ∧ Below w.heap.size w w' := by
  have hmm := @run_makeMap Tryd.prog
  have d0 : decide ((a : Int) < 0) = false := decide_eq_false (by omega)
  have d1 : decide ((4 : Int) < (a : Int)) = false := decide_eq_false (by omega)
  have d1' : decide (4 < a) = false := decide_eq_false (by omega)
  have d2 : decide ((b : Int) < 0) = false := decide_eq_false (by omega)
  have d3 : decide ((4 : Int) < (b : Int)) = false := decide_eq_false (by omega)
  have d3' : decide (4 < b) = false := decide_eq_false (by omega)
  obtain ⟨w0, hrun, hmk, hb0⟩ := MkP.start w a ha
  have HAB := Lib.hid (And.intro ha hb)
  have HK := Lib.hid (And.intro hmk hb0)
  clear hmk hb0 ha hb
  go_enter Tryd.func11, Tryd.ntmps11
  go_wp2
  obtain ⟨M, hM⟩ : ∃ M, M = w.heap.size := ⟨_, rfl⟩
  rw [← hM] at HK ⊢
  have HM := Lib.hid hM
  clear hrun hmm hM d0 d1 d1' d2 d3 d3'
  go_loopw [6] (fun i wr => ∃ j : Nat, j ≤ 5 ∧ i = .int .i64 (j : Int) ∧ MkP wr M a (j * 25) ∧ Below w.heap.size w wr) (fun i _ => 5 - (intOf i).toNat)
  case atStart => exact ⟨0, by omega, rfl, HK.out.1, by rw [HM.out] at HK; exact HK.out.2⟩
  case round =>
    obtain ⟨j, hj, rfl, hmk, hbl⟩ := hrel
    have HR := Lib.hid (And.intro hmk hbl)
    clear hmk hbl
    by_cases hlt : j < 5
    · have hi0 : (j : Int) < 5 := by omega
      have HJ := Lib.hid hlt
      go_wp2
      go_loopw [7] (fun i wr => ∃ x : Nat, x ≤ 5 ∧ i = .int .i64 (x : Int) ∧ MkP wr M a (j * 25 + x * 5) ∧ Below w.heap.size w wr) (fun i _ => 5 - (intOf i).toNat)
      case atStart => exact ⟨0, by omega, rfl, HR.out⟩
      case round =>
        clear HR
        obtain ⟨x, hx, rfl, hmk, hbl⟩ := hrel
        have HR := Lib.hid (And.intro hmk hbl)
        clear hmk hbl
        by_cases hltx : x < 5
        · have hi1 : (x : Int) < 5 := by omega
          have HX := Lib.hid hltx
          go_wp2
          go_loopw [8] (fun i wr => ∃ y : Nat, y ≤ 5 ∧ i = .int .i64 (y : Int) ∧ MkP wr M a (j * 25 + x * 5 + y) ∧ Below w.heap.size w wr) (fun i _ => 5 - (intOf i).toNat)
          case atStart => exact ⟨0, by omega, rfl, HR.out⟩
          case round =>
            clear HR
            obtain ⟨y, hy, rfl, hmk, hbl⟩ := hrel
            by_cases hlty : y < 5
            · have hi2 : (y : Int) < 5 := by omega
              have HY := Lib.hid hlty
              have hget := hmk.get x HX.out
              have HR := Lib.hid (And.intro hmk hbl)
              obtain ⟨k, hk⟩ : ∃ k, k = j * 25 + x * 5 + y := ⟨_, rfl⟩
              rw [← hk] at HR hget
              have hkx : k / 5 % 5 = x := by rw [hk]; exact idx_x HX.out HY.out
              have hky : k % 5 = y := by rw [hk]; exact idx_y HX.out HY.out
              have HKK := Lib.hid (And.intro hk (And.intro hkx hky))
              clear hmk hbl hk hkx hky
              cases hm : mkF a k x with
              | false =>
                rw [hm] at hget
                have HS : Hid (MkP wr M a (k + 1)) := Lib.hid (HR.out.1.same (by rw [HKK.out.2.1, hm]; rfl))
                clear hm
                go_wp2
                go_roundw
                case rel => exact ⟨y + 1, HY.out, by go_num, by have h := HS.out; rw [HKK.out.1] at h; exact h, HR.out.2⟩
                case measure => have := HY.out; simp [intOf]; omega
              | true =>
                rw [hm] at hget
                have HMM := Lib.hid hm
                clear hm
                go_wp2_with fail
                refine (rf_follows (x : Int) (y : Int) wr).mono ?_
                rintro e w3 ⟨rfl, rfl⟩
                cases hf : folB (x : Int) (y : Int) with
                | false =>
                  have HS : Hid (MkP w3 M a (k + 1)) := Lib.hid (HR.out.1.same (by rw [HKK.out.2.1, HKK.out.2.2, hf]; simp))
                  clear hf
                  go_wp2
                  go_roundw
                  case rel => exact ⟨y + 1, HY.out, by go_num, by have h := HS.out; rw [HKK.out.1] at h; exact h, HR.out.2⟩
                  case measure => have := HY.out; simp [intOf]; omega
                | true =>
                  obtain ⟨w4, hrun, hmk4, hkp⟩ := HR.out.1.put (by have := HKK.out.1; have := HJ.out; have := HX.out; have := HY.out; omega) (by rw [HKK.out.2.1, HKK.out.2.2, hf, HMM.out]; rfl)
                  rw [HKK.out.2.2] at hrun
                  have HS : Hid (MkP w4 M a (k + 1) ∧ Below w.heap.size w w4) := Lib.hid ⟨hmk4, HR.out.2.trans (hkp.below HR.out.2.size (fun k _ e => by have := HM.out; omega))⟩
                  clear hf hmk4 hkp
                  go_wp2
                  go_roundw
                  case rel => exact ⟨y + 1, HY.out, by go_num, by have h := HS.out.1; rw [HKK.out.1] at h; exact h, HS.out.2⟩
                  case measure => have := HY.out; simp [intOf]; omega
            · obtain rfl : y = 5 := by omega
              have HR := Lib.hid (And.intro hmk hbl)
              clear hmk hbl hlty
              go_wp2
              go_roundw
              case rel => exact ⟨x + 1, HX.out, by go_num, by have h := HR.out.1; rw [show (x + 1) * 5 = x * 5 + 5 by omega, ← Nat.add_assoc]; exact h, HR.out.2⟩
              case measure => have := HX.out; simp [intOf]; omega
        · obtain rfl : x = 5 := by omega
          clear hltx
          go_wp2
          go_roundw
          case rel => exact ⟨j + 1, HJ.out, by go_num, by have h := HR.out.1; rw [show (j + 1) * 25 = j * 25 + 5 * 5 by omega]; exact h, HR.out.2⟩
          case measure => have := HJ.out; simp [intOf]; omega
    · obtain rfl : j = 5 := by omega
      have hget := HR.out.1.get b HAB.out.2
      rw [mkF_end a HAB.out.1 b HAB.out.2] at hget
      clear hlt
      go_wp2
      go_ret
      exact ⟨rfl, HR.out.2⟩
set_option maxRecDepth 100000 in
set_option maxHeartbeats 1000000 in
theorem rf_reached (a b : Int) (w : World) : Calls Tryd.prog 11 #[.int .i64 a, .int .i64 b] w fun x w' => x = .returned (.bool (rchB a b)) ∧ Below w.heap.size w w' := by
  by_cases h : isS a = true ∧ isS b = true
  · have h1 := of_decide_eq_true h.1
    have h2 := of_decide_eq_true h.2
    obtain ⟨i, rfl⟩ := Int.eq_ofNat_of_zero_le h1.1
    obtain ⟨j, rfl⟩ := Int.eq_ofNat_of_zero_le h2.1
    exact rf_reached_in i j w (by omega) (by omega)
  · have e : rchB a b = false := rch_out (by
      by_cases ha : isS a = true
      · right; simpa [ha] using h
      · left; simpa using ha)
    rw [e]
    clear e
    by_cases h0 : a < 0
    · have d0 : decide (a < 0) = true := decide_eq_true h0
      clear h h0
      go_enter Tryd.func11, Tryd.ntmps11
      go_wp2
      go_ret
      exact ⟨rfl, Below.refl _ _⟩
    have d0 : decide (a < 0) = false := decide_eq_false h0
    by_cases h1 : 4 < a
    · have d1 : decide (4 < a) = true := decide_eq_true h1
      clear h h0 h1
      go_enter Tryd.func11, Tryd.ntmps11
      go_wp2
      go_ret
      exact ⟨rfl, Below.refl _ _⟩
    have d1 : decide (4 < a) = false := decide_eq_false h1
    by_cases h2 : b < 0
    · have d2 : decide (b < 0) = true := decide_eq_true h2
      clear h h0 h1 h2
      go_enter Tryd.func11, Tryd.ntmps11
      go_wp2
      go_ret
      exact ⟨rfl, Below.refl _ _⟩
    have d2 : decide (b < 0) = false := decide_eq_false h2
    have h3 : 4 < b := by
      rcases Classical.not_and_iff_not_or_not.1 h with h | h
      · exact absurd (show isS a = true from decide_eq_true ⟨by omega, by omega⟩) h
      · rcases Int.lt_or_le 4 b with h' | h'
        · exact h'
        · exact absurd (show isS b = true from decide_eq_true ⟨by omega, by omega⟩) h
    have d3 : decide (4 < b) = true := decide_eq_true h3
    clear h h0 h1 h2 h3
    go_enter Tryd.func11, Tryd.ntmps11
    go_wp2
    go_ret
    exact ⟨rfl, Below.refl _ _⟩
end Go.Proofs.YtlbeaknegfnpkaaDoor
