/- Contracts of carrackref01's least and root. Condition: sizes. -/
import Derived.Test.YtnbapiddbcaolaaDoorShNums3
namespace Go.Proofs.YtnbapiddbcaolaaDoor
open Go.RowKit
set_option linter.unusedVariables false
theorem wrap32' (x : Nat) : IntKind.u32.wrap (x : Int) = ((x % 4294967296 : Nat) : Int) := by rw [IntKind.wrap_u32]; omega
def mulI (x : Nat) : Nat → List Nat
  | 0 => [x]
  | k + 1 => Sh.mulL (mulI x k) x
theorem mulI_length (x k : Nat) : (mulI x k).length = 1 + 4 * k := by
  induction k with
  | zero => rfl
  | succ k ih => rw [mulI, mulL_length, ih]; omega
def wholeL (n T : Nat) : List Nat := (List.replicate (T + 2) 0).set (T + 1) n
def leastB (x n T : Nat) : Bool := !Sh.aboveL (mulI x T) (wholeL n T)
theorem least2_eq (x n : Nat) : leastB x n 1 = Sh.least2 x n := rfl
theorem least3_eq (x n : Nat) : leastB x n 2 = Sh.least3 x n := rfl
theorem wholeL_length (n T : Nat) : (wholeL n T).length = T + 2 := by simp [wholeL]
def zc (m : Nat) : Array Value := (dcl (List.replicate m 0)).toArray
theorem mk_zc (w : World) (z : Int) (m : Nat) (hz : z = (m : Int)) (hn : m ≤ 100000) :
    (Instr.makeSlice 74 (.int .i64 z) (.int .i64 z)).run Tryd.prog w = .ok (.slice (some ⟨w.heap.size, 0, none⟩) m m) (w.alloc (.cells (zc m) 59)) := mk_u64 w z m hz hn
theorem zc_at (m i : Nat) (h : i < m) : (zc m)[i]? = some (.int .u64 0) := by simp [zc, dcl, h]
theorem zc_set (n T : Nat) : (zc (T + 2)).setIfInBounds (T + 1) (.int .u64 (n : Int)) = (dcl (wholeL n T)).toArray := by
  apply Array.toList_inj.1
  rw [Array.toList_setIfInBounds]
  unfold zc dcl wholeL
  rw [List.toList_toArray, List.toList_toArray, List.map_set]
set_option maxRecDepth 100000 in
set_option maxHeartbeats 1000000 in
theorem r_least (x n : Nat) (third : Bool) (T : Nat) (hT : T = if third then 2 else 1) (w : World) (hx : x < 18446744073709551616) (hn : n < 18446744073709551616) :
    Calls Tryd.prog 50 #[.int .u64 (x : Int), .int .u64 (n : Int), .bool third] w fun e w' => e = .returned (.bool (leastB x n T)) ∧ Below w.heap.size w w' := by
  have HN := Lib.hid hn
  have HX := Lib.hid hx
  have hT2 : T ≤ 2 := by rw [hT]; split <;> omega
  clear hn hx
  go_enter Tryd.func50, Tryd.ntmps50
  have H0 : Hid (Nums (w.alloc (.cells #[.int .u64 (x : Int)] 59)) w.heap.size (mulI x 0) ∧ Below w.heap.size w (w.alloc (.cells #[.int .u64 (x : Int)] 59))) :=
    Lib.hid ⟨nums_new w [x] (fun y hy => by rw [List.mem_singleton.1 hy]; exact HX.out), Kq.below_alloc w _⟩
  have key : ∀ (K : Act → World → Prop) (P : Prop), P → P := fun _ _ h => h
  clear key
  have HT := Lib.hid hT
  cases third with
  | false =>
    have hT1 : T = 1 := hT
    subst hT1
    clear hT
    go_wp2
    obtain ⟨w1, hw1⟩ : ∃ z, z = w.alloc (.cells #[.int .u64 (x : Int)] 59) := ⟨_, rfl⟩
    rw [← hw1] at H0 ⊢
    clear hw1
    go_loopw [7, 9] (fun p i wr => ∃ k G c : Nat, k ≤ 1 ∧ i = .int .i64 (k : Int) ∧ p = .slice (some ⟨G, 0, none⟩) (mulI x k).length c ∧ Nums wr G (mulI x k) ∧ Below w.heap.size w wr) (fun _ i _ => 1 - (intOf i).toNat)
    case atStart => exact ⟨0, w.heap.size, 1, by omega, rfl, rfl, H0.out⟩
    case round =>
      obtain ⟨k, G, c, hk, rfl, rfl, hI⟩ := hrel
      have HI := Lib.hid hI
      clear hI
      by_cases hlt : k < 1
      · have l1 : (k : Int) < 1 := by omega
        have HM := Lib.hid (r_multiply G (mulI x k) c x wr HI.out.1 HX.out (by rw [mulI_length]; omega))
        have HLN : Hid ((mulI x k).length + 4 = (mulI x (k + 1)).length) := Lib.hid (by rw [mulI_length, mulI_length]; omega)
        go_wp2_with fail
        refine HM.out.mono ?_
        rintro e w2 ⟨G2, rfl, hG2, hn2, hb2⟩
        rw [HLN.out]
        have H2 : Hid (Nums w2 G2 (mulI x (k + 1)) ∧ Below w.heap.size w w2) := Lib.hid ⟨hn2, HI.out.2.trans (hb2.mono HI.out.2.size)⟩
        clear hG2 hn2 hb2 HM
        go_wp2
        go_roundw
        case rel => exact ⟨k + 1, G2, _, by omega, by go_num, rfl, H2.out⟩
        case measure => simp [intOf]; omega
      · have hkT : k = 1 := by omega
        rw [hkT] at HI ⊢
        have HLM := Lib.hid (mulI_length x 1)
        obtain ⟨L, hL⟩ : ∃ L, L = mulI x 1 := ⟨_, rfl⟩
        have HLE := Lib.hid hL
        rw [← hL] at HI HLM ⊢
        clear hL
        have hmk := fun w => mk_zc w 3 3 (by omega) (by omega)
        have hz0 := zc_at 3 2 (by omega)
        have HSET := Lib.hid (zc_set n 1)
        clear hkT
        have d0 : ¬ (k : Int) < 1 := by omega
        go_wp2_with fail
        have e9 : (zc 3).setIfInBounds 2 (Value.int IntKind.u64 (n : Int)) = (dcl (wholeL n 1)).toArray := HSET.out
        rw [e9]
        clear e9 hmk hz0
        have H9 : Hid (Nums (wr.alloc (.cells (dcl (wholeL n 1)).toArray 59)) wr.heap.size (wholeL n 1) ∧ Nums (wr.alloc (.cells (dcl (wholeL n 1)).toArray 59)) G L ∧ Below w.heap.size w (wr.alloc (.cells (dcl (wholeL n 1)).toArray 59))) := Lib.hid (by
          refine ⟨nums_new wr _ (fun y hy => ?_), HI.out.1.below (Kq.below_alloc wr _), HI.out.2.trans ((Kq.below_alloc wr _).mono HI.out.2.size)⟩
          unfold wholeL at hy
          rcases List.mem_or_eq_of_mem_set hy with hy | rfl
          · rw [List.eq_of_mem_replicate hy]; decide
          · exact HN.out)
        generalize wr.alloc _ = w9 at *
        have HAB := Lib.hid (r_above G L c wr.heap.size (wholeL n 1) 3 w9 H9.out.2.1 H9.out.1 (by rw [HLM.out, wholeL_length]; omega))
        rw [show (wholeL n 1).length = 3 from wholeL_length n 1] at HAB
        have HR : Hid (Value.bool (!Sh.aboveL L (wholeL n 1)) = Value.bool (leastB x n 1)) := Lib.hid (by rw [HLE.out]; rfl)
        generalize Sh.aboveL L (wholeL n 1) = ab at *
        refine HAB.out.mono ?_
        rintro e w10 ⟨rfl, rfl⟩
        go_wp2
        go_ret
        exact ⟨by rw [← HR.out]; rfl, H9.out.2.2⟩
  | true =>
    have hT1 : T = 2 := hT
    subst hT1
    clear hT
    go_wp2
    obtain ⟨w1, hw1⟩ : ∃ z, z = w.alloc (.cells #[.int .u64 (x : Int)] 59) := ⟨_, rfl⟩
    rw [← hw1] at H0 ⊢
    clear hw1
    go_loopw [7, 9] (fun p i wr => ∃ k G c : Nat, k ≤ 2 ∧ i = .int .i64 (k : Int) ∧ p = .slice (some ⟨G, 0, none⟩) (mulI x k).length c ∧ Nums wr G (mulI x k) ∧ Below w.heap.size w wr) (fun _ i _ => 2 - (intOf i).toNat)
    case atStart => exact ⟨0, w.heap.size, 1, by omega, rfl, rfl, H0.out⟩
    case round =>
      obtain ⟨k, G, c, hk, rfl, rfl, hI⟩ := hrel
      have HI := Lib.hid hI
      clear hI
      by_cases hlt : k < 2
      · have l1 : (k : Int) < 2 := by omega
        have HM := Lib.hid (r_multiply G (mulI x k) c x wr HI.out.1 HX.out (by rw [mulI_length]; omega))
        have HLN : Hid ((mulI x k).length + 4 = (mulI x (k + 1)).length) := Lib.hid (by rw [mulI_length, mulI_length]; omega)
        go_wp2_with fail
        refine HM.out.mono ?_
        rintro e w2 ⟨G2, rfl, hG2, hn2, hb2⟩
        rw [HLN.out]
        have H2 : Hid (Nums w2 G2 (mulI x (k + 1)) ∧ Below w.heap.size w w2) := Lib.hid ⟨hn2, HI.out.2.trans (hb2.mono HI.out.2.size)⟩
        clear hG2 hn2 hb2 HM
        go_wp2
        go_roundw
        case rel => exact ⟨k + 1, G2, _, by omega, by go_num, rfl, H2.out⟩
        case measure => simp [intOf]; omega
      · have hkT : k = 2 := by omega
        rw [hkT] at HI ⊢
        have HLM := Lib.hid (mulI_length x 2)
        obtain ⟨L, hL⟩ : ∃ L, L = mulI x 2 := ⟨_, rfl⟩
        have HLE := Lib.hid hL
        rw [← hL] at HI HLM ⊢
        clear hL
        have hmk := fun w => mk_zc w 4 4 (by omega) (by omega)
        have hz0 := zc_at 4 3 (by omega)
        have HSET := Lib.hid (zc_set n 2)
        clear hkT
        have d0 : ¬ (k : Int) < 2 := by omega
        go_wp2_with fail
        have e9 : (zc 4).setIfInBounds 3 (Value.int IntKind.u64 (n : Int)) = (dcl (wholeL n 2)).toArray := HSET.out
        rw [e9]
        clear e9 hmk hz0
        have H9 : Hid (Nums (wr.alloc (.cells (dcl (wholeL n 2)).toArray 59)) wr.heap.size (wholeL n 2) ∧ Nums (wr.alloc (.cells (dcl (wholeL n 2)).toArray 59)) G L ∧ Below w.heap.size w (wr.alloc (.cells (dcl (wholeL n 2)).toArray 59))) := Lib.hid (by
          refine ⟨nums_new wr _ (fun y hy => ?_), HI.out.1.below (Kq.below_alloc wr _), HI.out.2.trans ((Kq.below_alloc wr _).mono HI.out.2.size)⟩
          unfold wholeL at hy
          rcases List.mem_or_eq_of_mem_set hy with hy | rfl
          · rw [List.eq_of_mem_replicate hy]; decide
          · exact HN.out)
        generalize wr.alloc _ = w9 at *
        have HAB := Lib.hid (r_above G L c wr.heap.size (wholeL n 2) 4 w9 H9.out.2.1 H9.out.1 (by rw [HLM.out, wholeL_length]; omega))
        rw [show (wholeL n 2).length = 4 from wholeL_length n 2] at HAB
        have HR : Hid (Value.bool (!Sh.aboveL L (wholeL n 2)) = Value.bool (leastB x n 2)) := Lib.hid (by rw [HLE.out]; rfl)
        generalize Sh.aboveL L (wholeL n 2) = ab at *
        refine HAB.out.mono ?_
        rintro e w10 ⟨rfl, rfl⟩
        go_wp2
        go_ret
        exact ⟨by rw [← HR.out]; rfl, H9.out.2.2⟩
theorem half_facts (lo hi d : Nat) (h : hi = lo + 2 * d) (hb : hi ≤ 68719476736) : IntKind.u64.wrap ((lo : Int) + (hi : Int)) = ((lo + hi : Nat) : Int) ∧ ((lo + hi : Nat) : Int) / 2 = ((lo + d : Nat) : Int) ∧ (lo + hi) / 2 = lo + d ∧ IntKind.u64.wrap ((hi : Int) - (lo : Int)) = ((2 * d : Nat) : Int) := by
  refine ⟨?_, by omega, by omega, ?_⟩
  · rw [IntKind.wrap_u64]; omega
  · rw [IntKind.wrap_u64]; omega
def rootB (n T : Nat) : Nat := Sh.bis (fun x => leastB x n T) 36 0 68719476736
set_option maxRecDepth 100000 in
set_option maxHeartbeats 1000000 in
theorem r_root (n : Nat) (third : Bool) (T : Nat) (hT : T = if third then 2 else 1) (w : World) (hn : n < 18446744073709551616) :
    Calls Tryd.prog 44 #[.int .u64 (n : Int), .bool third] w fun e w' => e = .returned (.int .u32 ((rootB n T % Sh.M32 : Nat) : Int)) ∧ Below w.heap.size w w' := by
  have KL := Lib.hid (fun x w hx => r_least x n third T hT w hx hn)
  clear hT hn
  go_enter Tryd.func44, Tryd.ntmps44
  go_wp2
  go_loopw [5, 6] (fun p q wr => ∃ f lo hi : Nat, p = .int .u64 (lo : Int) ∧ q = .int .u64 (hi : Int) ∧ hi = lo + 2 ^ f ∧ hi ≤ 68719476736 ∧ Sh.bis (fun x => leastB x n T) f lo hi = rootB n T ∧ Below w.heap.size w wr) (fun p q _ => (intOf q - intOf p).toNat)
  case atStart => exact ⟨36, 0, 68719476736, rfl, rfl, rfl, Nat.le_refl _, rfl, Below.refl _ _⟩
  case round =>
    obtain ⟨f, lo, hi, rfl, rfl, hd, hb, hr, hbel⟩ := hrel
    have HR := Lib.hid (And.intro hr hbel)
    clear hr hbel
    rcases f with _ | f
    · have e1 : hi = lo + 1 := by rw [hd]
      have e2 : IntKind.u64.wrap ((hi : Int) - (lo : Int)) = 1 := by rw [IntKind.wrap_u64]; omega
      have e3 : IntKind.u32.wrap (lo : Int) = ((lo % 4294967296 : Nat) : Int) := wrap32' lo
      have HE : Hid (lo = rootB n T) := Lib.hid HR.out.1
      obtain ⟨m, hm⟩ : ∃ m, m = lo % 4294967296 := ⟨_, rfl⟩
      rw [← hm] at e3
      have HM := Lib.hid hm
      clear hd e1 hm
      go_wp2
      go_ret
      exact ⟨by rw [← HE.out]; unfold Sh.M32; rw [← HM.out]; rfl, HR.out.2⟩
    · obtain ⟨d, hdd⟩ : ∃ d, d = 2 ^ f := ⟨_, rfl⟩
      have hd0 : 0 < d := by rw [hdd]; exact Nat.two_pow_pos f
      have hd2 : hi = lo + 2 * d := by rw [hd, hdd, Nat.pow_succ]; omega
      obtain ⟨q1, q2, q3, q4⟩ := half_facts lo hi d hd2 hb
      obtain ⟨mid, hmid⟩ : ∃ mid, mid = lo + d := ⟨_, rfl⟩
      obtain ⟨sm, hsm⟩ : ∃ sm, sm = lo + hi := ⟨_, rfl⟩
      obtain ⟨df, hdf⟩ : ∃ df, df = 2 * d := ⟨_, rfl⟩
      rw [← hmid, ← hsm] at q2
      rw [← hsm] at q1
      rw [← hdf] at q4
      rw [← hmid] at q3
      have q5 : (1 : Int) < (df : Int) := by omega
      have q6 : IntKind.u64.wrap (mid : Int) = (mid : Int) := by rw [IntKind.wrap_u64]; omega
      have HB : Hid (Sh.bis (fun x => leastB x n T) (f + 1) lo hi = rootB n T) := Lib.hid HR.out.1
      have HST : Hid ((if leastB mid n T = true then Sh.bis (fun x => leastB x n T) f mid hi else Sh.bis (fun x => leastB x n T) f lo mid) = rootB n T) := Lib.hid (by
        have := HB.out
        rw [Sh.bis, q3] at this
        exact this)
      have HAR := Lib.hid (show mid = lo + 2 ^ f ∧ hi = mid + 2 ^ f ∧ mid ≤ 68719476736 ∧ lo < mid ∧ mid < hi from ⟨by rw [hmid, hdd], by rw [hd2, hmid, hdd]; omega, by omega, by omega, by omega⟩)
      have HLB := Lib.hid (KL.out mid)
      have hmb : mid < 18446744073709551616 := by omega
      clear hd hdd hd0 hd2 hmid hsm hdf q3
      go_wp2_with fail
      refine (HLB.out wr hmb).mono ?_
      rintro e w2 ⟨rfl, hb2⟩
      have H2 := Lib.hid (HR.out.2.trans (hb2.mono HR.out.2.size))
      clear hb2 HLB hmb
      cases hl : leastB mid n T with
      | true =>
        have HN : Hid (Sh.bis (fun x => leastB x n T) f mid hi = rootB n T) := Lib.hid (by have := HST.out; rwa [if_pos hl] at this)
        clear hl HST
        go_wp2
        go_roundw
        case rel => exact ⟨f, mid, hi, rfl, rfl, HAR.out.2.1, hb, HN.out, H2.out⟩
        case measure => have := HAR.out; simp [intOf] <;> omega
      | false =>
        have HN : Hid (Sh.bis (fun x => leastB x n T) f lo mid = rootB n T) := Lib.hid (by have := HST.out; rwa [if_neg (by rw [hl]; decide)] at this)
        clear hl HST
        go_wp2
        go_roundw
        case rel => exact ⟨f, lo, mid, rfl, rfl, HAR.out.1, HAR.out.2.2.1, HN.out, H2.out⟩
        case measure => have := HAR.out; simp [intOf] <;> omega
end Go.Proofs.YtnbapiddbcaolaaDoor
