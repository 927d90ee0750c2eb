/- carracklaw12.ClientKeeps walked. No condition. -/
import Derived.WalkSpells
import Derived.Outline
import Derived.StillTailTactics
import Derived.Deep.QuietTactic
import Derived.BigQuiet
import Derived.Test.YtdonoilcegaleaaClKp
namespace Go.Proofs.Ytdonoilcegaleaa.clientKeeps
open Go.RowKit Go.Cl
set_option linter.unusedVariables false
set_option maxRecDepth 100000 in
set_option maxHeartbeats 1000000 in
theorem long (A : Option Addr) (cap : Nat) (l : List (Nat × ByteArray)) (W : World) (hl : 100 < l.length) :
    Calls Try.prog 4 #[.slice A l.length cap] W fun e w' => e = .returned (.bool true) ∧ Below W.heap.size W w' := by
  have d0 : decide ((100 : Int) < (l.length : Int)) = true := decide_eq_true (by omega)
  have d1 : decide (100 < l.length) = true := decide_eq_true hl
  clear hl
  go_enter Try.func4, Try.ntmps4
  go_wp2_with fail
  refine (awake _).mono ?_
  rintro x w1 ⟨rfl, b1⟩
  have H1 := Lib.hid b1
  clear b1
  go_wp2
  go_ret
  exact ⟨rfl, H1.out⟩
set_option maxRecDepth 100000 in
set_option maxHeartbeats 8000000 in
theorem few_ (A : Option Addr) (cap : Nat) (l : List (Nat × ByteArray)) (W : World) (hc : KnAt W A l) (hl : ¬ 100 < l.length) :
    Calls Try.prog 4 #[.slice A l.length cap] W fun e w' => e = .returned (.bool true) ∧ Below W.heap.size W w' := by
  have d0 : decide ((100 : Int) < (l.length : Int)) = false := decide_eq_false (by omega)
  have d1 : decide (100 < l.length) = false := decide_eq_false hl
  have H := Lib.hid (And.intro hc (Nat.not_lt.1 hl))
  have hmm := @run_makeMap Try.prog
  clear hc hl
  go_enter Try.func4, Try.ntmps4
  go_wp2_with fail
  refine (awake _).mono ?_
  rintro e w1 ⟨rfl, b1⟩
  have H1 := Lib.hid b1
  clear b1
  go_wp2_with fail
  refine (cl_new _).mono ?_
  rintro e w2 ⟨rfl, hc, hb⟩
  have I2 := CliI.made H1.out hc hb
  have K3 : Hid (Kp W (w2.alloc (.map #[] 0)) (w1.heap.size + 1) w1.heap.size w2.heap.size 0 (.slice none 0 0) [] (fun _ => none) (fun _ => none) 0) := Lib.hid ⟨I2.below (Kq.below_alloc _ _), MapT.made w2, fun ho => by have := I2.s.ownlt ho; omega, I2.bel.size⟩
  clear hc hb I2
  go_wp2
  generalize w2.alloc (.map #[] 0) = w3 at *
  generalize w1.heap.size + 1 = C at *
  generalize w1.heap.size = M at *
  generalize w2.heap.size = F at *
  clear d0 d1 hmm
  go_loopw [5] (fun i wr => ∃ j : Nat, ∃ v : Value, ∃ hs : List Nat, ∃ f : Int → Option ByteArray, j ≤ l.length ∧ i = .int .i64 (j : Int) ∧ hs.length ≤ j ∧ Kp W wr C M F (2 * j) v hs f f hs.length) (fun i _ => l.length - (intOf i).toNat)
  case atStart => exact ⟨0, _, [], _, by omega, rfl, Nat.le_refl _, K3.out⟩
  case round =>
    obtain ⟨j, v, hs, f, hj, rfl, hhj, hd⟩ := hrel
    have HD := Lib.hid (And.intro hd hhj)
    clear hd K3
    by_cases hlt : j < l.length
    · obtain ⟨g, o, rfl, hg0, q00, q01, hb0, hb1⟩ := H.out.1 j hlt
      have h100 := H.out.2
      obtain ⟨y, hy⟩ : ∃ y, y = l[j].1 := ⟨_, rfl⟩
      obtain ⟨s, hs'⟩ : ∃ s, s = l[j].2 := ⟨_, rfl⟩
      rw [← hy] at q00 hb0
      rw [← hs'] at q01 hb1
      have HB := Lib.hid (And.intro hb0 (And.intro hb1 (And.intro hg0 (And.intro q00 q01))))
      have KN : Hid (∀ w', Below W.heap.size W w' → w'.cell? ⟨g, o + j * 2, none⟩ = some (.int .u64 (y : Int)) ∧ w'.cell? ⟨g, o + j * 2 + 1, none⟩ = some (.string s)) := Lib.hid (fun w' hb => ⟨(hb.cell (p := ⟨g, o + j * 2, none⟩) hg0).trans q00, (hb.cell (p := ⟨g, o + j * 2 + 1, none⟩) hg0).trans q01⟩)
      clear hy hs' hb0 hb1 q00 q01 hg0
      obtain ⟨q0, q1⟩ := KN.out _ HD.out.1.c.bel
      go_wp2
      go_still_tail 11, (by kernel_rfl)
      change wpList _ _ _ _ _ wr.drew
      go_wp2_with fail
      have hdd := HD.out.1.drew
      have hset := cl_set M C M (2 * j) v hs f y HB.out.1 s HB.out.2.1 _ hdd.c.s (by omega) (by omega)
      by_cases h32 : s.size = 32
      · by_cases hq : (f (y : Int)).isSome = true
        · have e1 : setF y s hs f = (hs, f, 4) := by unfold setF; rw [if_pos h32, if_pos hq]
          have t0 : ((s.size : Int) == 32) = true := by simp; omega
          have t1 : (s.size == 32) = true := by simp; omega
          rw [e1] at hset
          have HQ := Lib.hid (And.intro h32 hq)
          clear h32 hq e1
          refine hset.mono ?_
          clear hset
          rintro e w4 ⟨rfl, hd4⟩
          obtain ⟨v4, k4⟩ := hdd.set hd4
          have K4 := Lib.hid k4
          clear hd4 k4 hdd q0 q1
          obtain ⟨q0, q1⟩ := KN.out _ K4.out.c.bel
          have hlk := K4.out.mp.look (y : Int) (u64_wf y HB.out.1)
          rw [HQ.out.2] at hlk
          generalize (f (y : Int)).getD ⟨#[]⟩ = r at *
          go_wp2_with fail
          clear q0 q1 hlk t0 t1
          have K5 : Hid (Kp W w4 C M F (2 * (j + 1)) v4 hs f f hs.length) := Lib.hid (K4.out.up (by omega))
          have hl5 : hs.length ≤ j + 1 := by omega
          clear K4
          refine (cl_heights M C M (2 * (j + 1)) v4 hs f _ K5.out.c.s (by omega)).mono ?_
          rintro e w6 ⟨v6, rfl, hown, b6⟩
          have K6 := Lib.hid (And.intro (K5.out.below b6) hown)
          clear b6 hown K5
          obtain ⟨A6, cap6, rfl, -, hat⟩ := row_at K6.out.2
          have HAT := Lib.hid hat
          clear hat
          have hml : ∀ n, (Builtin.len_ #[44] 3 #[.map (some F)]).run Try.prog (w6.drewN n) = .ok (.int .i64 (hs.length : Int)) (w6.drewN n) := fun n => (K6.out.1.drewN n).mp.len _
          have QL : Hid (∀ n, Calls Try.prog 15 #[.pointer (some ⟨C, 0, none⟩)] (w6.drewN n) fun e w'' => e = .returned (.int .u64 (latF hs : Int)) ∧ ∃ m, w'' = w6.drewN m) := Lib.hid (fun n => Calls.quiet_of (cl_latest_q M C M (2 * (j + 1)) v4 hs f _ (K6.out.1.drewN n).c.s (by omega)))
          have hlp : ∃ nq : Nat, True := ⟨0, trivial⟩
          clear hlp
          by_cases hl0 : 0 < hs.length
          · obtain ⟨gl, rfl, -, cl⟩ := HAT.out (hs.length - 1) (by omega)
            obtain ⟨m, hm⟩ : ∃ m, hs.length = m + 1 := ⟨hs.length - 1, by omega⟩
            have hm2 : hs.length - 1 = m := by omega
            have u0 : decide ((0 : Int) < (hs.length : Int)) = true := decide_eq_true (by omega)
            have u1 : decide (0 < hs.length) = true := decide_eq_true hl0
            have u2 : wrap64 ((hs.length : Int) - 1) = (m : Int) := by rw [IntWalk.wrap64_in _ (by omega)]; omega
            have u3 : IntKind.i64.wrap ((hs.length : Int) - 1) = (m : Int) := by rw [IntWalk.i64_in _ (by omega)]; omega
            have u4 : (m : Int) < (hs.length : Int) := by omega
            have u5 : m < hs.length := by omega
            have u6 : (0 : Int) ≤ (m : Int) := by omega
            have hlat : latF hs = hs[hs.length - 1] := by unfold latF; rw [dif_pos hl0]
            rw [hlat] at QL
            generalize hs[hs.length - 1] = z at *
            rw [hm2] at cl
            clear hlat hm hm2 hl0
            go_wp2
            go_quiet ((first | (go_at_call 15; exact QL.out _)))
            generalize hwq : w6.drewN nq = wq
            have K7 : Hid (Kp W wq C M F (2 * (j + 1)) v4 hs f f hs.length ∧ ∀ i (hi : i < hs.length), wq.cell? ⟨gl, i, none⟩ = some (.int .u64 (hs[i] : Int)) ∧ gl < wq.heap.size) := Lib.hid (by
              rw [← hwq]
              refine ⟨K6.out.1.drewN _, fun i hi => ?_⟩
              obtain ⟨g', hA, hlt', hc'⟩ := HAT.out i hi
              injection hA with hA
              injection hA with hA
              subst hA
              exact ⟨hc', hlt'⟩)
            clear hwq nq hml QL u0 u1 u2 u3 u4 u5 u6 cl K6 HAT
            go_wp2
            go_loopw [10] (fun i wr => ∃ k : Nat, k ≤ hs.length ∧ i = .int .i64 (k : Int) ∧ Kp W wr C M F (2 * (j + 1)) v4 hs f f hs.length ∧ Below wq.heap.size wq wr) (fun i _ => hs.length - (intOf i).toNat)
            case atStart => exact ⟨0, Nat.zero_le _, rfl, K7.out.1, Below.refl _ _⟩
            case round =>
              obtain ⟨k, hk, rfl, hkp, hbw⟩ := hrel
              have KR := Lib.hid (And.intro hkp hbw)
              clear hkp hbw
              by_cases hlk : k < hs.length
              · obtain ⟨ck0, hgl⟩ := K7.out.2 k hlk
                have ck := (KR.out.2.cell (p := ⟨gl, k, none⟩) hgl).trans ck0
                have hsr := KR.out.1.c.s.ok.srt
                have hz64 := KR.out.1.c.s.ok.lt hs[k] (List.getElem_mem _)
                have hso : (f ((hs[k] : Nat) : Int)).isSome = true := (KR.out.1.c.s.ok.mem hs[k]).2 (List.getElem_mem _)
                have hfr := from_self hsr k hlk
                have hpv : k ≠ 0 → hs[k - 1] < hs[k] := fun h => sorted_at hsr (by omega) hlk
                have HPV := Lib.hid hpv
                have hroot := cl_root M C M (2 * (j + 1)) v4 hs f hs[k] hz64 wr KR.out.1.c.s
                rw [hso] at hroot
                clear ck0 hgl hsr hso hpv
                go_wp2_with fail
                refine hroot.mono ?_
                clear hroot
                rintro e w8 ⟨rfl, rfl⟩
                go_wp2_with fail
                have hfrm := cl_from M C M (2 * (j + 1)) v4 hs f hs[k] wr KR.out.1.c.s (by omega)
                rw [hfr] at hfrm
                refine hfrm.mono ?_
                clear hfrm hfr
                rintro e w9 ⟨rfl, b9⟩
                have K9 := Lib.hid (And.intro (KR.out.1.below b9) (KR.out.2.trans (b9.mono KR.out.2.size)))
                clear b9 KR ck
                obtain ⟨ck0, hgl⟩ := K7.out.2 k hlk
                have ck := (K9.out.2.cell (p := ⟨gl, k, none⟩) hgl).trans ck0
                have hget : ∀ n, (Instr.lookup 44 (.map (some F)) (.int .u64 ((hs[k] : Nat) : Int)) false).run Try.prog (w9.drewN n) = .ok (.string ((f ((hs[k] : Nat) : Int)).getD ⟨#[]⟩)) (w9.drewN n) := fun n => (K9.out.1.drewN n).mp.get _ (u64_wf _ hz64)
                clear ck0 hgl hz64
                generalize (f ((hs[k] : Nat) : Int)).getD ⟨#[]⟩ = r at *
                rcases k with _ | k
                · generalize hs[0] = z at *
                  go_wp2
                  go_quiet (fail)
                  generalize hwn : w9.drewN nq = w10
                  have K10 : Hid (Kp W w10 C M F (2 * (j + 1)) v4 hs f f hs.length ∧ Below wq.heap.size wq w10) := Lib.hid (by rw [← hwn]; exact ⟨K9.out.1.drewN _, below_drewN K9.out.2 _⟩)
                  clear hwn nq hget K9 ck
                  go_wp2
                  go_roundw
                  case rel => first | exact ⟨1, by omega, by go_num, K10.out.1, K10.out.2⟩ | ((repeat apply Exists.intro); exact ⟨⟨1, by omega, by go_num, K10.out.1, K10.out.2⟩, rfl⟩)
                  case measure => simp [intOf]; omega
                · obtain ⟨cp0, hgl⟩ := K7.out.2 k (by omega)
                  have cp := (K9.out.2.cell (p := ⟨gl, k, none⟩) hgl).trans cp0
                  have hzz := HPV.out (by omega)
                  rw [show hs[k + 1 - 1] = hs[k] from rfl] at hzz
                  have x0 : decide ((hs[k + 1] : Int) ≤ (hs[k] : Int)) = false := decide_eq_false (by omega)
                  have x1 : decide (hs[k + 1] ≤ hs[k]) = false := decide_eq_false (by omega)
                  clear cp0 hgl hzz HPV
                  generalize hs[k + 1] = z at *
                  generalize hs[k] = z2 at *
                  obtain ⟨k1, hk1⟩ : ∃ k1, k1 = k + 1 := ⟨_, rfl⟩
                  rw [← hk1] at ck hlk hk ⊢
                  have x2 : decide ((0 : Int) < (k1 : Int)) = true := decide_eq_true (by omega)
                  have x3 : decide (0 < k1) = true := decide_eq_true (by omega)
                  have x4 : wrap64 ((k1 : Int) - 1) = (k : Int) := by rw [IntWalk.wrap64_in _ (by omega)]; omega
                  have x5 : IntKind.i64.wrap ((k1 : Int) - 1) = (k : Int) := by rw [IntWalk.i64_in _ (by omega)]; omega
                  have x6 : (k : Int) < (hs.length : Int) := by omega
                  have x7 : k < hs.length := by omega
                  have HK1 := Lib.hid hk1
                  clear hk1
                  go_wp2
                  go_quiet (fail)
                  generalize hwn : w9.drewN nq = w10
                  have K10 : Hid (Kp W w10 C M F (2 * (j + 1)) v4 hs f f hs.length ∧ Below wq.heap.size wq w10) := Lib.hid (by rw [← hwn]; exact ⟨K9.out.1.drewN _, below_drewN K9.out.2 _⟩)
                  clear hwn nq hget K9 ck cp x0 x1 x2 x3 x4 x5 x6 x7
                  go_wp2
                  go_roundw
                  case rel => first | exact ⟨k1 + 1, by omega, by go_num, K10.out.1, K10.out.2⟩ | ((repeat apply Exists.intro); exact ⟨⟨k1 + 1, by omega, by go_num, K10.out.1, K10.out.2⟩, rfl⟩)
                  case measure => have := HK1.out; simp [intOf]; omega
              · go_wp2
                go_roundw
                case rel => first | exact ⟨j + 1, v4, hs, f, by omega, by go_num, hl5, KR.out.1⟩ | ((repeat apply Exists.intro); exact ⟨⟨j + 1, v4, hs, f, by omega, by go_num, hl5, KR.out.1⟩, rfl⟩)
                case measure => simp [intOf]; omega
          · have hz0 : hs.length = 0 := by omega
            have K7 := Lib.hid (fun n => K6.out.1.drewN n)
            rw [hz0] at hml ⊢
            clear K6 QL
            go_wp2
            go_quiet (fail)
            have K8 := Lib.hid (K7.out nq)
            generalize w6.drewN nq = wq at *
            clear hml K7
            go_wp2
            go_loop [10] (fun i => i = .int .i64 0) (fun i => 0)
            case atStart => rfl
            case round =>
              subst hrel
              go_wp2
              go_roundw
              case rel => first | exact ⟨j + 1, v4, hs, f, by omega, by go_num, hl5, K8.out⟩ | ((repeat apply Exists.intro); exact ⟨⟨j + 1, v4, hs, f, by omega, by go_num, hl5, K8.out⟩, rfl⟩)
              case measure => simp [intOf]; omega
        · have hq' : (f (y : Int)).isSome = false := by simpa using hq
          have e1 : setF y s hs f = (ins y hs, updT f y s, 0) := by unfold setF; rw [if_pos h32, if_neg hq]
          have t0 : ((s.size : Int) == 32) = true := by simp; omega
          have t1 : (s.size == 32) = true := by simp; omega
          rw [e1] at hset
          have HQ := Lib.hid (And.intro h32 hq')
          clear h32 hq hq' e1
          refine hset.mono ?_
          clear hset
          rintro e w4 ⟨rfl, hd4⟩
          obtain ⟨v4, k4⟩ := hdd.set hd4
          have K4 := Lib.hid k4
          clear hd4 k4 hdd q0 q1
          obtain ⟨q0, q1⟩ := KN.out _ K4.out.c.bel
          have hlk := K4.out.mp.look (y : Int) (u64_wf y HB.out.1)
          rw [HQ.out.2] at hlk
          generalize (f (y : Int)).getD ⟨#[]⟩ = r at *
          go_wp2
          go_still_tail 11, (by kernel_rfl)
          change wpList _ _ _ _ _ w4.drew
          obtain ⟨w5, hrun, k5⟩ := K4.out.drew.put (by omega) y HB.out.1 s HB.out.2.1 HQ.out.2
          have K5 : Hid (Kp W w5 C M F (2 * (j + 1)) v4 (ins y hs) (updT f y s) (updT f y s) (ins y hs).length) := Lib.hid (by rw [ins_length]; exact k5.up (by omega))
          have hl5 : (ins y hs).length ≤ j + 1 := by rw [ins_length]; have := HD.out.2; omega
          generalize ins y hs = hs5 at *
          generalize updT f y s = f5 at *
          clear k5 K4 hlk q0 q1 t0 t1
          go_wp2_with fail
          clear hrun
          refine (cl_heights M C M (2 * (j + 1)) v4 hs5 f5 _ K5.out.c.s (by omega)).mono ?_
          rintro e w6 ⟨v6, rfl, hown, b6⟩
          have K6 := Lib.hid (And.intro (K5.out.below b6) hown)
          clear b6 hown K5
          obtain ⟨A6, cap6, rfl, -, hat⟩ := row_at K6.out.2
          have HAT := Lib.hid hat
          clear hat
          have hml : ∀ n, (Builtin.len_ #[44] 3 #[.map (some F)]).run Try.prog (w6.drewN n) = .ok (.int .i64 (hs5.length : Int)) (w6.drewN n) := fun n => (K6.out.1.drewN n).mp.len _
          have QL : Hid (∀ n, Calls Try.prog 15 #[.pointer (some ⟨C, 0, none⟩)] (w6.drewN n) fun e w'' => e = .returned (.int .u64 (latF hs5 : Int)) ∧ ∃ m, w'' = w6.drewN m) := Lib.hid (fun n => Calls.quiet_of (cl_latest_q M C M (2 * (j + 1)) v4 hs5 f5 _ (K6.out.1.drewN n).c.s (by omega)))
          have hlp : ∃ nq : Nat, True := ⟨0, trivial⟩
          clear hlp
          by_cases hl0 : 0 < hs5.length
          · obtain ⟨gl, rfl, -, cl⟩ := HAT.out (hs5.length - 1) (by omega)
            obtain ⟨m, hm⟩ : ∃ m, hs5.length = m + 1 := ⟨hs5.length - 1, by omega⟩
            have hm2 : hs5.length - 1 = m := by omega
            have u0 : decide ((0 : Int) < (hs5.length : Int)) = true := decide_eq_true (by omega)
            have u1 : decide (0 < hs5.length) = true := decide_eq_true hl0
            have u2 : wrap64 ((hs5.length : Int) - 1) = (m : Int) := by rw [IntWalk.wrap64_in _ (by omega)]; omega
            have u3 : IntKind.i64.wrap ((hs5.length : Int) - 1) = (m : Int) := by rw [IntWalk.i64_in _ (by omega)]; omega
            have u4 : (m : Int) < (hs5.length : Int) := by omega
            have u5 : m < hs5.length := by omega
            have u6 : (0 : Int) ≤ (m : Int) := by omega
            have hlat : latF hs5 = hs5[hs5.length - 1] := by unfold latF; rw [dif_pos hl0]
            rw [hlat] at QL
            generalize hs5[hs5.length - 1] = z at *
            rw [hm2] at cl
            clear hlat hm hm2 hl0
            go_wp2
            go_quiet ((first | (go_at_call 15; exact QL.out _)))
            generalize hwq : w6.drewN nq = wq
            have K7 : Hid (Kp W wq C M F (2 * (j + 1)) v4 hs5 f5 f5 hs5.length ∧ ∀ i (hi : i < hs5.length), wq.cell? ⟨gl, i, none⟩ = some (.int .u64 (hs5[i] : Int)) ∧ gl < wq.heap.size) := Lib.hid (by
              rw [← hwq]
              refine ⟨K6.out.1.drewN _, fun i hi => ?_⟩
              obtain ⟨g', hA, hlt', hc'⟩ := HAT.out i hi
              injection hA with hA
              injection hA with hA
              subst hA
              exact ⟨hc', hlt'⟩)
            clear hwq nq hml QL u0 u1 u2 u3 u4 u5 u6 cl K6 HAT
            go_wp2
            go_loopw [10] (fun i wr => ∃ k : Nat, k ≤ hs5.length ∧ i = .int .i64 (k : Int) ∧ Kp W wr C M F (2 * (j + 1)) v4 hs5 f5 f5 hs5.length ∧ Below wq.heap.size wq wr) (fun i _ => hs5.length - (intOf i).toNat)
            case atStart => exact ⟨0, Nat.zero_le _, rfl, K7.out.1, Below.refl _ _⟩
            case round =>
              obtain ⟨k, hk, rfl, hkp, hbw⟩ := hrel
              have KR := Lib.hid (And.intro hkp hbw)
              clear hkp hbw
              by_cases hlk : k < hs5.length
              · obtain ⟨ck0, hgl⟩ := K7.out.2 k hlk
                have ck := (KR.out.2.cell (p := ⟨gl, k, none⟩) hgl).trans ck0
                have hsr := KR.out.1.c.s.ok.srt
                have hz64 := KR.out.1.c.s.ok.lt hs5[k] (List.getElem_mem _)
                have hso : (f5 ((hs5[k] : Nat) : Int)).isSome = true := (KR.out.1.c.s.ok.mem hs5[k]).2 (List.getElem_mem _)
                have hfr := from_self hsr k hlk
                have hpv : k ≠ 0 → hs5[k - 1] < hs5[k] := fun h => sorted_at hsr (by omega) hlk
                have HPV := Lib.hid hpv
                have hroot := cl_root M C M (2 * (j + 1)) v4 hs5 f5 hs5[k] hz64 wr KR.out.1.c.s
                rw [hso] at hroot
                clear ck0 hgl hsr hso hpv
                go_wp2_with fail
                refine hroot.mono ?_
                clear hroot
                rintro e w8 ⟨rfl, rfl⟩
                go_wp2_with fail
                have hfrm := cl_from M C M (2 * (j + 1)) v4 hs5 f5 hs5[k] wr KR.out.1.c.s (by omega)
                rw [hfr] at hfrm
                refine hfrm.mono ?_
                clear hfrm hfr
                rintro e w9 ⟨rfl, b9⟩
                have K9 := Lib.hid (And.intro (KR.out.1.below b9) (KR.out.2.trans (b9.mono KR.out.2.size)))
                clear b9 KR ck
                obtain ⟨ck0, hgl⟩ := K7.out.2 k hlk
                have ck := (K9.out.2.cell (p := ⟨gl, k, none⟩) hgl).trans ck0
                have hget : ∀ n, (Instr.lookup 44 (.map (some F)) (.int .u64 ((hs5[k] : Nat) : Int)) false).run Try.prog (w9.drewN n) = .ok (.string ((f5 ((hs5[k] : Nat) : Int)).getD ⟨#[]⟩)) (w9.drewN n) := fun n => (K9.out.1.drewN n).mp.get _ (u64_wf _ hz64)
                clear ck0 hgl hz64
                generalize (f5 ((hs5[k] : Nat) : Int)).getD ⟨#[]⟩ = r at *
                rcases k with _ | k
                · generalize hs5[0] = z at *
                  go_wp2
                  go_quiet (fail)
                  generalize hwn : w9.drewN nq = w10
                  have K10 : Hid (Kp W w10 C M F (2 * (j + 1)) v4 hs5 f5 f5 hs5.length ∧ Below wq.heap.size wq w10) := Lib.hid (by rw [← hwn]; exact ⟨K9.out.1.drewN _, below_drewN K9.out.2 _⟩)
                  clear hwn nq hget K9 ck
                  go_wp2
                  go_roundw
                  case rel => first | exact ⟨1, by omega, by go_num, K10.out.1, K10.out.2⟩ | ((repeat apply Exists.intro); exact ⟨⟨1, by omega, by go_num, K10.out.1, K10.out.2⟩, rfl⟩)
                  case measure => simp [intOf]; omega
                · obtain ⟨cp0, hgl⟩ := K7.out.2 k (by omega)
                  have cp := (K9.out.2.cell (p := ⟨gl, k, none⟩) hgl).trans cp0
                  have hzz := HPV.out (by omega)
                  rw [show hs5[k + 1 - 1] = hs5[k] from rfl] at hzz
                  have x0 : decide ((hs5[k + 1] : Int) ≤ (hs5[k] : Int)) = false := decide_eq_false (by omega)
                  have x1 : decide (hs5[k + 1] ≤ hs5[k]) = false := decide_eq_false (by omega)
                  clear cp0 hgl hzz HPV
                  generalize hs5[k + 1] = z at *
                  generalize hs5[k] = z2 at *
                  obtain ⟨k1, hk1⟩ : ∃ k1, k1 = k + 1 := ⟨_, rfl⟩
                  rw [← hk1] at ck hlk hk ⊢
                  have x2 : decide ((0 : Int) < (k1 : Int)) = true := decide_eq_true (by omega)
                  have x3 : decide (0 < k1) = true := decide_eq_true (by omega)
                  have x4 : wrap64 ((k1 : Int) - 1) = (k : Int) := by rw [IntWalk.wrap64_in _ (by omega)]; omega
                  have x5 : IntKind.i64.wrap ((k1 : Int) - 1) = (k : Int) := by rw [IntWalk.i64_in _ (by omega)]; omega
                  have x6 : (k : Int) < (hs5.length : Int) := by omega
                  have x7 : k < hs5.length := by omega
                  have HK1 := Lib.hid hk1
                  clear hk1
                  go_wp2
                  go_quiet (fail)
                  generalize hwn : w9.drewN nq = w10
                  have K10 : Hid (Kp W w10 C M F (2 * (j + 1)) v4 hs5 f5 f5 hs5.length ∧ Below wq.heap.size wq w10) := Lib.hid (by rw [← hwn]; exact ⟨K9.out.1.drewN _, below_drewN K9.out.2 _⟩)
                  clear hwn nq hget K9 ck cp x0 x1 x2 x3 x4 x5 x6 x7
                  go_wp2
                  go_roundw
                  case rel => first | exact ⟨k1 + 1, by omega, by go_num, K10.out.1, K10.out.2⟩ | ((repeat apply Exists.intro); exact ⟨⟨k1 + 1, by omega, by go_num, K10.out.1, K10.out.2⟩, rfl⟩)
                  case measure => have := HK1.out; simp [intOf]; omega
              · go_wp2
                go_roundw
                case rel => first | exact ⟨j + 1, v4, hs5, f5, by omega, by go_num, hl5, KR.out.1⟩ | ((repeat apply Exists.intro); exact ⟨⟨j + 1, v4, hs5, f5, by omega, by go_num, hl5, KR.out.1⟩, rfl⟩)
                case measure => simp [intOf]; omega
          · have hz0 : hs5.length = 0 := by omega
            have K7 := Lib.hid (fun n => K6.out.1.drewN n)
            rw [hz0] at hml ⊢
            clear K6 QL
            go_wp2
            go_quiet (fail)
            have K8 := Lib.hid (K7.out nq)
            generalize w6.drewN nq = wq at *
            clear hml K7
            go_wp2
            go_loop [10] (fun i => i = .int .i64 0) (fun i => 0)
            case atStart => rfl
            case round =>
              subst hrel
              go_wp2
              go_roundw
              case rel => first | exact ⟨j + 1, v4, hs5, f5, by omega, by go_num, hl5, K8.out⟩ | ((repeat apply Exists.intro); exact ⟨⟨j + 1, v4, hs5, f5, by omega, by go_num, hl5, K8.out⟩, rfl⟩)
              case measure => simp [intOf]; omega
      · have e1 : setF y s hs f = (hs, f, 1) := by unfold setF; rw [if_neg h32]
        have t0 : ((s.size : Int) == 32) = false := by simp; omega
        have t1 : (s.size == 32) = false := by simp; omega
        rw [e1] at hset
        have HQ := Lib.hid h32
        clear h32 e1
        cases hq : (f (y : Int)).isSome with
        | false =>
          refine hset.mono ?_
          clear hset
          rintro e w4 ⟨rfl, hd4⟩
          obtain ⟨v4, k4⟩ := hdd.set hd4
          have K4 := Lib.hid k4
          clear hd4 k4 hdd q0 q1
          obtain ⟨q0, q1⟩ := KN.out _ K4.out.c.bel
          have hlk := K4.out.mp.look (y : Int) (u64_wf y HB.out.1)
          rw [hq] at hlk
          generalize (f (y : Int)).getD ⟨#[]⟩ = r at *
          go_wp2_with fail
          clear q0 q1 hlk t0 t1
          have K5 : Hid (Kp W w4 C M F (2 * (j + 1)) v4 hs f f hs.length) := Lib.hid (K4.out.up (by omega))
          have hl5 : hs.length ≤ j + 1 := by omega
          clear K4
          refine (cl_heights M C M (2 * (j + 1)) v4 hs f _ K5.out.c.s (by omega)).mono ?_
          rintro e w6 ⟨v6, rfl, hown, b6⟩
          have K6 := Lib.hid (And.intro (K5.out.below b6) hown)
          clear b6 hown K5
          obtain ⟨A6, cap6, rfl, -, hat⟩ := row_at K6.out.2
          have HAT := Lib.hid hat
          clear hat
          have hml : ∀ n, (Builtin.len_ #[44] 3 #[.map (some F)]).run Try.prog (w6.drewN n) = .ok (.int .i64 (hs.length : Int)) (w6.drewN n) := fun n => (K6.out.1.drewN n).mp.len _
          have QL : Hid (∀ n, Calls Try.prog 15 #[.pointer (some ⟨C, 0, none⟩)] (w6.drewN n) fun e w'' => e = .returned (.int .u64 (latF hs : Int)) ∧ ∃ m, w'' = w6.drewN m) := Lib.hid (fun n => Calls.quiet_of (cl_latest_q M C M (2 * (j + 1)) v4 hs f _ (K6.out.1.drewN n).c.s (by omega)))
          have hlp : ∃ nq : Nat, True := ⟨0, trivial⟩
          clear hlp
          by_cases hl0 : 0 < hs.length
          · obtain ⟨gl, rfl, -, cl⟩ := HAT.out (hs.length - 1) (by omega)
            obtain ⟨m, hm⟩ : ∃ m, hs.length = m + 1 := ⟨hs.length - 1, by omega⟩
            have hm2 : hs.length - 1 = m := by omega
            have u0 : decide ((0 : Int) < (hs.length : Int)) = true := decide_eq_true (by omega)
            have u1 : decide (0 < hs.length) = true := decide_eq_true hl0
            have u2 : wrap64 ((hs.length : Int) - 1) = (m : Int) := by rw [IntWalk.wrap64_in _ (by omega)]; omega
            have u3 : IntKind.i64.wrap ((hs.length : Int) - 1) = (m : Int) := by rw [IntWalk.i64_in _ (by omega)]; omega
            have u4 : (m : Int) < (hs.length : Int) := by omega
            have u5 : m < hs.length := by omega
            have u6 : (0 : Int) ≤ (m : Int) := by omega
            have hlat : latF hs = hs[hs.length - 1] := by unfold latF; rw [dif_pos hl0]
            rw [hlat] at QL
            generalize hs[hs.length - 1] = z at *
            rw [hm2] at cl
            clear hlat hm hm2 hl0
            go_wp2
            go_quiet ((first | (go_at_call 15; exact QL.out _)))
            generalize hwq : w6.drewN nq = wq
            have K7 : Hid (Kp W wq C M F (2 * (j + 1)) v4 hs f f hs.length ∧ ∀ i (hi : i < hs.length), wq.cell? ⟨gl, i, none⟩ = some (.int .u64 (hs[i] : Int)) ∧ gl < wq.heap.size) := Lib.hid (by
              rw [← hwq]
              refine ⟨K6.out.1.drewN _, fun i hi => ?_⟩
              obtain ⟨g', hA, hlt', hc'⟩ := HAT.out i hi
              injection hA with hA
              injection hA with hA
              subst hA
              exact ⟨hc', hlt'⟩)
            clear hwq nq hml QL u0 u1 u2 u3 u4 u5 u6 cl K6 HAT
            go_wp2
            go_loopw [10] (fun i wr => ∃ k : Nat, k ≤ hs.length ∧ i = .int .i64 (k : Int) ∧ Kp W wr C M F (2 * (j + 1)) v4 hs f f hs.length ∧ Below wq.heap.size wq wr) (fun i _ => hs.length - (intOf i).toNat)
            case atStart => exact ⟨0, Nat.zero_le _, rfl, K7.out.1, Below.refl _ _⟩
            case round =>
              obtain ⟨k, hk, rfl, hkp, hbw⟩ := hrel
              have KR := Lib.hid (And.intro hkp hbw)
              clear hkp hbw
              by_cases hlk : k < hs.length
              · obtain ⟨ck0, hgl⟩ := K7.out.2 k hlk
                have ck := (KR.out.2.cell (p := ⟨gl, k, none⟩) hgl).trans ck0
                have hsr := KR.out.1.c.s.ok.srt
                have hz64 := KR.out.1.c.s.ok.lt hs[k] (List.getElem_mem _)
                have hso : (f ((hs[k] : Nat) : Int)).isSome = true := (KR.out.1.c.s.ok.mem hs[k]).2 (List.getElem_mem _)
                have hfr := from_self hsr k hlk
                have hpv : k ≠ 0 → hs[k - 1] < hs[k] := fun h => sorted_at hsr (by omega) hlk
                have HPV := Lib.hid hpv
                have hroot := cl_root M C M (2 * (j + 1)) v4 hs f hs[k] hz64 wr KR.out.1.c.s
                rw [hso] at hroot
                clear ck0 hgl hsr hso hpv
                go_wp2_with fail
                refine hroot.mono ?_
                clear hroot
                rintro e w8 ⟨rfl, rfl⟩
                go_wp2_with fail
                have hfrm := cl_from M C M (2 * (j + 1)) v4 hs f hs[k] wr KR.out.1.c.s (by omega)
                rw [hfr] at hfrm
                refine hfrm.mono ?_
                clear hfrm hfr
                rintro e w9 ⟨rfl, b9⟩
                have K9 := Lib.hid (And.intro (KR.out.1.below b9) (KR.out.2.trans (b9.mono KR.out.2.size)))
                clear b9 KR ck
                obtain ⟨ck0, hgl⟩ := K7.out.2 k hlk
                have ck := (K9.out.2.cell (p := ⟨gl, k, none⟩) hgl).trans ck0
                have hget : ∀ n, (Instr.lookup 44 (.map (some F)) (.int .u64 ((hs[k] : Nat) : Int)) false).run Try.prog (w9.drewN n) = .ok (.string ((f ((hs[k] : Nat) : Int)).getD ⟨#[]⟩)) (w9.drewN n) := fun n => (K9.out.1.drewN n).mp.get _ (u64_wf _ hz64)
                clear ck0 hgl hz64
                generalize (f ((hs[k] : Nat) : Int)).getD ⟨#[]⟩ = r at *
                rcases k with _ | k
                · generalize hs[0] = z at *
                  go_wp2
                  go_quiet (fail)
                  generalize hwn : w9.drewN nq = w10
                  have K10 : Hid (Kp W w10 C M F (2 * (j + 1)) v4 hs f f hs.length ∧ Below wq.heap.size wq w10) := Lib.hid (by rw [← hwn]; exact ⟨K9.out.1.drewN _, below_drewN K9.out.2 _⟩)
                  clear hwn nq hget K9 ck
                  go_wp2
                  go_roundw
                  case rel => first | exact ⟨1, by omega, by go_num, K10.out.1, K10.out.2⟩ | ((repeat apply Exists.intro); exact ⟨⟨1, by omega, by go_num, K10.out.1, K10.out.2⟩, rfl⟩)
                  case measure => simp [intOf]; omega
                · obtain ⟨cp0, hgl⟩ := K7.out.2 k (by omega)
                  have cp := (K9.out.2.cell (p := ⟨gl, k, none⟩) hgl).trans cp0
                  have hzz := HPV.out (by omega)
                  rw [show hs[k + 1 - 1] = hs[k] from rfl] at hzz
                  have x0 : decide ((hs[k + 1] : Int) ≤ (hs[k] : Int)) = false := decide_eq_false (by omega)
                  have x1 : decide (hs[k + 1] ≤ hs[k]) = false := decide_eq_false (by omega)
                  clear cp0 hgl hzz HPV
                  generalize hs[k + 1] = z at *
                  generalize hs[k] = z2 at *
                  obtain ⟨k1, hk1⟩ : ∃ k1, k1 = k + 1 := ⟨_, rfl⟩
                  rw [← hk1] at ck hlk hk ⊢
                  have x2 : decide ((0 : Int) < (k1 : Int)) = true := decide_eq_true (by omega)
                  have x3 : decide (0 < k1) = true := decide_eq_true (by omega)
                  have x4 : wrap64 ((k1 : Int) - 1) = (k : Int) := by rw [IntWalk.wrap64_in _ (by omega)]; omega
                  have x5 : IntKind.i64.wrap ((k1 : Int) - 1) = (k : Int) := by rw [IntWalk.i64_in _ (by omega)]; omega
                  have x6 : (k : Int) < (hs.length : Int) := by omega
                  have x7 : k < hs.length := by omega
                  have HK1 := Lib.hid hk1
                  clear hk1
                  go_wp2
                  go_quiet (fail)
                  generalize hwn : w9.drewN nq = w10
                  have K10 : Hid (Kp W w10 C M F (2 * (j + 1)) v4 hs f f hs.length ∧ Below wq.heap.size wq w10) := Lib.hid (by rw [← hwn]; exact ⟨K9.out.1.drewN _, below_drewN K9.out.2 _⟩)
                  clear hwn nq hget K9 ck cp x0 x1 x2 x3 x4 x5 x6 x7
                  go_wp2
                  go_roundw
                  case rel => first | exact ⟨k1 + 1, by omega, by go_num, K10.out.1, K10.out.2⟩ | ((repeat apply Exists.intro); exact ⟨⟨k1 + 1, by omega, by go_num, K10.out.1, K10.out.2⟩, rfl⟩)
                  case measure => have := HK1.out; simp [intOf]; omega
              · go_wp2
                go_roundw
                case rel => first | exact ⟨j + 1, v4, hs, f, by omega, by go_num, hl5, KR.out.1⟩ | ((repeat apply Exists.intro); exact ⟨⟨j + 1, v4, hs, f, by omega, by go_num, hl5, KR.out.1⟩, rfl⟩)
                case measure => simp [intOf]; omega
          · have hz0 : hs.length = 0 := by omega
            have K7 := Lib.hid (fun n => K6.out.1.drewN n)
            rw [hz0] at hml ⊢
            clear K6 QL
            go_wp2
            go_quiet (fail)
            have K8 := Lib.hid (K7.out nq)
            generalize w6.drewN nq = wq at *
            clear hml K7
            go_wp2
            go_loop [10] (fun i => i = .int .i64 0) (fun i => 0)
            case atStart => rfl
            case round =>
              subst hrel
              go_wp2
              go_roundw
              case rel => first | exact ⟨j + 1, v4, hs, f, by omega, by go_num, hl5, K8.out⟩ | ((repeat apply Exists.intro); exact ⟨⟨j + 1, v4, hs, f, by omega, by go_num, hl5, K8.out⟩, rfl⟩)
              case measure => simp [intOf]; omega
        | true =>
          refine hset.mono ?_
          clear hset
          rintro e w4 ⟨rfl, hd4⟩
          obtain ⟨v4, k4⟩ := hdd.set hd4
          have K4 := Lib.hid k4
          clear hd4 k4 hdd q0 q1
          obtain ⟨q0, q1⟩ := KN.out _ K4.out.c.bel
          have hlk := K4.out.mp.look (y : Int) (u64_wf y HB.out.1)
          rw [hq] at hlk
          generalize (f (y : Int)).getD ⟨#[]⟩ = r at *
          go_wp2_with fail
          clear q0 q1 hlk t0 t1
          have K5 : Hid (Kp W w4 C M F (2 * (j + 1)) v4 hs f f hs.length) := Lib.hid (K4.out.up (by omega))
          have hl5 : hs.length ≤ j + 1 := by omega
          clear K4
          refine (cl_heights M C M (2 * (j + 1)) v4 hs f _ K5.out.c.s (by omega)).mono ?_
          rintro e w6 ⟨v6, rfl, hown, b6⟩
          have K6 := Lib.hid (And.intro (K5.out.below b6) hown)
          clear b6 hown K5
          obtain ⟨A6, cap6, rfl, -, hat⟩ := row_at K6.out.2
          have HAT := Lib.hid hat
          clear hat
          have hml : ∀ n, (Builtin.len_ #[44] 3 #[.map (some F)]).run Try.prog (w6.drewN n) = .ok (.int .i64 (hs.length : Int)) (w6.drewN n) := fun n => (K6.out.1.drewN n).mp.len _
          have QL : Hid (∀ n, Calls Try.prog 15 #[.pointer (some ⟨C, 0, none⟩)] (w6.drewN n) fun e w'' => e = .returned (.int .u64 (latF hs : Int)) ∧ ∃ m, w'' = w6.drewN m) := Lib.hid (fun n => Calls.quiet_of (cl_latest_q M C M (2 * (j + 1)) v4 hs f _ (K6.out.1.drewN n).c.s (by omega)))
          have hlp : ∃ nq : Nat, True := ⟨0, trivial⟩
          clear hlp
          by_cases hl0 : 0 < hs.length
          · obtain ⟨gl, rfl, -, cl⟩ := HAT.out (hs.length - 1) (by omega)
            obtain ⟨m, hm⟩ : ∃ m, hs.length = m + 1 := ⟨hs.length - 1, by omega⟩
            have hm2 : hs.length - 1 = m := by omega
            have u0 : decide ((0 : Int) < (hs.length : Int)) = true := decide_eq_true (by omega)
            have u1 : decide (0 < hs.length) = true := decide_eq_true hl0
            have u2 : wrap64 ((hs.length : Int) - 1) = (m : Int) := by rw [IntWalk.wrap64_in _ (by omega)]; omega
            have u3 : IntKind.i64.wrap ((hs.length : Int) - 1) = (m : Int) := by rw [IntWalk.i64_in _ (by omega)]; omega
            have u4 : (m : Int) < (hs.length : Int) := by omega
            have u5 : m < hs.length := by omega
            have u6 : (0 : Int) ≤ (m : Int) := by omega
            have hlat : latF hs = hs[hs.length - 1] := by unfold latF; rw [dif_pos hl0]
            rw [hlat] at QL
            generalize hs[hs.length - 1] = z at *
            rw [hm2] at cl
            clear hlat hm hm2 hl0
            go_wp2
            go_quiet ((first | (go_at_call 15; exact QL.out _)))
            generalize hwq : w6.drewN nq = wq
            have K7 : Hid (Kp W wq C M F (2 * (j + 1)) v4 hs f f hs.length ∧ ∀ i (hi : i < hs.length), wq.cell? ⟨gl, i, none⟩ = some (.int .u64 (hs[i] : Int)) ∧ gl < wq.heap.size) := Lib.hid (by
              rw [← hwq]
              refine ⟨K6.out.1.drewN _, fun i hi => ?_⟩
              obtain ⟨g', hA, hlt', hc'⟩ := HAT.out i hi
              injection hA with hA
              injection hA with hA
              subst hA
              exact ⟨hc', hlt'⟩)
            clear hwq nq hml QL u0 u1 u2 u3 u4 u5 u6 cl K6 HAT
            go_wp2
            go_loopw [10] (fun i wr => ∃ k : Nat, k ≤ hs.length ∧ i = .int .i64 (k : Int) ∧ Kp W wr C M F (2 * (j + 1)) v4 hs f f hs.length ∧ Below wq.heap.size wq wr) (fun i _ => hs.length - (intOf i).toNat)
            case atStart => exact ⟨0, Nat.zero_le _, rfl, K7.out.1, Below.refl _ _⟩
            case round =>
              obtain ⟨k, hk, rfl, hkp, hbw⟩ := hrel
              have KR := Lib.hid (And.intro hkp hbw)
              clear hkp hbw
              by_cases hlk : k < hs.length
              · obtain ⟨ck0, hgl⟩ := K7.out.2 k hlk
                have ck := (KR.out.2.cell (p := ⟨gl, k, none⟩) hgl).trans ck0
                have hsr := KR.out.1.c.s.ok.srt
                have hz64 := KR.out.1.c.s.ok.lt hs[k] (List.getElem_mem _)
                have hso : (f ((hs[k] : Nat) : Int)).isSome = true := (KR.out.1.c.s.ok.mem hs[k]).2 (List.getElem_mem _)
                have hfr := from_self hsr k hlk
                have hpv : k ≠ 0 → hs[k - 1] < hs[k] := fun h => sorted_at hsr (by omega) hlk
                have HPV := Lib.hid hpv
                have hroot := cl_root M C M (2 * (j + 1)) v4 hs f hs[k] hz64 wr KR.out.1.c.s
                rw [hso] at hroot
                clear ck0 hgl hsr hso hpv
                go_wp2_with fail
                refine hroot.mono ?_
                clear hroot
                rintro e w8 ⟨rfl, rfl⟩
                go_wp2_with fail
                have hfrm := cl_from M C M (2 * (j + 1)) v4 hs f hs[k] wr KR.out.1.c.s (by omega)
                rw [hfr] at hfrm
                refine hfrm.mono ?_
                clear hfrm hfr
                rintro e w9 ⟨rfl, b9⟩
                have K9 := Lib.hid (And.intro (KR.out.1.below b9) (KR.out.2.trans (b9.mono KR.out.2.size)))
                clear b9 KR ck
                obtain ⟨ck0, hgl⟩ := K7.out.2 k hlk
                have ck := (K9.out.2.cell (p := ⟨gl, k, none⟩) hgl).trans ck0
                have hget : ∀ n, (Instr.lookup 44 (.map (some F)) (.int .u64 ((hs[k] : Nat) : Int)) false).run Try.prog (w9.drewN n) = .ok (.string ((f ((hs[k] : Nat) : Int)).getD ⟨#[]⟩)) (w9.drewN n) := fun n => (K9.out.1.drewN n).mp.get _ (u64_wf _ hz64)
                clear ck0 hgl hz64
                generalize (f ((hs[k] : Nat) : Int)).getD ⟨#[]⟩ = r at *
                rcases k with _ | k
                · generalize hs[0] = z at *
                  go_wp2
                  go_quiet (fail)
                  generalize hwn : w9.drewN nq = w10
                  have K10 : Hid (Kp W w10 C M F (2 * (j + 1)) v4 hs f f hs.length ∧ Below wq.heap.size wq w10) := Lib.hid (by rw [← hwn]; exact ⟨K9.out.1.drewN _, below_drewN K9.out.2 _⟩)
                  clear hwn nq hget K9 ck
                  go_wp2
                  go_roundw
                  case rel => first | exact ⟨1, by omega, by go_num, K10.out.1, K10.out.2⟩ | ((repeat apply Exists.intro); exact ⟨⟨1, by omega, by go_num, K10.out.1, K10.out.2⟩, rfl⟩)
                  case measure => simp [intOf]; omega
                · obtain ⟨cp0, hgl⟩ := K7.out.2 k (by omega)
                  have cp := (K9.out.2.cell (p := ⟨gl, k, none⟩) hgl).trans cp0
                  have hzz := HPV.out (by omega)
                  rw [show hs[k + 1 - 1] = hs[k] from rfl] at hzz
                  have x0 : decide ((hs[k + 1] : Int) ≤ (hs[k] : Int)) = false := decide_eq_false (by omega)
                  have x1 : decide (hs[k + 1] ≤ hs[k]) = false := decide_eq_false (by omega)
                  clear cp0 hgl hzz HPV
                  generalize hs[k + 1] = z at *
                  generalize hs[k] = z2 at *
                  obtain ⟨k1, hk1⟩ : ∃ k1, k1 = k + 1 := ⟨_, rfl⟩
                  rw [← hk1] at ck hlk hk ⊢
                  have x2 : decide ((0 : Int) < (k1 : Int)) = true := decide_eq_true (by omega)
                  have x3 : decide (0 < k1) = true := decide_eq_true (by omega)
                  have x4 : wrap64 ((k1 : Int) - 1) = (k : Int) := by rw [IntWalk.wrap64_in _ (by omega)]; omega
                  have x5 : IntKind.i64.wrap ((k1 : Int) - 1) = (k : Int) := by rw [IntWalk.i64_in _ (by omega)]; omega
                  have x6 : (k : Int) < (hs.length : Int) := by omega
                  have x7 : k < hs.length := by omega
                  have HK1 := Lib.hid hk1
                  clear hk1
                  go_wp2
                  go_quiet (fail)
                  generalize hwn : w9.drewN nq = w10
                  have K10 : Hid (Kp W w10 C M F (2 * (j + 1)) v4 hs f f hs.length ∧ Below wq.heap.size wq w10) := Lib.hid (by rw [← hwn]; exact ⟨K9.out.1.drewN _, below_drewN K9.out.2 _⟩)
                  clear hwn nq hget K9 ck cp x0 x1 x2 x3 x4 x5 x6 x7
                  go_wp2
                  go_roundw
                  case rel => first | exact ⟨k1 + 1, by omega, by go_num, K10.out.1, K10.out.2⟩ | ((repeat apply Exists.intro); exact ⟨⟨k1 + 1, by omega, by go_num, K10.out.1, K10.out.2⟩, rfl⟩)
                  case measure => have := HK1.out; simp [intOf]; omega
              · go_wp2
                go_roundw
                case rel => first | exact ⟨j + 1, v4, hs, f, by omega, by go_num, hl5, KR.out.1⟩ | ((repeat apply Exists.intro); exact ⟨⟨j + 1, v4, hs, f, by omega, by go_num, hl5, KR.out.1⟩, rfl⟩)
                case measure => simp [intOf]; omega
          · have hz0 : hs.length = 0 := by omega
            have K7 := Lib.hid (fun n => K6.out.1.drewN n)
            rw [hz0] at hml ⊢
            clear K6 QL
            go_wp2
            go_quiet (fail)
            have K8 := Lib.hid (K7.out nq)
            generalize w6.drewN nq = wq at *
            clear hml K7
            go_wp2
            go_loop [10] (fun i => i = .int .i64 0) (fun i => 0)
            case atStart => rfl
            case round =>
              subst hrel
              go_wp2
              go_roundw
              case rel => first | exact ⟨j + 1, v4, hs, f, by omega, by go_num, hl5, K8.out⟩ | ((repeat apply Exists.intro); exact ⟨⟨j + 1, v4, hs, f, by omega, by go_num, hl5, K8.out⟩, rfl⟩)
              case measure => simp [intOf]; omega
    · go_wp2
      go_ret
      exact ⟨rfl, HD.out.1.c.bel⟩
end Go.Proofs.Ytdonoilcegaleaa.clientKeeps
namespace Go.Proofs.Ytdonoilcegaleaa
open Go.RowKit
theorem clientKeeps_walk (v : Value) {W : World} (h0 : ∃ A cap l, v = .slice A l.length cap ∧ l.length ≤ maxLen ∧ KnAt W A l) :
    Calls Try.prog 4 #[v] W fun e w' => e = .returned (.bool true) ∧ Below W.heap.size W w' := by
  obtain ⟨A, cap, l, rfl, _, hc⟩ := h0
  by_cases hl : 100 < l.length
  · exact clientKeeps.long A cap l W hl
  · exact clientKeeps.few_ A cap l W hc hl
end Go.Proofs.Ytdonoilcegaleaa
