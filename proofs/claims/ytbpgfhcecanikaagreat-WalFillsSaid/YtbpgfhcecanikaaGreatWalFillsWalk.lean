/- carracklaw07.WalFills walked. No condition. -/
import Derived.WalkSpells
import Derived.Outline
import Derived.Deep.QuietTactic
import Derived.Test.YtbpgfhcecanikaaGreatLwYQ
import Derived.Test.YtbpgfhcecanikaaGreatWrGQ
import Derived.Test.YtbpgfhcecanikaaGreatHeldMonoQ
import Derived.Test.YtbpgfhcecanikaaGreatStrsOpenQ
import Derived.Test.YtbpgfhcecanikaaGreatRfNewQ
namespace Go.Proofs.YtbpgfhcecanikaaGreat.walFills
open Go.RowKit
set_option linter.unusedVariables false
set_option maxRecDepth 100000 in
set_option maxHeartbeats 1000000 in
theorem many (a b n : Int) (W : World) (hn : 0 ≤ n ∧ n < 65536) (hf : ¬ (64 ≤ a ∧ a ≤ 128 ∧ 4 ≤ b ∧ b ≤ 60)) :
    Calls Tryz.prog 5 #[.int .i64 a, .int .i64 b, .int .u16 n] W fun x w' => x = .returned (.bool true) ∧ Below W.heap.size W w' := by
  obtain ⟨m, hm⟩ : ∃ m : Nat, m = n.toNat % 300 := ⟨_, rfl⟩
  have hr : n.tmod 300 = (m : Int) := by rw [Int.tmod_eq_emod_of_nonneg (by omega)]; omega
  have hr1 : IntKind.u16.wrap (m : Int) = (m : Int) := by simp [IntKind.wrap, IntKind.bits, IntKind.signed]; omega
  have hr2 : IntKind.i64.wrap (m : Int) = (m : Int) := IntWalk.i64_in _ (by omega)
  by_cases h1 : a < 64
  · have d1 : decide (a < 64) = true := decide_eq_true h1
    clear hf hn hm
    go_enter Tryz.func5, Tryz.ntmps5
    go_wp2_with fail
    refine (lw_awake _).mono ?_
    rintro x w1 ⟨rfl, b1⟩
    have H1 := Lib.hid b1
    clear b1
    go_wp2
    go_ret
    exact ⟨rfl, H1.out⟩
  · have d1 : decide (a < 64) = false := decide_eq_false h1
    by_cases h2 : 128 < a
    · have d2 : decide (128 < a) = true := decide_eq_true h2
      clear hf hn hm h1
      go_enter Tryz.func5, Tryz.ntmps5
      go_wp2_with fail
      refine (lw_awake _).mono ?_
      rintro x w1 ⟨rfl, b1⟩
      have H1 := Lib.hid b1
      clear b1
      go_wp2
      go_ret
      exact ⟨rfl, H1.out⟩
    · have d2 : decide (128 < a) = false := decide_eq_false h2
      by_cases h3 : b < 4
      · have d3 : decide (b < 4) = true := decide_eq_true h3
        clear hf hn hm h1 h2
        go_enter Tryz.func5, Tryz.ntmps5
        go_wp2_with fail
        refine (lw_awake _).mono ?_
        rintro x w1 ⟨rfl, b1⟩
        have H1 := Lib.hid b1
        clear b1
        go_wp2
        go_ret
        exact ⟨rfl, H1.out⟩
      · have d3 : decide (b < 4) = false := decide_eq_false h3
        have h4 : 60 < b := by omega
        have d4 : decide (60 < b) = true := decide_eq_true h4
        clear hf hn hm h1 h2 h3
        go_enter Tryz.func5, Tryz.ntmps5
        go_wp2_with fail
        refine (lw_awake _).mono ?_
        rintro x w1 ⟨rfl, b1⟩
        have H1 := Lib.hid b1
        clear b1
        go_wp2
        go_ret
        exact ⟨rfl, H1.out⟩
/-- a log that may still be filled -/
def FlI (W w : World) (A : PairA) (a b L g used : Nat) : Prop := ∃ st v, FiI W w A a b L st v ∧ Cln a b st ∧ WvOk b v ∧ v.broken = false ∧ v.ready = true ∧ v.g = g ∧ v.used = used
/-- a log at a turn's beginning -/
def FtI (W w : World) (A : PairA) (a b L g : Nat) : Prop := ∃ st v, FiI W w A a b L st v ∧ Cln a b st ∧ WvOk b v ∧ v.broken = false ∧ v.g = g
section
variable {W w : World} {A : PairA} {a b L g used : Nat}
theorem FlI.c1 (h : FlI W w A a b L g used) : w.cell? ⟨A.P, 1, none⟩ = some (.pointer (some ⟨L, 0, none⟩)) := by obtain ⟨st, v, h, _⟩ := h; exact h.c1
theorem FtI.c1 (h : FtI W w A a b L g) : w.cell? ⟨A.P, 1, none⟩ = some (.pointer (some ⟨L, 0, none⟩)) := by obtain ⟨st, v, h, _⟩ := h; exact h.c1
theorem FtI.bel (h : FtI W w A a b L g) : Below W.heap.size W w := by obtain ⟨st, v, h, _⟩ := h; exact h.bel
theorem FlI.ft (h : FlI W w A a b L g used) : FtI W w A a b L g := by obtain ⟨st, v, h, h1, h2, h3, _, h4, _⟩ := h; exact ⟨st, v, h, h1, h2, h3, h4⟩
theorem fl_ckpt (h : FtI W w A a b L g) (hz : Siz a b) (hb : 4 ≤ b) (hg : g ≤ 10) :
    Calls Tryz.prog 25 #[.pointer (some ⟨L, 0, none⟩), .string ⟨#[]⟩] w fun x w' => x = .returned (.int .i64 0) ∧ FlI W w' A a b L (g + 1) 1 := by
  obtain ⟨st, v, hf, hc, hv, hbr, rfl⟩ := h
  have hp : nParts a (⟨#[]⟩ : ByteArray).size = 1 := by
    show max 1 ((0 + (a - 25) - 1) / (a - 25)) = 1
    rw [Nat.div_eq_of_lt (by have := hz.a0; omega)]
    rfl
  have hs : 1 ≤ segN b := by unfold segN; omega
  have e := ck_clean (st := st) (s := ⟨#[]⟩) hz hb hv hbr (by decide) (by rw [hp]; exact hs) (by unfold M64; omega)
  have hok := (ckAll_ok (s := ⟨#[]⟩) hc.ok hz hv).2
  refine (fi_ckpt hf hc hz hb hv ⟨#[]⟩ (by decide)).mono ?_
  rw [e] at hok ⊢
  rintro x w' ⟨rfl, hfi⟩
  exact ⟨rfl, _, _, hfi rfl rfl, ckS_cln hc hz hb (by decide) (by rw [hp]; exact hs), hok, hbr, rfl, rfl, hp⟩
theorem fl_append (h : FlI W w A a b L g used) (hz : Siz a b) (hb : 4 ≤ b) (s : ByteArray) (hs : s.size ≤ 4096) (hroom : used + nParts a s.size ≤ segN b) :
    Calls Tryz.prog 26 #[.pointer (some ⟨L, 0, none⟩), .string s] w fun x w' => x = .returned (.int .i64 0) ∧ FlI W w' A a b L g (used + nParts a s.size) := by
  obtain ⟨st, v, hf, hc, hv, hbr, hrd, rfl, rfl⟩ := h
  have e := ap_clean (st := st) (s := s) hz hb hv hbr hrd hs hroom
  have hok := (apAll_ok (s := s) hc.ok hz hv).2
  have hl := split_len a v.g v.cnt s hz.a0 hz.a1 hs
  have hsg : 2 + v.sg * segN b + v.used + (frSplit (a : Int) v.g v.cnt s).1.length ≤ b := by
    have h1 := hv.sg
    have h2 : 2 * segN b + 2 ≤ b := by unfold segN; omega
    have h01 : v.sg = 0 ∨ v.sg = 1 := by omega
    rcases h01 with e | e <;> rw [e] <;> omega
  refine (fi_append hf hc hz hb hv s).mono ?_
  rw [e] at hok ⊢
  rintro x w' ⟨rfl, hfi⟩
  exact ⟨rfl, _, _, hfi rfl rfl, hc.lay (split_size hz.a0) hsg, hok, hbr, hrd, rfl, rfl⟩
theorem fl_full (h : FlI W w A a b L g used) (hz : Siz a b) (hb : 4 ≤ b) (s : ByteArray) (hs : s.size ≤ 4096) (hroom : ¬ used + nParts a s.size ≤ segN b) :
    Calls Tryz.prog 26 #[.pointer (some ⟨L, 0, none⟩), .string s] w fun x w' => x = .returned (.int .i64 2) ∧ FlI W w' A a b L g used := by
  obtain ⟨st, v, hf, hc, hv, hbr, hrd, rfl, rfl⟩ := h
  have e := ap_full (st := st) (s := s) hz hbr hrd hs hroom
  refine (fi_append hf hc hz hb hv s).mono ?_
  rw [e]
  rintro x w' ⟨rfl, hfi⟩
  exact ⟨rfl, _, _, hfi rfl rfl, hc, hv, hbr, hrd, rfl, rfl⟩
theorem fl_fits (h : FlI W w A a b L g used) (hz : Siz a b) (hb : 4 ≤ b) (n : Int) :
    Calls Tryz.prog 19 #[.pointer (some ⟨L, 0, none⟩), .int .i64 n] w fun x w' => x = .returned (.bool (fitB a b used n)) ∧ FlI W w' A a b L g used := by
  obtain ⟨st, v, hf, hc, hv, hbr, hrd, rfl, rfl⟩ := h
  obtain ⟨buf, hw⟩ := hf.wl
  refine (wl_fits hw hz.a0 hb hz.b1 (by have h1 := hv.used; have h2 := hz.b1; unfold segN at h1; omega) n).mono ?_
  rintro x w' ⟨rfl, hb⟩
  exact ⟨rfl, st, v, hf.below hb, hc, hv, hbr, hrd, rfl, rfl⟩
theorem fl_used (h : FlI W w A a b L g used) :
    Calls Tryz.prog 16 #[.pointer (some ⟨L, 0, none⟩)] w fun x w' => x = .returned (.int .i64 used) ∧ w = w' := by
  obtain ⟨st, v, hf, hc, hv, hbr, hrd, rfl, rfl⟩ := h
  obtain ⟨buf, hw⟩ := hf.wl
  exact wl_used hw
end
set_option maxRecDepth 100000 in
set_option maxHeartbeats 4000000 in
theorem few_ (a b n : Nat) (W : World) (hn : n < 65536) (hA : 64 ≤ a ∧ a ≤ 128) (hB : 4 ≤ b ∧ b ≤ 60) :
    Calls Tryz.prog 5 #[.int .i64 (a : Int), .int .i64 (b : Int), .int .u16 (n : Int)] W fun x w' => x = .returned (.bool true) ∧ Below W.heap.size W w' := by
  obtain ⟨m, hm⟩ : ∃ m : Nat, m = n % 300 := ⟨_, rfl⟩
  have hm3 : m < 300 := by omega
  have hr : (n : Int).tmod 300 = (m : Int) := by rw [Int.tmod_eq_emod_of_nonneg (by omega)]; omega
  have hr1 : IntKind.u16.wrap (m : Int) = (m : Int) := by simp [IntKind.wrap, IntKind.bits, IntKind.signed]; omega
  have hr2 : IntKind.i64.wrap (m : Int) = (m : Int) := IntWalk.i64_in _ (by omega)
  have d1 : decide ((a : Int) < 64) = false := decide_eq_false (by omega)
  have d2 : decide (128 < (a : Int)) = false := decide_eq_false (by omega)
  have d3 : decide ((b : Int) < 4) = false := decide_eq_false (by omega)
  have d4 : decide (60 < (b : Int)) = false := decide_eq_false (by omega)
  have d1' : decide (a < 64) = false := decide_eq_false (by omega)
  have d2' : decide (128 < a) = false := decide_eq_false (by omega)
  have d3' : decide (b < 4) = false := decide_eq_false (by omega)
  have d4' : decide (60 < b) = false := decide_eq_false (by omega)
  have hab : a * b ≤ 128 * 60 := Nat.mul_le_mul hA.2 hB.2
  have hsg : segN b * a ≤ 30 * 128 := Nat.mul_le_mul (by unfold segN; omega) hA.2
  have HZ : Hid (Siz a b ∧ 4 ≤ b ∧ b ≤ 60) := Lib.hid ⟨⟨hA.1, by omega, by omega, by omega, by omega, by omega⟩, hB.1, hB.2⟩
  obtain ⟨sg, hsgg⟩ : ∃ z, z = segN b := ⟨_, rfl⟩
  have hsg30 : 1 ≤ sg ∧ sg ≤ 29 := by rw [hsgg]; unfold segN; omega
  have hb2 : IntKind.i64.wrap ((b : Int) - 2) = ((b - 2 : Nat) : Int) := by rw [IntWalk.i64_in _ (by omega)]; omega
  have hb3 : ((b - 2 : Nat) : Int).tdiv 2 = (sg : Int) := by rw [Int.tdiv_eq_ediv_of_nonneg (by omega), hsgg]; unfold segN; omega
  have hb4 : IntKind.i64.wrap (sg : Int) = (sg : Int) := IntWalk.i64_in _ (by omega)
  have HSG := Lib.hid hsgg
  have HNP : Hid (frParts (a : Int) (m : Int) = ((nParts a m : Nat) : Int)) := Lib.hid (by unfold frParts; rw [if_pos ⟨⟨by omega, by omega⟩, by omega, by omega⟩]; rfl)
  obtain ⟨k, hk⟩ : ∃ z, z = nParts a m := ⟨_, rfl⟩
  have hk1 : 1 ≤ k ∧ k ≤ 106 := by rw [hk]; exact nParts_leW a m hA.1 (by omega)
  rw [← hk] at HNP
  have HK := Lib.hid hk
  have hmk := fun w => mk_bytes w (m : Int) m rfl (by omega)
  have hcv := fun w => cv_zeros m w
  clear hm hA hB hab hsg hsgg hk
  go_enter Tryz.func5, Tryz.ntmps5
  go_wp2_with fail
  refine (lw_awake _).mono ?_
  rintro x w1 ⟨rfl, b1⟩
  have H1 := Lib.hid b1
  clear b1
  go_wp2_with fail
  refine (pr_made a b w1 HZ.out.1 (by have := HZ.out.2; omega)).mono ?_
  rintro x w2 ⟨A, rfl, hI⟩
  obtain ⟨L, hfi⟩ := made_fi HZ.out.1 HZ.out.2.1 hI
  have hZ0 : Cln a b (List.replicate (a * b) 0) := ⟨List.length_replicate .., fun x hx => by rw [List.eq_of_mem_replicate hx]; decide⟩
  have hvc := opV_clean HZ.out.1 HZ.out.2.1 (st := List.replicate (a * b) 0)
  rw [if_pos (zero_no HZ.out.1 HZ.out.2.1)] at hvc
  have HT2 : Hid (FtI w1 w2 A a b L 1) := Lib.hid ⟨_, _, hfi, opS_cln hZ0 HZ.out.1 HZ.out.2.1, opV_ok hZ0.ok HZ.out.1.a0, by rw [hvc]; rfl, by rw [hvc]⟩
  have p1 := HT2.out.c1
  clear hI hfi hZ0 hvc
  go_wp2_with fail
  refine (rf_parts (a : Int) (m : Int) w2).mono ?_
  rintro x w3 ⟨rfl, rfl⟩
  rw [HNP.out]
  have HTa : Hid (FtI w1 (w2.alloc (.cells (zrow m) 5)) A a b L 1) := Lib.hid (by
    obtain ⟨st, v, h, r⟩ := HT2.out
    exact ⟨st, v, h.below (Kq.below_alloc _ _), r⟩)
  obtain ⟨T, hT⟩ : ∃ T, T = txt (List.replicate m 0) := ⟨_, rfl⟩
  have HT : Hid (T.size = m) := Lib.hid (by rw [hT, txt_size, List.length_replicate])
  rw [← hT] at hcv
  clear p1 hT HT2
  go_wp2
  generalize w2.alloc (.cells (zrow m) 5) = w4 at *
  clear hmk hcv hr hr1 hr2 hb2 hb3 hb4 d1 d2 d3 d4 d1' d2' d3' d4'
  go_loopw [12] (fun i wr => ∃ t : Nat, t ≤ 2 ∧ i = .int .i64 (t : Int) ∧ FtI w1 wr A a b L (1 + t)) (fun i _ => 2 - (intOf i).toNat)
  case atStart => exact ⟨0, by omega, rfl, HTa.out⟩
  case round =>
    obtain ⟨t, ht, rfl, hft⟩ := hrel
    have HF := Lib.hid hft
    clear hft
    by_cases hlt : t < 2
    · have hd : decide ((t : Int) < 2) = true := decide_eq_true (by omega)
      have hd' : decide (t < 2) = true := decide_eq_true hlt
      have hww : wrap64 ((t : Int) + 1) = ((t + 1 : Nat) : Int) := by rw [IntWalk.wrap64_in _ (by omega)]; omega
      have p1 := HF.out.c1
      have HLT := Lib.hid hlt
      obtain ⟨l0, hl0⟩ : ∃ z, z = sg - 1 := ⟨_, rfl⟩
      have hwl : IntKind.i64.wrap ((sg : Int) - 1) = (l0 : Int) := by rw [IntWalk.i64_in _ (by omega)]; omega
      clear hlt
      go_wp2_with fail
      refine (fl_ckpt HF.out HZ.out.1 HZ.out.2.1 (Nat.le_trans (Nat.add_le_add_left ht 1) (by decide))).mono ?_
      rintro x w5 ⟨rfl, hfl⟩
      have HL5 := Lib.hid hfl
      clear hfl p1
      go_wp2
      go_loopw [14] (fun i wr => ∃ lf : Nat, lf ≤ l0 ∧ i = .int .i64 (lf : Int) ∧ FlI w1 wr A a b L (1 + t + 1) (sg - lf)) (fun i _ => (intOf i).toNat)
      case atStart => exact ⟨l0, Nat.le_refl _, by rw [hl0], by rw [show sg - l0 = 1 by omega]; exact HL5.out⟩
      case round =>
        obtain ⟨lf, hlf, rfl, hfl⟩ := hrel
        have HL := Lib.hid hfl
        have p1 := HL.out.c1
        clear hfl
        by_cases hge : k ≤ lf
        · have hd2 : decide ((k : Int) ≤ (lf : Int)) = true := decide_eq_true (by omega)
          have hd2' : decide (k ≤ lf) = true := decide_eq_true hge
          have hft : fitB a b (sg - lf) (m : Int) = true := by
            unfold fitB
            rw [HNP.out, ← HSG.out]
            exact decide_eq_true ⟨by omega, by omega⟩
          obtain ⟨l2, hl2⟩ : ∃ z, z = lf - k := ⟨_, rfl⟩
          have hwl2 : IntKind.i64.wrap ((lf : Int) - (k : Int)) = (l2 : Int) := by rw [IntWalk.i64_in _ (by omega)]; omega
          go_wp2_with fail
          refine (fl_fits HL.out HZ.out.1 HZ.out.2.1 (m : Int)).mono ?_
          rw [hft]
          rintro x w6 ⟨rfl, h6⟩
          have HL6 := Lib.hid h6
          have p6 := HL6.out.c1
          clear h6 p1
          go_wp2_with fail
          refine (fl_append HL6.out HZ.out.1 HZ.out.2.1 T (by have := HT.out; omega) (by rw [HT.out, ← HK.out, ← HSG.out]; omega)).mono ?_
          rw [HT.out, ← HK.out, show sg - lf + k = sg - l2 by omega]
          rintro x w7 ⟨rfl, h7⟩
          have HL7 := Lib.hid h7
          clear h7 p6 hft
          go_wp2
          go_roundw
          case rel => exact ⟨l2, by omega, by rw [hl2], HL7.out⟩
          case measure => simp [intOf]; omega
        · have hd2 : decide ((k : Int) ≤ (lf : Int)) = false := decide_eq_false (by omega)
          have hd2' : decide (k ≤ lf) = false := decide_eq_false hge
          have hft : fitB a b (sg - lf) (m : Int) = false := by
            unfold fitB
            rw [HNP.out, ← HSG.out]
            exact decide_eq_false (by omega)
          obtain ⟨u, hu⟩ : ∃ z, z = sg - lf := ⟨_, rfl⟩
          have hwu : IntKind.i64.wrap ((sg : Int) - (lf : Int)) = (u : Int) := by rw [IntWalk.i64_in _ (by omega)]; omega
          rw [← hu] at HL hft
          go_wp2_with fail
          refine (fl_fits HL.out HZ.out.1 HZ.out.2.1 (m : Int)).mono ?_
          rw [hft]
          rintro x w6 ⟨rfl, h6⟩
          have HL6 := Lib.hid h6
          have p6 := HL6.out.c1
          clear h6 p1 hft
          go_wp2_with fail
          refine (fl_full HL6.out HZ.out.1 HZ.out.2.1 T (by have := HT.out; omega) (by rw [HT.out, ← HK.out, ← HSG.out]; omega)).mono ?_
          rintro x w7 ⟨rfl, h7⟩
          have HL7 := Lib.hid h7
          have p7 := HL7.out.c1
          clear h7 p6
          go_wp2_with fail
          refine (fl_used HL7.out).mono ?_
          rintro x w8 ⟨rfl, rfl⟩
          clear p7
          go_wp2
          rw [hww] at *
          go_roundw
          case rel => exact ⟨t + 1, HLT.out, rfl, HL7.out.ft⟩
          case measure => have := HLT.out; simp [intOf]; omega
    · obtain rfl : t = 2 := by omega
      have HB := Lib.hid (H1.out.trans (HF.out.bel.mono H1.out.size))
      clear hlt
      go_wp2
      go_ret
      exact ⟨rfl, HB.out⟩
end Go.Proofs.YtbpgfhcecanikaaGreat.walFills
namespace Go.Proofs.YtbpgfhcecanikaaGreat
open Go.RowKit
theorem walFills_walk (a b n : Int) (wa : (Lit.int .i64 a).wf = true) (wb : (Lit.int .i64 b).wf = true) (wn : (Lit.int .u16 n).wf = true) (W : World) :
    Calls Tryz.prog 5 #[.int .i64 a, .int .i64 b, .int .u16 n] W fun x w' => x = .returned (.bool true) ∧ Below W.heap.size W w' := by
  have hn : 0 ≤ n ∧ n < 65536 := by
    simp [Lit.wf, IntKind.min, IntKind.max, IntKind.signed, IntKind.bits] at wn; omega
  by_cases hf : 64 ≤ a ∧ a ≤ 128 ∧ 4 ≤ b ∧ b ≤ 60
  · obtain ⟨p, rfl⟩ := Int.eq_ofNat_of_zero_le (show 0 ≤ a by omega)
    obtain ⟨m, rfl⟩ := Int.eq_ofNat_of_zero_le (show 0 ≤ b by omega)
    obtain ⟨k, rfl⟩ := Int.eq_ofNat_of_zero_le hn.1
    exact walFills.few_ p m k W (by omega) ⟨by omega, by omega⟩ ⟨by omega, by omega⟩
  · exact walFills.many a b n W hn hf
end Go.Proofs.YtbpgfhcecanikaaGreat
