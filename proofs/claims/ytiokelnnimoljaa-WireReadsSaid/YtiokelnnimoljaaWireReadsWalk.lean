/- carracklaw03.WireReads walked. No condition. -/
import Derived.WalkSpells
import Derived.Deep.QuietTactic
import Derived.BigQuiet
import Derived.Deep.RegionHeld
import Derived.Test.YtiokelnnimoljaaWireFew
import Derived.Test.YtiokelnnimoljaaAwake
import Derived.Test.YtiokelnnimoljaaRefDo
namespace Go.Proofs.Ytiokelnnimoljaa.wireReads
open Go.RowKit
set_option linter.unusedVariables false
/-- both readers, side by side -/
structure Two (W : World) (B M : Nat) (e : Int) (s : ByteArray) (w : World) : Prop where
  rd : Rd w B e s
  rf : Rf w M e s
  bel : Below W.heap.size W w
  lo : W.heap.size ≤ B
  lo2 : W.heap.size ≤ M
  ne : B ≠ M
/-- .. with the first one ahead -/
structure Half (W : World) (B M : Nat) (e : Int) (s : ByteArray) (e' : Int) (s' : ByteArray) (w : World) : Prop where
  rd : Rd w B e' s'
  rf : Rf w M e s
  bel : Below W.heap.size W w
  lo : W.heap.size ≤ B
  lo2 : W.heap.size ≤ M
  ne : B ≠ M
theorem Two.half {W w w' : World} {B M : Nat} {e e' : Int} {s s' : ByteArray} (h : Two W B M e s w) (hr : Rd w' B e' s') (hk : Kq.Keeps (· = B) w w') : Half W B M e s e' s' w' :=
  ⟨hr, h.rf.later hk (fun e => h.ne e.symm), h.bel.trans (hk.below h.bel.size (fun k _ e => by subst e; exact h.lo)), h.lo, h.lo2, h.ne⟩
theorem Half.two {W w w' : World} {B M : Nat} {e e' : Int} {s s' : ByteArray} (h : Half W B M e s e' s' w) (hr : Rf w' M e' s') (hk : Kq.Keeps (· = M) w w') : Two W B M e' s' w' :=
  ⟨hk.blk h.rd h.ne, hr, h.bel.trans (hk.below h.bel.size (fun k _ e => by subst e; exact h.lo2)), h.lo, h.lo2, h.ne⟩
theorem Two.drewN {W w : World} {B M : Nat} {e : Int} {s : ByteArray} (h : Two W B M e s w) (n : Nat) : Two W B M e s (w.drewN n) :=
  ⟨h.rd, h.rf.later (keeps_drewN (fun _ => False) w n) id, h.bel.trans ((keeps_drewN (fun _ => False) w n).below h.bel.size (fun k _ e => e.elim)), h.lo, h.lo2, h.ne⟩
theorem Two.err {W w : World} {B M : Nat} {e : Int} {s : ByteArray} (h : Two W B M e s w) : w.cell? ⟨M, 2, none⟩ = some (.int .i64 e) := by
  obtain ⟨S, k, hA, _⟩ := h.rf
  exact hA.c2
section
variable {W w : World} {B M : Nat} {e : Int} {s : ByteArray} (h : Two W B M e s w) (n : Nat)
include h
theorem q_left : Calls Try.prog 20 #[.pointer (some ⟨B, 0, none⟩)] (w.drewN n) fun x w' => x = .returned (.int .i64 ((leftOf e s : Nat) : Int)) ∧ ∃ m, w' = w.drewN m :=
  Calls.quiet_of_same ((rd_left B e s _ (h.drewN n).rd).mono fun _ _ hp => ⟨hp.1, hp.2.symm⟩)
theorem q_left2 : Calls Try.prog 21 #[.pointer (some ⟨M, 0, none⟩)] (w.drewN n) fun x w' => x = .returned (.int .i64 ((leftOf e s : Nat) : Int)) ∧ ∃ m, w' = w.drewN m :=
  Calls.quiet_of (ref_left M e s _ (h.drewN n).rf)
theorem q_err : Calls Try.prog 22 #[.pointer (some ⟨B, 0, none⟩)] (w.drewN n) fun x w' => x = .returned (.int .i64 e) ∧ ∃ m, w' = w.drewN m :=
  Calls.quiet_of_same ((mem_err B e _ (h.drewN n).rd.c0).mono fun _ _ hp => ⟨hp.1, hp.2.symm⟩)
theorem q_end : Calls Try.prog 23 #[.pointer (some ⟨B, 0, none⟩)] (w.drewN n) fun x w' => x = .returned (.int .i64 (endOf e s)) ∧ ∃ m, w' = w.drewN m :=
  Calls.quiet_of_same ((rd_end B e s _ (h.drewN n).rd).mono fun _ _ hp => ⟨hp.1, hp.2.symm⟩)
theorem q_end2 : Calls Try.prog 24 #[.pointer (some ⟨M, 0, none⟩)] (w.drewN n) fun x w' => x = .returned (.int .i64 (endOf e s)) ∧ ∃ m, w' = w.drewN m :=
  Calls.quiet_of (ref_end M e s _ (h.drewN n).rf)
end
section
variable (B : Nat) (e : Int) (s : ByteArray) (c : CallV) (w : World) (h : Rd w B e s) (hs : s.size ≤ maxLen) (y : Nat × ByteArray × Int × ByteArray) (hy : doOne e s c = y)
include h hs hy
theorem p_byte (hk : c.kind = 0) : Calls Try.prog 14 #[.pointer (some ⟨B, 0, none⟩)] w fun x w' => x = .returned (.int .i64 ((y.1 : Nat) : Int)) ∧ Rd w' B y.2.2.1 y.2.2.2 ∧ Kq.Keeps (· = B) w w' := by
  subst hy
  unfold doOne
  rw [if_pos hk]
  exact rd_byte B e s w h hs
theorem p_number (hk : c.kind = 1) : Calls Try.prog 15 #[.pointer (some ⟨B, 0, none⟩)] w fun x w' => x = .returned (.int .u64 ((y.1 : Nat) : Int)) ∧ Rd w' B y.2.2.1 y.2.2.2 ∧ Kq.Keeps (· = B) w w' := by
  subst hy
  unfold doOne
  rw [if_neg (by omega), if_pos hk]
  exact rd_number B e s w h hs
theorem p_text (hk : c.kind = 2) : Calls Try.prog 16 #[.pointer (some ⟨B, 0, none⟩)] w fun x w' => x = .returned (.string y.2.1) ∧ Rd w' B y.2.2.1 y.2.2.2 ∧ Kq.Keeps (· = B) w w' := by
  subst hy
  unfold doOne
  rw [if_neg (by omega), if_neg (by omega), if_pos hk]
  refine (rd_text B e s w h hs).mono ?_
  rintro x w' ⟨h1, h2, h3⟩
  exact ⟨h1, h2, h3⟩
theorem p_raw (hk : c.kind = 3) : Calls Try.prog 17 #[.pointer (some ⟨B, 0, none⟩), .int .i64 c.k] w fun x w' => x = .returned (.string y.2.1) ∧ Rd w' B y.2.2.1 y.2.2.2 ∧ Kq.Keeps (· = B) w w' := by
  subst hy
  unfold doOne
  rw [if_neg (by omega), if_neg (by omega), if_neg (by omega), if_pos hk]
  exact rd_raw B e s c.k w h hs
omit hs in
theorem p_fail (h0 : c.kind ≠ 0) (h1 : c.kind ≠ 1) (h2 : c.kind ≠ 2) (h3 : c.kind ≠ 3) : Calls Try.prog 18 #[.pointer (some ⟨B, 0, none⟩), .int .i64 c.k] w fun x w' => x = .returned (.tuple #[]) ∧ Rd w' B y.2.2.1 y.2.2.2 ∧ Kq.Keeps (· = B) w w' := by
  subst hy
  unfold doOne
  rw [if_neg h0, if_neg h1, if_neg h2, if_neg h3]
  exact rd_fail B e c.k s w h
end
theorem y_kind {e : Int} {s : ByteArray} {c : CallV} {y : Nat × ByteArray × Int × ByteArray} (hy : doOne e s c = y) : (c.kind = 0 → y.1 < 256) ∧ (c.kind = 0 ∨ c.kind = 1 → y.2.1 = ⟨#[]⟩) ∧ (c.kind ≠ 0 → c.kind ≠ 1 → y.1 = 0) ∧ (c.kind ≠ 0 → c.kind ≠ 1 → c.kind ≠ 2 → c.kind ≠ 3 → y.2.1 = ⟨#[]⟩) := by
  subst hy
  unfold doOne
  refine ⟨fun hk => ?_, fun hk => ?_, fun h0 h1 => ?_, fun h0 h1 h2 h3 => ?_⟩
  · rw [if_pos hk]; exact whole_lt e s 1
  · rcases hk with hk | hk
    · rw [if_pos hk]
    · rw [if_neg (by omega), if_pos hk]
  · rw [if_neg h0, if_neg h1]
    split
    · rfl
    · split <;> rfl
  · rw [if_neg h0, if_neg h1, if_neg h2, if_neg h3]
set_option maxRecDepth 100000 in
set_option maxHeartbeats 4000000 in
theorem early (s : ByteArray) (a : Option Addr) (cap : Nat) (l : List CallV) (W : World) (hl : l.length ≤ maxLen) (hc : CallsAt W a l) (hk : ¬ fewOk l ∨ 5000 < s.size) :
    Calls Try.prog 4 #[.string s, .slice a l.length cap] W fun x w' => x = .returned (.bool true) ∧ Below W.heap.size W w' := by
  have HC := Lib.hid hc
  clear hc
  by_cases hf : fewOk l
  · have h5 : 5000 < s.size := hk.resolve_left (fun h => h hf)
    clear hk
    go_enter Try.func4, Try.ntmps4
    go_wp2_with fail
    refine (awake _).mono ?_
    rintro x w1 ⟨rfl, hb⟩
    go_wp2_with fail
    refine (few_ok a cap l _ hl (HC.out.later hb) hf).mono ?_
    rintro x w2 ⟨rfl, rfl⟩
    go_wp2
    go_ret
    exact ⟨rfl, hb⟩
  · clear hk
    go_enter Try.func4, Try.ntmps4
    go_wp2_with fail
    refine (awake _).mono ?_
    rintro x w1 ⟨rfl, hb⟩
    go_wp2_with fail
    refine (few_no a cap l _ hl (HC.out.later hb) hf).mono ?_
    rintro x w2 ⟨rfl, rfl⟩
    go_wp2
    go_ret
    exact ⟨rfl, hb⟩
set_option maxRecDepth 100000 in
set_option maxHeartbeats 8000000 in
theorem main (s : ByteArray) (a : Option Addr) (cap : Nat) (l : List CallV) (W : World) (hl : l.length ≤ maxLen) (hc : CallsAt W a l) (h5 : ¬ 5000 < s.size) (hf : fewOk l) :
    Calls Try.prog 4 #[.string s, .slice a l.length cap] W fun x w' => x = .returned (.bool true) ∧ Below W.heap.size W w' := by
  have HC := Lib.hid hc
  have HM := Lib.hid hl
  have HF := Lib.hid hf
  have HSZ : Hid (s.size ≤ 5000) := Lib.hid (by omega)
  unfold maxLen at hl
  clear hc hf
  go_enter Try.func4, Try.ntmps4
  go_wp2_with fail
  refine (awake _).mono ?_
  rintro x w1 ⟨rfl, hb1⟩
  have HB := Lib.hid hb1
  clear hb1
  go_wp2_with fail
  refine (few_ok a cap l _ HM.out (HC.out.later HB.out) HF.out).mono ?_
  rintro x w2 ⟨rfl, rfl⟩
  go_wp2_with fail
  refine (rd_new s _).mono ?_
  rintro x w2 ⟨rfl, R2, b2⟩
  have HR2 := Lib.hid R2
  have H2 := Lib.hid (HB.out.trans (b2.mono HB.out.size))
  have HL2 := Lib.hid (And.intro HB.out.size (Kq.blk_lt R2))
  clear b2 R2
  generalize w1.heap.size = B at *
  have H3 : Hid (Two W B w2.heap.size 0 s (w2.alloc (Obj.cells #[Value.string s, Value.int IntKind.i64 0, Value.int IntKind.i64 0] 41))) :=
    Lib.hid ⟨(Kq.Keeps.alloc (fun _ => False) w2 _).blk HR2.out id, ⟨s, 0, ⟨Kq.blk_new _ _ _ _, Nat.zero_le _, by have := HSZ.out; omega⟩, by apply nl_inj; rw [nl_extract, List.drop_zero, Nat.sub_zero, List.take_of_length_le (by rw [nl_length]; exact Nat.le_refl _)]⟩,
      H2.out.trans ((Kq.below_alloc _ _).mono H2.out.size), HL2.out.1, H2.out.size, Nat.ne_of_lt HL2.out.2⟩
  have HT := Lib.hid H3.out
  clear H3 HR2 H2 HL2 HB
  go_wp2
  generalize w2.heap.size = M at *
  go_loopw [7] (fun i wr => ∃ k : Nat, k ≤ l.length ∧ i = .int .i64 k ∧ ∃ e s', Two W B M e s' wr) (fun i _ => l.length - (intOf i).toNat)
  case atStart => exact ⟨0, by omega, rfl, 0, s, HT.out⟩
  case round =>
    obtain ⟨k, hk, rfl, e, s', hS⟩ := hrel
    have HR := Lib.hid hS
    have HZ : Hid (s'.size ≤ maxLen) := Lib.hid (by have := hS.rf.size; unfold maxLen; omega)
    clear hS HT HSZ
    by_cases hlt : k < l.length
    · obtain ⟨b, off, rfl, hb, hcell0⟩ := HC.out.later HR.out.bel k hlt
      have HCC := HC.out k hlt
      obtain ⟨b', off', hbb, hb0, hcW⟩ := HCC
      obtain ⟨rfl, rfl⟩ : b = b' ∧ off = off' := by cases hbb; exact ⟨rfl, rfl⟩
      obtain ⟨c, hcell, hcW⟩ : ∃ c, IsCall wr b (off + k * 4) c ∧ IsCall W b (off + k * 4) c := ⟨_, hcell0, hcW⟩
      clear hcell0 hbb
      have HL := Lib.hid hlt
      have HW := Lib.hid (And.intro hb0 hcW)
      have HCL := Lib.hid hcell
      clear hcW hb0 hcell
      obtain ⟨y, hy⟩ : ∃ y, doOne e s' c = y := ⟨_, rfl⟩
      have HY := Lib.hid hy
      have HYK := Lib.hid (y_kind hy)
      clear hy
      by_cases q0 : c.kind = 0
      · have c0 := HCL.out.c0
        rw [q0] at c0
        obtain ⟨y1, y2, e1, s1⟩ := y
        have hy1 : y1 < 256 := HYK.out.1 q0
        obtain rfl : y2 = ⟨#[]⟩ := HYK.out.2.1 (Or.inl q0)
        have hcast : IntKind.u64.wrap ((y1 : Nat) : Int) = ((y1 : Nat) : Int) := IntWalk.u64_in _ (by omega)
        have HQ := Lib.hid q0
        clear q0
        clear HYK hy1
        go_wp2_with fail
        refine (p_byte B e s' c _ HR.out.rd HZ.out _ HY.out HQ.out).mono ?_
        rintro x w6 ⟨rfl, R6, K6⟩
        have S6 := Lib.hid (HR.out.half R6 K6)
        have HC6 := Lib.hid (HW.out.2.later S6.out.bel HW.out.1)
        clear R6 K6 HR c0
        have d0 := HC6.out.c0
        have d1 := HC6.out.c1
        have d2 := HC6.out.c2
        have d3 := HC6.out.c3
        go_wp2_with fail
        refine (ref_do M e s' c _ S6.out.rf).mono ?_
        rw [HY.out]
        rintro x w7 ⟨rfl, R7, K7⟩
        have S7 := Lib.hid (S6.out.two R7 K7)
        clear R7 K7 S6 HC6 d0 d1 d2 d3
        have m2 := S7.out.err
        go_wp2
        obtain ⟨lf, hlf⟩ : ∃ lf, leftOf e1 s1 = lf := ⟨_, rfl⟩
        obtain ⟨en, hen⟩ : ∃ en, endOf e1 s1 = en := ⟨_, rfl⟩
        have Q1 := Lib.hid (fun n => q_left S7.out n)
        have Q2 := Lib.hid (fun n => q_left2 S7.out n)
        have Q3 := Lib.hid (fun n => q_err S7.out n)
        have Q4 := Lib.hid (fun n => q_end S7.out n)
        have Q5 := Lib.hid (fun n => q_end2 S7.out n)
        rw [hlf] at Q1 Q2
        rw [hen] at Q4 Q5
        clear hlf hen
        go_quiet ((first | (go_at_call 20; exact Q1.out _) | (go_at_call 21; exact Q2.out _) | (go_at_call 22; exact Q3.out _) | (go_at_call 23; exact Q4.out _) | (go_at_call 24; exact Q5.out _)))
        clear Q1 Q2 Q3 Q4 Q5
        go_wp2
        go_round
        case rel => exact ⟨k + 1, by have := HL.out; omega, by go_num, e1, s1, S7.out.drewN _⟩
        case measure => have := HL.out; simp [intOf]; omega
      by_cases q1 : c.kind = 1
      · have c0 := HCL.out.c0
        rw [q1] at c0
        obtain ⟨y1, y2, e1, s1⟩ := y
        obtain rfl : y2 = ⟨#[]⟩ := HYK.out.2.1 (Or.inr q1)
        have HQ := Lib.hid q1
        clear q0 q1
        clear HYK
        go_wp2_with fail
        refine (p_number B e s' c _ HR.out.rd HZ.out _ HY.out HQ.out).mono ?_
        rintro x w6 ⟨rfl, R6, K6⟩
        have S6 := Lib.hid (HR.out.half R6 K6)
        have HC6 := Lib.hid (HW.out.2.later S6.out.bel HW.out.1)
        clear R6 K6 HR c0
        have d0 := HC6.out.c0
        have d1 := HC6.out.c1
        have d2 := HC6.out.c2
        have d3 := HC6.out.c3
        go_wp2_with fail
        refine (ref_do M e s' c _ S6.out.rf).mono ?_
        rw [HY.out]
        rintro x w7 ⟨rfl, R7, K7⟩
        have S7 := Lib.hid (S6.out.two R7 K7)
        clear R7 K7 S6 HC6 d0 d1 d2 d3
        have m2 := S7.out.err
        go_wp2
        obtain ⟨lf, hlf⟩ : ∃ lf, leftOf e1 s1 = lf := ⟨_, rfl⟩
        obtain ⟨en, hen⟩ : ∃ en, endOf e1 s1 = en := ⟨_, rfl⟩
        have Q1 := Lib.hid (fun n => q_left S7.out n)
        have Q2 := Lib.hid (fun n => q_left2 S7.out n)
        have Q3 := Lib.hid (fun n => q_err S7.out n)
        have Q4 := Lib.hid (fun n => q_end S7.out n)
        have Q5 := Lib.hid (fun n => q_end2 S7.out n)
        rw [hlf] at Q1 Q2
        rw [hen] at Q4 Q5
        clear hlf hen
        go_quiet ((first | (go_at_call 20; exact Q1.out _) | (go_at_call 21; exact Q2.out _) | (go_at_call 22; exact Q3.out _) | (go_at_call 23; exact Q4.out _) | (go_at_call 24; exact Q5.out _)))
        clear Q1 Q2 Q3 Q4 Q5
        go_wp2
        go_round
        case rel => exact ⟨k + 1, by have := HL.out; omega, by go_num, e1, s1, S7.out.drewN _⟩
        case measure => have := HL.out; simp [intOf]; omega
      by_cases q2 : c.kind = 2
      · have c0 := HCL.out.c0
        rw [q2] at c0
        obtain ⟨y1, y2, e1, s1⟩ := y
        obtain rfl : y1 = 0 := HYK.out.2.2.1 (by omega) (by omega)
        have HQ := Lib.hid q2
        clear q0 q1 q2
        clear HYK
        go_wp2_with fail
        refine (p_text B e s' c _ HR.out.rd HZ.out _ HY.out HQ.out).mono ?_
        rintro x w6 ⟨rfl, R6, K6⟩
        have S6 := Lib.hid (HR.out.half R6 K6)
        have HC6 := Lib.hid (HW.out.2.later S6.out.bel HW.out.1)
        clear R6 K6 HR c0
        have d0 := HC6.out.c0
        have d1 := HC6.out.c1
        have d2 := HC6.out.c2
        have d3 := HC6.out.c3
        go_wp2_with fail
        refine (ref_do M e s' c _ S6.out.rf).mono ?_
        rw [HY.out]
        rintro x w7 ⟨rfl, R7, K7⟩
        have S7 := Lib.hid (S6.out.two R7 K7)
        clear R7 K7 S6 HC6 d0 d1 d2 d3
        have m2 := S7.out.err
        go_wp2
        obtain ⟨lf, hlf⟩ : ∃ lf, leftOf e1 s1 = lf := ⟨_, rfl⟩
        obtain ⟨en, hen⟩ : ∃ en, endOf e1 s1 = en := ⟨_, rfl⟩
        have Q1 := Lib.hid (fun n => q_left S7.out n)
        have Q2 := Lib.hid (fun n => q_left2 S7.out n)
        have Q3 := Lib.hid (fun n => q_err S7.out n)
        have Q4 := Lib.hid (fun n => q_end S7.out n)
        have Q5 := Lib.hid (fun n => q_end2 S7.out n)
        rw [hlf] at Q1 Q2
        rw [hen] at Q4 Q5
        clear hlf hen
        go_quiet ((first | (go_at_call 20; exact Q1.out _) | (go_at_call 21; exact Q2.out _) | (go_at_call 22; exact Q3.out _) | (go_at_call 23; exact Q4.out _) | (go_at_call 24; exact Q5.out _)))
        clear Q1 Q2 Q3 Q4 Q5
        go_wp2
        go_round
        case rel => exact ⟨k + 1, by have := HL.out; omega, by go_num, e1, s1, S7.out.drewN _⟩
        case measure => have := HL.out; simp [intOf]; omega
      by_cases q3 : c.kind = 3
      · have c0 := HCL.out.c0
        have c1 := HCL.out.c1
        rw [q3] at c0
        obtain ⟨y1, y2, e1, s1⟩ := y
        obtain rfl : y1 = 0 := HYK.out.2.2.1 (by omega) (by omega)
        have HQ := Lib.hid q3
        clear q0 q1 q2 q3
        clear HYK
        go_wp2_with fail
        refine (p_raw B e s' c _ HR.out.rd HZ.out _ HY.out HQ.out).mono ?_
        rintro x w6 ⟨rfl, R6, K6⟩
        have S6 := Lib.hid (HR.out.half R6 K6)
        have HC6 := Lib.hid (HW.out.2.later S6.out.bel HW.out.1)
        clear R6 K6 HR c0 c1
        have d0 := HC6.out.c0
        have d1 := HC6.out.c1
        have d2 := HC6.out.c2
        have d3 := HC6.out.c3
        go_wp2_with fail
        refine (ref_do M e s' c _ S6.out.rf).mono ?_
        rw [HY.out]
        rintro x w7 ⟨rfl, R7, K7⟩
        have S7 := Lib.hid (S6.out.two R7 K7)
        clear R7 K7 S6 HC6 d0 d1 d2 d3
        have m2 := S7.out.err
        go_wp2
        obtain ⟨lf, hlf⟩ : ∃ lf, leftOf e1 s1 = lf := ⟨_, rfl⟩
        obtain ⟨en, hen⟩ : ∃ en, endOf e1 s1 = en := ⟨_, rfl⟩
        have Q1 := Lib.hid (fun n => q_left S7.out n)
        have Q2 := Lib.hid (fun n => q_left2 S7.out n)
        have Q3 := Lib.hid (fun n => q_err S7.out n)
        have Q4 := Lib.hid (fun n => q_end S7.out n)
        have Q5 := Lib.hid (fun n => q_end2 S7.out n)
        rw [hlf] at Q1 Q2
        rw [hen] at Q4 Q5
        clear hlf hen
        go_quiet ((first | (go_at_call 20; exact Q1.out _) | (go_at_call 21; exact Q2.out _) | (go_at_call 22; exact Q3.out _) | (go_at_call 23; exact Q4.out _) | (go_at_call 24; exact Q5.out _)))
        clear Q1 Q2 Q3 Q4 Q5
        go_wp2
        go_round
        case rel => exact ⟨k + 1, by have := HL.out; omega, by go_num, e1, s1, S7.out.drewN _⟩
        case measure => have := HL.out; simp [intOf]; omega
      have c0 := HCL.out.c0
      have c1 := HCL.out.c1
      obtain ⟨y1, y2, e1, s1⟩ := y
      obtain rfl : y1 = 0 := HYK.out.2.2.1 q0 q1
      obtain rfl : y2 = ⟨#[]⟩ := HYK.out.2.2.2 q0 q1 q2 q3
      have r0 : (c.kind == 0) = false := by simpa using q0
      have r1 : (c.kind == 1) = false := by simpa using q1
      have r2 : (c.kind == 2) = false := by simpa using q2
      have r3 : (c.kind == 3) = false := by simpa using q3
      have HQ := Lib.hid (And.intro q0 (And.intro q1 (And.intro q2 q3)))
      clear q0 q1 q2 q3 HYK
      have hbB : ¬ (b = B) := by have := HW.out.1; have := HR.out.lo; omega
      have HBW : Hid (b < wr.heap.size) := Lib.hid (Nat.lt_of_lt_of_le HW.out.1 HR.out.bel.size)
      have HC1 := Lib.hid c1
      go_wp2
      go_region_held (fun w' => w'.cell? ⟨b, off + k * 4 + 1, none⟩ = some (.int .i64 c.k)) (first | go_keep | (exact (World.cell?_of_block (K6.block b HBW.out hbB)).trans HC1.out))
        (first | (go_at_call 18; refine (p_fail B e s' c _ (HR.out.drewN 1).rd _ HY.out HQ.out.1 HQ.out.2.1 HQ.out.2.2.1 HQ.out.2.2.2).mono ?_; rintro x w6 ⟨rfl, R6, K6⟩))
      clear hbB HBW HC1
      have S6 := Lib.hid ((HR.out.drewN 1).half R6 K6)
      have HC6 := Lib.hid (HW.out.2.later S6.out.bel HW.out.1)
      clear R6 K6 HR c0 c1
      have d0 := HC6.out.c0
      have d1 := HC6.out.c1
      have d2 := HC6.out.c2
      have d3 := HC6.out.c3
      go_wp2_with fail
      refine (ref_do M e s' c _ S6.out.rf).mono ?_
      rw [HY.out]
      rintro x w7 ⟨rfl, R7, K7⟩
      have S7 := Lib.hid (S6.out.two R7 K7)
      clear R7 K7 S6 HC6 d0 d1 d2 d3
      have m2 := S7.out.err
      go_wp2
      obtain ⟨lf, hlf⟩ : ∃ lf, leftOf e1 s1 = lf := ⟨_, rfl⟩
      obtain ⟨en, hen⟩ : ∃ en, endOf e1 s1 = en := ⟨_, rfl⟩
      have Q1 := Lib.hid (fun n => q_left S7.out n)
      have Q2 := Lib.hid (fun n => q_left2 S7.out n)
      have Q3 := Lib.hid (fun n => q_err S7.out n)
      have Q4 := Lib.hid (fun n => q_end S7.out n)
      have Q5 := Lib.hid (fun n => q_end2 S7.out n)
      rw [hlf] at Q1 Q2
      rw [hen] at Q4 Q5
      clear hlf hen
      go_quiet ((first | (go_at_call 20; exact Q1.out _) | (go_at_call 21; exact Q2.out _) | (go_at_call 22; exact Q3.out _) | (go_at_call 23; exact Q4.out _) | (go_at_call 24; exact Q5.out _)))
      clear Q1 Q2 Q3 Q4 Q5
      go_wp2
      go_round
      case rel => exact ⟨k + 1, by have := HL.out; omega, by go_num, e1, s1, S7.out.drewN _⟩
      case measure => have := HL.out; simp [intOf]; omega
    · have hk' : k = l.length := Nat.le_antisymm hk (Nat.not_lt.1 hlt)
      subst hk'
      have c2 := HR.out.err
      go_wp2_with fail
      refine (rd_left B e s' _ HR.out.rd).mono ?_
      rintro x w6 ⟨rfl, rfl⟩
      go_wp2_with fail
      refine (ref_left M e s' _ HR.out.rf).mono ?_
      rintro x w6 ⟨rfl, n1, rfl⟩
      have H1 := Lib.hid (HR.out.drewN n1)
      generalize leftOf e s' = lf at *
      go_wp2_with fail
      refine (rd_end B e s' _ H1.out.rd).mono ?_
      rintro x w6 ⟨rfl, rfl⟩
      go_wp2_with fail
      refine (ref_end M e s' _ H1.out.rf).mono ?_
      rintro x w6 ⟨rfl, n2, rfl⟩
      have H2 := Lib.hid (HR.out.drewN (n1 + n2)).bel
      generalize endOf e s' = en at *
      go_wp2
      go_ret
      exact ⟨rfl, H2.out⟩
theorem wireReads_walk (s : ByteArray) (v : Value) (hs : s.size ≤ maxLen) {W : World} (hd : ∃ a len cap l, v = .slice a len cap ∧ l.length = len ∧ len ≤ maxLen ∧ CallsAt W a l) :
    Calls Try.prog 4 #[.string s, v] W fun x w' => x = .returned (.bool true) ∧ Below W.heap.size W w' := by
  obtain ⟨a, len, cap, l, rfl, rfl, hl, hc⟩ := hd
  by_cases hf : fewOk l
  · by_cases h5 : 5000 < s.size
    · exact early s a cap l W hl hc (Or.inr h5)
    · exact main s a cap l W hl hc h5 hf
  · exact early s a cap l W hl hc (Or.inl hf)
end Go.Proofs.Ytiokelnnimoljaa.wireReads
