/- Contract of the document's Of. Condition: few items. -/
import Derived.WalkSpells
import Derived.Outline
import Derived.Deep.RegionHeld
import Derived.Deep.QuietTactic
import Derived.BigQuiet
import Derived.Test.YtmckpoeolfggmaaTbOf
import Derived.Test.YtmckpoeolfggmaaTrApp
namespace Go.Proofs.Ytmckpoeolfggmaa
open Go.RowKit Go.Kq
set_option linter.unusedVariables false
/-- what the document's Of tells -/
def OfR (w : World) (r : Int) (l : List NtV) (x : Ending) (w' : World) : Prop := Below w.heap.size w w' ∧ ((∃ e, e ≠ 0 ∧ ofV r l = (e, none) ∧ x = .returned (.tuple #[.pointer none, .int .i64 e])) ∨ ∃ B acc, ofV r l = (0, some acc) ∧ x = .returned (.tuple #[.pointer (some ⟨B, 0, none⟩), .int .i64 0]) ∧ RtP w' (fun k => w.heap.size ≤ k ∧ k < w'.heap.size) B ⟨r.toNat, acc⟩)
/-- the document's table, made since w -/
structure Mad (w w' : World) (B : Nat) (s : TbV) : Prop where
  rt : RtP w' (fun k => w.heap.size ≤ k ∧ k < w'.heap.size) B s
  bel : Below w.heap.size w w'
theorem Mad.below {w a b : World} {B : Nat} {s : TbV} (h : Mad w a B s) (hb : Below a.heap.size a b) : Mad w b B s := ⟨(h.rt.below hb).mono (fun k hk => ⟨hk.1, Nat.lt_of_lt_of_le hk.2 hb.size⟩), h.bel.trans (hb.mono h.bel.size)⟩
theorem Mad.step {w a b : World} {B : Nat} {s s' : TbV} {r : Value} {x : Ending} (h : Mad w a B s) (hs : StepR a (fun k => w.heap.size ≤ k ∧ k < a.heap.size) B r s' x b) : Mad w b B s' := by
  have hz := hs.2.2.size
  refine ⟨hs.2.1.mono (fun k hk => ?_), h.bel.trans (hs.2.2.below h.bel.size (fun k _ hk => hk.1))⟩
  rcases hk with hk | hk
  · exact ⟨hk.1, by omega⟩
  · have := h.bel.size; exact ⟨by omega, hk.2⟩
def TwoC (w : World) (b o : Nat) (f q : Int) : Prop := w.cell? ⟨b, o, none⟩ = some (.int .i64 f) ∧ w.cell? ⟨b, o + 1, none⟩ = some (.int .u64 q)
set_option maxRecDepth 100000 in
set_option maxHeartbeats 4000000 in
theorem rt_of (w : World) (r : Int) (l : List NtV) (A : Option Addr) (ca : Nat) (hA : EnAt NtV.ic w A l) (hw : ∀ n ∈ l, n.wf) (hl : l.length ≤ 100) : Calls Try.prog 24 #[.int .i64 r, .slice A l.length ca] w (OfR w r l) := by
  have HG := Lib.hid (And.intro hA (And.intro hw hl))
  clear hA hw hl
  go_enter Try.func24, Try.ntmps24
  by_cases hr : 1 ≤ r ∧ r ≤ 40
  case neg =>
    have HE := Lib.hid (ofV_r (l := l) hr)
    by_cases r1 : r < 1
    · have e1 : decide (r < 1) = true := decide_eq_true r1
      clear hr r1
      go_wp2
      go_ret2
      exact ⟨Below.refl _ _, Or.inl ⟨1, by decide, HE.out, by rfl⟩⟩
    · have e1 : decide (r < 1) = false := decide_eq_false r1
      have e2 : decide (40 < r) = true := decide_eq_true (by omega)
      clear hr r1
      go_wp2
      go_ret2
      exact ⟨Below.refl _ _, Or.inl ⟨1, by decide, HE.out, by rfl⟩⟩
  obtain ⟨R, hR⟩ : ∃ R : Nat, r = (R : Int) := ⟨r.toNat, by omega⟩
  subst hR
  have HR40 : Hid (1 ≤ R ∧ R ≤ 40 ∧ (1 ≤ (R : Int) ∧ (R : Int) ≤ 40)) := Lib.hid (by omega)
  have e1 : decide ((R : Int) < 1) = false := decide_eq_false (by omega)
  have e2 : decide ((40 : Int) < (R : Int)) = false := decide_eq_false (by omega)
  have e1' : decide (R < 1) = false := decide_eq_false (by omega)
  have e2' : decide (40 < R) = false := decide_eq_false (by omega)
  clear hr
  go_wp2
  clear e1 e2 e1' e2'
  go_loopw [6] (fun i wr => ∃ j : Nat, j ≤ l.length ∧ i = .int .i64 (j : Int) ∧ (∀ i (hi : i < l.length), i < j → ItOk l[i]) ∧ Below w.heap.size w wr) (fun i _ => l.length - (intOf i).toNat)
  case atStart => exact ⟨0, Nat.zero_le _, rfl, fun i _ h => absurd h (Nat.not_lt_zero _), Below.refl _ _⟩
  case round =>
    obtain ⟨j, hj, rfl, hall, hbl⟩ := hrel
    have HR := Lib.hid (And.intro hall hbl)
    have h100 := HG.out.2.2
    clear hall
    by_cases hlt : j < l.length
    · obtain ⟨b, off, rfl, _, hc⟩ := (HG.out.1.below hbl) j hlt
      obtain ⟨n, hn⟩ : ∃ n, n = l[j] := ⟨_, rfl⟩
      rw [← hn] at hc
      have c0 := hc 0 (by omega)
      have c1 := hc 1 (by omega)
      have c2 := hc 2 (by omega)
      have c3 := hc 3 (by omega)
      have c4 := hc 4 (by omega)
      simp only [NtV.ic, List.getElem?_cons_zero, List.getElem?_cons_succ, Nat.add_zero] at c0 c1 c2 c3 c4
      have HNN : Hid (∀ h : j < l.length, n = l[j]'h) := Lib.hid (fun _ => hn)
      have HWF : Hid n.wf := Lib.hid (by rw [hn]; exact HG.out.2.1 _ (List.getElem_mem hlt))
      have HLT := Lib.hid hlt
      have hi0 : (j : Int) < (l.length : Int) := by omega
      have t1 : decide ((j : Int) < (l.length : Int)) = true := decide_eq_true hi0
      have t2 : decide (j < l.length) = true := decide_eq_true hlt
      have hj6 : j ≤ 1000 := by omega
      clear hc hn hlt hj h100 hbl
      obtain ⟨k, f, q, t, d⟩ := n
      simp only at c0 c1 c2 c3 c4
      go_wp2_with fail
      by_cases hok : ItOk ⟨k, f, q, t, d⟩
      · refine (r14_item_ok ⟨k, f, q, t, d⟩ _ hok HWF.out).mono ?_
        rintro x w3 ⟨rfl, b3⟩
        have H3 := Lib.hid (HR.out.2.trans (b3.mono HR.out.2.size))
        have HOK := Lib.hid hok
        clear b3 hok c0 c1 c2 c3 c4
        go_wp2
        go_roundw
        case rel =>
          refine ⟨j + 1, HLT.out, by go_num, fun i hi hij => ?_, H3.out⟩
          rcases Nat.lt_or_ge i j with h' | h'
          · exact HR.out.1 i hi h'
          · obtain rfl : i = j := by omega
            rw [← HNN.out hi]; exact HOK.out
        case measure => have := HLT.out; simp [intOf]; omega
      · refine (r14_item_bad ⟨k, f, q, t, d⟩ _ hok HWF.out).mono ?_
        rintro x w3 ⟨rfl, b3⟩
        have H3 : Hid (Below w.heap.size w w3 ∧ ofV (R : Int) l = (1, none)) := Lib.hid ⟨HR.out.2.trans (b3.mono HR.out.2.size), ofV_i HR40.out.2.2 (fun h => hok (by rw [HNN.out HLT.out]; exact h _ (List.getElem_mem HLT.out)))⟩
        clear b3 hok c0 c1 c2 c3 c4
        go_wp2
        go_ret2
        exact ⟨H3.out.1, Or.inl ⟨1, by decide, H3.out.2, by rfl⟩⟩
    · obtain rfl : j = l.length := by omega
      have HOK : Hid (∀ n ∈ l, ItOk n) := Lib.hid (fun n hn => by
        obtain ⟨i, hi, rfl⟩ := List.mem_iff_getElem.1 hn
        exact HR.out.1 i hi hi)
      have HV := Lib.hid (ofV_l HR40.out.2.2 HOK.out)
      have t1 : decide ((l.length : Int) < (l.length : Int)) = false := decide_eq_false (by omega)
      have t2 : decide (l.length < l.length) = false := decide_eq_false (by omega)
      obtain ⟨m, hm⟩ : ∃ m, m = l.length + 1 := ⟨_, rfl⟩
      have HM := Lib.hid hm
      have hwr : IntKind.i64.wrap ((l.length : Int) + 1) = (m : Int) := by rw [IntWalk.i64_in _ (by omega)]; omega
      have H2 : Hid (Mad w (wr.alloc (.cells #[.slice none 0 0, .int .i64 (m : Int)] 35)) wr.heap.size ⟨m, []⟩) := Lib.hid (by
        have hb := Kq.below_alloc wr (.cells #[.slice none 0 0, .int .i64 (m : Int)] 35)
        have hz : (wr.alloc (.cells #[.slice none 0 0, .int .i64 (m : Int)] 35)).heap.size = wr.heap.size + 1 := by simp
        have hs := hbl.size
        exact ⟨⟨none, 0, Kq.blk_new wr _ _ _, fun j hj => absurd hj (Nat.not_lt_zero _), fun b off e => (by cases e), Nat.le_refl _, ⟨hs, by omega⟩⟩, hbl.trans (hb.mono hs)⟩)
      obtain ⟨B, hB⟩ : ∃ B, B = wr.heap.size := ⟨_, rfl⟩
      clear hlt hj hbl h100 hm
      go_wp2
      rw [← hB] at H2 ⊢
      obtain ⟨w2, hw2⟩ : ∃ z, z = wr.alloc (.cells #[.slice none 0 0, .int .i64 (m : Int)] 35) := ⟨_, rfl⟩
      rw [← hw2] at H2 ⊢
      clear hw2 hB t1 t2 hwr HR
      go_loopw [8] (fun i wr => ∃ j acc, i = .int .i64 ((j : Nat) : Int) ∧ OfI l acc j ∧ Mad w wr B ⟨m, acc⟩) (fun i _ => l.length - (intOf i).toNat)
      case atStart => exact ⟨0, [], rfl, OfI.zero l, H2.out⟩
      case round =>
        obtain ⟨j, acc, rfl, hof, hma⟩ := hrel
        have HRR := Lib.hid (And.intro hof hma)
        have h100 := HG.out.2.2
        have hj := hof.le
        clear hof hma
        by_cases hlt : j < l.length
        · obtain ⟨b, off, rfl, _, hc⟩ := (HG.out.1.below HRR.out.2.bel) j hlt
          obtain ⟨n, hn⟩ : ∃ n, n = l[j] := ⟨_, rfl⟩
          rw [← hn] at hc
          have HCL : Hid (∀ w', Below wr.heap.size wr w' → ∀ i, i < 5 → w'.cell? ⟨b, off + j * 5 + i, none⟩ = n.ic[i]?) := Lib.hid (fun w' hb i hi => by
            obtain ⟨b', off', e, _, hc'⟩ := (HG.out.1.below (HRR.out.2.below hb).bel) j hlt
            injection e with e; injection e with e1 e2; subst e1 e2
            rw [← hn] at hc'
            exact hc' i hi)
          have HIT : Hid (ItOk n ∧ n.wf) := Lib.hid ⟨by rw [hn]; exact HOK.out _ (List.getElem_mem hlt), by rw [hn]; exact HG.out.2.1 _ (List.getElem_mem hlt)⟩
          have HNEXT : Hid (tbR.look acc n.nm = none → OfI l (tbR.ins acc n) (j + 1)) := Lib.hid (fun h => by subst hn; exact HRR.out.1.next hlt h HIT.out)
          have HTW : Hid ((tbR.look acc n.nm).isSome = true → ofV (R : Int) l = (4, none)) := Lib.hid (fun h => by
            rw [HV.out, HRR.out.1.twice hlt (by rw [← hn]; exact h)]; rfl)
          have HLT := Lib.hid hlt
          have hi0 : (j : Int) < (l.length : Int) := by omega
          have t1 : decide ((j : Int) < (l.length : Int)) = true := decide_eq_true hi0
          have t2 : decide (j < l.length) = true := decide_eq_true hlt
          have hj6 : j ≤ 1000 := by omega
          have HSML : Hid (tbR.Sort acc ∧ acc.length ≤ 1000 ∧ acc.length < m) := Lib.hid ⟨HRR.out.1.sort, by have := HRR.out.1.len; omega, by have := HRR.out.1.len; have := HM.out; omega⟩
          clear hc hn hlt hj h100
          obtain ⟨k, f, q, t, d⟩ := n
          have HTC : Hid (∀ w', Below wr.heap.size wr w' → TwoC w' b (off + j * 5) f q) := Lib.hid (fun w' hb => ⟨HCL.out w' hb 0 (by omega), HCL.out w' hb 1 (by omega)⟩)
          go_wp2
          refine wp_region_held_drew (S := fun w' => TwoC w' b (off + j * 5) f q) (by kernel_rfl) (HTC.out _ (Below.refl _ _).drew) (fun hS0 => ?_)
          obtain ⟨wd, hwd⟩ : ∃ z, z = wr.drew := ⟨_, rfl⟩
          have HD : Hid (Below wr.heap.size wr wd) := Lib.hid (by rw [hwd]; exact (Below.refl _ _).drew)
          rw [← hwd] at hS0 ⊢
          clear hwd
          unfold TwoC at hS0
          dsimp only [TwoC]
          refine wpAnyH_take (i := 0) (v := ?_) rfl (by kernel_rfl) (by kernel_rfl) (by kernel_rfl) (fun _ _ _ h => h) (Or.inl ⟨by kernel_rfl, ?_⟩) (by assumption) ?_
          rotate_left
          · intro w hSw; (try dsimp only at hSw); go_simp; (try with_reducible rfl)
          refine wpAnyH_take (i := 1) (v := ?_) rfl (by kernel_rfl) (by kernel_rfl) (by kernel_rfl) (fun _ _ _ h => h) (Or.inl ⟨by kernel_rfl, ?_⟩) (by assumption) ?_
          rotate_left
          · intro w hSw; (try dsimp only at hSw); go_simp; (try with_reducible rfl)
          refine wpAnyH_take (i := 2) (v := ?_) rfl (by kernel_rfl) (by kernel_rfl) (by kernel_rfl) (fun _ _ _ h => h) (Or.inl ⟨by kernel_rfl, ?_⟩) (by assumption) ?_
          rotate_left
          · intro w hSw; (try dsimp only at hSw); go_simp; (try with_reducible rfl)
          refine wpAnyH_take (i := 3) (v := ?_) rfl (by kernel_rfl) (by kernel_rfl) (by kernel_rfl) (fun _ _ _ h => h) (Or.inl ⟨by kernel_rfl, ?_⟩) (by assumption) ?_
          rotate_left
          · intro w hSw; (try dsimp only at hSw); go_simp; (try with_reducible rfl)
          refine wpAnyH_take (i := 4) (v := ?_) rfl (by kernel_rfl) (by kernel_rfl) (by kernel_rfl) (fun _ _ _ h => h) (Or.inl ⟨by kernel_rfl, ?_⟩) (by assumption) ?_
          rotate_left
          · intro w hSw; (try dsimp only at hSw); go_simp; (try with_reducible rfl)
          refine wpAnyH_take (i := 5) (v := ?_) rfl (by kernel_rfl) (by kernel_rfl) (by kernel_rfl) (fun _ _ _ h => h) (Or.inl ⟨by kernel_rfl, ?_⟩) (by assumption) ?_
          rotate_left
          · intro w hSw; (try dsimp only at hSw); go_simp; (try with_reducible rfl)
          refine wpAnyH_take (i := 6) (v := ?_) rfl (by kernel_rfl) (by kernel_rfl) (by kernel_rfl) (fun _ _ _ h => h) (Or.inl ⟨by kernel_rfl, ?_⟩) (by assumption) ?_
          rotate_left
          · intro w hSw; (try dsimp only at hSw); go_simp; (try with_reducible rfl)
          refine wpAnyH_take (i := 7) (v := ?_) rfl (by kernel_rfl) (by kernel_rfl) (by kernel_rfl) (fun _ _ _ h => h) (Or.inl ⟨by kernel_rfl, ?_⟩) (by assumption) ?_
          rotate_left
          · intro w hSw; (try dsimp only at hSw); go_simp; (try with_reducible rfl)
          refine wpAnyH_take (i := 8) (v := ?_) rfl (by kernel_rfl) (by kernel_rfl) (by kernel_rfl) (fun _ _ _ h => h) (Or.inl ⟨by kernel_rfl, ?_⟩) (by assumption) ?_
          rotate_left
          · intro w hSw; (try dsimp only at hSw); go_simp; (try with_reducible rfl)
          refine wpAnyH_take (i := 9) (v := ?_) rfl (by kernel_rfl) (by kernel_rfl) (by kernel_rfl) (fun _ _ _ h => h) (Or.inl ⟨by kernel_rfl, ?_⟩) (by assumption) ?_
          rotate_left
          · intro w hSw; (try dsimp only at hSw); go_simp; (try with_reducible rfl)
          refine wpAnyH_take (i := 10) (v := ?_) rfl (by kernel_rfl) (by kernel_rfl) (by kernel_rfl) (fun _ _ _ h => h) (Or.inl ⟨by kernel_rfl, ?_⟩) (by assumption) ?_
          rotate_left
          · intro w hSw; (try dsimp only at hSw); go_simp; (try with_reducible rfl)
          refine wpAnyH_take (i := 11) (v := ?_) rfl (by kernel_rfl) (by kernel_rfl) (by kernel_rfl) (fun _ _ _ h => h) (Or.inl ⟨by kernel_rfl, ?_⟩) (by assumption) ?_
          rotate_left
          · intro w hSw; (try dsimp only at hSw); go_simp; (try with_reducible rfl)
          refine wpAnyH_take (i := 12) (v := ?_) rfl (by kernel_rfl) (by kernel_rfl) (by kernel_rfl) (fun _ _ _ h => h) (Or.inl ⟨by kernel_rfl, ?_⟩) (by assumption) ?_
          rotate_left
          · intro w hSw; (try dsimp only at hSw); go_simp; (try with_reducible rfl)
          refine wpAnyH_ready (rs := [13]) (by kernel_rfl) (by simp) ?_
          refine AllReadyH.cons rfl (fun K hK => ?_) AllReadyH.nil
          go_simp
          refine (rt_place wd _ B ⟨m, acc⟩ f q (HRR.out.2.below HD.out).rt HSML.out.1 HSML.out.2.1).mono ?_
          rintro x w4 ⟨rfl, n4, hw4⟩
          have H4 : Hid (Below wr.heap.size wr w4) := Lib.hid (HD.out.trans (by rw [hw4]; exact (below_drewN (Below.refl _ _) _).mono HD.out.size))
          clear hw4 hS0 HD
          refine hK.out _ _ (HTC.out _ H4.out) (fun hS0 => ?_)
          clear hK K
          obtain ⟨p, hp⟩ : ∃ p, p = tbR.plc (⟨m, acc⟩ : TbV).l (f, q) := ⟨_, rfl⟩
          obtain ⟨z, hz⟩ : ∃ z, z = tbR.isAt (⟨m, acc⟩ : TbV).l (f, q) := ⟨_, rfl⟩
          rw [← hp, ← hz]
          have HZ : Hid (z = (tbR.look acc (f, q)).isSome) := Lib.hid (by rw [hz]; exact Ord.isAt_look HSML.out.1 (f, q))
          clear hp hz
          refine wpAnyH_take (i := 14) (v := ?_) rfl (by kernel_rfl) (by kernel_rfl) (by kernel_rfl) (fun _ _ _ h => h) (Or.inl ⟨by kernel_rfl, ?_⟩) (by assumption) ?_
          rotate_left
          · intro w hSw; (try dsimp only at hSw); go_simp; (try with_reducible rfl)
          refine wpAnyH_take (i := 15) (v := ?_) rfl (by kernel_rfl) (by kernel_rfl) (by kernel_rfl) (fun _ _ _ h => h) (Or.inl ⟨by kernel_rfl, ?_⟩) (by assumption) ?_
          rotate_left
          · intro w hSw; (try dsimp only at hSw); go_simp; (try with_reducible rfl)
          refine wpAnyH_take (i := 16) (v := ?_) rfl (by kernel_rfl) (by kernel_rfl) (by kernel_rfl) (fun _ _ _ h => h) (Or.inl ⟨by kernel_rfl, ?_⟩) (by assumption) ?_
          rotate_left
          · intro w hSw; (try dsimp only at hSw); go_simp; (try with_reducible rfl)
          refine wpAnyH_take (i := 17) (v := ?_) rfl (by kernel_rfl) (by kernel_rfl) (by kernel_rfl) (fun _ _ _ h => h) (Or.inl ⟨by kernel_rfl, ?_⟩) (by assumption) ?_
          rotate_left
          · intro w hSw; (try dsimp only at hSw); go_simp; (try with_reducible rfl)
          refine wpAnyH_take (i := 18) (v := ?_) rfl (by kernel_rfl) (by kernel_rfl) (by kernel_rfl) (fun _ _ _ h => h) (Or.inl ⟨by kernel_rfl, ?_⟩) (by assumption) ?_
          rotate_left
          · intro w hSw; (try dsimp only at hSw); go_simp; (try with_reducible rfl)
          refine wpAnyH_done (by kernel_rfl) ?_ _
          clear hS0
          have HM4 := Lib.hid (HRR.out.2.below H4.out)
          have c0 := HCL.out _ H4.out 0 (by omega)
          have c1 := HCL.out _ H4.out 1 (by omega)
          have c2 := HCL.out _ H4.out 2 (by omega)
          have c3 := HCL.out _ H4.out 3 (by omega)
          have c4 := HCL.out _ H4.out 4 (by omega)
          simp only [NtV.ic, List.getElem?_cons_zero, List.getElem?_cons_succ, Nat.add_zero] at c0 c1 c2 c3 c4
          clear H4
          go_simp
          cases z with
          | true =>
            have HE : Hid (ofV (R : Int) l = (4, none)) := Lib.hid (HTW.out HZ.out.symm)
            go_wp2
            go_ret2
            exact ⟨HM4.out.bel, Or.inl ⟨4, by decide, HE.out, by rfl⟩⟩
          | false =>
            have HN : Hid (tbR.look acc (f, q) = none) := Lib.hid (Option.isNone_iff_eq_none.1 (by rw [← Option.not_isSome, ← HZ.out]; rfl))
            have HFIN : Hid (OfI l (tbR.ins acc ⟨k, f, q, t, d⟩) (j + 1) ∧ addV ⟨m, acc⟩ ⟨k, f, q, t, d⟩ = (⟨m, tbR.ins acc ⟨k, f, q, t, d⟩⟩, 0)) := Lib.hid ⟨HNEXT.out HN.out, by unfold addV; rw [if_neg (by have := HSML.out.2.2; show ¬ m ≤ acc.length; omega)]⟩
            go_wp2_with fail
            refine (rt_put w4 _ B ⟨m, acc⟩ ⟨k, f, q, t, d⟩ HN.out HM4.out.rt HSML.out.1 HSML.out.2.1 (fun k hk => hk.2)).mono ?_
            intro x w5 hx
            rw [HFIN.out.2] at hx
            have H5 := Lib.hid (HM4.out.step hx)
            obtain ⟨rfl, -, -⟩ := hx
            clear c0 c1 c2 c3 c4 HM4
            go_wp2
            go_roundw
            case rel => exact ⟨j + 1, _, by go_num, HFIN.out.1, H5.out⟩
            case measure => have := HLT.out; simp [intOf]; omega
        · obtain rfl : j = l.length := by omega
          have HDONE : Hid (ofV (R : Int) l = if (R : Int) < (l.length : Int) then (2, none) else (0, some acc)) := Lib.hid (by rw [HV.out, HRR.out.1.done]; rfl)
          have HLEN := Lib.hid HRR.out.1.len
          have t1 : decide ((l.length : Int) < (l.length : Int)) = false := decide_eq_false (by omega)
          have t2 : decide (l.length < l.length) = false := decide_eq_false (by omega)
          clear hlt hj h100
          by_cases hbig : R < l.length
          · have e1 : decide ((R : Int) < (l.length : Int)) = true := decide_eq_true (by omega)
            have e2 : decide (R < l.length) = true := decide_eq_true hbig
            have HE : Hid (ofV (R : Int) l = (2, none)) := Lib.hid (by rw [HDONE.out, if_pos (by omega)])
            clear hbig
            go_wp2
            go_ret2
            exact ⟨HRR.out.2.bel, Or.inl ⟨2, by decide, HE.out, by rfl⟩⟩
          · have e1 : decide ((R : Int) < (l.length : Int)) = false := decide_eq_false (by omega)
            have e2 : decide (R < l.length) = false := decide_eq_false hbig
            have HE : Hid (ofV (R : Int) l = (0, some acc)) := Lib.hid (by rw [HDONE.out, if_neg (by omega)])
            obtain ⟨An, cn, hp⟩ := HRR.out.2.rt
            have z1 := hp.c1
            have f1 := hp.fz 1
            have HEND : Hid (RtP (wr.setCell ⟨B, 1, none⟩ (.int .i64 (R : Int))) (fun k => w.heap.size ≤ k ∧ k < (wr.setCell ⟨B, 1, none⟩ (.int .i64 (R : Int))).heap.size) B ⟨R, acc⟩ ∧ Below w.heap.size w (wr.setCell ⟨B, 1, none⟩ (.int .i64 (R : Int)))) := Lib.hid (by
              have hks : Kq.Keeps (· = B) wr (wr.setCell ⟨B, 1, none⟩ (.int .i64 (R : Int))) := Kq.Keeps.setCell _ _ _ rfl
              have hsz := hks.size
              refine ⟨⟨An, cn, Kq.blk_set hp.blk 1 _, hp.at_.keeps hks (fun g o e e2 => (hp.o g o e).2.2 e2), fun b off e => ⟨⟨(hp.o b off e).1.1, Nat.lt_of_lt_of_le (hp.o b off e).1.2 hsz⟩, Nat.lt_of_lt_of_le (hp.o b off e).2.1 hsz, (hp.o b off e).2.2⟩, hp.cap, ⟨hp.oB.1, Nat.lt_of_lt_of_le hp.oB.2 hsz⟩⟩, HRR.out.2.bel.trans (hks.below HRR.out.2.bel.size (fun k _ e => by rw [show k = B from e]; exact hp.oB.1))⟩)
            clear hbig hp
            go_wp2
            go_ret2
            exact ⟨HEND.out.2, Or.inr ⟨B, acc, HE.out, by rfl, by rw [Int.toNat_natCast]; exact HEND.out.1⟩⟩
end Go.Proofs.Ytmckpoeolfggmaa
