/- Merged: TrApp, TrOf. Contract of the document's Apply. Condition: it is in order. Contract of the document's Of. Condition: few items. -/
import Derived.WalkSpells
import Derived.Outline
import Derived.Deep.QuietTactic
import Derived.BigQuiet
import Derived.Test.YtkbiolhcpghmkaaGreatTrPutQ
import Derived.Test.YtkbiolhcpghmkaaGreatTbSameMQ
import Derived.Test.YtkbiolhcpghmkaaGreatNtRightQ
import Derived.Deep.RegionHeld
import Derived.Test.YtkbiolhcpghmkaaGreatTbOfQ
namespace Go.Proofs.YtkbiolhcpghmkaaGreat
open Go.RowKit Go.Kq
set_option linter.unusedVariables false
theorem en_set {w : World} {g : Nat} {l : List NtV} {cur : Array Value} {T : TypeId} (h : EnAt NtV.ic w (some ⟨g, 0, none⟩) l) (hb : w.heap[g]? = some (.cells cur T (0, 0))) (p : Nat) (hp : p < l.length) : EnAt NtV.ic (w.setCell ⟨g, p * 5 + 4, none⟩ (.int .i64 2)) (some ⟨g, 0, none⟩) (l.set p (l[p].as 2)) := by
  have hb2 := Kq.blk_set hb (p * 5 + 4) (.int .i64 2)
  have hcur : ∀ j (hj : j < l.length) i, i < 5 → cur[j * 5 + i]? = (NtV.ic l[j])[i]? := fun j hj i hi => by
    obtain ⟨b, off, e, _, hc⟩ := h j hj
    injection e with e
    injection e with e1 e2
    subst e1 e2
    have := hc i hi
    rw [Nat.zero_add, Kq.blk_cell hb] at this
    exact this
  have hsz : p * 5 + 4 < cur.size := by
    have := hcur p hp 4 (by decide)
    have h2 : (NtV.ic l[p])[4]? = some (.int .i64 l[p].k) := rfl
    rw [h2] at this
    exact (Array.getElem?_eq_some_iff.1 this).1
  intro j hj
  have hj' : j < l.length := by simpa using hj
  refine ⟨g, 0, rfl, Kq.blk_lt hb2, fun i hi => ?_⟩
  rw [Nat.zero_add, Kq.blk_cell hb2, Array.getElem?_setIfInBounds]
  by_cases hjp : j = p
  · subst hjp
    have e1 : (l.set j (l[j].as 2))[j] = l[j].as 2 := by simp
    rw [e1]
    by_cases hi4 : i = 4
    · subst hi4
      rw [if_pos rfl, if_pos hsz]; rfl
    · rw [if_neg (by omega), hcur j hj' i hi]
      have : i = 0 ∨ i = 1 ∨ i = 2 ∨ i = 3 := by omega
      rcases this with rfl | rfl | rfl | rfl <;> rfl
  · have e1 : (l.set p (l[p].as 2))[j] = l[j] := by rw [List.getElem_set_ne (fun h => hjp h.symm)]
    rw [e1, if_neg (by omega), hcur j hj' i hi]
/-- stored into the table, a list that was made anew is its list -/
theorem rt_done {wd w : World} {O : Nat → Prop} {B : Nat} {s : TbV} {An : Option Addr} {cn : Nat} {A : Option Addr} {c : Nat} {xs : List NtV} (hk : Kq.Keeps (fun k => wd.heap.size ≤ k) wd w) (hat : EnAt NtV.ic w A xs) (hge : ∀ b off, A = some ⟨b, off, none⟩ → wd.heap.size ≤ b ∧ b < w.heap.size) (hc : xs.length ≤ c) (hr : RT wd O B s An cn) (hO : ∀ k, O k → k < wd.heap.size) {r : Value} : StepR wd O B r ⟨s.room, xs⟩ (.returned r) (w.setCell ⟨B, 0, none⟩ (.slice A xs.length c)) := by
  have hr2 := hr.keeps hk (fun k ho h => by have := hO k ho; omega)
  have hB := hO B hr.oB
  have hks : Kq.Keeps (· = B) w (w.setCell ⟨B, 0, none⟩ (.slice A xs.length c)) := Kq.Keeps.setCell _ _ _ rfl
  refine ⟨rfl, ⟨A, c, Kq.blk_set hr2.blk 0 _, hat.keeps hks (fun g o e hg => ?_), fun b off e => ⟨Or.inr ⟨(hge b off e).1, Nat.lt_of_lt_of_le (hge b off e).2 hks.size⟩, Nat.lt_of_lt_of_le (hge b off e).2 hks.size, fun hb => ?_⟩, hc, Or.inl hr.oB⟩, ?_⟩
  · have h1 := (hge g o e).1
    have h2 : g = B := hg
    omega
  · have h1 := (hge b off e).1
    omega
  · refine ⟨hks.os.trans hk.os, hks.tape.trans hk.tape, hks.output.trans hk.output, Nat.le_trans hk.size hks.size, fun k hk1 hn => ?_⟩
    rw [hks.block k (Nat.lt_of_lt_of_le hk1 hk.size) (fun e => hn (by rw [show k = B from e]; exact hr.oB)), hk.block k hk1 (Nat.not_le.2 hk1)]
set_option maxRecDepth 100000 in
theorem bs_run (w : World) : (Instr.buildSlice 26 0 #[]).run Tryz.prog w = .ok (.slice (some ⟨w.heap.size, 0, none⟩) 0 0) (w.alloc (.cells #[] 51)) := by kernel_rfl
/-- what Apply's box tells -/
structure BxN (w w' : World) (O : Nat → Prop) (B : Nat) (s : TbV) (n : NtV) : Prop where
  bel : Below w.heap.size w w'
  tb : RtP w' O B s
  blk : w'.heap[w.heap.size]? = some (.cells #[.int .i64 n.k, .int .i64 n.f, .int .u64 n.q, .int .u64 n.t, .string n.d] 46 (0, 0))
theorem BxN.below {w w1 w2 : World} {O : Nat → Prop} {B : Nat} {s : TbV} {n : NtV} (h : BxN w w1 O B s n) (hb : Below w1.heap.size w1 w2) : BxN w w2 O B s n :=
  ⟨h.bel.trans (hb.mono h.bel.size), h.tb.below hb, Kq.below_blk hb h.blk (Kq.blk_lt h.blk)⟩
theorem app_bad {s : TbV} {n : NtV} (h : ¬ EnOk [1, 2, 3, 4] n) : appV s n = (s, 1) := if_pos h
theorem app_1 {s : TbV} {n : NtV} (h : EnOk [1, 2, 3, 4] n) (h1 : n.k = 1) : appV s n = sentV s n := by unfold appV; rw [if_neg (not_not_intro h), if_pos h1]
theorem app_2 {s : TbV} {n : NtV} (h : EnOk [1, 2, 3, 4] n) (h1 : n.k = 2) : appV s n = recvV s n := by unfold appV; rw [if_neg (not_not_intro h), if_neg (by omega), if_pos h1]
theorem app_3 {s : TbV} {n : NtV} (h : EnOk [1, 2, 3, 4] n) (h1 : n.k ≠ 1) (h2 : n.k ≠ 2) : appV s n = overV s n := by unfold appV; rw [if_neg (not_not_intro h), if_neg h1, if_neg h2]
theorem EnOk.range {n : NtV} (h : EnOk [1, 2, 3, 4] n) : 1 ≤ n.k ∧ n.k ≤ 4 ∧ PkOk n.p := by
  have h1 := h.1
  simp only [List.mem_cons, List.not_mem_nil, or_false] at h1
  exact ⟨by omega, by omega, h.2⟩
theorem EnOk.of {n : NtV} (h : 1 ≤ n.k ∧ n.k ≤ 4 ∧ PkOk n.p) : EnOk [1, 2, 3, 4] n := by
  refine ⟨?_, h.2.2⟩
  simp only [List.mem_cons, List.not_mem_nil, or_false]
  omega
section
variable (w : World) (O : Nat → Prop) (B : Nat) (s : TbV)
set_option maxRecDepth 100000 in
set_option maxHeartbeats 4000000 in
theorem rt_apply (n : NtV) (hw : n.wf) (h : RtP w O B s) (hs : tbR.Sort s.l) (h1000 : s.l.length ≤ 1000) (hO : ∀ k, O k → k < w.heap.size) : Calls Tryz.prog 49 #[.pointer (some ⟨B, 0, none⟩), .agg #[.int .i64 n.k, .int .i64 n.f, .int .u64 n.q, .int .u64 n.t, .string n.d]] w (StepR w O B (.int .i64 (appV s n).2) (appV s n).1) := by
  obtain ⟨i0, hi0, hz0, hz1, hz2⟩ := info_partsF infoIt
  obtain ⟨k, f, q, t, d⟩ := n
  have HO := Lib.hid hO
  have HSS := Lib.hid (And.intro hs h1000)
  have HWF := Lib.hid hw
  obtain ⟨w0, hw0⟩ : ∃ z, z = w.alloc (.cells #[.int .i64 k, .int .i64 f, .int .u64 q, .int .u64 t, .string d] 46) := ⟨_, rfl⟩
  have H0 : Hid (BxN w w0 O B s ⟨k, f, q, t, d⟩) := Lib.hid (by
    have hb := Kq.below_alloc w (.cells #[.int .i64 k, .int .i64 f, .int .u64 q, .int .u64 t, .string d] 46)
    have hr := Kq.blk_new w #[.int .i64 k, .int .i64 f, .int .u64 q, .int .u64 t, .string d] 46 (0, 0)
    rw [← hw0] at hb hr
    exact ⟨hb, h.below hb, hr⟩)
  clear h hs hO h1000 hw
  have c0 := Kq.blk_cell H0.out.blk 0
  have c1 := Kq.blk_cell H0.out.blk 1
  have c2 := Kq.blk_cell H0.out.blk 2
  have c3 := Kq.blk_cell H0.out.blk 3
  have c4 := Kq.blk_cell H0.out.blk 4
  simp only at c0 c1 c2 c3 c4
  go_enter Tryz.func49, Tryz.ntmps49
  go_wp2_with fail
  rw [← hw0]
  clear hw0 c0 c1 c2 c3 c4
  by_cases hok : 1 ≤ k ∧ k ≤ 4 ∧ PkOk ⟨f, q, t, d⟩
  case neg =>
    have HE : Hid (appV s ⟨k, f, q, t, d⟩ = (s, 1)) := Lib.hid (app_bad (fun h => hok h.range))
    refine (r14_right_bad ⟨k, f, q, t, d⟩ w0 hok HWF.out).mono ?_
    rintro x w1 ⟨rfl, b1⟩
    have H1 := Lib.hid (H0.out.below b1)
    clear b1 H0 hok
    go_wp2
    go_ret
    rw [HE.out]
    exact StepR.from H1.out.bel (StepR.same H1.out.tb (Below.refl _ _) rfl)
  refine (r14_right_ok ⟨k, f, q, t, d⟩ w0 hok HWF.out).mono ?_
  rintro x w1 ⟨rfl, b1⟩
  have H1 := Lib.hid (H0.out.below b1)
  have HOK : Hid (EnOk [1, 2, 3, 4] ⟨k, f, q, t, d⟩) := Lib.hid (EnOk.of hok)
  clear b1 H0 hok
  have c1 := Kq.blk_cell H1.out.blk 1
  have c2 := Kq.blk_cell H1.out.blk 2
  simp only at c1 c2
  go_wp2_with fail
  refine (rt_place w1 O B s f q H1.out.tb HSS.out.1 HSS.out.2).mono ?_
  rintro x w2 ⟨rfl, n2, hw2⟩
  have H2 : Hid (BxN w w2 O B s ⟨k, f, q, t, d⟩) := Lib.hid (H1.out.below (by rw [hw2]; exact below_drewN (Below.refl _ _) _))
  clear hw2 H1 c1 c2
  have HIL := Lib.hid (Ord.isAt_look HSS.out.1 (f, q))
  obtain ⟨I, hI⟩ : ∃ I, I = tbR.isAt s.l (f, q) := ⟨_, rfl⟩
  obtain ⟨p, hp⟩ : ∃ p, p = tbR.plc s.l (f, q) := ⟨_, rfl⟩
  have HLT : Hid (I = true → ∃ h : p < s.l.length, tbR.look s.l (f, q) = some s.l[p]) := Lib.hid (fun e => by
    rw [hI] at e; subst hp
    obtain ⟨h1, h2⟩ := of_decide_eq_true e
    refine ⟨h1, ?_⟩
    rw [Ord.look_at s.l (f, q) HSS.out.1, dif_pos h1, if_pos h2])
  rw [← hI, ← hp]
  rw [← hI] at HIL
  have HP := Lib.hid hp
  clear hI hp
  have c0 := Kq.blk_cell H2.out.blk 0
  have c1 := Kq.blk_cell H2.out.blk 1
  have c2 := Kq.blk_cell H2.out.blk 2
  have c3 := Kq.blk_cell H2.out.blk 3
  have c4 := Kq.blk_cell H2.out.blk 4
  simp only at c0 c1 c2 c3 c4
  by_cases k1 : k = 1
  · subst k1
    cases I with
    | false =>
      have HN : Hid (tbR.look s.l (f, q) = none) := Lib.hid (Option.isNone_iff_eq_none.1 (by rw [← Option.not_isSome, ← HIL.out]; rfl))
      have HE : Hid (appV s ⟨1, f, q, t, d⟩ = addV s ⟨1, f, q, t, d⟩) := Lib.hid (by
        rw [app_1 HOK.out rfl]; unfold sentV; rw [show tbR.look s.l (NtV.nm ⟨1, f, q, t, d⟩) = none from HN.out]; rfl)
      go_wp2_with fail
      refine (rt_put w2 O B s ⟨1, f, q, t, d⟩ HN.out H2.out.tb HSS.out.1 HSS.out.2 (fun k hk => Nat.lt_of_lt_of_le (HO.out k hk) H2.out.bel.size)).mono ?_
      intro x w3 hx
      have HX := Lib.hid (StepR.from H2.out.bel hx)
      obtain ⟨rfl, -, -⟩ := hx
      clear c0 c1 c2 c3 c4
      go_wp2
      go_ret
      rw [HE.out]
      exact HX.out
    | true =>
      have HE : Hid (appV s ⟨1, f, q, t, d⟩ = (s, 0)) := Lib.hid (by
        obtain ⟨h1, h2⟩ := HLT.out rfl
        rw [app_1 HOK.out rfl]; unfold sentV; rw [show tbR.look s.l (NtV.nm ⟨1, f, q, t, d⟩) = _ from h2]; rfl)
      go_wp2
      go_ret
      rw [HE.out]
      exact StepR.from H2.out.bel (StepR.same H2.out.tb (Below.refl _ _) rfl)
  have e1 : (k == 1) = false := beq_eq_false_iff_ne.2 k1
  by_cases k2 : k = 2
  · subst k2
    cases I with
    | false =>
      have HN : Hid (tbR.look s.l (f, q) = none) := Lib.hid (Option.isNone_iff_eq_none.1 (by rw [← Option.not_isSome, ← HIL.out]; rfl))
      have HE : Hid (appV s ⟨2, f, q, t, d⟩ = addV s ⟨2, f, q, t, d⟩) := Lib.hid (by
        rw [app_2 HOK.out rfl]; unfold recvV; rw [show tbR.look s.l (NtV.nm ⟨2, f, q, t, d⟩) = none from HN.out]; rfl)
      go_wp2_with fail
      refine (rt_put w2 O B s ⟨2, f, q, t, d⟩ HN.out H2.out.tb HSS.out.1 HSS.out.2 (fun k hk => Nat.lt_of_lt_of_le (HO.out k hk) H2.out.bel.size)).mono ?_
      intro x w3 hx
      have HX := Lib.hid (StepR.from H2.out.bel hx)
      obtain ⟨rfl, -, -⟩ := hx
      clear c0 c1 c2 c3 c4
      go_wp2
      go_ret
      rw [HE.out]
      exact HX.out
    | true =>
      obtain ⟨hpn, hlk⟩ := HLT.out rfl
      obtain ⟨An, cn, hr⟩ := H2.out.tb
      have HR : Hid (RT w2 O B s An cn) := Lib.hid hr
      have HX := Lib.hid (RwI.start w2)
      obtain ⟨n, hn⟩ : ∃ n, n = s.l.length := ⟨_, rfl⟩
      have HNN := Lib.hid hn
      have z0 := (HX.out.rt hr (fun k hk => Nat.lt_of_lt_of_le (HO.out k hk) H2.out.bel.size)).c0
      rw [← hn] at z0
      have bs := bs_run
      have h1000 := HSS.out.2
      rw [← hn] at h1000
      have HS1 : Hid (Src Tryz.prog 5 26 (.slice An n cn) n (ItE.flat s.l) (w2.alloc (.cells #[] 51))) := Lib.hid (by
        have := src_pre cn (HX.out.rt hr (fun k hk => Nat.lt_of_lt_of_le (HO.out k hk) H2.out.bel.size)).at_ s.l.length (Nat.le_refl _)
        rw [List.take_length, ← HNN.out] at this
        exact this)
      clear hn hr
      go_wp2_with (at_builtin; refine Kq.wpList_append_any _ rfl (.tmp 52) (.tmp 56) 26 26 rfl w2.heap.size 51 i0 (.agg #[.int .i64 0, .int .u64 0, .int .u64 0, .string ⟨#[]⟩, .int .i64 0]) 5 48 Tryz.underlying26 hi0 hz0 hz1 hz2 rfl (by decide) (.slice (some ⟨w2.heap.size, 0, none⟩) 0 0) 0 (ItE.flat []) rfl HX.out.row (.slice An n cn) n (ItE.flat s.l) rfl HS1.out ?h1 ?h2 HX.out.size ?_)
      case h1 => unfold maxLen; omega
      case h2 => omega
      intro v3 w3 hown3 hgrow hfresh
      have H3 : Hid (RwI w2 w3 v3 s.l) := Lib.hid (HX.out.app (by rw [show ([] : List NtV).length + n = n from Nat.zero_add n]; exact hown3) HNN.out.symm hgrow)
      clear hown3 hgrow hfresh HX HS1 z0 c0 c1 c2 c3 c4
      have HO2 : Hid (∀ k, O k → k < w2.heap.size) := Lib.hid (fun k hk => Nat.lt_of_lt_of_le (HO.out k hk) H2.out.bel.size)
      obtain ⟨hx1, ⟨rfl, h0⟩ | ⟨g, cap, cur, rfl, hge, hbk, hcap, hcm, hcz, htk⟩⟩ := H3.out.row
      · omega
      have HAT : Hid (EnAt NtV.ic w3 (some ⟨g, 0, none⟩) s.l) := Lib.hid (by
        obtain ⟨A', c', e, hc, hat, _⟩ := Kq.Elt.own_at H3.out.row
        injection e with e1 e2 e3
        subst e1 e3
        exact ItE.en.1 hat)
      have HEND : Hid (StepR w O B (.int .i64 0) ⟨s.room, tbR.ins s.l (s.l[p].as 2)⟩ (.returned (.int .i64 0)) ((w3.setCell ⟨g, p * 5 + 4, none⟩ (.int .i64 2)).setCell ⟨B, 0, none⟩ (.slice (some ⟨g, 0, none⟩) s.l.length cap))) := Lib.hid (by
        have hks : Kq.Keeps (· = g) w3 (w3.setCell ⟨g, p * 5 + 4, none⟩ (.int .i64 2)) := Kq.Keeps.setCell _ _ _ rfl
        have hset := en_set HAT.out hbk p hpn
        have hii : tbR.ins s.l (s.l[p].as 2) = s.l.set p (s.l[p].as 2) := by
          have hm := Ord.look_mem _ _ _ hlk
          have h := Ord.ins_set s.l (s.l[p].as 2) s.l[p] HSS.out.1 (by show tbR.look s.l s.l[p].nm = _; rw [show s.l[p].nm = (f, q) from hm.2]; exact hlk)
          have e1 : tbR.plc s.l (tbR.key (s.l[p].as 2)) = p := by
            have e2 : s.l[p].nm = (f, q) := hm.2
            show tbR.plc s.l s.l[p].nm = p
            rw [e2]
            exact HP.out.symm
          rw [h, e1]
        have hk2 : Kq.Keeps (fun k => w2.heap.size ≤ k) w2 (w3.setCell ⟨g, p * 5 + 4, none⟩ (.int .i64 2)) := H3.out.kp.trans (hks.mono (fun k _ e => by have e2 : k = g := e; omega))
        have := rt_done (s := s) (r := .int .i64 0) (c := cap) hk2 hset (fun b off e => by
          injection e with e; injection e with e1 e2; subst e1
          exact ⟨hge, Nat.lt_of_lt_of_le (Kq.blk_lt hbk) hks.size⟩) (by rw [List.length_set]; omega) HR.out HO2.out
        rw [List.length_set] at this
        rw [hii]
        exact StepR.from H2.out.bel this)
      have hat4 : w3.cell? ⟨g, p * 5 + 4, none⟩ = some (.int .i64 s.l[p].k) := by
        obtain ⟨b, off, e, _, hc⟩ := HAT.out p hpn
        injection e with e; injection e with e1 e2; subst e1 e2
        have := hc 4 (by omega)
        rw [Nat.zero_add] at this
        exact this
      have hfz := Kq.blk_free hbk (p * 5 + 4)
      have hr4 : RT (w3.setCell ⟨g, p * 5 + 4, none⟩ (.int .i64 2)) O B s An cn := by
        have hks : Kq.Keeps (· = g) w3 (w3.setCell ⟨g, p * 5 + 4, none⟩ (.int .i64 2)) := Kq.Keeps.setCell _ _ _ rfl
        exact HR.out.keeps (H3.out.kp.trans (hks.mono (fun k _ e => by have e2 : k = g := e; omega))) (fun k ho h => by have := HO2.out k ho; omega)
      have z4 := hr4.c0
      have f4 := hr4.fz 0
      clear hr4
      have hi0 : (p : Int) < (s.l.length : Int) := by omega
      clear hbk htk hge hx1 HAT
      have HE : Hid (appV s ⟨2, f, q, t, d⟩ = (⟨s.room, tbR.ins s.l (s.l[p].as 2)⟩, 0)) := Lib.hid (by
        rw [app_2 HOK.out rfl]; unfold recvV; rw [show tbR.look s.l (NtV.nm ⟨2, f, q, t, d⟩) = _ from hlk]; rfl)
      clear hlk
      go_wp2
      go_ret
      rw [HE.out]
      exact HEND.out
  have e2 : (k == 2) = false := beq_eq_false_iff_ne.2 k2
  have e3 : decide (2 < k) = true := decide_eq_true (by have := HOK.out.range; simp only at this; omega)
  cases I with
  | false =>
    have HN : Hid (tbR.look s.l (f, q) = none) := Lib.hid (Option.isNone_iff_eq_none.1 (by rw [← Option.not_isSome, ← HIL.out]; rfl))
    have HE : Hid (appV s ⟨k, f, q, t, d⟩ = (s, 0)) := Lib.hid (by
      rw [app_3 HOK.out k1 k2]; unfold overV; rw [show NtV.nm ⟨k, f, q, t, d⟩ = (f, q) from rfl, Ord.del_none _ _ HN.out])
    clear k1 k2
    go_wp2
    go_ret
    rw [HE.out]
    exact StepR.from H2.out.bel (StepR.same H2.out.tb (Below.refl _ _) rfl)
  | true =>
    obtain ⟨hpn, hlk⟩ := HLT.out rfl
    have HE : Hid (appV s ⟨k, f, q, t, d⟩ = (⟨s.room, tbR.del s.l (f, q)⟩, 0)) := Lib.hid (by rw [app_3 HOK.out k1 k2]; rfl)
    have HCUT : Hid (tbR.del s.l (f, q) = s.l.take p ++ s.l.drop (p + 1)) := Lib.hid (by rw [HP.out]; exact Ord.del_cut s.l (f, q) _ HSS.out.1 hlk)
    obtain ⟨n, hn⟩ : ∃ n, n = s.l.length := ⟨_, rfl⟩
    have HN := Lib.hid hn
    have h1000 := HSS.out.2
    rw [← hn] at h1000 hpn
    clear k1 k2
    obtain ⟨An, cn, hr⟩ := H2.out.tb.below (Below.refl w2.heap.size w2).drew
    have hcap := hr.cap
    rw [← HN.out] at hcap
    obtain ⟨r, hrr⟩ : ∃ r, r = n - (p + 1) := ⟨_, rfl⟩
    have HR : Hid (RT w2.drew O B s An cn ∧ (∀ k, O k → k < w2.drew.heap.size) ∧ Below w.heap.size w w2.drew ∧ r = s.l.length - (p + 1) ∧ r ≤ 1000 ∧ p ≤ 1000 ∧ p ≤ s.l.length) := Lib.hid ⟨hr, fun k hk => Nat.lt_of_lt_of_le (HO.out k hk) H2.out.bel.size, H2.out.bel.drew, by rw [hrr, HN.out], by omega, by omega, by have := HN.out; omega⟩
    have hw1 : IntKind.i64.wrap ((p : Int) + 1) = ((p + 1 : Nat) : Int) := by rw [IntWalk.i64_in _ (by omega)]; omega
    have sl := fun wx => subI_run An n cn (p + 1) (by omega) wx
    have pl := fun wx => preI_run An n cn p (by omega) wx
    rw [← hrr] at sl
    obtain ⟨A2, hA2⟩ : ∃ A2, A2 = subI An cn (p + 1) := ⟨_, rfl⟩
    rw [← hA2] at sl
    have HA2 : Hid (A2 = subI An cn (p + 1)) := Lib.hid hA2
    have HC : Hid (∀ w', RT w' O B s An cn → w'.cell? ⟨B, 0, none⟩ = some (.slice An n cn)) := Lib.hid (fun w' h => by rw [HN.out]; exact h.c0)
    obtain ⟨p1, hp1⟩ : ∃ p1, p1 = p + 1 := ⟨_, rfl⟩
    rw [← hp1] at sl hw1 HA2
    have HP1 := Lib.hid hp1
    obtain ⟨c2, hc2⟩ : ∃ c2, c2 = cn - p1 := ⟨_, rfl⟩
    rw [← hc2] at sl
    have HC2 := Lib.hid hc2
    clear hlk hr hcap hrr hA2 hpn h1000 hp1 hc2 hn
    have hpi : (0 : Int) ≤ (p : Int) := by omega
    go_wp2
    refine Kq.wp_region_T 19 (fun cur => cur.cell? ⟨B, 0, none⟩ = some (.slice An n cn)) (by kernel_rfl) (HC.out _ HR.out.1) (fun hS0 => ?_)
    obtain ⟨wd, hwd⟩ : ∃ z, z = w2.drew := ⟨_, rfl⟩
    rw [← hwd] at hS0 HR ⊢
    clear hwd
    refine Kq.wpAnyT_take (i := 0) (v := ?_) rfl rfl (by kernel_rfl) (by kernel_rfl) (by kernel_rfl) (by kernel_rfl) (fun _ _ _ h => h) (Or.inl ⟨by kernel_rfl, ?_⟩) (by assumption) ?_
    rotate_left
    · intro w hSw; (try dsimp only at hSw); go_simp; (try with_reducible rfl)
    refine Kq.wpAnyT_take (i := 2) (v := ?_) rfl rfl (by kernel_rfl) (by kernel_rfl) (by kernel_rfl) (by kernel_rfl) (fun _ _ _ h => h) (Or.inl ⟨by kernel_rfl, ?_⟩) (by assumption) ?_
    rotate_left
    · intro w hSw; (try dsimp only at hSw); go_simp; (try with_reducible rfl)
    refine Kq.wpAnyT_take (i := 3) (v := ?_) rfl rfl (by kernel_rfl) (by kernel_rfl) (by kernel_rfl) (by kernel_rfl) (fun _ _ _ h => h) (Or.inl ⟨by kernel_rfl, ?_⟩) (by assumption) ?_
    rotate_left
    · intro w hSw; (try dsimp only at hSw); go_simp; (try with_reducible rfl)
    refine Kq.wpAnyT_take (i := 4) (v := ?_) rfl rfl (by kernel_rfl) (by kernel_rfl) (by kernel_rfl) (by kernel_rfl) (fun _ _ _ h => h) (Or.inl ⟨by kernel_rfl, ?_⟩) (by assumption) ?_
    rotate_left
    · intro w hSw; (try dsimp only at hSw); go_simp; (try with_reducible rfl)
    refine Kq.wpAnyT_take (i := 5) (v := ?_) rfl rfl (by kernel_rfl) (by kernel_rfl) (by kernel_rfl) (by kernel_rfl) (fun _ _ _ h => h) (Or.inl ⟨by kernel_rfl, ?_⟩) (by assumption) ?_
    rotate_left
    · intro w hSw; (try dsimp only at hSw); go_simp; (try with_reducible rfl)
    refine Kq.wpAnyT_take (i := 6) (v := ?_) rfl rfl (by kernel_rfl) (by kernel_rfl) (by kernel_rfl) (by kernel_rfl) (fun _ _ _ h => h) (Or.inl ⟨by kernel_rfl, ?_⟩) (by assumption) ?_
    rotate_left
    · intro w hSw; (try dsimp only at hSw); go_simp; (try with_reducible rfl)
    refine Kq.wpAnyT_take (i := 7) (v := ?_) rfl rfl (by kernel_rfl) (by kernel_rfl) (by kernel_rfl) (by kernel_rfl) (fun _ _ _ h => h) (Or.inl ⟨by kernel_rfl, ?_⟩) (by assumption) ?_
    rotate_left
    · intro w hSw; (try dsimp only at hSw); go_simp; (try with_reducible rfl)
    refine Kq.wpAnyT_take (i := 9) (v := ?_) rfl rfl (by kernel_rfl) (by kernel_rfl) (by kernel_rfl) (by kernel_rfl) (fun _ _ _ h => h) (Or.inl ⟨by kernel_rfl, ?_⟩) (by assumption) ?_
    rotate_left
    · intro w hSw; (try dsimp only at hSw); go_simp; (try with_reducible rfl)
    refine Kq.wpAnyT_take (i := 10) (v := ?_) rfl rfl (by kernel_rfl) (by kernel_rfl) (by kernel_rfl) (by kernel_rfl) (fun _ _ _ h => h) (Or.inl ⟨by kernel_rfl, ?_⟩) (by assumption) ?_
    rotate_left
    · intro w hSw; (try dsimp only at hSw); go_simp; (try with_reducible rfl)
    refine Kq.wpAnyT_take (i := 11) (v := ?_) rfl rfl (by kernel_rfl) (by kernel_rfl) (by kernel_rfl) (by kernel_rfl) (fun _ _ _ h => h) (Or.inl ⟨by kernel_rfl, ?_⟩) (by assumption) ?_
    rotate_left
    · intro w hSw; (try dsimp only at hSw); go_simp; (try with_reducible rfl)
    refine Kq.wpAnyT_take (i := 12) (v := ?_) rfl rfl (by kernel_rfl) (by kernel_rfl) (by kernel_rfl) (by kernel_rfl) (fun _ _ _ h => h) (Or.inl ⟨by kernel_rfl, ?_⟩) (by assumption) ?_
    rotate_left
    · intro w hSw; (try dsimp only at hSw); go_simp; (try with_reducible rfl)
    refine Kq.wpAnyT_take (i := 13) (v := ?_) rfl rfl (by kernel_rfl) (by kernel_rfl) (by kernel_rfl) (by kernel_rfl) (fun _ _ _ h => h) (Or.inl ⟨by kernel_rfl, ?_⟩) (by assumption) ?_
    rotate_left
    · intro w hSw; (try dsimp only at hSw); go_simp; (try with_reducible rfl)
    refine Kq.wpAnyT_take (i := 14) (v := ?_) rfl rfl (by kernel_rfl) (by kernel_rfl) (by kernel_rfl) (by kernel_rfl) (fun _ _ _ h => h) (Or.inl ⟨by kernel_rfl, ?_⟩) (by assumption) ?_
    rotate_left
    · intro w hSw; (try dsimp only at hSw); go_simp; (try with_reducible rfl)
    refine Kq.wpAnyT_take (i := 15) (v := ?_) rfl rfl (by kernel_rfl) (by kernel_rfl) (by kernel_rfl) (by kernel_rfl) (fun _ _ _ h => h) (Or.inl ⟨by kernel_rfl, ?_⟩) (by assumption) ?_
    rotate_left
    · intro w hSw; (try dsimp only at hSw); go_simp; (try with_reducible rfl)
    refine Kq.wpAnyT_one (i := 1) (by kernel_rfl) rfl (fun K hK => ?_)
    go_simp
    have HX := Lib.hid (RwI.start wd)
    have HS1 := Lib.hid (src_pre cn (HX.out.rt HR.out.1 HR.out.2.1).at_ p HR.out.2.2.2.2.2.2)
    refine hK.out _ _ (HC.out _ (HX.out.rt HR.out.1 HR.out.2.1)) (fun hS0 => ?_)
    clear hK K hS0
    refine Kq.wpAnyT_one (i := 8) (by kernel_rfl) rfl (fun K hK => ?_)
    rw [if_pos (by kernel_rfl)]
    refine Kq.wp_append_any _ (.tmp 74) (.tmp 80) 26 26 rfl wd.heap.size 51 i0 (.agg #[.int .i64 0, .int .u64 0, .int .u64 0, .string ⟨#[]⟩, .int .i64 0]) 5 48 Tryz.underlying26 hi0 hz0 hz1 hz2 rfl (by decide) (.slice (some ⟨wd.heap.size, 0, none⟩) 0 0) 0 (ItE.flat []) (by kernel_rfl) HX.out.row (.slice An p cn) p (ItE.flat (s.l.take p)) (by kernel_rfl) HS1.out ?h1 ?h2 HX.out.size ?_
    case h1 => have := HR.out.2.2.2.2.2.1; unfold maxLen; omega
    case h2 => have := HR.out.2.2.2.2.2.1; omega
    intro v3 w3 hown3 hgrow hfresh
    have H3 : Hid (RwI wd w3 v3 (s.l.take p)) := Lib.hid (by
      have := HX.out.app hown3 (by rw [List.length_take, Nat.min_eq_left HR.out.2.2.2.2.2.2]) hgrow
      simpa using this)
    clear hown3 hgrow hfresh HX HS1
    have HS3 : Hid (Src Tryz.prog 5 26 (.slice A2 r c2) r (ItE.flat (s.l.drop p1)) w3) := Lib.hid (by
      rw [HA2.out, HC2.out]; exact src_sub (H3.out.rt HR.out.1 HR.out.2.1).at_ (H3.out.rt HR.out.1 HR.out.2.1).cap p1 r (by rw [HP1.out]; exact HR.out.2.2.2.1))
    have HL3 : Hid (w3.ownsRow wd.heap.size 51 5 v3 p (ItE.flat (s.l.take p))) := Lib.hid (by
      have := H3.out.row
      rw [List.length_take, Nat.min_eq_left HR.out.2.2.2.2.2.2] at this
      exact this)
    refine hK.out _ _ (HC.out _ (H3.out.rt HR.out.1 HR.out.2.1)) (fun hS0 => ?_)
    clear hK K hS0
    refine Kq.wpAnyT_one (i := 16) (by kernel_rfl) rfl (fun K hK => ?_)
    rw [if_pos (by kernel_rfl)]
    refine Kq.wp_append_any _ (.tmp 81) (.tmp 88) 26 26 rfl wd.heap.size 51 i0 (.agg #[.int .i64 0, .int .u64 0, .int .u64 0, .string ⟨#[]⟩, .int .i64 0]) 5 48 Tryz.underlying26 hi0 hz0 hz1 hz2 rfl (by decide) v3 p (ItE.flat (s.l.take p)) (by kernel_rfl) HL3.out (.slice A2 r c2) r (ItE.flat (s.l.drop p1)) (by kernel_rfl) HS3.out ?h4 ?h5 H3.out.size ?_
    case h4 => have := HR.out.2.2.2.2; unfold maxLen; omega
    case h5 => have := HR.out.2.2.2.2; omega
    intro v5 w5 hown5 hgrow hfresh
    have H5 : Hid (RwI wd w5 v5 (tbR.del s.l (f, q))) := Lib.hid (by
      rw [HCUT.out]
      have := H3.out.app (ys := s.l.drop (p + 1)) (m := r) (v' := v5) (w' := w5) (by rw [List.length_take, Nat.min_eq_left HR.out.2.2.2.2.2.2, ← HP1.out]; exact hown5) (by rw [List.length_drop]; exact HR.out.2.2.2.1.symm) hgrow
      exact this)
    clear hown5 hgrow hfresh HS3 HL3 H3
    obtain ⟨A5, c5, rfl⟩ := H5.out.shape
    refine hK.out _ _ (HC.out _ (H5.out.rt HR.out.1 HR.out.2.1)) (fun hS0 => ?_)
    clear hK K
    refine Kq.wpAnyT_one (i := 17) (by kernel_rfl) rfl (fun K hK => ?_)
    go_simp
    refine hK.out _ _ (HC.out _ (H5.out.rt HR.out.1 HR.out.2.1)) (fun hS0 => ?_)
    clear hK K
    have f0 := (H5.out.rt HR.out.1 HR.out.2.1).fz 0
    have c0 := (H5.out.rt HR.out.1 HR.out.2.1).c0
    have HEND : Hid (StepR w O B (.int .i64 0) ⟨s.room, tbR.del s.l (f, q)⟩ (.returned (.int .i64 0)) (w5.setCell ⟨B, 0, none⟩ (.slice A5 (tbR.del s.l (f, q)).length c5))) := Lib.hid (StepR.from HR.out.2.2.1 (H5.out.done HR.out.1 HR.out.2.1))
    clear H5 hS0
    refine Kq.wpAnyT_take (i := 18) (v := ?_) rfl rfl (by kernel_rfl) (by kernel_rfl) (by kernel_rfl) (by kernel_rfl) (fun _ _ _ h => h) (Or.inl ⟨by kernel_rfl, ?_⟩) (by assumption) ?_
    rotate_left
    · intro w hSw; (try dsimp only at hSw); go_simp; (try with_reducible rfl)
    refine Kq.wpAnyT_last (by kernel_rfl) rfl (fun K hK => ?_)
    go_simp
    refine hK.out _ _ ?_
    clear hK K
    refine Kq.wpAnyT_done (by kernel_rfl) ?_ _
    go_wp2
    go_ret
    rw [HE.out]
    exact HEND.out
end
end Go.Proofs.YtkbiolhcpghmkaaGreat
namespace Go.Proofs.YtkbiolhcpghmkaaGreat
open Go.RowKit Go.Kq
set_option linter.unusedVariables false
/-- what the document's Of tells -/
def OfR (w : World) (r : Int) (l : List NtV) (x : Ending) (w' : World) : Prop := Below w.heap.size w w' ∧ ((∃ e, e ≠ 0 ∧ ofV r l = (e, none) ∧ x = .returned (.tuple #[.pointer none, .int .i64 e])) ∨ ∃ B acc, ofV r l = (0, some acc) ∧ x = .returned (.tuple #[.pointer (some ⟨B, 0, none⟩), .int .i64 0]) ∧ RtP w' (fun k => w.heap.size ≤ k ∧ k < w'.heap.size) B ⟨r.toNat, acc⟩)
/-- the document's table, made since w -/
structure Mad (w w' : World) (B : Nat) (s : TbV) : Prop where
  rt : RtP w' (fun k => w.heap.size ≤ k ∧ k < w'.heap.size) B s
  bel : Below w.heap.size w w'
theorem Mad.below {w a b : World} {B : Nat} {s : TbV} (h : Mad w a B s) (hb : Below a.heap.size a b) : Mad w b B s := ⟨(h.rt.below hb).mono (fun k hk => ⟨hk.1, Nat.lt_of_lt_of_le hk.2 hb.size⟩), h.bel.trans (hb.mono h.bel.size)⟩
theorem Mad.step {w a b : World} {B : Nat} {s s' : TbV} {r : Value} {x : Ending} (h : Mad w a B s) (hs : StepR a (fun k => w.heap.size ≤ k ∧ k < a.heap.size) B r s' x b) : Mad w b B s' := by
  have hz := hs.2.2.size
  refine ⟨hs.2.1.mono (fun k hk => ?_), h.bel.trans (hs.2.2.below h.bel.size (fun k _ hk => hk.1))⟩
  rcases hk with hk | hk
  · exact ⟨hk.1, by omega⟩
  · have := h.bel.size; exact ⟨by omega, hk.2⟩
def TwoC (w : World) (b o : Nat) (f q : Int) : Prop := w.cell? ⟨b, o, none⟩ = some (.int .i64 f) ∧ w.cell? ⟨b, o + 1, none⟩ = some (.int .u64 q)
set_option maxRecDepth 100000 in
set_option maxHeartbeats 4000000 in
theorem rt_of (w : World) (r : Int) (l : List NtV) (A : Option Addr) (ca : Nat) (hA : EnAt NtV.ic w A l) (hw : ∀ n ∈ l, n.wf) (hl : l.length ≤ 300) : Calls Tryz.prog 18 #[.int .i64 r, .slice A l.length ca] w (OfR w r l) := by
  have HG := Lib.hid (And.intro hA (And.intro hw hl))
  clear hA hw hl
  go_enter Tryz.func18, Tryz.ntmps18
  by_cases hr : 1 ≤ r ∧ r ≤ 40
  case neg =>
    have HE := Lib.hid (ofV_r (l := l) hr)
    by_cases r1 : r < 1
    · have e1 : decide (r < 1) = true := decide_eq_true r1
      clear hr r1
      go_wp2
      go_ret2
      exact ⟨Below.refl _ _, Or.inl ⟨1, by decide, HE.out, by rfl⟩⟩
    · have e1 : decide (r < 1) = false := decide_eq_false r1
      have e2 : decide (40 < r) = true := decide_eq_true (by omega)
      clear hr r1
      go_wp2
      go_ret2
      exact ⟨Below.refl _ _, Or.inl ⟨1, by decide, HE.out, by rfl⟩⟩
  obtain ⟨R, hR⟩ : ∃ R : Nat, r = (R : Int) := ⟨r.toNat, by omega⟩
  subst hR
  have HR40 : Hid (1 ≤ R ∧ R ≤ 40 ∧ (1 ≤ (R : Int) ∧ (R : Int) ≤ 40)) := Lib.hid (by omega)
  have e1 : decide ((R : Int) < 1) = false := decide_eq_false (by omega)
  have e2 : decide ((40 : Int) < (R : Int)) = false := decide_eq_false (by omega)
  have e1' : decide (R < 1) = false := decide_eq_false (by omega)
  have e2' : decide (40 < R) = false := decide_eq_false (by omega)
  clear hr
  go_wp2
  clear e1 e2 e1' e2'
  go_loopw [6] (fun i wr => ∃ j : Nat, j ≤ l.length ∧ i = .int .i64 (j : Int) ∧ (∀ i (hi : i < l.length), i < j → ItOk l[i]) ∧ Below w.heap.size w wr) (fun i _ => l.length - (intOf i).toNat)
  case atStart => exact ⟨0, Nat.zero_le _, rfl, fun i _ h => absurd h (Nat.not_lt_zero _), Below.refl _ _⟩
  case round =>
    obtain ⟨j, hj, rfl, hall, hbl⟩ := hrel
    have HR := Lib.hid (And.intro hall hbl)
    have h100 := HG.out.2.2
    clear hall
    by_cases hlt : j < l.length
    · obtain ⟨b, off, rfl, _, hc⟩ := (HG.out.1.below hbl) j hlt
      obtain ⟨n, hn⟩ : ∃ n, n = l[j] := ⟨_, rfl⟩
      rw [← hn] at hc
      have c0 := hc 0 (by omega)
      have c1 := hc 1 (by omega)
      have c2 := hc 2 (by omega)
      have c3 := hc 3 (by omega)
      have c4 := hc 4 (by omega)
      simp only [NtV.ic, List.getElem?_cons_zero, List.getElem?_cons_succ, Nat.add_zero] at c0 c1 c2 c3 c4
      have HNN : Hid (∀ h : j < l.length, n = l[j]'h) := Lib.hid (fun _ => hn)
      have HWF : Hid n.wf := Lib.hid (by rw [hn]; exact HG.out.2.1 _ (List.getElem_mem hlt))
      have HLT := Lib.hid hlt
      have hi0 : (j : Int) < (l.length : Int) := by omega
      have t1 : decide ((j : Int) < (l.length : Int)) = true := decide_eq_true hi0
      have t2 : decide (j < l.length) = true := decide_eq_true hlt
      have hj6 : j ≤ 1000 := by omega
      clear hc hn hlt hj h100 hbl
      obtain ⟨k, f, q, t, d⟩ := n
      simp only at c0 c1 c2 c3 c4
      go_wp2_with fail
      by_cases hok : ItOk ⟨k, f, q, t, d⟩
      · refine (r14_item_ok ⟨k, f, q, t, d⟩ _ hok HWF.out).mono ?_
        rintro x w3 ⟨rfl, b3⟩
        have H3 := Lib.hid (HR.out.2.trans (b3.mono HR.out.2.size))
        have HOK := Lib.hid hok
        clear b3 hok c0 c1 c2 c3 c4
        go_wp2
        go_roundw
        case rel =>
          refine ⟨j + 1, HLT.out, by go_num, fun i hi hij => ?_, H3.out⟩
          rcases Nat.lt_or_ge i j with h' | h'
          · exact HR.out.1 i hi h'
          · obtain rfl : i = j := by omega
            rw [← HNN.out hi]; exact HOK.out
        case measure => have := HLT.out; simp [intOf]; omega
      · refine (r14_item_bad ⟨k, f, q, t, d⟩ _ hok HWF.out).mono ?_
        rintro x w3 ⟨rfl, b3⟩
        have H3 : Hid (Below w.heap.size w w3 ∧ ofV (R : Int) l = (1, none)) := Lib.hid ⟨HR.out.2.trans (b3.mono HR.out.2.size), ofV_i HR40.out.2.2 (fun h => hok (by rw [HNN.out HLT.out]; exact h _ (List.getElem_mem HLT.out)))⟩
        clear b3 hok c0 c1 c2 c3 c4
        go_wp2
        go_ret2
        exact ⟨H3.out.1, Or.inl ⟨1, by decide, H3.out.2, by rfl⟩⟩
    · obtain rfl : j = l.length := by omega
      have HOK : Hid (∀ n ∈ l, ItOk n) := Lib.hid (fun n hn => by
        obtain ⟨i, hi, rfl⟩ := List.mem_iff_getElem.1 hn
        exact HR.out.1 i hi hi)
      have HV := Lib.hid (ofV_l HR40.out.2.2 HOK.out)
      have t1 : decide ((l.length : Int) < (l.length : Int)) = false := decide_eq_false (by omega)
      have t2 : decide (l.length < l.length) = false := decide_eq_false (by omega)
      obtain ⟨m, hm⟩ : ∃ m, m = l.length + 1 := ⟨_, rfl⟩
      have HM := Lib.hid hm
      have hwr : IntKind.i64.wrap ((l.length : Int) + 1) = (m : Int) := by rw [IntWalk.i64_in _ (by omega)]; omega
      have H2 : Hid (Mad w (wr.alloc (.cells #[.slice none 0 0, .int .i64 (m : Int)] 67)) wr.heap.size ⟨m, []⟩) := Lib.hid (by
        have hb := Kq.below_alloc wr (.cells #[.slice none 0 0, .int .i64 (m : Int)] 67)
        have hz : (wr.alloc (.cells #[.slice none 0 0, .int .i64 (m : Int)] 67)).heap.size = wr.heap.size + 1 := by simp
        have hs := hbl.size
        exact ⟨⟨none, 0, Kq.blk_new wr _ _ _, fun j hj => absurd hj (Nat.not_lt_zero _), fun b off e => (by cases e), Nat.le_refl _, ⟨hs, by omega⟩⟩, hbl.trans (hb.mono hs)⟩)
      obtain ⟨B, hB⟩ : ∃ B, B = wr.heap.size := ⟨_, rfl⟩
      clear hlt hj hbl h100 hm
      go_wp2
      rw [← hB] at H2 ⊢
      obtain ⟨w2, hw2⟩ : ∃ z, z = wr.alloc (.cells #[.slice none 0 0, .int .i64 (m : Int)] 67) := ⟨_, rfl⟩
      rw [← hw2] at H2 ⊢
      clear hw2 hB t1 t2 hwr HR
      go_loopw [8] (fun i wr => ∃ j acc, i = .int .i64 ((j : Nat) : Int) ∧ OfI l acc j ∧ Mad w wr B ⟨m, acc⟩) (fun i _ => l.length - (intOf i).toNat)
      case atStart => exact ⟨0, [], rfl, OfI.zero l, H2.out⟩
      case round =>
        obtain ⟨j, acc, rfl, hof, hma⟩ := hrel
        have HRR := Lib.hid (And.intro hof hma)
        have h100 := HG.out.2.2
        have hj := hof.le
        clear hof hma
        by_cases hlt : j < l.length
        · obtain ⟨b, off, rfl, _, hc⟩ := (HG.out.1.below HRR.out.2.bel) j hlt
          obtain ⟨n, hn⟩ : ∃ n, n = l[j] := ⟨_, rfl⟩
          rw [← hn] at hc
          have HCL : Hid (∀ w', Below wr.heap.size wr w' → ∀ i, i < 5 → w'.cell? ⟨b, off + j * 5 + i, none⟩ = n.ic[i]?) := Lib.hid (fun w' hb i hi => by
            obtain ⟨b', off', e, _, hc'⟩ := (HG.out.1.below (HRR.out.2.below hb).bel) j hlt
            injection e with e; injection e with e1 e2; subst e1 e2
            rw [← hn] at hc'
            exact hc' i hi)
          have HIT : Hid (ItOk n ∧ n.wf) := Lib.hid ⟨by rw [hn]; exact HOK.out _ (List.getElem_mem hlt), by rw [hn]; exact HG.out.2.1 _ (List.getElem_mem hlt)⟩
          have HNEXT : Hid (tbR.look acc n.nm = none → OfI l (tbR.ins acc n) (j + 1)) := Lib.hid (fun h => by subst hn; exact HRR.out.1.next hlt h HIT.out)
          have HTW : Hid ((tbR.look acc n.nm).isSome = true → ofV (R : Int) l = (4, none)) := Lib.hid (fun h => by
            rw [HV.out, HRR.out.1.twice hlt (by rw [← hn]; exact h)]; rfl)
          have HLT := Lib.hid hlt
          have hi0 : (j : Int) < (l.length : Int) := by omega
          have t1 : decide ((j : Int) < (l.length : Int)) = true := decide_eq_true hi0
          have t2 : decide (j < l.length) = true := decide_eq_true hlt
          have hj6 : j ≤ 1000 := by omega
          have HSML : Hid (tbR.Sort acc ∧ acc.length ≤ 1000 ∧ acc.length < m) := Lib.hid ⟨HRR.out.1.sort, by have := HRR.out.1.len; omega, by have := HRR.out.1.len; have := HM.out; omega⟩
          clear hc hn hlt hj h100
          obtain ⟨k, f, q, t, d⟩ := n
          have HTC : Hid (∀ w', Below wr.heap.size wr w' → TwoC w' b (off + j * 5) f q) := Lib.hid (fun w' hb => ⟨HCL.out w' hb 0 (by omega), HCL.out w' hb 1 (by omega)⟩)
          go_wp2
          refine wp_region_held_drew (S := fun w' => TwoC w' b (off + j * 5) f q) (by kernel_rfl) (HTC.out _ (Below.refl _ _).drew) (fun hS0 => ?_)
          obtain ⟨wd, hwd⟩ : ∃ z, z = wr.drew := ⟨_, rfl⟩
          have HD : Hid (Below wr.heap.size wr wd) := Lib.hid (by rw [hwd]; exact (Below.refl _ _).drew)
          rw [← hwd] at hS0 ⊢
          clear hwd
          unfold TwoC at hS0
          dsimp only [TwoC]
          refine wpAnyH_take (i := 0) (v := ?_) rfl (by kernel_rfl) (by kernel_rfl) (by kernel_rfl) (fun _ _ _ h => h) (Or.inl ⟨by kernel_rfl, ?_⟩) (by assumption) ?_
          rotate_left
          · intro w hSw; (try dsimp only at hSw); go_simp; (try with_reducible rfl)
          refine wpAnyH_take (i := 1) (v := ?_) rfl (by kernel_rfl) (by kernel_rfl) (by kernel_rfl) (fun _ _ _ h => h) (Or.inl ⟨by kernel_rfl, ?_⟩) (by assumption) ?_
          rotate_left
          · intro w hSw; (try dsimp only at hSw); go_simp; (try with_reducible rfl)
          refine wpAnyH_take (i := 2) (v := ?_) rfl (by kernel_rfl) (by kernel_rfl) (by kernel_rfl) (fun _ _ _ h => h) (Or.inl ⟨by kernel_rfl, ?_⟩) (by assumption) ?_
          rotate_left
          · intro w hSw; (try dsimp only at hSw); go_simp; (try with_reducible rfl)
          refine wpAnyH_take (i := 3) (v := ?_) rfl (by kernel_rfl) (by kernel_rfl) (by kernel_rfl) (fun _ _ _ h => h) (Or.inl ⟨by kernel_rfl, ?_⟩) (by assumption) ?_
          rotate_left
          · intro w hSw; (try dsimp only at hSw); go_simp; (try with_reducible rfl)
          refine wpAnyH_take (i := 4) (v := ?_) rfl (by kernel_rfl) (by kernel_rfl) (by kernel_rfl) (fun _ _ _ h => h) (Or.inl ⟨by kernel_rfl, ?_⟩) (by assumption) ?_
          rotate_left
          · intro w hSw; (try dsimp only at hSw); go_simp; (try with_reducible rfl)
          refine wpAnyH_take (i := 5) (v := ?_) rfl (by kernel_rfl) (by kernel_rfl) (by kernel_rfl) (fun _ _ _ h => h) (Or.inl ⟨by kernel_rfl, ?_⟩) (by assumption) ?_
          rotate_left
          · intro w hSw; (try dsimp only at hSw); go_simp; (try with_reducible rfl)
          refine wpAnyH_take (i := 6) (v := ?_) rfl (by kernel_rfl) (by kernel_rfl) (by kernel_rfl) (fun _ _ _ h => h) (Or.inl ⟨by kernel_rfl, ?_⟩) (by assumption) ?_
          rotate_left
          · intro w hSw; (try dsimp only at hSw); go_simp; (try with_reducible rfl)
          refine wpAnyH_take (i := 7) (v := ?_) rfl (by kernel_rfl) (by kernel_rfl) (by kernel_rfl) (fun _ _ _ h => h) (Or.inl ⟨by kernel_rfl, ?_⟩) (by assumption) ?_
          rotate_left
          · intro w hSw; (try dsimp only at hSw); go_simp; (try with_reducible rfl)
          refine wpAnyH_take (i := 8) (v := ?_) rfl (by kernel_rfl) (by kernel_rfl) (by kernel_rfl) (fun _ _ _ h => h) (Or.inl ⟨by kernel_rfl, ?_⟩) (by assumption) ?_
          rotate_left
          · intro w hSw; (try dsimp only at hSw); go_simp; (try with_reducible rfl)
          refine wpAnyH_take (i := 9) (v := ?_) rfl (by kernel_rfl) (by kernel_rfl) (by kernel_rfl) (fun _ _ _ h => h) (Or.inl ⟨by kernel_rfl, ?_⟩) (by assumption) ?_
          rotate_left
          · intro w hSw; (try dsimp only at hSw); go_simp; (try with_reducible rfl)
          refine wpAnyH_take (i := 10) (v := ?_) rfl (by kernel_rfl) (by kernel_rfl) (by kernel_rfl) (fun _ _ _ h => h) (Or.inl ⟨by kernel_rfl, ?_⟩) (by assumption) ?_
          rotate_left
          · intro w hSw; (try dsimp only at hSw); go_simp; (try with_reducible rfl)
          refine wpAnyH_take (i := 11) (v := ?_) rfl (by kernel_rfl) (by kernel_rfl) (by kernel_rfl) (fun _ _ _ h => h) (Or.inl ⟨by kernel_rfl, ?_⟩) (by assumption) ?_
          rotate_left
          · intro w hSw; (try dsimp only at hSw); go_simp; (try with_reducible rfl)
          refine wpAnyH_take (i := 12) (v := ?_) rfl (by kernel_rfl) (by kernel_rfl) (by kernel_rfl) (fun _ _ _ h => h) (Or.inl ⟨by kernel_rfl, ?_⟩) (by assumption) ?_
          rotate_left
          · intro w hSw; (try dsimp only at hSw); go_simp; (try with_reducible rfl)
          refine wpAnyH_ready (rs := [13]) (by kernel_rfl) (by simp) ?_
          refine AllReadyH.cons rfl (fun K hK => ?_) AllReadyH.nil
          go_simp
          refine (rt_place wd _ B ⟨m, acc⟩ f q (HRR.out.2.below HD.out).rt HSML.out.1 HSML.out.2.1).mono ?_
          rintro x w4 ⟨rfl, n4, hw4⟩
          have H4 : Hid (Below wr.heap.size wr w4) := Lib.hid (HD.out.trans (by rw [hw4]; exact (below_drewN (Below.refl _ _) _).mono HD.out.size))
          clear hw4 hS0 HD
          refine hK.out _ _ (HTC.out _ H4.out) (fun hS0 => ?_)
          clear hK K
          obtain ⟨p, hp⟩ : ∃ p, p = tbR.plc (⟨m, acc⟩ : TbV).l (f, q) := ⟨_, rfl⟩
          obtain ⟨z, hz⟩ : ∃ z, z = tbR.isAt (⟨m, acc⟩ : TbV).l (f, q) := ⟨_, rfl⟩
          rw [← hp, ← hz]
          have HZ : Hid (z = (tbR.look acc (f, q)).isSome) := Lib.hid (by rw [hz]; exact Ord.isAt_look HSML.out.1 (f, q))
          clear hp hz
          refine wpAnyH_take (i := 14) (v := ?_) rfl (by kernel_rfl) (by kernel_rfl) (by kernel_rfl) (fun _ _ _ h => h) (Or.inl ⟨by kernel_rfl, ?_⟩) (by assumption) ?_
          rotate_left
          · intro w hSw; (try dsimp only at hSw); go_simp; (try with_reducible rfl)
          refine wpAnyH_take (i := 15) (v := ?_) rfl (by kernel_rfl) (by kernel_rfl) (by kernel_rfl) (fun _ _ _ h => h) (Or.inl ⟨by kernel_rfl, ?_⟩) (by assumption) ?_
          rotate_left
          · intro w hSw; (try dsimp only at hSw); go_simp; (try with_reducible rfl)
          refine wpAnyH_take (i := 16) (v := ?_) rfl (by kernel_rfl) (by kernel_rfl) (by kernel_rfl) (fun _ _ _ h => h) (Or.inl ⟨by kernel_rfl, ?_⟩) (by assumption) ?_
          rotate_left
          · intro w hSw; (try dsimp only at hSw); go_simp; (try with_reducible rfl)
          refine wpAnyH_take (i := 17) (v := ?_) rfl (by kernel_rfl) (by kernel_rfl) (by kernel_rfl) (fun _ _ _ h => h) (Or.inl ⟨by kernel_rfl, ?_⟩) (by assumption) ?_
          rotate_left
          · intro w hSw; (try dsimp only at hSw); go_simp; (try with_reducible rfl)
          refine wpAnyH_take (i := 18) (v := ?_) rfl (by kernel_rfl) (by kernel_rfl) (by kernel_rfl) (fun _ _ _ h => h) (Or.inl ⟨by kernel_rfl, ?_⟩) (by assumption) ?_
          rotate_left
          · intro w hSw; (try dsimp only at hSw); go_simp; (try with_reducible rfl)
          refine wpAnyH_done (by kernel_rfl) ?_ _
          clear hS0
          have HM4 := Lib.hid (HRR.out.2.below H4.out)
          have c0 := HCL.out _ H4.out 0 (by omega)
          have c1 := HCL.out _ H4.out 1 (by omega)
          have c2 := HCL.out _ H4.out 2 (by omega)
          have c3 := HCL.out _ H4.out 3 (by omega)
          have c4 := HCL.out _ H4.out 4 (by omega)
          simp only [NtV.ic, List.getElem?_cons_zero, List.getElem?_cons_succ, Nat.add_zero] at c0 c1 c2 c3 c4
          clear H4
          go_simp
          cases z with
          | true =>
            have HE : Hid (ofV (R : Int) l = (4, none)) := Lib.hid (HTW.out HZ.out.symm)
            go_wp2
            go_ret2
            exact ⟨HM4.out.bel, Or.inl ⟨4, by decide, HE.out, by rfl⟩⟩
          | false =>
            have HN : Hid (tbR.look acc (f, q) = none) := Lib.hid (Option.isNone_iff_eq_none.1 (by rw [← Option.not_isSome, ← HZ.out]; rfl))
            have HFIN : Hid (OfI l (tbR.ins acc ⟨k, f, q, t, d⟩) (j + 1) ∧ addV ⟨m, acc⟩ ⟨k, f, q, t, d⟩ = (⟨m, tbR.ins acc ⟨k, f, q, t, d⟩⟩, 0)) := Lib.hid ⟨HNEXT.out HN.out, by unfold addV; rw [if_neg (by have := HSML.out.2.2; show ¬ m ≤ acc.length; omega)]⟩
            go_wp2_with fail
            refine (rt_put w4 _ B ⟨m, acc⟩ ⟨k, f, q, t, d⟩ HN.out HM4.out.rt HSML.out.1 HSML.out.2.1 (fun k hk => hk.2)).mono ?_
            intro x w5 hx
            rw [HFIN.out.2] at hx
            have H5 := Lib.hid (HM4.out.step hx)
            obtain ⟨rfl, -, -⟩ := hx
            clear c0 c1 c2 c3 c4 HM4
            go_wp2
            go_roundw
            case rel => exact ⟨j + 1, _, by go_num, HFIN.out.1, H5.out⟩
            case measure => have := HLT.out; simp [intOf]; omega
        · obtain rfl : j = l.length := by omega
          have HDONE : Hid (ofV (R : Int) l = if (R : Int) < (l.length : Int) then (2, none) else (0, some acc)) := Lib.hid (by rw [HV.out, HRR.out.1.done]; rfl)
          have HLEN := Lib.hid HRR.out.1.len
          have t1 : decide ((l.length : Int) < (l.length : Int)) = false := decide_eq_false (by omega)
          have t2 : decide (l.length < l.length) = false := decide_eq_false (by omega)
          clear hlt hj h100
          by_cases hbig : R < l.length
          · have e1 : decide ((R : Int) < (l.length : Int)) = true := decide_eq_true (by omega)
            have e2 : decide (R < l.length) = true := decide_eq_true hbig
            have HE : Hid (ofV (R : Int) l = (2, none)) := Lib.hid (by rw [HDONE.out, if_pos (by omega)])
            clear hbig
            go_wp2
            go_ret2
            exact ⟨HRR.out.2.bel, Or.inl ⟨2, by decide, HE.out, by rfl⟩⟩
          · have e1 : decide ((R : Int) < (l.length : Int)) = false := decide_eq_false (by omega)
            have e2 : decide (R < l.length) = false := decide_eq_false hbig
            have HE : Hid (ofV (R : Int) l = (0, some acc)) := Lib.hid (by rw [HDONE.out, if_neg (by omega)])
            obtain ⟨An, cn, hp⟩ := HRR.out.2.rt
            have z1 := hp.c1
            have f1 := hp.fz 1
            have HEND : Hid (RtP (wr.setCell ⟨B, 1, none⟩ (.int .i64 (R : Int))) (fun k => w.heap.size ≤ k ∧ k < (wr.setCell ⟨B, 1, none⟩ (.int .i64 (R : Int))).heap.size) B ⟨R, acc⟩ ∧ Below w.heap.size w (wr.setCell ⟨B, 1, none⟩ (.int .i64 (R : Int)))) := Lib.hid (by
              have hks : Kq.Keeps (· = B) wr (wr.setCell ⟨B, 1, none⟩ (.int .i64 (R : Int))) := Kq.Keeps.setCell _ _ _ rfl
              have hsz := hks.size
              refine ⟨⟨An, cn, Kq.blk_set hp.blk 1 _, hp.at_.keeps hks (fun g o e e2 => (hp.o g o e).2.2 e2), fun b off e => ⟨⟨(hp.o b off e).1.1, Nat.lt_of_lt_of_le (hp.o b off e).1.2 hsz⟩, Nat.lt_of_lt_of_le (hp.o b off e).2.1 hsz, (hp.o b off e).2.2⟩, hp.cap, ⟨hp.oB.1, Nat.lt_of_lt_of_le hp.oB.2 hsz⟩⟩, HRR.out.2.bel.trans (hks.below HRR.out.2.bel.size (fun k _ e => by rw [show k = B from e]; exact hp.oB.1))⟩)
            clear hbig hp
            go_wp2
            go_ret2
            exact ⟨HEND.out.2, Or.inr ⟨B, acc, HE.out, by rfl, by rw [Int.toNat_natCast]; exact HEND.out.1⟩⟩
end Go.Proofs.YtkbiolhcpghmkaaGreat
