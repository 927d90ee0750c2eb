/- Merged: MkCh0, MkCh1, MkCh2, MkCh2N, MkCh2E, MerkleChangesWalk. carracklaw08.MerkleChanges, arm 0. Condition: the constants lie where they lie. carracklaw08.MerkleChanges, arm 1. Condition: the constants lie where they lie. carracklaw08.MerkleChanges, arm 2. Condition: the constants lie where they lie. carracklaw08.MerkleChanges, arm 2N. Condition: the constants lie where they lie. carracklaw08.MerkleChanges, arm 2E. Condition: the constants lie where they lie. carracklaw08.MerkleChanges walked. Condition: the constants lie where they lie. -/
import Derived.WalkSpells
import Derived.Outline
import Derived.Deep.QuietTactic
import Derived.Deep.RegionHeld
import Derived.BigQuiet
import Derived.Test.YtnbapiddbcaolaaDoorMkMid
import Derived.Test.YtnbapiddbcaolaaDoorMkSub
import Derived.Test.YtnbapiddbcaolaaDoorHeldLast
namespace Go.Proofs.YtnbapiddbcaolaaDoor
open Go.RowKit
set_option linter.unusedVariables false
namespace merkleChanges
set_option maxRecDepth 100000 in
set_option maxHeartbeats 8000000 in
theorem main0 (A : Option Addr) (ca : Nat) (l : List PairV) (a : Nat) (s : ByteArray) (h : Int) (W : World) (hO : LO W W A l) (hg : Gd l a s) (hca : l.length ≤ ca) (hh : h.tmod 3 = 0) :
    Calls Tryd.prog 8 #[.slice A l.length ca, .int .i64 a, .string s, .int .u8 h] W fun x w' => x = .returned (.bool true) ∧ Below W.heap.size W w' := by
  obtain ⟨b, off, rfl, -⟩ := hO.a a (by have := hg.hi; omega)
  have H := Lib.hid hO
  have HG := Lib.hid (And.intro hg hca)
  have df := decide_eq_true hg.few
  have HD := Lib.hid df
  have d0 : decide ((a : Int) < 0) = false := decide_eq_false (by omega)
  have d1 : decide ((l.length : Int) ≤ (a : Int)) = false := decide_eq_false (by have := hg.hi; omega)
  have d1' : decide (l.length ≤ a) = false := decide_eq_false (by have := hg.hi; omega)
  have d2 : decide ((64 : Int) < (s.size : Int)) = false := decide_eq_false (by have := hg.val; omega)
  have d2' : decide (64 < s.size) = false := decide_eq_false (by have := hg.val; omega)
  clear hO hg hca df
  go_enter Tryd.func8, Tryd.ntmps8
  go_wp2_with fail
  refine (awake08 W H.out.ok).mono ?_
  rintro x w1 ⟨rfl, b1⟩
  have H1 := Lib.hid (H.out.below b1)
  clear b1 H
  go_wp2_with fail
  refine (few08 l _ ca w1 H1.out.pa).mono ?_
  rintro x w2 ⟨rfl, rfl⟩
  rw [HD.out]
  go_wp2_with fail
  refine (rk_check l _ ca w1 H1.out.pa HG.out.1.few.1).mono ?_
  rintro x w3 ⟨rfl, b3⟩
  have H3 := Lib.hid (H1.out.below b3)
  obtain ⟨i0, hi0, hz0, hz1, hz2⟩ := info_partsB infoPair
  have H4 := Lib.hid (H3.out.below (Kq.below_alloc w3 (.cells #[] 36)))
  have HOW : Hid ((w3.alloc (.cells #[] 36)).ownsRow w3.heap.size 36 2 (.slice (some ⟨w3.heap.size, 0, none⟩) 0 0) 0 []) := Lib.hid ⟨rfl, Or.inr ⟨w3.heap.size, 0, #[], rfl, Nat.le_refl _, Kq.blk_new _ _ _ _, Nat.le_refl _, by decide, rfl, rfl⟩⟩
  clear b3 H1
  rw [HG.out.1.chk]
  go_wp2_with (at_builtin; refine Kq.wpList_append_any _ rfl (.tmp 36) (.tmp 37) 22 22 rfl w3.heap.size 36 i0 (.agg #[.string ⟨#[]⟩, .string ⟨#[]⟩]) 2 32 Tryd.underlying22 hi0 hz0 hz1 hz2 rfl (by decide) (.slice (some ⟨w3.heap.size, 0, none⟩) 0 0) 0 [] rfl HOW.out (.slice (some ⟨b, off, none⟩) l.length ca) l.length (pcells l) rfl ?hs ?h1 ?h2 ?h3 ?_)
  case hs => exact src_pairs ca H4.out.pa
  case h1 => have := HG.out.1.few.1; unfold maxLen; omega
  case h2 => have := HG.out.1.few.1; omega
  case h3 => simp
  intro v' w5 hown hgrow hfresh
  have HV : Hid (Below w3.heap.size w3 w5) := Lib.hid (by
    have k1 := Kq.below_alloc w3 (.cells #[] 36)
    have k2 : Kq.Keeps (fun g => w3.heap.size ≤ g) (w3.alloc (.cells #[] 36)) w5 := Kq.Keeps.grown hgrow (fun k _ hk => by simp [Value.ownBlock] at hk; omega)
    exact k1.trans (k2.below k1.size (fun k _ hk => hk)))
  have hal : (a : Int) < (l.length : Int) := HG.out.1.hi
  rcases hown.2 with ⟨rfl, h0⟩ | ⟨g, cp, cur, rfl, hge, hb, hc, hcm, hsz, ht⟩
  · omega
  have H5 := Lib.hid (And.intro (H3.out.below HV.out) (And.intro hge (And.intro hb (And.intro hc (And.intro hsz ht)))))
  have hcc : g < w5.heap.size := Kq.blk_lt hb
  have hs2 : a * 2 + 1 < cur.size := by rw [hsz]; have := hc; omega
  have e3 : (h.tmod 3 == 0) = true := by rw [hh]; rfl
  have hla : a < l.length := by omega
  obtain ⟨p, hp⟩ : ∃ p, p = l[a] := ⟨_, rfl⟩
  have cv : w5.cell? ⟨g, a * 2 + 1, none⟩ = some (.string p.2) := by
    have h1 := (pcells_at l a hla).2
    rw [← hp, ← H5.out.2.2.2.2.2, List.getElem?_take, if_pos (by omega), Array.getElem?_toList] at h1
    rw [Kq.blk_cell hb]; exact h1
  have fv := Kq.blk_free hb (a * 2 + 1)
  obtain ⟨w6, hw6⟩ : ∃ w6, w6 = w5.setCell ⟨g, a * 2 + 1, none⟩ (.string s) := ⟨_, rfl⟩
  obtain ⟨m, hm⟩ : ∃ m, m = l.set a (p.1, s) := ⟨_, rfl⟩
  have HZ : Hid (Sz l m l.length ca cp) := Lib.hid (by
    have sl := small_of HG.out.1.chk
    have fl := HG.out.1.few.fit
    have l40 := HG.out.1.few.1
    have hpm : p ∈ l := by rw [hp]; exact List.getElem_mem _
    refine ⟨sl, ?_, fl, ?_, l40, by rw [hm, List.length_set]; omega, by rw [hm, List.length_set], HG.out.2, H5.out.2.2.2.1⟩
    · intro q hq
      rw [hm] at hq
      rcases List.mem_or_eq_of_mem_set hq with h | rfl
      · exact sl q h
      · exact sl p hpm
    · intro q hq
      rw [hm] at hq
      rcases List.mem_or_eq_of_mem_set hq with h | rfl
      · exact fl q h
      · have h1 := sl p hpm
        have h2 := HG.out.1.val
        show p.1.size + s.size ≤ 90000
        omega)
  have HV0 : Hid (LV W w6 w6 (some ⟨b, off, none⟩) (some ⟨g, 0, none⟩) l m) := Lib.hid (by
    have hk : Kq.Keeps (· = g) w5 w6 := by rw [hw6]; exact Kq.Keeps.setCell _ _ _ rfl
    have hb6 : w6.heap[g]? = some (.cells (cur.setIfInBounds (a * 2 + 1) (.string s)) 36 (0, 0)) := by rw [hw6]; exact Kq.blk_set hb _ _
    refine LV.start ?_ ?_
    · refine ⟨H3.out.a, H3.out.laid, H3.out.bel.trans ((HV.out.trans (hk.below HV.out.size (fun k _ e => by omega))).mono H3.out.bel.size)⟩
    · intro j hj
      have hjl : j < l.length := by rw [hm, List.length_set] at hj; exact hj
      refine ⟨g, 0, rfl, Kq.blk_lt hb6, ?_, ?_⟩
      · rw [Nat.zero_add, Kq.blk_cell hb6, Array.getElem?_setIfInBounds_ne (by omega)]
        have h1 := (pcells_at l j hjl).1
        rw [← H5.out.2.2.2.2.2, List.getElem?_take, if_pos (by omega), Array.getElem?_toList] at h1
        rw [h1]
        congr 2
        subst hm
        rw [List.getElem_set]
        split
        · next e => subst e; rw [hp]
        · rfl
      · rw [Nat.zero_add, Kq.blk_cell hb6]
        subst hm
        rw [List.getElem_set]
        by_cases e : a = j
        · subst e
          rw [Array.getElem?_setIfInBounds_self_of_lt hs2, if_pos rfl]
        · rw [Array.getElem?_setIfInBounds_ne (by omega), if_neg e]
          have h1 := (pcells_at l j hjl).2
          rw [← H5.out.2.2.2.2.2, List.getElem?_take, if_pos (by omega), Array.getElem?_toList] at h1
          exact h1)
  clear hown hgrow hfresh hge hc hcm hsz ht hp hm H3 H4 HOW H5 HV hi0 hz0 hz1 hz2
  go_wp2_with fail
  rw [← hw6]
  clear hw6 cv fv hb hcc hs2
  refine (root_l HZ.out _ HV0.out).mono ?_
  rintro x v1 ⟨rfl, b1⟩
  have HV1 := Lib.hid (HV0.out.below b1)
  clear b1 HV0
  go_wp2_with fail
  refine (root_m HZ.out _ HV1.out).mono ?_
  rintro x v2 ⟨rfl, b2⟩
  have HV2 := Lib.hid (HV1.out.below b2)
  clear b2 HV1
  go_wp2_with fail
  refine (eq_lm HZ.out _ HV2.out).mono ?_
  rintro x v3 ⟨rfl, b3⟩
  have HV3 := Lib.hid (HV2.out.below b3)
  clear b3 HV2
  have HMK := Lib.hid (fun lo hi P w' (hb : BV W w6 w' (some ⟨b, off, none⟩) (some ⟨g, 0, none⟩) l m lo hi P (askR m ++ (askR l ++ []))) => marked HZ.out hb)
  by_cases hs : rootT l = rootT m
  · have q1 : ((rootT l).toList == (rootT m).toList) = true := by rw [hs]; simp
    by_cases hlm : l = m
    · rw [decide_eq_true hlm]
      generalize rootT l = RL at *
      generalize rootT m = RM at *
      clear hs hlm HMK
      go_wp2
      go_ret
      exact ⟨rfl, HV3.out.bw⟩
    · rw [decide_eq_false hlm]
      have HNE := Lib.hid (And.intro hs hlm)
      have HRL := Lib.hid (fun lo hi P w' (hb : BV W w6 w' (some ⟨b, off, none⟩) (some ⟨g, 0, none⟩) l m lo hi P []) => rk_l HZ.out w' hb)
      have HRM := Lib.hid (fun lo hi P w' (hb : BV W w6 w' (some ⟨b, off, none⟩) (some ⟨g, 0, none⟩) l m lo hi P (askR l ++ [])) => rk_m HZ.out w' hb)
      have HMK2 := Lib.hid (fun lo hi P w' hb => HMK.out lo hi P w' hb hs hlm)
      clear hlm HMK HNE hs
      generalize rootT l = RL at *
      generalize rootT m = RM at *
      go_wp2_with fail
      refine (r_booknewW v3).mono ?_
      rintro x v4 ⟨P, rfl, hbk, hb4⟩
      have HB4 := Lib.hid (BV.start HV3.out hbk hb4)
      clear hbk hb4 HV3
      generalize v3.heap.size = lo at *
      generalize hhi : v4.heap.size = hi at HB4
      clear hhi
      go_wp2_with fail
      refine (HRL.out lo hi P _ HB4.out).mono ?_
      rintro x v5 ⟨rfl, hb5⟩
      have HB5 := Lib.hid hb5
      clear hb5 HB4
      go_wp2_with fail
      refine (HRM.out lo hi P _ HB5.out).mono ?_
      rintro x v6 ⟨rfl, hb6⟩
      have HB6 := Lib.hid hb6
      clear hb6 HB5
      have c3 := HMK2.out lo hi P _ HB6.out
      go_wp2
      go_ret
      exact ⟨rfl, HB6.out.v.bw⟩
  · have hlm : l ≠ m := fun e => hs (by rw [e])
    have q1 : ((rootT l).toList == (rootT m).toList) = false := by
      rw [beq_eq_false_iff_ne]
      intro e
      rw [Lib.toList_data, Lib.toList_data] at e
      exact hs (ByteArray.ext (Array.toList_inj.1 e))
    rw [decide_eq_false hlm]
    clear hs hlm HMK
    generalize rootT l = RL at *
    generalize rootT m = RM at *
    go_wp2
    go_ret
    exact ⟨rfl, HV3.out.bw⟩
end merkleChanges
end Go.Proofs.YtnbapiddbcaolaaDoor
namespace Go.Proofs.YtnbapiddbcaolaaDoor
open Go.RowKit
set_option linter.unusedVariables false
namespace merkleChanges
set_option maxRecDepth 100000 in
set_option maxHeartbeats 8000000 in
theorem main1 (A : Option Addr) (ca : Nat) (l : List PairV) (a : Nat) (s : ByteArray) (h : Int) (W : World) (hO : LO W W A l) (hg : Gd l a s) (hca : l.length ≤ ca) (hh : h.tmod 3 = 1) :
    Calls Tryd.prog 8 #[.slice A l.length ca, .int .i64 a, .string s, .int .u8 h] W fun x w' => x = .returned (.bool true) ∧ Below W.heap.size W w' := by
  obtain ⟨b, off, rfl, -⟩ := hO.a a (by have := hg.hi; omega)
  have H := Lib.hid hO
  have HG := Lib.hid (And.intro hg hca)
  have df := decide_eq_true hg.few
  have HD := Lib.hid df
  have d0 : decide ((a : Int) < 0) = false := decide_eq_false (by omega)
  have d1 : decide ((l.length : Int) ≤ (a : Int)) = false := decide_eq_false (by have := hg.hi; omega)
  have d1' : decide (l.length ≤ a) = false := decide_eq_false (by have := hg.hi; omega)
  have d2 : decide ((64 : Int) < (s.size : Int)) = false := decide_eq_false (by have := hg.val; omega)
  have d2' : decide (64 < s.size) = false := decide_eq_false (by have := hg.val; omega)
  clear hO hg hca df
  go_enter Tryd.func8, Tryd.ntmps8
  go_wp2_with fail
  refine (awake08 W H.out.ok).mono ?_
  rintro x w1 ⟨rfl, b1⟩
  have H1 := Lib.hid (H.out.below b1)
  clear b1 H
  go_wp2_with fail
  refine (few08 l _ ca w1 H1.out.pa).mono ?_
  rintro x w2 ⟨rfl, rfl⟩
  rw [HD.out]
  go_wp2_with fail
  refine (rk_check l _ ca w1 H1.out.pa HG.out.1.few.1).mono ?_
  rintro x w3 ⟨rfl, b3⟩
  have H3 := Lib.hid (H1.out.below b3)
  obtain ⟨i0, hi0, hz0, hz1, hz2⟩ := info_partsB infoPair
  have H4 := Lib.hid (H3.out.below (Kq.below_alloc w3 (.cells #[] 36)))
  have HOW : Hid ((w3.alloc (.cells #[] 36)).ownsRow w3.heap.size 36 2 (.slice (some ⟨w3.heap.size, 0, none⟩) 0 0) 0 []) := Lib.hid ⟨rfl, Or.inr ⟨w3.heap.size, 0, #[], rfl, Nat.le_refl _, Kq.blk_new _ _ _ _, Nat.le_refl _, by decide, rfl, rfl⟩⟩
  clear b3 H1
  rw [HG.out.1.chk]
  go_wp2_with (at_builtin; refine Kq.wpList_append_any _ rfl (.tmp 36) (.tmp 37) 22 22 rfl w3.heap.size 36 i0 (.agg #[.string ⟨#[]⟩, .string ⟨#[]⟩]) 2 32 Tryd.underlying22 hi0 hz0 hz1 hz2 rfl (by decide) (.slice (some ⟨w3.heap.size, 0, none⟩) 0 0) 0 [] rfl HOW.out (.slice (some ⟨b, off, none⟩) l.length ca) l.length (pcells l) rfl ?hs ?h1 ?h2 ?h3 ?_)
  case hs => exact src_pairs ca H4.out.pa
  case h1 => have := HG.out.1.few.1; unfold maxLen; omega
  case h2 => have := HG.out.1.few.1; omega
  case h3 => simp
  intro v' w5 hown hgrow hfresh
  have HV : Hid (Below w3.heap.size w3 w5) := Lib.hid (by
    have k1 := Kq.below_alloc w3 (.cells #[] 36)
    have k2 : Kq.Keeps (fun g => w3.heap.size ≤ g) (w3.alloc (.cells #[] 36)) w5 := Kq.Keeps.grown hgrow (fun k _ hk => by simp [Value.ownBlock] at hk; omega)
    exact k1.trans (k2.below k1.size (fun k _ hk => hk)))
  have hal : (a : Int) < (l.length : Int) := HG.out.1.hi
  have hal2 := hal
  obtain ⟨A', cap', rfl, hcp, hps⟩ := row_pairs hown
  rcases hown.2 with ⟨e0, h0⟩ | ⟨g, cp, cur, e0, hge, hb, hc, hcm, hsz, ht⟩
  · omega
  obtain ⟨rfl, -, rfl⟩ := Value.slice.inj e0
  have hla : a < l.length := by omega
  have e3 : (h.tmod 3 == 0) = false := by rw [hh]; rfl
  have e4 : (h.tmod 3 == 1) = true := by rw [hh]; rfl
  obtain ⟨a1, ha1⟩ : ∃ a1, a1 = a + 1 := ⟨_, rfl⟩
  have hw1 : IntKind.i64.wrap ((a : Int) + 1) = (a1 : Int) := by rw [IntWalk.i64_in _ (by have := HG.out.1.few.1; omega)]; omega
  have sl1 := fun wx => subP_run (some ⟨g, 0, none⟩) l.length cap' a1 (by omega) wx
  have sl2 := fun wx => preP_run g 0 l.length cap' a (by omega) wx
  have s1 : (a1 : Int) ≤ (l.length : Int) := by omega
  have s2 : (a : Int) ≤ (cap' : Int) := by omega
  have HF : Hid (w5.drew.ownsRow w3.heap.size 36 2 (.slice (some ⟨g, 0, none⟩) a cap') a (pcells (l.take a))) := Lib.hid (own_front hown a (by omega))
  have HSU : Hid (Src Tryd.prog 2 22 (.slice (subP (some ⟨g, 0, none⟩) cap' a1) (l.length - a1) (cap' - a1)) (l.length - a1) (pcells (l.drop a1)) w5.drew) := Lib.hid (src_sub (hps.below (Below.refl _ _).drew) hcp a1 (by omega))
  have HWD : Hid (Below w3.heap.size w3 w5.drew) := Lib.hid HV.out.drew
  have HA := Lib.hid (And.intro hla (And.intro ha1 hge))
  have HH := Lib.hid hh
  obtain ⟨SA, hSA⟩ : ∃ z, z = subP (some ⟨g, 0, none⟩) cap' a1 := ⟨_, rfl⟩
  rw [← hSA] at sl1 HSU
  clear hown hgrow hfresh hge hc hcm hsz ht hb e0 H4 HOW HV hSA hh hps hcp hla ha1 hal hal2
  go_wp2
  refine wp_region_any (by kernel_rfl) ?_
  (try (change wpAny _ _ _ _ _ _ _ (World.drew _)))
  generalize w5.drew = wd at *
  refine wpAny_take (i := 0) (v := ?_) rfl (by kernel_rfl) (by kernel_rfl) (by kernel_rfl) (fun _ _ _ h => h) (Or.inl ⟨by kernel_rfl, ?_⟩) ?_
  rotate_left
  · intro w; go_simp; with_reducible rfl
  refine wpAny_take (i := 1) (v := ?_) rfl (by kernel_rfl) (by kernel_rfl) (by kernel_rfl) (fun _ _ _ h => h) (Or.inl ⟨by kernel_rfl, ?_⟩) ?_
  rotate_left
  · intro w; go_simp; with_reducible rfl
  refine wpAny_take (i := 2) (v := ?_) rfl (by kernel_rfl) (by kernel_rfl) (by kernel_rfl) (fun _ _ _ h => h) (Or.inl ⟨by kernel_rfl, ?_⟩) ?_
  rotate_left
  · intro w; go_simp; with_reducible rfl
  refine wpAny_take (i := 3) (v := ?_) rfl (by kernel_rfl) (by kernel_rfl) (by kernel_rfl) (fun _ _ _ h => h) (Or.inl ⟨by kernel_rfl, ?_⟩) ?_
  rotate_left
  · intro w; go_simp; with_reducible rfl
  refine wpAny_take (i := 4) (v := ?_) rfl (by kernel_rfl) (by kernel_rfl) (by kernel_rfl) (fun _ _ _ h => h) (Or.inl ⟨by kernel_rfl, ?_⟩) ?_
  rotate_left
  · intro w; go_simp; with_reducible rfl
  refine wpAny_take (i := 5) (v := ?_) rfl (by kernel_rfl) (by kernel_rfl) (by kernel_rfl) (fun _ _ _ h => h) (Or.inl ⟨by kernel_rfl, ?_⟩) ?_
  rotate_left
  · intro w; go_simp; with_reducible rfl
  refine wpAny_take (i := 6) (v := ?_) rfl (by kernel_rfl) (by kernel_rfl) (by kernel_rfl) (fun _ _ _ h => h) (Or.inl ⟨by kernel_rfl, ?_⟩) ?_
  rotate_left
  · intro w; go_simp; with_reducible rfl
  refine wpAny_ready (rs := [7]) (by kernel_rfl) (by simp) ?_
  refine AllReady.cons rfl (fun K hK => ?_) AllReady.nil
  rw [if_pos (by kernel_rfl)]
  refine Kq.wp_append_any _ (.tmp 102) (.tmp 106) 22 22 rfl w3.heap.size 36 i0 (.agg #[.string ⟨#[]⟩, .string ⟨#[]⟩]) 2 32 Tryd.underlying22 hi0 hz0 hz1 hz2 rfl (by decide) (.slice (some ⟨g, 0, none⟩) a cap') a (pcells (l.take a)) (by kernel_rfl) HF.out (.slice SA (l.length - a1) (cap' - a1)) (l.length - a1) (pcells (l.drop a1)) (by kernel_rfl) HSU.out ?e1 ?e2 HWD.out.size ?_
  case e1 => have := HG.out.1.few.1; have := HA.out.1; unfold maxLen; omega
  case e2 => have := HG.out.1.few.1; have := HA.out.1; omega
  intro v3 w6 hown hgrow hfresh
  rw [← pcells_append] at hown
  obtain ⟨m, hm⟩ : ∃ m, m = l.take a ++ l.drop a1 := ⟨_, rfl⟩
  have hlen : a + (l.length - a1) = m.length := by rw [hm, List.length_append, List.length_take, List.length_drop]; have := HA.out.1; omega
  rw [← hm, hlen] at hown
  obtain ⟨B, cp, rfl, hcp, hps⟩ := row_pairs hown
  have HZ : Hid (Sz l m m.length ca cp) := Lib.hid (by
    have sl := small_of HG.out.1.chk
    have fl := HG.out.1.few.fit
    have l40 := HG.out.1.few.1
    have hsub : ∀ q ∈ m, q ∈ l := fun q hq => by
      rw [hm] at hq
      rcases List.mem_append.1 hq with h | h
      · exact List.mem_of_mem_take h
      · exact List.mem_of_mem_drop h
    exact ⟨sl, fun q hq => sl q (hsub q hq), fl, fun q hq => fl q (hsub q hq), l40, by rw [← hlen]; have := HA.out; omega, rfl, HG.out.2, hcp⟩)
  have HV0 : Hid (LV W w6 w6 (some ⟨b, off, none⟩) B l m) := Lib.hid (by
    have hk : Below w3.heap.size w3 w6 := HWD.out.trans ((Kq.Keeps.grown (S := fun k => w3.heap.size ≤ k) hgrow (fun k _ hk => by simp [Value.ownBlock] at hk; have := HA.out.2.2; omega)).below HWD.out.size (fun k _ hk => hk))
    exact LV.start ⟨H3.out.a, H3.out.laid, H3.out.bel.trans (hk.mono H3.out.bel.size)⟩ hps)
  clear hown hgrow hfresh hps hcp hlen hm HF HSU HWD HA H3
  refine hK _ _ ?_
  clear hK K
  generalize m.length = n at *
  refine wpAny_take (i := 8) (v := ?_) rfl (by kernel_rfl) (by kernel_rfl) (by kernel_rfl) (fun _ _ _ h => h) (Or.inl ⟨by kernel_rfl, ?_⟩) ?_
  rotate_left
  · intro w; go_simp; with_reducible rfl
  refine wpAny_done (by kernel_rfl) ?_ _
  go_wp2_with fail
  refine (root_l HZ.out _ HV0.out).mono ?_
  rintro x v1 ⟨rfl, b1⟩
  have HV1 := Lib.hid (HV0.out.below b1)
  clear b1 HV0
  go_wp2_with fail
  refine (root_m HZ.out _ HV1.out).mono ?_
  rintro x v2 ⟨rfl, b2⟩
  have HV2 := Lib.hid (HV1.out.below b2)
  clear b2 HV1
  go_wp2_with fail
  refine (eq_lm HZ.out _ HV2.out).mono ?_
  rintro x v3 ⟨rfl, b3⟩
  have HV3 := Lib.hid (HV2.out.below b3)
  clear b3 HV2
  have HMK := Lib.hid (fun lo hi P w' (hb : BV W w6 w' (some ⟨b, off, none⟩) B l m lo hi P (askR m ++ (askR l ++ []))) => marked HZ.out hb)
  by_cases hs : rootT l = rootT m
  · have q1 : ((rootT l).toList == (rootT m).toList) = true := by rw [hs]; simp
    by_cases hlm : l = m
    · rw [decide_eq_true hlm]
      generalize rootT l = RL at *
      generalize rootT m = RM at *
      clear hs hlm HMK
      go_wp2
      go_ret
      exact ⟨rfl, HV3.out.bw⟩
    · rw [decide_eq_false hlm]
      have HNE := Lib.hid (And.intro hs hlm)
      have HRL := Lib.hid (fun lo hi P w' (hb : BV W w6 w' (some ⟨b, off, none⟩) B l m lo hi P []) => rk_l HZ.out w' hb)
      have HRM := Lib.hid (fun lo hi P w' (hb : BV W w6 w' (some ⟨b, off, none⟩) B l m lo hi P (askR l ++ [])) => rk_m HZ.out w' hb)
      have HMK2 := Lib.hid (fun lo hi P w' hb => HMK.out lo hi P w' hb hs hlm)
      clear hlm HMK HNE hs
      generalize rootT l = RL at *
      generalize rootT m = RM at *
      go_wp2_with fail
      refine (r_booknewW v3).mono ?_
      rintro x v4 ⟨P, rfl, hbk, hb4⟩
      have HB4 := Lib.hid (BV.start HV3.out hbk hb4)
      clear hbk hb4 HV3
      generalize v3.heap.size = lo at *
      generalize hhi : v4.heap.size = hi at HB4
      clear hhi
      go_wp2_with fail
      refine (HRL.out lo hi P _ HB4.out).mono ?_
      rintro x v5 ⟨rfl, hb5⟩
      have HB5 := Lib.hid hb5
      clear hb5 HB4
      go_wp2_with fail
      refine (HRM.out lo hi P _ HB5.out).mono ?_
      rintro x v6 ⟨rfl, hb6⟩
      have HB6 := Lib.hid hb6
      clear hb6 HB5
      have c3 := HMK2.out lo hi P _ HB6.out
      go_wp2
      go_ret
      exact ⟨rfl, HB6.out.v.bw⟩
  · have hlm : l ≠ m := fun e => hs (by rw [e])
    have q1 : ((rootT l).toList == (rootT m).toList) = false := by
      rw [beq_eq_false_iff_ne]
      intro e
      rw [Lib.toList_data, Lib.toList_data] at e
      exact hs (ByteArray.ext (Array.toList_inj.1 e))
    rw [decide_eq_false hlm]
    clear hs hlm HMK
    generalize rootT l = RL at *
    generalize rootT m = RM at *
    go_wp2
    go_ret
    exact ⟨rfl, HV3.out.bw⟩
end merkleChanges
end Go.Proofs.YtnbapiddbcaolaaDoor
namespace Go.Proofs.YtnbapiddbcaolaaDoor
open Go.RowKit
set_option linter.unusedVariables false
namespace merkleChanges
set_option maxRecDepth 100000 in
set_option maxHeartbeats 8000000 in
theorem main2 (A : Option Addr) (ca : Nat) (l : List PairV) (a : Nat) (s : ByteArray) (h : Int) (W : World) (hO : LO W W A l) (hg : Gd l a s) (hca : l.length ≤ ca) (hh : h.tmod 3 ≠ 0 ∧ h.tmod 3 ≠ 1) (hla : a < l.length) (hx : 16 ≤ (l[a]'hla).1.size ∨ ∃ h1 : a + 1 < l.length, Op.bytesLess ((l[a]'hla).1 ++ (⟨#[0]⟩ : ByteArray)).toList (l[a + 1]'h1).1.toList = false) :
    Calls Tryd.prog 8 #[.slice A l.length ca, .int .i64 a, .string s, .int .u8 h] W fun x w' => x = .returned (.bool true) ∧ Below W.heap.size W w' := by
  have HX := Lib.hid hx
  clear hx
  have HXL := Lib.hid hla
  obtain ⟨b, off, rfl, -⟩ := hO.a a (by have := hg.hi; omega)
  have H := Lib.hid hO
  have HG := Lib.hid (And.intro hg hca)
  have df := decide_eq_true hg.few
  have HD := Lib.hid df
  have d0 : decide ((a : Int) < 0) = false := decide_eq_false (by omega)
  have d1 : decide ((l.length : Int) ≤ (a : Int)) = false := decide_eq_false (by have := hg.hi; omega)
  have d1' : decide (l.length ≤ a) = false := decide_eq_false (by have := hg.hi; omega)
  have d2 : decide ((64 : Int) < (s.size : Int)) = false := decide_eq_false (by have := hg.val; omega)
  have d2' : decide (64 < s.size) = false := decide_eq_false (by have := hg.val; omega)
  clear hO hg hca df
  go_enter Tryd.func8, Tryd.ntmps8
  go_wp2_with fail
  refine (awake08 W H.out.ok).mono ?_
  rintro x w1 ⟨rfl, b1⟩
  have H1 := Lib.hid (H.out.below b1)
  clear b1 H
  go_wp2_with fail
  refine (few08 l _ ca w1 H1.out.pa).mono ?_
  rintro x w2 ⟨rfl, rfl⟩
  rw [HD.out]
  go_wp2_with fail
  refine (rk_check l _ ca w1 H1.out.pa HG.out.1.few.1).mono ?_
  rintro x w3 ⟨rfl, b3⟩
  have H3 := Lib.hid (H1.out.below b3)
  obtain ⟨i0, hi0, hz0, hz1, hz2⟩ := info_partsB infoPair
  have H4 := Lib.hid (H3.out.below (Kq.below_alloc w3 (.cells #[] 36)))
  have HOW : Hid ((w3.alloc (.cells #[] 36)).ownsRow w3.heap.size 36 2 (.slice (some ⟨w3.heap.size, 0, none⟩) 0 0) 0 []) := Lib.hid ⟨rfl, Or.inr ⟨w3.heap.size, 0, #[], rfl, Nat.le_refl _, Kq.blk_new _ _ _ _, Nat.le_refl _, by decide, rfl, rfl⟩⟩
  clear b3 H1
  rw [HG.out.1.chk]
  go_wp2_with (at_builtin; refine Kq.wpList_append_any _ rfl (.tmp 36) (.tmp 37) 22 22 rfl w3.heap.size 36 i0 (.agg #[.string ⟨#[]⟩, .string ⟨#[]⟩]) 2 32 Tryd.underlying22 hi0 hz0 hz1 hz2 rfl (by decide) (.slice (some ⟨w3.heap.size, 0, none⟩) 0 0) 0 [] rfl HOW.out (.slice (some ⟨b, off, none⟩) l.length ca) l.length (pcells l) rfl ?hs ?h1 ?h2 ?h3 ?_)
  case hs => exact src_pairs ca H4.out.pa
  case h1 => have := HG.out.1.few.1; unfold maxLen; omega
  case h2 => have := HG.out.1.few.1; omega
  case h3 => simp
  intro v' w5 hown hgrow hfresh
  have HV : Hid (Below w3.heap.size w3 w5) := Lib.hid (by
    have k1 := Kq.below_alloc w3 (.cells #[] 36)
    have k2 : Kq.Keeps (fun g => w3.heap.size ≤ g) (w3.alloc (.cells #[] 36)) w5 := Kq.Keeps.grown hgrow (fun k _ hk => by simp [Value.ownBlock] at hk; omega)
    exact k1.trans (k2.below k1.size (fun k _ hk => hk)))
  have hal : (a : Int) < (l.length : Int) := HG.out.1.hi
  obtain ⟨a', n', c', rfl⟩ := Kq.own_shape hown
  have e3 : (h.tmod 3 == 0) = false := by rw [beq_eq_false_iff_ne]; exact hh.1
  have e4 : (h.tmod 3 == 1) = false := by rw [beq_eq_false_iff_ne]; exact hh.2
  have H5 := Lib.hid (H3.out.below HV.out)
  have hla : a < l.length := by omega
  obtain ⟨p, hp⟩ : ∃ p, p = l[a] := ⟨_, rfl⟩
  obtain ⟨k, v0⟩ := p
  have hkk : l[a].1 = k := by rw [← hp]
  obtain ⟨b', o', eb, -, c0, -⟩ := H5.out.pa a hla
  have hq : b = b' ∧ off = o' := by simpa using eb
  obtain ⟨rfl, rfl⟩ := hq
  rw [hkk] at c0
  clear hown hgrow hfresh H4 HOW H3 HV hp eb
  obtain ⟨a1, ha1⟩ : ∃ a1, a1 = a + 1 := ⟨_, rfl⟩
  have hw1 : IntKind.i64.wrap ((a : Int) + 1) = (a1 : Int) := by rw [IntWalk.i64_in _ (by have := HG.out.1.few.1; omega)]; omega
  have HK1 := Lib.hid ha1
  have HH := Lib.hid hh
  clear ha1 hh
  by_cases h16 : 16 ≤ k.size
  · have d3 : decide ((16 : Int) ≤ (k.size : Int)) = true := decide_eq_true (by omega)
    have d3' : decide (16 ≤ k.size) = true := decide_eq_true h16
    clear h16 hw1 hkk
    go_wp2
    go_quiet (fail)
    generalize hwq : w5.drewN nq = wq
    have HQ : Hid (Below W.heap.size W wq) := Lib.hid (by rw [← hwq]; exact below_drewN H5.out.bel nq)
    clear hwq c0
    go_wp2
    go_ret
    exact ⟨rfl, HQ.out⟩
  have d3 : decide ((16 : Int) ≤ (k.size : Int)) = false := decide_eq_false (by omega)
  have d3' : decide (16 ≤ k.size) = false := decide_eq_false h16
  have hsz : ¬ 9223372036854775807 < k.size + 1 := by omega
  have h1 : a1 < l.length := by
    rcases HX.out with h | ⟨h, -⟩
    · rw [hkk] at h; exact absurd h h16
    · have := HK1.out; omega
  have ho : Op.bytesLess (k ++ (⟨#[0]⟩ : ByteArray)).toList (l[a1]'h1).1.toList = false := by
    rcases HX.out with h | ⟨h, h'⟩
    · rw [hkk] at h; exact absurd h h16
    · have := HK1.out; subst this; rw [hkk] at h'; exact h'
  obtain ⟨b', o', eb, -, c1, -⟩ := H5.out.pa a1 h1
  have hq : b = b' ∧ off = o' := by simpa using eb
  obtain ⟨rfl, rfl⟩ := hq
  obtain ⟨k1, hk1⟩ : ∃ z, z = (l[a1]'h1).1 := ⟨_, rfl⟩
  rw [← hk1] at c1 ho
  have d4 : decide ((a1 : Int) < (l.length : Int)) = true := decide_eq_true (by omega)
  have d4' : decide (a1 < l.length) = true := decide_eq_true h1
  have s1 : (a1 : Int) < (l.length : Int) := by omega
  clear eb hk1 hkk h16
  have hln := less_not (k ++ (⟨#[0]⟩ : ByteArray)).toList k1.toList
  rw [ho] at hln
  clear ho
  by_cases q1 : Op.bytesLess k1.toList (k ++ (⟨#[0]⟩ : ByteArray)).toList = true
  · clear hln
    go_wp2
    go_quiet (fail)
    generalize hwq : w5.drewN nq = wq
    have HQ : Hid (Below W.heap.size W wq) := Lib.hid (by rw [← hwq]; exact below_drewN H5.out.bel nq)
    clear hwq c0 c1 q1
    go_wp2
    go_ret
    exact ⟨rfl, HQ.out⟩
  · have q1' : Op.bytesLess k1.toList (k ++ (⟨#[0]⟩ : ByteArray)).toList = false := by simpa using q1
    have q2 : (k1.toList == (k ++ (⟨#[0]⟩ : ByteArray)).toList) = true := by
      rw [q1'] at hln
      exact hln.symm
    clear hln q1
    go_wp2
    go_quiet (fail)
    generalize hwq : w5.drewN nq = wq
    have HQ : Hid (Below W.heap.size W wq) := Lib.hid (by rw [← hwq]; exact below_drewN H5.out.bel nq)
    clear hwq c0 c1 q1' q2
    go_wp2
    go_ret
    exact ⟨rfl, HQ.out⟩
end merkleChanges
end Go.Proofs.YtnbapiddbcaolaaDoor
namespace Go.Proofs.YtnbapiddbcaolaaDoor
open Go.RowKit
set_option linter.unusedVariables false
namespace merkleChanges
set_option maxRecDepth 100000 in
set_option maxHeartbeats 8000000 in
theorem main2N (A : Option Addr) (ca : Nat) (l : List PairV) (a : Nat) (s : ByteArray) (h : Int) (W : World) (hO : LO W W A l) (hg : Gd l a s) (hca : l.length ≤ ca) (hh : h.tmod 3 ≠ 0 ∧ h.tmod 3 ≠ 1) (hla : a < l.length) (h16 : ¬ 16 ≤ (l[a]'hla).1.size) (h1 : a + 1 < l.length) (ho : Op.bytesLess ((l[a]'hla).1 ++ (⟨#[0]⟩ : ByteArray)).toList (l[a + 1]'h1).1.toList = true) :
    Calls Tryd.prog 8 #[.slice A l.length ca, .int .i64 a, .string s, .int .u8 h] W fun x w' => x = .returned (.bool true) ∧ Below W.heap.size W w' := by
  have HX16 := Lib.hid h16
  have HX1 := Lib.hid h1
  have HXO := Lib.hid ho
  clear ho h16
  have HXL := Lib.hid hla
  obtain ⟨b, off, rfl, -⟩ := hO.a a (by have := hg.hi; omega)
  have H := Lib.hid hO
  have HG := Lib.hid (And.intro hg hca)
  have df := decide_eq_true hg.few
  have HD := Lib.hid df
  have d0 : decide ((a : Int) < 0) = false := decide_eq_false (by omega)
  have d1 : decide ((l.length : Int) ≤ (a : Int)) = false := decide_eq_false (by have := hg.hi; omega)
  have d1' : decide (l.length ≤ a) = false := decide_eq_false (by have := hg.hi; omega)
  have d2 : decide ((64 : Int) < (s.size : Int)) = false := decide_eq_false (by have := hg.val; omega)
  have d2' : decide (64 < s.size) = false := decide_eq_false (by have := hg.val; omega)
  clear hO hg hca df
  go_enter Tryd.func8, Tryd.ntmps8
  go_wp2_with fail
  refine (awake08 W H.out.ok).mono ?_
  rintro x w1 ⟨rfl, b1⟩
  have H1 := Lib.hid (H.out.below b1)
  clear b1 H
  go_wp2_with fail
  refine (few08 l _ ca w1 H1.out.pa).mono ?_
  rintro x w2 ⟨rfl, rfl⟩
  rw [HD.out]
  go_wp2_with fail
  refine (rk_check l _ ca w1 H1.out.pa HG.out.1.few.1).mono ?_
  rintro x w3 ⟨rfl, b3⟩
  have H3 := Lib.hid (H1.out.below b3)
  obtain ⟨i0, hi0, hz0, hz1, hz2⟩ := info_partsB infoPair
  have H4 := Lib.hid (H3.out.below (Kq.below_alloc w3 (.cells #[] 36)))
  have HOW : Hid ((w3.alloc (.cells #[] 36)).ownsRow w3.heap.size 36 2 (.slice (some ⟨w3.heap.size, 0, none⟩) 0 0) 0 []) := Lib.hid ⟨rfl, Or.inr ⟨w3.heap.size, 0, #[], rfl, Nat.le_refl _, Kq.blk_new _ _ _ _, Nat.le_refl _, by decide, rfl, rfl⟩⟩
  clear b3 H1
  rw [HG.out.1.chk]
  go_wp2_with (at_builtin; refine Kq.wpList_append_any _ rfl (.tmp 36) (.tmp 37) 22 22 rfl w3.heap.size 36 i0 (.agg #[.string ⟨#[]⟩, .string ⟨#[]⟩]) 2 32 Tryd.underlying22 hi0 hz0 hz1 hz2 rfl (by decide) (.slice (some ⟨w3.heap.size, 0, none⟩) 0 0) 0 [] rfl HOW.out (.slice (some ⟨b, off, none⟩) l.length ca) l.length (pcells l) rfl ?hs ?h1 ?h2 ?h3 ?_)
  case hs => exact src_pairs ca H4.out.pa
  case h1 => have := HG.out.1.few.1; unfold maxLen; omega
  case h2 => have := HG.out.1.few.1; omega
  case h3 => simp
  intro v' w5 hown hgrow hfresh
  have HV : Hid (Below w3.heap.size w3 w5) := Lib.hid (by
    have k1 := Kq.below_alloc w3 (.cells #[] 36)
    have k2 : Kq.Keeps (fun g => w3.heap.size ≤ g) (w3.alloc (.cells #[] 36)) w5 := Kq.Keeps.grown hgrow (fun k _ hk => by simp [Value.ownBlock] at hk; omega)
    exact k1.trans (k2.below k1.size (fun k _ hk => hk)))
  have hal : (a : Int) < (l.length : Int) := HG.out.1.hi
  obtain ⟨a', n', c', rfl⟩ := Kq.own_shape hown
  have e3 : (h.tmod 3 == 0) = false := by rw [beq_eq_false_iff_ne]; exact hh.1
  have e4 : (h.tmod 3 == 1) = false := by rw [beq_eq_false_iff_ne]; exact hh.2
  have H5 := Lib.hid (H3.out.below HV.out)
  have hla : a < l.length := by omega
  obtain ⟨p, hp⟩ : ∃ p, p = l[a] := ⟨_, rfl⟩
  obtain ⟨k, v0⟩ := p
  have hkk : l[a].1 = k := by rw [← hp]
  obtain ⟨b', o', eb, -, c0, -⟩ := H5.out.pa a hla
  have hq : b = b' ∧ off = o' := by simpa using eb
  obtain ⟨rfl, rfl⟩ := hq
  rw [hkk] at c0
  clear hown hgrow hfresh H4 HOW H3 HV hp eb
  obtain ⟨a1, ha1⟩ : ∃ a1, a1 = a + 1 := ⟨_, rfl⟩
  have hw1 : IntKind.i64.wrap ((a : Int) + 1) = (a1 : Int) := by rw [IntWalk.i64_in _ (by have := HG.out.1.few.1; omega)]; omega
  have HK1 := Lib.hid ha1
  have HH := Lib.hid hh
  clear ha1 hh
  have HKK := Lib.hid hkk
  have d3 : decide ((16 : Int) ≤ (k.size : Int)) = false := decide_eq_false (by have := HX16.out; rw [hkk] at this; omega)
  have d3' : decide (16 ≤ k.size) = false := decide_eq_false (by have := HX16.out; rw [hkk] at this; omega)
  have hsz : ¬ 9223372036854775807 < k.size + 1 := by have := HX16.out; rw [hkk] at this; omega
  have HK16 : Hid (¬ 16 ≤ k.size) := Lib.hid (by have := HX16.out; rw [hkk] at this; exact this)
  have h1 : a1 < l.length := by have := HX1.out; have := HK1.out; omega
  have ho : Op.bytesLess (k ++ (⟨#[0]⟩ : ByteArray)).toList (l[a1]'h1).1.toList = true := by
    have h' := HXO.out
    have := HK1.out; subst this; rw [hkk] at h'; exact h'
  obtain ⟨b', o', eb, -, c1, -⟩ := H5.out.pa a1 h1
  have hq : b = b' ∧ off = o' := by simpa using eb
  obtain ⟨rfl, rfl⟩ := hq
  obtain ⟨k1, hk1⟩ : ∃ z, z = (l[a1]'h1).1 := ⟨_, rfl⟩
  rw [← hk1] at c1 ho
  have d4 : decide ((a1 : Int) < (l.length : Int)) = true := decide_eq_true (by omega)
  have d4' : decide (a1 < l.length) = true := decide_eq_true h1
  have s1 : (a1 : Int) < (l.length : Int) := by omega
  have HA : Hid (a1 ≤ l.length) := Lib.hid (by omega)
  clear eb hk1 hkk h1
  have hln := less_not (k ++ (⟨#[0]⟩ : ByteArray)).toList k1.toList
  rw [ho] at hln
  have q1 : Op.bytesLess k1.toList (k ++ (⟨#[0]⟩ : ByteArray)).toList = false := by
    have := (Bool.or_eq_false_iff.1 hln.symm).1
    exact this
  have q2 : (k1.toList == (k ++ (⟨#[0]⟩ : ByteArray)).toList) = false := (Bool.or_eq_false_iff.1 hln.symm).2
  clear hln ho
  go_wp2
  go_quiet (fail)
  generalize hwq : w5.drewN nq = wq
  have HQ : Hid (LO W wq (some ⟨b, off, none⟩) l) := Lib.hid (by rw [← hwq]; exact H5.out.below (below_drewN (Below.refl _ _) nq))
  clear hwq c0 c1 q1 q2 d4 d4' s1 HX1 HXO
  go_wp2_with fail
  obtain ⟨wd, hwd⟩ : ∃ z, z = wq.drew := ⟨_, rfl⟩
  have HD : Hid (LO W wd (some ⟨b, off, none⟩) l) := Lib.hid (by rw [hwd]; exact HQ.out.below (Below.refl _ _).drew)
  have hla : a < l.length := HXL.out
  obtain ⟨b', o', eb, -, c0, -⟩ := HD.out.pa a hla
  have hq : b = b' ∧ off = o' := by simpa using eb
  obtain ⟨rfl, rfl⟩ := hq
  rw [HKK.out] at c0
  have SH : ∀ cur : World, MidP wd cur → cur.cell? ⟨b, off + a * 2, none⟩ = some (.string k) := fun cur hm => by
    obtain ⟨b', o', eb, -, c0, -⟩ := (HD.out.below hm.below).pa a hla
    have hq : b = b' ∧ off = o' := by simpa using eb
    obtain ⟨rfl, rfl⟩ := hq
    rw [HKK.out] at c0
    exact c0
  have HMwd : Hid (MidP wd wd) := Lib.hid (MidP.refl wd)
  obtain ⟨KZ, hKZ⟩ : ∃ z, z = k ++ (⟨#[0]⟩ : ByteArray) := ⟨_, rfl⟩
  have HKZ : Hid (KZ.size ≤ 16) := Lib.hid (by rw [hKZ, ByteArray.size_append]; have := HK16.out; show k.size + 1 ≤ 16; omega)
  have HA1 := HA.out
  have sl1 := fun wx => subP_run (some ⟨b, off, none⟩) l.length ca a1 HA.out wx
  have sl2 := fun wx => preP_run b off l.length ca a1 (by have := HG.out.2; have := HA.out; omega) wx
  have s1 : (a1 : Int) ≤ (l.length : Int) := by omega
  have s2 : (a1 : Int) ≤ (ca : Int) := by have := HG.out.2; omega
  have HS1 : Hid (∀ cur : World, MidP wd cur → Src Tryd.prog 2 22 (.slice (some ⟨b, off, none⟩) a1 ca) a1 (pcells (l.take a1)) cur) := Lib.hid (fun cur hm => by
    have h := src_pairs ca (((HD.out.below hm.below).pa).take a1)
    rw [show (l.take a1).length = a1 by rw [List.length_take]; have := HA.out; omega] at h
    exact h)
  obtain ⟨SA, hSA⟩ : ∃ z, z = subP (some ⟨b, off, none⟩) ca a1 := ⟨_, rfl⟩
  have HS2 : Hid (∀ cur : World, MidP wd cur → Src Tryd.prog 2 22 (.slice SA (l.length - a1) (ca - a1)) (l.length - a1) (pcells (l.drop a1)) cur) := Lib.hid (fun cur hm => by rw [hSA]; exact src_sub ((HD.out.below hm.below).pa) HG.out.2 a1 HA.out)
  rw [← hSA] at sl1
  obtain ⟨m, hm⟩ : ∃ m, m = l.take a1 ++ [(KZ, s)] ++ l.drop a1 := ⟨_, rfl⟩
  have HFIN : Hid (∀ v w', MidP wd w' → w'.ownsRow wd.heap.size 36 2 v (a1 + 1 + (l.length - a1)) (pcells (l.take a1 ++ [(KZ, s)] ++ l.drop a1)) → ∃ B cp, v = .slice B m.length cp ∧ (Sz l m m.length ca cp ∧ LV W w' w' (some ⟨b, off, none⟩) B l m)) :=
    Lib.hid (fun v w' hmd hown => third HD.out HG.out.1.few HG.out.1.chk HG.out.1.val HKZ.out HA.out HG.out.2 v w' hmd hown m hm)
  clear hm hSA eb H5
  refine Kq.wp_region_T 21 (fun cur => cur.cell? ⟨b, off + a * 2, none⟩ = some (.string k)) (by kernel_rfl) (by rw [← hwd]; exact c0) (fun hS0 => ?_)
  rw [← hwd] at hS0 ⊢
  clear hwd c0
  refine Kq.wpAnyT_take (i := 1) (v := ?_) rfl rfl (by kernel_rfl) (by kernel_rfl) (by kernel_rfl) (by kernel_rfl) (fun _ _ _ h => h) (Or.inl ⟨by kernel_rfl, ?_⟩) (by assumption) ?_
  rotate_left
  · intro w hSw; (try dsimp only at hSw); go_simp; (try with_reducible rfl)
  refine Kq.wpAnyT_take (i := 2) (v := ?_) rfl rfl (by kernel_rfl) (by kernel_rfl) (by kernel_rfl) (by kernel_rfl) (fun _ _ _ h => h) (Or.inl ⟨by kernel_rfl, ?_⟩) (by assumption) ?_
  rotate_left
  · intro w hSw; (try dsimp only at hSw); go_simp; (try with_reducible rfl)
  refine Kq.wpAnyT_take (i := 3) (v := ?_) rfl rfl (by kernel_rfl) (by kernel_rfl) (by kernel_rfl) (by kernel_rfl) (fun _ _ _ h => h) (Or.inl ⟨by kernel_rfl, ?_⟩) (by assumption) ?_
  rotate_left
  · intro w hSw; (try dsimp only at hSw); go_simp; (try with_reducible rfl)
  refine Kq.wpAnyT_take (i := 4) (v := ?_) rfl rfl (by kernel_rfl) (by kernel_rfl) (by kernel_rfl) (by kernel_rfl) (fun _ _ _ h => h) (Or.inl ⟨by kernel_rfl, ?_⟩) (by assumption) ?_
  rotate_left
  · intro w hSw; (try dsimp only at hSw); go_simp; (try with_reducible rfl)
  refine Kq.wpAnyT_take (i := 6) (v := ?_) rfl rfl (by kernel_rfl) (by kernel_rfl) (by kernel_rfl) (by kernel_rfl) (fun _ _ _ h => h) (Or.inl ⟨by kernel_rfl, ?_⟩) (by assumption) ?_
  rotate_left
  · intro w hSw; (try dsimp only at hSw); go_simp; (try with_reducible rfl)
  refine Kq.wpAnyT_take (i := 7) (v := ?_) rfl rfl (by kernel_rfl) (by kernel_rfl) (by kernel_rfl) (by kernel_rfl) (fun _ _ _ h => h) (Or.inl ⟨by kernel_rfl, ?_⟩) (by assumption) ?_
  rotate_left
  · intro w hSw; (try dsimp only at hSw); go_simp; (try with_reducible rfl)
  refine Kq.wpAnyT_take (i := 8) (v := ?_) rfl rfl (by kernel_rfl) (by kernel_rfl) (by kernel_rfl) (by kernel_rfl) (fun _ _ _ h => h) (Or.inl ⟨by kernel_rfl, ?_⟩) (by assumption) ?_
  rotate_left
  · intro w hSw; (try dsimp only at hSw); go_simp; (try with_reducible rfl)
  refine Kq.wpAnyT_take (i := 9) (v := ?_) rfl rfl (by kernel_rfl) (by kernel_rfl) (by kernel_rfl) (by kernel_rfl) (fun _ _ _ h => h) (Or.inl ⟨by kernel_rfl, ?_⟩) (by assumption) ?_
  rotate_left
  · intro w hSw; (try dsimp only at hSw); go_simp; (try with_reducible rfl)
  refine Kq.wpAnyT_take (i := 10) (v := ?_) rfl rfl (by kernel_rfl) (by kernel_rfl) (by kernel_rfl) (by kernel_rfl) (fun _ _ _ h => h) (Or.inl ⟨by kernel_rfl, ?_⟩) (by assumption) ?_
  rotate_left
  · intro w hSw; (try dsimp only at hSw); go_simp; (try with_reducible rfl)
  refine Kq.wpAnyT_take (i := 11) (v := ?_) rfl rfl (by kernel_rfl) (by kernel_rfl) (by kernel_rfl) (by kernel_rfl) (fun _ _ _ h => h) (Or.inl ⟨by kernel_rfl, ?_⟩) (by assumption) ?_
  rotate_left
  · intro w hSw; (try dsimp only at hSw); go_simp; (try with_reducible rfl)
  rw [← hKZ]
  clear hKZ
  refine Kq.wpAnyT_take (i := 12) (v := ?_) rfl rfl (by kernel_rfl) (by kernel_rfl) (by kernel_rfl) (by kernel_rfl) (fun _ _ _ h => h) (Or.inl ⟨by kernel_rfl, ?_⟩) (by assumption) ?_
  rotate_left
  · intro w hSw; (try dsimp only at hSw); go_simp; (try with_reducible rfl)
  refine Kq.wpAnyT_take (i := 13) (v := ?_) rfl rfl (by kernel_rfl) (by kernel_rfl) (by kernel_rfl) (by kernel_rfl) (fun _ _ _ h => h) (Or.inl ⟨by kernel_rfl, ?_⟩) (by assumption) ?_
  rotate_left
  · intro w hSw; (try dsimp only at hSw); go_simp; (try with_reducible rfl)
  refine Kq.wpAnyT_take (i := 16) (v := ?_) rfl rfl (by kernel_rfl) (by kernel_rfl) (by kernel_rfl) (by kernel_rfl) (fun _ _ _ h => h) (Or.inl ⟨by kernel_rfl, ?_⟩) (by assumption) ?_
  rotate_left
  · intro w hSw; (try dsimp only at hSw); go_simp; (try with_reducible rfl)
  refine Kq.wpAnyT_take (i := 17) (v := ?_) rfl rfl (by kernel_rfl) (by kernel_rfl) (by kernel_rfl) (by kernel_rfl) (fun _ _ _ h => h) (Or.inl ⟨by kernel_rfl, ?_⟩) (by assumption) ?_
  rotate_left
  · intro w hSw; (try dsimp only at hSw); go_simp; (try with_reducible rfl)
  refine Kq.wpAnyT_take (i := 18) (v := ?_) rfl rfl (by kernel_rfl) (by kernel_rfl) (by kernel_rfl) (by kernel_rfl) (fun _ _ _ h => h) (Or.inl ⟨by kernel_rfl, ?_⟩) (by assumption) ?_
  rotate_left
  · intro w hSw; (try dsimp only at hSw); go_simp; (try with_reducible rfl)
  refine Kq.wpAnyT_take (i := 19) (v := ?_) rfl rfl (by kernel_rfl) (by kernel_rfl) (by kernel_rfl) (by kernel_rfl) (fun _ _ _ h => h) (Or.inl ⟨by kernel_rfl, ?_⟩) (by assumption) ?_
  rotate_left
  · intro w hSw; (try dsimp only at hSw); go_simp; (try with_reducible rfl)
  refine Kq.wpAnyT_two (i := 0) (j := 14) (by kernel_rfl) rfl rfl (fun K hK => ?g0x0) (fun K hK => ?g14x0)
  case g0x0 =>
    go_simp
    obtain ⟨x1, hw⟩ : ∃ z, z = wd.alloc (.cells #[] 36) := ⟨_, rfl⟩
    (try rw [← hw])
    have HMx1 : Hid (MidP wd x1) := Lib.hid (by rw [hw]; exact HMwd.out.alloc _)
    obtain ⟨zb, hzb⟩ : ∃ z, z = wd.heap.size := ⟨_, rfl⟩
    have HRow : Hid (x1.ownsRow wd.heap.size 36 2 (.slice (some ⟨zb, 0, none⟩) 0 0) 0 []) := Lib.hid (by rw [hw, hzb]; exact World.ownsRow_made wd #[] 0 HMwd.out.size (Nat.zero_le _) rfl)
    have HZB : Hid (wd.heap.size ≤ zb) := Lib.hid (by rw [hzb]; exact HMwd.out.size)
    rw [← hzb]
    clear hw hzb
    refine hK.out _ _ (SH x1 HMx1.out) (fun hS1 => ?_)
    clear hK K hS0
    have hS0 := hS1
    clear hS1
    refine Kq.wpAnyT_two (i := 5) (j := 14) (by kernel_rfl) rfl rfl (fun K hK => ?g5x1) (fun K hK => ?g14x1)
    case g5x1 =>
      rw [if_pos (by kernel_rfl)]
      refine Kq.wp_append_any _ (.tmp 70) (.tmp 74) 22 22 rfl wd.heap.size 36 i0 (.agg #[.string ⟨#[]⟩, .string ⟨#[]⟩]) 2 32 Tryd.underlying22 hi0 hz0 hz1 hz2 rfl (by decide) (.slice (some ⟨zb, 0, none⟩) 0 0) 0 [] (by kernel_rfl) HRow.out (.slice (some ⟨b, off, none⟩) a1 ca) a1 (pcells (l.take a1)) (by kernel_rfl) (HS1.out x1 HMx1.out) ?e1 ?e2 HMx1.out.size ?_
      case e1 => have := HG.out.1.few.1; have := HA.out; unfold maxLen; omega
      case e2 => have := HG.out.1.few.1; have := HA.out; omega
      intro v1 x2 hown hgrow hfresh
      rw [Nat.zero_add, List.nil_append] at hown
      have HMx2 : Hid (MidP wd x2) := Lib.hid (HMx1.out.grown hgrow (fun j hj => by have := HZB.out; simp [Value.ownBlock] at hj; omega))
      have HRow := Lib.hid hown
      clear hown hgrow hfresh
      refine hK.out _ _ (SH x2 HMx2.out) (fun hS1 => ?_)
      clear hK K hS0
      have hS0 := hS1
      clear hS1
      refine Kq.wpAnyT_one (i := 14) (by kernel_rfl) rfl (fun K hK => ?_)
      go_simp
      obtain ⟨x3, hw⟩ : ∃ z, z = x2.alloc (.cells #[.string KZ, .string s] 36) := ⟨_, rfl⟩
      (try rw [← hw])
      have HMx3 : Hid (MidP wd x3) := Lib.hid (by rw [hw]; exact HMx2.out.alloc _)
      obtain ⟨cb, hzb⟩ : ∃ z, z = x2.heap.size := ⟨_, rfl⟩
      have HOne : Hid (PsAt x3 (some ⟨cb, 0, none⟩) [(KZ, s)] ∧ True) := Lib.hid ⟨by rw [hw, hzb]; exact made_pair _ _ _, trivial⟩
      have HOneO : Hid (PsAt x3 (some ⟨cb, 0, none⟩) [(KZ, s)]) := Lib.hid HOne.out.1
      have HRow := Lib.hid ((show x3.ownsRow _ _ _ _ _ _ from by rw [hw]; exact HRow.out.alloc _))
      rw [← hzb]
      clear hw hzb
      refine hK.out _ _ (SH x3 HMx3.out) (fun hS1 => ?_)
      clear hK K hS0
      have hS0 := hS1
      clear hS1
      refine Kq.wpAnyT_one (i := 15) (by kernel_rfl) rfl (fun K hK => ?_)
      rw [if_pos (by kernel_rfl)]
      refine Kq.wp_append_any _ (.tmp 75) (.tmp 84) 22 22 rfl wd.heap.size 36 i0 (.agg #[.string ⟨#[]⟩, .string ⟨#[]⟩]) 2 32 Tryd.underlying22 hi0 hz0 hz1 hz2 rfl (by decide) v1 a1 (pcells (l.take a1)) (by kernel_rfl) HRow.out (.slice (some ⟨cb, 0, none⟩) 1 1) 1 (pcells [(KZ, s)]) (by kernel_rfl) (src_pairs 1 HOne.out.1) ?e1 ?e2 HMx3.out.size ?_
      case e1 => have := HG.out.1.few.1; have := HA.out; unfold maxLen; omega
      case e2 => have := HG.out.1.few.1; have := HA.out; omega
      intro v2 x4 hown hgrow hfresh
      rw [← pcells_append] at hown
      have HMx4 : Hid (MidP wd x4) := Lib.hid (HMx3.out.grown hgrow (fun j hj => own_geB HRow.out hj))
      have HRow := Lib.hid hown
      clear hown hgrow hfresh
      refine hK.out _ _ (SH x4 HMx4.out) (fun hS1 => ?_)
      clear hK K hS0
      have hS0 := hS1
      clear hS1
      refine Kq.wpAnyT_one (i := 20) (by kernel_rfl) rfl (fun K hK => ?_)
      rw [if_pos (by kernel_rfl)]
      refine Kq.wp_append_any _ (.tmp 85) (.tmp 89) 22 22 rfl wd.heap.size 36 i0 (.agg #[.string ⟨#[]⟩, .string ⟨#[]⟩]) 2 32 Tryd.underlying22 hi0 hz0 hz1 hz2 rfl (by decide) v2 (a1 + 1) (pcells (l.take a1 ++ [(KZ, s)])) (by kernel_rfl) HRow.out (.slice SA (l.length - a1) (ca - a1)) (l.length - a1) (pcells (l.drop a1)) (by kernel_rfl) (HS2.out x4 HMx4.out) ?e1 ?e2 HMx4.out.size ?_
      case e1 => have := HG.out.1.few.1; have := HA.out; unfold maxLen; omega
      case e2 => have := HG.out.1.few.1; have := HA.out; omega
      intro v3 x5 hown hgrow hfresh
      rw [← pcells_append] at hown
      have HMx5 : Hid (MidP wd x5) := Lib.hid (HMx4.out.grown hgrow (fun j hj => own_geB HRow.out hj))
      have HRow := Lib.hid hown
      clear hown hgrow hfresh
      refine hK.out _ _ (SH x5 HMx5.out) (fun hS1 => ?_)
      clear hK K hS0
      have hS0 := hS1
      clear hS1
      refine Kq.wpAnyT_last (by kernel_rfl) rfl (fun K hK => ?_)
      go_simp
      refine hK.out _ _ ?_
      clear hK K
      refine Kq.wpAnyT_done (by kernel_rfl) ?_ _
      clear hS0 SH
      have HV9 := HFIN.out _ _ HMx5.out HRow.out
      obtain ⟨B, cp, rfl, hZV⟩ := HV9
      have HZ := Lib.hid hZV.1
      have HV0 := Lib.hid hZV.2
      clear hZV HFIN HMx5 HRow
      generalize m.length = n at *
      go_simp
      go_wp2_with fail
      refine (root_l HZ.out _ HV0.out).mono ?_
      rintro x v1 ⟨rfl, b1⟩
      have HV1 := Lib.hid (HV0.out.below b1)
      clear b1 HV0
      go_wp2_with fail
      refine (root_m HZ.out _ HV1.out).mono ?_
      rintro x v2 ⟨rfl, b2⟩
      have HV2 := Lib.hid (HV1.out.below b2)
      clear b2 HV1
      go_wp2_with fail
      refine (eq_lm HZ.out _ HV2.out).mono ?_
      rintro x v3 ⟨rfl, b3⟩
      have HV3 := Lib.hid (HV2.out.below b3)
      clear b3 HV2
      have HMK := Lib.hid (fun lo hi P w' (hb : BV W x5 w' (some ⟨b, off, none⟩) B l m lo hi P (askR m ++ (askR l ++ []))) => marked HZ.out hb)
      by_cases hs : rootT l = rootT m
      · have q1 : ((rootT l).toList == (rootT m).toList) = true := by rw [hs]; simp
        by_cases hlm : l = m
        · rw [decide_eq_true hlm]
          generalize rootT l = RL at *
          generalize rootT m = RM at *
          clear hs hlm HMK
          go_wp2
          go_ret
          exact ⟨rfl, HV3.out.bw⟩
        · rw [decide_eq_false hlm]
          have HNE := Lib.hid (And.intro hs hlm)
          have HRL := Lib.hid (fun lo hi P w' (hb : BV W x5 w' (some ⟨b, off, none⟩) B l m lo hi P []) => rk_l HZ.out w' hb)
          have HRM := Lib.hid (fun lo hi P w' (hb : BV W x5 w' (some ⟨b, off, none⟩) B l m lo hi P (askR l ++ [])) => rk_m HZ.out w' hb)
          have HMK2 := Lib.hid (fun lo hi P w' hb => HMK.out lo hi P w' hb hs hlm)
          clear hlm HMK HNE hs
          generalize rootT l = RL at *
          generalize rootT m = RM at *
          go_wp2_with fail
          refine (r_booknewW v3).mono ?_
          rintro x v4 ⟨P, rfl, hbk, hb4⟩
          have HB4 := Lib.hid (BV.start HV3.out hbk hb4)
          clear hbk hb4 HV3
          generalize v3.heap.size = lo at *
          generalize hhi : v4.heap.size = hi at HB4
          clear hhi
          go_wp2_with fail
          refine (HRL.out lo hi P _ HB4.out).mono ?_
          rintro x v5 ⟨rfl, hb5⟩
          have HB5 := Lib.hid hb5
          clear hb5 HB4
          go_wp2_with fail
          refine (HRM.out lo hi P _ HB5.out).mono ?_
          rintro x v6 ⟨rfl, hb6⟩
          have HB6 := Lib.hid hb6
          clear hb6 HB5
          have c3 := HMK2.out lo hi P _ HB6.out
          go_wp2
          go_ret
          exact ⟨rfl, HB6.out.v.bw⟩
      · have hlm : l ≠ m := fun e => hs (by rw [e])
        have q1 : ((rootT l).toList == (rootT m).toList) = false := by
          rw [beq_eq_false_iff_ne]
          intro e
          rw [Lib.toList_data, Lib.toList_data] at e
          exact hs (ByteArray.ext (Array.toList_inj.1 e))
        rw [decide_eq_false hlm]
        clear hs hlm HMK
        generalize rootT l = RL at *
        generalize rootT m = RM at *
        go_wp2
        go_ret
        exact ⟨rfl, HV3.out.bw⟩
    case g14x1 =>
      go_simp
      obtain ⟨x6, hw⟩ : ∃ z, z = x1.alloc (.cells #[.string KZ, .string s] 36) := ⟨_, rfl⟩
      (try rw [← hw])
      have HMx6 : Hid (MidP wd x6) := Lib.hid (by rw [hw]; exact HMx1.out.alloc _)
      obtain ⟨cb, hzb⟩ : ∃ z, z = x1.heap.size := ⟨_, rfl⟩
      have HNE : Hid (zb ≠ cb) := Lib.hid (by rw [hzb]; have := (HRow.out.lt zb rfl).2; omega)
      have HOne : Hid (PsAt x6 (some ⟨cb, 0, none⟩) [(KZ, s)] ∧ True) := Lib.hid ⟨by rw [hw, hzb]; exact made_pair _ _ _, trivial⟩
      have HOneO : Hid (PsAt x6 (some ⟨cb, 0, none⟩) [(KZ, s)]) := Lib.hid HOne.out.1
      have HRow := Lib.hid ((show x6.ownsRow _ _ _ _ _ _ from by rw [hw]; exact HRow.out.alloc _))
      rw [← hzb]
      clear hw hzb
      refine hK.out _ _ (SH x6 HMx6.out) (fun hS1 => ?_)
      clear hK K hS0
      have hS0 := hS1
      clear hS1
      refine Kq.wpAnyT_one (i := 5) (by kernel_rfl) rfl (fun K hK => ?_)
      rw [if_pos (by kernel_rfl)]
      refine Kq.wp_append_any _ (.tmp 70) (.tmp 74) 22 22 rfl wd.heap.size 36 i0 (.agg #[.string ⟨#[]⟩, .string ⟨#[]⟩]) 2 32 Tryd.underlying22 hi0 hz0 hz1 hz2 rfl (by decide) (.slice (some ⟨zb, 0, none⟩) 0 0) 0 [] (by kernel_rfl) HRow.out (.slice (some ⟨b, off, none⟩) a1 ca) a1 (pcells (l.take a1)) (by kernel_rfl) (HS1.out x6 HMx6.out) ?e1 ?e2 HMx6.out.size ?_
      case e1 => have := HG.out.1.few.1; have := HA.out; unfold maxLen; omega
      case e2 => have := HG.out.1.few.1; have := HA.out; omega
      intro v1 x7 hown hgrow hfresh
      rw [Nat.zero_add, List.nil_append] at hown
      have HMx7 : Hid (MidP wd x7) := Lib.hid (HMx6.out.grown hgrow (fun j hj => by have := HZB.out; simp [Value.ownBlock] at hj; omega))
      have HOne : Hid (PsAt x7 (some ⟨cb, 0, none⟩) [(KZ, s)] ∧ True) := Lib.hid ⟨PsAt.grownP HOne.out.1 hgrow (by have := HNE.out; simp [Value.ownBlock]; omega), trivial⟩
      have HRow := Lib.hid hown
      clear hown hgrow hfresh
      refine hK.out _ _ (SH x7 HMx7.out) (fun hS1 => ?_)
      clear hK K hS0
      have hS0 := hS1
      clear hS1
      refine Kq.wpAnyT_one (i := 15) (by kernel_rfl) rfl (fun K hK => ?_)
      rw [if_pos (by kernel_rfl)]
      refine Kq.wp_append_any _ (.tmp 75) (.tmp 84) 22 22 rfl wd.heap.size 36 i0 (.agg #[.string ⟨#[]⟩, .string ⟨#[]⟩]) 2 32 Tryd.underlying22 hi0 hz0 hz1 hz2 rfl (by decide) v1 a1 (pcells (l.take a1)) (by kernel_rfl) HRow.out (.slice (some ⟨cb, 0, none⟩) 1 1) 1 (pcells [(KZ, s)]) (by kernel_rfl) (src_pairs 1 HOne.out.1) ?e1 ?e2 HMx7.out.size ?_
      case e1 => have := HG.out.1.few.1; have := HA.out; unfold maxLen; omega
      case e2 => have := HG.out.1.few.1; have := HA.out; omega
      intro v2 x8 hown hgrow hfresh
      rw [← pcells_append] at hown
      have HMx8 : Hid (MidP wd x8) := Lib.hid (HMx7.out.grown hgrow (fun j hj => own_geB HRow.out hj))
      have HRow := Lib.hid hown
      clear hown hgrow hfresh
      refine hK.out _ _ (SH x8 HMx8.out) (fun hS1 => ?_)
      clear hK K hS0
      have hS0 := hS1
      clear hS1
      refine Kq.wpAnyT_one (i := 20) (by kernel_rfl) rfl (fun K hK => ?_)
      rw [if_pos (by kernel_rfl)]
      refine Kq.wp_append_any _ (.tmp 85) (.tmp 89) 22 22 rfl wd.heap.size 36 i0 (.agg #[.string ⟨#[]⟩, .string ⟨#[]⟩]) 2 32 Tryd.underlying22 hi0 hz0 hz1 hz2 rfl (by decide) v2 (a1 + 1) (pcells (l.take a1 ++ [(KZ, s)])) (by kernel_rfl) HRow.out (.slice SA (l.length - a1) (ca - a1)) (l.length - a1) (pcells (l.drop a1)) (by kernel_rfl) (HS2.out x8 HMx8.out) ?e1 ?e2 HMx8.out.size ?_
      case e1 => have := HG.out.1.few.1; have := HA.out; unfold maxLen; omega
      case e2 => have := HG.out.1.few.1; have := HA.out; omega
      intro v3 x9 hown hgrow hfresh
      rw [← pcells_append] at hown
      have HMx9 : Hid (MidP wd x9) := Lib.hid (HMx8.out.grown hgrow (fun j hj => own_geB HRow.out hj))
      have HRow := Lib.hid hown
      clear hown hgrow hfresh
      refine hK.out _ _ (SH x9 HMx9.out) (fun hS1 => ?_)
      clear hK K hS0
      have hS0 := hS1
      clear hS1
      refine Kq.wpAnyT_last (by kernel_rfl) rfl (fun K hK => ?_)
      go_simp
      refine hK.out _ _ ?_
      clear hK K
      refine Kq.wpAnyT_done (by kernel_rfl) ?_ _
      clear hS0 SH
      have HV9 := HFIN.out _ _ HMx9.out HRow.out
      obtain ⟨B, cp, rfl, hZV⟩ := HV9
      have HZ := Lib.hid hZV.1
      have HV0 := Lib.hid hZV.2
      clear hZV HFIN HMx9 HRow
      generalize m.length = n at *
      go_simp
      go_wp2_with fail
      refine (root_l HZ.out _ HV0.out).mono ?_
      rintro x v1 ⟨rfl, b1⟩
      have HV1 := Lib.hid (HV0.out.below b1)
      clear b1 HV0
      go_wp2_with fail
      refine (root_m HZ.out _ HV1.out).mono ?_
      rintro x v2 ⟨rfl, b2⟩
      have HV2 := Lib.hid (HV1.out.below b2)
      clear b2 HV1
      go_wp2_with fail
      refine (eq_lm HZ.out _ HV2.out).mono ?_
      rintro x v3 ⟨rfl, b3⟩
      have HV3 := Lib.hid (HV2.out.below b3)
      clear b3 HV2
      have HMK := Lib.hid (fun lo hi P w' (hb : BV W x9 w' (some ⟨b, off, none⟩) B l m lo hi P (askR m ++ (askR l ++ []))) => marked HZ.out hb)
      by_cases hs : rootT l = rootT m
      · have q1 : ((rootT l).toList == (rootT m).toList) = true := by rw [hs]; simp
        by_cases hlm : l = m
        · rw [decide_eq_true hlm]
          generalize rootT l = RL at *
          generalize rootT m = RM at *
          clear hs hlm HMK
          go_wp2
          go_ret
          exact ⟨rfl, HV3.out.bw⟩
        · rw [decide_eq_false hlm]
          have HNE := Lib.hid (And.intro hs hlm)
          have HRL := Lib.hid (fun lo hi P w' (hb : BV W x9 w' (some ⟨b, off, none⟩) B l m lo hi P []) => rk_l HZ.out w' hb)
          have HRM := Lib.hid (fun lo hi P w' (hb : BV W x9 w' (some ⟨b, off, none⟩) B l m lo hi P (askR l ++ [])) => rk_m HZ.out w' hb)
          have HMK2 := Lib.hid (fun lo hi P w' hb => HMK.out lo hi P w' hb hs hlm)
          clear hlm HMK HNE hs
          generalize rootT l = RL at *
          generalize rootT m = RM at *
          go_wp2_with fail
          refine (r_booknewW v3).mono ?_
          rintro x v4 ⟨P, rfl, hbk, hb4⟩
          have HB4 := Lib.hid (BV.start HV3.out hbk hb4)
          clear hbk hb4 HV3
          generalize v3.heap.size = lo at *
          generalize hhi : v4.heap.size = hi at HB4
          clear hhi
          go_wp2_with fail
          refine (HRL.out lo hi P _ HB4.out).mono ?_
          rintro x v5 ⟨rfl, hb5⟩
          have HB5 := Lib.hid hb5
          clear hb5 HB4
          go_wp2_with fail
          refine (HRM.out lo hi P _ HB5.out).mono ?_
          rintro x v6 ⟨rfl, hb6⟩
          have HB6 := Lib.hid hb6
          clear hb6 HB5
          have c3 := HMK2.out lo hi P _ HB6.out
          go_wp2
          go_ret
          exact ⟨rfl, HB6.out.v.bw⟩
      · have hlm : l ≠ m := fun e => hs (by rw [e])
        have q1 : ((rootT l).toList == (rootT m).toList) = false := by
          rw [beq_eq_false_iff_ne]
          intro e
          rw [Lib.toList_data, Lib.toList_data] at e
          exact hs (ByteArray.ext (Array.toList_inj.1 e))
        rw [decide_eq_false hlm]
        clear hs hlm HMK
        generalize rootT l = RL at *
        generalize rootT m = RM at *
        go_wp2
        go_ret
        exact ⟨rfl, HV3.out.bw⟩
  case g14x0 =>
    go_simp
    obtain ⟨x10, hw⟩ : ∃ z, z = wd.alloc (.cells #[.string KZ, .string s] 36) := ⟨_, rfl⟩
    (try rw [← hw])
    have HMx10 : Hid (MidP wd x10) := Lib.hid (by rw [hw]; exact HMwd.out.alloc _)
    obtain ⟨cb, hzb⟩ : ∃ z, z = wd.heap.size := ⟨_, rfl⟩
    have HOne : Hid (PsAt x10 (some ⟨cb, 0, none⟩) [(KZ, s)] ∧ True) := Lib.hid ⟨by rw [hw, hzb]; exact made_pair _ _ _, trivial⟩
    have HOneO : Hid (PsAt x10 (some ⟨cb, 0, none⟩) [(KZ, s)]) := Lib.hid HOne.out.1
    rw [← hzb]
    clear hw hzb
    refine hK.out _ _ (SH x10 HMx10.out) (fun hS1 => ?_)
    clear hK K hS0
    have hS0 := hS1
    clear hS1
    refine Kq.wpAnyT_one (i := 0) (by kernel_rfl) rfl (fun K hK => ?_)
    go_simp
    obtain ⟨x11, hw⟩ : ∃ z, z = x10.alloc (.cells #[] 36) := ⟨_, rfl⟩
    (try rw [← hw])
    have HMx11 : Hid (MidP wd x11) := Lib.hid (by rw [hw]; exact HMx10.out.alloc _)
    obtain ⟨zb, hzb⟩ : ∃ z, z = x10.heap.size := ⟨_, rfl⟩
    have HOne : Hid (PsAt x11 (some ⟨cb, 0, none⟩) [(KZ, s)] ∧ True) := Lib.hid ⟨by rw [hw]; exact HOne.out.1.below (Kq.below_alloc _ _), trivial⟩
    have HRow : Hid (x11.ownsRow wd.heap.size 36 2 (.slice (some ⟨zb, 0, none⟩) 0 0) 0 []) := Lib.hid (by rw [hw, hzb]; exact World.ownsRow_made x10 #[] 0 HMx10.out.size (Nat.zero_le _) rfl)
    have HZB : Hid (wd.heap.size ≤ zb) := Lib.hid (by rw [hzb]; exact HMx10.out.size)
    have HNE : Hid (zb ≠ cb) := Lib.hid (by rw [hzb]; obtain ⟨g1, o1, e1, hg1, -⟩ := HOneO.out 0 (by simp); cases e1; omega)
    rw [← hzb]
    clear hw hzb
    refine hK.out _ _ (SH x11 HMx11.out) (fun hS1 => ?_)
    clear hK K hS0
    have hS0 := hS1
    clear hS1
    refine Kq.wpAnyT_one (i := 5) (by kernel_rfl) rfl (fun K hK => ?_)
    rw [if_pos (by kernel_rfl)]
    refine Kq.wp_append_any _ (.tmp 70) (.tmp 74) 22 22 rfl wd.heap.size 36 i0 (.agg #[.string ⟨#[]⟩, .string ⟨#[]⟩]) 2 32 Tryd.underlying22 hi0 hz0 hz1 hz2 rfl (by decide) (.slice (some ⟨zb, 0, none⟩) 0 0) 0 [] (by kernel_rfl) HRow.out (.slice (some ⟨b, off, none⟩) a1 ca) a1 (pcells (l.take a1)) (by kernel_rfl) (HS1.out x11 HMx11.out) ?e1 ?e2 HMx11.out.size ?_
    case e1 => have := HG.out.1.few.1; have := HA.out; unfold maxLen; omega
    case e2 => have := HG.out.1.few.1; have := HA.out; omega
    intro v1 x12 hown hgrow hfresh
    rw [Nat.zero_add, List.nil_append] at hown
    have HMx12 : Hid (MidP wd x12) := Lib.hid (HMx11.out.grown hgrow (fun j hj => by have := HZB.out; simp [Value.ownBlock] at hj; omega))
    have HOne : Hid (PsAt x12 (some ⟨cb, 0, none⟩) [(KZ, s)] ∧ True) := Lib.hid ⟨PsAt.grownP HOne.out.1 hgrow (by have := HNE.out; simp [Value.ownBlock]; omega), trivial⟩
    have HRow := Lib.hid hown
    clear hown hgrow hfresh
    refine hK.out _ _ (SH x12 HMx12.out) (fun hS1 => ?_)
    clear hK K hS0
    have hS0 := hS1
    clear hS1
    refine Kq.wpAnyT_one (i := 15) (by kernel_rfl) rfl (fun K hK => ?_)
    rw [if_pos (by kernel_rfl)]
    refine Kq.wp_append_any _ (.tmp 75) (.tmp 84) 22 22 rfl wd.heap.size 36 i0 (.agg #[.string ⟨#[]⟩, .string ⟨#[]⟩]) 2 32 Tryd.underlying22 hi0 hz0 hz1 hz2 rfl (by decide) v1 a1 (pcells (l.take a1)) (by kernel_rfl) HRow.out (.slice (some ⟨cb, 0, none⟩) 1 1) 1 (pcells [(KZ, s)]) (by kernel_rfl) (src_pairs 1 HOne.out.1) ?e1 ?e2 HMx12.out.size ?_
    case e1 => have := HG.out.1.few.1; have := HA.out; unfold maxLen; omega
    case e2 => have := HG.out.1.few.1; have := HA.out; omega
    intro v2 x13 hown hgrow hfresh
    rw [← pcells_append] at hown
    have HMx13 : Hid (MidP wd x13) := Lib.hid (HMx12.out.grown hgrow (fun j hj => own_geB HRow.out hj))
    have HRow := Lib.hid hown
    clear hown hgrow hfresh
    refine hK.out _ _ (SH x13 HMx13.out) (fun hS1 => ?_)
    clear hK K hS0
    have hS0 := hS1
    clear hS1
    refine Kq.wpAnyT_one (i := 20) (by kernel_rfl) rfl (fun K hK => ?_)
    rw [if_pos (by kernel_rfl)]
    refine Kq.wp_append_any _ (.tmp 85) (.tmp 89) 22 22 rfl wd.heap.size 36 i0 (.agg #[.string ⟨#[]⟩, .string ⟨#[]⟩]) 2 32 Tryd.underlying22 hi0 hz0 hz1 hz2 rfl (by decide) v2 (a1 + 1) (pcells (l.take a1 ++ [(KZ, s)])) (by kernel_rfl) HRow.out (.slice SA (l.length - a1) (ca - a1)) (l.length - a1) (pcells (l.drop a1)) (by kernel_rfl) (HS2.out x13 HMx13.out) ?e1 ?e2 HMx13.out.size ?_
    case e1 => have := HG.out.1.few.1; have := HA.out; unfold maxLen; omega
    case e2 => have := HG.out.1.few.1; have := HA.out; omega
    intro v3 x14 hown hgrow hfresh
    rw [← pcells_append] at hown
    have HMx14 : Hid (MidP wd x14) := Lib.hid (HMx13.out.grown hgrow (fun j hj => own_geB HRow.out hj))
    have HRow := Lib.hid hown
    clear hown hgrow hfresh
    refine hK.out _ _ (SH x14 HMx14.out) (fun hS1 => ?_)
    clear hK K hS0
    have hS0 := hS1
    clear hS1
    refine Kq.wpAnyT_last (by kernel_rfl) rfl (fun K hK => ?_)
    go_simp
    refine hK.out _ _ ?_
    clear hK K
    refine Kq.wpAnyT_done (by kernel_rfl) ?_ _
    clear hS0 SH
    have HV9 := HFIN.out _ _ HMx14.out HRow.out
    obtain ⟨B, cp, rfl, hZV⟩ := HV9
    have HZ := Lib.hid hZV.1
    have HV0 := Lib.hid hZV.2
    clear hZV HFIN HMx14 HRow
    generalize m.length = n at *
    go_simp
    go_wp2_with fail
    refine (root_l HZ.out _ HV0.out).mono ?_
    rintro x v1 ⟨rfl, b1⟩
    have HV1 := Lib.hid (HV0.out.below b1)
    clear b1 HV0
    go_wp2_with fail
    refine (root_m HZ.out _ HV1.out).mono ?_
    rintro x v2 ⟨rfl, b2⟩
    have HV2 := Lib.hid (HV1.out.below b2)
    clear b2 HV1
    go_wp2_with fail
    refine (eq_lm HZ.out _ HV2.out).mono ?_
    rintro x v3 ⟨rfl, b3⟩
    have HV3 := Lib.hid (HV2.out.below b3)
    clear b3 HV2
    have HMK := Lib.hid (fun lo hi P w' (hb : BV W x14 w' (some ⟨b, off, none⟩) B l m lo hi P (askR m ++ (askR l ++ []))) => marked HZ.out hb)
    by_cases hs : rootT l = rootT m
    · have q1 : ((rootT l).toList == (rootT m).toList) = true := by rw [hs]; simp
      by_cases hlm : l = m
      · rw [decide_eq_true hlm]
        generalize rootT l = RL at *
        generalize rootT m = RM at *
        clear hs hlm HMK
        go_wp2
        go_ret
        exact ⟨rfl, HV3.out.bw⟩
      · rw [decide_eq_false hlm]
        have HNE := Lib.hid (And.intro hs hlm)
        have HRL := Lib.hid (fun lo hi P w' (hb : BV W x14 w' (some ⟨b, off, none⟩) B l m lo hi P []) => rk_l HZ.out w' hb)
        have HRM := Lib.hid (fun lo hi P w' (hb : BV W x14 w' (some ⟨b, off, none⟩) B l m lo hi P (askR l ++ [])) => rk_m HZ.out w' hb)
        have HMK2 := Lib.hid (fun lo hi P w' hb => HMK.out lo hi P w' hb hs hlm)
        clear hlm HMK HNE hs
        generalize rootT l = RL at *
        generalize rootT m = RM at *
        go_wp2_with fail
        refine (r_booknewW v3).mono ?_
        rintro x v4 ⟨P, rfl, hbk, hb4⟩
        have HB4 := Lib.hid (BV.start HV3.out hbk hb4)
        clear hbk hb4 HV3
        generalize v3.heap.size = lo at *
        generalize hhi : v4.heap.size = hi at HB4
        clear hhi
        go_wp2_with fail
        refine (HRL.out lo hi P _ HB4.out).mono ?_
        rintro x v5 ⟨rfl, hb5⟩
        have HB5 := Lib.hid hb5
        clear hb5 HB4
        go_wp2_with fail
        refine (HRM.out lo hi P _ HB5.out).mono ?_
        rintro x v6 ⟨rfl, hb6⟩
        have HB6 := Lib.hid hb6
        clear hb6 HB5
        have c3 := HMK2.out lo hi P _ HB6.out
        go_wp2
        go_ret
        exact ⟨rfl, HB6.out.v.bw⟩
    · have hlm : l ≠ m := fun e => hs (by rw [e])
      have q1 : ((rootT l).toList == (rootT m).toList) = false := by
        rw [beq_eq_false_iff_ne]
        intro e
        rw [Lib.toList_data, Lib.toList_data] at e
        exact hs (ByteArray.ext (Array.toList_inj.1 e))
      rw [decide_eq_false hlm]
      clear hs hlm HMK
      generalize rootT l = RL at *
      generalize rootT m = RM at *
      go_wp2
      go_ret
      exact ⟨rfl, HV3.out.bw⟩
end merkleChanges
end Go.Proofs.YtnbapiddbcaolaaDoor
namespace Go.Proofs.YtnbapiddbcaolaaDoor
open Go.RowKit
set_option linter.unusedVariables false
namespace merkleChanges
set_option maxRecDepth 100000 in
set_option maxHeartbeats 8000000 in
theorem main2E (A : Option Addr) (ca : Nat) (l : List PairV) (a : Nat) (s : ByteArray) (h : Int) (W : World) (hO : LO W W A l) (hg : Gd l a s) (hca : l.length ≤ ca) (hh : h.tmod 3 ≠ 0 ∧ h.tmod 3 ≠ 1) (hla : a < l.length) (h16 : ¬ 16 ≤ (l[a]'hla).1.size) (h1 : ¬ a + 1 < l.length) :
    Calls Tryd.prog 8 #[.slice A l.length ca, .int .i64 a, .string s, .int .u8 h] W fun x w' => x = .returned (.bool true) ∧ Below W.heap.size W w' := by
  have HX16 := Lib.hid h16
  have HX1 := Lib.hid h1
  clear h16
  have HXL := Lib.hid hla
  obtain ⟨b, off, rfl, -⟩ := hO.a a (by have := hg.hi; omega)
  have H := Lib.hid hO
  have HG := Lib.hid (And.intro hg hca)
  have df := decide_eq_true hg.few
  have HD := Lib.hid df
  have d0 : decide ((a : Int) < 0) = false := decide_eq_false (by omega)
  have d1 : decide ((l.length : Int) ≤ (a : Int)) = false := decide_eq_false (by have := hg.hi; omega)
  have d1' : decide (l.length ≤ a) = false := decide_eq_false (by have := hg.hi; omega)
  have d2 : decide ((64 : Int) < (s.size : Int)) = false := decide_eq_false (by have := hg.val; omega)
  have d2' : decide (64 < s.size) = false := decide_eq_false (by have := hg.val; omega)
  clear hO hg hca df
  go_enter Tryd.func8, Tryd.ntmps8
  go_wp2_with fail
  refine (awake08 W H.out.ok).mono ?_
  rintro x w1 ⟨rfl, b1⟩
  have H1 := Lib.hid (H.out.below b1)
  clear b1 H
  go_wp2_with fail
  refine (few08 l _ ca w1 H1.out.pa).mono ?_
  rintro x w2 ⟨rfl, rfl⟩
  rw [HD.out]
  go_wp2_with fail
  refine (rk_check l _ ca w1 H1.out.pa HG.out.1.few.1).mono ?_
  rintro x w3 ⟨rfl, b3⟩
  have H3 := Lib.hid (H1.out.below b3)
  obtain ⟨i0, hi0, hz0, hz1, hz2⟩ := info_partsB infoPair
  have H4 := Lib.hid (H3.out.below (Kq.below_alloc w3 (.cells #[] 36)))
  have HOW : Hid ((w3.alloc (.cells #[] 36)).ownsRow w3.heap.size 36 2 (.slice (some ⟨w3.heap.size, 0, none⟩) 0 0) 0 []) := Lib.hid ⟨rfl, Or.inr ⟨w3.heap.size, 0, #[], rfl, Nat.le_refl _, Kq.blk_new _ _ _ _, Nat.le_refl _, by decide, rfl, rfl⟩⟩
  clear b3 H1
  rw [HG.out.1.chk]
  go_wp2_with (at_builtin; refine Kq.wpList_append_any _ rfl (.tmp 36) (.tmp 37) 22 22 rfl w3.heap.size 36 i0 (.agg #[.string ⟨#[]⟩, .string ⟨#[]⟩]) 2 32 Tryd.underlying22 hi0 hz0 hz1 hz2 rfl (by decide) (.slice (some ⟨w3.heap.size, 0, none⟩) 0 0) 0 [] rfl HOW.out (.slice (some ⟨b, off, none⟩) l.length ca) l.length (pcells l) rfl ?hs ?h1 ?h2 ?h3 ?_)
  case hs => exact src_pairs ca H4.out.pa
  case h1 => have := HG.out.1.few.1; unfold maxLen; omega
  case h2 => have := HG.out.1.few.1; omega
  case h3 => simp
  intro v' w5 hown hgrow hfresh
  have HV : Hid (Below w3.heap.size w3 w5) := Lib.hid (by
    have k1 := Kq.below_alloc w3 (.cells #[] 36)
    have k2 : Kq.Keeps (fun g => w3.heap.size ≤ g) (w3.alloc (.cells #[] 36)) w5 := Kq.Keeps.grown hgrow (fun k _ hk => by simp [Value.ownBlock] at hk; omega)
    exact k1.trans (k2.below k1.size (fun k _ hk => hk)))
  have hal : (a : Int) < (l.length : Int) := HG.out.1.hi
  obtain ⟨a', n', c', rfl⟩ := Kq.own_shape hown
  have e3 : (h.tmod 3 == 0) = false := by rw [beq_eq_false_iff_ne]; exact hh.1
  have e4 : (h.tmod 3 == 1) = false := by rw [beq_eq_false_iff_ne]; exact hh.2
  have H5 := Lib.hid (H3.out.below HV.out)
  have hla : a < l.length := by omega
  obtain ⟨p, hp⟩ : ∃ p, p = l[a] := ⟨_, rfl⟩
  obtain ⟨k, v0⟩ := p
  have hkk : l[a].1 = k := by rw [← hp]
  obtain ⟨b', o', eb, -, c0, -⟩ := H5.out.pa a hla
  have hq : b = b' ∧ off = o' := by simpa using eb
  obtain ⟨rfl, rfl⟩ := hq
  rw [hkk] at c0
  clear hown hgrow hfresh H4 HOW H3 HV hp eb
  obtain ⟨a1, ha1⟩ : ∃ a1, a1 = a + 1 := ⟨_, rfl⟩
  have hw1 : IntKind.i64.wrap ((a : Int) + 1) = (a1 : Int) := by rw [IntWalk.i64_in _ (by have := HG.out.1.few.1; omega)]; omega
  have HK1 := Lib.hid ha1
  have HH := Lib.hid hh
  clear ha1 hh
  have HKK := Lib.hid hkk
  have d3 : decide ((16 : Int) ≤ (k.size : Int)) = false := decide_eq_false (by have := HX16.out; rw [hkk] at this; omega)
  have d3' : decide (16 ≤ k.size) = false := decide_eq_false (by have := HX16.out; rw [hkk] at this; omega)
  have hsz : ¬ 9223372036854775807 < k.size + 1 := by have := HX16.out; rw [hkk] at this; omega
  have HK16 : Hid (¬ 16 ≤ k.size) := Lib.hid (by have := HX16.out; rw [hkk] at this; exact this)
  have h1 : l.length ≤ a1 := by have := HX1.out; have := HK1.out; omega
  have d4 : decide ((a1 : Int) < (l.length : Int)) = false := decide_eq_false (by omega)
  have d4' : decide (a1 < l.length) = false := decide_eq_false (by omega)
  have HA : Hid (a1 ≤ l.length) := Lib.hid (by have := HK1.out; omega)
  clear hkk h1
  go_wp2
  go_quiet (fail)
  generalize hwq : w5.drewN nq = wq
  have HQ : Hid (LO W wq (some ⟨b, off, none⟩) l) := Lib.hid (by rw [← hwq]; exact H5.out.below (below_drewN (Below.refl _ _) nq))
  clear hwq c0 d4 d4' HX1
  go_wp2_with fail
  obtain ⟨wd, hwd⟩ : ∃ z, z = wq.drew := ⟨_, rfl⟩
  have HD : Hid (LO W wd (some ⟨b, off, none⟩) l) := Lib.hid (by rw [hwd]; exact HQ.out.below (Below.refl _ _).drew)
  have hla : a < l.length := HXL.out
  obtain ⟨b', o', eb, -, c0, -⟩ := HD.out.pa a hla
  have hq : b = b' ∧ off = o' := by simpa using eb
  obtain ⟨rfl, rfl⟩ := hq
  rw [HKK.out] at c0
  have SH : ∀ cur : World, MidP wd cur → cur.cell? ⟨b, off + a * 2, none⟩ = some (.string k) := fun cur hm => by
    obtain ⟨b', o', eb, -, c0, -⟩ := (HD.out.below hm.below).pa a hla
    have hq : b = b' ∧ off = o' := by simpa using eb
    obtain ⟨rfl, rfl⟩ := hq
    rw [HKK.out] at c0
    exact c0
  have HMwd : Hid (MidP wd wd) := Lib.hid (MidP.refl wd)
  obtain ⟨KZ, hKZ⟩ : ∃ z, z = k ++ (⟨#[0]⟩ : ByteArray) := ⟨_, rfl⟩
  have HKZ : Hid (KZ.size ≤ 16) := Lib.hid (by rw [hKZ, ByteArray.size_append]; have := HK16.out; show k.size + 1 ≤ 16; omega)
  have HA1 := HA.out
  have sl1 := fun wx => subP_run (some ⟨b, off, none⟩) l.length ca a1 HA.out wx
  have sl2 := fun wx => preP_run b off l.length ca a1 (by have := HG.out.2; have := HA.out; omega) wx
  have s1 : (a1 : Int) ≤ (l.length : Int) := by omega
  have s2 : (a1 : Int) ≤ (ca : Int) := by have := HG.out.2; omega
  have HS1 : Hid (∀ cur : World, MidP wd cur → Src Tryd.prog 2 22 (.slice (some ⟨b, off, none⟩) a1 ca) a1 (pcells (l.take a1)) cur) := Lib.hid (fun cur hm => by
    have h := src_pairs ca (((HD.out.below hm.below).pa).take a1)
    rw [show (l.take a1).length = a1 by rw [List.length_take]; have := HA.out; omega] at h
    exact h)
  obtain ⟨SA, hSA⟩ : ∃ z, z = subP (some ⟨b, off, none⟩) ca a1 := ⟨_, rfl⟩
  have HS2 : Hid (∀ cur : World, MidP wd cur → Src Tryd.prog 2 22 (.slice SA (l.length - a1) (ca - a1)) (l.length - a1) (pcells (l.drop a1)) cur) := Lib.hid (fun cur hm => by rw [hSA]; exact src_sub ((HD.out.below hm.below).pa) HG.out.2 a1 HA.out)
  rw [← hSA] at sl1
  obtain ⟨m, hm⟩ : ∃ m, m = l.take a1 ++ [(KZ, s)] ++ l.drop a1 := ⟨_, rfl⟩
  have HFIN : Hid (∀ v w', MidP wd w' → w'.ownsRow wd.heap.size 36 2 v (a1 + 1 + (l.length - a1)) (pcells (l.take a1 ++ [(KZ, s)] ++ l.drop a1)) → ∃ B cp, v = .slice B m.length cp ∧ (Sz l m m.length ca cp ∧ LV W w' w' (some ⟨b, off, none⟩) B l m)) :=
    Lib.hid (fun v w' hmd hown => third HD.out HG.out.1.few HG.out.1.chk HG.out.1.val HKZ.out HA.out HG.out.2 v w' hmd hown m hm)
  clear hm hSA eb H5
  refine Kq.wp_region_T 21 (fun cur => cur.cell? ⟨b, off + a * 2, none⟩ = some (.string k)) (by kernel_rfl) (by rw [← hwd]; exact c0) (fun hS0 => ?_)
  rw [← hwd] at hS0 ⊢
  clear hwd c0
  refine Kq.wpAnyT_take (i := 1) (v := ?_) rfl rfl (by kernel_rfl) (by kernel_rfl) (by kernel_rfl) (by kernel_rfl) (fun _ _ _ h => h) (Or.inl ⟨by kernel_rfl, ?_⟩) (by assumption) ?_
  rotate_left
  · intro w hSw; (try dsimp only at hSw); go_simp; (try with_reducible rfl)
  refine Kq.wpAnyT_take (i := 2) (v := ?_) rfl rfl (by kernel_rfl) (by kernel_rfl) (by kernel_rfl) (by kernel_rfl) (fun _ _ _ h => h) (Or.inl ⟨by kernel_rfl, ?_⟩) (by assumption) ?_
  rotate_left
  · intro w hSw; (try dsimp only at hSw); go_simp; (try with_reducible rfl)
  refine Kq.wpAnyT_take (i := 3) (v := ?_) rfl rfl (by kernel_rfl) (by kernel_rfl) (by kernel_rfl) (by kernel_rfl) (fun _ _ _ h => h) (Or.inl ⟨by kernel_rfl, ?_⟩) (by assumption) ?_
  rotate_left
  · intro w hSw; (try dsimp only at hSw); go_simp; (try with_reducible rfl)
  refine Kq.wpAnyT_take (i := 4) (v := ?_) rfl rfl (by kernel_rfl) (by kernel_rfl) (by kernel_rfl) (by kernel_rfl) (fun _ _ _ h => h) (Or.inl ⟨by kernel_rfl, ?_⟩) (by assumption) ?_
  rotate_left
  · intro w hSw; (try dsimp only at hSw); go_simp; (try with_reducible rfl)
  refine Kq.wpAnyT_take (i := 6) (v := ?_) rfl rfl (by kernel_rfl) (by kernel_rfl) (by kernel_rfl) (by kernel_rfl) (fun _ _ _ h => h) (Or.inl ⟨by kernel_rfl, ?_⟩) (by assumption) ?_
  rotate_left
  · intro w hSw; (try dsimp only at hSw); go_simp; (try with_reducible rfl)
  refine Kq.wpAnyT_take (i := 7) (v := ?_) rfl rfl (by kernel_rfl) (by kernel_rfl) (by kernel_rfl) (by kernel_rfl) (fun _ _ _ h => h) (Or.inl ⟨by kernel_rfl, ?_⟩) (by assumption) ?_
  rotate_left
  · intro w hSw; (try dsimp only at hSw); go_simp; (try with_reducible rfl)
  refine Kq.wpAnyT_take (i := 8) (v := ?_) rfl rfl (by kernel_rfl) (by kernel_rfl) (by kernel_rfl) (by kernel_rfl) (fun _ _ _ h => h) (Or.inl ⟨by kernel_rfl, ?_⟩) (by assumption) ?_
  rotate_left
  · intro w hSw; (try dsimp only at hSw); go_simp; (try with_reducible rfl)
  refine Kq.wpAnyT_take (i := 9) (v := ?_) rfl rfl (by kernel_rfl) (by kernel_rfl) (by kernel_rfl) (by kernel_rfl) (fun _ _ _ h => h) (Or.inl ⟨by kernel_rfl, ?_⟩) (by assumption) ?_
  rotate_left
  · intro w hSw; (try dsimp only at hSw); go_simp; (try with_reducible rfl)
  refine Kq.wpAnyT_take (i := 10) (v := ?_) rfl rfl (by kernel_rfl) (by kernel_rfl) (by kernel_rfl) (by kernel_rfl) (fun _ _ _ h => h) (Or.inl ⟨by kernel_rfl, ?_⟩) (by assumption) ?_
  rotate_left
  · intro w hSw; (try dsimp only at hSw); go_simp; (try with_reducible rfl)
  refine Kq.wpAnyT_take (i := 11) (v := ?_) rfl rfl (by kernel_rfl) (by kernel_rfl) (by kernel_rfl) (by kernel_rfl) (fun _ _ _ h => h) (Or.inl ⟨by kernel_rfl, ?_⟩) (by assumption) ?_
  rotate_left
  · intro w hSw; (try dsimp only at hSw); go_simp; (try with_reducible rfl)
  rw [← hKZ]
  clear hKZ
  refine Kq.wpAnyT_take (i := 12) (v := ?_) rfl rfl (by kernel_rfl) (by kernel_rfl) (by kernel_rfl) (by kernel_rfl) (fun _ _ _ h => h) (Or.inl ⟨by kernel_rfl, ?_⟩) (by assumption) ?_
  rotate_left
  · intro w hSw; (try dsimp only at hSw); go_simp; (try with_reducible rfl)
  refine Kq.wpAnyT_take (i := 13) (v := ?_) rfl rfl (by kernel_rfl) (by kernel_rfl) (by kernel_rfl) (by kernel_rfl) (fun _ _ _ h => h) (Or.inl ⟨by kernel_rfl, ?_⟩) (by assumption) ?_
  rotate_left
  · intro w hSw; (try dsimp only at hSw); go_simp; (try with_reducible rfl)
  refine Kq.wpAnyT_take (i := 16) (v := ?_) rfl rfl (by kernel_rfl) (by kernel_rfl) (by kernel_rfl) (by kernel_rfl) (fun _ _ _ h => h) (Or.inl ⟨by kernel_rfl, ?_⟩) (by assumption) ?_
  rotate_left
  · intro w hSw; (try dsimp only at hSw); go_simp; (try with_reducible rfl)
  refine Kq.wpAnyT_take (i := 17) (v := ?_) rfl rfl (by kernel_rfl) (by kernel_rfl) (by kernel_rfl) (by kernel_rfl) (fun _ _ _ h => h) (Or.inl ⟨by kernel_rfl, ?_⟩) (by assumption) ?_
  rotate_left
  · intro w hSw; (try dsimp only at hSw); go_simp; (try with_reducible rfl)
  refine Kq.wpAnyT_take (i := 18) (v := ?_) rfl rfl (by kernel_rfl) (by kernel_rfl) (by kernel_rfl) (by kernel_rfl) (fun _ _ _ h => h) (Or.inl ⟨by kernel_rfl, ?_⟩) (by assumption) ?_
  rotate_left
  · intro w hSw; (try dsimp only at hSw); go_simp; (try with_reducible rfl)
  refine Kq.wpAnyT_take (i := 19) (v := ?_) rfl rfl (by kernel_rfl) (by kernel_rfl) (by kernel_rfl) (by kernel_rfl) (fun _ _ _ h => h) (Or.inl ⟨by kernel_rfl, ?_⟩) (by assumption) ?_
  rotate_left
  · intro w hSw; (try dsimp only at hSw); go_simp; (try with_reducible rfl)
  refine Kq.wpAnyT_two (i := 0) (j := 14) (by kernel_rfl) rfl rfl (fun K hK => ?g0x0) (fun K hK => ?g14x0)
  case g0x0 =>
    go_simp
    obtain ⟨x1, hw⟩ : ∃ z, z = wd.alloc (.cells #[] 36) := ⟨_, rfl⟩
    (try rw [← hw])
    have HMx1 : Hid (MidP wd x1) := Lib.hid (by rw [hw]; exact HMwd.out.alloc _)
    obtain ⟨zb, hzb⟩ : ∃ z, z = wd.heap.size := ⟨_, rfl⟩
    have HRow : Hid (x1.ownsRow wd.heap.size 36 2 (.slice (some ⟨zb, 0, none⟩) 0 0) 0 []) := Lib.hid (by rw [hw, hzb]; exact World.ownsRow_made wd #[] 0 HMwd.out.size (Nat.zero_le _) rfl)
    have HZB : Hid (wd.heap.size ≤ zb) := Lib.hid (by rw [hzb]; exact HMwd.out.size)
    rw [← hzb]
    clear hw hzb
    refine hK.out _ _ (SH x1 HMx1.out) (fun hS1 => ?_)
    clear hK K hS0
    have hS0 := hS1
    clear hS1
    refine Kq.wpAnyT_two (i := 5) (j := 14) (by kernel_rfl) rfl rfl (fun K hK => ?g5x1) (fun K hK => ?g14x1)
    case g5x1 =>
      rw [if_pos (by kernel_rfl)]
      refine Kq.wp_append_any _ (.tmp 70) (.tmp 74) 22 22 rfl wd.heap.size 36 i0 (.agg #[.string ⟨#[]⟩, .string ⟨#[]⟩]) 2 32 Tryd.underlying22 hi0 hz0 hz1 hz2 rfl (by decide) (.slice (some ⟨zb, 0, none⟩) 0 0) 0 [] (by kernel_rfl) HRow.out (.slice (some ⟨b, off, none⟩) a1 ca) a1 (pcells (l.take a1)) (by kernel_rfl) (HS1.out x1 HMx1.out) ?e1 ?e2 HMx1.out.size ?_
      case e1 => have := HG.out.1.few.1; have := HA.out; unfold maxLen; omega
      case e2 => have := HG.out.1.few.1; have := HA.out; omega
      intro v1 x2 hown hgrow hfresh
      rw [Nat.zero_add, List.nil_append] at hown
      have HMx2 : Hid (MidP wd x2) := Lib.hid (HMx1.out.grown hgrow (fun j hj => by have := HZB.out; simp [Value.ownBlock] at hj; omega))
      have HRow := Lib.hid hown
      clear hown hgrow hfresh
      refine hK.out _ _ (SH x2 HMx2.out) (fun hS1 => ?_)
      clear hK K hS0
      have hS0 := hS1
      clear hS1
      refine Kq.wpAnyT_one (i := 14) (by kernel_rfl) rfl (fun K hK => ?_)
      go_simp
      obtain ⟨x3, hw⟩ : ∃ z, z = x2.alloc (.cells #[.string KZ, .string s] 36) := ⟨_, rfl⟩
      (try rw [← hw])
      have HMx3 : Hid (MidP wd x3) := Lib.hid (by rw [hw]; exact HMx2.out.alloc _)
      obtain ⟨cb, hzb⟩ : ∃ z, z = x2.heap.size := ⟨_, rfl⟩
      have HOne : Hid (PsAt x3 (some ⟨cb, 0, none⟩) [(KZ, s)] ∧ True) := Lib.hid ⟨by rw [hw, hzb]; exact made_pair _ _ _, trivial⟩
      have HOneO : Hid (PsAt x3 (some ⟨cb, 0, none⟩) [(KZ, s)]) := Lib.hid HOne.out.1
      have HRow := Lib.hid ((show x3.ownsRow _ _ _ _ _ _ from by rw [hw]; exact HRow.out.alloc _))
      rw [← hzb]
      clear hw hzb
      refine hK.out _ _ (SH x3 HMx3.out) (fun hS1 => ?_)
      clear hK K hS0
      have hS0 := hS1
      clear hS1
      refine Kq.wpAnyT_one (i := 15) (by kernel_rfl) rfl (fun K hK => ?_)
      rw [if_pos (by kernel_rfl)]
      refine Kq.wp_append_any _ (.tmp 75) (.tmp 84) 22 22 rfl wd.heap.size 36 i0 (.agg #[.string ⟨#[]⟩, .string ⟨#[]⟩]) 2 32 Tryd.underlying22 hi0 hz0 hz1 hz2 rfl (by decide) v1 a1 (pcells (l.take a1)) (by kernel_rfl) HRow.out (.slice (some ⟨cb, 0, none⟩) 1 1) 1 (pcells [(KZ, s)]) (by kernel_rfl) (src_pairs 1 HOne.out.1) ?e1 ?e2 HMx3.out.size ?_
      case e1 => have := HG.out.1.few.1; have := HA.out; unfold maxLen; omega
      case e2 => have := HG.out.1.few.1; have := HA.out; omega
      intro v2 x4 hown hgrow hfresh
      rw [← pcells_append] at hown
      have HMx4 : Hid (MidP wd x4) := Lib.hid (HMx3.out.grown hgrow (fun j hj => own_geB HRow.out hj))
      have HRow := Lib.hid hown
      clear hown hgrow hfresh
      refine hK.out _ _ (SH x4 HMx4.out) (fun hS1 => ?_)
      clear hK K hS0
      have hS0 := hS1
      clear hS1
      refine Kq.wpAnyT_one (i := 20) (by kernel_rfl) rfl (fun K hK => ?_)
      rw [if_pos (by kernel_rfl)]
      refine Kq.wp_append_any _ (.tmp 85) (.tmp 89) 22 22 rfl wd.heap.size 36 i0 (.agg #[.string ⟨#[]⟩, .string ⟨#[]⟩]) 2 32 Tryd.underlying22 hi0 hz0 hz1 hz2 rfl (by decide) v2 (a1 + 1) (pcells (l.take a1 ++ [(KZ, s)])) (by kernel_rfl) HRow.out (.slice SA (l.length - a1) (ca - a1)) (l.length - a1) (pcells (l.drop a1)) (by kernel_rfl) (HS2.out x4 HMx4.out) ?e1 ?e2 HMx4.out.size ?_
      case e1 => have := HG.out.1.few.1; have := HA.out; unfold maxLen; omega
      case e2 => have := HG.out.1.few.1; have := HA.out; omega
      intro v3 x5 hown hgrow hfresh
      rw [← pcells_append] at hown
      have HMx5 : Hid (MidP wd x5) := Lib.hid (HMx4.out.grown hgrow (fun j hj => own_geB HRow.out hj))
      have HRow := Lib.hid hown
      clear hown hgrow hfresh
      refine hK.out _ _ (SH x5 HMx5.out) (fun hS1 => ?_)
      clear hK K hS0
      have hS0 := hS1
      clear hS1
      refine Kq.wpAnyT_last (by kernel_rfl) rfl (fun K hK => ?_)
      go_simp
      refine hK.out _ _ ?_
      clear hK K
      refine Kq.wpAnyT_done (by kernel_rfl) ?_ _
      clear hS0 SH
      have HV9 := HFIN.out _ _ HMx5.out HRow.out
      obtain ⟨B, cp, rfl, hZV⟩ := HV9
      have HZ := Lib.hid hZV.1
      have HV0 := Lib.hid hZV.2
      clear hZV HFIN HMx5 HRow
      generalize m.length = n at *
      go_simp
      go_wp2_with fail
      refine (root_l HZ.out _ HV0.out).mono ?_
      rintro x v1 ⟨rfl, b1⟩
      have HV1 := Lib.hid (HV0.out.below b1)
      clear b1 HV0
      go_wp2_with fail
      refine (root_m HZ.out _ HV1.out).mono ?_
      rintro x v2 ⟨rfl, b2⟩
      have HV2 := Lib.hid (HV1.out.below b2)
      clear b2 HV1
      go_wp2_with fail
      refine (eq_lm HZ.out _ HV2.out).mono ?_
      rintro x v3 ⟨rfl, b3⟩
      have HV3 := Lib.hid (HV2.out.below b3)
      clear b3 HV2
      have HMK := Lib.hid (fun lo hi P w' (hb : BV W x5 w' (some ⟨b, off, none⟩) B l m lo hi P (askR m ++ (askR l ++ []))) => marked HZ.out hb)
      by_cases hs : rootT l = rootT m
      · have q1 : ((rootT l).toList == (rootT m).toList) = true := by rw [hs]; simp
        by_cases hlm : l = m
        · rw [decide_eq_true hlm]
          generalize rootT l = RL at *
          generalize rootT m = RM at *
          clear hs hlm HMK
          go_wp2
          go_ret
          exact ⟨rfl, HV3.out.bw⟩
        · rw [decide_eq_false hlm]
          have HNE := Lib.hid (And.intro hs hlm)
          have HRL := Lib.hid (fun lo hi P w' (hb : BV W x5 w' (some ⟨b, off, none⟩) B l m lo hi P []) => rk_l HZ.out w' hb)
          have HRM := Lib.hid (fun lo hi P w' (hb : BV W x5 w' (some ⟨b, off, none⟩) B l m lo hi P (askR l ++ [])) => rk_m HZ.out w' hb)
          have HMK2 := Lib.hid (fun lo hi P w' hb => HMK.out lo hi P w' hb hs hlm)
          clear hlm HMK HNE hs
          generalize rootT l = RL at *
          generalize rootT m = RM at *
          go_wp2_with fail
          refine (r_booknewW v3).mono ?_
          rintro x v4 ⟨P, rfl, hbk, hb4⟩
          have HB4 := Lib.hid (BV.start HV3.out hbk hb4)
          clear hbk hb4 HV3
          generalize v3.heap.size = lo at *
          generalize hhi : v4.heap.size = hi at HB4
          clear hhi
          go_wp2_with fail
          refine (HRL.out lo hi P _ HB4.out).mono ?_
          rintro x v5 ⟨rfl, hb5⟩
          have HB5 := Lib.hid hb5
          clear hb5 HB4
          go_wp2_with fail
          refine (HRM.out lo hi P _ HB5.out).mono ?_
          rintro x v6 ⟨rfl, hb6⟩
          have HB6 := Lib.hid hb6
          clear hb6 HB5
          have c3 := HMK2.out lo hi P _ HB6.out
          go_wp2
          go_ret
          exact ⟨rfl, HB6.out.v.bw⟩
      · have hlm : l ≠ m := fun e => hs (by rw [e])
        have q1 : ((rootT l).toList == (rootT m).toList) = false := by
          rw [beq_eq_false_iff_ne]
          intro e
          rw [Lib.toList_data, Lib.toList_data] at e
          exact hs (ByteArray.ext (Array.toList_inj.1 e))
        rw [decide_eq_false hlm]
        clear hs hlm HMK
        generalize rootT l = RL at *
        generalize rootT m = RM at *
        go_wp2
        go_ret
        exact ⟨rfl, HV3.out.bw⟩
    case g14x1 =>
      go_simp
      obtain ⟨x6, hw⟩ : ∃ z, z = x1.alloc (.cells #[.string KZ, .string s] 36) := ⟨_, rfl⟩
      (try rw [← hw])
      have HMx6 : Hid (MidP wd x6) := Lib.hid (by rw [hw]; exact HMx1.out.alloc _)
      obtain ⟨cb, hzb⟩ : ∃ z, z = x1.heap.size := ⟨_, rfl⟩
      have HNE : Hid (zb ≠ cb) := Lib.hid (by rw [hzb]; have := (HRow.out.lt zb rfl).2; omega)
      have HOne : Hid (PsAt x6 (some ⟨cb, 0, none⟩) [(KZ, s)] ∧ True) := Lib.hid ⟨by rw [hw, hzb]; exact made_pair _ _ _, trivial⟩
      have HOneO : Hid (PsAt x6 (some ⟨cb, 0, none⟩) [(KZ, s)]) := Lib.hid HOne.out.1
      have HRow := Lib.hid ((show x6.ownsRow _ _ _ _ _ _ from by rw [hw]; exact HRow.out.alloc _))
      rw [← hzb]
      clear hw hzb
      refine hK.out _ _ (SH x6 HMx6.out) (fun hS1 => ?_)
      clear hK K hS0
      have hS0 := hS1
      clear hS1
      refine Kq.wpAnyT_one (i := 5) (by kernel_rfl) rfl (fun K hK => ?_)
      rw [if_pos (by kernel_rfl)]
      refine Kq.wp_append_any _ (.tmp 70) (.tmp 74) 22 22 rfl wd.heap.size 36 i0 (.agg #[.string ⟨#[]⟩, .string ⟨#[]⟩]) 2 32 Tryd.underlying22 hi0 hz0 hz1 hz2 rfl (by decide) (.slice (some ⟨zb, 0, none⟩) 0 0) 0 [] (by kernel_rfl) HRow.out (.slice (some ⟨b, off, none⟩) a1 ca) a1 (pcells (l.take a1)) (by kernel_rfl) (HS1.out x6 HMx6.out) ?e1 ?e2 HMx6.out.size ?_
      case e1 => have := HG.out.1.few.1; have := HA.out; unfold maxLen; omega
      case e2 => have := HG.out.1.few.1; have := HA.out; omega
      intro v1 x7 hown hgrow hfresh
      rw [Nat.zero_add, List.nil_append] at hown
      have HMx7 : Hid (MidP wd x7) := Lib.hid (HMx6.out.grown hgrow (fun j hj => by have := HZB.out; simp [Value.ownBlock] at hj; omega))
      have HOne : Hid (PsAt x7 (some ⟨cb, 0, none⟩) [(KZ, s)] ∧ True) := Lib.hid ⟨PsAt.grownP HOne.out.1 hgrow (by have := HNE.out; simp [Value.ownBlock]; omega), trivial⟩
      have HRow := Lib.hid hown
      clear hown hgrow hfresh
      refine hK.out _ _ (SH x7 HMx7.out) (fun hS1 => ?_)
      clear hK K hS0
      have hS0 := hS1
      clear hS1
      refine Kq.wpAnyT_one (i := 15) (by kernel_rfl) rfl (fun K hK => ?_)
      rw [if_pos (by kernel_rfl)]
      refine Kq.wp_append_any _ (.tmp 75) (.tmp 84) 22 22 rfl wd.heap.size 36 i0 (.agg #[.string ⟨#[]⟩, .string ⟨#[]⟩]) 2 32 Tryd.underlying22 hi0 hz0 hz1 hz2 rfl (by decide) v1 a1 (pcells (l.take a1)) (by kernel_rfl) HRow.out (.slice (some ⟨cb, 0, none⟩) 1 1) 1 (pcells [(KZ, s)]) (by kernel_rfl) (src_pairs 1 HOne.out.1) ?e1 ?e2 HMx7.out.size ?_
      case e1 => have := HG.out.1.few.1; have := HA.out; unfold maxLen; omega
      case e2 => have := HG.out.1.few.1; have := HA.out; omega
      intro v2 x8 hown hgrow hfresh
      rw [← pcells_append] at hown
      have HMx8 : Hid (MidP wd x8) := Lib.hid (HMx7.out.grown hgrow (fun j hj => own_geB HRow.out hj))
      have HRow := Lib.hid hown
      clear hown hgrow hfresh
      refine hK.out _ _ (SH x8 HMx8.out) (fun hS1 => ?_)
      clear hK K hS0
      have hS0 := hS1
      clear hS1
      refine Kq.wpAnyT_one (i := 20) (by kernel_rfl) rfl (fun K hK => ?_)
      rw [if_pos (by kernel_rfl)]
      refine Kq.wp_append_any _ (.tmp 85) (.tmp 89) 22 22 rfl wd.heap.size 36 i0 (.agg #[.string ⟨#[]⟩, .string ⟨#[]⟩]) 2 32 Tryd.underlying22 hi0 hz0 hz1 hz2 rfl (by decide) v2 (a1 + 1) (pcells (l.take a1 ++ [(KZ, s)])) (by kernel_rfl) HRow.out (.slice SA (l.length - a1) (ca - a1)) (l.length - a1) (pcells (l.drop a1)) (by kernel_rfl) (HS2.out x8 HMx8.out) ?e1 ?e2 HMx8.out.size ?_
      case e1 => have := HG.out.1.few.1; have := HA.out; unfold maxLen; omega
      case e2 => have := HG.out.1.few.1; have := HA.out; omega
      intro v3 x9 hown hgrow hfresh
      rw [← pcells_append] at hown
      have HMx9 : Hid (MidP wd x9) := Lib.hid (HMx8.out.grown hgrow (fun j hj => own_geB HRow.out hj))
      have HRow := Lib.hid hown
      clear hown hgrow hfresh
      refine hK.out _ _ (SH x9 HMx9.out) (fun hS1 => ?_)
      clear hK K hS0
      have hS0 := hS1
      clear hS1
      refine Kq.wpAnyT_last (by kernel_rfl) rfl (fun K hK => ?_)
      go_simp
      refine hK.out _ _ ?_
      clear hK K
      refine Kq.wpAnyT_done (by kernel_rfl) ?_ _
      clear hS0 SH
      have HV9 := HFIN.out _ _ HMx9.out HRow.out
      obtain ⟨B, cp, rfl, hZV⟩ := HV9
      have HZ := Lib.hid hZV.1
      have HV0 := Lib.hid hZV.2
      clear hZV HFIN HMx9 HRow
      generalize m.length = n at *
      go_simp
      go_wp2_with fail
      refine (root_l HZ.out _ HV0.out).mono ?_
      rintro x v1 ⟨rfl, b1⟩
      have HV1 := Lib.hid (HV0.out.below b1)
      clear b1 HV0
      go_wp2_with fail
      refine (root_m HZ.out _ HV1.out).mono ?_
      rintro x v2 ⟨rfl, b2⟩
      have HV2 := Lib.hid (HV1.out.below b2)
      clear b2 HV1
      go_wp2_with fail
      refine (eq_lm HZ.out _ HV2.out).mono ?_
      rintro x v3 ⟨rfl, b3⟩
      have HV3 := Lib.hid (HV2.out.below b3)
      clear b3 HV2
      have HMK := Lib.hid (fun lo hi P w' (hb : BV W x9 w' (some ⟨b, off, none⟩) B l m lo hi P (askR m ++ (askR l ++ []))) => marked HZ.out hb)
      by_cases hs : rootT l = rootT m
      · have q1 : ((rootT l).toList == (rootT m).toList) = true := by rw [hs]; simp
        by_cases hlm : l = m
        · rw [decide_eq_true hlm]
          generalize rootT l = RL at *
          generalize rootT m = RM at *
          clear hs hlm HMK
          go_wp2
          go_ret
          exact ⟨rfl, HV3.out.bw⟩
        · rw [decide_eq_false hlm]
          have HNE := Lib.hid (And.intro hs hlm)
          have HRL := Lib.hid (fun lo hi P w' (hb : BV W x9 w' (some ⟨b, off, none⟩) B l m lo hi P []) => rk_l HZ.out w' hb)
          have HRM := Lib.hid (fun lo hi P w' (hb : BV W x9 w' (some ⟨b, off, none⟩) B l m lo hi P (askR l ++ [])) => rk_m HZ.out w' hb)
          have HMK2 := Lib.hid (fun lo hi P w' hb => HMK.out lo hi P w' hb hs hlm)
          clear hlm HMK HNE hs
          generalize rootT l = RL at *
          generalize rootT m = RM at *
          go_wp2_with fail
          refine (r_booknewW v3).mono ?_
          rintro x v4 ⟨P, rfl, hbk, hb4⟩
          have HB4 := Lib.hid (BV.start HV3.out hbk hb4)
          clear hbk hb4 HV3
          generalize v3.heap.size = lo at *
          generalize hhi : v4.heap.size = hi at HB4
          clear hhi
          go_wp2_with fail
          refine (HRL.out lo hi P _ HB4.out).mono ?_
          rintro x v5 ⟨rfl, hb5⟩
          have HB5 := Lib.hid hb5
          clear hb5 HB4
          go_wp2_with fail
          refine (HRM.out lo hi P _ HB5.out).mono ?_
          rintro x v6 ⟨rfl, hb6⟩
          have HB6 := Lib.hid hb6
          clear hb6 HB5
          have c3 := HMK2.out lo hi P _ HB6.out
          go_wp2
          go_ret
          exact ⟨rfl, HB6.out.v.bw⟩
      · have hlm : l ≠ m := fun e => hs (by rw [e])
        have q1 : ((rootT l).toList == (rootT m).toList) = false := by
          rw [beq_eq_false_iff_ne]
          intro e
          rw [Lib.toList_data, Lib.toList_data] at e
          exact hs (ByteArray.ext (Array.toList_inj.1 e))
        rw [decide_eq_false hlm]
        clear hs hlm HMK
        generalize rootT l = RL at *
        generalize rootT m = RM at *
        go_wp2
        go_ret
        exact ⟨rfl, HV3.out.bw⟩
  case g14x0 =>
    go_simp
    obtain ⟨x10, hw⟩ : ∃ z, z = wd.alloc (.cells #[.string KZ, .string s] 36) := ⟨_, rfl⟩
    (try rw [← hw])
    have HMx10 : Hid (MidP wd x10) := Lib.hid (by rw [hw]; exact HMwd.out.alloc _)
    obtain ⟨cb, hzb⟩ : ∃ z, z = wd.heap.size := ⟨_, rfl⟩
    have HOne : Hid (PsAt x10 (some ⟨cb, 0, none⟩) [(KZ, s)] ∧ True) := Lib.hid ⟨by rw [hw, hzb]; exact made_pair _ _ _, trivial⟩
    have HOneO : Hid (PsAt x10 (some ⟨cb, 0, none⟩) [(KZ, s)]) := Lib.hid HOne.out.1
    rw [← hzb]
    clear hw hzb
    refine hK.out _ _ (SH x10 HMx10.out) (fun hS1 => ?_)
    clear hK K hS0
    have hS0 := hS1
    clear hS1
    refine Kq.wpAnyT_one (i := 0) (by kernel_rfl) rfl (fun K hK => ?_)
    go_simp
    obtain ⟨x11, hw⟩ : ∃ z, z = x10.alloc (.cells #[] 36) := ⟨_, rfl⟩
    (try rw [← hw])
    have HMx11 : Hid (MidP wd x11) := Lib.hid (by rw [hw]; exact HMx10.out.alloc _)
    obtain ⟨zb, hzb⟩ : ∃ z, z = x10.heap.size := ⟨_, rfl⟩
    have HOne : Hid (PsAt x11 (some ⟨cb, 0, none⟩) [(KZ, s)] ∧ True) := Lib.hid ⟨by rw [hw]; exact HOne.out.1.below (Kq.below_alloc _ _), trivial⟩
    have HRow : Hid (x11.ownsRow wd.heap.size 36 2 (.slice (some ⟨zb, 0, none⟩) 0 0) 0 []) := Lib.hid (by rw [hw, hzb]; exact World.ownsRow_made x10 #[] 0 HMx10.out.size (Nat.zero_le _) rfl)
    have HZB : Hid (wd.heap.size ≤ zb) := Lib.hid (by rw [hzb]; exact HMx10.out.size)
    have HNE : Hid (zb ≠ cb) := Lib.hid (by rw [hzb]; obtain ⟨g1, o1, e1, hg1, -⟩ := HOneO.out 0 (by simp); cases e1; omega)
    rw [← hzb]
    clear hw hzb
    refine hK.out _ _ (SH x11 HMx11.out) (fun hS1 => ?_)
    clear hK K hS0
    have hS0 := hS1
    clear hS1
    refine Kq.wpAnyT_one (i := 5) (by kernel_rfl) rfl (fun K hK => ?_)
    rw [if_pos (by kernel_rfl)]
    refine Kq.wp_append_any _ (.tmp 70) (.tmp 74) 22 22 rfl wd.heap.size 36 i0 (.agg #[.string ⟨#[]⟩, .string ⟨#[]⟩]) 2 32 Tryd.underlying22 hi0 hz0 hz1 hz2 rfl (by decide) (.slice (some ⟨zb, 0, none⟩) 0 0) 0 [] (by kernel_rfl) HRow.out (.slice (some ⟨b, off, none⟩) a1 ca) a1 (pcells (l.take a1)) (by kernel_rfl) (HS1.out x11 HMx11.out) ?e1 ?e2 HMx11.out.size ?_
    case e1 => have := HG.out.1.few.1; have := HA.out; unfold maxLen; omega
    case e2 => have := HG.out.1.few.1; have := HA.out; omega
    intro v1 x12 hown hgrow hfresh
    rw [Nat.zero_add, List.nil_append] at hown
    have HMx12 : Hid (MidP wd x12) := Lib.hid (HMx11.out.grown hgrow (fun j hj => by have := HZB.out; simp [Value.ownBlock] at hj; omega))
    have HOne : Hid (PsAt x12 (some ⟨cb, 0, none⟩) [(KZ, s)] ∧ True) := Lib.hid ⟨PsAt.grownP HOne.out.1 hgrow (by have := HNE.out; simp [Value.ownBlock]; omega), trivial⟩
    have HRow := Lib.hid hown
    clear hown hgrow hfresh
    refine hK.out _ _ (SH x12 HMx12.out) (fun hS1 => ?_)
    clear hK K hS0
    have hS0 := hS1
    clear hS1
    refine Kq.wpAnyT_one (i := 15) (by kernel_rfl) rfl (fun K hK => ?_)
    rw [if_pos (by kernel_rfl)]
    refine Kq.wp_append_any _ (.tmp 75) (.tmp 84) 22 22 rfl wd.heap.size 36 i0 (.agg #[.string ⟨#[]⟩, .string ⟨#[]⟩]) 2 32 Tryd.underlying22 hi0 hz0 hz1 hz2 rfl (by decide) v1 a1 (pcells (l.take a1)) (by kernel_rfl) HRow.out (.slice (some ⟨cb, 0, none⟩) 1 1) 1 (pcells [(KZ, s)]) (by kernel_rfl) (src_pairs 1 HOne.out.1) ?e1 ?e2 HMx12.out.size ?_
    case e1 => have := HG.out.1.few.1; have := HA.out; unfold maxLen; omega
    case e2 => have := HG.out.1.few.1; have := HA.out; omega
    intro v2 x13 hown hgrow hfresh
    rw [← pcells_append] at hown
    have HMx13 : Hid (MidP wd x13) := Lib.hid (HMx12.out.grown hgrow (fun j hj => own_geB HRow.out hj))
    have HRow := Lib.hid hown
    clear hown hgrow hfresh
    refine hK.out _ _ (SH x13 HMx13.out) (fun hS1 => ?_)
    clear hK K hS0
    have hS0 := hS1
    clear hS1
    refine Kq.wpAnyT_one (i := 20) (by kernel_rfl) rfl (fun K hK => ?_)
    rw [if_pos (by kernel_rfl)]
    refine Kq.wp_append_any _ (.tmp 85) (.tmp 89) 22 22 rfl wd.heap.size 36 i0 (.agg #[.string ⟨#[]⟩, .string ⟨#[]⟩]) 2 32 Tryd.underlying22 hi0 hz0 hz1 hz2 rfl (by decide) v2 (a1 + 1) (pcells (l.take a1 ++ [(KZ, s)])) (by kernel_rfl) HRow.out (.slice SA (l.length - a1) (ca - a1)) (l.length - a1) (pcells (l.drop a1)) (by kernel_rfl) (HS2.out x13 HMx13.out) ?e1 ?e2 HMx13.out.size ?_
    case e1 => have := HG.out.1.few.1; have := HA.out; unfold maxLen; omega
    case e2 => have := HG.out.1.few.1; have := HA.out; omega
    intro v3 x14 hown hgrow hfresh
    rw [← pcells_append] at hown
    have HMx14 : Hid (MidP wd x14) := Lib.hid (HMx13.out.grown hgrow (fun j hj => own_geB HRow.out hj))
    have HRow := Lib.hid hown
    clear hown hgrow hfresh
    refine hK.out _ _ (SH x14 HMx14.out) (fun hS1 => ?_)
    clear hK K hS0
    have hS0 := hS1
    clear hS1
    refine Kq.wpAnyT_last (by kernel_rfl) rfl (fun K hK => ?_)
    go_simp
    refine hK.out _ _ ?_
    clear hK K
    refine Kq.wpAnyT_done (by kernel_rfl) ?_ _
    clear hS0 SH
    have HV9 := HFIN.out _ _ HMx14.out HRow.out
    obtain ⟨B, cp, rfl, hZV⟩ := HV9
    have HZ := Lib.hid hZV.1
    have HV0 := Lib.hid hZV.2
    clear hZV HFIN HMx14 HRow
    generalize m.length = n at *
    go_simp
    go_wp2_with fail
    refine (root_l HZ.out _ HV0.out).mono ?_
    rintro x v1 ⟨rfl, b1⟩
    have HV1 := Lib.hid (HV0.out.below b1)
    clear b1 HV0
    go_wp2_with fail
    refine (root_m HZ.out _ HV1.out).mono ?_
    rintro x v2 ⟨rfl, b2⟩
    have HV2 := Lib.hid (HV1.out.below b2)
    clear b2 HV1
    go_wp2_with fail
    refine (eq_lm HZ.out _ HV2.out).mono ?_
    rintro x v3 ⟨rfl, b3⟩
    have HV3 := Lib.hid (HV2.out.below b3)
    clear b3 HV2
    have HMK := Lib.hid (fun lo hi P w' (hb : BV W x14 w' (some ⟨b, off, none⟩) B l m lo hi P (askR m ++ (askR l ++ []))) => marked HZ.out hb)
    by_cases hs : rootT l = rootT m
    · have q1 : ((rootT l).toList == (rootT m).toList) = true := by rw [hs]; simp
      by_cases hlm : l = m
      · rw [decide_eq_true hlm]
        generalize rootT l = RL at *
        generalize rootT m = RM at *
        clear hs hlm HMK
        go_wp2
        go_ret
        exact ⟨rfl, HV3.out.bw⟩
      · rw [decide_eq_false hlm]
        have HNE := Lib.hid (And.intro hs hlm)
        have HRL := Lib.hid (fun lo hi P w' (hb : BV W x14 w' (some ⟨b, off, none⟩) B l m lo hi P []) => rk_l HZ.out w' hb)
        have HRM := Lib.hid (fun lo hi P w' (hb : BV W x14 w' (some ⟨b, off, none⟩) B l m lo hi P (askR l ++ [])) => rk_m HZ.out w' hb)
        have HMK2 := Lib.hid (fun lo hi P w' hb => HMK.out lo hi P w' hb hs hlm)
        clear hlm HMK HNE hs
        generalize rootT l = RL at *
        generalize rootT m = RM at *
        go_wp2_with fail
        refine (r_booknewW v3).mono ?_
        rintro x v4 ⟨P, rfl, hbk, hb4⟩
        have HB4 := Lib.hid (BV.start HV3.out hbk hb4)
        clear hbk hb4 HV3
        generalize v3.heap.size = lo at *
        generalize hhi : v4.heap.size = hi at HB4
        clear hhi
        go_wp2_with fail
        refine (HRL.out lo hi P _ HB4.out).mono ?_
        rintro x v5 ⟨rfl, hb5⟩
        have HB5 := Lib.hid hb5
        clear hb5 HB4
        go_wp2_with fail
        refine (HRM.out lo hi P _ HB5.out).mono ?_
        rintro x v6 ⟨rfl, hb6⟩
        have HB6 := Lib.hid hb6
        clear hb6 HB5
        have c3 := HMK2.out lo hi P _ HB6.out
        go_wp2
        go_ret
        exact ⟨rfl, HB6.out.v.bw⟩
    · have hlm : l ≠ m := fun e => hs (by rw [e])
      have q1 : ((rootT l).toList == (rootT m).toList) = false := by
        rw [beq_eq_false_iff_ne]
        intro e
        rw [Lib.toList_data, Lib.toList_data] at e
        exact hs (ByteArray.ext (Array.toList_inj.1 e))
      rw [decide_eq_false hlm]
      clear hs hlm HMK
      generalize rootT l = RL at *
      generalize rootT m = RM at *
      go_wp2
      go_ret
      exact ⟨rfl, HV3.out.bw⟩
end merkleChanges
end Go.Proofs.YtnbapiddbcaolaaDoor
namespace Go.Proofs.YtnbapiddbcaolaaDoor
open Go.RowKit
set_option linter.unusedVariables false
theorem merkleChanges_walk {W : World} (v : Value) (at_ : Int) (s : ByteArray) (how : Int) (h0 : ∃ A cap l, v = .slice A l.length cap ∧ l.length ≤ cap ∧ PsLo W W.heap.size A l)
    (w1 : (Lit.int .i64 at_).wf = true) (w2 : s.size ≤ maxLen) (w3 : (Lit.int .u8 how).wf = true) (w : World) (e : W = w) (hL : LaidOk w) :
    Calls Tryd.prog 8 #[v, .int .i64 at_, .string s, .int .u8 how] w fun x w' => x = .returned (.bool true) ∧ Below w.heap.size w w' := by
  subst e
  obtain ⟨A, ca, l, rfl, hca, hps⟩ := h0
  have hO : merkleChanges.LO W W A l := ⟨hps, hL, Below.refl _ _⟩
  by_cases hg : merkleChanges.Gd l at_ s
  · obtain ⟨a, rfl⟩ := Int.eq_ofNat_of_zero_le hg.lo
    have hla : a < l.length := by have := hg.hi; omega
    by_cases h0 : how.tmod 3 = 0
    · exact merkleChanges.main0 A ca l a s how W hO hg hca h0
    by_cases h1 : how.tmod 3 = 1
    · exact merkleChanges.main1 A ca l a s how W hO hg hca h1
    by_cases h16 : 16 ≤ (l[a]'hla).1.size
    · exact merkleChanges.main2 A ca l a s how W hO hg hca ⟨h0, h1⟩ hla (Or.inl h16)
    by_cases hn : a + 1 < l.length
    · cases ho : Op.bytesLess ((l[a]'hla).1 ++ (⟨#[0]⟩ : ByteArray)).toList (l[a + 1]'hn).1.toList with
      | false => exact merkleChanges.main2 A ca l a s how W hO hg hca ⟨h0, h1⟩ hla (Or.inr ⟨hn, ho⟩)
      | true => exact merkleChanges.main2N A ca l a s how W hO hg hca ⟨h0, h1⟩ hla h16 hn ho
    · exact merkleChanges.main2E A ca l a s how W hO hg hca ⟨h0, h1⟩ hla h16 hn
  · exact merkleChanges.early A ca l at_ s how W hO hg
end Go.Proofs.YtnbapiddbcaolaaDoor
