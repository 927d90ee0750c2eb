/- Contract of proof.Parse. Condition: lengths. -/
import Derived.WalkSpells
import Derived.Outline
import Derived.Test.YtclloplkbajebaaDoorPfFQ
namespace Go.Proofs.YtclloplkbajebaaDoor
open Go.RowKit
set_option linter.unusedVariables false
theorem PfPost.mk' {w w' : World} {r : PfV × Int} {A : Option Addr} {q cap : Nat} (ls : List LfW) (hq : q = ls.length) (h1 : vals ls = r.1.ls) (h2 : ls.length ≤ cap) (h3 : LfsN w' (fun k => k < w.heap.size) A ls) (h4 : Below w.heap.size w w') {ab : Bool} {e : Int} (hab : ab = r.1.ab) (he : e = r.2) {x : Ending} (hx : x = .returned (.tuple #[.agg #[.bool ab, .slice A q cap], .int .i64 e])) : PfPost w r x w' := by
  subst hq hab he
  exact ⟨A, cap, ls, hx, h1, h2, h3, h4⟩
set_option maxRecDepth 100000 in
set_option maxHeartbeats 4000000 in
theorem pf_parse (s : ByteArray) (w : World) (hs : s.size ≤ 100000) :
    Calls Tryd.prog 12 #[.string s] w (PfPost w (pfParse s)) := by
  obtain ⟨i0, hi0, hz0, hz1, hz2⟩ := info_partsB infoLf
  obtain ⟨C, hC⟩ : ∃ C, C = IsPf s := ⟨_, rfl⟩
  obtain ⟨p0, hp0⟩ : ∃ p0 : PfV, C → PfMay p0 ∧ pfB p0 = nl s := by
    by_cases h : IsPf s
    · obtain ⟨p, hp⟩ := h
      exact ⟨p, fun _ => hp⟩
    · exact ⟨⟨false, []⟩, fun c => by rw [hC] at c; exact absurd c h⟩
  have HC := Lib.hid hC
  have HP := Lib.hid hp0
  have hb0 := Kq.below_alloc w (.cells #[.bool false, .slice none 0 0] 24)
  have HW := Lib.hid (And.intro hb0 (PBk.mk (Kq.blk_new w #[.bool false, .slice none 0 0] 24 (0, 0))))
  have HNEW := Lib.hid (rc_new C (w.alloc (.cells #[.bool false, .slice none 0 0] 24)) s hs ([if p0.ab then 2 else 1] ++ ([p0.ls.length] ++ lsB p0.ls)) (fun c => (HP.out c).2.symm))
  have HSZ : Hid ((w.alloc (.cells #[.bool false, .slice none 0 0] 24)).heap.size = w.heap.size + 1) := Lib.hid (by simp)
  rw [HSZ.out] at HNEW
  clear hb0 hC hp0 hs
  go_enter Tryd.func12, Tryd.ntmps12
  go_wp2_with fail
  refine HNEW.out.mono ?_
  rintro x w1 ⟨rfl, R1, b1⟩
  have H1 : Hid (RdC C w1 (w.heap.size + 1) ([if p0.ab then 2 else 1] ++ ([p0.ls.length] ++ lsB p0.ls)) ∧ PBk w1 w.heap.size false (.slice none 0 0) ∧ Below w.heap.size w w1) := Lib.hid (by
    rw [← HSZ.out] at b1
    exact ⟨R1, HW.out.2.below b1, HW.out.1.trans (b1.mono HW.out.1.size)⟩)
  clear R1 b1 HNEW HW
  go_wp2_with fail
  refine (rc_byte C (w.heap.size + 1) w1 (if p0.ab then 2 else 1) _ H1.out.1).mono ?_
  rintro x w2 ⟨m1, hm1, hc1, rfl, R2, K2⟩
  obtain ⟨ab, hab⟩ : ∃ ab : Bool, ab = ((m1 : Int) == 2) := ⟨_, rfl⟩
  have HAB : Hid (C → ab = p0.ab) := Lib.hid (fun c => by
    rw [hab, hc1 c]
    cases p0.ab <;> rfl)
  have hab' : ((m1 : Int) == 2) = ab := hab.symm
  have H2 : Hid (RdC C w2 (w.heap.size + 1) ([p0.ls.length] ++ lsB p0.ls) ∧ PBk w2 w.heap.size false (.slice none 0 0) ∧ Below w.heap.size w w2) := Lib.hid ⟨R2, H1.out.2.1.later K2 (fun e => by omega), below_far H1.out.2.2 K2 (Nat.le_refl _) (fun k _ e => by omega)⟩
  clear R2 K2 hc1 H1 hab
  have H3 := Lib.hid (Ps.start (ab := ab) H2.out.1 H2.out.2.1 (by omega) (Nat.le_refl _) (by omega) H2.out.2.2)
  clear H2
  go_wp2_with fail
  refine (rc_byte C (w.heap.size + 1) _ p0.ls.length _ H3.out.rd).mono ?_
  rintro x w3 ⟨n, hn, hnc, rfl, R3, K3⟩
  have H4 := Lib.hid (H3.out.read R3 K3)
  have HN := Lib.hid (And.intro hn hnc)
  obtain ⟨X, hX⟩ : ∃ X, X = w2.heap.size := ⟨_, rfl⟩
  rw [← hX] at H4
  (try rw [← hX])
  clear R3 K3 hn hnc H3 hX hab' hm1
  go_wp2
  go_loopw [16] (fun u wr => ∃ (m : Nat) (ls : List LfW) (a : Option Addr) (q cp : Nat), m ≤ n ∧ u = .int .i64 (m : Int) ∧ ls.length ≤ m ∧ (C → vals ls = p0.ls.take m) ∧ Ps C w (w.heap.size + 1) w.heap.size X (lsB (p0.ls.drop m)) ab a q cp ls wr) (fun u _ => n - (intOf u).toNat)
  case atStart => exact ⟨0, [], none, 0, 0, by omega, rfl, by simp, fun _ => by simp [vals], by simpa using H4.out⟩
  case round =>
    obtain ⟨m, ls, a, q, cp, hmn, rfl, hll, hlc, hps⟩ := hrel
    have hn256 := HN.out.1
    by_cases hlt : m < n
    · have HPS := Lib.hid (hps.cast (lsB_drop p0.ls m n HN.out.2 hlt))
      obtain ⟨L, hL⟩ : ∃ L, L = p0.ls.getD m ⟨0, 0, ⟨#[]⟩, ⟨#[]⟩, []⟩ := ⟨_, rfl⟩
      rw [← hL] at HPS
      have HLC : Hid ((C → LfMay L) ∧ (C → vals ls ++ [L] = p0.ls.take (m + 1))) := Lib.hid (by
        refine ⟨fun c => ?_, fun c => ?_⟩
        · have hl : m < p0.ls.length := by have := HN.out.2 c; omega
          rw [hL, List.getD_eq_getElem?_getD, List.getElem?_eq_getElem hl]
          exact (HP.out c).1.2 _ (List.getElem_mem _)
        · have hl : m < p0.ls.length := by have := HN.out.2 c; omega
          rw [hlc c, List.take_succ_eq_append_getElem hl, hL, List.getD_eq_getElem?_getD, List.getElem?_eq_getElem hl]; rfl)
      have HL := Lib.hid (And.intro hlt hll)
      have hmn' : (m : Int) < (n : Int) := by omega
      have hl256 : ls.length ≤ 256 := by omega
      clear hps hlt hll hL hmn
      go_wp2_with fail
      refine (rc_err C (w.heap.size + 1) wr _ HPS.out.rd).mono ?_
      rintro x w4 ⟨⟨e, he, rfl⟩, rfl⟩
      by_cases he0 : e = 0
      · subst he0
        have c1 := HPS.out.pb.c1
        clear he
        go_wp2
        obtain ⟨wd, hwd⟩ : ∃ z, z = wr.drew := ⟨_, rfl⟩
        have HD0 : Hid (Ps C w (w.heap.size + 1) w.heap.size X (lfB L ++ lsB (p0.ls.drop (m + 1))) ab a q cp ls wd) := Lib.hid (by
          rw [hwd]
          exact HPS.out.below (Below.refl _ _).drew)
        refine Kq.wp_region_T 7 (fun cur => cur.cell? ⟨X, 1, none⟩ = some (.slice a q cp)) (by kernel_rfl) (by rw [← hwd]; exact HD0.out.pb.c1) (fun hS0 => ?_)
        rw [← hwd] at hS0 ⊢
        clear hwd c1 HPS
        refine Kq.wpAnyT_take (i := 0) (v := ?_) rfl rfl (by kernel_rfl) (by kernel_rfl) (by kernel_rfl) (by kernel_rfl) (fun _ _ _ h => h) (Or.inl ⟨by kernel_rfl, ?_⟩) (by assumption) ?_
        rotate_left
        · intro w hSw; (try dsimp only at hSw); go_simp; (try with_reducible rfl)
        refine Kq.wpAnyT_take (i := 2) (v := ?_) rfl rfl (by kernel_rfl) (by kernel_rfl) (by kernel_rfl) (by kernel_rfl) (fun _ _ _ h => h) (Or.inl ⟨by kernel_rfl, ?_⟩) (by assumption) ?_
        rotate_left
        · intro w hSw; (try dsimp only at hSw); go_simp; (try with_reducible rfl)
        refine Kq.wpAnyT_take (i := 1) (v := ?_) rfl rfl (by kernel_rfl) (by kernel_rfl) (by kernel_rfl) (by kernel_rfl) (fun _ _ _ h => h) (Or.inl ⟨by kernel_rfl, ?_⟩) (by assumption) ?_
        rotate_left
        · intro w hSw; (try dsimp only at hSw); go_simp; (try with_reducible rfl)
        refine Kq.wpAnyT_one (i := 3) (by kernel_rfl) rfl (fun K hK => ?_)
        go_simp
        refine (pf_get C (w.heap.size + 1) L _ wd HD0.out.rd HLC.out.1).mono ?_
        rintro x z1 ⟨z, hzc, rfl, hz3, hzcap, hztx, R1, K1⟩
        have HZ : Hid ((C → z.l = L) ∧ TxN z1 (fun k => k < X + 1 ∨ some k = (Value.slice a q cp).ownBlock) z.a z.l.p ∧ z.l.p.length ≤ z.cap ∧ z.l.p.length ≤ 300) := Lib.hid ⟨hzc, hztx.mono (fun k _ hk => by
          rcases hk with hk | hk
          · have := HD0.out.sz; omega
          · exact (HD0.out.own.lt _ hk.symm).2), hzcap, hz3⟩
        have HD1 : Hid (Ps C w (w.heap.size + 1) w.heap.size X (lsB (p0.ls.drop (m + 1))) ab a q cp ls z1) := Lib.hid (HD0.out.read R1 K1)
        clear R1 K1 HD0 hzc hz3 hzcap hztx hS0
        refine hK.out _ _ HD1.out.pb.c1 (fun hS0 => ?_)
        clear hK K
        obtain ⟨⟨I, J, k, v, p⟩, za, zc⟩ := z
        simp only [LfW.val] at HZ ⊢
        refine Kq.wpAnyT_one (i := 4) (by kernel_rfl) rfl (fun K hK => ?_)
        go_simp
        have HD2 : Hid (Ps C w (w.heap.size + 1) w.heap.size X (lsB (p0.ls.drop (m + 1))) ab a q cp ls (z1.alloc (.cells #[.int .i64 I, .int .i64 J, .string k, .string v, .slice za p.length zc] 30))) := Lib.hid (HD1.out.below (Kq.below_alloc _ _))
        have HZ2 : Hid ((C → (⟨I, J, k, v, p⟩ : LfV) = L) ∧ TxN (z1.alloc (.cells #[.int .i64 I, .int .i64 J, .string k, .string v, .slice za p.length zc] 30)) (fun k => k < X + 1 ∨ some k = (Value.slice a q cp).ownBlock) za p ∧ p.length ≤ zc ∧ p.length ≤ 300) := Lib.hid ⟨HZ.out.1, HZ.out.2.1.below (Kq.below_alloc _ _), HZ.out.2.2⟩
        have HSRC : Hid (Src Tryd.prog 5 22 (.slice (some ⟨z1.heap.size, 0, none⟩) 1 1) 1 (LfE.flat [⟨⟨I, J, k, v, p⟩, za, zc⟩]) (z1.alloc (.cells #[.int .i64 I, .int .i64 J, .string k, .string v, .slice za p.length zc] 30))) := Lib.hid ((Kq.Elt.made_one (E := LfE) ⟨⟨I, J, k, v, p⟩, za, zc⟩ z1 30).src Tryd.underlying22 1)
        clear hS0 HD1 HZ
        refine hK.out _ _ HD2.out.pb.c1 (fun hS0 => ?_)
        clear hK K
        refine Kq.wpAnyT_one (i := 5) (by kernel_rfl) rfl (fun K hK => ?_)
        rw [if_pos (by kernel_rfl)]
        refine Kq.wp_append_any _ (.tmp 24) (.tmp 27) 22 22 rfl (X + 1) 30 i0 (.agg #[.int .i64 0, .int .i64 0, .string ⟨#[]⟩, .string ⟨#[]⟩, .slice none 0 0]) 5 72 Tryd.underlying22 hi0 hz0 hz1 hz2 rfl (by decide) (.slice a q cp) ls.length (LfE.flat ls) (by kernel_rfl) HD2.out.own (.slice (some ⟨z1.heap.size, 0, none⟩) 1 1) 1 (LfE.flat [⟨⟨I, J, k, v, p⟩, za, zc⟩]) (by kernel_rfl) HSRC.out ?e1 ?e2 HD2.out.sz ?_
        case e1 => unfold maxLen; omega
        case e2 => omega
        intro v' z3 hown3 hgrow hfresh
        obtain ⟨a', q', cp', hv'⟩ := Kq.own_shape hown3
        subst hv'
        have HD4 := Lib.hid (HD2.out.snoc (z3 := z3) (a' := a') (q' := q') (cp' := cp') HZ2.out.2 (Kq.Keeps.grown hgrow (fun g _ hg => hg.symm)) (by rw [LfE.flat_append, List.length_append]; exact hown3) hfresh)
        have hfz : z3.frozen? ⟨X, 1, none⟩ = false ∧ z3.cell? ⟨X, 1, none⟩ = some (.slice a q cp) := by
          have hpb := HD2.out.pb.later (Kq.Keeps.grown hgrow (S := fun g => some g = (Value.slice a q cp).ownBlock) (fun g _ hg => hg.symm)) (fun e => by have := own_geB HD2.out.own e.symm; omega)
          exact ⟨hpb.fz 1, hpb.c1⟩
        have f4 := hfz.1
        have c4 := hfz.2
        clear hown3 hgrow hfresh hfz HD2 HSRC hS0
        refine hK.out _ _ c4 (fun hS0 => ?_)
        clear hK K
        refine Kq.wpAnyT_take (i := 6) (v := ?_) rfl rfl (by kernel_rfl) (by kernel_rfl) (by kernel_rfl) (by kernel_rfl) (fun _ _ _ h => h) (Or.inl ⟨by kernel_rfl, ?_⟩) (by assumption) ?_
        rotate_left
        · intro w hSw; (try dsimp only at hSw); go_simp; (try with_reducible rfl)
        refine Kq.wpAnyT_last (by kernel_rfl) rfl (fun K hK => ?_)
        go_simp
        refine hK.out _ _ ?_
        clear hK K
        refine Kq.wpAnyT_done (by kernel_rfl) ?_ _
        obtain ⟨wz, hwz⟩ : ∃ z, z = z3.setCell ⟨X, 1, none⟩ (.slice a' q' cp') := ⟨_, rfl⟩
        rw [← hwz] at HD4
        (try rw [← hwz])
        clear hwz f4 c4 hS0
        go_wp2
        go_roundw
        case rel => exact ⟨m + 1, ls ++ [⟨⟨I, J, k, v, p⟩, za, zc⟩], a', q', cp', HL.out.1, by go_num, by have := HL.out.2; rw [List.length_append]; simpa using this, fun c => by rw [← HLC.out.2 c]; simp [vals, HZ2.out.1 c], HD4.out⟩
        case measure => have := HL.out.1; simp [intOf]; omega
      · have he1 : (e == 0) = false := by rw [beq_eq_false_iff_ne]; exact he0
        have HNC : Hid (¬ C) := Lib.hid (fun c => he0 (he c))
        clear he he0
        go_wp2
        go_roundw
        case rel => exact ⟨m + 1, ls, a, q, cp, HL.out.1, by go_num, by have := HL.out.2; omega, fun c => absurd c HNC.out, HPS.out.cast (fun c => absurd c HNC.out)⟩
        case measure => have := HL.out.1; simp [intOf]; omega
    · obtain rfl : m = n := by omega
      have HLF := Lib.hid hps.lfs
      have HPS := Lib.hid hps
      have HPA : Hid (∀ x ∈ ls, x.l.p.length ≤ 1000) := Lib.hid (fun x hx => by have := (hps.pa x hx).2.2; omega)
      have c0 := hps.pb.c0
      have c1 := hps.pb.c1
      have HVL : Hid (C → vals ls = p0.ls) := Lib.hid (fun c => by rw [hlc c, HN.out.2 c, List.take_length])
      have hl1000 : ls.length ≤ 1000 := by omega
      obtain rfl : q = ls.length := HLF.out.1
      clear hps hlc hmn hll
      have HBY := Lib.hid (pf_bytes _ ab a cp ls wr HLF.out.2.2 hl1000 HPA.out)
      obtain ⟨r, hr⟩ : ∃ r, r = pfBytes ⟨ab, vals ls⟩ := ⟨_, rfl⟩
      rw [← hr] at HBY
      have HR := Lib.hid hr
      clear hr
      obtain ⟨t, e⟩ := r
      go_wp2_with fail
      refine HBY.out.mono ?_
      rintro x w5 ⟨rfl, b5⟩
      have H5 : Hid (Ps C w (w.heap.size + 1) w.heap.size X (lsB (p0.ls.drop m)) ab a ls.length cp ls w5) := Lib.hid (HPS.out.below b5)
      clear b5 HBY c0 c1 HPS
      have g0 := H5.out.rb.fz 0
      have g1 := H5.out.rb.fz 1
      have r0 := H5.out.rb.c0
      have r1 := H5.out.rb.c1
      have c0 := H5.out.pb.c0
      have c1 := H5.out.pb.c1
      by_cases hC : C
      · have hm0 := HP.out hC
        have hvl : (⟨ab, vals ls⟩ : PfV) = p0 := by rw [HAB.out hC, HVL.out hC]
        have HRES : Hid (pfParse s = (p0, 0) ∧ t = s ∧ e = 0) := Lib.hid ⟨pfParse_some hm0.1 hm0.2, by
          have h1 := HR.out
          rw [hvl, again_yes hm0.1 hm0.2] at h1
          injection h1 with h1 h2
          exact ⟨h1, h2⟩⟩
        have HV := Lib.hid hvl
        clear hm0 hvl hC
        obtain ⟨-, rfl, rfl⟩ := HRES.out
        have e1 : (t.toList != t.toList) = false := by simp
        go_wp2
        have p1 := H5.out.rb.fill ab (.slice a ls.length cp)
        have p2 := filled2_keeps w5 w.heap.size ab (.slice a ls.length cp)
        obtain ⟨Wf, hWf⟩ : ∃ Wf, Wf = filled2 w5 w.heap.size ab (.slice a ls.length cp) := ⟨_, rfl⟩
        change bodyPost _ _ _ _ _ (filled2 w5 w.heap.size ab (.slice a ls.length cp))
        rw [← hWf] at p1 p2 ⊢
        have z0 := p1.c0
        have z1 := p1.c1
        refine bodyPost_ret (v := .tuple #[.agg #[.bool ab, .slice a ls.length cp], .int .i64 0]) (by simp [results, Tryd.results12, go_sem, z0, z1]) rfl ?_
        refine PfPost.mk' ls rfl ?_ HLF.out.2.1 ?_ (below_far H5.out.bel p2 (Nat.le_refl _) (fun k _ hk => by omega)) (ab := ab) (e := 0) ?_ ?_ rfl
        · rw [HRES.out.1]; show vals ls = p0.ls; rw [← HV.out]
        · exact (H5.out.lfs.2.2.keeps p2 (fun k _ hk => by have := H5.out.ne3; omega)).mono (fun k _ hk => by have := H5.out.ne3; have := H5.out.ne; omega)
        · rw [HRES.out.1]; show ab = p0.ab; rw [← HV.out]
        · rw [HRES.out.1]
      · have HRES : Hid (pfParse s = (⟨false, []⟩, 5) ∧ ¬ (e = 0 ∧ t = s)) := Lib.hid ⟨isPf_no (fun h => hC (by rw [HC.out]; exact h)), fun h => again_no (p := ⟨ab, vals ls⟩) (fun h => hC (by rw [HC.out]; exact h)) (by rw [← HR.out]; exact h)⟩
        have HEND : Hid (∀ x, x = .returned (.tuple #[.agg #[.bool false, .slice none 0 0], .int .i64 5]) → PfPost w (pfParse s) x (filled2 w5 w.heap.size false (.slice none 0 0))) := Lib.hid (fun x hx => by
          have p2 := filled2_keeps w5 w.heap.size false (.slice none 0 0)
          exact PfPost.mk' (A := none) (q := 0) (cap := 0) [] rfl (by rw [HRES.out.1]; rfl) (Nat.le_refl _) LfsN.nil (below_far H5.out.bel p2 (Nat.le_refl _) (fun k _ hk => by omega)) (ab := false) (e := 5) (by rw [HRES.out.1]) (by rw [HRES.out.1]) hx)
        have p1 := Lib.hid (H5.out.rb.fill false (.slice none 0 0))
        have hcase := HRES.out.2
        clear hC HRES
        by_cases he : e = 0
        · subst he
          have ht : ¬ t = s := fun h => hcase ⟨rfl, h⟩
          have e1 : (t.toList != s.toList) = true := by rw [bne_iff_ne]; exact fun h => ht (toList_inj h)
          have e2 : (t.toList == s.toList) = false := by rw [beq_eq_false_iff_ne]; exact fun h => ht (toList_inj h)
          clear hcase ht
          go_wp2
          obtain ⟨Wf, hWf⟩ : ∃ Wf, Wf = filled2 w5 w.heap.size false (.slice none 0 0) := ⟨_, rfl⟩
          change bodyPost _ _ _ _ _ (filled2 w5 w.heap.size false (.slice none 0 0))
          rw [← hWf] at p1 HEND ⊢
          have z0 := p1.out.c0
          have z1 := p1.out.c1
          refine bodyPost_ret (v := .tuple #[.agg #[.bool false, .slice none 0 0], .int .i64 5]) (by simp [results, Tryd.results12, go_sem, z0, z1]) rfl ?_
          exact HEND.out _ rfl
        · have e1 : (e != 0) = true := by rw [bne_iff_ne]; exact he
          clear hcase he
          go_wp2
          obtain ⟨Wf, hWf⟩ : ∃ Wf, Wf = filled2 w5 w.heap.size false (.slice none 0 0) := ⟨_, rfl⟩
          change bodyPost _ _ _ _ _ (filled2 w5 w.heap.size false (.slice none 0 0))
          rw [← hWf] at p1 HEND ⊢
          have z0 := p1.out.c0
          have z1 := p1.out.c1
          refine bodyPost_ret (v := .tuple #[.agg #[.bool false, .slice none 0 0], .int .i64 5]) (by simp [results, Tryd.results12, go_sem, z0, z1]) rfl ?_
          exact HEND.out _ rfl
end Go.Proofs.YtclloplkbajebaaDoor
