/- Contract of carrackref09.Parse. Condition: lengths. -/
import Derived.WalkSpells
import Derived.Outline
import Derived.Test.YtclloplkbajebaaDoorQfPsQ
import Derived.Test.YtclloplkbajebaaDoorQfBQ
import Derived.Test.YtclloplkbajebaaDoorPfPwQ
namespace Go.Proofs.YtclloplkbajebaaDoor
open Go.RowKit
set_option linter.unusedVariables false
set_option maxRecDepth 100000 in
set_option maxHeartbeats 2000000 in
theorem rq_parse (s : ByteArray) (w : World) (hs : s.size ≤ 100000) :
    Calls Tryd.prog 13 #[.string s] w (PfPost w (pfParse s)) := by
  obtain ⟨i0, hi0, hz0, hz1, hz2⟩ := info_partsB infoLf
  obtain ⟨j0, hj0, hy0, hy1, hy2⟩ := info_partsB infoStr
  obtain ⟨C, hC⟩ : ∃ C, C = IsPf s := ⟨_, rfl⟩
  obtain ⟨p0, hp0⟩ : ∃ p0 : PfV, C → PfMay p0 ∧ pfB p0 = nl s := by
    by_cases h : IsPf s
    · obtain ⟨p, hp⟩ := h
      exact ⟨p, fun _ => hp⟩
    · exact ⟨⟨false, []⟩, fun c => by rw [hC] at c; exact absurd c h⟩
  have HC := Lib.hid hC
  have HP := Lib.hid hp0
  have hb0 := Kq.below_alloc w (.cells #[.bool false, .slice none 0 0] 24)
  have hr0 := RqC.start (C := C) s hs ([if p0.ab then 2 else 1] ++ ([p0.ls.length] ++ lsB p0.ls)) (fun c => (hp0 c).2.symm) (w.alloc (.cells #[.bool false, .slice none 0 0] 24))
  have hsz : (w.alloc (.cells #[.bool false, .slice none 0 0] 24)).heap.size = w.heap.size + 1 := by simp
  rw [hsz] at hr0
  have hb1 := Kq.below_alloc (w.alloc (.cells #[.bool false, .slice none 0 0] 24)) (.cells #[.string s, .int .i64 0, .int .i64 0] 83)
  have H1 : Hid (RqC C ((w.alloc (.cells #[.bool false, .slice none 0 0] 24)).alloc (.cells #[.string s, .int .i64 0, .int .i64 0] 83)) (w.heap.size + 1) ([if p0.ab then 2 else 1] ++ ([p0.ls.length] ++ lsB p0.ls)) ∧ PBk ((w.alloc (.cells #[.bool false, .slice none 0 0] 24)).alloc (.cells #[.string s, .int .i64 0, .int .i64 0] 83)) w.heap.size false (.slice none 0 0) ∧ Below w.heap.size w ((w.alloc (.cells #[.bool false, .slice none 0 0] 24)).alloc (.cells #[.string s, .int .i64 0, .int .i64 0] 83))) := Lib.hid ⟨hr0, (PBk.mk (Kq.blk_new w #[.bool false, .slice none 0 0] 24 (0, 0))).below hb1, hb0.trans (hb1.mono hb0.size)⟩
  clear hb0 hC hp0 hs hr0 hsz hb1
  go_enter Tryd.func13, Tryd.ntmps13
  go_wp2_with fail
  refine (rq_byte C (w.heap.size + 1) _ (if p0.ab then 2 else 1) _ H1.out.1).mono ?_
  rintro x w2 ⟨m1, hm1, hc1, rfl, R2, K2⟩
  obtain ⟨ab, hab⟩ : ∃ ab : Bool, ab = ((m1 : Int) == 2) := ⟨_, rfl⟩
  have HAB : Hid (C → ab = p0.ab) := Lib.hid (fun c => by
    rw [hab, hc1 c]
    cases p0.ab <;> rfl)
  have hab' : ((m1 : Int) == 2) = ab := hab.symm
  have H2 : Hid (RqC C w2 (w.heap.size + 1) ([p0.ls.length] ++ lsB p0.ls) ∧ PBk w2 w.heap.size false (.slice none 0 0) ∧ Below w.heap.size w w2) := Lib.hid ⟨R2, H1.out.2.1.later K2 (fun e => by omega), below_far H1.out.2.2 K2 (Nat.le_refl _) (fun k _ e => by omega)⟩
  clear R2 K2 hc1 H1 hab
  have H3 := Lib.hid (Rs.start (ab := ab) H2.out.1 H2.out.2.1 (by omega) (Nat.le_refl _) (by omega) H2.out.2.2)
  clear H2
  go_wp2_with fail
  refine (rq_byte C (w.heap.size + 1) _ p0.ls.length _ H3.out.rd).mono ?_
  rintro x w3 ⟨n, hn, hnc, rfl, R3, K3⟩
  have H4 := Lib.hid (H3.out.read R3 K3)
  have HN := Lib.hid (And.intro hn hnc)
  obtain ⟨X, hX⟩ : ∃ X, X = w2.heap.size := ⟨_, rfl⟩
  rw [← hX] at H4
  (try rw [← hX])
  clear R3 K3 hn hnc H3 hX hab' hm1
  go_wp2
  go_loopw [7] (fun u wr => ∃ (m : Nat) (ls : List LfW) (a : Option Addr) (q cp : Nat), m ≤ n ∧ m ≤ 3 ∧ u = .int .i64 (m : Int) ∧ ls.length ≤ m ∧ (C → vals ls = p0.ls.take m) ∧ Rs C w (w.heap.size + 1) w.heap.size X (lsB (p0.ls.drop m)) ab a q cp ls wr) (fun u _ => 3 - (intOf u).toNat)
  case atStart => exact ⟨0, [], none, 0, 0, by omega, by omega, rfl, by simp, fun _ => by simp [vals], by simpa using H4.out⟩
  case round =>
    obtain ⟨m, ls, a, q, cp, hmn, hm3, rfl, hll, hlc, hps⟩ := hrel
    have hn256 := HN.out.1
    by_cases hlt0 : m < n ∧ m < 3
    · obtain ⟨hlt, hlt3⟩ := hlt0
      obtain ⟨L, hL⟩ : ∃ L, L = p0.ls.getD m ⟨0, 0, ⟨#[]⟩, ⟨#[]⟩, []⟩ := ⟨_, rfl⟩
      have hcast : C → lsB (p0.ls.drop m) = num8 L.i.toNat ++ (num8 L.c.toNat ++ (tx2 L.k ++ (tx2 L.v ++ ([L.p.length] ++ (rawL L.p ++ lsB (p0.ls.drop (m + 1))))))) := fun c => by
        rw [lsB_drop p0.ls m n HN.out.2 hlt c, ← hL]
        unfold lfB; simp only [List.append_assoc]
      have HPS := Lib.hid (hps.cast hcast)
      have HLC : Hid ((C → LfMay L) ∧ (C → vals ls ++ [L] = p0.ls.take (m + 1))) := Lib.hid (by
        refine ⟨fun c => ?_, fun c => ?_⟩
        · have hl : m < p0.ls.length := by have := HN.out.2 c; omega
          rw [hL, List.getD_eq_getElem?_getD, List.getElem?_eq_getElem hl]
          exact (HP.out c).1.2 _ (List.getElem_mem _)
        · have hl : m < p0.ls.length := by have := HN.out.2 c; omega
          rw [hlc c, List.take_succ_eq_append_getElem hl, hL, List.getD_eq_getElem?_getD, List.getElem?_eq_getElem hl]; rfl)
      have HM64 : Hid ((C → L.i.toNat < 1000000) ∧ (C → L.c.toNat < 1000000)) := Lib.hid ⟨fun c => by have := (HLC.out.1 c).i1; omega, fun c => by have := (HLC.out.1 c).c1; omega⟩
      have HL := Lib.hid (And.intro hlt (And.intro hlt3 hll))
      have t1 : decide ((m : Int) < (n : Int)) = true := decide_eq_true (by omega)
      have t2 : decide (m < n) = true := decide_eq_true hlt
      have t3 : decide ((m : Int) < 3) = true := decide_eq_true (by omega)
      have t4 : decide (m < 3) = true := decide_eq_true hlt3
      have hl256 : ls.length ≤ 256 := by omega
      clear hps hlt hll hL hmn hcast hlt3 hm3
      go_wp2_with fail
      refine (rq_number C (w.heap.size + 1) wr L.i.toNat _ HPS.out.rd HM64.out.1).mono ?_
      rintro x w4 ⟨I, hI, hIc, rfl, R4, K4⟩
      have H4 := Lib.hid (HPS.out.read R4 K4)
      clear R4 K4 HPS t1 t2 t3 t4
      go_wp2_with fail
      refine (rq_number C (w.heap.size + 1) w4 L.c.toNat _ H4.out.rd HM64.out.2).mono ?_
      rintro x w5 ⟨J, hJ, hJc, rfl, R5, K5⟩
      have H5 := Lib.hid (H4.out.read R5 K5)
      have HIJ : Hid ((C → (I : Int) = L.i) ∧ (C → (J : Int) = L.c)) := Lib.hid ⟨fun c => by rw [hIc c]; have := (HLC.out.1 c).i0; omega, fun c => by rw [hJc c]; have := (HLC.out.1 c).c0; omega⟩
      clear R5 K5 H4 hI hIc hJ hJc HM64
      have G5 := Lib.hid (Gq.start H5.out.rd (I : Int) (J : Int))
      go_wp2_with fail
      refine (rq_textOf C (w.heap.size + 1) _ L.k _ G5.out.rd).mono ?_
      rintro x w6 ⟨sk, hsk, rfl, R6, K6⟩
      have G6 := Lib.hid (G5.out.read R6 K6)
      have HSK := Lib.hid hsk
      clear R6 K6 hsk G5
      have f0 := G6.out.lb.fz 2
      have c0 := G6.out.lb.c2
      go_wp2_with fail
      have G7 := Lib.hid (G6.out.set 2 _ (G6.out.lb.s2 sk))
      clear f0 c0 G6
      refine (rq_textOf C (w.heap.size + 1) _ L.v _ G7.out.rd).mono ?_
      rintro x w8 ⟨sv, hsv, rfl, R8, K8⟩
      have G8 := Lib.hid (G7.out.read R8 K8)
      have HSV := Lib.hid hsv
      clear R8 K8 hsv G7
      have f0 := G8.out.lb.fz 3
      have c0 := G8.out.lb.c3
      go_wp2_with fail
      have G9 := Lib.hid (G8.out.set 3 _ (G8.out.lb.s3 sv))
      clear f0 c0 G8
      refine (rq_byte C (w.heap.size + 1) _ L.p.length _ G9.out.rd).mono ?_
      rintro x w10 ⟨k, hk, hkc, rfl, R10, K10⟩
      have G10 := Lib.hid (G9.out.read R10 K10)
      have HKN := Lib.hid (And.intro hk hkc)
      clear R10 K10 hk hkc G9
      obtain ⟨Y, hY⟩ : ∃ Y, Y = w5.heap.size := ⟨_, rfl⟩
      have HY := Lib.hid hY
      go_wp2
      rw [← hY]
      clear hY
      go_loopw [10] (fun u wr => ∃ (f : Nat) (ps : List ByteArray) (a' : Option Addr) (q' cp' : Nat), f ≤ k ∧ f ≤ 17 ∧ u = .int .i64 (f : Int) ∧ ps.length = f ∧ (C → ps = L.p.take f) ∧ wr.ownsRow (Y + 1) 9 1 (.slice a' q' cp') f (scells ps) ∧ Y + 1 ≤ wr.heap.size ∧ Gq C w5 (w.heap.size + 1) (rawL (L.p.drop f) ++ lsB (p0.ls.drop (m + 1))) (I : Int) (J : Int) sk sv (.slice a' q' cp') wr) (fun u _ => 17 - (intOf u).toNat)
      case atStart => exact ⟨0, [], none, 0, 0, by omega, by omega, rfl, rfl, fun _ => by simp, ⟨rfl, Or.inl ⟨rfl, rfl⟩⟩, by have := G10.out.lb.lt; have := HY.out; omega, by simpa using G10.out⟩
      case round =>
        obtain ⟨f, ps, a', q', cp', hfk, hf17, rfl, hpl, hpc, hown, hsz, hge⟩ := hrel
        have hk256 := HKN.out.1
        by_cases hlt0 : f < k ∧ f < 17
        · obtain ⟨hlt, hlt17⟩ := hlt0
          obtain ⟨D, hD⟩ : ∃ D, D = L.p.getD f ⟨#[]⟩ := ⟨_, rfl⟩
          have hge2 := hge.cast (rawL_drop L.p f k _ HKN.out.2 hlt)
          rw [← hD] at hge2
          have HDC : Hid ((C → D.size = 32) ∧ (C → ps ++ [D] = L.p.take (f + 1))) := Lib.hid (by
            refine ⟨fun c => ?_, fun c => ?_⟩
            · have hl : f < L.p.length := by have := HKN.out.2 c; omega
              rw [hD, List.getD_eq_getElem?_getD, List.getElem?_eq_getElem hl]
              exact (HLC.out.1 c).d _ (List.getElem_mem _)
            · have hl : f < L.p.length := by have := HKN.out.2 c; omega
              rw [hpc c, List.take_succ_eq_append_getElem hl, hD, List.getD_eq_getElem?_getD, List.getElem?_eq_getElem hl]; rfl)
          have HLF := Lib.hid (And.intro hlt (And.intro hlt17 (And.intro hpl hsz)))
          have HQ := Lib.hid (And.intro hge2 hown)
          have t1 : decide ((f : Int) < (k : Int)) = true := decide_eq_true (by omega)
          have t2 : decide (f < k) = true := decide_eq_true hlt
          have t3 : decide ((f : Int) < 17) = true := decide_eq_true (by omega)
          have t4 : decide (f < 17) = true := decide_eq_true hlt17
          have hf256 : f ≤ 256 := by omega
          clear hge hge2 hown hpl hpc hsz hD hlt hlt17 hfk hf17
          go_wp2_with fail
          refine (rq_raw C (w.heap.size + 1) _ D _ HQ.out.1.rd HDC.out.1).mono ?_
          rintro x z1 ⟨d, mm, hd, rfl, R1, K1⟩
          have HD1 : Hid (Gq C w5 (w.heap.size + 1) (rawL (L.p.drop (f + 1)) ++ lsB (p0.ls.drop (m + 1))) (I : Int) (J : Int) sk sv (.slice a' q' cp') z1 ∧ z1.ownsRow (Y + 1) 9 1 (.slice a' q' cp') f (scells ps) ∧ Y + 1 ≤ z1.heap.size) := Lib.hid ⟨HQ.out.1.read R1 K1, own_keeps HQ.out.2 K1 (fun g hg => by have := HQ.out.1.ne; have := HY.out; omega), Nat.le_trans HLF.out.2.2.2 K1.size⟩
          have HDD := Lib.hid hd
          clear R1 K1 hd HQ t1 t2 t3 t4
          have HD2 : Hid (Gq C w5 (w.heap.size + 1) (rawL (L.p.drop (f + 1)) ++ lsB (p0.ls.drop (m + 1))) (I : Int) (J : Int) sk sv (.slice a' q' cp') (z1.alloc (.cells #[.string d] 9)) ∧ (z1.alloc (.cells #[.string d] 9)).ownsRow (Y + 1) 9 1 (.slice a' q' cp') f (scells ps) ∧ Y + 1 ≤ (z1.alloc (.cells #[.string d] 9)).heap.size) := Lib.hid ⟨HD1.out.1.below (Kq.below_alloc _ _), own_belowB HD1.out.2.1 (Kq.below_alloc _ _), Nat.le_trans HD1.out.2.2 (Kq.below_alloc _ _).size⟩
          have HSRC := Lib.hid (str_src z1 d)
          have c4 := HD1.out.1.lb.c4
          rw [← HY.out] at c4
          go_wp2_with (at_builtin; refine Kq.wpList_append_any _ rfl (.tmp 64) (.tmp 66) 28 28 rfl (Y + 1) 9 j0 (.string ⟨#[]⟩) 1 16 Tryd.underlying28 hj0 hy0 hy1 hy2 rfl (by decide) (.slice a' q' cp') f (scells ps) rfl HD2.out.2.1 (.slice (some ⟨z1.heap.size, 0, none⟩) 1 1) 1 (scells [d]) rfl HSRC.out ?h1 ?h2 ?h3 ?_)
          case h1 => unfold maxLen; omega
          case h2 => omega
          case h3 => exact HD2.out.2.2
          intro v' z3 hown3 hgrow hfresh
          obtain ⟨a2, q2, cp2, hv'⟩ := Kq.own_shape hown3
          subst hv'
          have hk3 : Kq.Keeps (fun g => w5.heap.size + 1 ≤ g) (z1.alloc (.cells #[.string d] 9)) z3 := Kq.Keeps.grown hgrow (fun g _ hg => by have := own_geB HD2.out.2.1 hg; have := HY.out; omega)
          have HD3 : Hid (Gq C w5 (w.heap.size + 1) (rawL (L.p.drop (f + 1)) ++ lsB (p0.ls.drop (m + 1))) (I : Int) (J : Int) sk sv (.slice a' q' cp') z3 ∧ z3.ownsRow (Y + 1) 9 1 (.slice a2 q2 cp2) (f + 1) (scells (ps ++ [d])) ∧ Y + 1 ≤ z3.heap.size) := Lib.hid ⟨HD2.out.1.far hk3, by rw [scells_snoc]; exact hown3, Nat.le_trans HD2.out.2.2 hk3.size⟩
          clear hown3 hgrow hfresh hk3 HD1 HD2 HSRC c4
          have f4 := HD3.out.1.lb.fz 4
          have c4 := HD3.out.1.lb.c4
          rw [← HY.out] at f4 c4
          have HD4 : Hid (Gq C w5 (w.heap.size + 1) (rawL (L.p.drop (f + 1)) ++ lsB (p0.ls.drop (m + 1))) (I : Int) (J : Int) sk sv (.slice a2 q2 cp2) (z3.setCell ⟨Y, 4, none⟩ (.slice a2 q2 cp2)) ∧ (z3.setCell ⟨Y, 4, none⟩ (.slice a2 q2 cp2)).ownsRow (Y + 1) 9 1 (.slice a2 q2 cp2) (f + 1) (scells (ps ++ [d])) ∧ Y + 1 ≤ (z3.setCell ⟨Y, 4, none⟩ (.slice a2 q2 cp2)).heap.size) := Lib.hid ⟨by have := HD3.out.1.set 4 _ (HD3.out.1.lb.s4 (.slice a2 q2 cp2)); rw [← HY.out] at this; exact this, own_keeps HD3.out.2.1 (Kq.Keeps.setCell (S := (· = Y)) _ _ _ rfl) (fun k hk => by omega), by have := HD3.out.2.2; simpa using this⟩
          go_wp2
          clear f4 c4 HD3
          go_roundw
          case rel => exact ⟨f + 1, ps ++ [d], a2, q2, cp2, HLF.out.1, by have := HLF.out.2.1; omega, by go_num, by rw [List.length_append, HLF.out.2.2.1]; rfl, fun c => by rw [HDD.out c]; exact HDC.out.2 c, HD4.out.2.1, HD4.out.2.2, HD4.out.1⟩
          case measure => have := HLF.out.2.1; simp [intOf]; omega
        · have HPC : Hid ((C → ps = L.p) ∧ (C → rawL (L.p.drop f) ++ lsB (p0.ls.drop (m + 1)) = lsB (p0.ls.drop (m + 1)))) := Lib.hid (by
            have key : C → f = L.p.length := fun c => by
              have h1 := HKN.out.2 c
              have h2 := (HLC.out.1 c).n
              omega
            exact ⟨fun c => by rw [hpc c, key c, List.take_length], fun c => by rw [key c, List.drop_length]; rfl⟩)
          have hrow : ∃ A cap, Value.slice a' q' cp' = .slice A ps.length cap ∧ ps.length ≤ cap ∧ TxN wr (fun g => g < Y + 1) A ps := by
            rw [← hpl] at hown
            exact row_txn hown (fun g hg => by omega)
          obtain ⟨A2, cap2, hs2, hcap2, htx2⟩ := hrow
          injection hs2 with s1 s2 s3
          subst s1 s2 s3
          have HPS5 := Lib.hid (H5.out.read (hge.rd.cast HPC.out.2) hge.keeps)
          have HZ : Hid (TxN wr (fun g => g < X + 1 ∨ some g = (Value.slice a q cp).ownBlock) a' ps ∧ ps.length ≤ cp' ∧ ps.length ≤ 300) := Lib.hid ⟨htx2.mono (fun g _ hg => by
            rcases hg with hg | hg
            · have := H5.out.sz; have := HY.out; omega
            · have := (H5.out.own.lt _ hg.symm).2; have := HY.out; omega), hcap2, by omega⟩
          have HLB := Lib.hid (show LB wr Y (I : Int) (J : Int) sk sv (.slice a' ps.length cp') by rw [HY.out]; exact hge.lb)
          have q0 := HLB.out.c0
          have q1 := HLB.out.c1
          have q2 := HLB.out.c2
          have q3 := HLB.out.c3
          have q4 := HLB.out.c4
          have d1 := HPS5.out.pb.c1
          have HW2 := Lib.hid (HPS5.out.below (Kq.below_alloc wr (.cells #[.int .i64 (I : Int), .int .i64 (J : Int), .string sk, .string sv, .slice a' ps.length cp'] 30)))
          have HZ2 := Lib.hid (And.intro (HZ.out.1.below (Kq.below_alloc wr (.cells #[.int .i64 (I : Int), .int .i64 (J : Int), .string sk, .string sv, .slice a' ps.length cp'] 30))) HZ.out.2)
          have HSRC : Hid (Src Tryd.prog 5 22 (.slice (some ⟨wr.heap.size, 0, none⟩) 1 1) 1 (LfE.flat [⟨⟨(I : Int), (J : Int), sk, sv, ps⟩, a', cp'⟩]) (wr.alloc (.cells #[.int .i64 (I : Int), .int .i64 (J : Int), .string sk, .string sv, .slice a' ps.length cp'] 30))) := Lib.hid ((Kq.Elt.made_one (E := LfE) ⟨⟨(I : Int), (J : Int), sk, sv, ps⟩, a', cp'⟩ wr 30).src Tryd.underlying22 1)
          have hl256 : ls.length ≤ 256 := by omega
          have HTEST : Hid (f < k → ¬ f < 17) := Lib.hid (fun h h' => hlt0 ⟨h, h'⟩)
          have HSNOC : Hid (∀ (z3 : World) (a2 : Option Addr) (q2 cp2 : Nat), z3.ownsRow (X + 1) 30 5 (.slice a2 q2 cp2) (ls.length + 1) (LfE.flat ls ++ LfE.flat [⟨⟨(I : Int), (J : Int), sk, sv, ps⟩, a', cp'⟩]) → (wr.alloc (.cells #[.int .i64 (I : Int), .int .i64 (J : Int), .string sk, .string sv, .slice a' ps.length cp'] 30)).grownBy z3 (Value.slice a q cp).ownBlock → (∀ g, (Value.slice a2 q2 cp2).ownBlock = some g → some g = (Value.slice a q cp).ownBlock ∨ wr.heap.size + 1 ≤ g) →
              Rs C w (w.heap.size + 1) w.heap.size X (lsB (p0.ls.drop (m + 1))) ab a2 q2 cp2 (ls ++ [⟨⟨(I : Int), (J : Int), sk, sv, ps⟩, a', cp'⟩]) (z3.setCell ⟨X, 1, none⟩ (.slice a2 q2 cp2)) ∧ z3.frozen? ⟨X, 1, none⟩ = false ∧ z3.cell? ⟨X, 1, none⟩ = some (.slice a q cp)) := Lib.hid (fun z3 a2 q2 cp2 h1 h2 h3 => by
            refine ⟨HW2.out.snoc (z := ⟨⟨(I : Int), (J : Int), sk, sv, ps⟩, a', cp'⟩) (z3 := z3) HZ2.out (Kq.Keeps.grown h2 (fun g _ hg => hg.symm)) (by rw [LfE.flat_append, List.length_append]; exact h1) (fun g hg => (h3 g hg).imp id (fun h => by simpa using h)), ?_⟩
            have hpb := HW2.out.pb.later (Kq.Keeps.grown h2 (S := fun g => some g = (Value.slice a q cp).ownBlock) (fun g _ hg => hg.symm)) (fun e => by have := own_geB HW2.out.own e.symm; omega)
            exact ⟨hpb.fz 1, hpb.c1⟩)
          have HREL : Hid (C → vals (ls ++ [⟨⟨(I : Int), (J : Int), sk, sv, ps⟩, a', cp'⟩]) = p0.ls.take (m + 1)) := Lib.hid (fun c => by
            rw [← HLC.out.2 c]
            have e : (⟨(I : Int), (J : Int), sk, sv, ps⟩ : LfV) = L := by rw [HIJ.out.1 c, HIJ.out.2 c, HSK.out c, HSV.out c, HPC.out.1 c]
            rw [← e]
            simp [vals])
          clear hcap2 htx2 hge hown hpl hpc hsz hfk hf17 hlt0 HLB
          by_cases hfk : f < k
          · have t1 : decide ((f : Int) < (k : Int)) = true := decide_eq_true (by omega)
            have t2 : decide (f < k) = true := decide_eq_true hfk
            have h17 := HTEST.out hfk
            have t3 : decide ((f : Int) < 17) = false := decide_eq_false (by omega)
            have t4 : decide (f < 17) = false := decide_eq_false h17
            clear hfk h17
            have hmb : m < 3 := HL.out.2.1
            go_wp2_with (at_builtin; refine Kq.wpList_append_any _ rfl (.tmp 70) (.tmp 72) 22 22 rfl (X + 1) 30 i0 (.agg #[.int .i64 0, .int .i64 0, .string ⟨#[]⟩, .string ⟨#[]⟩, .slice none 0 0]) 5 72 Tryd.underlying22 hi0 hz0 hz1 hz2 rfl (by decide) (.slice a q cp) ls.length (LfE.flat ls) rfl HW2.out.own (.slice (some ⟨wr.heap.size, 0, none⟩) 1 1) 1 (LfE.flat [⟨⟨(I : Int), (J : Int), sk, sv, ps⟩, a', cp'⟩]) rfl HSRC.out ?h1 ?h2 ?h3 ?_)
            case h1 => unfold maxLen; omega
            case h2 => omega
            case h3 => exact HW2.out.sz
            intro v' z3 hown3 hgrow hfresh
            obtain ⟨a2, qq2, cp2, hv'⟩ := Kq.own_shape hown3
            subst hv'
            have HS3 := Lib.hid (HSNOC.out z3 a2 qq2 cp2 hown3 hgrow hfresh)
            clear hown3 hgrow hfresh q0 q1 q2 q3 q4 d1 HSNOC HSRC HW2 HZ2
            have f4 := HS3.out.2.1
            have c4 := HS3.out.2.2
            go_wp2
            clear f4 c4
            go_roundw
            case rel => exact ⟨m + 1, ls ++ [⟨⟨(I : Int), (J : Int), sk, sv, ps⟩, a', cp'⟩], a2, qq2, cp2, HL.out.1, by have := HL.out.2.1; omega, by go_num, by have := HL.out.2.2; rw [List.length_append]; simpa using this, HREL.out, HS3.out.1⟩
            case measure => have := HL.out.2.1; simp [intOf]; omega
          · have t1 : decide ((f : Int) < (k : Int)) = false := decide_eq_false (by omega)
            have t2 : decide (f < k) = false := decide_eq_false hfk
            clear hfk
            have hmb : m < 3 := HL.out.2.1
            go_wp2_with (at_builtin; refine Kq.wpList_append_any _ rfl (.tmp 70) (.tmp 72) 22 22 rfl (X + 1) 30 i0 (.agg #[.int .i64 0, .int .i64 0, .string ⟨#[]⟩, .string ⟨#[]⟩, .slice none 0 0]) 5 72 Tryd.underlying22 hi0 hz0 hz1 hz2 rfl (by decide) (.slice a q cp) ls.length (LfE.flat ls) rfl HW2.out.own (.slice (some ⟨wr.heap.size, 0, none⟩) 1 1) 1 (LfE.flat [⟨⟨(I : Int), (J : Int), sk, sv, ps⟩, a', cp'⟩]) rfl HSRC.out ?h1 ?h2 ?h3 ?_)
            case h1 => unfold maxLen; omega
            case h2 => omega
            case h3 => exact HW2.out.sz
            intro v' z3 hown3 hgrow hfresh
            obtain ⟨a2, qq2, cp2, hv'⟩ := Kq.own_shape hown3
            subst hv'
            have HS3 := Lib.hid (HSNOC.out z3 a2 qq2 cp2 hown3 hgrow hfresh)
            clear hown3 hgrow hfresh q0 q1 q2 q3 q4 d1 HSNOC HSRC HW2 HZ2
            have f4 := HS3.out.2.1
            have c4 := HS3.out.2.2
            go_wp2
            clear f4 c4
            go_roundw
            case rel => exact ⟨m + 1, ls ++ [⟨⟨(I : Int), (J : Int), sk, sv, ps⟩, a', cp'⟩], a2, qq2, cp2, HL.out.1, by have := HL.out.2.1; omega, by go_num, by have := HL.out.2.2; rw [List.length_append]; simpa using this, HREL.out, HS3.out.1⟩
            case measure => have := HL.out.2.1; simp [intOf]; omega
    · skip
      have HLF := Lib.hid hps.lfs
      have HPS := Lib.hid hps
      have HPA : Hid (∀ x ∈ ls, x.l.p.length ≤ 1000) := Lib.hid (fun x hx => by have := (hps.pa x hx).2.2; omega)
      have c0 := hps.pb.c0
      have c1 := hps.pb.c1
      have HVL : Hid (C → vals ls = p0.ls) := Lib.hid (fun c => by
        have h1 := HN.out.2 c
        have h2 := (HP.out c).1.1
        rw [hlc c, show m = p0.ls.length by omega, List.take_length])
      have HTEST : Hid (m < n → ¬ m < 3) := Lib.hid (fun h h' => hlt0 ⟨h, h'⟩)
      have hl1000 : ls.length ≤ 1000 := by omega
      obtain rfl : q = ls.length := HLF.out.1
      clear hps hlc hmn hll hlt0 hm3
      have HBY := Lib.hid (rq_bytes _ ab a cp ls wr HLF.out.2.2 hl1000 HPA.out)
      obtain ⟨r, hr⟩ : ∃ r, r = pfBytes ⟨ab, vals ls⟩ := ⟨_, rfl⟩
      rw [← hr] at HBY
      have HR := Lib.hid hr
      clear hr
      obtain ⟨t, e⟩ := r
      by_cases hmn : m < n
      · have t1 : decide ((m : Int) < (n : Int)) = true := decide_eq_true (by omega)
        have t2 : decide (m < n) = true := decide_eq_true hmn
        have h3 := HTEST.out hmn
        have t3 : decide ((m : Int) < 3) = false := decide_eq_false (by omega)
        have t4 : decide (m < 3) = false := decide_eq_false h3
        clear hmn h3
        go_wp2_with fail
        refine HBY.out.mono ?_
        rintro x w5 ⟨rfl, b5⟩
        have H5 : Hid (Rs C w (w.heap.size + 1) w.heap.size X (lsB (p0.ls.drop m)) ab a ls.length cp ls w5) := Lib.hid (HPS.out.below b5)
        clear b5 HBY c0 c1 HPS
        have g0 := H5.out.rb.fz 0
        have g1 := H5.out.rb.fz 1
        have r0 := H5.out.rb.c0
        have r1 := H5.out.rb.c1
        have c0 := H5.out.pb.c0
        have c1 := H5.out.pb.c1
        by_cases hC : C
        · have hm0 := HP.out hC
          have hvl : (⟨ab, vals ls⟩ : PfV) = p0 := by rw [HAB.out hC, HVL.out hC]
          have HRES : Hid (pfParse s = (p0, 0) ∧ t = s ∧ e = 0) := Lib.hid ⟨pfParse_some hm0.1 hm0.2, by
            have h1 := HR.out
            rw [hvl, again_yes hm0.1 hm0.2] at h1
            injection h1 with h1 h2
            exact ⟨h1, h2⟩⟩
          have HV := Lib.hid hvl
          clear hm0 hvl hC
          obtain ⟨-, rfl, rfl⟩ := HRES.out
          have e1 : (t.toList != t.toList) = false := by simp
          go_wp2
          have p1 := H5.out.rb.fill ab (.slice a ls.length cp)
          have p2 := filled2_keeps w5 w.heap.size ab (.slice a ls.length cp)
          obtain ⟨Wf, hWf⟩ : ∃ Wf, Wf = filled2 w5 w.heap.size ab (.slice a ls.length cp) := ⟨_, rfl⟩
          change bodyPost _ _ _ _ _ (filled2 w5 w.heap.size ab (.slice a ls.length cp))
          rw [← hWf] at p1 p2 ⊢
          have z0 := p1.c0
          have z1 := p1.c1
          refine bodyPost_ret (v := .tuple #[.agg #[.bool ab, .slice a ls.length cp], .int .i64 0]) (by simp [results, Tryd.results13, go_sem, z0, z1]) rfl ?_
          refine PfPost.mk' ls rfl ?_ HLF.out.2.1 ?_ (below_far H5.out.bel p2 (Nat.le_refl _) (fun k _ hk => by omega)) (ab := ab) (e := 0) ?_ ?_ rfl
          · rw [HRES.out.1]; show vals ls = p0.ls; rw [← HV.out]
          · exact (H5.out.lfs.2.2.keeps p2 (fun k _ hk => by have := H5.out.ne3; omega)).mono (fun k _ hk => by have := H5.out.ne3; have := H5.out.ne; omega)
          · rw [HRES.out.1]; show ab = p0.ab; rw [← HV.out]
          · rw [HRES.out.1]
        · have HRES : Hid (pfParse s = (⟨false, []⟩, 5) ∧ ¬ (e = 0 ∧ t = s)) := Lib.hid ⟨isPf_no (fun h => hC (by rw [HC.out]; exact h)), fun h => again_no (p := ⟨ab, vals ls⟩) (fun h => hC (by rw [HC.out]; exact h)) (by rw [← HR.out]; exact h)⟩
          have HEND : Hid (∀ x, x = .returned (.tuple #[.agg #[.bool false, .slice none 0 0], .int .i64 5]) → PfPost w (pfParse s) x (filled2 w5 w.heap.size false (.slice none 0 0))) := Lib.hid (fun x hx => by
            have p2 := filled2_keeps w5 w.heap.size false (.slice none 0 0)
            exact PfPost.mk' (A := none) (q := 0) (cap := 0) [] rfl (by rw [HRES.out.1]; rfl) (Nat.le_refl _) LfsN.nil (below_far H5.out.bel p2 (Nat.le_refl _) (fun k _ hk => by omega)) (ab := false) (e := 5) (by rw [HRES.out.1]) (by rw [HRES.out.1]) hx)
          have p1 := Lib.hid (H5.out.rb.fill false (.slice none 0 0))
          have hcase := HRES.out.2
          clear hC HRES
          by_cases he : e = 0
          · subst he
            have ht : ¬ t = s := fun h => hcase ⟨rfl, h⟩
            have e1 : (t.toList != s.toList) = true := by rw [bne_iff_ne]; exact fun h => ht (toList_inj h)
            have e2 : (t.toList == s.toList) = false := by rw [beq_eq_false_iff_ne]; exact fun h => ht (toList_inj h)
            clear hcase ht
            go_wp2
            obtain ⟨Wf, hWf⟩ : ∃ Wf, Wf = filled2 w5 w.heap.size false (.slice none 0 0) := ⟨_, rfl⟩
            change bodyPost _ _ _ _ _ (filled2 w5 w.heap.size false (.slice none 0 0))
            rw [← hWf] at p1 HEND ⊢
            have z0 := p1.out.c0
            have z1 := p1.out.c1
            refine bodyPost_ret (v := .tuple #[.agg #[.bool false, .slice none 0 0], .int .i64 5]) (by simp [results, Tryd.results13, go_sem, z0, z1]) rfl ?_
            exact HEND.out _ rfl
          · have e1 : (e != 0) = true := by rw [bne_iff_ne]; exact he
            clear hcase he
            go_wp2
            obtain ⟨Wf, hWf⟩ : ∃ Wf, Wf = filled2 w5 w.heap.size false (.slice none 0 0) := ⟨_, rfl⟩
            change bodyPost _ _ _ _ _ (filled2 w5 w.heap.size false (.slice none 0 0))
            rw [← hWf] at p1 HEND ⊢
            have z0 := p1.out.c0
            have z1 := p1.out.c1
            refine bodyPost_ret (v := .tuple #[.agg #[.bool false, .slice none 0 0], .int .i64 5]) (by simp [results, Tryd.results13, go_sem, z0, z1]) rfl ?_
            exact HEND.out _ rfl
      · have t1 : decide ((m : Int) < (n : Int)) = false := decide_eq_false (by omega)
        have t2 : decide (m < n) = false := decide_eq_false hmn
        clear hmn
        go_wp2_with fail
        refine HBY.out.mono ?_
        rintro x w5 ⟨rfl, b5⟩
        have H5 : Hid (Rs C w (w.heap.size + 1) w.heap.size X (lsB (p0.ls.drop m)) ab a ls.length cp ls w5) := Lib.hid (HPS.out.below b5)
        clear b5 HBY c0 c1 HPS
        have g0 := H5.out.rb.fz 0
        have g1 := H5.out.rb.fz 1
        have r0 := H5.out.rb.c0
        have r1 := H5.out.rb.c1
        have c0 := H5.out.pb.c0
        have c1 := H5.out.pb.c1
        by_cases hC : C
        · have hm0 := HP.out hC
          have hvl : (⟨ab, vals ls⟩ : PfV) = p0 := by rw [HAB.out hC, HVL.out hC]
          have HRES : Hid (pfParse s = (p0, 0) ∧ t = s ∧ e = 0) := Lib.hid ⟨pfParse_some hm0.1 hm0.2, by
            have h1 := HR.out
            rw [hvl, again_yes hm0.1 hm0.2] at h1
            injection h1 with h1 h2
            exact ⟨h1, h2⟩⟩
          have HV := Lib.hid hvl
          clear hm0 hvl hC
          obtain ⟨-, rfl, rfl⟩ := HRES.out
          have e1 : (t.toList != t.toList) = false := by simp
          go_wp2
          have p1 := H5.out.rb.fill ab (.slice a ls.length cp)
          have p2 := filled2_keeps w5 w.heap.size ab (.slice a ls.length cp)
          obtain ⟨Wf, hWf⟩ : ∃ Wf, Wf = filled2 w5 w.heap.size ab (.slice a ls.length cp) := ⟨_, rfl⟩
          change bodyPost _ _ _ _ _ (filled2 w5 w.heap.size ab (.slice a ls.length cp))
          rw [← hWf] at p1 p2 ⊢
          have z0 := p1.c0
          have z1 := p1.c1
          refine bodyPost_ret (v := .tuple #[.agg #[.bool ab, .slice a ls.length cp], .int .i64 0]) (by simp [results, Tryd.results13, go_sem, z0, z1]) rfl ?_
          refine PfPost.mk' ls rfl ?_ HLF.out.2.1 ?_ (below_far H5.out.bel p2 (Nat.le_refl _) (fun k _ hk => by omega)) (ab := ab) (e := 0) ?_ ?_ rfl
          · rw [HRES.out.1]; show vals ls = p0.ls; rw [← HV.out]
          · exact (H5.out.lfs.2.2.keeps p2 (fun k _ hk => by have := H5.out.ne3; omega)).mono (fun k _ hk => by have := H5.out.ne3; have := H5.out.ne; omega)
          · rw [HRES.out.1]; show ab = p0.ab; rw [← HV.out]
          · rw [HRES.out.1]
        · have HRES : Hid (pfParse s = (⟨false, []⟩, 5) ∧ ¬ (e = 0 ∧ t = s)) := Lib.hid ⟨isPf_no (fun h => hC (by rw [HC.out]; exact h)), fun h => again_no (p := ⟨ab, vals ls⟩) (fun h => hC (by rw [HC.out]; exact h)) (by rw [← HR.out]; exact h)⟩
          have HEND : Hid (∀ x, x = .returned (.tuple #[.agg #[.bool false, .slice none 0 0], .int .i64 5]) → PfPost w (pfParse s) x (filled2 w5 w.heap.size false (.slice none 0 0))) := Lib.hid (fun x hx => by
            have p2 := filled2_keeps w5 w.heap.size false (.slice none 0 0)
            exact PfPost.mk' (A := none) (q := 0) (cap := 0) [] rfl (by rw [HRES.out.1]; rfl) (Nat.le_refl _) LfsN.nil (below_far H5.out.bel p2 (Nat.le_refl _) (fun k _ hk => by omega)) (ab := false) (e := 5) (by rw [HRES.out.1]) (by rw [HRES.out.1]) hx)
          have p1 := Lib.hid (H5.out.rb.fill false (.slice none 0 0))
          have hcase := HRES.out.2
          clear hC HRES
          by_cases he : e = 0
          · subst he
            have ht : ¬ t = s := fun h => hcase ⟨rfl, h⟩
            have e1 : (t.toList != s.toList) = true := by rw [bne_iff_ne]; exact fun h => ht (toList_inj h)
            have e2 : (t.toList == s.toList) = false := by rw [beq_eq_false_iff_ne]; exact fun h => ht (toList_inj h)
            clear hcase ht
            go_wp2
            obtain ⟨Wf, hWf⟩ : ∃ Wf, Wf = filled2 w5 w.heap.size false (.slice none 0 0) := ⟨_, rfl⟩
            change bodyPost _ _ _ _ _ (filled2 w5 w.heap.size false (.slice none 0 0))
            rw [← hWf] at p1 HEND ⊢
            have z0 := p1.out.c0
            have z1 := p1.out.c1
            refine bodyPost_ret (v := .tuple #[.agg #[.bool false, .slice none 0 0], .int .i64 5]) (by simp [results, Tryd.results13, go_sem, z0, z1]) rfl ?_
            exact HEND.out _ rfl
          · have e1 : (e != 0) = true := by rw [bne_iff_ne]; exact he
            clear hcase he
            go_wp2
            obtain ⟨Wf, hWf⟩ : ∃ Wf, Wf = filled2 w5 w.heap.size false (.slice none 0 0) := ⟨_, rfl⟩
            change bodyPost _ _ _ _ _ (filled2 w5 w.heap.size false (.slice none 0 0))
            rw [← hWf] at p1 HEND ⊢
            have z0 := p1.out.c0
            have z1 := p1.out.c1
            refine bodyPost_ret (v := .tuple #[.agg #[.bool false, .slice none 0 0], .int .i64 5]) (by simp [results, Tryd.results13, go_sem, z0, z1]) rfl ?_
            exact HEND.out _ rfl
end Go.Proofs.YtclloplkbajebaaDoor
