/- Merged: PfQ, PfQ2. Contracts of proof.Present, proof.Absent. Condition: sizes; the constants lie where they lie. Contract of proof.Absent. Condition: sizes; the constants lie where they lie. -/
import Derived.WalkSpells
import Derived.Outline
import Derived.Test.YtclloplkbajebaaDoorPfFQ
import Derived.Test.YtclloplkbajebaaDoorPfPwQ
import Derived.Test.YtclloplkbajebaaDoorPfCQ
namespace Go.Proofs.YtclloplkbajebaaDoor
open Go.RowKit
set_option linter.unusedVariables false
def presV (l : List PairV) (key : ByteArray) : PfV × Int := if isIn l key = true then (pfHas l key, 0) else (⟨false, []⟩, 3)
def absV (l : List PairV) (key : ByteArray) : PfV × Int := if isKeyB key = false then (⟨false, []⟩, 1) else if isIn l key = true then (⟨false, []⟩, 4) else (pfNot l key, 0)
theorem made_leaves (ls : List LfW) (w : World) {W : Nat} (hW : W ≤ w.heap.size) (h : ∀ z ∈ ls, TxN w (fun k => k < W) z.a z.l.p ∧ z.l.p.length ≤ z.cap) :
    LfsN (w.alloc (.cells (LfE.flat ls).toArray 30)) (fun k => k < W) (some ⟨w.heap.size, 0, none⟩) ls := by
  refine LfsN.of (fun i hi => ⟨_, 0, rfl, by simp, fun j hj => ?_⟩) (fun b off e _ => ?_) (fun z hz => ⟨(h z hz).1.below (Kq.below_alloc _ _), (h z hz).2⟩)
  · rw [Nat.zero_add, Kq.blk_cell (Kq.blk_new w _ _ _), List.getElem?_toArray]
    exact LfE.flat_at ls i hi j hj
  · simp only [Option.some.injEq, Addr.mk.injEq] at e
    omega
theorem pf_endP {w w5 : World} {r : PfV × Int} {A : Option Addr} {q cap : Nat} {ls : List LfW} {ab : Bool} {e : Int} (hq : q = ls.length) (hcap : ls.length ≤ cap) (hv : vals ls = r.1.ls) (hab : ab = r.1.ab) (he : e = r.2) (hA : LfsN w5 (fun k => k < w.heap.size + 1) A ls) (hb : Below w.heap.size w w5) {x : Ending} (hx : x = .returned (.tuple #[.agg #[.bool ab, .slice A q cap], .int .i64 e])) :
    PfPost w r x (filled2 w5 w.heap.size ab (.slice A q cap)) := by
  have p2 := filled2_keeps w5 w.heap.size ab (.slice A q cap)
  exact PfPost.mk' ls hq hv hcap ((hA.keeps p2 (fun k _ hk => by omega)).mono (fun k _ hk => by omega)) (below_far hb p2 (Nat.le_refl _) (fun k _ hk => by omega)) hab he hx
theorem pk_start (w : World) : Below w.heap.size w (w.alloc (.cells #[.bool false, .slice none 0 0] 24)) ∧ PBk (w.alloc (.cells #[.bool false, .slice none 0 0] 24)) w.heap.size false (.slice none 0 0) := ⟨Kq.below_alloc _ _, ⟨Kq.blk_new _ _ _ _⟩⟩
/-- what stands while a proof is made: the list, the constants, the result's block -/
structure Pm (w : World) (l : List PairV) (A : Option Addr) (w' : World) : Prop where
  bel : Below w.heap.size w w'
  rb : PBk w' w.heap.size false (.slice none 0 0)
  a : PsAt w' A l
  lk : LaidOk w'
theorem Pm.below {w w' w2 : World} {l : List PairV} {A : Option Addr} (h : Pm w l A w') (hb : Below w'.heap.size w' w2) : Pm w l A w2 := ⟨h.bel.trans (hb.mono h.bel.size), h.rb.below hb, h.a.below hb, h.lk.later hb⟩
theorem Pm.start {w : World} {l : List PairV} {A : Option Addr} (hA : PsAt w A l) (hL : LaidOk w) : Pm w l A (w.alloc (.cells #[.bool false, .slice none 0 0] 24)) := ⟨(pk_start w).1, (pk_start w).2, hA.below (pk_start w).1, hL.later (pk_start w).1⟩
set_option maxRecDepth 100000 in
set_option maxHeartbeats 2000000 in
theorem pf_present (l : List PairV) (A : Option Addr) (cap : Nat) (key : ByteArray) (w : World) (hn : l.length ≤ 1000) (hs : SortL l) (hf : Fit l) (hA : PsAt w A l) (hL : LaidOk w) (hcap : l.length ≤ cap) :
    Calls Tryd.prog 17 #[.slice A l.length cap, .string key] w (PfPost w (presV l key)) := by
  have H0 := Lib.hid (Pm.start hA hL)
  have HF := Lib.hid (fun w' h => pf_find l A cap key w' hn hs h)
  have HLF := Lib.hid (fun i w' h1 h2 h3 => pf_leaf l A cap i w' hn hf h1 h2 hcap h3)
  have HI := Lib.hid (fun (h : isIn l key = true) => (of_decide_eq_true h).choose)
  have HN := Lib.hid hn
  obtain ⟨RV, hRV⟩ : ∃ RV, RV = presV l key := ⟨_, rfl⟩
  rw [← hRV]
  have HRV := Lib.hid hRV
  clear hA hL hs hf hcap hRV
  go_enter Tryd.func17, Tryd.ntmps17
  go_wp2_with fail
  refine (HF.out _ H0.out.a).mono ?_
  rintro x w2 ⟨rfl, b2⟩
  have H2 := Lib.hid (H0.out.below b2)
  clear b2 H0 HF
  obtain ⟨is, his⟩ : ∃ is, is = isIn l key := ⟨_, rfl⟩
  rw [← his]
  have HIS := Lib.hid his
  clear his
  have r0 := H2.out.rb.c0
  have r1 := H2.out.rb.c1
  have g0 := H2.out.rb.fz 0
  have g1 := H2.out.rb.fz 1
  cases is with
  | false =>
    have HE : Hid (RV = (⟨false, []⟩, 3)) := Lib.hid (by rw [HRV.out]; unfold presV; rw [← HIS.out]; rfl)
    have HEND : Hid (∀ x, x = .returned (.tuple #[.agg #[.bool false, .slice none 0 0], .int .i64 3]) → PfPost w RV x (filled2 w2 w.heap.size false (.slice none 0 0))) := Lib.hid (fun x hx => by
      rw [HE.out]
      exact pf_endP (ls := []) rfl (Nat.le_refl _) rfl rfl rfl LfsN.nil H2.out.bel hx)
    have p1 := Lib.hid (H2.out.rb.fill false (.slice none 0 0))
    go_wp2
    obtain ⟨Wf, hWf⟩ : ∃ Wf, Wf = filled2 w2 w.heap.size false (.slice none 0 0) := ⟨_, rfl⟩
    change bodyPost _ _ _ _ _ (filled2 w2 w.heap.size false (.slice none 0 0))
    rw [← hWf] at p1 HEND ⊢
    have z0 := p1.out.c0
    have z1 := p1.out.c1
    refine bodyPost_ret (v := .tuple #[.agg #[.bool false, .slice none 0 0], .int .i64 3]) (by simp [results, Tryd.results17, go_sem, z0, z1]) rfl ?_
    exact HEND.out _ rfl
  | true =>
    have hp := HI.out HIS.out.symm
    have HP := Lib.hid hp
    have HE : Hid (RV = (⟨false, [mkLf l (plc l key)]⟩, 0)) := Lib.hid (by rw [HRV.out]; unfold presV; rw [← HIS.out]; rfl)
    obtain ⟨p, hpp⟩ : ∃ p, p = plc l key := ⟨_, rfl⟩
    rw [← hpp] at HP HE ⊢
    clear hp hpp HI HIS
    go_wp2_with fail
    refine (HLF.out p w2 H2.out.a H2.out.lk HP.out).mono ?_
    rintro x w3 ⟨z, hz, rfl, htx, hzc, b3⟩
    have hW : w.heap.size + 1 ≤ w2.heap.size := H2.out.rb.lt
    have HZ := Lib.hid hz
    have H3 := Lib.hid (H2.out.below b3)
    have HML := Lib.hid (made_leaves [z] w3 (W := w.heap.size + 1) (Nat.le_trans hW b3.size) (fun y hy => by rw [List.mem_singleton] at hy; rw [hy]; exact ⟨htx.mono (fun k _ hk => by omega), hzc⟩))
    have hba := Kq.below_alloc w3 (.cells (LfE.flat [z]).toArray 30)
    have H4 := Lib.hid (H3.out.below hba)
    clear b3 H2 HLF hW hz htx hzc r0 r1 g0 g1 hba H3
    obtain ⟨⟨i, c, k, v, ps⟩, za, zc⟩ := z
    simp only [LfW.val, LfE, Kq.Elt.flat, LfW.cells, List.flatMap_cons, List.flatMap_nil, List.append_nil] at HML H4 ⊢
    go_wp2_with fail
    refine (pf_of false _ 1 1 _).mono ?_
    rintro x w5 ⟨rfl, b5⟩
    have H5 := Lib.hid (H4.out.below b5)
    have HML5 := Lib.hid (HML.out.below b5)
    clear b5 H4 HML
    have r0 := H5.out.rb.c0
    have r1 := H5.out.rb.c1
    have g0 := H5.out.rb.fz 0
    have g1 := H5.out.rb.fz 1
    have HEND : Hid (∀ x, x = .returned (.tuple #[.agg #[.bool false, .slice (some ⟨w3.heap.size, 0, none⟩) 1 1], .int .i64 0]) → PfPost w RV x (filled2 w5 w.heap.size false (.slice (some ⟨w3.heap.size, 0, none⟩) 1 1))) := Lib.hid (fun x hx => by
      rw [HE.out]
      exact pf_endP (ls := [⟨⟨i, c, k, v, ps⟩, za, zc⟩]) rfl (Nat.le_refl _) (by rw [← HZ.out]; rfl) rfl rfl HML5.out H5.out.bel hx)
    have p1 := Lib.hid (H5.out.rb.fill false (.slice (some ⟨w3.heap.size, 0, none⟩) 1 1))
    go_wp2
    obtain ⟨Wf, hWf⟩ : ∃ Wf, Wf = filled2 w5 w.heap.size false (.slice (some ⟨w3.heap.size, 0, none⟩) 1 1) := ⟨_, rfl⟩
    change bodyPost _ _ _ _ _ (filled2 w5 w.heap.size false (.slice (some ⟨w3.heap.size, 0, none⟩) 1 1))
    rw [← hWf] at p1 HEND ⊢
    have z0 := p1.out.c0
    have z1 := p1.out.c1
    refine bodyPost_ret (v := .tuple #[.agg #[.bool false, .slice (some ⟨w3.heap.size, 0, none⟩) 1 1], .int .i64 0]) (by simp [results, Tryd.results17, go_sem, z0, z1]) rfl ?_
    exact HEND.out _ rfl
end Go.Proofs.YtclloplkbajebaaDoor
namespace Go.Proofs.YtclloplkbajebaaDoor
open Go.RowKit
set_option linter.unusedVariables false
theorem absV_key {l : List PairV} {key : ByteArray} (h : isKeyB key = false) : absV l key = (⟨false, []⟩, 1) := if_pos h
theorem absV_in {l : List PairV} {key : ByteArray} (h : isKeyB key = true) (h2 : isIn l key = true) : absV l key = (⟨false, []⟩, 4) := by unfold absV; rw [if_neg (by rw [h]; decide), if_pos h2]
theorem absV_ok {l : List PairV} {key : ByteArray} (h : isKeyB key = true) (h2 : isIn l key = false) : absV l key = (pfNot l key, 0) := by unfold absV; rw [if_neg (by rw [h]; decide), if_neg (by rw [h2]; decide)]
set_option maxRecDepth 100000 in
set_option maxHeartbeats 1000000 in
theorem pf_absent (l : List PairV) (A : Option Addr) (cap : Nat) (key : ByteArray) (w : World) (hn : l.length ≤ 1000) (hs : SortL l) (hf : Fit l) (hA : PsAt w A l) (hL : LaidOk w) (hcap : l.length ≤ cap) :
    Calls Tryd.prog 19 #[.slice A l.length cap, .string key] w (PfPost w (absV l key)) := by
  have H0 := Lib.hid (Pm.start hA hL)
  have HF := Lib.hid (fun w' h => pf_find l A cap key w' hn hs h)
  have HK := Lib.hid (fun w' => pf_isKey key w')
  have HLF := Lib.hid (fun i w' h1 h2 h3 => pf_leaf l A cap i w' hn hf h1 h2 hcap h3)
  have HPN : Hid (pfNot l key = ⟨true, (if plc l key = 0 then [] else [mkLf l (plc l key - 1)]) ++ (if plc l key < l.length then [mkLf l (plc l key)] else [])⟩) := Lib.hid rfl
  have HPL := Lib.hid (plc_le l key)
  have HN := Lib.hid hn
  obtain ⟨RV, hRV⟩ : ∃ RV, RV = absV l key := ⟨_, rfl⟩
  rw [← hRV]
  have HRV := Lib.hid hRV
  obtain ⟨KB, hKB⟩ : ∃ KB, KB = isKeyB key := ⟨_, rfl⟩
  have HKB := Lib.hid hKB
  rw [← hKB] at HK
  clear hA hL hs hf hcap hRV hKB hn
  go_enter Tryd.func19, Tryd.ntmps19
  go_wp2_with fail
  refine (HK.out _).mono ?_
  rintro x w1 ⟨rfl, rfl⟩
  cases KB with
  | false =>
    have HE : Hid (RV = (⟨false, []⟩, 1)) := Lib.hid (by rw [HRV.out]; exact absV_key HKB.out.symm)
    have HEND : Hid (∀ x, x = .returned (.tuple #[.agg #[.bool false, .slice none 0 0], .int .i64 1]) → PfPost w RV x (w.alloc (.cells #[.bool false, .slice none 0 0] 24))) := Lib.hid (fun x hx => by
      rw [HE.out]
      exact PfPost.mk' (A := none) (q := 0) (cap := 0) [] rfl rfl (Nat.le_refl _) LfsN.nil (pk_start w).1 (ab := false) (e := 1) rfl rfl hx)
    have z0 := (pk_start w).2.c0
    have z1 := (pk_start w).2.c1
    go_wp2
    refine bodyPost_ret (v := .tuple #[.agg #[.bool false, .slice none 0 0], .int .i64 1]) (by simp [results, Tryd.results19, go_sem, z0, z1]) rfl ?_
    exact HEND.out _ rfl
  | true =>
    go_wp2_with fail
    refine (HF.out _ H0.out.a).mono ?_
    rintro x w2 ⟨rfl, b2⟩
    have H2 := Lib.hid (H0.out.below b2)
    clear b2 H0 HF
    obtain ⟨is, his⟩ : ∃ is, is = isIn l key := ⟨_, rfl⟩
    rw [← his]
    have HIS := Lib.hid his
    have hW : Hid (w.heap.size + 1 ≤ w2.heap.size) := Lib.hid H2.out.rb.lt
    clear his
    have r0 := H2.out.rb.c0
    have r1 := H2.out.rb.c1
    have g0 := H2.out.rb.fz 0
    have g1 := H2.out.rb.fz 1
    cases is with
    | true =>
      have HE : Hid (RV = (⟨false, []⟩, 4)) := Lib.hid (by rw [HRV.out]; exact absV_in HKB.out.symm HIS.out.symm)
      have HEND : Hid (∀ x, x = .returned (.tuple #[.agg #[.bool false, .slice none 0 0], .int .i64 4]) → PfPost w RV x (filled2 w2 w.heap.size false (.slice none 0 0))) := Lib.hid (fun x hx => by
        rw [HE.out]
        exact pf_endP (ls := []) rfl (Nat.le_refl _) rfl rfl rfl LfsN.nil H2.out.bel hx)
      have p1 := Lib.hid (H2.out.rb.fill false (.slice none 0 0))
      go_wp2
      obtain ⟨Wf, hWf⟩ : ∃ Wf, Wf = filled2 (w2) w.heap.size false (.slice none 0 0) := ⟨_, rfl⟩
      change bodyPost _ _ _ _ _ (filled2 (w2) w.heap.size false (.slice none 0 0))
      rw [← hWf] at p1 HEND ⊢
      have z0 := p1.out.c0
      have z1 := p1.out.c1
      refine bodyPost_ret (v := .tuple #[.agg #[.bool false, .slice none 0 0], .int .i64 4]) (by simp [results, Tryd.results19, go_sem, z0, z1]) rfl ?_
      exact HEND.out _ rfl
    | false =>
      have HE0 : Hid (RV = (pfNot l key, 0)) := Lib.hid (by rw [HRV.out]; exact absV_ok HKB.out.symm HIS.out.symm)
      obtain ⟨p, hpp⟩ : ∃ p, p = plc l key := ⟨_, rfl⟩
      rw [← hpp] at HPN HPL ⊢
      clear hpp HRV HIS HKB HK
      have hn' := HN.out
      have hpl := HPL.out
      obtain ⟨n, hnn⟩ : ∃ n, n = l.length := ⟨_, rfl⟩
      rw [← hnn] at HPN hn' hpl HLF ⊢
      have HNN := Lib.hid hnn
      clear hnn
      by_cases hn0 : n = 0
      · have HE : Hid (RV = (⟨true, []⟩, 0)) := Lib.hid (by rw [HE0.out, HPN.out, if_pos (by omega), if_neg (by omega)]; rfl)
        have e1 : ((n : Int) == 0) = true := by rw [beq_iff_eq]; omega
        clear hn0 r0 r1 g0 g1
        go_wp2_with fail
        refine (pf_of true none 0 0 _).mono ?_
        rintro x w5 ⟨rfl, b5⟩
        have H5 := Lib.hid (H2.out.below b5)
        clear b5 H2
        have r0 := H5.out.rb.c0
        have r1 := H5.out.rb.c1
        have g0 := H5.out.rb.fz 0
        have g1 := H5.out.rb.fz 1
        have HEND : Hid (∀ x, x = .returned (.tuple #[.agg #[.bool true, .slice none 0 0], .int .i64 0]) → PfPost w RV x (filled2 w5 w.heap.size true (.slice none 0 0))) := Lib.hid (fun x hx => by
          rw [HE.out]
          exact pf_endP (ls := []) rfl (Nat.le_refl _) rfl rfl rfl LfsN.nil H5.out.bel hx)
        have p1 := Lib.hid (H5.out.rb.fill true (.slice none 0 0))
        go_wp2
        obtain ⟨Wf, hWf⟩ : ∃ Wf, Wf = filled2 (w5) w.heap.size true (.slice none 0 0) := ⟨_, rfl⟩
        change bodyPost _ _ _ _ _ (filled2 (w5) w.heap.size true (.slice none 0 0))
        rw [← hWf] at p1 HEND ⊢
        have z0 := p1.out.c0
        have z1 := p1.out.c1
        refine bodyPost_ret (v := .tuple #[.agg #[.bool true, .slice none 0 0], .int .i64 0]) (by simp [results, Tryd.results19, go_sem, z0, z1]) rfl ?_
        exact HEND.out _ rfl
      · have e1 : ((n : Int) == 0) = false := by rw [beq_eq_false_iff_ne]; omega
        by_cases hp0 : p = 0
        · subst hp0
          have HE : Hid (RV = (⟨true, [mkLf l 0]⟩, 0)) := Lib.hid (by rw [HE0.out, HPN.out, if_pos rfl, if_pos (by omega)]; rfl)
          have HX : Hid (0 < n) := Lib.hid (by omega)
          clear r0 r1 g0 g1
          go_wp2_with fail
          refine (HLF.out 0 w2 H2.out.a H2.out.lk HX.out).mono ?_
          rintro x w3 ⟨z, hz, rfl, htx, hzc, b3⟩
          have HZ := Lib.hid hz
          have H3 := Lib.hid (H2.out.below b3)
          have HML := Lib.hid (made_leaves [z] w3 (W := w.heap.size + 1) (Nat.le_trans hW.out b3.size) (fun y hy => by rw [List.mem_singleton] at hy; rw [hy]; exact ⟨htx.mono (fun k _ hk => by have := hW.out; omega), hzc⟩))
          have hba := Kq.below_alloc w3 (.cells (LfE.flat [z]).toArray 30)
          have H4 := Lib.hid (H3.out.below hba)
          clear b3 H2 HLF hz htx hzc hba H3
          obtain ⟨⟨i, c, k, v, ps⟩, za, zc⟩ := z
          simp only [LfW.val, LfE, Kq.Elt.flat, LfW.cells, List.flatMap_cons, List.flatMap_nil, List.append_nil] at HML H4 ⊢
          go_wp2_with fail
          refine (pf_of true _ 1 1 _).mono ?_
          rintro x w5 ⟨rfl, b5⟩
          have H5 := Lib.hid (H4.out.below b5)
          have HML5 := Lib.hid (HML.out.below b5)
          clear b5 H4 HML
          have r0 := H5.out.rb.c0
          have r1 := H5.out.rb.c1
          have g0 := H5.out.rb.fz 0
          have g1 := H5.out.rb.fz 1
          have HEND : Hid (∀ x, x = .returned (.tuple #[.agg #[.bool true, .slice (some ⟨w3.heap.size, 0, none⟩) 1 1], .int .i64 0]) → PfPost w RV x (filled2 w5 w.heap.size true (.slice (some ⟨w3.heap.size, 0, none⟩) 1 1))) := Lib.hid (fun x hx => by
            rw [HE.out]
            exact pf_endP (ls := [⟨⟨i, c, k, v, ps⟩, za, zc⟩]) rfl (Nat.le_refl _) (by rw [← HZ.out]; rfl) rfl rfl HML5.out H5.out.bel hx)
          have p1 := Lib.hid (H5.out.rb.fill true (.slice (some ⟨w3.heap.size, 0, none⟩) 1 1))
          go_wp2
          obtain ⟨Wf, hWf⟩ : ∃ Wf, Wf = filled2 (w5) w.heap.size true (.slice (some ⟨w3.heap.size, 0, none⟩) 1 1) := ⟨_, rfl⟩
          change bodyPost _ _ _ _ _ (filled2 (w5) w.heap.size true (.slice (some ⟨w3.heap.size, 0, none⟩) 1 1))
          rw [← hWf] at p1 HEND ⊢
          have z0 := p1.out.c0
          have z1 := p1.out.c1
          refine bodyPost_ret (v := .tuple #[.agg #[.bool true, .slice (some ⟨w3.heap.size, 0, none⟩) 1 1], .int .i64 0]) (by simp [results, Tryd.results19, go_sem, z0, z1]) rfl ?_
          exact HEND.out _ rfl
        · have e2 : ((p : Int) == 0) = false := by rw [beq_eq_false_iff_ne]; omega
          obtain ⟨q, hq⟩ : ∃ q, q = p - 1 := ⟨_, rfl⟩
          have HQ := Lib.hid hq
          have hw1 : IntKind.i64.wrap ((p : Int) - 1) = (q : Int) := by rw [IntWalk.i64_in _ (by omega)]; omega
          have hw2 : (p : Int) - 1 = (q : Int) := by omega
          have HX : Hid (q < n) := Lib.hid (by omega)
          have HP1 : Hid (1 ≤ p) := Lib.hid (by omega)
          clear hq
          by_cases hpn : p = n
          · have HE : Hid (RV = (⟨true, [mkLf l q]⟩, 0)) := Lib.hid (by rw [HE0.out, HPN.out, if_neg hp0, if_neg (by omega), HQ.out]; rfl)
            have e3 : ((p : Int) == (n : Int)) = true := by rw [beq_iff_eq]; omega
            clear hp0 hn0 hpn
            clear r0 r1 g0 g1
            go_wp2_with fail
            refine (HLF.out q w2 H2.out.a H2.out.lk HX.out).mono ?_
            rintro x w3 ⟨z, hz, rfl, htx, hzc, b3⟩
            have HZ := Lib.hid hz
            have H3 := Lib.hid (H2.out.below b3)
            have HML := Lib.hid (made_leaves [z] w3 (W := w.heap.size + 1) (Nat.le_trans hW.out b3.size) (fun y hy => by rw [List.mem_singleton] at hy; rw [hy]; exact ⟨htx.mono (fun k _ hk => by have := hW.out; omega), hzc⟩))
            have hba := Kq.below_alloc w3 (.cells (LfE.flat [z]).toArray 30)
            have H4 := Lib.hid (H3.out.below hba)
            clear b3 H2 HLF hz htx hzc hba H3
            obtain ⟨⟨i, c, k, v, ps⟩, za, zc⟩ := z
            simp only [LfW.val, LfE, Kq.Elt.flat, LfW.cells, List.flatMap_cons, List.flatMap_nil, List.append_nil] at HML H4 ⊢
            go_wp2_with fail
            refine (pf_of true _ 1 1 _).mono ?_
            rintro x w5 ⟨rfl, b5⟩
            have H5 := Lib.hid (H4.out.below b5)
            have HML5 := Lib.hid (HML.out.below b5)
            clear b5 H4 HML
            clear hw1 hw2
            have r0 := H5.out.rb.c0
            have r1 := H5.out.rb.c1
            have g0 := H5.out.rb.fz 0
            have g1 := H5.out.rb.fz 1
            have HEND : Hid (∀ x, x = .returned (.tuple #[.agg #[.bool true, .slice (some ⟨w3.heap.size, 0, none⟩) 1 1], .int .i64 0]) → PfPost w RV x (filled2 w5 w.heap.size true (.slice (some ⟨w3.heap.size, 0, none⟩) 1 1))) := Lib.hid (fun x hx => by
              rw [HE.out]
              exact pf_endP (ls := [⟨⟨i, c, k, v, ps⟩, za, zc⟩]) rfl (Nat.le_refl _) (by rw [← HZ.out]; rfl) rfl rfl HML5.out H5.out.bel hx)
            have p1 := Lib.hid (H5.out.rb.fill true (.slice (some ⟨w3.heap.size, 0, none⟩) 1 1))
            go_wp2
            obtain ⟨Wf, hWf⟩ : ∃ Wf, Wf = filled2 (w5) w.heap.size true (.slice (some ⟨w3.heap.size, 0, none⟩) 1 1) := ⟨_, rfl⟩
            change bodyPost _ _ _ _ _ (filled2 (w5) w.heap.size true (.slice (some ⟨w3.heap.size, 0, none⟩) 1 1))
            rw [← hWf] at p1 HEND ⊢
            have z0 := p1.out.c0
            have z1 := p1.out.c1
            refine bodyPost_ret (v := .tuple #[.agg #[.bool true, .slice (some ⟨w3.heap.size, 0, none⟩) 1 1], .int .i64 0]) (by simp [results, Tryd.results19, go_sem, z0, z1]) rfl ?_
            exact HEND.out _ rfl
          · have HE : Hid (RV = (⟨true, [mkLf l q, mkLf l p]⟩, 0)) := Lib.hid (by rw [HE0.out, HPN.out, if_neg hp0, if_pos (by omega), HQ.out]; rfl)
            have e3 : ((p : Int) == (n : Int)) = false := by rw [beq_eq_false_iff_ne]; omega
            have HX2 : Hid (p < n) := Lib.hid (by omega)
            clear hp0 hn0 hpn
            clear r0 r1 g0 g1
            go_wp2_with fail
            refine (HLF.out q w2 H2.out.a H2.out.lk HX.out).mono ?_
            rintro x w3 ⟨y, hy, rfl, hty, hyc, b3⟩
            have HY := Lib.hid (And.intro hy (And.intro hty hyc))
            have H3 := Lib.hid (H2.out.below b3)
            have hW3 : Hid (w.heap.size + 1 ≤ w3.heap.size) := Lib.hid (Nat.le_trans hW.out b3.size)
            clear b3 H2 hy hty hyc
            go_wp2_with fail
            refine (HLF.out p w3 H3.out.a H3.out.lk HX2.out).mono ?_
            rintro x w4 ⟨z, hz, rfl, htz, hzc, b4⟩
            have HZ := Lib.hid hz
            have H4a := Lib.hid (H3.out.below b4)
            have HML := Lib.hid (made_leaves [y, z] w4 (W := w.heap.size + 1) (Nat.le_trans hW3.out b4.size) (fun u hu => by
              simp only [List.mem_cons, List.not_mem_nil, or_false] at hu
              rcases hu with rfl | rfl
              · exact ⟨(HY.out.2.1.below b4).mono (fun k _ hk => by have := hW.out; omega), HY.out.2.2⟩
              · exact ⟨htz.mono (fun k _ hk => by have := hW3.out; omega), hzc⟩))
            have hba := Kq.below_alloc w4 (.cells (LfE.flat [y, z]).toArray 30)
            have H4 := Lib.hid (H4a.out.below hba)
            clear b4 H3 HLF hz htz hzc hba H4a hw1 hw2
            have HYZ : Hid (y.l = mkLf l q) := Lib.hid HY.out.1
            clear HY
            obtain ⟨⟨i, c, k, v, ps⟩, za, zc⟩ := z
            obtain ⟨⟨i', c', k', v', ps'⟩, za', zc'⟩ := y
            simp only [LfW.val, LfE, Kq.Elt.flat, LfW.cells, List.flatMap_cons, List.flatMap_nil, List.append_nil, List.cons_append, List.nil_append] at HML H4 ⊢
            go_wp2_with fail
            refine (pf_of true _ 2 2 _).mono ?_
            rintro x w5 ⟨rfl, b5⟩
            have H5 := Lib.hid (H4.out.below b5)
            have HML5 := Lib.hid (HML.out.below b5)
            clear b5 H4 HML
            have r0 := H5.out.rb.c0
            have r1 := H5.out.rb.c1
            have g0 := H5.out.rb.fz 0
            have g1 := H5.out.rb.fz 1
            have HEND : Hid (∀ x, x = .returned (.tuple #[.agg #[.bool true, .slice (some ⟨w4.heap.size, 0, none⟩) 2 2], .int .i64 0]) → PfPost w RV x (filled2 w5 w.heap.size true (.slice (some ⟨w4.heap.size, 0, none⟩) 2 2))) := Lib.hid (fun x hx => by
              rw [HE.out]
              exact pf_endP (ls := [⟨⟨i', c', k', v', ps'⟩, za', zc'⟩, ⟨⟨i, c, k, v, ps⟩, za, zc⟩]) rfl (Nat.le_refl _) (by rw [← HZ.out, ← HYZ.out]; rfl) rfl rfl HML5.out H5.out.bel hx)
            have p1 := Lib.hid (H5.out.rb.fill true (.slice (some ⟨w4.heap.size, 0, none⟩) 2 2))
            go_wp2
            obtain ⟨Wf, hWf⟩ : ∃ Wf, Wf = filled2 (w5) w.heap.size true (.slice (some ⟨w4.heap.size, 0, none⟩) 2 2) := ⟨_, rfl⟩
            change bodyPost _ _ _ _ _ (filled2 (w5) w.heap.size true (.slice (some ⟨w4.heap.size, 0, none⟩) 2 2))
            rw [← hWf] at p1 HEND ⊢
            have z0 := p1.out.c0
            have z1 := p1.out.c1
            refine bodyPost_ret (v := .tuple #[.agg #[.bool true, .slice (some ⟨w4.heap.size, 0, none⟩) 2 2], .int .i64 0]) (by simp [results, Tryd.results19, go_sem, z0, z1]) rfl ?_
            exact HEND.out _ rfl
end Go.Proofs.YtclloplkbajebaaDoor
