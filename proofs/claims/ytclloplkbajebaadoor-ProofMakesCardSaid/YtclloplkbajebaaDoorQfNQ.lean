/- Contracts of carrackref09.Present, Absent. Condition: sizes. -/
import Derived.WalkSpells
import Derived.Outline
import Derived.Test.YtclloplkbajebaaDoorQfMQ
import Derived.Test.YtclloplkbajebaaDoorPfQ2Q
namespace Go.Proofs.YtclloplkbajebaaDoor
open Go.RowKit
set_option linter.unusedVariables false
theorem kf (key : ByteArray) : (isKeyB key = true → ¬ key.size < 1 ∧ ¬ 16 < key.size) ∧ (isKeyB key = false → key.size < 1 ∨ 16 < key.size) := by
  unfold isKeyB
  refine ⟨fun h => ?_, fun h => ?_⟩
  · have := of_decide_eq_true h; omega
  · have := of_decide_eq_false h; omega
def QmPost (w : World) (lo hi P : Nat) (T : List ByteArray) (n : Nat) (r : PfV × Int) (x : Ending) (w' : World) : Prop :=
  ∃ A cap ls, x = .returned (.tuple #[.agg #[.bool r.1.ab, .slice A (List.length ls) cap], .int .i64 r.2]) ∧ vals ls = r.1.ls ∧ ls.length ≤ cap ∧ LfsN w' (fun k => k < w.heap.size) A ls ∧ (∃ T' : List ByteArray, T'.length ≤ T.length + n ∧ BookW w' lo hi P T') ∧ Kq.Keeps (fun k => lo ≤ k ∧ k < hi) w w'
theorem qm_end {w w5 : World} {lo hi P n : Nat} {T : List ByteArray} {r : PfV × Int} {A : Option Addr} {q cap : Nat} {ls : List LfW} {ab : Bool} {e : Int} (hq : q = ls.length) (hcap : ls.length ≤ cap) (hv : vals ls = r.1.ls) (hab : ab = r.1.ab) (he : e = r.2) (hA : LfsN w5 (fun k => k < w.heap.size + 1) A ls) (hbk : ∃ T' : List ByteArray, T'.length ≤ T.length + n ∧ BookW w5 lo hi P T') (hk : Kq.Keeps (fun k => lo ≤ k ∧ k < hi) w w5) (hhi : hi ≤ w.heap.size) {x : Ending} (hx : x = .returned (.tuple #[.agg #[.bool ab, .slice A q cap], .int .i64 e])) :
    QmPost w lo hi P T n r x (filled2 w5 w.heap.size ab (.slice A q cap)) := by
  have p2 := filled2_keeps w5 w.heap.size ab (.slice A q cap)
  subst hq hab he
  obtain ⟨T', h1, h2⟩ := hbk
  exact ⟨A, cap, ls, hx, hv, hcap, (hA.keeps p2 (fun k _ hk => by omega)).mono (fun k _ hk => by omega), ⟨T', h1, h2.one p2 hhi⟩, keeps_far hk p2 (fun k hk => by omega)⟩
/-- what stands while a proof is made: the book, the list, the result's block -/
structure Qm (w : World) (lo hi P : Nat) (T : List ByteArray) (n : Nat) (l : List PairV) (A : Option Addr) (w' : World) : Prop where
  bk : ∃ T' : List ByteArray, T'.length ≤ T.length + n ∧ BookW w' lo hi P T'
  kp : Kq.Keeps (fun k => lo ≤ k ∧ k < hi) w w'
  rb : PBk w' w.heap.size false (.slice none 0 0)
  a : PsLo w' lo A l
  b1 : hi ≤ w.heap.size
  b2 : lo ≤ w.heap.size
section
variable {w w1 w2 : World} {lo hi P n m : Nat} {T : List ByteArray} {l : List PairV} {A : Option Addr}
theorem Qm.start (hB : BookW w lo hi P T) (hhi : hi ≤ w.heap.size) (hlo : lo ≤ w.heap.size) (hA : PsLo w lo A l) : Qm w lo hi P T 0 l A (w.alloc (.cells #[.bool false, .slice none 0 0] 24)) :=
  have b := Kq.below_alloc w (.cells #[.bool false, .slice none 0 0] 24)
  ⟨⟨T, Nat.le_refl _, hB.below b⟩, keeps_below b, ⟨Kq.blk_new _ _ _ _⟩, hA.below b, hhi, hlo⟩
theorem Qm.call (h : Qm w lo hi P T n l A w1) (hb : ∃ T' : List ByteArray, T'.length ≤ T.length + m ∧ BookW w2 lo hi P T') (hk : Kq.Keeps (fun k => lo ≤ k ∧ k < hi) w1 w2) : Qm w lo hi P T m l A w2 :=
  ⟨hb, h.kp.trans hk, h.rb.later hk (by have := h.b1; omega), h.a.keeps hk (fun k hk => hk.1), h.b1, h.b2⟩
theorem Qm.below (h : Qm w lo hi P T n l A w1) (hb : Below w1.heap.size w1 w2) : Qm w lo hi P T n l A w2 := by
  obtain ⟨T', h1, h2⟩ := h.bk
  exact ⟨⟨T', h1, h2.below hb⟩, h.kp.trans (keeps_below hb), h.rb.below hb, h.a.below hb, h.b1, h.b2⟩
end
/-- leaves that were appended, in the midst of Absent -/
structure Qa (w : World) (lo hi P : Nat) (T : List ByteArray) (n X : Nat) (l : List PairV) (A : Option Addr) (a : Option Addr) (q cp : Nat) (ls : List LfW) (w' : World) : Prop where
  m : Qm w lo hi P T n l A w'
  pb : PBk w' X true (.slice a q cp)
  x : w.heap.size < X
  own : w'.ownsRow (X + 1) 30 5 (.slice a q cp) ls.length (LfE.flat ls)
  pa : ∀ z ∈ ls, TxN w' (fun k => k < X + 1 ∨ some k = (Value.slice a q cp).ownBlock) z.a z.l.p ∧ z.l.p.length ≤ z.cap
section
variable {w w1 w2 : World} {lo hi P n m X : Nat} {T : List ByteArray} {l : List PairV} {A a : Option Addr} {q cp : Nat} {ls : List LfW}
theorem Qa.start (h : Qm w lo hi P T n l A w1) : Qa w lo hi P T n w1.heap.size l A none 0 0 [] (w1.alloc (.cells #[.bool true, .slice none 0 0] 24)) :=
  ⟨h.below (Kq.below_alloc _ _), ⟨Kq.blk_new _ _ _ _⟩, h.rb.lt, ⟨rfl, Or.inl ⟨rfl, rfl⟩⟩, fun x hx => by cases hx⟩
theorem Qa.sz (h : Qa w lo hi P T n X l A a q cp ls w1) : X + 1 ≤ w1.heap.size := h.pb.lt
theorem Qa.call (h : Qa w lo hi P T n X l A a q cp ls w1) (hb : ∃ T' : List ByteArray, T'.length ≤ T.length + m ∧ BookW w2 lo hi P T') (hk : Kq.Keeps (fun k => lo ≤ k ∧ k < hi) w1 w2) : Qa w lo hi P T m X l A a q cp ls w2 :=
  ⟨h.m.call hb hk, h.pb.later hk (by have := h.m.b1; have := h.x; omega), h.x, own_keeps h.own hk (fun k hk => by have := h.m.b1; have := h.x; omega), fun z hz => ⟨(h.pa z hz).1.keeps hk (fun k _ hk => Or.inl (by have := h.m.b1; have := h.x; omega)), (h.pa z hz).2⟩⟩
theorem Qa.below (h : Qa w lo hi P T n X l A a q cp ls w1) (hb : Below w1.heap.size w1 w2) : Qa w lo hi P T n X l A a q cp ls w2 :=
  ⟨h.m.below hb, h.pb.below hb, h.x, own_belowB h.own hb, fun z hz => ⟨(h.pa z hz).1.below hb, (h.pa z hz).2⟩⟩
theorem Qa.snoc {z : LfW} {a' : Option Addr} {q' cp' : Nat} {z1 z3 : World} (h : Qa w lo hi P T n X l A a q cp ls z1) (hz : TxN z1 (fun k => k < X + 1 ∨ some k = (Value.slice a q cp).ownBlock) z.a z.l.p ∧ z.l.p.length ≤ z.cap)
    (hk : Kq.Keeps (fun g => some g = (Value.slice a q cp).ownBlock) z1 z3) (hown : z3.ownsRow (X + 1) 30 5 (.slice a' q' cp') (ls ++ [z]).length (LfE.flat (ls ++ [z])))
    (hfr : ∀ k, (Value.slice a' q' cp').ownBlock = some k → some k = (Value.slice a q cp).ownBlock ∨ z1.heap.size ≤ k) :
    Qa w lo hi P T n X l A a' q' cp' (ls ++ [z]) (z3.setCell ⟨X, 1, none⟩ (.slice a' q' cp')) := by
  have hge : ∀ g, some g = (Value.slice a q cp).ownBlock → X + 1 ≤ g := fun g hg => own_geB h.own hg.symm
  have hs : Kq.Keeps (· = X) z3 (z3.setCell ⟨X, 1, none⟩ (.slice a' q' cp')) := Kq.Keeps.setCell _ _ _ rfl
  have hx := h.x
  have hb1 := h.m.b1
  have hb2 := h.m.b2
  have hall : Kq.Keeps (fun g => X ≤ g) z1 (z3.setCell ⟨X, 1, none⟩ (.slice a' q' cp')) := (hk.mono (fun g _ e => by have := hge g e; omega)).trans (hs.mono (fun g _ e => by omega))
  refine ⟨⟨?_, keeps_far h.m.kp hall (fun g hg => by omega), h.m.rb.later hall (by omega), h.m.a.keeps hall (fun g hg => by omega), hb1, hb2⟩, (h.pb.later hk (fun e => by have := hge X e; omega)).s1 _, hx, own_keeps hown hs (fun k e => by omega), fun x hx => ?_⟩
  · obtain ⟨T', h1, h2⟩ := h.m.bk
    exact ⟨T', h1, h2.far hall (by omega)⟩
  · have hx0 : TxN z1 (fun k => k < X + 1 ∨ some k = (Value.slice a q cp).ownBlock) x.a x.l.p ∧ x.l.p.length ≤ x.cap := by
      rcases List.mem_append.1 hx with hx | hx
      · exact h.pa x hx
      · rw [List.mem_singleton] at hx; rw [hx]; exact hz
    refine ⟨?_, hx0.2⟩
    have h4 : TxN z3 (fun k => k < X + 1 ∨ some k = (Value.slice a q cp).ownBlock) x.a x.l.p := hx0.1.keeps hk (fun k _ e => Or.inr e)
    have h5 : TxN z3 (fun k => k < X + 1 ∨ some k = (Value.slice a' q' cp').ownBlock) x.a x.l.p := fun j hj => by
      obtain ⟨g, o, e, e1, e2, e3⟩ := h4 j hj
      obtain ⟨g', o', e', _, e2', _⟩ := hx0.1 j hj
      rw [e] at e'
      simp only [Option.some.injEq, Addr.mk.injEq] at e'
      obtain ⟨rfl, -, -⟩ := e'
      refine ⟨g, o, e, fun hc => ?_, e2, e3⟩
      rcases hc with hc | hc
      · exact e1 (Or.inl hc)
      · rcases hfr g hc.symm with hc | hc
        · exact e1 (Or.inr hc)
        · omega
    exact h5.keeps hs (fun k _ e => Or.inl (by omega))
theorem Qa.lfs (h : Qa w lo hi P T n X l A a q cp ls w1) : q = ls.length ∧ ls.length ≤ cp ∧ LfsN w1 (fun k => k < w.heap.size + 1) a ls := by
  obtain ⟨A', cap, e, hc, hat, hb, _⟩ := Kq.Elt.own_at (E := LfE) (l := ls) h.own
  injection e with e1 e2 e3
  subst e1 e2 e3
  have hx := h.x
  refine ⟨rfl, hc, LfsN.of hat (fun b off e hb' => ?_) (fun x hx' => ⟨(h.pa x hx').1.mono (fun k _ hk => Or.inl (by omega)), (h.pa x hx').2⟩)⟩
  have := hb b off e
  omega
end
theorem qm_zero {w w1 : World} {lo hi P n m : Nat} {T : List ByteArray} {l : List PairV} {A : Option Addr} {r : PfV × Int} {c : Int} (h : Qm w lo hi P T 0 l A w1) (hr : r = (⟨false, []⟩, c)) {x : Ending} (hx : x = .returned (.tuple #[.agg #[.bool false, .slice none 0 0], .int .i64 c])) : QmPost w lo hi P T n r x w1 := by
  subst hr
  obtain ⟨T', h1, h2⟩ := h.bk
  exact ⟨none, 0, [], hx, rfl, Nat.le_refl _, LfsN.nil, ⟨T', by omega, h2⟩, h.kp⟩
theorem isIn_no {l : List PairV} {key : ByteArray} {p : Nat} (hp : p = plc l key) (h : ¬ p < l.length) : isIn l key = false := by
  subst hp
  exact decide_eq_false (fun ⟨h', _⟩ => h h')
theorem isIn_at {l : List PairV} {key k : ByteArray} {p : Nat} (hp : p = plc l key) (h : p < l.length) (hk : k = l[p].1) : isIn l key = (k.toList == key.toList) := by
  subst hp
  unfold isIn
  by_cases g : k = key
  · rw [decide_eq_true ⟨h, by rw [← hk]; exact g⟩, g]; simp
  · rw [decide_eq_false (fun ⟨_, h'⟩ => g (by rw [hk]; exact h'))]
    rw [eq_comm, beq_eq_false_iff_ne]
    exact fun h => g (toList_inj h)
set_option maxRecDepth 100000 in
set_option maxHeartbeats 2000000 in
theorem rq_present (l : List PairV) (A : Option Addr) (cap lo hi P : Nat) (T : List ByteArray) (key : ByteArray) (w : World) (hf : Fit l) (hA : PsLo w lo A l) (hB : BookW w lo hi P T) (hhi : hi ≤ w.heap.size) (hlo : lo ≤ w.heap.size) (hcap : l.length ≤ cap) (hT : T.length + 2 * l.length ≤ 1000) :
    Calls Tryd.prog 18 #[.pointer (some ⟨P, 0, none⟩), .slice A l.length cap, .string key] w (QmPost w lo hi P T (2 * l.length) (presV l key)) := by
  have H0 := Lib.hid (Qm.start hB hhi hlo hA)
  obtain ⟨w1, hw1⟩ : ∃ z, z = w.alloc (.cells #[.bool false, .slice none 0 0] 24) := ⟨_, rfl⟩
  rw [← hw1] at H0
  have HF := Lib.hid (rq_place l A cap key w1 (by omega) H0.out.a.at)
  have HLF := Lib.hid (fun (i : Nat) (w' : World) (U : List ByteArray) (h1 : PsLo w' lo A l) (h2 : BookW w' lo hi P U) (h3 : hi ≤ w'.heap.size) (h4 : lo ≤ w'.heap.size) (h5 : i < l.length) (h6 : U.length + 2 * l.length ≤ 1000) => rq_leaf l A cap lo hi P i U w' hf h1 h2 h3 h4 hcap h5 h6)
  have HT := Lib.hid hT
  have HPL := Lib.hid (plc_le l key)
  obtain ⟨RV, hRV⟩ : ∃ RV, RV = presV l key := ⟨_, rfl⟩
  rw [← hRV]
  have HRV := Lib.hid hRV
  obtain ⟨p, hp⟩ : ∃ p, p = plc l key := ⟨_, rfl⟩
  rw [← hp] at HF HPL
  have HP := Lib.hid hp
  obtain ⟨N, hN⟩ : ∃ N, N = 2 * l.length := ⟨_, rfl⟩
  rw [← hN]
  have HN := Lib.hid hN
  have hl5 : l.length ≤ 500 := by omega
  clear hA hB hhi hlo hf hcap hRV hT hp hN
  go_enter Tryd.func18, Tryd.ntmps18
  go_wp2_with fail
  rw [← hw1]
  refine HF.out.mono ?_
  rintro x w2 ⟨rfl, hw2⟩
  subst hw2
  clear HF hw1
  have hpl := HPL.out
  by_cases hlt : p < l.length
  · obtain ⟨b, off, rfl, -, hb, c0, c1⟩ := H0.out.a p hlt
    obtain ⟨k, hk⟩ : ∃ k, k = l[p].1 := ⟨_, rfl⟩
    rw [← hk] at c0
    have HIN := Lib.hid (isIn_at HP.out hlt hk)
    have HLT := Lib.hid hlt
    have hi0 : (p : Int) < (l.length : Int) := by omega
    have e0 : ((p : Int) == (l.length : Int)) = false := by rw [beq_eq_false_iff_ne]; omega
    obtain ⟨B, hB⟩ : ∃ B, B = (k.toList == key.toList) := ⟨_, rfl⟩
    rw [← hB] at HIN
    have hB' : (k.toList == key.toList) = B := hB.symm
    clear hk hB c1 hlt
    cases B with
    | false =>
      have e1 : (k.toList != key.toList) = true := by rw [bne_iff_ne]; exact ne_of_beq_false hB'
      have HE : Hid (RV = (⟨false, []⟩, 3)) := Lib.hid (by rw [HRV.out]; unfold presV; rw [HIN.out]; rfl)
      have HEND : Hid (∀ x, x = .returned (.tuple #[.agg #[.bool false, .slice none 0 0], .int .i64 3]) → QmPost w lo hi P T N RV x (filled2 w2 w.heap.size false (.slice none 0 0))) := Lib.hid (fun x hx => by
        rw [HE.out]
        exact qm_end (ls := []) rfl (Nat.le_refl _) rfl rfl rfl LfsN.nil (let ⟨T', h1, h2⟩ := H0.out.bk; ⟨T', by omega, h2⟩) H0.out.kp H0.out.b1 hx)
      have p1 := Lib.hid (H0.out.rb.fill false (.slice none 0 0))
      have r0 := H0.out.rb.c0
      have r1 := H0.out.rb.c1
      have g0 := H0.out.rb.fz 0
      have g1 := H0.out.rb.fz 1
      go_wp2
      obtain ⟨Wf, hWf⟩ : ∃ Wf, Wf = filled2 w2 w.heap.size false (.slice none 0 0) := ⟨_, rfl⟩
      change bodyPost _ _ _ _ _ (filled2 w2 w.heap.size false (.slice none 0 0))
      rw [← hWf] at p1 HEND ⊢
      have z0 := p1.out.c0
      have z1 := p1.out.c1
      refine bodyPost_ret (v := .tuple #[.agg #[.bool false, .slice none 0 0], .int .i64 3]) (by simp [results, Tryd.results18, go_sem, z0, z1]) rfl ?_
      exact HEND.out _ rfl
    | true =>
      have e1 : (k.toList != key.toList) = false := by rw [bne_eq_false_iff_eq]; exact eq_of_beq hB'
      have HE : Hid (RV = (⟨false, [mkLf l p]⟩, 0)) := Lib.hid (by rw [HRV.out]; unfold presV; rw [HIN.out, if_pos rfl, HP.out]; rfl)
      obtain ⟨U, hU, hbk⟩ := H0.out.bk
      have HL := Lib.hid (HLF.out p w2 U H0.out.a hbk (Nat.le_trans H0.out.b1 H0.out.kp.size) (Nat.le_trans H0.out.b2 H0.out.kp.size) HLT.out (by have := HT.out; omega))
      have HU := Lib.hid hU
      clear hU hbk HLF
      go_wp2_with fail
      refine HL.out.mono ?_
      rintro x w3 ⟨z, hz, rfl, htx, hzc, hbk, k3⟩
      have hW : w.heap.size + 1 ≤ w2.heap.size := H0.out.rb.lt
      have HZ := Lib.hid hz
      have H3 := Lib.hid (H0.out.call (m := N) (w2 := w3) (by obtain ⟨T', h1, h2⟩ := hbk; exact ⟨T', by have := HU.out; have := HN.out; omega, h2⟩) k3)
      have HML := Lib.hid (made_leaves [z] w3 (W := w.heap.size + 1) (Nat.le_trans hW k3.size) (fun y hy => by rw [List.mem_singleton] at hy; rw [hy]; exact ⟨htx.mono (fun k _ hk => by omega), hzc⟩))
      have hba := Kq.below_alloc w3 (.cells (LfE.flat [z]).toArray 30)
      have H5 := Lib.hid (H3.out.below hba)
      clear H0 HL hW hz htx hzc hbk k3 c0 hba H3
      obtain ⟨⟨i, c, k', v, ps⟩, za, zc⟩ := z
      simp only [LfW.val, LfE, Kq.Elt.flat, LfW.cells, List.flatMap_cons, List.flatMap_nil, List.append_nil] at HML H5 ⊢
      have r0 := H5.out.rb.c0
      have r1 := H5.out.rb.c1
      have g0 := H5.out.rb.fz 0
      have g1 := H5.out.rb.fz 1
      obtain ⟨w5, hw5⟩ : ∃ z, z = w3.alloc (Obj.cells #[.int .i64 i, .int .i64 c, .string k', .string v, .slice za ps.length zc] 30) := ⟨_, rfl⟩
      have HEND : Hid (∀ x, x = .returned (.tuple #[.agg #[.bool false, .slice (some ⟨w3.heap.size, 0, none⟩) 1 1], .int .i64 0]) → QmPost w lo hi P T N RV x (filled2 w5 w.heap.size false (.slice (some ⟨w3.heap.size, 0, none⟩) 1 1))) := Lib.hid (fun x hx => by
        rw [HE.out]
        rw [hw5]
        exact qm_end (ls := [⟨⟨i, c, k', v, ps⟩, za, zc⟩]) rfl (Nat.le_refl _) (by rw [← HZ.out]; rfl) rfl rfl HML.out H5.out.bk H5.out.kp H5.out.b1 hx)
      have p1 := Lib.hid (H5.out.rb.fill false (.slice (some ⟨w3.heap.size, 0, none⟩) 1 1))
      go_wp2
      rw [← hw5] at p1 ⊢
      obtain ⟨Wf, hWf⟩ : ∃ Wf, Wf = filled2 w5 w.heap.size false (.slice (some ⟨w3.heap.size, 0, none⟩) 1 1) := ⟨_, rfl⟩
      change bodyPost _ _ _ _ _ (filled2 w5 w.heap.size false (.slice (some ⟨w3.heap.size, 0, none⟩) 1 1))
      rw [← hWf] at p1 HEND ⊢
      have z0 := p1.out.c0
      have z1 := p1.out.c1
      refine bodyPost_ret (v := .tuple #[.agg #[.bool false, .slice (some ⟨w3.heap.size, 0, none⟩) 1 1], .int .i64 0]) (by simp [results, Tryd.results18, go_sem, z0, z1]) rfl ?_
      exact HEND.out _ rfl
  · obtain rfl : p = l.length := by omega
    have HIN := Lib.hid (isIn_no HP.out hlt)
    have e0 : ((l.length : Int) == (l.length : Int)) = true := by simp
    have HE : Hid (RV = (⟨false, []⟩, 3)) := Lib.hid (by rw [HRV.out]; unfold presV; rw [HIN.out]; rfl)
    clear hlt hpl
    have HEND : Hid (∀ x, x = .returned (.tuple #[.agg #[.bool false, .slice none 0 0], .int .i64 3]) → QmPost w lo hi P T N RV x (filled2 w2 w.heap.size false (.slice none 0 0))) := Lib.hid (fun x hx => by
      rw [HE.out]
      exact qm_end (ls := []) rfl (Nat.le_refl _) rfl rfl rfl LfsN.nil (let ⟨T', h1, h2⟩ := H0.out.bk; ⟨T', by omega, h2⟩) H0.out.kp H0.out.b1 hx)
    have p1 := Lib.hid (H0.out.rb.fill false (.slice none 0 0))
    have r0 := H0.out.rb.c0
    have r1 := H0.out.rb.c1
    have g0 := H0.out.rb.fz 0
    have g1 := H0.out.rb.fz 1
    go_wp2
    obtain ⟨Wf, hWf⟩ : ∃ Wf, Wf = filled2 w2 w.heap.size false (.slice none 0 0) := ⟨_, rfl⟩
    change bodyPost _ _ _ _ _ (filled2 w2 w.heap.size false (.slice none 0 0))
    rw [← hWf] at p1 HEND ⊢
    have z0 := p1.out.c0
    have z1 := p1.out.c1
    refine bodyPost_ret (v := .tuple #[.agg #[.bool false, .slice none 0 0], .int .i64 3]) (by simp [results, Tryd.results18, go_sem, z0, z1]) rfl ?_
    exact HEND.out _ rfl
set_option maxRecDepth 100000 in
set_option maxHeartbeats 2000000 in
theorem rq_absent (l : List PairV) (A : Option Addr) (cap lo hi P : Nat) (T : List ByteArray) (key : ByteArray) (w : World) (hf : Fit l) (hA : PsLo w lo A l) (hB : BookW w lo hi P T) (hhi : hi ≤ w.heap.size) (hlo : lo ≤ w.heap.size) (hcap : l.length ≤ cap) (hT : T.length + 4 * l.length ≤ 1000) :
    Calls Tryd.prog 20 #[.pointer (some ⟨P, 0, none⟩), .slice A l.length cap, .string key] w (QmPost w lo hi P T (4 * l.length) (absV l key)) := by
  have H0 := Lib.hid (Qm.start hB hhi hlo hA)
  obtain ⟨w1, hw1⟩ : ∃ z, z = w.alloc (.cells #[.bool false, .slice none 0 0] 24) := ⟨_, rfl⟩
  rw [← hw1] at H0
  have HF := Lib.hid (rq_place l A cap key w1 (by omega) H0.out.a.at)
  have HLF := Lib.hid (fun (i : Nat) (w' : World) (U : List ByteArray) (h1 : PsLo w' lo A l) (h2 : BookW w' lo hi P U) (h3 : hi ≤ w'.heap.size) (h4 : lo ≤ w'.heap.size) (h5 : i < l.length) (h6 : U.length + 2 * l.length ≤ 1000) => rq_leaf l A cap lo hi P i U w' hf h1 h2 h3 h4 hcap h5 h6)
  have HT := Lib.hid hT
  have HPL := Lib.hid (plc_le l key)
  obtain ⟨RV, hRV⟩ : ∃ RV, RV = absV l key := ⟨_, rfl⟩
  rw [← hRV]
  have HRV := Lib.hid hRV
  obtain ⟨p, hp⟩ : ∃ p, p = plc l key := ⟨_, rfl⟩
  rw [← hp] at HF HPL
  have HP := Lib.hid hp
  obtain ⟨N, hN⟩ : ∃ N, N = 4 * l.length := ⟨_, rfl⟩
  rw [← hN]
  have HN := Lib.hid hN
  have hl5 : l.length ≤ 500 := by omega
  clear hA hB hhi hlo hf hcap hRV hT hp hN
  go_enter Tryd.func20, Tryd.ntmps20
  have hkf := kf key
  obtain ⟨KB, hKB⟩ : ∃ KB, KB = isKeyB key := ⟨_, rfl⟩
  have HKB := Lib.hid hKB
  rw [← hKB] at hkf
  clear hKB
  obtain ⟨i0, hi0, hz0, hz1, hz2⟩ := info_partsB infoLf
  cases KB with
  | false =>
    have HE : Hid (RV = (⟨false, []⟩, 1)) := Lib.hid (by rw [HRV.out]; exact absV_key HKB.out.symm)
    have hkk := hkf.2 rfl
    clear hkf
    by_cases hk1 : key.size < 1
    · have e1 : decide ((key.size : Int) < 1) = true := decide_eq_true (by omega)
      have e2 : decide (key.size < 1) = true := decide_eq_true hk1
      clear hk1 hkk
      rw [hw1] at H0
      have HEND : Hid (∀ x, x = .returned (.tuple #[.agg #[.bool false, .slice none 0 0], .int .i64 1]) → QmPost w lo hi P T N RV x (w.alloc (.cells #[.bool false, .slice none 0 0] 24))) := Lib.hid (fun x hx => qm_zero (m := 0) H0.out HE.out hx)
      have z0 := H0.out.rb.c0
      have z1 := H0.out.rb.c1
      clear hw1 HF
      go_wp2
      refine bodyPost_ret (v := .tuple #[.agg #[.bool false, .slice none 0 0], .int .i64 1]) (by simp [results, Tryd.results20, go_sem, z0, z1]) rfl ?_
      exact HEND.out _ rfl
    · have e1 : decide ((key.size : Int) < 1) = false := decide_eq_false (by omega)
      have e2 : decide (key.size < 1) = false := decide_eq_false hk1
      have e3 : decide ((16 : Int) < (key.size : Int)) = true := decide_eq_true (by omega)
      have e4 : decide (16 < key.size) = true := decide_eq_true (by omega)
      clear hk1 hkk
      rw [hw1] at H0
      have HEND : Hid (∀ x, x = .returned (.tuple #[.agg #[.bool false, .slice none 0 0], .int .i64 1]) → QmPost w lo hi P T N RV x (w.alloc (.cells #[.bool false, .slice none 0 0] 24))) := Lib.hid (fun x hx => qm_zero (m := 0) H0.out HE.out hx)
      have z0 := H0.out.rb.c0
      have z1 := H0.out.rb.c1
      clear hw1 HF
      go_wp2
      refine bodyPost_ret (v := .tuple #[.agg #[.bool false, .slice none 0 0], .int .i64 1]) (by simp [results, Tryd.results20, go_sem, z0, z1]) rfl ?_
      exact HEND.out _ rfl
  | true =>
    have hkk := hkf.1 rfl
    have e1 : decide ((key.size : Int) < 1) = false := decide_eq_false (by omega)
    have e2 : decide (key.size < 1) = false := decide_eq_false hkk.1
    have e3 : decide ((16 : Int) < (key.size : Int)) = false := decide_eq_false (by omega)
    have e4 : decide (16 < key.size) = false := decide_eq_false hkk.2
    clear hkf hkk
    go_wp2_with fail
    rw [← hw1]
    refine HF.out.mono ?_
    rintro x w2 ⟨rfl, hw2⟩
    subst hw2
    clear HF hw1 e1 e2 e3 e4
    have hpl := HPL.out
    have hA0 := Lib.hid (Qa.start H0.out)
    by_cases hlt : p < l.length
    · obtain ⟨b, off, rfl, -, hb, c0, c1⟩ := H0.out.a p hlt
      obtain ⟨k, hk⟩ : ∃ k, k = l[p].1 := ⟨_, rfl⟩
      rw [← hk] at c0
      have HIN := Lib.hid (isIn_at HP.out hlt hk)
      have HLT := Lib.hid hlt
      have hi0' : (p : Int) < (l.length : Int) := by omega
      have e0 : decide ((p : Int) < (l.length : Int)) = true := decide_eq_true hi0'
      have e0' : decide (p < l.length) = true := decide_eq_true hlt
      obtain ⟨B, hB⟩ : ∃ B, B = (k.toList == key.toList) := ⟨_, rfl⟩
      rw [← hB] at HIN
      have hB' : (k.toList == key.toList) = B := hB.symm
      clear hk hB c1
      cases B with
      | true =>
        have HE : Hid (RV = (⟨false, []⟩, 4)) := Lib.hid (by rw [HRV.out]; exact absV_in HKB.out.symm HIN.out)
        clear hA0
        have HEND : Hid (∀ x, x = .returned (.tuple #[.agg #[.bool false, .slice none 0 0], .int .i64 4]) → QmPost w lo hi P T N RV x (filled2 w2 w.heap.size false (.slice none 0 0))) := Lib.hid (fun x hx => by
          rw [HE.out]
          exact qm_end (ls := []) rfl (Nat.le_refl _) rfl rfl rfl LfsN.nil (let ⟨T', h1, h2⟩ := H0.out.bk; ⟨T', by omega, h2⟩) H0.out.kp H0.out.b1 hx)
        have p1 := Lib.hid (H0.out.rb.fill false (.slice none 0 0))
        have r0 := H0.out.rb.c0
        have r1 := H0.out.rb.c1
        have g0 := H0.out.rb.fz 0
        have g1 := H0.out.rb.fz 1
        go_wp2
        obtain ⟨Wf, hWf⟩ : ∃ Wf, Wf = filled2 w2 w.heap.size false (.slice none 0 0) := ⟨_, rfl⟩
        change bodyPost _ _ _ _ _ (filled2 w2 w.heap.size false (.slice none 0 0))
        rw [← hWf] at p1 HEND ⊢
        have z0 := p1.out.c0
        have z1 := p1.out.c1
        refine bodyPost_ret (v := .tuple #[.agg #[.bool false, .slice none 0 0], .int .i64 4]) (by simp [results, Tryd.results20, go_sem, z0, z1]) rfl ?_
        exact HEND.out _ rfl
      | false =>
        have HE0 : Hid (RV = (pfNot l key, 0)) := Lib.hid (by rw [HRV.out]; exact absV_ok HKB.out.symm HIN.out)
        by_cases hp0 : p = 0
        · have t1 : decide ((0 : Int) < (p : Int)) = false := decide_eq_false (by omega)
          have t1' : decide (0 < p) = false := decide_eq_false (by omega)
          have HXp : Hid (p < l.length) := Lib.hid hlt
          have HE : Hid (RV = (⟨true, [mkLf l p]⟩, 0)) := Lib.hid (by rw [HE0.out]; unfold pfNot; rw [if_pos (by rw [← HP.out]; exact hp0), if_pos (by rw [← HP.out]; exact hlt), ← HP.out]; rfl)
          clear HE0 hp0 hlt HIN
          go_wp2
          obtain ⟨wd, hwd⟩ : ∃ z, z = World.drew (w2.alloc (.cells #[.bool true, .slice none 0 0] 24)) := ⟨_, rfl⟩
          have HD0 : Hid (Qa w lo hi P T (0) (w2.heap.size) l (some ⟨b, off, none⟩) none 0 0 ([] : List LfW) wd) := Lib.hid (by
            rw [hwd]
            exact hA0.out.below (Below.refl _ _).drew)
          refine Kq.wp_region_T 9 (fun cur => cur.cell? ⟨(w2.heap.size), 1, none⟩ = some (.slice none 0 0)) (by kernel_rfl) (by rw [← hwd]; exact HD0.out.pb.c1) (fun hS0 => ?_)
          rw [← hwd] at hS0 ⊢
          clear hwd hA0
          obtain ⟨U, hU, hbk⟩ := HD0.out.m.bk
          have HL := Lib.hid (HLF.out p wd U HD0.out.m.a hbk (Nat.le_trans HD0.out.m.b1 HD0.out.m.kp.size) (Nat.le_trans HD0.out.m.b2 HD0.out.m.kp.size) HXp.out (by have := HT.out; omega))
          have HU := Lib.hid hU
          clear hU hbk
          refine Kq.wpAnyT_take (i := 0) (v := ?_) rfl rfl (by kernel_rfl) (by kernel_rfl) (by kernel_rfl) (by kernel_rfl) (fun _ _ _ h => h) (Or.inl ⟨by kernel_rfl, ?_⟩) (by assumption) ?_
          rotate_left
          · intro w hSw; (try dsimp only at hSw); go_simp; (try with_reducible rfl)
          refine Kq.wpAnyT_take (i := 2) (v := ?_) rfl rfl (by kernel_rfl) (by kernel_rfl) (by kernel_rfl) (by kernel_rfl) (fun _ _ _ h => h) (Or.inl ⟨by kernel_rfl, ?_⟩) (by assumption) ?_
          rotate_left
          · intro w hSw; (try dsimp only at hSw); go_simp; (try with_reducible rfl)
          refine Kq.wpAnyT_take (i := 3) (v := ?_) rfl rfl (by kernel_rfl) (by kernel_rfl) (by kernel_rfl) (by kernel_rfl) (fun _ _ _ h => h) (Or.inl ⟨by kernel_rfl, ?_⟩) (by assumption) ?_
          rotate_left
          · intro w hSw; (try dsimp only at hSw); go_simp; (try with_reducible rfl)
          refine Kq.wpAnyT_take (i := 4) (v := ?_) rfl rfl (by kernel_rfl) (by kernel_rfl) (by kernel_rfl) (by kernel_rfl) (fun _ _ _ h => h) (Or.inl ⟨by kernel_rfl, ?_⟩) (by assumption) ?_
          rotate_left
          · intro w hSw; (try dsimp only at hSw); go_simp; (try with_reducible rfl)
          refine Kq.wpAnyT_take (i := 1) (v := ?_) rfl rfl (by kernel_rfl) (by kernel_rfl) (by kernel_rfl) (by kernel_rfl) (fun _ _ _ h => h) (Or.inl ⟨by kernel_rfl, ?_⟩) (by assumption) ?_
          rotate_left
          · intro w hSw; (try dsimp only at hSw); go_simp; (try with_reducible rfl)
          refine Kq.wpAnyT_one (i := 5) (by kernel_rfl) rfl (fun K hK => ?_)
          go_simp
          refine HL.out.mono ?_
          rintro x z1 ⟨z, hz, rfl, hztx, hzcap, hbk, K1⟩
          have HZ : Hid (z.l = mkLf l p ∧ TxN z1 (fun k => k < (w2.heap.size) + 1 ∨ some k = (Value.slice none 0 0).ownBlock) z.a z.l.p ∧ z.l.p.length ≤ z.cap) := Lib.hid ⟨hz, hztx.mono (fun k _ hk => by
            rcases hk with hk | hk
            · have := HD0.out.sz; omega
            · exact (HD0.out.own.lt _ hk.symm).2), hzcap⟩
          have HD1 : Hid (Qa w lo hi P T (2 * l.length) (w2.heap.size) l (some ⟨b, off, none⟩) none 0 0 ([] : List LfW) z1) := Lib.hid (HD0.out.call (by obtain ⟨T', h1, h2⟩ := hbk; exact ⟨T', by have := HU.out; omega, h2⟩) K1)
          clear K1 HD0 hz hztx hzcap hbk hS0 HU HL
          refine hK.out _ _ HD1.out.pb.c1 (fun hS0 => ?_)
          clear hK K
          obtain ⟨⟨I, J, k', v, ps⟩, za, zc⟩ := z
          simp only [LfW.val] at HZ ⊢
          refine Kq.wpAnyT_one (i := 6) (by kernel_rfl) rfl (fun K hK => ?_)
          go_simp
          have HD2 := Lib.hid (HD1.out.below (Kq.below_alloc z1 (.cells #[.int .i64 I, .int .i64 J, .string k', .string v, .slice za ps.length zc] 30)))
          have HZ2 : Hid ((⟨I, J, k', v, ps⟩ : LfV) = mkLf l p ∧ TxN (z1.alloc (.cells #[.int .i64 I, .int .i64 J, .string k', .string v, .slice za ps.length zc] 30)) (fun k => k < (w2.heap.size) + 1 ∨ some k = (Value.slice none 0 0).ownBlock) za ps ∧ ps.length ≤ zc) := Lib.hid ⟨HZ.out.1, HZ.out.2.1.below (Kq.below_alloc _ _), HZ.out.2.2⟩
          have HSRC : Hid (Src Tryd.prog 5 22 (.slice (some ⟨z1.heap.size, 0, none⟩) 1 1) 1 (LfE.flat [⟨⟨I, J, k', v, ps⟩, za, zc⟩]) (z1.alloc (.cells #[.int .i64 I, .int .i64 J, .string k', .string v, .slice za ps.length zc] 30))) := Lib.hid ((Kq.Elt.made_one (E := LfE) ⟨⟨I, J, k', v, ps⟩, za, zc⟩ z1 30).src Tryd.underlying22 1)
          clear hS0 HD1 HZ
          refine hK.out _ _ HD2.out.pb.c1 (fun hS0 => ?_)
          clear hK K
          refine Kq.wpAnyT_one (i := 7) (by kernel_rfl) rfl (fun K hK => ?_)
          rw [if_pos (by kernel_rfl)]
          refine Kq.wp_append_any _ (.tmp 54) (.tmp 59) 22 22 rfl ((w2.heap.size) + 1) 30 i0 (.agg #[.int .i64 0, .int .i64 0, .string ⟨#[]⟩, .string ⟨#[]⟩, .slice none 0 0]) 5 72 Tryd.underlying22 hi0 hz0 hz1 hz2 rfl (by decide) (.slice none 0 0) (List.length ([] : List LfW)) (LfE.flat ([] : List LfW)) (by kernel_rfl) HD2.out.own (.slice (some ⟨z1.heap.size, 0, none⟩) 1 1) 1 (LfE.flat [⟨⟨I, J, k', v, ps⟩, za, zc⟩]) (by kernel_rfl) HSRC.out ?e1 ?e2 HD2.out.sz ?_
          case e1 => unfold maxLen; simp
          case e2 => simp
          intro v' z3 hown3 hgrow hfresh
          obtain ⟨a', q', cp', hv'⟩ := Kq.own_shape hown3
          subst hv'
          have HD4 := Lib.hid (HD2.out.snoc (z3 := z3) (a' := a') (q' := q') (cp' := cp') HZ2.out.2 (Kq.Keeps.grown hgrow (fun g _ hg => hg.symm)) (by rw [LfE.flat_append, List.length_append]; exact hown3) hfresh)
          have hfz : z3.frozen? ⟨(w2.heap.size), 1, none⟩ = false ∧ z3.cell? ⟨(w2.heap.size), 1, none⟩ = some (.slice none 0 0) := by
            have hpb := HD2.out.pb.later (Kq.Keeps.grown hgrow (S := fun g => some g = (Value.slice none 0 0).ownBlock) (fun g _ hg => hg.symm)) (fun e => by have := own_geB HD2.out.own e.symm; omega)
            exact ⟨hpb.fz 1, hpb.c1⟩
          have f4 := hfz.1
          have c4 := hfz.2
          clear hown3 hgrow hfresh hfz HD2 HSRC hS0
          refine hK.out _ _ c4 (fun hS0 => ?_)
          clear hK K
          refine Kq.wpAnyT_take (i := 8) (v := ?_) rfl rfl (by kernel_rfl) (by kernel_rfl) (by kernel_rfl) (by kernel_rfl) (fun _ _ _ h => h) (Or.inl ⟨by kernel_rfl, ?_⟩) (by assumption) ?_
          rotate_left
          · intro w hSw; (try dsimp only at hSw); go_simp; (try with_reducible rfl)
          refine Kq.wpAnyT_last (by kernel_rfl) rfl (fun K hK => ?_)
          go_simp
          refine hK.out _ _ ?_
          clear hK K
          refine Kq.wpAnyT_done (by kernel_rfl) ?_ _
          obtain ⟨wz, hwz⟩ : ∃ z, z = z3.setCell ⟨(w2.heap.size), 1, none⟩ (.slice a' q' cp') := ⟨_, rfl⟩
          rw [← hwz] at HD4
          (try rw [← hwz])
          clear hwz f4 c4 hS0
          have HQ2 := Lib.hid HZ2.out.1
          clear HZ2
          have HD5 : Hid (Qa w lo hi P T (2 * l.length) (w2.heap.size) l (some ⟨b, off, none⟩) a' q' cp' [⟨⟨I, J, k', v, ps⟩, za, zc⟩] wz) := Lib.hid HD4.out
          clear HD4
          have HLS := Lib.hid HD5.out.lfs
          obtain ⟨hq, hc, hlf⟩ := HLS.out
          have HEND : Hid (∀ x, x = .returned (.tuple #[.agg #[.bool true, .slice a' q' cp'], .int .i64 0]) → QmPost w lo hi P T N RV x (filled2 wz w.heap.size true (.slice a' q' cp'))) := Lib.hid (fun x hx => by
            rw [HE.out]
            exact qm_end (ls := [⟨⟨I, J, k', v, ps⟩, za, zc⟩]) hq hc (by simp [vals, HQ2.out]) rfl rfl hlf (let ⟨T', h1, h2⟩ := HD5.out.m.bk; ⟨T', by have := HN.out; omega, h2⟩) HD5.out.m.kp HD5.out.m.b1 hx)
          have p1 := Lib.hid (HD5.out.m.rb.fill true (.slice a' q' cp'))
          have r0 := HD5.out.m.rb.c0
          have r1 := HD5.out.m.rb.c1
          have g0 := HD5.out.m.rb.fz 0
          have g1 := HD5.out.m.rb.fz 1
          have d0 := HD5.out.pb.c0
          have d1 := HD5.out.pb.c1
          clear hq hc hlf
          go_wp2
          obtain ⟨Wf, hWf⟩ : ∃ Wf, Wf = filled2 wz w.heap.size true (.slice a' q' cp') := ⟨_, rfl⟩
          change bodyPost _ _ _ _ _ (filled2 wz w.heap.size true (.slice a' q' cp'))
          rw [← hWf] at p1 HEND ⊢
          have z0 := p1.out.c0
          have z1 := p1.out.c1
          refine bodyPost_ret (v := .tuple #[.agg #[.bool true, .slice a' q' cp'], .int .i64 0]) (by simp [results, Tryd.results20, go_sem, z0, z1]) rfl ?_
          exact HEND.out _ rfl
        · obtain ⟨q, hq⟩ : ∃ q, q = p - 1 := ⟨_, rfl⟩
          have HQ := Lib.hid hq
          have hw1' : IntKind.i64.wrap ((p : Int) - 1) = (q : Int) := by rw [IntWalk.i64_in _ (by omega)]; omega
          have hw2' : wrap64 ((p : Int) - 1) = (q : Int) := by rw [IntWalk.wrap64_in _ (by omega)]; omega
          have HXq : Hid (q < l.length) := Lib.hid (by omega)
          have t1 : decide ((0 : Int) < (p : Int)) = true := decide_eq_true (by omega)
          have t1' : decide (0 < p) = true := decide_eq_true (by omega)
          have HXp : Hid (p < l.length) := Lib.hid hlt
          have HE : Hid (RV = (⟨true, [mkLf l q, mkLf l p]⟩, 0)) := Lib.hid (by rw [HE0.out]; unfold pfNot; rw [if_neg (by rw [← HP.out]; exact hp0), if_pos (by rw [← HP.out]; exact hlt), ← HP.out, ← HQ.out]; rfl)
          clear HE0 hp0 hlt HIN hq
          go_wp2
          obtain ⟨wd, hwd⟩ : ∃ z, z = World.drew (w2.alloc (.cells #[.bool true, .slice none 0 0] 24)) := ⟨_, rfl⟩
          have HD0 : Hid (Qa w lo hi P T (0) (w2.heap.size) l (some ⟨b, off, none⟩) none 0 0 ([] : List LfW) wd) := Lib.hid (by
            rw [hwd]
            exact hA0.out.below (Below.refl _ _).drew)
          refine Kq.wp_region_T 10 (fun cur => cur.cell? ⟨(w2.heap.size), 1, none⟩ = some (.slice none 0 0)) (by kernel_rfl) (by rw [← hwd]; exact HD0.out.pb.c1) (fun hS0 => ?_)
          rw [← hwd] at hS0 ⊢
          clear hwd hA0
          obtain ⟨U, hU, hbk⟩ := HD0.out.m.bk
          have HL := Lib.hid (HLF.out q wd U HD0.out.m.a hbk (Nat.le_trans HD0.out.m.b1 HD0.out.m.kp.size) (Nat.le_trans HD0.out.m.b2 HD0.out.m.kp.size) HXq.out (by have := HT.out; omega))
          have HU := Lib.hid hU
          clear hU hbk
          refine Kq.wpAnyT_take (i := 0) (v := ?_) rfl rfl (by kernel_rfl) (by kernel_rfl) (by kernel_rfl) (by kernel_rfl) (fun _ _ _ h => h) (Or.inl ⟨by kernel_rfl, ?_⟩) (by assumption) ?_
          rotate_left
          · intro w hSw; (try dsimp only at hSw); go_simp; (try with_reducible rfl)
          refine Kq.wpAnyT_take (i := 2) (v := ?_) rfl rfl (by kernel_rfl) (by kernel_rfl) (by kernel_rfl) (by kernel_rfl) (fun _ _ _ h => h) (Or.inl ⟨by kernel_rfl, ?_⟩) (by assumption) ?_
          rotate_left
          · intro w hSw; (try dsimp only at hSw); go_simp; (try with_reducible rfl)
          refine Kq.wpAnyT_take (i := 3) (v := ?_) rfl rfl (by kernel_rfl) (by kernel_rfl) (by kernel_rfl) (by kernel_rfl) (fun _ _ _ h => h) (Or.inl ⟨by kernel_rfl, ?_⟩) (by assumption) ?_
          rotate_left
          · intro w hSw; (try dsimp only at hSw); go_simp; (try with_reducible rfl)
          refine Kq.wpAnyT_take (i := 4) (v := ?_) rfl rfl (by kernel_rfl) (by kernel_rfl) (by kernel_rfl) (by kernel_rfl) (fun _ _ _ h => h) (Or.inl ⟨by kernel_rfl, ?_⟩) (by assumption) ?_
          rotate_left
          · intro w hSw; (try dsimp only at hSw); go_simp; (try with_reducible rfl)
          refine Kq.wpAnyT_take (i := 5) (v := ?_) rfl rfl (by kernel_rfl) (by kernel_rfl) (by kernel_rfl) (by kernel_rfl) (fun _ _ _ h => h) (Or.inl ⟨by kernel_rfl, ?_⟩) (by assumption) ?_
          rotate_left
          · intro w hSw; (try dsimp only at hSw); go_simp; (try with_reducible rfl)
          refine Kq.wpAnyT_take (i := 1) (v := ?_) rfl rfl (by kernel_rfl) (by kernel_rfl) (by kernel_rfl) (by kernel_rfl) (fun _ _ _ h => h) (Or.inl ⟨by kernel_rfl, ?_⟩) (by assumption) ?_
          rotate_left
          · intro w hSw; (try dsimp only at hSw); go_simp; (try with_reducible rfl)
          refine Kq.wpAnyT_one (i := 6) (by kernel_rfl) rfl (fun K hK => ?_)
          go_simp
          refine HL.out.mono ?_
          rintro x y1 ⟨z, hz, rfl, hztx, hzcap, hbk, K1⟩
          have HZ : Hid (z.l = mkLf l q ∧ TxN y1 (fun k => k < (w2.heap.size) + 1 ∨ some k = (Value.slice none 0 0).ownBlock) z.a z.l.p ∧ z.l.p.length ≤ z.cap) := Lib.hid ⟨hz, hztx.mono (fun k _ hk => by
            rcases hk with hk | hk
            · have := HD0.out.sz; omega
            · exact (HD0.out.own.lt _ hk.symm).2), hzcap⟩
          have HD1 : Hid (Qa w lo hi P T (2 * l.length) (w2.heap.size) l (some ⟨b, off, none⟩) none 0 0 ([] : List LfW) y1) := Lib.hid (HD0.out.call (by obtain ⟨T', h1, h2⟩ := hbk; exact ⟨T', by have := HU.out; omega, h2⟩) K1)
          clear K1 HD0 hz hztx hzcap hbk hS0 HU HL
          refine hK.out _ _ HD1.out.pb.c1 (fun hS0 => ?_)
          clear hK K
          obtain ⟨⟨I0, J0, k0, v0, ps0⟩, za0, zc0⟩ := z
          simp only [LfW.val] at HZ ⊢
          refine Kq.wpAnyT_one (i := 7) (by kernel_rfl) rfl (fun K hK => ?_)
          go_simp
          have HD2 := Lib.hid (HD1.out.below (Kq.below_alloc y1 (.cells #[.int .i64 I0, .int .i64 J0, .string k0, .string v0, .slice za0 ps0.length zc0] 30)))
          have HZ2 : Hid ((⟨I0, J0, k0, v0, ps0⟩ : LfV) = mkLf l q ∧ TxN (y1.alloc (.cells #[.int .i64 I0, .int .i64 J0, .string k0, .string v0, .slice za0 ps0.length zc0] 30)) (fun k => k < (w2.heap.size) + 1 ∨ some k = (Value.slice none 0 0).ownBlock) za0 ps0 ∧ ps0.length ≤ zc0) := Lib.hid ⟨HZ.out.1, HZ.out.2.1.below (Kq.below_alloc _ _), HZ.out.2.2⟩
          have HSRC : Hid (Src Tryd.prog 5 22 (.slice (some ⟨y1.heap.size, 0, none⟩) 1 1) 1 (LfE.flat [⟨⟨I0, J0, k0, v0, ps0⟩, za0, zc0⟩]) (y1.alloc (.cells #[.int .i64 I0, .int .i64 J0, .string k0, .string v0, .slice za0 ps0.length zc0] 30))) := Lib.hid ((Kq.Elt.made_one (E := LfE) ⟨⟨I0, J0, k0, v0, ps0⟩, za0, zc0⟩ y1 30).src Tryd.underlying22 1)
          clear hS0 HD1 HZ
          refine hK.out _ _ HD2.out.pb.c1 (fun hS0 => ?_)
          clear hK K
          refine Kq.wpAnyT_one (i := 8) (by kernel_rfl) rfl (fun K hK => ?_)
          rw [if_pos (by kernel_rfl)]
          refine Kq.wp_append_any _ (.tmp 40) (.tmp 46) 22 22 rfl ((w2.heap.size) + 1) 30 i0 (.agg #[.int .i64 0, .int .i64 0, .string ⟨#[]⟩, .string ⟨#[]⟩, .slice none 0 0]) 5 72 Tryd.underlying22 hi0 hz0 hz1 hz2 rfl (by decide) (.slice none 0 0) (List.length ([] : List LfW)) (LfE.flat ([] : List LfW)) (by kernel_rfl) HD2.out.own (.slice (some ⟨y1.heap.size, 0, none⟩) 1 1) 1 (LfE.flat [⟨⟨I0, J0, k0, v0, ps0⟩, za0, zc0⟩]) (by kernel_rfl) HSRC.out ?e1 ?e2 HD2.out.sz ?_
          case e1 => unfold maxLen; simp
          case e2 => simp
          intro v' y3 hown3 hgrow hfresh
          obtain ⟨a0, q0, cp0, hv'⟩ := Kq.own_shape hown3
          subst hv'
          have HD4 := Lib.hid (HD2.out.snoc (z3 := y3) (a' := a0) (q' := q0) (cp' := cp0) HZ2.out.2 (Kq.Keeps.grown hgrow (fun g _ hg => hg.symm)) (by rw [LfE.flat_append, List.length_append]; exact hown3) hfresh)
          have hfz : y3.frozen? ⟨(w2.heap.size), 1, none⟩ = false ∧ y3.cell? ⟨(w2.heap.size), 1, none⟩ = some (.slice none 0 0) := by
            have hpb := HD2.out.pb.later (Kq.Keeps.grown hgrow (S := fun g => some g = (Value.slice none 0 0).ownBlock) (fun g _ hg => hg.symm)) (fun e => by have := own_geB HD2.out.own e.symm; omega)
            exact ⟨hpb.fz 1, hpb.c1⟩
          have f4 := hfz.1
          have c4 := hfz.2
          clear hown3 hgrow hfresh hfz HD2 HSRC hS0
          refine hK.out _ _ c4 (fun hS0 => ?_)
          clear hK K
          refine Kq.wpAnyT_take (i := 9) (v := ?_) rfl rfl (by kernel_rfl) (by kernel_rfl) (by kernel_rfl) (by kernel_rfl) (fun _ _ _ h => h) (Or.inl ⟨by kernel_rfl, ?_⟩) (by assumption) ?_
          rotate_left
          · intro w hSw; (try dsimp only at hSw); go_simp; (try with_reducible rfl)
          refine Kq.wpAnyT_last (by kernel_rfl) rfl (fun K hK => ?_)
          go_simp
          refine hK.out _ _ ?_
          clear hK K
          refine Kq.wpAnyT_done (by kernel_rfl) ?_ _
          obtain ⟨wy, hwz⟩ : ∃ z, z = y3.setCell ⟨(w2.heap.size), 1, none⟩ (.slice a0 q0 cp0) := ⟨_, rfl⟩
          rw [← hwz] at HD4
          (try rw [← hwz])
          clear hwz f4 c4 hS0
          have HQ1 := Lib.hid HZ2.out.1
          clear HZ2
          have HD4 : Hid (Qa w lo hi P T (2 * l.length) (w2.heap.size) l (some ⟨b, off, none⟩) a0 q0 cp0 [⟨⟨I0, J0, k0, v0, ps0⟩, za0, zc0⟩] wy) := Lib.hid HD4.out
          have H4 := HD4
          clear HD4
          have c1 := H4.out.pb.c1
          go_wp2
          obtain ⟨wd, hwd⟩ : ∃ z, z = World.drew wy := ⟨_, rfl⟩
          have HD0 : Hid (Qa w lo hi P T (2 * l.length) (w2.heap.size) l (some ⟨b, off, none⟩) a0 q0 cp0 ([⟨⟨I0, J0, k0, v0, ps0⟩, za0, zc0⟩] : List LfW) wd) := Lib.hid (by
            rw [hwd]
            exact H4.out.below (Below.refl _ _).drew)
          refine Kq.wp_region_T 9 (fun cur => cur.cell? ⟨(w2.heap.size), 1, none⟩ = some (.slice a0 q0 cp0)) (by kernel_rfl) (by rw [← hwd]; exact HD0.out.pb.c1) (fun hS0 => ?_)
          rw [← hwd] at hS0 ⊢
          clear hwd H4
          obtain ⟨U, hU, hbk⟩ := HD0.out.m.bk
          have HL := Lib.hid (HLF.out p wd U HD0.out.m.a hbk (Nat.le_trans HD0.out.m.b1 HD0.out.m.kp.size) (Nat.le_trans HD0.out.m.b2 HD0.out.m.kp.size) HXp.out (by have := HT.out; omega))
          have HU := Lib.hid hU
          clear hU hbk
          refine Kq.wpAnyT_take (i := 0) (v := ?_) rfl rfl (by kernel_rfl) (by kernel_rfl) (by kernel_rfl) (by kernel_rfl) (fun _ _ _ h => h) (Or.inl ⟨by kernel_rfl, ?_⟩) (by assumption) ?_
          rotate_left
          · intro w hSw; (try dsimp only at hSw); go_simp; (try with_reducible rfl)
          refine Kq.wpAnyT_take (i := 2) (v := ?_) rfl rfl (by kernel_rfl) (by kernel_rfl) (by kernel_rfl) (by kernel_rfl) (fun _ _ _ h => h) (Or.inl ⟨by kernel_rfl, ?_⟩) (by assumption) ?_
          rotate_left
          · intro w hSw; (try dsimp only at hSw); go_simp; (try with_reducible rfl)
          refine Kq.wpAnyT_take (i := 3) (v := ?_) rfl rfl (by kernel_rfl) (by kernel_rfl) (by kernel_rfl) (by kernel_rfl) (fun _ _ _ h => h) (Or.inl ⟨by kernel_rfl, ?_⟩) (by assumption) ?_
          rotate_left
          · intro w hSw; (try dsimp only at hSw); go_simp; (try with_reducible rfl)
          refine Kq.wpAnyT_take (i := 4) (v := ?_) rfl rfl (by kernel_rfl) (by kernel_rfl) (by kernel_rfl) (by kernel_rfl) (fun _ _ _ h => h) (Or.inl ⟨by kernel_rfl, ?_⟩) (by assumption) ?_
          rotate_left
          · intro w hSw; (try dsimp only at hSw); go_simp; (try with_reducible rfl)
          refine Kq.wpAnyT_take (i := 1) (v := ?_) rfl rfl (by kernel_rfl) (by kernel_rfl) (by kernel_rfl) (by kernel_rfl) (fun _ _ _ h => h) (Or.inl ⟨by kernel_rfl, ?_⟩) (by assumption) ?_
          rotate_left
          · intro w hSw; (try dsimp only at hSw); go_simp; (try with_reducible rfl)
          refine Kq.wpAnyT_one (i := 5) (by kernel_rfl) rfl (fun K hK => ?_)
          go_simp
          refine HL.out.mono ?_
          rintro x z1 ⟨z, hz, rfl, hztx, hzcap, hbk, K1⟩
          have HZ : Hid (z.l = mkLf l p ∧ TxN z1 (fun k => k < (w2.heap.size) + 1 ∨ some k = (Value.slice a0 q0 cp0).ownBlock) z.a z.l.p ∧ z.l.p.length ≤ z.cap) := Lib.hid ⟨hz, hztx.mono (fun k _ hk => by
            rcases hk with hk | hk
            · have := HD0.out.sz; omega
            · exact (HD0.out.own.lt _ hk.symm).2), hzcap⟩
          have HD1 : Hid (Qa w lo hi P T (4 * l.length) (w2.heap.size) l (some ⟨b, off, none⟩) a0 q0 cp0 ([⟨⟨I0, J0, k0, v0, ps0⟩, za0, zc0⟩] : List LfW) z1) := Lib.hid (HD0.out.call (by obtain ⟨T', h1, h2⟩ := hbk; exact ⟨T', by have := HU.out; omega, h2⟩) K1)
          clear K1 HD0 hz hztx hzcap hbk hS0 HU HL
          refine hK.out _ _ HD1.out.pb.c1 (fun hS0 => ?_)
          clear hK K
          obtain ⟨⟨I, J, k', v, ps⟩, za, zc⟩ := z
          simp only [LfW.val] at HZ ⊢
          refine Kq.wpAnyT_one (i := 6) (by kernel_rfl) rfl (fun K hK => ?_)
          go_simp
          have HD2 := Lib.hid (HD1.out.below (Kq.below_alloc z1 (.cells #[.int .i64 I, .int .i64 J, .string k', .string v, .slice za ps.length zc] 30)))
          have HZ2 : Hid ((⟨I, J, k', v, ps⟩ : LfV) = mkLf l p ∧ TxN (z1.alloc (.cells #[.int .i64 I, .int .i64 J, .string k', .string v, .slice za ps.length zc] 30)) (fun k => k < (w2.heap.size) + 1 ∨ some k = (Value.slice a0 q0 cp0).ownBlock) za ps ∧ ps.length ≤ zc) := Lib.hid ⟨HZ.out.1, HZ.out.2.1.below (Kq.below_alloc _ _), HZ.out.2.2⟩
          have HSRC : Hid (Src Tryd.prog 5 22 (.slice (some ⟨z1.heap.size, 0, none⟩) 1 1) 1 (LfE.flat [⟨⟨I, J, k', v, ps⟩, za, zc⟩]) (z1.alloc (.cells #[.int .i64 I, .int .i64 J, .string k', .string v, .slice za ps.length zc] 30))) := Lib.hid ((Kq.Elt.made_one (E := LfE) ⟨⟨I, J, k', v, ps⟩, za, zc⟩ z1 30).src Tryd.underlying22 1)
          clear hS0 HD1 HZ
          refine hK.out _ _ HD2.out.pb.c1 (fun hS0 => ?_)
          clear hK K
          refine Kq.wpAnyT_one (i := 7) (by kernel_rfl) rfl (fun K hK => ?_)
          rw [if_pos (by kernel_rfl)]
          refine Kq.wp_append_any _ (.tmp 54) (.tmp 59) 22 22 rfl ((w2.heap.size) + 1) 30 i0 (.agg #[.int .i64 0, .int .i64 0, .string ⟨#[]⟩, .string ⟨#[]⟩, .slice none 0 0]) 5 72 Tryd.underlying22 hi0 hz0 hz1 hz2 rfl (by decide) (.slice a0 q0 cp0) (List.length ([⟨⟨I0, J0, k0, v0, ps0⟩, za0, zc0⟩] : List LfW)) (LfE.flat ([⟨⟨I0, J0, k0, v0, ps0⟩, za0, zc0⟩] : List LfW)) (by kernel_rfl) HD2.out.own (.slice (some ⟨z1.heap.size, 0, none⟩) 1 1) 1 (LfE.flat [⟨⟨I, J, k', v, ps⟩, za, zc⟩]) (by kernel_rfl) HSRC.out ?e1 ?e2 HD2.out.sz ?_
          case e1 => unfold maxLen; simp
          case e2 => simp
          intro v' z3 hown3 hgrow hfresh
          obtain ⟨a', q', cp', hv'⟩ := Kq.own_shape hown3
          subst hv'
          have HD4 := Lib.hid (HD2.out.snoc (z3 := z3) (a' := a') (q' := q') (cp' := cp') HZ2.out.2 (Kq.Keeps.grown hgrow (fun g _ hg => hg.symm)) (by rw [LfE.flat_append, List.length_append]; exact hown3) hfresh)
          have hfz : z3.frozen? ⟨(w2.heap.size), 1, none⟩ = false ∧ z3.cell? ⟨(w2.heap.size), 1, none⟩ = some (.slice a0 q0 cp0) := by
            have hpb := HD2.out.pb.later (Kq.Keeps.grown hgrow (S := fun g => some g = (Value.slice a0 q0 cp0).ownBlock) (fun g _ hg => hg.symm)) (fun e => by have := own_geB HD2.out.own e.symm; omega)
            exact ⟨hpb.fz 1, hpb.c1⟩
          have f4 := hfz.1
          have c4 := hfz.2
          clear hown3 hgrow hfresh hfz HD2 HSRC hS0
          refine hK.out _ _ c4 (fun hS0 => ?_)
          clear hK K
          refine Kq.wpAnyT_take (i := 8) (v := ?_) rfl rfl (by kernel_rfl) (by kernel_rfl) (by kernel_rfl) (by kernel_rfl) (fun _ _ _ h => h) (Or.inl ⟨by kernel_rfl, ?_⟩) (by assumption) ?_
          rotate_left
          · intro w hSw; (try dsimp only at hSw); go_simp; (try with_reducible rfl)
          refine Kq.wpAnyT_last (by kernel_rfl) rfl (fun K hK => ?_)
          go_simp
          refine hK.out _ _ ?_
          clear hK K
          refine Kq.wpAnyT_done (by kernel_rfl) ?_ _
          obtain ⟨wz, hwz⟩ : ∃ z, z = z3.setCell ⟨(w2.heap.size), 1, none⟩ (.slice a' q' cp') := ⟨_, rfl⟩
          rw [← hwz] at HD4
          (try rw [← hwz])
          clear hwz f4 c4 hS0
          have HQ2 := Lib.hid HZ2.out.1
          clear HZ2
          have HD5 : Hid (Qa w lo hi P T (4 * l.length) (w2.heap.size) l (some ⟨b, off, none⟩) a' q' cp' [⟨⟨I0, J0, k0, v0, ps0⟩, za0, zc0⟩, ⟨⟨I, J, k', v, ps⟩, za, zc⟩] wz) := Lib.hid HD4.out
          clear HD4
          have HLS := Lib.hid HD5.out.lfs
          obtain ⟨hq, hc, hlf⟩ := HLS.out
          have HEND : Hid (∀ x, x = .returned (.tuple #[.agg #[.bool true, .slice a' q' cp'], .int .i64 0]) → QmPost w lo hi P T N RV x (filled2 wz w.heap.size true (.slice a' q' cp'))) := Lib.hid (fun x hx => by
            rw [HE.out]
            exact qm_end (ls := [⟨⟨I0, J0, k0, v0, ps0⟩, za0, zc0⟩, ⟨⟨I, J, k', v, ps⟩, za, zc⟩]) hq hc (by simp [vals, HQ1.out, HQ2.out]) rfl rfl hlf (let ⟨T', h1, h2⟩ := HD5.out.m.bk; ⟨T', by have := HN.out; omega, h2⟩) HD5.out.m.kp HD5.out.m.b1 hx)
          have p1 := Lib.hid (HD5.out.m.rb.fill true (.slice a' q' cp'))
          have r0 := HD5.out.m.rb.c0
          have r1 := HD5.out.m.rb.c1
          have g0 := HD5.out.m.rb.fz 0
          have g1 := HD5.out.m.rb.fz 1
          have d0 := HD5.out.pb.c0
          have d1 := HD5.out.pb.c1
          clear hq hc hlf
          go_wp2
          obtain ⟨Wf, hWf⟩ : ∃ Wf, Wf = filled2 wz w.heap.size true (.slice a' q' cp') := ⟨_, rfl⟩
          change bodyPost _ _ _ _ _ (filled2 wz w.heap.size true (.slice a' q' cp'))
          rw [← hWf] at p1 HEND ⊢
          have z0 := p1.out.c0
          have z1 := p1.out.c1
          refine bodyPost_ret (v := .tuple #[.agg #[.bool true, .slice a' q' cp'], .int .i64 0]) (by simp [results, Tryd.results20, go_sem, z0, z1]) rfl ?_
          exact HEND.out _ rfl
    · have hpe : p = l.length := by omega
      have HIN := Lib.hid (isIn_no HP.out hlt)
      have HE0 : Hid (RV = (pfNot l key, 0)) := Lib.hid (by rw [HRV.out]; exact absV_ok HKB.out.symm HIN.out)
      have e0 : decide ((p : Int) < (l.length : Int)) = false := decide_eq_false (by omega)
      have e0' : decide (p < l.length) = false := decide_eq_false hlt
      by_cases hp0 : p = 0
      · have t1 : decide ((0 : Int) < (p : Int)) = false := decide_eq_false (by omega)
        have t1' : decide (0 < p) = false := decide_eq_false (by omega)
        have HE : Hid (RV = (⟨true, []⟩, 0)) := Lib.hid (by rw [HE0.out]; unfold pfNot; rw [if_pos (by rw [← HP.out]; exact hp0), if_neg (by rw [← HP.out]; exact hlt)]; rfl)
        clear HE0 hp0 hlt HIN hpe
        have HLS := Lib.hid hA0.out.lfs
        obtain ⟨hq, hc, hlf⟩ := HLS.out
        have HEND : Hid (∀ x, x = .returned (.tuple #[.agg #[.bool true, .slice none 0 0], .int .i64 0]) → QmPost w lo hi P T N RV x (filled2 (w2.alloc (.cells #[.bool true, .slice none 0 0] 24)) w.heap.size true (.slice none 0 0))) := Lib.hid (fun x hx => by
          rw [HE.out]
          exact qm_end (ls := []) hq hc rfl rfl rfl hlf (let ⟨T', h1, h2⟩ := hA0.out.m.bk; ⟨T', by have := HN.out; omega, h2⟩) hA0.out.m.kp hA0.out.m.b1 hx)
        have p1 := Lib.hid (hA0.out.m.rb.fill true (.slice none 0 0))
        have r0 := hA0.out.m.rb.c0
        have r1 := hA0.out.m.rb.c1
        have g0 := hA0.out.m.rb.fz 0
        have g1 := hA0.out.m.rb.fz 1
        have d0 := hA0.out.pb.c0
        have d1 := hA0.out.pb.c1
        clear hq hc hlf
        go_wp2
        obtain ⟨Wf, hWf⟩ : ∃ Wf, Wf = filled2 (w2.alloc (.cells #[.bool true, .slice none 0 0] 24)) w.heap.size true (.slice none 0 0) := ⟨_, rfl⟩
        change bodyPost _ _ _ _ _ (filled2 (w2.alloc (.cells #[.bool true, .slice none 0 0] 24)) w.heap.size true (.slice none 0 0))
        rw [← hWf] at p1 HEND ⊢
        have z0 := p1.out.c0
        have z1 := p1.out.c1
        refine bodyPost_ret (v := .tuple #[.agg #[.bool true, .slice none 0 0], .int .i64 0]) (by simp [results, Tryd.results20, go_sem, z0, z1]) rfl ?_
        exact HEND.out _ rfl
      · obtain ⟨q, hq⟩ : ∃ q, q = p - 1 := ⟨_, rfl⟩
        have HQ := Lib.hid hq
        have hw1' : IntKind.i64.wrap ((p : Int) - 1) = (q : Int) := by rw [IntWalk.i64_in _ (by omega)]; omega
        have hw2' : wrap64 ((p : Int) - 1) = (q : Int) := by rw [IntWalk.wrap64_in _ (by omega)]; omega
        have HXq : Hid (q < l.length) := Lib.hid (by omega)
        have t1 : decide ((0 : Int) < (p : Int)) = true := decide_eq_true (by omega)
        have t1' : decide (0 < p) = true := decide_eq_true (by omega)
        have HE : Hid (RV = (⟨true, [mkLf l q]⟩, 0)) := Lib.hid (by rw [HE0.out]; unfold pfNot; rw [if_neg (by rw [← HP.out]; exact hp0), if_neg (by rw [← HP.out]; exact hlt), ← HP.out, ← HQ.out]; rfl)
        clear HE0 hp0 hlt HIN hq hpe
        go_wp2
        obtain ⟨wd, hwd⟩ : ∃ z, z = World.drew (w2.alloc (.cells #[.bool true, .slice none 0 0] 24)) := ⟨_, rfl⟩
        have HD0 : Hid (Qa w lo hi P T (0) (w2.heap.size) l A none 0 0 ([] : List LfW) wd) := Lib.hid (by
          rw [hwd]
          exact hA0.out.below (Below.refl _ _).drew)
        refine Kq.wp_region_T 10 (fun cur => cur.cell? ⟨(w2.heap.size), 1, none⟩ = some (.slice none 0 0)) (by kernel_rfl) (by rw [← hwd]; exact HD0.out.pb.c1) (fun hS0 => ?_)
        rw [← hwd] at hS0 ⊢
        clear hwd hA0
        obtain ⟨U, hU, hbk⟩ := HD0.out.m.bk
        have HL := Lib.hid (HLF.out q wd U HD0.out.m.a hbk (Nat.le_trans HD0.out.m.b1 HD0.out.m.kp.size) (Nat.le_trans HD0.out.m.b2 HD0.out.m.kp.size) HXq.out (by have := HT.out; omega))
        have HU := Lib.hid hU
        clear hU hbk
        refine Kq.wpAnyT_take (i := 0) (v := ?_) rfl rfl (by kernel_rfl) (by kernel_rfl) (by kernel_rfl) (by kernel_rfl) (fun _ _ _ h => h) (Or.inl ⟨by kernel_rfl, ?_⟩) (by assumption) ?_
        rotate_left
        · intro w hSw; (try dsimp only at hSw); go_simp; (try with_reducible rfl)
        refine Kq.wpAnyT_take (i := 2) (v := ?_) rfl rfl (by kernel_rfl) (by kernel_rfl) (by kernel_rfl) (by kernel_rfl) (fun _ _ _ h => h) (Or.inl ⟨by kernel_rfl, ?_⟩) (by assumption) ?_
        rotate_left
        · intro w hSw; (try dsimp only at hSw); go_simp; (try with_reducible rfl)
        refine Kq.wpAnyT_take (i := 3) (v := ?_) rfl rfl (by kernel_rfl) (by kernel_rfl) (by kernel_rfl) (by kernel_rfl) (fun _ _ _ h => h) (Or.inl ⟨by kernel_rfl, ?_⟩) (by assumption) ?_
        rotate_left
        · intro w hSw; (try dsimp only at hSw); go_simp; (try with_reducible rfl)
        refine Kq.wpAnyT_take (i := 4) (v := ?_) rfl rfl (by kernel_rfl) (by kernel_rfl) (by kernel_rfl) (by kernel_rfl) (fun _ _ _ h => h) (Or.inl ⟨by kernel_rfl, ?_⟩) (by assumption) ?_
        rotate_left
        · intro w hSw; (try dsimp only at hSw); go_simp; (try with_reducible rfl)
        refine Kq.wpAnyT_take (i := 5) (v := ?_) rfl rfl (by kernel_rfl) (by kernel_rfl) (by kernel_rfl) (by kernel_rfl) (fun _ _ _ h => h) (Or.inl ⟨by kernel_rfl, ?_⟩) (by assumption) ?_
        rotate_left
        · intro w hSw; (try dsimp only at hSw); go_simp; (try with_reducible rfl)
        refine Kq.wpAnyT_take (i := 1) (v := ?_) rfl rfl (by kernel_rfl) (by kernel_rfl) (by kernel_rfl) (by kernel_rfl) (fun _ _ _ h => h) (Or.inl ⟨by kernel_rfl, ?_⟩) (by assumption) ?_
        rotate_left
        · intro w hSw; (try dsimp only at hSw); go_simp; (try with_reducible rfl)
        refine Kq.wpAnyT_one (i := 6) (by kernel_rfl) rfl (fun K hK => ?_)
        go_simp
        refine HL.out.mono ?_
        rintro x z1 ⟨z, hz, rfl, hztx, hzcap, hbk, K1⟩
        have HZ : Hid (z.l = mkLf l q ∧ TxN z1 (fun k => k < (w2.heap.size) + 1 ∨ some k = (Value.slice none 0 0).ownBlock) z.a z.l.p ∧ z.l.p.length ≤ z.cap) := Lib.hid ⟨hz, hztx.mono (fun k _ hk => by
          rcases hk with hk | hk
          · have := HD0.out.sz; omega
          · exact (HD0.out.own.lt _ hk.symm).2), hzcap⟩
        have HD1 : Hid (Qa w lo hi P T (2 * l.length) (w2.heap.size) l A none 0 0 ([] : List LfW) z1) := Lib.hid (HD0.out.call (by obtain ⟨T', h1, h2⟩ := hbk; exact ⟨T', by have := HU.out; omega, h2⟩) K1)
        clear K1 HD0 hz hztx hzcap hbk hS0 HU HL
        refine hK.out _ _ HD1.out.pb.c1 (fun hS0 => ?_)
        clear hK K
        obtain ⟨⟨I, J, k', v, ps⟩, za, zc⟩ := z
        simp only [LfW.val] at HZ ⊢
        refine Kq.wpAnyT_one (i := 7) (by kernel_rfl) rfl (fun K hK => ?_)
        go_simp
        have HD2 := Lib.hid (HD1.out.below (Kq.below_alloc z1 (.cells #[.int .i64 I, .int .i64 J, .string k', .string v, .slice za ps.length zc] 30)))
        have HZ2 : Hid ((⟨I, J, k', v, ps⟩ : LfV) = mkLf l q ∧ TxN (z1.alloc (.cells #[.int .i64 I, .int .i64 J, .string k', .string v, .slice za ps.length zc] 30)) (fun k => k < (w2.heap.size) + 1 ∨ some k = (Value.slice none 0 0).ownBlock) za ps ∧ ps.length ≤ zc) := Lib.hid ⟨HZ.out.1, HZ.out.2.1.below (Kq.below_alloc _ _), HZ.out.2.2⟩
        have HSRC : Hid (Src Tryd.prog 5 22 (.slice (some ⟨z1.heap.size, 0, none⟩) 1 1) 1 (LfE.flat [⟨⟨I, J, k', v, ps⟩, za, zc⟩]) (z1.alloc (.cells #[.int .i64 I, .int .i64 J, .string k', .string v, .slice za ps.length zc] 30))) := Lib.hid ((Kq.Elt.made_one (E := LfE) ⟨⟨I, J, k', v, ps⟩, za, zc⟩ z1 30).src Tryd.underlying22 1)
        clear hS0 HD1 HZ
        refine hK.out _ _ HD2.out.pb.c1 (fun hS0 => ?_)
        clear hK K
        refine Kq.wpAnyT_one (i := 8) (by kernel_rfl) rfl (fun K hK => ?_)
        rw [if_pos (by kernel_rfl)]
        refine Kq.wp_append_any _ (.tmp 40) (.tmp 46) 22 22 rfl ((w2.heap.size) + 1) 30 i0 (.agg #[.int .i64 0, .int .i64 0, .string ⟨#[]⟩, .string ⟨#[]⟩, .slice none 0 0]) 5 72 Tryd.underlying22 hi0 hz0 hz1 hz2 rfl (by decide) (.slice none 0 0) (List.length ([] : List LfW)) (LfE.flat ([] : List LfW)) (by kernel_rfl) HD2.out.own (.slice (some ⟨z1.heap.size, 0, none⟩) 1 1) 1 (LfE.flat [⟨⟨I, J, k', v, ps⟩, za, zc⟩]) (by kernel_rfl) HSRC.out ?e1 ?e2 HD2.out.sz ?_
        case e1 => unfold maxLen; simp
        case e2 => simp
        intro v' z3 hown3 hgrow hfresh
        obtain ⟨a', q', cp', hv'⟩ := Kq.own_shape hown3
        subst hv'
        have HD4 := Lib.hid (HD2.out.snoc (z3 := z3) (a' := a') (q' := q') (cp' := cp') HZ2.out.2 (Kq.Keeps.grown hgrow (fun g _ hg => hg.symm)) (by rw [LfE.flat_append, List.length_append]; exact hown3) hfresh)
        have hfz : z3.frozen? ⟨(w2.heap.size), 1, none⟩ = false ∧ z3.cell? ⟨(w2.heap.size), 1, none⟩ = some (.slice none 0 0) := by
          have hpb := HD2.out.pb.later (Kq.Keeps.grown hgrow (S := fun g => some g = (Value.slice none 0 0).ownBlock) (fun g _ hg => hg.symm)) (fun e => by have := own_geB HD2.out.own e.symm; omega)
          exact ⟨hpb.fz 1, hpb.c1⟩
        have f4 := hfz.1
        have c4 := hfz.2
        clear hown3 hgrow hfresh hfz HD2 HSRC hS0
        refine hK.out _ _ c4 (fun hS0 => ?_)
        clear hK K
        refine Kq.wpAnyT_take (i := 9) (v := ?_) rfl rfl (by kernel_rfl) (by kernel_rfl) (by kernel_rfl) (by kernel_rfl) (fun _ _ _ h => h) (Or.inl ⟨by kernel_rfl, ?_⟩) (by assumption) ?_
        rotate_left
        · intro w hSw; (try dsimp only at hSw); go_simp; (try with_reducible rfl)
        refine Kq.wpAnyT_last (by kernel_rfl) rfl (fun K hK => ?_)
        go_simp
        refine hK.out _ _ ?_
        clear hK K
        refine Kq.wpAnyT_done (by kernel_rfl) ?_ _
        obtain ⟨wz, hwz⟩ : ∃ z, z = z3.setCell ⟨(w2.heap.size), 1, none⟩ (.slice a' q' cp') := ⟨_, rfl⟩
        rw [← hwz] at HD4
        (try rw [← hwz])
        clear hwz f4 c4 hS0
        have HQ1 := Lib.hid HZ2.out.1
        clear HZ2
        have HD4 : Hid (Qa w lo hi P T (2 * l.length) (w2.heap.size) l A a' q' cp' [⟨⟨I, J, k', v, ps⟩, za, zc⟩] wz) := Lib.hid HD4.out
        have HLS := Lib.hid HD4.out.lfs
        obtain ⟨hq, hc, hlf⟩ := HLS.out
        have HEND : Hid (∀ x, x = .returned (.tuple #[.agg #[.bool true, .slice a' q' cp'], .int .i64 0]) → QmPost w lo hi P T N RV x (filled2 wz w.heap.size true (.slice a' q' cp'))) := Lib.hid (fun x hx => by
          rw [HE.out]
          exact qm_end (ls := [⟨⟨I, J, k', v, ps⟩, za, zc⟩]) hq hc (by simp [vals, HQ1.out]) rfl rfl hlf (let ⟨T', h1, h2⟩ := HD4.out.m.bk; ⟨T', by have := HN.out; omega, h2⟩) HD4.out.m.kp HD4.out.m.b1 hx)
        have p1 := Lib.hid (HD4.out.m.rb.fill true (.slice a' q' cp'))
        have r0 := HD4.out.m.rb.c0
        have r1 := HD4.out.m.rb.c1
        have g0 := HD4.out.m.rb.fz 0
        have g1 := HD4.out.m.rb.fz 1
        have d0 := HD4.out.pb.c0
        have d1 := HD4.out.pb.c1
        clear hq hc hlf
        go_wp2
        obtain ⟨Wf, hWf⟩ : ∃ Wf, Wf = filled2 wz w.heap.size true (.slice a' q' cp') := ⟨_, rfl⟩
        change bodyPost _ _ _ _ _ (filled2 wz w.heap.size true (.slice a' q' cp'))
        rw [← hWf] at p1 HEND ⊢
        have z0 := p1.out.c0
        have z1 := p1.out.c1
        refine bodyPost_ret (v := .tuple #[.agg #[.bool true, .slice a' q' cp'], .int .i64 0]) (by simp [results, Tryd.results20, go_sem, z0, z1]) rfl ?_
        exact HEND.out _ rfl
end Go.Proofs.YtclloplkbajebaaDoor
