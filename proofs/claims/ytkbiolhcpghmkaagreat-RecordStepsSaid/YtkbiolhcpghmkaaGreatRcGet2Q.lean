/- Merged: RcMay, RcGet2. Contracts of record's isChain, mayBe. No condition. Contract of record's get on a scan's record's own bytes. Condition: what stands there. -/
import Derived.WalkSpells
import Derived.Outline
import Derived.Laws.StructEq
import Derived.ProofKit
import Derived.Test.YtkbiolhcpghmkaaGreatChecked
import Derived.Test.YtkbiolhcpghmkaaGreatRcGetQ
namespace Go.Proofs.YtkbiolhcpghmkaaGreat
open Go.RowKit
set_option linter.unusedVariables false
set_option maxRecDepth 100000 in
theorem pl_eql (p q : PlV) (w : World) : (binOp .eql 24 (.agg #[.int .u64 p.h, .int .i64 p.i]) (.agg #[.int .u64 q.h, .int .i64 q.i])).run Tryz.prog w = .ok (.bool (decide (p = q))) w := by
  have e : decide (p = q) = (decide (p.h = q.h) && decide (p.i = q.i)) := by
    rw [← Bool.decide_and, decide_eq_decide]
    constructor
    · rintro rfl; exact ⟨rfl, rfl⟩
    · rintro ⟨h1, h2⟩; cases p; cases q; simp only at h1 h2; rw [h1, h2]
  rw [e]
  have hs : Tryz.prog.stoodInHeld 24 = false := by kernel_rfl
  by_cases h1 : p.h = q.h
  · by_cases h2 : p.i = q.i <;> simp [go_sem, h1, h2, hs, Tryz.underlying24, Tryz.underlying3, Tryz.underlying22]
  · simp [go_sem, h1, hs, Tryz.underlying24, Tryz.underlying3, Tryz.underlying22]
set_option maxRecDepth 100000 in
theorem rec_chain (c : Int) (w : World) : Calls Tryz.prog 53 #[.int .i64 c] w fun x w' => x = .returned (.bool (decide (c = 0 ∨ c = 1))) ∧ w' = w := by
  by_cases h0 : c = 0
  · have e0 : (c == 0) = true := by rw [h0]; rfl
    have HE : Hid (decide (c = 0 ∨ c = 1) = true) := Lib.hid (decide_eq_true (Or.inl h0))
    clear h0
    go_enter Tryz.func53, Tryz.ntmps53
    go_wp2
    go_ret
    exact ⟨by rw [HE.out]; rfl, rfl⟩
  · have e0 : (c == 0) = false := beq_eq_false_iff_ne.2 h0
    have HE : Hid (decide (c = 0 ∨ c = 1) = (c == 1)) := Lib.hid (by
      by_cases h1 : c = 1
      · rw [decide_eq_true (Or.inr h1), h1]; rfl
      · rw [decide_eq_false (fun h => h.elim h0 h1)]; exact (beq_eq_false_iff_ne.2 h1).symm)
    clear h0
    go_enter Tryz.func53, Tryz.ntmps53
    go_wp2
    go_ret
    exact ⟨by rw [HE.out]; rfl, rfl⟩
set_option maxRecDepth 100000 in
theorem kl_places (a b : PlV) (ha : a.wf) (hb : b.wf) : Tryz.prog.keyLits 4 25 [.int .u64 a.h, .int .i64 a.i, .int .u64 b.h, .int .i64 b.i] = some [.int .u64 a.h, .int .i64 a.i, .int .u64 b.h, .int .i64 b.i] := by
  have k1 : Tryz.prog.cellsOf 3 = 1 := by kernel_rfl
  have k2 : Tryz.prog.cellsOf 22 = 1 := by kernel_rfl
  have k3 : Tryz.prog.cellsOf 24 = 2 := by kernel_rfl
  have k4 : Tryz.prog.cellsOf 25 = 4 := by kernel_rfl
  have i1 : ∀ x : Int, (Lit.int .i64 x).wf = true → Tryz.prog.keyLits 2 3 [.int .i64 x] = some [.int .i64 x] := fun x hx => by
    unfold Program.keyLits; rw [Tryz.underlying3]; simp [hx]
  have i2 : ∀ x : Int, (Lit.int .u64 x).wf = true → Tryz.prog.keyLits 2 22 [.int .u64 x] = some [.int .u64 x] := fun x hx => by
    unfold Program.keyLits; rw [Tryz.underlying22]; simp [hx]
  have i3 : ∀ p : PlV, p.wf → Tryz.prog.keyLits 3 24 [.int .u64 p.h, .int .i64 p.i] = some [.int .u64 p.h, .int .i64 p.i] := fun p hp => by
    unfold Program.keyLits; rw [Tryz.underlying24]; simp [k1, k2, k3, i1 _ hp.2, i2 _ hp.1]
  unfold Program.keyLits
  rw [Tryz.underlying25]
  simp [k3, k4, List.range, List.range.loop, i3 _ ha, i3 _ hb]
theorem pa_eql (a b : PlV) (ha : a.wf) (hb : b.wf) (w : World) : (binOp .eql 25 (.agg #[.int .u64 a.h, .int .i64 a.i, .int .u64 b.h, .int .i64 b.i]) (.agg #[.int .u64 0, .int .i64 0, .int .u64 0, .int .i64 0])).run Tryz.prog w = .ok (.bool (decide (a = PlV.z ∧ b = PlV.z))) w := by
  have hk : Tryz.prog.keyTypeAt 4 25 = true := by kernel_rfl
  have k4 : Tryz.prog.cellsOf 25 = 4 := by kernel_rfl
  have hz : PlV.z.wf := ⟨by decide, by decide⟩
  have hf : ∀ x y : PlV, (Value.agg #[.int .u64 x.h, .int .i64 x.i, .int .u64 y.h, .int .i64 y.i]).formed Tryz.prog 25 = true := fun x y => by
    unfold Value.formed
    rw [Tryz.underlying25]
    simp [k4]
  obtain ⟨r, hr, hiff⟩ := run_equalIn_deep (P := Tryz.prog) 9996 4 25 hk w 4 4 _ _ _ _ (hf a b) (hf PlV.z PlV.z) (kl_places a b ha hb) (kl_places PlV.z PlV.z hz hz)
  have hr2 : r = decide (a = PlV.z ∧ b = PlV.z) := by
    rw [Bool.eq_iff_iff, hiff, decide_eq_true_iff]
    obtain ⟨h0, i0⟩ := a
    obtain ⟨h1, i1⟩ := b
    constructor
    · intro e
      simp only [List.cons.injEq, Lit.int.injEq, true_and, and_true] at e
      obtain ⟨rfl, rfl, rfl, rfl⟩ := e
      exact ⟨rfl, rfl⟩
    · rintro ⟨e1, e2⟩
      rw [e1, e2]
  rw [run_eql_struct]
  rw [show (10000 : Nat) = 9996 + 4 from rfl]
  show ((Op.equalIn (9996 + 4) 25 _ (.agg #[.int .u64 PlV.z.h, .int .i64 PlV.z.i, .int .u64 PlV.z.h, .int .i64 PlV.z.i])).run Tryz.prog w).andThen _ = _
  rw [hr, hr2]
  rfl
/-- a record's block -/
def RecC (A : Option Addr) (ca : Nat) (C : Option Addr) (cc : Nat) (r : ReV) : Array Value := #[.int .i64 r.k, .int .u64 r.d.p0.h, .int .i64 r.d.p0.i, .int .u64 r.d.p1.h, .int .i64 r.d.p1.i, .slice A r.d.l.length ca, .int .i64 r.c, .int .u64 r.p.h, .int .i64 r.p.i, .slice C r.ns.length cc]
set_option maxRecDepth 100000 in
set_option maxHeartbeats 2000000 in
theorem rec_may (A : Option Addr) (ca : Nat) (C : Option Addr) (cc : Nat) (r : ReV) (h0 : r.d.p0.wf) (h1 : r.d.p1.wf) (w : World) :
    Calls Tryz.prog 24 #[.agg #[.int .i64 r.k, .int .u64 r.d.p0.h, .int .i64 r.d.p0.i, .int .u64 r.d.p1.h, .int .i64 r.d.p1.i, .slice A r.d.l.length ca, .int .i64 r.c, .int .u64 r.p.h, .int .i64 r.p.i, .slice C r.ns.length cc]] w fun x w' => x = .returned (.bool (decide (MayR r))) ∧ Below w.heap.size w w' := by
  obtain ⟨k, ⟨p0, p1, l⟩, c, p, ns⟩ := r
  have pq := fun w => pl_eql p PlV.z w
  have aq := fun w => pa_eql p0 p1 h0 h1 w
  clear h0 h1
  obtain ⟨E, hE⟩ : ∃ E, E = decide (MayR ⟨k, ⟨p0, p1, l⟩, c, p, ns⟩) := ⟨_, rfl⟩
  rw [← hE]
  have HE := Lib.hid hE
  obtain ⟨n, hn⟩ : ∃ n, n = l.length := ⟨_, rfl⟩
  obtain ⟨m, hm⟩ : ∃ m, m = ns.length := ⟨_, rfl⟩
  have HN := Lib.hid (And.intro hn hm)
  obtain ⟨b1, hb1⟩ : ∃ b, b = decide (p = PlV.z) := ⟨_, rfl⟩
  obtain ⟨b2, hb2⟩ : ∃ b, b = decide (p0 = PlV.z ∧ p1 = PlV.z) := ⟨_, rfl⟩
  rw [← hb1] at pq
  rw [← hb2] at aq
  have HB := Lib.hid (And.intro hb1 hb2)
  simp only [← hn, ← hm]
  clear hE hn hm hb1 hb2
  have HBL := Lib.hid (Kq.below_alloc w (.cells #[.int .i64 k, .int .u64 p0.h, .int .i64 p0.i, .int .u64 p1.h, .int .i64 p1.i, .slice A n ca, .int .i64 c, .int .u64 p.h, .int .i64 p.i, .slice C m cc] 31))
  obtain ⟨ph, pi⟩ := p
  obtain ⟨p0h, p0i⟩ := p0
  obtain ⟨p1h, p1i⟩ := p1
  simp only [PlV.z] at pq aq
  by_cases k1 : k = 1
  · subst k1
    by_cases g1 : c = 0
    · have e1 : (c == 0) = true := by rw [g1]; rfl
      cases b1 with
      | true =>
        by_cases g3 : m = 0
        · have e3 : ((m : Int) == 0) = true := by rw [g3]; rfl
          have e3' : (m == 0) = true := by rw [g3]; rfl
          by_cases g4 : n ≤ 40
          · have e4 : decide ((n : Int) ≤ 40) = true := decide_eq_true (by omega)
            have e4' : decide (n ≤ 40) = true := decide_eq_true g4
            have HR : Hid (E = true) := Lib.hid (by rw [HE.out]; exact decide_eq_true (Or.inl ⟨rfl, g1, of_decide_eq_true HB.out.1.symm, HN.out.2.symm.trans g3, by show l.length ≤ 40; rw [← HN.out.1]; exact g4⟩))
            (try clear g4)
            (try clear g3)
            (try clear g1)
            go_enter Tryz.func24, Tryz.ntmps24
            go_wp2
            go_ret
            exact ⟨by rw [HR.out]; rfl, HBL.out⟩
          · have e4 : decide ((n : Int) ≤ 40) = false := decide_eq_false (by omega)
            have e4' : decide (n ≤ 40) = false := decide_eq_false g4
            have HR : Hid (E = false) := Lib.hid (by rw [HE.out]; exact decide_eq_false (fun h => by
              rcases h with h | h
              · have := h.2.2.2.2; have h2 := HN.out.1; simp only at this; omega
              · exact absurd h.1 (by simp only; omega)))
            (try clear g4)
            (try clear g3)
            (try clear g1)
            go_enter Tryz.func24, Tryz.ntmps24
            go_wp2
            go_ret
            exact ⟨by rw [HR.out]; rfl, HBL.out⟩
        · have e3 : ((m : Int) == 0) = false := beq_eq_false_iff_ne.2 (by omega)
          have e3' : (m == 0) = false := beq_eq_false_iff_ne.2 g3
          have HR : Hid (E = false) := Lib.hid (by rw [HE.out]; exact decide_eq_false (fun h => by
            rcases h with h | h
            · have := h.2.2.2.1; have h2 := HN.out.2; simp only at this; omega
            · exact absurd h.1 (by simp only; omega)))
          (try clear g4)
          (try clear g3)
          (try clear g1)
          go_enter Tryz.func24, Tryz.ntmps24
          go_wp2
          go_ret
          exact ⟨by rw [HR.out]; rfl, HBL.out⟩
      | false =>
        have HR : Hid (E = false) := Lib.hid (by rw [HE.out]; exact decide_eq_false (fun h => by
          rcases h with h | h
          · exact absurd h.2.2.1 (of_decide_eq_false HB.out.1.symm)
          · exact absurd h.1 (by simp only; omega)))
        (try clear g4)
        (try clear g3)
        (try clear g1)
        go_enter Tryz.func24, Tryz.ntmps24
        go_wp2
        go_ret
        exact ⟨by rw [HR.out]; rfl, HBL.out⟩
    · have e1 : (c == 0) = false := beq_eq_false_iff_ne.2 g1
      have HR : Hid (E = false) := Lib.hid (by rw [HE.out]; exact decide_eq_false (fun h => by
        rcases h with h | h
        · exact g1 h.2.1
        · exact absurd h.1 (by simp only; omega)))
      (try clear g4)
      (try clear g3)
      (try clear g1)
      go_enter Tryz.func24, Tryz.ntmps24
      go_wp2
      go_ret
      exact ⟨by rw [HR.out]; rfl, HBL.out⟩
  have q1 : (k == 1) = false := beq_eq_false_iff_ne.2 k1
  by_cases k2 : k = 2
  · subst k2
    cases b2 with
    | true =>
      by_cases g3 : n = 0
      · have e3 : ((n : Int) == 0) = true := by rw [g3]; rfl
        have e3' : (n == 0) = true := by rw [g3]; rfl
        have G3 := Lib.hid g3
        clear g3
        go_enter Tryz.func24, Tryz.ntmps24
        go_wp2_with fail
        refine (rec_chain c _).mono ?_
        rintro x w2 ⟨rfl, hw2⟩
        have H2 : Hid (Below w.heap.size w w2) := Lib.hid (by rw [hw2]; exact HBL.out)
        have HC : Hid (w2.heap[w.heap.size]? = some (.cells #[.int .i64 2, .int .u64 p0h, .int .i64 p0i, .int .u64 p1h, .int .i64 p1i, .slice A n ca, .int .i64 c, .int .u64 ph, .int .i64 pi, .slice C m cc] 31 (0, 0))) := Lib.hid (by rw [hw2]; exact Kq.blk_new w _ _ _)
        have c9 := Kq.blk_cell HC.out 9
        clear hw2
        by_cases g1 : c = 0 ∨ c = 1
        · rw [decide_eq_true g1]
          by_cases g4 : m ≤ 16
          · have e4 : decide ((m : Int) ≤ 16) = true := decide_eq_true (by omega)
            have e4' : decide (m ≤ 16) = true := decide_eq_true g4
            have HR : Hid (E = true) := Lib.hid (by rw [HE.out]; exact decide_eq_true (Or.inr ⟨rfl, of_decide_eq_true HB.out.2.symm, HN.out.1.symm.trans G3.out, g1, by show ns.length ≤ 16; rw [← HN.out.2]; exact g4⟩))
            clear g1 g4
            go_wp2
            go_ret
            exact ⟨by rw [HR.out]; rfl, H2.out⟩
          · have e4 : decide ((m : Int) ≤ 16) = false := decide_eq_false (by omega)
            have e4' : decide (m ≤ 16) = false := decide_eq_false g4
            have HR : Hid (E = false) := Lib.hid (by rw [HE.out]; exact decide_eq_false (fun h => by
              rcases h with h | h
              · exact absurd h.1 (by simp only; omega)
              · have := h.2.2.2.2; have h2 := HN.out.2; simp only at this; omega))
            clear g1 g4
            go_wp2
            go_ret
            exact ⟨by rw [HR.out]; rfl, H2.out⟩
        · rw [decide_eq_false g1]
          have HR : Hid (E = false) := Lib.hid (by rw [HE.out]; exact decide_eq_false (fun h => by
            rcases h with h | h
            · exact absurd h.1 (by simp only; omega)
            · exact g1 h.2.2.2.1))
          clear g1
          go_wp2
          go_ret
          exact ⟨by rw [HR.out]; rfl, H2.out⟩
      · have e3 : ((n : Int) == 0) = false := beq_eq_false_iff_ne.2 (by omega)
        have e3' : (n == 0) = false := beq_eq_false_iff_ne.2 g3
        have HR : Hid (E = false) := Lib.hid (by rw [HE.out]; exact decide_eq_false (fun h => by
          rcases h with h | h
          · exact absurd h.1 (by simp only; omega)
          · have := h.2.2.1; have h2 := HN.out.1; simp only at this; omega))
        (try clear g4)
        (try clear g3)
        (try clear g1)
        go_enter Tryz.func24, Tryz.ntmps24
        go_wp2
        go_ret
        exact ⟨by rw [HR.out]; rfl, HBL.out⟩
    | false =>
      have HR : Hid (E = false) := Lib.hid (by rw [HE.out]; exact decide_eq_false (fun h => by
        rcases h with h | h
        · exact absurd h.1 (by simp only; omega)
        · exact absurd h.2.1 (of_decide_eq_false HB.out.2.symm)))
      (try clear g4)
      (try clear g3)
      (try clear g1)
      go_enter Tryz.func24, Tryz.ntmps24
      go_wp2
      go_ret
      exact ⟨by rw [HR.out]; rfl, HBL.out⟩
  have q2 : (k == 2) = false := beq_eq_false_iff_ne.2 k2
  have HR : Hid (E = false) := Lib.hid (by rw [HE.out]; exact decide_eq_false (fun h => by
    rcases h with h | h
    · exact k1 h.1
    · exact k2 h.1))
  clear k1 k2
  (try clear g4)
  (try clear g3)
  (try clear g1)
  go_enter Tryz.func24, Tryz.ntmps24
  go_wp2
  go_ret
  exact ⟨by rw [HR.out]; rfl, HBL.out⟩
end Go.Proofs.YtkbiolhcpghmkaaGreat
namespace Go.Proofs.YtkbiolhcpghmkaaGreat
open Go.RowKit
set_option linter.unusedVariables false
set_option maxRecDepth 100000 in
set_option maxHeartbeats 4000000 in
theorem rec_get2 (B cc h0 i0 : Nat) (l : List NtV) (rest : List Nat) (w : World) (h : RdL w B ([2] ++ ([cc] ++ (num8 h0 ++ (num8 i0 ++ ([l.length] ++ (encL l ++ rest))))))) (hb0 : h0 < 18446744073709551616) (hc : cc = 0 ∨ cc = 1) (hi0 : i0 ≤ 65535) (hlw : ∀ n ∈ l, n.wf) (hl : l.length ≤ 16) (hok : ∀ n ∈ l, EnOk [1, 2, 3, 4] n) :
    Calls Tryz.prog 60 #[.pointer (some ⟨B, 0, none⟩)] w fun x w' => ∃ A c, x = .returned (.agg #[.int .i64 2, .int .u64 0, .int .i64 0, .int .u64 0, .int .i64 0, .slice none 0 0, .int .i64 (cc : Int), .int .u64 (h0 : Int), .int .i64 (i0 : Int), .slice A l.length c]) ∧ EnAt NtV.nc w' A l ∧ RdL w' B rest ∧ Kq.Keeps (· = B) w w' ∧ ∀ b off, A = some ⟨b, off, none⟩ → w.heap.size ≤ b := by
  have HH := Lib.hid (And.intro hb0 (And.intro hc (And.intro hi0 (And.intro hlw (And.intro hl hok)))))
  have HBL := Lib.hid h.lt
  obtain ⟨w1, hw1⟩ : ∃ z, z = (w.alloc (.cells #[.pointer (some ⟨B, 0, none⟩)] 118)).alloc (.cells #[.int .i64 0, .int .u64 0, .int .i64 0, .int .u64 0, .int .i64 0, .slice none 0 0, .int .i64 0, .int .u64 0, .int .i64 0, .slice none 0 0] 31) := ⟨_, rfl⟩
  have H1 : Hid (Below w.heap.size w w1 ∧ w1.heap[w.heap.size]? = some (.cells #[.pointer (some ⟨B, 0, none⟩)] 118 (0, 0)) ∧ w1.heap[w.heap.size + 1]? = some (.cells #[.int .i64 0, .int .u64 0, .int .i64 0, .int .u64 0, .int .i64 0, .slice none 0 0, .int .i64 0, .int .u64 0, .int .i64 0, .slice none 0 0] 31 (0, 0))) := Lib.hid (by
    have ha := Kq.below_alloc w (.cells #[.pointer (some ⟨B, 0, none⟩)] 118)
    have hra := Kq.blk_new w #[.pointer (some ⟨B, 0, none⟩)] 118 (0, 0)
    have hb := Kq.below_alloc (w.alloc (.cells #[.pointer (some ⟨B, 0, none⟩)] 118)) (.cells #[.int .i64 0, .int .u64 0, .int .i64 0, .int .u64 0, .int .i64 0, .slice none 0 0, .int .i64 0, .int .u64 0, .int .i64 0, .slice none 0 0] 31)
    have hrb := Kq.blk_new (w.alloc (.cells #[.pointer (some ⟨B, 0, none⟩)] 118)) #[.int .i64 0, .int .u64 0, .int .i64 0, .int .u64 0, .int .i64 0, .slice none 0 0, .int .i64 0, .int .u64 0, .int .i64 0, .slice none 0 0] 31 (0, 0)
    rw [World.size_alloc] at hrb
    rw [← hw1] at hb hrb
    exact ⟨ha.trans (hb.mono ha.size), Kq.below_blk hb hra (Kq.blk_lt hra), hrb⟩)
  have HR1 := Lib.hid (h.below H1.out.1)
  have c0 := Kq.blk_cell H1.out.2.1 0
  clear h hb0 hc hi0 hlw hl hok
  rw [hw1] at c0
  go_enter Tryz.func60, Tryz.ntmps60
  go_wp2_with fail
  rw [← hw1]
  clear c0 hw1
  refine (rl_byte B 2 _ w1 HR1.out).mono ?_
  rintro x w2 ⟨rfl, hr2, k2⟩
  have hbn : ∀ k, k = B → k < w.heap.size := fun k e => by rw [e]; exact HBL.out
  have HNE : Hid (w.heap.size ≠ B ∧ w.heap.size + 1 ≠ B) := Lib.hid (by have := HBL.out; omega)
  have H2 : Hid (RdL w2 B ([cc] ++ (num8 h0 ++ (num8 i0 ++ ([l.length] ++ (encL l ++ rest))))) ∧ w2.heap[w.heap.size]? = some (.cells #[.pointer (some ⟨B, 0, none⟩)] 118 (0, 0)) ∧ w2.heap[w.heap.size + 1]? = some (.cells #[.int .i64 0, .int .u64 0, .int .i64 0, .int .u64 0, .int .i64 0, .slice none 0 0, .int .i64 0, .int .u64 0, .int .i64 0, .slice none 0 0] 31 (0, 0)) ∧ Kq.Keeps (· = B) w w2) := Lib.hid ⟨hr2, k2.blk H1.out.2.1 HNE.out.1, k2.blk H1.out.2.2 HNE.out.2, (Kq.Keeps.of_below H1.out.1 (fun k h1 h2 => absurd h2 (Nat.not_lt.2 h1))).trans k2⟩
  clear hr2 k2 HR1 H1
  obtain ⟨T, hT⟩ : ∃ T, T = w2.heap.size := ⟨_, rfl⟩
  have G3 : Hid (Gs w (w2.alloc (.cells #[.int .i64 2, .int .u64 0, .int .i64 0, .int .u64 0, .int .i64 0, .slice none 0 0, .int .i64 0, .int .u64 0, .int .i64 0, .slice none 0 0] 31)) B T ([cc] ++ (num8 h0 ++ (num8 i0 ++ ([l.length] ++ (encL l ++ rest))))) #[.int .i64 2, .int .u64 0, .int .i64 0, .int .u64 0, .int .i64 0, .slice none 0 0, .int .i64 0, .int .u64 0, .int .i64 0, .slice none 0 0]) := Lib.hid (by
    have hb := Kq.below_alloc w2 (.cells #[.int .i64 2, .int .u64 0, .int .i64 0, .int .u64 0, .int .i64 0, .slice none 0 0, .int .i64 0, .int .u64 0, .int .i64 0, .slice none 0 0] 31)
    have hr := Kq.blk_new w2 #[.int .i64 2, .int .u64 0, .int .i64 0, .int .u64 0, .int .i64 0, .slice none 0 0, .int .i64 0, .int .u64 0, .int .i64 0, .slice none 0 0] 31 (0, 0)
    rw [← hT] at hr
    exact ⟨H2.out.1.below hb, Kq.below_blk hb H2.out.2.1 (Kq.blk_lt H2.out.2.1), Kq.below_blk hb H2.out.2.2.1 (Kq.blk_lt H2.out.2.2.1), hr, H2.out.2.2.2.trans (Kq.Keeps.of_below hb (fun k h1 h2 => absurd h2 (Nat.not_lt.2 h1))), by rw [hT]; exact Kq.blk_lt H2.out.2.2.1, HBL.out⟩)
  have x0 := Kq.blk_cell G3.out.x 0
  go_wp2_with fail
  rw [← hT]
  obtain ⟨w3, hw3⟩ : ∃ z, z = w2.alloc (.cells #[.int .i64 2, .int .u64 0, .int .i64 0, .int .u64 0, .int .i64 0, .slice none 0 0, .int .i64 0, .int .u64 0, .int .i64 0, .slice none 0 0] 31) := ⟨_, rfl⟩
  rw [← hw3] at G3 ⊢
  clear hw3 hT H2 x0
  refine (rl_byte B cc _ w3 G3.out.rd).mono ?_
  rintro x w4 ⟨rfl, hr4, k4⟩
  have G4 := Lib.hid (G3.out.step hr4 k4)
  clear hr4 k4 G3
  have G5 : Hid (Gs w (w4.setCell ⟨T, 6, none⟩ (.int .i64 (cc : Int))) B T (num8 h0 ++ (num8 i0 ++ ([l.length] ++ (encL l ++ rest)))) #[.int .i64 2, .int .u64 0, .int .i64 0, .int .u64 0, .int .i64 0, .slice none 0 0, .int .i64 (cc : Int), .int .u64 0, .int .i64 0, .slice none 0 0]) := Lib.hid (G4.out.set 6 (.int .i64 (cc : Int)))
  have y0 := Kq.blk_cell G4.out.t 6
  have k0 := Kq.blk_free G4.out.t 6
  have x0 := Kq.blk_cell G5.out.x 0
  go_wp2_with fail
  clear y0 k0 x0 G4
  obtain ⟨w5, hw5⟩ : ∃ z, z = w4.setCell ⟨T, 6, none⟩ (.int .i64 (cc : Int)) := ⟨_, rfl⟩
  rw [← hw5] at G5 ⊢
  clear hw5
  refine (nt_place_read B h0 i0 _ w5 G5.out.rd HH.out.1 HH.out.2.2.1).mono ?_
  rintro x w6 ⟨rfl, hr6, k6⟩
  have G6 := Lib.hid (G5.out.step hr6 k6)
  clear hr6 k6 G5
  have G7 : Hid (Gs w ((w6.setCell ⟨T, 7, none⟩ (.int .u64 (h0 : Int))).setCell ⟨T, 8, none⟩ (.int .i64 (i0 : Int))) B T ([l.length] ++ (encL l ++ rest)) #[.int .i64 2, .int .u64 0, .int .i64 0, .int .u64 0, .int .i64 0, .slice none 0 0, .int .i64 (cc : Int), .int .u64 (h0 : Int), .int .i64 (i0 : Int), .slice none 0 0]) := Lib.hid ((G6.out.set 7 (.int .u64 (h0 : Int))).set 8 (.int .i64 (i0 : Int)))
  have y0 := Kq.blk_cell G6.out.t 7
  have y1 := Kq.blk_cell G6.out.t 8
  have y1' := Kq.blk_cell (G6.out.set 7 (.int .u64 (h0 : Int))).t 8
  have k0 := Kq.blk_free G6.out.t 7
  have k1 := Kq.blk_free G6.out.t 8
  have k1' := Kq.blk_free (G6.out.set 7 (.int .u64 (h0 : Int))).t 8
  have x0 := Kq.blk_cell G7.out.x 0
  go_wp2_with fail
  clear y0 y1 y1' k0 k1 k1' x0 G6
  obtain ⟨w7, hw7⟩ : ∃ z, z = (w6.setCell ⟨T, 7, none⟩ (.int .u64 (h0 : Int))).setCell ⟨T, 8, none⟩ (.int .i64 (i0 : Int)) := ⟨_, rfl⟩
  rw [← hw7] at G7 ⊢
  clear hw7
  refine (nt_notesN B l rest w7 G7.out.rd HH.out.2.2.2.1 (by have := HH.out.2.2.2.2.1; omega) HH.out.2.2.2.2.2).mono ?_
  rintro x w8 ⟨A, c, rfl, hat, hr8, k8, hfr⟩
  have G8 := Lib.hid (G7.out.step hr8 k8)
  have G9 : Hid (Gs w (w8.setCell ⟨T, 9, none⟩ (.slice A l.length c)) B T rest #[.int .i64 2, .int .u64 0, .int .i64 0, .int .u64 0, .int .i64 0, .slice none 0 0, .int .i64 (cc : Int), .int .u64 (h0 : Int), .int .i64 (i0 : Int), .slice A l.length c]) := Lib.hid (G8.out.set 9 (.slice A l.length c))
  have HAT : Hid (EnAt NtV.nc w8 A l ∧ (∀ b off, A = some ⟨b, off, none⟩ → w7.heap.size ≤ b) ∧ T < w7.heap.size) := Lib.hid ⟨hat, hfr, Kq.blk_lt G7.out.t⟩
  clear hat hfr hr8 k8 G7
  have y0 := Kq.blk_cell G8.out.t 9
  have k0 := Kq.blk_free G8.out.t 9
  have y6 := Kq.blk_cell G9.out.t 6
  have y9 := Kq.blk_cell G9.out.t 9
  have e4 : decide ((l.length : Int) ≤ 16) = true := decide_eq_true (by have := HH.out.2.2.2.2.1; omega)
  have e4' : decide (l.length ≤ 16) = true := decide_eq_true HH.out.2.2.2.2.1
  have hcc : decide ((cc : Int) = 0 ∨ (cc : Int) = 1) = true := decide_eq_true (by have := HH.out.2.1; omega)
  go_wp2_with fail
  refine (rec_chain (cc : Int) _).mono ?_
  rintro x wq ⟨rfl, hwq⟩
  subst hwq
  rw [hcc]
  go_wp2_with fail
  clear y0 k0 y6 y9 e4 e4' G8 hcc
  obtain ⟨w9, hw9⟩ : ∃ z, z = w8.setCell ⟨T, 9, none⟩ (.slice A l.length c) := ⟨_, rfl⟩
  have HW9 := Lib.hid hw9
  rw [← hw9] at G9 ⊢
  clear hw9
  refine (rec_need w.heap.size w9).mono ?_
  rintro x w10 ⟨rfl, hw10⟩
  subst hw10
  have t0 := Kq.blk_cell G9.out.t 0
  have t1 := Kq.blk_cell G9.out.t 1
  have t2 := Kq.blk_cell G9.out.t 2
  have t3 := Kq.blk_cell G9.out.t 3
  have t4 := Kq.blk_cell G9.out.t 4
  have t5 := Kq.blk_cell G9.out.t 5
  have t6 := Kq.blk_cell G9.out.t 6
  have t7 := Kq.blk_cell G9.out.t 7
  have t8 := Kq.blk_cell G9.out.t 8
  have t9 := Kq.blk_cell G9.out.t 9
  have r0 := Kq.blk_cell G9.out.r 0
  have u0 := Kq.blk_free G9.out.r 0
  have r1 := Kq.blk_cell G9.out.r 1
  have u1 := Kq.blk_free G9.out.r 1
  have r2 := Kq.blk_cell G9.out.r 2
  have u2 := Kq.blk_free G9.out.r 2
  have r3 := Kq.blk_cell G9.out.r 3
  have u3 := Kq.blk_free G9.out.r 3
  have r4 := Kq.blk_cell G9.out.r 4
  have u4 := Kq.blk_free G9.out.r 4
  have r5 := Kq.blk_cell G9.out.r 5
  have u5 := Kq.blk_free G9.out.r 5
  have r6 := Kq.blk_cell G9.out.r 6
  have u6 := Kq.blk_free G9.out.r 6
  have r7 := Kq.blk_cell G9.out.r 7
  have u7 := Kq.blk_free G9.out.r 7
  have r8 := Kq.blk_cell G9.out.r 8
  have u8 := Kq.blk_free G9.out.r 8
  have r9 := Kq.blk_cell G9.out.r 9
  have u9 := Kq.blk_free G9.out.r 9
  go_wp2
  clear t0 r0 u0 t1 r1 u1 t2 r2 u2 t3 r3 u3 t4 r4 u4 t5 r5 u5 t6 r6 u6 t7 r7 u7 t8 r8 u8 t9 r9 u9
  change bodyPost _ _ _ _ _ (fillRc w10 (w.heap.size + 1) (.int .i64 2) (.int .u64 0) (.int .i64 0) (.int .u64 0) (.int .i64 0) (.slice none 0 0) (.int .i64 (cc : Int)) (.int .u64 (h0 : Int)) (.int .i64 (i0 : Int)) (.slice A l.length c))
  have p1' := fillRc_blk G9.out.r (.int .i64 2) (.int .u64 0) (.int .i64 0) (.int .u64 0) (.int .i64 0) (.slice none 0 0) (.int .i64 (cc : Int)) (.int .u64 (h0 : Int)) (.int .i64 (i0 : Int)) (.slice A l.length c)
  have p2' := fillRc_keeps w10 (w.heap.size + 1) (.int .i64 2) (.int .u64 0) (.int .i64 0) (.int .u64 0) (.int .i64 0) (.slice none 0 0) (.int .i64 (cc : Int)) (.int .u64 (h0 : Int)) (.int .i64 (i0 : Int)) (.slice A l.length c)
  generalize fillRc w10 (w.heap.size + 1) (.int .i64 2) (.int .u64 0) (.int .i64 0) (.int .u64 0) (.int .i64 0) (.slice none 0 0) (.int .i64 (cc : Int)) (.int .u64 (h0 : Int)) (.int .i64 (i0 : Int)) (.slice A l.length c) = z at *
  have t0 := Kq.blk_cell p1' 0
  have t1 := Kq.blk_cell p1' 1
  have t2 := Kq.blk_cell p1' 2
  have t3 := Kq.blk_cell p1' 3
  have t4 := Kq.blk_cell p1' 4
  have t5 := Kq.blk_cell p1' 5
  have t6 := Kq.blk_cell p1' 6
  have t7 := Kq.blk_cell p1' 7
  have t8 := Kq.blk_cell p1' 8
  have t9 := Kq.blk_cell p1' 9
  refine bodyPost_ret (v := .agg #[.int .i64 2, .int .u64 0, .int .i64 0, .int .u64 0, .int .i64 0, .slice none 0 0, .int .i64 (cc : Int), .int .u64 (h0 : Int), .int .i64 (i0 : Int), .slice A l.length c]) (by simp [results, Tryz.results60, go_sem, t0, t1, t2, t3, t4, t5, t6, t7, t8, t9]) rfl ?_
  have hT := G9.out.ht
  have hBB := G9.out.hb
  have hks : Kq.Keeps (· = T) w8 w10 := by rw [HW9.out]; exact Kq.Keeps.setCell _ _ _ rfl
  have hAT9 : EnAt NtV.nc w10 A l := HAT.out.1.keeps hks (fun g o e h => by have h1 := HAT.out.2.1 g o e; have h2 : g = T := h; have := HAT.out.2.2; omega)
  refine ⟨A, c, rfl, hAT9.keeps p2' (fun g o e h => by have h1 := HAT.out.2.1 g o e; have h2 : g = w.heap.size + 1 := h; have := HAT.out.2.2; omega), G9.out.rd.keeps p2' (fun h => by have h2 : B = w.heap.size + 1 := h; omega), ?_, fun b off e => by have h1 := HAT.out.2.1 b off e; have h3 := HAT.out.2.2; omega⟩
  exact ⟨p2'.os.trans G9.out.kp.os, p2'.tape.trans G9.out.kp.tape, p2'.output.trans G9.out.kp.output, Nat.le_trans G9.out.kp.size p2'.size, fun k hk1 hn => by
    rw [p2'.block k (Nat.lt_of_lt_of_le hk1 G9.out.kp.size) (fun e => by have e2 : k = w.heap.size + 1 := e; omega), G9.out.kp.block k hk1 hn]⟩
end Go.Proofs.YtkbiolhcpghmkaaGreat
