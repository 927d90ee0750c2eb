/- Merged: RcNext, RcOk. Contracts of the two closures of record's Replay. Condition: a record, a state in memory. Mathematics of states and records: what is told may be. No condition. -/
import Derived.WalkSpells
import Derived.Outline
import Derived.Test.YtkbiolhcpghmkaaGreatRcStepQ
import Derived.Test.YtkbiolhcpghmkaaGreatRcParQ
import Derived.Test.YtkbiolhcpghmkaaGreatTbSameMQ
namespace Go.Proofs.YtkbiolhcpghmkaaGreat
open Go.RowKit Go.Kq
set_option linter.unusedVariables false
theorem DaP.form {w w' : World} {e : Int} {d : DaV} {x : Ending} (h : DaP w e d x w') : ∃ (a b c g : Int) (A : Option Addr) (n ca : Nat), x = .returned (.tuple #[.agg #[.int .u64 a, .int .i64 b, .int .u64 c, .int .i64 g, .slice A n ca], .int .i64 e]) := by
  rcases h.2 with ⟨h0, rfl⟩ | ⟨h0, A', c', rfl, _⟩
  · exact ⟨0, 0, 0, 0, none, 0, 0, rfl⟩
  · exact ⟨_, _, _, _, _, _, _, by rw [h0]; rfl⟩
theorem DaP.lift {w w1 w2 w3 : World} {e : Int} {d : DaV} {x : Ending} {R : Nat} (h : DaP w1 e d x w2) (hb : Below w.heap.size w w1) (hR : w.heap.size ≤ R) (hR2 : R < w1.heap.size) (hk : Kq.Keeps (· = R) w2 w3) : DaP w e d x w3 := by
  have hb2 : Below w.heap.size w w3 := (hb.trans (h.1.mono hb.size)).trans (hk.below (Nat.le_trans hb.size h.1.size) (fun k _ e => by have e2 : k = R := e; omega))
  refine ⟨hb2, ?_⟩
  rcases h.2 with ⟨h0, hx⟩ | ⟨h0, A', c', hx, hat, hge⟩
  · exact Or.inl ⟨h0, hx⟩
  · refine Or.inr ⟨h0, A', c', hx, hat.keeps hk (fun g o e h => by have h1 := (hge g o e).1; have h2 : g = R := h; omega), fun b off e => ?_⟩
    have h1 := hge b off e
    have h2 := hb.size
    have h3 := hk.size
    exact ⟨by omega, by omega⟩
/-- what the first record leads to -/
def nextE (r : ReV) (room : Int) : Int := if r.k = 1 then chkV r.d room else 5
/-- the two blocks of a closure's call -/
structure NxB (w w1 : World) (X2 R : Nat) (D : Option Addr) (cd : Nat) (C : Option Addr) (cc : Nat) (r : ReV) : Prop where
  b : Below w.heap.size w w1
  r : RecX w1 X2 D cd C cc r
  z : w1.heap[R]? = some (.cells #[.int .u64 0, .int .i64 0, .int .u64 0, .int .i64 0, .slice none 0 0] 28 (0, 0))
theorem NxB.new (w : World) (D : Option Addr) (cd : Nat) (C : Option Addr) (cc : Nat) (r : ReV) : NxB w ((w.alloc (.cells #[.int .i64 r.k, .int .u64 r.d.p0.h, .int .i64 r.d.p0.i, .int .u64 r.d.p1.h, .int .i64 r.d.p1.i, .slice D r.d.l.length cd, .int .i64 r.c, .int .u64 r.p.h, .int .i64 r.p.i, .slice C r.ns.length cc] 31)).alloc (.cells #[.int .u64 0, .int .i64 0, .int .u64 0, .int .i64 0, .slice none 0 0] 28)) w.heap.size (w.heap.size + 1) D cd C cc r := by
  have ha := Kq.below_alloc w (.cells #[.int .i64 r.k, .int .u64 r.d.p0.h, .int .i64 r.d.p0.i, .int .u64 r.d.p1.h, .int .i64 r.d.p1.i, .slice D r.d.l.length cd, .int .i64 r.c, .int .u64 r.p.h, .int .i64 r.p.i, .slice C r.ns.length cc] 31)
  have hra := Kq.blk_new w #[.int .i64 r.k, .int .u64 r.d.p0.h, .int .i64 r.d.p0.i, .int .u64 r.d.p1.h, .int .i64 r.d.p1.i, .slice D r.d.l.length cd, .int .i64 r.c, .int .u64 r.p.h, .int .i64 r.p.i, .slice C r.ns.length cc] 31 (0, 0)
  have hb := Kq.below_alloc (w.alloc (.cells #[.int .i64 r.k, .int .u64 r.d.p0.h, .int .i64 r.d.p0.i, .int .u64 r.d.p1.h, .int .i64 r.d.p1.i, .slice D r.d.l.length cd, .int .i64 r.c, .int .u64 r.p.h, .int .i64 r.p.i, .slice C r.ns.length cc] 31)) (.cells #[.int .u64 0, .int .i64 0, .int .u64 0, .int .i64 0, .slice none 0 0] 28)
  have hrb := Kq.blk_new (w.alloc (.cells #[.int .i64 r.k, .int .u64 r.d.p0.h, .int .i64 r.d.p0.i, .int .u64 r.d.p1.h, .int .i64 r.d.p1.i, .slice D r.d.l.length cd, .int .i64 r.c, .int .u64 r.p.h, .int .i64 r.p.i, .slice C r.ns.length cc] 31)) #[.int .u64 0, .int .i64 0, .int .u64 0, .int .i64 0, .slice none 0 0] 28 (0, 0)
  rw [World.size_alloc] at hrb
  exact ⟨ha.trans (hb.mono ha.size), Kq.below_blk hb hra (Kq.blk_lt hra), hrb⟩
set_option maxRecDepth 100000 in
set_option maxHeartbeats 4000000 in
theorem rec_next1 (X : Nat) (room : Int) (D : Option Addr) (cd : Nat) (C : Option Addr) (cc : Nat) (r : ReV) (w : World) (hX : w.cell? ⟨X, 0, none⟩ = some (.int .i64 room)) (hXl : X < w.heap.size) (hr : RecW w D C r) :
    Calls Tryz.prog 28 #[reV r D cd C cc, .pointer (some ⟨X, 0, none⟩)] w (DaP w (nextE r room) r.d) := by
  have H1 := Lib.hid (NxB.new w D cd C cc r)
  obtain ⟨X2, hX2⟩ : ∃ X, X = w.heap.size := ⟨_, rfl⟩
  obtain ⟨R, hR⟩ : ∃ X, X = w.heap.size + 1 := ⟨_, rfl⟩
  rw [← hR, ← hX2] at H1
  obtain ⟨w1, hw1⟩ : ∃ z, z = ((w.alloc (.cells #[.int .i64 r.k, .int .u64 r.d.p0.h, .int .i64 r.d.p0.i, .int .u64 r.d.p1.h, .int .i64 r.d.p1.i, .slice D r.d.l.length cd, .int .i64 r.c, .int .u64 r.p.h, .int .i64 r.p.i, .slice C r.ns.length cc] 31)).alloc (.cells #[.int .u64 0, .int .i64 0, .int .u64 0, .int .i64 0, .slice none 0 0] 28)) := ⟨_, rfl⟩
  rw [← hw1] at H1
  rw [hX2] at H1
  have HX : Hid (w.heap.size < R ∧ X < w.heap.size) := Lib.hid (by omega)
  have hx1 : w1.cell? ⟨X, 0, none⟩ = some (.int .i64 room) := by rw [← hX]; exact H1.out.b.cell hXl
  have HRW := Lib.hid hr
  clear hr hX hXl hX2
  obtain ⟨k, ⟨q0, q1, m⟩, c, p, ns⟩ := r
  obtain ⟨c0, c1, c2, c3, c4, c5, c6, c7, c8, c9⟩ := RecAt.of H1.out.r
  simp only at c0 c1 c2 c3 c4 c5 c6 c7 c8 c9
  have z0 := Kq.blk_cell H1.out.z 0
  have z1 := Kq.blk_cell H1.out.z 1
  have z2 := Kq.blk_cell H1.out.z 2
  have z3 := Kq.blk_cell H1.out.z 3
  have z4 := Kq.blk_cell H1.out.z 4
  have f0 := Kq.blk_free H1.out.z 0
  have f1 := Kq.blk_free H1.out.z 1
  have f2 := Kq.blk_free H1.out.z 2
  have f3 := Kq.blk_free H1.out.z 3
  have f4 := Kq.blk_free H1.out.z 4
  simp only at hw1
  unfold reV
  by_cases hk : k = 1
  · subst hk
    have HE : Hid (nextE ⟨1, ⟨q0, q1, m⟩, c, p, ns⟩ room = chkV ⟨q0, q1, m⟩ room) := Lib.hid (if_pos rfl)
    rw [hw1, hR] at z0 z1 z2 z3 z4 f0 f1 f2 f3 f4
    rw [hw1] at c0 c1 c2 c3 c4 c5 c6 c7 c8 c9 hx1
    go_enter Tryz.func28, Tryz.ntmps28
    go_wp2_with fail
    rw [← hR, ← hw1]
    clear hw1 hR c0 c1 c2 c3 c4 c5 c6 c7 c8 c9 hx1 z0 z1 z2 z3 z4 f0 f1 f2 f3 f4
    refine (rec_begin D cd ⟨q0, q1, m⟩ room w1 ⟨HRW.out.p0, HRW.out.p1, HRW.out.l.below H1.out.b, HRW.out.lw, HRW.out.ll⟩).mono ?_
    intro x w4 hx
    have HD := Lib.hid hx
    obtain ⟨a, b, cq, g, A, n, ca, rfl⟩ := hx.form
    have hz := Kq.below_blk hx.1 H1.out.z (Kq.blk_lt H1.out.z)
    have HZ := Lib.hid hz
    clear hx
    have z0 := Kq.blk_cell hz 0
    have z1 := Kq.blk_cell hz 1
    have z2 := Kq.blk_cell hz 2
    have z3 := Kq.blk_cell hz 3
    have z4 := Kq.blk_cell hz 4
    have f0 := Kq.blk_free hz 0
    have f1 := Kq.blk_free hz 1
    have f2 := Kq.blk_free hz 2
    have f3 := Kq.blk_free hz 3
    have f4 := Kq.blk_free hz 4
    clear hz
    go_wp2
    clear z0 z1 z2 z3 z4 f0 f1 f2 f3 f4
    change bodyPost _ _ _ _ _ (fillD w4 R a b cq g (.slice A n ca))
    have p1' := fillD_blk HZ.out a b cq g (.slice A n ca)
    have p2' := fillD_keeps w4 R a b cq g (.slice A n ca)
    generalize fillD w4 R a b cq g (.slice A n ca) = z at *
    have z0 := Kq.blk_cell p1' 0
    have z1 := Kq.blk_cell p1' 1
    have z2 := Kq.blk_cell p1' 2
    have z3 := Kq.blk_cell p1' 3
    have z4 := Kq.blk_cell p1' 4
    refine bodyPost_ret (v := .tuple #[.agg #[.int .u64 a, .int .i64 b, .int .u64 cq, .int .i64 g, .slice A n ca], .int .i64 (chkV ⟨q0, q1, m⟩ room)]) (by simp [results, Tryz.results28, go_sem, z0, z1, z2, z3, z4]) rfl ?_
    rw [HE.out]
    exact HD.out.lift H1.out.b (by have := HX.out; omega) (Kq.blk_lt H1.out.z) p2'
  · have hk1 : (k != 1) = true := by rw [bne_iff_ne]; exact hk
    have HE : Hid (nextE ⟨k, ⟨q0, q1, m⟩, c, p, ns⟩ room = 5) := Lib.hid (if_neg hk)
    clear hk
    rw [hw1, hR] at z0 z1 z2 z3 z4 f0 f1 f2 f3 f4
    rw [hw1] at c0
    clear c1 c2 c3 c4 c5 c6 c7 c8 c9 hx1
    go_enter Tryz.func28, Tryz.ntmps28
    go_wp2
    rw [← hR, ← hw1]
    clear hw1 hR c0 z0 z1 z2 z3 z4 f0 f1 f2 f3 f4
    have z0 := Kq.blk_cell H1.out.z 0
    have z1 := Kq.blk_cell H1.out.z 1
    have z2 := Kq.blk_cell H1.out.z 2
    have z3 := Kq.blk_cell H1.out.z 3
    have z4 := Kq.blk_cell H1.out.z 4
    refine bodyPost_ret (v := .tuple #[daZ, .int .i64 5]) (by simp [results, Tryz.results28, go_sem, z0, z1, z2, z3, z4, daZ]) rfl ?_
    rw [HE.out]
    exact ⟨H1.out.b, Or.inl ⟨by decide, rfl⟩⟩
set_option maxRecDepth 100000 in
set_option maxHeartbeats 4000000 in
theorem rec_next2 (X T : Nat) (room : Int) (A0 : Option Addr) (c0' : Nat) (d : DaV) (D : Option Addr) (cd : Nat) (C : Option Addr) (cc : Nat) (r : ReV) (w : World) (hX : w.cell? ⟨X, 0, none⟩ = some (.int .i64 room)) (hXl : X < w.heap.size) (hT : DaX w T A0 c0' d) (hd : DaW w A0 d) (hr : RecW w D C r) :
    Calls Tryz.prog 30 #[reV r D cd C cc, .pointer (some ⟨T, 0, none⟩), .pointer (some ⟨X, 0, none⟩)] w (DaP w (stepV d room r).1 (stepV d room r).2) := by
  have H1 := Lib.hid (NxB.new w D cd C cc r)
  obtain ⟨X2, hX2⟩ : ∃ X, X = w.heap.size := ⟨_, rfl⟩
  obtain ⟨R, hR⟩ : ∃ X, X = w.heap.size + 1 := ⟨_, rfl⟩
  rw [← hR, ← hX2] at H1
  obtain ⟨w1, hw1⟩ : ∃ z, z = ((w.alloc (.cells #[.int .i64 r.k, .int .u64 r.d.p0.h, .int .i64 r.d.p0.i, .int .u64 r.d.p1.h, .int .i64 r.d.p1.i, .slice D r.d.l.length cd, .int .i64 r.c, .int .u64 r.p.h, .int .i64 r.p.i, .slice C r.ns.length cc] 31)).alloc (.cells #[.int .u64 0, .int .i64 0, .int .u64 0, .int .i64 0, .slice none 0 0] 28)) := ⟨_, rfl⟩
  rw [← hw1] at H1
  rw [hX2] at H1
  have HX : Hid (w.heap.size < R ∧ X < w.heap.size) := Lib.hid (by omega)
  have hx1 : w1.cell? ⟨X, 0, none⟩ = some (.int .i64 room) := by rw [← hX]; exact H1.out.b.cell hXl
  have hT1 : DaX w1 T A0 c0' d := Kq.below_blk H1.out.b hT (Kq.blk_lt hT)
  have HRW := Lib.hid (And.intro hr hd)
  clear hr hd hX hXl hX2 hT
  obtain ⟨k, ⟨q0, q1, m⟩, c, p, ns⟩ := r
  obtain ⟨p0, p1, l⟩ := d
  obtain ⟨c0, c1, c2, c3, c4, c5, c6, c7, c8, c9⟩ := RecAt.of H1.out.r
  simp only at c0 c1 c2 c3 c4 c5 c6 c7 c8 c9
  have t0 := Kq.blk_cell hT1 0
  have t1 := Kq.blk_cell hT1 1
  have t2 := Kq.blk_cell hT1 2
  have t3 := Kq.blk_cell hT1 3
  have t4 := Kq.blk_cell hT1 4
  simp only at t0 t1 t2 t3 t4
  clear hT1
  simp only at hw1
  unfold reV
  rw [hw1] at c0 c1 c2 c3 c4 c5 c6 c7 c8 c9 hx1 t0 t1 t2 t3 t4
  go_enter Tryz.func30, Tryz.ntmps30
  go_wp2_with fail
  rw [← hR, ← hw1]
  clear hw1 hR c0 c1 c2 c3 c4 c5 c6 c7 c8 c9 hx1 t0 t1 t2 t3 t4
  refine (rec_step A0 c0' ⟨p0, p1, l⟩ room D cd C cc ⟨k, ⟨q0, q1, m⟩, c, p, ns⟩ w1 (HRW.out.2.below H1.out.b) (HRW.out.1.below H1.out.b)).mono ?_
  intro x w4 hx
  have HD := Lib.hid hx
  obtain ⟨a, b, cq, g, A, n, ca, rfl⟩ := hx.form
  have hz := Kq.below_blk hx.1 H1.out.z (Kq.blk_lt H1.out.z)
  have HZ := Lib.hid hz
  clear hx
  have z0 := Kq.blk_cell hz 0
  have z1 := Kq.blk_cell hz 1
  have z2 := Kq.blk_cell hz 2
  have z3 := Kq.blk_cell hz 3
  have z4 := Kq.blk_cell hz 4
  have f0 := Kq.blk_free hz 0
  have f1 := Kq.blk_free hz 1
  have f2 := Kq.blk_free hz 2
  have f3 := Kq.blk_free hz 3
  have f4 := Kq.blk_free hz 4
  clear hz
  generalize stepV ⟨p0, p1, l⟩ room ⟨k, ⟨q0, q1, m⟩, c, p, ns⟩ = sv at *
  obtain ⟨se, sd⟩ := sv
  simp only at HD ⊢
  go_wp2
  clear z0 z1 z2 z3 z4 f0 f1 f2 f3 f4
  change bodyPost _ _ _ _ _ (fillD w4 R a b cq g (.slice A n ca))
  have p1' := fillD_blk HZ.out a b cq g (.slice A n ca)
  have p2' := fillD_keeps w4 R a b cq g (.slice A n ca)
  generalize fillD w4 R a b cq g (.slice A n ca) = z at *
  have z0 := Kq.blk_cell p1' 0
  have z1 := Kq.blk_cell p1' 1
  have z2 := Kq.blk_cell p1' 2
  have z3 := Kq.blk_cell p1' 3
  have z4 := Kq.blk_cell p1' 4
  refine bodyPost_ret (v := .tuple #[.agg #[.int .u64 a, .int .i64 b, .int .u64 cq, .int .i64 g, .slice A n ca], .int .i64 se]) (by simp [results, Tryz.results30, go_sem, z0, z1, z2, z3, z4]) rfl ?_
  exact HD.out.lift H1.out.b (by have := HX.out; omega) (Kq.blk_lt H1.out.z) p2'
end Go.Proofs.YtkbiolhcpghmkaaGreat
namespace Go.Proofs.YtkbiolhcpghmkaaGreat
open Go.RowKit Go.Kq
set_option linter.unusedVariables false
theorem ofL_good : ∀ (l acc b : List NtV), tbR.Sort acc → (∀ x ∈ acc, ItOk x ∧ x.wf) → (∀ n ∈ l, ItOk n ∧ n.wf) → ofL acc l = some b → tbR.Sort b ∧ (∀ x ∈ b, ItOk x ∧ x.wf) ∧ b.length = acc.length + l.length
  | [], acc, b, hs, ha, hl, h => by
    have e : acc = b := Option.some.inj h
    subst e
    exact ⟨hs, ha, by simp⟩
  | n :: l, acc, b, hs, ha, hl, h => by
    have h' : (if (tbR.look acc n.nm).isSome = true then none else ofL (tbR.ins acc n) l) = some b := h
    by_cases g : (tbR.look acc n.nm).isSome = true
    · rw [if_pos g] at h'; cases h'
    · rw [if_neg g] at h'
      obtain ⟨k1, k2, k3⟩ := ofL_good l (tbR.ins acc n) b (Ord.sort_ins _ _ hs) (fun x hx => by
        rcases Ord.mem_ins _ _ _ hx with rfl | hx
        · exact hl x (List.mem_cons_self ..)
        · exact ha x hx) (fun x hx => hl x (List.mem_cons_of_mem _ hx)) h'
      refine ⟨k1, k2, ?_⟩
      have h3 : (tbR.ins acc n).length = acc.length + 1 := by
        rw [Ord.len_ins _ _ hs]
        show (if (tbR.look acc n.nm).isSome then _ else _) = _
        rw [if_neg g]
      rw [k3, h3, List.length_cons]; omega
theorem ofV_tb {r : Int} {l acc : List NtV} (hw : ∀ n ∈ l, n.wf) (h : ofV r l = (0, some acc)) : TbOk ⟨r.toNat, acc⟩ := by
  unfold ofV at h
  by_cases h1 : ¬ (1 ≤ r ∧ r ≤ 40)
  · rw [if_pos h1] at h; simp at h
  · rw [if_neg h1] at h
    by_cases h2 : ¬ ∀ n ∈ l, ItOk n
    · rw [if_pos h2] at h; simp at h
    · rw [if_neg h2] at h
      cases e : ofL [] l with
      | none => rw [e] at h; simp at h
      | some b =>
        rw [e] at h
        have h' : (if r < (l.length : Int) then ((2 : Int), (none : Option (List NtV))) else (0, some b)) = (0, some acc) := h
        by_cases g : r < (l.length : Int)
        · rw [if_pos g] at h'; simp at h'
        · rw [if_neg g] at h'
          have e2 : b = acc := by injection h' with _ h3; injection h3
          subst e2
          obtain ⟨k1, k2, k3⟩ := ofL_good l [] b List.Pairwise.nil (fun x h => by cases h) (fun n hn => ⟨Classical.not_not.1 h2 n hn, hw n hn⟩) e
          have h1' := Classical.not_not.1 h1
          refine ⟨k1, k2, ?_, ?_, ?_⟩
          · show b.length ≤ r.toNat
            simp only [List.length_nil] at k3; omega
          · show 1 ≤ r.toNat; omega
          · show r.toNat ≤ 40; omega
/-- the numbers of a state are the machine's -/
structure DaNum (d : DaV) : Prop where
  p0 : d.p0.wf
  p1 : d.p1.wf
  lw : ∀ n ∈ d.l, n.wf
theorem DaW.num {w : World} {A : Option Addr} {d : DaV} (h : DaW w A d) : DaNum d := ⟨h.p0, h.p1, h.lw⟩
theorem RcNum.d {r : ReV} (h : RcNum r) : DaNum r.d := ⟨h.p0, h.p1, h.lw⟩
theorem chk_tb {d : DaV} {room : Int} (hn : DaNum d) (h : chkV d room = 0) : (d.p0.ok ∧ d.p1.ok) ∧ TbOk ⟨room.toNat, d.l⟩ := by
  obtain ⟨h1, h2⟩ := chk_zero h
  exact ⟨h1, ofV_tb hn.lw h2⟩
theorem tb_same {r : Int} {l : List NtV} (h : TbOk ⟨r.toNat, l⟩) : ofV r l = (0, some l) := by
  have h1 : 1 ≤ r.toNat := h.r1
  have h2 : ((r.toNat : Nat) : Int) = r := Int.toNat_of_nonneg (by omega)
  have h3 := ofV_same h
  simp only at h3
  rw [h2] at h3
  exact h3
theorem chk_of {d : DaV} {room : Int} (h0 : d.p0.ok) (h1 : d.p1.ok) (h : TbOk ⟨room.toNat, d.l⟩) : chkV d room = 0 := by
  unfold chkV
  rw [if_pos ⟨h0, h1⟩, tb_same h]
  show (if d.l = d.l then (0 : Int) else 15) = 0
  rw [if_pos rfl]
theorem chk_iff {d : DaV} {room : Int} (hn : DaNum d) : chkV d room = 0 ↔ (d.p0.ok ∧ d.p1.ok) ∧ TbOk ⟨room.toNat, d.l⟩ := ⟨chk_tb hn, fun h => chk_of h.1.1 h.1.2 h.2⟩
/-- a step that goes -/
theorem step_zero {d : DaV} {room : Int} {r : ReV} (hd : DaNum d) (hr : RcNum r) (h : (stepV d room r).1 = 0) : chkV d room = 0 ∧ RecOk r ∧ ((r.k = 1 ∧ (stepV d room r).2 = r.d ∧ chkV r.d room = 0) ∨ (r.k = 2 ∧ (r.c = 0 ∨ r.c = 1) ∧ (stepV d room r).2 = putP d r.c r.p (scV ⟨room.toNat, d.l⟩ r.ns).1.l ∧ (scV ⟨room.toNat, d.l⟩ r.ns).2 = 0)) := by
  have e : stepV d room r = if chkV d room ≠ 0 then (chkV d room, d) else if recE r ≠ 0 then (recE r, d) else if r.k = 1 then (chkV r.d room, r.d) else ((scV ⟨room.toNat, d.l⟩ r.ns).2, putP d r.c r.p (scV ⟨room.toNat, d.l⟩ r.ns).1.l) := rfl
  by_cases h1 : chkV d room = 0
  · rw [if_neg (by simp [h1])] at e
    by_cases h2 : recE r = 0
    · have h2' : RecOk r := by
        unfold recE at h2
        by_cases g : RecOk r
        · exact g
        · rw [if_neg g] at h2; cases h2
      rw [if_neg (by simp [h2])] at e
      refine ⟨h1, h2', ?_⟩
      by_cases h3 : r.k = 1
      · rw [if_pos h3] at e
        rw [e] at h
        exact Or.inl ⟨h3, by rw [e], h⟩
      · rw [if_neg h3] at e
        rw [e] at h
        rcases h2'.1 with hm | hm
        · exact absurd hm.1 h3
        · exact Or.inr ⟨hm.1, hm.2.2.2.1, by rw [e], h⟩
    · rw [if_pos h2] at e
      rw [e] at h
      exact absurd h h2
  · rw [if_pos h1] at e
    rw [e] at h
    exact absurd h h1
theorem step_num {d : DaV} {room : Int} {r : ReV} (hd : DaNum d) (hr : RcNum r) (h : (stepV d room r).1 = 0) : DaNum (stepV d room r).2 ∧ chkV (stepV d room r).2 room = 0 := by
  obtain ⟨h1, h2, ⟨h3, h4, h5⟩ | ⟨h3, h4, h5, h6⟩⟩ := step_zero hd hr h
  · rw [h4]; exact ⟨hr.d, h5⟩
  · obtain ⟨⟨g0, g1⟩, g2⟩ := chk_tb hd h1
    have g3 := scV_ok r.ns ⟨room.toNat, d.l⟩ g2 hr.nw
    have g4 : (scV ⟨room.toNat, d.l⟩ r.ns).1.room = room.toNat := scV_room r.ns _
    have g5 : TbOk ⟨room.toNat, (scV ⟨room.toNat, d.l⟩ r.ns).1.l⟩ := by
      obtain ⟨sc, hsc⟩ : ∃ sc, sc = (scV ⟨room.toNat, d.l⟩ r.ns).1 := ⟨_, rfl⟩
      rw [← hsc] at g3 g4 ⊢
      obtain ⟨a, b⟩ := sc
      simp only at g4
      subst g4
      exact g3
    have g6 : r.p.ok := (h2.2.2 h3).1
    have g7 : ∀ n ∈ (scV ⟨room.toNat, d.l⟩ r.ns).1.l, n.wf := fun n hn => (g5.ok n hn).2
    rw [h5]
    unfold putP
    by_cases hc : r.c = 0
    · rw [if_pos hc]
      exact ⟨⟨hr.p, hd.p1, g7⟩, chk_of g6 g1 g5⟩
    · rw [if_neg hc]
      exact ⟨⟨hd.p0, hr.p, g7⟩, chk_of g0 g6 g5⟩
/-- the state behind further records -/
def stepsV (room : Int) : DaV → List ReV → Int × DaV
  | d, [] => (0, d)
  | d, r :: rs => if (stepV d room r).1 ≠ 0 then ((stepV d room r).1, d) else stepsV room (stepV d room r).2 rs
/-- what records are replayed to -/
def replayV (room : Int) : List ReV → Int × DaV
  | [] => (3, ⟨PlV.z, PlV.z, []⟩)
  | r :: rs => if nextE r room ≠ 0 then (nextE r room, r.d) else stepsV room r.d rs
theorem stepsV_snoc (room : Int) : ∀ (rs : List ReV) (d : DaV) (r : ReV), (stepsV room d rs).1 = 0 → stepsV room d (rs ++ [r]) = stepsV room (stepsV room d rs).2 [r]
  | [], d, r, h => rfl
  | q :: rs, d, r, h => by
    have e : stepsV room d (q :: rs) = if (stepV d room q).1 ≠ 0 then ((stepV d room q).1, d) else stepsV room (stepV d room q).2 rs := rfl
    have e2 : stepsV room d ((q :: rs) ++ [r]) = if (stepV d room q).1 ≠ 0 then ((stepV d room q).1, d) else stepsV room (stepV d room q).2 (rs ++ [r]) := rfl
    by_cases g : (stepV d room q).1 = 0
    · rw [if_neg (by simp [g])] at e e2
      rw [e] at h ⊢
      rw [e2]
      exact stepsV_snoc room rs _ r h
    · rw [if_pos g] at e
      rw [e] at h
      exact absurd h g
/-- a step that doesn't go ends it -/
theorem stepsV_bad (room : Int) : ∀ (a : List ReV) (d : DaV) (r : ReV) (b : List ReV), (stepsV room d a).1 = 0 → (stepV (stepsV room d a).2 room r).1 ≠ 0 → (stepsV room d (a ++ r :: b)).1 = (stepV (stepsV room d a).2 room r).1
  | [], d, r, b, h, hb => by
    show (if (stepV d room r).1 ≠ 0 then ((stepV d room r).1, d) else stepsV room (stepV d room r).2 b).1 = _
    have hb' : (stepV d room r).1 ≠ 0 := hb
    rw [if_pos hb']; rfl
  | q :: a, d, r, b, h, hb => by
    have e : stepsV room d (q :: a) = if (stepV d room q).1 ≠ 0 then ((stepV d room q).1, d) else stepsV room (stepV d room q).2 a := rfl
    have e2 : stepsV room d ((q :: a) ++ r :: b) = if (stepV d room q).1 ≠ 0 then ((stepV d room q).1, d) else stepsV room (stepV d room q).2 (a ++ r :: b) := rfl
    by_cases g : (stepV d room q).1 = 0
    · rw [if_neg (by simp [g])] at e e2
      rw [e] at h hb ⊢
      rw [e2]
      exact stepsV_bad room a _ r b h hb
    · rw [if_pos g] at e
      rw [e] at h
      exact absurd h g
theorem stepsV_num (room : Int) : ∀ (rs : List ReV) (d : DaV), DaNum d → chkV d room = 0 → (∀ r ∈ rs, RcNum r) → (stepsV room d rs).1 = 0 → DaNum (stepsV room d rs).2 ∧ chkV (stepsV room d rs).2 room = 0
  | [], d, hd, hc, hr, h => ⟨hd, hc⟩
  | q :: rs, d, hd, hc, hr, h => by
    have e : stepsV room d (q :: rs) = if (stepV d room q).1 ≠ 0 then ((stepV d room q).1, d) else stepsV room (stepV d room q).2 rs := rfl
    by_cases g : (stepV d room q).1 = 0
    · rw [if_neg (by simp [g])] at e
      rw [e] at h ⊢
      have g2 := step_num hd (hr q (List.mem_cons_self ..)) g
      exact stepsV_num room rs _ g2.1 g2.2 (fun r h => hr r (List.mem_cons_of_mem _ h)) h
    · rw [if_pos g] at e
      rw [e] at h
      exact absurd h g
end Go.Proofs.YtkbiolhcpghmkaaGreat
