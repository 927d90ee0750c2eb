/- Contract of packet.Parse. Condition: lengths are ints. -/
import Derived.WalkSpells
import Derived.Deep.RegionHeld
import Derived.Deep.DrawnRows
import Derived.Test.YtclepgpaifaneaaPkBytes
namespace Go.Proofs.Ytclepgpaifaneaa
open Go.RowKit
set_option linter.unusedVariables false
theorem PB.laterB {w w' : World} {H : Nat} {f q t : Int} {d : ByteArray} (h : PB w H f q t d) (hb : Below w.heap.size w w') : PB w' H f q t d := ⟨Kq.below_blk hb h.blk (Kq.blk_lt h.blk)⟩
set_option maxRecDepth 100000 in
set_option maxHeartbeats 2000000 in
theorem pk_parse_short (s r : ByteArray) (e : Int) (hg : getOf 0 s = (PkV.zero, e, r)) (w : World) (hs : s.size ≤ maxLen) :
    Calls Try.prog 21 #[.string s] w fun x w' => x = .returned (.tuple #[PkV.zero.val, .int .i64 e]) ∧ Below w.heap.size w w' := by
  have HG := Lib.hid hg
  have HS := Lib.hid hs
  clear hg hs
  go_enter Try.func21, Try.ntmps21
  go_wp2_with fail
  refine (rd_new s _).mono ?_
  rw [World.size_alloc]
  rintro x w2 ⟨rfl, R2, b2⟩
  have H2 : Hid (Rd w2 (w.heap.size + 1) 0 s ∧ PB w2 w.heap.size 0 0 0 ⟨#[]⟩ ∧ Below w.heap.size w w2) := Lib.hid ⟨R2, (PB.mk (Kq.blk_new w _ _ _)).laterB (by rw [World.size_alloc]; exact b2), (Kq.below_alloc w (Obj.cells #[Value.int IntKind.i64 0, Value.int IntKind.u64 0, Value.int IntKind.u64 0, Value.string ⟨#[]⟩] 39)).trans (b2.mono (by omega))⟩
  clear R2 b2
  go_wp2_with fail
  refine (pk_get (w.heap.size + 1) 0 s _ H2.out.1 HS.out).mono ?_
  intro x w4 hp
  unfold GetPost at hp
  rw [HG.out] at hp
  obtain ⟨rfl, R4, K4⟩ := hp
  have H4 : Hid (Rd (w4.alloc (Obj.cells #[Value.int IntKind.i64 0, Value.int IntKind.u64 0, Value.int IntKind.u64 0, Value.string ⟨#[]⟩] 39)) (w.heap.size + 1) e r ∧ PB (w4.alloc (Obj.cells #[Value.int IntKind.i64 0, Value.int IntKind.u64 0, Value.int IntKind.u64 0, Value.string ⟨#[]⟩] 39)) w.heap.size 0 0 0 ⟨#[]⟩ ∧ Below w.heap.size w (w4.alloc (Obj.cells #[Value.int IntKind.i64 0, Value.int IntKind.u64 0, Value.int IntKind.u64 0, Value.string ⟨#[]⟩] 39))) :=
    Lib.hid ⟨R4.later (Kq.Keeps.alloc (fun _ => False) w4 _) id, (H2.out.2.1.later K4 (by omega)).laterB (Kq.below_alloc w4 _), (H2.out.2.2.trans (K4.below H2.out.2.2.size (fun k _ e => by subst e; omega))).trans ((Kq.below_alloc w4 _).mono (Nat.le_trans H2.out.2.2.size K4.size))⟩
  have hlt : w.heap.size < w4.heap.size := Nat.lt_of_lt_of_le (Kq.blk_lt H2.out.2.1.blk) K4.size
  clear R4 K4 H2
  unfold PkV.val PkV.zero
  have r0 := H4.out.2.1.c0
  have r1 := H4.out.2.1.c1
  have r2 := H4.out.2.1.c2
  have r3 := H4.out.2.1.c3
  have g0 := H4.out.2.1.fz 0
  have g1 := H4.out.2.1.fz 1
  have g2 := H4.out.2.1.fz 2
  have g3 := H4.out.2.1.fz 3
  have HP : Hid (PB (w4.alloc (Obj.cells #[Value.int IntKind.i64 0, Value.int IntKind.u64 0, Value.int IntKind.u64 0, Value.string ⟨#[]⟩] 39)) w4.heap.size 0 0 0 ⟨#[]⟩) := Lib.hid ⟨Kq.blk_new _ _ _ _⟩
  go_wp2
  generalize w4.alloc (Obj.cells #[Value.int IntKind.i64 0, Value.int IntKind.u64 0, Value.int IntKind.u64 0, Value.string ⟨#[]⟩] 39) = z at *
  generalize w4.heap.size = PP at *
  have hne1 : ¬ w.heap.size = PP := Nat.ne_of_lt hlt
  have hne2 : ¬ PP = w.heap.size := fun h => hne1 h.symm
  have c0 := HP.out.c0
  have c1 := HP.out.c1
  have c2 := HP.out.c2
  have c3 := HP.out.c3
  go_region_held (fun w' => w'.cell? ⟨PP, 0, none⟩ = some (.int .i64 0) ∧ w'.cell? ⟨PP, 1, none⟩ = some (.int .u64 0) ∧ w'.cell? ⟨PP, 2, none⟩ = some (.int .u64 0) ∧ w'.cell? ⟨PP, 3, none⟩ = some (.string ⟨#[]⟩)) (go_keep)
    ((go_at_call 17; refine (mem_err (w.heap.size + 1) e z.drew (show Rd z.drew (w.heap.size + 1) e r from H4.out.1).c0).mono ?_; rintro x z1 ⟨rfl, rfl⟩))
  have HR : Hid (Rd z.drew (w.heap.size + 1) e r ∧ PB z.drew w.heap.size 0 0 0 ⟨#[]⟩ ∧ Below w.heap.size w z.drew) := Lib.hid ⟨H4.out.1, ⟨H4.out.2.1.blk⟩, H4.out.2.2.drew⟩
  clear c0 c1 c2 c3 r0 r1 r2 r3 g0 g1 g2 g3
  go_wp2
  have p1 : PB (filled z.drew w.heap.size 0 0 0 ⟨#[]⟩) w.heap.size 0 0 0 ⟨#[]⟩ := (((HR.out.2.1.s0 0).s1 0).s2 0).s3 ⟨#[]⟩
  have p2 := filled_keeps z.drew w.heap.size 0 0 0 ⟨#[]⟩
  obtain ⟨Wf, hWf⟩ : ∃ Wf, Wf = filled z.drew w.heap.size 0 0 0 ⟨#[]⟩ := ⟨_, rfl⟩
  change bodyPost _ _ _ _ _ (filled z.drew w.heap.size 0 0 0 ⟨#[]⟩)
  rw [← hWf] at p1 p2 ⊢
  have z0 := p1.c0
  have z1 := p1.c1
  have z2 := p1.c2
  have z3 := p1.c3
  refine bodyPost_ret (v := .tuple #[PkV.zero.val, .int .i64 e]) (by simp [results, Try.results21, go_sem, z0, z1, z2, z3, PkV.zero, PkV.val]) rfl ?_
  exact ⟨rfl, HR.out.2.2.trans (p2.below HR.out.2.2.size (fun k _ e => by subst e; exact Nat.le_refl _))⟩
set_option maxRecDepth 100000 in
set_option maxHeartbeats 2000000 in
theorem pk_parse_more (s r : ByteArray) (f q t : Int) (d : ByteArray) (hg : getOf 0 s = (⟨f, q, t, d⟩, 0, r)) (hq : q ≠ 0) (hr : 0 < r.size) (w : World) (hs : s.size ≤ maxLen) :
    Calls Try.prog 21 #[.string s] w fun x w' => x = .returned (.tuple #[PkV.zero.val, .int .i64 7]) ∧ Below w.heap.size w w' := by
  have HG := Lib.hid hg
  have HS := Lib.hid hs
  clear hg hs
  have hq1 : (q == 0) = false := by simpa using hq
  clear hq
  go_enter Try.func21, Try.ntmps21
  go_wp2_with fail
  refine (rd_new s _).mono ?_
  rw [World.size_alloc]
  rintro x w2 ⟨rfl, R2, b2⟩
  have H2 : Hid (Rd w2 (w.heap.size + 1) 0 s ∧ PB w2 w.heap.size 0 0 0 ⟨#[]⟩ ∧ Below w.heap.size w w2) := Lib.hid ⟨R2, (PB.mk (Kq.blk_new w _ _ _)).laterB (by rw [World.size_alloc]; exact b2), (Kq.below_alloc w (Obj.cells #[Value.int IntKind.i64 0, Value.int IntKind.u64 0, Value.int IntKind.u64 0, Value.string ⟨#[]⟩] 39)).trans (b2.mono (by omega))⟩
  clear R2 b2
  go_wp2_with fail
  refine (pk_get (w.heap.size + 1) 0 s _ H2.out.1 HS.out).mono ?_
  intro x w4 hp
  unfold GetPost at hp
  rw [HG.out] at hp
  obtain ⟨rfl, R4, K4⟩ := hp
  have H4 : Hid (Rd (w4.alloc (Obj.cells #[Value.int IntKind.i64 f, Value.int IntKind.u64 q, Value.int IntKind.u64 t, Value.string d] 39)) (w.heap.size + 1) 0 r ∧ PB (w4.alloc (Obj.cells #[Value.int IntKind.i64 f, Value.int IntKind.u64 q, Value.int IntKind.u64 t, Value.string d] 39)) w.heap.size 0 0 0 ⟨#[]⟩ ∧ Below w.heap.size w (w4.alloc (Obj.cells #[Value.int IntKind.i64 f, Value.int IntKind.u64 q, Value.int IntKind.u64 t, Value.string d] 39))) :=
    Lib.hid ⟨R4.later (Kq.Keeps.alloc (fun _ => False) w4 _) id, (H2.out.2.1.later K4 (by omega)).laterB (Kq.below_alloc w4 _), (H2.out.2.2.trans (K4.below H2.out.2.2.size (fun k _ e => by subst e; omega))).trans ((Kq.below_alloc w4 _).mono (Nat.le_trans H2.out.2.2.size K4.size))⟩
  have hlt : w.heap.size < w4.heap.size := Nat.lt_of_lt_of_le (Kq.blk_lt H2.out.2.1.blk) K4.size
  clear R4 K4 H2
  unfold PkV.val
  have HP : Hid (PB (w4.alloc (Obj.cells #[Value.int IntKind.i64 f, Value.int IntKind.u64 q, Value.int IntKind.u64 t, Value.string d] 39)) w4.heap.size f q t d) := Lib.hid ⟨Kq.blk_new _ _ _ _⟩
  go_wp2_with fail
  generalize w4.alloc (Obj.cells #[Value.int IntKind.i64 f, Value.int IntKind.u64 q, Value.int IntKind.u64 t, Value.string d] 39) = z at *
  refine (rd_left (w.heap.size + 1) 0 r _ H4.out.1).mono ?_
  rw [show leftOf 0 r = r.size from if_pos rfl]
  rintro x w9 ⟨rfl, rfl⟩
  have r0 := H4.out.2.1.c0
  have r1 := H4.out.2.1.c1
  have r2 := H4.out.2.1.c2
  have r3 := H4.out.2.1.c3
  have g0 := H4.out.2.1.fz 0
  have g1 := H4.out.2.1.fz 1
  have g2 := H4.out.2.1.fz 2
  have g3 := H4.out.2.1.fz 3
  generalize w4.heap.size = PP at *
  go_wp2
  have HR := H4
  have p1 : PB (filled z w.heap.size 0 0 0 ⟨#[]⟩) w.heap.size 0 0 0 ⟨#[]⟩ := (((HR.out.2.1.s0 0).s1 0).s2 0).s3 ⟨#[]⟩
  have p2 := filled_keeps z w.heap.size 0 0 0 ⟨#[]⟩
  obtain ⟨Wf, hWf⟩ : ∃ Wf, Wf = filled z w.heap.size 0 0 0 ⟨#[]⟩ := ⟨_, rfl⟩
  change bodyPost _ _ _ _ _ (filled z w.heap.size 0 0 0 ⟨#[]⟩)
  rw [← hWf] at p1 p2 ⊢
  have z0 := p1.c0
  have z1 := p1.c1
  have z2 := p1.c2
  have z3 := p1.c3
  refine bodyPost_ret (v := .tuple #[PkV.zero.val, .int .i64 7]) (by simp [results, Try.results21, go_sem, z0, z1, z2, z3, PkV.zero, PkV.val]) rfl ?_
  exact ⟨rfl, HR.out.2.2.trans (p2.below HR.out.2.2.size (fun k _ e => by subst e; exact Nat.le_refl _))⟩
set_option maxRecDepth 100000 in
set_option maxHeartbeats 2000000 in
theorem pk_parse_ok (s r : ByteArray) (f q t : Int) (d : ByteArray) (hg : getOf 0 s = (⟨f, q, t, d⟩, 0, r)) (hq : q ≠ 0) (hr : r.size = 0) (w : World) (hs : s.size ≤ maxLen) :
    Calls Try.prog 21 #[.string s] w fun x w' => x = .returned (.tuple #[.agg #[.int .i64 f, .int .u64 q, .int .u64 t, .string d], .int .i64 0]) ∧ Below w.heap.size w w' := by
  have HG := Lib.hid hg
  have HS := Lib.hid hs
  clear hg hs
  have hq1 : (q == 0) = false := by simpa using hq
  clear hq
  go_enter Try.func21, Try.ntmps21
  go_wp2_with fail
  refine (rd_new s _).mono ?_
  rw [World.size_alloc]
  rintro x w2 ⟨rfl, R2, b2⟩
  have H2 : Hid (Rd w2 (w.heap.size + 1) 0 s ∧ PB w2 w.heap.size 0 0 0 ⟨#[]⟩ ∧ Below w.heap.size w w2) := Lib.hid ⟨R2, (PB.mk (Kq.blk_new w _ _ _)).laterB (by rw [World.size_alloc]; exact b2), (Kq.below_alloc w (Obj.cells #[Value.int IntKind.i64 0, Value.int IntKind.u64 0, Value.int IntKind.u64 0, Value.string ⟨#[]⟩] 39)).trans (b2.mono (by omega))⟩
  clear R2 b2
  go_wp2_with fail
  refine (pk_get (w.heap.size + 1) 0 s _ H2.out.1 HS.out).mono ?_
  intro x w4 hp
  unfold GetPost at hp
  rw [HG.out] at hp
  obtain ⟨rfl, R4, K4⟩ := hp
  have H4 : Hid (Rd (w4.alloc (Obj.cells #[Value.int IntKind.i64 f, Value.int IntKind.u64 q, Value.int IntKind.u64 t, Value.string d] 39)) (w.heap.size + 1) 0 r ∧ PB (w4.alloc (Obj.cells #[Value.int IntKind.i64 f, Value.int IntKind.u64 q, Value.int IntKind.u64 t, Value.string d] 39)) w.heap.size 0 0 0 ⟨#[]⟩ ∧ Below w.heap.size w (w4.alloc (Obj.cells #[Value.int IntKind.i64 f, Value.int IntKind.u64 q, Value.int IntKind.u64 t, Value.string d] 39))) :=
    Lib.hid ⟨R4.later (Kq.Keeps.alloc (fun _ => False) w4 _) id, (H2.out.2.1.later K4 (by omega)).laterB (Kq.below_alloc w4 _), (H2.out.2.2.trans (K4.below H2.out.2.2.size (fun k _ e => by subst e; omega))).trans ((Kq.below_alloc w4 _).mono (Nat.le_trans H2.out.2.2.size K4.size))⟩
  have hlt : w.heap.size < w4.heap.size := Nat.lt_of_lt_of_le (Kq.blk_lt H2.out.2.1.blk) K4.size
  clear R4 K4 H2
  unfold PkV.val
  have HP : Hid (PB (w4.alloc (Obj.cells #[Value.int IntKind.i64 f, Value.int IntKind.u64 q, Value.int IntKind.u64 t, Value.string d] 39)) w4.heap.size f q t d) := Lib.hid ⟨Kq.blk_new _ _ _ _⟩
  go_wp2_with fail
  generalize w4.alloc (Obj.cells #[Value.int IntKind.i64 f, Value.int IntKind.u64 q, Value.int IntKind.u64 t, Value.string d] 39) = z at *
  refine (rd_left (w.heap.size + 1) 0 r _ H4.out.1).mono ?_
  rw [show leftOf 0 r = 0 by unfold leftOf; rw [if_pos rfl, hr]]
  rintro x w9 ⟨rfl, rfl⟩
  clear hr
  have r0 := H4.out.2.1.c0
  have r1 := H4.out.2.1.c1
  have r2 := H4.out.2.1.c2
  have r3 := H4.out.2.1.c3
  have g0 := H4.out.2.1.fz 0
  have g1 := H4.out.2.1.fz 1
  have g2 := H4.out.2.1.fz 2
  have g3 := H4.out.2.1.fz 3
  generalize w4.heap.size = PP at *
  have c0 := HP.out.c0
  have c1 := HP.out.c1
  have c2 := HP.out.c2
  have c3 := HP.out.c3
  go_wp2
  have HR := H4
  have p1 : PB (filled z w.heap.size f q t d) w.heap.size f q t d := (((HR.out.2.1.s0 f).s1 q).s2 t).s3 d
  have p2 := filled_keeps z w.heap.size f q t d
  obtain ⟨Wf, hWf⟩ : ∃ Wf, Wf = filled z w.heap.size f q t d := ⟨_, rfl⟩
  change bodyPost _ _ _ _ _ (filled z w.heap.size f q t d)
  rw [← hWf] at p1 p2 ⊢
  have z0 := p1.c0
  have z1 := p1.c1
  have z2 := p1.c2
  have z3 := p1.c3
  refine bodyPost_ret (v := .tuple #[.agg #[.int .i64 f, .int .u64 q, .int .u64 t, .string d], .int .i64 0]) (by simp [results, Try.results21, go_sem, z0, z1, z2, z3]) rfl ?_
  exact ⟨rfl, HR.out.2.2.trans (p2.below HR.out.2.2.size (fun k _ e => by subst e; exact Nat.le_refl _))⟩
end Go.Proofs.Ytclepgpaifaneaa
