/- Contract of carrackref10.Get. Condition: a text of at most 1000 bytes. -/
import Derived.WalkSpells
import Derived.Deep.RegionHeld
import Derived.Deep.DrawnRows
import Derived.Test.YtclepgpaifaneaaRefVal
import Derived.Test.YtclepgpaifaneaaRefRight
namespace Go.Proofs.Ytclepgpaifaneaa
open Go.RowKit
set_option linter.unusedVariables false
def RGet (p : PkV) (n e : Int) (w : World) (x : Ending) (w' : World) : Prop := x = .returned (.tuple #[p.val, .int .i64 n, .int .i64 e]) ∧ Below w.heap.size w w'
set_option maxRecDepth 100000 in
set_option maxHeartbeats 2000000 in
theorem ref_get_short (s : ByteArray) (w : World) (h : s.size < 19) :
    Calls Try.prog 18 #[.string s] w (RGet PkV.zero 0 6 w) := by
  have hd : decide ((s.size : Int) < 19) = true := decide_eq_true (by omega)
  go_enter Try.func18, Try.ntmps18
  go_wp2
  refine bodyPost_ret (v := .tuple #[PkV.zero.val, .int .i64 0, .int .i64 6]) (by simp [results, Try.results18, go_sem, PkV.zero, PkV.val]) rfl ?_
  exact ⟨rfl, Kq.below_alloc _ _⟩
set_option maxRecDepth 100000 in
set_option maxHeartbeats 2000000 in
theorem ref_get_short2 (s : ByteArray) (w : World) (h : ¬ s.size < 19) (hs : s.size ≤ 1000) (n : Nat) (hn : n < 65536) (hv : WireM.val (nl (s.extract 17 19)) = n) (h2 : s.size < 19 + n) :
    Calls Try.prog 18 #[.string s] w (RGet PkV.zero 0 6 w) := by
  have HV := Lib.hid (ref_value (s.extract 17 19))
  rw [hv] at HV
  clear hv
  have hw := u64_int n hn
  go_enter Try.func18, Try.ntmps18
  go_wp2_with fail
  refine (HV.out _ (by simp; omega)).mono ?_
  rintro x w2 ⟨rfl, rfl⟩
  go_wp2
  refine bodyPost_ret (v := .tuple #[PkV.zero.val, .int .i64 0, .int .i64 6]) (by simp [results, Try.results18, go_sem, PkV.zero, PkV.val]) rfl ?_
  exact ⟨rfl, Kq.below_alloc _ _⟩
theorem PB.below {w w' : World} {H : Nat} {f q t : Int} {d : ByteArray} (h : PB w H f q t d) (hb : Below w.heap.size w w') : PB w' H f q t d := ⟨Kq.below_blk hb h.blk (Kq.blk_lt h.blk)⟩
theorem two_packets (w : World) (f q t : Int) (d : ByteArray) : PB (((w.alloc (Obj.cells #[Value.int IntKind.i64 0, Value.int IntKind.u64 0, Value.int IntKind.u64 0, Value.string ⟨#[]⟩] 39)).alloc (Obj.cells #[Value.int IntKind.i64 f, Value.int IntKind.u64 q, Value.int IntKind.u64 t, Value.string d] 39)).drew) (w.heap.size + 1) f q t d ∧
    PB (((w.alloc (Obj.cells #[Value.int IntKind.i64 0, Value.int IntKind.u64 0, Value.int IntKind.u64 0, Value.string ⟨#[]⟩] 39)).alloc (Obj.cells #[Value.int IntKind.i64 f, Value.int IntKind.u64 q, Value.int IntKind.u64 t, Value.string d] 39)).drew) w.heap.size 0 0 0 ⟨#[]⟩ ∧
    Below w.heap.size w (((w.alloc (Obj.cells #[Value.int IntKind.i64 0, Value.int IntKind.u64 0, Value.int IntKind.u64 0, Value.string ⟨#[]⟩] 39)).alloc (Obj.cells #[Value.int IntKind.i64 f, Value.int IntKind.u64 q, Value.int IntKind.u64 t, Value.string d] 39)).drew) := by
  refine ⟨⟨?_⟩, ⟨?_⟩, ?_⟩
  · have := Kq.blk_new (w.alloc (Obj.cells #[Value.int IntKind.i64 0, Value.int IntKind.u64 0, Value.int IntKind.u64 0, Value.string ⟨#[]⟩] 39)) #[Value.int IntKind.i64 f, Value.int IntKind.u64 q, Value.int IntKind.u64 t, Value.string d] 39 (0, 0)
    rw [World.size_alloc] at this
    exact this
  · show ((w.alloc _).alloc _).heap[w.heap.size]? = _
    rw [Below.heap_alloc _ _ _ (by simp)]
    exact Kq.blk_new _ _ _ _
  · exact ((Kq.below_alloc w _).trans ((Kq.below_alloc _ _).mono (Kq.below_alloc w _).size)).drew
def LongPost (p : PkV) (n : Nat) (w : World) (x : Ending) (w' : World) : Prop := if PkOk p then RGet p ((19 + n : Nat) : Int) 0 w x w' else RGet PkV.zero 0 5 w x w'
attribute [local go_sem ↓] Go.wp_at_zero Go.wp_at_succ
set_option maxRecDepth 100000 in
set_option maxHeartbeats 4000000 in
theorem ref_get_long (s : ByteArray) (w : World) (h : ¬ s.size < 19) (hs : s.size ≤ 1000) (n : Nat) (hn : n < 65536) (hv : WireM.val (nl (s.extract 17 19)) = n) (h2 : ¬ s.size < 19 + n) (p : PkV)
    (hp : p = ⟨(((s[0]'(by omega)).toNat : Nat) : Int), ((WireM.val (nl (s.extract 1 9)) : Nat) : Int), ((WireM.val (nl (s.extract 9 17)) : Nat) : Int), s.extract 19 (19 + n)⟩) :
    Calls Try.prog 18 #[.string s] w (LongPost p n w) := by
  have HV := Lib.hid (ref_value (s.extract 17 19))
  rw [hv] at HV
  clear hv
  have hw := u64_int n hn
  have hp0 : (0 : Nat) < s.size := by omega
  have HP := Lib.hid hp
  clear hp
  go_enter Try.func18, Try.ntmps18
  go_wp2_with fail
  refine (HV.out _ (by simp; omega)).mono ?_
  rintro x w2 ⟨rfl, rfl⟩
  clear HV
  go_wp2
  have b9 : (9 : Int) ≤ (s.size : Int) := by omega
  have b17 : (17 : Int) ≤ (s.size : Int) := by omega
  have b19 : (19 : Int) + (n : Int) ≤ (s.size : Int) := by omega
  have b20 : (19 : Int) ≤ (19 : Int) + (n : Int) := by omega
  have b21 : (0 : Int) ≤ (19 : Int) + (n : Int) := by omega
  have b22 : ((19 : Int) + (n : Int)).toNat = 19 + n := by omega
  have b23 : IntKind.i64.wrap ((19 : Int) + (n : Int)) = (19 : Int) + (n : Int) := IntWalk.i64_in _ (by omega)
  have b24 : IntKind.i64.wrap ((s[0].toNat : Nat) : Int) = ((s[0].toNat : Nat) : Int) := IntWalk.i64_in _ (by have := s[0].toNat_lt; omega)
  go_region_held (fun w' => True) (trivial)
    ((go_at_call 13; refine (ref_value _ _ (by simp; omega)).mono ?_; rintro e z1 ⟨rfl, rfl⟩))
  all_goals
    clear b9 b17 b20 b21 b22 b23 b24
    obtain ⟨q1, q2, q3⟩ := two_packets w ((s[0].toNat : Nat) : Int) ((WireM.val (nl (s.extract 1 9)) : Nat) : Int) ((WireM.val (nl (s.extract 9 17)) : Nat) : Int) (s.extract 19 (19 + n))
    generalize (((w.alloc (Obj.cells #[Value.int IntKind.i64 0, Value.int IntKind.u64 0, Value.int IntKind.u64 0, Value.string ⟨#[]⟩] 39)).alloc (Obj.cells #[Value.int IntKind.i64 ((s[0].toNat : Nat) : Int), Value.int IntKind.u64 ((WireM.val (nl (s.extract 1 9)) : Nat) : Int), Value.int IntKind.u64 ((WireM.val (nl (s.extract 9 17)) : Nat) : Int), Value.string (s.extract 19 (19 + n))] 39)).drew) = z at *
    have n1 : (0 : Int) ≤ ((WireM.val (nl (s.extract 1 9)) : Nat) : Int) := by omega
    have n2 : (0 : Int) ≤ ((WireM.val (nl (s.extract 9 17)) : Nat) : Int) := by omega
    generalize ((WireM.val (nl (s.extract 1 9)) : Nat) : Int) = q at *
    generalize ((WireM.val (nl (s.extract 9 17)) : Nat) : Int) = t at *
    generalize ((s[0].toNat : Nat) : Int) = f at *
    generalize s.extract 19 (19 + n) = d at *
    have Q := Lib.hid (And.intro q1 (And.intro q2 q3))
    have c0 := q1.c0
    have c1 := q1.c1
    have c2 := q1.c2
    have c3 := q1.c3
    clear q1 q2 q3
    by_cases hok : PkOk ⟨f, q, t, d⟩
    · have HOK := Lib.hid hok
      clear hok
      go_wp2_with fail
      refine (ref_right_ok f q t d _ HOK.out n1 n2).mono ?_
      rintro x w5 ⟨rfl, b5⟩
      have Q5 := Lib.hid (And.intro (Q.out.1.below b5) (And.intro (Q.out.2.1.below b5) (Q.out.2.2.trans (b5.mono Q.out.2.2.size))))
      clear b5 c0 c1 c2 c3 Q
      have c0 := Q5.out.1.c0
      have c1 := Q5.out.1.c1
      have c2 := Q5.out.1.c2
      have c3 := Q5.out.1.c3
      have r0 := Q5.out.2.1.c0
      have r1 := Q5.out.2.1.c1
      have r2 := Q5.out.2.1.c2
      have r3 := Q5.out.2.1.c3
      have g0 := Q5.out.2.1.fz 0
      have g1 := Q5.out.2.1.fz 1
      have g2 := Q5.out.2.1.fz 2
      have g3 := Q5.out.2.1.fz 3
      go_wp2
      have p1 : PB (filled w5 w.heap.size f q t d) w.heap.size f q t d := (((Q5.out.2.1.s0 f).s1 q).s2 t).s3 d
      have p2 := filled_keeps w5 w.heap.size f q t d
      obtain ⟨Wf, hWf⟩ : ∃ Wf, Wf = filled w5 w.heap.size f q t d := ⟨_, rfl⟩
      change bodyPost _ _ _ _ _ (filled w5 w.heap.size f q t d)
      rw [← hWf] at p1 p2 ⊢
      have z0 := p1.c0
      have z1 := p1.c1
      have z2 := p1.c2
      have z3 := p1.c3
      refine bodyPost_ret (v := .tuple #[.agg #[.int .i64 f, .int .u64 q, .int .u64 t, .string d], .int .i64 (19 + (n : Int)), .int .i64 0]) (by simp [results, Try.results18, go_sem, z0, z1, z2, z3]) rfl ?_
      unfold LongPost
      rw [HP.out, if_pos HOK.out]
      exact ⟨by rw [Int.natCast_add]; rfl, Q5.out.2.2.trans (p2.below Q5.out.2.2.size (fun k _ e => by subst e; exact Nat.le_refl _))⟩
    · have HOK := Lib.hid hok
      clear hok
      go_wp2_with fail
      refine (ref_right_bad f q t d _ HOK.out n1 n2).mono ?_
      rintro x w5 ⟨rfl, b5⟩
      have Q5 := Lib.hid (And.intro (Q.out.1.below b5) (And.intro (Q.out.2.1.below b5) (Q.out.2.2.trans (b5.mono Q.out.2.2.size))))
      clear b5 c0 c1 c2 c3 Q
      have r0 := Q5.out.2.1.c0
      have r1 := Q5.out.2.1.c1
      have r2 := Q5.out.2.1.c2
      have r3 := Q5.out.2.1.c3
      have g0 := Q5.out.2.1.fz 0
      have g1 := Q5.out.2.1.fz 1
      have g2 := Q5.out.2.1.fz 2
      have g3 := Q5.out.2.1.fz 3
      go_wp2
      have p1 : PB (filled w5 w.heap.size 0 0 0 ⟨#[]⟩) w.heap.size 0 0 0 ⟨#[]⟩ := (((Q5.out.2.1.s0 0).s1 0).s2 0).s3 ⟨#[]⟩
      have p2 := filled_keeps w5 w.heap.size 0 0 0 ⟨#[]⟩
      obtain ⟨Wf, hWf⟩ : ∃ Wf, Wf = filled w5 w.heap.size 0 0 0 ⟨#[]⟩ := ⟨_, rfl⟩
      change bodyPost _ _ _ _ _ (filled w5 w.heap.size 0 0 0 ⟨#[]⟩)
      rw [← hWf] at p1 p2 ⊢
      have z0 := p1.c0
      have z1 := p1.c1
      have z2 := p1.c2
      have z3 := p1.c3
      refine bodyPost_ret (v := .tuple #[PkV.zero.val, .int .i64 0, .int .i64 5]) (by simp [results, Try.results18, go_sem, z0, z1, z2, z3, PkV.zero, PkV.val]) rfl ?_
      unfold LongPost
      rw [HP.out, if_neg HOK.out]
      exact ⟨rfl, Q5.out.2.2.trans (p2.below Q5.out.2.2.size (fun k _ e => by subst e; exact Nat.le_refl _))⟩
end Go.Proofs.Ytclepgpaifaneaa
