/- Contract of frame.at. Condition: sizes. -/
import Derived.WalkSpells
import Derived.Test.YtfbjfleagilikaaFrRead
namespace Go.Proofs.Ytfbjfleagilikaa
open Go.RowKit
set_option linter.unusedVariables false
set_option linter.unusedSimpArgs false
def atVal (o : Option FrP) : Value := .tuple #[(partOf o).val, .bool o.isSome]
theorem read_isSome (a : Int) (s : ByteArray) : ((frRead a s).2 == 0) = (frRead a s).1.isSome := by
  cases h : (frRead a s).1 with
  | none => have := frRead_none h; simpa using this
  | some p => rw [(frRead_some h).2.2.2]; rfl
theorem blk_and {w w1 : World} {R : Nat} {oR : Obj} (hbk : w1.heap[R]? = some oR) (hb : Below w.heap.size w w1) (cs : Array Value) (t : TypeId) :
    (w1.alloc (.cells cs t)).heap[R]? = some oR ∧ (w1.alloc (.cells cs t)).heap[w1.heap.size]? = some (.cells cs t (0, 0)) ∧ Below w.heap.size w (w1.alloc (.cells cs t)) :=
  ⟨Kq.below_blk (Kq.below_alloc w1 _) hbk (Kq.blk_lt hbk), Kq.blk_new _ _ _ _, hb.trans ((Kq.below_alloc w1 _).mono hb.size)⟩
set_option maxRecDepth 100000 in
set_option maxHeartbeats 2000000 in
theorem fr_at (a k : Nat) (s : ByteArray) (w : World) (ha : 64 ≤ a) (h5 : a ≤ 512) (hs : s.size ≤ 1000000) (hk : k ≤ 1000000) :
    Calls Try.prog 22 #[.int .i64 (a : Int), .string s, .int .i64 (k : Int)] w fun e w' => e = .returned (atVal (partAt a s k)) ∧ Below w.heap.size w w' := by
  have hm : (k : Int) * (a : Int) = ((k * a : Nat) : Int) := by rw [Int.natCast_mul]
  have hml : k * a ≤ 1000000 * 512 := Nat.mul_le_mul hk h5
  have HP : Hid (partAt a s k = if k * a + a ≤ s.size then (frRead a (s.extract (k * a) (k * a + a))).1 else none) := Lib.hid rfl
  have hfe : ((k * a : Nat) : Int) + (a : Int) = ((k * a + a : Nat) : Int) := by omega
  have hfe2 : k * a + a ≤ 600000000 := by omega
  have hle : k * a ≤ k * a + a := by omega
  have H0 := Lib.hid (Kq.below_alloc w (.cells #[.int .u64 0, .int .u64 0, .int .i64 0, .int .i64 0, .string ⟨#[]⟩] 40))
  have HX := Lib.hid (Kq.blk_new w #[.int .u64 0, .int .u64 0, .int .i64 0, .int .i64 0, .string ⟨#[]⟩] 40 (0, 0))
  generalize k * a + a = e at *
  generalize k * a = f at *
  have hfl : (f : Int) ≤ (e : Int) := by omega
  by_cases h : e ≤ s.size
  · have d0 : decide ((s.size : Int) < (e : Int)) = false := decide_eq_false (by omega)
    have d1 : decide (s.size < e) = false := decide_eq_false (by omega)
    have hel : (e : Int) ≤ (s.size : Int) := by omega
    have HP : Hid (partAt a s k = (frRead a (s.extract f e)).1) := Lib.hid (by rw [HP.out, if_pos h])
    clear h
    go_enter Try.func22, Try.ntmps22
    go_wp2_with fail
    refine (fr_read (a : Int) (s.extract f e) _).mono ?_
    rintro x w1 ⟨rfl, b1⟩
    obtain ⟨r, hr⟩ : ∃ r, r = frRead (a : Int) (s.extract f e) := ⟨_, rfl⟩
    have HSO := Lib.hid (read_isSome (a : Int) (s.extract f e))
    rw [← hr] at HP HSO ⊢
    clear hr
    obtain ⟨o, er⟩ := r
    simp only at HP HSO
    simp only [readVal]
    have hbk := Kq.below_blk b1 HX.out (Kq.blk_lt HX.out)
    have HA := Lib.hid (blk_and hbk (H0.out.trans (b1.mono H0.out.size)) #[.int .u64 ((partOf o).g : Int), .int .u64 ((partOf o).x : Int), .int .i64 ((partOf o).i : Int), .int .i64 ((partOf o).n : Int), .string (partOf o).d] 40)
    clear b1 hbk HX
    have HPO : Hid (partAt a s k = o) := HP
    generalize hp : partOf o = p at *
    have HPP := Lib.hid hp
    clear hp
    obtain ⟨pg, px, pi, pn, pd⟩ := p
    simp only [FrP.val]
    dsimp only at HA
    have r0 := Kq.blk_cell HA.out.1 0
    have r1 := Kq.blk_cell HA.out.1 1
    have r2 := Kq.blk_cell HA.out.1 2
    have r3 := Kq.blk_cell HA.out.1 3
    have r4 := Kq.blk_cell HA.out.1 4
    have q0 := Kq.blk_free HA.out.1 0
    have q1 := Kq.blk_free HA.out.1 1
    have q2 := Kq.blk_free HA.out.1 2
    have q3 := Kq.blk_free HA.out.1 3
    have q4 := Kq.blk_free HA.out.1 4
    have c0 := Kq.blk_cell HA.out.2.1 0
    have c1 := Kq.blk_cell HA.out.2.1 1
    have c2 := Kq.blk_cell HA.out.2.1 2
    have c3 := Kq.blk_cell HA.out.2.1 3
    have c4 := Kq.blk_cell HA.out.2.1 4
    go_wp2
    clear r0 r1 r2 r3 r4 q0 q1 q2 q3 q4 c0 c1 c2 c3 c4
    change bodyPost _ _ _ _ _ (fill5 (w1.alloc (.cells #[.int .u64 (pg : Int), .int .u64 (px : Int), .int .i64 (pi : Int), .int .i64 (pn : Int), .string pd] 40)) w.heap.size (pg : Int) (px : Int) (pi : Int) (pn : Int) pd)
    have p1 := fill5_blk HA.out.1 (pg : Int) (px : Int) (pi : Int) (pn : Int) pd
    have p2 := fill5_keeps (w1.alloc (.cells #[.int .u64 (pg : Int), .int .u64 (px : Int), .int .i64 (pi : Int), .int .i64 (pn : Int), .string pd] 40)) w.heap.size (pg : Int) (px : Int) (pi : Int) (pn : Int) pd
    generalize fill5 (w1.alloc (.cells #[.int .u64 (pg : Int), .int .u64 (px : Int), .int .i64 (pi : Int), .int .i64 (pn : Int), .string pd] 40)) w.heap.size (pg : Int) (px : Int) (pi : Int) (pn : Int) pd = z at *
    have z0 := Kq.blk_cell p1 0
    have z1 := Kq.blk_cell p1 1
    have z2 := Kq.blk_cell p1 2
    have z3 := Kq.blk_cell p1 3
    have z4 := Kq.blk_cell p1 4
    refine bodyPost_ret (v := .tuple #[FrP.val ⟨pg, px, pi, pn, pd⟩, .bool (er == 0)]) (by simp [results, Try.results22, go_sem, z0, z1, z2, z3, z4, FrP.val]) rfl ?_
    exact ⟨by rw [HPO.out, atVal, HSO.out, HPP.out], HA.out.2.2.trans (p2.below HA.out.2.2.size (fun k _ e => by subst e; exact Nat.le_refl _))⟩
  · have d0 : decide ((s.size : Int) < (e : Int)) = true := decide_eq_true (by omega)
    have d1 : decide (s.size < e) = true := decide_eq_true (by omega)
    have HP : Hid (partAt a s k = none) := Lib.hid (by rw [HP.out, if_neg h])
    clear h
    go_enter Try.func22, Try.ntmps22
    go_wp2
    refine bodyPost_ret (v := atVal none) (by simp [results, Try.results22, go_sem, atVal, partOf, FrP.zero, FrP.val]) rfl ?_
    exact ⟨by rw [HP.out], H0.out⟩
end Go.Proofs.Ytfbjfleagilikaa
