/- carracklaw22.awake; entries and packets among the arguments, opened; arrays of counts compared. Condition: the table of states lies where it lies. -/
import Derived.WalkSpells
import Derived.Outline
import Derived.Lib.SmallJoins
import Derived.Deep.Slices
import Derived.SizedLaws
import Derived.DeepKeys
import Derived.Laws.StructEq
import Derived.Test.YtlbeaknegfnpkaaDoorMdBase
import Derived.Test.YtlbeaknegfnpkaaDoorTrodKit
namespace Go.Proofs.YtlbeaknegfnpkaaDoor
open Go.RowKit Go.ChangeShapes Go.WideShapes Go.Deep Go.Joins
set_option linter.unusedVariables false
set_option linter.unusedSimpArgs false
instance : Inhabited EnV := ⟨⟨⟨0, 0, 0, ⟨#[]⟩⟩, 0⟩⟩
set_option maxRecDepth 100000 in
set_option maxHeartbeats 1000000 in
theorem awake22 (w : World) (hL : LaidOk w) : Calls Tryd.prog 6 #[] w fun x w' => x = .returned (.bool true) ∧ w' = w := by
  have HL := Lib.hid hL
  have q1 : folB 1 3 = false := by decide
  have q2 : rchB 1 3 = true := by decide
  have q3 : rchB 4 3 = false := by decide
  have q4 : folB 0 1 = true := by decide
  have Q := Lib.hid (And.intro q1 (And.intro q2 (And.intro q3 q4)))
  clear hL q1 q2 q3 q4
  go_enter Tryd.func6, Tryd.ntmps6
  go_wp2_with fail
  refine (md_follows 1 3 w HL.out).mono ?_
  rintro x w1 ⟨rfl, rfl⟩
  rw [Q.out.1]
  go_wp2_with fail
  refine (md_reached 1 3 w1 HL.out).mono ?_
  rintro x w2 ⟨rfl, rfl⟩
  rw [Q.out.2.1]
  go_wp2_with fail
  refine (md_reached 4 3 w2 HL.out).mono ?_
  rintro x w3 ⟨rfl, rfl⟩
  rw [Q.out.2.2.1]
  go_wp2_with fail
  refine (md_follows 0 1 w3 HL.out).mono ?_
  rintro x w4 ⟨rfl, rfl⟩
  rw [Q.out.2.2.2]
  go_wp2
  go_ret
  exact ⟨rfl, rfl⟩
section
variable {H : Type} {enc : TypeId × Value → H} {W : World}
set_option maxRecDepth 100000 in
theorem ents_open {base : Nat} {v : Value} {d : DataW H} {p : List MemPlace}
    (hval : Value.okWide Tryd.prog W .any base 22 v) (h : DataW.Trod enc Tryd.prog W 0 (fun _ => true) true 22 v d p) (_hz : ∀ n ∈ d.weights Tryd.prog 22, n ≤ reachBytes) :
    ∃ A cap l, v = .slice A l.length cap ∧ l.length ≤ cap ∧ enE.At W A l ∧ ∀ e ∈ l, EnV.wf e := by
  obtain ⟨a, len, cap, rfl⟩ := okWide_slice Tryd.underlying22 hval
  obtain ⟨fuel, hf⟩ := h
  have hc5 : Tryd.prog.cellsOf 34 = 5 := by kernel_rfl
  have k1 : Tryd.prog.cellsOf 3 = 1 := by kernel_rfl
  have k2 : Tryd.prog.cellsOf 9 = 1 := by kernel_rfl
  have k3 : Tryd.prog.cellsOf 30 = 1 := by kernel_rfl
  have k4 : Tryd.prog.cellsOf 32 = 4 := by kernel_rfl
  rcases open_slice Tryd.underlying22 hf with ⟨hcs, _⟩ | ⟨x, len', cap', m, n, D, Pl, hcs, _, hl, hm, hmm, hx, hel⟩
  · simp [Value.cells] at hcs
    obtain ⟨rfl, rfl, rfl⟩ := hcs
    exact ⟨none, 0, [], rfl, Nat.zero_le _, fun i hi => absurd hi (Nat.not_lt_zero _), fun e he => by cases he⟩
  · simp [Value.cells] at hcs
    obtain ⟨rfl, rfl, rfl⟩ := hcs
    simp only [if_true] at hmm
    subst hmm
    by_cases h0 : len = 0
    · subst h0
      exact ⟨some x, _, [], rfl, Nat.zero_le _, fun i hi => absurd hi (Nat.not_lt_zero _), fun e he => by cases he⟩
    obtain ⟨b, off, rfl⟩ : ∃ b off, x = ⟨b, off, none⟩ := by
      obtain ⟨cs, h1, _⟩ := hel 0 (by omega)
      rw [hc5, Nat.zero_mul] at h1
      exact head_flat (by decide) h1
    have key : ∀ i, i < len → ∃ c : EnV, b < W.heap.size ∧ c.wf ∧ ∀ j, j < 5 → W.cell? ⟨b, off + i * 5 + j, none⟩ = c.cells[j]? := by
      intro i hi
      obtain ⟨cs, h1, h2⟩ := hel i (Nat.lt_of_lt_of_le hi hl)
      rw [hc5, Kq.Elt.add_flat] at h1
      obtain ⟨_, hlen, hcell⟩ := World.cells?_some h1
      obtain ⟨y0, y1, n', t0, t1⟩ := trod_two Tryd.underlying34 h2
      match cs, hlen with
      | [c0, c1, c2, c3, c4], _ =>
        simp only [k1, k2, k3, k4, List.drop_zero, List.drop_succ_cons, List.take_succ_cons, List.take_zero] at t0 t1
        obtain ⟨u0, u1, u2, u3, n2, s0, s1, s2, s3⟩ := trod_four Tryd.underlying32 t0
        simp only [k1, k2, k3, List.drop_zero, List.drop_succ_cons, List.take_succ_cons, List.take_zero] at s0 s1 s2 s3
        obtain ⟨z0, e0, _, w0⟩ := DataW.trod_int Tryd.underlying3 s0
        obtain ⟨z1, e1, _, w1⟩ := DataW.trod_int Tryd.underlying30 s1
        obtain ⟨z2, e2, _, w2⟩ := DataW.trod_int Tryd.underlying30 s2
        obtain ⟨z3, e3, _, w3⟩ := DataW.trod_string Tryd.underlying9 s3
        obtain ⟨z4, e4, _, w4⟩ := DataW.trod_int Tryd.underlying3 t1
        simp only [List.cons.injEq, and_true] at e0 e1 e2 e3 e4
        subst e0 e1 e2 e3 e4
        have q0 := hcell 0 (by omega)
        simp only [Kq.Elt.add_flat, Nat.add_zero, List.getElem?_cons_zero] at q0
        refine ⟨⟨⟨z0, z1, z2, z3⟩, z4⟩, cell_lt q0, ⟨⟨w0, w1, w2, w3⟩, w4⟩, fun j hj => ?_⟩
        have q := hcell j hj
        rw [Kq.Elt.add_flat] at q
        rw [q]
        rfl
    obtain ⟨f, hf'⟩ := choose_lt key
    refine ⟨some ⟨b, off, none⟩, m, (List.range len).map f, by simp, by simp; omega, fun i hi => ?_, fun e he => ?_⟩
    · have hi' : i < len := by simpa using hi
      obtain ⟨hlt, _, q⟩ := hf' i hi'
      exact ⟨b, off, rfl, hlt, fun j hj => by rw [List.getElem_map, List.getElem_range]; exact q j hj⟩
    · obtain ⟨i, hi, rfl⟩ := List.mem_map.1 he
      exact (hf' i (List.mem_range.1 hi)).2.1
set_option maxRecDepth 100000 in
theorem pt_open {base : Nat} {v : Value} {d : DataW H} {p : List MemPlace}
    (hval : Value.okWide Tryd.prog W .any base 32 v) (h : DataW.Trod enc Tryd.prog W 0 (fun _ => true) true 32 v d p) (_hz : ∀ n ∈ d.weights Tryd.prog 32, n ≤ reachBytes) :
    ∃ x : PtV, v = x.val ∧ x.wf := by
  obtain ⟨v0, v1, v2, v3, y0, y1, y2, y3, n, rfl, hd, -, t0, t1, t2, t3⟩ := open_agg4 Tryd.underlying32 (by kernel_rfl) (by kernel_rfl) hval h
  obtain ⟨z0, e0, _, w0⟩ := DataW.trod_int Tryd.underlying3 t0
  obtain ⟨z1, e1, _, w1⟩ := DataW.trod_int Tryd.underlying30 t1
  obtain ⟨z2, e2, _, w2⟩ := DataW.trod_int Tryd.underlying30 t2
  obtain ⟨z3, e3, y3e, w3⟩ := DataW.trod_string Tryd.underlying9 t3
  simp only [List.cons.injEq, and_true] at e0 e1 e2 e3
  subst e0 e1 e2 e3
  exact ⟨⟨z0, z1, z2, z3⟩, rfl, ⟨w0, w1, w2, w3⟩⟩
end
theorem i64_wfN {x : Nat} (hx : x < 1000000) : (Lit.int .i64 (x : Int)).wf = true := by simp [Lit.wf, IntKind.min, IntKind.max, IntKind.signed, IntKind.bits]; omega
set_option maxRecDepth 100000 in
theorem arr5_neq (a b c d e : Nat) (h1 : a < 1000000) (h2 : b < 1000000) (h3 : c < 1000000) (h4 : d < 1000000) (h5 : e < 1000000) (w : World) : (binOp .neq 29 (.agg #[.int .i64 a, .int .i64 b, .int .i64 c, .int .i64 d, .int .i64 e]) (.agg #[.int .i64 a, .int .i64 b, .int .i64 c, .int .i64 d, .int .i64 e])).run Tryd.prog w = .ok (.bool false) w := by
  have k1 : Tryd.prog.cellsOf 3 = 1 := by kernel_rfl
  have k5 : Tryd.prog.cellsOf 29 = 5 := by kernel_rfl
  have hk : Tryd.prog.keyTypeAt 3 29 = true := by kernel_rfl
  have hl : ∃ la, Tryd.prog.keyLits 3 29 [.int .i64 a, .int .i64 b, .int .i64 c, .int .i64 d, .int .i64 e] = some la := by
    refine ⟨[.int .i64 a, .int .i64 b, .int .i64 c, .int .i64 d, .int .i64 e], ?_⟩
    unfold Program.keyLits
    rw [Tryd.underlying29]
    have i1 : ∀ x : Nat, x < 1000000 → Tryd.prog.keyLits 2 3 [.int .i64 (x : Int)] = some [.int .i64 (x : Int)] := fun x hx => by
      unfold Program.keyLits; rw [Tryd.underlying3]; simp [i64_wfN hx]
    simp [k1, k5, List.range, List.range.loop, i1, h1, h2, h3, h4, h5]
  obtain ⟨la, hla⟩ := hl
  have hf : (Value.agg #[.int .i64 a, .int .i64 b, .int .i64 c, .int .i64 d, .int .i64 e]).formed Tryd.prog 29 = true := by
    unfold Value.formed
    rw [Tryd.underlying29]
    simp [k5]
  obtain ⟨r, hr, hiff⟩ := run_equalIn_deep (P := Tryd.prog) 9997 3 29 hk w 3 3 _ _ la la hf hf hla hla
  rw [hiff.2 rfl] at hr
  rw [run_neq_struct]
  rw [show (10000 : Nat) = 9997 + 3 from rfl, hr]
  rfl
end Go.Proofs.YtlbeaknegfnpkaaDoor
