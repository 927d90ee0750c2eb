/- A client in memory; contracts of its looks: find, From, Latest, Heights, Root; New. No condition. -/
import Derived.WalkSpells
import Derived.Outline
import Derived.Test.YtdonoilcegaleaaClM
import Derived.Test.YtdonoilcegaleaaClMap
import Derived.Test.YtdonoilcegaleaaClSearch
namespace Go.Proofs.Ytdonoilcegaleaa
open Go.RowKit Go.Cl
set_option linter.unusedVariables false
def hcells (hs : List Nat) : List Value := hs.map fun (n : Nat) => Value.int .u64 (n : Int)
/-- heights and roots that fit -/
structure ClOk (hs : List Nat) (f : Int → Option ByteArray) : Prop where
  srt : hs.Pairwise (· < ·)
  mem : ∀ k : Nat, (f (k : Int)).isSome = true ↔ k ∈ hs
  lt : ∀ k ∈ hs, k < 18446744073709551616
  r32 : ∀ (k : Int) s, f k = some s → s.size = 32
theorem ClOk.nil : ClOk [] (fun _ => none) := ⟨List.Pairwise.nil, (fun k => by simp), (fun k h => by cases h), (fun k s h => by cases h)⟩
structure CliS (w : World) (base C M N : Nat) (v : Value) (hs : List Nat) (f : Int → Option ByteArray) : Prop where
  blk : w.heap[C]? = some (.cells #[.map (some M), v] 50 (0, 0))
  own : w.ownsRow base 23 1 v hs.length (hcells hs)
  mp : MapT w M N f hs.length
  ne : ∀ k, v.ownBlock = some k → k ≠ C ∧ k ≠ M
  cm : M ≠ C
  base : base ≤ w.heap.size
  ok : ClOk hs f
section
variable {w : World} {base C M N : Nat} {v : Value} {hs : List Nat} {f : Int → Option ByteArray} (h : CliS w base C M N v hs f)
include h
theorem CliS.c0 : w.cell? ⟨C, 0, none⟩ = some (.map (some M)) := Kq.blk_cell h.blk 0
theorem CliS.c1 : w.cell? ⟨C, 1, none⟩ = some v := Kq.blk_cell h.blk 1
theorem CliS.fz (i : Nat) : w.frozen? ⟨C, i, none⟩ = false := Kq.blk_free h.blk i
theorem CliS.keeps {P : Nat → Prop} {w' : World} (hk : Kq.Keeps P w w') (hC : ¬ P C) (hM : ¬ P M) (hP : ∀ k, v.ownBlock = some k → ¬ P k) : CliS w' base C M N v hs f := by
  refine ⟨hk.blk h.blk hC, ?_, h.mp.keeps hk hM, h.ne, h.cm, Nat.le_trans h.base hk.size, h.ok⟩
  obtain ⟨h1, h2⟩ := h.own
  refine ⟨h1, h2.imp id ?_⟩
  rintro ⟨g, cap, cur, hv, h3, h4, h5⟩
  exact ⟨g, cap, cur, hv, h3, hk.blk h4 (hP g (by rw [hv]; rfl)), h5⟩
theorem CliS.below {w' : World} (hb : Below w.heap.size w w') : CliS w' base C M N v hs f :=
  h.keeps (P := fun _ => False) (Kq.Keeps.of_below hb (fun j h1 h2 => absurd h1 (Nat.not_le.2 h2))) id id (fun _ _ => id)
theorem CliS.shape : ∃ A cap, v = .slice A hs.length cap ∧ hs.length ≤ cap := by
  rcases h.own.2 with ⟨rfl, h0⟩ | ⟨g, cap, cur, rfl, _, _, hc, _⟩
  · exact ⟨none, 0, by rw [h0], by omega⟩
  · exact ⟨_, cap, rfl, hc⟩
theorem CliS.at (h0 : 0 < hs.length) : ∃ g cap, v = .slice (some ⟨g, 0, none⟩) hs.length cap ∧ g < w.heap.size ∧ hs.length ≤ cap ∧ ∀ j (hj : j < hs.length), w.cell? ⟨g, j, none⟩ = some (.int .u64 (hs[j] : Int)) := by
  obtain ⟨hl, h2⟩ := h.own
  rcases h2 with ⟨_, hx⟩ | ⟨g, cap, cur, rfl, _, hb, hcap, _, _, ht⟩
  · omega
  · refine ⟨g, cap, rfl, Kq.blk_lt hb, hcap, fun j hj => ?_⟩
    rw [Kq.blk_cell hb j, ← Array.getElem?_toList]
    have : (cur.toList.take (hs.length * 1))[j]? = some (.int .u64 (hs[j] : Int)) := by rw [ht]; simp [hcells, hj]
    rw [List.getElem?_take, if_pos (by omega)] at this
    exact this
end
theorem below_drewN {B : Nat} {a w : World} (h : Below B a w) (n : Nat) : Below B a (w.drewN n) := ⟨h.os, h.tape, h.output, h.size, h.block⟩
theorem drewN_two (w : World) (a b : Nat) : (w.drewN a).drewN b = w.drewN (a + b) := by simp [World.drewN, Nat.add_assoc]
set_option maxRecDepth 100000 in
set_option maxHeartbeats 1000000 in
theorem cl_test (x : Nat) (C b1 b2 g len cap i : Nat) (y : Nat) (w : World) (q1 : w.cell? ⟨b1, 0, none⟩ = some (.pointer (some ⟨C, 0, none⟩))) (q2 : w.cell? ⟨b2, 0, none⟩ = some (.int .u64 (x : Int)))
    (c1 : w.cell? ⟨C, 1, none⟩ = some (.slice (some ⟨g, 0, none⟩) len cap)) (hi : i < len) (ci : w.cell? ⟨g, i, none⟩ = some (.int .u64 (y : Int))) :
    Calls Try.prog 22 #[.int .i64 (i : Int), .pointer (some ⟨b1, 0, none⟩), .pointer (some ⟨b2, 0, none⟩)] w fun e w' => e = .returned (.bool (decide (x ≤ y))) ∧ ∃ r, w' = w.drewN r := by
  have e1 : (i : Int) < (len : Int) := by omega
  have e2 : (0 : Int) ≤ (i : Int) := by omega
  go_enter Try.func22, Try.ntmps22
  go_wp2
  go_quiet (fail)
  go_wp2
  go_ret
  exact ⟨by simp, _, rfl⟩
set_option maxRecDepth 100000 in
set_option maxHeartbeats 1000000 in
theorem cl_find (base C M N : Nat) (v : Value) (hs : List Nat) (f : Int → Option ByteArray) (x : Nat) (w : World) (h : CliS w base C M N v hs f) (hn : hs.length ≤ 1000000) :
    Calls Try.prog 20 #[.pointer (some ⟨C, 0, none⟩), .int .u64 (x : Int)] w fun e w' => e = .returned (.int .i64 (lowC x hs : Int)) ∧ Below w.heap.size w w' := by
  have hmf : ∀ (fn : Fn) (first cap : Array Value) (w : World), (Instr.makeFunc fn first cap).run Try.prog w = .ok (.func fn first cap) w := fun _ _ _ _ => rfl
  obtain ⟨A, cap, rfl, -⟩ := h.shape
  have hb1 : Below w.heap.size w (w.alloc (.cells #[.pointer (some ⟨C, 0, none⟩)] 25)) := Kq.below_alloc _ _
  have hb2 : Below w.heap.size w ((w.alloc (.cells #[.pointer (some ⟨C, 0, none⟩)] 25)).alloc (.cells #[.int .u64 (x : Int)] 23)) := hb1.trans ((Kq.below_alloc _ _).mono hb1.size)
  have KF : Hid (∀ q i, i < hs.length → Calls Try.prog 22 #[.int .i64 (i : Int), .pointer (some ⟨w.heap.size, 0, none⟩), .pointer (some ⟨w.heap.size + 1, 0, none⟩)] (((w.alloc (.cells #[.pointer (some ⟨C, 0, none⟩)] 25)).alloc (.cells #[.int .u64 (x : Int)] 23)).drewN q) fun e w' => e = .returned (.bool (decide (lowC x hs ≤ i))) ∧ ∃ r, w' = ((w.alloc (.cells #[.pointer (some ⟨C, 0, none⟩)] 25)).alloc (.cells #[.int .u64 (x : Int)] 23)).drewN r) := Lib.hid (fun q i hi => by
    have hd := h.below (below_drewN hb2 q)
    obtain ⟨g, cap', hv, hg, _, hat⟩ := hd.at (by omega)
    injection hv with hA _ _
    subst hA
    have e : decide (lowC x hs ≤ i) = decide (x ≤ hs[i]) := by
      have := low_iff (x := x) h.ok.srt i hi
      rw [decide_eq_decide]; omega
    rw [e]
    refine (cl_test x C w.heap.size (w.heap.size + 1) g hs.length cap i hs[i] _ ?_ ?_ hd.c1 hi (hat i hi)).mono ?_
    · show World.cell? _ _ = _
      rw [show (((w.alloc (.cells #[.pointer (some ⟨C, 0, none⟩)] 25)).alloc (.cells #[.int .u64 (x : Int)] 23)).drewN q).cell? ⟨w.heap.size, 0, none⟩ = ((w.alloc (.cells #[.pointer (some ⟨C, 0, none⟩)] 25)).alloc (.cells #[.int .u64 (x : Int)] 23)).cell? ⟨w.heap.size, 0, none⟩ from rfl]
      simp
    · have := Kq.blk_new (w.alloc (.cells #[.pointer (some ⟨C, 0, none⟩)] 25)) #[.int .u64 (x : Int)] 23 (0, 0)
      rw [World.size_alloc] at this
      exact Kq.blk_cell (w := ((w.alloc (.cells #[.pointer (some ⟨C, 0, none⟩)] 25)).alloc (.cells #[.int .u64 (x : Int)] 23)).drewN q) this 0
    · rintro e w' ⟨rfl, r, rfl⟩
      exact ⟨rfl, q + r, drewN_two _ q r⟩)
  have c1 := (h.below hb2).c1
  have HB := Lib.hid hb2
  have HP := Lib.hid (And.intro (low_le x hs) hn)
  clear h hb1 hb2
  go_enter Try.func20, Try.ntmps20
  go_wp2_with fail
  refine (search_ok hs.length (lowC x hs) HP.out.1 HP.out.2 _ _ _ KF.out).mono ?_
  rintro e w' ⟨rfl, r, rfl⟩
  go_wp2
  go_ret
  exact ⟨rfl, below_drewN HB.out r⟩
end Go.Proofs.Ytdonoilcegaleaa
