/- carracklaw22.ModelOrder walked. Condition: the table of states lies where it lies. -/
import Derived.WalkSpells
import Derived.Outline
import Derived.Deep.QuietTactic
import Derived.Test.YtlbeaknegfnpkaaDoorMdAwake
import Derived.Test.YtlbeaknegfnpkaaDoorMdStep
namespace Go.Proofs.YtlbeaknegfnpkaaDoor
open Go.RowKit
set_option linter.unusedVariables false
namespace modelOrder
/-- the packet in its box, the table of states -/
structure OW (W w : World) (X : Nat) (p : PtV) : Prop where
  box : w.heap[X]? = some (.cells #[.int .i64 p.f, .int .u64 p.q, .int .u64 p.t, .string p.d] 32 (0, 0))
  laid : LaidOk w
  bel : Below W.heap.size W w
theorem OW.below {W w w' : World} {X : Nat} {p : PtV} (h : OW W w X p) (hb : Below w.heap.size w w') : OW W w' X p := ⟨Kq.below_blk hb h.box (Kq.blk_lt h.box), h.laid.below hb, h.bel.trans (hb.mono h.bel.size)⟩
set_option maxRecDepth 100000 in
set_option maxHeartbeats 1000000 in
theorem md_one {W : World} (X : Nat) (p : PtV) (s : Int) (w : World) (h : OW W w X p) :
    Calls Tryd.prog 17 #[.int .i64 s, .pointer (some ⟨X, 0, none⟩)] w fun x w' => ∃ b, x = .returned (.slice (some ⟨b, 0, none⟩) 1 1) ∧ enE.At w' (some ⟨b, 0, none⟩) [⟨p, s⟩] ∧ Below w.heap.size w w' := by
  have c0 := Kq.blk_cell h.box 0
  have c1 := Kq.blk_cell h.box 1
  have c2 := Kq.blk_cell h.box 2
  have c3 := Kq.blk_cell h.box 3
  simp only [List.getElem?_toArray, List.getElem?_cons_zero, List.getElem?_cons_succ] at c0 c1 c2 c3
  have HM : Hid (enE.At (w.alloc (.cells #[.int .i64 p.f, .int .u64 p.q, .int .u64 p.t, .string p.d, .int .i64 s] 40)) (some ⟨w.heap.size, 0, none⟩) [⟨p, s⟩]) := Lib.hid (Kq.Elt.made_one (E := enE) ⟨p, s⟩ w 40)
  clear h
  go_enter Tryd.func17, Tryd.ntmps17
  go_wp2
  go_ret
  exact ⟨_, rfl, HM.out, Kq.below_alloc _ _⟩
set_option maxRecDepth 100000 in
set_option maxHeartbeats 1000000 in
theorem md_right (n : Int) (w : World) : Calls Tryd.prog 18 #[.int .i64 n] w fun x w' => x = .returned (.bool (isS n)) ∧ w' = w := by
  by_cases h0 : 0 ≤ n
  · have d0 : decide (0 ≤ n) = true := decide_eq_true h0
    by_cases h1 : n ≤ 4
    · have d1 : decide (n ≤ 4) = true := decide_eq_true h1
      have e : isS n = true := decide_eq_true ⟨h0, by omega⟩
      rw [e]
      clear h0 h1 e
      go_enter Tryd.func18, Tryd.ntmps18
      go_wp2
      go_ret
      exact ⟨rfl, rfl⟩
    · have d1 : decide (n ≤ 4) = false := decide_eq_false h1
      have e : isS n = false := decide_eq_false (fun h => h1 (by omega))
      rw [e]
      clear h0 h1 e
      go_enter Tryd.func18, Tryd.ntmps18
      go_wp2
      go_ret
      exact ⟨rfl, rfl⟩
  · have d0 : decide (0 ≤ n) = false := decide_eq_false h0
    have e : isS n = false := decide_eq_false (fun h => h0 h.1)
    rw [e]
    clear h0 e
    go_enter Tryd.func18, Tryd.ntmps18
    go_wp2
    go_ret
    exact ⟨rfl, rfl⟩
theorem step_two (p : PtV) (s t : Int) : stepB [⟨p, s⟩] [⟨p, t⟩] = rchB s t := by simp [stepB, findE, okE]
theorem step_nil (p : PtV) (s : Int) : stepB [⟨p, s⟩] [] = false := by simp [stepB, findE, okE]
theorem st_two {W : World} (X : Nat) (p : PtV) (hp : p.wf) (s t : Int) (hs : (Lit.int .i64 s).wf = true) (ht : (Lit.int .i64 t).wf = true) (b c : Nat) (w : World) (h : OW W w X p) (hb : enE.At w (some ⟨b, 0, none⟩) [⟨p, s⟩]) (hc : enE.At w (some ⟨c, 0, none⟩) [⟨p, t⟩]) :
    Calls Tryd.prog 12 #[.slice (some ⟨b, 0, none⟩) 1 1, .slice (some ⟨c, 0, none⟩) 1 1] w fun x w' => x = .returned (.bool (rchB s t)) ∧ Below w.heap.size w w' := by
  have := md_step (some ⟨b, 0, none⟩) (some ⟨c, 0, none⟩) 1 1 [⟨p, s⟩] [⟨p, t⟩] w (by simp) (by simp) hb hc (fun e he => by obtain rfl := List.mem_singleton.1 he; exact ⟨hp, hs⟩) (fun e he => by obtain rfl := List.mem_singleton.1 he; exact ⟨hp, ht⟩) h.laid
  rw [step_two] at this
  exact this
theorem st_nil {W : World} (X : Nat) (p : PtV) (hp : p.wf) (s : Int) (hs : (Lit.int .i64 s).wf = true) (b : Nat) (w : World) (h : OW W w X p) (hb : enE.At w (some ⟨b, 0, none⟩) [⟨p, s⟩]) :
    Calls Tryd.prog 12 #[.slice (some ⟨b, 0, none⟩) 1 1, .slice none 0 0] w fun x w' => x = .returned (.bool false) ∧ Below w.heap.size w w' := by
  have := md_step (some ⟨b, 0, none⟩) none 1 0 [⟨p, s⟩] [] w (by simp) (by simp) hb Kq.Elt.At.nil (fun e he => by obtain rfl := List.mem_singleton.1 he; exact ⟨hp, hs⟩) (fun e he => by cases he) h.laid
  rw [step_nil] at this
  exact this
theorem st_non {W : World} (X : Nat) (p : PtV) (hp : p.wf) (s : Int) (hs : (Lit.int .i64 s).wf = true) (b : Nat) (w : World) (h : OW W w X p) (hb : enE.At w (some ⟨b, 0, none⟩) [⟨p, s⟩]) :
    Calls Tryd.prog 12 #[.slice none 0 0, .slice (some ⟨b, 0, none⟩) 1 1] w fun x w' => x = .returned (.bool true) ∧ Below w.heap.size w w' :=
  md_step none (some ⟨b, 0, none⟩) 0 1 [] [⟨p, s⟩] w (by simp) (by simp) Kq.Elt.At.nil hb (fun e he => by cases he) (fun e he => by obtain rfl := List.mem_singleton.1 he; exact ⟨hp, hs⟩) h.laid
end modelOrder
end Go.Proofs.YtlbeaknegfnpkaaDoor
