/- carracklaw20.NetMoves where the Move goes. Condition: both places are there. -/
import Derived.WalkSpells
import Derived.Outline
import Derived.Deep.QuietTactic
import Derived.BigQuiet
import Derived.Test.YtahijpfmpdjceaaNetMovesWalk
namespace Go.Proofs.Ytahijpfmpdjceaa.netMoves
open Go.RowKit
set_option linter.unusedVariables false
theorem moveL_take {k t : Nat} {m : MsgV} {ms : List MsgV} (hk : k < ms.length) (ht : t < ms.length) (lo : Nat) (h1 : lo ≤ k) (h2 : lo ≤ t) : (moveL k t m ms).take lo = ms.take lo := by
  unfold moveL
  split
  · rw [List.append_assoc, List.append_assoc, List.take_append_of_le_length (by rw [List.length_take]; omega), List.take_take, Nat.min_eq_left h1]
  · rw [List.append_assoc, List.append_assoc, List.take_append_of_le_length (by rw [List.length_take]; omega), List.take_take, Nat.min_eq_left h2]
theorem moveL_drop {k t : Nat} {m : MsgV} {ms : List MsgV} (hk : k < ms.length) (ht : t < ms.length) (h1 : Nat) (a : k < h1) (b : t < h1) : (moveL k t m ms).drop h1 = ms.drop h1 := by
  unfold moveL
  split
  · rw [List.drop_append, List.drop_of_length_le (by simp only [List.length_append, List.length_take, List.length_drop, List.length_cons, List.length_nil]; omega), List.nil_append, List.drop_drop]
    congr 1
    simp only [List.length_append, List.length_take, List.length_drop, List.length_cons, List.length_nil]; omega
  · rw [List.drop_append, List.drop_of_length_le (by simp only [List.length_append, List.length_take, List.length_drop, List.length_cons, List.length_nil]; omega), List.nil_append, List.drop_drop]
    congr 1
    simp only [List.length_append, List.length_take, List.length_drop, List.length_cons, List.length_nil]; omega
theorem moveL_at {k t : Nat} {m : MsgV} {ms : List MsgV} (hk : k < ms.length) (ht : t < ms.length) (h : t < (moveL k t m ms).length) : (moveL k t m ms)[t] = m := by
  have e : (moveL k t m ms)[t]? = some m := by
    unfold moveL
    split
    · rw [List.append_assoc, List.getElem?_append_right (by simp only [List.length_append, List.length_take, List.length_drop]; omega), List.getElem?_append_left (by simp only [List.length_append, List.length_take, List.length_drop, List.length_cons, List.length_nil]; omega)]
      rw [List.getElem?_eq_some_iff]
      refine ⟨by simp only [List.length_append, List.length_take, List.length_drop, List.length_cons, List.length_nil]; omega, by simp⟩
    · rw [List.append_assoc, List.append_assoc, List.getElem?_append_right (by simp only [List.length_take]; omega), List.getElem?_append_left (by simp only [List.length_take, List.length_cons, List.length_nil]; omega)]
      rw [List.getElem?_eq_some_iff]
      refine ⟨by simp only [List.length_take, List.length_cons, List.length_nil]; omega, by simp⟩
  rw [List.getElem?_eq_getElem h] at e
  exact Option.some.inj e
/-- the address of x[n:] -/
def subA (A : Option Addr) (c n : Nat) : Option Addr := if c = n then A else A.map (·.add (n * 8))
theorem ms_sub {w : World} {A : Option Addr} {ms : List MsgV} {c : Nat} (h : MsAt w A ms) (hc : ms.length ≤ c) (n : Nat) : MsAt w (subA A c n) (ms.drop n) := fun j hj => by
  rw [List.length_drop] at hj
  obtain ⟨g, o, rfl, hg, hq⟩ := h (n + j) (by omega)
  unfold subA
  rw [if_neg (by omega)]
  refine ⟨g, o + n * 8, by rw [Option.map_some, add_flat], hg, fun i hi => ?_⟩
  rw [List.getElem_drop, ← hq i hi]
  congr 2
  omega
theorem ms_front {w : World} {A : Option Addr} {ms : List MsgV} (h : MsAt w A ms) (n : Nat) : MsAt w A (ms.take n) := fun j hj => by
  rw [List.length_take] at hj
  obtain ⟨g, o, e, hg, hq⟩ := h j (by omega)
  exact ⟨g, o, e, hg, fun i hi => by rw [List.getElem_take]; exact hq i hi⟩
theorem sub_run (A : Option Addr) (n c a : Nat) (h1 : a ≤ n) (w : World) : (Instr.slice 28 (.slice A n c) (some (.int .i64 (a : Int))) none none).run Try.prog w = .ok (.slice (subA A c a) (n - a) (c - a)) w := by
  rw [run_slice_l w 28 A n c Try.underlying28 .i64 (a : Int) (by omega) (by omega)]
  rfl
end Go.Proofs.Ytahijpfmpdjceaa.netMoves
