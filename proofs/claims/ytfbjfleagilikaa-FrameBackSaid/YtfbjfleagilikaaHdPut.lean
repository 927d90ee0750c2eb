/- Contracts of head.Put, carrackref06.Put. No condition but that numbers fit. -/
import Derived.WalkSpells
import Derived.Deep.QuietTactic
import Derived.BigQuiet
import Derived.Laws.MakeOwn
import Derived.Test.YtfbjfleagilikaaCommon
import Derived.Test.YtfbjfleagilikaaHdM
import Derived.Test.YtfbjfleagilikaaWrNew
import Derived.Test.YtfbjfleagilikaaShelfH
namespace Go.Proofs.Ytfbjfleagilikaa
open Go.RowKit
set_option linter.unusedVariables false
set_option maxRecDepth 100000 in
theorem rf_fits (a : Int) (w : World) : Calls Try.prog 21 #[.int .i64 a] w fun x w' => x = .returned (.bool (decide (64 ≤ a ∧ a ≤ 512))) ∧ w = w' := by
  by_cases h0 : 64 ≤ a
  · by_cases h1 : a ≤ 512
    · have d0 : decide (64 ≤ a) = true := decide_eq_true h0
      have d1 : decide (a ≤ 512) = true := decide_eq_true h1
      have HD : Hid (decide (64 ≤ a ∧ a ≤ 512) = true) := Lib.hid (decide_eq_true ⟨h0, h1⟩)
      rw [HD.out]
      clear h0 h1
      go_enter Try.func21, Try.ntmps21
      go_wp2
      go_ret
      exact ⟨rfl, rfl⟩
    · have d0 : decide (64 ≤ a) = true := decide_eq_true h0
      have d1 : decide (a ≤ 512) = false := decide_eq_false h1
      have HD : Hid (decide (64 ≤ a ∧ a ≤ 512) = false) := Lib.hid (decide_eq_false (fun h => h1 h.2))
      rw [HD.out]
      clear h0 h1
      go_enter Try.func21, Try.ntmps21
      go_wp2
      go_ret
      exact ⟨rfl, rfl⟩
  · have d0 : decide (64 ≤ a) = false := decide_eq_false h0
    have HD : Hid (decide (64 ≤ a ∧ a ≤ 512) = false) := Lib.hid (decide_eq_false (fun h => h0 h.1))
    rw [HD.out]
    clear h0
    go_enter Try.func21, Try.ntmps21
    go_wp2
    go_ret
    exact ⟨rfl, rfl⟩
theorem repeat_ok (c : Nat) (w : World) (hc : c ≤ 1000) : Calls Try.prog 34 #[.string ⟨#[0]⟩, .int .i64 (c : Int)] w fun x w' => x = .returned (.string (txt (List.replicate c 0))) ∧ Below w.heap.size w w' := by
  refine (Try.strings_Repeat ⟨#[0]⟩ c w (by omega) (by show 1 * c ≤ _; omega)).mono ?_
  rintro x w' ⟨rfl, hb⟩
  exact ⟨by rw [repeat_zero], hb⟩
/-- a writer of the call's own, and a box that stays -/
structure PH (w wr : World) (B X : Nat) (o : Obj) (v : Value) (l : List Nat) : Prop where
  it : Wr wr B B 0 v l
  bel : Below w.heap.size w wr
  hB : w.heap.size ≤ B
  box : wr.heap[X]? = some o
  hX : X < B
theorem PH.below {w wr w' : World} {B X : Nat} {o : Obj} {v : Value} {l : List Nat} (h : PH w wr B X o v l) (hb : Below wr.heap.size wr w') : PH w w' B X o v l :=
  ⟨h.it.belowW hb, h.bel.trans (hb.mono h.bel.size), h.hB, Kq.below_blk hb h.box (Kq.blk_lt h.box), h.hX⟩
theorem PH.step {w wr w' : World} {B X : Nat} {o : Obj} {v : Value} {l l' : List Nat} {x : Ending} (h : PH w wr B X o v l) (hp : WrAny wr B B v 0 l' x w') : ∃ v', PH w w' B X o v' l' := by
  obtain ⟨_, v', h1, h2, h3⟩ := hp
  have hge : ∀ k, (k = B ∨ some k = v.ownBlock) → B ≤ k := fun k hk => by
    rcases hk with rfl | hk
    · exact Nat.le_refl _
    · exact own_ge h.it.own hk.symm
  refine ⟨v', h1, h.bel.trans (h2.below h.bel.size (fun k _ hk => Nat.le_trans h.hB (hge k hk))), h.hB, h2.blk h.box (fun hk => ?_), h.hX⟩
  have := hge X hk
  have := h.hX
  omega
theorem PH.start (w : World) (cs : Array Value) (t : TypeId) : PH w ((w.alloc (.cells cs t)).alloc (.cells #[.int .i64 0, .slice none 0 0] 65)) (w.heap.size + 1) w.heap.size (.cells cs t (0, 0)) (.slice none 0 0) [] := by
  have h := wr_new (w.alloc (.cells cs t))
  rw [World.size_alloc] at h
  refine ⟨h, (Kq.below_alloc w _).trans ((Kq.below_alloc _ _).mono (Kq.below_alloc w _).size), Nat.le_succ _, ?_, Nat.lt_succ_self _⟩
  rw [Below.heap_alloc _ _ _ (by simp)]
  exact Kq.blk_new _ _ _ _
end Go.Proofs.Ytfbjfleagilikaa
