/- The reference's disk in memory; contracts of its fails, Arm. Condition: what is armed is an int. -/
import Derived.WalkSpells
import Derived.Outline
import Derived.Test.YtcnoakngnjbkiaaDkDo
namespace Go.Proofs.Ytcnoakngnjbkiaa
open Go.RowKit
set_option linter.unusedVariables false
structure RfS (w : World) (base R : Nat) (a b : Nat) (buf : Value) (ws : List (Int × ByteArray)) (armed : Int) (st : List Nat) : Prop where
  blk : w.heap[R]? = some (.cells #[.int .i64 a, .int .i64 b, .string (txt st), buf, .int .i64 armed] 47 (0, 0))
  own : w.ownsRow base 70 2 buf ws.length (wcells ws)
  ne : ∀ k, buf.ownBlock = some k → k ≠ R
  base : base ≤ w.heap.size
section
variable {w : World} {base R a b : Nat} {buf : Value} {ws : List (Int × ByteArray)} {armed : Int} {st : List Nat} (h : RfS w base R a b buf ws armed st)
include h
theorem RfS.c0 : w.cell? ⟨R, 0, none⟩ = some (.int .i64 a) := Kq.blk_cell h.blk 0
theorem RfS.c1 : w.cell? ⟨R, 1, none⟩ = some (.int .i64 b) := Kq.blk_cell h.blk 1
theorem RfS.c2 : w.cell? ⟨R, 2, none⟩ = some (.string (txt st)) := Kq.blk_cell h.blk 2
theorem RfS.c3 : w.cell? ⟨R, 3, none⟩ = some buf := Kq.blk_cell h.blk 3
theorem RfS.c4 : w.cell? ⟨R, 4, none⟩ = some (.int .i64 armed) := Kq.blk_cell h.blk 4
theorem RfS.fz (i : Nat) : w.frozen? ⟨R, i, none⟩ = false := Kq.blk_free h.blk i
theorem RfS.keeps {P : Nat → Prop} {w' : World} (hk : Kq.Keeps P w w') (hR : ¬ P R) (hP : ∀ k, buf.ownBlock = some k → ¬ P k) : RfS w' base R a b buf ws armed st := by
  refine ⟨hk.blk h.blk hR, ?_, h.ne, Nat.le_trans h.base hk.size⟩
  obtain ⟨h1, h2⟩ := h.own
  refine ⟨h1, h2.imp id ?_⟩
  rintro ⟨g, cap, cur, hv, h3, h4, h5⟩
  exact ⟨g, cap, cur, hv, h3, hk.blk h4 (hP g (by rw [hv]; rfl)), h5⟩
theorem RfS.below {w' : World} (hb : Below w.heap.size w w') : RfS w' base R a b buf ws armed st :=
  h.keeps (P := fun _ => False) (Kq.Keeps.of_below hb (fun j h1 h2 => absurd h1 (Nat.not_le.2 h2))) id (fun _ _ => id)
theorem RfS.setArmed (n : Int) : RfS (w.setCell ⟨R, 4, none⟩ (.int .i64 n)) base R a b buf ws n st ∧ Kq.Keeps (· = R) w (w.setCell ⟨R, 4, none⟩ (.int .i64 n)) := by
  refine ⟨⟨Kq.blk_set h.blk 4 _, ?_, h.ne, by simpa [World.setCell] using h.base⟩, Kq.Keeps.setCell _ _ _ rfl⟩
  obtain ⟨h1, h2⟩ := h.own
  refine ⟨h1, h2.imp id ?_⟩
  rintro ⟨g, cap, cur, hv, h3, h4, h5⟩
  exact ⟨g, cap, cur, hv, h3, by rw [Below.heap_setCell _ _ _ _ (h.ne g (by rw [hv]; rfl))]; exact h4, h5⟩
end
set_option maxRecDepth 100000 in
theorem rf_fails0 (base R a b : Nat) (buf : Value) (ws : List (Int × ByteArray)) (st : List Nat) (w : World) (h : RfS w base R a b buf ws 0 st) :
    Calls Try.prog 34 #[.pointer (some ⟨R, 0, none⟩)] w fun x w' => x = .returned (.bool false) ∧ w = w' := by
  have c4 := h.c4
  clear h
  go_enter Try.func34, Try.ntmps34
  go_wp2
  go_ret
  exact ⟨rfl, rfl⟩
set_option maxRecDepth 100000 in
theorem rf_fails (base R a b : Nat) (buf : Value) (ws : List (Int × ByteArray)) (armed : Nat) (st : List Nat) (w : World) (h : RfS w base R a b buf ws (armed : Int) st) (ha : armed ≤ 9223372036854775807) :
    Calls Try.prog 34 #[.pointer (some ⟨R, 0, none⟩)] w fun x w' => x = .returned (.bool (decide (armed = 1))) ∧ RfS w' base R a b buf ws ((armed - 1 : Nat) : Int) st ∧ Kq.Keeps (· = R) w w' := by
  rcases armed with _ | armed
  · refine (rf_fails0 base R a b buf ws st w h).mono ?_
    rintro x w' ⟨rfl, rfl⟩
    exact ⟨rfl, h, Kq.Keeps.refl _ _⟩
  · have c4 := h.c4
    have f4 := h.fz 4
    have HP := Lib.hid (h.setArmed (armed : Int))
    have d0 : decide ((0 : Int) < ((armed + 1 : Nat) : Int)) = true := decide_eq_true (by omega)
    have d1 : (((armed + 1 : Nat) : Int) == 1) = decide (armed + 1 = 1) := by rw [Bool.eq_iff_iff]; simp; omega
    have d2 : decide (((armed + 1 : Nat) : Int) = 1) = decide (armed + 1 = 1) := by rw [Bool.eq_iff_iff]; simp; omega
    have hs : wrap64 (((armed + 1 : Nat) : Int) - 1) = (armed : Int) := by rw [IntWalk.wrap64_in _ (by omega)]; omega
    have hs2 : IntKind.i64.wrap (((armed + 1 : Nat) : Int) - 1) = (armed : Int) := by rw [IntWalk.i64_in _ (by omega)]; omega
    clear h
    generalize ((armed + 1 : Nat) : Int) = A at *
    generalize hq : decide (armed + 1 = 1) = q at *
    clear hq
    go_enter Try.func34, Try.ntmps34
    go_wp2
    go_ret
    exact ⟨by simp_all, HP.out.1, HP.out.2⟩
theorem RfS.setTwice {w : World} {base R a b : Nat} {buf : Value} {ws : List (Int × ByteArray)} {armed : Int} {st : List Nat} (h : RfS w base R a b buf ws armed st) (n m : Int) : RfS ((w.setCell ⟨R, 4, none⟩ (.int .i64 n)).setCell ⟨R, 4, none⟩ (.int .i64 m)) base R a b buf ws m st ∧ Kq.Keeps (· = R) w ((w.setCell ⟨R, 4, none⟩ (.int .i64 n)).setCell ⟨R, 4, none⟩ (.int .i64 m)) :=
  ⟨((h.setArmed n).1.setArmed m).1, (h.setArmed n).2.trans ((h.setArmed n).1.setArmed m).2⟩
set_option maxRecDepth 100000 in
theorem rf_arm_up (base R a b : Nat) (buf : Value) (ws : List (Int × ByteArray)) (armed : Int) (m : Nat) (st : List Nat) (w : World) (h : RfS w base R a b buf ws armed st) :
    Calls Try.prog 29 #[.pointer (some ⟨R, 0, none⟩), .int .i64 (m : Int)] w fun x w' => x = .returned (.tuple #[]) ∧ RfS w' base R a b buf ws (m : Int) st ∧ Kq.Keeps (· = R) w w' := by
  have HP := Lib.hid (h.setArmed (m : Int))
  have c4 := h.c4
  have f4 := h.fz 4
  clear h
  go_enter Try.func29, Try.ntmps29
  go_wp2
  all_goals (go_end0; exact ⟨rfl, HP.out.1, HP.out.2⟩)
set_option maxRecDepth 100000 in
theorem rf_arm_down (base R a b : Nat) (buf : Value) (ws : List (Int × ByteArray)) (armed n : Int) (st : List Nat) (w : World) (h : RfS w base R a b buf ws armed st) (hn : n < 0) :
    Calls Try.prog 29 #[.pointer (some ⟨R, 0, none⟩), .int .i64 n] w fun x w' => x = .returned (.tuple #[]) ∧ RfS w' base R a b buf ws 0 st ∧ Kq.Keeps (· = R) w w' := by
  have HP := Lib.hid (h.setTwice n 0)
  have c4 := h.c4
  have f4 := h.fz 4
  have c4' := (h.setArmed n).1.c4
  have f4' := (h.setArmed n).1.fz 4
  have d0 : decide (n < 0) = true := decide_eq_true hn
  clear h hn
  go_enter Try.func29, Try.ntmps29
  go_wp2
  all_goals (go_end0; exact ⟨rfl, HP.out.1, HP.out.2⟩)
theorem rf_arm (base R a b : Nat) (buf : Value) (ws : List (Int × ByteArray)) (armed n : Int) (st : List Nat) (w : World) (h : RfS w base R a b buf ws armed st) :
    Calls Try.prog 29 #[.pointer (some ⟨R, 0, none⟩), .int .i64 n] w fun x w' => x = .returned (.tuple #[]) ∧ RfS w' base R a b buf ws ((n.toNat : Nat) : Int) st ∧ Kq.Keeps (· = R) w w' := by
  by_cases h0 : 0 ≤ n
  · obtain ⟨m, rfl⟩ := Int.eq_ofNat_of_zero_le h0
    exact rf_arm_up base R a b buf ws armed m st w h
  · rw [show n.toNat = 0 by omega]
    exact rf_arm_down base R a b buf ws armed n st w h (by omega)
end Go.Proofs.Ytcnoakngnjbkiaa
