import Derived.WalkSpells
import Derived.Outline
import Derived.Deep.QuietTactic
import Derived.Deep.RegionHeld
import Derived.Test.YtbpgfhcecanikaaGreatRfNewQ
import Derived.Test.YtbpgfhcecanikaaGreatLwGQ
import Derived.Test.YtbpgfhcecanikaaGreatDkInvQ
namespace Go.Proofs.YtbpgfhcecanikaaGreat
open Go.RowKit
set_option linter.unusedVariables false
theorem opO_some {a b K : Nat} {ws : List (Int × ByteArray)} {ar : Nat} {st : List Nat} (ho : StOk a b K ws ar st) (ha : 64 ≤ a) : ∀ v, opO a b ws ar st = some v → WvOk b v ∧ 4 ≤ b := fun v h => by
  unfold opO at h
  split at h
  · rename_i hc
    injection h with h
    subst h
    refine ⟨opV_ok ho ha, ?_⟩
    by_cases hb : b < 4
    · unfold opD at hc
      rw [if_pos hb] at hc
      cases hc
    · omega
  · cases h
theorem opL_le {a b K : Nat} {ws : List (Int × ByteArray)} {ar : Nat} {st : List Nat} (ho : StOk a b K ws ar st) (hz : Siz a b) : (opL a b ws ar st).length ≤ 100000 := by
  unfold opL
  split
  · have h := opR_ok ho hz.a0
    have h1 : segN b ≤ 2500 := by have := hz.b1; unfold segN; omega
    omega
  · exact Nat.zero_le _
set_option maxRecDepth 100000 in
set_option maxHeartbeats 2000000 in
theorem pr_made (a b : Nat) (w : World) (hz : Siz a b) (hb : b ≤ 4096) :
    Calls Tryz.prog 9 #[.int .i64 (a : Int), .int .i64 (b : Int)] w fun x w' => ∃ A : PairA, x = .returned (.pointer (some ⟨A.P, 0, none⟩)) ∧ PrI w w' A a b 1 (opD a b [] 0 (List.replicate (a * b) 0)).1 (opD a b [] 0 (List.replicate (a * b) 0)).2.1 (opD a b [] 0 (List.replicate (a * b) 0)).2.2.1 (opO a b [] 0 (List.replicate (a * b) 0)) (opD a b [] 0 (List.replicate (a * b) 0)).2.2.2 (opL a b [] 0 (List.replicate (a * b) 0)) := by
  have HR : Hid (DkRight (a : Int) (b : Int)) := Lib.hid ⟨by have := hz.a0; omega, by have := hz.a1; omega, by have := hz.b0; omega, by omega⟩
  have HZ := Lib.hid hz
  clear hz hb
  go_enter Tryz.func9, Tryz.ntmps9
  go_wp2_with fail
  refine (dk_new_ok (a : Int) (b : Int) (a * b) _ HR.out (by simp)).mono ?_
  intro x w2 hp
  have hd := DkI.made (Below.refl _ w) rfl hp
  obtain ⟨rfl, -, -, hb2⟩ := hp
  have H2 := Lib.hid (And.intro hd.s hb2)
  clear hd hb2
  go_wp2_with fail
  refine (rf_new a b w2 HR.out).mono ?_
  rintro x w3 ⟨rfl, hr, hb3⟩
  have H3 := Lib.hid (And.intro hr hb3)
  clear hr hb3
  obtain ⟨A, hA⟩ : ∃ A : PairA, A = ⟨w3.heap.size + 2, w.heap.size + 1, w.heap.size, w.heap.size, w2.heap.size + 1, w2.heap.size, w3.heap.size + 1, w3.heap.size⟩ := ⟨_, rfl⟩
  have e1 : A.P = w3.heap.size + 2 := by rw [hA]
  have e2 : A.D = w.heap.size + 1 := by rw [hA]
  have e3 : A.S = w.heap.size := by rw [hA]
  have e4 : A.bD = w.heap.size := by rw [hA]
  have e5 : A.R = w2.heap.size + 1 := by rw [hA]
  have e6 : A.bR = w2.heap.size := by rw [hA]
  have e7 : A.Wh = w3.heap.size + 1 := by rw [hA]
  have e8 : A.M = w3.heap.size := by rw [hA]
  obtain ⟨w4, hw4⟩ : ∃ z, z = w3.alloc (.map #[] 0) := ⟨_, rfl⟩
  obtain ⟨w5, hw5⟩ : ∃ z, z = w4.alloc (.cells #[.map (some w3.heap.size)] 72) := ⟨_, rfl⟩
  obtain ⟨w6, hw6⟩ : ∃ z, z = w5.alloc (.cells #[.pointer (some ⟨w.heap.size + 1, 0, none⟩), .pointer none, .int .i64 0, .slice none 0 0, .pointer (some ⟨w2.heap.size + 1, 0, none⟩), .pointer none, .pointer (some ⟨w3.heap.size + 1, 0, none⟩)] 40) := ⟨_, rfl⟩
  have z4 : w4.heap.size = w3.heap.size + 1 := by rw [hw4]; exact Array.size_push _
  have z5 : w5.heap.size = w3.heap.size + 2 := by rw [hw5]; show (w4.heap.push _).size = _; rw [Array.size_push, z4]
  have b4 : Below w3.heap.size w3 w4 := by rw [hw4]; exact Kq.below_alloc _ _
  have b5 : Below w4.heap.size w4 w5 := by rw [hw5]; exact Kq.below_alloc _ _
  have b6 : Below w5.heap.size w5 w6 := by rw [hw6]; exact Kq.below_alloc _ _
  have b36 : Below w3.heap.size w3 w6 := (b4.trans (b5.mono b4.size)).trans (b6.mono (Nat.le_trans b4.size b5.size))
  have hdlt : w.heap.size + 1 < w2.heap.size := Kq.blk_lt H2.out.1.d.blk
  have hrlt : w2.heap.size + 1 < w3.heap.size := Kq.blk_lt H3.out.1.blk
  have hw : NotS w6 A.Wh A.M 0 := by
    rw [e7, e8]
    have hm : Kq.MapG kStrW eBoolW w4 w3.heap.size 0 (fun _ => none) 0 := by rw [hw4]; exact Kq.MapG.made kStrW eBoolW w3
    refine NotS.below (w := w5) ⟨?_, ⟨_, _, hm.below b5⟩, by omega⟩ b6
    have := Kq.blk_new w4 #[.map (some w3.heap.size)] 72 (0, 0)
    rw [z4, ← hw5] at this
    exact this
  have hP : w6.heap[A.P]? = some (.cells (pcells A (.pointer none) 0 (.slice none 0 0) (.pointer none)) 40 (0, 0)) := by
    have := Kq.blk_new w5 #[.pointer (some ⟨w.heap.size + 1, 0, none⟩), .pointer none, .int .i64 0, .slice none 0 0, .pointer (some ⟨w2.heap.size + 1, 0, none⟩), .pointer none, .pointer (some ⟨w3.heap.size + 1, 0, none⟩)] 40 (0, 0)
    rw [z5, ← hw6] at this
    unfold pcells
    rw [e1, e2, e5, e7]
    exact this
  have hPlt : w3.heap.size + 2 < w6.heap.size := by rw [← e1]; exact Kq.blk_lt hP
  have hin : ∀ i j, ownP A (.slice none 0 0) none (.slice none 0 0) none none 0 i j → (i = 0 ∧ (j = w.heap.size + 1 ∨ j = w.heap.size)) ∨ (i = 1 ∧ j = w2.heap.size + 1) ∨ (i = 2 ∧ j = w3.heap.size + 2) ∨ (i = 3 ∧ (j = w3.heap.size + 1 ∨ j = w3.heap.size)) := by
    intro i j hj
    rcases hj with ⟨h0, h⟩ | ⟨h0, h⟩ | ⟨h0, h⟩ | ⟨h0, h⟩ | ⟨h0, h, _⟩
    · rcases h with (h | h | h) | ⟨v, h⟩
      · exact Or.inl ⟨h0, Or.inl (by rw [h, e2])⟩
      · exact Or.inl ⟨h0, Or.inr (by rw [h, e3])⟩
      · cases h
      · cases h
    · rcases h with h | h | ⟨v, h⟩
      · exact Or.inr (Or.inl ⟨h0, by rw [h, e5]⟩)
      · cases h
      · cases h
    · exact Or.inr (Or.inr (Or.inl ⟨h0, by rw [h, e1]⟩))
    · exact Or.inr (Or.inr (Or.inr ⟨h0, by rw [e7, e8] at h; exact h⟩))
    · cases h
  have HS : Hid (PrS w w6 A a b 0 (.slice none 0 0) [] 0 (List.replicate (a * b) 0) none (.slice none 0 0) [] 0 (List.replicate (a * b) 0) none (pcells A (.pointer none) 0 (.slice none 0 0) (.pointer none)) none []) := Lib.hid ⟨by
      rw [e2, e3, e4]
      exact (H2.out.1.below H3.out.2).below b36, by rw [e5, e6]; exact H3.out.1.below b36, fun L v h => (by cases h), fun L v h => (by cases h), hP, ⟨fun j hj => by cases hj⟩, hw, ⟨fun i k j h1 h2 => by
        rcases hin i j h1 with ⟨q1, q2⟩ | ⟨q1, q2⟩ | ⟨q1, q2⟩ | ⟨q1, q2⟩ <;> rcases hin k j h2 with ⟨r1, r2⟩ | ⟨r1, r2⟩ | ⟨r1, r2⟩ | ⟨r1, r2⟩ <;> omega, fun i j h => by
        rcases hin i j h with ⟨q1, q2⟩ | ⟨q1, q2⟩ | ⟨q1, q2⟩ | ⟨q1, q2⟩ <;> omega, fun i j h => by
        rcases hin i j h with ⟨q1, q2⟩ | ⟨q1, q2⟩ | ⟨q1, q2⟩ | ⟨q1, q2⟩ <;> omega⟩, (H2.out.2.trans (H3.out.2.mono H2.out.2.size)).trans (b36.mono (Nat.le_trans H2.out.2.size H3.out.2.size))⟩
  have HO : Hid (StOk a b 0 [] 0 (List.replicate (a * b) 0)) := Lib.hid ⟨WsOk.nil a b, List.length_replicate .., fun x hx => by rw [List.eq_of_mem_replicate hx]; decide, Nat.zero_le _, Nat.zero_le _⟩
  have HW := Lib.hid (And.intro hw4 (And.intro hw5 hw6))
  have HE := Lib.hid e1
  obtain ⟨Z, hZZ⟩ : ∃ Z, Z = List.replicate (a * b) 0 := ⟨_, rfl⟩
  rw [← hZZ] at HS HO
  have HZZ := Lib.hid hZZ
  clear hZZ
  have hmm := @run_makeMap Tryz.prog
  clear hA e1 e2 e3 e4 e5 e6 e7 e8 hw4 hw5 hw6 z4 z5 b4 b5 b6 b36 hdlt hrlt hw hP hPlt hin
  go_wp2_with fail
  rw [← HW.out.1, ← HW.out.2.1, ← HW.out.2.2, ← HE.out]
  refine (pr_open HS.out HO.out HZ.out (by decide) (by decide) (opL_le HO.out HZ.out)).mono ?_
  rintro x w7 ⟨rfl, hp⟩
  have HP := Lib.hid hp
  clear hp
  go_wp2
  go_ret
  exact ⟨A, rfl, by rw [← HZZ.out]; exact HP.out⟩
end Go.Proofs.YtbpgfhcecanikaaGreat
