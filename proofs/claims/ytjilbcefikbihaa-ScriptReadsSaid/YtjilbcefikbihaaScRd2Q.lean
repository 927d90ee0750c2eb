/- carrackref23's reader: one, number, text, two. Condition: a text of at most 100000 bytes. -/
import Derived.Test.YtjilbcefikbihaaScRdQ
namespace Go.Proofs.Ytjilbcefikbihaa
open Go.RowKit
set_option linter.unusedVariables false
section
variable (R : Nat) (S : ByteArray) (e : Int) (s : ByteArray) (w : World) (h : RfK w R S e s)
include h
set_option maxRecDepth 100000 in
set_option maxHeartbeats 800000 in
theorem rk_one : Calls Try.prog 55 #[.agg #[.pointer (some ⟨R, 0, none⟩)]] w fun x w' => x = .returned (.int .i64 (byteF e s).1) ∧ RfK w' R S (byteF e s).2.1 (byteF e s).2.2 ∧ Kq.Keeps (· = R) w w' := by
  obtain ⟨n, hn, hn2⟩ := byte_get e s
  obtain ⟨e1, he1⟩ : ∃ z, z = (byteF e s).2.1 := ⟨_, rfl⟩
  obtain ⟨s1, hs1⟩ : ∃ z, z = (byteF e s).2.2 := ⟨_, rfl⟩
  rw [hn, ← he1, ← hs1]
  obtain ⟨w1, hw1⟩ : ∃ z, z = w.alloc (.cells #[.pointer (some ⟨R, 0, none⟩)] 106) := ⟨_, rfl⟩
  have H1 : Hid (RfK w1 R S e s ∧ Kq.Keeps (· = R) w w1) := Lib.hid (by
    have hb : Below w.heap.size w w1 := by rw [hw1]; exact Kq.below_alloc _ _
    exact ⟨h.later (S := S) (P := fun _ => False) (keeps_any hb) id, keeps_any hb⟩)
  have HD : Hid (∀ x w', DoPostK w1 R S (WireM.val (nl (WireM.raw e s ((1 : Nat) : Int)).1), ⟨#[]⟩, (WireM.raw e s ((1 : Nat) : Int)).2) x w' → x = .returned (.tuple #[.int .u64 (n : Int), .string ⟨#[]⟩]) ∧ RfK w' R S e1 s1 ∧ Kq.Keeps (· = R) w1 w') := Lib.hid (fun x w' h => by
    obtain ⟨h1, h2, h3⟩ := h
    refine ⟨?_, by rw [he1, hs1]; exact h2, h3⟩
    rw [h1, ← hn]; rfl)
  have hc : IntKind.i64.wrap (n : Int) = (n : Int) := IntWalk.i64_in _ (by omega)
  clear h hn he1 hs1
  go_enter Try.func55, Try.ntmps55
  go_wp2_with fail
  rw [← hw1]
  clear hw1
  refine (dok_byte R S e s w1 H1.out.1).mono ?_
  intro x w2 hp
  obtain ⟨rfl, r2, k2⟩ := HD.out x w2 hp
  have H2 := Lib.hid (And.intro r2 (H1.out.2.trans k2))
  clear hp r2 k2 HD H1
  go_wp2
  go_ret
  exact ⟨rfl, H2.out⟩
set_option maxRecDepth 100000 in
set_option maxHeartbeats 800000 in
theorem rk_number : Calls Try.prog 56 #[.agg #[.pointer (some ⟨R, 0, none⟩)]] w fun x w' => x = .returned (.int .u64 (numF e s).1) ∧ RfK w' R S (numF e s).2.1 (numF e s).2.2 ∧ Kq.Keeps (· = R) w w' := by
  obtain ⟨n, hn⟩ : ∃ z, z = (numF e s).1 := ⟨_, rfl⟩
  obtain ⟨e1, he1⟩ : ∃ z, z = (numF e s).2.1 := ⟨_, rfl⟩
  obtain ⟨s1, hs1⟩ : ∃ z, z = (numF e s).2.2 := ⟨_, rfl⟩
  rw [← hn, ← he1, ← hs1]
  obtain ⟨w1, hw1⟩ : ∃ z, z = w.alloc (.cells #[.pointer (some ⟨R, 0, none⟩)] 106) := ⟨_, rfl⟩
  have H1 : Hid (RfK w1 R S e s ∧ Kq.Keeps (· = R) w w1) := Lib.hid (by
    have hb : Below w.heap.size w w1 := by rw [hw1]; exact Kq.below_alloc _ _
    exact ⟨h.later (S := S) (P := fun _ => False) (keeps_any hb) id, keeps_any hb⟩)
  have HD : Hid (∀ x w', DoPostK w1 R S (WireM.val (nl (WireM.raw e s ((8 : Nat) : Int)).1), ⟨#[]⟩, (WireM.raw e s ((8 : Nat) : Int)).2) x w' → x = .returned (.tuple #[.int .u64 n, .string ⟨#[]⟩]) ∧ RfK w' R S e1 s1 ∧ Kq.Keeps (· = R) w1 w') := Lib.hid (fun x w' h => by
    obtain ⟨h1, h2, h3⟩ := h
    refine ⟨?_, by rw [he1, hs1]; exact h2, h3⟩
    rw [h1, hn]; rfl)
  clear h hn he1 hs1
  go_enter Try.func56, Try.ntmps56
  go_wp2_with fail
  rw [← hw1]
  clear hw1
  refine (dok_number R S e s w1 H1.out.1).mono ?_
  intro x w2 hp
  obtain ⟨rfl, r2, k2⟩ := HD.out x w2 hp
  have H2 := Lib.hid (And.intro r2 (H1.out.2.trans k2))
  clear hp r2 k2 HD H1
  go_wp2
  go_ret
  exact ⟨rfl, H2.out⟩
set_option maxRecDepth 100000 in
set_option maxHeartbeats 800000 in
theorem rk_text : Calls Try.prog 57 #[.agg #[.pointer (some ⟨R, 0, none⟩)]] w fun x w' => x = .returned (.string (textF e s).1) ∧ RfK w' R S (textF e s).2.1 (textF e s).2.2 ∧ Kq.Keeps (· = R) w w' := by
  obtain ⟨n, hn⟩ : ∃ z, z = (textF e s).1 := ⟨_, rfl⟩
  obtain ⟨e1, he1⟩ : ∃ z, z = (textF e s).2.1 := ⟨_, rfl⟩
  obtain ⟨s1, hs1⟩ : ∃ z, z = (textF e s).2.2 := ⟨_, rfl⟩
  rw [← hn, ← he1, ← hs1]
  obtain ⟨w1, hw1⟩ : ∃ z, z = w.alloc (.cells #[.pointer (some ⟨R, 0, none⟩)] 106) := ⟨_, rfl⟩
  have H1 : Hid (RfK w1 R S e s ∧ Kq.Keeps (· = R) w w1) := Lib.hid (by
    have hb : Below w.heap.size w w1 := by rw [hw1]; exact Kq.below_alloc _ _
    exact ⟨h.later (S := S) (P := fun _ => False) (keeps_any hb) id, keeps_any hb⟩)
  have HD : Hid (∀ x w', DoPostK w1 R S (0, textF e s) x w' → x = .returned (.tuple #[.int .u64 0, .string n]) ∧ RfK w' R S e1 s1 ∧ Kq.Keeps (· = R) w1 w') := Lib.hid (fun x w' h => by
    obtain ⟨h1, h2, h3⟩ := h
    refine ⟨?_, by rw [he1, hs1]; exact h2, h3⟩
    rw [h1, hn]; rfl)
  clear h hn he1 hs1
  go_enter Try.func57, Try.ntmps57
  go_wp2_with fail
  rw [← hw1]
  clear hw1
  refine (dok_text R S e s w1 H1.out.1).mono ?_
  intro x w2 hp
  obtain ⟨rfl, r2, k2⟩ := HD.out x w2 hp
  have H2 := Lib.hid (And.intro r2 (H1.out.2.trans k2))
  clear hp r2 k2 HD H1
  go_wp2
  go_ret
  exact ⟨rfl, H2.out⟩
set_option maxRecDepth 100000 in
set_option maxHeartbeats 800000 in
theorem rk_two : Calls Try.prog 58 #[.agg #[.pointer (some ⟨R, 0, none⟩)]] w fun x w' => x = .returned (.int .i64 (pairF e s).1) ∧ RfK w' R S (pairF e s).2.1 (pairF e s).2.2 ∧ Kq.Keeps (· = R) w w' := by
  obtain ⟨n, hn, hn2⟩ := byte_get e s
  obtain ⟨e1, he1⟩ : ∃ z, z = (byteF e s).2.1 := ⟨_, rfl⟩
  obtain ⟨s1, hs1⟩ : ∃ z, z = (byteF e s).2.2 := ⟨_, rfl⟩
  obtain ⟨m, hm, hm2⟩ := byte_get e1 s1
  obtain ⟨e2, he2⟩ : ∃ z, z = (byteF e1 s1).2.1 := ⟨_, rfl⟩
  obtain ⟨s2, hs2⟩ : ∃ z, z = (byteF e1 s1).2.2 := ⟨_, rfl⟩
  obtain ⟨p, hpp⟩ : ∃ p : Int, p = (n : Int) * 256 := ⟨_, rfl⟩
  obtain ⟨q, hqq⟩ : ∃ q : Int, q = p + (m : Int) := ⟨_, rfl⟩
  have hp : pairF e s = (q, e2, s2) := by
    unfold pairF
    rw [← he1, ← hs1, hn, hm, he2, hs2, hqq, hpp]
  rw [hp]
  clear hp
  obtain ⟨B, hB⟩ : ∃ z, z = w.heap.size := ⟨_, rfl⟩
  obtain ⟨w1, hw1⟩ : ∃ z, z = w.alloc (.cells #[.pointer (some ⟨R, 0, none⟩)] 106) := ⟨_, rfl⟩
  have H1 : Hid (RfK w1 R S e s ∧ Kq.Keeps (· = R) w w1 ∧ w1.heap[B]? = some (.cells #[.pointer (some ⟨R, 0, none⟩)] 106 (0, 0)) ∧ B ≠ R) := Lib.hid (by
    have hb : Below w.heap.size w w1 := by rw [hw1]; exact Kq.below_alloc _ _
    exact ⟨h.later (S := S) (P := fun _ => False) (keeps_any hb) id, keeps_any hb, by rw [hw1, hB]; exact Kq.blk_new _ _ _ _, by have := h.lt; omega⟩)
  have HO : Hid (∀ wx, RfK wx R S e s → Calls Try.prog 55 #[.agg #[.pointer (some ⟨R, 0, none⟩)]] wx fun x w' => x = .returned (.int .i64 (n : Int)) ∧ RfK w' R S e1 s1 ∧ Kq.Keeps (· = R) wx w') := Lib.hid (fun wx hx => (rk_one R S e s wx hx).mono fun x w' h => ⟨by rw [← hn]; exact h.1, by rw [he1, hs1]; exact h.2.1, h.2.2⟩)
  have HO2 : Hid (∀ wx, RfK wx R S e1 s1 → Calls Try.prog 55 #[.agg #[.pointer (some ⟨R, 0, none⟩)]] wx fun x w' => x = .returned (.int .i64 (m : Int)) ∧ RfK w' R S e2 s2 ∧ Kq.Keeps (· = R) wx w') := Lib.hid (fun wx hx => (rk_one R S e1 s1 wx hx).mono fun x w' h => ⟨by rw [← hm]; exact h.1, by rw [he2, hs2]; exact h.2.1, h.2.2⟩)
  have hc1 : wrap64 ((n : Int) * 256) = p := by unfold wrap64; omega
  have hc2 : wrap64 (p + (m : Int)) = q := by unfold wrap64; omega
  clear hpp hqq
  have HC2 := Lib.hid hc2
  clear h hn he1 hs1 hm he2 hs2 hn2 hm2
  go_enter Try.func58, Try.ntmps58
  go_wp2_with fail
  rw [← hw1]
  try rw [← hB]
  clear hw1 hB
  refine (HO.out w1 H1.out.1).mono ?_
  rintro x w2 ⟨rfl, r2, k2⟩
  have H2 := Lib.hid (And.intro r2 (H1.out.2.1.trans k2))
  have c0 : w2.cell? ⟨B, 0, none⟩ = some (.pointer (some ⟨R, 0, none⟩)) := Kq.blk_cell (k2.blk H1.out.2.2.1 H1.out.2.2.2) 0
  clear r2 k2 HO
  go_wp2_with fail
  refine (HO2.out w2 H2.out.1).mono ?_
  rintro x w3 ⟨rfl, r3, k3⟩
  have H3 := Lib.hid (And.intro r3 (H2.out.2.trans k3))
  clear r3 k3 HO2 c0
  go_wp2
  go_ret
  exact ⟨by rw [← HC2.out]; rfl, H3.out⟩
end
end Go.Proofs.Ytjilbcefikbihaa
