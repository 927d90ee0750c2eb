/- Contracts of wire's reader. Condition: lengths are ints, a reader is one that NewReader made. -/
import Derived.WalkSpells
import Derived.Test.YtjilbcefikbihaaObjQ
import Derived.Test.YtjilbcefikbihaaWireMQ
namespace Go.Proofs.Ytjilbcefikbihaa
open Go.RowKit
set_option linter.unusedVariables false
def Rd (w : World) (B : Nat) (e : Int) (s : ByteArray) : Prop := w.heap[B]? = some (.cells #[.int .i64 e, .string s] 99 (0, 0))
section
variable {w : World} {B : Nat} {e : Int} {s : ByteArray} (h : Rd w B e s)
include h
theorem Rd.c0 : w.cell? ⟨B, 0, none⟩ = some (.int .i64 e) := Kq.blk_cell h 0
theorem Rd.c1 : w.cell? ⟨B, 1, none⟩ = some (.string s) := Kq.blk_cell h 1
theorem Rd.f0 : w.frozen? ⟨B, 0, none⟩ = false := Kq.blk_free h 0
theorem Rd.f1 : w.frozen? ⟨B, 1, none⟩ = false := Kq.blk_free h 1
theorem Rd.set0 (f : Int) : Rd (w.setCell ⟨B, 0, none⟩ (.int .i64 f)) B f s := Kq.blk_set h 0 _
theorem Rd.set1 (t : ByteArray) : Rd (w.setCell ⟨B, 1, none⟩ (.string t)) B e t := Kq.blk_set h 1 _
theorem Rd.lt : B < w.heap.size := Kq.blk_lt h
end
set_option maxRecDepth 100000 in
theorem mem_err (B : Nat) (e : Int) (w : World) (h : w.cell? ⟨B, 0, none⟩ = some (.int .i64 e)) :
    Calls Try.prog 35 #[.pointer (some ⟨B, 0, none⟩)] w fun x w' => x = .returned (.int .i64 e) ∧ w = w' := by
  go_enter Try.func35, Try.ntmps35
  go_wp2
  go_ret
  exact ⟨rfl, rfl⟩
set_option maxRecDepth 100000 in
theorem mem_fail_ok (B : Nat) (f : Int) (w : World) (h : w.cell? ⟨B, 0, none⟩ = some (.int .i64 0)) (hf : w.frozen? ⟨B, 0, none⟩ = false) :
    Calls Try.prog 52 #[.pointer (some ⟨B, 0, none⟩), .int .i64 f] w fun x w' => x = .returned (.tuple #[]) ∧ w.setCell ⟨B, 0, none⟩ (.int .i64 f) = w' := by
  go_enter Try.func52, Try.ntmps52
  go_wp2
  go_end0
  exact ⟨rfl, rfl⟩
set_option maxRecDepth 100000 in
theorem mem_fail_no (B : Nat) (e f : Int) (w : World) (h : w.cell? ⟨B, 0, none⟩ = some (.int .i64 e)) (he : e ≠ 0) :
    Calls Try.prog 52 #[.pointer (some ⟨B, 0, none⟩), .int .i64 f] w fun x w' => x = .returned (.tuple #[]) ∧ w = w' := by
  have he' : (e == 0) = false := by simpa using he
  clear he
  go_enter Try.func52, Try.ntmps52
  go_wp2
  go_end0
  exact ⟨rfl, rfl⟩
theorem rd_fail (B : Nat) (e f : Int) (s : ByteArray) (w : World) (h : Rd w B e s) :
    Calls Try.prog 52 #[.pointer (some ⟨B, 0, none⟩), .int .i64 f] w fun x w' => x = .returned (.tuple #[]) ∧ Rd w' B (if e = 0 then f else e) s ∧ Kq.Keeps (· = B) w w' := by
  by_cases he : e = 0
  · subst he
    refine (mem_fail_ok B f w h.c0 h.f0).mono ?_
    rintro x w' ⟨rfl, rfl⟩
    exact ⟨rfl, h.set0 f, Kq.Keeps.setCell _ _ _ rfl⟩
  · refine (mem_fail_no B e f w h.c0 he).mono ?_
    rintro x w' ⟨rfl, rfl⟩
    exact ⟨rfl, by rw [if_neg he]; exact h, Kq.Keeps.refl _ _⟩
set_option maxRecDepth 100000 in
theorem rd_new (s : ByteArray) (w : World) :
    Calls Try.prog 31 #[.string s] w fun x w' => x = .returned (.pointer (some ⟨w.heap.size, 0, none⟩)) ∧ Rd w' w.heap.size 0 s ∧ Below w.heap.size w w' := by
  go_enter Try.func31, Try.ntmps31
  go_wp2
  go_ret
  exact ⟨rfl, Kq.blk_new _ _ _ _, Kq.below_alloc _ _⟩
/-- what Raw tells and leaves -/
def RawPost (w : World) (B : Nat) (e : Int) (s : ByteArray) (n : Int) (x : Ending) (w' : World) : Prop :=
  x = .returned (.string (WireM.raw e s n).1) ∧ Rd w' B (WireM.raw e s n).2.1 (WireM.raw e s n).2.2 ∧ Kq.Keeps (· = B) w w'
set_option maxRecDepth 100000 in
set_option maxHeartbeats 400000 in
theorem rd_raw (B : Nat) (e : Int) (s : ByteArray) (n : Int) (w : World) (h : Rd w B e s) (hs : s.size ≤ maxLen) :
    Calls Try.prog 36 #[.pointer (some ⟨B, 0, none⟩), .int .i64 n] w (RawPost w B e s n) := by
  have c1 := h.c1
  have H := Lib.hid h
  clear h
  have c0 := H.out.c0
  by_cases hbad : n < 0 ∨ (s.size : Int) < n
  · have HP := Lib.hid (WireM.raw_bad e s n hbad)
    have hbad' := Lib.hid hbad
    have hne : (if e = 0 then (6 : Int) else e) ≠ 0 := by split <;> omega
    obtain ⟨e1, hE⟩ : ∃ e1, (if e = 0 then (6 : Int) else e) = e1 := ⟨_, rfl⟩
    have HE := Lib.hid hE
    rw [hE] at HP hne
    clear hE hbad
    have hne' : (e1 != 0) = true := by simpa using hne
    clear hne
    by_cases h0 : n < 0
    · clear c0 c1
      go_enter Try.func36, Try.ntmps36
      go_wp2_with fail
      refine (rd_fail B e 6 s _ H.out).mono ?_
      rintro x w2 ⟨rfl, R2, K2⟩
      rw [HE.out] at R2
      go_wp2_with fail
      refine (mem_err B e1 _ R2.c0).mono ?_
      rintro x w3 ⟨rfl, rfl⟩
      go_wp2
      go_ret
      exact ⟨by rw [HP.out]; rfl, by rw [HP.out]; exact R2, K2⟩
    · have h1 : (s.size : Int) < n := hbad'.out.resolve_left h0
      have hd : decide ((s.size : Int) < n) = true := decide_eq_true h1
      go_enter Try.func36, Try.ntmps36
      go_wp2_with fail
      refine (rd_fail B e 6 s _ H.out).mono ?_
      rintro x w2 ⟨rfl, R2, K2⟩
      rw [HE.out] at R2
      go_wp2_with fail
      refine (mem_err B e1 _ R2.c0).mono ?_
      rintro x w3 ⟨rfl, rfl⟩
      go_wp2
      go_ret
      exact ⟨by rw [HP.out]; rfl, by rw [HP.out]; exact R2, K2⟩
  · obtain ⟨m, rfl⟩ := Int.eq_ofNat_of_zero_le (show 0 ≤ n by omega)
    have hm : m ≤ s.size := by omega
    have hd : decide ((s.size : Int) < (m : Int)) = false := by simp; omega
    clear hbad
    by_cases he : e = 0
    · subst he
      have HP := Lib.hid (WireM.raw_ok s m hm)
      have f1 := H.out.f1
      go_enter Try.func36, Try.ntmps36
      go_wp2_with fail
      refine (mem_err B 0 _ c0).mono ?_
      rintro x w3 ⟨rfl, rfl⟩
      go_wp2
      go_ret
      exact ⟨by rw [HP.out]; rfl, by rw [HP.out]; exact H.out.set1 _, Kq.Keeps.setCell _ _ _ rfl⟩
    · have HP := Lib.hid (WireM.raw_stuck e s m he)
      have hne' : (e != 0) = true := by simpa using he
      clear he
      go_enter Try.func36, Try.ntmps36
      go_wp2_with fail
      refine (mem_err B e _ c0).mono ?_
      rintro x w3 ⟨rfl, rfl⟩
      go_wp2
      go_ret
      exact ⟨by rw [HP.out]; rfl, by rw [HP.out]; exact H.out, Kq.Keeps.refl _ _⟩
end Go.Proofs.Ytjilbcefikbihaa
