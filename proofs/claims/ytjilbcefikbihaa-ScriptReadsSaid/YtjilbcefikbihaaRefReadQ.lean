/- Contracts of carrackref03's reader: take, Value, Left, End. Condition: a text of at most 100000 bytes. -/
import Derived.WalkSpells
import Derived.Deep.QuietTactic
import Derived.BigQuiet
import Derived.Test.YtjilbcefikbihaaScMQ
namespace Go.Proofs.Ytjilbcefikbihaa
open Go.RowKit
set_option linter.unusedVariables false
/-- the document's reader: a text, how far it is read, an error -/
structure RfAt (w : World) (B : Nat) (e : Int) (S : ByteArray) (k : Nat) : Prop where
  blk : w.heap[B]? = some (.cells #[.string S, .int .i64 ((k : Nat) : Int), .int .i64 e] 104 (0, 0))
  le : k ≤ S.size
  sz : S.size ≤ 100000
section
variable {w : World} {B : Nat} {e : Int} {S : ByteArray} {k : Nat} (h : RfAt w B e S k)
include h
theorem RfAt.c0 : w.cell? ⟨B, 0, none⟩ = some (.string S) := Kq.blk_cell h.blk 0
theorem RfAt.c1 : w.cell? ⟨B, 1, none⟩ = some (.int .i64 ((k : Nat) : Int)) := Kq.blk_cell h.blk 1
theorem RfAt.c2 : w.cell? ⟨B, 2, none⟩ = some (.int .i64 e) := Kq.blk_cell h.blk 2
theorem RfAt.f1 : w.frozen? ⟨B, 1, none⟩ = false := Kq.blk_free h.blk 1
theorem RfAt.f2 : w.frozen? ⟨B, 2, none⟩ = false := Kq.blk_free h.blk 2
theorem RfAt.set2 (f : Int) : RfAt (w.setCell ⟨B, 2, none⟩ (.int .i64 f)) B f S k := ⟨Kq.blk_set h.blk 2 _, h.le, h.sz⟩
theorem RfAt.set1 (m : Nat) (hm : m ≤ S.size) : RfAt (w.setCell ⟨B, 1, none⟩ (.int .i64 ((m : Nat) : Int))) B e S m := ⟨Kq.blk_set h.blk 1 _, hm, h.sz⟩
theorem RfAt.drewN (n : Nat) : RfAt (w.drewN n) B e S k := ⟨h.blk, h.le, h.sz⟩
theorem RfAt.lt : B < w.heap.size := Kq.blk_lt h.blk
end
theorem keeps_drewN (P : Nat → Prop) (w : World) (n : Nat) : Kq.Keeps P w (w.drewN n) := ⟨rfl, rfl, rfl, Nat.le_refl _, fun _ _ _ => rfl⟩
/-- .. and what is left of it -/
def Rf (w : World) (B : Nat) (e : Int) (s : ByteArray) : Prop := ∃ S k, RfAt w B e S k ∧ s = S.extract k S.size
theorem Rf.later {P : Nat → Prop} {w w' : World} {B : Nat} {e : Int} {s : ByteArray} (h : Rf w B e s) (hk : Kq.Keeps P w w') (hB : ¬ P B) : Rf w' B e s := by
  obtain ⟨S, k, hA, hs⟩ := h
  exact ⟨S, k, ⟨hk.blk hA.blk hB, hA.le, hA.sz⟩, hs⟩
theorem Rf.size {w : World} {B : Nat} {e : Int} {s : ByteArray} (h : Rf w B e s) : s.size ≤ 100000 := by
  obtain ⟨S, k, hA, rfl⟩ := h
  have := hA.sz
  simp; omega
theorem Rf.lt {w : World} {B : Nat} {e : Int} {s : ByteArray} (h : Rf w B e s) : B < w.heap.size := by
  obtain ⟨S, k, hA, _⟩ := h
  exact hA.lt
theorem ext_size (S : ByteArray) (k : Nat) (h : k ≤ S.size) : (S.extract k S.size).size = S.size - k := by simp
theorem ext_mid (S : ByteArray) (k m : Nat) (h : k + m ≤ S.size) : (S.extract k S.size).extract 0 m = S.extract k (k + m) := by
  apply nl_inj
  simp only [nl_extract, List.drop_zero, Nat.sub_zero]
  rw [List.take_take, show k + m - k = m by omega, show min m (S.size - k) = m by omega]
theorem ext_rest (S : ByteArray) (k m : Nat) (h : k + m ≤ S.size) : (S.extract k S.size).extract m (S.extract k S.size).size = S.extract (k + m) S.size := by
  apply nl_inj
  rw [ext_size S k (by omega)]
  simp only [nl_extract]
  rw [List.drop_take, List.drop_drop, List.take_take, show S.size - k - m = S.size - (k + m) by omega, Nat.min_self]
set_option maxRecDepth 100000 in
set_option maxHeartbeats 400000 in
theorem rf_take_err (B : Nat) (e : Int) (S : ByteArray) (k : Nat) (n : Int) (w : World) (h : RfAt w B e S k) (he : e ≠ 0) :
    Calls Try.prog 86 #[.pointer (some ⟨B, 0, none⟩), .int .i64 n] w fun x w' => x = .returned (.tuple #[.string ⟨#[]⟩, .bool false]) ∧ w = w' := by
  have c2 := h.c2
  have he' : (e != 0) = true := by simpa using he
  clear h he
  go_enter Try.func86, Try.ntmps86
  go_wp2
  go_ret2
  exact ⟨rfl, rfl⟩
set_option maxRecDepth 100000 in
set_option maxHeartbeats 800000 in
theorem rf_take_short (B : Nat) (S : ByteArray) (k : Nat) (n : Int) (w : World) (h : RfAt w B 0 S k) (hn : n < 0 ∨ (S.size : Int) - k < n) :
    Calls Try.prog 86 #[.pointer (some ⟨B, 0, none⟩), .int .i64 n] w fun x w' => x = .returned (.tuple #[.string ⟨#[]⟩, .bool false]) ∧ RfAt w' B 6 S k ∧ Kq.Keeps (· = B) w w' := by
  have c0 := h.c0
  have c1 := h.c1
  have c2 := h.c2
  have f2 := h.f2
  have hk := h.le
  have hS := h.sz
  have H := Lib.hid h
  clear h
  by_cases h0 : n < 0
  · clear hn
    have hd0 : decide (n < 0) = true := decide_eq_true h0
    go_enter Try.func86, Try.ntmps86
    go_wp2
    go_quiet (fail)
    go_wp2
    go_ret2
    exact ⟨rfl, (H.out.drewN _).set2 6, (keeps_drewN _ _ _).trans (Kq.Keeps.setCell _ _ _ rfl)⟩
  · have h1 : (S.size : Int) - k < n := hn.resolve_left h0
    have hd0 : decide (n < 0) = false := decide_eq_false h0
    have hd1 : decide ((S.size : Int) - k < n) = true := decide_eq_true h1
    have hw : IntKind.i64.wrap ((S.size : Int) - k) = (S.size : Int) - k := IntWalk.i64_in _ (by omega)
    clear hn
    go_enter Try.func86, Try.ntmps86
    go_wp2
    go_quiet (fail)
    go_wp2
    go_ret2
    exact ⟨rfl, (H.out.drewN _).set2 6, (keeps_drewN _ _ _).trans (Kq.Keeps.setCell _ _ _ rfl)⟩
set_option maxRecDepth 100000 in
set_option maxHeartbeats 800000 in
theorem rf_take_ok (B : Nat) (S : ByteArray) (k m : Nat) (w : World) (h : RfAt w B 0 S k) (hm : k + m ≤ S.size) :
    Calls Try.prog 86 #[.pointer (some ⟨B, 0, none⟩), .int .i64 (m : Int)] w fun x w' => x = .returned (.tuple #[.string (S.extract k (k + m)), .bool true]) ∧ RfAt w' B 0 S (k + m) ∧ Kq.Keeps (· = B) w w' := by
  have c0 := h.c0
  have c1 := h.c1
  have c2 := h.c2
  have f1 := h.f1
  have hk := h.le
  have hS := h.sz
  have H := Lib.hid h
  clear h
  have hd : decide ((S.size : Int) - (k : Int) < (m : Int)) = false := by simp; omega
  have h0 : decide ((m : Int) < 0) = false := by simp
  have hw : IntKind.i64.wrap ((S.size : Int) - k) = (S.size : Int) - k := IntWalk.i64_in _ (by omega)
  go_enter Try.func86, Try.ntmps86
  go_wp2
  go_quiet (fail)
  clear hw
  go_wp2
  have hw2 : IntKind.i64.wrap ((k : Int) + m - m) = (k : Int) := by rw [show (k : Int) + m - m = k by omega]; exact IntWalk.i64_in _ (by omega)
  go_quiet (fail)
  go_wp2
  go_ret2
  rename_i nqa
  refine ⟨rfl, ((H.out.drewN _).set1 (k + m) hm).drewN _, ?_⟩
  have k1 : Kq.Keeps (· = B) w ((w.drewN nqa).setCell ⟨B, 1, none⟩ (.int .i64 ((k : Int) + m))) := Kq.Keeps.trans (keeps_drewN _ _ nqa) (Kq.Keeps.setCell _ _ _ rfl)
  exact Kq.Keeps.trans k1 (keeps_drewN _ _ _)
/-- the whole of it, as a reader's Raw -/
def tookB (e : Int) (s : ByteArray) (n : Int) : Bool := decide (e = 0 ∧ 0 ≤ n ∧ n ≤ (s.size : Int))
def TakePost (w : World) (B : Nat) (e : Int) (s : ByteArray) (n : Int) (b : Bool) (x : Ending) (w' : World) : Prop :=
  x = .returned (.tuple #[.string (WireM.raw e s n).1, .bool b]) ∧ Rf w' B (WireM.raw e s n).2.1 (WireM.raw e s n).2.2 ∧ Kq.Keeps (· = B) w w'
theorem rf_take (B : Nat) (e : Int) (s : ByteArray) (n : Int) (w : World) (h : Rf w B e s) :
    Calls Try.prog 86 #[.pointer (some ⟨B, 0, none⟩), .int .i64 n] w (TakePost w B e s n (tookB e s n)) := by
  obtain ⟨S, k, hA, rfl⟩ := h
  have hz := ext_size S k hA.le
  have hle := hA.le
  by_cases he : e = 0
  · subst he
    by_cases hb : n < 0 ∨ (S.size : Int) - k < n
    · refine (rf_take_short B S k n w hA hb).mono ?_
      rintro x w' ⟨rfl, h1, h2⟩
      have hr := WireM.raw_bad 0 (S.extract k S.size) n (by rw [hz]; omega)
      have ht : tookB 0 (S.extract k S.size) n = false := by unfold tookB; rw [hz]; simp; omega
      unfold TakePost
      rw [hr, ht]
      exact ⟨rfl, ⟨S, k, h1, rfl⟩, h2⟩
    · obtain ⟨m, rfl⟩ := Int.eq_ofNat_of_zero_le (show 0 ≤ n by omega)
      refine (rf_take_ok B S k m w hA (by omega)).mono ?_
      rintro x w' ⟨rfl, h1, h2⟩
      have hr := WireM.raw_ok (S.extract k S.size) m (by rw [hz]; omega)
      have ht : tookB 0 (S.extract k S.size) m = true := by unfold tookB; rw [hz]; simp; omega
      unfold TakePost
      rw [hr, ht, ext_mid S k m (by omega), ext_rest S k m (by omega)]
      exact ⟨rfl, ⟨S, k + m, h1, rfl⟩, h2⟩
  · refine (rf_take_err B e S k n w hA he).mono ?_
    rintro x w' ⟨rfl, rfl⟩
    have ht : tookB e (S.extract k S.size) n = false := by unfold tookB; simp [he]
    unfold TakePost
    rw [WireM.raw_stuck e _ n he, ht]
    exact ⟨rfl, ⟨S, k, hA, rfl⟩, Kq.Keeps.refl _ _⟩
end Go.Proofs.Ytjilbcefikbihaa
