/- The document's reader where its whole text is known; the calls of carrackref23's reader. Condition: a text of at most 100000 bytes. -/
import Derived.Test.YtjilbcefikbihaaRefReadQ
import Derived.Test.YtjilbcefikbihaaScEn2Q
namespace Go.Proofs.Ytjilbcefikbihaa
open Go.RowKit
set_option linter.unusedVariables false
/-- the document's reader of a text: what is left, an error -/
def RfK (w : World) (B : Nat) (S : ByteArray) (e : Int) (s : ByteArray) : Prop := ∃ k, RfAt w B e S k ∧ s = S.extract k S.size
theorem RfK.later {P : Nat → Prop} {w w' : World} {B : Nat} {S : ByteArray} {e : Int} {s : ByteArray} (h : RfK w B S e s) (hk : Kq.Keeps P w w') (hB : ¬ P B) : RfK w' B S e s := by
  obtain ⟨k, hA, hs⟩ := h
  exact ⟨k, ⟨hk.blk hA.blk hB, hA.le, hA.sz⟩, hs⟩
theorem RfK.lt {w : World} {B : Nat} {S : ByteArray} {e : Int} {s : ByteArray} (h : RfK w B S e s) : B < w.heap.size := by
  obtain ⟨k, hA, _⟩ := h
  exact hA.lt
theorem RfK.size {w : World} {B : Nat} {S : ByteArray} {e : Int} {s : ByteArray} (h : RfK w B S e s) : s.size ≤ 100000 := by
  obtain ⟨k, hA, rfl⟩ := h
  have := hA.sz
  simp; omega
def TakePostK (w : World) (B : Nat) (S : ByteArray) (e : Int) (s : ByteArray) (n : Int) (b : Bool) (x : Ending) (w' : World) : Prop :=
  x = .returned (.tuple #[.string (WireM.raw e s n).1, .bool b]) ∧ RfK w' B S (WireM.raw e s n).2.1 (WireM.raw e s n).2.2 ∧ Kq.Keeps (· = B) w w'
theorem rfk_take (B : Nat) (S : ByteArray) (e : Int) (s : ByteArray) (n : Int) (w : World) (h : RfK w B S e s) :
    Calls Try.prog 86 #[.pointer (some ⟨B, 0, none⟩), .int .i64 n] w (TakePostK w B S e s n (tookB e s n)) := by
  obtain ⟨k, hA, rfl⟩ := h
  have hz := ext_size S k hA.le
  have hle := hA.le
  by_cases he : e = 0
  · subst he
    by_cases hb : n < 0 ∨ (S.size : Int) - k < n
    · refine (rf_take_short B S k n w hA hb).mono ?_
      rintro x w' ⟨rfl, h1, h2⟩
      have hr := WireM.raw_bad 0 (S.extract k S.size) n (by rw [hz]; omega)
      have ht : tookB 0 (S.extract k S.size) n = false := by unfold tookB; rw [hz]; simp; omega
      unfold TakePostK
      rw [hr, ht]
      exact ⟨rfl, ⟨k, h1, rfl⟩, h2⟩
    · obtain ⟨m, rfl⟩ := Int.eq_ofNat_of_zero_le (show 0 ≤ n by omega)
      refine (rf_take_ok B S k m w hA (by omega)).mono ?_
      rintro x w' ⟨rfl, h1, h2⟩
      have hr := WireM.raw_ok (S.extract k S.size) m (by rw [hz]; omega)
      have ht : tookB 0 (S.extract k S.size) m = true := by unfold tookB; rw [hz]; simp; omega
      unfold TakePostK
      rw [hr, ht, ext_mid S k m (by omega), ext_rest S k m (by omega)]
      exact ⟨rfl, ⟨k + m, h1, rfl⟩, h2⟩
  · refine (rf_take_err B e S k n w hA he).mono ?_
    rintro x w' ⟨rfl, rfl⟩
    have ht : tookB e (S.extract k S.size) n = false := by unfold tookB; simp [he]
    unfold TakePostK
    rw [WireM.raw_stuck e _ n he, ht]
    exact ⟨rfl, ⟨k, hA, rfl⟩, Kq.Keeps.refl _ _⟩
theorem took_not (e : Int) (s : ByteArray) (n : Nat) (h : tookB e s n = false) : (WireM.raw e s n).1 = ⟨#[]⟩ ∧ (WireM.raw e s n).2.1 ≠ 0 := by
  unfold tookB at h
  have h1 : ¬ (e = 0 ∧ 0 ≤ (n : Int) ∧ (n : Int) ≤ (s.size : Int)) := of_decide_eq_false h
  by_cases he : e = 0
  · subst he
    rw [WireM.raw_bad 0 s n (Or.inr (by omega))]
    exact ⟨rfl, by simp⟩
  · rw [WireM.raw_stuck e s n he]
    exact ⟨rfl, he⟩
def DoPostK (w : World) (B : Nat) (S : ByteArray) (y : Nat × ByteArray × Int × ByteArray) (x : Ending) (w' : World) : Prop :=
  x = .returned (.tuple #[.int .u64 ((y.1 : Nat) : Int), .string y.2.1]) ∧ RfK w' B S y.2.2.1 y.2.2.2 ∧ Kq.Keeps (· = B) w w'
set_option maxRecDepth 100000 in
set_option maxHeartbeats 800000 in
theorem dok_byte (B : Nat) (S : ByteArray) (e : Int) (s : ByteArray) (w : World) (h : RfK w B S e s) : Calls Try.prog 84 #[.pointer (some ⟨B, 0, none⟩), .agg #[.int .i64 0, .int .i64 0, .int .u64 0, .string ⟨#[]⟩]] w (DoPostK w B S (WireM.val (nl (WireM.raw e s ((1 : Nat) : Int)).1), ⟨#[]⟩, (WireM.raw e s ((1 : Nat) : Int)).2)) := by
  have H := Lib.hid (h.later (Kq.Keeps.alloc (fun _ => False) w (Obj.cells #[Value.int IntKind.i64 0, Value.int IntKind.i64 0, Value.int IntKind.u64 0, Value.string ⟨#[]⟩] 130)) id)
  clear h
  go_enter Try.func84, Try.ntmps84
  go_wp2_with fail
  refine (rfk_take B S e s ((1 : Nat) : Int) _ H.out).mono ?_
  rintro x w2 ⟨rfl, R2, K2⟩
  have hsz : (WireM.raw e s ((1 : Nat) : Int)).1.size ≤ 8 := Nat.le_trans (raw_size e s 1) (by decide)
  have HP := Lib.hid (And.intro R2 ((Kq.Keeps.alloc (· = B) w _).trans K2))
  clear R2 K2
  generalize tookB e s ((1 : Nat) : Int) = b at *
  generalize WireM.raw e s ((1 : Nat) : Int) = q at *
  go_wp2_with fail
  refine (ref_value q.1 _ hsz).mono ?_
  rintro x w3 ⟨rfl, rfl⟩
  go_wp2
  go_ret2
  exact ⟨rfl, HP.out⟩
set_option maxRecDepth 100000 in
set_option maxHeartbeats 800000 in
theorem dok_number (B : Nat) (S : ByteArray) (e : Int) (s : ByteArray) (w : World) (h : RfK w B S e s) : Calls Try.prog 84 #[.pointer (some ⟨B, 0, none⟩), .agg #[.int .i64 1, .int .i64 0, .int .u64 0, .string ⟨#[]⟩]] w (DoPostK w B S (WireM.val (nl (WireM.raw e s ((8 : Nat) : Int)).1), ⟨#[]⟩, (WireM.raw e s ((8 : Nat) : Int)).2)) := by
  have H := Lib.hid (h.later (Kq.Keeps.alloc (fun _ => False) w (Obj.cells #[Value.int IntKind.i64 1, Value.int IntKind.i64 0, Value.int IntKind.u64 0, Value.string ⟨#[]⟩] 130)) id)
  clear h
  go_enter Try.func84, Try.ntmps84
  go_wp2_with fail
  refine (rfk_take B S e s ((8 : Nat) : Int) _ H.out).mono ?_
  rintro x w2 ⟨rfl, R2, K2⟩
  have hsz : (WireM.raw e s ((8 : Nat) : Int)).1.size ≤ 8 := raw_size e s 8
  have HP := Lib.hid (And.intro R2 ((Kq.Keeps.alloc (· = B) w _).trans K2))
  clear R2 K2
  generalize tookB e s ((8 : Nat) : Int) = b at *
  generalize WireM.raw e s ((8 : Nat) : Int) = q at *
  go_wp2_with fail
  refine (ref_value q.1 _ hsz).mono ?_
  rintro x w3 ⟨rfl, rfl⟩
  go_wp2
  go_ret2
  exact ⟨rfl, HP.out⟩
set_option maxRecDepth 100000 in
set_option maxHeartbeats 800000 in
theorem dok_text (B : Nat) (S : ByteArray) (e : Int) (s : ByteArray) (w : World) (h : RfK w B S e s) : Calls Try.prog 84 #[.pointer (some ⟨B, 0, none⟩), .agg #[.int .i64 2, .int .i64 0, .int .u64 0, .string ⟨#[]⟩]] w (DoPostK w B S (0, (WireM.raw (WireM.raw e s ((2 : Nat) : Int)).2.1 (WireM.raw e s ((2 : Nat) : Int)).2.2 ((WireM.val (nl (WireM.raw e s ((2 : Nat) : Int)).1) : Nat) : Int)).1, (WireM.raw (WireM.raw e s ((2 : Nat) : Int)).2.1 (WireM.raw e s ((2 : Nat) : Int)).2.2 ((WireM.val (nl (WireM.raw e s ((2 : Nat) : Int)).1) : Nat) : Int)).2)) := by
  have H := Lib.hid (h.later (Kq.Keeps.alloc (fun _ => False) w (Obj.cells #[Value.int IntKind.i64 2, Value.int IntKind.i64 0, Value.int IntKind.u64 0, Value.string ⟨#[]⟩] 130)) id)
  clear h
  have ht := took_not e s 2
  have hsz : (WireM.raw e s ((2 : Nat) : Int)).1.size ≤ 8 := Nat.le_trans (raw_size e s 2) (by decide)
  have hv := u64_int _ (Nat.lt_of_lt_of_le (whole_lt e s 2) (by decide))
  have HT := Lib.hid ht
  clear ht
  obtain ⟨tb, hb⟩ : ∃ tb, tookB e s ((2 : Nat) : Int) = tb := ⟨_, rfl⟩
  have htk := rfk_take B S e s ((2 : Nat) : Int) _ H.out
  rw [hb] at htk
  have HK := Lib.hid htk
  rw [hb] at HT
  clear htk hb H
  rcases tb with _ | _
  · obtain ⟨h1, h2⟩ := HT.out rfl
    rw [WireM.raw_stuck _ _ _ h2]
    go_enter Try.func84, Try.ntmps84
    go_wp2_with fail
    refine HK.out.mono ?_
    rintro x w2 ⟨rfl, R2, K2⟩
    have HP := Lib.hid (And.intro R2 ((Kq.Keeps.alloc (· = B) w _).trans K2))
    clear R2 K2 HK h1 h2 hv hsz HT
    generalize WireM.raw e s ((2 : Nat) : Int) = q at *
    go_wp2
    go_ret2
    exact ⟨rfl, HP.out⟩
  · go_enter Try.func84, Try.ntmps84
    go_wp2_with fail
    refine HK.out.mono ?_
    rintro x w2 ⟨rfl, R2, K2⟩
    have HP := Lib.hid (And.intro R2 ((Kq.Keeps.alloc (· = B) w _).trans K2))
    clear R2 K2 HK HT
    generalize WireM.raw e s ((2 : Nat) : Int) = q at *
    have HV := Lib.hid hv
    clear hv
    go_wp2_with fail
    refine (ref_value q.1 _ hsz).mono ?_
    rintro x w3 ⟨rfl, rfl⟩
    have hv := HV.out
    obtain ⟨v, hvv⟩ : ∃ v, v = WireM.val (nl q.1) := ⟨_, rfl⟩
    rw [← hvv] at hv ⊢
    have HVV := Lib.hid hvv
    clear hvv HV
    go_wp2_with fail
    refine (rfk_take B S q.2.1 q.2.2 (v : Int) _ HP.out.1).mono ?_
    rintro x w4 ⟨rfl, R4, K4⟩
    have H4 := Lib.hid (And.intro R4 (HP.out.2.trans K4))
    clear R4 K4 HP hv
    generalize tookB q.2.1 q.2.2 (v : Int) = bb at *
    go_wp2
    go_ret2
    rw [← HVV.out]
    exact ⟨rfl, H4.out⟩
end Go.Proofs.Ytjilbcefikbihaa
