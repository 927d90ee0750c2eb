/- Contracts of carrackref03's reader: Do, Left, End. Condition: a text of at most 100000 bytes. -/
import Derived.Test.YtiokelnnimoljaaRefRead
import Derived.Test.YtiokelnnimoljaaCall4
namespace Go.Proofs.Ytiokelnnimoljaa
open Go.RowKit
set_option linter.unusedVariables false
/-- what one call of a reader tells and leaves -/
def doOne (e : Int) (s : ByteArray) (c : CallV) : Nat × ByteArray × Int × ByteArray :=
  if c.kind = 0 then (WireM.val (nl (WireM.raw e s (1 : Nat)).1), ⟨#[]⟩, (WireM.raw e s (1 : Nat)).2)
  else if c.kind = 1 then (WireM.val (nl (WireM.raw e s (8 : Nat)).1), ⟨#[]⟩, (WireM.raw e s (8 : Nat)).2)
  else if c.kind = 2 then (0, WireM.raw (WireM.raw e s (2 : Nat)).2.1 (WireM.raw e s (2 : Nat)).2.2 ((WireM.val (nl (WireM.raw e s (2 : Nat)).1) : Nat) : Int))
  else if c.kind = 3 then (0, WireM.raw e s c.k)
  else (0, ⟨#[]⟩, (if e = 0 then c.k else e), s)
def DoPost (w : World) (B : Nat) (y : Nat × ByteArray × Int × ByteArray) (x : Ending) (w' : World) : Prop :=
  x = .returned (.tuple #[.int .u64 ((y.1 : Nat) : Int), .string y.2.1]) ∧ Rf w' B y.2.2.1 y.2.2.2 ∧ Kq.Keeps (· = B) w w'
theorem took_not (e : Int) (s : ByteArray) (n : Nat) (h : tookB e s n = false) : (WireM.raw e s n).1 = ⟨#[]⟩ ∧ (WireM.raw e s n).2.1 ≠ 0 := by
  unfold tookB at h
  have h1 : ¬ (e = 0 ∧ 0 ≤ (n : Int) ∧ (n : Int) ≤ (s.size : Int)) := of_decide_eq_false h
  by_cases he : e = 0
  · subst he
    rw [WireM.raw_bad 0 s n (Or.inr (by omega))]
    exact ⟨rfl, by simp⟩
  · rw [WireM.raw_stuck e s n he]
    exact ⟨rfl, he⟩
section
variable (B : Nat) (e : Int) (s : ByteArray) (c : CallV) (w : World) (h : Rf w B e s)
include h
set_option maxRecDepth 100000 in
set_option maxHeartbeats 800000 in
theorem do_byte (hk : c.kind = 0) : Calls Try.prog 19 #[.pointer (some ⟨B, 0, none⟩), .agg #[.int .i64 c.kind, .int .i64 c.k, .int .u64 c.n, .string c.s]] w (DoPost w B (doOne e s c)) := by
  unfold doOne
  rw [if_pos hk, hk]
  have H := Lib.hid (h.later (Kq.Keeps.alloc (fun _ => False) w (Obj.cells #[Value.int IntKind.i64 0, Value.int IntKind.i64 c.k, Value.int IntKind.u64 c.n, Value.string c.s] 44)) id)
  clear h hk
  go_enter Try.func19, Try.ntmps19
  go_wp2_with fail
  refine (rf_take B e s ((1 : Nat) : Int) _ H.out).mono ?_
  rintro x w2 ⟨rfl, R2, K2⟩
  have hsz : (WireM.raw e s ((1 : Nat) : Int)).1.size ≤ 8 := Nat.le_trans (raw_size e s 1) (by decide)
  have HP := Lib.hid (And.intro R2 ((Kq.Keeps.alloc (· = B) w _).trans K2))
  clear R2 K2
  generalize tookB e s ((1 : Nat) : Int) = b at *
  generalize WireM.raw e s ((1 : Nat) : Int) = q at *
  go_wp2_with fail
  refine (ref_value q.1 _ hsz).mono ?_
  rintro x w3 ⟨rfl, rfl⟩
  go_wp2
  go_ret2
  exact ⟨rfl, HP.out⟩
set_option maxRecDepth 100000 in
set_option maxHeartbeats 800000 in
theorem do_number (hk : c.kind = 1) : Calls Try.prog 19 #[.pointer (some ⟨B, 0, none⟩), .agg #[.int .i64 c.kind, .int .i64 c.k, .int .u64 c.n, .string c.s]] w (DoPost w B (doOne e s c)) := by
  unfold doOne
  rw [if_neg (by omega), if_pos hk, hk]
  have H := Lib.hid (h.later (Kq.Keeps.alloc (fun _ => False) w (Obj.cells #[Value.int IntKind.i64 1, Value.int IntKind.i64 c.k, Value.int IntKind.u64 c.n, Value.string c.s] 44)) id)
  clear h hk
  go_enter Try.func19, Try.ntmps19
  go_wp2_with fail
  refine (rf_take B e s ((8 : Nat) : Int) _ H.out).mono ?_
  rintro x w2 ⟨rfl, R2, K2⟩
  have hsz : (WireM.raw e s ((8 : Nat) : Int)).1.size ≤ 8 := raw_size e s 8
  have HP := Lib.hid (And.intro R2 ((Kq.Keeps.alloc (· = B) w _).trans K2))
  clear R2 K2
  generalize tookB e s ((8 : Nat) : Int) = b at *
  generalize WireM.raw e s ((8 : Nat) : Int) = q at *
  go_wp2_with fail
  refine (ref_value q.1 _ hsz).mono ?_
  rintro x w3 ⟨rfl, rfl⟩
  go_wp2
  go_ret2
  exact ⟨rfl, HP.out⟩
set_option maxRecDepth 100000 in
set_option maxHeartbeats 800000 in
theorem do_text (hk : c.kind = 2) : Calls Try.prog 19 #[.pointer (some ⟨B, 0, none⟩), .agg #[.int .i64 c.kind, .int .i64 c.k, .int .u64 c.n, .string c.s]] w (DoPost w B (doOne e s c)) := by
  unfold doOne
  rw [if_neg (by omega), if_neg (by omega), if_pos hk, hk]
  have H := Lib.hid (h.later (Kq.Keeps.alloc (fun _ => False) w (Obj.cells #[Value.int IntKind.i64 2, Value.int IntKind.i64 c.k, Value.int IntKind.u64 c.n, Value.string c.s] 44)) id)
  clear h hk
  have ht := took_not e s 2
  have hsz : (WireM.raw e s ((2 : Nat) : Int)).1.size ≤ 8 := Nat.le_trans (raw_size e s 2) (by decide)
  have hv := u64_int _ (Nat.lt_of_lt_of_le (whole_lt e s 2) (by decide))
  have HT := Lib.hid ht
  clear ht
  obtain ⟨tb, hb⟩ : ∃ tb, tookB e s ((2 : Nat) : Int) = tb := ⟨_, rfl⟩
  have htk := rf_take B e s ((2 : Nat) : Int) _ H.out
  rw [hb] at htk
  have HK := Lib.hid htk
  rw [hb] at HT
  clear htk hb H
  rcases tb with _ | _
  · obtain ⟨h1, h2⟩ := HT.out rfl
    rw [WireM.raw_stuck _ _ _ h2]
    go_enter Try.func19, Try.ntmps19
    go_wp2_with fail
    refine HK.out.mono ?_
    rintro x w2 ⟨rfl, R2, K2⟩
    have HP := Lib.hid (And.intro R2 ((Kq.Keeps.alloc (· = B) w _).trans K2))
    clear R2 K2 HK h1 h2 hv hsz HT
    generalize WireM.raw e s ((2 : Nat) : Int) = q at *
    go_wp2
    go_ret2
    exact ⟨rfl, HP.out⟩
  · go_enter Try.func19, Try.ntmps19
    go_wp2_with fail
    refine HK.out.mono ?_
    rintro x w2 ⟨rfl, R2, K2⟩
    have HP := Lib.hid (And.intro R2 ((Kq.Keeps.alloc (· = B) w _).trans K2))
    clear R2 K2 HK HT
    generalize WireM.raw e s ((2 : Nat) : Int) = q at *
    have HV := Lib.hid hv
    clear hv
    go_wp2_with fail
    refine (ref_value q.1 _ hsz).mono ?_
    rintro x w3 ⟨rfl, rfl⟩
    have hv := HV.out
    obtain ⟨v, hvv⟩ : ∃ v, v = WireM.val (nl q.1) := ⟨_, rfl⟩
    rw [← hvv] at hv ⊢
    have HVV := Lib.hid hvv
    clear hvv HV
    go_wp2_with fail
    refine (rf_take B q.2.1 q.2.2 (v : Int) _ HP.out.1).mono ?_
    rintro x w4 ⟨rfl, R4, K4⟩
    have H4 := Lib.hid (And.intro R4 (HP.out.2.trans K4))
    clear R4 K4 HP hv
    generalize tookB q.2.1 q.2.2 (v : Int) = bb at *
    go_wp2
    go_ret2
    rw [← HVV.out]
    exact ⟨rfl, H4.out⟩
set_option maxRecDepth 100000 in
set_option maxHeartbeats 800000 in
theorem do_raw (hk : c.kind = 3) : Calls Try.prog 19 #[.pointer (some ⟨B, 0, none⟩), .agg #[.int .i64 c.kind, .int .i64 c.k, .int .u64 c.n, .string c.s]] w (DoPost w B (doOne e s c)) := by
  unfold doOne
  rw [if_neg (by omega), if_neg (by omega), if_neg (by omega), if_pos hk, hk]
  have H := Lib.hid (h.later (Kq.Keeps.alloc (fun _ => False) w (Obj.cells #[Value.int IntKind.i64 3, Value.int IntKind.i64 c.k, Value.int IntKind.u64 c.n, Value.string c.s] 44)) id)
  clear h hk
  go_enter Try.func19, Try.ntmps19
  go_wp2_with fail
  refine (rf_take B e s c.k _ H.out).mono ?_
  rintro x w2 ⟨rfl, R2, K2⟩
  have HP := Lib.hid (And.intro R2 ((Kq.Keeps.alloc (· = B) w _).trans K2))
  clear R2 K2
  generalize tookB e s c.k = b at *
  generalize WireM.raw e s c.k = q at *
  go_wp2
  go_ret2
  exact ⟨rfl, HP.out⟩
set_option maxRecDepth 100000 in
set_option maxHeartbeats 800000 in
theorem do_fail (h0 : c.kind ≠ 0) (h1 : c.kind ≠ 1) (h2 : c.kind ≠ 2) (h3 : c.kind ≠ 3) : Calls Try.prog 19 #[.pointer (some ⟨B, 0, none⟩), .agg #[.int .i64 c.kind, .int .i64 c.k, .int .u64 c.n, .string c.s]] w (DoPost w B (doOne e s c)) := by
  unfold doOne
  rw [if_neg h0, if_neg h1, if_neg h2, if_neg h3]
  have H := Lib.hid (h.later (Kq.Keeps.alloc (fun _ => False) w (Obj.cells #[Value.int IntKind.i64 c.kind, Value.int IntKind.i64 c.k, Value.int IntKind.u64 c.n, Value.string c.s] 44)) id)
  clear h
  have r0 : (c.kind == 0) = false := by simpa using h0
  have r1 : (c.kind == 1) = false := by simpa using h1
  have r2 : (c.kind == 2) = false := by simpa using h2
  have r3 : (c.kind == 3) = false := by simpa using h3
  clear h0 h1 h2 h3
  obtain ⟨S, k, hA, hs⟩ := H.out
  have HA := Lib.hid hA
  have HS := Lib.hid hs
  have c2 := hA.c2
  have f2 := hA.f2
  clear hs hA
  by_cases he : e = 0
  · subst he
    rw [if_pos rfl]
    go_enter Try.func19, Try.ntmps19
    go_wp2
    go_ret2
    exact ⟨rfl, ⟨S, k, HA.out.set2 _, HS.out⟩, (Kq.Keeps.alloc (· = B) w _).trans (Kq.Keeps.setCell _ _ _ rfl)⟩
  · rw [if_neg he]
    have he' : (e == 0) = false := by simpa using he
    clear he
    go_enter Try.func19, Try.ntmps19
    go_wp2
    go_ret2
    exact ⟨rfl, H.out, Kq.Keeps.alloc (· = B) w _⟩
theorem ref_do : Calls Try.prog 19 #[.pointer (some ⟨B, 0, none⟩), .agg #[.int .i64 c.kind, .int .i64 c.k, .int .u64 c.n, .string c.s]] w (DoPost w B (doOne e s c)) := by
  by_cases h0 : c.kind = 0
  · exact do_byte B e s c w h h0
  by_cases h1 : c.kind = 1
  · exact do_number B e s c w h h1
  by_cases h2 : c.kind = 2
  · exact do_text B e s c w h h2
  by_cases h3 : c.kind = 3
  · exact do_raw B e s c w h h3
  exact do_fail B e s c w h h0 h1 h2 h3
set_option maxRecDepth 100000 in
set_option maxHeartbeats 800000 in
theorem ref_left : Calls Try.prog 21 #[.pointer (some ⟨B, 0, none⟩)] w fun x w' => x = .returned (.int .i64 ((leftOf e s : Nat) : Int)) ∧ ∃ n, w' = w.drewN n := by
  obtain ⟨S, k, hA, rfl⟩ := h
  have hz := ext_size S k hA.le
  have hle := hA.le
  have hS := hA.sz
  have c0 := hA.c0
  have c1 := hA.c1
  have c2 := hA.c2
  clear hA
  unfold leftOf
  by_cases he : e = 0
  · subst he
    rw [if_pos rfl, hz]
    have e1 : ((S.size - k : Nat) : Int) = (S.size : Int) - (k : Int) := by omega
    rw [e1]
    have hw : IntKind.i64.wrap ((S.size : Int) - k) = (S.size : Int) - k := IntWalk.i64_in _ (by omega)
    clear hz e1
    go_enter Try.func21, Try.ntmps21
    go_wp2
    go_quiet (fail)
    go_wp2
    go_ret
    exact ⟨rfl, _, rfl⟩
  · rw [if_neg he]
    have he' : (e != 0) = true := by simpa using he
    clear he
    go_enter Try.func21, Try.ntmps21
    go_wp2
    go_ret
    exact ⟨rfl, 0, rfl⟩
set_option maxRecDepth 100000 in
set_option maxHeartbeats 800000 in
theorem ref_end : Calls Try.prog 24 #[.pointer (some ⟨B, 0, none⟩)] w fun x w' => x = .returned (.int .i64 (endOf e s)) ∧ ∃ n, w' = w.drewN n := by
  obtain ⟨S, k, hA, hs⟩ := id h
  have c2 := hA.c2
  clear hA hs
  have H := Lib.hid h
  clear h
  by_cases hp : 0 < leftOf e s
  · have HE : Hid (endOf e s = 7) := Lib.hid (by
      unfold leftOf at hp; unfold endOf
      by_cases he : e = 0
      · rw [if_pos he] at hp ⊢; rw [if_neg (by omega)]
      · rw [if_neg he] at hp; omega)
    go_enter Try.func24, Try.ntmps24
    go_wp2_with fail
    refine (ref_left B e s _ H.out).mono ?_
    rintro x w3 ⟨rfl, n, rfl⟩
    generalize leftOf e s = v at *
    go_wp2
    go_ret
    exact ⟨by rw [HE.out]; rfl, _, rfl⟩
  · have HE : Hid (endOf e s = e) := Lib.hid (by
      unfold leftOf at hp; unfold endOf
      by_cases he : e = 0
      · rw [if_pos he] at hp ⊢; rw [if_pos (by omega), he]
      · rw [if_neg he])
    go_enter Try.func24, Try.ntmps24
    go_wp2_with fail
    refine (ref_left B e s _ H.out).mono ?_
    rintro x w3 ⟨rfl, n, rfl⟩
    generalize leftOf e s = v at *
    go_wp2
    go_ret
    exact ⟨by rw [HE.out]; rfl, _, rfl⟩
end
end Go.Proofs.Ytiokelnnimoljaa
