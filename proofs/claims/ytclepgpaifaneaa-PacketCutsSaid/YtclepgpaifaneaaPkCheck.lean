/- Contract of packet.Check; the document's example of packet. No condition. -/
import Derived.WalkSpells
import Derived.Test.YtclepgpaifaneaaPkSeq
namespace Go.Proofs.Ytclepgpaifaneaa
open Go.RowKit
set_option linter.unusedVariables false
/-- a packet -/
structure PkV where
  f : Int
  q : Int
  t : Int
  d : ByteArray
def PkV.val (p : PkV) : Value := .agg #[.int .i64 p.f, .int .u64 p.q, .int .u64 p.t, .string p.d]
def PkOk (p : PkV) : Prop := 0 ≤ p.f ∧ p.f ≤ 1 ∧ p.q ≠ 0 ∧ p.t ≠ 0 ∧ p.d.size ≤ 64
instance (p : PkV) : Decidable (PkOk p) := by unfold PkOk; infer_instance
set_option maxRecDepth 100000 in
set_option maxHeartbeats 1000000 in
theorem pk_check_ok (f q t : Int) (d : ByteArray) (w : World) (h : PkOk ⟨f, q, t, d⟩) :
    Calls Try.prog 22 #[.agg #[.int .i64 f, .int .u64 q, .int .u64 t, .string d]] w fun x w' => x = .returned (.int .i64 0) ∧ Below w.heap.size w w' := by
  obtain ⟨h1, h2, h3, h4, h5⟩ := h
  simp only at h1 h2 h3 h4 h5
  have e1 : decide (f < 0) = false := decide_eq_false (by omega)
  have e2 : decide (1 < f) = false := decide_eq_false (by omega)
  have e3 : (q == 0) = false := by simpa using h3
  have e4 : (t == 0) = false := by simpa using h4
  have e5 : decide (64 < (d.size : Int)) = false := decide_eq_false (by omega)
  clear h3 h4
  go_enter Try.func22, Try.ntmps22
  go_wp2
  go_ret
  exact ⟨rfl, Kq.below_alloc _ _⟩
set_option maxRecDepth 100000 in
set_option maxHeartbeats 1000000 in
theorem pk_check_bad (f q t : Int) (d : ByteArray) (w : World) (h : ¬ PkOk ⟨f, q, t, d⟩) :
    Calls Try.prog 22 #[.agg #[.int .i64 f, .int .u64 q, .int .u64 t, .string d]] w fun x w' => x = .returned (.int .i64 1) ∧ Below w.heap.size w w' := by
  have H := Lib.hid h
  clear h
  by_cases h1 : f < 0
  · have e1 : decide (f < 0) = true := decide_eq_true h1
    go_enter Try.func22, Try.ntmps22
    go_wp2
    go_ret
    exact ⟨rfl, Kq.below_alloc _ _⟩
  have e1 : decide (f < 0) = false := decide_eq_false h1
  by_cases h2 : 1 < f
  · have e2 : decide (1 < f) = true := decide_eq_true h2
    go_enter Try.func22, Try.ntmps22
    go_wp2
    go_ret
    exact ⟨rfl, Kq.below_alloc _ _⟩
  have e2 : decide (1 < f) = false := decide_eq_false h2
  by_cases h3 : q = 0
  · subst h3
    go_enter Try.func22, Try.ntmps22
    go_wp2
    go_ret
    exact ⟨rfl, Kq.below_alloc _ _⟩
  have e3 : (q == 0) = false := by simpa using h3
  by_cases h4 : t = 0
  · subst h4
    clear h3
    go_enter Try.func22, Try.ntmps22
    go_wp2
    go_ret
    exact ⟨rfl, Kq.below_alloc _ _⟩
  have e4 : (t == 0) = false := by simpa using h4
  have h5 : 64 < d.size := by
    refine Nat.lt_of_not_le fun h5 => H.out ⟨by show 0 ≤ f; omega, by show f ≤ 1; omega, h3, h4, h5⟩
  have e5 : decide (64 < (d.size : Int)) = true := decide_eq_true (by omega)
  clear h3 h4
  go_enter Try.func22, Try.ntmps22
  go_wp2
  go_ret
  exact ⟨rfl, Kq.below_alloc _ _⟩
theorem seqOf_key (c n : Nat) (hc : c < 256) (hl : letterB c = true) (hn : n < M64) : seqOf (keyT c n) = some n := by
  unfold seqOf
  rw [keyT_nl c n hc, if_pos ⟨keyT_size c n, hl⟩, List.drop_succ_cons, List.drop_zero, val_num8 n hn]
theorem key_258 : keyT 99 258 = ⟨#[99, 0, 0, 0, 0, 0, 0, 1, 2]⟩ := by rfl
set_option maxRecDepth 100000 in
set_option maxHeartbeats 1000000 in
theorem awake (w : World) : Calls Try.prog 7 #[] w fun x w' => x = .returned (.bool true) ∧ Below w.heap.size w w' := by
  have HS := Lib.hid (seqOf_key 99 258 (by decide) rfl (by unfold M64; decide))
  go_enter Try.func7, Try.ntmps7
  go_wp2_with fail
  refine (pk_sent 258 _ (by unfold M64; decide)).mono ?_
  rintro x w2 ⟨rfl, b2⟩
  have H2 := Lib.hid b2
  clear b2
  go_wp2_with fail
  refine (pk_sequence (keyT 99 258) _ (by rw [keyT_size]; decide)).mono ?_
  intro x w3 hp
  unfold SeqPost at hp
  rw [HS.out] at hp
  obtain ⟨rfl, b3⟩ := hp
  have H3 := Lib.hid (H2.out.trans (b3.mono H2.out.size))
  clear b3
  go_wp2_with fail
  refine (pk_sent 258 _ (by unfold M64; decide)).mono ?_
  rintro x w4 ⟨rfl, b4⟩
  have H4 := Lib.hid (H3.out.trans (b4.mono H3.out.size))
  clear b4
  rw [key_258]
  go_wp2_with fail
  refine (pk_check_bad 0 0 0 ⟨#[]⟩ _ (fun h => absurd h.2.2.1 (by simp))).mono ?_
  rintro x w5 ⟨rfl, b5⟩
  have H5 := Lib.hid (H4.out.trans (b5.mono H4.out.size))
  clear b5
  go_wp2
  go_ret
  exact ⟨rfl, H5.out⟩
end Go.Proofs.Ytclepgpaifaneaa
