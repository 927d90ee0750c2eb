/- Merged: PkSeq, PkChk, PkCheck. Contract of packet.Sequence. Condition: a length is an int. A packet, and the contract of packet.Check. No condition. Contract of packet.Check; the document's example of packet. No condition. -/
import Derived.WalkSpells
import Derived.Test.YtclepgpaifaneaaDoorShelf
import Derived.Test.YtclepgpaifaneaaDoorPkKey
import Derived.Test.YtclepgpaifaneaaDoorTxt
import Derived.Test.YtclepgpaifaneaaDoorObj
namespace Go.Proofs.YtclepgpaifaneaaDoor
open Go.RowKit
set_option linter.unusedVariables false
def letterB (b : Nat) : Bool := decide (b = 99 ∨ b = 114 ∨ b = 97)
/-- a key's sequence -/
def seqOf (s : ByteArray) : Option Nat := if s.size = 9 ∧ letterB ((nl s).headD 0) = true then some (WireM.val ((nl s).drop 1)) else none
theorem index_letter (c : UInt8) : decide (0 ≤ Lib.indexByte [99, 114, 97] c) = letterB c.toNat := by
  have h : ∀ n : Fin 256, decide (0 ≤ Lib.indexByte [99, 114, 97] (UInt8.ofNat n.val)) = letterB n.val := by decide +kernel
  have := h ⟨c.toNat, c.toNat_lt⟩
  simpa using this
theorem first_one (s : ByteArray) (h : 0 < s.size) : s.extract 0 1 = ⟨#[s[0]]⟩ := by
  apply nl_inj
  rw [nl_extract, List.drop_zero, Nat.sub_zero]
  have := take_succ_nl s 0 h
  rw [List.take_zero] at this
  rw [this]
  rfl
theorem head_one (s : ByteArray) (h : 0 < s.size) : (nl s).headD 0 = s[0].toNat := by
  have := take_succ_nl s 0 h
  rw [List.take_zero] at this
  match hl : nl s with
  | [] => rw [hl] at this; simp at this
  | x :: l => rw [hl] at this; simp at this; simpa using this
theorem contains_letter (s : ByteArray) (h : 0 < s.size) (w : World) :
    Calls Tryd.prog 35 #[.string ⟨#[99, 114, 97]⟩, .string (s.extract 0 1)] w fun x w' => x = .returned (.bool (letterB ((nl s).headD 0))) ∧ w = w' := by
  rw [first_one s h, head_one s h]
  refine (Go.Proofs.Tryd.strings_Contains_one ⟨#[99, 114, 97]⟩ s[0] w).mono ?_
  rintro x w' ⟨rfl, rfl⟩
  exact ⟨by rw [← index_letter], rfl⟩
theorem end_of (t : ByteArray) : endOf (WireM.raw 0 t (8 : Nat)).2.1 (WireM.raw 0 t (8 : Nat)).2.2 = if t.size = 8 then 0 else if t.size < 8 then 6 else 7 := by
  by_cases h : t.size < 8
  · have e : WireM.raw 0 t ((8 : Nat) : Int) = (⟨#[]⟩, 6, t) := by rw [WireM.raw_bad 0 t _ (Or.inr (by omega))]; rfl
    rw [e, if_neg (by omega), if_pos h]
    rfl
  · rw [WireM.raw_ok t 8 (by omega), if_neg h]
    unfold endOf
    simp only [if_true]
    have hz : (t.extract 8 t.size).size = t.size - 8 := by simp
    rw [hz]
    by_cases h8 : t.size = 8
    · rw [if_pos (by omega), if_pos h8]
    · rw [if_neg (by omega), if_neg h8]
theorem val_of (t : ByteArray) (h : t.size = 8) : WireM.val (nl (WireM.raw 0 t (8 : Nat)).1) = WireM.val (nl t) := by
  rw [WireM.raw_ok t 8 (by omega)]
  congr 1
  show nl (t.extract 0 8) = nl t
  rw [nl_extract, List.drop_zero, List.take_of_length_le (by rw [nl_length]; omega)]
theorem rd_fresh {w w' : World} {S : Nat → Prop} (h : Kq.Keeps S w w') (hS : ∀ k, S k → w.heap.size ≤ k) (B : Nat) (hB : B ≤ w.heap.size) : Below B w w' :=
  h.below hB (fun k _ hk => Nat.le_trans hB (hS k hk))
def SeqPost (w : World) (s : ByteArray) (x : Ending) (w' : World) : Prop :=
  x = .returned (.tuple #[.int .u64 (((seqOf s).getD 0 : Nat) : Int), .bool (seqOf s).isSome]) ∧ Below w.heap.size w w'
set_option maxRecDepth 100000 in
set_option maxHeartbeats 2000000 in
theorem pk_sequence (s : ByteArray) (w : World) (hs : s.size ≤ maxLen) :
    Calls Tryd.prog 19 #[.string s] w (SeqPost w s) := by
  by_cases h0 : s.size = 0
  · have he : s.toList = [] := by
      rw [Lib.toList_data]
      exact List.eq_nil_of_length_eq_zero (by simpa using h0)
    have hq : seqOf s = none := by unfold seqOf; rw [if_neg (by omega)]
    unfold SeqPost
    rw [hq]
    go_enter Tryd.func19, Tryd.ntmps19
    go_wp2
    go_ret2
    exact ⟨rfl, Below.refl _ _⟩
  have hp : 0 < s.size := by omega
  have he : s.toList.isEmpty = false := by
    rw [Lib.toList_data]
    cases hl : s.data.toList with
    | nil => exact absurd (by rw [← ByteArray.size_data, ← Array.length_toList, hl]; rfl) h0
    | cons a l => rfl
  have he2 : ¬ s.toList = [] := by
    intro h
    rw [h] at he
    cases he
  have hsz : ((s.extract 1 s.size).size : Nat) = s.size - 1 := by simp
  obtain ⟨lb, hlb⟩ : ∃ lb, letterB ((nl s).headD 0) = lb := ⟨_, rfl⟩
  have HCT := Lib.hid (contains_letter s hp)
  rw [hlb] at HCT
  have HLB := Lib.hid hlb
  have HE2 := Lib.hid he2
  clear hlb he2
  cases lb with
  | false =>
    have hq : seqOf s = none := by unfold seqOf; rw [if_neg (by rw [HLB.out]; simp)]
    unfold SeqPost
    rw [hq]
    clear hsz
    go_enter Tryd.func19, Tryd.ntmps19
    go_wp2_with fail
    refine (HCT.out _).mono ?_
    rintro x w2 ⟨rfl, rfl⟩
    go_wp2
    go_ret2
    exact ⟨rfl, Below.refl _ _⟩
  | true =>
    have HS := Lib.hid hs
    unfold maxLen at hs
    obtain ⟨t, ht⟩ : ∃ t, t = s.extract 1 s.size := ⟨_, rfl⟩
    have hen := end_of t
    have htl : nl t = (nl s).drop 1 := by
      rw [ht, nl_extract, List.take_of_length_le (by rw [List.length_drop, nl_length]; exact Nat.le_refl _)]
    have htz : t.size = s.size - 1 := by rw [ht]; exact hsz
    by_cases h9 : s.size = 9
    · have hq : seqOf s = some (WireM.val (nl t)) := by unfold seqOf; rw [if_pos ⟨h9, HLB.out⟩, htl]
      have hv := val_of t (by omega)
      rw [if_pos (by omega)] at hen
      have HT := Lib.hid (And.intro ht (And.intro htz (And.intro hen (And.intro hv htl))))
      clear ht htz hen hv htl hsz h9
      unfold SeqPost
      rw [hq]
      clear hq
      go_enter Tryd.func19, Tryd.ntmps19
      go_wp2_with fail
      refine (HCT.out _).mono ?_
      rintro x w2 ⟨rfl, rfl⟩
      go_wp2_with fail
      rw [← HT.out.1]
      refine (rd_new t _).mono ?_
      rintro x w3 ⟨rfl, R3, b3⟩
      have HR := Lib.hid R3
      have HB := Lib.hid b3
      clear R3 b3
      go_wp2_with fail
      refine (rd_number _ 0 t _ HR.out (by have := HT.out.2.1; unfold maxLen; omega)).mono ?_
      rintro x w4 ⟨rfl, R4, K4⟩
      have H4 := Lib.hid (And.intro R4 (HB.out.trans (K4.below HB.out.size (fun k _ e => by subst e; exact Nat.le_refl _))))
      clear R4 K4 HR HB
      rw [HT.out.2.2.2.1]
      have hrd := rd_end w.heap.size _ _ _ H4.out.1
      rw [HT.out.2.2.1] at hrd
      have HRD := Lib.hid hrd
      clear hrd
      go_wp2_with fail
      refine HRD.out.mono ?_
      rintro x w5 ⟨rfl, rfl⟩
      go_wp2
      go_ret2
      exact ⟨rfl, H4.out.2⟩
    · have hq : seqOf s = none := by unfold seqOf; rw [if_neg (by omega)]
      rw [if_neg (by omega)] at hen
      obtain ⟨en, hne, hen2⟩ : ∃ en, (en != 0) = true ∧ endOf (WireM.raw 0 t (8 : Nat)).2.1 (WireM.raw 0 t (8 : Nat)).2.2 = en := by
        rw [hen]; refine ⟨_, ?_, rfl⟩; split <;> rfl
      have HT := Lib.hid (And.intro ht (And.intro htz hen2))
      clear ht htz hen hen2 htl hsz h9
      unfold SeqPost
      rw [hq]
      clear hq
      go_enter Tryd.func19, Tryd.ntmps19
      go_wp2_with fail
      refine (HCT.out _).mono ?_
      rintro x w2 ⟨rfl, rfl⟩
      go_wp2_with fail
      rw [← HT.out.1]
      refine (rd_new t _).mono ?_
      rintro x w3 ⟨rfl, R3, b3⟩
      have HR := Lib.hid R3
      have HB := Lib.hid b3
      clear R3 b3
      go_wp2_with fail
      refine (rd_number _ 0 t _ HR.out (by have := HT.out.2.1; unfold maxLen; omega)).mono ?_
      rintro x w4 ⟨rfl, R4, K4⟩
      have H4 := Lib.hid (And.intro R4 (HB.out.trans (K4.below HB.out.size (fun k _ e => by subst e; exact Nat.le_refl _))))
      clear R4 K4 HR HB
      have hrd := rd_end w.heap.size _ _ _ H4.out.1
      rw [HT.out.2.2] at hrd
      have HRD := Lib.hid hrd
      clear hrd
      generalize WireM.val (nl (WireM.raw 0 t ((8 : Nat) : Int)).1) = vv at *
      go_wp2_with fail
      refine HRD.out.mono ?_
      rintro x w5 ⟨rfl, rfl⟩
      go_wp2
      go_ret2
      exact ⟨rfl, H4.out.2⟩
end Go.Proofs.YtclepgpaifaneaaDoor
namespace Go.Proofs.YtclepgpaifaneaaDoor
open Go.RowKit
set_option linter.unusedVariables false
/-- a packet -/
structure PkV where
  f : Int
  q : Int
  t : Int
  d : ByteArray
def PkV.val (p : PkV) : Value := .agg #[.int .i64 p.f, .int .u64 p.q, .int .u64 p.t, .string p.d]
def PkOk (p : PkV) : Prop := 0 ≤ p.f ∧ p.f ≤ 1 ∧ p.q ≠ 0 ∧ p.t ≠ 0 ∧ p.d.size ≤ 64
instance (p : PkV) : Decidable (PkOk p) := by unfold PkOk; infer_instance
set_option maxRecDepth 100000 in
set_option maxHeartbeats 1000000 in
theorem pk_check_ok (f q t : Int) (d : ByteArray) (w : World) (h : PkOk ⟨f, q, t, d⟩) :
    Calls Tryd.prog 8 #[.agg #[.int .i64 f, .int .u64 q, .int .u64 t, .string d]] w fun x w' => x = .returned (.int .i64 0) ∧ Below w.heap.size w w' := by
  obtain ⟨h1, h2, h3, h4, h5⟩ := h
  simp only at h1 h2 h3 h4 h5
  have e1 : decide (f < 0) = false := decide_eq_false (by omega)
  have e2 : decide (1 < f) = false := decide_eq_false (by omega)
  have e3 : (q == 0) = false := by simpa using h3
  have e4 : (t == 0) = false := by simpa using h4
  have e5 : decide (64 < (d.size : Int)) = false := decide_eq_false (by omega)
  clear h3 h4
  go_enter Tryd.func8, Tryd.ntmps8
  go_wp2
  go_ret
  exact ⟨rfl, Kq.below_alloc _ _⟩
set_option maxRecDepth 100000 in
set_option maxHeartbeats 1000000 in
theorem pk_check_bad (f q t : Int) (d : ByteArray) (w : World) (h : ¬ PkOk ⟨f, q, t, d⟩) :
    Calls Tryd.prog 8 #[.agg #[.int .i64 f, .int .u64 q, .int .u64 t, .string d]] w fun x w' => x = .returned (.int .i64 1) ∧ Below w.heap.size w w' := by
  have H := Lib.hid h
  clear h
  by_cases h1 : f < 0
  · have e1 : decide (f < 0) = true := decide_eq_true h1
    go_enter Tryd.func8, Tryd.ntmps8
    go_wp2
    go_ret
    exact ⟨rfl, Kq.below_alloc _ _⟩
  have e1 : decide (f < 0) = false := decide_eq_false h1
  by_cases h2 : 1 < f
  · have e2 : decide (1 < f) = true := decide_eq_true h2
    go_enter Tryd.func8, Tryd.ntmps8
    go_wp2
    go_ret
    exact ⟨rfl, Kq.below_alloc _ _⟩
  have e2 : decide (1 < f) = false := decide_eq_false h2
  by_cases h3 : q = 0
  · subst h3
    go_enter Tryd.func8, Tryd.ntmps8
    go_wp2
    go_ret
    exact ⟨rfl, Kq.below_alloc _ _⟩
  have e3 : (q == 0) = false := by simpa using h3
  by_cases h4 : t = 0
  · subst h4
    clear h3
    go_enter Tryd.func8, Tryd.ntmps8
    go_wp2
    go_ret
    exact ⟨rfl, Kq.below_alloc _ _⟩
  have e4 : (t == 0) = false := by simpa using h4
  have h5 : 64 < d.size := by
    refine Nat.lt_of_not_le fun h5 => H.out ⟨by show 0 ≤ f; omega, by show f ≤ 1; omega, h3, h4, h5⟩
  have e5 : decide (64 < (d.size : Int)) = true := decide_eq_true (by omega)
  clear h3 h4
  go_enter Tryd.func8, Tryd.ntmps8
  go_wp2
  go_ret
  exact ⟨rfl, Kq.below_alloc _ _⟩
end Go.Proofs.YtclepgpaifaneaaDoor
namespace Go.Proofs.YtclepgpaifaneaaDoor
open Go.RowKit
set_option linter.unusedVariables false
theorem seqOf_key (c n : Nat) (hc : c < 256) (hl : letterB c = true) (hn : n < M64) : seqOf (keyT c n) = some n := by
  unfold seqOf
  rw [keyT_nl c n hc, if_pos ⟨keyT_size c n, hl⟩, List.drop_succ_cons, List.drop_zero, val_num8 n hn]
theorem key_258 : keyT 99 258 = ⟨#[99, 0, 0, 0, 0, 0, 0, 1, 2]⟩ := by rfl
set_option maxRecDepth 100000 in
set_option maxHeartbeats 1000000 in
theorem awake (w : World) : Calls Tryd.prog 4 #[] w fun x w' => x = .returned (.bool true) ∧ Below w.heap.size w w' := by
  have HS := Lib.hid (seqOf_key 99 258 (by decide) rfl (by unfold M64; decide))
  go_enter Tryd.func4, Tryd.ntmps4
  go_wp2_with fail
  refine (pk_sent 258 _ (by unfold M64; decide)).mono ?_
  rintro x w2 ⟨rfl, b2⟩
  have H2 := Lib.hid b2
  clear b2
  go_wp2_with fail
  refine (pk_sequence (keyT 99 258) _ (by rw [keyT_size]; decide)).mono ?_
  intro x w3 hp
  unfold SeqPost at hp
  rw [HS.out] at hp
  obtain ⟨rfl, b3⟩ := hp
  have H3 := Lib.hid (H2.out.trans (b3.mono H2.out.size))
  clear b3
  go_wp2_with fail
  refine (pk_sent 258 _ (by unfold M64; decide)).mono ?_
  rintro x w4 ⟨rfl, b4⟩
  have H4 := Lib.hid (H3.out.trans (b4.mono H3.out.size))
  clear b4
  rw [key_258]
  go_wp2_with fail
  refine (pk_check_bad 0 0 0 ⟨#[]⟩ _ (fun h => absurd h.2.2.1 (by simp))).mono ?_
  rintro x w5 ⟨rfl, b5⟩
  have H5 := Lib.hid (H4.out.trans (b5.mono H4.out.size))
  clear b5
  go_wp2
  go_ret
  exact ⟨rfl, H5.out⟩
end Go.Proofs.YtclepgpaifaneaaDoor
