/- Merged: NtRd, NtPlR, NtRdX, NtCutP. A reader with what is left as a list: Byte, Number, Get, End, Err on the good way. Condition: lengths are ints. Contract of note.Place on a place's own bytes. Condition: what stands there. A reader that has only a beginning of a list left, or none any more: Byte, Number, Get, End, Err, Fail. Condition: lengths are ints. Contract of note.Place on a beginning of a place's own bytes, and of what is behind. Condition: what stands there. -/
import Derived.WalkSpells
import Derived.Test.YtkbiolhcpghmkaaPkCutQ
import Derived.Test.YtkbiolhcpghmkaaCommonQ
import Derived.Test.YtkbiolhcpghmkaaBetwQ
namespace Go.Proofs.Ytkbiolhcpghmkaa
open Go.RowKit
set_option linter.unusedVariables false
/-- a reader that remembers nothing, with l left -/
def RdL (w : World) (B : Nat) (l : List Nat) : Prop := ∃ s, Rd w B 0 s ∧ nl s = l ∧ l.length ≤ 1000000
def LPost (w : World) (B : Nat) (v : Value) (rest : List Nat) (x : Ending) (w' : World) : Prop := x = .returned v ∧ RdL w' B rest ∧ Kq.Keeps (· = B) w w'
theorem RdL.keeps {w w' : World} {B : Nat} {l : List Nat} {S : Nat → Prop} (h : RdL w B l) (hk : Kq.Keeps S w w') (hS : ¬ S B) : RdL w' B l := by
  obtain ⟨s, h1, h2, h3⟩ := h
  exact ⟨s, h1.later hk hS, h2, h3⟩
theorem RdL.below {w w' : World} {B : Nat} {l : List Nat} (h : RdL w B l) (hb : Below w.heap.size w w') : RdL w' B l :=
  h.keeps (Kq.Keeps.of_below (S := fun _ => False) hb (fun k h1 h2 => absurd h1 (Nat.not_le.2 h2))) id
theorem RdL.lt {w : World} {B : Nat} {l : List Nat} (h : RdL w B l) : B < w.heap.size := by
  obtain ⟨s, h1, _⟩ := h
  exact Kq.blk_lt h1
theorem rl_size {s : ByteArray} {l : List Nat} (h : nl s = l) (hl : l.length ≤ 1000000) : s.size ≤ 1000000 := by rw [← nl_length, h]; exact hl
theorem raw_list {s : ByteArray} {a b : List Nat} (h : nl s = a ++ b) : nl (WireM.raw 0 s (a.length : Nat)).1 = a ∧ (WireM.raw 0 s (a.length : Nat)).2.1 = 0 ∧ nl (WireM.raw 0 s (a.length : Nat)).2.2 = b := by
  have hs : s.size = a.length + b.length := by rw [← nl_length, h, List.length_append]
  rw [WireM.raw_ok s a.length (by omega)]
  refine ⟨?_, rfl, ?_⟩
  · show nl (s.extract 0 a.length) = a
    rw [nl_extract, h, List.drop_zero, Nat.sub_zero, List.take_left]
  · show nl (s.extract a.length s.size) = b
    rw [nl_extract, h, List.drop_left, hs]
    exact List.take_of_length_le (by omega)
theorem rl_byte (B b : Nat) (rest : List Nat) (w : World) (h : RdL w B ([b] ++ rest)) : Calls Try.prog 54 #[.pointer (some ⟨B, 0, none⟩)] w (LPost w B (.int .i64 (b : Int)) rest) := by
  obtain ⟨s, h1, h2, h3⟩ := h
  have hsz := rl_size h2 h3
  refine (rd_byte B 0 s w h1 (by unfold maxLen; omega)).mono ?_
  rintro x w' ⟨rfl, R, K⟩
  obtain ⟨g1, g2, g3⟩ := raw_list h2
  refine ⟨?_, ⟨_, ?_, g3, ?_⟩, K⟩
  · rw [show ((1 : Nat) : Int) = (([b].length : Nat) : Int) from rfl, g1, val_one]
  · have R' := R
    rw [show (WireM.raw 0 s ((1 : Nat) : Int)).2.1 = 0 from g2] at R'
    exact R'
  · simp only [List.length_append, List.length_cons, List.length_nil] at h3; omega
theorem num8_len (n : Nat) : (num8 n).length = 8 := rfl
theorem rl_number (B n : Nat) (rest : List Nat) (w : World) (h : RdL w B (num8 n ++ rest)) (hn : n < M64) : Calls Try.prog 69 #[.pointer (some ⟨B, 0, none⟩)] w (LPost w B (.int .u64 (n : Int)) rest) := by
  obtain ⟨s, h1, h2, h3⟩ := h
  have hsz := rl_size h2 h3
  refine (rd_number B 0 s w h1 (by unfold maxLen; omega)).mono ?_
  rintro x w' ⟨rfl, R, K⟩
  obtain ⟨g1, g2, g3⟩ := raw_list h2
  refine ⟨?_, ⟨_, ?_, g3, ?_⟩, K⟩
  · rw [show ((8 : Nat) : Int) = (((num8 n).length : Nat) : Int) from rfl, g1, val_num8 n hn]
  · have R' := R
    rw [show (WireM.raw 0 s ((8 : Nat) : Int)).2.1 = 0 from g2] at R'
    exact R'
  · rw [List.length_append] at h3; omega
theorem get_rest (p : PkV) (hok : PkOk p) (hq : 0 ≤ p.q ∧ p.q < 18446744073709551616) (ht : 0 ≤ p.t ∧ p.t < 18446744073709551616) (s : ByteArray) (rest : List Nat) (hs : nl s = encP p ++ rest) :
    (getOf 0 s).1 = p ∧ (getOf 0 s).2.1 = 0 ∧ nl (getOf 0 s).2.2 = rest := by
  have hr : ∀ b ∈ rest, b < 256 := fun b hb => nl_lt s b (by rw [hs]; exact List.mem_append.2 (Or.inr hb))
  have hm : nl s = encP p ++ nl (txt rest) := by rw [nl_txt rest hr]; exact hs
  have h1 := get_whole p hok hq ht s (txt rest) hm
  obtain ⟨h1a, h1b⟩ := h1
  rw [h1a]
  refine ⟨rfl, rfl, ?_⟩
  show nl (gX 0 s).2.2 = rest
  obtain ⟨k1, k2, k3, k4, k5⟩ := encP_take p rest
  rw [← hs] at k1 k2 k3 k4 k5
  have hl : (nl s).length = 19 + p.d.size + rest.length := by rw [hs, List.length_append, encP_len]
  have hv : WireM.val (((nl s).drop 17).take 2) = p.d.size := by rw [k4, val_hi2]
  obtain ⟨g1, g2, g3, g4⟩ := get_all s (by rw [hv]; omega)
  rw [hv] at g4
  unfold Between at g4
  rw [g4, List.take_length, hs, ← encP_len p, List.drop_left]
theorem rl_get (B : Nat) (p : PkV) (hok : PkOk p) (hq : 0 ≤ p.q ∧ p.q < 18446744073709551616) (ht : 0 ≤ p.t ∧ p.t < 18446744073709551616) (rest : List Nat) (w : World) (h : RdL w B (encP p ++ rest)) :
    Calls Try.prog 90 #[.pointer (some ⟨B, 0, none⟩)] w (LPost w B (.agg #[.int .i64 p.f, .int .u64 p.q, .int .u64 p.t, .string p.d]) rest) := by
  obtain ⟨s, h1, h2, h3⟩ := h
  have hsz := rl_size h2 h3
  refine (pk_get B 0 s w h1 (by unfold maxLen; omega)).mono ?_
  rintro x w' ⟨rfl, R, K⟩
  obtain ⟨g1, g2, g3⟩ := get_rest p hok hq ht s rest h2
  refine ⟨by rw [g1]; rfl, ⟨_, ?_, g3, ?_⟩, K⟩
  · have R' := R
    rw [show (getOf 0 s).2.1 = 0 from g2] at R'
    exact R'
  · rw [List.length_append] at h3; omega
theorem rl_err (B : Nat) (l : List Nat) (w : World) (h : RdL w B l) : Calls Try.prog 41 #[.pointer (some ⟨B, 0, none⟩)] w fun x w' => x = .returned (.int .i64 0) ∧ w = w' := by
  obtain ⟨s, h1, _⟩ := h
  exact mem_err B 0 w h1.c0
theorem rl_end (B : Nat) (w : World) (h : RdL w B []) : Calls Try.prog 31 #[.pointer (some ⟨B, 0, none⟩)] w fun x w' => x = .returned (.int .i64 0) ∧ w = w' := by
  obtain ⟨s, h1, h2, _⟩ := h
  have h0 : s.size = 0 := by rw [← nl_length, h2]; rfl
  refine (rd_end B 0 s w h1).mono ?_
  rintro x w' ⟨rfl, rfl⟩
  refine ⟨?_, rfl⟩
  unfold endOf
  rw [if_pos rfl, if_pos h0]
theorem rl_new (l : List Nat) (w : World) (hl : ∀ b ∈ l, b < 256) (hn : l.length ≤ 1000000) : Calls Try.prog 29 #[.string (txt l)] w fun x w' => x = .returned (.pointer (some ⟨w.heap.size, 0, none⟩)) ∧ RdL w' w.heap.size l ∧ Below w.heap.size w w' := by
  refine (rd_new (txt l) w).mono ?_
  rintro x w' ⟨rfl, R, hb⟩
  exact ⟨rfl, ⟨_, R, nl_txt l hl, hn⟩, hb⟩
end Go.Proofs.Ytkbiolhcpghmkaa
namespace Go.Proofs.Ytkbiolhcpghmkaa
open Go.RowKit
set_option linter.unusedVariables false
set_option maxRecDepth 100000 in
set_option maxHeartbeats 2000000 in
theorem nt_place_read (B a i : Nat) (rest : List Nat) (w : World) (h : RdL w B (num8 a ++ (num8 i ++ rest))) (ha : a < 18446744073709551616) (hi : i ≤ 65535) :
    Calls Try.prog 55 #[.pointer (some ⟨B, 0, none⟩)] w (LPost w B (.agg #[.int .u64 (a : Int), .int .i64 (i : Int)]) rest) := by
  have hb := Kq.below_alloc w (.cells #[.int .u64 0, .int .i64 0] 28)
  have H : Hid (RdL (w.alloc (.cells #[.int .u64 0, .int .i64 0] 28)) B (num8 a ++ (num8 i ++ rest)) ∧ QB (w.alloc (.cells #[.int .u64 0, .int .i64 0] 28)) w.heap.size 0 0 ∧ Below w.heap.size w (w.alloc (.cells #[.int .u64 0, .int .i64 0] 28)) ∧ B < w.heap.size) := Lib.hid ⟨h.below hb, ⟨Kq.blk_new _ _ _ _⟩, hb, h.lt⟩
  have HA := Lib.hid (And.intro ha hi)
  have d1 : decide ((65535 : Int) < (i : Int)) = false := decide_eq_false (by omega)
  have hw1 : IntKind.i64.wrap (i : Int) = (i : Int) := IntWalk.i64_in _ (by omega)
  clear h ha hi hb
  go_enter Try.func55, Try.ntmps55
  go_wp2_with fail
  refine (rl_number B a _ _ H.out.1 (by have := HA.out.1; unfold M64; omega)).mono ?_
  rintro x w1 ⟨rfl, R1, K1⟩
  have H1 : Hid (RdL w1 B (num8 i ++ rest) ∧ QB w1 w.heap.size 0 0 ∧ Kq.Keeps (· = B) w w1 ∧ B < w.heap.size) := Lib.hid ⟨R1, H.out.2.1.later K1 (fun e => by have := H.out.2.2.2; omega), (Kq.Keeps.of_below H.out.2.2.1 (fun k h1 h2 => absurd h2 (Nat.not_lt.2 h1))).trans K1, H.out.2.2.2⟩
  clear R1 K1 H
  go_wp2_with fail
  refine (rl_number B i _ _ H1.out.1 (by have := HA.out.2; unfold M64; omega)).mono ?_
  rintro x w2 ⟨rfl, R2, K2⟩
  have H2 : Hid (RdL w2 B rest ∧ QB w2 w.heap.size 0 0 ∧ Kq.Keeps (· = B) w w2 ∧ B < w.heap.size) := Lib.hid ⟨R2, H1.out.2.1.later K2 (fun e => by have := H1.out.2.2.2; omega), H1.out.2.2.1.trans K2, H1.out.2.2.2⟩
  clear R2 K2 H1
  go_wp2_with fail
  refine (rl_err B _ w2 H2.out.1).mono ?_
  rintro x w3 ⟨rfl, rfl⟩
  have c0 := H2.out.2.1.c0
  have c1 := H2.out.2.1.c1
  have f0 := Kq.blk_free H2.out.2.1.blk 0
  have f1 := Kq.blk_free H2.out.2.1.blk 1
  go_wp2
  have HZ : Hid (LPost w B (.agg #[.int .u64 (a : Int), .int .i64 (i : Int)]) rest (.returned (.agg #[.int .u64 (a : Int), .int .i64 (i : Int)])) ((w2.setCell ⟨w.heap.size, 0, none⟩ (.int .u64 (a : Int))).setCell ⟨w.heap.size, 1, none⟩ (.int .i64 (i : Int))) ∧ QB ((w2.setCell ⟨w.heap.size, 0, none⟩ (.int .u64 (a : Int))).setCell ⟨w.heap.size, 1, none⟩ (.int .i64 (i : Int))) w.heap.size a i) := Lib.hid (by
    have k1 : Kq.Keeps (· = w.heap.size) w2 ((w2.setCell ⟨w.heap.size, 0, none⟩ (.int .u64 (a : Int))).setCell ⟨w.heap.size, 1, none⟩ (.int .i64 (i : Int))) := (Kq.Keeps.setCell (S := (· = w.heap.size)) w2 ⟨w.heap.size, 0, none⟩ _ rfl).trans (Kq.Keeps.setCell _ ⟨w.heap.size, 1, none⟩ _ rfl)
    have k0 := H2.out.2.2.1
    refine ⟨⟨rfl, H2.out.1.keeps k1 (fun e => by have := H2.out.2.2.2; omega), ?_⟩, ⟨Kq.blk_set (Kq.blk_set H2.out.2.1.blk 0 _) 1 _⟩⟩
    exact ⟨k1.os.trans k0.os, k1.tape.trans k0.tape, k1.output.trans k0.output, Nat.le_trans k0.size k1.size, fun g hg hn => by rw [k1.block g (Nat.lt_of_lt_of_le hg k0.size) (Nat.ne_of_lt hg), k0.block g hg hn]⟩)
  generalize (w2.setCell ⟨w.heap.size, 0, none⟩ (.int .u64 (a : Int))).setCell ⟨w.heap.size, 1, none⟩ (.int .i64 (i : Int)) = wl at *
  have r0 := HZ.out.2.c0
  have r1 := HZ.out.2.c1
  refine bodyPost_ret (v := .agg #[.int .u64 (a : Int), .int .i64 (i : Int)]) (by simp [results, Try.results55, go_sem, r0, r1]) rfl ?_
  exact HZ.out.1
end Go.Proofs.Ytkbiolhcpghmkaa
namespace Go.Proofs.Ytkbiolhcpghmkaa
open Go.RowKit
set_option linter.unusedVariables false
/-- a reader that remembers ErrShort -/
def RdS (w : World) (B : Nat) : Prop := ∃ s, Rd w B 6 s ∧ s.size ≤ 1000000
/-- a reader with a proper beginning of l left -/
def RdB (w : World) (B : Nat) (l : List Nat) : Prop := ∃ n, n < l.length ∧ RdL w B (l.take n)
theorem RdS.keeps {w w' : World} {B : Nat} {S : Nat → Prop} (h : RdS w B) (hk : Kq.Keeps S w w') (hS : ¬ S B) : RdS w' B := by
  obtain ⟨s, h1, h2⟩ := h
  exact ⟨s, h1.later hk hS, h2⟩
theorem RdS.below {w w' : World} {B : Nat} (h : RdS w B) (hb : Below w.heap.size w w') : RdS w' B :=
  h.keeps (Kq.Keeps.of_below (S := fun _ => False) hb (fun k h1 h2 => absurd h1 (Nat.not_le.2 h2))) id
theorem RdS.lt {w : World} {B : Nat} (h : RdS w B) : B < w.heap.size := by
  obtain ⟨s, h1, _⟩ := h
  exact Kq.blk_lt h1
theorem RdB.keeps {w w' : World} {B : Nat} {l : List Nat} {S : Nat → Prop} (h : RdB w B l) (hk : Kq.Keeps S w w') (hS : ¬ S B) : RdB w' B l := by
  obtain ⟨n, h1, h2⟩ := h
  exact ⟨n, h1, h2.keeps hk hS⟩
theorem RdB.below {w w' : World} {B : Nat} {l : List Nat} (h : RdB w B l) (hb : Below w.heap.size w w') : RdB w' B l :=
  h.keeps (Kq.Keeps.of_below (S := fun _ => False) hb (fun k h1 h2 => absurd h1 (Nat.not_le.2 h2))) id
theorem RdB.lt {w : World} {B : Nat} {l : List Nat} (h : RdB w B l) : B < w.heap.size := by
  obtain ⟨n, h1, h2⟩ := h
  exact h2.lt
theorem RdB.nil {w : World} {B : Nat} (h : RdB w B []) : False := by
  obtain ⟨n, h1, _⟩ := h
  exact absurd h1 (Nat.not_lt_zero _)
theorem RdB.part {w : World} {B : Nat} {a b : List Nat} (h : RdB w B (a ++ b)) : (∃ n, n < b.length ∧ RdL w B (a ++ b.take n)) ∨ (∃ n, n < a.length ∧ RdL w B (a.take n)) := by
  obtain ⟨n, h1, h2⟩ := h
  rw [List.length_append] at h1
  rw [List.take_append] at h2
  by_cases hn : n < a.length
  · rw [show n - a.length = 0 by omega, List.take_zero, List.append_nil] at h2
    exact Or.inr ⟨n, hn, h2⟩
  · rw [List.take_of_length_le (by omega)] at h2
    exact Or.inl ⟨n - a.length, by omega, h2⟩
/-- what a read tells -/
def XP (w : World) (B : Nat) (V : Nat → Value) (b : Nat) (rest : List Nat) (x : Ending) (w' : World) : Prop := ∃ k, x = .returned (V k) ∧ Kq.Keeps (· = B) w w' ∧ ((k = b ∧ RdB w' B rest) ∨ (k = 0 ∧ RdS w' B))
theorem raw6 (s : ByteArray) (n : Int) : WireM.raw 6 s n = (⟨#[]⟩, 6, s) := WireM.raw_stuck 6 s n (by decide)
theorem raw_few (s : ByteArray) (n : Nat) (h : s.size < n) : WireM.raw 0 s (n : Int) = (⟨#[]⟩, 6, s) := by
  rw [WireM.raw_bad 0 s n (Or.inr (by omega)), if_pos rfl]
theorem nl_none : nl ⟨#[]⟩ = [] := rfl
theorem xs_byte (B : Nat) (w : World) (h : RdS w B) : Calls Try.prog 54 #[.pointer (some ⟨B, 0, none⟩)] w fun x w' => x = .returned (.int .i64 0) ∧ Kq.Keeps (· = B) w w' ∧ RdS w' B := by
  obtain ⟨s, h1, h2⟩ := h
  refine (rd_byte B 6 s w h1 (by unfold maxLen; omega)).mono ?_
  rintro x w' ⟨rfl, R, K⟩
  rw [raw6] at R ⊢
  exact ⟨rfl, K, s, R, h2⟩
theorem xs_number (B : Nat) (w : World) (h : RdS w B) : Calls Try.prog 69 #[.pointer (some ⟨B, 0, none⟩)] w fun x w' => x = .returned (.int .u64 0) ∧ Kq.Keeps (· = B) w w' ∧ RdS w' B := by
  obtain ⟨s, h1, h2⟩ := h
  refine (rd_number B 6 s w h1 (by unfold maxLen; omega)).mono ?_
  rintro x w' ⟨rfl, R, K⟩
  rw [raw6] at R ⊢
  exact ⟨rfl, K, s, R, h2⟩
theorem getOf6 (s : ByteArray) : getOf 6 s = (PkV.zero, 6, s) := by
  have hA : gA 6 s = (⟨#[]⟩, 6, s) := raw6 s _
  have hB : gB 6 s = (⟨#[]⟩, 6, s) := by unfold gB; rw [hA]; exact raw6 s _
  have hC : gC 6 s = (⟨#[]⟩, 6, s) := by unfold gC; rw [hB]; exact raw6 s _
  have hD : gD 6 s = (⟨#[]⟩, 6, s) := by unfold gD; rw [hC]; exact raw6 s _
  have hX : gX 6 s = (⟨#[]⟩, 6, s) := by unfold gX; rw [hD]; exact raw6 s _
  have h6 : (gX 6 s).2.1 = 6 := by rw [hX]
  unfold getOf
  rw [h6, if_neg (by decide), hX]
theorem xs_get (B : Nat) (w : World) (h : RdS w B) : Calls Try.prog 90 #[.pointer (some ⟨B, 0, none⟩)] w fun x w' => x = .returned PkV.zero.val ∧ Kq.Keeps (· = B) w w' ∧ RdS w' B := by
  obtain ⟨s, h1, h2⟩ := h
  refine (pk_get B 6 s w h1 (by unfold maxLen; omega)).mono ?_
  rintro x w' ⟨rfl, R, K⟩
  rw [getOf6] at R ⊢
  exact ⟨rfl, K, s, R, h2⟩
theorem xs_err (B : Nat) (w : World) (h : RdS w B) : Calls Try.prog 41 #[.pointer (some ⟨B, 0, none⟩)] w fun x w' => x = .returned (.int .i64 6) ∧ w = w' := by
  obtain ⟨s, h1, _⟩ := h
  exact mem_err B 6 w h1.c0
theorem xs_fail (B : Nat) (f : Int) (w : World) (h : RdS w B) : Calls Try.prog 34 #[.pointer (some ⟨B, 0, none⟩), .int .i64 f] w fun x w' => x = .returned (.tuple #[]) ∧ w = w' := by
  obtain ⟨s, h1, _⟩ := h
  refine (mem_fail_no B 6 f w h1.c0 (by decide)).mono ?_
  rintro x w' ⟨rfl, rfl⟩
  exact ⟨rfl, rfl⟩
theorem xs_end (B : Nat) (w : World) (h : RdS w B) : Calls Try.prog 31 #[.pointer (some ⟨B, 0, none⟩)] w fun x w' => x = .returned (.int .i64 6) ∧ w = w' := by
  obtain ⟨s, h1, _⟩ := h
  exact rd_end B 6 s w h1
theorem xb_byte (B b : Nat) (rest : List Nat) (w : World) (h : RdB w B ([b] ++ rest)) : Calls Try.prog 54 #[.pointer (some ⟨B, 0, none⟩)] w (XP w B (fun k => .int .i64 (k : Int)) b rest) := by
  rcases h.part with ⟨n, hn, R⟩ | ⟨n, hn, R⟩
  · refine (rl_byte B b _ w R).mono ?_
    rintro x w' ⟨rfl, R', K⟩
    exact ⟨b, rfl, K, Or.inl ⟨rfl, n, hn, R'⟩⟩
  · obtain ⟨s, h1, h2, h3⟩ := R
    have hs := rl_size h2 h3
    have hz : s.size < 1 := by
      have e1 : [b].length = 1 := rfl
      rw [← nl_length, h2, List.length_take]; omega
    refine (rd_byte B 0 s w h1 (by unfold maxLen; omega)).mono ?_
    rintro x w' ⟨rfl, R', K⟩
    rw [raw_few s 1 hz] at R' ⊢
    exact ⟨0, rfl, K, Or.inr ⟨rfl, s, R', hs⟩⟩
theorem xb_number (B n : Nat) (rest : List Nat) (w : World) (h : RdB w B (num8 n ++ rest)) (hn : n < M64) : Calls Try.prog 69 #[.pointer (some ⟨B, 0, none⟩)] w (XP w B (fun k => .int .u64 (k : Int)) n rest) := by
  rcases h.part with ⟨m, hm, R⟩ | ⟨m, hm, R⟩
  · refine (rl_number B n _ w R hn).mono ?_
    rintro x w' ⟨rfl, R', K⟩
    exact ⟨n, rfl, K, Or.inl ⟨rfl, m, hm, R'⟩⟩
  · obtain ⟨s, h1, h2, h3⟩ := R
    have hs := rl_size h2 h3
    have hz : s.size < 8 := by rw [← nl_length, h2, List.length_take]; rw [num8_len] at hm ⊢; omega
    refine (rd_number B 0 s w h1 (by unfold maxLen; omega)).mono ?_
    rintro x w' ⟨rfl, R', K⟩
    rw [raw_few s 8 hz] at R' ⊢
    exact ⟨0, rfl, K, Or.inr ⟨rfl, s, R', hs⟩⟩
theorem xb_get (B : Nat) (p : PkV) (hok : PkOk p) (hq : 0 ≤ p.q ∧ p.q < 18446744073709551616) (ht : 0 ≤ p.t ∧ p.t < 18446744073709551616) (rest : List Nat) (w : World) (h : RdB w B (encP p ++ rest)) :
    Calls Try.prog 90 #[.pointer (some ⟨B, 0, none⟩)] w fun x w' => Kq.Keeps (· = B) w w' ∧ ((x = .returned (.agg #[.int .i64 p.f, .int .u64 p.q, .int .u64 p.t, .string p.d]) ∧ RdB w' B rest) ∨ (x = .returned PkV.zero.val ∧ RdS w' B)) := by
  rcases h.part with ⟨m, hm, R⟩ | ⟨m, hm, R⟩
  · refine (rl_get B p hok hq ht _ w R).mono ?_
    rintro x w' ⟨rfl, R', K⟩
    exact ⟨K, Or.inl ⟨rfl, m, hm, R'⟩⟩
  · obtain ⟨s, h1, h2, h3⟩ := R
    have hs := rl_size h2 h3
    refine (pk_get B 0 s w h1 (by unfold maxLen; omega)).mono ?_
    rintro x w' ⟨rfl, R', K⟩
    have hle : (getOf 0 s).2.2.size ≤ s.size := by
      have e : (getOf 0 s).2.2 = (gX 0 s).2.2 := by unfold getOf; split <;> (try split) <;> rfl
      rw [e]
      unfold gX gD gC gB gA
      exact Nat.le_trans (raw_left_size _ _ _) (Nat.le_trans (raw_left_size _ _ _) (Nat.le_trans (raw_left_size _ _ _) (Nat.le_trans (raw_left_size _ _ _) (raw_left_size _ _ _))))
    have hc := get_cut p s m hm h2
    have e1 : (getOf 0 s).1 = PkV.zero := by rw [hc]
    have e2 : (getOf 0 s).2.1 = 6 := by rw [hc]
    rw [e2] at R'
    exact ⟨K, Or.inr ⟨by rw [e1], _, R', Nat.le_trans hle hs⟩⟩
/-- a reader with a proper beginning of l left, or one that remembers ErrShort -/
def RdX (w : World) (B : Nat) (l : List Nat) : Prop := RdB w B l ∨ RdS w B
theorem RdX.keeps {w w' : World} {B : Nat} {l : List Nat} {S : Nat → Prop} (h : RdX w B l) (hk : Kq.Keeps S w w') (hS : ¬ S B) : RdX w' B l := h.elim (fun g => Or.inl (g.keeps hk hS)) (fun g => Or.inr (g.keeps hk hS))
theorem RdX.below {w w' : World} {B : Nat} {l : List Nat} (h : RdX w B l) (hb : Below w.heap.size w w') : RdX w' B l := h.elim (fun g => Or.inl (g.below hb)) (fun g => Or.inr (g.below hb))
theorem RdX.lt {w : World} {B : Nat} {l : List Nat} (h : RdX w B l) : B < w.heap.size := h.elim RdB.lt RdS.lt
theorem RdX.nil {w : World} {B : Nat} (h : RdX w B []) : RdS w B := h.elim (fun g => g.nil.elim) id
/-- what a read tells -/
def XQ (w : World) (B : Nat) (V : Nat → Value) (b : Nat) (rest : List Nat) (x : Ending) (w' : World) : Prop := ∃ k, x = .returned (V k) ∧ Kq.Keeps (· = B) w w' ∧ (k = b ∨ k = 0) ∧ RdX w' B rest
theorem x_number (B n : Nat) (rest : List Nat) (w : World) (h : RdX w B (num8 n ++ rest)) (hn : n < M64) : Calls Try.prog 69 #[.pointer (some ⟨B, 0, none⟩)] w (XQ w B (fun k => .int .u64 (k : Int)) n rest) := by
  rcases h with h | h
  · refine (xb_number B n rest w h hn).mono ?_
    rintro x w' ⟨k, rfl, K, ⟨e, R⟩ | ⟨e, R⟩⟩
    · exact ⟨k, rfl, K, Or.inl e, Or.inl R⟩
    · exact ⟨k, rfl, K, Or.inr e, Or.inr R⟩
  · refine (xs_number B w h).mono ?_
    rintro x w' ⟨rfl, K, R⟩
    exact ⟨0, rfl, K, Or.inr rfl, Or.inr R⟩
theorem x_byte (B n : Nat) (rest : List Nat) (w : World) (h : RdX w B ([n] ++ rest)) : Calls Try.prog 54 #[.pointer (some ⟨B, 0, none⟩)] w (XP w B (fun k => .int .i64 (k : Int)) n rest) := by
  rcases h with h | h
  · exact xb_byte B n rest w h
  · refine (xs_byte B w h).mono ?_
    rintro x w' ⟨rfl, K, R⟩
    exact ⟨0, rfl, K, Or.inr ⟨rfl, R⟩⟩
theorem xb_err (B : Nat) (l : List Nat) (w : World) (h : RdB w B l) : Calls Try.prog 41 #[.pointer (some ⟨B, 0, none⟩)] w fun x w' => x = .returned (.int .i64 0) ∧ w = w' := by
  obtain ⟨n, _, h2⟩ := h
  exact rl_err B _ w h2
end Go.Proofs.Ytkbiolhcpghmkaa
namespace Go.Proofs.Ytkbiolhcpghmkaa
open Go.RowKit
set_option linter.unusedVariables false
def fillQ (w : World) (R : Nat) (a i : Int) : World := (w.setCell ⟨R, 0, none⟩ (.int .u64 a)).setCell ⟨R, 1, none⟩ (.int .i64 i)
theorem fillQ_keeps (w : World) (R : Nat) (a i : Int) : Kq.Keeps (· = R) w (fillQ w R a i) := (Kq.Keeps.setCell (S := (· = R)) w ⟨R, 0, none⟩ _ rfl).trans (Kq.Keeps.setCell _ ⟨R, 1, none⟩ _ rfl)
theorem keeps_new {w w2 w3 : World} {B R : Nat} (h : Kq.Keeps (· = B) w w2) (k : Kq.Keeps (· = R) w2 w3) (hR : w.heap.size ≤ R) : Kq.Keeps (· = B) w w3 :=
  ⟨k.os.trans h.os, k.tape.trans h.tape, k.output.trans h.output, Nat.le_trans h.size k.size, fun g hg hn => by rw [k.block g (Nat.lt_of_lt_of_le hg h.size) (Nat.ne_of_lt (Nat.lt_of_lt_of_le hg hR)), h.block g hg hn]⟩
set_option maxRecDepth 100000 in
set_option maxHeartbeats 2000000 in
theorem x_place (B a i : Nat) (rest : List Nat) (w : World) (h : RdX w B (num8 a ++ (num8 i ++ rest))) (ha : a < 18446744073709551616) (hi : i ≤ 65535) :
    Calls Try.prog 55 #[.pointer (some ⟨B, 0, none⟩)] w fun x w' => ∃ u v : Int, x = .returned (.agg #[.int .u64 u, .int .i64 v]) ∧ Kq.Keeps (· = B) w w' ∧ RdX w' B rest := by
  have hb := Kq.below_alloc w (.cells #[.int .u64 0, .int .i64 0] 28)
  have H : Hid (RdX (w.alloc (.cells #[.int .u64 0, .int .i64 0] 28)) B (num8 a ++ (num8 i ++ rest)) ∧ QB (w.alloc (.cells #[.int .u64 0, .int .i64 0] 28)) w.heap.size 0 0 ∧ Below w.heap.size w (w.alloc (.cells #[.int .u64 0, .int .i64 0] 28)) ∧ B < w.heap.size) := Lib.hid ⟨h.below hb, ⟨Kq.blk_new _ _ _ _⟩, hb, h.lt⟩
  have HA := Lib.hid (And.intro ha hi)
  clear h ha hi hb
  go_enter Try.func55, Try.ntmps55
  go_wp2_with fail
  refine (x_number B a _ _ H.out.1 (by have := HA.out.1; unfold M64; omega)).mono ?_
  rintro x w1 ⟨k, rfl, K1, -, R1⟩
  have H1 : Hid (RdX w1 B (num8 i ++ rest) ∧ QB w1 w.heap.size 0 0 ∧ Kq.Keeps (· = B) w w1 ∧ B < w.heap.size) := Lib.hid ⟨R1, H.out.2.1.later K1 (fun e => by have := H.out.2.2.2; omega), (Kq.Keeps.of_below H.out.2.2.1 (fun k h1 h2 => absurd h2 (Nat.not_lt.2 h1))).trans K1, H.out.2.2.2⟩
  clear R1 K1 H
  go_wp2_with fail
  refine (x_number B i _ _ H1.out.1 (by have := HA.out.2; unfold M64; omega)).mono ?_
  rintro x w2 ⟨m, rfl, K2, hm, R2⟩
  have hm2 : m ≤ 65535 := by have := HA.out.2; omega
  have d1 : decide ((65535 : Int) < (m : Int)) = false := decide_eq_false (by omega)
  have hw1 : IntKind.i64.wrap (m : Int) = (m : Int) := IntWalk.i64_in _ (by omega)
  have H2 : Hid (RdX w2 B rest ∧ QB w2 w.heap.size 0 0 ∧ Kq.Keeps (· = B) w w2 ∧ B < w.heap.size) := Lib.hid ⟨R2, H1.out.2.1.later K2 (fun e => by have := H1.out.2.2.2; omega), H1.out.2.2.1.trans K2, H1.out.2.2.2⟩
  clear R2 K2 H1 hm hm2 HA
  go_wp2_with fail
  have f0 := Kq.blk_free H2.out.2.1.blk 0
  have f1 := Kq.blk_free H2.out.2.1.blk 1
  have c0 := H2.out.2.1.c0
  have c1 := H2.out.2.1.c1
  rcases H2.out.1 with R | R
  · refine (xb_err B _ w2 R).mono ?_
    rintro x w3 ⟨rfl, rfl⟩
    have HR := Lib.hid R
    clear R
    go_wp2
    change bodyPost _ _ _ _ _ (fillQ w2 w.heap.size (k : Int) (m : Int))
    have p1 := fillQ_keeps w2 w.heap.size (k : Int) (m : Int)
    have p2 : QB (fillQ w2 w.heap.size (k : Int) (m : Int)) w.heap.size k m := ⟨Kq.blk_set (Kq.blk_set H2.out.2.1.blk 0 _) 1 _⟩
    generalize fillQ w2 w.heap.size (k : Int) (m : Int) = wl at *
    have r0 := p2.c0
    have r1 := p2.c1
    refine bodyPost_ret (v := .agg #[.int .u64 (k : Int), .int .i64 (m : Int)]) (by simp [results, Try.results55, go_sem, r0, r1]) rfl ?_
    exact ⟨_, _, rfl, keeps_new H2.out.2.2.1 p1 (Nat.le_refl _), H2.out.1.keeps p1 (fun e => by have := H2.out.2.2.2; omega)⟩
  · refine (xs_err B w2 R).mono ?_
    rintro x w3 ⟨rfl, rfl⟩
    have HR := Lib.hid R
    clear R
    go_wp2
    change bodyPost _ _ _ _ _ (fillQ w2 w.heap.size 0 0)
    have p1 := fillQ_keeps w2 w.heap.size 0 0
    have p2 : QB (fillQ w2 w.heap.size 0 0) w.heap.size 0 0 := ⟨Kq.blk_set (Kq.blk_set H2.out.2.1.blk 0 _) 1 _⟩
    generalize fillQ w2 w.heap.size 0 0 = wl at *
    have r0 := p2.c0
    have r1 := p2.c1
    refine bodyPost_ret (v := .agg #[.int .u64 0, .int .i64 0]) (by simp [results, Try.results55, go_sem, r0, r1]) rfl ?_
    exact ⟨_, _, rfl, keeps_new H2.out.2.2.1 p1 (Nat.le_refl _), H2.out.1.keeps p1 (fun e => by have := H2.out.2.2.2; omega)⟩
end Go.Proofs.Ytkbiolhcpghmkaa
