/- Merged: NtRd, NtPlR. A reader with what is left as a list: Byte, Number, Get, End, Err on the good way. Condition: lengths are ints. Contract of note.Place on a place's own bytes. Condition: what stands there. -/
import Derived.WalkSpells
import Derived.Test.YtkbiolhcpghmkaaGreatPkCutQ
import Derived.Test.YtkbiolhcpghmkaaGreatCommonQ
import Derived.Test.YtkbiolhcpghmkaaGreatBetwQ
namespace Go.Proofs.YtkbiolhcpghmkaaGreat
open Go.RowKit
set_option linter.unusedVariables false
/-- a reader that remembers nothing, with l left -/
def RdL (w : World) (B : Nat) (l : List Nat) : Prop := ∃ s, Rd w B 0 s ∧ nl s = l ∧ l.length ≤ 1000000
def LPost (w : World) (B : Nat) (v : Value) (rest : List Nat) (x : Ending) (w' : World) : Prop := x = .returned v ∧ RdL w' B rest ∧ Kq.Keeps (· = B) w w'
theorem RdL.keeps {w w' : World} {B : Nat} {l : List Nat} {S : Nat → Prop} (h : RdL w B l) (hk : Kq.Keeps S w w') (hS : ¬ S B) : RdL w' B l := by
  obtain ⟨s, h1, h2, h3⟩ := h
  exact ⟨s, h1.later hk hS, h2, h3⟩
theorem RdL.below {w w' : World} {B : Nat} {l : List Nat} (h : RdL w B l) (hb : Below w.heap.size w w') : RdL w' B l :=
  h.keeps (Kq.Keeps.of_below (S := fun _ => False) hb (fun k h1 h2 => absurd h1 (Nat.not_le.2 h2))) id
theorem RdL.lt {w : World} {B : Nat} {l : List Nat} (h : RdL w B l) : B < w.heap.size := by
  obtain ⟨s, h1, _⟩ := h
  exact Kq.blk_lt h1
theorem rl_size {s : ByteArray} {l : List Nat} (h : nl s = l) (hl : l.length ≤ 1000000) : s.size ≤ 1000000 := by rw [← nl_length, h]; exact hl
theorem raw_list {s : ByteArray} {a b : List Nat} (h : nl s = a ++ b) : nl (WireM.raw 0 s (a.length : Nat)).1 = a ∧ (WireM.raw 0 s (a.length : Nat)).2.1 = 0 ∧ nl (WireM.raw 0 s (a.length : Nat)).2.2 = b := by
  have hs : s.size = a.length + b.length := by rw [← nl_length, h, List.length_append]
  rw [WireM.raw_ok s a.length (by omega)]
  refine ⟨?_, rfl, ?_⟩
  · show nl (s.extract 0 a.length) = a
    rw [nl_extract, h, List.drop_zero, Nat.sub_zero, List.take_left]
  · show nl (s.extract a.length s.size) = b
    rw [nl_extract, h, List.drop_left, hs]
    exact List.take_of_length_le (by omega)
theorem rl_byte (B b : Nat) (rest : List Nat) (w : World) (h : RdL w B ([b] ++ rest)) : Calls Tryz.prog 75 #[.pointer (some ⟨B, 0, none⟩)] w (LPost w B (.int .i64 (b : Int)) rest) := by
  obtain ⟨s, h1, h2, h3⟩ := h
  have hsz := rl_size h2 h3
  refine (rd_byte B 0 s w h1 (by unfold maxLen; omega)).mono ?_
  rintro x w' ⟨rfl, R, K⟩
  obtain ⟨g1, g2, g3⟩ := raw_list h2
  refine ⟨?_, ⟨_, ?_, g3, ?_⟩, K⟩
  · rw [show ((1 : Nat) : Int) = (([b].length : Nat) : Int) from rfl, g1, val_one]
  · have R' := R
    rw [show (WireM.raw 0 s ((1 : Nat) : Int)).2.1 = 0 from g2] at R'
    exact R'
  · simp only [List.length_append, List.length_cons, List.length_nil] at h3; omega
theorem num8_len (n : Nat) : (num8 n).length = 8 := rfl
theorem rl_number (B n : Nat) (rest : List Nat) (w : World) (h : RdL w B (num8 n ++ rest)) (hn : n < M64) : Calls Tryz.prog 96 #[.pointer (some ⟨B, 0, none⟩)] w (LPost w B (.int .u64 (n : Int)) rest) := by
  obtain ⟨s, h1, h2, h3⟩ := h
  have hsz := rl_size h2 h3
  refine (rd_number B 0 s w h1 (by unfold maxLen; omega)).mono ?_
  rintro x w' ⟨rfl, R, K⟩
  obtain ⟨g1, g2, g3⟩ := raw_list h2
  refine ⟨?_, ⟨_, ?_, g3, ?_⟩, K⟩
  · rw [show ((8 : Nat) : Int) = (((num8 n).length : Nat) : Int) from rfl, g1, val_num8 n hn]
  · have R' := R
    rw [show (WireM.raw 0 s ((8 : Nat) : Int)).2.1 = 0 from g2] at R'
    exact R'
  · rw [List.length_append] at h3; omega
theorem get_rest (p : PkV) (hok : PkOk p) (hq : 0 ≤ p.q ∧ p.q < 18446744073709551616) (ht : 0 ≤ p.t ∧ p.t < 18446744073709551616) (s : ByteArray) (rest : List Nat) (hs : nl s = encP p ++ rest) :
    (getOf 0 s).1 = p ∧ (getOf 0 s).2.1 = 0 ∧ nl (getOf 0 s).2.2 = rest := by
  have hr : ∀ b ∈ rest, b < 256 := fun b hb => nl_lt s b (by rw [hs]; exact List.mem_append.2 (Or.inr hb))
  have hm : nl s = encP p ++ nl (txt rest) := by rw [nl_txt rest hr]; exact hs
  have h1 := get_whole p hok hq ht s (txt rest) hm
  obtain ⟨h1a, h1b⟩ := h1
  rw [h1a]
  refine ⟨rfl, rfl, ?_⟩
  show nl (gX 0 s).2.2 = rest
  obtain ⟨k1, k2, k3, k4, k5⟩ := encP_take p rest
  rw [← hs] at k1 k2 k3 k4 k5
  have hl : (nl s).length = 19 + p.d.size + rest.length := by rw [hs, List.length_append, encP_len]
  have hv : WireM.val (((nl s).drop 17).take 2) = p.d.size := by rw [k4, val_hi2]
  obtain ⟨g1, g2, g3, g4⟩ := get_all s (by rw [hv]; omega)
  rw [hv] at g4
  unfold Between at g4
  rw [g4, List.take_length, hs, ← encP_len p, List.drop_left]
theorem rl_get (B : Nat) (p : PkV) (hok : PkOk p) (hq : 0 ≤ p.q ∧ p.q < 18446744073709551616) (ht : 0 ≤ p.t ∧ p.t < 18446744073709551616) (rest : List Nat) (w : World) (h : RdL w B (encP p ++ rest)) :
    Calls Tryz.prog 110 #[.pointer (some ⟨B, 0, none⟩)] w (LPost w B (.agg #[.int .i64 p.f, .int .u64 p.q, .int .u64 p.t, .string p.d]) rest) := by
  obtain ⟨s, h1, h2, h3⟩ := h
  have hsz := rl_size h2 h3
  refine (pk_get B 0 s w h1 (by unfold maxLen; omega)).mono ?_
  rintro x w' ⟨rfl, R, K⟩
  obtain ⟨g1, g2, g3⟩ := get_rest p hok hq ht s rest h2
  refine ⟨by rw [g1]; rfl, ⟨_, ?_, g3, ?_⟩, K⟩
  · have R' := R
    rw [show (getOf 0 s).2.1 = 0 from g2] at R'
    exact R'
  · rw [List.length_append] at h3; omega
theorem rl_err (B : Nat) (l : List Nat) (w : World) (h : RdL w B l) : Calls Tryz.prog 52 #[.pointer (some ⟨B, 0, none⟩)] w fun x w' => x = .returned (.int .i64 0) ∧ w = w' := by
  obtain ⟨s, h1, _⟩ := h
  exact mem_err B 0 w h1.c0
theorem rl_end (B : Nat) (w : World) (h : RdL w B []) : Calls Tryz.prog 61 #[.pointer (some ⟨B, 0, none⟩)] w fun x w' => x = .returned (.int .i64 0) ∧ w = w' := by
  obtain ⟨s, h1, h2, _⟩ := h
  have h0 : s.size = 0 := by rw [← nl_length, h2]; rfl
  refine (rd_end B 0 s w h1).mono ?_
  rintro x w' ⟨rfl, rfl⟩
  refine ⟨?_, rfl⟩
  unfold endOf
  rw [if_pos rfl, if_pos h0]
theorem rl_new (l : List Nat) (w : World) (hl : ∀ b ∈ l, b < 256) (hn : l.length ≤ 1000000) : Calls Tryz.prog 59 #[.string (txt l)] w fun x w' => x = .returned (.pointer (some ⟨w.heap.size, 0, none⟩)) ∧ RdL w' w.heap.size l ∧ Below w.heap.size w w' := by
  refine (rd_new (txt l) w).mono ?_
  rintro x w' ⟨rfl, R, hb⟩
  exact ⟨rfl, ⟨_, R, nl_txt l hl, hn⟩, hb⟩
end Go.Proofs.YtkbiolhcpghmkaaGreat
namespace Go.Proofs.YtkbiolhcpghmkaaGreat
open Go.RowKit
set_option linter.unusedVariables false
set_option maxRecDepth 100000 in
set_option maxHeartbeats 2000000 in
theorem nt_place_read (B a i : Nat) (rest : List Nat) (w : World) (h : RdL w B (num8 a ++ (num8 i ++ rest))) (ha : a < 18446744073709551616) (hi : i ≤ 65535) :
    Calls Tryz.prog 76 #[.pointer (some ⟨B, 0, none⟩)] w (LPost w B (.agg #[.int .u64 (a : Int), .int .i64 (i : Int)]) rest) := by
  have hb := Kq.below_alloc w (.cells #[.int .u64 0, .int .i64 0] 24)
  have H : Hid (RdL (w.alloc (.cells #[.int .u64 0, .int .i64 0] 24)) B (num8 a ++ (num8 i ++ rest)) ∧ QB (w.alloc (.cells #[.int .u64 0, .int .i64 0] 24)) w.heap.size 0 0 ∧ Below w.heap.size w (w.alloc (.cells #[.int .u64 0, .int .i64 0] 24)) ∧ B < w.heap.size) := Lib.hid ⟨h.below hb, ⟨Kq.blk_new _ _ _ _⟩, hb, h.lt⟩
  have HA := Lib.hid (And.intro ha hi)
  have d1 : decide ((65535 : Int) < (i : Int)) = false := decide_eq_false (by omega)
  have hw1 : IntKind.i64.wrap (i : Int) = (i : Int) := IntWalk.i64_in _ (by omega)
  clear h ha hi hb
  go_enter Tryz.func76, Tryz.ntmps76
  go_wp2_with fail
  refine (rl_number B a _ _ H.out.1 (by have := HA.out.1; unfold M64; omega)).mono ?_
  rintro x w1 ⟨rfl, R1, K1⟩
  have H1 : Hid (RdL w1 B (num8 i ++ rest) ∧ QB w1 w.heap.size 0 0 ∧ Kq.Keeps (· = B) w w1 ∧ B < w.heap.size) := Lib.hid ⟨R1, H.out.2.1.later K1 (fun e => by have := H.out.2.2.2; omega), (Kq.Keeps.of_below H.out.2.2.1 (fun k h1 h2 => absurd h2 (Nat.not_lt.2 h1))).trans K1, H.out.2.2.2⟩
  clear R1 K1 H
  go_wp2_with fail
  refine (rl_number B i _ _ H1.out.1 (by have := HA.out.2; unfold M64; omega)).mono ?_
  rintro x w2 ⟨rfl, R2, K2⟩
  have H2 : Hid (RdL w2 B rest ∧ QB w2 w.heap.size 0 0 ∧ Kq.Keeps (· = B) w w2 ∧ B < w.heap.size) := Lib.hid ⟨R2, H1.out.2.1.later K2 (fun e => by have := H1.out.2.2.2; omega), H1.out.2.2.1.trans K2, H1.out.2.2.2⟩
  clear R2 K2 H1
  go_wp2_with fail
  refine (rl_err B _ w2 H2.out.1).mono ?_
  rintro x w3 ⟨rfl, rfl⟩
  have c0 := H2.out.2.1.c0
  have c1 := H2.out.2.1.c1
  have f0 := Kq.blk_free H2.out.2.1.blk 0
  have f1 := Kq.blk_free H2.out.2.1.blk 1
  go_wp2
  have HZ : Hid (LPost w B (.agg #[.int .u64 (a : Int), .int .i64 (i : Int)]) rest (.returned (.agg #[.int .u64 (a : Int), .int .i64 (i : Int)])) ((w2.setCell ⟨w.heap.size, 0, none⟩ (.int .u64 (a : Int))).setCell ⟨w.heap.size, 1, none⟩ (.int .i64 (i : Int))) ∧ QB ((w2.setCell ⟨w.heap.size, 0, none⟩ (.int .u64 (a : Int))).setCell ⟨w.heap.size, 1, none⟩ (.int .i64 (i : Int))) w.heap.size a i) := Lib.hid (by
    have k1 : Kq.Keeps (· = w.heap.size) w2 ((w2.setCell ⟨w.heap.size, 0, none⟩ (.int .u64 (a : Int))).setCell ⟨w.heap.size, 1, none⟩ (.int .i64 (i : Int))) := (Kq.Keeps.setCell (S := (· = w.heap.size)) w2 ⟨w.heap.size, 0, none⟩ _ rfl).trans (Kq.Keeps.setCell _ ⟨w.heap.size, 1, none⟩ _ rfl)
    have k0 := H2.out.2.2.1
    refine ⟨⟨rfl, H2.out.1.keeps k1 (fun e => by have := H2.out.2.2.2; omega), ?_⟩, ⟨Kq.blk_set (Kq.blk_set H2.out.2.1.blk 0 _) 1 _⟩⟩
    exact ⟨k1.os.trans k0.os, k1.tape.trans k0.tape, k1.output.trans k0.output, Nat.le_trans k0.size k1.size, fun g hg hn => by rw [k1.block g (Nat.lt_of_lt_of_le hg k0.size) (Nat.ne_of_lt hg), k0.block g hg hn]⟩)
  generalize (w2.setCell ⟨w.heap.size, 0, none⟩ (.int .u64 (a : Int))).setCell ⟨w.heap.size, 1, none⟩ (.int .i64 (i : Int)) = wl at *
  have r0 := HZ.out.2.c0
  have r1 := HZ.out.2.c1
  refine bodyPost_ret (v := .agg #[.int .u64 (a : Int), .int .i64 (i : Int)]) (by simp [results, Tryz.results76, go_sem, r0, r1]) rfl ?_
  exact HZ.out.1
end Go.Proofs.YtkbiolhcpghmkaaGreat
