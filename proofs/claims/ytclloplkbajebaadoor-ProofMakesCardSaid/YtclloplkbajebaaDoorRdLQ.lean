/- Merged: RefNum, RdL. Contract of carrackref03.Bytes: a number by so many bytes. Condition: eight bytes at most. A reader with what is left as a list: Byte, Number, Get, End, Err on the good way. Condition: lengths are ints. -/
import Derived.WalkSpells
import Derived.Test.YtclloplkbajebaaDoorWrNewQ
import Derived.Test.YtclloplkbajebaaDoorWireRd2Q
import Derived.Test.YtclloplkbajebaaDoorCommonQ
namespace Go.Proofs.YtclloplkbajebaaDoor
open Go.RowKit
set_option linter.unusedVariables false
theorem val_num8 (n : Nat) (h : n < M64) : WireM.val (num8 n) = n := by
  unfold M64 at h
  simp only [WireM.val, num8, List.foldl_cons, List.foldl_nil]
  omega
theorem val_hi2 (n : Nat) : WireM.val (hi2 n) = n := by
  simp only [WireM.val, hi2, List.foldl_cons, List.foldl_nil]
  omega
theorem val_one (n : Nat) : WireM.val [n] = n := by simp [WireM.val]
end Go.Proofs.YtclloplkbajebaaDoor
namespace Go.Proofs.YtclloplkbajebaaDoor
open Go.RowKit
set_option linter.unusedVariables false
/-- a reader that remembers nothing, with l left -/
def RdL (w : World) (B : Nat) (l : List Nat) : Prop := ∃ s, Rd w B 0 s ∧ nl s = l ∧ l.length ≤ 1000000
def LPost (w : World) (B : Nat) (v : Value) (rest : List Nat) (x : Ending) (w' : World) : Prop := x = .returned v ∧ RdL w' B rest ∧ Kq.Keeps (· = B) w w'
theorem RdL.keeps {w w' : World} {B : Nat} {l : List Nat} {S : Nat → Prop} (h : RdL w B l) (hk : Kq.Keeps S w w') (hS : ¬ S B) : RdL w' B l := by
  obtain ⟨s, h1, h2, h3⟩ := h
  exact ⟨s, hk.blk h1 hS, h2, h3⟩
theorem RdL.below {w w' : World} {B : Nat} {l : List Nat} (h : RdL w B l) (hb : Below w.heap.size w w') : RdL w' B l :=
  h.keeps (Kq.Keeps.of_below (S := fun _ => False) hb (fun k h1 h2 => absurd h1 (Nat.not_le.2 h2))) id
theorem RdL.lt {w : World} {B : Nat} {l : List Nat} (h : RdL w B l) : B < w.heap.size := by
  obtain ⟨s, h1, _⟩ := h
  exact Kq.blk_lt h1
theorem rl_size {s : ByteArray} {l : List Nat} (h : nl s = l) (hl : l.length ≤ 1000000) : s.size ≤ 1000000 := by rw [← nl_length, h]; exact hl
theorem raw_list {s : ByteArray} {a b : List Nat} (h : nl s = a ++ b) : nl (WireM.raw 0 s (a.length : Nat)).1 = a ∧ (WireM.raw 0 s (a.length : Nat)).2.1 = 0 ∧ nl (WireM.raw 0 s (a.length : Nat)).2.2 = b := by
  have hs : s.size = a.length + b.length := by rw [← nl_length, h, List.length_append]
  rw [WireM.raw_ok s a.length (by omega)]
  refine ⟨?_, rfl, ?_⟩
  · show nl (s.extract 0 a.length) = a
    rw [nl_extract, h, List.drop_zero, Nat.sub_zero, List.take_left]
  · show nl (s.extract a.length s.size) = b
    rw [nl_extract, h, List.drop_left, hs]
    exact List.take_of_length_le (by omega)
theorem rl_byte (B b : Nat) (rest : List Nat) (w : World) (h : RdL w B ([b] ++ rest)) : Calls Tryd.prog 36 #[.pointer (some ⟨B, 0, none⟩)] w (LPost w B (.int .i64 (b : Int)) rest) := by
  obtain ⟨s, h1, h2, h3⟩ := h
  have hsz := rl_size h2 h3
  refine (rd_byte B 0 s w h1 (by unfold maxLen; omega)).mono ?_
  rintro x w' ⟨rfl, R, K⟩
  obtain ⟨g1, g2, g3⟩ := raw_list h2
  refine ⟨?_, ⟨_, ?_, g3, ?_⟩, K⟩
  · rw [show ((1 : Nat) : Int) = (([b].length : Nat) : Int) from rfl, g1, val_one]
  · have R' := R
    rw [show (WireM.raw 0 s ((1 : Nat) : Int)).2.1 = 0 from g2] at R'
    exact R'
  · simp only [List.length_append, List.length_cons, List.length_nil] at h3; omega
theorem num8_len (n : Nat) : (num8 n).length = 8 := rfl
theorem rl_number (B n : Nat) (rest : List Nat) (w : World) (h : RdL w B (num8 n ++ rest)) (hn : n < M64) : Calls Tryd.prog 62 #[.pointer (some ⟨B, 0, none⟩)] w (LPost w B (.int .u64 (n : Int)) rest) := by
  obtain ⟨s, h1, h2, h3⟩ := h
  have hsz := rl_size h2 h3
  refine (rd_number B 0 s w h1 (by unfold maxLen; omega)).mono ?_
  rintro x w' ⟨rfl, R, K⟩
  obtain ⟨g1, g2, g3⟩ := raw_list h2
  refine ⟨?_, ⟨_, ?_, g3, ?_⟩, K⟩
  · rw [show ((8 : Nat) : Int) = (((num8 n).length : Nat) : Int) from rfl, g1, val_num8 n hn]
  · have R' := R
    rw [show (WireM.raw 0 s ((8 : Nat) : Int)).2.1 = 0 from g2] at R'
    exact R'
  · rw [List.length_append] at h3; omega
theorem rl_err (B : Nat) (l : List Nat) (w : World) (h : RdL w B l) : Calls Tryd.prog 37 #[.pointer (some ⟨B, 0, none⟩)] w fun x w' => x = .returned (.int .i64 0) ∧ w = w' := by
  obtain ⟨s, h1, _⟩ := h
  exact mem_err B 0 w h1.c0
theorem rl_new (l : List Nat) (w : World) (hl : ∀ b ∈ l, b < 256) (hn : l.length ≤ 1000000) : Calls Tryd.prog 35 #[.string (txt l)] w fun x w' => x = .returned (.pointer (some ⟨w.heap.size, 0, none⟩)) ∧ RdL w' w.heap.size l ∧ Below w.heap.size w w' := by
  refine (rd_new (txt l) w).mono ?_
  rintro x w' ⟨rfl, R, hb⟩
  exact ⟨rfl, ⟨_, R, nl_txt l hl, hn⟩, hb⟩
end Go.Proofs.YtclloplkbajebaaDoor
