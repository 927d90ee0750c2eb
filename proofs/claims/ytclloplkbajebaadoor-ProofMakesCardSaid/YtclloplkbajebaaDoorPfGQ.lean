/- Merged: PfR, PfG. A reader of which is known what is left, if a condition holds; proof.get. Condition: lengths. Contract of proof.get. Condition: lengths. -/
import Derived.WalkSpells
import Derived.Outline
import Derived.Test.YtclloplkbajebaaDoorPfAQ
import Derived.Test.YtclloplkbajebaaDoorRdLQ
import Derived.Test.YtclloplkbajebaaDoorHeldLastQ
import Derived.Test.YtclloplkbajebaaDoorRkPQ
namespace Go.Proofs.YtclloplkbajebaaDoor
open Go.RowKit
set_option linter.unusedVariables false
/-- a reader; if C, then it remembers nothing, and l is left -/
def RdC (C : Prop) (w : World) (B : Nat) (l : List Nat) : Prop := ∃ e s, Rd w B e s ∧ s.size ≤ 100000 ∧ (C → e = 0 ∧ nl s = l)
section
variable {C : Prop} {w w' : World} {B : Nat} {l l' : List Nat}
theorem RdC.cast (h : RdC C w B l) (hl : C → l = l') : RdC C w B l' := by
  obtain ⟨e, s, h1, h2, h3⟩ := h
  exact ⟨e, s, h1, h2, fun c => ⟨(h3 c).1, (h3 c).2.trans (hl c)⟩⟩
theorem RdC.keeps {S : Nat → Prop} (h : RdC C w B l) (hk : Kq.Keeps S w w') (hS : ¬ S B) : RdC C w' B l := by
  obtain ⟨e, s, h1, h2, h3⟩ := h
  exact ⟨e, s, hk.blk h1 hS, h2, h3⟩
theorem RdC.below (h : RdC C w B l) (hb : Below w.heap.size w w') : RdC C w' B l :=
  h.keeps (Kq.Keeps.of_below (S := fun _ => False) hb (fun k h1 h2 => absurd h1 (Nat.not_le.2 h2))) id
theorem RdC.lt (h : RdC C w B l) : B < w.heap.size := by
  obtain ⟨e, s, h1, _⟩ := h
  exact Kq.blk_lt h1
end
def RnPost (C : Prop) (w : World) (B : Nat) (k : IntKind) (lim n : Nat) (rest : List Nat) (x : Ending) (w' : World) : Prop := ∃ m : Nat, m < lim ∧ (C → m = n) ∧ x = .returned (.int k (m : Int)) ∧ RdC C w' B rest ∧ Kq.Keeps (· = B) w w'
def RtPost (C : Prop) (w : World) (B : Nat) (t : ByteArray) (rest : List Nat) (x : Ending) (w' : World) : Prop := ∃ s : ByteArray, (C → s = t) ∧ x = .returned (.string s) ∧ RdC C w' B rest ∧ Kq.Keeps (· = B) w w'
section
variable (C : Prop) (B : Nat) (w : World)
theorem rc_byte (b : Nat) (rest : List Nat) (h : RdC C w B ([b] ++ rest)) : Calls Tryd.prog 36 #[.pointer (some ⟨B, 0, none⟩)] w (RnPost C w B .i64 256 b rest) := by
  obtain ⟨e, s, h1, h2, h3⟩ := h
  refine (rd_byte B e s w h1 (by unfold maxLen; omega)).mono ?_
  rintro x w' ⟨rfl, R, K⟩
  refine ⟨_, by simpa using whole_lt e s 1, fun c => ?_, rfl, ⟨_, _, R, Nat.le_trans (raw_left_size _ _ _) h2, fun c => ?_⟩, K⟩
  · obtain ⟨rfl, hs⟩ := h3 c
    obtain ⟨g1, g2, g3⟩ := raw_list hs
    rw [show ((1 : Nat) : Int) = (([b].length : Nat) : Int) from rfl, g1, val_one]
  · obtain ⟨rfl, hs⟩ := h3 c
    obtain ⟨g1, g2, g3⟩ := raw_list hs
    exact ⟨g2, g3⟩
theorem rc_number (n : Nat) (rest : List Nat) (h : RdC C w B (num8 n ++ rest)) (hn : C → n < M64) : Calls Tryd.prog 62 #[.pointer (some ⟨B, 0, none⟩)] w (RnPost C w B .u64 M64 n rest) := by
  obtain ⟨e, s, h1, h2, h3⟩ := h
  refine (rd_number B e s w h1 (by unfold maxLen; omega)).mono ?_
  rintro x w' ⟨rfl, R, K⟩
  refine ⟨_, by have := whole_lt e s 8; unfold M64; simpa using this, fun c => ?_, rfl, ⟨_, _, R, Nat.le_trans (raw_left_size _ _ _) h2, fun c => ?_⟩, K⟩
  · obtain ⟨rfl, hs⟩ := h3 c
    obtain ⟨g1, g2, g3⟩ := raw_list hs
    rw [show ((8 : Nat) : Int) = (((num8 n).length : Nat) : Int) from rfl, g1, val_num8 n (hn c)]
  · obtain ⟨rfl, hs⟩ := h3 c
    obtain ⟨g1, g2, g3⟩ := raw_list hs
    exact ⟨g2, g3⟩
theorem rc_raw (n : Nat) (t : ByteArray) (rest : List Nat) (h : RdC C w B (nl t ++ rest)) (hn : C → t.size = n) : Calls Tryd.prog 64 #[.pointer (some ⟨B, 0, none⟩), .int .i64 (n : Int)] w (RtPost C w B t rest) := by
  obtain ⟨e, s, h1, h2, h3⟩ := h
  refine (rd_raw B e s (n : Int) w h1 (by unfold maxLen; omega)).mono ?_
  rintro x w' ⟨rfl, R, K⟩
  refine ⟨_, fun c => ?_, rfl, ⟨_, _, R, Nat.le_trans (raw_left_size _ _ _) h2, fun c => ?_⟩, K⟩
  · obtain ⟨rfl, hs⟩ := h3 c
    obtain ⟨g1, g2, g3⟩ := raw_list hs
    rw [nl_length, hn c] at g1
    exact nl_inj g1
  · obtain ⟨rfl, hs⟩ := h3 c
    obtain ⟨g1, g2, g3⟩ := raw_list hs
    rw [nl_length, hn c] at g2 g3
    exact ⟨g2, g3⟩
theorem rc_text (t : ByteArray) (rest : List Nat) (h : RdC C w B (tx2 t ++ rest)) : Calls Tryd.prog 63 #[.pointer (some ⟨B, 0, none⟩)] w (RtPost C w B t rest) := by
  obtain ⟨e, s, h1, h2, h3⟩ := h
  refine (rd_text B e s w h1 (by unfold maxLen; omega)).mono ?_
  rintro x w' ⟨rfl, R, K⟩
  have key : C → (WireM.raw (WireM.raw e s (2 : Nat)).2.1 (WireM.raw e s (2 : Nat)).2.2 ((WireM.val (nl (WireM.raw e s (2 : Nat)).1) : Nat) : Int)).1 = t ∧ (WireM.raw (WireM.raw e s (2 : Nat)).2.1 (WireM.raw e s (2 : Nat)).2.2 ((WireM.val (nl (WireM.raw e s (2 : Nat)).1) : Nat) : Int)).2.1 = 0 ∧ nl (WireM.raw (WireM.raw e s (2 : Nat)).2.1 (WireM.raw e s (2 : Nat)).2.2 ((WireM.val (nl (WireM.raw e s (2 : Nat)).1) : Nat) : Int)).2.2 = rest := fun c => by
    obtain ⟨rfl, hs⟩ := h3 c
    have hs2 : nl s = hi2 t.size ++ (nl t ++ rest) := by rw [hs]; unfold tx2 hi2; rw [List.append_assoc]
    obtain ⟨g1, g2, g3⟩ := raw_list hs2
    have hl2 : (hi2 t.size).length = 2 := rfl
    rw [hl2] at g1 g2 g3
    rw [g1, g2, val_hi2]
    obtain ⟨k1, k2, k3⟩ := raw_list g3
    rw [nl_length] at k1 k2 k3
    exact ⟨nl_inj k1, k2, k3⟩
  refine ⟨_, fun c => (key c).1, rfl, ⟨_, _, R, Nat.le_trans (raw_left_size _ _ _) (Nat.le_trans (raw_left_size _ _ _) h2), fun c => ⟨(key c).2.1, (key c).2.2⟩⟩, K⟩
theorem rc_err (l : List Nat) (h : RdC C w B l) : Calls Tryd.prog 37 #[.pointer (some ⟨B, 0, none⟩)] w fun x w' => (∃ e : Int, (C → e = 0) ∧ x = .returned (.int .i64 e)) ∧ w = w' := by
  obtain ⟨e, s, h1, h2, h3⟩ := h
  refine (mem_err B e w h1.c0).mono ?_
  rintro x w' ⟨rfl, rfl⟩
  exact ⟨⟨e, fun c => (h3 c).1, rfl⟩, rfl⟩
theorem rc_new (s : ByteArray) (hs : s.size ≤ 100000) (l : List Nat) (hl : C → nl s = l) : Calls Tryd.prog 35 #[.string s] w fun x w' => x = .returned (.pointer (some ⟨w.heap.size, 0, none⟩)) ∧ RdC C w' w.heap.size l ∧ Below w.heap.size w w' := by
  refine (rd_new s w).mono ?_
  rintro x w' ⟨rfl, R, hb⟩
  exact ⟨rfl, ⟨_, _, R, hs, fun c => ⟨rfl, hl c⟩⟩, hb⟩
end
/-- a leaf's block -/
structure LB (w : World) (X : Nat) (i c : Int) (k v : ByteArray) (P : Value) : Prop where
  blk : w.heap[X]? = some (.cells #[.int .i64 i, .int .i64 c, .string k, .string v, P] 30 (0, 0))
section
variable {w : World} {X : Nat} {i c : Int} {k v : ByteArray} {P : Value} (h : LB w X i c k v P)
include h
theorem LB.c0 : w.cell? ⟨X, 0, none⟩ = some (.int .i64 i) := Kq.blk_cell h.blk 0
theorem LB.c1 : w.cell? ⟨X, 1, none⟩ = some (.int .i64 c) := Kq.blk_cell h.blk 1
theorem LB.c2 : w.cell? ⟨X, 2, none⟩ = some (.string k) := Kq.blk_cell h.blk 2
theorem LB.c3 : w.cell? ⟨X, 3, none⟩ = some (.string v) := Kq.blk_cell h.blk 3
theorem LB.c4 : w.cell? ⟨X, 4, none⟩ = some P := Kq.blk_cell h.blk 4
theorem LB.fz (j : Nat) : w.frozen? ⟨X, j, none⟩ = false := Kq.blk_free h.blk j
theorem LB.s0 (x : Int) : LB (w.setCell ⟨X, 0, none⟩ (.int .i64 x)) X x c k v P := ⟨Kq.blk_set h.blk 0 _⟩
theorem LB.s1 (x : Int) : LB (w.setCell ⟨X, 1, none⟩ (.int .i64 x)) X i x k v P := ⟨Kq.blk_set h.blk 1 _⟩
theorem LB.s2 (x : ByteArray) : LB (w.setCell ⟨X, 2, none⟩ (.string x)) X i c x v P := ⟨Kq.blk_set h.blk 2 _⟩
theorem LB.s3 (x : ByteArray) : LB (w.setCell ⟨X, 3, none⟩ (.string x)) X i c k x P := ⟨Kq.blk_set h.blk 3 _⟩
theorem LB.s4 (x : Value) : LB (w.setCell ⟨X, 4, none⟩ x) X i c k v x := ⟨Kq.blk_set h.blk 4 _⟩
theorem LB.later {S : Nat → Prop} {w' : World} (hk : Kq.Keeps S w w') (hS : ¬ S X) : LB w' X i c k v P := ⟨hk.blk h.blk hS⟩
theorem LB.lt : X < w.heap.size := Kq.blk_lt h.blk
end
end Go.Proofs.YtclloplkbajebaaDoor
namespace Go.Proofs.YtclloplkbajebaaDoor
open Go.RowKit
set_option linter.unusedVariables false
theorem row_txn {w : World} {base : Nat} {v : Value} {ps : List ByteArray} {S : Nat → Prop} (h : w.ownsRow base 9 1 v ps.length (scells ps)) (hS : ∀ k, base ≤ k → ¬ S k) : ∃ A cap, v = .slice A ps.length cap ∧ ps.length ≤ cap ∧ TxN w S A ps := by
  rcases h.2 with ⟨rfl, h0⟩ | ⟨g, cap, cur, rfl, hg, hb, hc, _, _, ht⟩
  · exact ⟨none, 0, by rw [h0], by omega, fun j hj => by omega⟩
  · refine ⟨_, cap, rfl, hc, fun j hj => ⟨g, 0, rfl, hS g hg, Kq.blk_lt hb, ?_⟩⟩
    have h1 : (scells ps)[j]? = some (.string ps[j]) := by simp [scells, hj]
    rw [Nat.zero_add, Kq.blk_cell hb, ← h1, ← ht, List.getElem?_take, if_pos (by omega), Array.getElem?_toList]
/-- in the midst of get: from a world with W blocks on -/
structure Ge (C : Prop) (w : World) (B R X : Nat) (l : List Nat) (i c : Int) (k v : ByteArray) (P : Value) (w' : World) : Prop where
  rd : RdC C w' B l
  lb : LB w' X i c k v P
  rb : LB w' R 0 0 ⟨#[]⟩ ⟨#[]⟩ (.slice none 0 0)
  ne : B < w.heap.size
  ne2 : w.heap.size ≤ R
  ne3 : w.heap.size ≤ X
  ne4 : R ≠ X
  keeps : Kq.Keeps (· = B) w w'
section
variable {C : Prop} {w0 w w' : World} {B R X : Nat} {l l' : List Nat} {i c : Int} {k v : ByteArray} {P : Value}
theorem keeps_far {S T : Nat → Prop} {a b d : World} (h : Kq.Keeps S a b) (hk : Kq.Keeps T b d) (hT : ∀ k, T k → a.heap.size ≤ k) : Kq.Keeps S a d :=
  ⟨hk.os.trans h.os, hk.tape.trans h.tape, hk.output.trans h.output, Nat.le_trans h.size hk.size, fun k hk1 hn => by
    rw [hk.block k (Nat.lt_of_lt_of_le hk1 h.size) (fun ht => by have := hT k ht; omega), h.block k hk1 hn]⟩
theorem Ge.read (h : Ge C w0 B R X l i c k v P w) (hr : RdC C w' B l') (hk : Kq.Keeps (· = B) w w') : Ge C w0 B R X l' i c k v P w' :=
  ⟨hr, h.lb.later hk (fun e => by have := h.ne; have := h.ne3; omega), h.rb.later hk (fun e => by have := h.ne; have := h.ne2; omega), h.ne, h.ne2, h.ne3, h.ne4, h.keeps.trans hk⟩
theorem Ge.cast (h : Ge C w0 B R X l i c k v P w) (hl : C → l = l') : Ge C w0 B R X l' i c k v P w := ⟨h.rd.cast hl, h.lb, h.rb, h.ne, h.ne2, h.ne3, h.ne4, h.keeps⟩
theorem Ge.far {base : Nat} (h : Ge C w0 B R X l i c k v P w) (hk : Kq.Keeps (fun g => base ≤ g) w w') (hR : R < base) (hX : X < base) : Ge C w0 B R X l i c k v P w' :=
  ⟨h.rd.keeps hk (by have := h.ne; have := h.ne3; omega), h.lb.later hk (Nat.not_le.2 hX), h.rb.later hk (Nat.not_le.2 hR), h.ne, h.ne2, h.ne3, h.ne4, keeps_far h.keeps hk (fun g hg => by have := h.ne3; omega)⟩
theorem Ge.below (h : Ge C w0 B R X l i c k v P w) (hb : Below w.heap.size w w') : Ge C w0 B R X l i c k v P w' :=
  have hk : Kq.Keeps (fun _ => False) w w' := Kq.Keeps.of_below hb (fun k h1 h2 => absurd h1 (Nat.not_le.2 h2))
  ⟨h.rd.below hb, h.lb.later hk id, h.rb.later hk id, h.ne, h.ne2, h.ne3, h.ne4, keeps_far h.keeps hk (fun g hg => hg.elim)⟩
theorem Ge.set (h : Ge C w0 B R X l i c k v P w) (j : Nat) (x : Value) {i' c' : Int} {k' v' : ByteArray} {P' : Value} (hp : LB (w.setCell ⟨X, j, none⟩ x) X i' c' k' v' P') : Ge C w0 B R X l i' c' k' v' P' (w.setCell ⟨X, j, none⟩ x) :=
  have hk : Kq.Keeps (· = X) w (w.setCell ⟨X, j, none⟩ x) := Kq.Keeps.setCell _ _ _ rfl
  ⟨h.rd.keeps hk (by have := h.ne; have := h.ne3; omega), hp, h.rb.later hk h.ne4, h.ne, h.ne2, h.ne3, h.ne4, keeps_far h.keeps hk (fun g hg => by have := h.ne3; omega)⟩
end
/-- the result's block is filled -/
def filled5 (w : World) (R : Nat) (i c : Int) (k v : ByteArray) (P : Value) : World := ((((w.setCell ⟨R, 0, none⟩ (.int .i64 i)).setCell ⟨R, 1, none⟩ (.int .i64 c)).setCell ⟨R, 2, none⟩ (.string k)).setCell ⟨R, 3, none⟩ (.string v)).setCell ⟨R, 4, none⟩ P
theorem filled5_keeps (w : World) (R : Nat) (i c : Int) (k v : ByteArray) (P : Value) : Kq.Keeps (· = R) w (filled5 w R i c k v P) := by
  unfold filled5
  have k1 := Kq.Keeps.setCell (S := (· = R)) w ⟨R, 0, none⟩ (.int .i64 i) rfl
  have k2 := Kq.Keeps.setCell (S := (· = R)) (w.setCell ⟨R, 0, none⟩ (.int .i64 i)) ⟨R, 1, none⟩ (.int .i64 c) rfl
  have k3 := Kq.Keeps.setCell (S := (· = R)) ((w.setCell ⟨R, 0, none⟩ (.int .i64 i)).setCell ⟨R, 1, none⟩ (.int .i64 c)) ⟨R, 2, none⟩ (.string k) rfl
  have k4 := Kq.Keeps.setCell (S := (· = R)) (((w.setCell ⟨R, 0, none⟩ (.int .i64 i)).setCell ⟨R, 1, none⟩ (.int .i64 c)).setCell ⟨R, 2, none⟩ (.string k)) ⟨R, 3, none⟩ (.string v) rfl
  have k5 := Kq.Keeps.setCell (S := (· = R)) ((((w.setCell ⟨R, 0, none⟩ (.int .i64 i)).setCell ⟨R, 1, none⟩ (.int .i64 c)).setCell ⟨R, 2, none⟩ (.string k)).setCell ⟨R, 3, none⟩ (.string v)) ⟨R, 4, none⟩ P rfl
  exact (((k1.trans k2).trans k3).trans k4).trans k5
theorem LB.fill {w : World} {R : Nat} {i0 c0 : Int} {k0 v0 : ByteArray} {P0 : Value} (h : LB w R i0 c0 k0 v0 P0) (i c : Int) (k v : ByteArray) (P : Value) : LB (filled5 w R i c k v P) R i c k v P := ((((h.s0 i).s1 c).s2 k).s3 v).s4 P
/-- what get tells: a leaf, the next one if C -/
def LfPost (C : Prop) (w : World) (B : Nat) (L : LfV) (rest : List Nat) (x : Ending) (w' : World) : Prop :=
  ∃ z : LfW, (C → z.l = L) ∧ x = .returned z.val ∧ z.l.p.length ≤ 300 ∧ z.l.p.length ≤ z.cap ∧ TxN w' (fun k => k < w.heap.size) z.a z.l.p ∧ RdC C w' B rest ∧ Kq.Keeps (· = B) w w'
theorem LfPost.mk' {C : Prop} {w w' : World} {B : Nat} {L : LfV} {rest : List Nat} (z : LfW) (h1 : C → z.l = L) (h2 : z.l.p.length ≤ 300) (h3 : z.l.p.length ≤ z.cap) (h4 : TxN w' (fun k => k < w.heap.size) z.a z.l.p) (h5 : RdC C w' B rest) (h6 : Kq.Keeps (· = B) w w') {x : Ending} (hx : x = .returned z.val) : LfPost C w B L rest x w' := ⟨z, h1, hx, h2, h3, h4, h5, h6⟩
theorem rawL_drop {C : Prop} (p : List ByteArray) (m n : Nat) (rest : List Nat) (h : C → n = p.length) (hm : m < n) : C → rawL (p.drop m) ++ rest = nl (p.getD m ⟨#[]⟩) ++ (rawL (p.drop (m + 1)) ++ rest) := fun c => by
  have hl : m < p.length := by have := h c; omega
  rw [List.drop_eq_getElem_cons hl, List.getD_eq_getElem?_getD, List.getElem?_eq_getElem hl]
  simp [rawL, List.append_assoc]
theorem ge_start (C : Prop) (B : Nat) (l : List Nat) (w : World) (h : RdC C w B l) :
    Ge C w B w.heap.size (w.heap.size + 1) l 0 0 ⟨#[]⟩ ⟨#[]⟩ (.slice none 0 0) ((w.alloc (Obj.cells #[Value.int IntKind.i64 0, Value.int IntKind.i64 0, Value.string ⟨#[]⟩, Value.string ⟨#[]⟩, Value.slice none 0 0] 30)).alloc (Obj.cells #[Value.int IntKind.i64 0, Value.int IntKind.i64 0, Value.string ⟨#[]⟩, Value.string ⟨#[]⟩, Value.slice none 0 0] 30)) := by
  have n1 := Kq.blk_new w #[Value.int IntKind.i64 0, Value.int IntKind.i64 0, Value.string ⟨#[]⟩, Value.string ⟨#[]⟩, Value.slice none 0 0] 30 (0, 0)
  have b1 := Kq.below_alloc w (Obj.cells #[Value.int IntKind.i64 0, Value.int IntKind.i64 0, Value.string ⟨#[]⟩, Value.string ⟨#[]⟩, Value.slice none 0 0] 30)
  have z1 : (w.alloc (Obj.cells #[Value.int IntKind.i64 0, Value.int IntKind.i64 0, Value.string ⟨#[]⟩, Value.string ⟨#[]⟩, Value.slice none 0 0] 30)).heap.size = w.heap.size + 1 := by simp
  have hB := h.lt
  have h1 := h.below b1
  generalize w.alloc (Obj.cells #[Value.int IntKind.i64 0, Value.int IntKind.i64 0, Value.string ⟨#[]⟩, Value.string ⟨#[]⟩, Value.slice none 0 0] 30) = w1 at *
  have n2 := Kq.blk_new w1 #[Value.int IntKind.i64 0, Value.int IntKind.i64 0, Value.string ⟨#[]⟩, Value.string ⟨#[]⟩, Value.slice none 0 0] 30 (0, 0)
  have b2 := Kq.below_alloc w1 (Obj.cells #[Value.int IntKind.i64 0, Value.int IntKind.i64 0, Value.string ⟨#[]⟩, Value.string ⟨#[]⟩, Value.slice none 0 0] 30)
  rw [z1] at n2
  exact ⟨h1.below b2, ⟨n2⟩, ⟨Kq.below_blk b2 n1 (by omega)⟩, hB, Nat.le_refl _, by omega, by omega, Kq.Keeps.of_below (b1.trans (b2.mono (by omega))) (fun k h1 h2 => absurd h2 (by omega))⟩
set_option maxRecDepth 100000 in
set_option maxHeartbeats 4000000 in
theorem pf_get (C : Prop) (B : Nat) (L : LfV) (rest : List Nat) (w : World) (h : RdC C w B (lfB L ++ rest)) (hm : C → LfMay L) :
    Calls Tryd.prog 38 #[.pointer (some ⟨B, 0, none⟩)] w (LfPost C w B L rest) := by
  obtain ⟨i0, hi0, hz0, hz1, hz2⟩ := info_partsB infoStr
  have H0 := Lib.hid ((ge_start C B _ w h).cast (l' := num8 L.i.toNat ++ (num8 L.c.toNat ++ (tx2 L.k ++ (tx2 L.v ++ ([L.p.length] ++ (rawL L.p ++ rest)))))) (fun _ => by unfold lfB; simp only [List.append_assoc]))
  have HM := Lib.hid hm
  have HM64 : Hid ((C → L.i.toNat < M64) ∧ (C → L.c.toNat < M64)) := Lib.hid ⟨fun c => by have := (hm c).i1; unfold M64; omega, fun c => by have := (hm c).c1; unfold M64; omega⟩
  clear h hm
  go_enter Tryd.func38, Tryd.ntmps38
  go_wp2_with fail
  refine (rc_number C B _ L.i.toNat _ H0.out.rd HM64.out.1).mono ?_
  rintro x w1 ⟨m1, hl1, hc1, rfl, R1, K1⟩
  have H1 := Lib.hid (H0.out.read R1 K1)
  clear R1 K1 H0
  obtain ⟨I, hI⟩ : ∃ I, I = IntKind.i64.wrap (m1 : Int) := ⟨_, rfl⟩
  have HI : Hid (C → I = L.i) := Lib.hid (fun c => by
    have h1 := (HM.out c).i0
    have h2 := (HM.out c).i1
    rw [hI, hc1 c, IntWalk.i64_in _ (by omega)]; omega)
  have hw : IntKind.i64.wrap (m1 : Int) = I := hI.symm
  clear hI hl1 hc1
  have f0 := H1.out.lb.fz 0
  have c0 := H1.out.lb.c0
  go_wp2_with fail
  have H2 := Lib.hid (H1.out.set 0 _ (H1.out.lb.s0 I))
  clear f0 c0 H1 hw
  refine (rc_number C B _ L.c.toNat _ H2.out.rd HM64.out.2).mono ?_
  rintro x w2 ⟨m2, hl2, hc2, rfl, R2, K2⟩
  have H3 := Lib.hid (H2.out.read R2 K2)
  clear R2 K2 H2
  obtain ⟨J, hJ⟩ : ∃ J, J = IntKind.i64.wrap (m2 : Int) := ⟨_, rfl⟩
  have HJ : Hid (C → J = L.c) := Lib.hid (fun c => by
    have h1 := (HM.out c).c0
    have h2 := (HM.out c).c1
    rw [hJ, hc2 c, IntWalk.i64_in _ (by omega)]; omega)
  have hw : IntKind.i64.wrap (m2 : Int) = J := hJ.symm
  clear hJ hl2 hc2
  have f0 := H3.out.lb.fz 1
  have c0 := H3.out.lb.c1
  go_wp2_with fail
  have H4 := Lib.hid (H3.out.set 1 _ (H3.out.lb.s1 J))
  clear f0 c0 H3 hw
  refine (rc_text C B _ L.k _ H4.out.rd).mono ?_
  rintro x w3 ⟨sk, hsk, rfl, R3, K3⟩
  have H5 := Lib.hid (H4.out.read R3 K3)
  have HSK := Lib.hid hsk
  clear R3 K3 H4 hsk
  have f0 := H5.out.lb.fz 2
  have c0 := H5.out.lb.c2
  go_wp2_with fail
  have H6 := Lib.hid (H5.out.set 2 _ (H5.out.lb.s2 sk))
  clear f0 c0 H5
  refine (rc_text C B _ L.v _ H6.out.rd).mono ?_
  rintro x w4 ⟨sv, hsv, rfl, R4, K4⟩
  have H7 := Lib.hid (H6.out.read R4 K4)
  have HSV := Lib.hid hsv
  clear R4 K4 H6 hsv
  have f0 := H7.out.lb.fz 3
  have c0 := H7.out.lb.c3
  go_wp2_with fail
  have H8 := Lib.hid (H7.out.set 3 _ (H7.out.lb.s3 sv))
  clear f0 c0 H7
  refine (rc_byte C B _ L.p.length _ H8.out.rd).mono ?_
  rintro x w5 ⟨n, hn, hnc, rfl, R5, K5⟩
  have H9 := Lib.hid (H8.out.read R5 K5)
  have HN := Lib.hid (And.intro hn hnc)
  clear R5 K5 H8 hn hnc
  go_wp2
  go_loopw [22] (fun u wr => ∃ (m : Nat) (ps : List ByteArray) (a : Option Addr) (q cp : Nat), m ≤ n ∧ u = .int .i64 (m : Int) ∧ ps.length = m ∧ (C → ps = L.p.take m) ∧ wr.ownsRow (w.heap.size + 2) 9 1 (.slice a q cp) m (scells ps) ∧ w.heap.size + 2 ≤ wr.heap.size ∧ Ge C w B w.heap.size (w.heap.size + 1) (rawL (L.p.drop m) ++ rest) I J sk sv (.slice a q cp) wr) (fun u _ => n - (intOf u).toNat)
  case atStart => exact ⟨0, [], none, 0, 0, by omega, rfl, rfl, fun _ => by simp, ⟨rfl, Or.inl ⟨rfl, rfl⟩⟩, by have := H9.out.lb.lt; omega, by simpa using H9.out⟩
  case round =>
    obtain ⟨m, ps, a, q, cp, hmn, rfl, hpl, hpc, hown, hsz, hge⟩ := hrel
    have hn256 := HN.out.1
    by_cases hlt : m < n
    · obtain ⟨D, hD⟩ : ∃ D, D = L.p.getD m ⟨#[]⟩ := ⟨_, rfl⟩
      have hge2 := hge.cast (rawL_drop L.p m n rest HN.out.2 hlt)
      rw [← hD] at hge2
      have HDC : Hid ((C → D.size = 32) ∧ (C → ps ++ [D] = L.p.take (m + 1))) := Lib.hid (by
        refine ⟨fun c => ?_, fun c => ?_⟩
        · have hl : m < L.p.length := by have := HN.out.2 c; omega
          rw [hD, List.getD_eq_getElem?_getD, List.getElem?_eq_getElem hl]
          exact (HM.out c).d _ (List.getElem_mem _)
        · have hl : m < L.p.length := by have := HN.out.2 c; omega
          rw [hpc c, List.take_succ_eq_append_getElem hl, hD, List.getD_eq_getElem?_getD, List.getElem?_eq_getElem hl]; rfl)
      have HL := Lib.hid (And.intro hlt (And.intro hpl hsz))
      have hm256 : m ≤ 256 := by omega
      have HQ := Lib.hid (And.intro hge2 hown)
      have c4 := hge.lb.c4
      have hmn' : (m : Int) < (n : Int) := by omega
      clear hge hge2 hown hpl hpc hsz hD hlt
      go_wp2
      obtain ⟨wd, hwd⟩ : ∃ z, z = wr.drew := ⟨_, rfl⟩
      have HD0 : Hid (Ge C w B w.heap.size (w.heap.size + 1) (nl D ++ (rawL (L.p.drop (m + 1)) ++ rest)) I J sk sv (.slice a q cp) wd ∧ wd.ownsRow (w.heap.size + 2) 9 1 (.slice a q cp) m (scells ps) ∧ w.heap.size + 2 ≤ wd.heap.size) := Lib.hid (by
        rw [hwd]
        exact ⟨HQ.out.1.below (Below.refl _ _).drew, own_belowB HQ.out.2 (Below.refl _ _).drew, HL.out.2.2⟩)
      refine Kq.wp_region_T 7 (fun cur => cur.cell? ⟨w.heap.size + 1, 4, none⟩ = some (.slice a q cp)) (by kernel_rfl) (by rw [← hwd]; exact HD0.out.1.lb.c4) (fun hS0 => ?_)
      rw [← hwd] at hS0 ⊢
      clear hwd c4 HQ
      refine Kq.wpAnyT_take (i := 0) (v := ?_) rfl rfl (by kernel_rfl) (by kernel_rfl) (by kernel_rfl) (by kernel_rfl) (fun _ _ _ h => h) (Or.inl ⟨by kernel_rfl, ?_⟩) (by assumption) ?_
      rotate_left
      · intro w hSw; (try dsimp only at hSw); go_simp; (try with_reducible rfl)
      refine Kq.wpAnyT_take (i := 2) (v := ?_) rfl rfl (by kernel_rfl) (by kernel_rfl) (by kernel_rfl) (by kernel_rfl) (fun _ _ _ h => h) (Or.inl ⟨by kernel_rfl, ?_⟩) (by assumption) ?_
      rotate_left
      · intro w hSw; (try dsimp only at hSw); go_simp; (try with_reducible rfl)
      refine Kq.wpAnyT_take (i := 1) (v := ?_) rfl rfl (by kernel_rfl) (by kernel_rfl) (by kernel_rfl) (by kernel_rfl) (fun _ _ _ h => h) (Or.inl ⟨by kernel_rfl, ?_⟩) (by assumption) ?_
      rotate_left
      · intro w hSw; (try dsimp only at hSw); go_simp; (try with_reducible rfl)
      refine Kq.wpAnyT_one (i := 3) (by kernel_rfl) rfl (fun K hK => ?_)
      go_simp
      refine (rc_raw C B wd 32 D _ HD0.out.1.rd HDC.out.1).mono ?_
      rintro x z1 ⟨d, hd, rfl, R1, K1⟩
      have HD1 : Hid (Ge C w B w.heap.size (w.heap.size + 1) (rawL (L.p.drop (m + 1)) ++ rest) I J sk sv (.slice a q cp) z1 ∧ z1.ownsRow (w.heap.size + 2) 9 1 (.slice a q cp) m (scells ps) ∧ w.heap.size + 2 ≤ z1.heap.size) := Lib.hid ⟨HD0.out.1.read R1 K1, own_keeps HD0.out.2.1 K1 (fun k hk => by have := HD0.out.1.ne; omega), Nat.le_trans HD0.out.2.2 K1.size⟩
      have HDD := Lib.hid hd
      clear R1 K1 HD0 hd hS0
      refine hK.out _ _ HD1.out.1.lb.c4 (fun hS0 => ?_)
      clear hK K
      refine Kq.wpAnyT_one (i := 4) (by kernel_rfl) rfl (fun K hK => ?_)
      go_simp
      have HD2 : Hid (Ge C w B w.heap.size (w.heap.size + 1) (rawL (L.p.drop (m + 1)) ++ rest) I J sk sv (.slice a q cp) (z1.alloc (.cells #[.string d] 9)) ∧ (z1.alloc (.cells #[.string d] 9)).ownsRow (w.heap.size + 2) 9 1 (.slice a q cp) m (scells ps) ∧ w.heap.size + 2 ≤ (z1.alloc (.cells #[.string d] 9)).heap.size) := Lib.hid ⟨HD1.out.1.below (Kq.below_alloc _ _), own_belowB HD1.out.2.1 (Kq.below_alloc _ _), Nat.le_trans HD1.out.2.2 (Kq.below_alloc _ _).size⟩
      have HSRC := Lib.hid (str_src z1 d)
      clear hS0 HD1
      refine hK.out _ _ HD2.out.1.lb.c4 (fun hS0 => ?_)
      clear hK K
      refine Kq.wpAnyT_one (i := 5) (by kernel_rfl) rfl (fun K hK => ?_)
      rw [if_pos (by kernel_rfl)]
      refine Kq.wp_append_any _ (.tmp 25) (.tmp 28) 28 28 rfl (w.heap.size + 2) 9 i0 (.string ⟨#[]⟩) 1 16 Tryd.underlying28 hi0 hz0 hz1 hz2 rfl (by decide) (.slice a q cp) m (scells ps) (by kernel_rfl) HD2.out.2.1 (.slice (some ⟨z1.heap.size, 0, none⟩) 1 1) 1 (scells [d]) (by kernel_rfl) HSRC.out ?e1 ?e2 HD2.out.2.2 ?_
      case e1 => unfold maxLen; omega
      case e2 => omega
      intro v' z3 hown3 hgrow hfresh
      obtain ⟨a', q', cp', hv'⟩ := Kq.own_shape hown3
      subst hv'
      have hk3 : Kq.Keeps (fun g => w.heap.size + 2 ≤ g) (z1.alloc (.cells #[.string d] 9)) z3 := Kq.Keeps.grown hgrow (fun g _ hg => own_geB HD2.out.2.1 hg)
      have HD3 : Hid (Ge C w B w.heap.size (w.heap.size + 1) (rawL (L.p.drop (m + 1)) ++ rest) I J sk sv (.slice a q cp) z3 ∧ z3.ownsRow (w.heap.size + 2) 9 1 (.slice a' q' cp') (m + 1) (scells (ps ++ [d])) ∧ w.heap.size + 2 ≤ z3.heap.size) := Lib.hid ⟨HD2.out.1.far hk3 (by omega) (by omega), by rw [scells_snoc]; exact hown3, Nat.le_trans HD2.out.2.2 hk3.size⟩
      clear hown3 hgrow hfresh hk3 HD2 HSRC hS0
      refine hK.out _ _ HD3.out.1.lb.c4 (fun hS0 => ?_)
      clear hK K
      refine Kq.wpAnyT_take (i := 6) (v := ?_) rfl rfl (by kernel_rfl) (by kernel_rfl) (by kernel_rfl) (by kernel_rfl) (fun _ _ _ h => h) (Or.inl ⟨by kernel_rfl, ?_⟩) (by assumption) ?_
      rotate_left
      · intro w hSw; (try dsimp only at hSw); go_simp; (try with_reducible rfl)
      have f4 := HD3.out.1.lb.fz 4
      have c4 := HD3.out.1.lb.c4
      refine Kq.wpAnyT_last (by kernel_rfl) rfl (fun K hK => ?_)
      go_simp
      refine hK.out _ _ ?_
      clear hK K
      refine Kq.wpAnyT_done (by kernel_rfl) ?_ _
      have HD4 : Hid (Ge C w B w.heap.size (w.heap.size + 1) (rawL (L.p.drop (m + 1)) ++ rest) I J sk sv (.slice a' q' cp') (z3.setCell ⟨w.heap.size + 1, 4, none⟩ (.slice a' q' cp')) ∧ (z3.setCell ⟨w.heap.size + 1, 4, none⟩ (.slice a' q' cp')).ownsRow (w.heap.size + 2) 9 1 (.slice a' q' cp') (m + 1) (scells (ps ++ [d])) ∧ w.heap.size + 2 ≤ (z3.setCell ⟨w.heap.size + 1, 4, none⟩ (.slice a' q' cp')).heap.size) := Lib.hid ⟨HD3.out.1.set 4 _ (HD3.out.1.lb.s4 _), own_keeps HD3.out.2.1 (Kq.Keeps.setCell (S := (· = w.heap.size + 1)) _ _ _ rfl) (fun k hk => by omega), by have := HD3.out.2.2; simpa using this⟩
      obtain ⟨wz, hwz⟩ : ∃ z, z = z3.setCell ⟨w.heap.size + 1, 4, none⟩ (.slice a' q' cp') := ⟨_, rfl⟩
      rw [← hwz] at HD4
      (try rw [← hwz])
      clear hwz HD3 f4 c4 hS0
      go_wp2
      go_roundw
      case rel => exact ⟨m + 1, ps ++ [d], a', q', cp', HL.out.1, by go_num, by rw [List.length_append, HL.out.2.1]; rfl, fun c => by rw [HDD.out c]; exact HDC.out.2 c, HD4.out.2.1, HD4.out.2.2, HD4.out.1⟩
      case measure => have := HL.out.1; simp [intOf]; omega
    · obtain rfl : m = n := by omega
      have HEND : Hid (∃ A cap, Value.slice a q cp = .slice A ps.length cap ∧ ps.length ≤ cap ∧ TxN wr (fun k => k < w.heap.size + 2) A ps) := Lib.hid (by
        rw [← hpl] at hown
        exact row_txn hown (fun k hk => by omega))
      obtain ⟨A, cap, hs, hcap, htx⟩ := HEND.out
      injection hs with e1 e2 e3
      subst e1 e2 e3
      have HE := Lib.hid (And.intro htx (And.intro hcap (And.intro hpl (And.intro hpc hge))))
      have c0 := hge.lb.c0
      have c1 := hge.lb.c1
      have c2 := hge.lb.c2
      have c3 := hge.lb.c3
      have c4 := hge.lb.c4
      have r0 := hge.rb.c0
      have r1 := hge.rb.c1
      have r2 := hge.rb.c2
      have r3 := hge.rb.c3
      have r4 := hge.rb.c4
      have g0 := hge.rb.fz 0
      have g1 := hge.rb.fz 1
      have g2 := hge.rb.fz 2
      have g3 := hge.rb.fz 3
      have g4 := hge.rb.fz 4
      clear HEND hge hown hpl hpc hcap htx hmn
      go_wp2
      have p1 := HE.out.2.2.2.2.rb.fill I J sk sv (.slice a ps.length cp)
      have p2 := filled5_keeps wr w.heap.size I J sk sv (.slice a ps.length cp)
      obtain ⟨Wf, hWf⟩ : ∃ Wf, Wf = filled5 wr w.heap.size I J sk sv (.slice a ps.length cp) := ⟨_, rfl⟩
      change bodyPost _ _ _ _ _ (filled5 wr w.heap.size I J sk sv (.slice a ps.length cp))
      rw [← hWf] at p1 p2 ⊢
      have z0 := p1.c0
      have z1 := p1.c1
      have z2 := p1.c2
      have z3 := p1.c3
      have z4 := p1.c4
      refine bodyPost_ret (v := .agg #[.int .i64 I, .int .i64 J, .string sk, .string sv, .slice a ps.length cp]) (by simp [results, Tryd.results38, go_sem, z0, z1, z2, z3, z4]) rfl ?_
      refine LfPost.mk' ⟨⟨I, J, sk, sv, ps⟩, a, cp⟩ (fun c => ?_) ?_ HE.out.2.1 ?_ ?_ ?_ rfl
      · have e := HE.out.2.2.2.1 c
        have hnl := HN.out.2 c
        rw [hnl, List.take_length] at e
        rw [e, HI.out c, HJ.out c, HSK.out c, HSV.out c]
      · have := HE.out.2.2.1; show ps.length ≤ 300; omega
      · exact (HE.out.1.keeps p2 (fun k _ hk => by omega)).mono (fun k _ hk => by omega)
      · have := HE.out.2.2.2.2.rd.keeps p2 (by have := HE.out.2.2.2.2.ne; omega)
        exact this.cast (fun c => by rw [HN.out.2 c, List.drop_length]; rfl)
      · exact keeps_far HE.out.2.2.2.2.keeps p2 (fun k hk => by omega)
end Go.Proofs.YtclloplkbajebaaDoor
