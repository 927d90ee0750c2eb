/- Merged: RcM, RcGet. Mathematics of records. No condition. Contract of record's get on a state's record's own bytes. Condition: what stands there. -/
import Derived.Test.YtkbiolhcpghmkaaGreatNtRefPQ
import Derived.Test.YtkbiolhcpghmkaaGreatTbOfQ
import Derived.WalkSpells
import Derived.Outline
import Derived.Test.YtkbiolhcpghmkaaGreatNtPlRQ
import Derived.Test.YtkbiolhcpghmkaaGreatNtTellQ
namespace Go.Proofs.YtkbiolhcpghmkaaGreat
open Go.RowKit Go.Kq
set_option linter.unusedVariables false
/-- a place -/
structure PlV where
  h : Int
  i : Int
def PlV.wf (p : PlV) : Prop := (Lit.int .u64 p.h).wf = true ∧ (Lit.int .i64 p.i).wf = true
theorem PlV.wf.range {p : PlV} (h : p.wf) : 0 ≤ p.h ∧ p.h < 18446744073709551616 := by
  have h1 := h.1
  simp [Lit.wf, IntKind.min, IntKind.max, IntKind.signed, IntKind.bits] at h1; omega
def PlV.ok (p : PlV) : Prop := 0 ≤ p.i ∧ p.i ≤ 65535
def PlV.b (p : PlV) : List Nat := num8 p.h.toNat ++ num8 p.i.toNat
instance (p : PlV) : Decidable p.ok := by unfold PlV.ok; infer_instance
instance : DecidableEq PlV := fun a b => decidable_of_iff (a.h = b.h ∧ a.i = b.i) ⟨fun h => by cases a; cases b; simp only at h; rw [h.1, h.2], fun h => by rw [h]; exact ⟨rfl, rfl⟩⟩
/-- a state; its list -/
structure DaV where
  p0 : PlV
  p1 : PlV
  l : List NtV
/-- a record -/
structure ReV where
  k : Int
  d : DaV
  c : Int
  p : PlV
  ns : List NtV
def PlV.z : PlV := ⟨0, 0⟩
/-- is there such a kind, all else zero, and not too much of it? -/
def MayR (r : ReV) : Prop := (r.k = 1 ∧ r.c = 0 ∧ r.p = PlV.z ∧ r.ns.length = 0 ∧ r.d.l.length ≤ 40) ∨ (r.k = 2 ∧ (r.d.p0 = PlV.z ∧ r.d.p1 = PlV.z) ∧ r.d.l.length = 0 ∧ (r.c = 0 ∨ r.c = 1) ∧ r.ns.length ≤ 16)
instance (r : ReV) : Decidable (MayR r) := by unfold MayR; infer_instance
/-- a record that has bytes -/
def RecOk (r : ReV) : Prop := MayR r ∧ (r.k = 1 → r.d.p0.ok ∧ r.d.p1.ok ∧ ∀ n ∈ r.d.l, EnOk [1, 2] n) ∧ (r.k = 2 → r.p.ok ∧ ∀ n ∈ r.ns, EnOk [1, 2, 3, 4] n)
end Go.Proofs.YtkbiolhcpghmkaaGreat
namespace Go.Proofs.YtkbiolhcpghmkaaGreat
open Go.RowKit
set_option linter.unusedVariables false
set_option maxRecDepth 100000 in
theorem rec_need (X : Nat) (w : World) : Calls Tryz.prog 74 #[.bool true, .pointer (some ⟨X, 0, none⟩)] w fun x w' => x = .returned (.tuple #[]) ∧ w' = w := by
  go_enter Tryz.func74, Tryz.ntmps74
  go_wp2
  first | go_end0 | refine bodyPost_ret (results_none rfl _ _ _) rfl ?_
  exact ⟨rfl, rfl⟩
/-- a record stored into a block -/
def fillRc (w : World) (X : Nat) (v0 v1 v2 v3 v4 v5 v6 v7 v8 v9 : Value) : World := ((((((((((w.setCell ⟨X, 0, none⟩ (v0)).setCell ⟨X, 1, none⟩ (v1)).setCell ⟨X, 2, none⟩ (v2)).setCell ⟨X, 3, none⟩ (v3)).setCell ⟨X, 4, none⟩ (v4)).setCell ⟨X, 5, none⟩ (v5)).setCell ⟨X, 6, none⟩ (v6)).setCell ⟨X, 7, none⟩ (v7)).setCell ⟨X, 8, none⟩ (v8)).setCell ⟨X, 9, none⟩ (v9))
theorem fillRc_blk {w : World} {X : Nat} {a0 a1 a2 a3 a4 a5 a6 a7 a8 a9 : Value} {T : TypeId} (h : w.heap[X]? = some (.cells #[a0, a1, a2, a3, a4, a5, a6, a7, a8, a9] T (0, 0))) (v0 v1 v2 v3 v4 v5 v6 v7 v8 v9 : Value) : (fillRc w X v0 v1 v2 v3 v4 v5 v6 v7 v8 v9).heap[X]? = some (.cells #[v0, v1, v2, v3, v4, v5, v6, v7, v8, v9] T (0, 0)) := by
  have h0 : (w.setCell ⟨X, 0, none⟩ v0).heap[X]? = some (.cells #[v0, a1, a2, a3, a4, a5, a6, a7, a8, a9] T (0, 0)) := Kq.blk_set h 0 v0
  have h1 : ((w.setCell ⟨X, 0, none⟩ v0).setCell ⟨X, 1, none⟩ v1).heap[X]? = some (.cells #[v0, v1, a2, a3, a4, a5, a6, a7, a8, a9] T (0, 0)) := Kq.blk_set h0 1 v1
  have h2 : (((w.setCell ⟨X, 0, none⟩ v0).setCell ⟨X, 1, none⟩ v1).setCell ⟨X, 2, none⟩ v2).heap[X]? = some (.cells #[v0, v1, v2, a3, a4, a5, a6, a7, a8, a9] T (0, 0)) := Kq.blk_set h1 2 v2
  have h3 : ((((w.setCell ⟨X, 0, none⟩ v0).setCell ⟨X, 1, none⟩ v1).setCell ⟨X, 2, none⟩ v2).setCell ⟨X, 3, none⟩ v3).heap[X]? = some (.cells #[v0, v1, v2, v3, a4, a5, a6, a7, a8, a9] T (0, 0)) := Kq.blk_set h2 3 v3
  have h4 : (((((w.setCell ⟨X, 0, none⟩ v0).setCell ⟨X, 1, none⟩ v1).setCell ⟨X, 2, none⟩ v2).setCell ⟨X, 3, none⟩ v3).setCell ⟨X, 4, none⟩ v4).heap[X]? = some (.cells #[v0, v1, v2, v3, v4, a5, a6, a7, a8, a9] T (0, 0)) := Kq.blk_set h3 4 v4
  have h5 : ((((((w.setCell ⟨X, 0, none⟩ v0).setCell ⟨X, 1, none⟩ v1).setCell ⟨X, 2, none⟩ v2).setCell ⟨X, 3, none⟩ v3).setCell ⟨X, 4, none⟩ v4).setCell ⟨X, 5, none⟩ v5).heap[X]? = some (.cells #[v0, v1, v2, v3, v4, v5, a6, a7, a8, a9] T (0, 0)) := Kq.blk_set h4 5 v5
  have h6 : (((((((w.setCell ⟨X, 0, none⟩ v0).setCell ⟨X, 1, none⟩ v1).setCell ⟨X, 2, none⟩ v2).setCell ⟨X, 3, none⟩ v3).setCell ⟨X, 4, none⟩ v4).setCell ⟨X, 5, none⟩ v5).setCell ⟨X, 6, none⟩ v6).heap[X]? = some (.cells #[v0, v1, v2, v3, v4, v5, v6, a7, a8, a9] T (0, 0)) := Kq.blk_set h5 6 v6
  have h7 : ((((((((w.setCell ⟨X, 0, none⟩ v0).setCell ⟨X, 1, none⟩ v1).setCell ⟨X, 2, none⟩ v2).setCell ⟨X, 3, none⟩ v3).setCell ⟨X, 4, none⟩ v4).setCell ⟨X, 5, none⟩ v5).setCell ⟨X, 6, none⟩ v6).setCell ⟨X, 7, none⟩ v7).heap[X]? = some (.cells #[v0, v1, v2, v3, v4, v5, v6, v7, a8, a9] T (0, 0)) := Kq.blk_set h6 7 v7
  have h8 : (((((((((w.setCell ⟨X, 0, none⟩ v0).setCell ⟨X, 1, none⟩ v1).setCell ⟨X, 2, none⟩ v2).setCell ⟨X, 3, none⟩ v3).setCell ⟨X, 4, none⟩ v4).setCell ⟨X, 5, none⟩ v5).setCell ⟨X, 6, none⟩ v6).setCell ⟨X, 7, none⟩ v7).setCell ⟨X, 8, none⟩ v8).heap[X]? = some (.cells #[v0, v1, v2, v3, v4, v5, v6, v7, v8, a9] T (0, 0)) := Kq.blk_set h7 8 v8
  have h9 : ((((((((((w.setCell ⟨X, 0, none⟩ v0).setCell ⟨X, 1, none⟩ v1).setCell ⟨X, 2, none⟩ v2).setCell ⟨X, 3, none⟩ v3).setCell ⟨X, 4, none⟩ v4).setCell ⟨X, 5, none⟩ v5).setCell ⟨X, 6, none⟩ v6).setCell ⟨X, 7, none⟩ v7).setCell ⟨X, 8, none⟩ v8).setCell ⟨X, 9, none⟩ v9).heap[X]? = some (.cells #[v0, v1, v2, v3, v4, v5, v6, v7, v8, v9] T (0, 0)) := Kq.blk_set h8 9 v9
  exact h9
theorem fillRc_keeps (w : World) (X : Nat) (v0 v1 v2 v3 v4 v5 v6 v7 v8 v9 : Value) : Kq.Keeps (· = X) w (fillRc w X v0 v1 v2 v3 v4 v5 v6 v7 v8 v9) := by
  unfold fillRc
  exact (((((((((Kq.Keeps.setCell (S := (· = X)) _ _ _ rfl).trans (Kq.Keeps.setCell (S := (· = X)) _ _ _ rfl)).trans (Kq.Keeps.setCell (S := (· = X)) _ _ _ rfl)).trans (Kq.Keeps.setCell (S := (· = X)) _ _ _ rfl)).trans (Kq.Keeps.setCell (S := (· = X)) _ _ _ rfl)).trans (Kq.Keeps.setCell (S := (· = X)) _ _ _ rfl)).trans (Kq.Keeps.setCell (S := (· = X)) _ _ _ rfl)).trans (Kq.Keeps.setCell (S := (· = X)) _ _ _ rfl)).trans (Kq.Keeps.setCell (S := (· = X)) _ _ _ rfl)).trans (Kq.Keeps.setCell (S := (· = X)) _ _ _ rfl)
/-- a record under way: the reader, the box that the closure caught, the result, what is told so far -/
structure Gs (w w' : World) (B T : Nat) (rest : List Nat) (cs : Array Value) : Prop where
  rd : RdL w' B rest
  x : w'.heap[w.heap.size]? = some (.cells #[.pointer (some ⟨B, 0, none⟩)] 118 (0, 0))
  r : w'.heap[w.heap.size + 1]? = some (.cells #[.int .i64 0, .int .u64 0, .int .i64 0, .int .u64 0, .int .i64 0, .slice none 0 0, .int .i64 0, .int .u64 0, .int .i64 0, .slice none 0 0] 31 (0, 0))
  t : w'.heap[T]? = some (.cells cs 31 (0, 0))
  kp : Kq.Keeps (· = B) w w'
  ht : w.heap.size + 1 < T
  hb : B < w.heap.size
theorem Gs.step {w a b : World} {B T : Nat} {rest rest' : List Nat} {cs : Array Value} (h : Gs w a B T rest cs) (hr : RdL b B rest') (hk : Kq.Keeps (· = B) a b) : Gs w b B T rest' cs :=
  ⟨hr, hk.blk h.x (fun e => by have e2 : w.heap.size = B := e; have := h.hb; omega), hk.blk h.r (fun e => by have e2 : w.heap.size + 1 = B := e; have := h.hb; omega), hk.blk h.t (fun e => by have e2 : T = B := e; have := h.hb; have := h.ht; omega), h.kp.trans hk, h.ht, h.hb⟩
theorem Gs.set {w a : World} {B T : Nat} {rest : List Nat} {cs : Array Value} (h : Gs w a B T rest cs) (i : Nat) (v : Value) : Gs w (a.setCell ⟨T, i, none⟩ v) B T rest (cs.setIfInBounds i v) := by
  have hk : Kq.Keeps (· = T) a (a.setCell ⟨T, i, none⟩ v) := Kq.Keeps.setCell _ _ _ rfl
  have h1 := h.ht
  have h2 := h.hb
  refine ⟨h.rd.keeps hk (fun e => by have e2 : B = T := e; omega), hk.blk h.x (fun e => by have e2 : w.heap.size = T := e; omega), hk.blk h.r (fun e => by have e2 : w.heap.size + 1 = T := e; omega), Kq.blk_set h.t i v, ?_, h.ht, h.hb⟩
  exact ⟨hk.os.trans h.kp.os, hk.tape.trans h.kp.tape, hk.output.trans h.kp.output, Nat.le_trans h.kp.size hk.size, fun k hk1 hn => by
    rw [hk.block k (Nat.lt_of_lt_of_le hk1 h.kp.size) (fun e => by have e2 : k = T := e; omega), h.kp.block k hk1 hn]⟩
set_option maxRecDepth 100000 in
set_option maxHeartbeats 4000000 in
theorem rec_get1 (B h0 i0 h1 i1 : Nat) (l : List NtV) (rest : List Nat) (w : World) (h : RdL w B ([1] ++ (num8 h0 ++ (num8 i0 ++ (num8 h1 ++ (num8 i1 ++ ([l.length] ++ (encL l ++ rest)))))))) (hb0 : h0 < 18446744073709551616) (hb1 : h1 < 18446744073709551616) (hi0 : i0 ≤ 65535) (hi1 : i1 ≤ 65535) (hlw : ∀ n ∈ l, n.wf) (hl : l.length ≤ 40) (hok : ∀ n ∈ l, EnOk [1, 2] n) :
    Calls Tryz.prog 60 #[.pointer (some ⟨B, 0, none⟩)] w fun x w' => ∃ A c, x = .returned (.agg #[.int .i64 1, .int .u64 (h0 : Int), .int .i64 (i0 : Int), .int .u64 (h1 : Int), .int .i64 (i1 : Int), .slice A l.length c, .int .i64 0, .int .u64 0, .int .i64 0, .slice none 0 0]) ∧ EnAt NtV.ic w' A l ∧ RdL w' B rest ∧ Kq.Keeps (· = B) w w' ∧ ∀ b off, A = some ⟨b, off, none⟩ → w.heap.size ≤ b := by
  have HH := Lib.hid (And.intro hb0 (And.intro hb1 (And.intro hi0 (And.intro hi1 (And.intro hlw (And.intro hl hok))))))
  have HBL := Lib.hid h.lt
  obtain ⟨w1, hw1⟩ : ∃ z, z = (w.alloc (.cells #[.pointer (some ⟨B, 0, none⟩)] 118)).alloc (.cells #[.int .i64 0, .int .u64 0, .int .i64 0, .int .u64 0, .int .i64 0, .slice none 0 0, .int .i64 0, .int .u64 0, .int .i64 0, .slice none 0 0] 31) := ⟨_, rfl⟩
  have H1 : Hid (Below w.heap.size w w1 ∧ w1.heap[w.heap.size]? = some (.cells #[.pointer (some ⟨B, 0, none⟩)] 118 (0, 0)) ∧ w1.heap[w.heap.size + 1]? = some (.cells #[.int .i64 0, .int .u64 0, .int .i64 0, .int .u64 0, .int .i64 0, .slice none 0 0, .int .i64 0, .int .u64 0, .int .i64 0, .slice none 0 0] 31 (0, 0))) := Lib.hid (by
    have ha := Kq.below_alloc w (.cells #[.pointer (some ⟨B, 0, none⟩)] 118)
    have hra := Kq.blk_new w #[.pointer (some ⟨B, 0, none⟩)] 118 (0, 0)
    have hb := Kq.below_alloc (w.alloc (.cells #[.pointer (some ⟨B, 0, none⟩)] 118)) (.cells #[.int .i64 0, .int .u64 0, .int .i64 0, .int .u64 0, .int .i64 0, .slice none 0 0, .int .i64 0, .int .u64 0, .int .i64 0, .slice none 0 0] 31)
    have hrb := Kq.blk_new (w.alloc (.cells #[.pointer (some ⟨B, 0, none⟩)] 118)) #[.int .i64 0, .int .u64 0, .int .i64 0, .int .u64 0, .int .i64 0, .slice none 0 0, .int .i64 0, .int .u64 0, .int .i64 0, .slice none 0 0] 31 (0, 0)
    rw [World.size_alloc] at hrb
    rw [← hw1] at hb hrb
    exact ⟨ha.trans (hb.mono ha.size), Kq.below_blk hb hra (Kq.blk_lt hra), hrb⟩)
  have HR1 := Lib.hid (h.below H1.out.1)
  have c0 := Kq.blk_cell H1.out.2.1 0
  clear h hb0 hb1 hi0 hi1 hlw hl hok
  rw [hw1] at c0
  go_enter Tryz.func60, Tryz.ntmps60
  go_wp2_with fail
  rw [← hw1]
  clear c0 hw1
  refine (rl_byte B 1 _ w1 HR1.out).mono ?_
  rintro x w2 ⟨rfl, hr2, k2⟩
  have hbn : ∀ k, k = B → k < w.heap.size := fun k e => by rw [e]; exact HBL.out
  have HNE : Hid (w.heap.size ≠ B ∧ w.heap.size + 1 ≠ B) := Lib.hid (by have := HBL.out; omega)
  have H2 : Hid (RdL w2 B (num8 h0 ++ (num8 i0 ++ (num8 h1 ++ (num8 i1 ++ ([l.length] ++ (encL l ++ rest)))))) ∧ w2.heap[w.heap.size]? = some (.cells #[.pointer (some ⟨B, 0, none⟩)] 118 (0, 0)) ∧ w2.heap[w.heap.size + 1]? = some (.cells #[.int .i64 0, .int .u64 0, .int .i64 0, .int .u64 0, .int .i64 0, .slice none 0 0, .int .i64 0, .int .u64 0, .int .i64 0, .slice none 0 0] 31 (0, 0)) ∧ Kq.Keeps (· = B) w w2) := Lib.hid ⟨hr2, k2.blk H1.out.2.1 HNE.out.1, k2.blk H1.out.2.2 HNE.out.2, (Kq.Keeps.of_below H1.out.1 (fun k h1 h2 => absurd h2 (Nat.not_lt.2 h1))).trans k2⟩
  clear hr2 k2 HR1 H1
  obtain ⟨T, hT⟩ : ∃ T, T = w2.heap.size := ⟨_, rfl⟩
  have G3 : Hid (Gs w (w2.alloc (.cells #[.int .i64 1, .int .u64 0, .int .i64 0, .int .u64 0, .int .i64 0, .slice none 0 0, .int .i64 0, .int .u64 0, .int .i64 0, .slice none 0 0] 31)) B T (num8 h0 ++ (num8 i0 ++ (num8 h1 ++ (num8 i1 ++ ([l.length] ++ (encL l ++ rest)))))) #[.int .i64 1, .int .u64 0, .int .i64 0, .int .u64 0, .int .i64 0, .slice none 0 0, .int .i64 0, .int .u64 0, .int .i64 0, .slice none 0 0]) := Lib.hid (by
    have hb := Kq.below_alloc w2 (.cells #[.int .i64 1, .int .u64 0, .int .i64 0, .int .u64 0, .int .i64 0, .slice none 0 0, .int .i64 0, .int .u64 0, .int .i64 0, .slice none 0 0] 31)
    have hr := Kq.blk_new w2 #[.int .i64 1, .int .u64 0, .int .i64 0, .int .u64 0, .int .i64 0, .slice none 0 0, .int .i64 0, .int .u64 0, .int .i64 0, .slice none 0 0] 31 (0, 0)
    rw [← hT] at hr
    exact ⟨H2.out.1.below hb, Kq.below_blk hb H2.out.2.1 (Kq.blk_lt H2.out.2.1), Kq.below_blk hb H2.out.2.2.1 (Kq.blk_lt H2.out.2.2.1), hr, H2.out.2.2.2.trans (Kq.Keeps.of_below hb (fun k h1 h2 => absurd h2 (Nat.not_lt.2 h1))), by rw [hT]; exact Kq.blk_lt H2.out.2.2.1, HBL.out⟩)
  have x0 := Kq.blk_cell G3.out.x 0
  go_wp2_with fail
  rw [← hT]
  obtain ⟨w3, hw3⟩ : ∃ z, z = w2.alloc (.cells #[.int .i64 1, .int .u64 0, .int .i64 0, .int .u64 0, .int .i64 0, .slice none 0 0, .int .i64 0, .int .u64 0, .int .i64 0, .slice none 0 0] 31) := ⟨_, rfl⟩
  rw [← hw3] at G3 ⊢
  clear hw3 hT H2 x0
  refine (nt_place_read B h0 i0 _ w3 G3.out.rd HH.out.1 HH.out.2.2.1).mono ?_
  rintro x w4 ⟨rfl, hr4, k4⟩
  have G4 := Lib.hid (G3.out.step hr4 k4)
  clear hr4 k4 G3
  have G5 : Hid (Gs w ((w4.setCell ⟨T, 1, none⟩ (.int .u64 (h0 : Int))).setCell ⟨T, 2, none⟩ (.int .i64 (i0 : Int))) B T (num8 h1 ++ (num8 i1 ++ ([l.length] ++ (encL l ++ rest)))) #[.int .i64 1, .int .u64 (h0 : Int), .int .i64 (i0 : Int), .int .u64 0, .int .i64 0, .slice none 0 0, .int .i64 0, .int .u64 0, .int .i64 0, .slice none 0 0]) := Lib.hid ((G4.out.set 1 (.int .u64 (h0 : Int))).set 2 (.int .i64 (i0 : Int)))
  have y0 := Kq.blk_cell G4.out.t 1
  have y1 := Kq.blk_cell G4.out.t 2
  have y1' := Kq.blk_cell (G4.out.set 1 (.int .u64 (h0 : Int))).t 2
  have k0 := Kq.blk_free G4.out.t 1
  have k1 := Kq.blk_free G4.out.t 2
  have k1' := Kq.blk_free (G4.out.set 1 (.int .u64 (h0 : Int))).t 2
  have x0 := Kq.blk_cell G5.out.x 0
  go_wp2_with fail
  clear y0 y1 y1' k0 k1 k1' x0 G4
  obtain ⟨w5, hw5⟩ : ∃ z, z = (w4.setCell ⟨T, 1, none⟩ (.int .u64 (h0 : Int))).setCell ⟨T, 2, none⟩ (.int .i64 (i0 : Int)) := ⟨_, rfl⟩
  rw [← hw5] at G5 ⊢
  clear hw5
  refine (nt_place_read B h1 i1 _ w5 G5.out.rd HH.out.2.1 HH.out.2.2.2.1).mono ?_
  rintro x w6 ⟨rfl, hr6, k6⟩
  have G6 := Lib.hid (G5.out.step hr6 k6)
  clear hr6 k6 G5
  have G7 : Hid (Gs w ((w6.setCell ⟨T, 3, none⟩ (.int .u64 (h1 : Int))).setCell ⟨T, 4, none⟩ (.int .i64 (i1 : Int))) B T ([l.length] ++ (encL l ++ rest)) #[.int .i64 1, .int .u64 (h0 : Int), .int .i64 (i0 : Int), .int .u64 (h1 : Int), .int .i64 (i1 : Int), .slice none 0 0, .int .i64 0, .int .u64 0, .int .i64 0, .slice none 0 0]) := Lib.hid ((G6.out.set 3 (.int .u64 (h1 : Int))).set 4 (.int .i64 (i1 : Int)))
  have y0 := Kq.blk_cell G6.out.t 3
  have y1 := Kq.blk_cell G6.out.t 4
  have y1' := Kq.blk_cell (G6.out.set 3 (.int .u64 (h1 : Int))).t 4
  have k0 := Kq.blk_free G6.out.t 3
  have k1 := Kq.blk_free G6.out.t 4
  have k1' := Kq.blk_free (G6.out.set 3 (.int .u64 (h1 : Int))).t 4
  have x0 := Kq.blk_cell G7.out.x 0
  go_wp2_with fail
  clear y0 y1 y1' k0 k1 k1' x0 G6
  obtain ⟨w7, hw7⟩ : ∃ z, z = (w6.setCell ⟨T, 3, none⟩ (.int .u64 (h1 : Int))).setCell ⟨T, 4, none⟩ (.int .i64 (i1 : Int)) := ⟨_, rfl⟩
  rw [← hw7] at G7 ⊢
  clear hw7
  refine (it_itemsN B l rest w7 G7.out.rd HH.out.2.2.2.2.1 (by have := HH.out.2.2.2.2.2.1; omega) HH.out.2.2.2.2.2.2).mono ?_
  rintro x w8 ⟨A, c, rfl, hat, hr8, k8, hfr⟩
  have G8 := Lib.hid (G7.out.step hr8 k8)
  have G9 : Hid (Gs w (w8.setCell ⟨T, 5, none⟩ (.slice A l.length c)) B T rest #[.int .i64 1, .int .u64 (h0 : Int), .int .i64 (i0 : Int), .int .u64 (h1 : Int), .int .i64 (i1 : Int), .slice A l.length c, .int .i64 0, .int .u64 0, .int .i64 0, .slice none 0 0]) := Lib.hid (G8.out.set 5 (.slice A l.length c))
  have HAT : Hid (EnAt NtV.ic w8 A l ∧ (∀ b off, A = some ⟨b, off, none⟩ → w7.heap.size ≤ b) ∧ T < w7.heap.size) := Lib.hid ⟨hat, hfr, Kq.blk_lt G7.out.t⟩
  clear hat hfr hr8 k8 G7
  have y0 := Kq.blk_cell G8.out.t 5
  have k0 := Kq.blk_free G8.out.t 5
  have y5 := Kq.blk_cell G9.out.t 5
  have e4 : decide ((l.length : Int) ≤ 40) = true := decide_eq_true (by have := HH.out.2.2.2.2.2.1; omega)
  have e4' : decide (l.length ≤ 40) = true := decide_eq_true HH.out.2.2.2.2.2.1
  go_wp2_with fail
  clear y0 k0 y5 G8 e4 e4'
  obtain ⟨w9, hw9⟩ : ∃ z, z = w8.setCell ⟨T, 5, none⟩ (.slice A l.length c) := ⟨_, rfl⟩
  have HW9 := Lib.hid hw9
  rw [← hw9] at G9 ⊢
  clear hw9
  refine (rec_need w.heap.size w9).mono ?_
  rintro x w10 ⟨rfl, hw10⟩
  subst hw10
  have t0 := Kq.blk_cell G9.out.t 0
  have t1 := Kq.blk_cell G9.out.t 1
  have t2 := Kq.blk_cell G9.out.t 2
  have t3 := Kq.blk_cell G9.out.t 3
  have t4 := Kq.blk_cell G9.out.t 4
  have t5 := Kq.blk_cell G9.out.t 5
  have t6 := Kq.blk_cell G9.out.t 6
  have t7 := Kq.blk_cell G9.out.t 7
  have t8 := Kq.blk_cell G9.out.t 8
  have t9 := Kq.blk_cell G9.out.t 9
  have r0 := Kq.blk_cell G9.out.r 0
  have u0 := Kq.blk_free G9.out.r 0
  have r1 := Kq.blk_cell G9.out.r 1
  have u1 := Kq.blk_free G9.out.r 1
  have r2 := Kq.blk_cell G9.out.r 2
  have u2 := Kq.blk_free G9.out.r 2
  have r3 := Kq.blk_cell G9.out.r 3
  have u3 := Kq.blk_free G9.out.r 3
  have r4 := Kq.blk_cell G9.out.r 4
  have u4 := Kq.blk_free G9.out.r 4
  have r5 := Kq.blk_cell G9.out.r 5
  have u5 := Kq.blk_free G9.out.r 5
  have r6 := Kq.blk_cell G9.out.r 6
  have u6 := Kq.blk_free G9.out.r 6
  have r7 := Kq.blk_cell G9.out.r 7
  have u7 := Kq.blk_free G9.out.r 7
  have r8 := Kq.blk_cell G9.out.r 8
  have u8 := Kq.blk_free G9.out.r 8
  have r9 := Kq.blk_cell G9.out.r 9
  have u9 := Kq.blk_free G9.out.r 9
  go_wp2
  clear t0 r0 u0 t1 r1 u1 t2 r2 u2 t3 r3 u3 t4 r4 u4 t5 r5 u5 t6 r6 u6 t7 r7 u7 t8 r8 u8 t9 r9 u9
  change bodyPost _ _ _ _ _ (fillRc w10 (w.heap.size + 1) (.int .i64 1) (.int .u64 (h0 : Int)) (.int .i64 (i0 : Int)) (.int .u64 (h1 : Int)) (.int .i64 (i1 : Int)) (.slice A l.length c) (.int .i64 0) (.int .u64 0) (.int .i64 0) (.slice none 0 0))
  have p1' := fillRc_blk G9.out.r (.int .i64 1) (.int .u64 (h0 : Int)) (.int .i64 (i0 : Int)) (.int .u64 (h1 : Int)) (.int .i64 (i1 : Int)) (.slice A l.length c) (.int .i64 0) (.int .u64 0) (.int .i64 0) (.slice none 0 0)
  have p2' := fillRc_keeps w10 (w.heap.size + 1) (.int .i64 1) (.int .u64 (h0 : Int)) (.int .i64 (i0 : Int)) (.int .u64 (h1 : Int)) (.int .i64 (i1 : Int)) (.slice A l.length c) (.int .i64 0) (.int .u64 0) (.int .i64 0) (.slice none 0 0)
  generalize fillRc w10 (w.heap.size + 1) (.int .i64 1) (.int .u64 (h0 : Int)) (.int .i64 (i0 : Int)) (.int .u64 (h1 : Int)) (.int .i64 (i1 : Int)) (.slice A l.length c) (.int .i64 0) (.int .u64 0) (.int .i64 0) (.slice none 0 0) = z at *
  have t0 := Kq.blk_cell p1' 0
  have t1 := Kq.blk_cell p1' 1
  have t2 := Kq.blk_cell p1' 2
  have t3 := Kq.blk_cell p1' 3
  have t4 := Kq.blk_cell p1' 4
  have t5 := Kq.blk_cell p1' 5
  have t6 := Kq.blk_cell p1' 6
  have t7 := Kq.blk_cell p1' 7
  have t8 := Kq.blk_cell p1' 8
  have t9 := Kq.blk_cell p1' 9
  refine bodyPost_ret (v := .agg #[.int .i64 1, .int .u64 (h0 : Int), .int .i64 (i0 : Int), .int .u64 (h1 : Int), .int .i64 (i1 : Int), .slice A l.length c, .int .i64 0, .int .u64 0, .int .i64 0, .slice none 0 0]) (by simp [results, Tryz.results60, go_sem, t0, t1, t2, t3, t4, t5, t6, t7, t8, t9]) rfl ?_
  have hT := G9.out.ht
  have hBB := G9.out.hb
  have hks : Kq.Keeps (· = T) w8 w10 := by rw [HW9.out]; exact Kq.Keeps.setCell _ _ _ rfl
  have hAT9 : EnAt NtV.ic w10 A l := HAT.out.1.keeps hks (fun g o e h => by have h1 := HAT.out.2.1 g o e; have h2 : g = T := h; have := HAT.out.2.2; omega)
  refine ⟨A, c, rfl, hAT9.keeps p2' (fun g o e h => by have h1 := HAT.out.2.1 g o e; have h2 : g = w.heap.size + 1 := h; have := HAT.out.2.2; omega), G9.out.rd.keeps p2' (fun h => by have h2 : B = w.heap.size + 1 := h; omega), ?_, fun b off e => by have h1 := HAT.out.2.1 b off e; have h3 := HAT.out.2.2; omega⟩
  exact ⟨p2'.os.trans G9.out.kp.os, p2'.tape.trans G9.out.kp.tape, p2'.output.trans G9.out.kp.output, Nat.le_trans G9.out.kp.size p2'.size, fun k hk1 hn => by
    rw [p2'.block k (Nat.lt_of_lt_of_le hk1 G9.out.kp.size) (fun e => by have e2 : k = w.heap.size + 1 := e; omega), G9.out.kp.block k hk1 hn]⟩
end Go.Proofs.YtkbiolhcpghmkaaGreat
