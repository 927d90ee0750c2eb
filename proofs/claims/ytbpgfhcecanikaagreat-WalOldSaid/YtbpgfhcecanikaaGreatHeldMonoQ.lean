/- Merged: RfDo, DiskDuo, WlM, HeldMono. Contract of the reference's disk: Do. Condition: sizes. A disk and the reference's disk side by side; what a Read tells of both. No condition. A log of package wal: how it lies in memory; what laying sectors makes of a disk. No condition. A region walked under a condition that may be made stronger on the way. No condition. -/
import Derived.WalkSpells
import Derived.Outline
import Derived.Test.YtbpgfhcecanikaaGreatRfCrashQ
import Derived.Test.YtbpgfhcecanikaaGreatRfReadQ
import Derived.Test.YtbpgfhcecanikaaGreatDkTwoQ
import Derived.Deep.RegionHeld
namespace Go.Proofs.YtbpgfhcecanikaaGreat
open Go.RowKit
set_option linter.unusedVariables false
/-- what a call leaves of the reference's disk -/
def RoP (w : World) (base R a b : Nat) (buf : Value) (ws : List (Int × ByteArray)) (armed : Nat) (st : List Nat) (w' : World) : Prop :=
  ∃ buf', RfS w' base R a b buf' ws (armed : Int) st ∧ Kq.Keeps (· = R) w w' ∧ (∀ j, buf'.ownBlock = some j → buf.ownBlock = some j ∨ w.heap.size ≤ j)
theorem RoP.from {w w0 w' : World} {base R a b : Nat} {buf : Value} {ws : List (Int × ByteArray)} {armed : Nat} {st : List Nat} (hb : Below w.heap.size w w0) (h : RoP w0 base R a b buf ws armed st w') : RoP w base R a b buf ws armed st w' := by
  obtain ⟨buf', h1, h2, h3⟩ := h
  exact ⟨buf', h1, (Kq.Keeps.of_below hb (fun k h1 h2 => absurd h1 (Nat.not_le.2 h2))).trans h2, fun j hj => (h3 j hj).imp id (Nat.le_trans hb.size)⟩
theorem rf_write_all (base R a b : Nat) (buf : Value) (ws : List (Int × ByteArray)) (armed : Nat) (st : List Nat) (k : Int) (s : ByteArray) (w : World) (h : RfS w base R a b buf ws (armed : Int) st)
    (hw : ws.length ≤ 1000000) (har2 : armed ≤ 9223372036854775807) :
    Calls Tryz.prog 76 #[.pointer (some ⟨R, 0, none⟩), .int .i64 k, .string s] w fun x w' => x = .returned (.int .i64 (wrF a b k s ws armed).2.2) ∧ RoP w base R a b buf (wrF a b k s ws armed).1 (wrF a b k s ws armed).2.1 st w' := by
  unfold wrF
  by_cases hk : 0 ≤ k ∧ k < (b : Int) ∧ s.size = a
  · rw [if_pos hk]
    by_cases ha : armed = 1
    · rw [if_pos ha]
      subst ha
      refine (rf_write_io base R a b buf ws st k s w h hk.1 hk.2.1 hk.2.2).mono ?_
      rintro x w' ⟨rfl, D, K⟩
      exact ⟨rfl, buf, D, K, fun j hj => Or.inl hj⟩
    · rw [if_neg ha]
      refine (rf_write_ok base R a b buf ws armed st k s w h hk.1 hk.2.1 hk.2.2 hw ha har2).mono ?_
      rintro x w' ⟨rfl, buf', D, K, F⟩
      exact ⟨rfl, buf', D, K, fun j hj => Or.inr (F j hj)⟩
  · rw [if_neg hk]
    refine (rf_write_range base R a b buf ws _ st k s w h hk).mono ?_
    rintro x w' ⟨rfl, rfl⟩
    exact ⟨rfl, buf, h, Kq.Keeps.refl _ _, fun j hj => Or.inl hj⟩
theorem rf_flush_all (base R a b : Nat) (buf : Value) (ws : List (Int × ByteArray)) (armed : Nat) (st : List Nat) (w : World) (h : RfS w base R a b buf ws (armed : Int) st) (ho : StOk a b 1000000 ws armed st) (hn : a * b ≤ 3000000) :
    Calls Tryz.prog 71 #[.pointer (some ⟨R, 0, none⟩)] w fun x w' => x = .returned (.int .i64 (if armed = 1 then (ws, 0, st, (13 : Int)) else ([], armed - 1, flushB a ws st, 0)).2.2.2) ∧
      RoP w base R a b buf (if armed = 1 then (ws, 0, st, (13 : Int)) else ([], armed - 1, flushB a ws st, 0)).1 (if armed = 1 then (ws, 0, st, (13 : Int)) else ([], armed - 1, flushB a ws st, 0)).2.1 (if armed = 1 then (ws, 0, st, (13 : Int)) else ([], armed - 1, flushB a ws st, 0)).2.2.1 w' := by
  by_cases h1 : armed = 1
  · rw [if_pos h1]
    subst h1
    refine (rf_flush_bad base R a b buf ws st w h).mono ?_
    rintro x w' ⟨rfl, D, K⟩
    exact ⟨rfl, buf, D, K, fun j hj => Or.inl hj⟩
  · rw [if_neg h1]
    refine (rf_flush_ok base R a b buf ws armed st w h ho.w ho.len hn ho.nw h1 ho.ar ho.lt).mono ?_
    rintro x w' ⟨rfl, D, K⟩
    exact ⟨rfl, _, D, K, fun j hj => by cases hj⟩
end Go.Proofs.YtbpgfhcecanikaaGreat
namespace Go.Proofs.YtbpgfhcecanikaaGreat
open Go.RowKit
set_option linter.unusedVariables false
structure Duo (W w : World) (bD D S bR R a b : Nat) (bufD : Value) (wsD : List (Int × ByteArray)) (armD : Nat) (stD : List Nat) (bufR : Value) (wsR : List (Int × ByteArray)) (armR : Nat) (stR : List Nat) : Prop where
  A : DkI W w bD D S a b bufD wsD (armD : Int) stD
  B : RfS w bR R a b bufR wsR (armR : Int) stR
  hR : W.heap.size ≤ R
  hbR : W.heap.size ≤ bR
  sep : ∀ j, Own D S bufD j → j ≠ R ∧ bufR.ownBlock ≠ some j
section
variable {W w w' : World} {bD D S bR R a b : Nat} {bufD bufR buf' : Value} {wsD wsR ws' : List (Int × ByteArray)} {armD armR arm' : Nat} {stD stR st' : List Nat}
theorem Duo.below (h : Duo W w bD D S bR R a b bufD wsD armD stD bufR wsR armR stR) (hb : Below w.heap.size w w') : Duo W w' bD D S bR R a b bufD wsD armD stD bufR wsR armR stR :=
  ⟨h.A.below hb, h.B.below hb, h.hR, h.hbR, h.sep⟩
theorem Duo.drew (h : Duo W w bD D S bR R a b bufD wsD armD stD bufR wsR armR stR) : Duo W w.drew bD D S bR R a b bufD wsD armD stD bufR wsR armR stR := h.below (Below.refl _ _).drew
theorem Duo.stepA (h : Duo W w bD D S bR R a b bufD wsD armD stD bufR wsR armR stR) (hd : DoP w bD D S a b bufD ws' arm' st' w') :
    ∃ buf', Duo W w' bD D S bR R a b buf' ws' arm' st' bufR wsR armR stR ∧ Kq.Keeps (Own D S bufD) w w' := by
  obtain ⟨buf', h1, h2, h3⟩ := hd
  refine ⟨buf', ⟨h.A.step h1 h2, h.B.keeps h2 (fun ho => (h.sep R ho).1 rfl) (fun k hk ho => (h.sep k ho).2 hk), h.hR, h.hbR, fun j hj => ?_⟩, h2⟩
  rcases hj with e | e | e
  · exact h.sep j (Or.inl e)
  · exact h.sep j (Or.inr (Or.inl e))
  · rcases h3 j e with e | e
    · exact h.sep j (Or.inr (Or.inr e))
    · refine ⟨fun e2 => ?_, fun e2 => ?_⟩
      · have := Kq.blk_lt h.B.blk; omega
      · have := (h.B.own.lt j e2).2; omega
theorem Duo.stepB (h : Duo W w bD D S bR R a b bufD wsD armD stD bufR wsR armR stR) (hd : RoP w bR R a b bufR ws' arm' st' w') :
    ∃ buf', Duo W w' bD D S bR R a b bufD wsD armD stD buf' ws' arm' st' ∧ Kq.Keeps (· = R) w w' := by
  obtain ⟨buf', h1, h2, h3⟩ := hd
  refine ⟨buf', ⟨⟨h.A.s.keeps h2 (fun j hj e => (h.sep j hj).1 e), h.A.bel.trans (h2.below h.A.bel.size (fun j _ hj => by have := h.hR; omega)), h.A.hB, h.A.hS, h.A.hbase⟩, h1, h.hR, h.hbR, fun j hj => ⟨(h.sep j hj).1, fun e => ?_⟩⟩, h2⟩
  rcases h3 j e with e | e
  · exact (h.sep j hj).2 e
  · have := h.A.s.own_lt hj; omega
end
/-- what a Read tells -/
def rdF (a b : Nat) (ws : List (Int × ByteArray)) (st : List Nat) (n : Int) : ByteArray × Int := if 0 ≤ n ∧ n < (b : Int) then (readB a ws st n, 0) else (⟨#[]⟩, 1)
theorem dk_read_all (base B S a b : Nat) (buf : Value) (ws : List (Int × ByteArray)) (armed : Int) (st : List Nat) (n : Int) (w : World) (h : DkS w base B S a b buf ws armed st) (hlt : ∀ x ∈ st, x < 256)
    (hl : st.length = a * b) (hn : a * b ≤ 3000000) (ha : 0 < a) (hws : ws.length ≤ 1000000) :
    Calls Tryz.prog 65 #[.pointer (some ⟨B, 0, none⟩), .int .i64 n] w fun x w' => x = .returned (.tuple #[.string (rdF a b ws st n).1, .int .i64 (rdF a b ws st n).2]) ∧ Below w.heap.size w w' := by
  unfold rdF
  by_cases h0 : 0 ≤ n ∧ n < (b : Int)
  · rw [if_pos h0]
    obtain ⟨m, rfl⟩ := Int.eq_ofNat_of_zero_le h0.1
    exact dk_read base B S a b m buf ws armed st w h hlt (by omega) hl hn ha hws
  · rw [if_neg h0]
    exact dk_read_range base B S a b buf ws armed n st w h h0
theorem rf_read_all (base R a b : Nat) (buf : Value) (ws : List (Int × ByteArray)) (armed : Int) (st : List Nat) (n : Int) (w : World) (h : RfS w base R a b buf ws armed st) (hlt : ∀ x ∈ st, x < 256)
    (hl : st.length = a * b) (hn : a * b ≤ 3000000) (hb : b ≤ 3000000) (hws : ws.length ≤ 1000000) :
    Calls Tryz.prog 72 #[.pointer (some ⟨R, 0, none⟩), .int .i64 n] w fun x w' => x = .returned (.tuple #[.string (rdF a b ws st n).1, .int .i64 (rdF a b ws st n).2]) ∧ Below w.heap.size w w' := by
  unfold rdF
  by_cases h0 : 0 ≤ n ∧ n < (b : Int)
  · rw [if_pos h0]
    obtain ⟨m, rfl⟩ := Int.eq_ofNat_of_zero_le h0.1
    exact rf_read base R a b m buf ws armed st w h hlt (by omega) hl hn hb hws
  · rw [if_neg h0]
    exact rf_read_range base R a b buf ws armed n st w h h0
/-- an act's cells -/
def ActC (w : World) (g o : Nat) (c : ActV) : Prop := w.cell? ⟨g, o, none⟩ = some (.int .i64 c.kind) ∧ w.cell? ⟨g, o + 1, none⟩ = some (.int .i64 c.n) ∧ w.cell? ⟨g, o + 2, none⟩ = some (.int .i64 c.long) ∧ w.cell? ⟨g, o + 3, none⟩ = some (.string c.s) ∧ w.cell? ⟨g, o + 4, none⟩ = some (.slice c.la c.l.length c.lcap)
theorem IsAct.cells {w : World} {g o : Nat} {c : ActV} (h : IsAct w g o c) : ActC w g o c := ⟨h.c0, h.c1, h.c2, h.c3, h.c4⟩
end Go.Proofs.YtbpgfhcecanikaaGreat
namespace Go.Proofs.YtbpgfhcecanikaaGreat
open Go.RowKit
set_option linter.unusedVariables false
structure WalV where
  g : Nat
  sg : Nat
  slot : Nat
  used : Nat
  cnt : Nat
  ready : Bool
  broken : Bool
def WalV.cells (B : Nat) (v : WalV) : Array Value := #[.pointer (some ⟨B, 0, none⟩), .int .u64 v.g, .int .i64 v.sg, .int .i64 v.slot, .int .i64 v.used, .int .i64 v.cnt, .bool v.ready, .bool v.broken]
/-- how many sectors a segment has -/
def segN (b : Nat) : Nat := (b - 2) / 2
/-- what a Flush makes -/
def flF (a : Nat) (ws : List (Int × ByteArray)) (ar : Nat) (st : List Nat) : List (Int × ByteArray) × Nat × List Nat × Int := if ar = 1 then (ws, 0, st, 13) else ([], ar - 1, flushB a ws st, 0)
/-- what laying sectors from one on makes -/
def layF (a b : Nat) : Nat → List ByteArray → List (Int × ByteArray) → Nat → List Nat → List (Int × ByteArray) × Nat × List Nat × Int
  | _, [], ws, ar, st => flF a ws ar st
  | k, s :: l, ws, ar, st => if (wrF a b (k : Int) s ws ar).2.2 = 0 then layF a b (k + 1) l (wrF a b (k : Int) s ws ar).1 (wrF a b (k : Int) s ws ar).2.1 st else ((wrF a b (k : Int) s ws ar).1, (wrF a b (k : Int) s ws ar).2.1, st, (wrF a b (k : Int) s ws ar).2.2)
/-- what stands in so many sectors from one on -/
def textF (a b : Nat) (ws : List (Int × ByteArray)) (st : List Nat) (k : Nat) : Nat → List Nat
  | 0 => []
  | n + 1 => textF a b ws st k n ++ nl (rdF a b ws st ((k + n : Nat) : Int)).1
theorem flF_ok {a b N : Nat} {ws : List (Int × ByteArray)} {ar : Nat} {st : List Nat} (h : StOk a b N ws ar st) : StOk a b N (flF a ws ar st).1 (flF a ws ar st).2.1 (flF a ws ar st).2.2.1 := by
  have ha := h.ar
  unfold flF
  split
  · exact ⟨h.w, h.len, h.lt, h.nw, Nat.zero_le _⟩
  · obtain ⟨q1, q2⟩ := flushB_ok a b ws st h.w h.len h.lt
    exact ⟨WsOk.nil a b, q1, q2, Nat.zero_le _, by show ar - 1 ≤ _; omega⟩
theorem StOk.up {a b N M : Nat} {ws : List (Int × ByteArray)} {ar : Nat} {st : List Nat} (h : StOk a b N ws ar st) (hN : N ≤ M) : StOk a b M ws ar st := ⟨h.w, h.len, h.lt, Nat.le_trans h.nw hN, h.ar⟩
theorem layF_ok (a b : Nat) : ∀ (l : List ByteArray) (k N : Nat) (ws : List (Int × ByteArray)) (ar : Nat) (st : List Nat), StOk a b N ws ar st → StOk a b (N + l.length) (layF a b k l ws ar st).1 (layF a b k l ws ar st).2.1 (layF a b k l ws ar st).2.2.1
  | [], k, N, ws, ar, st, h => flF_ok h
  | s :: l, k, N, ws, ar, st, h => by
    have h1 := wrF_ok h (k : Int) s
    unfold layF
    split
    · have := layF_ok a b l (k + 1) (N + 1) _ _ st h1
      rw [List.length_cons, show N + (l.length + 1) = N + 1 + l.length by omega]
      exact this
    · exact h1.up (by rw [List.length_cons]; omega)
/-- a log in memory, its disk beside it -/
structure WlS (w : World) (base B S a b R : Nat) (buf : Value) (ws : List (Int × ByteArray)) (ar : Nat) (st : List Nat) (v : WalV) : Prop where
  d : DkS w base B S a b buf ws (ar : Int) st
  blk : w.heap[R]? = some (.cells (v.cells B) 86 (0, 0))
  sep : ¬ Own B S buf R
section
variable {w w' : World} {base B S a b R : Nat} {buf buf' : Value} {ws ws' : List (Int × ByteArray)} {ar ar' : Nat} {st st' : List Nat} {v v' : WalV}
theorem WlS.below (h : WlS w base B S a b R buf ws ar st v) (hb : Below w.heap.size w w') : WlS w' base B S a b R buf ws ar st v := ⟨h.d.below hb, Kq.below_blk hb h.blk (Kq.blk_lt h.blk), h.sep⟩
theorem WlS.drew (h : WlS w base B S a b R buf ws ar st v) : WlS w.drew base B S a b R buf ws ar st v := h.below (Below.refl _ _).drew
theorem WlS.lt (h : WlS w base B S a b R buf ws ar st v) : R < w.heap.size := Kq.blk_lt h.blk
theorem WlS.c0 (h : WlS w base B S a b R buf ws ar st v) : w.cell? ⟨R, 0, none⟩ = some (.pointer (some ⟨B, 0, none⟩)) := Kq.blk_cell h.blk 0
theorem WlS.c1 (h : WlS w base B S a b R buf ws ar st v) : w.cell? ⟨R, 1, none⟩ = some (.int .u64 v.g) := Kq.blk_cell h.blk 1
theorem WlS.c2 (h : WlS w base B S a b R buf ws ar st v) : w.cell? ⟨R, 2, none⟩ = some (.int .i64 v.sg) := Kq.blk_cell h.blk 2
theorem WlS.c3 (h : WlS w base B S a b R buf ws ar st v) : w.cell? ⟨R, 3, none⟩ = some (.int .i64 v.slot) := Kq.blk_cell h.blk 3
theorem WlS.c4 (h : WlS w base B S a b R buf ws ar st v) : w.cell? ⟨R, 4, none⟩ = some (.int .i64 v.used) := Kq.blk_cell h.blk 4
theorem WlS.c5 (h : WlS w base B S a b R buf ws ar st v) : w.cell? ⟨R, 5, none⟩ = some (.int .i64 v.cnt) := Kq.blk_cell h.blk 5
theorem WlS.c6 (h : WlS w base B S a b R buf ws ar st v) : w.cell? ⟨R, 6, none⟩ = some (.bool v.ready) := Kq.blk_cell h.blk 6
theorem WlS.c7 (h : WlS w base B S a b R buf ws ar st v) : w.cell? ⟨R, 7, none⟩ = some (.bool v.broken) := Kq.blk_cell h.blk 7
theorem WlS.fz (h : WlS w base B S a b R buf ws ar st v) (i : Nat) : w.frozen? ⟨R, i, none⟩ = false := Kq.blk_free h.blk i
/-- what a call leaves of a log and its disk -/
def WoP (w : World) (base B S a b R : Nat) (buf : Value) (ws : List (Int × ByteArray)) (ar : Nat) (st : List Nat) (v : WalV) (w' : World) : Prop :=
  ∃ buf', WlS w' base B S a b R buf' ws ar st v ∧ Kq.Keeps (fun j => Own B S buf j ∨ j = R) w w' ∧ (∀ j, buf'.ownBlock = some j → buf.ownBlock = some j ∨ w.heap.size ≤ j)
/-- a call on the disk, as one on the log -/
theorem WlS.step (h : WlS w base B S a b R buf ws ar st v) (hd : DoP w base B S a b buf ws' ar' st' w') : WoP w base B S a b R buf ws' ar' st' v w' := by
  obtain ⟨buf', h1, h2, h3⟩ := hd
  refine ⟨buf', ⟨h1, h2.blk h.blk h.sep, fun ho => ?_⟩, h2.mono (fun _ _ e => Or.inl e), h3⟩
  rcases ho with e | e | e
  · exact h.sep (Or.inl e)
  · exact h.sep (Or.inr (Or.inl e))
  · rcases h3 R e with e | e
    · exact h.sep (Or.inr (Or.inr e))
    · exact absurd h.lt (Nat.not_lt.2 e)
/-- the log's own block written -/
theorem WlS.set (h : WlS w base B S a b R buf ws ar st v) {w' : World} {v' : WalV} (hk : Kq.Keeps (· = R) w w') (hb : w'.heap[R]? = some (.cells (v'.cells B) 86 (0, 0))) : WlS w' base B S a b R buf ws ar st v' :=
  ⟨h.d.keeps hk (fun j hj e => h.sep (e ▸ hj)), hb, h.sep⟩
theorem WoP.here (h : WlS w base B S a b R buf ws ar st v) : WoP w base B S a b R buf ws ar st v w := ⟨buf, h, Kq.Keeps.refl _ _, fun j hj => Or.inl hj⟩
theorem WoP.below {w0 : World} (h : WoP w base B S a b R buf ws ar st v w0) (hb : Below w0.heap.size w0 w') : WoP w base B S a b R buf ws ar st v w' := by
  obtain ⟨buf', h1, h2, h3⟩ := h
  exact ⟨buf', h1.below hb, h2.trans (Kq.Keeps.of_below hb (fun k h1 h2 => absurd h1 (Nat.not_le.2 h2))), h3⟩
theorem WoP.from {w0 : World} (hb : Below w.heap.size w w0) (h : WoP w0 base B S a b R buf ws ar st v w') : WoP w base B S a b R buf ws ar st v w' := by
  obtain ⟨buf', h1, h2, h3⟩ := h
  exact ⟨buf', h1, (Kq.Keeps.of_below hb (fun k h1 h2 => absurd h1 (Nat.not_le.2 h2))).trans h2, fun j hj => (h3 j hj).imp id (Nat.le_trans hb.size)⟩
theorem WoP.comp {w1 : World} {buf1 : Value} (hR : R < w.heap.size) (h2 : Kq.Keeps (fun j => Own B S buf j ∨ j = R) w w1) (h3 : ∀ j, buf1.ownBlock = some j → buf.ownBlock = some j ∨ w.heap.size ≤ j) (k : WoP w1 base B S a b R buf1 ws ar st v w') : WoP w base B S a b R buf ws ar st v w' := by
  obtain ⟨buf2, k1, k2, k3⟩ := k
  refine ⟨buf2, k1, ⟨k2.os.trans h2.os, k2.tape.trans h2.tape, k2.output.trans h2.output, Nat.le_trans h2.size k2.size, fun j hj hn => ?_⟩, fun j hj => ?_⟩
  · rw [k2.block j (Nat.lt_of_lt_of_le hj h2.size) (fun hh => ?_), h2.block j hj hn]
    rcases hh with (e | e | e) | e
    · exact hn (Or.inl (Or.inl e))
    · exact hn (Or.inl (Or.inr (Or.inl e)))
    · rcases h3 j e with e | e
      · exact hn (Or.inl (Or.inr (Or.inr e)))
      · omega
    · exact hn (Or.inr e)
  · rcases k3 j hj with e | e
    · exact h3 j e
    · exact Or.inr (Nat.le_trans h2.size e)
end
end Go.Proofs.YtbpgfhcecanikaaGreat
namespace Go.Kq
open Go.RowKit
theorem wpAnyH_mono {P : Program} {md : Region.Mode} {ops : Array Oper} {Q : Exit → Act → World → Prop} {S S' : World → Prop} (hS : ∀ w, S' w → S w) :
    ∀ (fuel : Nat) (listed : Array Bool) (a : Act) (w : World), wpAnyH P md ops Q S' fuel listed a w → wpAnyH P md ops Q S fuel listed a w
  | 0, _, _, _, h => h
  | fuel + 1, _, _, _, h => ⟨h.1, fun i hi => wpOp_mono (fun a' w' h' => ⟨hS _ h'.1, wpAnyH_mono hS fuel _ a' w' h'.2⟩) (h.2 i hi)⟩
end Go.Kq
