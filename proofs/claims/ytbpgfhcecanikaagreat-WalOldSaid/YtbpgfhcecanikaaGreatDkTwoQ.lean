/- Merged: DkDo, DkTwo. Contract of carracklaw04.do. Condition: sizes. Two disks side by side; Buffered; a crash in which all lasts. No condition. -/
import Derived.WalkSpells
import Derived.Outline
import Derived.Test.YtbpgfhcecanikaaGreatDkTextQ
import Derived.Test.YtbpgfhcecanikaaGreatDkInvQ
namespace Go.Proofs.YtbpgfhcecanikaaGreat
open Go.RowKit
set_option linter.unusedVariables false
/-- what a Write makes of what is buffered, and armed; its code -/
def wrF (a b : Nat) (k : Int) (s : ByteArray) (ws : List (Int × ByteArray)) (armed : Nat) : List (Int × ByteArray) × Nat × Int :=
  if 0 ≤ k ∧ k < (b : Int) ∧ s.size = a then (if armed = 1 then (ws, 0, 13) else (ws ++ [(k, s)], armed - 1, 0)) else (ws, armed, 1)
/-- what an act makes of a disk; its code -/
def doF (a b : Nat) (c : ActV) (ws : List (Int × ByteArray)) (armed : Nat) (st : List Nat) : List (Int × ByteArray) × Nat × List Nat × Int :=
  if c.kind = 0 then ((wrF a b c.n (actText c.s c.long) ws armed).1, (wrF a b c.n (actText c.s c.long) ws armed).2.1, st, (wrF a b c.n (actText c.s c.long) ws armed).2.2)
  else if c.kind = 1 then (if armed = 1 then (ws, 0, st, 13) else ([], armed - 1, flushB a ws st, 0))
  else if c.kind = 2 then (ws, c.n.toNat, st, 0)
  else ([], 0, crashB a ws c.l false st, 0)
structure StOk (a b N : Nat) (ws : List (Int × ByteArray)) (armed : Nat) (st : List Nat) : Prop where
  w : WsOk a b ws
  len : st.length = a * b
  lt : ∀ x ∈ st, x < 256
  nw : ws.length ≤ N
  ar : armed ≤ 9223372036854775807
theorem wrF_ok {a b N : Nat} {ws : List (Int × ByteArray)} {armed : Nat} {st : List Nat} (h : StOk a b N ws armed st) (k : Int) (s : ByteArray) : StOk a b (N + 1) (wrF a b k s ws armed).1 (wrF a b k s ws armed).2.1 st := by
  have hn := h.nw
  have ha := h.ar
  unfold wrF
  split
  · rename_i hk
    split
    · exact ⟨h.w, h.len, h.lt, Nat.le_succ_of_le hn, by simp⟩
    · exact ⟨h.w.snoc hk.1 hk.2.1 hk.2.2, h.len, h.lt, by rw [List.length_append, List.length_singleton]; omega, by show armed - 1 ≤ _; omega⟩
  · exact ⟨h.w, h.len, h.lt, by show ws.length ≤ _; omega, h.ar⟩
theorem doF_ok {a b N : Nat} {ws : List (Int × ByteArray)} {armed : Nat} {st : List Nat} (h : StOk a b N ws armed st) (c : ActV) (hw : (Lit.int .i64 c.n).wf = true) : StOk a b (N + 1) (doF a b c ws armed st).1 (doF a b c ws armed st).2.1 (doF a b c ws armed st).2.2.1 := by
  have hn := h.nw
  have ha := h.ar
  unfold doF
  split
  · exact wrF_ok h _ _
  · split
    · split
      · exact ⟨h.w, h.len, h.lt, Nat.le_succ_of_le hn, Nat.zero_le _⟩
      · obtain ⟨q1, q2⟩ := flushB_ok a b ws st h.w h.len h.lt
        exact ⟨WsOk.nil a b, q1, q2, Nat.zero_le _, by show armed - 1 ≤ _; omega⟩
    · split
      · have : c.n ≤ 9223372036854775807 := by
          simp [Lit.wf, IntKind.min, IntKind.max, IntKind.signed, IntKind.bits] at hw; omega
        exact ⟨h.w, h.len, h.lt, by show ws.length ≤ _; omega, by show c.n.toNat ≤ _; omega⟩
      · obtain ⟨q1, q2⟩ := crashB_ok a b ws c.l false st h.w h.len h.lt
        exact ⟨WsOk.nil a b, q1, q2, Nat.zero_le _, Nat.zero_le _⟩
/-- what a call leaves of a disk -/
def DoP (w : World) (base B S a b : Nat) (buf : Value) (ws : List (Int × ByteArray)) (armed : Nat) (st : List Nat) (w' : World) : Prop :=
  ∃ buf', DkS w' base B S a b buf' ws (armed : Int) st ∧ Kq.Keeps (Own B S buf) w w' ∧ (∀ j, buf'.ownBlock = some j → buf.ownBlock = some j ∨ w.heap.size ≤ j)
theorem DoP.from {w w0 w' : World} {base B S a b : Nat} {buf : Value} {ws : List (Int × ByteArray)} {armed : Nat} {st : List Nat} (hb : Below w.heap.size w w0) (h : DoP w0 base B S a b buf ws armed st w') : DoP w base B S a b buf ws armed st w' := by
  obtain ⟨buf', h1, h2, h3⟩ := h
  exact ⟨buf', h1, (Kq.Keeps.of_below hb (fun k h1 h2 => absurd h1 (Nat.not_le.2 h2))).trans h2, fun j hj => (h3 j hj).imp id (Nat.le_trans hb.size)⟩
theorem dk_write_all (base B S a b : Nat) (buf : Value) (ws : List (Int × ByteArray)) (armed : Nat) (st : List Nat) (k : Int) (s : ByteArray) (w : World) (h : DkS w base B S a b buf ws (armed : Int) st)
    (hs : s.size ≤ maxLen) (hw : ws.length ≤ 1000000) (har2 : armed ≤ 9223372036854775807) :
    Calls Tryz.prog 70 #[.pointer (some ⟨B, 0, none⟩), .int .i64 k, .string s] w fun x w' => x = .returned (.int .i64 (wrF a b k s ws armed).2.2) ∧ DoP w base B S a b buf (wrF a b k s ws armed).1 (wrF a b k s ws armed).2.1 st w' := by
  unfold wrF
  by_cases hk : 0 ≤ k ∧ k < (b : Int) ∧ s.size = a
  · rw [if_pos hk]
    by_cases ha : armed = 1
    · rw [if_pos ha]
      subst ha
      refine (dk_write_io base B S a b buf ws st k s w h hk.1 hk.2.1 hk.2.2).mono ?_
      rintro x w' ⟨rfl, D, K⟩
      exact ⟨rfl, buf, D, K.mono (fun _ _ e => Or.inl e), fun j hj => Or.inl hj⟩
    · rw [if_neg ha]
      exact dk_write base B S a b buf ws armed st k s w h hk.1 hk.2.1 hk.2.2 hw ha har2
  · rw [if_neg hk]
    refine (dk_write_range base B S a b buf ws _ st k s w h hk hs).mono ?_
    rintro x w' ⟨rfl, hb⟩
    exact ⟨rfl, buf, h.below hb, Kq.Keeps.of_below hb (fun k h1 h2 => absurd h1 (Nat.not_le.2 h2)), fun j hj => Or.inl hj⟩
theorem dk_flush_all (base B S a b : Nat) (buf : Value) (ws : List (Int × ByteArray)) (armed : Nat) (st : List Nat) (w : World) (h : DkS w base B S a b buf ws (armed : Int) st) (ho : StOk a b 1000000 ws armed st) (hn : a * b ≤ 3000000) (ha : 0 < a) (ha2 : a ≤ 1000000) :
    Calls Tryz.prog 41 #[.pointer (some ⟨B, 0, none⟩)] w fun x w' => x = .returned (.int .i64 (if armed = 1 then (ws, 0, st, (13 : Int)) else ([], armed - 1, flushB a ws st, 0)).2.2.2) ∧
      DoP w base B S a b buf (if armed = 1 then (ws, 0, st, (13 : Int)) else ([], armed - 1, flushB a ws st, 0)).1 (if armed = 1 then (ws, 0, st, (13 : Int)) else ([], armed - 1, flushB a ws st, 0)).2.1 (if armed = 1 then (ws, 0, st, (13 : Int)) else ([], armed - 1, flushB a ws st, 0)).2.2.1 w' := by
  by_cases h1 : armed = 1
  · rw [if_pos h1]
    subst h1
    refine (dk_flush_bad base B S a b buf ws st w h).mono ?_
    rintro x w' ⟨rfl, D, K⟩
    exact ⟨rfl, buf, D, K.mono (fun _ _ e => Or.inl e), fun j hj => Or.inl hj⟩
  · rw [if_neg h1]
    refine (dk_flush_ok base B S a b buf ws armed st w h ho.w ho.len hn ha ha2 ho.nw h1 ho.ar ho.lt).mono ?_
    rintro x w' ⟨rfl, D, K⟩
    exact ⟨rfl, _, D, K.mono (fun _ _ e => e.elim Or.inl (fun e => Or.inr (Or.inl e))), fun j hj => by cases hj⟩
end Go.Proofs.YtbpgfhcecanikaaGreat
namespace Go.Proofs.YtbpgfhcecanikaaGreat
open Go.RowKit
set_option linter.unusedVariables false
theorem DkS.keeps {P : Nat → Prop} {w w' : World} {base B S a b : Nat} {buf : Value} {ws : List (Int × ByteArray)} {armed : Int} {st : List Nat} (h : DkS w base B S a b buf ws armed st) (hk : Kq.Keeps P w w') (hP : ∀ j, Own B S buf j → ¬ P j) : DkS w' base B S a b buf ws armed st := by
  refine ⟨⟨hk.blk h.d.blk (hP B (Or.inl rfl)), ?_, h.d.ne, Nat.le_trans h.d.base hk.size, h.d.sb, Nat.lt_of_lt_of_le h.d.sl hk.size⟩, h.s.later hk (hP S (Or.inr (Or.inl rfl)))⟩
  obtain ⟨h1, h2⟩ := h.d.own
  refine ⟨h1, h2.imp id ?_⟩
  rintro ⟨g, cap, cur, hv, h3, h4, h5⟩
  exact ⟨g, cap, cur, hv, h3, hk.blk h4 (hP g (Or.inr (Or.inr (by rw [hv]; rfl)))), h5⟩
theorem DkS.own_lt {w : World} {base B S a b : Nat} {buf : Value} {ws : List (Int × ByteArray)} {armed : Int} {st : List Nat} (h : DkS w base B S a b buf ws armed st) {j : Nat} (hj : Own B S buf j) : j < w.heap.size := by
  rcases hj with rfl | rfl | hj
  · exact Kq.blk_lt h.d.blk
  · exact h.d.sl
  · rcases h.d.own.2 with ⟨e, _⟩ | ⟨g, cap, cur, e, _, h4, _⟩
    · rw [e] at hj; cases hj
    · rw [e] at hj
      have : g = j := by simpa [Value.ownBlock] using hj
      subst this
      exact Kq.blk_lt h4
structure Two (W w : World) (bA BA SA bB BB SB a b : Nat) (bufA : Value) (wsA : List (Int × ByteArray)) (armA : Int) (stA : List Nat) (bufB : Value) (wsB : List (Int × ByteArray)) (armB : Int) (stB : List Nat) : Prop where
  A : DkI W w bA BA SA a b bufA wsA armA stA
  B : DkI W w bB BB SB a b bufB wsB armB stB
  sep : ∀ j, Own BA SA bufA j → ¬ Own BB SB bufB j
section
variable {W w w' : World} {bA BA SA bB BB SB a b : Nat} {bufA buf' : Value} {wsA ws' : List (Int × ByteArray)} {armA arm' : Int} {stA st' : List Nat} {bufB : Value} {wsB : List (Int × ByteArray)} {armB : Int} {stB : List Nat}
theorem Two.swap (h : Two W w bA BA SA bB BB SB a b bufA wsA armA stA bufB wsB armB stB) : Two W w bB BB SB bA BA SA a b bufB wsB armB stB bufA wsA armA stA := ⟨h.B, h.A, fun j hB hA => h.sep j hA hB⟩
theorem Two.below (h : Two W w bA BA SA bB BB SB a b bufA wsA armA stA bufB wsB armB stB) (hb : Below w.heap.size w w') : Two W w' bA BA SA bB BB SB a b bufA wsA armA stA bufB wsB armB stB := ⟨h.A.below hb, h.B.below hb, h.sep⟩
theorem Two.stepA (h : Two W w bA BA SA bB BB SB a b bufA wsA armA stA bufB wsB armB stB) (hd : DkS w' bA BA SA a b buf' ws' arm' st') (hk : Kq.Keeps (Own BA SA bufA) w w') (hf : ∀ j, buf'.ownBlock = some j → bufA.ownBlock = some j ∨ w.heap.size ≤ j) :
    Two W w' bA BA SA bB BB SB a b buf' ws' arm' st' bufB wsB armB stB := by
  have hA := h.A.step hd hk
  refine ⟨hA, ⟨h.B.s.keeps hk (fun j hj hA => h.sep j hA hj), hA.bel, h.B.hB, h.B.hS, h.B.hbase⟩, fun j hj hB => ?_⟩
  rcases hj with e | e | e
  · exact h.sep j (Or.inl e) hB
  · exact h.sep j (Or.inr (Or.inl e)) hB
  · rcases hf j e with e | e
    · exact h.sep j (Or.inr (Or.inr e)) hB
    · exact absurd (h.B.s.own_lt hB) (Nat.not_lt.2 e)
theorem Two.stepA0 (h : Two W w bA BA SA bB BB SB a b bufA wsA armA stA bufB wsB armB stB) (hd : DkS w' bA BA SA a b (.slice none 0 0) ws' arm' st') (hk : Kq.Keeps (fun j => j = BA ∨ j = SA) w w') :
    Two W w' bA BA SA bB BB SB a b (.slice none 0 0) ws' arm' st' bufB wsB armB stB := h.stepA hd (hk.mono (fun _ _ e => e.elim Or.inl (fun e => Or.inr (Or.inl e)))) (fun j hj => by cases hj)
theorem Two.stepA1 (h : Two W w bA BA SA bB BB SB a b bufA wsA armA stA bufB wsB armB stB) (hd : DkS w' bA BA SA a b bufA ws' arm' st') (hk : Kq.Keeps (· = BA) w w') :
    Two W w' bA BA SA bB BB SB a b bufA ws' arm' st' bufB wsB armB stB := h.stepA hd (hk.mono (fun _ _ e => Or.inl e)) (fun j hj => Or.inl hj)
theorem Two.stepB (h : Two W w bA BA SA bB BB SB a b bufA wsA armA stA bufB wsB armB stB) (hd : DkS w' bB BB SB a b buf' ws' arm' st') (hk : Kq.Keeps (Own BB SB bufB) w w') (hf : ∀ j, buf'.ownBlock = some j → bufB.ownBlock = some j ∨ w.heap.size ≤ j) :
    Two W w' bA BA SA bB BB SB a b bufA wsA armA stA buf' ws' arm' st' := (h.swap.stepA hd hk hf).swap
theorem Two.stepB0 (h : Two W w bA BA SA bB BB SB a b bufA wsA armA stA bufB wsB armB stB) (hd : DkS w' bB BB SB a b (.slice none 0 0) ws' arm' st') (hk : Kq.Keeps (fun j => j = BB ∨ j = SB) w w') :
    Two W w' bA BA SA bB BB SB a b bufA wsA armA stA (.slice none 0 0) ws' arm' st' := (h.swap.stepA0 hd hk).swap
end
/-- two disks that New made, one behind the other -/
theorem Two.made {W w w1 w2 : World} {a b n : Nat} (hW : Below W.heap.size W w) {x y : Ending} (hn : a * b = n) (h : NewPost a b n w x w1) (k : NewPost a b n w1 y w2) :
    Two W w2 w.heap.size (w.heap.size + 1) w.heap.size w1.heap.size (w1.heap.size + 1) w1.heap.size a b (.slice none 0 0) [] ((0 : Nat) : Int) (List.replicate n 0) (.slice none 0 0) [] ((0 : Nat) : Int) (List.replicate n 0) := by
  have hA := DkI.made hW hn h
  have hB := DkI.made hA.bel hn k
  obtain ⟨-, -, -, b2⟩ := k
  refine ⟨hA.below b2, hB, fun j hj hB' => ?_⟩
  have h1 := hA.s.own_lt hj
  rcases hB' with e | e | e
  · omega
  · omega
  · cases e
set_option maxRecDepth 100000 in
theorem dk_buffered (B : Nat) (A : Option Addr) (n cap : Nat) (w : World) (h : w.cell? ⟨B, 3, none⟩ = some (.slice A n cap)) : Calls Tryz.prog 12 #[.pointer (some ⟨B, 0, none⟩)] w fun x w' => x = .returned (.int .i64 (n : Int)) ∧ w = w' := by
  go_enter Tryz.func12, Tryz.ntmps12
  go_wp2
  go_ret
  exact ⟨rfl, rfl⟩
theorem crash_all (a : Nat) (ws : List (Int × ByteArray)) (torn : Bool) (st : List Nat) : crashB a ws (List.replicate ws.length (true, 0)) torn st = flushB a ws st := by
  induction ws generalizing st with
  | nil => rfl
  | cons p ws ih =>
    obtain ⟨k, s⟩ := p
    rw [List.length_cons, List.replicate_succ, crashB, if_pos rfl, if_neg (by omega)]
    exact ih _
theorem crash_none (a : Nat) (l : List (Bool × Int)) (torn : Bool) (st : List Nat) : crashB a [] l torn st = st := rfl
theorem read_flush (a b : Nat) (ws : List (Int × ByteArray)) (st : List Nat) (h : WsOk a b ws) (hl : st.length = a * b) (hs : ∀ x ∈ st, x < 256) (k : Nat) (hk : k < b) :
    readB a [] (flushB a ws st) (k : Int) = readB a ws st (k : Int) := by
  show txt (sec a (k : Int).toNat _) = _
  rw [Int.toNat_natCast, flush_sec a b ws st h hl hs k hk]
  unfold readB orSec
  cases lastW (k : Int) ws with
  | some s => exact nl_inj (nl_txt _ (nl_lt s))
  | none => rfl
theorem infoAw : (Tryz.prog.info? 59).map (fun i => (i.zero, i.size, i.bytes)) = some (some (.agg #[.bool false, .int .i64 0]), 2, 16) := by kernel_rfl
theorem infoSt : (Tryz.prog.info? 9).map (fun i => (i.zero, i.size, i.bytes)) = some (some (.string ⟨#[]⟩), 1, 16) := by kernel_rfl
theorem mk_writes (w : World) (n : Nat) (hn : n ≤ 3000000) :
    (Instr.makeSlice 76 (.int .i64 (n : Int)) (.int .i64 (n : Int))).run Tryz.prog w = .ok (.slice (some ⟨w.heap.size, 0, none⟩) n n) (w.alloc (.cells (madeCells #[.bool false, .int .i64 0] (n * 2)) 59)) := by
  obtain ⟨i0, hi, hz0, hz1, hz2⟩ := info_parts infoAw
  have := run_makeSlice (P := Tryz.prog) w 76 59 i0 (.agg #[.bool false, .int .i64 0]) Tryz.underlying76 hi hz0 .i64 .i64 (n : Int) (n : Int) (by omega) (Int.le_refl _) (by rw [hz1]; simp; omega) (by rw [hz2]; omega) (by omega)
  rw [hz1] at this
  simpa [Value.cells] using this
theorem src_text (w : World) (s : ByteArray) (c : Nat) (e : TypeId) : Src Tryz.prog 1 35 (.slice (some ⟨w.heap.size, 0, none⟩) 1 c) 1 [Value.string s] (w.alloc (.cells #[.string s] e)) :=
  Src.ofSlice _ Tryz.underlying35 ⟨w.heap.size, 0, none⟩ 1 c [Value.string s] rfl (fun j u hj => Kq.cell_new _ _ _ (by
    rw [← List.getElem?_toArray] at hj
    exact hj)) (fun u hu => by
    simp only [List.mem_cons, List.not_mem_nil, or_false] at hu
    subst hu
    rfl)
/-- a row of writes to come, of which the first j last -/
structure AwAt (w : World) (M n j : Nat) : Prop where
  blk : ∃ cs : Array Value, w.heap[M]? = some (.cells cs 59 (0, 0)) ∧ cs.size = n * 2 ∧ ∀ i, i < n → cs[i * 2]? = some (.bool (decide (i < j))) ∧ cs[i * 2 + 1]? = some (.int .i64 0)
theorem AwAt.set {w : World} {M n j : Nat} (h : AwAt w M n j) (hj : j < n) : AwAt (w.setCell ⟨M, j * 2, none⟩ (.bool true)) M n (j + 1) := by
  obtain ⟨cs, h1, h2, h3⟩ := h.blk
  refine ⟨cs.setIfInBounds (j * 2) (.bool true), Kq.blk_set h1 _ _, by simp [h2], fun i hi => ?_⟩
  obtain ⟨q0, q1⟩ := h3 i hi
  rw [Array.getElem?_setIfInBounds, Array.getElem?_setIfInBounds]
  refine ⟨?_, by rw [if_neg (by omega)]; exact q1⟩
  by_cases hij : i = j
  · subst hij
    rw [if_pos rfl, if_pos (by rw [h2]; omega)]
    simp
  · rw [if_neg (by omega), q0]
    have : decide (i < j) = decide (i < j + 1) := by
      by_cases h' : i < j
      · rw [decide_eq_true h', decide_eq_true (by omega)]
      · rw [decide_eq_false h', decide_eq_false (by omega)]
    rw [this]
theorem AwAt.later {P : Nat → Prop} {w w' : World} {M n j : Nat} (h : AwAt w M n j) (hk : Kq.Keeps P w w') (hP : ¬ P M) : AwAt w' M n j := by
  obtain ⟨cs, h1, h2, h3⟩ := h.blk
  exact ⟨cs, hk.blk h1 hP, h2, h3⟩
theorem AwAt.lt {w : World} {M n j : Nat} (h : AwAt w M n j) : M < w.heap.size := by
  obtain ⟨cs, h1, _⟩ := h.blk
  exact Kq.blk_lt h1
theorem AwAt.cw {w : World} {M n : Nat} (h : AwAt w M n n) : CwAt w (some ⟨M, 0, none⟩) (List.replicate n (true, 0)) := ⟨fun i hi => by
  have hi' : i < n := by simpa using hi
  obtain ⟨cs, h1, h2, h3⟩ := h.blk
  obtain ⟨q0, q1⟩ := h3 i hi'
  refine ⟨M, 0, rfl, Kq.blk_lt h1, ?_, ?_⟩
  · rw [Nat.zero_add, Kq.blk_cell h1, q0]; simp [hi']
  · rw [Nat.zero_add, Kq.blk_cell h1, q1]; simp⟩
theorem AwAt.made (w : World) (n : Nat) : AwAt (w.alloc (.cells (madeCells #[.bool false, .int .i64 0] (n * 2)) 59)) w.heap.size n 0 := by
  have key : ∀ i, i < n → (madeCells #[Value.bool false, Value.int .i64 0] (n * 2))[i * 2]? = some (.bool false) ∧ (madeCells #[Value.bool false, Value.int .i64 0] (n * 2))[i * 2 + 1]? = some (.int .i64 0) := by
    intro i hi
    unfold madeCells
    have e0 : i * 2 % 2 = 0 := by omega
    have e1 : (i * 2 + 1) % 2 = 1 := by omega
    constructor
    · rw [Array.getElem?_map, Array.getElem?_range, if_pos (by omega)]
      simp [e0]
    · rw [Array.getElem?_map, Array.getElem?_range, if_pos (by omega)]
      simp [e1]
  refine ⟨_, Kq.blk_new _ _ _ _, size_madeCells _ _, fun i hi => ?_⟩
  obtain ⟨q0, q1⟩ := key i hi
  rw [q0, q1]; simp
end Go.Proofs.YtbpgfhcecanikaaGreat
