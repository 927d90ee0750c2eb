/- Two disks side by side; Buffered; a crash in which all lasts. No condition. -/
import Derived.WalkSpells
import Derived.Outline
import Derived.Test.YtcnoakngnjbkiaaDkDo
import Derived.Test.YtcnoakngnjbkiaaDkAwake
namespace Go.Proofs.Ytcnoakngnjbkiaa
open Go.RowKit
set_option linter.unusedVariables false
theorem DkS.keeps {P : Nat → Prop} {w w' : World} {base B S a b : Nat} {buf : Value} {ws : List (Int × ByteArray)} {armed : Int} {st : List Nat} (h : DkS w base B S a b buf ws armed st) (hk : Kq.Keeps P w w') (hP : ∀ j, Own B S buf j → ¬ P j) : DkS w' base B S a b buf ws armed st := by
  refine ⟨⟨hk.blk h.d.blk (hP B (Or.inl rfl)), ?_, h.d.ne, Nat.le_trans h.d.base hk.size, h.d.sb, Nat.lt_of_lt_of_le h.d.sl hk.size⟩, h.s.later hk (hP S (Or.inr (Or.inl rfl)))⟩
  obtain ⟨h1, h2⟩ := h.d.own
  refine ⟨h1, h2.imp id ?_⟩
  rintro ⟨g, cap, cur, hv, h3, h4, h5⟩
  exact ⟨g, cap, cur, hv, h3, hk.blk h4 (hP g (Or.inr (Or.inr (by rw [hv]; rfl)))), h5⟩
theorem DkS.own_lt {w : World} {base B S a b : Nat} {buf : Value} {ws : List (Int × ByteArray)} {armed : Int} {st : List Nat} (h : DkS w base B S a b buf ws armed st) {j : Nat} (hj : Own B S buf j) : j < w.heap.size := by
  rcases hj with rfl | rfl | hj
  · exact Kq.blk_lt h.d.blk
  · exact h.d.sl
  · rcases h.d.own.2 with ⟨e, _⟩ | ⟨g, cap, cur, e, _, h4, _⟩
    · rw [e] at hj; cases hj
    · rw [e] at hj
      have : g = j := by simpa [Value.ownBlock] using hj
      subst this
      exact Kq.blk_lt h4
structure Two (W w : World) (bA BA SA bB BB SB a b : Nat) (bufA : Value) (wsA : List (Int × ByteArray)) (armA : Int) (stA : List Nat) (bufB : Value) (wsB : List (Int × ByteArray)) (armB : Int) (stB : List Nat) : Prop where
  A : DkI W w bA BA SA a b bufA wsA armA stA
  B : DkI W w bB BB SB a b bufB wsB armB stB
  sep : ∀ j, Own BA SA bufA j → ¬ Own BB SB bufB j
section
variable {W w w' : World} {bA BA SA bB BB SB a b : Nat} {bufA buf' : Value} {wsA ws' : List (Int × ByteArray)} {armA arm' : Int} {stA st' : List Nat} {bufB : Value} {wsB : List (Int × ByteArray)} {armB : Int} {stB : List Nat}
theorem Two.swap (h : Two W w bA BA SA bB BB SB a b bufA wsA armA stA bufB wsB armB stB) : Two W w bB BB SB bA BA SA a b bufB wsB armB stB bufA wsA armA stA := ⟨h.B, h.A, fun j hB hA => h.sep j hA hB⟩
theorem Two.below (h : Two W w bA BA SA bB BB SB a b bufA wsA armA stA bufB wsB armB stB) (hb : Below w.heap.size w w') : Two W w' bA BA SA bB BB SB a b bufA wsA armA stA bufB wsB armB stB := ⟨h.A.below hb, h.B.below hb, h.sep⟩
theorem Two.stepA (h : Two W w bA BA SA bB BB SB a b bufA wsA armA stA bufB wsB armB stB) (hd : DkS w' bA BA SA a b buf' ws' arm' st') (hk : Kq.Keeps (Own BA SA bufA) w w') (hf : ∀ j, buf'.ownBlock = some j → bufA.ownBlock = some j ∨ w.heap.size ≤ j) :
    Two W w' bA BA SA bB BB SB a b buf' ws' arm' st' bufB wsB armB stB := by
  have hA := h.A.step hd hk
  refine ⟨hA, ⟨h.B.s.keeps hk (fun j hj hA => h.sep j hA hj), hA.bel, h.B.hB, h.B.hS, h.B.hbase⟩, fun j hj hB => ?_⟩
  rcases hj with e | e | e
  · exact h.sep j (Or.inl e) hB
  · exact h.sep j (Or.inr (Or.inl e)) hB
  · rcases hf j e with e | e
    · exact h.sep j (Or.inr (Or.inr e)) hB
    · exact absurd (h.B.s.own_lt hB) (Nat.not_lt.2 e)
theorem Two.stepA0 (h : Two W w bA BA SA bB BB SB a b bufA wsA armA stA bufB wsB armB stB) (hd : DkS w' bA BA SA a b (.slice none 0 0) ws' arm' st') (hk : Kq.Keeps (fun j => j = BA ∨ j = SA) w w') :
    Two W w' bA BA SA bB BB SB a b (.slice none 0 0) ws' arm' st' bufB wsB armB stB := h.stepA hd (hk.mono (fun _ _ e => e.elim Or.inl (fun e => Or.inr (Or.inl e)))) (fun j hj => by cases hj)
theorem Two.stepA1 (h : Two W w bA BA SA bB BB SB a b bufA wsA armA stA bufB wsB armB stB) (hd : DkS w' bA BA SA a b bufA ws' arm' st') (hk : Kq.Keeps (· = BA) w w') :
    Two W w' bA BA SA bB BB SB a b bufA ws' arm' st' bufB wsB armB stB := h.stepA hd (hk.mono (fun _ _ e => Or.inl e)) (fun j hj => Or.inl hj)
theorem Two.stepB (h : Two W w bA BA SA bB BB SB a b bufA wsA armA stA bufB wsB armB stB) (hd : DkS w' bB BB SB a b buf' ws' arm' st') (hk : Kq.Keeps (Own BB SB bufB) w w') (hf : ∀ j, buf'.ownBlock = some j → bufB.ownBlock = some j ∨ w.heap.size ≤ j) :
    Two W w' bA BA SA bB BB SB a b bufA wsA armA stA buf' ws' arm' st' := (h.swap.stepA hd hk hf).swap
theorem Two.stepB0 (h : Two W w bA BA SA bB BB SB a b bufA wsA armA stA bufB wsB armB stB) (hd : DkS w' bB BB SB a b (.slice none 0 0) ws' arm' st') (hk : Kq.Keeps (fun j => j = BB ∨ j = SB) w w') :
    Two W w' bA BA SA bB BB SB a b bufA wsA armA stA (.slice none 0 0) ws' arm' st' := (h.swap.stepA0 hd hk).swap
end
/-- two disks that New made, one behind the other -/
theorem Two.made {W w w1 w2 : World} {a b n : Nat} (hW : Below W.heap.size W w) {x y : Ending} (hn : a * b = n) (h : NewPost a b n w x w1) (k : NewPost a b n w1 y w2) :
    Two W w2 w.heap.size (w.heap.size + 1) w.heap.size w1.heap.size (w1.heap.size + 1) w1.heap.size a b (.slice none 0 0) [] ((0 : Nat) : Int) (List.replicate n 0) (.slice none 0 0) [] ((0 : Nat) : Int) (List.replicate n 0) := by
  have hA := DkI.made hW hn h
  have hB := DkI.made hA.bel hn k
  obtain ⟨-, -, -, b2⟩ := k
  refine ⟨hA.below b2, hB, fun j hj hB' => ?_⟩
  have h1 := hA.s.own_lt hj
  rcases hB' with e | e | e
  · omega
  · omega
  · cases e
set_option maxRecDepth 100000 in
theorem dk_buffered (B : Nat) (A : Option Addr) (n cap : Nat) (w : World) (h : w.cell? ⟨B, 3, none⟩ = some (.slice A n cap)) : Calls Try.prog 14 #[.pointer (some ⟨B, 0, none⟩)] w fun x w' => x = .returned (.int .i64 (n : Int)) ∧ w = w' := by
  go_enter Try.func14, Try.ntmps14
  go_wp2
  go_ret
  exact ⟨rfl, rfl⟩
theorem crash_all (a : Nat) (ws : List (Int × ByteArray)) (torn : Bool) (st : List Nat) : crashB a ws (List.replicate ws.length (true, 0)) torn st = flushB a ws st := by
  induction ws generalizing st with
  | nil => rfl
  | cons p ws ih =>
    obtain ⟨k, s⟩ := p
    rw [List.length_cons, List.replicate_succ, crashB, if_pos rfl, if_neg (by omega)]
    exact ih _
theorem crash_none (a : Nat) (l : List (Bool × Int)) (torn : Bool) (st : List Nat) : crashB a [] l torn st = st := rfl
theorem read_flush (a b : Nat) (ws : List (Int × ByteArray)) (st : List Nat) (h : WsOk a b ws) (hl : st.length = a * b) (hs : ∀ x ∈ st, x < 256) (k : Nat) (hk : k < b) :
    readB a [] (flushB a ws st) (k : Int) = readB a ws st (k : Int) := by
  show txt (sec a (k : Int).toNat _) = _
  rw [Int.toNat_natCast, flush_sec a b ws st h hl hs k hk]
  unfold readB orSec
  cases lastW (k : Int) ws with
  | some s => exact nl_inj (nl_txt _ (nl_lt s))
  | none => rfl
theorem infoAw : (Try.prog.info? 57).map (fun i => (i.zero, i.size, i.bytes)) = some (some (.agg #[.bool false, .int .i64 0]), 2, 16) := by kernel_rfl
theorem infoSt : (Try.prog.info? 9).map (fun i => (i.zero, i.size, i.bytes)) = some (some (.string ⟨#[]⟩), 1, 16) := by kernel_rfl
theorem mk_writes (w : World) (n : Nat) (hn : n ≤ 3000000) :
    (Instr.makeSlice 41 (.int .i64 (n : Int)) (.int .i64 (n : Int))).run Try.prog w = .ok (.slice (some ⟨w.heap.size, 0, none⟩) n n) (w.alloc (.cells (madeCells #[.bool false, .int .i64 0] (n * 2)) 57)) := by
  obtain ⟨i0, hi, hz0, hz1, hz2⟩ := info_parts infoAw
  have := run_makeSlice (P := Try.prog) w 41 57 i0 (.agg #[.bool false, .int .i64 0]) Try.underlying41 hi hz0 .i64 .i64 (n : Int) (n : Int) (by omega) (Int.le_refl _) (by rw [hz1]; simp; omega) (by rw [hz2]; omega) (by omega)
  rw [hz1] at this
  simpa [Value.cells] using this
theorem src_text (w : World) (s : ByteArray) (c : Nat) (e : TypeId) : Src Try.prog 1 53 (.slice (some ⟨w.heap.size, 0, none⟩) 1 c) 1 [Value.string s] (w.alloc (.cells #[.string s] e)) :=
  Src.ofSlice _ Try.underlying53 ⟨w.heap.size, 0, none⟩ 1 c [Value.string s] rfl (fun j u hj => Kq.cell_new _ _ _ (by
    rw [← List.getElem?_toArray] at hj
    exact hj)) (fun u hu => by
    simp only [List.mem_cons, List.not_mem_nil, or_false] at hu
    subst hu
    rfl)
/-- a row of writes to come, of which the first j last -/
structure AwAt (w : World) (M n j : Nat) : Prop where
  blk : ∃ cs : Array Value, w.heap[M]? = some (.cells cs 57 (0, 0)) ∧ cs.size = n * 2 ∧ ∀ i, i < n → cs[i * 2]? = some (.bool (decide (i < j))) ∧ cs[i * 2 + 1]? = some (.int .i64 0)
theorem AwAt.set {w : World} {M n j : Nat} (h : AwAt w M n j) (hj : j < n) : AwAt (w.setCell ⟨M, j * 2, none⟩ (.bool true)) M n (j + 1) := by
  obtain ⟨cs, h1, h2, h3⟩ := h.blk
  refine ⟨cs.setIfInBounds (j * 2) (.bool true), Kq.blk_set h1 _ _, by simp [h2], fun i hi => ?_⟩
  obtain ⟨q0, q1⟩ := h3 i hi
  rw [Array.getElem?_setIfInBounds, Array.getElem?_setIfInBounds]
  refine ⟨?_, by rw [if_neg (by omega)]; exact q1⟩
  by_cases hij : i = j
  · subst hij
    rw [if_pos rfl, if_pos (by rw [h2]; omega)]
    simp
  · rw [if_neg (by omega), q0]
    have : decide (i < j) = decide (i < j + 1) := by
      by_cases h' : i < j
      · rw [decide_eq_true h', decide_eq_true (by omega)]
      · rw [decide_eq_false h', decide_eq_false (by omega)]
    rw [this]
theorem AwAt.later {P : Nat → Prop} {w w' : World} {M n j : Nat} (h : AwAt w M n j) (hk : Kq.Keeps P w w') (hP : ¬ P M) : AwAt w' M n j := by
  obtain ⟨cs, h1, h2, h3⟩ := h.blk
  exact ⟨cs, hk.blk h1 hP, h2, h3⟩
theorem AwAt.lt {w : World} {M n j : Nat} (h : AwAt w M n j) : M < w.heap.size := by
  obtain ⟨cs, h1, _⟩ := h.blk
  exact Kq.blk_lt h1
theorem AwAt.cw {w : World} {M n : Nat} (h : AwAt w M n n) : CwAt w (some ⟨M, 0, none⟩) (List.replicate n (true, 0)) := ⟨fun i hi => by
  have hi' : i < n := by simpa using hi
  obtain ⟨cs, h1, h2, h3⟩ := h.blk
  obtain ⟨q0, q1⟩ := h3 i hi'
  refine ⟨M, 0, rfl, Kq.blk_lt h1, ?_, ?_⟩
  · rw [Nat.zero_add, Kq.blk_cell h1, q0]; simp [hi']
  · rw [Nat.zero_add, Kq.blk_cell h1, q1]; simp⟩
theorem AwAt.made (w : World) (n : Nat) : AwAt (w.alloc (.cells (madeCells #[.bool false, .int .i64 0] (n * 2)) 57)) w.heap.size n 0 := by
  have key : ∀ i, i < n → (madeCells #[Value.bool false, Value.int .i64 0] (n * 2))[i * 2]? = some (.bool false) ∧ (madeCells #[Value.bool false, Value.int .i64 0] (n * 2))[i * 2 + 1]? = some (.int .i64 0) := by
    intro i hi
    unfold madeCells
    have e0 : i * 2 % 2 = 0 := by omega
    have e1 : (i * 2 + 1) % 2 = 1 := by omega
    constructor
    · rw [Array.getElem?_map, Array.getElem?_range, if_pos (by omega)]
      simp [e0]
    · rw [Array.getElem?_map, Array.getElem?_range, if_pos (by omega)]
      simp [e1]
  refine ⟨_, Kq.blk_new _ _ _ _, size_madeCells _ _, fun i hi => ?_⟩
  obtain ⟨q0, q1⟩ := key i hi
  rw [q0, q1]; simp
end Go.Proofs.Ytcnoakngnjbkiaa
