/- Contract of frame.Split. Condition: sizes. -/
import Derived.Test.YtbpgfhcecanikaaGreatFrCutQ
import Derived.Test.YtbpgfhcecanikaaGreatStrsOpenQ
import Derived.Test.YtbpgfhcecanikaaGreatHdMQ
namespace Go.Proofs.YtbpgfhcecanikaaGreat
open Go.RowKit Go.Shelf
attribute [local go_sem] Oper.semAt_some
set_option linter.unusedVariables false
set_option linter.unusedSimpArgs false
/-- a record's sectors -/
def secF (a g x n : Nat) (s : ByteArray) (i : Nat) : ByteArray := frSec a ⟨g, x, i, n, pieceC (a - 25) s i⟩
def frSplit (a : Int) (g x : Nat) (s : ByteArray) : List ByteArray × Int := if FrSz a ∧ s.size ≤ 4096 then ((List.range (nParts a.toNat s.size)).map (secF a.toNat g x (nParts a.toNat s.size) s), 0) else ([], 1)
def SplitPost (a : Int) (g x : Nat) (s : ByteArray) (w : World) (e : Ending) (w' : World) : Prop :=
  ∃ v, e = .returned (.tuple #[v, .int .i64 (frSplit a g x s).2]) ∧ w'.ownsRow w.heap.size 9 1 v (frSplit a g x s).1.length (tcells (frSplit a g x s).1) ∧ Below w.heap.size w w'
/-- where Split's variables lie -/
structure Ads (base B0 B1 B2 B3 Rw BX Bs Br lo : Nat) : Prop where
  e0 : B0 = base
  e1 : B1 = base + 1
  e2 : B2 = base + 2
  e3 : B3 = base + 3
  e4 : Rw = base + 4
  e5 : BX = base + 5
  e6 : Bs = base + 6
  e7 : Br = base + 7
  e8 : lo = base + 8
structure SpV (w : World) (Rw BX lo : Nat) (F : Nat → ByteArray) (k : Nat) (v : Value) (W : World) : Prop where
  box : W.heap[BX]? = some (.cells #[v] 35 (0, 0))
  row : W.ownsRow Rw 9 1 v k (tcells ((List.range k).map F))
  own : ∀ j, v.ownBlock = some j → j = Rw ∨ lo ≤ j
/-- while sectors are collected -/
structure SpI (w : World) (a g x n : Nat) (B0 B1 B2 B3 Rw BX lo : Nat) (F : Nat → ByteArray) (k : Nat) (W : World) : Prop where
  b0 : W.heap[B0]? = some (.cells #[.int .i64 (a : Int)] 3 (0, 0))
  b1 : W.heap[B1]? = some (.cells #[.int .u64 (g : Int)] 46 (0, 0))
  b2 : W.heap[B2]? = some (.cells #[.int .u64 (x : Int)] 46 (0, 0))
  b3 : W.heap[B3]? = some (.cells #[.int .i64 (n : Int)] 3 (0, 0))
  v : ∃ v, SpV w Rw BX lo F k v W
  sz : lo ≤ W.heap.size
  bel : Below w.heap.size w W
section
variable {w W W' : World} {a g x n B0 B1 B2 B3 Rw BX Bs Br lo : Nat} {F : Nat → ByteArray} {k : Nat}
theorem SpI.keeps {S : Nat → Prop} (ad : Ads w.heap.size B0 B1 B2 B3 Rw BX Bs Br lo) (h : SpI w a g x n B0 B1 B2 B3 Rw BX lo F k W) (hk : Kq.Keeps S W W') (hS : ∀ j, S j → j = Bs ∨ (lo ≤ j ∧ ∃ o, W.heap[j]? = some o ∧ o.isCells = false)) :
    SpI w a g x n B0 B1 B2 B3 Rw BX lo F k W' := by
  obtain ⟨e0, e1, e2, e3, e4, e5, e6, e7, e8⟩ := ad
  have low : ∀ j, j < lo → j ≠ Bs → ¬ S j := fun j hj hne hs => by
    rcases hS j hs with h1 | ⟨h1, _⟩
    · exact hne h1
    · omega
  obtain ⟨v, hv⟩ := h.v
  refine ⟨hk.blk h.b0 (low _ (by omega) (by omega)), hk.blk h.b1 (low _ (by omega) (by omega)), hk.blk h.b2 (low _ (by omega) (by omega)), hk.blk h.b3 (low _ (by omega) (by omega)), ⟨v, hk.blk hv.box (low _ (by omega) (by omega)), ?_, hv.own⟩, Nat.le_trans h.sz hk.size, h.bel.trans (hk.below h.bel.size (fun j _ hs => by rcases hS j hs with h1 | ⟨h1, _⟩ <;> omega))⟩
  refine own_later hv.row (fun j hj => hk.block j (hv.row.lt j hj).2 (fun hs => ?_))
  rcases hS j hs with h1 | ⟨h1, o, h2, h3⟩
  · rcases hv.own j hj with h4 | h4 <;> omega
  · rcases hv.row.2 with ⟨rfl, _⟩ | ⟨b, cap, cur, rfl, _, h5, _⟩
    · cases hj
    · have : b = j := by simpa [Value.ownBlock] using hj
      subst this
      rw [h5] at h2
      cases h2
      cases h3
theorem SpI.close {v v' : Value} (ad : Ads w.heap.size B0 B1 B2 B3 Rw BX Bs Br lo) (h : SpI w a g x n B0 B1 B2 B3 Rw BX lo F k W) (hv : SpV w Rw BX lo F k v W) (hk : Kq.Keeps (fun j => some j = v.ownBlock ∨ j = BX) W W')
    (hbox : W'.heap[BX]? = some (.cells #[v'] 35 (0, 0))) (hrow : W'.ownsRow Rw 9 1 v' (k + 1) (tcells ((List.range k).map F) ++ tcells [F k])) (hf : ∀ j, v'.ownBlock = some j → some j = v.ownBlock ∨ W.heap.size ≤ j) :
    KeepsOthers W W' ∧ SpI w a g x n B0 B1 B2 B3 Rw BX lo F (k + 1) W' ∧ KpC Bs Br W W' := by
  obtain ⟨e0, e1, e2, e3, e4, e5, e6, e7, e8⟩ := ad
  have low : ∀ j, j < lo → j ≠ BX → j ≠ Rw → ¬ (some j = v.ownBlock ∨ j = BX) := fun j hj h1 h2 hs => by
    rcases hs with hs | hs
    · rcases hv.own j hs.symm with h3 | h3 <;> omega
    · exact h1 hs
  have hsz := h.sz
  refine ⟨⟨hk.size, fun j o hj ho => ?_⟩, ⟨hk.blk h.b0 (low _ (by omega) (by omega) (by omega)), hk.blk h.b1 (low _ (by omega) (by omega) (by omega)), hk.blk h.b2 (low _ (by omega) (by omega) (by omega)), hk.blk h.b3 (low _ (by omega) (by omega) (by omega)), ⟨v', hbox, ?_, fun j hj => ?_⟩, Nat.le_trans h.sz hk.size, h.bel.trans (hk.below h.bel.size (fun j _ hs => ?_))⟩, ?_, ?_⟩
  · refine hk.blk hj (fun hs => ?_)
    rcases hs with hs | hs
    · rcases hv.row.2 with ⟨rfl, _⟩ | ⟨b, cap, cur, rfl, _, h5, _⟩
      · cases hs
      · have : j = b := by simpa [Value.ownBlock] using hs
        subst this
        rw [h5] at hj
        cases hj
        cases ho
    · subst hs
      rw [hv.box] at hj
      cases hj
      cases ho
  · rw [List.range_succ, List.map_append, tcells_append]; exact hrow
  · rcases hf j hj with h1 | h1
    · exact hv.own j h1.symm
    · exact Or.inr (by omega)
  · rcases hs with hs | hs
    · have := own_ge hv.row hs.symm; omega
    · omega
  · exact hk.block Bs (by omega) (low _ (by omega) (by omega) (by omega))
  · exact hk.block Br (by omega) (low _ (by omega) (by omega) (by omega))
end
theorem SpI.start (w : World) (a g x n : Nat) (F : Nat → ByteArray) (s : ByteArray) (r : Int) (hn : n ≤ 1000) :
    SpI w a g x n w.heap.size (w.heap.size + 1) (w.heap.size + 1 + 1) (w.heap.size + 1 + 1 + 1) (w.heap.size + 1 + 1 + 1 + 1) (w.heap.size + 1 + 1 + 1 + 1 + 1) (w.heap.size + 1 + 1 + 1 + 1 + 1 + 1 + 1 + 1) F 0
      ((((((((w.alloc (.cells #[.int .i64 (a : Int)] 3)).alloc (.cells #[.int .u64 (g : Int)] 46)).alloc (.cells #[.int .u64 (x : Int)] 46)).alloc (.cells #[.int .i64 (n : Int)] 3)).alloc (.cells (madeCells #[Value.string ⟨#[]⟩] n) 9)).alloc (.cells #[.slice (some ⟨w.heap.size + 1 + 1 + 1 + 1, 0, none⟩) 0 n] 35)).alloc (.cells #[.string s] 9)).alloc (.cells #[.int .i64 r] 3)) ∧
    BoxS ((((((((w.alloc (.cells #[.int .i64 (a : Int)] 3)).alloc (.cells #[.int .u64 (g : Int)] 46)).alloc (.cells #[.int .u64 (x : Int)] 46)).alloc (.cells #[.int .i64 (n : Int)] 3)).alloc (.cells (madeCells #[Value.string ⟨#[]⟩] n) 9)).alloc (.cells #[.slice (some ⟨w.heap.size + 1 + 1 + 1 + 1, 0, none⟩) 0 n] 35)).alloc (.cells #[.string s] 9)).alloc (.cells #[.int .i64 r] 3)) (w.heap.size + 1 + 1 + 1 + 1 + 1 + 1) s ∧
    BoxI ((((((((w.alloc (.cells #[.int .i64 (a : Int)] 3)).alloc (.cells #[.int .u64 (g : Int)] 46)).alloc (.cells #[.int .u64 (x : Int)] 46)).alloc (.cells #[.int .i64 (n : Int)] 3)).alloc (.cells (madeCells #[Value.string ⟨#[]⟩] n) 9)).alloc (.cells #[.slice (some ⟨w.heap.size + 1 + 1 + 1 + 1, 0, none⟩) 0 n] 35)).alloc (.cells #[.string s] 9)).alloc (.cells #[.int .i64 r] 3)) (w.heap.size + 1 + 1 + 1 + 1 + 1 + 1 + 1) r := by
  obtain ⟨w1, h1⟩ : ∃ z, z = w.alloc (.cells #[.int .i64 (a : Int)] 3) := ⟨_, rfl⟩
  obtain ⟨w2, h2⟩ : ∃ z, z = w1.alloc (.cells #[.int .u64 (g : Int)] 46) := ⟨_, rfl⟩
  obtain ⟨w3, h3⟩ : ∃ z, z = w2.alloc (.cells #[.int .u64 (x : Int)] 46) := ⟨_, rfl⟩
  obtain ⟨w4, h4⟩ : ∃ z, z = w3.alloc (.cells #[.int .i64 (n : Int)] 3) := ⟨_, rfl⟩
  obtain ⟨w5, h5⟩ : ∃ z, z = w4.alloc (.cells (madeCells #[Value.string ⟨#[]⟩] n) 9) := ⟨_, rfl⟩
  obtain ⟨w6, h6⟩ : ∃ z, z = w5.alloc (.cells #[.slice (some ⟨w.heap.size + 1 + 1 + 1 + 1, 0, none⟩) 0 n] 35) := ⟨_, rfl⟩
  obtain ⟨w7, h7⟩ : ∃ z, z = w6.alloc (.cells #[.string s] 9) := ⟨_, rfl⟩
  obtain ⟨w8, h8⟩ : ∃ z, z = w7.alloc (.cells #[.int .i64 r] 3) := ⟨_, rfl⟩
  rw [← h1, ← h2, ← h3, ← h4, ← h5, ← h6, ← h7, ← h8]
  have s1 : w1.heap.size = w.heap.size + 1 := by rw [h1]; simp
  have s2 : w2.heap.size = w.heap.size + 1 + 1 := by rw [h2, World.size_alloc, s1]
  have s3 : w3.heap.size = w.heap.size + 1 + 1 + 1 := by rw [h3, World.size_alloc, s2]
  have s4 : w4.heap.size = w.heap.size + 1 + 1 + 1 + 1 := by rw [h4, World.size_alloc, s3]
  have s5 : w5.heap.size = w.heap.size + 1 + 1 + 1 + 1 + 1 := by rw [h5, World.size_alloc, s4]
  have s6 : w6.heap.size = w.heap.size + 1 + 1 + 1 + 1 + 1 + 1 := by rw [h6, World.size_alloc, s5]
  have s7 : w7.heap.size = w.heap.size + 1 + 1 + 1 + 1 + 1 + 1 + 1 := by rw [h7, World.size_alloc, s6]
  have s8 : w8.heap.size = w.heap.size + 1 + 1 + 1 + 1 + 1 + 1 + 1 + 1 := by rw [h8, World.size_alloc, s7]
  have g1 : Below w.heap.size w w1 := by rw [h1]; exact Kq.below_alloc _ _
  have g2 : Below w1.heap.size w1 w2 := by rw [h2]; exact Kq.below_alloc _ _
  have g3 : Below w2.heap.size w2 w3 := by rw [h3]; exact Kq.below_alloc _ _
  have g4 : Below w3.heap.size w3 w4 := by rw [h4]; exact Kq.below_alloc _ _
  have g5 : Below w4.heap.size w4 w5 := by rw [h5]; exact Kq.below_alloc _ _
  have g6 : Below w5.heap.size w5 w6 := by rw [h6]; exact Kq.below_alloc _ _
  have g7 : Below w6.heap.size w6 w7 := by rw [h7]; exact Kq.below_alloc _ _
  have g8 : Below w7.heap.size w7 w8 := by rw [h8]; exact Kq.below_alloc _ _
  have t7 := g8
  have t6 := g7.trans (t7.mono (by omega))
  have t5 := g6.trans (t6.mono (by omega))
  have t4 := g5.trans (t5.mono (by omega))
  have t3 := g4.trans (t4.mono (by omega))
  have t2 := g3.trans (t3.mono (by omega))
  have t1 := g2.trans (t2.mono (by omega))
  have t0 := g1.trans (t1.mono (by omega))
  refine ⟨⟨Kq.below_blk t1 (by rw [h1]; exact Kq.blk_new _ _ _ _) (by omega), Kq.below_blk t2 (by rw [h2, ← s1]; exact Kq.blk_new _ _ _ _) (by omega), Kq.below_blk t3 (by rw [h3, ← s2]; exact Kq.blk_new _ _ _ _) (by omega), Kq.below_blk t4 (by rw [h4, ← s3]; exact Kq.blk_new _ _ _ _) (by omega),
    ⟨.slice (some ⟨w.heap.size + 1 + 1 + 1 + 1, 0, none⟩) 0 n, Kq.below_blk t6 (by rw [h6, ← s5]; exact Kq.blk_new _ _ _ _) (by omega), ?_, fun j hj => ?_⟩, by omega, t0⟩, Kq.below_blk t7 (by rw [h7, ← s6]; exact Kq.blk_new _ _ _ _) (by omega), by unfold BoxI; rw [h8, ← s7]; exact Kq.blk_new _ _ _ _⟩
  · have hm : w5.ownsRow w4.heap.size 9 1 (.slice (some ⟨w4.heap.size, 0, none⟩) 0 n) 0 [] := by
      rw [h5]
      exact World.ownsRow_made w4 _ n (Nat.le_refl _) (by unfold maxLen; omega) (by simp [madeCells])
    rw [s4] at hm
    exact fr_row_below hm t5
  · left
    have : w.heap.size + 1 + 1 + 1 + 1 = j := by simpa [Value.ownBlock] using hj
    omega
theorem nParts_iff (a b k : Nat) (ha : 64 ≤ a) : k + 1 < nParts a b ↔ (k + 1) * (a - 25) < b := by
  obtain ⟨r, hr⟩ : ∃ r, r = a - 25 := ⟨_, rfl⟩
  unfold nParts
  rw [← hr]
  have h1 : k + 2 ≤ (b + r - 1) / r ↔ (k + 2) * r ≤ b + r - 1 := Nat.le_div_iff_mul_le (by omega)
  have h2 : (k + 2) * r = (k + 1) * r + r := by rw [show k + 2 = (k + 1) + 1 from rfl, Nat.add_mul, Nat.one_mul]
  rw [h2] at h1
  generalize (b + r - 1) / r = q at *
  generalize (k + 1) * r = m at *
  omega
theorem nParts_in (a b k : Nat) (ha : 64 ≤ a) (h : k < nParts a b) : k * (a - 25) ≤ b := by
  cases k with
  | zero => rw [Nat.zero_mul]; exact Nat.zero_le _
  | succ k => exact Nat.le_of_lt ((nParts_iff a b k ha).1 h)
theorem piece_size (r : Nat) (s : ByteArray) (k : Nat) : (pieceC r s k).size ≤ r := by
  unfold pieceC
  have : (k + 1) * r = k * r + r := by rw [Nat.add_mul, Nat.one_mul]
  rw [this]
  simp
  omega
theorem row_base {w : World} {base base' size : Nat} {e : TypeId} {v : Value} {n : Nat} {xs : List Value} (h : w.ownsRow base e size v n xs) (hb : base' ≤ base) : w.ownsRow base' e size v n xs := by
  refine ⟨h.1, h.2.imp id ?_⟩
  rintro ⟨g, cap, cur, hv, h3, h4⟩
  exact ⟨g, cap, cur, hv, Nat.le_trans hb h3, h4⟩
theorem mk_strs (n : Nat) (hn : n ≤ 1000) (w : World) : (Instr.makeSlice 35 (.int .i64 0) (.int .i64 (n : Int))).run Tryz.prog w = .ok (.slice (some ⟨w.heap.size, 0, none⟩) 0 n) (w.alloc (.cells (madeCells (Value.string ⟨#[]⟩).cells n) 9)) := by
  obtain ⟨i0, hi, hz0, hz1, hz2⟩ := info_parts infoStr
  have := run_makeSlice (P := Tryz.prog) (w := w) 35 9 i0 (.string ⟨#[]⟩) Tryz.underlying35 hi hz0 .i64 .i64 0 (n : Int) (Int.le_refl _) (by omega) (by rw [hz1]; simp; omega) (by rw [hz2]; omega) (by omega)
  rw [hz1] at this
  simpa using this
set_option maxRecDepth 100000 in
set_option maxHeartbeats 2000000 in
theorem fr_split_in (a g x : Nat) (s : ByteArray) (w : World) (ha : 64 ≤ a) (h5 : a ≤ 512) (hs : s.size ≤ 4096) (hg : g < M64) (hx : x < M64) :
    Calls Tryz.prog 52 #[.int .i64 (a : Int), .int .u64 (g : Int), .int .u64 (x : Int), .string s] w (SplitPost a g x s w) := by
  obtain ⟨j0, ji, jz0, jz1, jz2⟩ := info_parts infoStr
  have HPN := Lib.hid (nParts_le a s.size ha hs)
  have HP := Lib.hid (fun (w : World) => callsIn_wide (n := 9).2 (fr_parts_ok a s.size w ha h5 hs))
  have HA := Lib.hid (And.intro ha (And.intro h5 (And.intro hs (And.intro hg hx))))
  have ha1 : 64 ≤ (a : Int) := by omega
  have ha2 : (a : Int) ≤ 512 := by omega
  obtain ⟨n, hn⟩ : ∃ z, z = nParts a s.size := ⟨_, rfl⟩
  rw [← hn] at HPN HP
  have HNN := Lib.hid hn
  have hmk := mk_strs n (by have := HPN.out; omega)
  have hn0 : ((n : Int) == 0) = false := by have := HPN.out; simp; omega
  have hn0' : (n == 0) = false := by have := HPN.out; simp; omega
  have HPS : Hid (∀ v wz, wz.ownsRow (w.heap.size + 1 + 1 + 1 + 1) 9 1 v n (tcells ((List.range n).map (secF a g x n s))) → Below w.heap.size w wz → SplitPost a g x s w (.returned (.tuple #[v, .int .i64 0])) wz) := Lib.hid (by
    intro v wz h1 h2
    have e : frSplit (a : Int) g x s = ((List.range n).map (secF a g x n s), 0) := by
      unfold frSplit
      rw [if_pos (by unfold FrSz; omega), Int.toNat_natCast, ← hn]
    unfold SplitPost
    rw [e]
    refine ⟨v, rfl, ?_, h2⟩
    simp only [List.length_map, List.length_range]
    exact row_base h1 (by omega))
  clear hn ha h5 hs hg hx
  refine (callsIn_wide (n := 10)).1 (callsIn_of_wp_marks Tryz.func52 rfl trivial ?_ rfl)
  simp only [Tryz.ntmps52, List.size_toArray, List.length_cons, List.length_nil, Nat.reduceAdd, Nat.reduceSub, Array.replicate_succ, Array.replicate_zero, List.push_toArray, List.append_toArray, List.nil_append, List.cons_append]
  gi_wp2_with (first | (refine ⟨trivial, ?_⟩; gi_at_call 38; refine (HP.out _).mono ?_; rintro e w1 ⟨rfl, rfl⟩) | (refine ⟨trivial, ?_⟩; gi_at_call 67; refine (callsIn_wide.2 (fr_cut _ _ _)).mono ?_; rintro e w1 ⟨rfl, rfl⟩))
  have HST := Lib.hid (SpI.start w a g x n (secF a g x n s) s ((a : Int) - 25) (by have := HPN.out; omega))
  have HAD : Hid (Ads w.heap.size w.heap.size (w.heap.size + 1) (w.heap.size + 1 + 1) (w.heap.size + 1 + 1 + 1) (w.heap.size + 1 + 1 + 1 + 1) (w.heap.size + 1 + 1 + 1 + 1 + 1) (w.heap.size + 1 + 1 + 1 + 1 + 1 + 1) (w.heap.size + 1 + 1 + 1 + 1 + 1 + 1 + 1) (w.heap.size + 1 + 1 + 1 + 1 + 1 + 1 + 1 + 1)) := Lib.hid ⟨rfl, rfl, rfl, rfl, rfl, rfl, rfl, rfl, rfl⟩
  generalize ((((((((w.alloc (.cells #[.int .i64 (a : Int)] 3)).alloc (.cells #[.int .u64 (g : Int)] 46)).alloc (.cells #[.int .u64 (x : Int)] 46)).alloc (.cells #[.int .i64 (n : Int)] 3)).alloc (.cells (madeCells #[Value.string ⟨#[]⟩] n) 9)).alloc (.cells #[.slice (some ⟨w.heap.size + 1 + 1 + 1 + 1, 0, none⟩) 0 n] 35)).alloc (.cells #[.string s] 9)).alloc (.cells #[.int .i64 ((a : Int) - 25)] 3)) = w0 at *
  generalize w.heap.size + 1 + 1 + 1 + 1 + 1 + 1 + 1 + 1 = lo at *
  generalize w.heap.size + 1 + 1 + 1 + 1 + 1 + 1 + 1 = Br at *
  generalize w.heap.size + 1 + 1 + 1 + 1 + 1 + 1 = Bs at *
  generalize w.heap.size + 1 + 1 + 1 + 1 + 1 = BX at *
  generalize w.heap.size + 1 + 1 + 1 + 1 = Rw at *
  generalize w.heap.size + 1 + 1 + 1 = B3 at *
  generalize w.heap.size + 1 + 1 = B2 at *
  generalize w.heap.size + 1 = B1 at *
  obtain ⟨B0, hB0⟩ : ∃ z, z = w.heap.size := ⟨_, rfl⟩
  have HAD : Hid (Ads w.heap.size B0 B1 B2 B3 Rw BX Bs Br lo) := Lib.hid (by rw [hB0]; exact HAD.out)
  have HST : Hid (SpI w a g x n B0 B1 B2 B3 Rw BX lo (secF a g x n s) 0 w0 ∧ BoxS w0 Bs s ∧ BoxI w0 Br ((a - 25 : Nat) : Int)) := Lib.hid (by
    have h := HST.out
    rw [← hB0] at h
    rw [show ((a - 25 : Nat) : Int) = (a : Int) - 25 by omega]
    exact h)
  rw [← hB0]
  clear hmk hn0 hn0' HP hB0
  have hbr : Br < w0.heap.size := Kq.blk_lt HST.out.2.2
  have hbs : Bs < w0.heap.size := Kq.blk_lt HST.out.2.1
  refine Kq.wpIn_rangeFunc_seq (F := Fence.wide) rfl (by decide) (gf := 88) (lb := #[.pointer (some ⟨Br, 0, none⟩), .pointer (some ⟨Bs, 0, none⟩)]) rfl trivial (enters_of Tryz.func88 (by kernel_rfl) rfl)
    (fun k => #[.int .i64 (k : Int), .string (pieceC (a - 25) s k)]) n (fun _ => rfl) (KpC Bs Br) (AbC Bs) (fun _ _ h => h.1)
    (fun _ _ _ h1 h2 => ⟨h2.1.trans h1.1, h2.2.trans h1.2⟩)
    (fun W k o o' _ _ hk => ⟨World.putObj_heap_other (by omega), World.putObj_heap_other (by omega)⟩)
    (fun W => BoxS W Bs s ∧ BoxI W Br ((a - 25 : Nat) : Int))
    (fun W hb => ⟨Kq.below_blk hb HST.out.2.1 hbs, Kq.below_blk hb HST.out.2.2 hbr⟩)
    ?hseq
    (fun k W => SpI w a g x n B0 B1 B2 B3 Rw BX lo (secF a g x n s) k W)
    (fun k A B h hab => h.keeps HAD.out hab.2 (fun j hj => Or.inl hj))
    (fun k W l o o' hl ho hc h => h.keeps (S := (· = l)) HAD.out ⟨rfl, rfl, rfl, by simp, fun j _ hj => World.putObj_heap_other (fun e => hj e)⟩ (fun j hj => by subst hj; exact Or.inr ⟨Nat.le_trans HST.out.1.sz hl, o, ho, hc⟩))
    (fun k W o h => h.keeps HAD.out (Kq.Keeps.alloc (fun _ => False) W o) (fun j hj => hj.elim))
    HST.out.1
    (fun k => { tmps := #[.int .i64 (a : Int), .int .u64 (g : Int), .int .u64 (x : Int), .string s, .pointer (some ⟨B0, 0, none⟩), .pointer (some ⟨B1, 0, none⟩), .pointer (some ⟨B2, 0, none⟩), undef, .slice none 0 0, .int .i64 0, .pointer (some ⟨B3, 0, none⟩), .pointer (some ⟨BX, 0, none⟩), .int .i64 (k : Int), .string (pieceC (a - 25) s k), undef, .int .i64 (a : Int), .string s, .int .i64 (s.size : Int), .int .i64 (n : Int), .int .i64 (n : Int), .bool false, .int .i64 (n : Int), .slice (some ⟨Rw, 0, none⟩) 0 n, .string s, .int .i64 (a : Int), .int .i64 ((a : Int) - 25), .func (.func 88) #[] #[.pointer (some ⟨Br, 0, none⟩), .pointer (some ⟨Bs, 0, none⟩)], .int .i64 (k : Int), .string (pieceC (a - 25) s k), undef, undef, undef, undef, undef, undef, undef, undef, undef, undef, undef, undef, undef, undef], defers := [] }) ?assign ?body ?done
  case hseq =>
    intro l J W hSt hJ hY h0
    exact fr_cut_in 9 l Bs Br (a - 25) n s (by have := HAD.out.e6; have := HAD.out.e7; omega) (by have := HA.out; omega) (by have := HA.out; omega) (by have := HA.out; omega) (fun k hk => by rw [HNN.out] at hk ⊢; exact ⟨nParts_in a s.size k HA.out.1 hk, nParts_iff a s.size k HA.out.1⟩) HPN.out.1 (by have := HPN.out; omega) J hJ hY W hSt.1 hSt.2 h0
  case assign =>
    intro l k W K hk hK
    gi_wp2
    exact hK
  case body =>
    intro l k W hI hk
    obtain ⟨v, hv⟩ := hI.v
    have HI := Lib.hid (And.intro hI hv)
    have HK := Lib.hid hk
    have c0 := Kq.blk_cell hI.b0 0
    have c1 := Kq.blk_cell hI.b1 0
    have c2 := Kq.blk_cell hI.b2 0
    have c3 := Kq.blk_cell hI.b3 0
    have c4 := Kq.blk_cell hv.box 0
    clear hI hv hk
    refine wpIn_block ?_
    refine wpIn_seq_k (fun K hK => ?_)
    gi_wp2
    clear c1 c2 c3
    have HSC : Hid (secF a g x n s k = frSec a ⟨g, x, k, n, pieceC (a - 25) s k⟩) := Lib.hid rfl
    have HWP : Hid (∀ w', Below (W.alloc (.cells #[.int .u64 (g : Int), .int .u64 (x : Int), .int .i64 (k : Int), .int .i64 (n : Int), .string (pieceC (a - 25) s k)] 118)).heap.size (W.alloc (.cells #[.int .u64 (g : Int), .int .u64 (x : Int), .int .i64 (k : Int), .int .i64 (n : Int), .string (pieceC (a - 25) s k)] 118)) w' →
      w'.heap[BX]? = some (.cells #[v] 35 (0, 0)) ∧ w'.heap[B0]? = some (.cells #[.int .i64 (a : Int)] 3 (0, 0)) ∧ w'.heap[W.heap.size]? = some (.cells #[.int .u64 (g : Int), .int .u64 (x : Int), .int .i64 (k : Int), .int .i64 (n : Int), .string (pieceC (a - 25) s k)] 118 (0, 0)) ∧ w'.ownsRow Rw 9 1 v k (tcells ((List.range k).map (secF a g x n s))) ∧ Below W.heap.size W w') := Lib.hid (by
      intro w' hb
      have hba := Kq.below_alloc W (.cells #[.int .u64 (g : Int), .int .u64 (x : Int), .int .i64 (k : Int), .int .i64 (n : Int), .string (pieceC (a - 25) s k)] 118)
      have hbw := hba.trans (hb.mono hba.size)
      exact ⟨Kq.below_blk hbw HI.out.2.box (Kq.blk_lt HI.out.2.box), Kq.below_blk hbw HI.out.1.b0 (Kq.blk_lt HI.out.1.b0), Kq.below_blk hb (Kq.blk_new W _ _ _) (by simp), fr_row_below HI.out.2.row hbw, hbw⟩)
    have HOW : Hid (∀ j, some j = v.ownBlock → j ≠ BX ∧ j ≠ B0 ∧ j < W.heap.size) := Lib.hid (fun j hj => by
      have h1 := HI.out.2.own j hj.symm
      have h2 := (HI.out.2.row.lt j hj.symm).2
      have := HAD.out.e0
      have := HAD.out.e4
      have := HAD.out.e5
      have := HAD.out.e8
      omega)
    have HRW : Hid (Rw ≤ W.heap.size ∧ BX < W.heap.size) := Lib.hid (by
      have := HI.out.1.sz
      have := HAD.out.e4
      have := HAD.out.e5
      have := HAD.out.e8
      omega)
    have HPZ := Lib.hid (piece_size (a - 25) s k)
    generalize pieceC (a - 25) s k = pc at *
    obtain ⟨wp, hwp⟩ : ∃ z, z = W.alloc (.cells #[.int .u64 (g : Int), .int .u64 (x : Int), .int .i64 (k : Int), .int .i64 (n : Int), .string pc] 118) := ⟨_, rfl⟩
    rw [← hwp] at HWP ⊢
    have hsz : W.heap.size < wp.heap.size := by rw [hwp]; simp
    have HSZ := Lib.hid hsz
    clear hwp hsz c0 c4
    generalize hPB : W.heap.size = PB at *
    have HPB := Lib.hid hPB
    clear hPB
    have HSS : Hid (∀ cur : World, cur.heap[BX]? = some (.cells #[v] 35 (0, 0)) → cur.heap[B0]? = some (.cells #[.int .i64 (a : Int)] 3 (0, 0)) → cur.heap[PB]? = some (.cells #[.int .u64 (g : Int), .int .u64 (x : Int), .int .i64 (k : Int), .int .i64 (n : Int), .string pc] 118 (0, 0)) → cur.cell? ⟨BX, 0, none⟩ = some v ∧ cur.cell? ⟨B0, 0, none⟩ = some (.int .i64 (a : Int)) ∧ cur.cell? ⟨PB, 0, none⟩ = some (.int .u64 (g : Int)) ∧ cur.cell? ⟨PB, 1, none⟩ = some (.int .u64 (x : Int)) ∧ cur.cell? ⟨PB, 2, none⟩ = some (.int .i64 (k : Int)) ∧ cur.cell? ⟨PB, 3, none⟩ = some (.int .i64 (n : Int)) ∧ cur.cell? ⟨PB, 4, none⟩ = some (.string pc)) := Lib.hid (fun cur h1 h2 h3 => ⟨Kq.blk_cell h1 0, Kq.blk_cell h2 0, Kq.blk_cell h3 0, Kq.blk_cell h3 1, Kq.blk_cell h3 2, Kq.blk_cell h3 3, Kq.blk_cell h3 4⟩)
    have HSW : Hid (∀ w', Below wp.heap.size wp w' → _) := Lib.hid (fun w' hb => HSS.out w' (HWP.out w' hb).1 (HWP.out w' hb).2.1 (HWP.out w' hb).2.2.1)
    refine Kq.wpIn_region_T 7 (fun cur => cur.cell? ⟨BX, 0, none⟩ = some v ∧ cur.cell? ⟨B0, 0, none⟩ = some (.int .i64 (a : Int)) ∧ cur.cell? ⟨PB, 0, none⟩ = some (.int .u64 (g : Int)) ∧ cur.cell? ⟨PB, 1, none⟩ = some (.int .u64 (x : Int)) ∧ cur.cell? ⟨PB, 2, none⟩ = some (.int .i64 (k : Int)) ∧ cur.cell? ⟨PB, 3, none⟩ = some (.int .i64 (n : Int)) ∧ cur.cell? ⟨PB, 4, none⟩ = some (.string pc)) (by kernel_rfl) (by rintro ⟨_, _, h⟩; exact h) (by kernel_rfl) (HSW.out _ (Below.refl _ _).drew) (fun hS0 => ?_)
    have B0' := Lib.hid (show Below wp.heap.size wp wp.drew from (Below.refl _ _).drew)
    generalize wp.drew = wd at *
    refine Kq.wpAnyT_take (i := 0) (v := ?_) rfl rfl (by kernel_rfl) (by kernel_rfl) (by kernel_rfl) (by kernel_rfl) (fun _ _ _ h => h) (Or.inl ⟨by kernel_rfl, ?_⟩) (by assumption) ?_
    rotate_left
    · intro w hSw; (try dsimp only at hSw); go_simp; (try with_reducible rfl)
    refine Kq.wpAnyT_take (i := 1) (v := ?_) rfl rfl (by kernel_rfl) (by kernel_rfl) (by kernel_rfl) (by kernel_rfl) (fun _ _ _ h => h) (Or.inl ⟨by kernel_rfl, ?_⟩) (by assumption) ?_
    rotate_left
    · intro w hSw; (try dsimp only at hSw); go_simp; (try with_reducible rfl)
    refine Kq.wpAnyT_take (i := 2) (v := ?_) rfl rfl (by kernel_rfl) (by kernel_rfl) (by kernel_rfl) (by kernel_rfl) (fun _ _ _ h => h) (Or.inl ⟨by kernel_rfl, ?_⟩) (by assumption) ?_
    rotate_left
    · intro w hSw; (try dsimp only at hSw); go_simp; (try with_reducible rfl)
    refine Kq.wpAnyT_one (i := 3) (by kernel_rfl) rfl (fun K hK => ?_)
    go_simp
    have hk106 : k ≤ 106 := by have := HK.out; have := HPN.out; omega
    refine (fr_body a ⟨g, x, k, n, pc⟩ wd HA.out.1 HA.out.2.1 HA.out.2.2.2.1 HA.out.2.2.2.2 (by show k ≤ 255; omega) (by show n ≤ 255; have := HPN.out; omega) HPZ.out).mono ?_
    rintro e w1 ⟨rfl, b1⟩
    have B1' := Lib.hid (B0'.out.trans (b1.mono B0'.out.size))
    clear b1 B0'
    refine hK.out _ _ (HSW.out _ B1'.out) (fun hS1 => ?_)
    clear hK K hS0
    have hS0 := hS1
    clear hS1
    have HFS : Hid (sealT (txt (frBody a ⟨g, x, k, n, pc⟩)) = secF a g x n s k) := Lib.hid (by rw [HSC.out]; rfl)
    have hbz : (txt (frBody a ⟨g, x, k, n, pc⟩)).size + 4 ≤ maxLen := by
      rw [txt_size, frBody_length a _ (by have := HA.out.1; omega) HPZ.out]; unfold maxLen; omega
    have HBZ := Lib.hid hbz
    clear hbz
    generalize txt (frBody a ⟨g, x, k, n, pc⟩) = tb at *
    generalize hsf : secF a g x n s k = FS at *
    have HSF := Lib.hid hsf
    clear hsf
    refine Kq.wpAnyT_one (i := 4) (by kernel_rfl) rfl (fun K hK => ?_)
    go_simp
    refine (crc_seal tb w1 HBZ.out).mono ?_
    rw [HFS.out]
    rintro e w2 ⟨rfl, b2⟩
    have B2' := Lib.hid (B1'.out.trans (b2.mono B1'.out.size))
    clear b2 B1'
    refine hK.out _ _ (HSW.out _ B2'.out) (fun hS1 => ?_)
    clear hK K hS0
    have hS0 := hS1
    clear hS1
    refine Kq.wpAnyT_one (i := 5) (by kernel_rfl) rfl (fun K hK => ?_)
    go_simp
    have B3' : Hid (Below wp.heap.size wp (w2.alloc (.cells #[.string FS] 9))) := Lib.hid (B2'.out.trans ((Kq.below_alloc w2 _).mono B2'.out.size))
    refine hK.out _ _ (HSW.out _ B3'.out) (fun hS1 => ?_)
    clear hK K hS0
    have hS0 := hS1
    clear hS1
    refine Kq.wpAnyT_one (i := 6) (by kernel_rfl) rfl (fun K hK => ?_)
    rw [if_pos (by rfl)]
    refine Kq.wp_append_any _ (.tmp 35) (.tmp 40) 35 35 rfl Rw 9 j0 (.string ⟨#[]⟩) 1 16 Tryz.underlying35 ji jz0 jz1 jz2 rfl (by decide) v k (tcells ((List.range k).map (secF a g x n s))) rfl (HWP.out _ B3'.out).2.2.2.1 (.slice (some ⟨w2.heap.size, 0, none⟩) 1 1) 1 (tcells [FS]) rfl (fr_src_text w2 FS 1 _) ?e1 ?e2 ?e3 ?_
    case e1 => unfold maxLen; omega
    case e2 => omega
    case e3 => have h1 := HRW.out.1; have h2 := (HWP.out _ B3'.out).2.2.2.2.size; have h3 := HPB.out; exact Nat.le_trans h1 (by rw [← h3]; exact h2)
    intro v' wf hown hgrow hfresh
    have hk1 := Kq.Keeps.grown (S := fun j => some j = v.ownBlock) hgrow (fun j _ hj => hj.symm)
    have h3 := HWP.out _ B3'.out
    have HBX := Lib.hid (hk1.blk h3.1 (fun e => (HOW.out _ e).1 rfl))
    have HG := Lib.hid (And.intro (And.intro hown hk1) (And.intro hfresh h3.2.2.2.2))
    refine hK.out _ _ (HSS.out wf (hk1.blk h3.1 (fun e => (HOW.out _ e).1 rfl)) (hk1.blk h3.2.1 (fun e => (HOW.out _ e).2.1 rfl)) (hk1.blk h3.2.2.1 (fun e => by have := (HOW.out _ e).2.2; have := HPB.out; omega))) (fun hS1 => ?_)
    clear hK K hS0 h3 hk1
    have hS0 := hS1
    clear hS1
    obtain ⟨a', n', cap', hv2⟩ := Kq.own_shape hown
    clear hown hgrow hfresh
    have f1 : wf.frozen? ⟨BX, 0, none⟩ = false := Kq.blk_free HBX.out 0
    rw [hv2] at HG ⊢
    clear hv2
    refine Kq.wpAnyT_last (by kernel_rfl) rfl (fun K hK => ?_)
    go_simp
    refine hK.out _ _ ?_
    clear hK K
    refine Kq.wpAnyT_done (by kernel_rfl) ?_ _
    have hkw : Kq.Keeps (fun j => some j = v.ownBlock ∨ j = BX) W (wf.setCell ⟨BX, 0, none⟩ (.slice a' n' cap')) :=
      ((Kq.Keeps.of_below HG.out.2.2 (fun j h1 h2 => absurd h2 (Nat.not_lt.2 (by first | exact h1 | (rw [HPB.out]; exact h1) | (rw [← HPB.out]; exact h1))))).trans (HG.out.1.2.mono (fun j _ h => Or.inl h))).trans (Kq.Keeps.setCell (S := fun j => some j = v.ownBlock ∨ j = BX) wf ⟨BX, 0, none⟩ (.slice a' n' cap') (Or.inr rfl))
    have hfr : ∀ j, (Value.slice a' n' cap').ownBlock = some j → some j = v.ownBlock ∨ W.heap.size ≤ j := fun j hj => (HG.out.2.1 j hj).imp id (Nat.le_trans HG.out.2.2.size)
    have hrw : (wf.setCell ⟨BX, 0, none⟩ (.slice a' n' cap')).ownsRow Rw 9 1 (.slice a' n' cap') (k + 1) (tcells ((List.range k).map (secF a g x n s)) ++ tcells [secF a g x n s k]) := by
      rw [HSF.out]
      refine own_later HG.out.1.1 (fun j hj => (Kq.Keeps.setCell (S := (· = BX)) wf ⟨BX, 0, none⟩ (.slice a' n' cap') rfl).block j (HG.out.1.1.lt j hj).2 (fun e => ?_))
      rcases hfr j hj with h1 | h1
      · exact (HOW.out _ h1).1 e
      · have := HRW.out.2; have := HPB.out; omega
    have hfin := HI.out.1.close HAD.out HI.out.2 hkw (Kq.blk_set HBX.out 0 _) hrw hfr
    exact ⟨hfin.1, hfin.2.1, hfin.2.2⟩
  case done =>
    intro D W hI hD hK
    obtain ⟨v, hv⟩ := hI.v
    have HI := Lib.hid (And.intro hI hv)
    have HKD := Lib.hid hK
    have c4 := Kq.blk_cell hv.box 0
    clear hI hv hK
    gi_wp2
    refine ⟨by simp, .inl ⟨_, _, rfl, run_takeDeferred HKD.out, ?_⟩⟩
    have hbp := HI.out.1.bel.trans ((show Below w.heap.size W (W.putObj D (.deferred none)) from belowK_b (w := w) (Nat.le_refl _) W D _ _ (by have := HI.out.1.bel.size; have := HST.out.1.bel.size; omega) HKD.out rfl rfl))
    have hrow := ownsRow_putObj HI.out.2.row (.deferred none) HKD.out rfl
    refine ⟨_, results_tmp2 rfl _ _ _, ?_⟩
    exact HPS.out _ _ hrow hbp
set_option maxRecDepth 100000 in
set_option maxHeartbeats 2000000 in
theorem fr_split_no (a : Int) (g x : Nat) (s : ByteArray) (w : World) (h : ¬ (FrSz a ∧ s.size ≤ 4096)) :
    Calls Tryz.prog 52 #[.int .i64 a, .int .u64 (g : Int), .int .u64 (x : Int), .string s] w (SplitPost a g x s w) := by
  have HP := Lib.hid (fun (w : World) => callsIn_wide (n := 9).2 (fr_parts_no a s.size w (fun hh => h ⟨hh.1, by have := hh.2.2; omega⟩)))
  have HPS : Hid (∀ wz, Below w.heap.size w wz → SplitPost a g x s w (.returned (.tuple #[.slice none 0 0, .int .i64 1])) wz) := Lib.hid (by
    intro wz hb
    have e : frSplit a g x s = ([], 1) := by unfold frSplit; rw [if_neg h]
    unfold SplitPost
    rw [e]
    exact ⟨_, rfl, World.ownsRow_nil _ _ _ _, hb⟩)
  have HB : Hid (∀ o1 o2 o3 o4, Below w.heap.size w ((((w.alloc o1).alloc o2).alloc o3).alloc o4)) := Lib.hid (fun o1 o2 o3 o4 => ((((Below.refl _ w).alloc (Nat.le_refl _) o1).alloc (by simp) o2).alloc (by simp; omega) o3).alloc (by simp; omega) o4)
  clear h
  refine (callsIn_wide (n := 10)).1 (callsIn_of_wp_marks Tryz.func52 rfl trivial ?_ rfl)
  simp only [Tryz.ntmps52, List.size_toArray, List.length_cons, List.length_nil, Nat.reduceAdd, Nat.reduceSub, Array.replicate_succ, Array.replicate_zero, List.push_toArray, List.append_toArray, List.nil_append, List.cons_append]
  gi_wp2_with (first | (refine ⟨trivial, ?_⟩; gi_at_call 38; refine (HP.out _).mono ?_; rintro e w1 ⟨rfl, rfl⟩))
  refine ⟨_, results_tmp2 rfl _ _ _, ?_⟩
  exact HPS.out _ (HB.out _ _ _ _)
theorem fr_split (a : Int) (g x : Nat) (s : ByteArray) (w : World) (hg : g < M64) (hx : x < M64) :
    Calls Tryz.prog 52 #[.int .i64 a, .int .u64 (g : Int), .int .u64 (x : Int), .string s] w (SplitPost a g x s w) := by
  by_cases h : FrSz a ∧ s.size ≤ 4096
  · obtain ⟨⟨h1, h2⟩, h3⟩ := h
    obtain ⟨n, rfl⟩ := Int.eq_ofNat_of_zero_le (show 0 ≤ a by omega)
    exact fr_split_in n g x s w (by omega) (by omega) h3 hg hx
  · exact fr_split_no a g x s w h
end Go.Proofs.YtbpgfhcecanikaaGreat
