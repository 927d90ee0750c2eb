/- Contracts of carrackref01's primes, at 64, and Constants. No condition. -/
import Derived.Test.YtnbapiddbcaolaaDoorBuf
import Derived.Test.YtnbapiddbcaolaaDoorShNums4
import Derived.Test.YtnbapiddbcaolaaDoorShSched
namespace Go.Proofs.YtnbapiddbcaolaaDoor
open Go.RowKit
set_option linter.unusedVariables false
theorem primesN_le (k j : Nat) : (Sh.primesN k).length ≤ (Sh.primesN (k + j)).length := by
  induction j with
  | zero => exact Nat.le_refl _
  | succ j ih =>
    rw [show k + (j + 1) = (k + j) + 1 by omega, Sh.primesN]
    split
    · rw [List.length_append]; omega
    · exact ih
theorem primes64_len : (Sh.primesN 310).length = 64 := by rw [Sh.primes_all]; rfl
theorem primesN_max (k : Nat) (h : (Sh.primesN k).length < 64) : k < 310 := by
  rcases Nat.lt_or_ge k 310 with h1 | h1
  · exact h1
  · have := primesN_le 310 (k - 310)
    rw [show 310 + (k - 310) = k by omega, primes64_len] at this
    omega
theorem primesN_cap : ∀ (k : Nat), (Sh.primesN k).length ≤ k
  | 0 => Nat.le_refl _
  | k + 1 => by
    rw [Sh.primesN]
    have := primesN_cap k
    split
    · rw [List.length_append, List.length_singleton]; omega
    · omega
theorem primesN_mem : ∀ (k : Nat), ∀ p ∈ Sh.primesN k, 2 ≤ p ∧ p < k + 2
  | 0, p, h => by cases h
  | k + 1, p, h => by
    rw [Sh.primesN] at h
    split at h
    · rcases List.mem_append.1 h with h | h
      · have := primesN_mem k p h; omega
      · rw [List.mem_singleton.1 h]; omega
    · have := primesN_mem k p h; omega
/-- the list stops growing at 64 only where it has its 64th -/
theorem primesN_stop (k : Nat) (h : (Sh.primesN k).length < 64) (h2 : ¬ (Sh.primesN (k + 1)).length < 64) : k + 1 = 310 := by
  have h3 := primesN_max k h
  rcases Nat.lt_or_ge (k + 1) 310 with h1 | h1
  · exfalso
    have h4 : (Sh.primesN 309).length = 63 := by
      have e := primes64_len
      have e2 : (Sh.primesN 310).length = (if (Sh.primesN 309).all (fun p => (309 + 2) % p != 0) then Sh.primesN 309 ++ [309 + 2] else Sh.primesN 309).length := by rw [show (310 : Nat) = 309 + 1 from rfl, Sh.primesN]
      rw [e2] at e
      split at e
      · rw [List.length_append, List.length_singleton] at e; omega
      · rename_i hn
        exfalso
        have hp : Sh.primesN 309 = Sh.primes64 := by
          have := Sh.primes_all
          rw [show (310 : Nat) = 309 + 1 from rfl, Sh.primesN, if_neg hn] at this
          exact this
        have := (primesN_mem 309 311 (by rw [hp]; decide)).2
        omega
    have := primesN_le (k + 1) (309 - (k + 1))
    rw [show k + 1 + (309 - (k + 1)) = 309 by omega] at this
    omega
  · omega
def dmk (l : List Nat) : List Value := dcl l
theorem src_u64 (w : World) (x : Nat) : Src Tryd.prog 1 74 (.slice (some ⟨w.heap.size, 0, none⟩) 1 1) 1 (dcl [x]) (w.alloc (.cells #[.int .u64 (x : Int)] 59)) := by
  refine Src.ofSlice _ Tryd.underlying74 ⟨w.heap.size, 0, none⟩ 1 1 (dcl [x]) (by simp [dcl]) (fun j u hj => Kq.cell_new _ _ _ (by
    rw [← List.getElem?_toArray] at hj
    exact hj)) (fun u hu => by
    simp only [dcl, List.map_cons, List.map_nil, List.mem_singleton] at hu
    rw [hu]; rfl)
theorem row_u64 {w : World} {base : Nat} {v : Value} {n : Nat} {l : List Nat} (h : w.ownsRow base 59 1 v n (dcl l)) (hn : n = l.length) (h0 : 0 < n) :
    ∃ G c, v = .slice (some ⟨G, 0, none⟩) n c ∧ base ≤ G ∧ G < w.heap.size ∧ ∀ i, i < l.length → w.cell? ⟨G, i, none⟩ = some (.int .u64 ((l.getD i 0 : Nat) : Int)) := by
  rcases h.2 with ⟨_, e⟩ | ⟨g, cap, cur, rfl, hb, hg, h1, h2, h3, h4⟩
  · omega
  · refine ⟨g, cap, rfl, hb, Kq.blk_lt hg, fun i hi => ?_⟩
    rw [Kq.blk_cell hg i, ← Array.getElem?_toList, ← dcl_at l i hi, List.getElem?_toArray, ← h4, List.getElem?_take, if_pos (by omega)]
end Go.Proofs.YtnbapiddbcaolaaDoor
