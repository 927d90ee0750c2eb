/- Slices x[n:], x[:n] of pairs. No condition. -/
import Derived.WalkSpells
import Derived.Outline
import Derived.Deep.QuietTactic
import Derived.Test.YtnbapiddbcaolaaDoorMkCut
import Derived.Test.YtnbapiddbcaolaaDoorObj
namespace Go.Proofs.YtnbapiddbcaolaaDoor
open Go.RowKit
set_option linter.unusedVariables false
/-- the address of x[n:] -/
def subP (A : Option Addr) (c n : Nat) : Option Addr := if c = n then A else A.map (·.add (n * 2))
theorem addP_flat (g o k : Nat) : (Addr.add ⟨g, o, none⟩ k) = ⟨g, o + k, none⟩ := by
  unfold Addr.add
  rcases Nat.eq_zero_or_pos k with rfl | h
  · simp
  · have hk : ¬ k = 0 := by omega
    simp [hk]
set_option maxRecDepth 100000 in
theorem subP_run (A : Option Addr) (n c a : Nat) (h1 : a ≤ n) (w : World) : (Instr.slice 22 (.slice A n c) (some (.int .i64 (a : Int))) none none).run Tryd.prog w = .ok (.slice (subP A c a) (n - a) (c - a)) w := by
  rw [run_slice_l w 22 A n c Tryd.underlying22 .i64 (a : Int) (by omega) (by omega)]
  rfl
set_option maxRecDepth 100000 in
theorem preP_run (b o n c a : Nat) (h1 : a ≤ c) (w : World) : (Instr.slice 22 (.slice (some ⟨b, o, none⟩) n c) none (some (.int .i64 (a : Int))) none).run Tryd.prog w = .ok (.slice (some ⟨b, o, none⟩) a c) w := by
  rw [run_slice_h w 22 (some ⟨b, o, none⟩) n c Tryd.underlying22 .i64 (a : Int) (by omega) (by omega)]
  have e : sliced (some ⟨b, o, none⟩) 0 (a : Int).toNat c 2 = .slice (some ⟨b, o, none⟩) a c := by
    unfold sliced
    by_cases h0 : c = 0 <;> simp [h0, addP_flat]
  rw [← e]
  rfl
/-- what x[n:] holds, as what is appended -/
theorem src_sub {w : World} {b o : Nat} {l : List PairV} {c : Nat} (h : PsAt w (some ⟨b, o, none⟩) l) (hc : l.length ≤ c) (n : Nat) (hn : n ≤ l.length) : Src Tryd.prog 2 22 (.slice (subP (some ⟨b, o, none⟩) c n) (l.length - n) (c - n)) (l.length - n) (pcells (l.drop n)) w := by
  unfold subP
  by_cases e : c = n
  · have e1 : l.length - n = 0 := by omega
    have e2 : l.drop n = [] := List.drop_eq_nil_of_le (by omega)
    rw [if_pos e, e1, e2]
    exact Src.ofSlice _ Tryd.underlying22 ⟨b, o, none⟩ 0 (c - n) [] rfl (fun j u hj => by cases hj) (fun u hu => by cases hu)
  · rw [if_neg e, Option.map_some, addP_flat, ← List.length_drop]
    exact src_pairs (c - n) (PsAt.drop h n)
/-- the front of an own row is an own row -/
theorem own_front {w : World} {base : Nat} {b c : Nat} {l : List PairV} (h : w.ownsRow base 36 2 (.slice (some ⟨b, 0, none⟩) l.length c) l.length (pcells l)) (n : Nat) (hn : n ≤ l.length) : w.ownsRow base 36 2 (.slice (some ⟨b, 0, none⟩) n c) n (pcells (l.take n)) := by
  rcases h.2 with ⟨e, h0⟩ | ⟨g, cap, cur, e, hge, hb, hc, hcm, hsz, ht⟩
  · cases e
  · have hq : b = g ∧ c = cap := by simpa using e
    obtain ⟨rfl, rfl⟩ := hq
    have hpt : (pcells l).take (n * 2) = pcells (l.take n) := by
      have h1 : pcells l = pcells (l.take n) ++ pcells (l.drop n) := by rw [← pcells_append, List.take_append_drop]
      rw [h1, List.take_append_of_le_length (by rw [pcells_length, List.length_take]; omega), List.take_of_length_le (by rw [pcells_length, List.length_take]; omega)]
    refine ⟨by rw [pcells_length, List.length_take]; omega, Or.inr ⟨b, c, cur, rfl, hge, hb, by omega, hcm, hsz, ?_⟩⟩
    rw [← hpt, ← ht, List.take_take, Nat.min_eq_left (by omega)]
end Go.Proofs.YtnbapiddbcaolaaDoor
