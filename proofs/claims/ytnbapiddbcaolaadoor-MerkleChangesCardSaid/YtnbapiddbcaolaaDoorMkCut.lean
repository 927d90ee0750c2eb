/- Slices of pairs as sources of an append, and what an append made as pairs in memory. No condition. -/
import Derived.WalkSpells
import Derived.Deep.QuietTactic
import Derived.Test.YtnbapiddbcaolaaDoorRkA
namespace Go.Proofs.YtnbapiddbcaolaaDoor
open Go.RowKit
set_option linter.unusedVariables false
def pcells : List PairV → List Value
  | [] => []
  | (k, s) :: l => .string k :: .string s :: pcells l
theorem pcells_length (l : List PairV) : (pcells l).length = l.length * 2 := by
  induction l with
  | nil => rfl
  | cons p l ih => obtain ⟨k, s⟩ := p; simp [pcells, ih]; omega
theorem pcells_append (l m : List PairV) : pcells (l ++ m) = pcells l ++ pcells m := by
  induction l with
  | nil => rfl
  | cons p l ih => obtain ⟨k, s⟩ := p; simp [pcells, ih]
theorem pcells_at : ∀ (l : List PairV) (j : Nat) (h : j < l.length), (pcells l)[j * 2]? = some (.string l[j].1) ∧ (pcells l)[j * 2 + 1]? = some (.string l[j].2)
  | (k, s) :: l, 0, _ => ⟨rfl, rfl⟩
  | (k, s) :: l, j + 1, h => by
    have := pcells_at l j (by simpa using h)
    rw [show (j + 1) * 2 = j * 2 + 1 + 1 by omega]
    simpa [pcells] using this
theorem pcells_plain (l : List PairV) : ∀ u ∈ pcells l, ∃ s, u = .string s := by
  induction l with
  | nil => intro u hu; cases hu
  | cons p l ih =>
    obtain ⟨k, s⟩ := p
    intro u hu
    simp only [pcells, List.mem_cons] at hu
    rcases hu with rfl | rfl | hu
    · exact ⟨_, rfl⟩
    · exact ⟨_, rfl⟩
    · exact ih u hu
theorem infoPair : (Tryd.prog.info? 36).map (fun i => (i.zero, i.size, i.bytes)) = some (some (.agg #[.string ⟨#[]⟩, .string ⟨#[]⟩]), 2, 32) := by kernel_rfl
/-- a slice of pairs as what is appended -/
theorem src_pairs {w : World} {b off : Nat} {l : List PairV} (cap : Nat) (h : PsAt w (some ⟨b, off, none⟩) l) : Src Tryd.prog 2 22 (.slice (some ⟨b, off, none⟩) l.length cap) l.length (pcells l) w :=
  Src.ofSlice _ Tryd.underlying22 ⟨b, off, none⟩ l.length cap (pcells l) (pcells_length l) (fun j u hj => by
    have hlt : j < l.length * 2 := by rw [← pcells_length]; exact (List.getElem?_eq_some_iff.1 hj).1
    obtain ⟨i, r, hjr, hr, hi⟩ : ∃ i r, j = i * 2 + r ∧ r < 2 ∧ i < l.length := ⟨j / 2, j % 2, by omega, by omega, by omega⟩
    obtain ⟨b', o', e, -, h1, h2⟩ := h i hi
    have hq : b = b' ∧ off = o' := by simpa using e
    obtain ⟨rfl, rfl⟩ := hq
    obtain ⟨g1, g2⟩ := pcells_at l i hi
    have hr2 : r = 0 ∨ r = 1 := by omega
    rcases hr2 with rfl | rfl
    · rw [Nat.add_zero] at hjr
      rw [hjr, g1] at hj
      obtain rfl := Option.some.inj hj
      rw [hjr]
      rcases Nat.eq_zero_or_pos i with rfl | hp
      · simpa [Addr.add] using h1
      · have hz : ¬ i * 2 = 0 := by omega
        simpa [Addr.add, hz] using h1
    · rw [hjr, g2] at hj
      obtain rfl := Option.some.inj hj
      rw [hjr]
      simpa [Addr.add, Nat.add_assoc] using h2) (fun u hu => by
    obtain ⟨s, rfl⟩ := pcells_plain l u hu
    rfl)
/-- a row of the call's own, as pairs -/
theorem row_pairs {w : World} {base : Nat} {v : Value} {l : List PairV} (h : w.ownsRow base 36 2 v l.length (pcells l)) : ∃ A cap, v = .slice A l.length cap ∧ l.length ≤ cap ∧ PsAt w A l := by
  rcases h.2 with ⟨rfl, h0⟩ | ⟨g, cap, cur, rfl, hge, hb, hc, _, _, ht⟩
  · exact ⟨none, 0, by rw [h0], by omega, fun j hj => by omega⟩
  · refine ⟨_, cap, rfl, hc, fun j hj => ⟨g, 0, rfl, Kq.blk_lt hb, ?_, ?_⟩⟩
    all_goals
      have g1 := pcells_at l j hj
      rw [← ht, List.getElem?_take, if_pos (by omega), Array.getElem?_toList, List.getElem?_take, if_pos (by omega), Array.getElem?_toList] at g1
      rw [Nat.zero_add, Kq.blk_cell hb]
      first | exact g1.1 | exact g1.2
end Go.Proofs.YtnbapiddbcaolaaDoor
