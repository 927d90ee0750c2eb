/- Rows of texts that a call makes. No condition. -/
import Derived.WalkSpells
import Derived.Test.YtfbjfleagilikaaCommon
import Derived.Test.YtfbjfleagilikaaWireText
namespace Go.Proofs.Ytfbjfleagilikaa
open Go.RowKit
set_option linter.unusedVariables false
theorem infoStr : (Try.prog.info? 9).map (fun i => (i.zero, i.size, i.bytes)) = some (some (.string ⟨#[]⟩), 1, 16) := by kernel_rfl
def tcells (l : List ByteArray) : List Value := l.map Value.string
theorem tcells_len (l : List ByteArray) : (tcells l).length = l.length := List.length_map _
theorem tcells_append (l m : List ByteArray) : tcells (l ++ m) = tcells l ++ tcells m := List.map_append
theorem fr_row_below {R : Nat} {e : TypeId} {k : Nat} {v : Value} {n : Nat} {xs : List Value} {w w' : World} (h : w.ownsRow R e k v n xs) (hb : Below w.heap.size w w') : w'.ownsRow R e k v n xs := by
  refine ⟨h.1, h.2.imp id ?_⟩
  rintro ⟨g, cap, cur, hv, h3, h4, h5⟩
  exact ⟨g, cap, cur, hv, h3, Kq.below_blk hb h4 (Kq.blk_lt h4), h5⟩
/-- .. where what it owns lies below -/
theorem fr_row_low {R B : Nat} {e : TypeId} {k : Nat} {v : Value} {n : Nat} {xs : List Value} {w w' : World} (h : w.ownsRow R e k v n xs) (hv : ∀ j, v.ownBlock = some j → j < B) (hb : Below B w w') : w'.ownsRow R e k v n xs := by
  refine ⟨h.1, h.2.imp id ?_⟩
  rintro ⟨g, cap, cur, rfl, h3, h4, h5⟩
  exact ⟨g, cap, cur, rfl, h3, Kq.below_blk hb h4 (hv g rfl), h5⟩
theorem own_lt' {R : Nat} {e : TypeId} {k : Nat} {v : Value} {n : Nat} {xs : List Value} {w : World} (h : w.ownsRow R e k v n xs) {j : Nat} (hj : v.ownBlock = some j) : R ≤ j ∧ j < w.heap.size := ⟨own_ge h hj, (h.lt j hj).2⟩
theorem fr_src_text (w : World) (s : ByteArray) (c : Nat) (e : TypeId) : Src Try.prog 1 24 (.slice (some ⟨w.heap.size, 0, none⟩) 1 c) 1 (tcells [s]) (w.alloc (.cells #[.string s] e)) :=
  Src.ofSlice _ Try.underlying24 ⟨w.heap.size, 0, none⟩ 1 c (tcells [s]) rfl (fun j u hj => Kq.cell_new _ _ _ (by
    rw [← List.getElem?_toArray] at hj
    exact hj)) (fun u hu => by
    simp only [tcells, List.map_cons, List.map_nil, List.mem_cons, List.not_mem_nil, or_false] at hu
    subst hu
    rfl)
/-- a row of texts as a slice -/
theorem row_strs {R : Nat} {v : Value} {l : List ByteArray} {w : World} (h : w.ownsRow R 9 1 v l.length (tcells l)) : ∃ A cap, v = .slice A l.length cap ∧ StrsAt w A l := by
  rcases h.2 with ⟨rfl, e⟩ | ⟨g, cap, cur, rfl, h3, h4, h5, h6, h7, h8⟩
  · rw [e]
    exact ⟨none, 0, rfl, ⟨fun j hj => absurd hj (by omega)⟩⟩
  · refine ⟨_, cap, rfl, ⟨fun j hj => ⟨g, 0, rfl, Kq.blk_lt h4, ?_⟩⟩⟩
    rw [Kq.blk_cell h4, ← Array.getElem?_toList, Nat.zero_add]
    have : (cur.toList.take (l.length * 1))[j]? = some (Value.string l[j]) := by rw [h8]; simp [tcells, hj]
    rw [List.getElem?_take, if_pos (by omega)] at this
    exact this
end Go.Proofs.Ytfbjfleagilikaa
