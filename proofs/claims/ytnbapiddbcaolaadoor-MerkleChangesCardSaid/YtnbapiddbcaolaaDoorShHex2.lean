/- Contract of sha.Hex. Condition: sizes. -/
import Derived.WalkSpells
import Derived.Outline
import Derived.Test.YtnbapiddbcaolaaDoorChecked
import Derived.Test.YtnbapiddbcaolaaDoorTxt
import Derived.Test.YtnbapiddbcaolaaDoorShHex
namespace Go.Proofs.YtnbapiddbcaolaaDoor
open Go.RowKit
set_option linter.unusedVariables false
def shcells (l : List Nat) : List Value := l.map fun (b : Nat) => Value.int .u8 (b : Int)
theorem nl_at (s : ByteArray) (k : Nat) (h : k < s.size) : (nl s).take (k + 1) = (nl s).take k ++ [s[k].toNat] := by
  have hl : k < (nl s).length := by simpa [nl] using h
  rw [List.take_succ_eq_append_getElem hl]
  congr 2
  simp [nl]
  rfl
theorem hexd_lt (q : Nat) (h : q < 16) : hexd q < 256 := by unfold hexd; split <;> omega
theorem hexl_lt (l : List Nat) (h : ∀ b ∈ l, b < 256) : ∀ x ∈ hexl l, x < 256 := by
  induction l with
  | nil => intro x hx; cases hx
  | cons b r ih =>
    intro x hx
    have hb := h b (by simp)
    simp only [hexl, List.mem_cons] at hx
    rcases hx with rfl | rfl | hx
    · exact hexd_lt _ (by omega)
    · exact hexd_lt _ (by omega)
    · exact ih (fun c hc => h c (by simp [hc])) x hx
/-- a row of one's own as a text -/
theorem conv_own {w : World} {base n : Nat} {v : Value} {l : List Nat} (h : w.ownsRow base 5 1 v n (shcells l)) (hn : n = l.length) (hl : ∀ b ∈ l, b < 256) :
    (convert 61 9 v).run Tryd.prog w = .ok (.string (txt l)) w := by
  subst hn
  rcases h.2 with ⟨rfl, h0⟩ | ⟨g, cap, cur, rfl, _, hb, _, _, _, ht⟩
  · have : l = [] := List.eq_nil_of_length_eq_zero h0
    subst this
    exact Kq.conv_bytes_none w 0 Tryd.underlying61 Tryd.underlying5 Tryd.underlying9
  · have hr : Kq.Row w g l := by
      refine ⟨fun j hj => ?_, fun j hj => Kq.blk_free hb j⟩
      have e : (shcells l)[j]? = some (.int .u8 ((l[j] : Nat) : Int)) := by simp [shcells, List.getElem?_eq_getElem hj]
      rw [Kq.blk_cell hb j, ← Array.getElem?_toList, ← e, ← ht, List.getElem?_take, if_pos (by omega)]
    exact hr.text hl cap Tryd.underlying61 Tryd.underlying5 Tryd.underlying9
end Go.Proofs.YtnbapiddbcaolaaDoor
