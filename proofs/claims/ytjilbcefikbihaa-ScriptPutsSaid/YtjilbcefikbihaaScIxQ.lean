/- The form of a kind, out of the row. Condition: the kind is one. -/
import Derived.Test.YtjilbcefikbihaaScFormsQ
namespace Go.Proofs.Ytjilbcefikbihaa
open Go.RowKit
set_option linter.unusedVariables false
theorem forms_ix (vs : Array Value) (hsz : vs.size = 27) (n : Nat) (hn : n < 9) (f1 f2 f3 : Value) (h1 : vs[n * 3]? = some f1) (h2 : vs[n * 3 + 1]? = some f2) (h3 : vs[n * 3 + 2]? = some f3) (w : World) :
    (Instr.index 70 (.agg vs) (.int .i64 (n : Int))).run Try.prog w = .ok (.agg #[f1, f2, f3]) w := by
  have hx : vs.extract (n * 3) (n * 3 + 3) = #[f1, f2, f3] := by
    have hl : (vs.extract (n * 3) (n * 3 + 3)).size = 3 := by simp [Array.size_extract]; omega
    apply Array.ext_getElem?
    intro i
    rw [Array.getElem?_extract]
    by_cases h : i < 3
    · have : i = 0 ∨ i = 1 ∨ i = 2 := by omega
      rcases this with rfl | rfl | rfl
      · rw [if_pos (by omega)]; exact h1
      · rw [if_pos (by omega)]; exact h2
      · rw [if_pos (by omega)]; exact h3
    · rw [if_neg (by omega), Array.getElem?_eq_none (by simp; omega)]
  simp [Instr.index, run_underlying Try.underlying70, run_underlying Try.underlying69, asIntOf, go_sem, Try.sizeOf69, hn, part, isAgg, hx]
end Go.Proofs.Ytjilbcefikbihaa
