/- carracklaw22.ModelOrder walked. Condition: the table of states lies where it lies. -/
import Derived.Test.YtlbeaknegfnpkaaDoorMdOrd1
import Derived.Test.YtlbeaknegfnpkaaDoorMdOrd2
import Derived.Test.YtlbeaknegfnpkaaDoorMdOrd3
namespace Go.Proofs.YtlbeaknegfnpkaaDoor
open Go.RowKit
set_option linter.unusedVariables false
theorem modelOrder_walk {W : World} (v0 : Value) (a b c : Int) (h0 : ∃ x : PtV, v0 = x.val ∧ x.wf) (wa : (Lit.int .i64 a).wf = true) (wb : (Lit.int .i64 b).wf = true) (wc : (Lit.int .i64 c).wf = true) (w : World) (e : W = w) (hL : LaidOk w) :
    Calls Tryd.prog 4 #[v0, .int .i64 a, .int .i64 b, .int .i64 c] w fun x w' => x = .returned (.bool true) ∧ Below w.heap.size w w' := by
  by_cases hab : a = b
  · cases hrab : rchB a b with
    | false => exact path_ft v0 a b c h0 wa wb wc w e hL hrab hab
    | true =>
      cases hrbc : rchB b c with
      | false => exact path_tft v0 a b c h0 wa wb wc w e hL hrab hab hrbc
      | true => exact path_ttt v0 a b c h0 wa wb wc w e hL hrab hab hrbc
  · cases hrab : rchB a b with
    | false => exact path_ff v0 a b c h0 wa wb wc w e hL hrab hab
    | true =>
      cases hrbc : rchB b c with
      | false => exact path_tff v0 a b c h0 wa wb wc w e hL hrab hab hrbc
      | true => exact path_ttf v0 a b c h0 wa wb wc w e hL hrab hab hrbc
end Go.Proofs.YtlbeaknegfnpkaaDoor
