/- carracklaw20.NetMoves walked, all cases put together. No condition. -/
import Derived.Test.YtahijpfmpdjceaaNetMovesGoUpF
import Derived.Test.YtahijpfmpdjceaaNetMovesGoUpM
import Derived.Test.YtahijpfmpdjceaaNetMovesGoDownF
import Derived.Test.YtahijpfmpdjceaaNetMovesGoDownM
import Derived.Test.YtahijpfmpdjceaaNetMovesGoSameF
import Derived.Test.YtahijpfmpdjceaaNetMovesGoSameM
namespace Go.Proofs.Ytahijpfmpdjceaa
open Go.RowKit
set_option linter.unusedVariables false
theorem netMoves_walk (v : Value) (k t : Int) {W : World} (h0 : ∃ A cap l, v = .slice A l.length cap ∧ l.length ≤ cap ∧ (A = none → l.length = 0) ∧ MsAt W A l) (_ : (Lit.int .i64 k).wf = true) (_ : (Lit.int .i64 t).wf = true) :
    Calls Try.prog 6 #[v, .int .i64 k, .int .i64 t] W fun x w' => x = .returned (.bool true) ∧ Below W.heap.size W w' := by
  obtain ⟨A, cap, l, rfl, hlc, hA, hat⟩ := h0
  by_cases hl : 300 < l.length
  · exact netMoves.long A cap l k t W hl
  · cases hk : hasF k (l.take (sendN l.length 0)).length with
    | false => exact netMoves.few_bad A cap l k t W hl hlc hA hat hk
    | true =>
      cases ht : hasF t (l.take (sendN l.length 0)).length with
      | false =>
        by_cases hf : (l.take (sendN l.length 0)).length < 256
        · exact netMoves.few_more A cap l k t W hl hlc hA hat hk ht hf
        · exact netMoves.few_full A cap l k t W hl hlc hA hat hk ht hf
      | true =>
        obtain ⟨k0, k1⟩ := hasF_true hk
        obtain ⟨t0, t1⟩ := hasF_true ht
        obtain ⟨k, rfl⟩ := Int.eq_ofNat_of_zero_le k0
        obtain ⟨t, rfl⟩ := Int.eq_ofNat_of_zero_le t0
        have hk' : k < (l.take (sendN l.length 0)).length := by omega
        have ht' : t < (l.take (sendN l.length 0)).length := by omega
        by_cases hf : (l.take (sendN l.length 0)).length < 256
        · rcases Nat.lt_trichotomy k t with h | h | h
          · exact netMoves.few_go_goUpM A cap l k t _ W hl hlc hA hat hk' ht' h rfl hf
          · subst h
            exact netMoves.few_go_goSameM A cap l k _ W hl hlc hA hat hk' hk' rfl hf
          · exact netMoves.few_go_goDownM A cap l k t _ W hl hlc hA hat hk' ht' h rfl hf
        · rcases Nat.lt_trichotomy k t with h | h | h
          · exact netMoves.few_go_goUpF A cap l k t _ W hl hlc hA hat hk' ht' h rfl hf
          · subst h
            exact netMoves.few_go_goSameF A cap l k _ W hl hlc hA hat hk' hk' rfl hf
          · exact netMoves.few_go_goDownF A cap l k t _ W hl hlc hA hat hk' ht' h rfl hf
end Go.Proofs.Ytahijpfmpdjceaa
