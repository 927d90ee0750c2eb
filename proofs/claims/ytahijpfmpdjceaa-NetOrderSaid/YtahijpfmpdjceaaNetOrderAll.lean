/- carracklaw20.NetOrder walked, all cases put together. No condition. -/
import Derived.Test.YtahijpfmpdjceaaNetOrderMgo
import Derived.Test.YtahijpfmpdjceaaNetOrderFgo
import Derived.Test.YtahijpfmpdjceaaNetOrderMk0
import Derived.Test.YtahijpfmpdjceaaNetOrderMk1
import Derived.Test.YtahijpfmpdjceaaNetOrderMt0
import Derived.Test.YtahijpfmpdjceaaNetOrderMt1
import Derived.Test.YtahijpfmpdjceaaNetOrderFk0
import Derived.Test.YtahijpfmpdjceaaNetOrderFk1
import Derived.Test.YtahijpfmpdjceaaNetOrderFt0
import Derived.Test.YtahijpfmpdjceaaNetOrderFt1
import Derived.Test.YtahijpfmpdjceaaMsgsOpen
namespace Go.Proofs.Ytahijpfmpdjceaa
open Go.RowKit
set_option linter.unusedVariables false
theorem netOrder_walk (v : Value) (k t : Int) {W : World} (h0 : ∃ A cap l, v = .slice A l.length cap ∧ l.length ≤ cap ∧ (A = none → l.length = 0) ∧ MsAt W A l) (_ : (Lit.int .i64 k).wf = true) (_ : (Lit.int .i64 t).wf = true) :
    Calls Try.prog 4 #[v, .int .i64 k, .int .i64 t] W fun x w' => x = .returned (.bool true) ∧ Below W.heap.size W w' := by
  obtain ⟨A, cap, l, rfl, hlc, hA, hat⟩ := h0
  by_cases hl : 400 < l.length
  · exact netOrder.long A cap l k t W hl
  · by_cases hS : l.length ≤ 256
    · by_cases hk0 : 0 ≤ k
      · by_cases hk1 : k < (l.length : Int)
        · by_cases ht0 : 0 ≤ t
          · by_cases ht1 : t < (l.length : Int)
            · obtain ⟨k, rfl⟩ := Int.eq_ofNat_of_zero_le hk0
              obtain ⟨t, rfl⟩ := Int.eq_ofNat_of_zero_le ht0
              exact netOrder.few_Mgo A cap l k t W hl hlc hA hat hS ⟨by omega, by omega⟩
            · exact netOrder.few_Mt1 A cap l k t W hl hlc hA hat hS ⟨hk0, hk1, ht0, ht1⟩
          · exact netOrder.few_Mt0 A cap l k t W hl hlc hA hat hS ⟨hk0, hk1, ht0⟩
        · exact netOrder.few_Mk1 A cap l k t W hl hlc hA hat hS ⟨hk0, hk1⟩
      · exact netOrder.few_Mk0 A cap l k t W hl hlc hA hat hS hk0
    · have hS : 256 < l.length := by omega
      by_cases hk0 : 0 ≤ k
      · by_cases hk1 : k < 256
        · by_cases ht0 : 0 ≤ t
          · by_cases ht1 : t < 256
            · obtain ⟨k, rfl⟩ := Int.eq_ofNat_of_zero_le hk0
              obtain ⟨t, rfl⟩ := Int.eq_ofNat_of_zero_le ht0
              exact netOrder.few_Fgo A cap l k t W hl hlc hA hat hS ⟨by omega, by omega⟩
            · exact netOrder.few_Ft1 A cap l k t W hl hlc hA hat hS ⟨hk0, hk1, ht0, ht1⟩
          · exact netOrder.few_Ft0 A cap l k t W hl hlc hA hat hS ⟨hk0, hk1, ht0⟩
        · exact netOrder.few_Fk1 A cap l k t W hl hlc hA hat hS ⟨hk0, hk1⟩
      · exact netOrder.few_Fk0 A cap l k t W hl hlc hA hat hS hk0
end Go.Proofs.Ytahijpfmpdjceaa
