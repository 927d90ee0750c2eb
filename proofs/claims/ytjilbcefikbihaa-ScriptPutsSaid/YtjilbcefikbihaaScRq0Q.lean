/- carrackref23's Put. Condition: numbers are numbers, texts not too long. -/
import Derived.WalkSpells
import Derived.Outline
import Derived.Deep.RegionHeld
import Derived.Deep.MidRow
import Derived.Test.YtjilbcefikbihaaHeldLastQ
import Derived.Test.YtjilbcefikbihaaScRrAQ
import Derived.Test.YtjilbcefikbihaaScRrBQ
import Derived.Test.YtjilbcefikbihaaScRrCQ
import Derived.Test.YtjilbcefikbihaaScRbQ
namespace Go.Proofs.Ytjilbcefikbihaa
open Go.RowKit
set_option linter.unusedVariables false
set_option linter.unusedSimpArgs false
theorem two_drew (w : World) (X Y : Array Value) (S T : TypeId) : Below w.heap.size w ((w.alloc (.cells X S)).alloc (.cells Y T)).drew ∧ ((w.alloc (.cells X S)).alloc (.cells Y T)).drew.heap[w.heap.size]? = some (.cells X S (0, 0)) ∧ ((w.alloc (.cells X S)).alloc (.cells Y T)).drew.heap[w.heap.size + 1]? = some (.cells Y T (0, 0)) := by
  have ba := Kq.below_alloc w (.cells X S)
  have bb := Kq.below_alloc (w.alloc (.cells X S)) (.cells Y T)
  have hx := Kq.blk_new w X S (0, 0)
  have hy := Kq.blk_new (w.alloc (.cells X S)) Y T (0, 0)
  have hx2 := Kq.below_blk bb hx (Kq.blk_lt hx)
  rw [World.size_alloc] at hy
  exact ⟨(ba.trans (bb.mono ba.size)).drew, hx2, hy⟩
end Go.Proofs.Ytjilbcefikbihaa
