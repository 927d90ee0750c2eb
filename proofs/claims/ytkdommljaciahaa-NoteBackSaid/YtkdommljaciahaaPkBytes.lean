/- Contracts of packet.Bytes, packet.Parse. Condition: lengths are ints. -/
import Derived.WalkSpells
import Derived.Outline
import Derived.Test.YtkdommljaciahaaPkPut
import Derived.Test.YtkdommljaciahaaRefGet
namespace Go.Proofs.Ytkdommljaciahaa
open Go.RowKit
set_option linter.unusedVariables false
theorem wr_second (w : World) (o : Obj) : Wr ((w.alloc o).alloc (.cells #[.int .i64 0, .slice none 0 0] 62 (0, 0))) (w.heap.size + 1) (w.heap.size + 1) 0 (.slice none 0 0) [] := by
  have := wr_new (w.alloc o)
  rwa [World.size_alloc] at this
theorem encP_lt (p : PkV) (h : PkOk p) : ∀ b ∈ encP p, b < 256 := by
  intro b hb
  unfold encP at hb
  have h1 := h.1
  have h2 := h.2.1
  have h5 := h.2.2.2.2
  simp only [List.mem_append, List.mem_singleton] at hb
  rcases hb with ((rfl | hb) | hb) | (hb | hb)
  · omega
  · exact num8_lt _ b hb
  · exact num8_lt _ b hb
  · simp only [hi2, List.mem_cons, List.not_mem_nil, or_false] at hb; omega
  · exact nl_lt _ b hb
theorem below_put {w w' : World} {o o' : Obj} {v : Value} (hv : v.ownBlock = none) (h : Kq.Keeps (fun k => k = w.heap.size + 1 ∨ some k = v.ownBlock) ((w.alloc o).alloc o') w') : Below w.heap.size w w' := by
  have hb : Below w.heap.size w ((w.alloc o).alloc o') := (Kq.below_alloc w o).trans ((Kq.below_alloc _ o').mono (Kq.below_alloc w o).size)
  exact hb.trans (h.below hb.size (fun k _ hk => by
    rcases hk with hk | hk
    · omega
    · rw [hv] at hk; cases hk))
end Go.Proofs.Ytkdommljaciahaa
