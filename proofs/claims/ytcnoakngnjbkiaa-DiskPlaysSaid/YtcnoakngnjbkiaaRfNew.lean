/- Contract of carrackref04.New. Condition: what may be. -/
import Derived.WalkSpells
import Derived.Outline
import Derived.Test.YtcnoakngnjbkiaaRfKeep
import Derived.Test.YtcnoakngnjbkiaaDkAwake
namespace Go.Proofs.Ytcnoakngnjbkiaa
open Go.RowKit
set_option linter.unusedVariables false
set_option maxRecDepth 100000 in
set_option maxHeartbeats 1000000 in
theorem rf_new (a b : Nat) (w : World) (h : DkRight a b) : Calls Try.prog 17 #[.int .i64 (a : Int), .int .i64 (b : Int)] w fun x w' => x = .returned (.pointer (some ⟨w.heap.size + 1, 0, none⟩)) ∧ RfS w' w.heap.size (w.heap.size + 1) a b (.slice none 0 0) [] 0 (List.replicate (a * b) 0) ∧ Below w.heap.size w w' := by
  have hp := prod_le a b h
  have hw : wrap64 ((a : Int) * (b : Int)) = ((a * b : Nat) : Int) := by rw [IntWalk.wrap64_in _ (by omega)]; simp
  have hnn : a * b ≤ 3000000 := by
    have e : ((a * b : Nat) : Int) = (a : Int) * (b : Int) := Int.natCast_mul a b
    omega
  have hmk := fun w => mk_bytes w (wrap64 ((a : Int) * (b : Int))) (a * b) hw hnn
  have hcv := fun w => cv_zeros (a * b) w
  clear h hp hw hnn
  go_enter Try.func17, Try.ntmps17
  go_wp2
  go_ret
  refine ⟨rfl, ⟨?_, World.ownsRow_nil _ _ _ _, (fun k hk => by cases hk), (by have := (Kq.below_alloc w (.cells (zrow (a * b)) 5)).size; exact Nat.le_trans this (Kq.below_alloc _ _).size)⟩, ?_⟩
  · have := Kq.blk_new (w.alloc (.cells (zrow (a * b)) 5)) #[.int .i64 a, .int .i64 b, .string (txt (List.replicate (a * b) 0)), .slice none 0 0, .int .i64 0] 47 (0, 0)
    rw [World.size_alloc] at this
    exact this
  · exact (Kq.below_alloc w _).trans ((Kq.below_alloc _ _).mono (Kq.below_alloc w _).size)
end Go.Proofs.Ytcnoakngnjbkiaa
