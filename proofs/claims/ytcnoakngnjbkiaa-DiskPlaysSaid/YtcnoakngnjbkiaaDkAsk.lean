/- Contracts of a disk's Size, Sectors, Buffered, Stable. No condition. -/
import Derived.WalkSpells
import Derived.Test.YtcnoakngnjbkiaaDkAwake
namespace Go.Proofs.Ytcnoakngnjbkiaa
open Go.RowKit
set_option linter.unusedVariables false
set_option maxRecDepth 100000 in
theorem dk_size (a b : Int) (w : World) : Calls Try.prog 12 #[.agg #[.int .i64 a, .int .i64 b]] w fun x w' => x = .returned (.int .i64 a) ∧ Below w.heap.size w w' := by
  go_enter Try.func12, Try.ntmps12
  go_wp2
  go_ret
  exact ⟨rfl, Kq.below_alloc _ _⟩
set_option maxRecDepth 100000 in
theorem dk_sectors (a b : Int) (w : World) : Calls Try.prog 13 #[.agg #[.int .i64 a, .int .i64 b]] w fun x w' => x = .returned (.int .i64 b) ∧ Below w.heap.size w w' := by
  go_enter Try.func13, Try.ntmps13
  go_wp2
  go_ret
  exact ⟨rfl, Kq.below_alloc _ _⟩
set_option maxRecDepth 100000 in
theorem dk_buffered0 (B : Nat) (w : World) (h : w.cell? ⟨B, 3, none⟩ = some (.slice none 0 0)) : Calls Try.prog 14 #[.pointer (some ⟨B, 0, none⟩)] w fun x w' => x = .returned (.int .i64 0) ∧ w = w' := by
  go_enter Try.func14, Try.ntmps14
  go_wp2
  go_ret
  exact ⟨rfl, rfl⟩
set_option maxRecDepth 100000 in
theorem dk_stable (B S : Nat) (st : List Nat) (w : World) (h : w.cell? ⟨B, 2, none⟩ = some (.slice (some ⟨S, 0, none⟩) st.length st.length)) (hs : StB w S st) (hl : ∀ b ∈ st, b < 256) :
    Calls Try.prog 15 #[.pointer (some ⟨B, 0, none⟩)] w fun x w' => x = .returned (.string (txt st)) ∧ w = w' := by
  have hcv := stb_text w S 0 st.length st.length st hs hl (by omega)
  rw [List.drop_zero, List.take_length] at hcv
  clear hs hl
  go_enter Try.func15, Try.ntmps15
  go_wp2
  go_ret
  exact ⟨rfl, rfl⟩
end Go.Proofs.Ytcnoakngnjbkiaa
