/- A configuration is equal to itself. Condition: its heights and sequences are numbers. -/
import Derived.WalkSpells
import Derived.Outline
import Derived.Laws.StructEq
import Derived.DeepKeys
import Derived.ProofKit
import Derived.Test.YtjilbcefikbihaaScCgQ
namespace Go.Proofs.Ytjilbcefikbihaa
open Go.RowKit
set_option linter.unusedVariables false
theorem u64_wfS {x : Int} (h : 0 ≤ x ∧ x < 18446744073709551616) : (Lit.int .u64 x).wf = true := by
  simp [Lit.wf, IntKind.min, IntKind.max, IntKind.signed, IntKind.bits]; omega
set_option maxRecDepth 100000 in
theorem arr2_eql (a b : Int) (ha : 0 ≤ a ∧ a < 18446744073709551616) (hb : 0 ≤ b ∧ b < 18446744073709551616) (w : World) : (Op.equalIn 9999 30 (.agg #[.int .u64 a, .int .u64 b]) (.agg #[.int .u64 a, .int .u64 b])).run Try.prog w = .ok true w := by
  have k2 : Try.prog.cellsOf 22 = 1 := by kernel_rfl
  have k4 : Try.prog.cellsOf 30 = 2 := by kernel_rfl
  have hk : Try.prog.keyTypeAt 3 30 = true := by kernel_rfl
  have i2 : ∀ x : Int, (Lit.int .u64 x).wf = true → Try.prog.keyLits 2 22 [.int .u64 x] = some [.int .u64 x] := fun x hx => by
    unfold Program.keyLits; rw [Try.underlying22]; simp [hx]
  have hl : Try.prog.keyLits 3 30 [.int .u64 a, .int .u64 b] = some [.int .u64 a, .int .u64 b] := by
    unfold Program.keyLits
    rw [Try.underlying30]
    simp [k2, k4, List.range, List.range.loop, i2 _ (u64_wfS ha), i2 _ (u64_wfS hb)]
  have hf : (Value.agg #[.int .u64 a, .int .u64 b]).formed Try.prog 30 = true := by
    unfold Value.formed
    rw [Try.underlying30]
    simp [k4]
  obtain ⟨r, hr, hiff⟩ := run_equalIn_deep (P := Try.prog) 9996 3 30 hk w 3 3 _ _ _ _ hf hf hl hl
  rw [show (9999 : Nat) = 9996 + 3 from rfl, hr, hiff.2 rfl]
set_option maxRecDepth 100000 in
theorem cfg_eql (c : CoV) (h : c.wf) (w : World) : (binOp .eql 32 (.agg #[.int .i64 c.sec, .int .i64 c.secs, .int .i64 c.tb, .int .i64 c.bt, .int .i64 c.sc, .int .u64 c.h0, .int .u64 c.h1, .int .u64 c.s0, .int .u64 c.s1]) (.agg #[.int .i64 c.sec, .int .i64 c.secs, .int .i64 c.tb, .int .i64 c.bt, .int .i64 c.sc, .int .u64 c.h0, .int .u64 c.h1, .int .u64 c.s0, .int .u64 c.s1])).run Try.prog w = .ok (.bool true) w := by
  have hs : Try.prog.stoodInHeld 32 = false := by kernel_rfl
  obtain ⟨h0, h1, h2, h3⟩ := h
  simp [go_sem, hs, Try.underlying32, Try.underlying3, arr2_eql _ _ h0 h1, arr2_eql _ _ h2 h3]
end Go.Proofs.Ytjilbcefikbihaa
