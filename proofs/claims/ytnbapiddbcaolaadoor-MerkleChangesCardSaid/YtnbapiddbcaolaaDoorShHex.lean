/- Towards a contract of sha.Hex: a slice of bytes made with room and no length. Condition: sizes. -/
import Derived.WalkSpells
import Derived.Outline
import Derived.Laws.MakeOwn
import Derived.Test.YtnbapiddbcaolaaDoorChecked
import Derived.Test.YtnbapiddbcaolaaDoorBuf
import Derived.Test.YtnbapiddbcaolaaDoorShTurn
namespace Go.Proofs.YtnbapiddbcaolaaDoor
open Go.RowKit
set_option linter.unusedVariables false
theorem info_partsH {t : TypeId} {z : Value} {s b : Nat} (h : (Tryd.prog.info? t).map (fun i => (i.zero, i.size, i.bytes)) = some (some z, s, b)) : ∃ i, Tryd.prog.info? t = some i ∧ i.zero = some z ∧ i.size = s ∧ i.bytes = b := by
  cases hi : Tryd.prog.info? t with
  | none => rw [hi] at h; cases h
  | some i =>
    rw [hi] at h
    simp only [Option.map_some, Option.some.injEq, Prod.mk.injEq] at h
    exact ⟨i, rfl, h.1, h.2.1, h.2.2⟩
theorem infoU8H : (Tryd.prog.info? 5).map (fun i => (i.zero, i.size, i.bytes)) = some (some (.int .u8 0), 1, 1) := by kernel_rfl
theorem mk_cap (w : World) (z : Int) (n : Nat) (hz : z = (n : Int)) (hn : n ≤ 3000000) :
    (Instr.makeSlice 61 (.int .i64 0) (.int .i64 z)).run Tryd.prog w = .ok (.slice (some ⟨w.heap.size, 0, none⟩) 0 n) (w.alloc (.cells (madeCells (Value.int IntKind.u8 0).cells n) 5)) := by
  obtain ⟨i0, hi, hz0, hz1, hz2⟩ := info_partsH infoU8H
  subst hz
  have := run_makeSlice (P := Tryd.prog) w 61 5 i0 (.int .u8 0) Tryd.underlying61 hi hz0 .i64 .i64 0 (n : Int) (Int.le_refl _) (by omega) (by rw [hz1]; simp; omega) (by rw [hz2]; omega) (by omega)
  rw [hz1] at this
  simpa using this
theorem made_row (w : World) (n : Nat) (hn : n ≤ 3000000) : (w.alloc (.cells (madeCells (Value.int IntKind.u8 0).cells n) 5)).ownsRow w.heap.size 5 1 (.slice (some ⟨w.heap.size, 0, none⟩) 0 n) 0 [] := by
  refine ⟨rfl, .inr ⟨w.heap.size, n, _, rfl, Nat.le_refl _, heap_alloc_new w _, Nat.zero_le _, by unfold maxLen; omega, ?_, by simp⟩⟩
  rw [size_madeCells]
  simp
def hexd (q : Nat) : Nat := if q < 10 then 48 + q else 87 + q
theorem dig_all : ∀ q : Fin 16, ((⟨#[48, 49, 50, 51, 52, 53, 54, 55, 56, 57, 97, 98, 99, 100, 101, 102]⟩ : ByteArray)[q.val]'q.isLt).toNat = hexd q.val := by decide
theorem dig (x : Int) (q : Nat) (hx : x = (q : Int)) (hq : q < 16) (h : x.toNat < (⟨#[48, 49, 50, 51, 52, 53, 54, 55, 56, 57, 97, 98, 99, 100, 101, 102]⟩ : ByteArray).size) : ((⟨#[48, 49, 50, 51, 52, 53, 54, 55, 56, 57, 97, 98, 99, 100, 101, 102]⟩ : ByteArray)[x.toNat]'h).toNat = hexd q := by
  subst hx
  exact dig_all ⟨q, hq⟩
theorem and15 (x : Nat) (hx : x < 256) : bits .and .u8 (x : Int) 15 = ((x % 16 : Nat) : Int) := by
  have h1 : (BitVec.ofInt 8 (x : Int)).toNat = x := by
    rw [BitVec.ofInt_natCast, BitVec.toNat_ofNat]; exact Nat.mod_eq_of_lt (by omega)
  show IntKind.u8.wrap ((BitVec.ofInt 8 (x : Int) &&& BitVec.ofInt 8 15).toNat : Int) = _
  rw [BitVec.toNat_and, h1, show (BitVec.ofInt 8 15).toNat = 15 from by decide, show (15 : Nat) = 2 ^ 4 - 1 from rfl, Nat.and_two_pow_sub_one_eq_mod, IntKind.wrap_u8]
  omega
/-- the digits of bytes -/
def hexl : List Nat → List Nat
  | [] => []
  | b :: r => hexd (b / 16) :: hexd (b % 16) :: hexl r
theorem hexl_append (l m : List Nat) : hexl (l ++ m) = hexl l ++ hexl m := by
  induction l with
  | nil => rfl
  | cons b r ih => simp [hexl, ih]
theorem hexl_length (l : List Nat) : (hexl l).length = 2 * l.length := by
  induction l with
  | nil => rfl
  | cons b r ih => simp [hexl, ih]; omega
end Go.Proofs.YtnbapiddbcaolaaDoor
