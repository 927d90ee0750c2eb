/- Messages, cell by cell; a copy between rows of larger elements. No condition. -/
import Derived.WalkSpells
import Derived.Test.YtahijpfmpdjceaaBuf
import Derived.Test.YtahijpfmpdjceaaChecked
namespace Go.Kq
open Go.RowKit
theorem run_copy_rows {P : Program} (w : World) (dT sT ty elem : TypeId) (g o dLen dCap : Nat) (a : Addr) (sLen sCap size : Nat) (cur : Array Value) (t : TypeId) (cs : List Value)
    (hu : P.underlying dT = some (.slice elem)) (hs : (P.info? elem).map (·.size) = some size)
    (hg : w.heap[g]? = some (.cells cur t (0, 0))) (hn : cs.length = (Nat.min sLen dLen) * size)
    (hsrc : ∀ j v, cs[j]? = some v → w.cell? (a.add j) = some v) (hfit : o + cs.length ≤ cur.size) (h1 : ∀ v ∈ cs, v.oneCell' = true) :
    (Builtin.copy_ #[dT, sT] ty #[.slice (some ⟨g, o, none⟩) dLen dCap, .slice (some a) sLen sCap]).run P w =
      .ok (goInt (Nat.min sLen dLen)) (w.setRow g (cur.toList.take o ++ cs ++ cur.toList.drop (o + cs.length)).toArray) := by
  have hl := run_loadCells_list (P := P) w a cs hsrc
  have hst := run_storeCells_at P g o t cs 0 cur w hg (by simpa using hfit) h1
  cases hq : P.info? elem with
  | none => simp [hq] at hs
  | some i =>
    have hi : i.size = size := by simpa [hq] using hs
    simp [Builtin.copy_, run_underlying hu, Builtin.lenOf, Builtin.firstCells, sizeOf, typeInfo, hq, hi, ← hn, hl, hst]
end Go.Kq
namespace Go.Proofs.Ytahijpfmpdjceaa
open Go.RowKit
set_option linter.unusedVariables false
structure MsgV where
  kind : Int
  to : Int
  ht : Int
  fr : Int
  sq : Int
  tm : Int
  d : ByteArray
  p : ByteArray
instance : Inhabited MsgV := ⟨⟨0, 0, 0, 0, 0, 0, ⟨#[]⟩, ⟨#[]⟩⟩⟩
def MsgV.cells (m : MsgV) : List Value := [.int .i64 m.kind, .int .i64 m.to, .int .u64 m.ht, .int .i64 m.fr, .int .u64 m.sq, .int .u64 m.tm, .string m.d, .string m.p]
def MsgV.val (m : MsgV) : Value := .agg #[.int .i64 m.kind, .int .i64 m.to, .int .u64 m.ht, .int .i64 m.fr, .int .u64 m.sq, .int .u64 m.tm, .string m.d, .string m.p]
def mcells : List MsgV → List Value
  | [] => []
  | m :: l => m.cells ++ mcells l
theorem mcells_length (l : List MsgV) : (mcells l).length = l.length * 8 := by
  induction l with
  | nil => rfl
  | cons m l ih => simp [mcells, ih, MsgV.cells]; omega
theorem mcells_append (l k : List MsgV) : mcells (l ++ k) = mcells l ++ mcells k := by
  induction l with
  | nil => rfl
  | cons m l ih => simp [mcells, ih]
theorem mcells_take (l : List MsgV) (n : Nat) : mcells (l.take n) = (mcells l).take (n * 8) := by
  induction l generalizing n with
  | nil => simp [mcells]
  | cons m l ih =>
    match n with
    | 0 => simp [mcells]
    | n + 1 =>
      have e : (n + 1) * 8 - m.cells.length = n * 8 := by show (n + 1) * 8 - 8 = n * 8; omega
      rw [List.take_succ_cons, mcells, mcells, ih, List.take_append, e, List.take_of_length_le (l := m.cells) (by show 8 ≤ _; omega)]
theorem mcells_drop (l : List MsgV) (n : Nat) : mcells (l.drop n) = (mcells l).drop (n * 8) := by
  induction l generalizing n with
  | nil => simp [mcells]
  | cons m l ih =>
    match n with
    | 0 => simp [mcells]
    | n + 1 =>
      have e : (n + 1) * 8 - m.cells.length = n * 8 := by show (n + 1) * 8 - 8 = n * 8; omega
      rw [List.drop_succ_cons, ih, mcells, List.drop_append, e, List.drop_of_length_le (l := m.cells) (by show 8 ≤ _; omega), List.nil_append]
theorem mcells_one (l : List MsgV) : ∀ u ∈ mcells l, u.oneCell' = true := by
  induction l with
  | nil => intro u hu; cases hu
  | cons m l ih =>
    intro u hu
    rcases List.mem_append.1 hu with h | h
    · simp only [MsgV.cells, List.mem_cons, List.not_mem_nil, or_false] at h
      rcases h with rfl | rfl | rfl | rfl | rfl | rfl | rfl | rfl <;> rfl
    · exact ih u h
theorem mcells_at (l : List MsgV) (j : Nat) (h : j < l.length) (i : Nat) (hi : i < 8) : (mcells l)[j * 8 + i]? = l[j].cells[i]? := by
  induction l generalizing j with
  | nil => cases h
  | cons m l ih =>
    match j with
    | 0 =>
      rw [mcells, Nat.zero_mul, Nat.zero_add, List.getElem?_append_left (by show i < 8; exact hi)]
      rfl
    | j + 1 =>
      rw [mcells, List.getElem?_append_right (by show 8 ≤ _; omega), show (j + 1) * 8 + i - m.cells.length = j * 8 + i by show _ - 8 = _; omega]
      simpa using ih j (by simpa using h)
theorem infoM : (Try.prog.info? 39).map (fun i => (i.size, i.bytes)) = some (8, 80) := by kernel_rfl
end Go.Proofs.Ytahijpfmpdjceaa
