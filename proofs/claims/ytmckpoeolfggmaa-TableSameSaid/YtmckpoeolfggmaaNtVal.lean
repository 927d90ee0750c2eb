/- A note, or an item, as a value; in memory. No condition. -/
import Derived.WalkSpells
import Derived.Test.YtmckpoeolfggmaaPkChk
namespace Go.Proofs.Ytmckpoeolfggmaa
open Go.RowKit
set_option linter.unusedVariables false
/-- a note, or an item: a mark and a packet -/
structure NtV where
  k : Int
  f : Int
  q : Int
  t : Int
  d : ByteArray
def NtV.p (n : NtV) : PkV := ⟨n.f, n.q, n.t, n.d⟩
def NtV.nc (n : NtV) : List Value := [.int .i64 n.k, .int .i64 n.f, .int .u64 n.q, .int .u64 n.t, .string n.d]
def NtV.ic (n : NtV) : List Value := [.int .i64 n.f, .int .u64 n.q, .int .u64 n.t, .string n.d, .int .i64 n.k]
/-- its numbers are a uint64's -/
def NtV.wf (n : NtV) : Prop := (0 ≤ n.q ∧ n.q < 18446744073709551616) ∧ (0 ≤ n.t ∧ n.t < 18446744073709551616)
/-- notes (or items) in memory -/
def EnAt (c : NtV → List Value) (w : World) (A : Option Addr) (l : List NtV) : Prop := ∀ j (h : j < l.length), ∃ b off, A = some ⟨b, off, none⟩ ∧ b < w.heap.size ∧ ∀ i, i < 5 → w.cell? ⟨b, off + j * 5 + i, none⟩ = (c l[j])[i]?
theorem EnAt.keeps {c : NtV → List Value} {w w' : World} {A : Option Addr} {l : List NtV} {S : Nat → Prop} (h : EnAt c w A l) (hk : Kq.Keeps S w w') (hS : ∀ g o, A = some ⟨g, o, none⟩ → ¬ S g) : EnAt c w' A l := fun j hj => by
  obtain ⟨b, off, rfl, hb, hc⟩ := h j hj
  refine ⟨b, off, rfl, Nat.lt_of_lt_of_le hb hk.size, fun i hi => ?_⟩
  rw [← hc i hi]
  unfold World.cell?
  rw [hk.block b hb (hS b off rfl)]
theorem EnAt.below {c : NtV → List Value} {w w' : World} {A : Option Addr} {l : List NtV} (h : EnAt c w A l) (hb : Below w.heap.size w w') : EnAt c w' A l :=
  h.keeps (Kq.Keeps.of_below (S := fun _ => False) hb (fun k h1 h2 => absurd h1 (Nat.not_le.2 h2))) (fun _ _ _ => id)
/-- may it stand in a list? -/
def EnOk (marks : List Int) (n : NtV) : Prop := n.k ∈ marks ∧ PkOk n.p
end Go.Proofs.Ytmckpoeolfggmaa
