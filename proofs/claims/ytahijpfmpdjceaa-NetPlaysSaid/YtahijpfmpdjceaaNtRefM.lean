/- The reference's net in memory. No condition. -/
import Derived.WalkSpells
import Derived.Outline
import Derived.Carry
import Derived.Test.YtahijpfmpdjceaaNtTake
import Derived.Test.YtahijpfmpdjceaaHeldLast
import Derived.Test.YtahijpfmpdjceaaNetMovesGoM
namespace Go.Proofs.Ytahijpfmpdjceaa
open Go.RowKit
set_option linter.unusedVariables false
structure RtS (w : World) (base R : Nat) (v : Value) (ms : List MsgV) : Prop where
  blk : w.heap[R]? = some (.cells #[v] 30 (0, 0))
  own : w.ownsRow base 39 8 v ms.length (mcells ms)
  ne : ∀ k, v.ownBlock = some k → k ≠ R
  base : base ≤ w.heap.size
section
variable {w : World} {base R : Nat} {v : Value} {ms : List MsgV} (h : RtS w base R v ms)
include h
theorem RtS.c0 : w.cell? ⟨R, 0, none⟩ = some v := Kq.blk_cell h.blk 0
theorem RtS.fz (i : Nat) : w.frozen? ⟨R, i, none⟩ = false := Kq.blk_free h.blk i
theorem RtS.keeps {P : Nat → Prop} {w' : World} (hk : Kq.Keeps P w w') (hN : ¬ P R) (hP : ∀ k, v.ownBlock = some k → ¬ P k) : RtS w' base R v ms := by
  refine ⟨hk.blk h.blk hN, ?_, h.ne, Nat.le_trans h.base hk.size⟩
  obtain ⟨h1, h2⟩ := h.own
  refine ⟨h1, h2.imp id ?_⟩
  rintro ⟨g, cap, cur, hv, h3, h4, h5⟩
  exact ⟨g, cap, cur, hv, h3, hk.blk h4 (hP g (by rw [hv]; rfl)), h5⟩
theorem RtS.below {w' : World} (hb : Below w.heap.size w w') : RtS w' base R v ms :=
  h.keeps (P := fun _ => False) (Kq.Keeps.of_below hb (fun j h1 h2 => absurd h1 (Nat.not_le.2 h2))) id (fun _ _ => id)
theorem RtS.at : ∃ A cap, v = .slice A ms.length cap ∧ ms.length ≤ cap ∧ (A = none → ms.length = 0) ∧ MsAt w A ms := row_ms h.own
end
/-- what a call leaves of the reference's net -/
def RtP (w : World) (base R : Nat) (v : Value) (ms : List MsgV) (w' : World) : Prop :=
  ∃ v', RtS w' base R v' ms ∧ Kq.Keeps (· = R) w w' ∧ (∀ j, v'.ownBlock = some j → v.ownBlock = some j ∨ w.heap.size ≤ j)
theorem RtP.same {w w' : World} {base R : Nat} {v : Value} {ms : List MsgV} (h : RtS w base R v ms) (hb : Below w.heap.size w w') : RtP w base R v ms w' :=
  ⟨v, h.below hb, Kq.Keeps.of_below hb (fun j h1 h2 => absurd h2 (Nat.not_lt.2 h1)), fun j hj => Or.inl hj⟩
theorem rt_close {w cur : World} {base R n : Nat} {v v' : Value} {ms ms' : List MsgV} (h : RtS w base R v ms) (hb : Below w.heap.size w cur) (hn : n = ms'.length) (hown : cur.ownsRow w.heap.size 39 8 v' n (mcells ms')) :
    RtP w base R v ms' (cur.setCell ⟨R, 0, none⟩ v') := by
  have hR := Kq.blk_lt h.blk
  have hf : ∀ j, v'.ownBlock = some j → w.heap.size ≤ j := fun j hj => (hown.lt j hj).1
  have hk : Kq.Keeps (· = R) w (cur.setCell ⟨R, 0, none⟩ v') := (Kq.Keeps.of_below hb (fun j h1 h2 => absurd h2 (Nat.not_lt.2 h1))).trans (Kq.Keeps.setCell _ _ _ rfl)
  refine ⟨v', ⟨Kq.blk_set (Kq.below_blk hb h.blk hR) 0 v', ?_, fun j hj => by have := hf j hj; omega, Nat.le_trans h.base hk.size⟩, hk, fun j hj => Or.inr (hf j hj)⟩
  subst hn
  obtain ⟨q1, q2⟩ := hown
  refine ⟨q1, q2.imp id ?_⟩
  rintro ⟨g, cap, c, hv, h3, h4, h5⟩
  exact ⟨g, cap, c, hv, Nat.le_trans h.base h3, by rw [Below.heap_setCell _ _ _ _ (show g ≠ R by omega)]; exact h4, h5⟩
/-- a slice of one message that was built -/
theorem made_one (w : World) (m : MsgV) (T : TypeId) : MsAt (w.alloc (.cells #[.int .i64 m.kind, .int .i64 m.to, .int .u64 m.ht, .int .i64 m.fr, .int .u64 m.sq, .int .u64 m.tm, .string m.d, .string m.p] T)) (some ⟨w.heap.size, 0, none⟩) [m] := fun j hj => by
  have : j = 0 := by simpa using hj
  subst this
  refine ⟨w.heap.size, 0, rfl, by simp, fun i hi => ?_⟩
  rw [Kq.blk_cell (Kq.blk_new _ _ _ _)]
  simp [MsgV.cells]
end Go.Proofs.Ytahijpfmpdjceaa
