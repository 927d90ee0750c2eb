/- Merged: RdL, WrL. A reader with what is left as a list: Byte, Number, Get, End, Err on the good way. Condition: lengths are ints. A writing call that puts what it adds if all is well, and else remembers 1 (NtPut's words, without packets; never import both). Condition: lengths. -/
import Derived.WalkSpells
import Derived.Test.YtbjchfcoacmaaaaGreatDoorNtValQ
import Derived.Test.YtbjchfcoacmaaaaGreatDoorBetwQ
import Derived.Test.YtbjchfcoacmaaaaGreatDoorCommonQ
namespace Go.Proofs.YtbjchfcoacmaaaaGreatDoor
open Go.RowKit
set_option linter.unusedVariables false
/-- a reader that remembers nothing, with l left -/
def RdL (w : World) (B : Nat) (l : List Nat) : Prop := ∃ s, Rd w B 0 s ∧ nl s = l ∧ l.length ≤ 1000000
theorem RdL.keeps {w w' : World} {B : Nat} {l : List Nat} {S : Nat → Prop} (h : RdL w B l) (hk : Kq.Keeps S w w') (hS : ¬ S B) : RdL w' B l := by
  obtain ⟨s, h1, h2, h3⟩ := h
  exact ⟨s, hk.blk h1 hS, h2, h3⟩
theorem RdL.below {w w' : World} {B : Nat} {l : List Nat} (h : RdL w B l) (hb : Below w.heap.size w w') : RdL w' B l :=
  h.keeps (Kq.Keeps.of_below (S := fun _ => False) hb (fun k h1 h2 => absurd h1 (Nat.not_le.2 h2))) id
theorem RdL.lt {w : World} {B : Nat} {l : List Nat} (h : RdL w B l) : B < w.heap.size := by
  obtain ⟨s, h1, _⟩ := h
  exact Kq.blk_lt h1
theorem raw_list {s : ByteArray} {a b : List Nat} (h : nl s = a ++ b) : nl (WireM.raw 0 s (a.length : Nat)).1 = a ∧ (WireM.raw 0 s (a.length : Nat)).2.1 = 0 ∧ nl (WireM.raw 0 s (a.length : Nat)).2.2 = b := by
  have hs : s.size = a.length + b.length := by rw [← nl_length, h, List.length_append]
  rw [WireM.raw_ok s a.length (by omega)]
  refine ⟨?_, rfl, ?_⟩
  · show nl (s.extract 0 a.length) = a
    rw [nl_extract, h, List.drop_zero, Nat.sub_zero, List.take_left]
  · show nl (s.extract a.length s.size) = b
    rw [nl_extract, h, List.drop_left, hs]
    exact List.take_of_length_le (by omega)
end Go.Proofs.YtbjchfcoacmaaaaGreatDoor
namespace Go.Proofs.YtbjchfcoacmaaaaGreatDoor
open Go.RowKit
set_option linter.unusedVariables false
theorem WrMid.belowM {w wr w' : World} {base B : Nat} {v0 v : Value} {e : Int} {l : List Nat} (h : WrMid w base B v0 e v l wr) (hb : Below wr.heap.size wr w') : WrMid w base B v0 e v l w' := by
  have hk : Kq.Keeps (fun _ => False) wr w' := Kq.Keeps.of_below (S := fun _ => False) hb (fun k h1 h2 => absurd h1 (Nat.not_le.2 h2))
  exact ⟨h.it.belowW hb, h.keeps.trans (hk.mono (fun _ _ hf => hf.elim)), h.fresh⟩
theorem WrMid.stepV {w wr w' : World} {base B : Nat} {v0 v v' : Value} {e e' : Int} {l l' : List Nat} (h : WrMid w base B v0 e v l wr) (h1 : Wr w' base B e' v' l') (h2 : Kq.Keeps (fun k => k = B ∨ some k = v.ownBlock) wr w') (h3 : ∀ k, v'.ownBlock = some k → some k = v.ownBlock ∨ wr.heap.size ≤ k) : WrMid w base B v0 e' v' l' w' := by
  refine ⟨h1, ?_, fun k hk => ?_⟩
  · refine ⟨h2.os.trans h.keeps.os, h2.tape.trans h.keeps.tape, h2.output.trans h.keeps.output, Nat.le_trans h.keeps.size h2.size, fun k hk hn => ?_⟩
    rw [h2.block k (Nat.lt_of_lt_of_le hk h.keeps.size) ?_, h.keeps.block k hk hn]
    rintro (h4 | h4)
    · exact hn (Or.inl h4)
    · rcases h.fresh k h4.symm with h5 | h5
      · exact hn (Or.inr h5)
      · omega
  · rcases h3 k hk with h4 | h4
    · exact h.fresh k h4.symm
    · exact Or.inr (Nat.le_trans h.keeps.size h4)
end Go.Proofs.YtbjchfcoacmaaaaGreatDoor
