/- A writing call that puts what it adds if all is well, and else remembers 1 (NtPut's words, without packets; never import both). Condition: lengths. -/
import Derived.WalkSpells
import Derived.Test.YtjilbcefikbihaaWrNewQ
import Derived.Test.YtjilbcefikbihaaWireWr2Q
import Derived.Test.YtjilbcefikbihaaCommonQ
namespace Go.Proofs.Ytjilbcefikbihaa
open Go.RowKit
set_option linter.unusedVariables false
/-- a writing call that puts 'add' if all is well, and else remembers ErrRange -/
def WrStep (w : World) (base B : Nat) (v : Value) (e : Int) (l : List Nat) (ok : Prop) (add : List Nat) (n : Nat) (x : Ending) (w' : World) : Prop :=
  ∃ e' l', WrAny w base B v e' l' x w' ∧ l'.length ≤ l.length + n ∧ (ok → e' = e ∧ l' = l ++ add) ∧ (¬ ok → e' = keepE e 1)
theorem keepE_one (e : Int) : keepE (keepE e 1) 1 = keepE e 1 := by
  unfold keepE
  by_cases h : e = 0
  · subst h; rfl
  · rw [if_neg h, if_neg h]
theorem wr_byte_step (base B : Nat) (e : Int) (v : Value) (l : List Nat) (n : Int) (w : World) (h : Wr w base B e v l) (hl : l.length ≤ 1000000) :
    Calls Try.prog 21 #[.pointer (some ⟨B, 0, none⟩), .int .i64 n] w (WrStep w base B v e l (0 ≤ n ∧ n ≤ 255) [n.toNat] 1) := by
  by_cases hn : 0 ≤ n ∧ n ≤ 255
  · obtain ⟨m, rfl⟩ := Int.eq_ofNat_of_zero_le hn.1
    refine (wr_byte_ok base B e v l m w h (by omega) (by omega)).mono fun x w' hp => ?_
    exact ⟨e, l ++ [m], hp.any, by simp, fun _ => ⟨rfl, rfl⟩, fun h => absurd hn h⟩
  · refine (wr_byte_bad base B e v l n w h (by omega)).mono fun x w' hp => ?_
    exact ⟨_, l, hp, by omega, fun h => absurd h hn, fun _ => rfl⟩
theorem WrMid.belowM {w wr w' : World} {base B : Nat} {v0 v : Value} {e : Int} {l : List Nat} (h : WrMid w base B v0 e v l wr) (hb : Below wr.heap.size wr w') : WrMid w base B v0 e v l w' := by
  have hk : Kq.Keeps (fun _ => False) wr w' := Kq.Keeps.of_below (S := fun _ => False) hb (fun k h1 h2 => absurd h1 (Nat.not_le.2 h2))
  exact ⟨h.it.belowW hb, h.keeps.trans (hk.mono (fun _ _ hf => hf.elim)), h.fresh⟩
theorem WrMid.stepV {w wr w' : World} {base B : Nat} {v0 v v' : Value} {e e' : Int} {l l' : List Nat} (h : WrMid w base B v0 e v l wr) (h1 : Wr w' base B e' v' l') (h2 : Kq.Keeps (fun k => k = B ∨ some k = v.ownBlock) wr w') (h3 : ∀ k, v'.ownBlock = some k → some k = v.ownBlock ∨ wr.heap.size ≤ k) : WrMid w base B v0 e' v' l' w' := by
  refine ⟨h1, ?_, fun k hk => ?_⟩
  · refine ⟨h2.os.trans h.keeps.os, h2.tape.trans h.keeps.tape, h2.output.trans h.keeps.output, Nat.le_trans h.keeps.size h2.size, fun k hk hn => ?_⟩
    rw [h2.block k (Nat.lt_of_lt_of_le hk h.keeps.size) ?_, h.keeps.block k hk hn]
    rintro (h4 | h4)
    · exact hn (Or.inl h4)
    · rcases h.fresh k h4.symm with h5 | h5
      · exact hn (Or.inr h5)
      · omega
  · rcases h3 k hk with h4 | h4
    · exact h.fresh k h4.symm
    · exact Or.inr (Nat.le_trans h.keeps.size h4)
end Go.Proofs.Ytjilbcefikbihaa
