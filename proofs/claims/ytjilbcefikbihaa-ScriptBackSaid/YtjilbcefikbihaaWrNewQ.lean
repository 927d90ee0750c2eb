/- Merged: RefNum, WrNew. Contract of carrackref03.Bytes: a number by so many bytes. Condition: eight bytes at most. A writer that was just declared; writers side by side; Bytes in one contract. No condition. -/
import Derived.WalkSpells
import Derived.Test.YtjilbcefikbihaaWireTextQ
namespace Go.Proofs.Ytjilbcefikbihaa
open Go.RowKit
set_option linter.unusedVariables false
theorem val_num8 (n : Nat) (h : n < M64) : WireM.val (num8 n) = n := by
  unfold M64 at h
  simp only [WireM.val, num8, List.foldl_cons, List.foldl_nil]
  omega
theorem val_hi2 (n : Nat) : WireM.val (hi2 n) = n := by
  simp only [WireM.val, hi2, List.foldl_cons, List.foldl_nil]
  omega
theorem val_one (n : Nat) : WireM.val [n] = n := by simp [WireM.val]
end Go.Proofs.Ytjilbcefikbihaa
namespace Go.Proofs.Ytjilbcefikbihaa
open Go.RowKit
set_option linter.unusedVariables false
/-- a writer that was just declared -/
theorem wr_new (w : World) : Wr (w.alloc (.cells #[.int .i64 0, .slice none 0 0] 78 (0, 0))) w.heap.size w.heap.size 0 (.slice none 0 0) [] := by
  refine ⟨Kq.blk_new _ _ _ _, ?_, (fun k hk => by cases hk), ?_⟩
  · exact ⟨rfl, Or.inl ⟨rfl, rfl⟩⟩
  · exact (Kq.below_alloc w _).size
/-- what a fresh writer's calls leave below is as it was -/
theorem WrMid.below {w wr : World} {v : Value} {e : Int} {l : List Nat} {o : Obj} {base : Nat} (h : WrMid (w.alloc o) base w.heap.size (.slice none 0 0) e v l wr) : Below w.heap.size w wr :=
  (Kq.below_alloc w o).trans (h.keeps.below (Kq.below_alloc w o).size (fun k _ hk => by
    rcases hk with rfl | hk
    · exact Nat.le_refl _
    · cases hk))
theorem own_later {w w' : World} {base size : Nat} {e : TypeId} {v : Value} {n : Nat} {xs : List Value} (h : w.ownsRow base e size v n xs) (hb : ∀ k, v.ownBlock = some k → w'.heap[k]? = w.heap[k]?) : w'.ownsRow base e size v n xs := by
  refine ⟨h.1, ?_⟩
  rcases h.2 with h0 | ⟨g, cap, cur, rfl, h1, h2, h3⟩
  · exact Or.inl h0
  · exact Or.inr ⟨g, cap, cur, rfl, h1, (hb g rfl).trans h2, h3⟩
theorem Wr.later {S : Nat → Prop} {w w' : World} {base B : Nat} {e : Int} {v : Value} {l : List Nat} (h : Wr w base B e v l) (hk : Kq.Keeps S w w') (hB : ¬ S B) (ho : ∀ k, v.ownBlock = some k → ¬ S k) : Wr w' base B e v l :=
  ⟨hk.blk h.blk hB, own_later h.own (fun k hk' => hk.block k (h.own.lt k hk').2 (ho k hk')), h.ne, Nat.le_trans h.base hk.size⟩
def bytesOf (e : Int) (l : List Nat) : ByteArray := if e = 0 then txt l else ⟨#[]⟩
theorem wr_bytes (base B : Nat) (e : Int) (v : Value) (l : List Nat) (w : World) (h : Wr w base B e v l) (hl : ∀ b ∈ l, b < 256) :
    Calls Try.prog 22 #[.pointer (some ⟨B, 0, none⟩)] w fun x w' => x = .returned (.tuple #[.string (bytesOf e l), .int .i64 e]) ∧ w = w' := by
  unfold bytesOf
  by_cases he : e = 0
  · subst he
    exact wr_bytes_ok base B v l w h hl
  · rw [if_neg he]
    exact wr_bytes_bad base B e v l w h he
theorem Wr.belowW {w w' : World} {base B : Nat} {e : Int} {v : Value} {l : List Nat} (h : Wr w base B e v l) (hb : Below w.heap.size w w') : Wr w' base B e v l :=
  h.later (Kq.Keeps.of_below (S := fun _ => False) hb (fun k h1 h2 => absurd h1 (Nat.not_le.2 h2))) id (fun k _ => id)
theorem WrAny.from {w w0 w' : World} {base B : Nat} {v : Value} {e : Int} {l : List Nat} {x : Ending} (hb : Below w.heap.size w w0) (h : WrAny w0 base B v e l x w') : WrAny w base B v e l x w' := by
  obtain ⟨hx, v', h1, h2, h3⟩ := h
  exact ⟨hx, v', h1, (Kq.Keeps.of_below hb (fun k h1 h2 => absurd h1 (Nat.not_le.2 h2))).trans h2, fun k hk => (h3 k hk).imp id (Nat.le_trans hb.size)⟩
end Go.Proofs.Ytjilbcefikbihaa
