/- Writers side by side, what calls write together, and Bytes in one contract. Condition: not too many calls. -/
import Derived.Test.YtiokelnnimoljaaPut
import Derived.Test.YtiokelnnimoljaaAwake
namespace Go.Proofs.Ytiokelnnimoljaa
open Go.RowKit
set_option linter.unusedVariables false
theorem own_later {w w' : World} {base size : Nat} {e : TypeId} {v : Value} {n : Nat} {xs : List Value} (h : w.ownsRow base e size v n xs) (hb : ∀ k, v.ownBlock = some k → w'.heap[k]? = w.heap[k]?) : w'.ownsRow base e size v n xs := by
  refine ⟨h.1, ?_⟩
  rcases h.2 with h0 | ⟨g, cap, cur, rfl, h1, h2, h3⟩
  · exact Or.inl h0
  · exact Or.inr ⟨g, cap, cur, rfl, h1, (hb g rfl).trans h2, h3⟩
theorem Wr.later {S : Nat → Prop} {w w' : World} {base B : Nat} {e : Int} {v : Value} {l : List Nat} (h : Wr w base B e v l) (hk : Kq.Keeps S w w') (hB : ¬ S B) (ho : ∀ k, v.ownBlock = some k → ¬ S k) : Wr w' base B e v l :=
  ⟨hk.blk h.blk hB, own_later h.own (fun k hk' => hk.block k (h.own.lt k hk').2 (ho k hk')), h.ne, Nat.le_trans h.base hk.size⟩
def bytesOf (e : Int) (l : List Nat) : ByteArray := if e = 0 then txt l else ⟨#[]⟩
theorem wr_bytes (base B : Nat) (e : Int) (v : Value) (l : List Nat) (w : World) (h : Wr w base B e v l) (hl : ∀ b ∈ l, b < 256) :
    Calls Try.prog 11 #[.pointer (some ⟨B, 0, none⟩)] w fun x w' => x = .returned (.tuple #[.string (bytesOf e l), .int .i64 e]) ∧ w = w' := by
  unfold bytesOf
  by_cases he : e = 0
  · subst he
    exact wr_bytes_ok base B v l w h hl
  · rw [if_neg he]
    exact wr_bytes_bad base B e v l w h he
/-- the calls, on a writer that was just declared -/
theorem put_fresh (base B : Nat) (a : Option Addr) (cap : Nat) (l : List CallV) (W w : World) (hl : l.length ≤ maxLen) (hc : CallsAt W a l) (hbel : Below W.heap.size W w)
    (hB : W.heap.size ≤ B) (hf : fewOk l) (h : Wr w base B 0 (.slice none 0 0) []) :
    Calls Try.prog 10 #[.pointer (some ⟨B, 0, none⟩), .slice a l.length cap] w fun x w' => x = .returned (.tuple #[]) ∧ ∃ v, Wr w' base B (putAll (0, []) l).1 v (putAll (0, []) l).2 ∧ Kq.Keeps (· = B) w w' ∧ (∀ k, v.ownBlock = some k → w.heap.size ≤ k) :=
  (put_calls base B (0, []) (.slice none 0 0) a cap l W w hl hc hbel hB (fun k hk => by cases hk) hf (by simp) h).mono fun x w' hp => by
    obtain ⟨hx, v, h1, h2, h3⟩ := hp
    refine ⟨hx, v, h1, h2.mono fun k _ h => ?_, fun k hk => (h3 k hk).elim (fun h => by cases h) id⟩
    rcases h with h | h
    · exact h
    · cases h
theorem keepE_assoc (a b c : Int) : keepE (keepE a b) c = keepE a (keepE b c) := by
  unfold keepE
  by_cases h : a = 0
  · simp [h]
  · simp [h]
theorem putOne_split (x : Int × List Nat) (c : CallV) : putOne x c = (keepE x.1 (putOne (0, []) c).1, x.2 ++ (putOne (0, []) c).2) := by
  have h0 : keepE x.1 0 = x.1 := by unfold keepE; split <;> simp_all
  have h1 : keepE 0 1 = 1 := rfl
  unfold putOne
  repeat' split
  all_goals simp only [h0, h1, List.nil_append, List.append_nil, List.append_assoc]
theorem putAll_split (x : Int × List Nat) (l : List CallV) : putAll x l = (keepE x.1 (putAll (0, []) l).1, x.2 ++ (putAll (0, []) l).2) := by
  induction l generalizing x with
  | nil => unfold putAll; simp only [List.foldl_nil, List.append_nil]; have h0 : keepE x.1 0 = x.1 := by unfold keepE; split <;> simp_all
           rw [h0]
  | cons c l ih =>
    have h1 : ∀ y, putAll y (c :: l) = putAll (putOne y c) l := fun _ => rfl
    rw [h1, h1, ih (putOne x c), ih (putOne (0, []) c), putOne_split x c]
    simp only [keepE_assoc, List.append_assoc]
theorem putOne_err (x : Int × List Nat) (c : CallV) (h : x.1 = 0 ∨ x.1 = 1) : (putOne x c).1 = 0 ∨ (putOne x c).1 = 1 := by
  unfold putOne keepE
  repeat' split
  all_goals first | exact h | exact Or.inr rfl | simp_all
theorem putAll_err (x : Int × List Nat) (l : List CallV) (h : x.1 = 0 ∨ x.1 = 1) : (putAll x l).1 = 0 ∨ (putAll x l).1 = 1 := by
  induction l generalizing x with
  | nil => exact h
  | cons c l ih => exact ih (putOne x c) (putOne_err x c h)
end Go.Proofs.Ytiokelnnimoljaa
