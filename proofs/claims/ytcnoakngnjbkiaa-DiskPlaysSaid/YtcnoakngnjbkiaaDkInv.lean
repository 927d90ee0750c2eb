/- A disk that a law made: what stays behind each call. No condition. -/
import Derived.Test.YtcnoakngnjbkiaaDkGen
import Derived.Test.YtcnoakngnjbkiaaDkAsk
namespace Go.Proofs.Ytcnoakngnjbkiaa
open Go.RowKit
set_option linter.unusedVariables false
structure DkI (W w : World) (base B S a b : Nat) (buf : Value) (ws : List (Int × ByteArray)) (armed : Int) (st : List Nat) : Prop where
  s : DkS w base B S a b buf ws armed st
  bel : Below W.heap.size W w
  hB : W.heap.size ≤ B
  hS : W.heap.size ≤ S
  hbase : W.heap.size ≤ base
theorem own_ge {w : World} {base size : Nat} {e : TypeId} {v : Value} {n : Nat} {xs : List Value} (h : w.ownsRow base e size v n xs) {k : Nat} (hk : v.ownBlock = some k) : base ≤ k := by
  rcases h.2 with ⟨rfl, _⟩ | ⟨g, cap, cur, rfl, h3, _⟩
  · cases hk
  · have : g = k := by simpa [Value.ownBlock] using hk
    omega
section
variable {W w w' : World} {base B S a b : Nat} {buf buf' : Value} {ws ws' : List (Int × ByteArray)} {armed armed' : Int} {st st' : List Nat} (h : DkI W w base B S a b buf ws armed st)
include h
theorem DkI.below (hb : Below w.heap.size w w') : DkI W w' base B S a b buf ws armed st := ⟨h.s.below hb, h.bel.trans (hb.mono h.bel.size), h.hB, h.hS, h.hbase⟩
theorem DkI.step (hd : DkS w' base B S a b buf' ws' armed' st') (hk : Kq.Keeps (Own B S buf) w w') : DkI W w' base B S a b buf' ws' armed' st' :=
  ⟨hd, h.bel.trans (hk.below h.bel.size (fun k _ ho => by
    rcases ho with rfl | rfl | ho
    · exact h.hB
    · exact h.hS
    · exact Nat.le_trans h.hbase (own_ge h.s.d.own ho))), h.hB, h.hS, h.hbase⟩
theorem DkI.stepB (hd : DkS w' base B S a b buf' ws' armed' st') (hk : Kq.Keeps (· = B) w w') : DkI W w' base B S a b buf' ws' armed' st' := h.step hd (hk.mono (fun _ _ e => Or.inl e))
theorem DkI.stepBS (hd : DkS w' base B S a b buf' ws' armed' st') (hk : Kq.Keeps (fun j => j = B ∨ j = S) w w') : DkI W w' base B S a b buf' ws' armed' st' := h.step hd (hk.mono (fun _ _ e => e.elim Or.inl (fun e => Or.inr (Or.inl e))))
end
/-- a disk that New made -/
theorem DkI.made {W w w' : World} {a b n : Nat} (hW : Below W.heap.size W w) {x : Ending} (hn : a * b = n) (h : NewPost a b n w x w') : DkI W w' w.heap.size (w.heap.size + 1) w.heap.size a b (.slice none 0 0) [] ((0 : Nat) : Int) (List.replicate n 0) := by
  obtain ⟨-, D2, S2, b2⟩ := h
  refine ⟨⟨⟨?_, World.ownsRow_nil _ _ _ _, (fun k hk => by cases hk), b2.size, by omega, Kq.blk_lt S2⟩, ?_⟩, hW.trans (b2.mono hW.size), Nat.le_succ_of_le hW.size, hW.size, hW.size⟩
  · rw [List.length_replicate]; exact D2.blk
  · unfold StB; rw [← zrow_cells]; exact S2
theorem putB_at (x y t : List Nat) : putB x.length t (x ++ y) = x ++ (t ++ y.drop t.length) := by
  unfold putB
  rw [List.take_left, List.append_assoc]
  congr 2
  rw [← List.drop_drop, List.drop_left]
theorem putB_at' (p : Nat) (x y t : List Nat) (h : x.length = p) : putB p t (x ++ y) = x ++ (t ++ y.drop t.length) := by rw [← h]; exact putB_at x y t
end Go.Proofs.Ytcnoakngnjbkiaa
