/- carracklaw20.NetPlays: the net and the reference's net side by side. No condition. -/
import Derived.WalkSpells
import Derived.Outline
import Derived.Test.YtahijpfmpdjceaaNetCountsM
import Derived.Test.YtahijpfmpdjceaaNtRefMove
namespace Go.Proofs.Ytahijpfmpdjceaa
open Go.RowKit
set_option linter.unusedVariables false
structure Du (W w : World) (N R : Nat) (v u : Value) (ms rs : List MsgV) : Prop where
  net : NtI W w N N v ms
  ref : RtS w R R u rs
  ne : N ≠ R
  vR : v.ownBlock ≠ some R
  uN : u.ownBlock ≠ some N
  uv : ∀ j, u.ownBlock = some j → v.ownBlock ≠ some j
  hR : W.heap.size ≤ R
theorem Du.below {W w w' : World} {N R : Nat} {v u : Value} {ms rs : List MsgV} (h : Du W w N R v u ms rs) (hb : Below w.heap.size w w') : Du W w' N R v u ms rs :=
  ⟨h.net.below hb, h.ref.below hb, h.ne, h.vR, h.uN, h.uv, h.hR⟩
theorem Du.stepN {W w w' : World} {N R : Nat} {v u : Value} {ms ms' rs : List MsgV} (h : Du W w N R v u ms rs) (hd : NtP w N N v ms' w') : ∃ v', Du W w' N R v' u ms' rs := by
  have hRlt := Kq.blk_lt h.ref.blk
  obtain ⟨v', h1, h2, h3⟩ := hd
  refine ⟨v', ⟨h1, h.net.bel.trans (h2.below h.net.bel.size (fun j _ hj => ?_)), h.net.hN, h.net.hbase⟩, h.ref.keeps h2 (fun e => ?_) (fun j hj e => ?_), h.ne, fun e => ?_, h.uN, fun j hj e => ?_, h.hR⟩
  · rcases hj with rfl | e
    · exact h.net.hN
    · exact Nat.le_trans h.net.hbase (h.net.s.own.lt j e).1
  · rcases e with e | e
    · exact h.ne e.symm
    · exact h.vR e
  · rcases e with e | e
    · exact h.uN (by rw [hj, e])
    · exact h.uv j hj e
  · rcases h3 R e with h4 | h4
    · exact h.vR h4
    · omega
  · rcases h3 j e with h4 | h4
    · exact h.uv j hj h4
    · have := (h.ref.own.lt j hj).2; omega
theorem Du.stepR {W w w' : World} {N R : Nat} {v u : Value} {ms rs rs' : List MsgV} (h : Du W w N R v u ms rs) (hd : RtP w R R u rs' w') : ∃ u', Du W w' N R v u' ms rs' := by
  have hNlt := Kq.blk_lt h.net.s.blk
  obtain ⟨u', h1, h2, h3⟩ := hd
  refine ⟨u', ⟨h.net.s.keeps h2 h.ne (fun j hj e => h.vR (by rw [hj, e])), h.net.bel.trans (h2.below h.net.bel.size (fun j _ hj => by rw [hj]; exact h.hR)), h.net.hN, h.net.hbase⟩, h1, h.ne, h.vR, fun e => ?_, fun j hj e => ?_, h.hR⟩
  · rcases h3 N e with h4 | h4
    · exact h.uN h4
    · omega
  · rcases h3 j hj with h4 | h4
    · exact h.uv j h4 e
    · have := (h.net.s.own.lt j e).2; omega
theorem Du.made {W w : World} {N : Nat} {v : Value} (h : NtI W w N N v []) : Du W (w.alloc (.cells #[.slice none 0 0] 30)) N w.heap.size v (.slice none 0 0) [] [] := by
  have hb := Kq.below_alloc w (.cells #[.slice none 0 0] 30)
  refine ⟨h.below hb, ⟨Kq.blk_new _ _ _ _, World.ownsRow_nil _ _ _ _, fun k hk => by simp [Value.ownBlock] at hk, hb.size⟩, fun e => ?_, fun e => ?_, fun e => by simp [Value.ownBlock] at e, fun j hj => by simp [Value.ownBlock] at hj, h.bel.size⟩
  · have := Kq.blk_lt h.s.blk; omega
  · have := (h.s.own.lt _ e).2; omega
theorem takeF_len {k : Int} {ms : List MsgV} (h : ms.length ≤ 256) : (takeF k ms).2.2.length ≤ 256 := by
  unfold takeF
  split
  · show (ms.take _ ++ ms.drop _).length ≤ 256
    rw [List.length_append, List.length_take, List.length_drop]; omega
  · exact h
theorem twF_len {k : Int} {ms : List MsgV} (h : ms.length ≤ 256) : (twF k ms).1.length ≤ 256 := by
  unfold twF
  split
  · split
    · show (ms ++ [_]).length ≤ 256
      rw [List.length_append, List.length_singleton]; omega
    · exact h
  · exact h
theorem moveF_len {k t : Int} {ms : List MsgV} (h : ms.length ≤ 256) : (moveF k t ms).1.length ≤ 256 := by
  unfold moveF
  split
  · rename_i hb
    obtain ⟨h0, h1⟩ := hasF_true hb.1
    obtain ⟨h2, h3⟩ := hasF_true hb.2
    show (moveL _ _ _ _).length ≤ 256
    rw [moveL_length (by omega) (by omega)]; exact h
  · exact h
end Go.Proofs.Ytahijpfmpdjceaa
