/- Contract of a net's Take. No condition. -/
import Derived.WalkSpells
import Derived.Outline
import Derived.StillTailTactics
import Derived.Deep.MidRow
import Derived.Deep.QuietTactic
import Derived.BigQuiet
import Derived.Deep.RegionWith
import Derived.Test.YtahijpfmpdjceaaNtTwice
import Derived.Test.YtahijpfmpdjceaaNtAwakeM
namespace Go.Proofs.Ytahijpfmpdjceaa
open Go.RowKit
set_option linter.unusedVariables false
theorem nt_len_c (N : Nat) (A : Option Addr) (n cap : Nat) (w : World) (c0 : w.cell? ⟨N, 0, none⟩ = some (.slice A n cap)) : Calls Try.prog 20 #[.pointer (some ⟨N, 0, none⟩)] w fun e w' => e = .returned (.int .i64 (n : Int)) ∧ w' = w := by
  go_enter Try.func20, Try.ntmps20
  go_wp2
  go_ret
  exact ⟨rfl, rfl⟩
theorem copy_take {w : World} {g cap k a1 : Nat} {ms : List MsgV} {cur : Array Value} (hb : w.heap[g]? = some (.cells cur 39 (0, 0))) (hpre : cur.toList.take (ms.length * 8) = mcells ms) (hcs : cur.size = cap * 8) (hcap : ms.length ≤ cap) (hk : k < ms.length) (ha1 : a1 = k + 1) (dCap sCap : Nat) :
    (Builtin.copy_ #[28, 28] 3 #[.slice (some ⟨g, k * 8, none⟩) (ms.length - k) dCap, .slice (some ⟨g, a1 * 8, none⟩) (ms.length - a1) sCap]).run Try.prog w =
      .ok (goInt (Nat.min (ms.length - a1) (ms.length - k))) (w.setRow g (cur.toList.take (k * 8) ++ mcells (ms.drop a1) ++ cur.toList.drop (k * 8 + (mcells (ms.drop a1)).length)).toArray) := by
  have hl : (mcells (ms.drop a1)).length = (ms.length - a1) * 8 := by rw [mcells_length, List.length_drop]
  refine Kq.run_copy_rows w _ _ _ 39 g (k * 8) _ dCap ⟨g, a1 * 8, none⟩ _ sCap 8 cur 39 _ Try.underlying28 (by kernel_rfl) hb (by rw [hl]; congr 1; exact (Nat.min_eq_left (by omega)).symm) (fun j v hj => ?_) (by rw [hl]; omega) (mcells_one _)
  have hj' : j < (ms.length - a1) * 8 := by
    rcases Nat.lt_or_ge j ((ms.length - a1) * 8) with h' | h'
    · exact h'
    · rw [List.getElem?_eq_none (by rw [hl]; exact h')] at hj; cases hj
  rw [add_flat, Kq.blk_cell hb, ← Array.getElem?_toList, ← hj, mcells_drop, List.getElem?_drop, ← hpre, List.getElem?_take, if_pos (by omega)]
theorem take_cells {C : List Value} {ms : List MsgV} (hC : C.take (ms.length * 8) = mcells ms) (hl : ms.length * 8 ≤ C.length) {k : Nat} (hk : k < ms.length) :
    (C.take (k * 8) ++ mcells (ms.drop (k + 1)) ++ C.drop (k * 8 + (mcells (ms.drop (k + 1))).length)).take ((ms.length - 1) * 8) = mcells (ms.take k ++ ms.drop (k + 1)) := by
  have q1 : (mcells (ms.drop (k + 1))).length = (ms.length - (k + 1)) * 8 := by rw [mcells_length, List.length_drop]
  have q2 : C.take (k * 8) = mcells (ms.take k) := by rw [mcells_take, ← hC, List.take_take, Nat.min_eq_left (by omega)]
  have q3 : (mcells (ms.take k)).length = k * 8 := by rw [mcells_length, List.length_take]; congr 1; omega
  rw [q2, List.take_append_of_le_length (by rw [List.length_append, q1, q3]; omega), List.take_of_length_le (by rw [List.length_append, q1, q3]; omega), mcells_append]
theorem take_cells_a {C : List Value} {ms : List MsgV} (hC : C.take (ms.length * 8) = mcells ms) {k : Nat} (hk : k < ms.length) (h : ms.length = k + 1) :
    C.take ((ms.length - 1) * 8) = mcells (ms.take k ++ ms.drop (k + 1)) := by
  rw [List.drop_of_length_le (by omega), List.append_nil, mcells_take, ← hC, List.take_take, Nat.min_eq_left (by omega)]
  congr 1
  omega
/-- a net whose row was written and cut, and another block behind it -/
theorem take_close {w wb wC w2 : World} {base N g cap Z : Nat} {ms ms' : List MsgV} {X : Array Value} (h : NtS w base N (.slice (some ⟨g, 0, none⟩) ms.length cap) ms) (hb : Below w.heap.size w wb) (hk : Kq.Keeps (· = g) wb wC)
    (hX : wC.heap[g]? = some (.cells X 39 (0, 0))) (hXs : X.size = cap * 8) (hlen : ms'.length ≤ ms.length) (hfin : X.toList.take (ms'.length * 8) = mcells ms')
    (k2 : Kq.Keeps (· = Z) (wC.setCell ⟨N, 0, none⟩ (.slice (some ⟨g, 0, none⟩) ms'.length cap)) w2) (hZ : w.heap.size ≤ Z) :
    NtP w base N (.slice (some ⟨g, 0, none⟩) ms.length cap) ms' w2 := by
  have hgN : g ≠ N := h.ne g rfl
  have hNZ : N ≠ Z := by have := Kq.blk_lt h.blk; omega
  have hk0 : Kq.Keeps (OwnN N (.slice (some ⟨g, 0, none⟩) ms.length cap)) w (wC.setCell ⟨N, 0, none⟩ (.slice (some ⟨g, 0, none⟩) ms'.length cap)) := by
    have k1 : Kq.Keeps (OwnN N (.slice (some ⟨g, 0, none⟩) ms.length cap)) w wb := Kq.Keeps.of_below hb (fun j h1 h2 => absurd h2 (Nat.not_lt.2 h1))
    have hg : ∀ j, j = g → OwnN N (.slice (some ⟨g, 0, none⟩) ms.length cap) j := fun j e => Or.inr (by rw [e]; rfl)
    exact (k1.trans (hk.mono (fun j _ e => hg j e))).trans (Kq.Keeps.setCell _ _ _ (Or.inl rfl))
  have hk2 : Kq.Keeps (OwnN N (.slice (some ⟨g, 0, none⟩) ms.length cap)) w w2 := ⟨k2.os.trans hk0.os, k2.tape.trans hk0.tape, k2.output.trans hk0.output, Nat.le_trans hk0.size k2.size, fun j hj hn => (k2.block j (Nat.lt_of_lt_of_le hj hk0.size) (by omega)).trans (hk0.block j hj hn)⟩
  refine ⟨.slice (some ⟨g, 0, none⟩) ms'.length cap, ⟨?_, ?_, fun j hj => h.ne j hj, Nat.le_trans h.base hk2.size⟩, hk2, fun j hj => Or.inl hj⟩
  · have a1 := Kq.below_blk hb h.blk (Kq.blk_lt h.blk)
    exact k2.blk (Kq.blk_set (hk.blk a1 (fun e => hgN e.symm)) 0 _) hNZ
  · rcases h.own.2 with ⟨hv, _⟩ | ⟨g', cap', cur, hv, b1, b2, b3, b4, b5, b6⟩
    · cases hv
    · injection hv with e1 _ e3
      injection e1 with e1
      injection e1 with e1
      subst e1
      subst e3
      have hgZ : g ≠ Z := by have := Kq.blk_lt b2; omega
      exact ⟨by rw [mcells_length], .inr ⟨g, cap, X, rfl, b1, k2.blk (by rw [Below.heap_setCell _ _ _ _ hgN]; exact hX) hgZ, Nat.le_trans hlen b3, b4, hXs, hfin⟩⟩
end Go.Proofs.Ytahijpfmpdjceaa
