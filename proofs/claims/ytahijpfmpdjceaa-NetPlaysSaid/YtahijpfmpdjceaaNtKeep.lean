/- A net in memory; contracts of its New, Len, has, List. No condition. -/
import Derived.WalkSpells
import Derived.Outline
import Derived.Carry
import Derived.Deep.QuietTactic
import Derived.BigQuiet
import Derived.Test.YtahijpfmpdjceaaNtM
namespace Go.Proofs.Ytahijpfmpdjceaa
open Go.RowKit
set_option linter.unusedVariables false
theorem info_parts {t : TypeId} {z : Value} {s b : Nat} (h : (Try.prog.info? t).map (fun i => (i.zero, i.size, i.bytes)) = some (some z, s, b)) : ∃ i, Try.prog.info? t = some i ∧ i.zero = some z ∧ i.size = s ∧ i.bytes = b := by
  cases hi : Try.prog.info? t with
  | none => rw [hi] at h; cases h
  | some i =>
    rw [hi] at h
    simp only [Option.map_some, Option.some.injEq, Prod.mk.injEq] at h
    exact ⟨i, rfl, h.1, h.2.1, h.2.2⟩
theorem infoMsg : (Try.prog.info? 39).map (fun i => (i.zero, i.size, i.bytes)) = some (some (.agg #[.int .i64 0, .int .i64 0, .int .u64 0, .int .i64 0, .int .u64 0, .int .u64 0, .string ⟨#[]⟩, .string ⟨#[]⟩]), 8, 80) := by kernel_rfl
structure NtS (w : World) (base N : Nat) (v : Value) (ms : List MsgV) : Prop where
  blk : w.heap[N]? = some (.cells #[v] 56 (0, 0))
  own : w.ownsRow base 39 8 v ms.length (mcells ms)
  ne : ∀ k, v.ownBlock = some k → k ≠ N
  base : base ≤ w.heap.size
/-- messages at an address -/
def MsAt (w : World) (A : Option Addr) (ms : List MsgV) : Prop := ∀ j (h : j < ms.length), ∃ g o, A = some ⟨g, o, none⟩ ∧ g < w.heap.size ∧ ∀ i, i < 8 → w.cell? ⟨g, o + j * 8 + i, none⟩ = ms[j].cells[i]?
section
variable {w w' : World} {A : Option Addr} {ms : List MsgV}
theorem MsAt.nil (w : World) (A : Option Addr) : MsAt w A [] := fun j h => by cases h
theorem MsAt.keeps {P : Nat → Prop} (h : MsAt w A ms) (hk : Kq.Keeps P w w') (hP : ∀ g o, A = some ⟨g, o, none⟩ → ¬ P g) : MsAt w' A ms := fun j hj => by
  obtain ⟨g, o, hA, hg, hc⟩ := h j hj
  exact ⟨g, o, hA, Nat.lt_of_lt_of_le hg hk.size, fun i hi => (World.cell?_of_block (hk.block g hg (hP g o hA))).trans (hc i hi)⟩
theorem MsAt.below (h : MsAt w A ms) (hb : Below w.heap.size w w') : MsAt w' A ms :=
  h.keeps (P := fun _ => False) (Kq.Keeps.of_below hb (fun j h1 h2 => absurd h1 (Nat.not_le.2 h2))) (fun _ _ _ => id)
end
theorem add_flat (b off i : Nat) : (⟨b, off, none⟩ : Addr).add i = ⟨b, off + i, none⟩ := by unfold Addr.add; split <;> simp_all
/-- a part of messages at an address, as what is appended -/
theorem MsAt.src {w : World} {A : Option Addr} {ms : List MsgV} (h : MsAt w A ms) (n c : Nat) (hn : n ≤ ms.length) (h0 : A = none → n = 0) : Src Try.prog 8 28 (.slice A n c) n (mcells (ms.take n)) w := by
  by_cases hz : n = 0
  · subst hz
    match A with
    | none => exact Src.ofNil w Try.underlying28 c
    | some a => exact Src.ofSlice _ Try.underlying28 a 0 c [] rfl (fun j u hj => by cases hj) (fun u hu => by cases hu)
  · obtain ⟨g, o, rfl, hg, _⟩ := h 0 (by omega)
    refine Src.ofSlice _ Try.underlying28 ⟨g, o, none⟩ n c (mcells (ms.take n)) (by rw [mcells_length, List.length_take]; congr 1; omega) (fun j u hj => ?_) (mcells_one _)
    have hj' : j < n * 8 := by
      rcases Nat.lt_or_ge j (n * 8) with h' | h'
      · exact h'
      · rw [List.getElem?_eq_none (by rw [mcells_length, List.length_take]; omega)] at hj; cases hj
    have hq : j / 8 < ms.length := by omega
    obtain ⟨g', o', hA, _, hc⟩ := h (j / 8) hq
    injection hA with hA
    injection hA with h1 h2
    subst h1
    subst h2
    have hm := mcells_at ms (j / 8) hq (j % 8) (Nat.mod_lt _ (by decide))
    rw [mcells_take, List.getElem?_take, if_pos hj'] at hj
    rw [add_flat, ← hj, show o + j = o + j / 8 * 8 + j % 8 by omega, hc (j % 8) (Nat.mod_lt _ (by decide)), ← hm]
    congr 1
    omega
section
variable {w : World} {base N : Nat} {v : Value} {ms : List MsgV} (h : NtS w base N v ms)
include h
theorem NtS.c0 : w.cell? ⟨N, 0, none⟩ = some v := Kq.blk_cell h.blk 0
theorem NtS.fz (i : Nat) : w.frozen? ⟨N, i, none⟩ = false := Kq.blk_free h.blk i
theorem NtS.keeps {P : Nat → Prop} {w' : World} (hk : Kq.Keeps P w w') (hN : ¬ P N) (hP : ∀ k, v.ownBlock = some k → ¬ P k) : NtS w' base N v ms := by
  refine ⟨hk.blk h.blk hN, ?_, h.ne, Nat.le_trans h.base hk.size⟩
  obtain ⟨h1, h2⟩ := h.own
  refine ⟨h1, h2.imp id ?_⟩
  rintro ⟨g, cap, cur, hv, h3, h4, h5⟩
  exact ⟨g, cap, cur, hv, h3, hk.blk h4 (hP g (by rw [hv]; rfl)), h5⟩
theorem NtS.below {w' : World} (hb : Below w.heap.size w w') : NtS w' base N v ms :=
  h.keeps (P := fun _ => False) (Kq.Keeps.of_below hb (fun j h1 h2 => absurd h1 (Nat.not_le.2 h2))) id (fun _ _ => id)
theorem NtS.shape : ∃ A cap, v = .slice A ms.length cap ∧ ms.length ≤ cap ∧ (A = none → ms.length = 0) := by
  rcases h.own.2 with ⟨rfl, h0⟩ | ⟨g, cap, cur, rfl, _, _, hc, _⟩
  · exact ⟨none, 0, by rw [h0], by omega, fun _ => h0⟩
  · exact ⟨_, cap, rfl, hc, fun e => by cases e⟩
end
theorem row_ms {w : World} {base : Nat} {v : Value} {ms : List MsgV} (h : w.ownsRow base 39 8 v ms.length (mcells ms)) : ∃ A cap, v = .slice A ms.length cap ∧ ms.length ≤ cap ∧ (A = none → ms.length = 0) ∧ MsAt w A ms := by
  rcases h.2 with ⟨rfl, h0⟩ | ⟨g, cap, cur, rfl, _, hb, hc, _, _, ht⟩
  · exact ⟨none, 0, by rw [h0], by omega, fun _ => h0, fun j hj => by omega⟩
  · refine ⟨_, cap, rfl, hc, (fun e => by cases e), fun j hj => ⟨g, 0, rfl, Kq.blk_lt hb, fun i hi => ?_⟩⟩
    rw [Nat.zero_add, Kq.blk_cell hb, ← mcells_at ms j hj i hi, ← ht, List.getElem?_take, if_pos (by omega), Array.getElem?_toList]
theorem NtS.at {w : World} {base N : Nat} {v : Value} {ms : List MsgV} (h : NtS w base N v ms) : ∃ A cap, v = .slice A ms.length cap ∧ ms.length ≤ cap ∧ (A = none → ms.length = 0) ∧ MsAt w A ms := row_ms h.own
set_option maxRecDepth 100000 in
theorem nt_new (w : World) : Calls Try.prog 9 #[] w fun e w' => e = .returned (.pointer (some ⟨w.heap.size, 0, none⟩)) ∧ NtS w' w.heap.size w.heap.size (.slice none 0 0) [] ∧ Below w.heap.size w w' := by
  have HP : Hid (NtS (w.alloc (.cells #[.slice none 0 0] 56)) w.heap.size w.heap.size (.slice none 0 0) [] ∧ Below w.heap.size w (w.alloc (.cells #[.slice none 0 0] 56))) :=
    Lib.hid ⟨⟨Kq.blk_new _ _ _ _, World.ownsRow_nil _ _ _ _, (fun k hk => by cases hk), by simp⟩, Kq.below_alloc _ _⟩
  go_enter Try.func9, Try.ntmps9
  go_wp2
  go_ret
  exact ⟨rfl, HP.out⟩
set_option maxRecDepth 100000 in
theorem nt_len (base N : Nat) (v : Value) (ms : List MsgV) (w : World) (h : NtS w base N v ms) : Calls Try.prog 20 #[.pointer (some ⟨N, 0, none⟩)] w fun e w' => e = .returned (.int .i64 (ms.length : Int)) ∧ w = w' := by
  have c0 := h.c0
  obtain ⟨A, cap, rfl, -⟩ := h.shape
  clear h
  go_enter Try.func20, Try.ntmps20
  go_wp2
  go_ret
  exact ⟨rfl, rfl⟩
def hasF (k : Int) (n : Nat) : Bool := decide (0 ≤ k ∧ k < (n : Int))
set_option maxRecDepth 100000 in
theorem nt_has (base N : Nat) (v : Value) (ms : List MsgV) (k : Int) (w : World) (h : NtS w base N v ms) : Calls Try.prog 22 #[.pointer (some ⟨N, 0, none⟩), .int .i64 k] w fun e w' => e = .returned (.bool (hasF k ms.length)) ∧ w = w' := by
  have HL := Lib.hid (nt_len base N v ms w h)
  clear h
  by_cases h0 : 0 ≤ k
  · have d0 : decide (0 ≤ k) = true := decide_eq_true h0
    have HE : Hid (hasF k ms.length = decide (k < (ms.length : Int))) := Lib.hid (by unfold hasF; rw [decide_eq_decide]; omega)
    clear h0
    go_enter Try.func22, Try.ntmps22
    go_wp2_with fail
    refine HL.out.mono ?_
    rintro e w' ⟨rfl, rfl⟩
    go_wp2
    go_ret
    exact ⟨by rw [HE.out]; simp_all, rfl⟩
  · have d0 : decide (0 ≤ k) = false := decide_eq_false h0
    have HE : Hid (hasF k ms.length = false) := Lib.hid (by unfold hasF; exact decide_eq_false (by omega))
    clear h0
    go_enter Try.func22, Try.ntmps22
    go_wp2
    go_ret
    exact ⟨by rw [HE.out]; simp_all, rfl⟩
end Go.Proofs.Ytahijpfmpdjceaa
