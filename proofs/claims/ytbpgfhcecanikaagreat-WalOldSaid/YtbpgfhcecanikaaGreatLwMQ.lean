/- Merged: WrN, LwM. Contract of carrackref07.Whole.Note. Condition: sizes. A law's pair of a log and the reference's, each with its disk: how it lies in memory; what the calls leave of it. No condition. -/
import Derived.WalkSpells
import Derived.Outline
import Derived.Deep.QuietTactic
import Derived.Deep.RegionHeld
import Derived.Maps.OwnSet
import Derived.Maps.StringElems
import Derived.StringKeys
import Derived.Test.YtbpgfhcecanikaaGreatWlIQ
import Derived.Test.YtbpgfhcecanikaaGreatWrCQ
import Derived.Test.YtbpgfhcecanikaaGreatWrDQ
import Derived.Test.YtbpgfhcecanikaaGreatHeldMonoQ
namespace Go.Proofs.YtbpgfhcecanikaaGreat
open Go.RowKit Go.Maps
set_option linter.unusedVariables false
set_option maxRecDepth 100000 in
theorem boolElemW_inv {H : Type} {v : Value} {z : DataW H × List MemPlace} (h : plainElem (H := H) Tryz.prog 4 v = some z) : ∃ x, v = .bool x ∧ z = (.lit (.bool x), []) := by
  unfold plainElem at h
  rw [Tryz.underlying4] at h
  cases v <;> simp at h
  rename_i x
  exact ⟨x, rfl, h.symm⟩
set_option maxRecDepth 100000 in
noncomputable def eBoolW : Kq.ElK Tryz.prog 4 Bool := ⟨plainElem Tryz.prog 4, fun b => .bool b, fun b => .lit (.bool b), fun _ => True, false, trivial, fun w => by kernel_rfl, fun b _ => plainElem_bool Tryz.underlying4 b, fun v z h => by obtain ⟨x, h1, h2⟩ := boolElemW_inv h; exact ⟨x, h1, by rw [h2]⟩, fun a b h => by injection h with h; injection h⟩
set_option maxRecDepth 100000 in
noncomputable def kStrW : Kq.KeyK Tryz.prog 9 ByteArray := ⟨string_keyed Tryz.underlying9, fun s => .string s, fun s => .string s.data.toList, fun s => s.size ≤ maxLen, fun s h => WideMaps.keyOf_string_mk Tryz.underlying9 h, fun a b h => by injection h⟩
/-- a book of what was written whole -/
structure NotS (w : World) (Wh M N : Nat) : Prop where
  blk : w.heap[Wh]? = some (.cells #[.map (some M)] 72 (0, 0))
  map : ∃ f sz, Kq.MapG kStrW eBoolW w M N f sz
  ne : Wh ≠ M
section
variable {w w' : World} {Wh M N : Nat}
theorem NotS.keeps {P : Nat → Prop} (h : NotS w Wh M N) (hk : Kq.Keeps P w w') (h1 : ¬ P Wh) (h2 : ¬ P M) : NotS w' Wh M N := ⟨hk.blk h.blk h1, by obtain ⟨f, sz, hm⟩ := h.map; exact ⟨f, sz, hm.keeps hk h2⟩, h.ne⟩
theorem NotS.below (h : NotS w Wh M N) (hb : Below w.heap.size w w') : NotS w' Wh M N := h.keeps (P := fun _ => False) (Kq.Keeps.of_below hb (fun j h1 h2 => absurd h1 (Nat.not_le.2 h2))) id id
theorem NotS.lt (h : NotS w Wh M N) : M < w.heap.size := by obtain ⟨f, sz, hm⟩ := h.map; exact hm.lt
theorem NotS.put (h : NotS w Wh M N) (hN : N < 1000000) (s : ByteArray) (hs : s.size ≤ maxLen) :
    ∃ w', (Instr.mapUpdate 70 (.map (some M)) (.string s) (.bool true)).run Tryz.prog w = .ok () w' ∧ NotS w' Wh M (N + 1) ∧ Kq.Keeps (· = M) w w' := by
  obtain ⟨f, sz, hm⟩ := h.map
  obtain ⟨w', hrun, hm', hk⟩ := hm.put (by omega) Tryz.underlying70 s hs true trivial
  exact ⟨w', hrun, ⟨hk.blk h.blk h.ne, ⟨_, _, hm'⟩, h.ne⟩, hk⟩
end
theorem cell_ltN {w : World} {b o : Nat} {v : Value} (h : w.cell? ⟨b, o, none⟩ = some v) : b < w.heap.size := by
  rcases Nat.lt_or_ge b w.heap.size with h' | h'
  · exact h'
  · simp [World.cell?, Array.getElem?_eq_none h'] at h
theorem cell_keepN {P : Nat → Prop} {w w' : World} {b o : Nat} {v : Value} (hk : Kq.Keeps P w w') (h : w.cell? ⟨b, o, none⟩ = some v) (hP : ¬ P b) : w'.cell? ⟨b, o, none⟩ = some v := by
  rw [World.cell?_of_block (hk.block b (cell_ltN h) hP)]; exact h
/-- the cells that a round loads -/
def NoC (w : World) (Wh M R n cap : Nat) (g : Nat) (j : Nat) (s : ByteArray) : Prop := w.cell? ⟨Wh, 0, none⟩ = some (.map (some M)) ∧ w.cell? ⟨R, 3, none⟩ = some (.slice (some ⟨g, 0, none⟩) n cap) ∧ w.cell? ⟨g, j * 2 + 1, none⟩ = some (.string s)
set_option maxRecDepth 100000 in
set_option maxHeartbeats 2000000 in
theorem rv_note {w : World} {base R a b Wh M K N : Nat} {buf : Value} {ws : List (Int × ByteArray)} {ar : Int} {st : List Nat} (h : RfS w base R a b buf ws ar st) (ho : StOk a b K ws ar.toNat st) (hm : NotS w Wh M N) (h1 : M ≠ R) (h2 : buf.ownBlock ≠ some M) (hN : N + ws.length ≤ 1000000) (ha : a ≤ 1000) :
    Calls Tryz.prog 32 #[.pointer (some ⟨Wh, 0, none⟩), .pointer (some ⟨R, 0, none⟩)] w fun x w' => x = .returned (.tuple #[]) ∧ NotS w' Wh M (N + ws.length) ∧ Kq.Keeps (· = M) w w' := by
  have H := Lib.hid (And.intro h (And.intro ho (And.intro hm (And.intro h1 (And.intro h2 (And.intro hN ha))))))
  obtain ⟨A, cap, rfl⟩ := h.shape
  clear h ho hm h1 h2 hN ha
  go_enter Tryz.func32, Tryz.ntmps32
  go_wp2
  go_loopw [4] (fun i wr => ∃ j : Nat, j ≤ ws.length ∧ i = .int .i64 (j : Int) ∧ NotS wr Wh M (N + j) ∧ Kq.Keeps (· = M) w wr) (fun i _ => ws.length - (intOf i).toNat)
  case atStart => exact ⟨0, Nat.zero_le _, rfl, H.out.2.2.1, Kq.Keeps.refl _ _⟩
  case round =>
    obtain ⟨j, hj, rfl, hnm, hk⟩ := hrel
    have hR := H.out.1.keeps hk (fun e => H.out.2.2.2.1 e.symm) (fun k hkk e => H.out.2.2.2.2.1 (by rw [hkk, e]))
    have c3 := hR.c3
    by_cases hlt : j < ws.length
    · have hi0 : (j : Int) < (ws.length : Int) := by omega
      have hd : decide ((j : Int) < (ws.length : Int)) = true := decide_eq_true hi0
      have hd' : decide (j < ws.length) = true := decide_eq_true hlt
      have hl0 : 0 < ws.length := by omega
      obtain ⟨g, cap', hsh, hat⟩ := hR.at hl0
      injection hsh with e1 e2 e3
      subst e1
      obtain ⟨w0, w1⟩ := hat j hlt
      have hsz : ws[j].2.size ≤ maxLen := by
        have := (H.out.2.1.w ws[j] (List.getElem_mem hlt)).2
        have := H.out.2.2.2.2.2.2
        unfold maxLen; omega
      have c0 := Kq.blk_cell hnm.blk 0
      simp only [List.getElem?_toArray, List.getElem?_cons_zero] at c0
      have HD : Hid (NoC wr.drew Wh M R ws.length cap g j ws[j].2 ∧ NotS wr.drew Wh M (N + j) ∧ Kq.Keeps (· = M) w wr.drew) := Lib.hid ⟨⟨c0, c3, w1⟩, hnm.below (Below.refl _ _).drew, hk.drew⟩
      obtain ⟨s, hs⟩ : ∃ z, z = ws[j].2 := ⟨_, rfl⟩
      rw [← hs] at HD hsz
      have HSZ := Lib.hid hsz
      have HLT := Lib.hid hlt
      clear hnm hk hR w0 w1 hat hs hsz c0 hlt
      go_wp2_with fail
      refine wp_region_held_drew (S := fun w' => NoC w' Wh M R ws.length cap g j s) (by kernel_rfl) HD.out.1 (fun hS0 => ?_)
      generalize wr.drew = wd at *
      unfold NoC at hS0
      dsimp only [NoC]
      refine wpAnyH_take (i := 0) (v := ?_) rfl (by kernel_rfl) (by kernel_rfl) (by kernel_rfl) (fun _ _ _ h => h) (Or.inl ⟨by kernel_rfl, ?_⟩) (by assumption) ?_
      rotate_left
      · intro w hSw; (try dsimp only at hSw); go_simp; (try with_reducible rfl)
      refine wpAnyH_take (i := 1) (v := ?_) rfl (by kernel_rfl) (by kernel_rfl) (by kernel_rfl) (fun _ _ _ h => h) (Or.inl ⟨by kernel_rfl, ?_⟩) (by assumption) ?_
      rotate_left
      · intro w hSw; (try dsimp only at hSw); go_simp; (try with_reducible rfl)
      refine wpAnyH_take (i := 2) (v := ?_) rfl (by kernel_rfl) (by kernel_rfl) (by kernel_rfl) (fun _ _ _ h => h) (Or.inl ⟨by kernel_rfl, ?_⟩) (by assumption) ?_
      rotate_left
      · intro w hSw; (try dsimp only at hSw); go_simp; (try with_reducible rfl)
      refine wpAnyH_take (i := 3) (v := ?_) rfl (by kernel_rfl) (by kernel_rfl) (by kernel_rfl) (fun _ _ _ h => h) (Or.inl ⟨by kernel_rfl, ?_⟩) (by assumption) ?_
      rotate_left
      · intro w hSw; (try dsimp only at hSw); go_simp; (try with_reducible rfl)
      refine wpAnyH_take (i := 4) (v := ?_) rfl (by kernel_rfl) (by kernel_rfl) (by kernel_rfl) (fun _ _ _ h => h) (Or.inl ⟨by kernel_rfl, ?_⟩) (by assumption) ?_
      rotate_left
      · intro w hSw; (try dsimp only at hSw); go_simp; (try with_reducible rfl)
      refine wpAnyH_take (i := 5) (v := ?_) rfl (by kernel_rfl) (by kernel_rfl) (by kernel_rfl) (fun _ _ _ h => h) (Or.inl ⟨by kernel_rfl, ?_⟩) (by assumption) ?_
      rotate_left
      · intro w hSw; (try dsimp only at hSw); go_simp; (try with_reducible rfl)
      refine wpAnyH_take (i := 6) (v := ?_) rfl (by kernel_rfl) (by kernel_rfl) (by kernel_rfl) (fun _ _ _ h => h) (Or.inl ⟨by kernel_rfl, ?_⟩) (by assumption) ?_
      rotate_left
      · intro w hSw; (try dsimp only at hSw); go_simp; (try with_reducible rfl)
      refine wpAnyH_take (i := 7) (v := ?_) rfl (by kernel_rfl) (by kernel_rfl) (by kernel_rfl) (fun _ _ _ h => h) (Or.inl ⟨by kernel_rfl, ?_⟩) (by assumption) ?_
      rotate_left
      · intro w hSw; (try dsimp only at hSw); go_simp; (try with_reducible rfl)
      refine wpAnyH_take (i := 8) (v := ?_) rfl (by kernel_rfl) (by kernel_rfl) (by kernel_rfl) (fun _ _ _ h => h) (Or.inl ⟨by kernel_rfl, ?_⟩) (by assumption) ?_
      rotate_left
      · intro w hSw; (try dsimp only at hSw); go_simp; (try with_reducible rfl)
      refine wpAnyH_take (i := 9) (v := ?_) rfl (by kernel_rfl) (by kernel_rfl) (by kernel_rfl) (fun _ _ _ h => h) (Or.inl ⟨by kernel_rfl, ?_⟩) (by assumption) ?_
      rotate_left
      · intro w hSw; (try dsimp only at hSw); go_simp; (try with_reducible rfl)
      refine wpAnyH_take (i := 10) (v := ?_) rfl (by kernel_rfl) (by kernel_rfl) (by kernel_rfl) (fun _ _ _ h => h) (Or.inl ⟨by kernel_rfl, ?_⟩) (by assumption) ?_
      rotate_left
      · intro w hSw; (try dsimp only at hSw); go_simp; (try with_reducible rfl)
      refine wpAnyH_take (i := 11) (v := ?_) rfl (by kernel_rfl) (by kernel_rfl) (by kernel_rfl) (fun _ _ _ h => h) (Or.inl ⟨by kernel_rfl, ?_⟩) (by assumption) ?_
      rotate_left
      · intro w hSw; (try dsimp only at hSw); go_simp; (try with_reducible rfl)
      obtain ⟨w2, hrun, hn2, hk2⟩ := HD.out.2.1.put (by have := H.out.2.2.2.2.2.1; have := HLT.out; omega) s HSZ.out
      have HN2 : Hid (NotS w2 Wh M (N + (j + 1)) ∧ Kq.Keeps (· = M) w w2) := Lib.hid ⟨by rw [show N + (j + 1) = N + j + 1 by omega]; exact hn2, HD.out.2.2.trans hk2⟩
      refine wpAnyH_ready (rs := [12]) (by kernel_rfl) (by simp) ?_
      refine AllReadyH.cons rfl (fun K hK => ?_) AllReadyH.nil
      go_simp
      have hcc : NoC w2 Wh M R ws.length cap g j s := ⟨cell_keepN hk2 HD.out.1.1 (fun e => HD.out.2.1.ne e), cell_keepN hk2 HD.out.1.2.1 (fun e => H.out.2.2.2.1 e.symm), cell_keepN hk2 HD.out.1.2.2 (fun e => H.out.2.2.2.2.1 (by rw [← e]; rfl))⟩
      clear hn2 hk2 hrun hS0
      refine hK.out _ _ hcc (fun hS0 => ?_)
      clear hK K hcc
      refine wpAnyH_done (by kernel_rfl) ?_ _
      clear hS0
      go_simp
      go_wp2
      have hwl : ws.length ≤ 1000000 := by have := H.out.2.2.2.2.2.1; omega
      have hlt := HLT.out
      have hww : wrap64 ((j : Int) + 1) = ((j + 1 : Nat) : Int) := by rw [IntWalk.wrap64_in _ (by omega)]; omega
      rw [hww] at *
      go_roundw
      case rel => exact ⟨j + 1, HLT.out, rfl, HN2.out⟩
      case measure => simp [intOf]; omega
    · obtain rfl : j = ws.length := by omega
      have hd : decide ((ws.length : Int) < (ws.length : Int)) = false := decide_eq_false (by omega)
      have hd' : decide (ws.length < ws.length) = false := decide_eq_false (by omega)
      have HN2 := Lib.hid (And.intro hnm hk)
      clear hnm hk hR hlt
      go_wp2
      all_goals (go_end0; exact ⟨rfl, HN2.out⟩)
end Go.Proofs.YtbpgfhcecanikaaGreat
namespace Go.Proofs.YtbpgfhcecanikaaGreat
open Go.RowKit
set_option linter.unusedVariables false
structure PairA where
  P : Nat
  D : Nat
  S : Nat
  bD : Nat
  R : Nat
  bR : Nat
  Wh : Nat
  M : Nat
/-- blocks that belong to nobody else -/
structure Apart (own : Nat → Nat → Prop) (lo hi : Nat) : Prop where
  ap : ∀ i k j, own i j → own k j → i = k
  lt : ∀ i j, own i j → j < hi
  ge : ∀ i j, own i j → lo ≤ j
theorem Apart.step {own own' : Nat → Nat → Prop} {lo hi hi' : Nat} (h : Apart own lo hi) (i0 : Nat) (hs : ∀ i j, i ≠ i0 → own' i j → own i j) (hn : ∀ j, own' i0 j → own i0 j ∨ hi ≤ j) (hl : ∀ j, own' i0 j → j < hi') (hh : hi ≤ hi') (hlo : lo ≤ hi) : Apart own' lo hi' := by
  have hcase : ∀ i j, own' i j → own i j ∨ (i = i0 ∧ hi ≤ j) := fun i j hj => by
    by_cases e : i = i0
    · subst e
      exact (hn j hj).imp id (fun h => ⟨rfl, h⟩)
    · exact Or.inl (hs i j e hj)
  refine ⟨fun i k j h1 h2 => ?_, fun i j hj => ?_, fun i j hj => ?_⟩
  · rcases hcase i j h1 with e1 | ⟨e1, l1⟩ <;> rcases hcase k j h2 with e2 | ⟨e2, l2⟩
    · exact h.ap i k j e1 e2
    · have := h.lt i j e1; omega
    · have := h.lt k j e2; omega
    · rw [e1, e2]
  · by_cases e : i = i0
    · subst e; exact hl j hj
    · exact Nat.lt_of_lt_of_le (h.lt i j (hs i j e hj)) hh
  · rcases hcase i j hj with e | ⟨_, e⟩
    · exact h.ge i j e
    · omega
def ownP (A : PairA) (bufD : Value) (vl : Option (Nat × WalV)) (bufR : Value) (vq : Option (Nat × WalV)) (LA : Option Addr) (n : Nat) (i j : Nat) : Prop :=
  (i = 0 ∧ (Own A.D A.S bufD j ∨ ∃ v, vl = some (j, v))) ∨ (i = 1 ∧ (j = A.R ∨ bufR.ownBlock = some j ∨ ∃ v, vq = some (j, v))) ∨ (i = 2 ∧ j = A.P) ∨ (i = 3 ∧ (j = A.Wh ∨ j = A.M)) ∨ (i = 4 ∧ 0 < n ∧ ∃ o, LA = some ⟨j, o, none⟩)
section
variable {A : PairA} {bufD bufR : Value} {vl vq : Option (Nat × WalV)} {LA : Option Addr} {n j : Nat}
theorem ownP.a (h : Own A.D A.S bufD j) : ownP A bufD vl bufR vq LA n 0 j := Or.inl ⟨rfl, Or.inl h⟩
theorem ownP.l {v : WalV} (h : vl = some (j, v)) : ownP A bufD vl bufR vq LA n 0 j := Or.inl ⟨rfl, Or.inr ⟨v, h⟩⟩
theorem ownP.r (h : j = A.R) : ownP A bufD vl bufR vq LA n 1 j := Or.inr (Or.inl ⟨rfl, Or.inl h⟩)
theorem ownP.b (h : bufR.ownBlock = some j) : ownP A bufD vl bufR vq LA n 1 j := Or.inr (Or.inl ⟨rfl, Or.inr (Or.inl h)⟩)
theorem ownP.q {v : WalV} (h : vq = some (j, v)) : ownP A bufD vl bufR vq LA n 1 j := Or.inr (Or.inl ⟨rfl, Or.inr (Or.inr ⟨v, h⟩)⟩)
theorem ownP.p : ownP A bufD vl bufR vq LA n 2 A.P := Or.inr (Or.inr (Or.inl ⟨rfl, rfl⟩))
theorem ownP.w : ownP A bufD vl bufR vq LA n 3 A.Wh := Or.inr (Or.inr (Or.inr (Or.inl ⟨rfl, Or.inl rfl⟩)))
theorem ownP.m : ownP A bufD vl bufR vq LA n 3 A.M := Or.inr (Or.inr (Or.inr (Or.inl ⟨rfl, Or.inr rfl⟩)))
theorem ownP.s {o : Nat} (h0 : 0 < n) (h : LA = some ⟨j, o, none⟩) : ownP A bufD vl bufR vq LA n 4 j := Or.inr (Or.inr (Or.inr (Or.inr ⟨rfl, h0, o, h⟩)))
theorem ownP.i0 (h : ownP A bufD vl bufR vq LA n 0 j) : Own A.D A.S bufD j ∨ ∃ v, vl = some (j, v) := by
  rcases h with ⟨_, h⟩ | ⟨e, _⟩ | ⟨e, _⟩ | ⟨e, _⟩ | ⟨e, _⟩
  · exact h
  all_goals cases e
theorem ownP.i1 (h : ownP A bufD vl bufR vq LA n 1 j) : j = A.R ∨ bufR.ownBlock = some j ∨ ∃ v, vq = some (j, v) := by
  rcases h with ⟨e, _⟩ | ⟨_, h⟩ | ⟨e, _⟩ | ⟨e, _⟩ | ⟨e, _⟩
  · cases e
  · exact h
  all_goals cases e
theorem ownP.i4 (h : ownP A bufD vl bufR vq LA n 4 j) : 0 < n ∧ ∃ o, LA = some ⟨j, o, none⟩ := by
  rcases h with ⟨e, _⟩ | ⟨e, _⟩ | ⟨e, _⟩ | ⟨e, _⟩ | ⟨_, h⟩
  · cases e
  · cases e
  · cases e
  · cases e
  · exact h
/-- one class changed, the others as they were -/
theorem ownP.not {bufD' bufR' : Value} {vl' vq' : Option (Nat × WalV)} {LA' : Option Addr} {n' i : Nat} (h : ownP A bufD' vl' bufR' vq' LA' n' i j) (h0 : i = 0 → bufD' = bufD ∧ vl' = vl) (h1 : i = 1 → bufR' = bufR ∧ vq' = vq) (h4 : i = 4 → LA' = LA ∧ n' = n) : ownP A bufD vl bufR vq LA n i j := by
  rcases h with ⟨rfl, h⟩ | ⟨rfl, h⟩ | h | h | ⟨rfl, h⟩
  · obtain ⟨rfl, rfl⟩ := h0 rfl; exact Or.inl ⟨rfl, h⟩
  · obtain ⟨rfl, rfl⟩ := h1 rfl; exact Or.inr (Or.inl ⟨rfl, h⟩)
  · exact Or.inr (Or.inr (Or.inl h))
  · exact Or.inr (Or.inr (Or.inr (Or.inl h)))
  · obtain ⟨rfl, rfl⟩ := h4 rfl; exact Or.inr (Or.inr (Or.inr (Or.inr ⟨rfl, h⟩)))
end
/-- the pair in memory; cs: its cells -/
structure PrS (W w : World) (A : PairA) (a b N : Nat) (bufD : Value) (ws1 : List (Int × ByteArray)) (ar1 : Nat) (st1 : List Nat) (vl : Option (Nat × WalV)) (bufR : Value) (ws2 : List (Int × ByteArray)) (ar2 : Nat) (st2 : List Nat) (vq : Option (Nat × WalV)) (cs : Array Value) (LA : Option Addr) (rl : List ByteArray) : Prop where
  d : DkS w A.bD A.D A.S a b bufD ws1 (ar1 : Int) st1
  r : RfS w A.bR A.R a b bufR ws2 (ar2 : Int) st2
  l : ∀ L v, vl = some (L, v) → w.heap[L]? = some (.cells (v.cells A.D) 86 (0, 0)) ∧ ¬ Own A.D A.S bufD L
  q : ∀ Q v, vq = some (Q, v) → w.heap[Q]? = some (.cells (v.cells A.R) 50 (0, 0)) ∧ ¬ (Q = A.R ∨ bufR.ownBlock = some Q)
  p : w.heap[A.P]? = some (.cells cs 40 (0, 0))
  recs : StrsAt w LA rl
  n : NotS w A.Wh A.M N
  ow : Apart (ownP A bufD vl bufR vq LA rl.length) W.heap.size w.heap.size
  bel : Below W.heap.size W w
section
variable {W w w' : World} {A : PairA} {a b N : Nat} {bufD bufR : Value} {ws1 ws2 ws' : List (Int × ByteArray)} {ar1 ar2 ar' : Nat} {st1 st2 st' : List Nat} {vl vq : Option (Nat × WalV)} {cs cs' : Array Value} {LA : Option Addr} {rl : List ByteArray}
theorem PrS.wl {L : Nat} {v : WalV} (h : PrS W w A a b N bufD ws1 ar1 st1 (some (L, v)) bufR ws2 ar2 st2 vq cs LA rl) : WlS w A.bD A.D A.S a b L bufD ws1 ar1 st1 v := ⟨h.d, (h.l L v rfl).1, (h.l L v rfl).2⟩
theorem PrS.rv {Q : Nat} {v : WalV} (h : PrS W w A a b N bufD ws1 ar1 st1 vl bufR ws2 ar2 st2 (some (Q, v)) cs LA rl) : RvS w A.bR A.R a b Q bufR ws2 ar2 st2 v := ⟨h.r, (h.q Q v rfl).1, (h.q Q v rfl).2⟩
theorem PrS.below (h : PrS W w A a b N bufD ws1 ar1 st1 vl bufR ws2 ar2 st2 vq cs LA rl) (hb : Below w.heap.size w w') : PrS W w' A a b N bufD ws1 ar1 st1 vl bufR ws2 ar2 st2 vq cs LA rl :=
  ⟨h.d.below hb, h.r.below hb, fun L v e => ⟨Kq.below_blk hb (h.l L v e).1 (Kq.blk_lt (h.l L v e).1), (h.l L v e).2⟩, fun L v e => ⟨Kq.below_blk hb (h.q L v e).1 (Kq.blk_lt (h.q L v e).1), (h.q L v e).2⟩, Kq.below_blk hb h.p (Kq.blk_lt h.p), h.recs.below hb, h.n.below hb,
    ⟨h.ow.ap, fun i j hj => Nat.lt_of_lt_of_le (h.ow.lt i j hj) hb.size, h.ow.ge⟩, h.bel.trans (hb.mono h.bel.size)⟩
theorem PrS.drew (h : PrS W w A a b N bufD ws1 ar1 st1 vl bufR ws2 ar2 st2 vq cs LA rl) : PrS W w.drew A a b N bufD ws1 ar1 st1 vl bufR ws2 ar2 st2 vq cs LA rl := h.below (Below.refl _ _).drew
/-- the program's side, its log forgotten -/
theorem PrS.forgetL (h : PrS W w A a b N bufD ws1 ar1 st1 vl bufR ws2 ar2 st2 vq cs LA rl) : PrS W w A a b N bufD ws1 ar1 st1 none bufR ws2 ar2 st2 vq cs LA rl :=
  ⟨h.d, h.r, fun L v e => (by cases e), h.q, h.p, h.recs, h.n, h.ow.step 0 (fun i j hi hj => hj.not (fun e => absurd e hi) (fun _ => ⟨rfl, rfl⟩) (fun _ => ⟨rfl, rfl⟩)) (fun j hj => Or.inl (by
    rcases hj.i0 with e | ⟨v, e⟩
    · exact ownP.a e
    · cases e)) (fun j hj => by
    rcases hj.i0 with e | ⟨v, e⟩
    · exact h.d.own_lt e
    · cases e) (Nat.le_refl _) h.bel.size, h.bel⟩
theorem PrS.forgetQ (h : PrS W w A a b N bufD ws1 ar1 st1 vl bufR ws2 ar2 st2 vq cs LA rl) : PrS W w A a b N bufD ws1 ar1 st1 vl bufR ws2 ar2 st2 none cs LA rl :=
  ⟨h.d, h.r, h.l, fun L v e => (by cases e), h.p, h.recs, h.n, h.ow.step 1 (fun i j hi hj => hj.not (fun _ => ⟨rfl, rfl⟩) (fun e => absurd e hi) (fun _ => ⟨rfl, rfl⟩)) (fun j hj => Or.inl (by
    rcases hj.i1 with e | e | ⟨v, e⟩
    · exact ownP.r e
    · exact ownP.b e
    · cases e)) (fun j hj => by
    rcases hj.i1 with e | e | ⟨v, e⟩
    · rw [e]; exact Kq.blk_lt h.r.blk
    · exact (h.r.own.lt j e).2
    · cases e) (Nat.le_refl _) h.bel.size, h.bel⟩
theorem PrS.forgetR (h : PrS W w A a b N bufD ws1 ar1 st1 vl bufR ws2 ar2 st2 vq cs LA rl) (LA' : Option Addr) : PrS W w A a b N bufD ws1 ar1 st1 vl bufR ws2 ar2 st2 vq cs LA' [] :=
  ⟨h.d, h.r, h.l, h.q, h.p, ⟨fun j hj => by cases hj⟩, h.n, h.ow.step 4 (fun i j hi hj => hj.not (fun _ => ⟨rfl, rfl⟩) (fun _ => ⟨rfl, rfl⟩) (fun e => absurd e hi)) (fun j hj => by
    have := hj.i4.1
    cases this) (fun j hj => by
    have := hj.i4.1
    cases this) (Nat.le_refl _) h.bel.size, h.bel⟩
/-- new records, that lie in a block of their own -/
theorem PrS.recsNew (h : PrS W w A a b N bufD ws1 ar1 st1 vl bufR ws2 ar2 st2 vq cs LA rl) (LA' : Option Addr) (rl' : List ByteArray) (hs : StrsAt w LA' rl') (hlo : ∀ g o, LA' = some ⟨g, o, none⟩ → W.heap.size ≤ g) (hn : ∀ g o i, LA' = some ⟨g, o, none⟩ → i ≠ 4 → ¬ ownP A bufD vl bufR vq LA rl.length i g) : PrS W w A a b N bufD ws1 ar1 st1 vl bufR ws2 ar2 st2 vq cs LA' rl' := by
  have hc : ∀ i j, ownP A bufD vl bufR vq LA' rl'.length i j → (ownP A bufD vl bufR vq LA rl.length i j ∧ i ≠ 4) ∨ (i = 4 ∧ 0 < rl'.length ∧ ∃ o, LA' = some ⟨j, o, none⟩) := fun i j hj => by
    by_cases e : i = 4
    · subst e; exact Or.inr ⟨rfl, hj.i4⟩
    · exact Or.inl ⟨hj.not (fun _ => ⟨rfl, rfl⟩) (fun _ => ⟨rfl, rfl⟩) (fun e' => absurd e' e), e⟩
  refine ⟨h.d, h.r, h.l, h.q, h.p, hs, h.n, ⟨fun i k j h1 h2 => ?_, fun i j hj => ?_, fun i j hj => ?_⟩, h.bel⟩
  · rcases hc i j h1 with ⟨e1, f1⟩ | ⟨e1, _, o1, f1⟩ <;> rcases hc k j h2 with ⟨e2, f2⟩ | ⟨e2, _, o2, f2⟩
    · exact h.ow.ap i k j e1 e2
    · exact absurd e1 (hn j o2 i f2 f1)
    · exact absurd e2 (hn j o1 k f1 f2)
    · rw [e1, e2]
  · rcases hc i j hj with ⟨e, _⟩ | ⟨_, h0, o, e⟩
    · exact h.ow.lt i j e
    · obtain ⟨g, off, e', hl, _⟩ := hs.at_ 0 h0
      rw [e] at e'
      injection e' with e'
      injection e' with e'
      rw [e']; exact hl
  · rcases hc i j hj with ⟨e, _⟩ | ⟨_, _, o, e⟩
    · exact h.ow.ge i j e
    · exact hlo j o e
/-- a step of the program's disk and log -/
theorem PrS.stepA {L : Nat} {v v' : WalV} (h : PrS W w A a b N bufD ws1 ar1 st1 (some (L, v)) bufR ws2 ar2 st2 vq cs LA rl) (hw : WoP w A.bD A.D A.S a b L bufD ws' ar' st' v' w') : ∃ bufD', PrS W w' A a b N bufD' ws' ar' st' (some (L, v')) bufR ws2 ar2 st2 vq cs LA rl := by
  obtain ⟨buf', h1, h2, h3⟩ := hw
  have h2' : Kq.Keeps (ownP A bufD (some (L, v)) bufR vq LA rl.length 0) w w' := h2.mono (fun j _ e => e.elim ownP.a (fun e => by rw [e]; exact ownP.l rfl))
  have hno : ∀ i j, i ≠ 0 → ownP A bufD (some (L, v)) bufR vq LA rl.length i j → ¬ ownP A bufD (some (L, v)) bufR vq LA rl.length 0 j := fun i j hi hj h0 => hi (h.ow.ap i 0 j hj h0)
  have hR := hno 1 A.R (by decide) (ownP.r rfl)
  refine ⟨buf', h1.d, h.r.keeps h2' hR (fun k hk => hno 1 k (by decide) (ownP.b hk)), fun L' v'' e => ?_, fun Q u e => ⟨h2'.blk (h.q Q u e).1 (hno 1 Q (by decide) (ownP.q e)), (h.q Q u e).2⟩, h2'.blk h.p (hno 2 A.P (by decide) ownP.p), h.recs.keepsW h2' (fun g o h0 e => hno 4 g (by decide) (ownP.s h0 e)), h.n.keeps h2' (hno 3 _ (by decide) ownP.w) (hno 3 _ (by decide) ownP.m), ?_, ?_⟩
  · injection e with e
    injection e with e1 e2
    subst e1 e2
    exact ⟨h1.blk, h1.sep⟩
  · refine h.ow.step 0 (fun i j hi hj => hj.not (fun e => absurd e hi) (fun _ => ⟨rfl, rfl⟩) (fun _ => ⟨rfl, rfl⟩)) (fun j hj => ?_) (fun j hj => ?_) h2.size h.bel.size
    · rcases hj.i0 with e | ⟨u, e⟩
      · rcases e with e | e | e
        · exact Or.inl (ownP.a (Or.inl e))
        · exact Or.inl (ownP.a (Or.inr (Or.inl e)))
        · exact (h3 j e).imp (fun e => ownP.a (Or.inr (Or.inr e))) id
      · injection e with e
        injection e with e1 e2
        subst e1
        exact Or.inl (ownP.l rfl)
    · rcases hj.i0 with e | ⟨u, e⟩
      · exact h1.d.own_lt e
      · injection e with e
        injection e with e1 e2
        subst e1
        exact h1.lt
  · exact h.bel.trans (h2'.below h.bel.size (fun k _ hk => h.ow.ge 0 k hk))
/-- a step of the program's disk -/
theorem PrS.stepDk {buf' : Value} (h : PrS W w A a b N bufD ws1 ar1 st1 none bufR ws2 ar2 st2 vq cs LA rl) (h1 : DkS w' A.bD A.D A.S a b buf' ws' (ar' : Int) st') (h2 : Kq.Keeps (Own A.D A.S bufD) w w') (h3 : ∀ j, buf'.ownBlock = some j → bufD.ownBlock = some j ∨ w.heap.size ≤ j) : PrS W w' A a b N buf' ws' ar' st' none bufR ws2 ar2 st2 vq cs LA rl := by
  have h2' : Kq.Keeps (ownP A bufD none bufR vq LA rl.length 0) w w' := h2.mono (fun j _ e => ownP.a e)
  have hno : ∀ i j, i ≠ 0 → ownP A bufD none bufR vq LA rl.length i j → ¬ ownP A bufD none bufR vq LA rl.length 0 j := fun i j hi hj h0 => hi (h.ow.ap i 0 j hj h0)
  refine ⟨h1, h.r.keeps h2' (hno 1 A.R (by decide) (ownP.r rfl)) (fun k hk => hno 1 k (by decide) (ownP.b hk)), fun L' v'' e => (by cases e), fun Q u e => ⟨h2'.blk (h.q Q u e).1 (hno 1 Q (by decide) (ownP.q e)), (h.q Q u e).2⟩, h2'.blk h.p (hno 2 A.P (by decide) ownP.p), h.recs.keepsW h2' (fun g o h0 e => hno 4 g (by decide) (ownP.s h0 e)), h.n.keeps h2' (hno 3 _ (by decide) ownP.w) (hno 3 _ (by decide) ownP.m), ?_, ?_⟩
  · refine h.ow.step 0 (fun i j hi hj => hj.not (fun e => absurd e hi) (fun _ => ⟨rfl, rfl⟩) (fun _ => ⟨rfl, rfl⟩)) (fun j hj => ?_) (fun j hj => ?_) h2.size h.bel.size
    · rcases hj.i0 with e | ⟨u, e⟩
      · rcases e with e | e | e
        · exact Or.inl (ownP.a (Or.inl e))
        · exact Or.inl (ownP.a (Or.inr (Or.inl e)))
        · exact (h3 j e).imp (fun e => ownP.a (Or.inr (Or.inr e))) id
      · cases e
    · rcases hj.i0 with e | ⟨u, e⟩
      · exact h1.own_lt e
      · cases e
  · exact h.bel.trans (h2'.below h.bel.size (fun k _ hk => h.ow.ge 0 k hk))
theorem PrS.stepD (h : PrS W w A a b N bufD ws1 ar1 st1 none bufR ws2 ar2 st2 vq cs LA rl) (hw : DoP w A.bD A.D A.S a b bufD ws' ar' st' w') : ∃ bufD', PrS W w' A a b N bufD' ws' ar' st' none bufR ws2 ar2 st2 vq cs LA rl := by
  obtain ⟨buf', h1, h2, h3⟩ := hw
  exact ⟨buf', h.stepDk h1 h2 h3⟩
/-- a step of the reference's disk and log -/
theorem PrS.stepB {Q : Nat} {v v' : WalV} (h : PrS W w A a b N bufD ws1 ar1 st1 vl bufR ws2 ar2 st2 (some (Q, v)) cs LA rl) (hw : RvP w A.bR A.R a b Q bufR ws' ar' st' v' w') : ∃ bufR', PrS W w' A a b N bufD ws1 ar1 st1 vl bufR' ws' ar' st' (some (Q, v')) cs LA rl := by
  obtain ⟨buf', h1, h2, h3⟩ := hw
  have h2' : Kq.Keeps (ownP A bufD vl bufR (some (Q, v)) LA rl.length 1) w w' := h2.mono (fun j _ e => e.elim ownP.r (fun e => by rw [e]; exact ownP.q rfl))
  have hno : ∀ i j, i ≠ 1 → ownP A bufD vl bufR (some (Q, v)) LA rl.length i j → ¬ ownP A bufD vl bufR (some (Q, v)) LA rl.length 1 j := fun i j hi hj h0 => hi (h.ow.ap i 1 j hj h0)
  refine ⟨buf', h.d.keeps h2' (fun j hj => hno 0 j (by decide) (ownP.a hj)), h1.d, fun L u e => ⟨h2'.blk (h.l L u e).1 (hno 0 L (by decide) (ownP.l e)), (h.l L u e).2⟩, fun Q' v'' e => ?_, h2'.blk h.p (hno 2 A.P (by decide) ownP.p), h.recs.keepsW h2' (fun g o h0 e => hno 4 g (by decide) (ownP.s h0 e)), h.n.keeps h2' (hno 3 _ (by decide) ownP.w) (hno 3 _ (by decide) ownP.m), ?_, ?_⟩
  · injection e with e
    injection e with e1 e2
    subst e1 e2
    exact ⟨h1.blk, h1.sep⟩
  · refine h.ow.step 1 (fun i j hi hj => hj.not (fun _ => ⟨rfl, rfl⟩) (fun e => absurd e hi) (fun _ => ⟨rfl, rfl⟩)) (fun j hj => ?_) (fun j hj => ?_) h2.size h.bel.size
    · rcases hj.i1 with e | e | ⟨u, e⟩
      · exact Or.inl (ownP.r e)
      · exact (h3 j e).imp (fun e => ownP.b e) id
      · injection e with e
        injection e with e1 e2
        subst e1
        exact Or.inl (ownP.q rfl)
    · rcases hj.i1 with e | e | ⟨u, e⟩
      · rw [e]; exact h1.ltR
      · exact (h1.d.own.lt j e).2
      · injection e with e
        injection e with e1 e2
        subst e1
        exact h1.lt
  · exact h.bel.trans (h2'.below h.bel.size (fun k _ hk => h.ow.ge 1 k hk))
/-- a step of the reference's disk -/
theorem PrS.stepRk {buf' : Value} (h : PrS W w A a b N bufD ws1 ar1 st1 vl bufR ws2 ar2 st2 none cs LA rl) (h1 : RfS w' A.bR A.R a b buf' ws' (ar' : Int) st') (h2 : Kq.Keeps (· = A.R) w w') (h3 : ∀ j, buf'.ownBlock = some j → bufR.ownBlock = some j ∨ w.heap.size ≤ j) : PrS W w' A a b N bufD ws1 ar1 st1 vl buf' ws' ar' st' none cs LA rl := by
  have h2' : Kq.Keeps (ownP A bufD vl bufR none LA rl.length 1) w w' := h2.mono (fun j _ e => ownP.r e)
  have hno : ∀ i j, i ≠ 1 → ownP A bufD vl bufR none LA rl.length i j → ¬ ownP A bufD vl bufR none LA rl.length 1 j := fun i j hi hj h0 => hi (h.ow.ap i 1 j hj h0)
  refine ⟨h.d.keeps h2' (fun j hj => hno 0 j (by decide) (ownP.a hj)), h1, fun L u e => ⟨h2'.blk (h.l L u e).1 (hno 0 L (by decide) (ownP.l e)), (h.l L u e).2⟩, fun Q' v'' e => (by cases e), h2'.blk h.p (hno 2 A.P (by decide) ownP.p), h.recs.keepsW h2' (fun g o h0 e => hno 4 g (by decide) (ownP.s h0 e)), h.n.keeps h2' (hno 3 _ (by decide) ownP.w) (hno 3 _ (by decide) ownP.m), ?_, ?_⟩
  · refine h.ow.step 1 (fun i j hi hj => hj.not (fun _ => ⟨rfl, rfl⟩) (fun e => absurd e hi) (fun _ => ⟨rfl, rfl⟩)) (fun j hj => ?_) (fun j hj => ?_) h2.size h.bel.size
    · rcases hj.i1 with e | e | ⟨u, e⟩
      · exact Or.inl (ownP.r e)
      · exact (h3 j e).imp (fun e => ownP.b e) id
      · cases e
    · rcases hj.i1 with e | e | ⟨u, e⟩
      · rw [e]; exact Kq.blk_lt h1.blk
      · exact (h1.own.lt j e).2
      · cases e
  · exact h.bel.trans (h2'.below h.bel.size (fun k _ hk => h.ow.ge 1 k hk))
theorem PrS.stepR (h : PrS W w A a b N bufD ws1 ar1 st1 vl bufR ws2 ar2 st2 none cs LA rl) (hw : RoP w A.bR A.R a b bufR ws' ar' st' w') : ∃ bufR', PrS W w' A a b N bufD ws1 ar1 st1 vl bufR' ws' ar' st' none cs LA rl := by
  obtain ⟨buf', h1, h2, h3⟩ := hw
  exact ⟨buf', h.stepRk h1 h2 h3⟩
/-- a new log of the program's -/
theorem PrS.logNew {L : Nat} {v : WalV} (h : PrS W w A a b N bufD ws1 ar1 st1 none bufR ws2 ar2 st2 vq cs LA rl) (hL : WlS w A.bD A.D A.S a b L bufD ws1 ar1 st1 v) (hlo : W.heap.size ≤ L) (hn : ∀ i, ¬ ownP A bufD none bufR vq LA rl.length i L) : PrS W w A a b N bufD ws1 ar1 st1 (some (L, v)) bufR ws2 ar2 st2 vq cs LA rl := by
  have hc : ∀ i j, ownP A bufD (some (L, v)) bufR vq LA rl.length i j → ownP A bufD none bufR vq LA rl.length i j ∨ (i = 0 ∧ j = L) := fun i j hj => by
    by_cases e : i = 0
    · subst e
      rcases hj.i0 with e | ⟨u, e⟩
      · exact Or.inl (ownP.a e)
      · injection e with e
        injection e with e1 e2
        exact Or.inr ⟨rfl, e1.symm⟩
    · exact Or.inl (hj.not (fun e' => absurd e' e) (fun _ => ⟨rfl, rfl⟩) (fun _ => ⟨rfl, rfl⟩))
  refine ⟨h.d, h.r, fun L' u e => ?_, h.q, h.p, h.recs, h.n, ⟨fun i k j h1 h2 => ?_, fun i j hj => ?_, fun i j hj => ?_⟩, h.bel⟩
  · injection e with e
    injection e with e1 e2
    subst e1 e2
    exact ⟨hL.blk, hL.sep⟩
  · rcases hc i j h1 with e1 | ⟨e1, f1⟩ <;> rcases hc k j h2 with e2 | ⟨e2, f2⟩
    · exact h.ow.ap i k j e1 e2
    · exact absurd (f2 ▸ e1) (hn i)
    · exact absurd (f1 ▸ e2) (hn k)
    · rw [e1, e2]
  · rcases hc i j hj with e | ⟨_, e⟩
    · exact h.ow.lt i j e
    · rw [e]; exact hL.lt
  · rcases hc i j hj with e | ⟨_, e⟩
    · exact h.ow.ge i j e
    · rw [e]; exact hlo
theorem PrS.logNewQ {Q : Nat} {v : WalV} (h : PrS W w A a b N bufD ws1 ar1 st1 vl bufR ws2 ar2 st2 none cs LA rl) (hL : RvS w A.bR A.R a b Q bufR ws2 ar2 st2 v) (hlo : W.heap.size ≤ Q) (hn : ∀ i, ¬ ownP A bufD vl bufR none LA rl.length i Q) : PrS W w A a b N bufD ws1 ar1 st1 vl bufR ws2 ar2 st2 (some (Q, v)) cs LA rl := by
  have hc : ∀ i j, ownP A bufD vl bufR (some (Q, v)) LA rl.length i j → ownP A bufD vl bufR none LA rl.length i j ∨ (i = 1 ∧ j = Q) := fun i j hj => by
    by_cases e : i = 1
    · subst e
      rcases hj.i1 with e | e | ⟨u, e⟩
      · exact Or.inl (ownP.r e)
      · exact Or.inl (ownP.b e)
      · injection e with e
        injection e with e1 e2
        exact Or.inr ⟨rfl, e1.symm⟩
    · exact Or.inl (hj.not (fun _ => ⟨rfl, rfl⟩) (fun e' => absurd e' e) (fun _ => ⟨rfl, rfl⟩))
  refine ⟨h.d, h.r, h.l, fun Q' u e => ?_, h.p, h.recs, h.n, ⟨fun i k j h1 h2 => ?_, fun i j hj => ?_, fun i j hj => ?_⟩, h.bel⟩
  · injection e with e
    injection e with e1 e2
    subst e1 e2
    exact ⟨hL.blk, hL.sep⟩
  · rcases hc i j h1 with e1 | ⟨e1, f1⟩ <;> rcases hc k j h2 with e2 | ⟨e2, f2⟩
    · exact h.ow.ap i k j e1 e2
    · exact absurd (f2 ▸ e1) (hn i)
    · exact absurd (f1 ▸ e2) (hn k)
    · rw [e1, e2]
  · rcases hc i j hj with e | ⟨_, e⟩
    · exact h.ow.lt i j e
    · rw [e]; exact hL.lt
  · rcases hc i j hj with e | ⟨_, e⟩
    · exact h.ow.ge i j e
    · rw [e]; exact hlo
/-- the pair's own cells written -/
theorem PrS.set (h : PrS W w A a b N bufD ws1 ar1 st1 vl bufR ws2 ar2 st2 vq cs LA rl) (hk : Kq.Keeps (· = A.P) w w') (hb : w'.heap[A.P]? = some (.cells cs' 40 (0, 0))) : PrS W w' A a b N bufD ws1 ar1 st1 vl bufR ws2 ar2 st2 vq cs' LA rl := by
  have hno : ∀ i j, i ≠ 2 → ownP A bufD vl bufR vq LA rl.length i j → ¬ j = A.P := fun i j hi hj h0 => hi (h.ow.ap i 2 j hj (h0 ▸ ownP.p))
  exact ⟨h.d.keeps hk (fun j hj => hno 0 j (by decide) (ownP.a hj)), h.r.keeps hk (hno 1 A.R (by decide) (ownP.r rfl)) (fun k e => hno 1 k (by decide) (ownP.b e)), fun L u e => ⟨hk.blk (h.l L u e).1 (hno 0 L (by decide) (ownP.l e)), (h.l L u e).2⟩, fun L u e => ⟨hk.blk (h.q L u e).1 (hno 1 L (by decide) (ownP.q e)), (h.q L u e).2⟩, hb, h.recs.keepsW hk (fun g o h0 e => hno 4 g (by decide) (ownP.s h0 e)), h.n.keeps hk (hno 3 _ (by decide) ownP.w) (hno 3 _ (by decide) ownP.m),
    ⟨h.ow.ap, fun i j hj => Nat.lt_of_lt_of_le (h.ow.lt i j hj) hk.size, h.ow.ge⟩, h.bel.trans (hk.below h.bel.size (fun k _ e => by rw [e]; exact h.ow.ge 2 _ ownP.p))⟩
/-- the book written -/
theorem PrS.note {N' : Nat} (h : PrS W w A a b N bufD ws1 ar1 st1 vl bufR ws2 ar2 st2 vq cs LA rl) (hk : Kq.Keeps (· = A.M) w w') (hn : NotS w' A.Wh A.M N') : PrS W w' A a b N' bufD ws1 ar1 st1 vl bufR ws2 ar2 st2 vq cs LA rl := by
  have hno : ∀ i j, i ≠ 3 → ownP A bufD vl bufR vq LA rl.length i j → ¬ j = A.M := fun i j hi hj h0 => hi (h.ow.ap i 3 j hj (h0 ▸ ownP.m))
  exact ⟨h.d.keeps hk (fun j hj => hno 0 j (by decide) (ownP.a hj)), h.r.keeps hk (hno 1 A.R (by decide) (ownP.r rfl)) (fun k e => hno 1 k (by decide) (ownP.b e)), fun L u e => ⟨hk.blk (h.l L u e).1 (hno 0 L (by decide) (ownP.l e)), (h.l L u e).2⟩, fun L u e => ⟨hk.blk (h.q L u e).1 (hno 1 L (by decide) (ownP.q e)), (h.q L u e).2⟩, hk.blk h.p (hno 2 A.P (by decide) ownP.p), h.recs.keepsW hk (fun g o h0 e => hno 4 g (by decide) (ownP.s h0 e)), hn,
    ⟨h.ow.ap, fun i j hj => Nat.lt_of_lt_of_le (h.ow.lt i j hj) hk.size, h.ow.ge⟩, h.bel.trans (hk.below h.bel.size (fun k _ e => by rw [e]; exact h.ow.ge 3 _ ownP.m))⟩
end
end Go.Proofs.YtbpgfhcecanikaaGreat
