/- Contract of a disk's Crash in which nothing lasts. Condition: not too many writes. -/
import Derived.WalkSpells
import Derived.Test.YtcnoakngnjbkiaaDkRead
namespace Go.Proofs.Ytcnoakngnjbkiaa
open Go.RowKit
set_option linter.unusedVariables false
theorem DkB.reset {w : World} {base B S : Nat} {a b : Int} {n : Nat} {buf : Value} {ws : List (Int × ByteArray)} {armed : Int} (h : DkB w base B S a b n buf ws armed) :
    DkB ((w.setCell ⟨B, 3, none⟩ (.slice none 0 0)).setCell ⟨B, 4, none⟩ (.int .i64 0)) base B S a b n (.slice none 0 0) [] 0 :=
  ⟨Kq.blk_set (Kq.blk_set h.blk 3 _) 4 _, World.ownsRow_nil _ _ _ _, fun k hk => (by cases hk), by have := h.base; simpa [World.setCell] using this, h.sb, by have := h.sl; simpa [World.setCell] using this⟩
set_option maxRecDepth 100000 in
set_option maxHeartbeats 1000000 in
theorem dk_crash_none (base B S : Nat) (a b : Int) (n : Nat) (buf : Value) (ws : List (Int × ByteArray)) (armed : Int) (w : World) (h : DkB w base B S a b n buf ws armed) (hw : ws.length ≤ 1000000) (h0 : 0 < ws.length) :
    Calls Try.prog 24 #[.pointer (some ⟨B, 0, none⟩), .slice none 0 0] w fun x w' => x = .returned (.tuple #[]) ∧ DkB w' base B S a b n (.slice none 0 0) [] 0 ∧ Kq.Keeps (· = B) w w' := by
  have H := Lib.hid h
  have c3 := h.c3
  obtain ⟨g, cap, rfl, hat⟩ := h.at h0
  have HAT := Lib.hid hat
  clear hat h
  go_enter Try.func24, Try.ntmps24
  go_wp2
  go_loopw [13] (fun i wr => ∃ j : Nat, j ≤ ws.length ∧ i = .int .i64 (j : Int) ∧ Below w.heap.size w wr) (fun i _ => ws.length - (intOf i).toNat)
  case atStart => exact ⟨0, by omega, rfl, Below.refl _ _⟩
  case round =>
    obtain ⟨j, hj, rfl, hb⟩ := hrel
    have HB := Lib.hid hb
    clear hb c3
    by_cases hlt : j < ws.length
    · obtain ⟨w0, w1⟩ := HAT.out j hlt
      have hg : g < w.heap.size := by
        rcases Nat.lt_or_ge g w.heap.size with h' | h'
        · exact h'
        · simp [World.cell?, Array.getElem?_eq_none h'] at w0
      have v0 : wr.cell? ⟨g, j * 2, none⟩ = some (.int .i64 ws[j].1) := (HB.out.cell (p := ⟨g, j * 2, none⟩) hg).trans w0
      have v1 : wr.cell? ⟨g, j * 2 + 1, none⟩ = some (.string ws[j].2) := (HB.out.cell (p := ⟨g, j * 2 + 1, none⟩) hg).trans w1
      have d0 : decide ((0 : Int) ≤ (j : Int)) = true := decide_eq_true (by omega)
      have HBX := Lib.hid (fun o => HB.out.trans ((Kq.below_alloc wr o).mono HB.out.size))
      clear w0 w1 hg
      go_wp2
      go_round
      case rel => exact ⟨j + 1, by omega, by go_num, by first | exact HBX.out _ | exact HB.out⟩
      case measure => simp [intOf]; omega
    · have hk' : j = ws.length := Nat.le_antisymm hj (Nat.not_lt.1 hlt)
      subst hk'
      have H2 := Lib.hid (H.out.belowD HB.out)
      have k3 := H2.out.c3
      have k4 := H2.out.c4
      have f3 := H2.out.fz 3
      have f4 := H2.out.fz 4
      go_wp2
      go_end0
      have k1 := Kq.Keeps.setCell (S := (· = B)) wr ⟨B, 3, none⟩ (.slice none 0 0) rfl
      have k2 := Kq.Keeps.setCell (S := (· = B)) (wr.setCell ⟨B, 3, none⟩ (.slice none 0 0)) ⟨B, 4, none⟩ (.int .i64 0) rfl
      exact ⟨rfl, H2.out.reset, (Kq.Keeps.of_below (S := (· = B)) HB.out (fun k h1 h2 => absurd h1 (Nat.not_le.2 h2))).trans (k1.trans k2)⟩
end Go.Proofs.Ytcnoakngnjbkiaa
