/- Contracts of model.Open, carrackref22.Open, model.Count. Condition: few entries. -/
import Derived.WalkSpells
import Derived.Outline
import Derived.Deep.QuietTactic
import Derived.Deep.RegionHeld
import Derived.Test.YtlbeaknegfnpkaaDoorMdTurn
import Derived.Test.YtlbeaknegfnpkaaDoorMdBase
namespace Go.Proofs.YtlbeaknegfnpkaaDoor
open Go.RowKit
set_option linter.unusedVariables false
set_option maxRecDepth 100000 in
set_option maxHeartbeats 4000000 in
theorem md_open (A : Option Addr) (cap : Nat) (l : List EnV) (w : World) (hl : l.length ≤ 60) (hA : enE.At w A l) :
    Calls Tryd.prog 14 #[.slice A l.length cap] w (RowPost 32 ptE w (openL l)) := by
  obtain ⟨i0, hi0, hz0, hz1, hz2⟩ := info_zsb infoPt
  have HA := Lib.hid hA
  have HL := Lib.hid hl
  clear hA hl
  go_enter Tryd.func14, Tryd.ntmps14
  go_wp2
  go_loopw [3, 8] (fun v i wr => ∃ j n : Nat, j ≤ l.length ∧ n = (openL (l.take j)).length ∧ n ≤ j ∧ i = .int .i64 (j : Int) ∧ wr.ownsRow w.heap.size 32 4 v n (ptE.flat (openL (l.take j))) ∧ Below w.heap.size w wr) (fun _ i _ => l.length - (intOf i).toNat)
  case atStart => exact ⟨0, 0, Nat.zero_le _, rfl, Nat.le_refl _, rfl, World.ownsRow_nil _ _ _ _, Below.refl _ _⟩
  case round =>
    obtain ⟨j, n, hj, hn, hnj, rfl, hown, hbl⟩ := hrel
    have HO := Lib.hid (And.intro hown (And.intro hbl hn))
    by_cases hlt : j < l.length
    · have hi0' : (j : Int) < (l.length : Int) := by omega
      obtain ⟨b, off, rfl, hb, hc⟩ := en_at (HA.out.below hbl) hlt
      obtain ⟨e, he⟩ : ∃ e, e = l[j] := ⟨_, rfl⟩
      rw [← he] at hc
      have HE := Lib.hid (And.intro he hb)
      have HLT := Lib.hid hlt
      obtain ⟨a', n', c', rfl⟩ := Kq.own_shape hown
      have hj60 : j ≤ 60 := by have := HL.out; omega
      have hn60 : n ≤ 60 := by omega
      unfold EnC at hc
      obtain ⟨c0, c1, c2, c3, c4⟩ := hc
      obtain ⟨⟨ef, eq, et, ed⟩, es⟩ := e
      simp only at c0 c1 c2 c3 c4
      by_cases ho : es = 1 ∨ es = 2
      · have HN : Hid (openL (l.take (j + 1)) = openL (l.take j) ++ [⟨ef, eq, et, ed⟩]) := Lib.hid (by rw [take_succ_snoc l j HLT.out, openL_snoc, ← HE.out.1, if_pos ho])
        by_cases h1 : es = 1
        · subst h1
          clear ho
          have HAL : Hid (ptE.At ((wr.alloc (.cells #[.int .i64 ef, .int .u64 eq, .int .u64 et, .string ed, .int .i64 1] 40)).alloc (.cells #[.int .i64 ef, .int .u64 eq, .int .u64 et, .string ed] 32)) (some ⟨wr.heap.size + 1, 0, none⟩) [⟨ef, eq, et, ed⟩] ∧ ((wr.alloc (.cells #[.int .i64 ef, .int .u64 eq, .int .u64 et, .string ed, .int .i64 1] 40)).alloc (.cells #[.int .i64 ef, .int .u64 eq, .int .u64 et, .string ed] 32)).ownsRow w.heap.size 32 4 (.slice a' n' c') n (ptE.flat (openL (l.take j))) ∧ Below w.heap.size w ((wr.alloc (.cells #[.int .i64 ef, .int .u64 eq, .int .u64 et, .string ed, .int .i64 1] 40)).alloc (.cells #[.int .i64 ef, .int .u64 eq, .int .u64 et, .string ed] 32))) := Lib.hid ⟨by have h := Kq.Elt.made_one (E := ptE) ⟨ef, eq, et, ed⟩ (wr.alloc (.cells #[.int .i64 ef, .int .u64 eq, .int .u64 et, .string ed, .int .i64 1] 40)) 32; rw [World.size_alloc] at h; exact h, own_belowE (own_belowE HO.out.1 (Kq.below_alloc _ _)) (Kq.below_alloc _ _), (HO.out.2.1.trans ((Kq.below_alloc _ _).mono HO.out.2.1.size)).trans ((Kq.below_alloc _ _).mono (by rw [World.size_alloc]; have := HO.out.2.1.size; omega))⟩
          clear hown hbl hb he hn
          go_wp2_with (at_builtin; refine Kq.wpList_append_any _ rfl (.tmp 20) (.tmp 23) 35 35 rfl w.heap.size 32 i0 (.agg #[.int .i64 0, .int .u64 0, .int .u64 0, .string ⟨#[]⟩]) 4 40 Tryd.underlying35 hi0 hz0 hz1 hz2 rfl (by decide) (.slice a' n' c') n (ptE.flat (openL (l.take j))) rfl HAL.out.2.1 (.slice (some ⟨wr.heap.size + 1, 0, none⟩) 1 1) 1 (ptE.flat [⟨ef, eq, et, ed⟩]) rfl (HAL.out.1.src Tryd.underlying35 1) ?h1 ?h2 HAL.out.2.2.size ?_)
          case h1 => unfold maxLen; omega
          case h2 => omega
          intro v' z2 hown2 hgrow hfresh
          obtain ⟨a2, n2, c2, rfl⟩ := Kq.own_shape hown2
          have hbg := grown_belowE HAL.out.2.1 hgrow HAL.out.2.2.size
          have HD2 : Hid (z2.ownsRow w.heap.size 32 4 (.slice a2 n2 c2) (n + 1) (ptE.flat (openL (l.take (j + 1)))) ∧ Below w.heap.size w z2) := Lib.hid ⟨by rw [HN.out, ptE.flat_append]; exact hown2, HAL.out.2.2.trans hbg⟩
          clear hown2 hgrow hfresh hbg HAL
          go_wp2
          go_roundw
          case rel => exact ⟨j + 1, n + 1, HLT.out, by rw [HN.out, List.length_append, ← HO.out.2.2]; rfl, by omega, by go_num, HD2.out⟩
          case measure => have := HLT.out; simp [intOf]; omega
        · obtain rfl := ho.resolve_left h1
          clear ho h1
          have HAL : Hid (ptE.At ((wr.alloc (.cells #[.int .i64 ef, .int .u64 eq, .int .u64 et, .string ed, .int .i64 2] 40)).alloc (.cells #[.int .i64 ef, .int .u64 eq, .int .u64 et, .string ed] 32)) (some ⟨wr.heap.size + 1, 0, none⟩) [⟨ef, eq, et, ed⟩] ∧ ((wr.alloc (.cells #[.int .i64 ef, .int .u64 eq, .int .u64 et, .string ed, .int .i64 2] 40)).alloc (.cells #[.int .i64 ef, .int .u64 eq, .int .u64 et, .string ed] 32)).ownsRow w.heap.size 32 4 (.slice a' n' c') n (ptE.flat (openL (l.take j))) ∧ Below w.heap.size w ((wr.alloc (.cells #[.int .i64 ef, .int .u64 eq, .int .u64 et, .string ed, .int .i64 2] 40)).alloc (.cells #[.int .i64 ef, .int .u64 eq, .int .u64 et, .string ed] 32))) := Lib.hid ⟨by have h := Kq.Elt.made_one (E := ptE) ⟨ef, eq, et, ed⟩ (wr.alloc (.cells #[.int .i64 ef, .int .u64 eq, .int .u64 et, .string ed, .int .i64 2] 40)) 32; rw [World.size_alloc] at h; exact h, own_belowE (own_belowE HO.out.1 (Kq.below_alloc _ _)) (Kq.below_alloc _ _), (HO.out.2.1.trans ((Kq.below_alloc _ _).mono HO.out.2.1.size)).trans ((Kq.below_alloc _ _).mono (by rw [World.size_alloc]; have := HO.out.2.1.size; omega))⟩
          clear hown hbl hb he hn
          go_wp2_with (at_builtin; refine Kq.wpList_append_any _ rfl (.tmp 20) (.tmp 23) 35 35 rfl w.heap.size 32 i0 (.agg #[.int .i64 0, .int .u64 0, .int .u64 0, .string ⟨#[]⟩]) 4 40 Tryd.underlying35 hi0 hz0 hz1 hz2 rfl (by decide) (.slice a' n' c') n (ptE.flat (openL (l.take j))) rfl HAL.out.2.1 (.slice (some ⟨wr.heap.size + 1, 0, none⟩) 1 1) 1 (ptE.flat [⟨ef, eq, et, ed⟩]) rfl (HAL.out.1.src Tryd.underlying35 1) ?h1 ?h2 HAL.out.2.2.size ?_)
          case h1 => unfold maxLen; omega
          case h2 => omega
          intro v' z2 hown2 hgrow hfresh
          obtain ⟨a2, n2, c2, rfl⟩ := Kq.own_shape hown2
          have hbg := grown_belowE HAL.out.2.1 hgrow HAL.out.2.2.size
          have HD2 : Hid (z2.ownsRow w.heap.size 32 4 (.slice a2 n2 c2) (n + 1) (ptE.flat (openL (l.take (j + 1)))) ∧ Below w.heap.size w z2) := Lib.hid ⟨by rw [HN.out, ptE.flat_append]; exact hown2, HAL.out.2.2.trans hbg⟩
          clear hown2 hgrow hfresh hbg HAL
          go_wp2
          go_roundw
          case rel => exact ⟨j + 1, n + 1, HLT.out, by rw [HN.out, List.length_append, ← HO.out.2.2]; rfl, by omega, by go_num, HD2.out⟩
          case measure => have := HLT.out; simp [intOf]; omega
      · have HN : Hid (openL (l.take (j + 1)) = openL (l.take j)) := Lib.hid (by rw [take_succ_snoc l j HLT.out, openL_snoc, ← HE.out.1, if_neg ho])
        have q1 : (es == 1) = false := beq_eq_false_iff_ne.2 (fun h => ho (Or.inl h))
        have q2 : (es == 2) = false := beq_eq_false_iff_ne.2 (fun h => ho (Or.inr h))
        have HD2 : Hid ((wr.alloc (.cells #[.int .i64 ef, .int .u64 eq, .int .u64 et, .string ed, .int .i64 es] 40)).ownsRow w.heap.size 32 4 (.slice a' n' c') n (ptE.flat (openL (l.take (j + 1)))) ∧ Below w.heap.size w (wr.alloc (.cells #[.int .i64 ef, .int .u64 eq, .int .u64 et, .string ed, .int .i64 es] 40))) := Lib.hid ⟨by rw [HN.out]; exact own_belowE HO.out.1 (Kq.below_alloc _ _), HO.out.2.1.trans ((Kq.below_alloc _ _).mono HO.out.2.1.size)⟩
        clear ho hown hbl hb he hn
        go_wp2
        go_roundw
        case rel => exact ⟨j + 1, n, HLT.out, by rw [HN.out]; exact HO.out.2.2, by omega, by go_num, HD2.out⟩
        case measure => have := HLT.out; simp [intOf]; omega
    · obtain rfl : j = l.length := by omega
      have HR : Hid (RowPost 32 ptE w (openL l) (.returned u3) wr) := Lib.hid ⟨u3, rfl, by have h := HO.out.1; rw [HO.out.2.2, List.take_length] at h; exact h, HO.out.2.1⟩
      clear hown hbl hlt hn hnj
      go_wp2
      go_ret
      exact HR.out
end Go.Proofs.YtlbeaknegfnpkaaDoor
