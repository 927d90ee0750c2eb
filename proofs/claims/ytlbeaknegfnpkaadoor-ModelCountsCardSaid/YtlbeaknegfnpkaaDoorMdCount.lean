/- Contracts of carrackref22.Open, model.Count. Condition: few entries. -/
import Derived.WalkSpells
import Derived.Outline
import Derived.Deep.QuietTactic
import Derived.Deep.RegionHeld
import Derived.Test.YtlbeaknegfnpkaaDoorMdTurn
import Derived.Test.YtlbeaknegfnpkaaDoorMdBase
import Derived.Test.YtlbeaknegfnpkaaDoorMdOpen
namespace Go.Proofs.YtlbeaknegfnpkaaDoor
open Go.RowKit
set_option linter.unusedVariables false
set_option maxRecDepth 100000 in
set_option maxHeartbeats 4000000 in
theorem rf_open (A : Option Addr) (cap : Nat) (l : List EnV) (w : World) (hl : l.length ≤ 60) (hA : enE.At w A l) :
    Calls Tryd.prog 15 #[.slice A l.length cap] w (RowPost 32 ptE w (openL l)) := by
  obtain ⟨i0, hi0, hz0, hz1, hz2⟩ := info_zsb infoPt
  have HA := Lib.hid hA
  have HL := Lib.hid hl
  clear hA hl
  go_enter Tryd.func15, Tryd.ntmps15
  go_wp2
  go_loopw [3, 4] (fun v i wr => ∃ j n : Nat, j ≤ l.length ∧ n = (openL (l.take j)).length ∧ n ≤ j ∧ i = .int .i64 (j : Int) ∧ wr.ownsRow w.heap.size 32 4 v n (ptE.flat (openL (l.take j))) ∧ Below w.heap.size w wr) (fun _ i _ => l.length - (intOf i).toNat)
  case atStart => exact ⟨0, 0, Nat.zero_le _, rfl, Nat.le_refl _, rfl, World.ownsRow_nil _ _ _ _, Below.refl _ _⟩
  case round =>
    obtain ⟨j, n, hj, hn, hnj, rfl, hown, hbl⟩ := hrel
    have HO := Lib.hid (And.intro hown (And.intro hbl hn))
    by_cases hlt : j < l.length
    · have hi0' : (j : Int) < (l.length : Int) := by omega
      obtain ⟨b, off, rfl, hb, hc⟩ := en_at (HA.out.below hbl) hlt
      obtain ⟨e, he⟩ : ∃ e, e = l[j] := ⟨_, rfl⟩
      rw [← he] at hc
      have HE := Lib.hid (And.intro he hb)
      have HLT := Lib.hid hlt
      obtain ⟨a', n', c', rfl⟩ := Kq.own_shape hown
      have hj60 : j ≤ 60 := by have := HL.out; omega
      have hn60 : n ≤ 60 := by omega
      unfold EnC at hc
      obtain ⟨c0, c1, c2, c3, c4⟩ := hc
      obtain ⟨⟨ef, eq, et, ed⟩, es⟩ := e
      simp only at c0 c1 c2 c3 c4
      by_cases ho : es = 1 ∨ es = 2
      · have HN : Hid (openL (l.take (j + 1)) = openL (l.take j) ++ [⟨ef, eq, et, ed⟩]) := Lib.hid (by rw [take_succ_snoc l j HLT.out, openL_snoc, ← HE.out.1, if_pos ho])
        by_cases h1 : es = 1
        · subst h1
          clear ho
          have HAL : Hid (ptE.At (wr.alloc (.cells #[.int .i64 ef, .int .u64 eq, .int .u64 et, .string ed] 32)) (some ⟨wr.heap.size, 0, none⟩) [⟨ef, eq, et, ed⟩] ∧ (wr.alloc (.cells #[.int .i64 ef, .int .u64 eq, .int .u64 et, .string ed] 32)).ownsRow w.heap.size 32 4 (.slice a' n' c') n (ptE.flat (openL (l.take j))) ∧ Below w.heap.size w (wr.alloc (.cells #[.int .i64 ef, .int .u64 eq, .int .u64 et, .string ed] 32))) := Lib.hid ⟨by exact Kq.Elt.made_one (E := ptE) ⟨ef, eq, et, ed⟩ wr 32, own_belowE HO.out.1 (Kq.below_alloc _ _), HO.out.2.1.trans ((Kq.below_alloc _ _).mono HO.out.2.1.size)⟩
          clear hown hbl hb he hn
          go_wp2_with (at_builtin; refine Kq.wpList_append_any _ rfl (.tmp 25) (.tmp 31) 35 35 rfl w.heap.size 32 i0 (.agg #[.int .i64 0, .int .u64 0, .int .u64 0, .string ⟨#[]⟩]) 4 40 Tryd.underlying35 hi0 hz0 hz1 hz2 rfl (by decide) (.slice a' n' c') n (ptE.flat (openL (l.take j))) rfl HAL.out.2.1 (.slice (some ⟨wr.heap.size, 0, none⟩) 1 1) 1 (ptE.flat [⟨ef, eq, et, ed⟩]) rfl (HAL.out.1.src Tryd.underlying35 1) ?h1 ?h2 HAL.out.2.2.size ?_)
          case h1 => unfold maxLen; omega
          case h2 => omega
          intro v' z2 hown2 hgrow hfresh
          obtain ⟨a2, n2, c2, rfl⟩ := Kq.own_shape hown2
          have hbg := grown_belowE HAL.out.2.1 hgrow HAL.out.2.2.size
          have HD2 : Hid (z2.ownsRow w.heap.size 32 4 (.slice a2 n2 c2) (n + 1) (ptE.flat (openL (l.take (j + 1)))) ∧ Below w.heap.size w z2) := Lib.hid ⟨by rw [HN.out, ptE.flat_append]; exact hown2, HAL.out.2.2.trans hbg⟩
          clear hown2 hgrow hfresh hbg HAL
          go_wp2
          go_roundw
          case rel => exact ⟨j + 1, n + 1, HLT.out, by rw [HN.out, List.length_append, ← HO.out.2.2]; rfl, by omega, by go_num, HD2.out⟩
          case measure => have := HLT.out; simp [intOf]; omega
        · obtain rfl := ho.resolve_left h1
          clear ho h1
          have HAL : Hid (ptE.At (wr.alloc (.cells #[.int .i64 ef, .int .u64 eq, .int .u64 et, .string ed] 32)) (some ⟨wr.heap.size, 0, none⟩) [⟨ef, eq, et, ed⟩] ∧ (wr.alloc (.cells #[.int .i64 ef, .int .u64 eq, .int .u64 et, .string ed] 32)).ownsRow w.heap.size 32 4 (.slice a' n' c') n (ptE.flat (openL (l.take j))) ∧ Below w.heap.size w (wr.alloc (.cells #[.int .i64 ef, .int .u64 eq, .int .u64 et, .string ed] 32))) := Lib.hid ⟨by exact Kq.Elt.made_one (E := ptE) ⟨ef, eq, et, ed⟩ wr 32, own_belowE HO.out.1 (Kq.below_alloc _ _), HO.out.2.1.trans ((Kq.below_alloc _ _).mono HO.out.2.1.size)⟩
          clear hown hbl hb he hn
          go_wp2_with (at_builtin; refine Kq.wpList_append_any _ rfl (.tmp 25) (.tmp 31) 35 35 rfl w.heap.size 32 i0 (.agg #[.int .i64 0, .int .u64 0, .int .u64 0, .string ⟨#[]⟩]) 4 40 Tryd.underlying35 hi0 hz0 hz1 hz2 rfl (by decide) (.slice a' n' c') n (ptE.flat (openL (l.take j))) rfl HAL.out.2.1 (.slice (some ⟨wr.heap.size, 0, none⟩) 1 1) 1 (ptE.flat [⟨ef, eq, et, ed⟩]) rfl (HAL.out.1.src Tryd.underlying35 1) ?h1 ?h2 HAL.out.2.2.size ?_)
          case h1 => unfold maxLen; omega
          case h2 => omega
          intro v' z2 hown2 hgrow hfresh
          obtain ⟨a2, n2, c2, rfl⟩ := Kq.own_shape hown2
          have hbg := grown_belowE HAL.out.2.1 hgrow HAL.out.2.2.size
          have HD2 : Hid (z2.ownsRow w.heap.size 32 4 (.slice a2 n2 c2) (n + 1) (ptE.flat (openL (l.take (j + 1)))) ∧ Below w.heap.size w z2) := Lib.hid ⟨by rw [HN.out, ptE.flat_append]; exact hown2, HAL.out.2.2.trans hbg⟩
          clear hown2 hgrow hfresh hbg HAL
          go_wp2
          go_roundw
          case rel => exact ⟨j + 1, n + 1, HLT.out, by rw [HN.out, List.length_append, ← HO.out.2.2]; rfl, by omega, by go_num, HD2.out⟩
          case measure => have := HLT.out; simp [intOf]; omega
      · have HN : Hid (openL (l.take (j + 1)) = openL (l.take j)) := Lib.hid (by rw [take_succ_snoc l j HLT.out, openL_snoc, ← HE.out.1, if_neg ho])
        have q1 : (es == 1) = false := beq_eq_false_iff_ne.2 (fun h => ho (Or.inl h))
        have q2 : (es == 2) = false := beq_eq_false_iff_ne.2 (fun h => ho (Or.inr h))
        have HD2 : Hid (wr.ownsRow w.heap.size 32 4 (.slice a' n' c') n (ptE.flat (openL (l.take (j + 1)))) ∧ Below w.heap.size w wr) := Lib.hid ⟨by rw [HN.out]; exact HO.out.1, HO.out.2.1⟩
        clear ho hown hbl hb he hn
        go_wp2
        go_roundw
        case rel => exact ⟨j + 1, n, HLT.out, by rw [HN.out]; exact HO.out.2.2, by omega, by go_num, HD2.out⟩
        case measure => have := HLT.out; simp [intOf]; omega
    · obtain rfl : j = l.length := by omega
      have HR : Hid (RowPost 32 ptE w (openL l) (.returned u3) wr) := Lib.hid ⟨u3, rfl, by have h := HO.out.1; rw [HO.out.2.2, List.take_length] at h; exact h, HO.out.2.1⟩
      clear hown hbl hlt hn hnj
      go_wp2
      go_ret
      exact HR.out
/-- how many there are of each state, as an array -/
def cnts (l : List EnV) : Array Value := #[.int .i64 (cntL l 0 : Nat), .int .i64 (cntL l 1 : Nat), .int .i64 (cntL l 2 : Nat), .int .i64 (cntL l 3 : Nat), .int .i64 (cntL l 4 : Nat)]
theorem cnts_at (l : List EnV) (s : Nat) (hs : s < 5) : (cnts l)[s]? = some (.int .i64 (cntL l (s : Int) : Nat)) := by
  have : s = 0 ∨ s = 1 ∨ s = 2 ∨ s = 3 ∨ s = 4 := by omega
  rcases this with rfl | rfl | rfl | rfl | rfl <;> rfl
theorem cnts_in (l : List EnV) (e : EnV) (s : Nat) (hs : s < 5) (he : e.s = (s : Int)) : (cnts l).setIfInBounds s (.int .i64 ((cntL l (s : Int) + 1 : Nat) : Int)) = cnts (l ++ [e]) := by
  unfold cnts
  simp only [cntL_snoc, he]
  have : s = 0 ∨ s = 1 ∨ s = 2 ∨ s = 3 ∨ s = 4 := by omega
  rcases this with rfl | rfl | rfl | rfl | rfl <;> simp
theorem cnts_out (l : List EnV) (e : EnV) (he : isS e.s = false) : cnts (l ++ [e]) = cnts l := by
  have h := of_decide_eq_false he
  have q : ∀ k : Int, 0 ≤ k → k < 5 → cntL (l ++ [e]) k = cntL l k := fun k h1 h2 => by
    rw [cntL_snoc, if_neg (by omega)]; rfl
  unfold cnts
  rw [q 0 (by omega) (by omega), q 1 (by omega) (by omega), q 2 (by omega) (by omega), q 3 (by omega) (by omega), q 4 (by omega) (by omega)]
def set5 (w : World) (R : Nat) (a b c d e : Int) : World := ((((w.setCell ⟨R, 0, none⟩ (.int .i64 a)).setCell ⟨R, 1, none⟩ (.int .i64 b)).setCell ⟨R, 2, none⟩ (.int .i64 c)).setCell ⟨R, 3, none⟩ (.int .i64 d)).setCell ⟨R, 4, none⟩ (.int .i64 e)
theorem set5_keeps (w : World) (R : Nat) (a b c d e : Int) : Kq.Keeps (· = R) w (set5 w R a b c d e) := by
  unfold set5
  exact ((((Kq.Keeps.setCell (S := (· = R)) _ ⟨R, 0, none⟩ _ rfl).trans (Kq.Keeps.setCell (S := (· = R)) _ ⟨R, 1, none⟩ _ rfl)).trans (Kq.Keeps.setCell (S := (· = R)) _ ⟨R, 2, none⟩ _ rfl)).trans (Kq.Keeps.setCell (S := (· = R)) _ ⟨R, 3, none⟩ _ rfl)).trans (Kq.Keeps.setCell (S := (· = R)) _ ⟨R, 4, none⟩ _ rfl)
theorem set5_blk {w : World} {R : Nat} {a0 b0 c0 d0 e0 : Value} {t : TypeId} (h : w.heap[R]? = some (.cells #[a0, b0, c0, d0, e0] t (0, 0))) (a b c d e : Int) : (set5 w R a b c d e).heap[R]? = some (.cells #[.int .i64 a, .int .i64 b, .int .i64 c, .int .i64 d, .int .i64 e] t (0, 0)) := by
  unfold set5
  exact Kq.blk_set (Kq.blk_set (Kq.blk_set (Kq.blk_set (Kq.blk_set h 0 _) 1 _) 2 _) 3 _) 4 _
set_option maxRecDepth 100000 in
set_option maxHeartbeats 4000000 in
theorem md_count (A : Option Addr) (cap : Nat) (l : List EnV) (w : World) (hl : l.length ≤ 60) (hA : enE.At w A l) :
    Calls Tryd.prog 16 #[.slice A l.length cap] w fun x w' => x = .returned (.agg (cnts l)) ∧ Below w.heap.size w w' := by
  have HA := Lib.hid hA
  have HL := Lib.hid hl
  clear hA hl
  go_enter Tryd.func16, Tryd.ntmps16
  go_wp2
  have HST : Hid (((w.alloc (.cells #[.int .i64 0, .int .i64 0, .int .i64 0, .int .i64 0, .int .i64 0] 29)).alloc (.cells #[.int .i64 0, .int .i64 0, .int .i64 0, .int .i64 0, .int .i64 0] 29)).heap[w.heap.size]? = some (.cells #[.int .i64 0, .int .i64 0, .int .i64 0, .int .i64 0, .int .i64 0] 29 (0, 0)) ∧ ((w.alloc (.cells #[.int .i64 0, .int .i64 0, .int .i64 0, .int .i64 0, .int .i64 0] 29)).alloc (.cells #[.int .i64 0, .int .i64 0, .int .i64 0, .int .i64 0, .int .i64 0] 29)).heap[w.heap.size + 1]? = some (.cells #[.int .i64 0, .int .i64 0, .int .i64 0, .int .i64 0, .int .i64 0] 29 (0, 0))) := Lib.hid ⟨Kq.below_blk (Kq.below_alloc _ _) (Kq.blk_new w _ _ _) (by simp), by have h := Kq.blk_new (w.alloc (.cells #[.int .i64 0, .int .i64 0, .int .i64 0, .int .i64 0, .int .i64 0] 29)) #[.int .i64 0, .int .i64 0, .int .i64 0, .int .i64 0, .int .i64 0] 29 (0, 0); rw [World.size_alloc] at h; exact h⟩
  obtain ⟨B, hB⟩ : ∃ B, B = w.heap.size + 1 := ⟨_, rfl⟩
  obtain ⟨R, hR⟩ : ∃ R, R = w.heap.size := ⟨_, rfl⟩
  rw [← hB, ← hR] at HST
  rw [← hB, ← hR]
  have HBR := Lib.hid (And.intro hB hR)
  clear hB hR
  go_loopw [8] (fun i wr => ∃ j : Nat, j ≤ l.length ∧ i = .int .i64 (j : Int) ∧ wr.heap[R]? = some (.cells #[.int .i64 0, .int .i64 0, .int .i64 0, .int .i64 0, .int .i64 0] 29 (0, 0)) ∧ wr.heap[B]? = some (.cells (cnts (l.take j)) 29 (0, 0)) ∧ Below w.heap.size w wr) (fun i _ => l.length - (intOf i).toNat)
  case atStart => exact ⟨0, Nat.zero_le _, rfl, HST.out.1, HST.out.2, (Kq.below_alloc w _).trans ((Kq.below_alloc _ _).mono (by simp))⟩
  case round =>
    obtain ⟨j, hj, rfl, hbR, hbB, hbl⟩ := hrel
    have HO := Lib.hid (And.intro hbR (And.intro hbB hbl))
    by_cases hlt : j < l.length
    · have hi0' : (j : Int) < (l.length : Int) := by omega
      obtain ⟨b, off, rfl, hb, hc⟩ := en_at (HA.out.below hbl) hlt
      obtain ⟨e, he⟩ : ∃ e, e = l[j] := ⟨_, rfl⟩
      rw [← he] at hc
      have HE := Lib.hid he
      have HLT := Lib.hid hlt
      have hj60 : j ≤ 60 := by have := HL.out; omega
      unfold EnC at hc
      obtain ⟨c0, c1, c2, c3, c4⟩ := hc
      obtain ⟨⟨ef, eq, et, ed⟩, es⟩ := e
      simp only at c0 c1 c2 c3 c4
      have hb1 := Kq.below_alloc wr (.cells #[.int .i64 ef, .int .u64 eq, .int .u64 et, .string ed, .int .i64 es] 40)
      have HO1 : Hid (Below w.heap.size w (wr.alloc (.cells #[.int .i64 ef, .int .u64 eq, .int .u64 et, .string ed, .int .i64 es] 40)) ∧ (wr.alloc (.cells #[.int .i64 ef, .int .u64 eq, .int .u64 et, .string ed, .int .i64 es] 40)).heap[R]? = some (.cells #[.int .i64 0, .int .i64 0, .int .i64 0, .int .i64 0, .int .i64 0] 29 (0, 0)) ∧ (wr.alloc (.cells #[.int .i64 ef, .int .u64 eq, .int .u64 et, .string ed, .int .i64 es] 40)).heap[B]? = some (.cells (cnts (l.take j)) 29 (0, 0)) ∧ (wr.alloc (.cells #[.int .i64 ef, .int .u64 eq, .int .u64 et, .string ed, .int .i64 es] 40)).cell? ⟨wr.heap.size, 4, none⟩ = some (.int .i64 es)) := Lib.hid ⟨hbl.trans (hb1.mono hbl.size), Kq.below_blk hb1 hbR (Kq.blk_lt hbR), Kq.below_blk hb1 hbB (Kq.blk_lt hbB), by simp⟩
      clear hb1 hbR hbB hbl hb he HO
      go_wp2_with fail
      refine (md_isState es _).mono ?_
      rintro x w1 ⟨rfl, rfl⟩
      cases hs : isS es with
      | true =>
        have h1 := of_decide_eq_true hs
        obtain ⟨s, rfl⟩ := Int.eq_ofNat_of_zero_le h1.1
        have s1 : (s : Int) < 5 := by omega
        have hs5 : s < 5 := by omega
        generalize (wr.alloc (.cells #[.int .i64 ef, .int .u64 eq, .int .u64 et, .string ed, .int .i64 (s : Int)] 40)) = w1 at *
        have cS := HO1.out.2.2.2
        have cB : w1.cell? ⟨B, s, none⟩ = some (.int .i64 (cntL (l.take j) (s : Int) : Nat)) := by rw [Kq.blk_cell HO1.out.2.2.1]; exact cnts_at _ s hs5
        have fB := Kq.blk_free HO1.out.2.2.1 s
        have hc60 : cntL (l.take j) (s : Int) ≤ 60 := by have := cntL_le (l.take j) (s : Int); rw [List.length_take] at this; omega
        have HN : Hid ((w1.setCell ⟨B, s, none⟩ (.int .i64 ((cntL (l.take j) (s : Int) + 1 : Nat) : Int))).heap[B]? = some (.cells (cnts (l.take (j + 1))) 29 (0, 0))) := Lib.hid (by
          rw [Kq.blk_set HO1.out.2.2.1, cnts_in _ ⟨⟨ef, eq, et, ed⟩, (s : Int)⟩ s hs5 rfl, take_succ_snoc l j HLT.out, ← HE.out])
        obtain ⟨c, hcc⟩ : ∃ c, c = cntL (l.take j) (s : Int) := ⟨_, rfl⟩
        rw [← hcc] at cB hc60 HN
        obtain ⟨c1, hc1⟩ : ∃ c1, c1 = c + 1 := ⟨_, rfl⟩
        have hw1 : IntKind.i64.wrap ((c : Int) + 1) = (c1 : Int) := by rw [IntWalk.i64_in _ (by omega)]; omega
        rw [← hc1] at HN
        obtain ⟨wn, hwn⟩ : ∃ z, z = w1.setCell ⟨B, s, none⟩ (.int .i64 (c1 : Int)) := ⟨_, rfl⟩
        have HD : Hid (Below w.heap.size w wn ∧ wn.heap[R]? = some (.cells #[.int .i64 0, .int .i64 0, .int .i64 0, .int .i64 0, .int .i64 0] 29 (0, 0)) ∧ wn.heap[B]? = some (.cells (cnts (l.take (j + 1))) 29 (0, 0))) := Lib.hid (by
          have hk : Kq.Keeps (· = B) w1 wn := by rw [hwn]; exact Kq.Keeps.setCell _ _ _ rfl
          exact ⟨HO1.out.1.trans (hk.below HO1.out.1.size (fun k _ e => by have := HBR.out; omega)), hk.blk HO1.out.2.1 (fun e => by have := HBR.out; omega), by rw [hwn]; exact HN.out⟩)
        clear hc1 hcc HN h1 hs
        go_wp2
        rw [← hwn]
        go_roundw
        case rel => exact ⟨j + 1, HLT.out, by go_num, HD.out.2.1, HD.out.2.2, HD.out.1⟩
        case measure => have := HLT.out; simp [intOf]; omega
      | false =>
        have HD : Hid (cnts (l.take (j + 1)) = cnts (l.take j)) := Lib.hid (by rw [take_succ_snoc l j HLT.out, ← HE.out]; exact cnts_out _ _ hs)
        clear hs
        go_wp2
        go_roundw
        case rel => exact ⟨j + 1, HLT.out, by go_num, HO1.out.2.1, by rw [HD.out]; exact HO1.out.2.2.1, HO1.out.1⟩
        case measure => have := HLT.out; simp [intOf]; omega
    · obtain rfl : j = l.length := by omega
      rw [List.take_length] at hbB
      unfold cnts at hbB
      have c0 : wr.cell? ⟨B, 0, none⟩ = _ := Kq.blk_cell hbB 0
      have c1 : wr.cell? ⟨B, 1, none⟩ = _ := Kq.blk_cell hbB 1
      have c2 : wr.cell? ⟨B, 2, none⟩ = _ := Kq.blk_cell hbB 2
      have c3 : wr.cell? ⟨B, 3, none⟩ = _ := Kq.blk_cell hbB 3
      have c4 : wr.cell? ⟨B, 4, none⟩ = _ := Kq.blk_cell hbB 4
      have f0 := Kq.blk_free hbR 0
      have f1 := Kq.blk_free hbR 1
      have f2 := Kq.blk_free hbR 2
      have f3 := Kq.blk_free hbR 3
      have f4 := Kq.blk_free hbR 4
      have d0 : wr.cell? ⟨R, 0, none⟩ = some (.int .i64 0) := Kq.blk_cell hbR 0
      have d1 : wr.cell? ⟨R, 1, none⟩ = some (.int .i64 0) := Kq.blk_cell hbR 1
      have d2 : wr.cell? ⟨R, 2, none⟩ = some (.int .i64 0) := Kq.blk_cell hbR 2
      have d3 : wr.cell? ⟨R, 3, none⟩ = some (.int .i64 0) := Kq.blk_cell hbR 3
      have d4 : wr.cell? ⟨R, 4, none⟩ = some (.int .i64 0) := Kq.blk_cell hbR 4
      simp only [List.getElem?_toArray, List.getElem?_cons_zero, List.getElem?_cons_succ] at c0 c1 c2 c3 c4
      have HR := Lib.hid (show R = w.heap.size from HBR.out.2)
      have HBL := Lib.hid hbl
      have HCN : Hid (cnts l = #[.int .i64 (cntL l 0 : Nat), .int .i64 (cntL l 1 : Nat), .int .i64 (cntL l 2 : Nat), .int .i64 (cntL l 3 : Nat), .int .i64 (cntL l 4 : Nat)]) := Lib.hid rfl
      generalize cntL l 0 = n0 at *
      generalize cntL l 1 = n1 at *
      generalize cntL l 2 = n2 at *
      generalize cntL l 3 = n3 at *
      generalize cntL l 4 = n4 at *
      have HBLK := Lib.hid (And.intro hbR hbl)
      clear hbR hbB hbl hlt HO
      go_wp2
      obtain ⟨Wf, hWf⟩ : ∃ Wf, Wf = set5 wr R (n0 : Int) (n1 : Int) (n2 : Int) (n3 : Int) (n4 : Int) := ⟨_, rfl⟩
      change bodyPost _ _ _ _ _ (set5 wr R (n0 : Int) (n1 : Int) (n2 : Int) (n3 : Int) (n4 : Int))
      have hbf := set5_blk HBLK.out.1 (n0 : Int) (n1 : Int) (n2 : Int) (n3 : Int) (n4 : Int)
      have hkf := set5_keeps wr R (n0 : Int) (n1 : Int) (n2 : Int) (n3 : Int) (n4 : Int)
      rw [← hWf] at hbf hkf ⊢
      clear hWf c0 c1 c2 c3 c4 f0 f1 f2 f3 f4 d0 d1 d2 d3 d4
      have z0 : Wf.cell? ⟨R, 0, none⟩ = some (.int .i64 (n0 : Int)) := Kq.blk_cell hbf 0
      have z1 : Wf.cell? ⟨R, 1, none⟩ = some (.int .i64 (n1 : Int)) := Kq.blk_cell hbf 1
      have z2 : Wf.cell? ⟨R, 2, none⟩ = some (.int .i64 (n2 : Int)) := Kq.blk_cell hbf 2
      have z3 : Wf.cell? ⟨R, 3, none⟩ = some (.int .i64 (n3 : Int)) := Kq.blk_cell hbf 3
      have z4 : Wf.cell? ⟨R, 4, none⟩ = some (.int .i64 (n4 : Int)) := Kq.blk_cell hbf 4
      refine bodyPost_ret (v := .agg #[.int .i64 (n0 : Int), .int .i64 (n1 : Int), .int .i64 (n2 : Int), .int .i64 (n3 : Int), .int .i64 (n4 : Int)]) (by simp [results, Tryd.results16, go_sem, z0, z1, z2, z3, z4]) rfl ?_
      exact ⟨by rw [HCN.out], HBL.out.trans (hkf.below HBL.out.size (fun k _ e => by have := HR.out; omega))⟩
end Go.Proofs.YtlbeaknegfnpkaaDoor
