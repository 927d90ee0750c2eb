/- Contracts of carrackref01's numbers in digits: add, digit, spread, multiply, above. Condition: sizes. -/
import Derived.WalkSpells
import Derived.Outline
import Derived.Deep.WholeRow
import Derived.Test.YtnbapiddbcaolaaDoorChecked
import Derived.Test.YtnbapiddbcaolaaDoorObj
import Derived.Test.YtnbapiddbcaolaaDoorShTurn
import Derived.Test.YtnbapiddbcaolaaDoorShHex
import Derived.Test.YtnbapiddbcaolaaDoorShRootM
namespace Go.Proofs.YtnbapiddbcaolaaDoor
open Go.RowKit
set_option linter.unusedVariables false
def dcl (l : List Nat) : List Value := l.map fun (x : Nat) => Value.int .u64 (x : Int)
structure Nums (w : World) (G : Nat) (l : List Nat) : Prop where
  blk : w.heap[G]? = some (.cells (dcl l).toArray 59 (0, 0))
  lt : ∀ x ∈ l, x < 18446744073709551616
theorem dcl_at (l : List Nat) (i : Nat) (h : i < l.length) : (dcl l).toArray[i]? = some (Value.int .u64 ((l.getD i 0 : Nat) : Int)) := by
  unfold dcl
  rw [List.getElem?_toArray, List.getElem?_map, List.getElem?_eq_getElem h]
  simp [h]
theorem Nums.cell {w : World} {G : Nat} {l : List Nat} (h : Nums w G l) (i : Nat) (hi : i < l.length) : w.cell? ⟨G, i, none⟩ = some (.int .u64 ((l.getD i 0 : Nat) : Int)) := (Kq.blk_cell h.blk i).trans (dcl_at l i hi)
theorem Nums.size {w : World} {G : Nat} {l : List Nat} (h : Nums w G l) : G < w.heap.size := Kq.blk_lt h.blk
theorem getD64 (l : List Nat) (h : ∀ x ∈ l, x < 18446744073709551616) (i : Nat) : l.getD i 0 < 18446744073709551616 := by
  rw [List.getD_eq_getElem?_getD]
  cases e : l[i]? with
  | none => simp
  | some x => exact h x (List.mem_of_getElem? e)
theorem Nums.set {w : World} {G : Nat} {l : List Nat} (h : Nums w G l) (i x : Nat) (hi : i < l.length) (hx : x < 18446744073709551616) : Nums (w.setCell ⟨G, i, none⟩ (.int .u64 (x : Int))) G (l.set i x) := by
  refine ⟨?_, fun y hy => ?_⟩
  · rw [Kq.blk_set h.blk]
    congr 2
    apply Array.toList_inj.1
    rw [Array.toList_setIfInBounds]
    unfold dcl
    rw [List.toList_toArray, List.toList_toArray, List.map_set]
  · rcases List.mem_or_eq_of_mem_set hy with hy | rfl
    · exact h.lt y hy
    · exact hx
theorem Nums.keeps {S : Nat → Prop} {w w' : World} {G : Nat} {l : List Nat} (h : Nums w G l) (hk : Kq.Keeps S w w') (hs : ¬ S G) : Nums w' G l := ⟨hk.blk h.blk hs, h.lt⟩
theorem add_facts (x v : Nat) (hx : x < 18446744073709551616) (hv : v < 18446744073709551616) : ∃ a b c d y z q : Nat,
    (x : Int) % 4294967296 = (a : Int) ∧ IntKind.u64.wrap ((a : Int) + (v : Int)) = (b : Int) ∧ (x : Int) / 4294967296 = (c : Int) ∧ IntKind.u64.wrap ((c : Int) * 4294967296) = (d : Int) ∧ IntKind.u64.wrap ((b : Int) + (d : Int)) = (y : Int) ∧
    (y : Int) % 4294967296 = (z : Int) ∧ (y : Int) / 4294967296 = (q : Int) ∧ y = ((x % Sh.M32 + v) % Sh.W64 + x / Sh.M32 * Sh.M32) % Sh.W64 ∧ z = y % Sh.M32 ∧ q = y / Sh.M32 ∧ z < 18446744073709551616 ∧ q < 18446744073709551616 ∧ IntKind.u64.wrap (q : Int) = (q : Int) ∧ IntKind.u64.wrap (c : Int) = (c : Int) := by
  unfold Sh.M32 Sh.W64
  obtain ⟨Y, hY⟩ : ∃ Y, Y = ((x % 4294967296 + v) % 18446744073709551616 + x / 4294967296 * 4294967296) % 18446744073709551616 := ⟨_, rfl⟩
  have hYb : Y < 18446744073709551616 := by rw [hY]; exact Nat.mod_lt _ (by decide)
  refine ⟨x % 4294967296, (x % 4294967296 + v) % 18446744073709551616, x / 4294967296, x / 4294967296 * 4294967296, Y, Y % 4294967296, Y / 4294967296, by omega, ?_, by omega, ?_, ?_, by omega, by omega, hY, rfl, rfl, by omega, by omega, ?_, ?_⟩
  · rw [IntKind.wrap_u64]; omega
  · rw [IntKind.wrap_u64]; omega
  · rw [IntKind.wrap_u64]; omega
  · rw [IntKind.wrap_u64]; omega
  · rw [IntKind.wrap_u64]; omega
theorem addN_length : ∀ (f : Nat) (l : List Nat) (i x : Nat), (Sh.addN f l i x).length = l.length
  | 0, l, i, x => rfl
  | f + 1, l, i, x => by
    unfold Sh.addN
    split
    · rw [addN_length f]; simp
    · rfl
theorem addL_length (l : List Nat) (i x : Nat) : (Sh.addL l i x).length = l.length := addN_length _ _ _ _
structure AddN (w : World) (G : Nat) (l : List Nat) (at0 x0 : Nat) (i x : Nat) (wr : World) : Prop where
  ex : ∃ l', Nums wr G l' ∧ l'.length = l.length ∧ Sh.addN (l.length + 1 - i) l' i x = Sh.addL l at0 x0
  lt : x < 18446744073709551616
  keep : Kq.Keeps (· = G) w wr
set_option maxRecDepth 100000 in
set_option maxHeartbeats 1000000 in
theorem r_add (G : Nat) (l : List Nat) (c i x : Nat) (w : World) (h : Nums w G l) (hx : x < 18446744073709551616) (hi : i ≤ 1000) (hl : l.length ≤ 1000) :
    Calls Tryd.prog 62 #[.slice (some ⟨G, 0, none⟩) l.length c, .int .i64 (i : Int), .int .u64 (x : Int)] w fun e w' => e = .returned (.tuple #[]) ∧ Nums w' G (Sh.addL l i x) ∧ Kq.Keeps (· = G) w w' := by
  have H : Hid (AddN w G l i x i x w) := Lib.hid ⟨⟨l, h, rfl, rfl⟩, hx, Kq.Keeps.refl _ _⟩
  clear h hx
  go_enter Tryd.func62, Tryd.ntmps62
  go_wp2
  go_loopw [1, 2] (fun p q wr => ∃ j y : Nat, p = .int .i64 (j : Int) ∧ q = .int .u64 (y : Int) ∧ j ≤ 2000 ∧ AddN w G l i x j y wr) (fun p _ _ => 2001 - (intOf p).toNat)
  case atStart => exact ⟨i, x, rfl, rfl, by omega, H.out⟩
  case round =>
    obtain ⟨j, y, rfl, rfl, hj, hI⟩ := hrel
    have HI := Lib.hid hI
    clear hI
    by_cases hgo : 0 < y ∧ j < l.length
    · have d0 : (0 : Int) < (y : Int) := by omega
      have d1 : (j : Int) < (l.length : Int) := by omega
      obtain ⟨l', hN, hlen, heq⟩ := HI.out.ex
      have HN := Lib.hid hN
      have c0 := hN.cell j (by rw [hlen]; exact hgo.2)
      have hf : wr.frozen? ⟨G, j, none⟩ = false := Kq.blk_free hN.blk j
      obtain ⟨a, b, cc, d, y2, z, q, e1, e2, e3, e4, e5, e6, e7, hy2, hz, hq, hzl, hql, e8, e9⟩ := add_facts y (l'.getD j 0) HI.out.lt (getD64 l' hN.lt j)
      have HE : Hid (AddN w G l i x (j + 1) q (wr.setCell ⟨G, j, none⟩ (.int .u64 (z : Int)))) := Lib.hid (by
        refine ⟨⟨l'.set j z, hN.set j z (by rw [hlen]; exact hgo.2) hzl, by simpa using hlen, ?_⟩, hql, HI.out.keep.trans (Kq.Keeps.setCell _ _ _ rfl)⟩
        rw [← heq, show l.length + 1 - j = (l.length + 1 - (j + 1)) + 1 by omega, Sh.addN, if_pos ⟨hgo.1, by rw [hlen]; exact hgo.2⟩, ← hy2, ← hz, ← hq])
      generalize l'.getD j 0 = v at *
      have HG := Lib.hid hgo
      clear hN hlen heq hy2 hz hq hzl hql hgo
      go_wp2
      clear e1 e2 e3 e4 e5 e6 e7 e8 e9 c0 hf
      go_roundw
      case rel => exact ⟨j + 1, q, by go_num, rfl, by have := HG.out.2; omega, HE.out⟩
      case measure => have := HG.out.2; simp [intOf]; omega
    · have HE : Hid (Nums wr G (Sh.addL l i x) ∧ Kq.Keeps (· = G) w wr) := Lib.hid (by
        obtain ⟨l', hN, hlen, heq⟩ := HI.out.ex
        refine ⟨?_, HI.out.keep⟩
        have : Sh.addN (l.length + 1 - j) l' j y = l' := by
          cases l.length + 1 - j with
          | zero => rfl
          | succ f => rw [Sh.addN, if_neg (by rw [hlen]; exact hgo)]
        rw [← heq, this]
        exact hN)
      by_cases hy : 0 < y
      · have d0 : (0 : Int) < (y : Int) := by omega
        have d1 : ¬ (j : Int) < (l.length : Int) := by omega
        clear hgo
        go_wp2
        go_end0
        exact ⟨rfl, HE.out⟩
      · have d0 : ¬ (0 : Int) < (y : Int) := by omega
        clear hgo
        go_wp2
        go_end0
        exact ⟨rfl, HE.out⟩
end Go.Proofs.YtnbapiddbcaolaaDoor
