/- Contracts of the laws' notes, one. Condition: few acts. -/
import Derived.WalkSpells
import Derived.Outline
import Derived.Deep.QuietTactic
import Derived.Deep.RegionHeld
import Derived.Test.YtmckpoeolfggmaaTwDo
namespace Go.Proofs.Ytmckpoeolfggmaa
open Go.RowKit
set_option linter.unusedVariables false
def nE : Kq.Elt NtV := ⟨5, NtV.nc, fun _ => rfl, fun x u hu => by
  unfold NtV.nc at hu
  simp only [List.mem_cons, List.not_mem_nil, or_false] at hu
  rcases hu with rfl | rfl | rfl | rfl | rfl <;> rfl, by decide⟩
theorem nE_at {w : World} {A : Option Addr} {l : List NtV} : nE.At w A l ↔ EnAt NtV.nc w A l := Iff.rfl
theorem infoNtT : (Try.prog.info? 40).map (fun i => (i.zero, i.size, i.bytes)) = some (some (.agg #[.int .i64 0, .int .i64 0, .int .u64 0, .int .u64 0, .string ⟨#[]⟩]), 5, 48) := by kernel_rfl
set_option maxRecDepth 100000 in
set_option maxHeartbeats 4000000 in
theorem notes15 (A : Option Addr) (cap : Nat) (l : List AcV) (w : World) (hl : l.length ≤ 100) (hA : acE.At w A l) :
    Calls Try.prog 10 #[.slice A l.length cap] w fun x w' => ∃ A' c', x = .returned (.slice A' (l.map AcV.n).length c') ∧ EnAt NtV.nc w' A' (l.map AcV.n) ∧ Below w.heap.size w w' := by
  obtain ⟨i0, hi0, hz0, hz1, hz2⟩ := info_partsF infoNtT
  have HA := Lib.hid hA
  have HL := Lib.hid hl
  clear hA hl
  go_enter Try.func10, Try.ntmps10
  go_wp2
  go_loopw [3, 4] (fun v i wr => ∃ j : Nat, j ≤ l.length ∧ i = .int .i64 (j : Int) ∧ wr.ownsRow w.heap.size 40 5 v j (nE.flat ((l.map AcV.n).take j)) ∧ Below w.heap.size w wr) (fun _ i _ => l.length - (intOf i).toNat)
  case atStart => exact ⟨0, Nat.zero_le _, rfl, World.ownsRow_nil _ _ _ _, Below.refl _ _⟩
  case round =>
    obtain ⟨j, hj, rfl, hown, hbl⟩ := hrel
    have HO := Lib.hid (And.intro hown hbl)
    by_cases hlt : j < l.length
    · have hi0' : (j : Int) < (l.length : Int) := by omega
      obtain ⟨b, off, rfl, hb, hc⟩ := (HA.out.below hbl) j hlt
      obtain ⟨e, he⟩ : ∃ e, e = l[j] := ⟨_, rfl⟩
      rw [← he] at hc
      have HN : Hid ((l.map AcV.n).take (j + 1) = (l.map AcV.n).take j ++ [e.n]) := Lib.hid (by rw [← List.map_take, ← List.map_take, List.take_succ_eq_append_getElem hlt, List.map_append, he]; rfl)
      have HLT := Lib.hid hlt
      obtain ⟨a', n', c', rfl⟩ := Kq.own_shape hown
      have hj60 : j ≤ 100 := by have := HL.out; omega
      have c1 := hc 1 (by decide)
      have c2 := hc 2 (by decide)
      have c3 := hc 3 (by decide)
      have c4 := hc 4 (by decide)
      have c5 := hc 5 (by decide)
      obtain ⟨dr, k, f, q, t, d⟩ := e
      simp only [acE, AcV.c, List.getElem?_cons_zero, List.getElem?_cons_succ] at c1 c2 c3 c4 c5
      have HAL : Hid (nE.At (wr.alloc (.cells #[.int .i64 k, .int .i64 f, .int .u64 q, .int .u64 t, .string d] 40)) (some ⟨wr.heap.size, 0, none⟩) [⟨k, f, q, t, d⟩] ∧ (wr.alloc (.cells #[.int .i64 k, .int .i64 f, .int .u64 q, .int .u64 t, .string d] 40)).ownsRow w.heap.size 40 5 (.slice a' n' c') j (nE.flat ((l.map AcV.n).take j)) ∧ Below w.heap.size w (wr.alloc (.cells #[.int .i64 k, .int .i64 f, .int .u64 q, .int .u64 t, .string d] 40))) := Lib.hid ⟨Kq.Elt.made_one (E := nE) ⟨k, f, q, t, d⟩ wr 40, own_belowF HO.out.1 (Kq.below_alloc wr _), hbl.trans ((Kq.below_alloc wr _).mono hbl.size)⟩
      clear hown hbl hb he hc
      go_wp2_with (at_builtin; refine Kq.wpList_append_any _ rfl (.tmp 11) (.tmp 17) 24 24 rfl w.heap.size 40 i0 (.agg #[.int .i64 0, .int .i64 0, .int .u64 0, .int .u64 0, .string ⟨#[]⟩]) 5 48 Try.underlying24 hi0 hz0 hz1 hz2 rfl (by decide) (.slice a' n' c') j (nE.flat ((l.map AcV.n).take j)) rfl HAL.out.2.1 (.slice (some ⟨wr.heap.size, 0, none⟩) 1 1) 1 (nE.flat [⟨k, f, q, t, d⟩]) rfl (HAL.out.1.src Try.underlying24 1) ?h1 ?h2 HAL.out.2.2.size ?_)
      case h1 => unfold maxLen; omega
      case h2 => omega
      intro v' z2 hown2 hgrow hfresh
      have hbg : Below w.heap.size (wr.alloc (.cells #[.int .i64 k, .int .i64 f, .int .u64 q, .int .u64 t, .string d] 40)) z2 := (Kq.Keeps.grown (S := fun k => w.heap.size ≤ k) hgrow (fun k _ e => own_geF HAL.out.2.1 e)).below HAL.out.2.2.size (fun k _ h => h)
      have HD2 : Hid (z2.ownsRow w.heap.size 40 5 v' (j + 1) (nE.flat ((l.map AcV.n).take (j + 1))) ∧ Below w.heap.size w z2) := Lib.hid ⟨by rw [HN.out, nE.flat_append]; exact hown2, HAL.out.2.2.trans hbg⟩
      clear hown2 hgrow hfresh hbg HAL
      go_wp2
      go_roundw
      case rel => exact ⟨j + 1, HLT.out, by go_num, HD2.out⟩
      case measure => have := HLT.out; simp [intOf]; omega
    · obtain rfl : j = l.length := by omega
      have HR : Hid (∃ A' c', u3 = .slice A' (l.map AcV.n).length c' ∧ EnAt NtV.nc wr A' (l.map AcV.n)) := Lib.hid (by
        have h := HO.out.1
        rw [← List.map_take, List.take_length] at h
        have h2 : wr.ownsRow w.heap.size 40 nE.n u3 (l.map AcV.n).length (nE.flat (l.map AcV.n)) := by rw [List.length_map]; exact h
        obtain ⟨A', c', e, _, hat, _⟩ := Kq.Elt.own_at h2
        exact ⟨A', c', e, nE_at.1 hat⟩)
      have HB := Lib.hid hbl
      clear hown hbl hlt
      go_wp2
      go_ret
      obtain ⟨A', c', e, h⟩ := HR.out
      exact ⟨A', c', by rw [e]; rfl, h, HB.out⟩
set_option maxRecDepth 100000 in
theorem one15 (k q : Int) (w : World) : Calls Try.prog 27 #[.int .i64 k, .int .u64 q] w fun x w' => x = .returned (.agg #[.int .i64 k, .int .i64 0, .int .u64 q, .int .u64 1, .string ⟨#[]⟩]) ∧ Below w.heap.size w w' := by
  go_enter Try.func27, Try.ntmps27
  go_wp2
  refine bodyPost_ret (v := .agg #[.int .i64 k, .int .i64 0, .int .u64 q, .int .u64 1, .string ⟨#[]⟩]) (by simp [results, Try.results27, go_sem]) rfl ⟨rfl, Kq.below_alloc _ _⟩
end Go.Proofs.Ytmckpoeolfggmaa
