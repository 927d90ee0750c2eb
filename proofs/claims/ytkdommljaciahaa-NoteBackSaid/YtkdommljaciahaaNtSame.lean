/- Contracts of carrackref14.SameItems, carrackref13.Notes of like lists; note.Place on the good way. Condition: lengths. -/
import Derived.WalkSpells
import Derived.Outline
import Derived.Deep.QuietTactic
import Derived.BigQuiet
import Derived.Test.YtkdommljaciahaaNtTell
namespace Go.Proofs.Ytkdommljaciahaa
open Go.RowKit
set_option linter.unusedVariables false
set_option maxRecDepth 100000 in
set_option maxHeartbeats 4000000 in
theorem same_notes (A B : Option Addr) (ca cb : Nat) (l : List NtV) (w : World) (hA : EnAt NtV.nc w A l) (hB : EnAt NtV.nc w B l) (hl : l.length ≤ 300) :
    Calls Try.prog 27 #[.slice A l.length ca, .slice B l.length cb] w fun x w' => x = .returned (.bool true) ∧ Below w.heap.size w w' := by
  have HA := Lib.hid hA
  have HB := Lib.hid hB
  have d0 : ((l.length : Int) != (l.length : Int)) = false := by simp
  clear hA hB
  go_enter Try.func27, Try.ntmps27
  go_wp2
  go_loopw [5] (fun i wr => ∃ j : Nat, j ≤ l.length ∧ i = .int .i64 (j : Int) ∧ Below w.heap.size w wr) (fun i _ => l.length - (intOf i).toNat)
  case atStart => exact ⟨0, by omega, rfl, Below.refl _ _⟩
  case round =>
    obtain ⟨j, hj, rfl, hbl⟩ := hrel
    by_cases hlt : j < l.length
    · obtain ⟨b, off, rfl, hb, hc⟩ := (HA.out.below hbl) j hlt
      obtain ⟨b2, off2, rfl, hb2, hc2⟩ := (HB.out.below hbl) j hlt
      obtain ⟨n, hn⟩ : ∃ n, n = l[j] := ⟨_, rfl⟩
      rw [← hn] at hc hc2
      have c0 := hc 0 (by omega)
      have c1 := hc 1 (by omega)
      have c2 := hc 2 (by omega)
      have c3 := hc 3 (by omega)
      have c4 := hc 4 (by omega)
      have e0 := hc2 0 (by omega)
      have e1 := hc2 1 (by omega)
      have e2 := hc2 2 (by omega)
      have e3 := hc2 3 (by omega)
      have e4 := hc2 4 (by omega)
      simp only [NtV.nc, List.getElem?_cons_zero, List.getElem?_cons_succ, Nat.add_zero] at c0 c1 c2 c3 c4 e0 e1 e2 e3 e4
      have HB' := Lib.hid hbl
      have HLT := Lib.hid hlt
      have hi0 : (j : Int) < (l.length : Int) := by omega
      clear hc hc2 hb hb2 hn hbl
      go_wp2
      go_quiet (fail)
      generalize hwq : wr.drewN nq = wq
      have HQ : Hid (Below w.heap.size w wq) := Lib.hid (by rw [← hwq]; exact below_drewN HB'.out nq)
      clear hwq HB' c0 c1 c2 c3 c4 e0 e1 e2 e3 e4
      go_wp2
      go_roundw
      case rel => exact ⟨j + 1, HLT.out, by go_num, HQ.out⟩
      case measure => have := HLT.out; simp [intOf]; omega
    · obtain rfl : j = l.length := by omega
      have HB' := Lib.hid hbl
      clear hbl
      go_wp2
      go_ret
      exact ⟨rfl, HB'.out⟩
set_option maxRecDepth 100000 in
set_option maxHeartbeats 4000000 in
theorem same_items (A B : Option Addr) (ca cb : Nat) (l : List NtV) (w : World) (hA : EnAt NtV.ic w A l) (hB : EnAt NtV.ic w B l) (hl : l.length ≤ 300) :
    Calls Try.prog 25 #[.slice A l.length ca, .slice B l.length cb] w fun x w' => x = .returned (.bool true) ∧ Below w.heap.size w w' := by
  have HA := Lib.hid hA
  have HB := Lib.hid hB
  have d0 : ((l.length : Int) != (l.length : Int)) = false := by simp
  clear hA hB
  go_enter Try.func25, Try.ntmps25
  go_wp2
  go_loopw [5] (fun i wr => ∃ j : Nat, j ≤ l.length ∧ i = .int .i64 (j : Int) ∧ Below w.heap.size w wr) (fun i _ => l.length - (intOf i).toNat)
  case atStart => exact ⟨0, by omega, rfl, Below.refl _ _⟩
  case round =>
    obtain ⟨j, hj, rfl, hbl⟩ := hrel
    by_cases hlt : j < l.length
    · obtain ⟨b, off, rfl, hb, hc⟩ := (HA.out.below hbl) j hlt
      obtain ⟨b2, off2, rfl, hb2, hc2⟩ := (HB.out.below hbl) j hlt
      obtain ⟨n, hn⟩ : ∃ n, n = l[j] := ⟨_, rfl⟩
      rw [← hn] at hc hc2
      have c0 := hc 0 (by omega)
      have c1 := hc 1 (by omega)
      have c2 := hc 2 (by omega)
      have c3 := hc 3 (by omega)
      have c4 := hc 4 (by omega)
      have e0 := hc2 0 (by omega)
      have e1 := hc2 1 (by omega)
      have e2 := hc2 2 (by omega)
      have e3 := hc2 3 (by omega)
      have e4 := hc2 4 (by omega)
      simp only [NtV.ic, List.getElem?_cons_zero, List.getElem?_cons_succ, Nat.add_zero] at c0 c1 c2 c3 c4 e0 e1 e2 e3 e4
      have HB' := Lib.hid hbl
      have HLT := Lib.hid hlt
      have hi0 : (j : Int) < (l.length : Int) := by omega
      clear hc hc2 hb hb2 hn hbl
      go_wp2
      go_quiet (fail)
      generalize hwq : wr.drewN nq = wq
      have HQ : Hid (Below w.heap.size w wq) := Lib.hid (by rw [← hwq]; exact below_drewN HB'.out nq)
      clear hwq HB' c0 c1 c2 c3 c4 e0 e1 e2 e3 e4
      go_wp2
      go_roundw
      case rel => exact ⟨j + 1, HLT.out, by go_num, HQ.out⟩
      case measure => have := HLT.out; simp [intOf]; omega
    · obtain rfl : j = l.length := by omega
      have HB' := Lib.hid hbl
      clear hbl
      go_wp2
      go_ret
      exact ⟨rfl, HB'.out⟩
set_option maxRecDepth 100000 in
set_option maxHeartbeats 2000000 in
theorem nt_place_read (B a i : Nat) (rest : List Nat) (w : World) (h : RdL w B (num8 a ++ (num8 i ++ rest))) (ha : a < 18446744073709551616) (hi : i ≤ 65535) :
    Calls Try.prog 24 #[.pointer (some ⟨B, 0, none⟩)] w (LPost w B (.agg #[.int .u64 (a : Int), .int .i64 (i : Int)]) rest) := by
  have hb := Kq.below_alloc w (.cells #[.int .u64 0, .int .i64 0] 26)
  have H : Hid (RdL (w.alloc (.cells #[.int .u64 0, .int .i64 0] 26)) B (num8 a ++ (num8 i ++ rest)) ∧ QB (w.alloc (.cells #[.int .u64 0, .int .i64 0] 26)) w.heap.size 0 0 ∧ Below w.heap.size w (w.alloc (.cells #[.int .u64 0, .int .i64 0] 26)) ∧ B < w.heap.size) := Lib.hid ⟨h.below hb, ⟨Kq.blk_new _ _ _ _⟩, hb, h.lt⟩
  have HA := Lib.hid (And.intro ha hi)
  have d1 : decide ((65535 : Int) < (i : Int)) = false := decide_eq_false (by omega)
  have hw1 : IntKind.i64.wrap (i : Int) = (i : Int) := IntWalk.i64_in _ (by omega)
  clear h ha hi hb
  go_enter Try.func24, Try.ntmps24
  go_wp2_with fail
  refine (rl_number B a _ _ H.out.1 (by have := HA.out.1; unfold M64; omega)).mono ?_
  rintro x w1 ⟨rfl, R1, K1⟩
  have H1 : Hid (RdL w1 B (num8 i ++ rest) ∧ QB w1 w.heap.size 0 0 ∧ Kq.Keeps (· = B) w w1 ∧ B < w.heap.size) := Lib.hid ⟨R1, H.out.2.1.later K1 (fun e => by have := H.out.2.2.2; omega), (Kq.Keeps.of_below H.out.2.2.1 (fun k h1 h2 => absurd h2 (Nat.not_lt.2 h1))).trans K1, H.out.2.2.2⟩
  clear R1 K1 H
  go_wp2_with fail
  refine (rl_number B i _ _ H1.out.1 (by have := HA.out.2; unfold M64; omega)).mono ?_
  rintro x w2 ⟨rfl, R2, K2⟩
  have H2 : Hid (RdL w2 B rest ∧ QB w2 w.heap.size 0 0 ∧ Kq.Keeps (· = B) w w2 ∧ B < w.heap.size) := Lib.hid ⟨R2, H1.out.2.1.later K2 (fun e => by have := H1.out.2.2.2; omega), H1.out.2.2.1.trans K2, H1.out.2.2.2⟩
  clear R2 K2 H1
  go_wp2_with fail
  refine (rl_err B _ w2 H2.out.1).mono ?_
  rintro x w3 ⟨rfl, rfl⟩
  have c0 := H2.out.2.1.c0
  have c1 := H2.out.2.1.c1
  have f0 := Kq.blk_free H2.out.2.1.blk 0
  have f1 := Kq.blk_free H2.out.2.1.blk 1
  go_wp2
  have HZ : Hid (LPost w B (.agg #[.int .u64 (a : Int), .int .i64 (i : Int)]) rest (.returned (.agg #[.int .u64 (a : Int), .int .i64 (i : Int)])) ((w2.setCell ⟨w.heap.size, 0, none⟩ (.int .u64 (a : Int))).setCell ⟨w.heap.size, 1, none⟩ (.int .i64 (i : Int))) ∧ QB ((w2.setCell ⟨w.heap.size, 0, none⟩ (.int .u64 (a : Int))).setCell ⟨w.heap.size, 1, none⟩ (.int .i64 (i : Int))) w.heap.size a i) := Lib.hid (by
    have k1 : Kq.Keeps (· = w.heap.size) w2 ((w2.setCell ⟨w.heap.size, 0, none⟩ (.int .u64 (a : Int))).setCell ⟨w.heap.size, 1, none⟩ (.int .i64 (i : Int))) := (Kq.Keeps.setCell (S := (· = w.heap.size)) w2 ⟨w.heap.size, 0, none⟩ _ rfl).trans (Kq.Keeps.setCell _ ⟨w.heap.size, 1, none⟩ _ rfl)
    have k0 := H2.out.2.2.1
    refine ⟨⟨rfl, H2.out.1.keeps k1 (fun e => by have := H2.out.2.2.2; omega), ?_⟩, ⟨Kq.blk_set (Kq.blk_set H2.out.2.1.blk 0 _) 1 _⟩⟩
    exact ⟨k1.os.trans k0.os, k1.tape.trans k0.tape, k1.output.trans k0.output, Nat.le_trans k0.size k1.size, fun g hg hn => by rw [k1.block g (Nat.lt_of_lt_of_le hg k0.size) (Nat.ne_of_lt hg), k0.block g hg hn]⟩)
  generalize (w2.setCell ⟨w.heap.size, 0, none⟩ (.int .u64 (a : Int))).setCell ⟨w.heap.size, 1, none⟩ (.int .i64 (i : Int)) = wl at *
  have r0 := HZ.out.2.c0
  have r1 := HZ.out.2.c1
  refine bodyPost_ret (v := .agg #[.int .u64 (a : Int), .int .i64 (i : Int)]) (by simp [results, Try.results24, go_sem, r0, r1]) rfl ?_
  exact HZ.out.1
end Go.Proofs.Ytkdommljaciahaa
