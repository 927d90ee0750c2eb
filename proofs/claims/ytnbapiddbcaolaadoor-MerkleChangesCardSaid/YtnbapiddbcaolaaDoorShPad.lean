/- Contract of (*sha.state).padding: what ends a text of a length. Condition: a state lies there. -/
import Derived.Test.YtnbapiddbcaolaaDoorShDig
namespace Go.Proofs.YtnbapiddbcaolaaDoor
open Go.RowKit
set_option linter.unusedVariables false
theorem mk_len (w : World) (z c : Int) (n m : Nat) (hz : z = (n : Int)) (hc : c = (m : Int)) (hnm : n ≤ m) (hn : m ≤ 3000000) :
    (Instr.makeSlice 61 (.int .i64 z) (.int .i64 c)).run Tryd.prog w = .ok (.slice (some ⟨w.heap.size, 0, none⟩) n m) (w.alloc (.cells (madeCells (Value.int IntKind.u8 0).cells m) 5)) := by
  obtain ⟨i0, hi, hz0, hz1, hz2⟩ := info_partsH infoU8H
  subst hz hc
  have := run_makeSlice (P := Tryd.prog) w 61 5 i0 (.int .u8 0) Tryd.underlying61 hi hz0 .i64 .i64 (n : Int) (m : Int) (by omega) (by omega) (by rw [hz1]; simp; omega) (by rw [hz2]; omega) (by omega)
  rw [hz1] at this
  simpa using this
theorem made_zeros (m : Nat) : (madeCells (Value.int IntKind.u8 0).cells m) = ((List.replicate m 0).map fun (b : Nat) => Value.int .u8 (b : Int)).toArray := by
  apply Array.toList_inj.1
  rw [show (Value.int IntKind.u8 0).cells = #[Value.int IntKind.u8 0] from rfl, toList_madeCells_one]
  simp
/-- 128 and zeros, with room for eight more -/
theorem pad_row (w : World) (z : Nat) (hz : z ≤ 1000) :
    (w.alloc (.cells ((madeCells (Value.int IntKind.u8 0).cells (1 + z + 8)).setIfInBounds 0 (.int .u8 128)) 5)).ownsRow w.heap.size 5 1 (.slice (some ⟨w.heap.size, 0, none⟩) (1 + z) (1 + z + 8)) (1 + z) (shcells (128 :: List.replicate z 0)) := by
  refine ⟨by simp [shcells]; omega, .inr ⟨w.heap.size, 1 + z + 8, _, rfl, Nat.le_refl _, heap_alloc_new w _, by omega, by unfold maxLen; omega, ?_, ?_⟩⟩
  · rw [Array.size_setIfInBounds, size_madeCells]; simp
  · rw [Array.toList_setIfInBounds, made_zeros, List.toList_toArray]
    have e : List.replicate (1 + z + 8) 0 = 0 :: (List.replicate z 0 ++ List.replicate 8 0) := by
      rw [List.replicate_append_replicate, show 1 + z + 8 = (z + 8) + 1 by omega, List.replicate_succ]
    rw [e]
    simp only [List.map_cons, List.set_cons_zero, Nat.mul_one]
    rw [show 1 + z = z + 1 by omega, List.take_succ_cons, List.map_append, List.take_append_of_le_length (by simp), List.take_of_length_le (by simp)]
    simp [shcells]
/-- the first bytes of eight -/
def padL (n k : Nat) : List Nat := 128 :: (List.replicate ((64 + 55 - n % 64) % 64) 0 ++ (Sh.be8 (n * 8 % 18446744073709551616)).take k)
theorem padL_lt (n k : Nat) : ∀ b ∈ padL n k, b < 256 := by
  intro b hb
  simp only [padL, List.mem_cons, List.mem_append] at hb
  rcases hb with rfl | hb | hb
  · decide
  · rw [List.eq_of_mem_replicate hb]; decide
  · have := List.mem_of_mem_take hb
    simp only [Sh.be8, List.mem_append] at this
    rcases this with h | h
    · exact be4_lt _ b h
    · exact be4_lt _ b h
theorem padL_eight (n : Nat) : padL n 8 = Sh.padding n := by
  unfold padL Sh.padding
  rw [List.take_of_length_le (by simp [Sh.be8, Sh.be4])]
theorem padL_succ (n k s : Nat) (hk : k < 8) (hs : s = 56 - 8 * k) (hn : n ≤ 1000000000) : padL n (k + 1) = padL n k ++ [n * 8 / 2 ^ s % 256] := by
  have e : n * 8 % 18446744073709551616 = n * 8 := by omega
  unfold padL
  rw [e, List.cons_append, List.append_assoc]
  congr 2
  have h8 : Sh.be8 (n * 8) = [0, 0, 0, n * 8 / 4294967296 % 256, n * 8 / 16777216 % 256, n * 8 / 65536 % 256, n * 8 / 256 % 256, n * 8 % 256] := by
    unfold Sh.be8 Sh.be4 Sh.M32
    simp only [List.cons_append, List.nil_append, List.cons.injEq, and_true]
    omega
  rw [h8]
  rcases k with _ | _ | _ | _ | _ | _ | _ | _ | k
  all_goals first | (subst hs; simp only [List.take_succ_cons, List.take_zero, List.cons_append, List.nil_append, List.cons.injEq, and_true, true_and]; (try omega)) | omega
theorem shr_byte (x s : Nat) : IntKind.u8.wrap ((x : Int) / 2 ^ s) = ((x / 2 ^ s % 256 : Nat) : Int) := by
  have : ((x : Int) / 2 ^ s) = ((x / 2 ^ s : Nat) : Int) := by norm_cast
  rw [this, IntKind.wrap_u8]
  omega
set_option maxRecDepth 100000 in
set_option maxHeartbeats 2000000 in
theorem sh_padding (B : Nat) (t : TypeId) (ws b : List Nat) (n : Nat) (w : World) (h : StS w B t ws b n) (hn : n ≤ 1000000000) :
    Calls Tryd.prog 48 #[.pointer (some ⟨B, 0, none⟩)] w fun x w' => x = .returned (.string (txt (Sh.padding n))) ∧ Below w.heap.size w w' := by
  obtain ⟨i0, hi, hz0, hz1, hz2⟩ := info_partsH infoU8H
  have c72 := h.len
  have H := Lib.hid h
  clear h
  obtain ⟨q, hq⟩ : ∃ q, q = n % 64 := ⟨_, rfl⟩
  obtain ⟨y, hy⟩ : ∃ y, y = 119 - q := ⟨_, rfl⟩
  obtain ⟨z, hz⟩ : ∃ z, z = (64 + 55 - n % 64) % 64 := ⟨_, rfl⟩
  have e1 : (n : Int) % 64 = (q : Int) := by omega
  have e2 : (119 : Int) - (q : Int) = (y : Int) := by omega
  have e2' : IntKind.i64.wrap ((119 : Int) - (q : Int)) = (y : Int) := by rw [e2, IntWalk.i64_in _ (by omega)]
  have e2'' : IntKind.i64.wrap (y : Int) = (y : Int) := IntWalk.i64_in _ (by omega)
  have e3 : (y : Int) % 64 = (z : Int) := by omega
  have hz63 : z ≤ 63 := by omega
  have hz64 : (z : Int) ≤ 63 := by omega
  have hmk := fun w => mk_len w (1 + (z : Int)) (1 + (z : Int) + 8) (1 + z) (1 + z + 8) (by omega) (by omega) (by omega) (by omega)
  have HROW := Lib.hid (pad_row w z (by omega))
  have hP0 : Hid (128 :: List.replicate z 0 = padL n 0) := Lib.hid (by unfold padL; rw [← hz]; simp)
  have g0 : (0 : Int) < ((1 + z : Nat) : Int) := by omega
  have hu1 : IntKind.u64.wrap (n : Int) = (n : Int) := by rw [IntWalk.u64_in _ (by omega)]
  have hu2 : IntKind.u64.wrap ((n : Int) * 8) = ((n * 8 : Nat) : Int) := by rw [IntWalk.u64_in _ (by omega)]; omega
  have hu3 : (n : Int) * 8 = ((n * 8 : Nat) : Int) := by omega
  have HZ := Lib.hid hz
  clear hz hy hq
  obtain ⟨L, hL⟩ : ∃ L, L = n * 8 := ⟨_, rfl⟩
  rw [← hL] at hu2 hu3
  have HL := Lib.hid hL
  clear hL
  have hc0 : (w.alloc (.cells (madeCells #[Value.int IntKind.u8 0] (1 + z + 8)) 5)).cell? ⟨w.heap.size, 0, none⟩ = some (.int .u8 0) := by
    rw [Kq.blk_cell (heap_alloc_new w _) 0]
    have := made_zeros (1 + z + 8)
    rw [show (Value.int IntKind.u8 0).cells = #[Value.int IntKind.u8 0] from rfl] at this
    rw [this, show 1 + z + 8 = (z + 8) + 1 by omega, List.replicate_succ]
    simp
  have hf0 : (w.alloc (.cells (madeCells #[Value.int IntKind.u8 0] (1 + z + 8)) 5)).frozen? ⟨w.heap.size, 0, none⟩ = false := Kq.blk_free (heap_alloc_new w _) 0
  have c72' : (w.alloc (.cells (madeCells #[Value.int IntKind.u8 0] (1 + z + 8)) 5)).cell? ⟨B, 72, none⟩ = some (.int .i64 (n : Int)) := ((Kq.below_alloc w _).cell (p := ⟨B, 72, none⟩) H.out.lt).trans c72
  have hBne : B < w.heap.size := H.out.lt
  go_enter Tryd.func48, Tryd.ntmps48
  go_wp2
  generalize hw1 : w.alloc _ = w1
  have HB1 : Hid (Below w.heap.size w w1) := Lib.hid (by rw [← hw1]; exact Kq.below_alloc w _)
  have HROW : Hid (w1.ownsRow w.heap.size 5 1 (.slice (some ⟨w.heap.size, 0, none⟩) (1 + z) (1 + z + 8)) (1 + z) (shcells (padL n 0))) := Lib.hid (by rw [← hw1, ← hP0.out]; exact HROW.out)
  clear hw1 hc0 hf0 c72 c72' hmk e1 e2 e2' e2'' e3 g0 hu1 hu2 hu3
  go_loopw [4, 6] (fun o i wr => ∃ (k : Nat) (s : Int) (v : Value), k ≤ 8 ∧ s = 56 - 8 * (k : Int) ∧ i = .int .i64 s ∧ o = v ∧ wr.ownsRow w.heap.size 5 1 v (1 + z + k) (shcells (padL n k)) ∧ Below w.heap.size w wr) (fun _ i _ => (intOf i + 8).toNat)
  case atStart => exact ⟨0, 56, _, Nat.zero_le _, by omega, rfl, rfl, HROW.out, HB1.out⟩
  case round =>
    obtain ⟨k, s, v, hk, hs, rfl, hov, hrow, hbel⟩ := hrel
    have hov := hov.symm
    subst hov
    have HR := Lib.hid (And.intro hrow hbel)
    clear hrow hbel
    by_cases hlt : k < 8
    · obtain ⟨σ, hσ⟩ : ∃ σ : Nat, s = (σ : Int) := ⟨56 - 8 * k, by omega⟩
      subst hσ
      have hs8 : σ = 56 - 8 * k := by omega
      have HSG := Lib.hid hs8
      have l1 : (0 : Int) ≤ (σ : Int) := by omega
      have l2 : (σ : Int) ≤ 56 := by omega
      have HT := Lib.hid (padL_succ n k σ hlt hs8 hn)
      rw [← HL.out] at HT
      have hsb := shr_byte L σ
      obtain ⟨y0, hy0⟩ : ∃ y0, y0 = L / 2 ^ σ % 256 := ⟨_, rfl⟩
      rw [← hy0] at hsb HT
      clear hy0 hs hs8
      go_wp2_with (at_builtin; refine Kq.wpList_append_any _ rfl (.tmp 32) (.tmp 37) 61 61 rfl w.heap.size 5 i0 (.int .u8 0) 1 1 Tryd.underlying61 hi hz0 hz1 hz2 rfl (by decide) _ (1 + z + k) (shcells (padL n k)) rfl (HR.out.1.alloc _) (.slice (some ⟨wr.heap.size, 0, none⟩) 1 1) 1 (shcells [y0]) rfl ?hs ?h1 ?h2 ?h3 ?_)
      case hs => exact src_bytes wr [y0] 1 rfl
      case h1 => unfold maxLen; omega
      case h2 => omega
      case h3 => have := HR.out.2.size; simp; omega
      intro v' w' hown hgrow hfresh
      have HO : Hid (w'.ownsRow w.heap.size 5 1 v' (1 + z + (k + 1)) (shcells (padL n (k + 1))) ∧ Below w.heap.size w w') := by
        rw [HT.out]
        have e : shcells (padL n k ++ [y0]) = shcells (padL n k) ++ shcells [y0] := by simp [shcells]
        rw [e, show 1 + z + (k + 1) = 1 + z + k + 1 by omega]
        have hbq := HR.out.2.trans ((Kq.below_alloc wr (.cells (shcells [y0]).toArray 5)).mono HR.out.2.size)
        have k1 : Kq.Keeps (fun j => w.heap.size ≤ j) w (wr.alloc (.cells (shcells [y0]).toArray 5)) := Kq.Keeps.of_below hbq (fun j h1 h2 => h1)
        have k2 : Kq.Keeps (fun j => w.heap.size ≤ j) (wr.alloc (.cells (shcells [y0]).toArray 5)) w' := Kq.Keeps.grown hgrow (fun j _ hj => (HR.out.1.lt j hj).1)
        exact Lib.hid ⟨hown, (k1.trans k2).below (Nat.le_refl _) (fun j _ hj => hj)⟩
      clear hown hgrow hfresh hsb
      go_wp2
      go_roundw
      case rel => exact ⟨k + 1, _, _, by omega, by have := HSG.out; omega, rfl, rfl, HO.out.1, HO.out.2⟩
      case measure => simp [intOf]; omega
    · have h8 : k = 8 := by omega
      obtain rfl : s = -8 := by omega
      rw [h8] at HR
      have hcv := conv_own HR.out.1 (by unfold padL; rw [← HZ.out]; simp [Sh.be8, Sh.be4]; omega) (padL_lt n 8)
      rw [padL_eight] at hcv
      clear h8 hs hk hlt
      go_wp2
      go_ret
      exact ⟨rfl, HR.out.2⟩
end Go.Proofs.YtnbapiddbcaolaaDoor
