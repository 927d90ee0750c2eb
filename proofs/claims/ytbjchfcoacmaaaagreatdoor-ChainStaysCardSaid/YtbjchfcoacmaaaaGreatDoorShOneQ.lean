/- Merged: ShDig, ShPad, ShNew, ShSum, ShOne. Contract of (*sha.state).digest: the words by their bytes. Condition: a state lies there. Contract of (*sha.state).padding: what ends a text of a length. Condition: a state lies there. Contracts of sha.New, (*Hash).Write, (*Hash).Len, (*Hash).Sum. Condition: the constants lie where they lie; sizes. Contract of sha.Sum: the digest of parts. Condition: the constants lie where they lie; sizes. Contracts of sha.Sum at one text, and at two. Condition: the constants lie where they lie; sizes. -/
import Derived.Deep.MidRow
import Derived.Test.YtbjchfcoacmaaaaGreatDoorShHex2Q
import Derived.Test.YtbjchfcoacmaaaaGreatDoorShAddQ
import Derived.Test.YtbjchfcoacmaaaaGreatDoorCommonQ
namespace Go.Proofs.YtbjchfcoacmaaaaGreatDoor
open Go.RowKit
set_option linter.unusedVariables false
def outL (ws : List Nat) (k : Nat) : List Nat := (ws.take k).flatMap Sh.be4
theorem outL_succ (ws : List Nat) (k : Nat) (h : k < ws.length) : outL ws (k + 1) = outL ws k ++ Sh.be4 (ws.getD k 0) := by
  unfold outL
  rw [List.take_succ_eq_append_getElem h, List.flatMap_append]
  simp [h]
theorem outL_len (ws : List Nat) (k : Nat) (h : k ≤ ws.length) : (outL ws k).length = 4 * k := by
  induction k with
  | zero => simp [outL]
  | succ k ih =>
    rw [outL_succ ws k (by omega), List.length_append, ih (by omega)]
    simp [Sh.be4]
    omega
theorem be4_lt (x : Nat) : ∀ b ∈ Sh.be4 x, b < 256 := by
  intro b hb
  simp only [Sh.be4, List.mem_cons, List.not_mem_nil, or_false] at hb
  rcases hb with rfl | rfl | rfl | rfl <;> exact Nat.mod_lt _ (by decide)
theorem outL_lt (ws : List Nat) (k : Nat) : ∀ b ∈ outL ws k, b < 256 := by
  intro b hb
  simp only [outL, List.mem_flatMap] at hb
  obtain ⟨x, _, hb⟩ := hb
  exact be4_lt x b hb
theorem outL_all (s : Sh.S8) : outL (toL s) 8 = Sh.out s := by simp [outL, toL, Sh.out]
theorem be4_facts (x : Nat) : ∃ a b c d : Nat, Sh.be4 x = [a, b, c, d] ∧ IntKind.u8.wrap ((x : Int) / 16777216) = (a : Int) ∧ IntKind.u8.wrap ((x : Int) / 65536) = (b : Int) ∧ IntKind.u8.wrap ((x : Int) / 256) = (c : Int) ∧ IntKind.u8.wrap (x : Int) = (d : Int) := by
  refine ⟨_, _, _, _, rfl, ?_, ?_, ?_, ?_⟩ <;> rw [IntKind.wrap_u8] <;> omega
theorem src_bytes (w : World) (l : List Nat) (n : Nat) (hn : n = l.length) : Src Tryz.prog 1 157 (.slice (some ⟨w.heap.size, 0, none⟩) n n) n (shcells l) (w.alloc (.cells (shcells l).toArray 5)) := by
  subst hn
  refine Src.ofSlice _ Tryz.underlying157 ⟨w.heap.size, 0, none⟩ l.length l.length (shcells l) (by simp [shcells]) (fun j u hj => Kq.cell_new _ _ _ (by
    rw [List.getElem?_toArray]; exact hj)) (fun u hu => by
    simp only [shcells, List.mem_map] at hu
    obtain ⟨x, _, rfl⟩ := hu
    rfl)
theorem info46 : (Tryz.prog.info? 231).map (·.size) = some 8 := by kernel_rfl
set_option maxRecDepth 100000 in
set_option maxHeartbeats 2000000 in
theorem sh_digest (B : Nat) (t : TypeId) (ws b : List Nat) (n0 : Nat) (w : World) (h : StS w B t ws b n0) :
    Calls Tryz.prog 166 #[.pointer (some ⟨B, 0, none⟩)] w fun x w' => x = .returned (.string (txt (outL ws 8))) ∧ Below w.heap.size w w' := by
  obtain ⟨i0, hi, hz0, hz1, hz2⟩ := info_partsH infoU8H
  have H := Lib.hid h
  clear h
  obtain ⟨n, hn⟩ : ∃ n, n = 32 := ⟨_, rfl⟩
  have hmk := fun w => mk_cap w 32 n (by omega) (by omega)
  have HROW := Lib.hid (made_row w n (by omega))
  clear hn
  have hrg : (w.alloc (.cells (madeCells (Value.int IntKind.u8 0).cells n) 5)).rangeAt B 0 (wcl ws) := fun j v hj => by
    have hj8 : j < 8 := by
      have := (List.getElem?_eq_some_iff.1 hj).1
      simpa [wcl, H.out.w8] using this
    have h1 := (H.out.below (Kq.below_alloc w _)).word (w := w.alloc (.cells (madeCells (Value.int IntKind.u8 0).cells n) 5)) j hj8
    rw [Nat.zero_add, h1, ← hj]
    have := wcl_at ws j (by rw [H.out.w8]; exact hj8)
    rw [List.getElem?_toArray] at this
    exact this.symm
  have hii : (Tryz.prog.info? 231).map (·.size) = some (wcl ws).length := by
    have : (wcl ws).length = 8 := by simp [wcl, H.out.w8]
    rw [this]; exact info46
  have HLD := Lib.hid (And.intro hrg hii)
  clear hrg hii
  go_enter Tryz.func166, Tryz.ntmps166
  go_wp2_with (refine wpList_load_mid (by rfl) 231 (.tmp 9) (by rfl) B 0 (by rfl) (wcl ws) _ HLD.out.1 Tryz.underlying231 rfl HLD.out.2 ?_)
  have HIX : Hid (∀ (k : Nat) (w : World), k < 8 → (Instr.index 231 (.agg (wcl ws).toArray) (.int .i64 (k : Int))).run Tryz.prog w = .ok (.int .u32 ((ws.getD k 0 : Nat) : Int)) w) := Lib.hid (fun k w hk => index8 ws H.out.w8 k hk w)
  generalize (wcl ws).toArray = vs at *
  clear hmk
  have HB0 := Lib.hid (Kq.below_alloc w (.cells (madeCells (Value.int IntKind.u8 0).cells n) 5))
  obtain ⟨w1, hw1⟩ : ∃ z, z = w.alloc (.cells (madeCells (Value.int IntKind.u8 0).cells n) 5) := ⟨_, rfl⟩
  have hw1' : w.alloc (.cells (madeCells #[Value.int IntKind.u8 0] n) 5) = w1 := hw1.symm
  rw [hw1']
  rw [← hw1] at HROW HB0
  clear hw1 hw1'
  clear HLD
  go_loopw [3, 11] (fun o i wr => ∃ k : Nat, ∃ v : Value, k ≤ 8 ∧ i = .int .i64 (k : Int) ∧ o = v ∧ wr.ownsRow w.heap.size 5 1 v (4 * k) (shcells (outL ws k)) ∧ Below w.heap.size w wr) (fun _ i _ => 8 - (intOf i).toNat)
  case atStart => exact ⟨0, _, Nat.zero_le _, rfl, rfl, HROW.out, HB0.out⟩
  case round =>
    obtain ⟨k, v, hk, rfl, hov, hrow, hbel⟩ := hrel
    have hov := hov.symm
    subst hov
    have HR := Lib.hid (And.intro hrow hbel)
    clear hrow hbel
    by_cases hlt : k < 8
    · have l1 : (k : Int) < 8 := by omega
      have hix := fun w => HIX.out k w hlt
      have HT := Lib.hid (outL_succ ws k (by rw [H.out.w8]; exact hlt))
      have hx : ws.getD k 0 < 4294967296 := getD_lt ws H.out.wlt k
      generalize ws.getD k 0 = x at *
      obtain ⟨y3, y2, y1, y0, hbe, b3, b2, b1, b0⟩ := be4_facts x
      have HBE := Lib.hid hbe
      clear hbe
      go_wp2_with (at_builtin; refine Kq.wpList_append_any _ rfl (.tmp 14) (.tmp 26) 157 157 rfl w.heap.size 5 i0 (.int .u8 0) 1 1 Tryz.underlying157 hi hz0 hz1 hz2 rfl (by decide) _ (4 * k) (shcells (outL ws k)) rfl (HR.out.1.alloc _) (.slice (some ⟨wr.heap.size, 0, none⟩) 4 4) 4 (shcells [y3, y2, y1, y0]) rfl ?hs ?h1 ?h2 ?h3 ?_)
      case hs => exact src_bytes wr [y3, y2, y1, y0] 4 rfl
      case h1 => unfold maxLen; omega
      case h2 => omega
      case h3 => have := HR.out.2.size; simp; omega
      intro v' w' hown hgrow hfresh
      have HO : Hid (w'.ownsRow w.heap.size 5 1 v' (4 * (k + 1)) (shcells (outL ws (k + 1))) ∧ Below w.heap.size w w') := by
        rw [HT.out, HBE.out]
        have e : shcells (outL ws k ++ [y3, y2, y1, y0]) = shcells (outL ws k) ++ shcells [y3, y2, y1, y0] := by simp [shcells]
        rw [e, show 4 * (k + 1) = 4 * k + 4 by omega]
        have hbq := HR.out.2.trans ((Kq.below_alloc wr (.cells (shcells [y3, y2, y1, y0]).toArray 5)).mono HR.out.2.size)
        have k1 : Kq.Keeps (fun j => w.heap.size ≤ j) w (wr.alloc (.cells (shcells [y3, y2, y1, y0]).toArray 5)) := Kq.Keeps.of_below hbq (fun j h1 h2 => h1)
        have k2 : Kq.Keeps (fun j => w.heap.size ≤ j) (wr.alloc (.cells (shcells [y3, y2, y1, y0]).toArray 5)) w' := Kq.Keeps.grown hgrow (fun j _ hj => (HR.out.1.lt j hj).1)
        exact Lib.hid ⟨hown, (k1.trans k2).below (Nat.le_refl _) (fun j _ hj => hj)⟩
      clear hown hgrow hfresh hix b3 b2 b1 b0 hx
      go_wp2
      go_roundw
      case rel => exact ⟨k + 1, _, by omega, by go_num, rfl, HO.out.1, HO.out.2⟩
      case measure => simp [intOf]; omega
    · have h8 : k = 8 := by omega
      rw [h8] at HR
      have hcv := conv_own HR.out.1 (by rw [outL_len ws 8 (by rw [H.out.w8]; exact Nat.le_refl _)]) (outL_lt ws 8)
      clear h8
      go_wp2
      go_ret
      exact ⟨rfl, HR.out.2⟩
end Go.Proofs.YtbjchfcoacmaaaaGreatDoor
namespace Go.Proofs.YtbjchfcoacmaaaaGreatDoor
open Go.RowKit
set_option linter.unusedVariables false
theorem mk_len (w : World) (z c : Int) (n m : Nat) (hz : z = (n : Int)) (hc : c = (m : Int)) (hnm : n ≤ m) (hn : m ≤ 3000000) :
    (Instr.makeSlice 157 (.int .i64 z) (.int .i64 c)).run Tryz.prog w = .ok (.slice (some ⟨w.heap.size, 0, none⟩) n m) (w.alloc (.cells (madeCells (Value.int IntKind.u8 0).cells m) 5)) := by
  obtain ⟨i0, hi, hz0, hz1, hz2⟩ := info_partsH infoU8H
  subst hz hc
  have := run_makeSlice (P := Tryz.prog) w 157 5 i0 (.int .u8 0) Tryz.underlying157 hi hz0 .i64 .i64 (n : Int) (m : Int) (by omega) (by omega) (by rw [hz1]; simp; omega) (by rw [hz2]; omega) (by omega)
  rw [hz1] at this
  simpa using this
theorem made_zeros (m : Nat) : (madeCells (Value.int IntKind.u8 0).cells m) = ((List.replicate m 0).map fun (b : Nat) => Value.int .u8 (b : Int)).toArray := by
  apply Array.toList_inj.1
  rw [show (Value.int IntKind.u8 0).cells = #[Value.int IntKind.u8 0] from rfl, toList_madeCells_one]
  simp
/-- 128 and zeros, with room for eight more -/
theorem pad_row (w : World) (z : Nat) (hz : z ≤ 1000) :
    (w.alloc (.cells ((madeCells (Value.int IntKind.u8 0).cells (1 + z + 8)).setIfInBounds 0 (.int .u8 128)) 5)).ownsRow w.heap.size 5 1 (.slice (some ⟨w.heap.size, 0, none⟩) (1 + z) (1 + z + 8)) (1 + z) (shcells (128 :: List.replicate z 0)) := by
  refine ⟨by simp [shcells]; omega, .inr ⟨w.heap.size, 1 + z + 8, _, rfl, Nat.le_refl _, heap_alloc_new w _, by omega, by unfold maxLen; omega, ?_, ?_⟩⟩
  · rw [Array.size_setIfInBounds, size_madeCells]; simp
  · rw [Array.toList_setIfInBounds, made_zeros, List.toList_toArray]
    have e : List.replicate (1 + z + 8) 0 = 0 :: (List.replicate z 0 ++ List.replicate 8 0) := by
      rw [List.replicate_append_replicate, show 1 + z + 8 = (z + 8) + 1 by omega, List.replicate_succ]
    rw [e]
    simp only [List.map_cons, List.set_cons_zero, Nat.mul_one]
    rw [show 1 + z = z + 1 by omega, List.take_succ_cons, List.map_append, List.take_append_of_le_length (by simp), List.take_of_length_le (by simp)]
    simp [shcells]
/-- the first bytes of eight -/
def padL (n k : Nat) : List Nat := 128 :: (List.replicate ((64 + 55 - n % 64) % 64) 0 ++ (Sh.be8 (n * 8 % 18446744073709551616)).take k)
theorem padL_lt (n k : Nat) : ∀ b ∈ padL n k, b < 256 := by
  intro b hb
  simp only [padL, List.mem_cons, List.mem_append] at hb
  rcases hb with rfl | hb | hb
  · decide
  · rw [List.eq_of_mem_replicate hb]; decide
  · have := List.mem_of_mem_take hb
    simp only [Sh.be8, List.mem_append] at this
    rcases this with h | h
    · exact be4_lt _ b h
    · exact be4_lt _ b h
theorem padL_eight (n : Nat) : padL n 8 = Sh.padding n := by
  unfold padL Sh.padding
  rw [List.take_of_length_le (by simp [Sh.be8, Sh.be4])]
theorem padL_succ (n k s : Nat) (hk : k < 8) (hs : s = 56 - 8 * k) (hn : n ≤ 1000000000) : padL n (k + 1) = padL n k ++ [n * 8 / 2 ^ s % 256] := by
  have e : n * 8 % 18446744073709551616 = n * 8 := by omega
  unfold padL
  rw [e, List.cons_append, List.append_assoc]
  congr 2
  have h8 : Sh.be8 (n * 8) = [0, 0, 0, n * 8 / 4294967296 % 256, n * 8 / 16777216 % 256, n * 8 / 65536 % 256, n * 8 / 256 % 256, n * 8 % 256] := by
    unfold Sh.be8 Sh.be4 Sh.M32
    simp only [List.cons_append, List.nil_append, List.cons.injEq, and_true]
    omega
  rw [h8]
  rcases k with _ | _ | _ | _ | _ | _ | _ | _ | k
  all_goals first | (subst hs; simp only [List.take_succ_cons, List.take_zero, List.cons_append, List.nil_append, List.cons.injEq, and_true, true_and]; (try omega)) | omega
theorem shr_byte (x s : Nat) : IntKind.u8.wrap ((x : Int) / 2 ^ s) = ((x / 2 ^ s % 256 : Nat) : Int) := by
  have : ((x : Int) / 2 ^ s) = ((x / 2 ^ s : Nat) : Int) := by norm_cast
  rw [this, IntKind.wrap_u8]
  omega
set_option maxRecDepth 100000 in
set_option maxHeartbeats 2000000 in
theorem sh_padding (B : Nat) (t : TypeId) (ws b : List Nat) (n : Nat) (w : World) (h : StS w B t ws b n) (hn : n ≤ 1000000000) :
    Calls Tryz.prog 165 #[.pointer (some ⟨B, 0, none⟩)] w fun x w' => x = .returned (.string (txt (Sh.padding n))) ∧ Below w.heap.size w w' := by
  obtain ⟨i0, hi, hz0, hz1, hz2⟩ := info_partsH infoU8H
  have c72 := h.len
  have H := Lib.hid h
  clear h
  obtain ⟨q, hq⟩ : ∃ q, q = n % 64 := ⟨_, rfl⟩
  obtain ⟨y, hy⟩ : ∃ y, y = 119 - q := ⟨_, rfl⟩
  obtain ⟨z, hz⟩ : ∃ z, z = (64 + 55 - n % 64) % 64 := ⟨_, rfl⟩
  have e1 : (n : Int) % 64 = (q : Int) := by omega
  have e2 : (119 : Int) - (q : Int) = (y : Int) := by omega
  have e2' : IntKind.i64.wrap ((119 : Int) - (q : Int)) = (y : Int) := by rw [e2, IntWalk.i64_in _ (by omega)]
  have e2'' : IntKind.i64.wrap (y : Int) = (y : Int) := IntWalk.i64_in _ (by omega)
  have e3 : (y : Int) % 64 = (z : Int) := by omega
  have hz63 : z ≤ 63 := by omega
  have hz64 : (z : Int) ≤ 63 := by omega
  have hmk := fun w => mk_len w (1 + (z : Int)) (1 + (z : Int) + 8) (1 + z) (1 + z + 8) (by omega) (by omega) (by omega) (by omega)
  have HROW := Lib.hid (pad_row w z (by omega))
  have hP0 : Hid (128 :: List.replicate z 0 = padL n 0) := Lib.hid (by unfold padL; rw [← hz]; simp)
  have g0 : (0 : Int) < ((1 + z : Nat) : Int) := by omega
  have hu1 : IntKind.u64.wrap (n : Int) = (n : Int) := by rw [IntWalk.u64_in _ (by omega)]
  have hu2 : IntKind.u64.wrap ((n : Int) * 8) = ((n * 8 : Nat) : Int) := by rw [IntWalk.u64_in _ (by omega)]; omega
  have hu3 : (n : Int) * 8 = ((n * 8 : Nat) : Int) := by omega
  have HZ := Lib.hid hz
  clear hz hy hq
  obtain ⟨L, hL⟩ : ∃ L, L = n * 8 := ⟨_, rfl⟩
  rw [← hL] at hu2 hu3
  have HL := Lib.hid hL
  clear hL
  have hc0 : (w.alloc (.cells (madeCells #[Value.int IntKind.u8 0] (1 + z + 8)) 5)).cell? ⟨w.heap.size, 0, none⟩ = some (.int .u8 0) := by
    rw [Kq.blk_cell (heap_alloc_new w _) 0]
    have := made_zeros (1 + z + 8)
    rw [show (Value.int IntKind.u8 0).cells = #[Value.int IntKind.u8 0] from rfl] at this
    rw [this, show 1 + z + 8 = (z + 8) + 1 by omega, List.replicate_succ]
    simp
  have hf0 : (w.alloc (.cells (madeCells #[Value.int IntKind.u8 0] (1 + z + 8)) 5)).frozen? ⟨w.heap.size, 0, none⟩ = false := Kq.blk_free (heap_alloc_new w _) 0
  have c72' : (w.alloc (.cells (madeCells #[Value.int IntKind.u8 0] (1 + z + 8)) 5)).cell? ⟨B, 72, none⟩ = some (.int .i64 (n : Int)) := ((Kq.below_alloc w _).cell (p := ⟨B, 72, none⟩) H.out.lt).trans c72
  have hBne : B < w.heap.size := H.out.lt
  go_enter Tryz.func165, Tryz.ntmps165
  go_wp2
  generalize hw1 : w.alloc _ = w1
  have HB1 : Hid (Below w.heap.size w w1) := Lib.hid (by rw [← hw1]; exact Kq.below_alloc w _)
  have HROW : Hid (w1.ownsRow w.heap.size 5 1 (.slice (some ⟨w.heap.size, 0, none⟩) (1 + z) (1 + z + 8)) (1 + z) (shcells (padL n 0))) := Lib.hid (by rw [← hw1, ← hP0.out]; exact HROW.out)
  clear hw1 hc0 hf0 c72 c72' hmk e1 e2 e2' e2'' e3 g0 hu1 hu2 hu3
  go_loopw [4, 6] (fun o i wr => ∃ (k : Nat) (s : Int) (v : Value), k ≤ 8 ∧ s = 56 - 8 * (k : Int) ∧ i = .int .i64 s ∧ o = v ∧ wr.ownsRow w.heap.size 5 1 v (1 + z + k) (shcells (padL n k)) ∧ Below w.heap.size w wr) (fun _ i _ => (intOf i + 8).toNat)
  case atStart => exact ⟨0, 56, _, Nat.zero_le _, by omega, rfl, rfl, HROW.out, HB1.out⟩
  case round =>
    obtain ⟨k, s, v, hk, hs, rfl, hov, hrow, hbel⟩ := hrel
    have hov := hov.symm
    subst hov
    have HR := Lib.hid (And.intro hrow hbel)
    clear hrow hbel
    by_cases hlt : k < 8
    · obtain ⟨σ, hσ⟩ : ∃ σ : Nat, s = (σ : Int) := ⟨56 - 8 * k, by omega⟩
      subst hσ
      have hs8 : σ = 56 - 8 * k := by omega
      have HSG := Lib.hid hs8
      have l1 : (0 : Int) ≤ (σ : Int) := by omega
      have l2 : (σ : Int) ≤ 56 := by omega
      have HT := Lib.hid (padL_succ n k σ hlt hs8 hn)
      rw [← HL.out] at HT
      have hsb := shr_byte L σ
      obtain ⟨y0, hy0⟩ : ∃ y0, y0 = L / 2 ^ σ % 256 := ⟨_, rfl⟩
      rw [← hy0] at hsb HT
      clear hy0 hs hs8
      go_wp2_with (at_builtin; refine Kq.wpList_append_any _ rfl (.tmp 32) (.tmp 37) 157 157 rfl w.heap.size 5 i0 (.int .u8 0) 1 1 Tryz.underlying157 hi hz0 hz1 hz2 rfl (by decide) _ (1 + z + k) (shcells (padL n k)) rfl (HR.out.1.alloc _) (.slice (some ⟨wr.heap.size, 0, none⟩) 1 1) 1 (shcells [y0]) rfl ?hs ?h1 ?h2 ?h3 ?_)
      case hs => exact src_bytes wr [y0] 1 rfl
      case h1 => unfold maxLen; omega
      case h2 => omega
      case h3 => have := HR.out.2.size; simp; omega
      intro v' w' hown hgrow hfresh
      have HO : Hid (w'.ownsRow w.heap.size 5 1 v' (1 + z + (k + 1)) (shcells (padL n (k + 1))) ∧ Below w.heap.size w w') := by
        rw [HT.out]
        have e : shcells (padL n k ++ [y0]) = shcells (padL n k) ++ shcells [y0] := by simp [shcells]
        rw [e, show 1 + z + (k + 1) = 1 + z + k + 1 by omega]
        have hbq := HR.out.2.trans ((Kq.below_alloc wr (.cells (shcells [y0]).toArray 5)).mono HR.out.2.size)
        have k1 : Kq.Keeps (fun j => w.heap.size ≤ j) w (wr.alloc (.cells (shcells [y0]).toArray 5)) := Kq.Keeps.of_below hbq (fun j h1 h2 => h1)
        have k2 : Kq.Keeps (fun j => w.heap.size ≤ j) (wr.alloc (.cells (shcells [y0]).toArray 5)) w' := Kq.Keeps.grown hgrow (fun j _ hj => (HR.out.1.lt j hj).1)
        exact Lib.hid ⟨hown, (k1.trans k2).below (Nat.le_refl _) (fun j _ hj => hj)⟩
      clear hown hgrow hfresh hsb
      go_wp2
      go_roundw
      case rel => exact ⟨k + 1, _, _, by omega, by have := HSG.out; omega, rfl, rfl, HO.out.1, HO.out.2⟩
      case measure => simp [intOf]; omega
    · have h8 : k = 8 := by omega
      obtain rfl : s = -8 := by omega
      rw [h8] at HR
      have hcv := conv_own HR.out.1 (by unfold padL; rw [← HZ.out]; simp [Sh.be8, Sh.be4]; omega) (padL_lt n 8)
      rw [padL_eight] at hcv
      clear h8 hs hk hlt
      go_wp2
      go_ret
      exact ⟨rfl, HR.out.2⟩
end Go.Proofs.YtbjchfcoacmaaaaGreatDoor
namespace Go.Proofs.YtbjchfcoacmaaaaGreatDoor
open Go.RowKit
set_option linter.unusedVariables false
def FirstAt (w : World) : Prop := ∀ t, t < 8 → w.cell? ⟨0, t, none⟩ = some (.int .u32 (((toL Sh.H0).getD t 0 : Nat) : Int))
structure LaidOk (w : World) : Prop where
  roots : RootsAt w
  first : FirstAt w
  low : 1 < w.heap.size
  low0 : 0 < w.heap.size
theorem LaidOk.below {B : Nat} {w w' : World} (h : LaidOk w) (hb : Below B w w') (h1 : 1 < B) (h0 : 0 < B) : LaidOk w' :=
  ⟨fun t ht => (hb.cell (p := ⟨1, t, none⟩) h1).trans (h.roots t ht), fun t ht => (hb.cell (p := ⟨0, t, none⟩) h0).trans (h.first t ht), Nat.lt_of_lt_of_le h.low hb.size, Nat.lt_of_lt_of_le h.low0 hb.size⟩
theorem LaidOk.later {w w' : World} (h : LaidOk w) (hb : Below w.heap.size w w') : LaidOk w' := h.below hb h.low h.low0
theorem fed_new (w : World) (t : TypeId) (h : LaidOk w) : Fed (w.alloc (.cells (stc (toL Sh.H0) (List.replicate 64 0) 0) t)) w.heap.size t [] := by
  have hl := h.later (Kq.below_alloc w (.cells (stc (toL Sh.H0) (List.replicate 64 0) 0) t))
  refine ⟨toL Sh.H0, List.replicate 64 0, ⟨Kq.blk_new w _ _ _, rfl, by simp, by decide, fun x hx => by rw [List.eq_of_mem_replicate hx]; decide, hl.roots, h.low, hl.low⟩, ⟨rfl, rfl⟩⟩
theorem wpList_build_as {P : Program} {w : World} {ops : Array Oper} {rest : List Oper} {o : Oper} {a : Act} {Q : Exit → Act → World → Prop} (hg : o.guard = none) (t : TypeId) (parts : Array (Nat × Operand)) (ho : o.op = .build t parts)
    (l : List (Nat × Value)) (hl : parts.toList.map (fun (i, x) => (i, a.eval x)) = l) (c : Array Value) (hc : P.built t l = some c)
    (h : wpList P ops Q rest (a.put o.dst (.agg c)) w) : wpList P ops Q (o :: rest) a w :=
  wpList_build hg t parts ho (by rw [Array.toList_map, hl, hc]; rfl) (by rw [Array.toList_map, hl, hc]; exact h)
def cells0 : Array Value := stc (toL Sh.H0) (List.replicate 64 0) 0
theorem built49 : Tryz.prog.built 234 [(0, .agg (wcl (toL Sh.H0)).toArray)] = some cells0 := by kernel_rfl
theorem built51 : Tryz.prog.built 236 [(0, .agg cells0)] = some cells0 := by kernel_rfl
set_option maxRecDepth 100000 in
set_option maxHeartbeats 2000000 in
theorem sh_new (w : World) (h : LaidOk w) :
    Calls Tryz.prog 151 #[] w fun x w' => x = .returned (.pointer (some ⟨w.heap.size, 0, none⟩)) ∧ Fed w' w.heap.size 236 [] ∧ Below w.heap.size w w' := by
  have hrg : w.rangeAt 0 0 (wcl (toL Sh.H0)) := fun j v hj => by
    have hj8 : j < 8 := by simpa [wcl, toL] using (List.getElem?_eq_some_iff.1 hj).1
    rw [Nat.zero_add, h.first j hj8, ← hj]
    have := wcl_at (toL Sh.H0) j (by simpa [toL] using hj8)
    rw [List.getElem?_toArray] at this
    exact this.symm
  have HLD := Lib.hid hrg
  have HF : Hid (Fed (w.alloc (.cells cells0 236)) w.heap.size 236 []) := Lib.hid (fed_new w 236 h)
  have HB := Lib.hid (Kq.below_alloc w (.cells cells0 236))
  clear hrg h
  obtain ⟨V, hV⟩ : ∃ V, V = (wcl (toL Sh.H0)).toArray := ⟨_, rfl⟩
  have b49 := built49
  have b51 := built51
  rw [← hV] at b49
  have hii : (Tryz.prog.info? 231).map (·.size) = some (wcl (toL Sh.H0)).length := info46
  have HLD2 : Hid (∀ (ops : Array Oper) (rest : List Oper) (o : Oper) (a : Act) (Q : Exit → Act → World → Prop), o.guard = none → o.op = .load 231 (.global 0) → a.eval (.global 0) = .pointer (some ⟨0, 0, none⟩) → wpList Tryz.prog ops Q rest (a.put o.dst (.agg V)) w → wpList Tryz.prog ops Q (o :: rest) a w) := Lib.hid (fun ops rest o a Q hg ho hx h => by
    rw [hV] at h
    exact wpList_load_mid hg 231 (.global 0) ho 0 0 hx (wcl (toL Sh.H0)) _ HLD.out Tryz.underlying231 rfl hii h)
  clear hV hii HLD
  have HB49 := Lib.hid b49
  have HB51 := Lib.hid b51
  clear b49 b51
  generalize cells0 = Z at *
  go_enter Tryz.func151, Tryz.ntmps151
  go_wp2_with (first | (refine HLD2.out _ _ _ _ _ (by rfl) (by rfl) (by rfl) ?_) | (refine wpList_build_as (by rfl) 234 #[(0, .tmp 1)] (by rfl) _ (by rfl) Z HB49.out ?_) | (refine wpList_build_as (by rfl) 236 #[(0, .tmp 2)] (by rfl) _ (by rfl) Z HB51.out ?_))
  go_ret
  exact ⟨rfl, HF.out, HB.out⟩
set_option maxRecDepth 100000 in
set_option maxHeartbeats 1000000 in
theorem sh_write (B : Nat) (t : TypeId) (l : List Nat) (s : ByteArray) (w : World) (h : Fed w B t l) (hs : l.length + s.size ≤ 1000000000) :
    Calls Tryz.prog 152 #[.pointer (some ⟨B, 0, none⟩), .string s] w fun x w' => x = .returned (.tuple #[]) ∧ Fed w' B t (l ++ nl s) ∧ Kq.Keeps (· = B) w w' := by
  have HC := Lib.hid (sh_add B t l s w h hs)
  clear h hs
  go_enter Tryz.func152, Tryz.ntmps152
  go_wp2_with fail
  refine HC.out.mono ?_
  rintro x w1 ⟨rfl, h1⟩
  have H1 := Lib.hid h1
  clear h1
  go_wp2
  go_end0
  exact ⟨rfl, H1.out⟩
theorem digest_eq (l ws b : List Nat) (h : Of (l ++ Sh.padding l.length) ws b) : outL ws 8 = Sh.digest l := by
  rw [h.words, outL_all]
  rfl
theorem padding_lt (n : Nat) : ∀ b ∈ Sh.padding n, b < 256 := by rw [← padL_eight]; exact padL_lt n 8
theorem info49 : (Tryz.prog.info? 234).map (·.size) = some 73 := by kernel_rfl
theorem zero49 : ∀ w, (zeroValue 234).run Tryz.prog w = .ok (.agg (stc (List.replicate 8 0) (List.replicate 64 0) 0)) w :=
  (zero_of_info (n := 73) (by kernel_rfl)).1
theorem stc_one (ws b : List Nat) (n : Nat) : (stc ws b n).all (·.oneCell') = true := by
  unfold stc
  rw [List.all_toArray, List.all_eq_true]
  intro v hv
  simp only [wcl, bcl, List.mem_append, List.mem_map, List.mem_singleton] at hv
  rcases hv with ⟨x, _, rfl⟩ | ⟨x, _, rfl⟩ | rfl <;> rfl
set_option maxRecDepth 100000 in
set_option maxHeartbeats 2000000 in
theorem sh_sumof (B : Nat) (t : TypeId) (l : List Nat) (w : World) (h : Fed w B t l) (hl : l.length ≤ 900000000) :
    Calls Tryz.prog 153 #[.pointer (some ⟨B, 0, none⟩)] w fun x w' => x = .returned (.string (txt (Sh.digest l))) ∧ Below w.heap.size w w' := by
  obtain ⟨ws, b, hS, hO⟩ := h.ex
  have HS := Lib.hid hS
  have HO := Lib.hid hO
  have HZ0 := zero49
  have hsz : (stc ws b l.length).size = 73 := stc_size ws b l.length hS.w8 hS.b64
  have HLD := Lib.hid (And.intro hS.blk (And.intro (show (Tryz.prog.info? 234).map (·.size) = some (stc ws b l.length).size by rw [hsz]; exact info49) (And.intro hsz (stc_one ws b l.length))))
  clear h hS hO hsz
  have HOLD : Hid ((stc (List.replicate 8 0) (List.replicate 64 0) 0).size = 73) := Lib.hid (stc_size _ _ _ (by simp) (by simp))
  obtain ⟨Z, hZ⟩ : ∃ Z, Z = stc (List.replicate 8 0) (List.replicate 64 0) 0 := ⟨_, rfl⟩
  rw [← hZ] at HZ0 HOLD
  clear hZ
  obtain ⟨C, hC⟩ : ∃ C, C = stc ws b l.length := ⟨_, rfl⟩
  have HC := Lib.hid hC
  rw [← hC] at HLD
  clear hC
  go_enter Tryz.func153, Tryz.ntmps153
  go_wp2_with (first | (refine wpList_load_row (by rfl) 234 (.tmp 6) (by rfl) B (by rfl) t C (0, 0) _ HLD.out.1 Tryz.underlying234 rfl HLD.out.2.1 ?_) | (refine wpList_store_row (by rfl) 234 (.tmp 3) (.tmp 7) (by rfl) w.heap.size C (by rfl) (by rfl) 234 Z (Kq.blk_new w _ _ _) HLD.out.2.1 (by rw [HOLD.out, HLD.out.2.2.1]) HLD.out.2.2.2 ?_))
  generalize hw2 : World.setRow _ _ _ = w2
  have HB2 : Hid (Below w.heap.size w w2) := Lib.hid (by rw [← hw2]; exact below_setRow (Kq.below_alloc w _) _ C (Nat.le_refl _))
  have HN : Hid (StS w2 w.heap.size 234 ws b l.length) := Lib.hid (by
    have h2 := HS.out.below HB2.out
    refine ⟨?_, h2.w8, h2.b64, h2.wlt, h2.blt, h2.roots, HS.out.low, h2.low⟩
    rw [← hw2, ← HC.out]
    exact set_row _ _ Z C _ _ (Kq.blk_new w _ _ _))
  clear hw2
  refine (sh_padding B t ws b l.length w2 (HS.out.below HB2.out) (by omega)).mono ?_
  rintro x w3 ⟨rfl, hb3⟩
  have HB3 := Lib.hid (HB2.out.trans (hb3.mono HB2.out.size))
  have hpn : nl (txt (Sh.padding l.length)) = Sh.padding l.length := nl_txt _ (padding_lt _)
  have hpz : (txt (Sh.padding l.length)).size ≤ 200 := by
    rw [txt_size]
    have : (Sh.padding l.length).length = 1 + (64 + 55 - l.length % 64) % 64 + 8 := by simp [Sh.padding, Sh.be8, Sh.be4]; omega
    omega
  have HA := Lib.hid (sh_add w.heap.size 234 l (txt (Sh.padding l.length)) w3 ⟨ws, b, HN.out.below hb3, HO.out⟩ (by omega))
  rw [hpn] at HA
  clear hpn hpz hb3
  go_wp2_with fail
  refine HA.out.mono ?_
  rintro x w4 ⟨rfl, hf4, hk4⟩
  obtain ⟨ws4, b4, hS4, hO4⟩ := hf4.ex
  have HB4 : Hid (Below w.heap.size w w4) := Lib.hid (by
    have k1 : Kq.Keeps (fun j => w.heap.size ≤ j) w w3 := Kq.Keeps.of_below HB3.out (fun j h1 _ => h1)
    exact (k1.trans (hk4.mono (fun j _ e => by rw [e]; exact Nat.le_refl _))).below (Nat.le_refl _) (fun j _ hj => hj))
  have HD := Lib.hid (sh_digest w.heap.size 234 ws4 b4 _ w4 hS4)
  rw [digest_eq l ws4 b4 hO4] at HD
  clear hf4 hk4 hS4 hO4 HA
  go_wp2_with fail
  refine HD.out.mono ?_
  rintro x w5 ⟨rfl, hb5⟩
  have HB5 := Lib.hid (HB4.out.trans (hb5.mono HB4.out.size))
  clear hb5
  go_wp2
  go_ret
  exact ⟨rfl, HB5.out⟩
end Go.Proofs.YtbjchfcoacmaaaaGreatDoor
namespace Go.Proofs.YtbjchfcoacmaaaaGreatDoor
open Go.RowKit
set_option linter.unusedVariables false
/-- the bytes of parts -/
def nls (l : List ByteArray) : List Nat := l.flatMap nl
theorem nls_snoc (l : List ByteArray) (s : ByteArray) : nls (l ++ [s]) = nls l ++ nl s := by simp [nls]
theorem nls_take (l : List ByteArray) (k : Nat) : (nls (l.take k)).length ≤ (nls l).length := by
  have : nls l = nls (l.take k) ++ nls (l.drop k) := by unfold nls; rw [← List.flatMap_append, List.take_append_drop]
  rw [this, List.length_append]
  omega
theorem PartsAt.none (w : World) : PartsAt w none [] := fun i hi => absurd hi (by simp)
set_option maxRecDepth 100000 in
set_option maxHeartbeats 1000000 in
theorem sh_sum (A : Option Addr) (c : Nat) (l : List ByteArray) (w : World) (ha : PartsAt w A l) (hl : LaidOk w) (hn : l.length ≤ 1000000) (hsz : (nls l).length ≤ 900000000) :
    Calls Tryz.prog 110 #[.slice A l.length c] w fun x w' => x = .returned (.string (txt (Sh.digest (nls l)))) ∧ Below w.heap.size w w' := by
  have HA := Lib.hid (And.intro ha (And.intro hl hsz))
  clear ha hl hsz
  go_enter Tryz.func110, Tryz.ntmps110
  go_wp2_with fail
  refine (sh_new w HA.out.2.1).mono ?_
  rintro x w1 ⟨rfl, hf1, hb1⟩
  have H1 := Lib.hid (And.intro hf1 hb1)
  clear hf1 hb1
  go_wp2
  go_loopw [9] (fun i wr => ∃ k : Nat, k ≤ l.length ∧ i = .int .i64 (k : Int) ∧ Fed wr w.heap.size 236 (nls (l.take k)) ∧ Below w.heap.size w wr) (fun i _ => l.length - (intOf i).toNat)
  case atStart => exact ⟨0, Nat.zero_le _, rfl, H1.out⟩
  case round =>
    obtain ⟨k, hk, rfl, hfb⟩ := hrel
    have HF := Lib.hid hfb
    clear hfb
    by_cases hlt : k < l.length
    · have l1 : (k : Int) < (l.length : Int) := by omega
      obtain ⟨g, o, rfl, hg, hc⟩ := (HA.out.1.below HF.out.2) k hlt
      have ht : l.take (k + 1) = l.take k ++ [l[k]] := List.take_succ_eq_append_getElem hlt
      have HT : Hid (nls (l.take (k + 1)) = nls (l.take k) ++ nl l[k]) := Lib.hid (by rw [ht, nls_snoc])
      have HW := Lib.hid (sh_write w.heap.size 236 (nls (l.take k)) l[k] wr HF.out.1 (by
        have h1 := nls_take l (k + 1)
        rw [HT.out, List.length_append] at h1
        have h2 : (nl l[k]).length = l[k].size := by simp [nl]
        have := HA.out.2.2
        omega))
      generalize l[k] = s at *
      clear ht hg
      go_wp2_with fail
      refine HW.out.mono ?_
      rintro x w2 ⟨rfl, hf2, hk2⟩
      have H2 : Hid (Fed w2 w.heap.size 236 (nls (l.take (k + 1))) ∧ Below w.heap.size w w2) := Lib.hid ⟨by rw [HT.out]; exact hf2, by
        have k1 : Kq.Keeps (fun j => w.heap.size ≤ j) w wr := Kq.Keeps.of_below HF.out.2 (fun j h1 _ => h1)
        exact (k1.trans (hk2.mono (fun j _ e => by rw [e]; exact Nat.le_refl _))).below (Nat.le_refl _) (fun j _ hj => hj)⟩
      clear hf2 hk2 HW hc
      go_wp2
      go_roundw
      case rel => exact ⟨k + 1, by omega, by go_num, H2.out⟩
      case measure => simp [intOf]; omega
    · have hkl : k = l.length := by omega
      have ht : l.take k = l := by rw [hkl]; exact List.take_length
      rw [ht] at HF
      clear ht
      go_wp2_with fail
      refine (sh_sumof w.heap.size 236 (nls l) wr HF.out.1 HA.out.2.2).mono ?_
      rintro x w2 ⟨rfl, hb2⟩
      have H2 := Lib.hid (HF.out.2.trans (hb2.mono HF.out.2.size))
      clear hb2
      go_wp2
      go_ret
      exact ⟨rfl, H2.out⟩
end Go.Proofs.YtbjchfcoacmaaaaGreatDoor
namespace Go.Proofs.YtbjchfcoacmaaaaGreatDoor
open Go.RowKit
set_option linter.unusedVariables false
def dgT (s : ByteArray) : ByteArray := txt (Sh.digest (nl s))
theorem dgT_size (s : ByteArray) : (dgT s).size = 32 := by
  unfold dgT Sh.digest
  rw [txt_size]
  show (Sh.out _).length = 32
  simp [Sh.out, Sh.be4]
theorem sum_text (s : ByteArray) (w : World) (hl : LaidOk w) (hs : s.size ≤ 100000) :
    Calls Tryz.prog 110 #[.slice (some ⟨w.heap.size, 0, none⟩) 1 1] (w.alloc (.cells #[.string s] 9)) fun x w' => x = .returned (.string (dgT s)) ∧ Below w.heap.size w w' := by
  have hb := Kq.below_alloc w (.cells #[.string s] 9)
  have hp : PartsAt (w.alloc (.cells #[.string s] 9)) (some ⟨w.heap.size, 0, none⟩) [s] := fun i hi => by
    refine ⟨w.heap.size, 0, rfl, by simp, ?_⟩
    rw [Kq.blk_cell (Kq.blk_new w _ _ _) (0 + i)]
    rcases i with _ | i
    · rfl
    · simp at hi
  refine (sh_sum (some ⟨w.heap.size, 0, none⟩) 1 [s] _ hp (hl.later hb) (by simp) (by simp [nls, nl]; omega)).mono ?_
  rintro x w' ⟨rfl, hb2⟩
  exact ⟨by simp [dgT, nls], hb.trans (hb2.mono hb.size)⟩
theorem sum_texts (a s : ByteArray) (w : World) (hl : LaidOk w) (hs : a.size + s.size ≤ 100000) :
    Calls Tryz.prog 110 #[.slice (some ⟨w.heap.size, 0, none⟩) 2 2] (w.alloc (.cells #[.string a, .string s] 9)) fun x w' => x = .returned (.string (dgT (a ++ s))) ∧ Below w.heap.size w w' := by
  have hb := Kq.below_alloc w (.cells #[.string a, .string s] 9)
  have hp : PartsAt (w.alloc (.cells #[.string a, .string s] 9)) (some ⟨w.heap.size, 0, none⟩) [a, s] := fun i hi => by
    refine ⟨w.heap.size, 0, rfl, by simp, ?_⟩
    rw [Kq.blk_cell (Kq.blk_new w _ _ _) (0 + i)]
    rcases i with _ | _ | i
    · rfl
    · rfl
    · simp at hi; omega
  refine (sh_sum (some ⟨w.heap.size, 0, none⟩) 2 [a, s] _ hp (hl.later hb) (by simp) (by simp [nls, nl]; omega)).mono ?_
  rintro x w' ⟨rfl, hb2⟩
  exact ⟨by simp [dgT, nls, nl_append], hb.trans (hb2.mono hb.size)⟩
end Go.Proofs.YtbjchfcoacmaaaaGreatDoor
