/- Contract of (*sha.state).digest: the words by their bytes. Condition: a state lies there. -/
import Derived.Deep.MidRow
import Derived.Test.YtnbapiddbcaolaaDoorShHex2
import Derived.Test.YtnbapiddbcaolaaDoorShAdd
namespace Go.Proofs.YtnbapiddbcaolaaDoor
open Go.RowKit
set_option linter.unusedVariables false
def outL (ws : List Nat) (k : Nat) : List Nat := (ws.take k).flatMap Sh.be4
theorem outL_succ (ws : List Nat) (k : Nat) (h : k < ws.length) : outL ws (k + 1) = outL ws k ++ Sh.be4 (ws.getD k 0) := by
  unfold outL
  rw [List.take_succ_eq_append_getElem h, List.flatMap_append]
  simp [h]
theorem outL_len (ws : List Nat) (k : Nat) (h : k ≤ ws.length) : (outL ws k).length = 4 * k := by
  induction k with
  | zero => simp [outL]
  | succ k ih =>
    rw [outL_succ ws k (by omega), List.length_append, ih (by omega)]
    simp [Sh.be4]
    omega
theorem be4_lt (x : Nat) : ∀ b ∈ Sh.be4 x, b < 256 := by
  intro b hb
  simp only [Sh.be4, List.mem_cons, List.not_mem_nil, or_false] at hb
  rcases hb with rfl | rfl | rfl | rfl <;> exact Nat.mod_lt _ (by decide)
theorem outL_lt (ws : List Nat) (k : Nat) : ∀ b ∈ outL ws k, b < 256 := by
  intro b hb
  simp only [outL, List.mem_flatMap] at hb
  obtain ⟨x, _, hb⟩ := hb
  exact be4_lt x b hb
theorem outL_all (s : Sh.S8) : outL (toL s) 8 = Sh.out s := by simp [outL, toL, Sh.out]
theorem be4_facts (x : Nat) : ∃ a b c d : Nat, Sh.be4 x = [a, b, c, d] ∧ IntKind.u8.wrap ((x : Int) / 16777216) = (a : Int) ∧ IntKind.u8.wrap ((x : Int) / 65536) = (b : Int) ∧ IntKind.u8.wrap ((x : Int) / 256) = (c : Int) ∧ IntKind.u8.wrap (x : Int) = (d : Int) := by
  refine ⟨_, _, _, _, rfl, ?_, ?_, ?_, ?_⟩ <;> rw [IntKind.wrap_u8] <;> omega
theorem src_bytes (w : World) (l : List Nat) (n : Nat) (hn : n = l.length) : Src Tryd.prog 1 61 (.slice (some ⟨w.heap.size, 0, none⟩) n n) n (shcells l) (w.alloc (.cells (shcells l).toArray 5)) := by
  subst hn
  refine Src.ofSlice _ Tryd.underlying61 ⟨w.heap.size, 0, none⟩ l.length l.length (shcells l) (by simp [shcells]) (fun j u hj => Kq.cell_new _ _ _ (by
    rw [List.getElem?_toArray]; exact hj)) (fun u hu => by
    simp only [shcells, List.mem_map] at hu
    obtain ⟨x, _, rfl⟩ := hu
    rfl)
theorem info46 : (Tryd.prog.info? 80).map (·.size) = some 8 := by kernel_rfl
set_option maxRecDepth 100000 in
set_option maxHeartbeats 2000000 in
theorem sh_digest (B : Nat) (t : TypeId) (ws b : List Nat) (n0 : Nat) (w : World) (h : StS w B t ws b n0) :
    Calls Tryd.prog 49 #[.pointer (some ⟨B, 0, none⟩)] w fun x w' => x = .returned (.string (txt (outL ws 8))) ∧ Below w.heap.size w w' := by
  obtain ⟨i0, hi, hz0, hz1, hz2⟩ := info_partsH infoU8H
  have H := Lib.hid h
  clear h
  obtain ⟨n, hn⟩ : ∃ n, n = 32 := ⟨_, rfl⟩
  have hmk := fun w => mk_cap w 32 n (by omega) (by omega)
  have HROW := Lib.hid (made_row w n (by omega))
  clear hn
  have hrg : (w.alloc (.cells (madeCells (Value.int IntKind.u8 0).cells n) 5)).rangeAt B 0 (wcl ws) := fun j v hj => by
    have hj8 : j < 8 := by
      have := (List.getElem?_eq_some_iff.1 hj).1
      simpa [wcl, H.out.w8] using this
    have h1 := (H.out.below (Kq.below_alloc w _)).word (w := w.alloc (.cells (madeCells (Value.int IntKind.u8 0).cells n) 5)) j hj8
    rw [Nat.zero_add, h1, ← hj]
    have := wcl_at ws j (by rw [H.out.w8]; exact hj8)
    rw [List.getElem?_toArray] at this
    exact this.symm
  have hii : (Tryd.prog.info? 80).map (·.size) = some (wcl ws).length := by
    have : (wcl ws).length = 8 := by simp [wcl, H.out.w8]
    rw [this]; exact info46
  have HLD := Lib.hid (And.intro hrg hii)
  clear hrg hii
  go_enter Tryd.func49, Tryd.ntmps49
  go_wp2_with (refine wpList_load_mid (by rfl) 80 (.tmp 9) (by rfl) B 0 (by rfl) (wcl ws) _ HLD.out.1 Tryd.underlying80 rfl HLD.out.2 ?_)
  have HIX : Hid (∀ (k : Nat) (w : World), k < 8 → (Instr.index 80 (.agg (wcl ws).toArray) (.int .i64 (k : Int))).run Tryd.prog w = .ok (.int .u32 ((ws.getD k 0 : Nat) : Int)) w) := Lib.hid (fun k w hk => index8 ws H.out.w8 k hk w)
  generalize (wcl ws).toArray = vs at *
  clear hmk
  have HB0 := Lib.hid (Kq.below_alloc w (.cells (madeCells (Value.int IntKind.u8 0).cells n) 5))
  obtain ⟨w1, hw1⟩ : ∃ z, z = w.alloc (.cells (madeCells (Value.int IntKind.u8 0).cells n) 5) := ⟨_, rfl⟩
  have hw1' : w.alloc (.cells (madeCells #[Value.int IntKind.u8 0] n) 5) = w1 := hw1.symm
  rw [hw1']
  rw [← hw1] at HROW HB0
  clear hw1 hw1'
  clear HLD
  go_loopw [3, 11] (fun o i wr => ∃ k : Nat, ∃ v : Value, k ≤ 8 ∧ i = .int .i64 (k : Int) ∧ o = v ∧ wr.ownsRow w.heap.size 5 1 v (4 * k) (shcells (outL ws k)) ∧ Below w.heap.size w wr) (fun _ i _ => 8 - (intOf i).toNat)
  case atStart => exact ⟨0, _, Nat.zero_le _, rfl, rfl, HROW.out, HB0.out⟩
  case round =>
    obtain ⟨k, v, hk, rfl, hov, hrow, hbel⟩ := hrel
    have hov := hov.symm
    subst hov
    have HR := Lib.hid (And.intro hrow hbel)
    clear hrow hbel
    by_cases hlt : k < 8
    · have l1 : (k : Int) < 8 := by omega
      have hix := fun w => HIX.out k w hlt
      have HT := Lib.hid (outL_succ ws k (by rw [H.out.w8]; exact hlt))
      have hx : ws.getD k 0 < 4294967296 := getD_lt ws H.out.wlt k
      generalize ws.getD k 0 = x at *
      obtain ⟨y3, y2, y1, y0, hbe, b3, b2, b1, b0⟩ := be4_facts x
      have HBE := Lib.hid hbe
      clear hbe
      go_wp2_with (at_builtin; refine Kq.wpList_append_any _ rfl (.tmp 14) (.tmp 26) 61 61 rfl w.heap.size 5 i0 (.int .u8 0) 1 1 Tryd.underlying61 hi hz0 hz1 hz2 rfl (by decide) _ (4 * k) (shcells (outL ws k)) rfl (HR.out.1.alloc _) (.slice (some ⟨wr.heap.size, 0, none⟩) 4 4) 4 (shcells [y3, y2, y1, y0]) rfl ?hs ?h1 ?h2 ?h3 ?_)
      case hs => exact src_bytes wr [y3, y2, y1, y0] 4 rfl
      case h1 => unfold maxLen; omega
      case h2 => omega
      case h3 => have := HR.out.2.size; simp; omega
      intro v' w' hown hgrow hfresh
      have HO : Hid (w'.ownsRow w.heap.size 5 1 v' (4 * (k + 1)) (shcells (outL ws (k + 1))) ∧ Below w.heap.size w w') := by
        rw [HT.out, HBE.out]
        have e : shcells (outL ws k ++ [y3, y2, y1, y0]) = shcells (outL ws k) ++ shcells [y3, y2, y1, y0] := by simp [shcells]
        rw [e, show 4 * (k + 1) = 4 * k + 4 by omega]
        have hbq := HR.out.2.trans ((Kq.below_alloc wr (.cells (shcells [y3, y2, y1, y0]).toArray 5)).mono HR.out.2.size)
        have k1 : Kq.Keeps (fun j => w.heap.size ≤ j) w (wr.alloc (.cells (shcells [y3, y2, y1, y0]).toArray 5)) := Kq.Keeps.of_below hbq (fun j h1 h2 => h1)
        have k2 : Kq.Keeps (fun j => w.heap.size ≤ j) (wr.alloc (.cells (shcells [y3, y2, y1, y0]).toArray 5)) w' := Kq.Keeps.grown hgrow (fun j _ hj => (HR.out.1.lt j hj).1)
        exact Lib.hid ⟨hown, (k1.trans k2).below (Nat.le_refl _) (fun j _ hj => hj)⟩
      clear hown hgrow hfresh hix b3 b2 b1 b0 hx
      go_wp2
      go_roundw
      case rel => exact ⟨k + 1, _, by omega, by go_num, rfl, HO.out.1, HO.out.2⟩
      case measure => simp [intOf]; omega
    · have h8 : k = 8 := by omega
      rw [h8] at HR
      have hcv := conv_own HR.out.1 (by rw [outL_len ws 8 (by rw [H.out.w8]; exact Nat.le_refl _)]) (outL_lt ws 8)
      clear h8
      go_wp2
      go_ret
      exact ⟨rfl, HR.out.2⟩
end Go.Proofs.YtnbapiddbcaolaaDoor
