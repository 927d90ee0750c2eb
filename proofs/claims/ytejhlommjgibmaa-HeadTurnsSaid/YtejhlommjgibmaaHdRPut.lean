/- Contract of carrackref06.Put. No condition but that numbers fit. -/
import Derived.WalkSpells
import Derived.Deep.RegionHeld
import Derived.Test.YtejhlommjgibmaaHdPut
namespace Go.Proofs.Ytejhlommjgibmaa
open Go.RowKit
set_option linter.unusedVariables false
theorem infoU8 : (Try.prog.info? 5).map (fun i => (i.zero, i.size, i.bytes)) = some (some (.int .u8 0), 1, 1) := by kernel_rfl
/-- a row of zeros, as make lays it -/
def zrow (n : Nat) : Array Value := madeCells (Value.int IntKind.u8 0).cells n
theorem mk_bytes (w : World) (z : Int) (n : Nat) (hz : z = (n : Int)) (hn : n ≤ 3000000) :
    (Instr.makeSlice 44 (.int .i64 z) (.int .i64 z)).run Try.prog w = .ok (.slice (some ⟨w.heap.size, 0, none⟩) n n) (w.alloc (.cells (zrow n) 5)) := by
  obtain ⟨i0, hi, hz0, hz1, hz2⟩ := info_parts infoU8
  subst hz
  have := run_makeSlice (P := Try.prog) w 44 5 i0 (.int .u8 0) Try.underlying44 hi hz0 .i64 .i64 (n : Int) (n : Int) (by omega) (Int.le_refl _) (by rw [hz1]; simp; omega) (by rw [hz2]; omega) (by omega)
  rw [hz1] at this
  simpa [zrow] using this
theorem zrow_cells (n : Nat) : zrow n = ((List.replicate n 0).map fun (b : Nat) => Value.int .u8 (b : Int)).toArray := by
  unfold zrow
  apply Array.toList_inj.1
  rw [show (Value.int IntKind.u8 0).cells = #[Value.int IntKind.u8 0] from rfl, toList_madeCells_one]
  simp
/-- string(make([]byte, n)) -/
theorem cv_zeros (n : Nat) (w : World) : (convert 44 9 (.slice (some ⟨w.heap.size, 0, none⟩) n n)).run Try.prog (w.alloc (.cells (zrow n) 5)) = .ok (.string (txt (List.replicate n 0))) (w.alloc (.cells (zrow n) 5)) := by
  have := Kq.conv_bytes (P := Try.prog) (w.alloc (.cells (zrow n) 5)) (src := 44) (dst := 9) (e := 5) ⟨w.heap.size, 0, none⟩ ((List.replicate n 0).map UInt8.ofNat) n Try.underlying44 Try.underlying5 Try.underlying9 (fun j v hj => Kq.cell_new _ _ _ (by
    rw [zrow_cells, List.getElem?_toArray, ← hj]
    simp))
  rw [List.length_map, List.length_replicate] at this
  exact this
theorem num_8 (g : Nat) (hg : g < M64) (w : World) : Calls Try.prog 23 #[.int .u64 (g : Int), .int .i64 8] w fun x w' => x = .returned (.string (txt (num8 g))) ∧ Below w.heap.size w w' := by
  have := ref_num g 8 w hg (by decide)
  rwa [be8] at this
theorem num_1 (g : Nat) (hg : g < 256) (w : World) : Calls Try.prog 23 #[.int .u64 (g : Int), .int .i64 1] w fun x w' => x = .returned (.string (txt [g])) ∧ Below w.heap.size w w' := by
  have := ref_num g 1 w (by unfold M64; omega) (by decide)
  rwa [be1 g hg] at this
def BoxB (w w' : World) (X : Nat) (g sg : Int) : Prop := w'.cell? ⟨X, 0, none⟩ = some (.int .u64 g) ∧ w'.cell? ⟨X, 1, none⟩ = some (.int .i64 sg) ∧ X < w'.heap.size ∧ Below w.heap.size w w'
theorem boxKeep {w z z1 : World} {X : Nat} {g sg : Int} (h : z.cell? ⟨X, 0, none⟩ = some (.int .u64 g) ∧ z.cell? ⟨X, 1, none⟩ = some (.int .i64 sg) ∧ X < z.heap.size ∧ Below w.heap.size w z) (hb : Below z.heap.size z z1) :
    z1.cell? ⟨X, 0, none⟩ = some (.int .u64 g) ∧ z1.cell? ⟨X, 1, none⟩ = some (.int .i64 sg) ∧ X < z1.heap.size ∧ Below w.heap.size w z1 :=
  ⟨(hb.cell (p := ⟨X, 0, none⟩) h.2.2.1).trans h.1, (hb.cell (p := ⟨X, 1, none⟩) h.2.2.1).trans h.2.1, Nat.lt_of_lt_of_le h.2.2.1 hb.size, h.2.2.2.trans (hb.mono h.2.2.2.size)⟩
theorem body_text (a g sg : Nat) (h : sg < 256) : ((⟨#[72]⟩ ++ txt (num8 g)) ++ txt [sg]) ++ txt (List.replicate (a - 14) 0) = txt (hdBody a g sg) := by
  apply nl_inj
  rw [nl_append, nl_append, nl_append, nl_txt _ (num8_lt g), nl_txt [sg] (by simpa using h), nl_txt (List.replicate (a - 14) 0) (by intro b hb; rw [List.eq_of_mem_replicate hb]; decide), nl_txt _ (hdBody_lt a g sg h)]
  rfl
set_option maxRecDepth 100000 in
set_option maxHeartbeats 2000000 in
theorem rf_put_ok (a g sg : Nat) (w : World) (h : HdOk a g sg) (hg : g < M64) :
    Calls Try.prog 8 #[.int .i64 (a : Int), .agg #[.int .u64 (g : Int), .int .i64 (sg : Int)]] w fun x w' => x = .returned (.tuple #[.string (hdPut a g sg), .int .i64 0]) ∧ Below w.heap.size w w' := by
  have HD : Hid (decide (64 ≤ (a : Int) ∧ (a : Int) ≤ 512) = true) := Lib.hid (decide_eq_true ⟨h.a0, h.a1⟩)
  have g0 : decide ((g : Int) < 1) = false := decide_eq_false (by have := h.g0; omega)
  have g1 : decide (g < 1) = false := decide_eq_false (by have := h.g0; omega)
  have a14 : (14 : Int) ≤ (a : Int) := by have := h.a0; omega
  have a512 : (a : Int) ≤ 512 := h.a1
  have hs : sg = 0 ∨ sg = 1 := by have := h.s0; have := h.s1; omega
  have HN8 := Lib.hid (fun w => num_8 g hg w)
  have HN1 := Lib.hid (fun w => num_1 sg (by omega) w)
  have HBT := Lib.hid (body_text a g sg (by omega))
  have HLN := Lib.hid (hdBody_length a g sg (by omega))
  have HPU : Hid (sealT (txt (hdBody a g sg)) = hdPut a g sg) := Lib.hid rfl
  have HS8 : Hid ((txt (num8 g)).size = 8 ∧ (txt [sg]).size = 1) := Lib.hid ⟨by rw [txt_size]; rfl, by rw [txt_size]; rfl⟩
  have l8 : (txt (num8 g)).size ≤ 8 := by rw [HS8.out.1]; omega
  have l1 : (txt [sg]).size ≤ 1 := by rw [HS8.out.2]; omega
  have HB0 : Hid (BoxB w (w.alloc (.cells #[.int .u64 (g : Int), .int .i64 (sg : Int)] 32)).drew w.heap.size g sg) :=
    Lib.hid ⟨Kq.blk_cell (Kq.blk_new w _ _ _) 0, Kq.blk_cell (Kq.blk_new w _ _ _) 1, by show _ < (w.alloc _).heap.size; simp, (Kq.below_alloc w _).drew⟩
  clear h hg
  generalize hT8 : txt (num8 g) = T8 at *
  generalize hT1 : txt [sg] = T1 at *
  clear hT8 hT1
  rcases hs with rfl | rfl
  · skip
    go_enter Try.func8, Try.ntmps8
    go_wp2_with fail
    refine (rf_fits a _).mono ?_
    rw [HD.out]
    rintro x w1 ⟨rfl, rfl⟩
    go_wp2
    have hwr : IntKind.u64.wrap 0 = 0 := by decide
    have HN1 : Hid (∀ w : World, Calls Try.prog 23 #[.int .u64 0, .int .i64 1] w fun x w' => x = .returned (.string T1) ∧ Below w.heap.size w w') := Lib.hid HN1.out
    obtain ⟨z0, hz0⟩ : ∃ z, z = w.alloc (.cells #[.int .u64 (g : Int), .int .i64 0] 32) := ⟨_, rfl⟩
    rw [← hz0]
    have HS0 : Hid (z0.drew.cell? ⟨w.heap.size, 0, none⟩ = some (.int .u64 g) ∧ z0.drew.cell? ⟨w.heap.size, 1, none⟩ = some (.int .i64 0) ∧ w.heap.size < z0.drew.heap.size ∧ Below w.heap.size w z0.drew) := Lib.hid (by rw [hz0]; exact HB0.out)
    clear hz0 HB0 g0 g1
    go_region_held (fun w' => w'.cell? ⟨w.heap.size, 0, none⟩ = some (.int .u64 g) ∧ w'.cell? ⟨w.heap.size, 1, none⟩ = some (.int .i64 0) ∧ w.heap.size < w'.heap.size ∧ Below w.heap.size w w') (first | (exact HS0.out) | assumption | (refine boxKeep ?_ hb1; assumption))
      (first | (go_at_call 23; ((with_reducible refine (HN8.out _).mono ?_); rintro e z1 ⟨rfl, hb1⟩)) | (go_at_call 23; ((with_reducible refine (HN1.out _).mono ?_); rintro e z1 ⟨rfl, hb1⟩)))
    all_goals
      clear hwr l8 l1
      have hH : z1.cell? ⟨w.heap.size, 0, none⟩ = some (.int .u64 g) ∧ z1.cell? ⟨w.heap.size, 1, none⟩ = some (.int .i64 0) ∧ w.heap.size < z1.heap.size ∧ Below w.heap.size w z1 := by assumption
      have HBZ := Lib.hid hH.2.2.2
      have HB1 : Hid ((⟨#[72]⟩ ++ T8 ++ T1 : ByteArray).size = 10) := Lib.hid (by rw [ByteArray.size_append, ByteArray.size_append, HS8.out.1, HS8.out.2]; rfl)
      clear hH
      obtain ⟨bb, hbb⟩ : ∃ bb, bb = (⟨#[72]⟩ ++ T8 ++ T1 : ByteArray) := ⟨_, rfl⟩
      rw [← hbb] at HB1 HBT ⊢
      clear hbb
      have b1 : 10 ≤ (bb.size : Int) := by rw [HB1.out]; decide
      have b2 : (bb.size : Int) ≤ 10 := by rw [HB1.out]; decide
      have hmk : ∀ w, (Instr.makeSlice 44 (.int .i64 ((a : Int) - 4 - (bb.size : Int))) (.int .i64 ((a : Int) - 4 - (bb.size : Int)))).run Try.prog w = .ok (.slice (some ⟨w.heap.size, 0, none⟩) (a - 14) (a - 14)) (w.alloc (.cells (zrow (a - 14)) 5)) := fun w => mk_bytes w _ (a - 14) (by rw [HB1.out]; omega) (by omega)
      have hcv := fun w => cv_zeros (a - 14) w
      have HZS : Hid ((txt (List.replicate (a - 14) 0)).size = a - 14) := Lib.hid (by rw [txt_size, List.length_replicate])
      have hzs : (txt (List.replicate (a - 14) 0)).size ≤ 512 := by rw [HZS.out]; omega
      generalize txt (List.replicate (a - 14) 0) = ZZ at *
      have HPU : Hid (sealT (bb ++ ZZ) = hdPut a g 0) := Lib.hid (by rw [HBT.out]; exact HPU.out)
      have HSZ : Hid ((bb ++ ZZ).size + 4 ≤ maxLen) := Lib.hid (by rw [ByteArray.size_append]; unfold maxLen; omega)
      go_wp2_with fail
      refine (ref_seal (bb ++ ZZ) _ HSZ.out).mono ?_
      rw [HPU.out]
      rintro x w8 ⟨rfl, b8⟩
      have HF := Lib.hid ((HBZ.out.trans ((Kq.below_alloc z1 (.cells (zrow (a - 14)) 5)).mono HBZ.out.size)).trans (b8.mono (Nat.le_trans HBZ.out.size (Kq.below_alloc z1 _).size)))
      clear b8
      go_wp2
      go_ret2
      exact ⟨rfl, HF.out⟩
  · skip
    go_enter Try.func8, Try.ntmps8
    go_wp2_with fail
    refine (rf_fits a _).mono ?_
    rw [HD.out]
    rintro x w1 ⟨rfl, rfl⟩
    go_wp2
    have hwr : IntKind.u64.wrap 1 = 1 := by decide
    have HN1 : Hid (∀ w : World, Calls Try.prog 23 #[.int .u64 1, .int .i64 1] w fun x w' => x = .returned (.string T1) ∧ Below w.heap.size w w') := Lib.hid HN1.out
    obtain ⟨z0, hz0⟩ : ∃ z, z = w.alloc (.cells #[.int .u64 (g : Int), .int .i64 1] 32) := ⟨_, rfl⟩
    rw [← hz0]
    have HS0 : Hid (z0.drew.cell? ⟨w.heap.size, 0, none⟩ = some (.int .u64 g) ∧ z0.drew.cell? ⟨w.heap.size, 1, none⟩ = some (.int .i64 1) ∧ w.heap.size < z0.drew.heap.size ∧ Below w.heap.size w z0.drew) := Lib.hid (by rw [hz0]; exact HB0.out)
    clear hz0 HB0 g0 g1
    go_region_held (fun w' => w'.cell? ⟨w.heap.size, 0, none⟩ = some (.int .u64 g) ∧ w'.cell? ⟨w.heap.size, 1, none⟩ = some (.int .i64 1) ∧ w.heap.size < w'.heap.size ∧ Below w.heap.size w w') (first | (exact HS0.out) | assumption | (refine boxKeep ?_ hb1; assumption))
      (first | (go_at_call 23; ((with_reducible refine (HN8.out _).mono ?_); rintro e z1 ⟨rfl, hb1⟩)) | (go_at_call 23; ((with_reducible refine (HN1.out _).mono ?_); rintro e z1 ⟨rfl, hb1⟩)))
    all_goals
      clear hwr l8 l1
      have hH : z1.cell? ⟨w.heap.size, 0, none⟩ = some (.int .u64 g) ∧ z1.cell? ⟨w.heap.size, 1, none⟩ = some (.int .i64 1) ∧ w.heap.size < z1.heap.size ∧ Below w.heap.size w z1 := by assumption
      have HBZ := Lib.hid hH.2.2.2
      have HB1 : Hid ((⟨#[72]⟩ ++ T8 ++ T1 : ByteArray).size = 10) := Lib.hid (by rw [ByteArray.size_append, ByteArray.size_append, HS8.out.1, HS8.out.2]; rfl)
      clear hH
      obtain ⟨bb, hbb⟩ : ∃ bb, bb = (⟨#[72]⟩ ++ T8 ++ T1 : ByteArray) := ⟨_, rfl⟩
      rw [← hbb] at HB1 HBT ⊢
      clear hbb
      have b1 : 10 ≤ (bb.size : Int) := by rw [HB1.out]; decide
      have b2 : (bb.size : Int) ≤ 10 := by rw [HB1.out]; decide
      have hmk : ∀ w, (Instr.makeSlice 44 (.int .i64 ((a : Int) - 4 - (bb.size : Int))) (.int .i64 ((a : Int) - 4 - (bb.size : Int)))).run Try.prog w = .ok (.slice (some ⟨w.heap.size, 0, none⟩) (a - 14) (a - 14)) (w.alloc (.cells (zrow (a - 14)) 5)) := fun w => mk_bytes w _ (a - 14) (by rw [HB1.out]; omega) (by omega)
      have hcv := fun w => cv_zeros (a - 14) w
      have HZS : Hid ((txt (List.replicate (a - 14) 0)).size = a - 14) := Lib.hid (by rw [txt_size, List.length_replicate])
      have hzs : (txt (List.replicate (a - 14) 0)).size ≤ 512 := by rw [HZS.out]; omega
      generalize txt (List.replicate (a - 14) 0) = ZZ at *
      have HPU : Hid (sealT (bb ++ ZZ) = hdPut a g 1) := Lib.hid (by rw [HBT.out]; exact HPU.out)
      have HSZ : Hid ((bb ++ ZZ).size + 4 ≤ maxLen) := Lib.hid (by rw [ByteArray.size_append]; unfold maxLen; omega)
      go_wp2_with fail
      refine (ref_seal (bb ++ ZZ) _ HSZ.out).mono ?_
      rw [HPU.out]
      rintro x w8 ⟨rfl, b8⟩
      have HF := Lib.hid ((HBZ.out.trans ((Kq.below_alloc z1 (.cells (zrow (a - 14)) 5)).mono HBZ.out.size)).trans (b8.mono (Nat.le_trans HBZ.out.size (Kq.below_alloc z1 _).size)))
      clear b8
      go_wp2
      go_ret2
      exact ⟨rfl, HF.out⟩
set_option maxRecDepth 100000 in
set_option maxHeartbeats 1000000 in
theorem rf_put_bad (a : Int) (g : Nat) (sg : Int) (w : World) (h : ¬ HdOk a g sg) :
    Calls Try.prog 8 #[.int .i64 a, .agg #[.int .u64 (g : Int), .int .i64 sg]] w fun x w' => x = .returned (.tuple #[.string ⟨#[]⟩, .int .i64 1]) ∧ Below w.heap.size w w' := by
  have H := Lib.hid h
  clear h
  by_cases h0 : 64 ≤ a ∧ a ≤ 512
  · have HD : Hid (decide (64 ≤ a ∧ a ≤ 512) = true) := Lib.hid (decide_eq_true h0)
    by_cases h1 : g = 0
    · subst h1
      clear h0
      go_enter Try.func8, Try.ntmps8
      go_wp2_with fail
      refine (rf_fits a _).mono ?_
      rw [HD.out]
      rintro x w1 ⟨rfl, rfl⟩
      go_wp2
      go_ret2
      exact ⟨rfl, Kq.below_alloc _ _⟩
    · have g0 : decide ((g : Int) < 1) = false := decide_eq_false (by omega)
      have g1 : decide (g < 1) = false := decide_eq_false (by omega)
      have hne : sg ≠ 0 ∧ sg ≠ 1 := ⟨fun e => H.out ⟨h0.1, h0.2, by omega, by omega, by omega⟩, fun e => H.out ⟨h0.1, h0.2, by omega, by omega, by omega⟩⟩
      have s0 : (sg != 0) = true := by simpa using hne.1
      have s1 : (sg != 1) = true := by simpa using hne.2
      clear h0 h1 hne
      go_enter Try.func8, Try.ntmps8
      go_wp2_with fail
      refine (rf_fits a _).mono ?_
      rw [HD.out]
      rintro x w1 ⟨rfl, rfl⟩
      go_wp2
      go_ret2
      exact ⟨rfl, Kq.below_alloc _ _⟩
  · have HD : Hid (decide (64 ≤ a ∧ a ≤ 512) = false) := Lib.hid (decide_eq_false h0)
    clear h0
    go_enter Try.func8, Try.ntmps8
    go_wp2_with fail
    refine (rf_fits a _).mono ?_
    rw [HD.out]
    rintro x w1 ⟨rfl, rfl⟩
    go_wp2
    go_ret2
    exact ⟨rfl, Kq.below_alloc _ _⟩
end Go.Proofs.Ytejhlommjgibmaa
