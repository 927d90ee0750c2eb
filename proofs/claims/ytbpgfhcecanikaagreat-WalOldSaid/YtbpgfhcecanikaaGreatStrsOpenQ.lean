/- Merged: FrRows, HdRPut, FrRefA, FrBody, StrsOpen. Rows of texts that a call makes. No condition. Contract of carrackref06.Put. No condition but that numbers fit. Contracts of carrackref05.Right, Parts, sector. No condition but that numbers fit. Contract of frame.body. No condition but that numbers fit. A slice of texts among the arguments, opened: what a walk is told of it. No condition. -/
import Derived.WalkSpells
import Derived.Test.YtbpgfhcecanikaaGreatCommonQ
import Derived.Test.YtbpgfhcecanikaaGreatWireTextQ
import Derived.Deep.RegionHeld
import Derived.Test.YtbpgfhcecanikaaGreatWlBQ
import Derived.Laws.MakeOwn
import Derived.Test.YtbpgfhcecanikaaGreatFrMayQ
import Derived.Test.YtbpgfhcecanikaaGreatChecked
import Derived.Lib.SmallJoins
import Derived.SliceStrings
import Derived.SizedLaws
namespace Go.Proofs.YtbpgfhcecanikaaGreat
open Go.RowKit
set_option linter.unusedVariables false
theorem infoStr : (Tryz.prog.info? 9).map (fun i => (i.zero, i.size, i.bytes)) = some (some (.string ⟨#[]⟩), 1, 16) := by kernel_rfl
def tcells (l : List ByteArray) : List Value := l.map Value.string
theorem tcells_len (l : List ByteArray) : (tcells l).length = l.length := List.length_map _
theorem tcells_append (l m : List ByteArray) : tcells (l ++ m) = tcells l ++ tcells m := List.map_append
theorem fr_row_below {R : Nat} {e : TypeId} {k : Nat} {v : Value} {n : Nat} {xs : List Value} {w w' : World} (h : w.ownsRow R e k v n xs) (hb : Below w.heap.size w w') : w'.ownsRow R e k v n xs := by
  refine ⟨h.1, h.2.imp id ?_⟩
  rintro ⟨g, cap, cur, hv, h3, h4, h5⟩
  exact ⟨g, cap, cur, hv, h3, Kq.below_blk hb h4 (Kq.blk_lt h4), h5⟩
/-- .. where what it owns lies below -/
theorem fr_row_low {R B : Nat} {e : TypeId} {k : Nat} {v : Value} {n : Nat} {xs : List Value} {w w' : World} (h : w.ownsRow R e k v n xs) (hv : ∀ j, v.ownBlock = some j → j < B) (hb : Below B w w') : w'.ownsRow R e k v n xs := by
  refine ⟨h.1, h.2.imp id ?_⟩
  rintro ⟨g, cap, cur, rfl, h3, h4, h5⟩
  exact ⟨g, cap, cur, rfl, h3, Kq.below_blk hb h4 (hv g rfl), h5⟩
theorem own_lt' {R : Nat} {e : TypeId} {k : Nat} {v : Value} {n : Nat} {xs : List Value} {w : World} (h : w.ownsRow R e k v n xs) {j : Nat} (hj : v.ownBlock = some j) : R ≤ j ∧ j < w.heap.size := ⟨own_ge h hj, (h.lt j hj).2⟩
theorem fr_src_text (w : World) (s : ByteArray) (c : Nat) (e : TypeId) : Src Tryz.prog 1 35 (.slice (some ⟨w.heap.size, 0, none⟩) 1 c) 1 (tcells [s]) (w.alloc (.cells #[.string s] e)) :=
  Src.ofSlice _ Tryz.underlying35 ⟨w.heap.size, 0, none⟩ 1 c (tcells [s]) rfl (fun j u hj => Kq.cell_new _ _ _ (by
    rw [← List.getElem?_toArray] at hj
    exact hj)) (fun u hu => by
    simp only [tcells, List.map_cons, List.map_nil, List.mem_cons, List.not_mem_nil, or_false] at hu
    subst hu
    rfl)
/-- a row of texts as a slice -/
theorem row_strs {R : Nat} {v : Value} {l : List ByteArray} {w : World} (h : w.ownsRow R 9 1 v l.length (tcells l)) : ∃ A cap, v = .slice A l.length cap ∧ StrsAt w A l := by
  rcases h.2 with ⟨rfl, e⟩ | ⟨g, cap, cur, rfl, h3, h4, h5, h6, h7, h8⟩
  · rw [e]
    exact ⟨none, 0, rfl, ⟨fun j hj => absurd hj (by omega)⟩⟩
  · refine ⟨_, cap, rfl, ⟨fun j hj => ⟨g, 0, rfl, Kq.blk_lt h4, ?_⟩⟩⟩
    rw [Kq.blk_cell h4, ← Array.getElem?_toList, Nat.zero_add]
    have : (cur.toList.take (l.length * 1))[j]? = some (Value.string l[j]) := by rw [h8]; simp [tcells, hj]
    rw [List.getElem?_take, if_pos (by omega)] at this
    exact this
end Go.Proofs.YtbpgfhcecanikaaGreat
namespace Go.Proofs.YtbpgfhcecanikaaGreat
open Go.RowKit
set_option linter.unusedVariables false
theorem infoU8H : (Tryz.prog.info? 5).map (fun i => (i.zero, i.size, i.bytes)) = some (some (.int .u8 0), 1, 1) := by kernel_rfl
/-- a row of zeros, as make lays it -/
def zrowH (n : Nat) : Array Value := madeCells (Value.int IntKind.u8 0).cells n
theorem mk_bytesH (w : World) (z : Int) (n : Nat) (hz : z = (n : Int)) (hn : n ≤ 3000000) :
    (Instr.makeSlice 64 (.int .i64 z) (.int .i64 z)).run Tryz.prog w = .ok (.slice (some ⟨w.heap.size, 0, none⟩) n n) (w.alloc (.cells (zrowH n) 5)) := by
  obtain ⟨i0, hi, hz0, hz1, hz2⟩ := info_parts infoU8H
  subst hz
  have := run_makeSlice (P := Tryz.prog) w 64 5 i0 (.int .u8 0) Tryz.underlying64 hi hz0 .i64 .i64 (n : Int) (n : Int) (by omega) (Int.le_refl _) (by rw [hz1]; simp; omega) (by rw [hz2]; omega) (by omega)
  rw [hz1] at this
  simpa [zrowH] using this
theorem zrow_cellsH (n : Nat) : zrowH n = ((List.replicate n 0).map fun (b : Nat) => Value.int .u8 (b : Int)).toArray := by
  unfold zrowH
  apply Array.toList_inj.1
  rw [show (Value.int IntKind.u8 0).cells = #[Value.int IntKind.u8 0] from rfl, toList_madeCells_one]
  simp
/-- string(make([]byte, n)) -/
theorem cv_zerosH (n : Nat) (w : World) : (convert 64 9 (.slice (some ⟨w.heap.size, 0, none⟩) n n)).run Tryz.prog (w.alloc (.cells (zrowH n) 5)) = .ok (.string (txt (List.replicate n 0))) (w.alloc (.cells (zrowH n) 5)) := by
  have := Kq.conv_bytes (P := Tryz.prog) (w.alloc (.cells (zrowH n) 5)) (src := 64) (dst := 9) (e := 5) ⟨w.heap.size, 0, none⟩ ((List.replicate n 0).map UInt8.ofNat) n Tryz.underlying64 Tryz.underlying5 Tryz.underlying9 (fun j v hj => Kq.cell_new _ _ _ (by
    rw [zrow_cellsH, List.getElem?_toArray, ← hj]
    simp))
  rw [List.length_map, List.length_replicate] at this
  exact this
theorem num_8 (g : Nat) (hg : g < M64) (w : World) : Calls Tryz.prog 77 #[.int .u64 (g : Int), .int .i64 8] w fun x w' => x = .returned (.string (txt (num8 g))) ∧ Below w.heap.size w w' := by
  have := ref_num g 8 w hg (by decide)
  rwa [be8] at this
theorem num_1 (g : Nat) (hg : g < 256) (w : World) : Calls Tryz.prog 77 #[.int .u64 (g : Int), .int .i64 1] w fun x w' => x = .returned (.string (txt [g])) ∧ Below w.heap.size w w' := by
  have := ref_num g 1 w (by unfold M64; omega) (by decide)
  rwa [be1 g hg] at this
def BoxB (w w' : World) (X : Nat) (g sg : Int) : Prop := w'.cell? ⟨X, 0, none⟩ = some (.int .u64 g) ∧ w'.cell? ⟨X, 1, none⟩ = some (.int .i64 sg) ∧ X < w'.heap.size ∧ Below w.heap.size w w'
theorem boxKeep {w z z1 : World} {X : Nat} {g sg : Int} (h : z.cell? ⟨X, 0, none⟩ = some (.int .u64 g) ∧ z.cell? ⟨X, 1, none⟩ = some (.int .i64 sg) ∧ X < z.heap.size ∧ Below w.heap.size w z) (hb : Below z.heap.size z z1) :
    z1.cell? ⟨X, 0, none⟩ = some (.int .u64 g) ∧ z1.cell? ⟨X, 1, none⟩ = some (.int .i64 sg) ∧ X < z1.heap.size ∧ Below w.heap.size w z1 :=
  ⟨(hb.cell (p := ⟨X, 0, none⟩) h.2.2.1).trans h.1, (hb.cell (p := ⟨X, 1, none⟩) h.2.2.1).trans h.2.1, Nat.lt_of_lt_of_le h.2.2.1 hb.size, h.2.2.2.trans (hb.mono h.2.2.2.size)⟩
theorem body_text (a g sg : Nat) (h : sg < 256) : ((⟨#[72]⟩ ++ txt (num8 g)) ++ txt [sg]) ++ txt (List.replicate (a - 14) 0) = txt (hdBody a g sg) := by
  apply nl_inj
  rw [nl_append, nl_append, nl_append, nl_txt _ (num8_lt g), nl_txt [sg] (by simpa using h), nl_txt (List.replicate (a - 14) 0) (by intro b hb; rw [List.eq_of_mem_replicate hb]; decide), nl_txt _ (hdBody_lt a g sg h)]
  rfl
set_option maxRecDepth 100000 in
set_option maxHeartbeats 2000000 in
theorem rf_put_ok (a g sg : Nat) (w : World) (h : HdOk a g sg) (hg : g < M64) :
    Calls Tryz.prog 60 #[.int .i64 (a : Int), .agg #[.int .u64 (g : Int), .int .i64 (sg : Int)]] w fun x w' => x = .returned (.tuple #[.string (hdPut a g sg), .int .i64 0]) ∧ Below w.heap.size w w' := by
  have HD : Hid (decide (64 ≤ (a : Int) ∧ (a : Int) ≤ 512) = true) := Lib.hid (decide_eq_true ⟨h.a0, h.a1⟩)
  have g0 : decide ((g : Int) < 1) = false := decide_eq_false (by have := h.g0; omega)
  have g1 : decide (g < 1) = false := decide_eq_false (by have := h.g0; omega)
  have a14 : (14 : Int) ≤ (a : Int) := by have := h.a0; omega
  have a512 : (a : Int) ≤ 512 := h.a1
  have hs : sg = 0 ∨ sg = 1 := by have := h.s0; have := h.s1; omega
  have HN8 := Lib.hid (fun w => num_8 g hg w)
  have HN1 := Lib.hid (fun w => num_1 sg (by omega) w)
  have HBT := Lib.hid (body_text a g sg (by omega))
  have HLN := Lib.hid (hdBody_length a g sg (by omega))
  have HPU : Hid (sealT (txt (hdBody a g sg)) = hdPut a g sg) := Lib.hid rfl
  have HS8 : Hid ((txt (num8 g)).size = 8 ∧ (txt [sg]).size = 1) := Lib.hid ⟨by rw [txt_size]; rfl, by rw [txt_size]; rfl⟩
  have l8 : (txt (num8 g)).size ≤ 8 := by rw [HS8.out.1]; omega
  have l1 : (txt [sg]).size ≤ 1 := by rw [HS8.out.2]; omega
  have HB0 : Hid (BoxB w (w.alloc (.cells #[.int .u64 (g : Int), .int .i64 (sg : Int)] 48)).drew w.heap.size g sg) :=
    Lib.hid ⟨Kq.blk_cell (Kq.blk_new w _ _ _) 0, Kq.blk_cell (Kq.blk_new w _ _ _) 1, by show _ < (w.alloc _).heap.size; simp, (Kq.below_alloc w _).drew⟩
  clear h hg
  generalize hT8 : txt (num8 g) = T8 at *
  generalize hT1 : txt [sg] = T1 at *
  clear hT8 hT1
  rcases hs with rfl | rfl
  · skip
    go_enter Tryz.func60, Tryz.ntmps60
    go_wp2_with fail
    refine (rf_fits a _).mono ?_
    rw [HD.out]
    rintro x w1 ⟨rfl, rfl⟩
    go_wp2
    have hwr : IntKind.u64.wrap 0 = 0 := by decide
    have HN1 : Hid (∀ w : World, Calls Tryz.prog 77 #[.int .u64 0, .int .i64 1] w fun x w' => x = .returned (.string T1) ∧ Below w.heap.size w w') := Lib.hid HN1.out
    obtain ⟨z0, hz0⟩ : ∃ z, z = w.alloc (.cells #[.int .u64 (g : Int), .int .i64 0] 48) := ⟨_, rfl⟩
    rw [← hz0]
    have HS0 : Hid (z0.drew.cell? ⟨w.heap.size, 0, none⟩ = some (.int .u64 g) ∧ z0.drew.cell? ⟨w.heap.size, 1, none⟩ = some (.int .i64 0) ∧ w.heap.size < z0.drew.heap.size ∧ Below w.heap.size w z0.drew) := Lib.hid (by rw [hz0]; exact HB0.out)
    clear hz0 HB0 g0 g1
    go_region_held (fun w' => w'.cell? ⟨w.heap.size, 0, none⟩ = some (.int .u64 g) ∧ w'.cell? ⟨w.heap.size, 1, none⟩ = some (.int .i64 0) ∧ w.heap.size < w'.heap.size ∧ Below w.heap.size w w') (first | (exact HS0.out) | assumption | (refine boxKeep ?_ hb1; assumption))
      (first | (go_at_call 77; ((with_reducible refine (HN8.out _).mono ?_); rintro e z1 ⟨rfl, hb1⟩)) | (go_at_call 77; ((with_reducible refine (HN1.out _).mono ?_); rintro e z1 ⟨rfl, hb1⟩)))
    all_goals
      clear hwr l8 l1
      have hH : z1.cell? ⟨w.heap.size, 0, none⟩ = some (.int .u64 g) ∧ z1.cell? ⟨w.heap.size, 1, none⟩ = some (.int .i64 0) ∧ w.heap.size < z1.heap.size ∧ Below w.heap.size w z1 := by assumption
      have HBZ := Lib.hid hH.2.2.2
      have HB1 : Hid ((⟨#[72]⟩ ++ T8 ++ T1 : ByteArray).size = 10) := Lib.hid (by rw [ByteArray.size_append, ByteArray.size_append, HS8.out.1, HS8.out.2]; rfl)
      clear hH
      obtain ⟨bb, hbb⟩ : ∃ bb, bb = (⟨#[72]⟩ ++ T8 ++ T1 : ByteArray) := ⟨_, rfl⟩
      rw [← hbb] at HB1 HBT ⊢
      clear hbb
      have b1 : 10 ≤ (bb.size : Int) := by rw [HB1.out]; decide
      have b2 : (bb.size : Int) ≤ 10 := by rw [HB1.out]; decide
      have hmk : ∀ w, (Instr.makeSlice 64 (.int .i64 ((a : Int) - 4 - (bb.size : Int))) (.int .i64 ((a : Int) - 4 - (bb.size : Int)))).run Tryz.prog w = .ok (.slice (some ⟨w.heap.size, 0, none⟩) (a - 14) (a - 14)) (w.alloc (.cells (zrowH (a - 14)) 5)) := fun w => mk_bytesH w _ (a - 14) (by rw [HB1.out]; omega) (by omega)
      have hcv := fun w => cv_zerosH (a - 14) w
      have HZS : Hid ((txt (List.replicate (a - 14) 0)).size = a - 14) := Lib.hid (by rw [txt_size, List.length_replicate])
      have hzs : (txt (List.replicate (a - 14) 0)).size ≤ 512 := by rw [HZS.out]; omega
      generalize txt (List.replicate (a - 14) 0) = ZZ at *
      have HPU : Hid (sealT (bb ++ ZZ) = hdPut a g 0) := Lib.hid (by rw [HBT.out]; exact HPU.out)
      have HSZ : Hid ((bb ++ ZZ).size + 4 ≤ maxLen) := Lib.hid (by rw [ByteArray.size_append]; unfold maxLen; omega)
      go_wp2_with fail
      refine (ref_seal (bb ++ ZZ) _ HSZ.out).mono ?_
      rw [HPU.out]
      rintro x w8 ⟨rfl, b8⟩
      have HF := Lib.hid ((HBZ.out.trans ((Kq.below_alloc z1 (.cells (zrowH (a - 14)) 5)).mono HBZ.out.size)).trans (b8.mono (Nat.le_trans HBZ.out.size (Kq.below_alloc z1 _).size)))
      clear b8
      go_wp2
      go_ret2
      exact ⟨rfl, HF.out⟩
  · skip
    go_enter Tryz.func60, Tryz.ntmps60
    go_wp2_with fail
    refine (rf_fits a _).mono ?_
    rw [HD.out]
    rintro x w1 ⟨rfl, rfl⟩
    go_wp2
    have hwr : IntKind.u64.wrap 1 = 1 := by decide
    have HN1 : Hid (∀ w : World, Calls Tryz.prog 77 #[.int .u64 1, .int .i64 1] w fun x w' => x = .returned (.string T1) ∧ Below w.heap.size w w') := Lib.hid HN1.out
    obtain ⟨z0, hz0⟩ : ∃ z, z = w.alloc (.cells #[.int .u64 (g : Int), .int .i64 1] 48) := ⟨_, rfl⟩
    rw [← hz0]
    have HS0 : Hid (z0.drew.cell? ⟨w.heap.size, 0, none⟩ = some (.int .u64 g) ∧ z0.drew.cell? ⟨w.heap.size, 1, none⟩ = some (.int .i64 1) ∧ w.heap.size < z0.drew.heap.size ∧ Below w.heap.size w z0.drew) := Lib.hid (by rw [hz0]; exact HB0.out)
    clear hz0 HB0 g0 g1
    go_region_held (fun w' => w'.cell? ⟨w.heap.size, 0, none⟩ = some (.int .u64 g) ∧ w'.cell? ⟨w.heap.size, 1, none⟩ = some (.int .i64 1) ∧ w.heap.size < w'.heap.size ∧ Below w.heap.size w w') (first | (exact HS0.out) | assumption | (refine boxKeep ?_ hb1; assumption))
      (first | (go_at_call 77; ((with_reducible refine (HN8.out _).mono ?_); rintro e z1 ⟨rfl, hb1⟩)) | (go_at_call 77; ((with_reducible refine (HN1.out _).mono ?_); rintro e z1 ⟨rfl, hb1⟩)))
    all_goals
      clear hwr l8 l1
      have hH : z1.cell? ⟨w.heap.size, 0, none⟩ = some (.int .u64 g) ∧ z1.cell? ⟨w.heap.size, 1, none⟩ = some (.int .i64 1) ∧ w.heap.size < z1.heap.size ∧ Below w.heap.size w z1 := by assumption
      have HBZ := Lib.hid hH.2.2.2
      have HB1 : Hid ((⟨#[72]⟩ ++ T8 ++ T1 : ByteArray).size = 10) := Lib.hid (by rw [ByteArray.size_append, ByteArray.size_append, HS8.out.1, HS8.out.2]; rfl)
      clear hH
      obtain ⟨bb, hbb⟩ : ∃ bb, bb = (⟨#[72]⟩ ++ T8 ++ T1 : ByteArray) := ⟨_, rfl⟩
      rw [← hbb] at HB1 HBT ⊢
      clear hbb
      have b1 : 10 ≤ (bb.size : Int) := by rw [HB1.out]; decide
      have b2 : (bb.size : Int) ≤ 10 := by rw [HB1.out]; decide
      have hmk : ∀ w, (Instr.makeSlice 64 (.int .i64 ((a : Int) - 4 - (bb.size : Int))) (.int .i64 ((a : Int) - 4 - (bb.size : Int)))).run Tryz.prog w = .ok (.slice (some ⟨w.heap.size, 0, none⟩) (a - 14) (a - 14)) (w.alloc (.cells (zrowH (a - 14)) 5)) := fun w => mk_bytesH w _ (a - 14) (by rw [HB1.out]; omega) (by omega)
      have hcv := fun w => cv_zerosH (a - 14) w
      have HZS : Hid ((txt (List.replicate (a - 14) 0)).size = a - 14) := Lib.hid (by rw [txt_size, List.length_replicate])
      have hzs : (txt (List.replicate (a - 14) 0)).size ≤ 512 := by rw [HZS.out]; omega
      generalize txt (List.replicate (a - 14) 0) = ZZ at *
      have HPU : Hid (sealT (bb ++ ZZ) = hdPut a g 1) := Lib.hid (by rw [HBT.out]; exact HPU.out)
      have HSZ : Hid ((bb ++ ZZ).size + 4 ≤ maxLen) := Lib.hid (by rw [ByteArray.size_append]; unfold maxLen; omega)
      go_wp2_with fail
      refine (ref_seal (bb ++ ZZ) _ HSZ.out).mono ?_
      rw [HPU.out]
      rintro x w8 ⟨rfl, b8⟩
      have HF := Lib.hid ((HBZ.out.trans ((Kq.below_alloc z1 (.cells (zrowH (a - 14)) 5)).mono HBZ.out.size)).trans (b8.mono (Nat.le_trans HBZ.out.size (Kq.below_alloc z1 _).size)))
      clear b8
      go_wp2
      go_ret2
      exact ⟨rfl, HF.out⟩
set_option maxRecDepth 100000 in
set_option maxHeartbeats 1000000 in
theorem rf_put_bad (a : Int) (g : Nat) (sg : Int) (w : World) (h : ¬ HdOk a g sg) :
    Calls Tryz.prog 60 #[.int .i64 a, .agg #[.int .u64 (g : Int), .int .i64 sg]] w fun x w' => x = .returned (.tuple #[.string ⟨#[]⟩, .int .i64 1]) ∧ Below w.heap.size w w' := by
  have H := Lib.hid h
  clear h
  by_cases h0 : 64 ≤ a ∧ a ≤ 512
  · have HD : Hid (decide (64 ≤ a ∧ a ≤ 512) = true) := Lib.hid (decide_eq_true h0)
    by_cases h1 : g = 0
    · subst h1
      clear h0
      go_enter Tryz.func60, Tryz.ntmps60
      go_wp2_with fail
      refine (rf_fits a _).mono ?_
      rw [HD.out]
      rintro x w1 ⟨rfl, rfl⟩
      go_wp2
      go_ret2
      exact ⟨rfl, Kq.below_alloc _ _⟩
    · have g0 : decide ((g : Int) < 1) = false := decide_eq_false (by omega)
      have g1 : decide (g < 1) = false := decide_eq_false (by omega)
      have hne : sg ≠ 0 ∧ sg ≠ 1 := ⟨fun e => H.out ⟨h0.1, h0.2, by omega, by omega, by omega⟩, fun e => H.out ⟨h0.1, h0.2, by omega, by omega, by omega⟩⟩
      have s0 : (sg != 0) = true := by simpa using hne.1
      have s1 : (sg != 1) = true := by simpa using hne.2
      clear h0 h1 hne
      go_enter Tryz.func60, Tryz.ntmps60
      go_wp2_with fail
      refine (rf_fits a _).mono ?_
      rw [HD.out]
      rintro x w1 ⟨rfl, rfl⟩
      go_wp2
      go_ret2
      exact ⟨rfl, Kq.below_alloc _ _⟩
  · have HD : Hid (decide (64 ≤ a ∧ a ≤ 512) = false) := Lib.hid (decide_eq_false h0)
    clear h0
    go_enter Tryz.func60, Tryz.ntmps60
    go_wp2_with fail
    refine (rf_fits a _).mono ?_
    rw [HD.out]
    rintro x w1 ⟨rfl, rfl⟩
    go_wp2
    go_ret2
    exact ⟨rfl, Kq.below_alloc _ _⟩
end Go.Proofs.YtbpgfhcecanikaaGreat
namespace Go.Proofs.YtbpgfhcecanikaaGreat
open Go.RowKit
set_option linter.unusedVariables false
theorem nParts_more (a b : Nat) (ha : 64 ≤ a) (h : a - 25 < b) : nParts a b = nParts a (b - (a - 25)) + 1 := by
  obtain ⟨r, hr⟩ : ∃ r, r = a - 25 := ⟨_, rfl⟩
  unfold nParts
  rw [← hr] at h ⊢
  have e : b + r - 1 = (b - r + r - 1) + r := by omega
  rw [e, Nat.add_div_right _ (by omega)]
  have : 1 ≤ (b - r + r - 1) / r := (Nat.le_div_iff_mul_le (by omega)).2 (by omega)
  omega
theorem nParts_one (a b : Nat) (ha : 64 ≤ a) (h : b ≤ a - 25) : nParts a b = 1 := by
  have := nParts_at a 0 b ha
  rw [Nat.zero_mul, Nat.zero_add] at this
  exact this.2 ⟨h, fun h => absurd h (Nat.lt_irrefl _)⟩
theorem nParts_le (a b : Nat) (ha : 64 ≤ a) (hb : b ≤ 4096) : 1 ≤ nParts a b ∧ nParts a b ≤ 106 := by
  refine ⟨by unfold nParts; omega, ?_⟩
  obtain ⟨r, hr⟩ : ∃ r, r = a - 25 := ⟨_, rfl⟩
  unfold nParts
  rw [← hr]
  have h1 : (b + r - 1) / r < 107 := Nat.div_lt_of_lt_mul (by omega)
  omega
set_option maxRecDepth 100000 in
set_option maxHeartbeats 1000000 in
theorem rf_parts (a b : Int) (w : World) : Calls Tryz.prog 24 #[.int .i64 a, .int .i64 b] w fun x w' => x = .returned (.int .i64 (frParts a b)) ∧ w = w' := by
  unfold frParts
  by_cases h0 : FrSz a
  · have D0 := Lib.hid (show decide (64 ≤ a ∧ a ≤ 512) = true from decide_eq_true h0)
    obtain ⟨n, rfl⟩ := Int.eq_ofNat_of_zero_le (show 0 ≤ a by have := h0.1; omega)
    have hn : 64 ≤ n ∧ n ≤ 512 := by unfold FrSz at h0; omega
    by_cases h1 : b < 0
    · have d1 : decide (b < 0) = true := decide_eq_true h1
      rw [if_neg (by omega)]
      clear h0 h1
      go_enter Tryz.func24, Tryz.ntmps24
      go_wp2_with fail
      refine (rf_fits _ _).mono ?_
      rw [D0.out]
      rintro x w1 ⟨rfl, rfl⟩
      go_wp2
      go_ret
      exact ⟨rfl, rfl⟩
    have d1 : decide (b < 0) = false := decide_eq_false h1
    by_cases h2 : 4096 < b
    · have d2 : decide (4096 < b) = true := decide_eq_true h2
      rw [if_neg (by omega)]
      clear h0 h1 h2
      go_enter Tryz.func24, Tryz.ntmps24
      go_wp2_with fail
      refine (rf_fits _ _).mono ?_
      rw [D0.out]
      rintro x w1 ⟨rfl, rfl⟩
      go_wp2
      go_ret
      exact ⟨rfl, rfl⟩
    have d2 : decide (4096 < b) = false := decide_eq_false h2
    rw [if_pos ⟨h0, by omega, by omega⟩]
    obtain ⟨m, rfl⟩ := Int.eq_ofNat_of_zero_le (show 0 ≤ b by omega)
    have hm : m ≤ 4096 := by omega
    have HM := Lib.hid (And.intro hn hm)
    rw [Int.toNat_natCast, Int.toNat_natCast]
    have e1 : decide ((m : Int) < 0) = false := d1
    have e2 : decide (4096 < m) = false := decide_eq_false (by omega)
    have a1 : (64 : Int) ≤ (n : Int) := by omega
    have a2 : (n : Int) ≤ 512 := by omega
    clear h0 h1 h2 hn hm
    go_enter Tryz.func24, Tryz.ntmps24
    go_wp2_with fail
    refine (rf_fits _ _).mono ?_
    rw [D0.out]
    rintro x w1 ⟨rfl, rfl⟩
    clear D0
    go_wp2
    clear d1 d2 e1 e2
    go_loop [1, 5] (fun b k => ∃ (bn kn : Nat), b = .int .i64 (bn : Int) ∧ k = .int .i64 (kn : Int) ∧ bn ≤ m ∧ 1 ≤ kn ∧ nParts n m + 1 = kn + nParts n bn) (fun b _ => (intOf b).toNat)
    case atStart => exact ⟨m, 1, rfl, rfl, Nat.le_refl _, Nat.le_refl _, by omega⟩
    case round =>
      obtain ⟨bn, kn, rfl, rfl, hbm, hk1, hrel⟩ := hrel
      have hle := (nParts_le n m HM.out.1.1 HM.out.2).2
      have hbl := HM.out.2
      have hkl : kn ≤ 106 := by have := (nParts_le n bn HM.out.1.1 (by omega)).1; omega
      by_cases hlt : n - 25 < bn
      · have g1 : decide ((n : Int) - 25 < (bn : Int)) = true := decide_eq_true (by omega)
        have hmo := nParts_more n bn HM.out.1.1 hlt
        have hsub : (bn : Int) - ((n : Int) - 25) = ((bn - (n - 25) : Nat) : Int) := by omega
        have hbl2 : bn ≤ 4096 := by omega
        have HR := Lib.hid (And.intro hmo (And.intro hrel (And.intro hbm hlt)))
        have hlt2 : bn - (n - 25) ≤ 4096 := by omega
        have hlt3 : bn - (n - 25) < bn := by have := HM.out.1.1; omega
        have HL := Lib.hid hlt3
        clear hmo hrel hbm hlt hle hbl hlt3
        generalize bn - (n - 25) = b2 at *
        go_wp2
        go_round
        case rel => exact ⟨b2, kn + 1, rfl, by go_num, by have := HL.out; have := HR.out; omega, by omega, by have := HR.out; omega⟩
        case measure => have := HL.out; simp [intOf]; omega
      · have g1 : decide ((n : Int) - 25 < (bn : Int)) = false := decide_eq_false (by omega)
        have hon := nParts_one n bn HM.out.1.1 (by omega)
        obtain rfl : kn = nParts n m := by omega
        clear hlt hrel
        go_wp2
        go_ret
        exact ⟨rfl, rfl⟩
  · have D0 := Lib.hid (show decide (64 ≤ a ∧ a ≤ 512) = false from decide_eq_false h0)
    rw [if_neg (fun h => h0 h.1)]
    clear h0
    go_enter Tryz.func24, Tryz.ntmps24
    go_wp2_with fail
    refine (rf_fits _ _).mono ?_
    rw [D0.out]
    rintro x w1 ⟨rfl, rfl⟩
    go_wp2
    go_ret
    exact ⟨rfl, rfl⟩
theorem num_2 (g : Nat) (hg : g < 65536) (w : World) : Calls Tryz.prog 77 #[.int .u64 (g : Int), .int .i64 2] w fun x w' => x = .returned (.string (txt (hi2 g))) ∧ Below w.heap.size w w' := by
  have := ref_num g 2 w (by unfold M64; omega) (by decide)
  rwa [be2 g hg] at this
theorem sec_text (a : Nat) (p : FrP) (hi : p.i < 256) (hn : p.n < 256) (hd : p.d.size < 65536) :
    ((((((⟨#[82]⟩ ++ txt (num8 p.g)) ++ txt (num8 p.x)) ++ txt [p.i]) ++ txt [p.n]) ++ txt (hi2 p.d.size)) ++ p.d) ++ txt (List.replicate (a - 25 - p.d.size) 0) = txt (frBody a p) := by
  apply nl_inj
  rw [nl_append, nl_append, nl_append, nl_append, nl_append, nl_append, nl_append, nl_txt _ (num8_lt _), nl_txt _ (num8_lt _), nl_txt [p.i] (by simpa using hi), nl_txt [p.n] (by simpa using hn), nl_txt _ (hi2_lt _ hd), nl_txt (List.replicate (a - 25 - p.d.size) 0) (by intro b hb; rw [List.eq_of_mem_replicate hb]; decide), nl_txt _ (frBody_lt a p hi hn hd)]
  unfold frBody
  simp only [List.append_assoc, List.nil_append]
  rfl
set_option maxRecDepth 100000 in
set_option maxHeartbeats 2000000 in
theorem rf_sector (a : Nat) (p : FrP) (w : World) (ha : 64 ≤ a) (h5 : a ≤ 512) (hg : p.g < M64) (hx : p.x < M64) (hi : p.i ≤ 255) (hn : p.n ≤ 255) (hd : p.d.size ≤ a - 25) :
    Calls Tryz.prog 75 #[.int .i64 (a : Int), .int .u64 (p.g : Int), .int .u64 (p.x : Int), .int .i64 (p.i : Int), .int .i64 (p.n : Int), .string p.d] w fun x w' => x = .returned (.string (frSec a p)) ∧ Below w.heap.size w w' := by
  have HST := Lib.hid (sec_text a p (by omega) (by omega) (by omega))
  have HPU : Hid (sealT (txt (frBody a p)) = frSec a p) := Lib.hid rfl
  have HBZ : Hid ((txt (frBody a p)).size = a - 4) := Lib.hid (by rw [txt_size, frBody_length a p (by omega) hd])
  generalize txt (frBody a p) = FB at *
  generalize frSec a p = FS at *
  obtain ⟨g, x, i, n, d⟩ := p
  simp only at hi hn hd hg hx HST ⊢
  have K1 := Lib.hid (fun w => num_8 g hg w)
  have K2 := Lib.hid (fun w => num_8 x hx w)
  have K3 := Lib.hid (fun w => num_1 i (by omega) w)
  have K4 := Lib.hid (fun w => num_1 n (by omega) w)
  have K5 := Lib.hid (fun w => num_2 d.size (by omega) w)
  have z1 : (txt (num8 g)).size = 8 := by rw [txt_size]; rfl
  have z2 : (txt (num8 x)).size = 8 := by rw [txt_size]; rfl
  have z3 : (txt [i]).size = 1 := by rw [txt_size]; rfl
  have z4 : (txt [n]).size = 1 := by rw [txt_size]; rfl
  have z5 : (txt (hi2 d.size)).size = 2 := by rw [txt_size]; rfl
  have a0 : (64 : Int) ≤ (a : Int) := by omega
  have a1 : (a : Int) ≤ 512 := by omega
  have w3 : IntKind.u64.wrap (i : Int) = (i : Int) := IntWalk.u64_in _ (by omega)
  have w4 : IntKind.u64.wrap (n : Int) = (n : Int) := IntWalk.u64_in _ (by omega)
  have w5 : IntKind.u64.wrap (d.size : Int) = (d.size : Int) := IntWalk.u64_in _ (by omega)
  have HN := Lib.hid (And.intro ha (And.intro h5 hd))
  clear hg hx hi hn ha h5
  generalize txt (num8 g) = T1 at *
  generalize txt (num8 x) = T2 at *
  generalize txt [i] = T3 at *
  generalize txt [n] = T4 at *
  generalize txt (hi2 d.size) = T5 at *
  have HZ := Lib.hid (And.intro z1 (And.intro z2 (And.intro z3 (And.intro z4 z5))))
  have y1 : T1.size ≤ 8 := by omega
  have y2 : T2.size ≤ 8 := by omega
  have y3 : T3.size ≤ 1 := by omega
  have y4 : T4.size ≤ 1 := by omega
  have y5 : T5.size ≤ 2 := by omega
  have y6 : d.size ≤ 487 := by omega
  clear z1 z2 z3 z4 z5 hd
  go_enter Tryz.func75, Tryz.ntmps75
  go_wp2_with fail
  refine (K1.out _).mono ?_
  rintro e w1 ⟨rfl, b1⟩
  have B1 := Lib.hid b1
  clear b1 K1
  go_wp2_with fail
  refine (K2.out _).mono ?_
  rintro e w2 ⟨rfl, b2⟩
  have B2 := Lib.hid (B1.out.trans (b2.mono B1.out.size))
  clear b2 K2 B1
  go_wp2_with fail
  refine (K3.out _).mono ?_
  rintro e w3 ⟨rfl, b3⟩
  have B3 := Lib.hid (B2.out.trans (b3.mono B2.out.size))
  clear b3 K3 B2
  go_wp2_with fail
  refine (K4.out _).mono ?_
  rintro e w4 ⟨rfl, b4⟩
  have B4 := Lib.hid (B3.out.trans (b4.mono B3.out.size))
  clear b4 K4 B3
  go_wp2_with fail
  refine (K5.out _).mono ?_
  rintro e w5 ⟨rfl, b5⟩
  have B5 := Lib.hid (B4.out.trans (b5.mono B4.out.size))
  clear b5 K5 B4
  have HB1 : Hid ((⟨#[82]⟩ ++ T1 ++ T2 ++ T3 ++ T4 ++ T5 ++ d : ByteArray).size = 21 + d.size) := Lib.hid (by
    have h := HZ.out
    simp only [ByteArray.size_append]
    rw [h.1, h.2.1, h.2.2.1, h.2.2.2.1, h.2.2.2.2, show (⟨#[82]⟩ : ByteArray).size = 1 from rfl])
  obtain ⟨b4, hb4⟩ : ∃ b, b = (⟨#[82]⟩ ++ T1 ++ T2 ++ T3 ++ T4 : ByteArray) := ⟨_, rfl⟩
  have hz4 : b4.size ≤ 19 := by
    have h := HZ.out
    rw [hb4]
    simp only [ByteArray.size_append]
    rw [h.1, h.2.1, h.2.2.1, h.2.2.2.1, show (⟨#[82]⟩ : ByteArray).size = 1 from rfl]
    decide
  rw [← hb4] at HB1 HST ⊢
  clear hb4
  obtain ⟨b5, hb5⟩ : ∃ b, b4 ++ T5 = b := ⟨_, rfl⟩
  have hz5 : b5.size ≤ 21 := by rw [← hb5, ByteArray.size_append]; omega
  rw [hb5] at HB1 HST
  obtain ⟨bb, hbb⟩ : ∃ b, b5 ++ d = b := ⟨_, rfl⟩
  rw [hbb] at HB1 HST
  have s1 : (bb.size : Int) = 21 + (d.size : Int) := by rw [HB1.out]; omega
  have y7 : (d.size : Int) ≤ (a : Int) - 25 := by have := HN.out; omega
  have hmk : ∀ w, (Instr.makeSlice 64 (.int .i64 ((a : Int) - 4 - (bb.size : Int))) (.int .i64 ((a : Int) - 4 - (bb.size : Int)))).run Tryz.prog w = .ok (.slice (some ⟨w.heap.size, 0, none⟩) (a - 25 - d.size) (a - 25 - d.size)) (w.alloc (.cells (zrowH (a - 25 - d.size)) 5)) := fun w => mk_bytesH w _ (a - 25 - d.size) (by omega) (by omega)
  have hcv := fun w => cv_zerosH (a - 25 - d.size) w
  have hzs : (txt (List.replicate (a - 25 - d.size) 0)).size ≤ 512 := by rw [txt_size, List.length_replicate]; omega
  have HD2 := Lib.hid (And.intro s1 y7)
  have s2 : 21 ≤ (bb.size : Int) := by omega
  have s3 : (bb.size : Int) ≤ 508 := by omega
  generalize txt (List.replicate (a - 25 - d.size) 0) = ZZ at *
  have HSZ : Hid ((bb ++ ZZ).size + 4 ≤ maxLen) := Lib.hid (by rw [ByteArray.size_append]; unfold maxLen; omega)
  have s4 : (bb.size : Int) ≤ (a : Int) - 4 := by omega
  clear s1 y7
  go_wp2_with fail
  refine (ref_seal (bb ++ ZZ) _ HSZ.out).mono ?_
  rw [HST.out, HPU.out]
  rintro e w8 ⟨rfl, b8⟩
  have HF := Lib.hid ((B5.out.trans ((Kq.below_alloc w5 (.cells (zrowH (a - 25 - d.size)) 5)).mono B5.out.size)).trans (b8.mono (Nat.le_trans B5.out.size (Kq.below_alloc w5 _).size)))
  clear b8
  go_wp2
  go_ret
  exact ⟨rfl, HF.out⟩
end Go.Proofs.YtbpgfhcecanikaaGreat
namespace Go.Proofs.YtbpgfhcecanikaaGreat
open Go.RowKit
set_option linter.unusedVariables false
set_option maxRecDepth 100000 in
set_option maxHeartbeats 1000000 in
theorem fr_body (a : Nat) (p : FrP) (w : World) (ha : 64 ≤ a) (h5 : a ≤ 512) (hg : p.g < M64) (hx : p.x < M64) (hi : p.i ≤ 255) (hn : p.n ≤ 255) (hd : p.d.size ≤ a - 25) :
    Calls Tryz.prog 69 #[.int .i64 (a : Int), p.val] w fun e w' => e = .returned (.string (txt (frBody a p))) ∧ Below w.heap.size w w' := by
  have HLT := Lib.hid (frBody_lt a p (by omega) (by omega) (by omega))
  have HFB : Hid (((((((([] ++ [82]) ++ num8 p.g) ++ num8 p.x) ++ [p.i]) ++ [p.n]) ++ hi2 p.d.size ++ nl p.d) ++ List.replicate (a - 25 - p.d.size) 0) = frBody a p) := Lib.hid rfl
  generalize frBody a p = FB at *
  obtain ⟨g, x, i, n, d⟩ := p
  unfold FrP.val
  simp only at hi hn hd hg hx HFB ⊢
  have hr1 : (d.size : Int) ≤ (a : Int) - 25 := by omega
  have hr2 : (a : Int) ≤ 512 := by omega
  have hr3 : 64 ≤ (a : Int) := by omega
  have hsub : ((a : Int) - 25 - (d.size : Int)) = ((a - 25 - d.size : Nat) : Int) := by omega
  have H := Lib.hid (And.intro hg (And.intro hx (And.intro hi (And.intro hn (And.intro hd (And.intro ha h5))))))
  clear hg hx hi hn hd ha h5
  have P0 := Lib.hid (PH.start w #[.int .u64 (g : Int), .int .u64 (x : Int), .int .i64 (i : Int), .int .i64 (n : Int), .string d] 118)
  go_enter Tryz.func69, Tryz.ntmps69
  go_wp2_with fail
  refine (wr_raw _ _ 0 _ [] ⟨#[82]⟩ _ P0.out.it (by decide)).mono ?_
  intro x1 w2 hp
  obtain ⟨v2, P2⟩ := P0.out.step hp.any
  rw [show [] ++ nl ⟨#[82]⟩ = [] ++ [82] from rfl] at P2
  have P2 := Lib.hid P2
  obtain ⟨rfl, -⟩ := hp
  clear P0
  have b0 := Kq.blk_cell P2.out.box 0
  go_wp2_with fail
  refine (wr_number _ _ 0 _ _ g _ P2.out.it H.out.1 (by decide)).mono ?_
  intro x1 w3 hp
  obtain ⟨v3, P3⟩ := P2.out.step hp
  have P3 := Lib.hid P3
  obtain ⟨rfl, -⟩ := hp
  clear P2 b0
  have b1 := Kq.blk_cell P3.out.box 1
  go_wp2_with fail
  refine (wr_number _ _ 0 _ _ x _ P3.out.it H.out.2.1 (by simp [num8_length])).mono ?_
  intro x1 w4 hp
  obtain ⟨v4, P4⟩ := P3.out.step hp
  have P4 := Lib.hid P4
  obtain ⟨rfl, -⟩ := hp
  clear P3 b1
  have b2 := Kq.blk_cell P4.out.box 2
  go_wp2_with fail
  refine (wr_byte_ok _ _ 0 _ _ i _ P4.out.it H.out.2.2.1 (by simp [num8_length])).mono ?_
  intro x1 w5 hp
  obtain ⟨v5, P5⟩ := P4.out.step hp.any
  have P5 := Lib.hid P5
  obtain ⟨rfl, -⟩ := hp
  clear P4 b2
  have b3 := Kq.blk_cell P5.out.box 3
  go_wp2_with fail
  refine (wr_byte_ok _ _ 0 _ _ n _ P5.out.it H.out.2.2.2.1 (by simp [num8_length])).mono ?_
  intro x1 w6 hp
  obtain ⟨v6, P6⟩ := P5.out.step hp.any
  have P6 := Lib.hid P6
  obtain ⟨rfl, -⟩ := hp
  clear P5 b3
  have b4 := Kq.blk_cell P6.out.box 4
  go_wp2_with fail
  refine (wr_text_ok _ _ 0 _ _ d _ P6.out.it (by have := H.out.2.2.2.2; omega) (by simp [num8_length])).mono ?_
  intro x1 w7 hp
  obtain ⟨v7, P7⟩ := P6.out.step hp
  have P7 := Lib.hid P7
  obtain ⟨rfl, -⟩ := hp
  clear P6 b4
  have b4 := Kq.blk_cell P7.out.box 4
  go_wp2_with fail
  refine (repeat_ok (a - 25 - d.size) _ (by have := H.out.2.2.2.2; omega)).mono ?_
  rintro x1 w8 ⟨rfl, b8⟩
  have P8 := Lib.hid (P7.out.below b8)
  have HZ : Hid (nl (txt (List.replicate (a - 25 - d.size) 0)) = List.replicate (a - 25 - d.size) 0 ∧ (txt (List.replicate (a - 25 - d.size) 0)).size ≤ 1000) := Lib.hid ⟨nl_txt _ (by intro b hb; rw [List.eq_of_mem_replicate hb]; decide), by rw [txt_size, List.length_replicate]; have := H.out.2.2.2.2; omega⟩
  clear b8 P7 b4
  go_wp2_with fail
  refine (wr_raw _ _ 0 _ _ _ _ P8.out.it (by have := HZ.out.2; have h2 := H.out.2.2.2.2; have h3 : (hi2 d.size).length = 2 := rfl; simp [num8_length, nl_length, h3]; omega)).mono ?_
  intro x1 w9 hp
  obtain ⟨v9, P9⟩ := P8.out.step hp.any
  have P9 := Lib.hid P9
  obtain ⟨rfl, -⟩ := hp
  rw [HZ.out.1, HFB.out] at P9
  clear P8 HZ
  go_wp2_with fail
  refine (wr_bytes_ok _ _ v9 _ _ P9.out.it HLT.out).mono ?_
  rintro x1 w10 ⟨rfl, rfl⟩
  go_wp2
  go_ret
  exact ⟨rfl, P9.out.bel⟩
end Go.Proofs.YtbpgfhcecanikaaGreat
namespace Go.Proofs.YtbpgfhcecanikaaGreat
open Go.RowKit Go.ChangeShapes Go.WideShapes Go.Joins
set_option linter.unusedVariables false
theorem add_flatS (b off i : Nat) : (⟨b, off, none⟩ : Addr).add i = ⟨b, off + i, none⟩ := by unfold Addr.add; split <;> simp_all
set_option maxRecDepth 100000 in
theorem strs_open {H : Type} {enc : TypeId × Value → H} {W : World} {base : Nat} {v : Value} {d : DataW H} {p : List MemPlace}
    (hval : Value.okWide Tryz.prog W .any base 35 v) (h : DataW.Trod enc Tryz.prog W 0 (fun _ => true) true 35 v d p) (hz : ∀ n ∈ d.weights Tryz.prog 35, n ≤ reachBytes) :
    ∃ A cap l, v = .slice A l.length cap ∧ l.length ≤ maxLen ∧ (∀ s ∈ l, s.size ≤ maxLen) ∧ StrsAt W A l := by
  obtain ⟨A, len, cap, rfl⟩ := okWide_slice Tryz.underlying35 hval
  obtain ⟨fuel, hf⟩ := h
  rcases open_strings Tryz.underlying35 Tryz.underlying9 (by kernel_rfl) hf with ⟨hcs, _⟩ | ⟨a, len', cap', ss, hcs, _, hl, hm, hss, _, hcell, hsz⟩
  · simp [Value.cells] at hcs
    obtain ⟨rfl, rfl, rfl⟩ := hcs
    exact ⟨none, 0, [], rfl, Nat.zero_le _, (by simp), ⟨fun j hj => absurd hj (Nat.not_lt_zero _)⟩⟩
  · simp [Value.cells] at hcs
    obtain ⟨rfl, rfl, rfl⟩ := hcs
    simp only [if_true] at hss
    have hlen : (ss.take len).length = len := by rw [List.length_take]; omega
    refine ⟨some a, cap, ss.take len, by rw [hlen], by rw [hlen]; omega, fun s hs => hsz s (List.mem_of_mem_take hs), ⟨fun j hj => ?_⟩⟩
    rw [hlen] at hj
    have hc := hcell j (by omega)
    obtain ⟨b, off, spot⟩ := a
    have hsp : spot = none := by
      have := World.cell?_spot (hcell 0 (by omega))
      simpa [Addr.add] using this
    subst hsp
    rw [add_flatS] at hc
    refine ⟨b, off, rfl, ?_, ?_⟩
    · rcases Nat.lt_or_ge b W.heap.size with h' | h'
      · exact h'
      · simp [World.cell?, Array.getElem?_eq_none h'] at hc
    · rw [hc, List.getD_eq_getElem?_getD, List.getElem?_eq_getElem (by omega)]
      simp
end Go.Proofs.YtbpgfhcecanikaaGreat
