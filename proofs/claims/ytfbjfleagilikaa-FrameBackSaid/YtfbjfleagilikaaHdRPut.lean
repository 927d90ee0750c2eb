/- Contract of carrackref06.Put. No condition but that numbers fit. -/
import Derived.WalkSpells
import Derived.Deep.RegionHeld
import Derived.Test.YtfbjfleagilikaaHdPut
namespace Go.Proofs.Ytfbjfleagilikaa
open Go.RowKit
set_option linter.unusedVariables false
theorem infoU8 : (Try.prog.info? 5).map (fun i => (i.zero, i.size, i.bytes)) = some (some (.int .u8 0), 1, 1) := by kernel_rfl
/-- a row of zeros, as make lays it -/
def zrow (n : Nat) : Array Value := madeCells (Value.int IntKind.u8 0).cells n
theorem mk_bytes (w : World) (z : Int) (n : Nat) (hz : z = (n : Int)) (hn : n ≤ 3000000) :
    (Instr.makeSlice 37 (.int .i64 z) (.int .i64 z)).run Try.prog w = .ok (.slice (some ⟨w.heap.size, 0, none⟩) n n) (w.alloc (.cells (zrow n) 5)) := by
  obtain ⟨i0, hi, hz0, hz1, hz2⟩ := info_parts infoU8
  subst hz
  have := run_makeSlice (P := Try.prog) w 37 5 i0 (.int .u8 0) Try.underlying37 hi hz0 .i64 .i64 (n : Int) (n : Int) (by omega) (Int.le_refl _) (by rw [hz1]; simp; omega) (by rw [hz2]; omega) (by omega)
  rw [hz1] at this
  simpa [zrow] using this
theorem zrow_cells (n : Nat) : zrow n = ((List.replicate n 0).map fun (b : Nat) => Value.int .u8 (b : Int)).toArray := by
  unfold zrow
  apply Array.toList_inj.1
  rw [show (Value.int IntKind.u8 0).cells = #[Value.int IntKind.u8 0] from rfl, toList_madeCells_one]
  simp
/-- string(make([]byte, n)) -/
theorem cv_zeros (n : Nat) (w : World) : (convert 37 9 (.slice (some ⟨w.heap.size, 0, none⟩) n n)).run Try.prog (w.alloc (.cells (zrow n) 5)) = .ok (.string (txt (List.replicate n 0))) (w.alloc (.cells (zrow n) 5)) := by
  have := Kq.conv_bytes (P := Try.prog) (w.alloc (.cells (zrow n) 5)) (src := 37) (dst := 9) (e := 5) ⟨w.heap.size, 0, none⟩ ((List.replicate n 0).map UInt8.ofNat) n Try.underlying37 Try.underlying5 Try.underlying9 (fun j v hj => Kq.cell_new _ _ _ (by
    rw [zrow_cells, List.getElem?_toArray, ← hj]
    simp))
  rw [List.length_map, List.length_replicate] at this
  exact this
theorem num_8 (g : Nat) (hg : g < M64) (w : World) : Calls Try.prog 36 #[.int .u64 (g : Int), .int .i64 8] w fun x w' => x = .returned (.string (txt (num8 g))) ∧ Below w.heap.size w w' := by
  have := ref_num g 8 w hg (by decide)
  rwa [be8] at this
theorem num_1 (g : Nat) (hg : g < 256) (w : World) : Calls Try.prog 36 #[.int .u64 (g : Int), .int .i64 1] w fun x w' => x = .returned (.string (txt [g])) ∧ Below w.heap.size w w' := by
  have := ref_num g 1 w (by unfold M64; omega) (by decide)
  rwa [be1 g hg] at this
def BoxB (w w' : World) (X : Nat) (g sg : Int) : Prop := w'.cell? ⟨X, 0, none⟩ = some (.int .u64 g) ∧ w'.cell? ⟨X, 1, none⟩ = some (.int .i64 sg) ∧ X < w'.heap.size ∧ Below w.heap.size w w'
theorem boxKeep {w z z1 : World} {X : Nat} {g sg : Int} (h : z.cell? ⟨X, 0, none⟩ = some (.int .u64 g) ∧ z.cell? ⟨X, 1, none⟩ = some (.int .i64 sg) ∧ X < z.heap.size ∧ Below w.heap.size w z) (hb : Below z.heap.size z z1) :
    z1.cell? ⟨X, 0, none⟩ = some (.int .u64 g) ∧ z1.cell? ⟨X, 1, none⟩ = some (.int .i64 sg) ∧ X < z1.heap.size ∧ Below w.heap.size w z1 :=
  ⟨(hb.cell (p := ⟨X, 0, none⟩) h.2.2.1).trans h.1, (hb.cell (p := ⟨X, 1, none⟩) h.2.2.1).trans h.2.1, Nat.lt_of_lt_of_le h.2.2.1 hb.size, h.2.2.2.trans (hb.mono h.2.2.2.size)⟩
theorem body_text (a g sg : Nat) (h : sg < 256) : ((⟨#[72]⟩ ++ txt (num8 g)) ++ txt [sg]) ++ txt (List.replicate (a - 14) 0) = txt (hdBody a g sg) := by
  apply nl_inj
  rw [nl_append, nl_append, nl_append, nl_txt _ (num8_lt g), nl_txt [sg] (by simpa using h), nl_txt (List.replicate (a - 14) 0) (by intro b hb; rw [List.eq_of_mem_replicate hb]; decide), nl_txt _ (hdBody_lt a g sg h)]
  rfl
end Go.Proofs.Ytfbjfleagilikaa
