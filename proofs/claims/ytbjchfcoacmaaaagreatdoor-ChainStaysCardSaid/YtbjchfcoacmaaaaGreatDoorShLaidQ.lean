/- What the condition 'laid' gives: the constants lie where they lie; and a world that meets it. No condition. -/
import Derived.Test.YtbjchfcoacmaaaaGreatDoorRows
import Derived.Lib.LaidTab
import Derived.LaidHandle
import Derived.ProofKit
import Derived.Test.YtbjchfcoacmaaaaGreatDoorShOneQ
namespace Go.Proofs.YtbjchfcoacmaaaaGreatDoor
open Go.RowKit
set_option linter.unusedVariables false
def rootsZ : List Int := Sh.K.map fun (n : Nat) => (n : Int)
def firstZ : List Int := (toL Sh.H0).map fun (n : Nat) => (n : Int)
def bothLaid : List (String × DataW Unit) := [("carrack/sha.roots", Rows.laid_carrack_sha_roots), ("carrack/sha.first", Rows.laid_carrack_sha_first)]
theorem roots_data : (Rows.laid_carrack_sha_roots : DataW Unit) = Lib.tabData .u32 rootsZ := by kernel_rfl
theorem first_data : (Rows.laid_carrack_sha_first : DataW Unit) = Lib.tabData .u32 firstZ := by kernel_rfl
theorem gR : Tryz.prog.globalNamed "carrack/sha.roots" = some 1 := by kernel_rfl
theorem gF : Tryz.prog.globalNamed "carrack/sha.first" = some 0 := by kernel_rfl
theorem gRT : (Tryz.prog.globals[1]?).map (·.type) = some 253 := by kernel_rfl
theorem gFT : (Tryz.prog.globals[0]?).map (·.type) = some 231 := by kernel_rfl
theorem c44 : Tryz.prog.cellsOf 187 = 1 := by kernel_rfl
theorem c59 : Tryz.prog.cellsOf 253 = 64 := by kernel_rfl
theorem c46 : Tryz.prog.cellsOf 231 = 8 := by kernel_rfl
theorem lt_of_cell {W : World} {g i : Nat} {v : Value} (h : W.cell? ⟨g, i, none⟩ = some v) : g < W.heap.size := by
  rcases Nat.lt_or_ge g W.heap.size with h1 | h1
  · exact h1
  · simp [World.cell?, Array.getElem?_eq_none h1] at h
theorem laid_ok {W : World} (h : laidMetH Tryz.prog bothLaid W) : LaidOk W := by
  have h1 : laidMet Tryz.prog [("carrack/sha.roots", Lib.tabData .u32 rootsZ), ("carrack/sha.first", Lib.tabData .u32 firstZ)] W := by
    rw [← roots_data, ← first_data]; exact h
  have hR := Lib.tabIs_of_head gR gRT Tryz.underlying253 Tryz.underlying187 c44 c59 h1
  have hF : Lib.TabIs Tryz.prog W "carrack/sha.first" .u32 firstZ := by
    obtain ⟨ps, ⟨g', t', cs, fuel, p, q, hg', ht', hvar, hd, hrest, hps⟩, _⟩ := h1
    obtain ⟨g'', t'', cs', fuel', p', q', hg'', ht'', hvar', hd', _, _⟩ := hrest
    obtain rfl := Option.some.inj (gF.symm.trans hg'')
    obtain rfl := Option.some.inj (gFT.symm.trans ht'')
    unfold Lib.TabIs
    rw [hvar', ← Lib.cells_of_tab Tryz.underlying231 Tryz.underlying187 c44 c46 hd']
  have hr : RootsAt W := fun t ht => by
    have := hR.cell gR t (by rw [rootsZ, List.length_map, K_length]; exact ht)
    rw [this, rootsZ, List.getD_eq_getElem?_getD, List.getD_eq_getElem?_getD, List.getElem?_map]
    cases Sh.K[t]? <;> rfl
  have hf : FirstAt W := fun t ht => by
    have := hF.cell gF t (by rw [firstZ, List.length_map]; exact ht)
    rw [this, firstZ, List.getD_eq_getElem?_getD, List.getD_eq_getElem?_getD, List.getElem?_map]
    cases (toL Sh.H0)[t]? <;> rfl
  exact ⟨hr, hf, lt_of_cell (hr 0 (by decide)), lt_of_cell (hf 0 (by decide))⟩
/-- A world that meets the condition: the settled one, the two variables laid. -/
noncomputable def laidWorld (os : Os) : World :=
  let w0 := World.holding Tryz.prog os ⟨#[], #[], []⟩
  let put (h : Array Obj) (g : Nat) (cs : Array Value) : Array Obj := h.modify g fun
    | .cells _ t frozen => .cells cs t frozen
    | o => o
  let h1 := put w0.heap 1 (rootsZ.map fun z => Value.int .u32 z).toArray
  let h2 := put h1 0 (firstZ.map fun z => Value.int .u32 z).toArray
  { w0 with heap := h2 }
theorem laidWorld_met (os : Os) (args : Array Value) : laidMetH Tryz.prog bothLaid ((laidWorld os).forCall (fun _ _ => 0) ⟨#[], args, []⟩).memory := by
  have h : laidMet Tryz.prog bothLaid ((laidWorld os).forCall (fun _ _ => 0) ⟨#[], args, []⟩).memory := laidMet_of_run' 8 (by kernel_rfl) (by kernel_rfl)
  exact h
end Go.Proofs.YtbjchfcoacmaaaaGreatDoor
