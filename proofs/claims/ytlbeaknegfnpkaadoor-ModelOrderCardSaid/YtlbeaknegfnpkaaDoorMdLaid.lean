/- What the condition 'laid' gives at layer 22: the table of states lies where it lies; and a world that meets it. No condition. -/
import Derived.Test.YtlbeaknegfnpkaaDoorRows
import Derived.Lib.LaidTab
import Derived.LaidHandle
import Derived.ProofKit
import Derived.Test.YtlbeaknegfnpkaaDoorMdM
namespace Go.Proofs.YtlbeaknegfnpkaaDoor
open Go.RowKit
set_option linter.unusedVariables false
/-- the table of states lies in the variable's block -/
structure LaidOk (w : World) : Prop where
  cells : ∀ i j : Nat, i < 5 → j < 5 → w.cell? ⟨0, i * 5 + j, none⟩ = some (.bool (folB i j))
  lt : 0 < w.heap.size
theorem LaidOk.later {w w' : World} {B : Nat} (h : LaidOk w) (hb : Below B w w') (hB : 0 < B) : LaidOk w' :=
  ⟨fun i j hi hj => (hb.cell (p := ⟨0, i * 5 + j, none⟩) hB).trans (h.cells i j hi hj), Nat.lt_of_lt_of_le h.lt hb.size⟩
theorem LaidOk.below {w w' : World} (h : LaidOk w) (hb : Below w.heap.size w w') : LaidOk w' := h.later hb h.lt
def bothLaid : List (String × DataW Unit) := [("carrack/model.follows", Rows.laid_carrack_model_follows)]
def rowsZ : List (List Bool) := (List.range 5).map fun (i : Nat) => (List.range 5).map fun (j : Nat) => folB (i : Int) (j : Int)
def rowData {H : Type} (r : List Bool) : DataW H := .agg (r.map fun z => .lit (.bool z))
theorem fol_data : (Rows.laid_carrack_model_follows : DataW Unit) = .agg (rowsZ.map rowData) := by kernel_rfl
theorem gFo : Tryd.prog.globalNamed "carrack/model.follows" = some 0 := by kernel_rfl
theorem gFoT : (Tryd.prog.globals[0]?).map (·.type) = some 45 := by kernel_rfl
theorem cB : Tryd.prog.cellsOf 4 = 1 := by kernel_rfl
theorem cR : Tryd.prog.cellsOf 44 = 5 := by kernel_rfl
theorem cRR : Tryd.prog.cellsOf 45 = 25 := by kernel_rfl
section
variable {H : Type} {enc : TypeId × Value → H} {P : Program} {w : World} {base : Nat} {sp : Nat → Bool} {held : Bool}
/-- an array that reads as so many data: element by element -/
theorem arr_at {fuel : Nat} {t e : TypeId} {n : Nat} {cs : List Value} {ds : List (DataW H)} {p : List MemPlace} (ht : P.underlying t = some (.array n e)) (h : DataW.trod enc P w base sp held fuel t cs = some (.agg ds, p)) :
    ds.length = n ∧ ∃ f', ∀ i (hi : i < ds.length), ∃ q, DataW.trod enc P w base sp held f' e ((cs.drop (i * P.cellsOf e)).take (P.cellsOf e)) = some (ds[i], q) := by
  cases fuel with
  | zero => simp [DataW.trod] at h
  | succ fuel =>
    simp only [DataW.trod, ht] at h
    split at h
    · obtain ⟨xs, hm, hx⟩ := Option.map_eq_some_iff.1 h
      have hxs : xs.map (·.1) = ds := by
        have := (Prod.mk.inj hx).1
        injection this
      have hxl : xs.length = n := by simpa using Lib.mapM_length hm
      have hdl : ds.length = n := by rw [← hxs]; simpa using hxl
      refine ⟨hdl, fuel, fun i hi => ?_⟩
      obtain ⟨b, hb, hf⟩ := Lib.mapM_at hm i i (by rw [List.getElem?_range (by omega)])
      subst hxs
      have hb' : xs[i]'(by simpa using hi) = b := by
        obtain ⟨h1, h2⟩ := List.getElem?_eq_some_iff.1 hb
        exact h2
      refine ⟨b.2, ?_⟩
      rw [List.getElem_map, hb']
      exact hf
    · cases h
end
theorem laid_ok {W : World} (h : laidMetH Tryd.prog bothLaid W) : LaidOk W := by
  obtain ⟨ps, ⟨g', t', cs, fuel, p, q, hg', ht', hvar, hd, _, _⟩, _⟩ := (show laidMet Tryd.prog [("carrack/model.follows", .agg (rowsZ.map rowData))] W by rw [← fol_data]; exact h)
  obtain rfl := Option.some.inj (gFo.symm.trans hg')
  obtain rfl := Option.some.inj (gFoT.symm.trans ht')
  obtain ⟨hl, f1, h1⟩ := arr_at Tryd.underlying45 hd
  have key : ∀ i j : Nat, i < 5 → j < 5 → W.cell? ⟨0, i * 5 + j, none⟩ = some (.bool (folB i j)) := by
    intro i j hi hj
    obtain ⟨q1, h2⟩ := h1 i (by rw [hl]; exact hi)
    rw [List.getElem_map] at h2
    obtain ⟨hl2, f2, h3⟩ := arr_at Tryd.underlying44 h2
    obtain ⟨q2, h4⟩ := h3 j (by rw [hl2]; exact hj)
    rw [cR, cB] at h4
    have h5 := h4
    have hd5 : ((rowsZ[i]'(by simpa [rowsZ] using hi)).map fun z => (DataW.lit (.bool z) : DataW Unit))[j]'(by simpa [rowsZ] using hj) = .lit (.bool (folB i j)) := by
      simp [rowsZ]
    rw [hd5] at h5
    obtain ⟨z, e1, e2⟩ := DataW.trod_bool Tryd.underlying4 h5
    have hc : cs[i * 5 + j]? = some (.bool (folB i j)) := by
      have e3 := congrArg (·[0]?) e1
      simp only [List.getElem?_take, List.getElem?_drop] at e3
      have hz : z = folB i j := by
        have := (Prod.mk.inj e2).1
        simp only [DataW.lit.injEq, Lit.bool.injEq] at this
        exact this.symm
      simp only [Nat.mul_one, Nat.add_zero, List.getElem?_cons_zero, if_pos (by decide : (0 : Nat) < 1), if_pos hj] at e3
      rw [← hz]
      simpa using e3
    have := World.var?_cell gFo hvar (i * 5 + j)
    rw [this]
    simpa using hc
  exact ⟨key, by
    have h0 := key 0 0 (by decide) (by decide)
    rcases Nat.lt_or_ge 0 W.heap.size with h1 | h1
    · exact h1
    · simp [World.cell?, Array.getElem?_eq_none h1] at h0⟩
/-- A world that meets the condition: the settled one, the variable laid. -/
noncomputable def laidWorld (os : Os) : World :=
  let w0 := World.holding Tryd.prog os ⟨#[], #[], []⟩
  let put (h : Array Obj) (g : Nat) (cs : Array Value) : Array Obj := h.modify g fun
    | .cells _ t frozen => .cells cs t frozen
    | o => o
  { w0 with heap := put w0.heap 0 (rowsZ.flatten.map fun z => Value.bool z).toArray }
theorem laidWorld_met (os : Os) (args : Array Value) : laidMetH Tryd.prog bothLaid ((laidWorld os).forCall (fun _ _ => 0) ⟨#[], args, []⟩).memory := by
  have h : laidMet Tryd.prog bothLaid ((laidWorld os).forCall (fun _ _ => 0) ⟨#[], args, []⟩).memory := laidMet_of_run' 8 (by kernel_rfl) (by kernel_rfl)
  exact h
end Go.Proofs.YtlbeaknegfnpkaaDoor
