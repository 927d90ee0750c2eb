/- What becomes of packets: the mathematics of layer 22. No condition. -/
import Derived.WalkSpells
import Derived.Test.YtlbeaknegfnpkaaDoorRowG
namespace Go.Proofs.YtlbeaknegfnpkaaDoor
open Go.RowKit
set_option linter.unusedVariables false
/-- a packet -/
structure PtV where
  f : Int
  q : Int
  t : Int
  d : ByteArray
noncomputable instance : DecidableEq PtV := fun a b => Classical.propDecidable (a = b)
/-- an entry -/
structure EnV where
  p : PtV
  s : Int
def PtV.cells (p : PtV) : List Value := [.int .i64 p.f, .int .u64 p.q, .int .u64 p.t, .string p.d]
def PtV.val (p : PtV) : Value := .agg #[.int .i64 p.f, .int .u64 p.q, .int .u64 p.t, .string p.d]
def EnV.cells (e : EnV) : List Value := [.int .i64 e.p.f, .int .u64 e.p.q, .int .u64 e.p.t, .string e.p.d, .int .i64 e.s]
def enE : Kq.Elt EnV := ⟨5, EnV.cells, fun _ => rfl, fun x u hu => by
  simp only [EnV.cells, List.mem_cons, List.not_mem_nil, or_false] at hu
  rcases hu with rfl | rfl | rfl | rfl | rfl <;> rfl, by decide⟩
def ptE : Kq.Elt PtV := ⟨4, PtV.cells, fun _ => rfl, fun x u hu => by
  simp only [PtV.cells, List.mem_cons, List.not_mem_nil, or_false] at hu
  rcases hu with rfl | rfl | rfl | rfl <;> rfl, by decide⟩
structure PtV.wf (p : PtV) : Prop where
  f : (Lit.int .i64 p.f).wf = true
  q : (Lit.int .u64 p.q).wf = true
  t : (Lit.int .u64 p.t).wf = true
  d : p.d.size ≤ maxLen
structure EnV.wf (e : EnV) : Prop where
  p : e.p.wf
  s : (Lit.int .i64 e.s).wf = true
theorem en_cells {w : World} {A : Option Addr} {l : List EnV} (h : enE.At w A l) {i : Nat} (hi : i < l.length) : ∃ b off, A = some ⟨b, off, none⟩ ∧ b < w.heap.size ∧ w.cell? ⟨b, off + i * 5, none⟩ = some (.int .i64 l[i].p.f) ∧ w.cell? ⟨b, off + i * 5 + 1, none⟩ = some (.int .u64 l[i].p.q) ∧ w.cell? ⟨b, off + i * 5 + 2, none⟩ = some (.int .u64 l[i].p.t) ∧ w.cell? ⟨b, off + i * 5 + 3, none⟩ = some (.string l[i].p.d) ∧ w.cell? ⟨b, off + i * 5 + 4, none⟩ = some (.int .i64 l[i].s) := by
  obtain ⟨b, off, e, h1, h2⟩ := h i hi
  exact ⟨b, off, e, h1, h2 0 (by decide), h2 1 (by decide), h2 2 (by decide), h2 3 (by decide), h2 4 (by decide)⟩
theorem pt_cells {w : World} {A : Option Addr} {l : List PtV} (h : ptE.At w A l) {i : Nat} (hi : i < l.length) : ∃ b off, A = some ⟨b, off, none⟩ ∧ b < w.heap.size ∧ w.cell? ⟨b, off + i * 4, none⟩ = some (.int .i64 l[i].f) ∧ w.cell? ⟨b, off + i * 4 + 1, none⟩ = some (.int .u64 l[i].q) ∧ w.cell? ⟨b, off + i * 4 + 2, none⟩ = some (.int .u64 l[i].t) ∧ w.cell? ⟨b, off + i * 4 + 3, none⟩ = some (.string l[i].d) := by
  obtain ⟨b, off, e, h1, h2⟩ := h i hi
  exact ⟨b, off, e, h1, h2 0 (by decide), h2 1 (by decide), h2 2 (by decide), h2 3 (by decide)⟩
/-! states -/
def isS (n : Int) : Bool := decide (0 ≤ n ∧ n < 5)
def folB (a b : Int) : Bool := decide (a = 0 ∧ b = 1 ∨ a = 1 ∧ b = 2 ∨ a = 1 ∧ b = 4 ∨ a = 2 ∧ b = 3)
def rchB (a b : Int) : Bool := decide (0 ≤ a ∧ a < 5 ∧ 0 ≤ b ∧ b < 5 ∧ (a = b ∨ a = 0 ∨ (a = 1 ∧ 2 ≤ b) ∨ (a = 2 ∧ b = 3)))
theorem fol_in {a b : Int} (h : folB a b = true) : 0 ≤ a ∧ a < 5 ∧ 0 ≤ b ∧ b < 5 ∧ a < b := by
  have := of_decide_eq_true h; omega
theorem rch_in {a b : Int} (h : rchB a b = true) : isS a = true ∧ isS b = true := by
  have := of_decide_eq_true h
  exact ⟨decide_eq_true (by omega), decide_eq_true (by omega)⟩
theorem rch_out {a b : Int} (h : isS a = false ∨ isS b = false) : rchB a b = false := by
  refine decide_eq_false fun hh => ?_
  rcases h with h | h <;> (have := of_decide_eq_false h; omega)
theorem rch_self {a : Int} : rchB a a = isS a := by
  unfold rchB isS
  rw [decide_eq_decide]; omega
theorem rch_step {a c b : Int} (h : folB a c = true) (h2 : rchB c b = true) : rchB a b = true := by
  have := of_decide_eq_true h
  have := of_decide_eq_true h2
  exact decide_eq_true (by omega)
theorem rch_none {a b : Int} (hne : a ≠ b) (h : ∀ c : Nat, c < 5 → folB a c = true → rchB c b = false) : rchB a b = false := by
  refine decide_eq_false fun hh => ?_
  have q : ∀ c : Nat, c < 5 → folB a c = true → ¬ (0 ≤ (c : Int) ∧ (c : Int) < 5 ∧ 0 ≤ b ∧ b < 5 ∧ ((c : Int) = b ∨ (c : Int) = 0 ∨ ((c : Int) = 1 ∧ 2 ≤ b) ∨ ((c : Int) = 2 ∧ b = 3))) := fun c hc hf => of_decide_eq_false (h c hc hf)
  have ha : a = 0 ∨ a = 1 ∨ a = 2 ∨ a = 3 ∨ a = 4 := by omega
  rcases ha with rfl | rfl | rfl | rfl | rfl
  · have := q 1 (by omega) (by decide); omega
  · have := q 2 (by omega) (by decide); have := q 4 (by omega) (by decide); omega
  · have := q 3 (by omega) (by decide); omega
  · omega
  · omega
theorem fol_rch {a b : Int} (h : folB a b = true) : rchB a b = true := by
  have := of_decide_eq_true h
  exact decide_eq_true (by omega)
theorem rch_trans {a b c : Int} (h : rchB a b = true) (h2 : rchB b c = true) : rchB a c = true := by
  have := of_decide_eq_true h
  have := of_decide_eq_true h2
  exact decide_eq_true (by omega)
theorem rch_anti {a b : Int} (h : rchB a b = true) (h2 : rchB b a = true) : a = b := by
  have := of_decide_eq_true h
  have := of_decide_eq_true h2
  omega
/-! lists -/
noncomputable def findE (l : List EnV) (p : PtV) : Option Int := (l.find? (fun e => decide (e.p = p))).map (·.s)
def okE (e : EnV) : Option Int → Bool
  | some s => rchB e.s s
  | none => false
noncomputable def stepB (was now : List EnV) : Bool := was.all fun e => okE e (findE now e.p)
def openL (l : List EnV) : List PtV := (l.filter (fun e => decide (e.s = 1 ∨ e.s = 2))).map (·.p)
def cntL (l : List EnV) (k : Int) : Nat := l.countP (fun e => decide (e.s = k))
theorem findE_nil (p : PtV) : findE [] p = none := rfl
theorem findE_snoc (l : List EnV) (e : EnV) (p : PtV) : findE (l ++ [e]) p = if (findE l p).isSome then findE l p else if p = e.p then some e.s else none := by
  unfold findE
  rw [List.find?_append]
  cases h : l.find? (fun e => decide (e.p = p)) with
  | some x => simp
  | none =>
    by_cases he : e.p = p
    · simp [he]
    · have : ¬ p = e.p := fun h => he h.symm
      simp [he, this]
theorem openL_snoc (l : List EnV) (e : EnV) : openL (l ++ [e]) = if e.s = 1 ∨ e.s = 2 then openL l ++ [e.p] else openL l := by
  unfold openL
  rw [List.filter_append, List.map_append]
  by_cases h : e.s = 1 ∨ e.s = 2 <;> simp [h]
theorem cntL_snoc (l : List EnV) (e : EnV) (k : Int) : cntL (l ++ [e]) k = cntL l k + if e.s = k then 1 else 0 := by
  unfold cntL
  rw [List.countP_append]
  by_cases h : e.s = k <;> simp [h]
theorem cntL_le (l : List EnV) (k : Int) : cntL l k ≤ l.length := List.countP_le_length
theorem openL_len (l : List EnV) : (openL l).length = cntL l 1 + cntL l 2 := by
  induction l with
  | nil => rfl
  | cons e l ih =>
    have h1 : openL (e :: l) = if e.s = 1 ∨ e.s = 2 then e.p :: openL l else openL l := by
      unfold openL
      by_cases h : e.s = 1 ∨ e.s = 2 <;> simp [h]
    have h2 : ∀ k, cntL (e :: l) k = cntL l k + if e.s = k then 1 else 0 := fun k => by
      unfold cntL
      rw [List.countP_cons]
      by_cases h : e.s = k <;> simp [h]
    rw [h1, h2, h2]
    by_cases h : e.s = 1
    · simp [h, ih]; omega
    · by_cases h' : e.s = 2
      · simp [h', ih]; omega
      · simp [h, h', ih]
theorem take_succ_snoc {α : Type} (l : List α) (j : Nat) (h : j < l.length) : l.take (j + 1) = l.take j ++ [l[j]] := by
  rw [List.take_add_one, List.getElem?_eq_getElem h]; rfl
end Go.Proofs.YtlbeaknegfnpkaaDoor
