/- Small laws on the model, whatever the program; no condition but what each names. -/
import Derived.WalkKit
import Derived.Lib.Hide
import Derived.Laws.IdiomStrings
namespace Go.Kq
open Go.RowKit
/-- bytes of a slice as a text -/
theorem foldl_push (l : List UInt8) (s : ByteArray) : (l.map fun b => ((b.toNat : Nat) : Int)).foldl (fun r n => r.push (UInt8.ofNat n.toNat)) s = ⟨s.data ++ l.toArray⟩ := by
  induction l generalizing s with
  | nil => simp
  | cons b l ih =>
    simp only [List.map_cons, List.foldl_cons, ih]
    simp [ByteArray.push]
theorem conv_bytes {P : Program} (w : World) {src dst e : TypeId} (a : Addr) (l : List UInt8) (c : Nat)
    (hs : P.underlying src = some (.slice e)) (he : P.underlying e = some (.int .u8)) (hd : P.underlying dst = some .string)
    (h : ∀ j v, (l.map fun b => Value.int .u8 ((b.toNat : Nat) : Int))[j]? = some v → w.cell? (a.add j) = some v) :
    (convert src dst (.slice (some a) l.length c)).run P w = .ok (.string ⟨l.toArray⟩) w := by
  rw [run_convert_bytes_string w src dst e (some a) l.length c hs he hd]
  have h1 := run_loadCells_list (P := P) (w := w) a (l.map fun b => Value.int .u8 ((b.toNat : Nat) : Int)) h
  rw [List.length_map] at h1
  rw [run_bytesToString w a l.length c (l.map fun b => ((b.toNat : Nat) : Int)) (by rw [h1]; simp [List.map_map, Function.comp_def]), foldl_push]
  simp
theorem conv_bytes_none {P : Program} (w : World) {src dst e : TypeId} (c : Nat)
    (hs : P.underlying src = some (.slice e)) (he : P.underlying e = some (.int .u8)) (hd : P.underlying dst = some .string) :
    (convert src dst (.slice none 0 c)).run P w = .ok (.string ⟨#[]⟩) w := by
  rw [run_convert_bytes_string w src dst e none 0 c hs he hd]; rfl
/-- a cell of the block that was laid last -/
theorem cell_new (w : World) (cs : Array Value) (e : TypeId) {j : Nat} {v : Value} (h : cs[j]? = some v) : (w.alloc (.cells cs e)).cell? ((⟨w.heap.size, 0, none⟩ : Addr).add j) = some v := by
  have : (⟨w.heap.size, 0, none⟩ : Addr).add j = ⟨w.heap.size, j, none⟩ := by
    unfold Addr.add; split <;> simp_all
  rw [this, World.cell?_alloc_at _ _ _ _ rfl, h]
theorem below_alloc (w : World) (o : Obj) : Below w.heap.size w (w.alloc o) := (Below.refl _ _).alloc (Nat.le_refl _) _
/-- A ROW OF BYTES: block B holds the numbers l, and they may be written. -/
structure Row (w : World) (B : Nat) (l : List Nat) : Prop where
  cell : ∀ j (h : j < l.length), w.cell? ⟨B, j, none⟩ = some (.int .u8 ((l[j] : Nat) : Int))
  free : ∀ j, j < l.length → w.frozen? ⟨B, j, none⟩ = false
theorem Row.set {w : World} {B : Nat} {l : List Nat} (h : Row w B l) (i v : Nat) : Row (w.setCell ⟨B, i, none⟩ (.int .u8 (v : Int))) B (l.set i v) := by
  refine ⟨fun j hj => ?_, fun j hj => ?_⟩
  · have hj' : j < l.length := by simpa using hj
    by_cases e : i = j
    · subst e
      rw [World.cell?_setCell_same _ _ _ (h.cell i hj')]
      simp
    · rw [World.cell?_setCell_other _ _ _ _ (fun h => e (by cases h; rfl)), h.cell j hj']
      simp [List.getElem_set_ne e]
  · have hj' : j < l.length := by simpa using hj
    rw [World.frozen?_setCell]
    exact h.free j hj'
theorem Row.drew {w : World} {B : Nat} {l : List Nat} (h : Row w B l) : Row w.drew B l := ⟨h.cell, h.free⟩
theorem Row.text {P : Program} {w : World} {B : Nat} {l : List Nat} (h : Row w B l) (hl : ∀ b ∈ l, b < 256) {src dst e : TypeId} (c : Nat)
    (hs : P.underlying src = some (.slice e)) (he : P.underlying e = some (.int .u8)) (hd : P.underlying dst = some .string) :
    (convert src dst (.slice (some ⟨B, 0, none⟩) l.length c)).run P w = .ok (.string ⟨(l.map UInt8.ofNat).toArray⟩) w := by
  have := conv_bytes (P := P) w (src := src) (dst := dst) (e := e) ⟨B, 0, none⟩ (l.map UInt8.ofNat) c hs he hd (fun j v hj => by
    have hj' : j < l.length := by
      rcases Nat.lt_or_ge j l.length with h' | h'
      · exact h'
      · rw [List.getElem?_eq_none (by simpa using h')] at hj; cases hj
    have hadd : (⟨B, 0, none⟩ : Addr).add j = ⟨B, j, none⟩ := by unfold Addr.add; split <;> simp_all
    rw [hadd, h.cell j hj', ← hj]
    have := hl l[j] (List.getElem_mem _)
    simp [hj', Nat.mod_eq_of_lt this])
  rwa [List.length_map] at this
theorem row_bytes (w : World) (s : ByteArray) (cap : Nat) (e : TypeId) (m : Nat) (hm : s.size ≤ m) : Row (w.alloc (.cells (bytesRow s cap) e (m, m + 1))) w.heap.size (s.data.toList.map UInt8.toNat) := by
  refine ⟨fun j hj => ?_, fun j hj => ?_⟩
  · have hj' : j < s.data.size := by simpa using hj
    rw [World.cell?_alloc_mark, bytesRow_at s cap j hj']
    simp
  · have hj' : j < s.size := by rw [List.length_map, Array.length_toList] at hj; exact hj
    have hn : ¬ m ≤ j := by omega
    rw [World.frozen?_alloc_mark]
    simp only [hn, decide_false, Bool.false_and]
end Go.Kq
