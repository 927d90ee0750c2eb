/- Small laws on the model, whatever the program; no condition but what each names. -/
import Derived.WalkKit
import Derived.Lib.Hide
namespace Go.Kq
open Go.RowKit
/-- bytes of a slice as a text -/
theorem foldl_push (l : List UInt8) (s : ByteArray) : (l.map fun b => ((b.toNat : Nat) : Int)).foldl (fun r n => r.push (UInt8.ofNat n.toNat)) s = ⟨s.data ++ l.toArray⟩ := by
  induction l generalizing s with
  | nil => simp
  | cons b l ih =>
    simp only [List.map_cons, List.foldl_cons, ih]
    simp [ByteArray.push]
theorem conv_bytes {P : Program} (w : World) {src dst e : TypeId} (a : Addr) (l : List UInt8) (c : Nat)
    (hs : P.underlying src = some (.slice e)) (he : P.underlying e = some (.int .u8)) (hd : P.underlying dst = some .string)
    (h : ∀ j v, (l.map fun b => Value.int .u8 ((b.toNat : Nat) : Int))[j]? = some v → w.cell? (a.add j) = some v) :
    (convert src dst (.slice (some a) l.length c)).run P w = .ok (.string ⟨l.toArray⟩) w := by
  rw [run_convert_bytes_string w src dst e (some a) l.length c hs he hd]
  have h1 := run_loadCells_list (P := P) (w := w) a (l.map fun b => Value.int .u8 ((b.toNat : Nat) : Int)) h
  rw [List.length_map] at h1
  rw [run_bytesToString w a l.length c (l.map fun b => ((b.toNat : Nat) : Int)) (by rw [h1]; simp [List.map_map, Function.comp_def]), foldl_push]
  simp
theorem conv_bytes_none {P : Program} (w : World) {src dst e : TypeId} (c : Nat)
    (hs : P.underlying src = some (.slice e)) (he : P.underlying e = some (.int .u8)) (hd : P.underlying dst = some .string) :
    (convert src dst (.slice none 0 c)).run P w = .ok (.string ⟨#[]⟩) w := by
  rw [run_convert_bytes_string w src dst e none 0 c hs he hd]; rfl
/-- a cell of the block that was laid last -/
theorem cell_new (w : World) (cs : Array Value) (e : TypeId) {j : Nat} {v : Value} (h : cs[j]? = some v) : (w.alloc (.cells cs e)).cell? ((⟨w.heap.size, 0, none⟩ : Addr).add j) = some v := by
  have : (⟨w.heap.size, 0, none⟩ : Addr).add j = ⟨w.heap.size, j, none⟩ := by
    unfold Addr.add; split <;> simp_all
  rw [this, World.cell?_alloc_at _ _ _ _ rfl, h]
theorem below_alloc (w : World) (o : Obj) : Below w.heap.size w (w.alloc o) := (Below.refl _ _).alloc (Nat.le_refl _) _
end Go.Kq
