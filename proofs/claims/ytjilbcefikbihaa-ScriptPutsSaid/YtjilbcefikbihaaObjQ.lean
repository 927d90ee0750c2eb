/- Merged: Kit, Obj. Small laws on the model, whatever the program; no condition but what each names. Objects in memory: blocks that are known whole, and what a call that writes to some blocks leaves. No condition. -/
import Derived.WalkKit
import Derived.Lib.Hide
import Derived.Laws.IdiomStrings
namespace Go.Kq
open Go.RowKit
/-- bytes of a slice as a text -/
theorem foldl_push (l : List UInt8) (s : ByteArray) : (l.map fun b => ((b.toNat : Nat) : Int)).foldl (fun r n => r.push (UInt8.ofNat n.toNat)) s = ⟨s.data ++ l.toArray⟩ := by
  induction l generalizing s with
  | nil => simp
  | cons b l ih =>
    simp only [List.map_cons, List.foldl_cons, ih]
    simp [ByteArray.push]
theorem conv_bytes {P : Program} (w : World) {src dst e : TypeId} (a : Addr) (l : List UInt8) (c : Nat)
    (hs : P.underlying src = some (.slice e)) (he : P.underlying e = some (.int .u8)) (hd : P.underlying dst = some .string)
    (h : ∀ j v, (l.map fun b => Value.int .u8 ((b.toNat : Nat) : Int))[j]? = some v → w.cell? (a.add j) = some v) :
    (convert src dst (.slice (some a) l.length c)).run P w = .ok (.string ⟨l.toArray⟩) w := by
  rw [run_convert_bytes_string w src dst e (some a) l.length c hs he hd]
  have h1 := run_loadCells_list (P := P) (w := w) a (l.map fun b => Value.int .u8 ((b.toNat : Nat) : Int)) h
  rw [List.length_map] at h1
  rw [run_bytesToString w a l.length c (l.map fun b => ((b.toNat : Nat) : Int)) (by rw [h1]; simp [List.map_map, Function.comp_def]), foldl_push]
  simp
theorem conv_bytes_none {P : Program} (w : World) {src dst e : TypeId} (c : Nat)
    (hs : P.underlying src = some (.slice e)) (he : P.underlying e = some (.int .u8)) (hd : P.underlying dst = some .string) :
    (convert src dst (.slice none 0 c)).run P w = .ok (.string ⟨#[]⟩) w := by
  rw [run_convert_bytes_string w src dst e none 0 c hs he hd]; rfl
/-- a cell of the block that was laid last -/
theorem cell_new (w : World) (cs : Array Value) (e : TypeId) {j : Nat} {v : Value} (h : cs[j]? = some v) : (w.alloc (.cells cs e)).cell? ((⟨w.heap.size, 0, none⟩ : Addr).add j) = some v := by
  have : (⟨w.heap.size, 0, none⟩ : Addr).add j = ⟨w.heap.size, j, none⟩ := by
    unfold Addr.add; split <;> simp_all
  rw [this, World.cell?_alloc_at _ _ _ _ rfl, h]
theorem below_alloc (w : World) (o : Obj) : Below w.heap.size w (w.alloc o) := (Below.refl _ _).alloc (Nat.le_refl _) _
/-- A ROW OF BYTES: block B holds the numbers l, and they may be written. -/
structure Row (w : World) (B : Nat) (l : List Nat) : Prop where
  cell : ∀ j (h : j < l.length), w.cell? ⟨B, j, none⟩ = some (.int .u8 ((l[j] : Nat) : Int))
  free : ∀ j, j < l.length → w.frozen? ⟨B, j, none⟩ = false
theorem Row.set {w : World} {B : Nat} {l : List Nat} (h : Row w B l) (i v : Nat) : Row (w.setCell ⟨B, i, none⟩ (.int .u8 (v : Int))) B (l.set i v) := by
  refine ⟨fun j hj => ?_, fun j hj => ?_⟩
  · have hj' : j < l.length := by simpa using hj
    by_cases e : i = j
    · subst e
      rw [World.cell?_setCell_same _ _ _ (h.cell i hj')]
      simp
    · rw [World.cell?_setCell_other _ _ _ _ (fun h => e (by cases h; rfl)), h.cell j hj']
      simp [List.getElem_set_ne e]
  · have hj' : j < l.length := by simpa using hj
    rw [World.frozen?_setCell]
    exact h.free j hj'
theorem Row.drew {w : World} {B : Nat} {l : List Nat} (h : Row w B l) : Row w.drew B l := ⟨h.cell, h.free⟩
theorem Row.text {P : Program} {w : World} {B : Nat} {l : List Nat} (h : Row w B l) (hl : ∀ b ∈ l, b < 256) {src dst e : TypeId} (c : Nat)
    (hs : P.underlying src = some (.slice e)) (he : P.underlying e = some (.int .u8)) (hd : P.underlying dst = some .string) :
    (convert src dst (.slice (some ⟨B, 0, none⟩) l.length c)).run P w = .ok (.string ⟨(l.map UInt8.ofNat).toArray⟩) w := by
  have := conv_bytes (P := P) w (src := src) (dst := dst) (e := e) ⟨B, 0, none⟩ (l.map UInt8.ofNat) c hs he hd (fun j v hj => by
    have hj' : j < l.length := by
      rcases Nat.lt_or_ge j l.length with h' | h'
      · exact h'
      · rw [List.getElem?_eq_none (by simpa using h')] at hj; cases hj
    have hadd : (⟨B, 0, none⟩ : Addr).add j = ⟨B, j, none⟩ := by unfold Addr.add; split <;> simp_all
    rw [hadd, h.cell j hj', ← hj]
    have := hl l[j] (List.getElem_mem _)
    simp [hj', Nat.mod_eq_of_lt this])
  rwa [List.length_map] at this
theorem row_bytes (w : World) (s : ByteArray) (cap : Nat) (e : TypeId) (m : Nat) (hm : s.size ≤ m) : Row (w.alloc (.cells (bytesRow s cap) e (m, m + 1))) w.heap.size (s.data.toList.map UInt8.toNat) := by
  refine ⟨fun j hj => ?_, fun j hj => ?_⟩
  · have hj' : j < s.data.size := by simpa using hj
    rw [World.cell?_alloc_mark, bytesRow_at s cap j hj']
    simp
  · have hj' : j < s.size := by rw [List.length_map, Array.length_toList] at hj; exact hj
    have hn : ¬ m ≤ j := by omega
    rw [World.frozen?_alloc_mark]
    simp only [hn, decide_false, Bool.false_and]
end Go.Kq
namespace Go.Kq
open Go.RowKit
/-- w' is w, but for new blocks and for those of S; the streams are as they were. -/
structure Keeps (S : Nat → Prop) (w w' : World) : Prop where
  os : w'.os = w.os
  tape : w'.tape = w.tape
  output : w'.output = w.output
  size : w.heap.size ≤ w'.heap.size
  block : ∀ k, k < w.heap.size → ¬ S k → w'.heap[k]? = w.heap[k]?
theorem Keeps.refl (S : Nat → Prop) (w : World) : Keeps S w w := ⟨rfl, rfl, rfl, Nat.le_refl _, fun _ _ _ => rfl⟩
theorem Keeps.trans {S : Nat → Prop} {a b c : World} (h : Keeps S a b) (k : Keeps S b c) : Keeps S a c :=
  ⟨k.os.trans h.os, k.tape.trans h.tape, k.output.trans h.output, Nat.le_trans h.size k.size, fun i hi hs => (k.block i (Nat.lt_of_lt_of_le hi h.size) hs).trans (h.block i hi hs)⟩
theorem Keeps.mono {S T : Nat → Prop} {a b : World} (h : Keeps S a b) (hS : ∀ k, k < a.heap.size → S k → T k) : Keeps T a b :=
  ⟨h.os, h.tape, h.output, h.size, fun i hi hn => h.block i hi (fun hs => hn (hS i hi hs))⟩
theorem Keeps.of_below {S : Nat → Prop} {B : Nat} {a b : World} (h : Below B a b) (hB : ∀ k, B ≤ k → k < a.heap.size → S k) : Keeps S a b :=
  ⟨h.os, h.tape, h.output, h.size, fun i hi hn => h.block i (Nat.lt_of_not_le fun hle => hn (hB i hle hi))⟩
/-- .. as 'Below', where all of S is from B on -/
theorem Keeps.below {S : Nat → Prop} {B : Nat} {a b : World} (h : Keeps S a b) (hB : B ≤ a.heap.size) (hS : ∀ k, k < a.heap.size → S k → B ≤ k) : Below B a b :=
  ⟨h.os, h.tape, h.output, h.size, fun i hi => h.block i (Nat.lt_of_lt_of_le hi hB) (fun hs => absurd (hS i (Nat.lt_of_lt_of_le hi hB) hs) (Nat.not_le.2 hi))⟩
theorem Keeps.blk {S : Nat → Prop} {a b : World} (h : Keeps S a b) {k : Nat} {o : Obj} (ho : a.heap[k]? = some o) (hs : ¬ S k) : b.heap[k]? = some o := by
  have hk : k < a.heap.size := (Array.getElem?_eq_some_iff.1 ho).1
  rw [h.block k hk hs, ho]
theorem Keeps.setCell {S : Nat → Prop} (w : World) (p : Addr) (v : Value) (hp : S p.block) : Keeps S w (w.setCell p v) :=
  ⟨rfl, rfl, rfl, by simp [World.setCell], fun k _ hn => Below.heap_setCell _ _ _ _ (fun e => hn (e ▸ hp))⟩
theorem Keeps.alloc (S : Nat → Prop) (w : World) (o : Obj) : Keeps S w (w.alloc o) :=
  ⟨rfl, rfl, rfl, by simp, fun k hk _ => Below.heap_alloc _ _ _ hk⟩
theorem Keeps.drew {S : Nat → Prop} {a b : World} (h : Keeps S a b) : Keeps S a b.drew := ⟨h.os, h.tape, h.output, h.size, h.block⟩
theorem below_blk {B : Nat} {a b : World} (h : Below B a b) {k : Nat} {o : Obj} (ho : a.heap[k]? = some o) (hk : k < B) : b.heap[k]? = some o := by rw [h.block k hk, ho]
theorem blk_lt {w : World} {k : Nat} {o : Obj} (h : w.heap[k]? = some o) : k < w.heap.size := (Array.getElem?_eq_some_iff.1 h).1
/-! a block known whole -/
theorem blk_cell {w : World} {B : Nat} {cs : Array Value} {t : TypeId} {fr : Nat × Nat} (h : w.heap[B]? = some (.cells cs t fr)) (i : Nat) : w.cell? ⟨B, i, none⟩ = cs[i]? := by simp [World.cell?, h]
theorem blk_free {w : World} {B : Nat} {cs : Array Value} {t : TypeId} (h : w.heap[B]? = some (.cells cs t (0, 0))) (i : Nat) : w.frozen? ⟨B, i, none⟩ = false := by simp [World.frozen?, h]
theorem blk_set {w : World} {B : Nat} {cs : Array Value} {t : TypeId} {fr : Nat × Nat} (h : w.heap[B]? = some (.cells cs t fr)) (i : Nat) (v : Value) :
    (w.setCell ⟨B, i, none⟩ v).heap[B]? = some (.cells (cs.setIfInBounds i v) t fr) := by
  rw [World.setCell, Array.getElem?_modify, if_pos rfl, h]; rfl
theorem blk_new (w : World) (cs : Array Value) (t : TypeId) (fr : Nat × Nat) : (w.alloc (.cells cs t fr)).heap[w.heap.size]? = some (.cells cs t fr) := by
  show (w.heap.push _)[w.heap.size]? = _
  simp
end Go.Kq
