/- slices.Sort, slices.Compact over keys. Condition: sizes. -/
import Derived.WalkSpells
import Derived.Outline
import Derived.Shelf.Sort.Plain
import Derived.Shelf.Slices.In.SortNone
import Derived.Shelf.Slices.CompactS
import Derived.Test.YtbjchfcoacmaaaaGreatDoorStrShelf
import Derived.Test.YtbjchfcoacmaaaaGreatDoorCnMapMQ
namespace Go.Proofs.YtbjchfcoacmaaaaGreatDoor
open Go.RowKit Go.Sort Go.Shelf
set_option linter.unusedVariables false
theorem enc_kB (l : List UInt8) : encStr l = .string (kB l) := rfl
theorem keeps_put (w : World) (blk off m : Nat) (d : Array (List UInt8)) (os : Array Obj) : Kq.Keeps (· = blk) w (grow (putRow encStr (Sort.ahead w m) blk off d) os) := by
  refine ⟨rfl, rfl, rfl, ?_, fun k hk hn => ?_⟩
  · unfold grow putRow mapBlock Sort.ahead
    simp
  · unfold grow putRow mapBlock
    simp only [Sort.ahead]
    rw [Array.getElem?_append_left (by simpa using hk), Array.getElem?_modify]
    rw [if_neg (fun e => hn e.symm)]
theorem keeps_put0 (w : World) (blk off m : Nat) (d : Array (List UInt8)) : Kq.Keeps (· = blk) w (putRow encStr (Sort.ahead w m) blk off d) := by
  have := keeps_put w blk off m d #[]
  rwa [grow_empty] at this
theorem sort_strs (g cap : Nat) (zs : List (List UInt8)) (w : World) (hH : Holds encStr w g 0 zs.toArray) (hg : g < w.heap.size) (hn : zs.length ≤ 1000000) :
    Calls Tryz.prog 37 #[.slice (some ⟨g, 0, none⟩) zs.length cap] w fun x w' => x = .returned (.tuple #[]) ∧ Holds encStr w' g 0 (sortK zs).toArray ∧ Kq.Keeps (· = g) w w' := by
  refine Calls.mono (Any.slices_Sort_string Tryz.lays190 g 0 cap zs w hH hg (by omega)) ?_
  rintro e w' ⟨rfl, n, os, rfl⟩
  refine ⟨rfl, ?_, keeps_put _ _ _ _ _ _⟩
  refine holds_grow encStr _ os g 0 _ (Nat.lt_of_lt_of_le hg (keeps_put0 w g 0 n _).size) ?_
  exact holds_putRow encStr (Sort.ahead w n) g 0 zs.toArray _ (holds_ahead encStr w n g 0 _ hH) (by simp)
theorem sort_none (p : Option Addr) (cap : Nat) (w : World) : Calls Tryz.prog 37 #[.slice p 0 cap] w fun x w' => x = .returned (.tuple #[]) ∧ w' = w := Any.slices_Sort_string_none Tryz.lays190 p cap w
theorem comp_none (p : Option Addr) (cap : Nat) (w : World) : Calls Tryz.prog 38 #[.slice p 0 cap] w fun x w' => x = .returned (.slice p 0 cap) ∧ w' = w := Any.slices_Compact_string_empty Tryz.lays194 p cap w
theorem comp_strs (g cap : Nat) (ss : List (List UInt8)) (w : World) (hH : Holds encStr w g 0 ss.toArray) (hn : ss.length ≤ 1000000) (hc : ss.length ≤ cap) :
    Calls Tryz.prog 38 #[.slice (some ⟨g, 0, none⟩) ss.length cap] w fun x w' => x = .returned (.slice (some ⟨g, 0, none⟩) (Lib.compact ss).length cap) ∧ (∀ j (h : j < (Lib.compact ss).length), w'.cell? ⟨g, j, none⟩ = some (.string (kB (Lib.compact ss)[j]))) ∧ Kq.Keeps (· = g) w w' ∧ (Lib.compact ss).length ≤ ss.length := by
  refine Calls.mono (Any.slices_Compact_string Tryz.lays194 g 0 cap ss w hH (by omega) hc) ?_
  rintro e w' ⟨rfl, q, rfl⟩
  have hle : (Lib.compact ss).length ≤ ss.length := by
    unfold Lib.compact Lib.compactUpTo
    rw [List.length_map]
    exact Nat.le_trans (List.length_filter_le _ _) (by rw [List.length_range]; exact Nat.le_refl _)
  have hh := holds_putRow encStr (Sort.ahead w q) g 0 ss.toArray (Lib.compact ss ++ List.replicate (ss.length - (Lib.compact ss).length) []).toArray (holds_ahead encStr w q g 0 _ hH) (by simp; omega)
  refine ⟨rfl, fun j hj => ?_, keeps_put0 _ _ _ _ _, hle⟩
  have h1 := (hh j (by simp; omega)).1
  rw [Nat.zero_add] at h1
  rw [h1, getElem!_pos _ j (by simp; omega)]
  simp only [List.getElem_toArray]
  rw [List.getElem_append_left hj, enc_kB]
end Go.Proofs.YtbjchfcoacmaaaaGreatDoor
