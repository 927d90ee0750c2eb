/- slices.SortFunc over pairs, by their keys. Condition: sizes. -/
import Derived.WalkSpells
import Derived.Outline
import Derived.Shelf.SlSortCmp.WholeK
import Derived.Test.YtbjchfcoacmaaaaGreatDoorSortShelf
import Derived.Test.YtbjchfcoacmaaaaGreatDoorStCmpQ
import Derived.Test.YtbjchfcoacmaaaaGreatDoorStComQ
namespace Go.Proofs.YtbjchfcoacmaaaaGreatDoor
open Go.RowKit Go.Sort Go.Shelf
set_option linter.unusedVariables false
theorem enc_len (x : PairV) : (encPr x).length = 2 := rfl
theorem enc_one (x : PairV) : ∀ v ∈ encPr x, v.oneCell' = true := fun v hv => by
  simp only [encPr, List.mem_cons, List.not_mem_nil, or_false] at hv
  rcases hv with rfl | rfl <;> rfl
theorem holds_row {B blk cap : Nat} {c : List PairV} {w : World} (h : w.ownsRow B 90 2 (.slice (some ⟨blk, 0, none⟩) c.length cap) c.length (PrE.flat c)) : HoldsK encPr 2 w blk 0 c.toArray ∧ blk < w.heap.size := by
  rcases h.2 with ⟨e, _⟩ | ⟨g, cap', cur, e, hge, hb, hc, hcm, hsz, ht⟩
  · cases e
  · injection e with e1 e2 e3
    injection e1 with e1
    injection e1 with e1
    subst e1
    refine ⟨fun j hj => ⟨?_, Kq.blk_free hb _⟩, Kq.blk_lt hb⟩
    rw [size_flatK, List.size_toArray] at hj
    have h2 : j / 2 < c.length := by omega
    have h3 : j % 2 < 2 := Nat.mod_lt _ (by decide)
    have h4 := PrE.flat_at c (j / 2) h2 (j % 2) h3
    have h5 : j / 2 * 2 + j % 2 = j := by omega
    rw [show PrE.n = 2 from rfl, h5, ← ht, List.getElem?_take, if_pos hj, Array.getElem?_toList] at h4
    rw [Nat.zero_add, Kq.blk_cell hb, h4]
    show _ = some ((flatK encPr 2 c.toArray)[j]!)
    rw [get_flatK _ _ _ _ (by rw [List.size_toArray]; exact hj), List.getElem!_toArray, getElem!_pos c (j / 2) h2]
    rw [getElem!_pos (encPr c[j / 2]) (j % 2) h3]
    exact List.getElem?_eq_getElem (h3 : j % 2 < (encPr c[j / 2]).length)
theorem keeps_sort (w : World) (blk off m : Nat) (d : Array PairV) (os : Array Obj) : Kq.Keeps (· = blk) w (sortWorldK encPr 2 w blk off m d os) := by
  refine ⟨rfl, rfl, rfl, size_sortWorldK_c encPr 2 w blk off m d os, fun k hk hn => ?_⟩
  unfold sortWorldK putRowK putRow mapBlock grow
  simp only [Sort.ahead]
  rw [Array.getElem?_append_left (by simpa using hk), Array.getElem?_modify]
  rw [if_neg (fun e => hn e.symm)]
set_option maxRecDepth 100000 in
set_option maxHeartbeats 1000000 in
theorem sort_ok : SortOk := by
  intro B blk cap c w h hn
  obtain ⟨hH, hlt⟩ := holds_row h
  have eg : ∀ args w, (callFunc 112 args).run Tryz.prog w = .ok (.enter 112 args) w := enters_of Tryz.func112 (by kernel_rfl) rfl
  have hcl : CmpLays Tryz.prog 112 #[] encPr 2 (fun x y : PairV => cmpT x.1 y.1) blk 0 c.toArray.size w := fun _ _ _ _ x y => st_clo x y _
  have hcon := AnyQ.slices_SortFunc Tryz.sortPair 2 Tryz.isAgg90 Tryz.sizeOf90 encPr enc_len enc_one (fun x y => cmpT x.1 y.1) st_swo 112 #[] blk 0 cap c.toArray w eg hcl hH hlt (by rw [List.size_toArray]; omega)
  rw [List.size_toArray] at hcon
  refine Calls.mono hcon ?_
  rintro e w' ⟨rfl, d', n, os, ⟨hs, -, hp⟩, hso, rfl⟩
  have hsz : d'.size = c.length := by rw [hs, List.size_toArray]
  refine ⟨rfl, d'.toList, ?_, ?_, fun j hj => ?_, keeps_sort _ _ _ _ _ _⟩
  · have e1 : d'.extract 0 c.length = d' := by rw [← hsz]; simp
    have e2 : c.toArray.extract 0 c.length = c.toArray := by simp
    rw [e1, e2] at hp
    simpa using hp
  · rw [List.pairwise_iff_getElem]
    intro i j hi hj hij
    have := hso i j (Nat.zero_le _) hij (by rw [← hsz]; simpa using hj)
    rw [getElem!_pos d' j (by simpa using hj), getElem!_pos d' i (by simpa using hi), lt_cmp] at this
    simpa using this
  · have hj' : j < d'.size := by simpa using hj
    have hK := holdsK_sortWorldK_c encPr 2 w blk 0 c.toArray d' n os hH hlt (by rw [hsz, List.size_toArray])
    have h0 := (hK.cell (i := j) (c := 0) hj' (by decide)).1
    have h1 := (hK.cell (i := j) (c := 1) hj' (by decide)).1
    rw [getElem!_pos d' j hj'] at h0 h1
    exact ⟨blk, 0, rfl, Nat.lt_of_lt_of_le hlt (size_sortWorldK_c encPr 2 w blk 0 n d' os), by simpa [encPr] using h0, by simpa [encPr] using h1⟩
end Go.Proofs.YtbjchfcoacmaaaaGreatDoor
