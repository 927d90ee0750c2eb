/- slices.SortFunc over items, by their names. Condition: sizes. -/
import Derived.WalkSpells
import Derived.Outline
import Derived.Shelf.SlSortCmp.WholeK
import Derived.Test.YtkbiolhcpghmkaaGreatSortShelfT
import Derived.Test.YtkbiolhcpghmkaaGreatTbCmpQ
import Derived.Test.YtkbiolhcpghmkaaGreatTbPQ
import Derived.Test.YtkbiolhcpghmkaaGreatRowGQ
import Derived.Test.YtkbiolhcpghmkaaGreatTwoFQ
namespace Go.Proofs.YtkbiolhcpghmkaaGreat
open Go.RowKit Go.Sort Go.Shelf
set_option linter.unusedVariables false
instance : Inhabited NtV := ⟨itZ⟩
def ItE : Kq.Elt NtV := ⟨5, encT, fun _ => rfl, fun x u hu => by
  simp only [encT, List.mem_cons, List.not_mem_nil, or_false] at hu
  rcases hu with rfl | rfl | rfl | rfl | rfl <;> rfl, by decide⟩
theorem ItE.en {w : World} {A : Option Addr} {l : List NtV} : ItE.At w A l ↔ EnAt NtV.ic w A l := Iff.rfl
theorem encT_len (x : NtV) : (encT x).length = 5 := rfl
theorem encT_one (x : NtV) : ∀ v ∈ encT x, v.oneCell' = true := ItE.one x
theorem holds_rowT {B blk cap : Nat} {c : List NtV} {w : World} (h : w.ownsRow B 51 5 (.slice (some ⟨blk, 0, none⟩) c.length cap) c.length (ItE.flat c)) : HoldsK encT 5 w blk 0 c.toArray ∧ blk < w.heap.size := by
  rcases h.2 with ⟨e, _⟩ | ⟨g, cap', cur, e, hge, hb, hc, hcm, hsz, ht⟩
  · cases e
  · injection e with e1 e2 e3
    injection e1 with e1
    injection e1 with e1
    subst e1
    refine ⟨fun j hj => ⟨?_, Kq.blk_free hb _⟩, Kq.blk_lt hb⟩
    rw [size_flatK, List.size_toArray] at hj
    have h2 : j / 5 < c.length := by omega
    have h3 : j % 5 < 5 := Nat.mod_lt _ (by decide)
    have h4 := ItE.flat_at c (j / 5) h2 (j % 5) h3
    have h5 : j / 5 * 5 + j % 5 = j := by omega
    rw [show ItE.n = 5 from rfl, h5, ← ht, List.getElem?_take, if_pos hj, Array.getElem?_toList] at h4
    rw [Nat.zero_add, Kq.blk_cell hb, h4]
    show _ = some ((flatK encT 5 c.toArray)[j]!)
    rw [get_flatK _ _ _ _ (by rw [List.size_toArray]; exact hj), List.getElem!_toArray, getElem!_pos c (j / 5) h2]
    rw [getElem!_pos (encT c[j / 5]) (j % 5) h3]
    exact List.getElem?_eq_getElem (h3 : j % 5 < (encT c[j / 5]).length)
theorem keeps_sortT (w : World) (blk off m : Nat) (d : Array NtV) (os : Array Obj) : Kq.Keeps (· = blk) w (sortWorldK encT 5 w blk off m d os) := by
  refine ⟨rfl, rfl, rfl, size_sortWorldK_c encT 5 w blk off m d os, fun k hk hn => ?_⟩
  unfold sortWorldK putRowK putRow mapBlock grow
  simp only [Sort.ahead]
  rw [Array.getElem?_append_left (by simpa using hk), Array.getElem?_modify]
  rw [if_neg (fun e => hn e.symm)]
set_option maxRecDepth 100000 in
set_option maxHeartbeats 1000000 in
theorem tb_sort (B blk cap : Nat) (c : List NtV) (w : World) (h : w.ownsRow B 51 5 (.slice (some ⟨blk, 0, none⟩) c.length cap) c.length (ItE.flat c)) (hn : c.length ≤ 1000000) :
    Calls Tryz.prog 37 #[.slice (some ⟨blk, 0, none⟩) c.length cap, .func (.func 38) #[] #[]] w fun e w' => e = .returned (.tuple #[]) ∧ ∃ d : List NtV, d.Perm c ∧ d.Pairwise (fun a b => tbR.lt (tbR.key b) (tbR.key a) = false) ∧ EnAt NtV.ic w' (some ⟨blk, 0, none⟩) d ∧ Kq.Keeps (· = blk) w w' := by
  obtain ⟨hH, hlt⟩ := holds_rowT h
  have eg : ∀ args w, (callFunc 38 args).run Tryz.prog w = .ok (.enter 38 args) w := enters_of Tryz.func38 (by kernel_rfl) rfl
  have hcl : CmpLays Tryz.prog 38 #[] encT 5 cmpN blk 0 c.toArray.size w := fun _ _ _ _ x y => tb_clo x y _
  have hcon := AnyQ.slices_SortFunc Tryz.sortItem 5 Tryz.isAgg51 Tryz.sizeOf51 encT encT_len encT_one cmpN tb_swo 38 #[] blk 0 cap c.toArray w eg hcl hH hlt (by rw [List.size_toArray]; omega)
  rw [List.size_toArray] at hcon
  refine Calls.mono hcon ?_
  rintro e w' ⟨rfl, d', n, os, ⟨hs, -, hp⟩, hso, rfl⟩
  have hsz : d'.size = c.length := by rw [hs, List.size_toArray]
  refine ⟨rfl, d'.toList, ?_, ?_, fun j hj => ?_, keeps_sortT _ _ _ _ _ _⟩
  · have e1 : d'.extract 0 c.length = d' := by rw [← hsz]; simp
    have e2 : c.toArray.extract 0 c.length = c.toArray := by simp
    rw [e1, e2] at hp
    simpa using hp
  · rw [List.pairwise_iff_getElem]
    intro i j hi hj hij
    have := hso i j (Nat.zero_le _) hij (by rw [← hsz]; simpa using hj)
    rw [getElem!_pos d' j (by simpa using hj), getElem!_pos d' i (by simpa using hi), lt_cmpN] at this
    simp only [Array.getElem_toList]
    exact this
  · have hj' : j < d'.size := by simpa using hj
    have hK := holdsK_sortWorldK_c encT 5 w blk 0 c.toArray d' n os hH hlt (by rw [hsz, List.size_toArray])
    refine ⟨blk, 0, rfl, Nat.lt_of_lt_of_le hlt (size_sortWorldK_c encT 5 w blk 0 n d' os), fun i hi => ?_⟩
    have h0 := (hK.cell (i := j) (c := i) hj' hi).1
    rw [getElem!_pos d' j hj', getElem!_pos (encT d'[j]) i hi] at h0
    have e1 : (0 : Nat) + j * 5 + i = 0 + (j * 5 + i) := by omega
    simp only [Array.getElem_toList]
    rw [show (NtV.ic d'[j])[i]? = some (encT d'[j])[i] from List.getElem?_eq_getElem (hi : i < (encT d'[j]).length)]
    simpa using h0
end Go.Proofs.YtkbiolhcpghmkaaGreat
