/- Merged: StCmp, StSort. cmp.Compare at texts; the test of a store's sort. No condition. slices.SortFunc over pairs, by their keys. Condition: sizes. -/
import Derived.WalkSpells
import Derived.Outline
import Derived.Deep.QuietTactic
import Derived.BigQuiet
import Derived.Shelf.SlSortCmp.WholeK
import Derived.Test.YtcknhnbckbocjaaDoorStMapQ
import Derived.Test.YtcknhnbckbocjaaDoorSortShelf
import Derived.Test.YtcknhnbckbocjaaDoorStSortedQ
namespace Go.Proofs.YtcknhnbckbocjaaDoor
open Go.RowKit Go.Sort
set_option linter.unusedVariables false
set_option maxRecDepth 100000 in
set_option maxHeartbeats 1000000 in
theorem st_isNaN (s : ByteArray) (w : World) : Calls Tryd.prog 54 #[.string s] w fun e w' => e = .returned (.bool false) ∧ w' = w := by
  have e1 : (s.toList != s.toList) = false := by simp
  go_enter Tryd.func54, Tryd.ntmps54
  go_wp2
  go_ret
  exact ⟨rfl, rfl⟩
def cmpT (a b : ByteArray) : Int := if ltT a b = true then -1 else if ltT b a = true then 1 else 0
theorem gt_eqS (a b : List UInt8) : (!Op.bytesLess a b && !(a == b)) = Op.bytesLess b a := by
  rw [less_not a b]
  cases h : Op.bytesLess b a with
  | false =>
    cases e : b == a with
    | false => rfl
    | true =>
      have h2 : b = a := by simpa using e
      subst h2
      simp
  | true =>
    have hn : (a == b) = false := by
      rw [beq_eq_false_iff_ne]
      intro e
      subst e
      rw [bl_irr] at h
      cases h
    rw [hn]; rfl
set_option maxRecDepth 100000 in
set_option maxHeartbeats 1000000 in
theorem st_cmp (a b : ByteArray) (w : World) : Calls Tryd.prog 42 #[.string a, .string b] w fun e w' => e = .returned (.int .i64 (cmpT a b)) ∧ w' = w := by
  have HA := Lib.hid (st_isNaN a w)
  have HB := Lib.hid (st_isNaN b w)
  have hg := gt_eqS a.toList b.toList
  obtain ⟨r, hr⟩ : ∃ r, r = cmpT a b := ⟨_, rfl⟩
  rw [← hr]
  have hg1 : ∀ B C, Op.bytesLess a.toList b.toList = B → Op.bytesLess b.toList a.toList = C → r = if B = true then -1 else if C = true then 1 else 0 := fun B C h1 h2 => by rw [hr]; unfold cmpT ltT; rw [h1, h2]
  obtain ⟨B, hB⟩ : ∃ B, Op.bytesLess a.toList b.toList = B := ⟨_, rfl⟩
  obtain ⟨C, hC⟩ : ∃ C, Op.bytesLess b.toList a.toList = C := ⟨_, rfl⟩
  obtain ⟨E, hE⟩ : ∃ E, (a.toList == b.toList) = E := ⟨_, rfl⟩
  have HR := Lib.hid (hg1 B C hB hC)
  rw [hB, hC, hE] at hg
  clear hr hg1 hC
  cases B <;> cases E
  all_goals
    have HC : Hid (_ = C) := Lib.hid hg
    clear hg
    go_enter Tryd.func42, Tryd.ntmps42
    go_wp2_with fail
    refine HA.out.mono ?_
    rintro x w1 ⟨rfl, rfl⟩
    go_wp2_with fail
    refine HB.out.mono ?_
    rintro x w2 ⟨rfl, rfl⟩
    go_wp2
    go_ret
    exact ⟨by rw [HR.out, ← HC.out]; rfl, rfl⟩
def encP (x : PairV) : List Value := [.string x.1, .string x.2]
set_option maxRecDepth 100000 in
set_option maxHeartbeats 1000000 in
theorem st_clo (x y : PairV) (W : World) : Calls Tryd.prog 41 #[.agg #[.string x.1, .string x.2], .agg #[.string y.1, .string y.2]] W fun e w' => e = .returned (.int .i64 (cmpT x.1 y.1)) ∧ ∃ q os', w' = grow (W.drewN q) os' := by
  have HC := Lib.hid (fun w => st_cmp x.1 y.1 w)
  obtain ⟨r, hr⟩ : ∃ r, r = cmpT x.1 y.1 := ⟨_, rfl⟩
  rw [← hr] at HC ⊢
  clear hr
  obtain ⟨a, b⟩ := x
  obtain ⟨c, d⟩ := y
  go_enter Tryd.func41, Tryd.ntmps41
  go_wp2_with fail
  refine (HC.out _).mono ?_
  rintro x w1 ⟨rfl, rfl⟩
  go_wp2
  go_ret
  exact ⟨rfl, 0, _, by rw [alloc_eq_grow, alloc_eq_grow, grow_grow]; rfl⟩
theorem lt_cmp (x y : PairV) : ltOf (fun x y : PairV => cmpT x.1 y.1) x y = ltT x.1 y.1 := by
  unfold ltOf cmpT
  cases h1 : ltT x.1 y.1 with
  | true => simp [h1]
  | false => cases h2 : ltT y.1 x.1 <;> simp [h1, h2]
theorem st_swo : SWO (ltOf fun x y : PairV => cmpT x.1 y.1) where
  irrefl x := by rw [lt_cmp]; exact lt_irr _
  trans x y z h1 h2 := by rw [lt_cmp] at *; exact lt_trans h1 h2
  ntrans x y z h1 h2 := by
    rw [lt_cmp] at *
    cases h : ltT x.1 z.1 with
    | false => rfl
    | true =>
      by_cases e : x.1 = y.1
      · rw [e] at h; rw [h] at h2; cases h2
      · have h3 := lt_tri h1 e
        rw [lt_trans h3 h] at h2; cases h2
end Go.Proofs.YtcknhnbckbocjaaDoor
namespace Go.Proofs.YtcknhnbckbocjaaDoor
open Go.RowKit Go.Sort Go.Shelf
set_option linter.unusedVariables false
theorem enc_len (x : PairV) : (encP x).length = 2 := rfl
theorem enc_one (x : PairV) : ∀ v ∈ encP x, v.oneCell' = true := fun v hv => by
  simp only [encP, List.mem_cons, List.not_mem_nil, or_false] at hv
  rcases hv with rfl | rfl <;> rfl
theorem holds_row {B blk cap : Nat} {c : List PairV} {w : World} (h : w.ownsRow B 59 2 (.slice (some ⟨blk, 0, none⟩) c.length cap) c.length (PrE.flat c)) : HoldsK encP 2 w blk 0 c.toArray ∧ blk < w.heap.size := by
  rcases h.2 with ⟨e, _⟩ | ⟨g, cap', cur, e, hge, hb, hc, hcm, hsz, ht⟩
  · cases e
  · injection e with e1 e2 e3
    injection e1 with e1
    injection e1 with e1
    subst e1
    refine ⟨fun j hj => ⟨?_, Kq.blk_free hb _⟩, Kq.blk_lt hb⟩
    rw [size_flatK, List.size_toArray] at hj
    have h2 : j / 2 < c.length := by omega
    have h3 : j % 2 < 2 := Nat.mod_lt _ (by decide)
    have h4 := PrE.flat_at c (j / 2) h2 (j % 2) h3
    have h5 : j / 2 * 2 + j % 2 = j := by omega
    rw [show PrE.n = 2 from rfl, h5, ← ht, List.getElem?_take, if_pos hj, Array.getElem?_toList] at h4
    rw [Nat.zero_add, Kq.blk_cell hb, h4]
    show _ = some ((flatK encP 2 c.toArray)[j]!)
    rw [get_flatK _ _ _ _ (by rw [List.size_toArray]; exact hj), List.getElem!_toArray, getElem!_pos c (j / 2) h2]
    rw [getElem!_pos (encP c[j / 2]) (j % 2) h3]
    exact List.getElem?_eq_getElem (h3 : j % 2 < (encP c[j / 2]).length)
theorem keeps_sort (w : World) (blk off m : Nat) (d : Array PairV) (os : Array Obj) : Kq.Keeps (· = blk) w (sortWorldK encP 2 w blk off m d os) := by
  refine ⟨rfl, rfl, rfl, size_sortWorldK_c encP 2 w blk off m d os, fun k hk hn => ?_⟩
  unfold sortWorldK putRowK putRow mapBlock grow
  simp only [Sort.ahead]
  rw [Array.getElem?_append_left (by simpa using hk), Array.getElem?_modify]
  rw [if_neg (fun e => hn e.symm)]
set_option maxRecDepth 100000 in
set_option maxHeartbeats 1000000 in
theorem sort_ok : SortOk := by
  intro B blk cap c w h hn
  obtain ⟨hH, hlt⟩ := holds_row h
  have eg : ∀ args w, (callFunc 41 args).run Tryd.prog w = .ok (.enter 41 args) w := enters_of Tryd.func41 (by kernel_rfl) rfl
  have hcl : CmpLays Tryd.prog 41 #[] encP 2 (fun x y : PairV => cmpT x.1 y.1) blk 0 c.toArray.size w := fun _ _ _ _ x y => st_clo x y _
  have hcon := AnyQ.slices_SortFunc Tryd.sortPair 2 Tryd.isAgg59 Tryd.sizeOf59 encP enc_len enc_one (fun x y => cmpT x.1 y.1) st_swo 41 #[] blk 0 cap c.toArray w eg hcl hH hlt (by rw [List.size_toArray]; omega)
  rw [List.size_toArray] at hcon
  refine Calls.mono hcon ?_
  rintro e w' ⟨rfl, d', n, os, ⟨hs, -, hp⟩, hso, rfl⟩
  have hsz : d'.size = c.length := by rw [hs, List.size_toArray]
  refine ⟨rfl, d'.toList, ?_, ?_, fun j hj => ?_, keeps_sort _ _ _ _ _ _⟩
  · have e1 : d'.extract 0 c.length = d' := by rw [← hsz]; simp
    have e2 : c.toArray.extract 0 c.length = c.toArray := by simp
    rw [e1, e2] at hp
    simpa using hp
  · rw [List.pairwise_iff_getElem]
    intro i j hi hj hij
    have := hso i j (Nat.zero_le _) hij (by rw [← hsz]; simpa using hj)
    rw [getElem!_pos d' j (by simpa using hj), getElem!_pos d' i (by simpa using hi), lt_cmp] at this
    simpa using this
  · have hj' : j < d'.size := by simpa using hj
    have hK := holdsK_sortWorldK_c encP 2 w blk 0 c.toArray d' n os hH hlt (by rw [hsz, List.size_toArray])
    have h0 := (hK.cell (i := j) (c := 0) hj' (by decide)).1
    have h1 := (hK.cell (i := j) (c := 1) hj' (by decide)).1
    rw [getElem!_pos d' j hj'] at h0 h1
    exact ⟨blk, 0, rfl, Nat.lt_of_lt_of_le hlt (size_sortWorldK_c encP 2 w blk 0 n d' os), by simpa [encP] using h0, by simpa [encP] using h1⟩
end Go.Proofs.YtcknhnbckbocjaaDoor
