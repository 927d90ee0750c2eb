/- The walk of carracklaw01.ShaParts. Condition: the constants lie where they lie. -/
import Derived.Test.YtkidmdifmkgofaaDoorShFew
namespace Go.Proofs.YtkidmdifmkgofaaDoor
open Go.RowKit
set_option linter.unusedVariables false
namespace shaParts
theorem one_part (w : World) (a : ByteArray) : PartsAt (w.alloc (.cells #[.string a] 9)) (some ⟨w.heap.size, 0, none⟩) [a] := fun i hi => by
  refine ⟨w.heap.size, 0, rfl, by simp, ?_⟩
  rw [Kq.blk_cell (Kq.blk_new w _ _ _) (0 + i)]
  rcases i with _ | i
  · rfl
  · simp at hi
/-- a text's digest -/
def dg (l : List Nat) : ByteArray := txt (Sh.digest l)
theorem dg_size (l : List Nat) : (dg l).size = 32 := by rw [dg, txt_size, digest_length]
theorem sum_one (s : ByteArray) (w : World) (hl : LaidOk w) (hs : s.size ≤ 100000) :
    Calls Tryd.prog 9 #[.slice (some ⟨w.heap.size, 0, none⟩) 1 1] (w.alloc (.cells #[.string s] 9)) fun x w' => x = .returned (.string (dg (nl s))) ∧ Below w.heap.size w w' := by
  have hb := Kq.below_alloc w (.cells #[.string s] 9)
  have h := sh_sum (some ⟨w.heap.size, 0, none⟩) 1 [s] _ (one_part w s) (hl.later hb) (by simp) (by simp [nls, nl]; omega)
  refine h.mono ?_
  rintro x w' ⟨rfl, hb2⟩
  exact ⟨by simp [dg, nls], hb.trans (hb2.mono hb.size)⟩
theorem nl_cat (l : List ByteArray) : nl (cat l) = nls l := by
  unfold cat nls
  have : ∀ (a : ByteArray), nl (l.foldl (· ++ ·) a) = nl a ++ l.flatMap nl := by
    induction l with
    | nil => intro a; simp
    | cons b r ih => intro a; rw [List.foldl_cons, ih, nl_append, List.flatMap_cons, List.append_assoc]
  rw [this]
  rfl
theorem cat_size (l : List ByteArray) : (cat l).size = (nls l).length := by rw [← nl_cat]; simp [nl]
structure PtI (w : World) (B : Nat) (l : List ByteArray) (k : Nat) (wr : World) : Prop where
  fed : Fed wr B 51 (nls (l.take k))
  bel : Below w.heap.size w wr
theorem PtI.later {w : World} {B : Nat} {l : List ByteArray} {k : Nat} {wr w' : World} (h : PtI w B l k wr) (hb : Below wr.heap.size wr w') : PtI w B l k w' := ⟨h.fed.below hb, h.bel.trans (hb.mono h.bel.size)⟩
set_option maxRecDepth 100000 in
set_option maxHeartbeats 2000000 in
theorem yes (A : Option Addr) (c : Nat) (l : List ByteArray) (w : World) (hL : LaidOk w) (ha : PartsAt w A l) (hn : l.length ≤ maxLen) (hs : ∀ s ∈ l, s.size ≤ reachBytes) :
    Calls Tryd.prog 4 #[.slice A l.length c] w fun x w' => x = .returned (.bool true) ∧ Below w.heap.size w w' := by
  have HA := Lib.hid (And.intro hL (And.intro ha (And.intro hn hs)))
  clear hL ha hn hs
  go_enter Tryd.func4, Tryd.ntmps4
  go_wp2_with fail
  refine (sh_awake w HA.out.1).mono ?_
  rintro x w1 ⟨rfl, hb1⟩
  have HB1 := Lib.hid hb1
  clear hb1
  go_wp2_with fail
  refine (sh_few A c l w1 (HA.out.2.1.below HB1.out) HA.out.2.2.1 HA.out.2.2.2).mono ?_
  rintro x w2 ⟨r, rfl, hfew, rfl⟩
  cases r with
  | false =>
    clear hfew
    go_wp2
    go_ret
    exact ⟨rfl, HB1.out⟩
  | true =>
    have HF := Lib.hid (hfew rfl)
    clear hfew
    go_wp2_with fail
    refine (sh_new w2 (HA.out.1.later HB1.out)).mono ?_
    rintro x w3 ⟨rfl, hf3, hb3⟩
    obtain ⟨B, hB⟩ : ∃ B, B = w2.heap.size := ⟨_, rfl⟩
    have HPI : Hid (PtI w B l 0 w3) := Lib.hid ⟨by rw [hB]; exact hf3, HB1.out.trans (hb3.mono HB1.out.size)⟩
    have HBW : Hid (w.heap.size ≤ B) := Lib.hid (by rw [hB]; exact HB1.out.size)
    rw [← hB]
    clear hf3 hb3 hB
    go_wp2
    go_loopw [4, 5] (fun s i wr => ∃ k : Nat, k ≤ l.length ∧ i = .int .i64 (k : Int) ∧ s = .string (cat (l.take k)) ∧ PtI w B l k wr) (fun _ i _ => l.length - (intOf i).toNat)
    case atStart => exact ⟨0, Nat.zero_le _, rfl, rfl, HPI.out⟩
    case round =>
      obtain ⟨k, hk, rfl, rfl, hI⟩ := hrel
      have HI := Lib.hid hI
      clear hI
      by_cases hlt : k < l.length
      · have l1 : (k : Int) < (l.length : Int) := by omega
        obtain ⟨g, o, rfl, hg, hc⟩ := (HA.out.2.1.below HI.out.bel) k hlt
        have ht : l.take (k + 1) = l.take k ++ [l[k]] := List.take_succ_eq_append_getElem hlt
        have HT : Hid (cat (l.take (k + 1)) = cat (l.take k) ++ l[k] ∧ nls (l.take (k + 1)) = nls (l.take k) ++ nl l[k]) := Lib.hid ⟨by rw [ht, cat_snoc], by rw [ht, nls_snoc]⟩
        have h1 := HF.out.2 (k + 1) (by omega)
        have hz : (cat (l.take k)).size + l[k].size ≤ 2000 := by
          rw [HT.out.2, List.length_append] at h1
          rw [cat_size]
          simpa [nl] using h1
        have HW := Lib.hid (sh_write B 51 (nls (l.take k)) l[k] wr HI.out.fed (by have := cat_size (l.take k); omega))
        have hc2 := Lib.hid (show ∀ w', Below wr.heap.size wr w' → w'.cell? ⟨g, o + k, none⟩ = some (.string l[k]) from fun w' hb => (hb.cell (p := ⟨g, o + k, none⟩) hg).trans hc)
        have hgB : Hid (g < w.heap.size ∧ g < wr.heap.size) := Lib.hid ⟨by obtain ⟨g', o', e, hg', _⟩ := HA.out.2.1 k hlt; cases e; exact hg', hg⟩
        have HCT := Lib.hid (nl_cat (l.take (k + 1)))
        have HN1 := Lib.hid h1
        rw [HT.out.1] at HCT
        generalize cat (l.take k) = T at *
        generalize l[k] = s at *
        clear ht hg h1
        go_wp2_with fail
        refine HW.out.mono ?_
        rintro x w4 ⟨rfl, hf4, hk4⟩
        have hc4 : w4.cell? ⟨g, o + k, none⟩ = some (.string s) := by
          rw [World.cell?_of_block (hk4.block g hgB.out.2 (by have := HBW.out; have := hgB.out.1; show ¬ g = B; omega))]
          exact hc
        have HI4 : Hid (PtI w B l (k + 1) w4) := Lib.hid ⟨by rw [HT.out.2]; exact hf4, by
          have k1 : Kq.Keeps (fun j => w.heap.size ≤ j) w wr := Kq.Keeps.of_below HI.out.bel (fun j h1 _ => h1)
          exact (k1.trans (hk4.mono (fun j _ e => by rw [e]; exact HBW.out))).below (Nat.le_refl _) (fun j _ hj => hj)⟩
        clear hf4 hk4 HW hc
        have l2 : ¬ 9223372036854775807 < T.size + s.size := by omega
        go_wp2_with fail
        refine (sh_sumof B 51 _ w4 HI4.out.fed (by have := HN1.out; omega)).mono ?_
        rintro x w5 ⟨rfl, hb5⟩
        have HI5 := Lib.hid (HI4.out.later hb5)
        clear hb5 hc4
        have ed : txt (Sh.digest (nls (l.take (k + 1)))) = dg (nls (l.take (k + 1))) := rfl
        rw [ed]
        clear ed
        go_wp2_with fail
        refine (sum_one (T ++ s) w5 (HA.out.1.later HI5.out.bel) (by rw [ByteArray.size_append]; omega)).mono ?_
        rintro x w6 ⟨rfl, hb6⟩
        rw [HCT.out]
        have HI6 := Lib.hid (HI5.out.later hb6)
        clear hb6
        have hlen : (nls (l.take (k + 1))).length = (T ++ s).size := by rw [← HCT.out]; simp [nl]
        have HLN := Lib.hid (sh_len B 51 _ w6 HI6.out.fed)
        rw [hlen] at HLN
        clear hlen
        go_wp2_with fail
        refine HLN.out.mono ?_
        rintro x w7 ⟨rfl, rfl⟩
        have hl201 := HF.out.1
        go_wp2
        go_roundw
        case rel => exact ⟨k + 1, by omega, by go_num, by rw [HT.out.1], HI6.out⟩
        case measure => simp [intOf]; omega
      · have hkl : k = l.length := by omega
        have ht : l.take k = l := by rw [hkl]; exact List.take_length
        rw [ht]
        have HF2 : Hid ((nls l).length ≤ 2000 ∧ l.length ≤ 201) := Lib.hid ⟨by have := HF.out.2 l.length (Nat.le_refl _); rwa [List.take_length] at this, HF.out.1⟩
        have HNK : Hid (nls (l.take k) = nls l) := Lib.hid (by rw [ht])
        have HCT := Lib.hid (nl_cat l)
        have hcz : (cat l).size ≤ 2000 := by rw [cat_size]; exact HF2.out.1
        have d1 : decide ((k : Int) < (l.length : Int)) = false := decide_eq_false (by omega)
        clear ht hkl
        generalize cat l = T at *
        have HS1 : Hid (∀ w', Below wr.heap.size wr w' → Calls Tryd.prog 17 #[.pointer (some ⟨B, 0, none⟩)] w' fun x w2 => x = .returned (.string (dg (nls l))) ∧ Below w'.heap.size w' w2) := Lib.hid (fun w' hb => by
          have := sh_sumof B 51 _ w' (HI.out.later hb).fed (by rw [HNK.out]; have := HF2.out.1; omega)
          rw [HNK.out] at this
          exact this)
        go_wp2_with fail
        refine (HS1.out wr (Below.refl _ _)).mono ?_
        rintro x w4 ⟨rfl, hb4⟩
        have H4 := Lib.hid hb4
        clear hb4
        go_wp2_with fail
        refine (sum_one T w4 (HA.out.1.later (HI.out.later H4.out).bel) (by omega)).mono ?_
        rintro x w5 ⟨rfl, hb5⟩
        rw [HCT.out]
        have H5 := Lib.hid (H4.out.trans (hb5.mono H4.out.size))
        clear hb5
        go_wp2_with fail
        refine (HS1.out _ H5.out).mono ?_
        rintro x w6 ⟨rfl, hb6⟩
        have H6 := Lib.hid (H5.out.trans (hb6.mono H5.out.size))
        clear hb6
        go_wp2_with fail
        refine (sh_sum A c l w6 (HA.out.2.1.below (HI.out.later H6.out).bel) (HA.out.1.later (HI.out.later H6.out).bel) (by have := HF2.out.2; omega) (by have := HF2.out.1; omega)).mono ?_
        rintro x w7 ⟨rfl, hb7⟩
        have H7 := Lib.hid (H6.out.trans (hb7.mono H6.out.size))
        clear hb7
        have ed : txt (Sh.digest (nls l)) = dg (nls l) := rfl
        rw [ed]
        clear ed
        go_wp2_with fail
        refine (HS1.out _ H7.out).mono ?_
        rintro x w8 ⟨rfl, hb8⟩
        have H8 := Lib.hid (H7.out.trans (hb8.mono H7.out.size))
        clear hb8
        have hz : (dg (nls l)).size = 32 := dg_size _
        generalize dg (nls l) = D at *
        go_wp2
        go_ret
        exact ⟨rfl, (HI.out.later H8.out).bel⟩
end shaParts
set_option maxRecDepth 100000 in
theorem shaParts_walk (v : Value) {W : World} (h : ∃ A cap l, v = .slice A l.length cap ∧ l.length ≤ maxLen ∧ (∀ s ∈ l, s.size ≤ reachBytes) ∧ PartsAt W A l) (w : World) (e : W = w) (hL : LaidOk w) :
    Calls Tryd.prog 4 #[v] w fun x w' => x = .returned (.bool true) ∧ Below w.heap.size w w' := by
  subst e
  obtain ⟨A, cap, l, rfl, h1, h2, h3⟩ := h
  exact shaParts.yes A cap l _ hL h3 h1 h2
end Go.Proofs.YtkidmdifmkgofaaDoor
