/- Contract of carrackref05.Split. Condition: sizes. -/
import Derived.WalkSpells
import Derived.Deep.LoopGhost
import Derived.Test.YtfbjfleagilikaaFrSplit
namespace Go.Proofs.Ytfbjfleagilikaa
open Go.RowKit
set_option linter.unusedVariables false
set_option linter.unusedSimpArgs false
theorem piece_last (r : Nat) (s : ByteArray) (k : Nat) (h : s.size < (k + 1) * r) : s.extract (k * r) s.size = pieceC r s k := by
  unfold pieceC
  apply nl_inj
  rw [nl_extract, nl_extract, List.take_of_length_le (by rw [List.length_drop, nl_length]; omega), List.take_of_length_le (by rw [List.length_drop, nl_length]; omega)]
set_option maxRecDepth 100000 in
set_option maxHeartbeats 2000000 in
theorem rf_split_in (a g x : Nat) (s : ByteArray) (w : World) (ha : 64 ≤ a) (h5 : a ≤ 512) (hs : s.size ≤ 4096) (hg : g < M64) (hx : x < M64) :
    Calls Try.prog 10 #[.int .i64 (a : Int), .int .u64 (g : Int), .int .u64 (x : Int), .string s] w (SplitPost a g x s w) := by
  obtain ⟨j0, ji, jz0, jz1, jz2⟩ := info_parts infoStr
  have HPN := Lib.hid (nParts_le a s.size ha hs)
  have HP := Lib.hid (fun (w : World) => rf_parts a s.size w)
  have ep : frParts (a : Int) (s.size : Int) = ((nParts a s.size : Nat) : Int) := by unfold frParts; rw [if_pos (by unfold FrSz; omega)]; rfl
  rw [ep] at HP
  have HA := Lib.hid (And.intro ha (And.intro h5 (And.intro hs (And.intro hg hx))))
  have ha1 : 64 ≤ (a : Int) := by omega
  have ha2 : (a : Int) ≤ 512 := by omega
  obtain ⟨n, hn⟩ : ∃ z, z = nParts a s.size := ⟨_, rfl⟩
  rw [← hn] at HPN HP
  have HNN := Lib.hid hn
  have hn0 : ((n : Int) == 0) = false := by have := HPN.out; simp; omega
  have hn0' : (n == 0) = false := by have := HPN.out; simp; omega
  have HPS : Hid (∀ v wz, wz.ownsRow w.heap.size 9 1 v n (tcells ((List.range n).map (secF a g x n s))) → Below w.heap.size w wz → SplitPost a g x s w (.returned (.tuple #[v, .int .i64 0])) wz) := Lib.hid (by
    intro v wz h1 h2
    have e : frSplit (a : Int) g x s = ((List.range n).map (secF a g x n s), 0) := by
      unfold frSplit
      rw [if_pos (by unfold FrSz; omega), Int.toNat_natCast, ← hn]
    unfold SplitPost
    rw [e]
    refine ⟨v, rfl, ?_, h2⟩
    simp only [List.length_map, List.length_range]
    exact h1)
  clear hn ha h5 hs hg hx ep
  go_enter Try.func10, Try.ntmps10
  go_wp2_with fail
  refine (HP.out _).mono ?_
  rintro e w1 ⟨rfl, rfl⟩
  go_wp2
  clear hn0 hn0'
  go_loopg [11, 12] n (fun gk v i wr => ∃ (k : Nat), k + gk = n ∧ i = .int .i64 (k : Int) ∧ wr.ownsRow w.heap.size 9 1 v k (tcells ((List.range k).map (secF a g x n s))) ∧ Below w.heap.size w wr)
  case atStart => exact ⟨0, by omega, rfl, World.ownsRow_nil _ _ _ _, Below.refl _ _⟩
  case round =>
    obtain ⟨k, hgk, rfl, hrow, hbel⟩ := hrel
    have HU := Lib.hid (And.intro hrow hbel)
    have HGK := Lib.hid hgk
    have hn106 : n ≤ 106 := HPN.out.2
    obtain ⟨A, m, cap, rfl⟩ := Kq.own_shape hrow
    clear hrow hbel
    by_cases hkn : k < n
    · have d0 : decide ((k : Int) < (n : Int)) = true := decide_eq_true (by omega)
      have d1 : decide (k < n) = true := decide_eq_true hkn
      have hr : (a : Int) - 25 = ((a - 25 : Nat) : Int) := by have := HA.out; omega
      have hk1 : (k : Int) + 1 = ((k + 1 : Nat) : Int) := by omega
      have hin := nParts_in a s.size k HA.out.1 (by rw [← HNN.out]; exact hkn)
      have HSC : Hid (secF a g x n s k = frSec a ⟨g, x, k, n, pieceC (a - 25) s k⟩) := Lib.hid rfl
      have HPZ := Lib.hid (piece_size (a - 25) s k)
      have HPL := Lib.hid (piece_last (a - 25) s k)
      have HPD : Hid (pieceC (a - 25) s k = s.extract (k * (a - 25)) ((k + 1) * (a - 25))) := Lib.hid rfl
      have KS := Lib.hid (fun w (d : ByteArray) (hd : d.size ≤ a - 25) => rf_sector a ⟨g, x, k, n, d⟩ w HA.out.1 HA.out.2.1 HA.out.2.2.2.1 HA.out.2.2.2.2 (by show k ≤ 255; omega) (by show n ≤ 255; omega) hd)
      simp only at KS
      have hm1 : (k : Int) * ((a : Int) - 25) = ((k * (a - 25) : Nat) : Int) := by rw [hr, Int.natCast_mul]
      have hmb : (k + 1) * (a - 25) ≤ 107 * 487 := Nat.mul_le_mul (by omega) (by have := HA.out; omega)
      have hmle : k * (a - 25) ≤ (k + 1) * (a - 25) := Nat.mul_le_mul_right _ (by omega)
      obtain ⟨k2, hk2⟩ : ∃ z, z = k + 1 := ⟨_, rfl⟩
      rw [← hk2] at hk1 hmb hmle HPL HPD
      have hm2 : (k2 : Int) * ((a : Int) - 25) = ((k2 * (a - 25) : Nat) : Int) := by rw [hr, Int.natCast_mul]
      have HK2 := Lib.hid hk2
      have hk106 : k ≤ 106 := by omega
      have HKN := Lib.hid hkn
      clear hr hk2 hkn hgk
      generalize k2 * (a - 25) = tz at *
      generalize k * (a - 25) = fr at *
      generalize hpc : pieceC (a - 25) s k = pc at *
      have HPC := Lib.hid hpc
      have hft : (fr : Int) ≤ (tz : Int) := by omega
      have hfs : (fr : Int) ≤ (s.size : Int) := by omega
      have hs4 := HA.out.2.2.1
      clear hpc
      have fin : ∀ (wr2 : World) (v' : Value), True := fun _ _ => trivial
      clear fin
      by_cases hts : s.size < tz
      · have t0 : decide ((s.size : Int) < (tz : Int)) = true := decide_eq_true (by omega)
        have t0' : decide (s.size < tz) = true := decide_eq_true hts
        have hx1 := HPL.out hts
        clear hts
        go_wp2_with fail
        refine (KS.out wr pc HPZ.out).mono ?_
        rw [← HSC.out]
        rintro e w2 ⟨rfl, b2⟩
        have H2 := Lib.hid (And.intro (fr_row_below HU.out.1 b2) (HU.out.2.trans (b2.mono HU.out.2.size)))
        clear b2
        generalize hsf : secF a g x n s k = FS at *
        have HSF := Lib.hid hsf
        clear hsf
        go_wp2_with (at_builtin; refine Kq.wpList_append_any _ rfl (.tmp 41) (.tmp 52) 24 24 rfl w.heap.size 9 j0 (.string ⟨#[]⟩) 1 16 Try.underlying24 ji jz0 jz1 jz2 rfl (by decide) (.slice A m cap) k (tcells ((List.range k).map (secF a g x n s))) rfl (H2.out.1.alloc _) (.slice (some ⟨w2.heap.size, 0, none⟩) 1 1) 1 (tcells [FS]) rfl ?hs ?h1 ?h2 ?h3 ?_)
        case hs => exact fr_src_text w2 FS 1 _
        case h1 => unfold maxLen; omega
        case h2 => omega
        case h3 => have := H2.out.2.size; simp; omega
        intro v' w3 hown hgrow hfresh
        have hkk := Kq.Keeps.grown (S := fun j => w.heap.size ≤ j) hgrow (fun j _ hj => own_ge HU.out.1 hj)
        have HF := Lib.hid (And.intro hown ((H2.out.2.trans ((Kq.below_alloc w2 (.cells #[.string FS] 9)).mono H2.out.2.size)).trans (hkk.below (by have := H2.out.2.size; simp; omega) (fun j _ e => e))))
        obtain ⟨A', m', cap', hv'⟩ := Kq.own_shape hown
        clear hown hgrow hfresh hkk
        rw [hv'] at HF ⊢
        clear hv'
        go_wp2
        go_roundg (n - (k + 1))
        case measure => have := HGK.out; have := HK2.out; have := HKN.out; omega
        case rel =>
          refine ⟨k2, by have := HGK.out; have := HK2.out; have := HKN.out; omega, rfl, ?_, HF.out.2⟩
          rw [HK2.out, List.range_succ, List.map_append, tcells_append]
          have h := HF.out.1
          rw [← HSF.out] at h
          exact h
      · have t0 : decide ((s.size : Int) < (tz : Int)) = false := decide_eq_false (by omega)
        have t0' : decide (s.size < tz) = false := decide_eq_false hts
        have hts2 : (tz : Int) ≤ (s.size : Int) := by omega
        have hx1 := HPD.out.symm
        clear hts
        go_wp2_with fail
        refine (KS.out wr pc HPZ.out).mono ?_
        rw [← HSC.out]
        rintro e w2 ⟨rfl, b2⟩
        have H2 := Lib.hid (And.intro (fr_row_below HU.out.1 b2) (HU.out.2.trans (b2.mono HU.out.2.size)))
        clear b2
        generalize hsf : secF a g x n s k = FS at *
        have HSF := Lib.hid hsf
        clear hsf
        go_wp2_with (at_builtin; refine Kq.wpList_append_any _ rfl (.tmp 41) (.tmp 52) 24 24 rfl w.heap.size 9 j0 (.string ⟨#[]⟩) 1 16 Try.underlying24 ji jz0 jz1 jz2 rfl (by decide) (.slice A m cap) k (tcells ((List.range k).map (secF a g x n s))) rfl (H2.out.1.alloc _) (.slice (some ⟨w2.heap.size, 0, none⟩) 1 1) 1 (tcells [FS]) rfl ?hs ?h1 ?h2 ?h3 ?_)
        case hs => exact fr_src_text w2 FS 1 _
        case h1 => unfold maxLen; omega
        case h2 => omega
        case h3 => have := H2.out.2.size; simp; omega
        intro v' w3 hown hgrow hfresh
        have hkk := Kq.Keeps.grown (S := fun j => w.heap.size ≤ j) hgrow (fun j _ hj => own_ge HU.out.1 hj)
        have HF := Lib.hid (And.intro hown ((H2.out.2.trans ((Kq.below_alloc w2 (.cells #[.string FS] 9)).mono H2.out.2.size)).trans (hkk.below (by have := H2.out.2.size; simp; omega) (fun j _ e => e))))
        obtain ⟨A', m', cap', hv'⟩ := Kq.own_shape hown
        clear hown hgrow hfresh hkk
        rw [hv'] at HF ⊢
        clear hv'
        go_wp2
        go_roundg (n - (k + 1))
        case measure => have := HGK.out; have := HK2.out; have := HKN.out; omega
        case rel =>
          refine ⟨k2, by have := HGK.out; have := HK2.out; have := HKN.out; omega, rfl, ?_, HF.out.2⟩
          rw [HK2.out, List.range_succ, List.map_append, tcells_append]
          have h := HF.out.1
          rw [← HSF.out] at h
          exact h
    · have d0 : decide ((k : Int) < (n : Int)) = false := decide_eq_false (by omega)
      have d1 : decide (k < n) = false := decide_eq_false hkn
      obtain rfl : k = n := by omega
      clear hkn hgk
      go_wp2
      go_ret2
      exact HPS.out _ _ HU.out.1 HU.out.2
set_option maxRecDepth 100000 in
set_option maxHeartbeats 2000000 in
theorem rf_split_no (a : Int) (g x : Nat) (s : ByteArray) (w : World) (h : ¬ (FrSz a ∧ s.size ≤ 4096)) :
    Calls Try.prog 10 #[.int .i64 a, .int .u64 (g : Int), .int .u64 (x : Int), .string s] w (SplitPost a g x s w) := by
  have HP := Lib.hid (fun (w : World) => rf_parts a s.size w)
  have ep : frParts a (s.size : Int) = 0 := by unfold frParts; rw [if_neg (fun hh => h ⟨hh.1, by have := hh.2.2; omega⟩)]
  rw [ep] at HP
  have HPS : Hid (∀ wz, Below w.heap.size w wz → SplitPost a g x s w (.returned (.tuple #[.slice none 0 0, .int .i64 1])) wz) := Lib.hid (by
    intro wz hb
    have e : frSplit a g x s = ([], 1) := by unfold frSplit; rw [if_neg h]
    unfold SplitPost
    rw [e]
    exact ⟨_, rfl, World.ownsRow_nil _ _ _ _, hb⟩)
  clear h ep
  go_enter Try.func10, Try.ntmps10
  go_wp2_with fail
  refine (HP.out _).mono ?_
  rintro e w1 ⟨rfl, rfl⟩
  go_wp2
  go_ret2
  exact HPS.out _ (Below.refl _ _)
theorem rf_split (a : Int) (g x : Nat) (s : ByteArray) (w : World) (hg : g < M64) (hx : x < M64) :
    Calls Try.prog 10 #[.int .i64 a, .int .u64 (g : Int), .int .u64 (x : Int), .string s] w (SplitPost a g x s w) := by
  by_cases h : FrSz a ∧ s.size ≤ 4096
  · obtain ⟨⟨h1, h2⟩, h3⟩ := h
    obtain ⟨n, rfl⟩ := Int.eq_ofNat_of_zero_le (show 0 ≤ a by omega)
    exact rf_split_in n g x s w (by omega) (by omega) h3 hg hx
  · exact rf_split_no a g x s w h
end Go.Proofs.Ytfbjfleagilikaa
