/- Merged: ShJoin, ShSum, ShOne. Contract of carracklaw01.join. Condition: sizes. Contract of sha.Sum: the digest of parts. Condition: the constants lie where they lie; sizes. Contracts of sha.Sum at one text, and at two. Condition: the constants lie where they lie; sizes. -/
import Derived.WalkSpells
import Derived.Outline
import Derived.Test.YtcknhnbckbocjaaDoorChecked
import Derived.Test.YtcknhnbckbocjaaDoorCommonQ
import Derived.Test.YtcknhnbckbocjaaDoorShHex2Q
import Derived.Test.YtcknhnbckbocjaaDoorShLaidQ
namespace Go.Proofs.YtcknhnbckbocjaaDoor
open Go.RowKit
set_option linter.unusedVariables false
/-- texts, one behind the other -/
def cat (l : List ByteArray) : ByteArray := l.foldl (· ++ ·) ⟨#[]⟩
theorem cat_snoc (l : List ByteArray) (s : ByteArray) : cat (l ++ [s]) = cat l ++ s := by simp [cat]
/-- texts at an address -/
def PartsAt (w : World) (A : Option Addr) (l : List ByteArray) : Prop := ∀ i (h : i < l.length), ∃ g o, A = some ⟨g, o, none⟩ ∧ g < w.heap.size ∧ w.cell? ⟨g, o + i, none⟩ = some (.string l[i])
theorem PartsAt.below {w w' : World} {A : Option Addr} {l : List ByteArray} (h : PartsAt w A l) (hb : Below w.heap.size w w') : PartsAt w' A l := fun i hi => by
  obtain ⟨g, o, e, hg, hc⟩ := h i hi
  exact ⟨g, o, e, Nat.lt_of_lt_of_le hg hb.size, (hb.cell (p := ⟨g, o + i, none⟩) hg).trans hc⟩
end Go.Proofs.YtcknhnbckbocjaaDoor
namespace Go.Proofs.YtcknhnbckbocjaaDoor
open Go.RowKit
set_option linter.unusedVariables false
/-- the bytes of parts -/
def nls (l : List ByteArray) : List Nat := l.flatMap nl
theorem nls_snoc (l : List ByteArray) (s : ByteArray) : nls (l ++ [s]) = nls l ++ nl s := by simp [nls]
theorem nls_take (l : List ByteArray) (k : Nat) : (nls (l.take k)).length ≤ (nls l).length := by
  have : nls l = nls (l.take k) ++ nls (l.drop k) := by unfold nls; rw [← List.flatMap_append, List.take_append_drop]
  rw [this, List.length_append]
  omega
theorem PartsAt.none (w : World) : PartsAt w none [] := fun i hi => absurd hi (by simp)
set_option maxRecDepth 100000 in
set_option maxHeartbeats 1000000 in
theorem sh_sum (A : Option Addr) (c : Nat) (l : List ByteArray) (w : World) (ha : PartsAt w A l) (hl : LaidOk w) (hn : l.length ≤ 1000000) (hsz : (nls l).length ≤ 900000000) :
    Calls Tryd.prog 47 #[.slice A l.length c] w fun x w' => x = .returned (.string (txt (Sh.digest (nls l)))) ∧ Below w.heap.size w w' := by
  have HA := Lib.hid (And.intro ha (And.intro hl hsz))
  clear ha hl hsz
  go_enter Tryd.func47, Tryd.ntmps47
  go_wp2_with fail
  refine (sh_new w HA.out.2.1).mono ?_
  rintro x w1 ⟨rfl, hf1, hb1⟩
  have H1 := Lib.hid (And.intro hf1 hb1)
  clear hf1 hb1
  go_wp2
  go_loopw [9] (fun i wr => ∃ k : Nat, k ≤ l.length ∧ i = .int .i64 (k : Int) ∧ Fed wr w.heap.size 130 (nls (l.take k)) ∧ Below w.heap.size w wr) (fun i _ => l.length - (intOf i).toNat)
  case atStart => exact ⟨0, Nat.zero_le _, rfl, H1.out⟩
  case round =>
    obtain ⟨k, hk, rfl, hfb⟩ := hrel
    have HF := Lib.hid hfb
    clear hfb
    by_cases hlt : k < l.length
    · have l1 : (k : Int) < (l.length : Int) := by omega
      obtain ⟨g, o, rfl, hg, hc⟩ := (HA.out.1.below HF.out.2) k hlt
      have ht : l.take (k + 1) = l.take k ++ [l[k]] := List.take_succ_eq_append_getElem hlt
      have HT : Hid (nls (l.take (k + 1)) = nls (l.take k) ++ nl l[k]) := Lib.hid (by rw [ht, nls_snoc])
      have HW := Lib.hid (sh_write w.heap.size 130 (nls (l.take k)) l[k] wr HF.out.1 (by
        have h1 := nls_take l (k + 1)
        rw [HT.out, List.length_append] at h1
        have h2 : (nl l[k]).length = l[k].size := by simp [nl]
        have := HA.out.2.2
        omega))
      generalize l[k] = s at *
      clear ht hg
      go_wp2_with fail
      refine HW.out.mono ?_
      rintro x w2 ⟨rfl, hf2, hk2⟩
      have H2 : Hid (Fed w2 w.heap.size 130 (nls (l.take (k + 1))) ∧ Below w.heap.size w w2) := Lib.hid ⟨by rw [HT.out]; exact hf2, by
        have k1 : Kq.Keeps (fun j => w.heap.size ≤ j) w wr := Kq.Keeps.of_below HF.out.2 (fun j h1 _ => h1)
        exact (k1.trans (hk2.mono (fun j _ e => by rw [e]; exact Nat.le_refl _))).below (Nat.le_refl _) (fun j _ hj => hj)⟩
      clear hf2 hk2 HW hc
      go_wp2
      go_roundw
      case rel => exact ⟨k + 1, by omega, by go_num, H2.out⟩
      case measure => simp [intOf]; omega
    · have hkl : k = l.length := by omega
      have ht : l.take k = l := by rw [hkl]; exact List.take_length
      rw [ht] at HF
      clear ht
      go_wp2_with fail
      refine (sh_sumof w.heap.size 130 (nls l) wr HF.out.1 HA.out.2.2).mono ?_
      rintro x w2 ⟨rfl, hb2⟩
      have H2 := Lib.hid (HF.out.2.trans (hb2.mono HF.out.2.size))
      clear hb2
      go_wp2
      go_ret
      exact ⟨rfl, H2.out⟩
end Go.Proofs.YtcknhnbckbocjaaDoor
namespace Go.Proofs.YtcknhnbckbocjaaDoor
open Go.RowKit
set_option linter.unusedVariables false
def dgT (s : ByteArray) : ByteArray := txt (Sh.digest (nl s))
theorem dgT_size (s : ByteArray) : (dgT s).size = 32 := by
  unfold dgT Sh.digest
  rw [txt_size]
  show (Sh.out _).length = 32
  simp [Sh.out, Sh.be4]
theorem sum_text (s : ByteArray) (w : World) (hl : LaidOk w) (hs : s.size ≤ 100000) :
    Calls Tryd.prog 47 #[.slice (some ⟨w.heap.size, 0, none⟩) 1 1] (w.alloc (.cells #[.string s] 9)) fun x w' => x = .returned (.string (dgT s)) ∧ Below w.heap.size w w' := by
  have hb := Kq.below_alloc w (.cells #[.string s] 9)
  have hp : PartsAt (w.alloc (.cells #[.string s] 9)) (some ⟨w.heap.size, 0, none⟩) [s] := fun i hi => by
    refine ⟨w.heap.size, 0, rfl, by simp, ?_⟩
    rw [Kq.blk_cell (Kq.blk_new w _ _ _) (0 + i)]
    rcases i with _ | i
    · rfl
    · simp at hi
  refine (sh_sum (some ⟨w.heap.size, 0, none⟩) 1 [s] _ hp (hl.later hb) (by simp) (by simp [nls, nl]; omega)).mono ?_
  rintro x w' ⟨rfl, hb2⟩
  exact ⟨by simp [dgT, nls], hb.trans (hb2.mono hb.size)⟩
theorem sum_texts (a s : ByteArray) (w : World) (hl : LaidOk w) (hs : a.size + s.size ≤ 100000) :
    Calls Tryd.prog 47 #[.slice (some ⟨w.heap.size, 0, none⟩) 2 2] (w.alloc (.cells #[.string a, .string s] 9)) fun x w' => x = .returned (.string (dgT (a ++ s))) ∧ Below w.heap.size w w' := by
  have hb := Kq.below_alloc w (.cells #[.string a, .string s] 9)
  have hp : PartsAt (w.alloc (.cells #[.string a, .string s] 9)) (some ⟨w.heap.size, 0, none⟩) [a, s] := fun i hi => by
    refine ⟨w.heap.size, 0, rfl, by simp, ?_⟩
    rw [Kq.blk_cell (Kq.blk_new w _ _ _) (0 + i)]
    rcases i with _ | _ | i
    · rfl
    · rfl
    · simp at hi; omega
  refine (sh_sum (some ⟨w.heap.size, 0, none⟩) 2 [a, s] _ hp (hl.later hb) (by simp) (by simp [nls, nl]; omega)).mono ?_
  rintro x w' ⟨rfl, hb2⟩
  exact ⟨by simp [dgT, nls, nl_append], hb.trans (hb2.mono hb.size)⟩
end Go.Proofs.YtcknhnbckbocjaaDoor
