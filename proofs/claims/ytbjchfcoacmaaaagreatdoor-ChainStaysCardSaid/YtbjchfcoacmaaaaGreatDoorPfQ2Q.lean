/- Merged: PfBy, PfPs, PfPw, PfC, PfH, PfL, PfF, PfQ, PfWg, PfQ2. Contract of proof.Bytes. Condition: sizes. Contract of proof.Parse. Condition: lengths. Contract of proof.Parse. Condition: lengths. Contracts of proof.isKey, outside, between, climb. Condition: sizes; the constants lie where they lie. Contracts of proof.Has, proof.Lacks. Condition: lengths; the constants lie where they lie. Contract of proof.Lacks. Condition: lengths; the constants lie where they lie. Contracts of proof.find, leaf, of. Condition: sizes; the constants lie where they lie. Contracts of proof.Present, proof.Absent. Condition: sizes; the constants lie where they lie. The made proofs of a small map prove what they are made for: mathematics. No condition but few pairs. Contract of proof.Absent. Condition: sizes; the constants lie where they lie. -/
import Derived.WalkSpells
import Derived.Outline
import Derived.Test.YtbjchfcoacmaaaaGreatDoorPfBQ
import Derived.Deep.RegionHeld
import Derived.Deep.QuietTactic
import Derived.BigQuiet
import Derived.Test.YtbjchfcoacmaaaaGreatDoorPfSeQ
import Derived.Test.YtbjchfcoacmaaaaGreatDoorStRPairsQ
namespace Go.Proofs.YtbjchfcoacmaaaaGreatDoor
open Go.RowKit
set_option linter.unusedVariables false
/-- in the midst of Bytes: behind w2, with l written -/
structure ByMid (w2 : World) (l : List Nat) (wr : World) : Prop where
  ex : ∃ v, WrMid (w2.alloc (.cells #[.int .i64 0, .slice none 0 0] 159)) w2.heap.size w2.heap.size (.slice none 0 0) 0 v l wr
theorem ByMid.below {w2 wr : World} {l : List Nat} (h : ByMid w2 l wr) : Below w2.heap.size w2 wr := by
  obtain ⟨v, h⟩ := h.ex
  exact WrMid.below h
theorem ByMid.belowM {w2 wr w' : World} {l : List Nat} (h : ByMid w2 l wr) (hb : Below wr.heap.size wr w') : ByMid w2 l w' := by
  obtain ⟨v, h⟩ := h.ex
  exact ⟨v, h.belowM hb⟩
theorem ByMid.step {w2 wr w' : World} {l l' : List Nat} {v : Value} (h : WrMid (w2.alloc (.cells #[.int .i64 0, .slice none 0 0] 159)) w2.heap.size w2.heap.size (.slice none 0 0) 0 v l wr) {x : Ending} (hp : WrAny wr w2.heap.size w2.heap.size v 0 l' x w') : ByMid w2 l' w' := by
  obtain ⟨v', h'⟩ := h.step hp
  exact ⟨v', h'⟩
/-- .. with a box beside it -/
structure ByBox (w2 : World) (l : List Nat) (X : Nat) (o : Obj) (wr : World) : Prop where
  ex : ∃ v, WrMid (w2.alloc (.cells #[.int .i64 0, .slice none 0 0] 159)) w2.heap.size w2.heap.size (.slice none 0 0) 0 v l wr ∧ wr.heap[X]? = some o ∧ (X ≠ w2.heap.size ∧ some X ≠ v.ownBlock)
theorem ByBox.mid {w2 wr : World} {l : List Nat} {X : Nat} {o : Obj} (h : ByBox w2 l X o wr) : ByMid w2 l wr := by
  obtain ⟨v, h, _⟩ := h.ex
  exact ⟨v, h⟩
theorem ByBox.blk {w2 wr : World} {l : List Nat} {X : Nat} {o : Obj} (h : ByBox w2 l X o wr) : wr.heap[X]? = some o := by
  obtain ⟨v, _, h, _⟩ := h.ex
  exact h
theorem ByMid.box {w2 wr : World} {l : List Nat} (h : ByMid w2 l wr) (cs : Array Value) (T : TypeId) : ByBox w2 l wr.heap.size (.cells cs T (0, 0)) (wr.alloc (.cells cs T)) := by
  obtain ⟨v, h⟩ := h.ex
  refine ⟨v, h.belowM (Kq.below_alloc _ _), Kq.blk_new _ _ _ _, ?_, ?_⟩
  · have := Kq.blk_lt h.it.blk; omega
  · exact fun hc => Nat.lt_irrefl _ (h.it.own.lt _ hc.symm).2
/-- the writing calls, each in a contract of this shape -/
def ByPost (w2 : World) (l : List Nat) (x : Ending) (w' : World) : Prop := x = .returned (.tuple #[]) ∧ ByMid w2 l w'
def BxPost (w2 : World) (l : List Nat) (X : Nat) (o : Obj) (x : Ending) (w' : World) : Prop := x = .returned (.tuple #[]) ∧ ByBox w2 l X o w'
section
variable {w2 wr : World} {l : List Nat} {X : Nat} {o : Obj}
theorem by_byte (h : ByMid w2 l wr) (n : Nat) (hn : n ≤ 255) (hl : l.length ≤ 1000000) : Calls Tryz.prog 92 #[.pointer (some ⟨w2.heap.size, 0, none⟩), .int .i64 (n : Int)] wr (ByPost w2 (l ++ [n])) := by
  obtain ⟨v, h⟩ := h.ex
  refine (wr_byte_ok _ _ 0 v l n wr h.it hn (by omega)).mono fun x w' hp => ⟨hp.1, ByMid.step h hp.any⟩
theorem by_raw (h : ByMid w2 l wr) (s : ByteArray) (hl : l.length + s.size ≤ 1000000) : Calls Tryz.prog 95 #[.pointer (some ⟨w2.heap.size, 0, none⟩), .string s] wr (ByPost w2 (l ++ nl s)) := by
  obtain ⟨v, h⟩ := h.ex
  refine (wr_raw _ _ 0 v l s wr h.it (by omega)).mono fun x w' hp => ⟨hp.1, ByMid.step h hp.any⟩
theorem bx_of {l' : List Nat} {v : Value} (h : WrMid (w2.alloc (.cells #[.int .i64 0, .slice none 0 0] 159)) w2.heap.size w2.heap.size (.slice none 0 0) 0 v l wr) (hb : wr.heap[X]? = some o) (hX : X ≠ w2.heap.size ∧ some X ≠ v.ownBlock) {x : Ending} {w' : World} (hp : WrAny wr w2.heap.size w2.heap.size v 0 l' x w') : BxPost w2 l' X o x w' := by
  obtain ⟨v', h1, h2, h3⟩ := h.stepX hp hb hX
  exact ⟨hp.1, v', h1, h2, h3⟩
theorem bx_number (h : ByBox w2 l X o wr) (n : Nat) (hn : n < M64) (hl : l.length ≤ 1000000) : Calls Tryz.prog 93 #[.pointer (some ⟨w2.heap.size, 0, none⟩), .int .u64 (n : Int)] wr (BxPost w2 (l ++ num8 n) X o) := by
  obtain ⟨v, h, hb, hX⟩ := h.ex
  exact (wr_number _ _ 0 v l n wr h.it hn (by omega)).mono fun x w' hp => bx_of h hb hX hp
theorem bx_text (h : ByBox w2 l X o wr) (s : ByteArray) (hs : s.size ≤ 65535) (hl : l.length ≤ 1000000) : Calls Tryz.prog 94 #[.pointer (some ⟨w2.heap.size, 0, none⟩), .string s] wr (BxPost w2 (l ++ tx2 s) X o) := by
  obtain ⟨v, h, hb, hX⟩ := h.ex
  refine (wr_text_ok _ _ 0 v l s wr h.it hs (by omega)).mono fun x w' hp => ?_
  rw [List.append_assoc] at hp
  exact bx_of h hb hX hp
theorem bx_byte (h : ByBox w2 l X o wr) (n : Nat) (hn : n ≤ 255) (hl : l.length ≤ 1000000) : Calls Tryz.prog 92 #[.pointer (some ⟨w2.heap.size, 0, none⟩), .int .i64 (n : Int)] wr (BxPost w2 (l ++ [n]) X o) := by
  obtain ⟨v, h, hb, hX⟩ := h.ex
  exact (wr_byte_ok _ _ 0 v l n wr h.it hn (by omega)).mono fun x w' hp => bx_of h hb hX hp.any
end
theorem by_bytes {w2 wr : World} {l : List Nat} (h : ByMid w2 l wr) (hl : ∀ b ∈ l, b < 256) : Calls Tryz.prog 96 #[.pointer (some ⟨w2.heap.size, 0, none⟩)] wr fun x w' => x = .returned (.tuple #[.string (txt l), .int .i64 0]) ∧ wr = w' := by
  obtain ⟨v, h⟩ := h.ex
  exact wr_bytes_ok _ _ v l wr h.it hl
set_option maxRecDepth 100000 in
set_option maxHeartbeats 2000000 in
theorem pf_bytes_no (S : Nat → Prop) (ab : Bool) (A : Option Addr) (cap : Nat) (ls : List LfW) (w : World) (hA : LfsN w S A ls) (hn : ls.length ≤ 1000) (hp : ∀ x ∈ ls, x.l.p.length ≤ 1000) (hno : ¬ ((vals ls).length ≤ 2 ∧ ∀ l ∈ vals ls, LfMay l)) :
    Calls Tryz.prog 52 #[.agg #[.bool ab, .slice A ls.length cap]] w (BsPost w (pfBytes ⟨ab, vals ls⟩)) := by
  have HE : Hid (pfBytes ⟨ab, vals ls⟩ = (⟨#[]⟩, 1)) := Lib.hid (pfBytes_no hno)
  rw [HE.out]
  have hb0 := Kq.below_alloc w (.cells #[.bool ab, .slice A ls.length cap] 102)
  have HM := Lib.hid (pf_may S A cap ls _ (hA.below hb0) hn hp)
  have HN : Hid (mayB (vals ls) = false) := Lib.hid (mayB_no hno)
  have HB := Lib.hid hb0
  clear hA hp hno hb0
  clear HE
  cases ab
  all_goals
    go_enter Tryz.func52, Tryz.ntmps52
    go_wp2_with fail
    refine HM.out.mono ?_
    rintro x w2 ⟨rfl, b2⟩
    rw [HN.out]
    have H2 : Hid (Below w.heap.size w w2) := Lib.hid (HB.out.trans (b2.mono HB.out.size))
    clear b2 HM
    go_wp2
    go_ret2
    exact ⟨rfl, H2.out⟩
set_option maxRecDepth 100000 in
set_option maxHeartbeats 4000000 in
theorem pf_bytes_yes_f (S : Nat → Prop) (A : Option Addr) (cap : Nat) (ls : List LfW) (w : World) (hA : LfsN w S A ls) (hyes : (vals ls).length ≤ 2 ∧ ∀ l ∈ vals ls, LfMay l) :
    Calls Tryz.prog 52 #[.agg #[.bool false, .slice A ls.length cap]] w (BsPost w (pfBytes ⟨false, vals ls⟩)) := by
  have HE : Hid (pfBytes ⟨false, vals ls⟩ = (txt ([1] ++ ([ls.length] ++ lsB (vals ls))), 0)) := Lib.hid (by
    rw [pfBytes_yes (p := ⟨false, vals ls⟩) hyes]; unfold pfB; simp only [if_false, Bool.false_eq_true]; rw [vals_len])
  have HLT : Hid (∀ b ∈ [1] ++ ([ls.length] ++ lsB (vals ls)), b < 256) := Lib.hid (by
    have := pfB_lt (p := ⟨false, vals ls⟩) hyes
    unfold pfB at this; simp only [if_false, Bool.false_eq_true] at this; rwa [vals_len] at this)
  rw [HE.out]
  have hn2 : ls.length ≤ 2 := by have := hyes.1; rwa [vals_len] at this
  have hp16 : ∀ x ∈ ls, x.l.p.length ≤ 1000 := fun x hx => by have := (hyes.2 x.l (List.mem_map_of_mem hx)).n; omega
  have hb0 := Kq.below_alloc w (.cells #[.bool false, .slice A ls.length cap] 102)
  have HM := Lib.hid (pf_may S A cap ls _ (hA.below hb0) (by omega) hp16)
  have HN : Hid (mayB (vals ls) = true) := Lib.hid (mayB_yes hyes)
  have HB := Lib.hid (And.intro hb0 (And.intro (hA.below hb0) (Kq.blk_new w #[.bool false, .slice A ls.length cap] 102 (0, 0))))
  have HY := Lib.hid hyes
  have H2N := Lib.hid hn2
  clear hA hyes hb0 hp16
  clear HE
  go_enter Tryz.func52, Tryz.ntmps52
  go_wp2_with fail
  refine HM.out.mono ?_
  rintro x w2 ⟨rfl, b2⟩
  rw [HN.out]
  have H2 : Hid (Below w.heap.size w w2 ∧ LfsN w2 S A ls ∧ w2.heap[w.heap.size]? = some (.cells #[.bool false, .slice A ls.length cap] 102 (0, 0)) ∧ w.heap.size < w2.heap.size) := Lib.hid ⟨HB.out.1.trans (b2.mono HB.out.1.size), HB.out.2.1.below b2, Kq.below_blk b2 HB.out.2.2 (Kq.blk_lt HB.out.2.2), Nat.lt_of_lt_of_le (Kq.blk_lt HB.out.2.2) b2.size⟩
  clear b2 HM HB
  have HW : Hid (ByMid w2 [] (w2.alloc (.cells #[.int .i64 0, .slice none 0 0] 159))) := Lib.hid ⟨_, WrMid.start (wr_new w2)⟩
  have HX : Hid (∀ wr l, ByMid w2 l wr → wr.cell? ⟨w.heap.size, 0, none⟩ = some (.bool false) ∧ wr.cell? ⟨w.heap.size, 1, none⟩ = some (.slice A ls.length cap)) := Lib.hid (fun wr l h => by
    have hb := Kq.below_blk h.below H2.out.2.2.1 H2.out.2.2.2
    exact ⟨Kq.blk_cell hb 0, Kq.blk_cell hb 1⟩)
  have HP1 : Hid (Calls Tryz.prog 92 #[.pointer (some ⟨w2.heap.size, 0, none⟩), .int .i64 1] (w2.alloc (.cells #[.int .i64 0, .slice none 0 0] 159)) (ByPost w2 ([] ++ [1]))) := Lib.hid (by_byte HW.out 1 (by decide) (by simp))
  rw [List.nil_append] at HP1
  have c0 := (HX.out _ _ HW.out).1
  have c1 := (HX.out _ _ HW.out).2
  obtain ⟨pre, hpre⟩ : ∃ pre, pre = [1] := ⟨_, rfl⟩
  have HPL : Hid (pre.length = 1) := Lib.hid (by rw [hpre]; rfl)
  rw [← hpre] at HP1 HLT
  have HPRE := Lib.hid hpre
  clear hpre
  go_wp2_with fail
  refine HP1.out.mono ?_
  rintro x w3 ⟨rfl, H3⟩
  have H3 := Lib.hid H3
  clear c0 c1 HP1
  have c0 := (HX.out _ _ H3.out).1
  have c1 := (HX.out _ _ H3.out).2
  go_wp2_with fail
  refine (by_byte H3.out ls.length (by omega) (by have := HPL.out; omega)).mono ?_
  rintro x w4 ⟨rfl, H4⟩
  have H4 := Lib.hid H4
  clear c0 c1 H3
  have c0 := (HX.out _ _ H4.out).1
  have c1 := (HX.out _ _ H4.out).2
  go_wp2
  clear c0 c1
  go_loopw [24] (fun i wr => ∃ j : Nat, j ≤ ls.length ∧ i = .int .i64 (j : Int) ∧ ByMid w2 (pre ++ ([ls.length] ++ lsB ((vals ls).take j))) wr) (fun i _ => ls.length - (intOf i).toNat)
  case atStart => exact ⟨0, by omega, rfl, by simpa [lsB, List.append_assoc] using H4.out⟩
  case round =>
    obtain ⟨j, hj, rfl, hmid⟩ := hrel
    have HMID := Lib.hid hmid
    have hn2 := H2N.out
    clear hmid
    by_cases hlt : j < ls.length
    · obtain ⟨b, off, rfl, -, hb, hc, ht, -⟩ := (H2.out.2.1.below HMID.out.below) j hlt
      have hv : j < (vals ls).length := by rw [vals_len]; exact hlt
      have hmay : LfMay ls[j].l := HY.out.2 _ (vals_mem hlt)
      have HLB : Hid ((pre ++ ([ls.length] ++ lsB ((vals ls).take j))).length ≤ 10000) := Lib.hid (by
        have h1 := lsB_len ((vals ls).take j) (fun x hx => HY.out.2 x (List.mem_of_mem_take hx))
        have h2 : ((vals ls).take j).length ≤ 2 := by rw [List.length_take, vals_len]; omega
        have h3 := HPL.out
        simp only [List.length_append, List.length_cons, List.length_nil]; omega)
      have HTK : Hid (lsB ((vals ls).take (j + 1)) = lsB ((vals ls).take j) ++ lfB ls[j].l) := Lib.hid (by rw [lsB_take _ _ hv]; simp [vals])
      obtain ⟨b', off', he', -, -, -, ht2, -⟩ := H2.out.2.1 j hlt
      clear he'
      obtain ⟨x, hx⟩ : ∃ x, x = ls[j] := ⟨_, rfl⟩
      rw [← hx] at hc ht hmay HTK ht2
      have HLT2 := Lib.hid hlt
      have hi0 : (j : Int) < (ls.length : Int) := by omega
      clear hb hx hv
      obtain ⟨⟨i, c, k, v, p⟩, a, cp⟩ := x
      obtain ⟨c0, c1, c2, c3, c4⟩ := hc
      simp only at c0 c1 c2 c3 c4 ht hmay HTK ht2
      have HT2 := Lib.hid ht2
      clear ht2
      have HMAY := Lib.hid hmay
      obtain ⟨iN, rfl⟩ := Int.eq_ofNat_of_zero_le hmay.i0
      obtain ⟨cN, rfl⟩ := Int.eq_ofNat_of_zero_le hmay.c0
      have hiN : iN ≤ 4096 := by have := hmay.i1; simp only at this; omega
      have hcN : cN ≤ 4096 := by have := hmay.c1; simp only at this; omega
      have hpn : p.length ≤ 16 := hmay.n
      have hks : k.size ≤ 16 := hmay.k
      have hvs : v.size ≤ 64 := hmay.v
      have hw1 : IntKind.u64.wrap (iN : Int) = (iN : Int) := IntWalk.u64_in _ (by omega)
      have hw2 : IntKind.u64.wrap (cN : Int) = (cN : Int) := IntWalk.u64_in _ (by omega)
      obtain ⟨L0, hL0⟩ : ∃ L0, L0 = pre ++ ([ls.length] ++ lsB ((vals ls).take j)) := ⟨_, rfl⟩
      rw [← hL0] at HMID HLB
      have HL0 := Lib.hid hL0
      have hL := HLB.out
      have HBX := Lib.hid (HMID.out.box #[.int .i64 (iN : Int), .int .i64 (cN : Int), .string k, .string v, .slice a p.length cp] 108)
      clear hmay ht hL0
      go_wp2_with fail
      refine (bx_number HBX.out iN (by unfold M64; omega) (by omega)).mono ?_
      rintro x w5 ⟨rfl, H5⟩
      have H5 := Lib.hid H5
      clear c0 c1 c2 c3 c4 HBX
      have c0 := Kq.blk_cell H5.out.blk 0
      have c1 := Kq.blk_cell H5.out.blk 1
      have c2 := Kq.blk_cell H5.out.blk 2
      have c3 := Kq.blk_cell H5.out.blk 3
      have c4 := Kq.blk_cell H5.out.blk 4
      simp only [List.getElem?_toArray, List.getElem?_cons_zero, List.getElem?_cons_succ] at c0 c1 c2 c3 c4
      go_wp2_with fail
      refine (bx_number H5.out cN (by unfold M64; omega) (by simp only [List.length_append, num8_length]; omega)).mono ?_
      rintro x w6 ⟨rfl, H6⟩
      have H6 := Lib.hid H6
      clear c0 c1 c2 c3 c4 H5
      have c2 := Kq.blk_cell H6.out.blk 2
      have c3 := Kq.blk_cell H6.out.blk 3
      have c4 := Kq.blk_cell H6.out.blk 4
      simp only [List.getElem?_toArray, List.getElem?_cons_zero, List.getElem?_cons_succ] at c2 c3 c4
      go_wp2_with fail
      refine (bx_text H6.out k (by omega) (by simp only [List.length_append, num8_length]; omega)).mono ?_
      rintro x w7 ⟨rfl, H7⟩
      have H7 := Lib.hid H7
      clear c2 c3 c4 H6
      have c3 := Kq.blk_cell H7.out.blk 3
      have c4 := Kq.blk_cell H7.out.blk 4
      simp only [List.getElem?_toArray, List.getElem?_cons_zero, List.getElem?_cons_succ] at c3 c4
      go_wp2_with fail
      refine (bx_text H7.out v (by omega) (by simp only [List.length_append, num8_length, tx2, nl_length, List.length_cons, List.length_nil]; omega)).mono ?_
      rintro x w8 ⟨rfl, H8⟩
      have H8 := Lib.hid H8
      clear c3 c4 H7
      have c4 := Kq.blk_cell H8.out.blk 4
      simp only [List.getElem?_toArray, List.getElem?_cons_zero, List.getElem?_cons_succ] at c4
      go_wp2_with fail
      refine (bx_byte H8.out p.length (by omega) (by simp only [List.length_append, num8_length, tx2, nl_length, List.length_cons, List.length_nil]; omega)).mono ?_
      rintro x w9 ⟨rfl, H9⟩
      have H9 := Lib.hid H9
      clear c4 H8
      have c4 := Kq.blk_cell H9.out.blk 4
      simp only [List.getElem?_toArray, List.getElem?_cons_zero, List.getElem?_cons_succ] at c4
      obtain ⟨L1, hL1⟩ : ∃ L1, L1 = L0 ++ num8 iN ++ num8 cN ++ tx2 k ++ tx2 v ++ [p.length] := ⟨_, rfl⟩
      rw [← hL1] at H9
      have HL1 : Hid (L1.length ≤ 10200 ∧ L1 ++ rawL p = L0 ++ lfB ⟨(iN : Int), (cN : Int), k, v, p⟩) := Lib.hid ⟨by rw [hL1]; simp only [List.length_append, num8_length, tx2, nl_length, List.length_cons, List.length_nil]; omega, by rw [hL1]; unfold lfB; simp only [Int.toNat_natCast, List.append_assoc]⟩
      clear hL1
      go_wp2
      clear c4
      go_loopw [51] (fun u wr => ∃ m : Nat, m ≤ p.length ∧ u = .int .i64 (m : Int) ∧ ByMid w2 (L1 ++ rawL (p.take m)) wr) (fun u _ => p.length - (intOf u).toNat)
      case atStart => exact ⟨0, by omega, rfl, by simpa [rawL] using H9.out.mid⟩
      case round =>
        obtain ⟨m, hm, rfl, hmid⟩ := hrel
        have HMID2 := Lib.hid hmid
        clear hmid
        by_cases hlt2 : m < p.length
        · obtain ⟨g, o, rfl, -, hg, cm⟩ := HT2.out m hlt2
          have cm' := (HMID2.out.below.cell (p := ⟨g, o + m, none⟩) hg).trans cm
          clear cm hg
          have HRL : Hid (L1 ++ rawL (p.take (m + 1)) = (L1 ++ rawL (p.take m)) ++ nl p[m]) := Lib.hid (by rw [rawL_take p m hlt2, List.append_assoc])
          have HLL : Hid ((L1 ++ rawL (p.take m)).length + p[m].size ≤ 1000000) := Lib.hid (by
            have h1 := HL1.out.1
            have h2 := rawL_len (p.take m) (fun d hd => HMAY.out.d d (List.mem_of_mem_take hd))
            have h3 := HMAY.out.d p[m] (List.getElem_mem _)
            rw [List.length_take] at h2
            rw [List.length_append]; omega)
          obtain ⟨d, hd⟩ : ∃ d, d = p[m] := ⟨_, rfl⟩
          rw [← hd] at cm' HRL HLL
          clear hd
          have hi1 : (m : Int) < (p.length : Int) := by omega
          have HLT3 := Lib.hid hlt2
          obtain ⟨L2, hL2⟩ : ∃ L2, L2 = L1 ++ rawL (p.take m) := ⟨_, rfl⟩
          rw [← hL2] at HMID2 HRL HLL
          clear hL2
          go_wp2_with fail
          refine (by_raw HMID2.out d HLL.out).mono ?_
          rintro x w10 ⟨rfl, H10⟩
          have H10 := Lib.hid H10
          go_wp2
          go_roundw
          case rel => exact ⟨m + 1, HLT3.out, by go_num, by rw [HRL.out]; exact H10.out⟩
          case measure => have := HLT3.out; simp [intOf]; omega
        · obtain rfl : m = p.length := by omega
          have HEND : Hid (ByMid w2 (pre ++ ([ls.length] ++ lsB ((vals ls).take (j + 1)))) wr) := Lib.hid (by
            have := HMID2.out
            rw [List.take_length, HL1.out.2, HL0.out] at this
            rw [HTK.out]
            simpa [List.append_assoc] using this)
          go_wp2
          go_roundw
          case rel => exact ⟨j + 1, HLT2.out, by go_num, HEND.out⟩
          case measure => have := HLT2.out; simp [intOf]; omega
    · obtain rfl : j = ls.length := by omega
      have HML := Lib.hid HMID.out
      have HTA : Hid ((vals ls).take ls.length = vals ls) := Lib.hid (by rw [← vals_len, List.take_length])
      rw [HTA.out] at HMID
      clear HML
      go_wp2_with fail
      refine (by_bytes HMID.out HLT.out).mono ?_
      rintro x w5 ⟨rfl, rfl⟩
      have H5 : Hid (Below w.heap.size w wr) := Lib.hid (H2.out.1.trans (HMID.out.below.mono H2.out.1.size))
      go_wp2
      go_ret2
      exact ⟨by rw [HPRE.out]; rfl, H5.out⟩
set_option maxRecDepth 100000 in
set_option maxHeartbeats 4000000 in
theorem pf_bytes_yes_t (S : Nat → Prop) (A : Option Addr) (cap : Nat) (ls : List LfW) (w : World) (hA : LfsN w S A ls) (hyes : (vals ls).length ≤ 2 ∧ ∀ l ∈ vals ls, LfMay l) :
    Calls Tryz.prog 52 #[.agg #[.bool true, .slice A ls.length cap]] w (BsPost w (pfBytes ⟨true, vals ls⟩)) := by
  have HE : Hid (pfBytes ⟨true, vals ls⟩ = (txt ([2] ++ ([ls.length] ++ lsB (vals ls))), 0)) := Lib.hid (by
    rw [pfBytes_yes (p := ⟨true, vals ls⟩) hyes]; unfold pfB; simp only [if_true]; rw [vals_len])
  have HLT : Hid (∀ b ∈ [2] ++ ([ls.length] ++ lsB (vals ls)), b < 256) := Lib.hid (by
    have := pfB_lt (p := ⟨true, vals ls⟩) hyes
    unfold pfB at this; simp only [if_true] at this; rwa [vals_len] at this)
  rw [HE.out]
  have hn2 : ls.length ≤ 2 := by have := hyes.1; rwa [vals_len] at this
  have hp16 : ∀ x ∈ ls, x.l.p.length ≤ 1000 := fun x hx => by have := (hyes.2 x.l (List.mem_map_of_mem hx)).n; omega
  have hb0 := Kq.below_alloc w (.cells #[.bool true, .slice A ls.length cap] 102)
  have HM := Lib.hid (pf_may S A cap ls _ (hA.below hb0) (by omega) hp16)
  have HN : Hid (mayB (vals ls) = true) := Lib.hid (mayB_yes hyes)
  have HB := Lib.hid (And.intro hb0 (And.intro (hA.below hb0) (Kq.blk_new w #[.bool true, .slice A ls.length cap] 102 (0, 0))))
  have HY := Lib.hid hyes
  have H2N := Lib.hid hn2
  clear hA hyes hb0 hp16
  clear HE
  go_enter Tryz.func52, Tryz.ntmps52
  go_wp2_with fail
  refine HM.out.mono ?_
  rintro x w2 ⟨rfl, b2⟩
  rw [HN.out]
  have H2 : Hid (Below w.heap.size w w2 ∧ LfsN w2 S A ls ∧ w2.heap[w.heap.size]? = some (.cells #[.bool true, .slice A ls.length cap] 102 (0, 0)) ∧ w.heap.size < w2.heap.size) := Lib.hid ⟨HB.out.1.trans (b2.mono HB.out.1.size), HB.out.2.1.below b2, Kq.below_blk b2 HB.out.2.2 (Kq.blk_lt HB.out.2.2), Nat.lt_of_lt_of_le (Kq.blk_lt HB.out.2.2) b2.size⟩
  clear b2 HM HB
  have HW : Hid (ByMid w2 [] (w2.alloc (.cells #[.int .i64 0, .slice none 0 0] 159))) := Lib.hid ⟨_, WrMid.start (wr_new w2)⟩
  have HX : Hid (∀ wr l, ByMid w2 l wr → wr.cell? ⟨w.heap.size, 0, none⟩ = some (.bool true) ∧ wr.cell? ⟨w.heap.size, 1, none⟩ = some (.slice A ls.length cap)) := Lib.hid (fun wr l h => by
    have hb := Kq.below_blk h.below H2.out.2.2.1 H2.out.2.2.2
    exact ⟨Kq.blk_cell hb 0, Kq.blk_cell hb 1⟩)
  have HP1 : Hid (Calls Tryz.prog 92 #[.pointer (some ⟨w2.heap.size, 0, none⟩), .int .i64 2] (w2.alloc (.cells #[.int .i64 0, .slice none 0 0] 159)) (ByPost w2 ([] ++ [2]))) := Lib.hid (by_byte HW.out 2 (by decide) (by simp))
  rw [List.nil_append] at HP1
  have c0 := (HX.out _ _ HW.out).1
  have c1 := (HX.out _ _ HW.out).2
  obtain ⟨pre, hpre⟩ : ∃ pre, pre = [2] := ⟨_, rfl⟩
  have HPL : Hid (pre.length = 1) := Lib.hid (by rw [hpre]; rfl)
  rw [← hpre] at HP1 HLT
  have HPRE := Lib.hid hpre
  clear hpre
  go_wp2_with fail
  refine HP1.out.mono ?_
  rintro x w3 ⟨rfl, H3⟩
  have H3 := Lib.hid H3
  clear c0 c1 HP1
  have c0 := (HX.out _ _ H3.out).1
  have c1 := (HX.out _ _ H3.out).2
  go_wp2_with fail
  refine (by_byte H3.out ls.length (by omega) (by have := HPL.out; omega)).mono ?_
  rintro x w4 ⟨rfl, H4⟩
  have H4 := Lib.hid H4
  clear c0 c1 H3
  have c0 := (HX.out _ _ H4.out).1
  have c1 := (HX.out _ _ H4.out).2
  go_wp2
  clear c0 c1
  go_loopw [24] (fun i wr => ∃ j : Nat, j ≤ ls.length ∧ i = .int .i64 (j : Int) ∧ ByMid w2 (pre ++ ([ls.length] ++ lsB ((vals ls).take j))) wr) (fun i _ => ls.length - (intOf i).toNat)
  case atStart => exact ⟨0, by omega, rfl, by simpa [lsB, List.append_assoc] using H4.out⟩
  case round =>
    obtain ⟨j, hj, rfl, hmid⟩ := hrel
    have HMID := Lib.hid hmid
    have hn2 := H2N.out
    clear hmid
    by_cases hlt : j < ls.length
    · obtain ⟨b, off, rfl, -, hb, hc, ht, -⟩ := (H2.out.2.1.below HMID.out.below) j hlt
      have hv : j < (vals ls).length := by rw [vals_len]; exact hlt
      have hmay : LfMay ls[j].l := HY.out.2 _ (vals_mem hlt)
      have HLB : Hid ((pre ++ ([ls.length] ++ lsB ((vals ls).take j))).length ≤ 10000) := Lib.hid (by
        have h1 := lsB_len ((vals ls).take j) (fun x hx => HY.out.2 x (List.mem_of_mem_take hx))
        have h2 : ((vals ls).take j).length ≤ 2 := by rw [List.length_take, vals_len]; omega
        have h3 := HPL.out
        simp only [List.length_append, List.length_cons, List.length_nil]; omega)
      have HTK : Hid (lsB ((vals ls).take (j + 1)) = lsB ((vals ls).take j) ++ lfB ls[j].l) := Lib.hid (by rw [lsB_take _ _ hv]; simp [vals])
      obtain ⟨b', off', he', -, -, -, ht2, -⟩ := H2.out.2.1 j hlt
      clear he'
      obtain ⟨x, hx⟩ : ∃ x, x = ls[j] := ⟨_, rfl⟩
      rw [← hx] at hc ht hmay HTK ht2
      have HLT2 := Lib.hid hlt
      have hi0 : (j : Int) < (ls.length : Int) := by omega
      clear hb hx hv
      obtain ⟨⟨i, c, k, v, p⟩, a, cp⟩ := x
      obtain ⟨c0, c1, c2, c3, c4⟩ := hc
      simp only at c0 c1 c2 c3 c4 ht hmay HTK ht2
      have HT2 := Lib.hid ht2
      clear ht2
      have HMAY := Lib.hid hmay
      obtain ⟨iN, rfl⟩ := Int.eq_ofNat_of_zero_le hmay.i0
      obtain ⟨cN, rfl⟩ := Int.eq_ofNat_of_zero_le hmay.c0
      have hiN : iN ≤ 4096 := by have := hmay.i1; simp only at this; omega
      have hcN : cN ≤ 4096 := by have := hmay.c1; simp only at this; omega
      have hpn : p.length ≤ 16 := hmay.n
      have hks : k.size ≤ 16 := hmay.k
      have hvs : v.size ≤ 64 := hmay.v
      have hw1 : IntKind.u64.wrap (iN : Int) = (iN : Int) := IntWalk.u64_in _ (by omega)
      have hw2 : IntKind.u64.wrap (cN : Int) = (cN : Int) := IntWalk.u64_in _ (by omega)
      obtain ⟨L0, hL0⟩ : ∃ L0, L0 = pre ++ ([ls.length] ++ lsB ((vals ls).take j)) := ⟨_, rfl⟩
      rw [← hL0] at HMID HLB
      have HL0 := Lib.hid hL0
      have hL := HLB.out
      have HBX := Lib.hid (HMID.out.box #[.int .i64 (iN : Int), .int .i64 (cN : Int), .string k, .string v, .slice a p.length cp] 108)
      clear hmay ht hL0
      go_wp2_with fail
      refine (bx_number HBX.out iN (by unfold M64; omega) (by omega)).mono ?_
      rintro x w5 ⟨rfl, H5⟩
      have H5 := Lib.hid H5
      clear c0 c1 c2 c3 c4 HBX
      have c0 := Kq.blk_cell H5.out.blk 0
      have c1 := Kq.blk_cell H5.out.blk 1
      have c2 := Kq.blk_cell H5.out.blk 2
      have c3 := Kq.blk_cell H5.out.blk 3
      have c4 := Kq.blk_cell H5.out.blk 4
      simp only [List.getElem?_toArray, List.getElem?_cons_zero, List.getElem?_cons_succ] at c0 c1 c2 c3 c4
      go_wp2_with fail
      refine (bx_number H5.out cN (by unfold M64; omega) (by simp only [List.length_append, num8_length]; omega)).mono ?_
      rintro x w6 ⟨rfl, H6⟩
      have H6 := Lib.hid H6
      clear c0 c1 c2 c3 c4 H5
      have c2 := Kq.blk_cell H6.out.blk 2
      have c3 := Kq.blk_cell H6.out.blk 3
      have c4 := Kq.blk_cell H6.out.blk 4
      simp only [List.getElem?_toArray, List.getElem?_cons_zero, List.getElem?_cons_succ] at c2 c3 c4
      go_wp2_with fail
      refine (bx_text H6.out k (by omega) (by simp only [List.length_append, num8_length]; omega)).mono ?_
      rintro x w7 ⟨rfl, H7⟩
      have H7 := Lib.hid H7
      clear c2 c3 c4 H6
      have c3 := Kq.blk_cell H7.out.blk 3
      have c4 := Kq.blk_cell H7.out.blk 4
      simp only [List.getElem?_toArray, List.getElem?_cons_zero, List.getElem?_cons_succ] at c3 c4
      go_wp2_with fail
      refine (bx_text H7.out v (by omega) (by simp only [List.length_append, num8_length, tx2, nl_length, List.length_cons, List.length_nil]; omega)).mono ?_
      rintro x w8 ⟨rfl, H8⟩
      have H8 := Lib.hid H8
      clear c3 c4 H7
      have c4 := Kq.blk_cell H8.out.blk 4
      simp only [List.getElem?_toArray, List.getElem?_cons_zero, List.getElem?_cons_succ] at c4
      go_wp2_with fail
      refine (bx_byte H8.out p.length (by omega) (by simp only [List.length_append, num8_length, tx2, nl_length, List.length_cons, List.length_nil]; omega)).mono ?_
      rintro x w9 ⟨rfl, H9⟩
      have H9 := Lib.hid H9
      clear c4 H8
      have c4 := Kq.blk_cell H9.out.blk 4
      simp only [List.getElem?_toArray, List.getElem?_cons_zero, List.getElem?_cons_succ] at c4
      obtain ⟨L1, hL1⟩ : ∃ L1, L1 = L0 ++ num8 iN ++ num8 cN ++ tx2 k ++ tx2 v ++ [p.length] := ⟨_, rfl⟩
      rw [← hL1] at H9
      have HL1 : Hid (L1.length ≤ 10200 ∧ L1 ++ rawL p = L0 ++ lfB ⟨(iN : Int), (cN : Int), k, v, p⟩) := Lib.hid ⟨by rw [hL1]; simp only [List.length_append, num8_length, tx2, nl_length, List.length_cons, List.length_nil]; omega, by rw [hL1]; unfold lfB; simp only [Int.toNat_natCast, List.append_assoc]⟩
      clear hL1
      go_wp2
      clear c4
      go_loopw [51] (fun u wr => ∃ m : Nat, m ≤ p.length ∧ u = .int .i64 (m : Int) ∧ ByMid w2 (L1 ++ rawL (p.take m)) wr) (fun u _ => p.length - (intOf u).toNat)
      case atStart => exact ⟨0, by omega, rfl, by simpa [rawL] using H9.out.mid⟩
      case round =>
        obtain ⟨m, hm, rfl, hmid⟩ := hrel
        have HMID2 := Lib.hid hmid
        clear hmid
        by_cases hlt2 : m < p.length
        · obtain ⟨g, o, rfl, -, hg, cm⟩ := HT2.out m hlt2
          have cm' := (HMID2.out.below.cell (p := ⟨g, o + m, none⟩) hg).trans cm
          clear cm hg
          have HRL : Hid (L1 ++ rawL (p.take (m + 1)) = (L1 ++ rawL (p.take m)) ++ nl p[m]) := Lib.hid (by rw [rawL_take p m hlt2, List.append_assoc])
          have HLL : Hid ((L1 ++ rawL (p.take m)).length + p[m].size ≤ 1000000) := Lib.hid (by
            have h1 := HL1.out.1
            have h2 := rawL_len (p.take m) (fun d hd => HMAY.out.d d (List.mem_of_mem_take hd))
            have h3 := HMAY.out.d p[m] (List.getElem_mem _)
            rw [List.length_take] at h2
            rw [List.length_append]; omega)
          obtain ⟨d, hd⟩ : ∃ d, d = p[m] := ⟨_, rfl⟩
          rw [← hd] at cm' HRL HLL
          clear hd
          have hi1 : (m : Int) < (p.length : Int) := by omega
          have HLT3 := Lib.hid hlt2
          obtain ⟨L2, hL2⟩ : ∃ L2, L2 = L1 ++ rawL (p.take m) := ⟨_, rfl⟩
          rw [← hL2] at HMID2 HRL HLL
          clear hL2
          go_wp2_with fail
          refine (by_raw HMID2.out d HLL.out).mono ?_
          rintro x w10 ⟨rfl, H10⟩
          have H10 := Lib.hid H10
          go_wp2
          go_roundw
          case rel => exact ⟨m + 1, HLT3.out, by go_num, by rw [HRL.out]; exact H10.out⟩
          case measure => have := HLT3.out; simp [intOf]; omega
        · obtain rfl : m = p.length := by omega
          have HEND : Hid (ByMid w2 (pre ++ ([ls.length] ++ lsB ((vals ls).take (j + 1)))) wr) := Lib.hid (by
            have := HMID2.out
            rw [List.take_length, HL1.out.2, HL0.out] at this
            rw [HTK.out]
            simpa [List.append_assoc] using this)
          go_wp2
          go_roundw
          case rel => exact ⟨j + 1, HLT2.out, by go_num, HEND.out⟩
          case measure => have := HLT2.out; simp [intOf]; omega
    · obtain rfl : j = ls.length := by omega
      have HML := Lib.hid HMID.out
      have HTA : Hid ((vals ls).take ls.length = vals ls) := Lib.hid (by rw [← vals_len, List.take_length])
      rw [HTA.out] at HMID
      clear HML
      go_wp2_with fail
      refine (by_bytes HMID.out HLT.out).mono ?_
      rintro x w5 ⟨rfl, rfl⟩
      have H5 : Hid (Below w.heap.size w wr) := Lib.hid (H2.out.1.trans (HMID.out.below.mono H2.out.1.size))
      go_wp2
      go_ret2
      exact ⟨by rw [HPRE.out]; rfl, H5.out⟩
theorem pf_bytes (S : Nat → Prop) (ab : Bool) (A : Option Addr) (cap : Nat) (ls : List LfW) (w : World) (hA : LfsN w S A ls) (hn : ls.length ≤ 1000) (hp : ∀ x ∈ ls, x.l.p.length ≤ 1000) :
    Calls Tryz.prog 52 #[.agg #[.bool ab, .slice A ls.length cap]] w (BsPost w (pfBytes ⟨ab, vals ls⟩)) := by
  by_cases h : (vals ls).length ≤ 2 ∧ ∀ l ∈ vals ls, LfMay l
  · cases ab
    · exact pf_bytes_yes_f S A cap ls w hA h
    · exact pf_bytes_yes_t S A cap ls w hA h
  · exact pf_bytes_no S ab A cap ls w hA hn hp h
end Go.Proofs.YtbjchfcoacmaaaaGreatDoor
namespace Go.Proofs.YtbjchfcoacmaaaaGreatDoor
open Go.RowKit
set_option linter.unusedVariables false
/-- a proof's block -/
structure PBk (w : World) (X : Nat) (ab : Bool) (P : Value) : Prop where
  blk : w.heap[X]? = some (.cells #[.bool ab, P] 102 (0, 0))
section
variable {w : World} {X : Nat} {ab : Bool} {P : Value} (h : PBk w X ab P)
include h
theorem PBk.c0 : w.cell? ⟨X, 0, none⟩ = some (.bool ab) := Kq.blk_cell h.blk 0
theorem PBk.c1 : w.cell? ⟨X, 1, none⟩ = some P := Kq.blk_cell h.blk 1
theorem PBk.fz (j : Nat) : w.frozen? ⟨X, j, none⟩ = false := Kq.blk_free h.blk j
theorem PBk.s0 (x : Bool) : PBk (w.setCell ⟨X, 0, none⟩ (.bool x)) X x P := ⟨Kq.blk_set h.blk 0 _⟩
theorem PBk.s1 (x : Value) : PBk (w.setCell ⟨X, 1, none⟩ x) X ab x := ⟨Kq.blk_set h.blk 1 _⟩
theorem PBk.later {S : Nat → Prop} {w' : World} (hk : Kq.Keeps S w w') (hS : ¬ S X) : PBk w' X ab P := ⟨hk.blk h.blk hS⟩
theorem PBk.below {w' : World} (hb : Below w.heap.size w w') : PBk w' X ab P := ⟨Kq.below_blk hb h.blk (Kq.blk_lt h.blk)⟩
theorem PBk.lt : X < w.heap.size := Kq.blk_lt h.blk
end
def filled2 (w : World) (R : Nat) (ab : Bool) (P : Value) : World := (w.setCell ⟨R, 0, none⟩ (.bool ab)).setCell ⟨R, 1, none⟩ P
theorem filled2_keeps (w : World) (R : Nat) (ab : Bool) (P : Value) : Kq.Keeps (· = R) w (filled2 w R ab P) := by
  unfold filled2
  have k1 := Kq.Keeps.setCell (S := (· = R)) w ⟨R, 0, none⟩ (.bool ab) rfl
  have k2 := Kq.Keeps.setCell (S := (· = R)) (w.setCell ⟨R, 0, none⟩ (.bool ab)) ⟨R, 1, none⟩ P rfl
  exact k1.trans k2
theorem PBk.fill {w : World} {R : Nat} {a0 : Bool} {P0 : Value} (h : PBk w R a0 P0) (ab : Bool) (P : Value) : PBk (filled2 w R ab P) R ab P := (h.s0 ab).s1 P
theorem infoLf : (Tryz.prog.info? 108).map (fun i => (i.zero, i.size, i.bytes)) = some (some (.agg #[.int .i64 0, .int .i64 0, .string ⟨#[]⟩, .string ⟨#[]⟩, .slice none 0 0]), 5, 72) := by kernel_rfl
/-- in the midst of Parse: leaves that were read -/
structure Ps (C : Prop) (w : World) (B R X : Nat) (l : List Nat) (ab : Bool) (a : Option Addr) (q cp : Nat) (ls : List LfW) (w' : World) : Prop where
  rd : RdC C w' B l
  rb : PBk w' R false (.slice none 0 0)
  pb : PBk w' X ab (.slice a q cp)
  ne : w.heap.size ≤ B
  ne2 : w.heap.size ≤ R
  ne3 : R ≠ X ∧ B ≠ X ∧ B ≠ R ∧ B < X ∧ R < X
  bel : Below w.heap.size w w'
  own : w'.ownsRow (X + 1) 108 5 (.slice a q cp) ls.length (LfE.flat ls)
  sz : X + 1 ≤ w'.heap.size
  pa : ∀ x ∈ ls, TxN w' (fun k => k < X + 1 ∨ some k = (Value.slice a q cp).ownBlock) x.a x.l.p ∧ x.l.p.length ≤ x.cap ∧ x.l.p.length ≤ 300
theorem below_far {W : Nat} {a b d : World} {T : Nat → Prop} (h : Below W a b) (hk : Kq.Keeps T b d) (hW : W ≤ a.heap.size) (hT : ∀ k, k < b.heap.size → T k → W ≤ k) : Below W a d :=
  h.trans (hk.below (Nat.le_trans hW h.size) hT)
section
variable {C : Prop} {w w1 w' : World} {B R X : Nat} {l l' : List Nat} {ab : Bool} {a : Option Addr} {q cp : Nat} {ls : List LfW}
theorem Ps.cast (h : Ps C w B R X l ab a q cp ls w1) (hl : C → l = l') : Ps C w B R X l' ab a q cp ls w1 := ⟨h.rd.cast hl, h.rb, h.pb, h.ne, h.ne2, h.ne3, h.bel, h.own, h.sz, h.pa⟩
theorem Ps.read (h : Ps C w B R X l ab a q cp ls w1) (hr : RdC C w' B l') (hk : Kq.Keeps (· = B) w1 w') : Ps C w B R X l' ab a q cp ls w' :=
  ⟨hr, h.rb.later hk (fun e => h.ne3.2.2.1 e.symm), h.pb.later hk (fun e => h.ne3.2.1 e.symm), h.ne, h.ne2, h.ne3, below_far h.bel hk (Nat.le_refl _) (fun k _ e => by have := h.ne; omega), own_keeps h.own hk (fun k e => by have := h.ne3; omega), Nat.le_trans h.sz hk.size, fun x hx => ⟨(h.pa x hx).1.keeps hk (fun k _ e => Or.inl (by have := h.ne3; omega)), (h.pa x hx).2⟩⟩
theorem Ps.below (h : Ps C w B R X l ab a q cp ls w1) (hb : Below w1.heap.size w1 w') : Ps C w B R X l ab a q cp ls w' :=
  ⟨h.rd.below hb, h.rb.below hb, h.pb.below hb, h.ne, h.ne2, h.ne3, h.bel.trans (hb.mono h.bel.size), own_belowB h.own hb, Nat.le_trans h.sz hb.size, fun x hx => ⟨(h.pa x hx).1.below hb, (h.pa x hx).2⟩⟩
theorem Ps.start {w2 : World} (hr : RdC C w2 B l) (hb : PBk w2 R false (.slice none 0 0)) (h1 : w.heap.size ≤ B) (h2 : w.heap.size ≤ R) (h3 : B ≠ R) (hw : Below w.heap.size w w2) : Ps C w B R w2.heap.size l ab none 0 0 [] (w2.alloc (.cells #[.bool ab, .slice none 0 0] 102)) := by
  have b1 := Kq.below_alloc w2 (.cells #[.bool ab, .slice none 0 0] 102)
  have e1 := hr.lt
  have e2 := hb.lt
  exact ⟨hr.below b1, hb.below b1, ⟨Kq.blk_new _ _ _ _⟩, h1, h2, by omega, hw.trans (b1.mono hw.size), ⟨rfl, Or.inl ⟨rfl, rfl⟩⟩, by simp, fun x hx => by cases hx⟩
/-- one leaf more: it was read into z, and appended -/
theorem Ps.snoc {z : LfW} {a' : Option Addr} {q' cp' : Nat} {z1 z3 : World} (h : Ps C w B R X l ab a q cp ls z1) (hz : TxN z1 (fun k => k < X + 1 ∨ some k = (Value.slice a q cp).ownBlock) z.a z.l.p ∧ z.l.p.length ≤ z.cap ∧ z.l.p.length ≤ 300)
    (hk : Kq.Keeps (fun g => some g = (Value.slice a q cp).ownBlock) z1 z3) (hown : z3.ownsRow (X + 1) 108 5 (.slice a' q' cp') (ls ++ [z]).length (LfE.flat (ls ++ [z])))
    (hfr : ∀ k, (Value.slice a' q' cp').ownBlock = some k → some k = (Value.slice a q cp).ownBlock ∨ z1.heap.size ≤ k) :
    Ps C w B R X l ab a' q' cp' (ls ++ [z]) (z3.setCell ⟨X, 1, none⟩ (.slice a' q' cp')) := by
  have hge : ∀ g, some g = (Value.slice a q cp).ownBlock → X + 1 ≤ g := fun g hg => own_geB h.own hg.symm
  have hs : Kq.Keeps (· = X) z3 (z3.setCell ⟨X, 1, none⟩ (.slice a' q' cp')) := Kq.Keeps.setCell _ _ _ rfl
  have h3 := h.ne3
  refine ⟨(h.rd.keeps hk (fun e => by have := hge B e; omega)).keeps hs h3.2.1, (h.rb.later hk (fun e => by have := hge R e; omega)).later hs h3.1, (h.pb.later hk (fun e => by have := hge X e; omega)).s1 _, h.ne, h.ne2, h.ne3, ?_, own_keeps hown hs (fun k e => by omega), ?_, fun x hx => ?_⟩
  · have hWX : w.heap.size ≤ X := by have := h.ne; omega
    exact below_far (below_far h.bel hk (Nat.le_refl _) (fun k _ e => by have := hge k e; omega)) hs (Nat.le_refl _) (fun k _ e => by omega)
  · exact Nat.le_trans h.sz (Nat.le_trans hk.size hs.size)
  · have hx0 : TxN z1 (fun k => k < X + 1 ∨ some k = (Value.slice a q cp).ownBlock) x.a x.l.p ∧ x.l.p.length ≤ x.cap ∧ x.l.p.length ≤ 300 := by
      rcases List.mem_append.1 hx with hx | hx
      · exact h.pa x hx
      · rw [List.mem_singleton] at hx; rw [hx]; exact hz
    refine ⟨?_, hx0.2⟩
    have h4 : TxN z3 (fun k => k < X + 1 ∨ some k = (Value.slice a q cp).ownBlock) x.a x.l.p := hx0.1.keeps hk (fun k _ e => Or.inr e)
    have h5 : TxN z3 (fun k => k < X + 1 ∨ some k = (Value.slice a' q' cp').ownBlock) x.a x.l.p := fun j hj => by
      obtain ⟨g, o, e, e1, e2, e3⟩ := h4 j hj
      obtain ⟨g', o', e', _, e2', _⟩ := hx0.1 j hj
      rw [e] at e'
      simp only [Option.some.injEq, Addr.mk.injEq] at e'
      obtain ⟨rfl, -, -⟩ := e'
      refine ⟨g, o, e, fun hc => ?_, e2, e3⟩
      rcases hc with hc | hc
      · exact e1 (Or.inl hc)
      · rcases hfr g hc.symm with hc | hc
        · exact e1 (Or.inr hc)
        · omega
    exact h5.keeps hs (fun k _ e => Or.inl (by omega))
end
/-- what Parse is told of: the proof whose bytes they are, if there is one -/
def IsPf (s : ByteArray) : Prop := ∃ p, PfMay p ∧ pfB p = nl s
theorem isPf_no {s : ByteArray} (h : ¬ IsPf s) : pfParse s = (⟨false, []⟩, 5) := pfParse_none (fun p hp e => h ⟨p, hp, e⟩)
/-- put again, it is another text -/
theorem again_no {s : ByteArray} {p : PfV} (h : ¬ IsPf s) : ¬ ((pfBytes p).2 = 0 ∧ (pfBytes p).1 = s) := fun ⟨h1, h2⟩ => by
  by_cases hm : PfMay p
  · have e : pfBytes p = (txt (pfB p), 0) := if_pos hm
    rw [e] at h2
    exact h ⟨p, hm, by rw [← h2, nl_txt _ (pfB_lt hm)]⟩
  · have e : pfBytes p = (⟨#[]⟩, 1) := if_neg hm
    rw [e] at h1; cases h1
theorem again_yes {s : ByteArray} {p : PfV} (hm : PfMay p) (h : pfB p = nl s) : pfBytes p = (s, 0) := by
  have e : pfBytes p = (txt (pfB p), 0) := if_pos hm
  rw [e, h]
  congr 1
  apply nl_inj
  rw [nl_txt _ (nl_lt s)]
theorem lsB_drop {C : Prop} (ls : List LfV) (m n : Nat) (h : C → n = ls.length) (hm : m < n) : C → lsB (ls.drop m) = lfB (ls.getD m ⟨0, 0, ⟨#[]⟩, ⟨#[]⟩, []⟩) ++ lsB (ls.drop (m + 1)) := fun c => by
  have hl : m < ls.length := by have := h c; omega
  rw [List.drop_eq_getElem_cons hl, List.getD_eq_getElem?_getD, List.getElem?_eq_getElem hl]
  rfl
theorem Ps.lfs {C : Prop} {w w1 : World} {B R X : Nat} {l : List Nat} {ab : Bool} {a : Option Addr} {q cp : Nat} {ls : List LfW} (h : Ps C w B R X l ab a q cp ls w1) : q = ls.length ∧ ls.length ≤ cp ∧ LfsN w1 (fun k => k < X + 1) a ls := by
  obtain ⟨A, cap, e, hc, hat, hb, _⟩ := Kq.Elt.own_at (E := LfE) (l := ls) h.own
  injection e with e1 e2 e3
  subst e1 e2 e3
  refine ⟨rfl, hc, LfsN.of hat (fun b off e hb' => ?_) (fun x hx => ⟨(h.pa x hx).1.mono (fun k _ hk => Or.inl hk), (h.pa x hx).2.1⟩)⟩
  have := hb b off e
  omega
end Go.Proofs.YtbjchfcoacmaaaaGreatDoor
namespace Go.Proofs.YtbjchfcoacmaaaaGreatDoor
open Go.RowKit
set_option linter.unusedVariables false
theorem PfPost.mk' {w w' : World} {r : PfV × Int} {A : Option Addr} {q cap : Nat} (ls : List LfW) (hq : q = ls.length) (h1 : vals ls = r.1.ls) (h2 : ls.length ≤ cap) (h3 : LfsN w' (fun k => k < w.heap.size) A ls) (h4 : Below w.heap.size w w') {ab : Bool} {e : Int} (hab : ab = r.1.ab) (he : e = r.2) {x : Ending} (hx : x = .returned (.tuple #[.agg #[.bool ab, .slice A q cap], .int .i64 e])) : PfPost w r x w' := by
  subst hq hab he
  exact ⟨A, cap, ls, hx, h1, h2, h3, h4⟩
set_option maxRecDepth 100000 in
set_option maxHeartbeats 4000000 in
theorem pf_parse (s : ByteArray) (w : World) (hs : s.size ≤ 100000) :
    Calls Tryz.prog 53 #[.string s] w (PfPost w (pfParse s)) := by
  obtain ⟨i0, hi0, hz0, hz1, hz2⟩ := info_partsB infoLf
  obtain ⟨C, hC⟩ : ∃ C, C = IsPf s := ⟨_, rfl⟩
  obtain ⟨p0, hp0⟩ : ∃ p0 : PfV, C → PfMay p0 ∧ pfB p0 = nl s := by
    by_cases h : IsPf s
    · obtain ⟨p, hp⟩ := h
      exact ⟨p, fun _ => hp⟩
    · exact ⟨⟨false, []⟩, fun c => by rw [hC] at c; exact absurd c h⟩
  have HC := Lib.hid hC
  have HP := Lib.hid hp0
  have hb0 := Kq.below_alloc w (.cells #[.bool false, .slice none 0 0] 102)
  have HW := Lib.hid (And.intro hb0 (PBk.mk (Kq.blk_new w #[.bool false, .slice none 0 0] 102 (0, 0))))
  have HNEW := Lib.hid (rc_new C (w.alloc (.cells #[.bool false, .slice none 0 0] 102)) s hs ([if p0.ab then 2 else 1] ++ ([p0.ls.length] ++ lsB p0.ls)) (fun c => (HP.out c).2.symm))
  have HSZ : Hid ((w.alloc (.cells #[.bool false, .slice none 0 0] 102)).heap.size = w.heap.size + 1) := Lib.hid (by simp)
  rw [HSZ.out] at HNEW
  clear hb0 hC hp0 hs
  go_enter Tryz.func53, Tryz.ntmps53
  go_wp2_with fail
  refine HNEW.out.mono ?_
  rintro x w1 ⟨rfl, R1, b1⟩
  have H1 : Hid (RdC C w1 (w.heap.size + 1) ([if p0.ab then 2 else 1] ++ ([p0.ls.length] ++ lsB p0.ls)) ∧ PBk w1 w.heap.size false (.slice none 0 0) ∧ Below w.heap.size w w1) := Lib.hid (by
    rw [← HSZ.out] at b1
    exact ⟨R1, HW.out.2.below b1, HW.out.1.trans (b1.mono HW.out.1.size)⟩)
  clear R1 b1 HNEW HW
  go_wp2_with fail
  refine (rc_byte C (w.heap.size + 1) w1 (if p0.ab then 2 else 1) _ H1.out.1).mono ?_
  rintro x w2 ⟨m1, hm1, hc1, rfl, R2, K2⟩
  obtain ⟨ab, hab⟩ : ∃ ab : Bool, ab = ((m1 : Int) == 2) := ⟨_, rfl⟩
  have HAB : Hid (C → ab = p0.ab) := Lib.hid (fun c => by
    rw [hab, hc1 c]
    cases p0.ab <;> rfl)
  have hab' : ((m1 : Int) == 2) = ab := hab.symm
  have H2 : Hid (RdC C w2 (w.heap.size + 1) ([p0.ls.length] ++ lsB p0.ls) ∧ PBk w2 w.heap.size false (.slice none 0 0) ∧ Below w.heap.size w w2) := Lib.hid ⟨R2, H1.out.2.1.later K2 (fun e => by omega), below_far H1.out.2.2 K2 (Nat.le_refl _) (fun k _ e => by omega)⟩
  clear R2 K2 hc1 H1 hab
  have H3 := Lib.hid (Ps.start (ab := ab) H2.out.1 H2.out.2.1 (by omega) (Nat.le_refl _) (by omega) H2.out.2.2)
  clear H2
  go_wp2_with fail
  refine (rc_byte C (w.heap.size + 1) _ p0.ls.length _ H3.out.rd).mono ?_
  rintro x w3 ⟨n, hn, hnc, rfl, R3, K3⟩
  have H4 := Lib.hid (H3.out.read R3 K3)
  have HN := Lib.hid (And.intro hn hnc)
  obtain ⟨X, hX⟩ : ∃ X, X = w2.heap.size := ⟨_, rfl⟩
  rw [← hX] at H4
  (try rw [← hX])
  clear R3 K3 hn hnc H3 hX hab' hm1
  go_wp2
  go_loopw [16] (fun u wr => ∃ (m : Nat) (ls : List LfW) (a : Option Addr) (q cp : Nat), m ≤ n ∧ u = .int .i64 (m : Int) ∧ ls.length ≤ m ∧ (C → vals ls = p0.ls.take m) ∧ Ps C w (w.heap.size + 1) w.heap.size X (lsB (p0.ls.drop m)) ab a q cp ls wr) (fun u _ => n - (intOf u).toNat)
  case atStart => exact ⟨0, [], none, 0, 0, by omega, rfl, by simp, fun _ => by simp [vals], by simpa using H4.out⟩
  case round =>
    obtain ⟨m, ls, a, q, cp, hmn, rfl, hll, hlc, hps⟩ := hrel
    have hn256 := HN.out.1
    by_cases hlt : m < n
    · have HPS := Lib.hid (hps.cast (lsB_drop p0.ls m n HN.out.2 hlt))
      obtain ⟨L, hL⟩ : ∃ L, L = p0.ls.getD m ⟨0, 0, ⟨#[]⟩, ⟨#[]⟩, []⟩ := ⟨_, rfl⟩
      rw [← hL] at HPS
      have HLC : Hid ((C → LfMay L) ∧ (C → vals ls ++ [L] = p0.ls.take (m + 1))) := Lib.hid (by
        refine ⟨fun c => ?_, fun c => ?_⟩
        · have hl : m < p0.ls.length := by have := HN.out.2 c; omega
          rw [hL, List.getD_eq_getElem?_getD, List.getElem?_eq_getElem hl]
          exact (HP.out c).1.2 _ (List.getElem_mem _)
        · have hl : m < p0.ls.length := by have := HN.out.2 c; omega
          rw [hlc c, List.take_succ_eq_append_getElem hl, hL, List.getD_eq_getElem?_getD, List.getElem?_eq_getElem hl]; rfl)
      have HL := Lib.hid (And.intro hlt hll)
      have hmn' : (m : Int) < (n : Int) := by omega
      have hl256 : ls.length ≤ 256 := by omega
      clear hps hlt hll hL hmn
      go_wp2_with fail
      refine (rc_err C (w.heap.size + 1) wr _ HPS.out.rd).mono ?_
      rintro x w4 ⟨⟨e, he, rfl⟩, rfl⟩
      by_cases he0 : e = 0
      · subst he0
        have c1 := HPS.out.pb.c1
        clear he
        go_wp2
        obtain ⟨wd, hwd⟩ : ∃ z, z = wr.drew := ⟨_, rfl⟩
        have HD0 : Hid (Ps C w (w.heap.size + 1) w.heap.size X (lfB L ++ lsB (p0.ls.drop (m + 1))) ab a q cp ls wd) := Lib.hid (by
          rw [hwd]
          exact HPS.out.below (Below.refl _ _).drew)
        refine Kq.wp_region_T 7 (fun cur => cur.cell? ⟨X, 1, none⟩ = some (.slice a q cp)) (by kernel_rfl) (by rw [← hwd]; exact HD0.out.pb.c1) (fun hS0 => ?_)
        rw [← hwd] at hS0 ⊢
        clear hwd c1 HPS
        refine Kq.wpAnyT_take (i := 0) (v := ?_) rfl rfl (by kernel_rfl) (by kernel_rfl) (by kernel_rfl) (by kernel_rfl) (fun _ _ _ h => h) (Or.inl ⟨by kernel_rfl, ?_⟩) (by assumption) ?_
        rotate_left
        · intro w hSw; (try dsimp only at hSw); go_simp; (try with_reducible rfl)
        refine Kq.wpAnyT_take (i := 2) (v := ?_) rfl rfl (by kernel_rfl) (by kernel_rfl) (by kernel_rfl) (by kernel_rfl) (fun _ _ _ h => h) (Or.inl ⟨by kernel_rfl, ?_⟩) (by assumption) ?_
        rotate_left
        · intro w hSw; (try dsimp only at hSw); go_simp; (try with_reducible rfl)
        refine Kq.wpAnyT_take (i := 1) (v := ?_) rfl rfl (by kernel_rfl) (by kernel_rfl) (by kernel_rfl) (by kernel_rfl) (fun _ _ _ h => h) (Or.inl ⟨by kernel_rfl, ?_⟩) (by assumption) ?_
        rotate_left
        · intro w hSw; (try dsimp only at hSw); go_simp; (try with_reducible rfl)
        refine Kq.wpAnyT_one (i := 3) (by kernel_rfl) rfl (fun K hK => ?_)
        go_simp
        refine (pf_get C (w.heap.size + 1) L _ wd HD0.out.rd HLC.out.1).mono ?_
        rintro x z1 ⟨z, hzc, rfl, hz3, hzcap, hztx, R1, K1⟩
        have HZ : Hid ((C → z.l = L) ∧ TxN z1 (fun k => k < X + 1 ∨ some k = (Value.slice a q cp).ownBlock) z.a z.l.p ∧ z.l.p.length ≤ z.cap ∧ z.l.p.length ≤ 300) := Lib.hid ⟨hzc, hztx.mono (fun k _ hk => by
          rcases hk with hk | hk
          · have := HD0.out.sz; omega
          · exact (HD0.out.own.lt _ hk.symm).2), hzcap, hz3⟩
        have HD1 : Hid (Ps C w (w.heap.size + 1) w.heap.size X (lsB (p0.ls.drop (m + 1))) ab a q cp ls z1) := Lib.hid (HD0.out.read R1 K1)
        clear R1 K1 HD0 hzc hz3 hzcap hztx hS0
        refine hK.out _ _ HD1.out.pb.c1 (fun hS0 => ?_)
        clear hK K
        obtain ⟨⟨I, J, k, v, p⟩, za, zc⟩ := z
        simp only [LfW.val] at HZ ⊢
        refine Kq.wpAnyT_one (i := 4) (by kernel_rfl) rfl (fun K hK => ?_)
        go_simp
        have HD2 : Hid (Ps C w (w.heap.size + 1) w.heap.size X (lsB (p0.ls.drop (m + 1))) ab a q cp ls (z1.alloc (.cells #[.int .i64 I, .int .i64 J, .string k, .string v, .slice za p.length zc] 108))) := Lib.hid (HD1.out.below (Kq.below_alloc _ _))
        have HZ2 : Hid ((C → (⟨I, J, k, v, p⟩ : LfV) = L) ∧ TxN (z1.alloc (.cells #[.int .i64 I, .int .i64 J, .string k, .string v, .slice za p.length zc] 108)) (fun k => k < X + 1 ∨ some k = (Value.slice a q cp).ownBlock) za p ∧ p.length ≤ zc ∧ p.length ≤ 300) := Lib.hid ⟨HZ.out.1, HZ.out.2.1.below (Kq.below_alloc _ _), HZ.out.2.2⟩
        have HSRC : Hid (Src Tryz.prog 5 100 (.slice (some ⟨z1.heap.size, 0, none⟩) 1 1) 1 (LfE.flat [⟨⟨I, J, k, v, p⟩, za, zc⟩]) (z1.alloc (.cells #[.int .i64 I, .int .i64 J, .string k, .string v, .slice za p.length zc] 108))) := Lib.hid ((Kq.Elt.made_one (E := LfE) ⟨⟨I, J, k, v, p⟩, za, zc⟩ z1 108).src Tryz.underlying100 1)
        clear hS0 HD1 HZ
        refine hK.out _ _ HD2.out.pb.c1 (fun hS0 => ?_)
        clear hK K
        refine Kq.wpAnyT_one (i := 5) (by kernel_rfl) rfl (fun K hK => ?_)
        rw [if_pos (by kernel_rfl)]
        refine Kq.wp_append_any _ (.tmp 24) (.tmp 27) 100 100 rfl (X + 1) 108 i0 (.agg #[.int .i64 0, .int .i64 0, .string ⟨#[]⟩, .string ⟨#[]⟩, .slice none 0 0]) 5 72 Tryz.underlying100 hi0 hz0 hz1 hz2 rfl (by decide) (.slice a q cp) ls.length (LfE.flat ls) (by kernel_rfl) HD2.out.own (.slice (some ⟨z1.heap.size, 0, none⟩) 1 1) 1 (LfE.flat [⟨⟨I, J, k, v, p⟩, za, zc⟩]) (by kernel_rfl) HSRC.out ?e1 ?e2 HD2.out.sz ?_
        case e1 => unfold maxLen; omega
        case e2 => omega
        intro v' z3 hown3 hgrow hfresh
        obtain ⟨a', q', cp', hv'⟩ := Kq.own_shape hown3
        subst hv'
        have HD4 := Lib.hid (HD2.out.snoc (z3 := z3) (a' := a') (q' := q') (cp' := cp') HZ2.out.2 (Kq.Keeps.grown hgrow (fun g _ hg => hg.symm)) (by rw [LfE.flat_append, List.length_append]; exact hown3) hfresh)
        have hfz : z3.frozen? ⟨X, 1, none⟩ = false ∧ z3.cell? ⟨X, 1, none⟩ = some (.slice a q cp) := by
          have hpb := HD2.out.pb.later (Kq.Keeps.grown hgrow (S := fun g => some g = (Value.slice a q cp).ownBlock) (fun g _ hg => hg.symm)) (fun e => by have := own_geB HD2.out.own e.symm; omega)
          exact ⟨hpb.fz 1, hpb.c1⟩
        have f4 := hfz.1
        have c4 := hfz.2
        clear hown3 hgrow hfresh hfz HD2 HSRC hS0
        refine hK.out _ _ c4 (fun hS0 => ?_)
        clear hK K
        refine Kq.wpAnyT_take (i := 6) (v := ?_) rfl rfl (by kernel_rfl) (by kernel_rfl) (by kernel_rfl) (by kernel_rfl) (fun _ _ _ h => h) (Or.inl ⟨by kernel_rfl, ?_⟩) (by assumption) ?_
        rotate_left
        · intro w hSw; (try dsimp only at hSw); go_simp; (try with_reducible rfl)
        refine Kq.wpAnyT_last (by kernel_rfl) rfl (fun K hK => ?_)
        go_simp
        refine hK.out _ _ ?_
        clear hK K
        refine Kq.wpAnyT_done (by kernel_rfl) ?_ _
        obtain ⟨wz, hwz⟩ : ∃ z, z = z3.setCell ⟨X, 1, none⟩ (.slice a' q' cp') := ⟨_, rfl⟩
        rw [← hwz] at HD4
        (try rw [← hwz])
        clear hwz f4 c4 hS0
        go_wp2
        go_roundw
        case rel => exact ⟨m + 1, ls ++ [⟨⟨I, J, k, v, p⟩, za, zc⟩], a', q', cp', HL.out.1, by go_num, by have := HL.out.2; rw [List.length_append]; simpa using this, fun c => by rw [← HLC.out.2 c]; simp [vals, HZ2.out.1 c], HD4.out⟩
        case measure => have := HL.out.1; simp [intOf]; omega
      · have he1 : (e == 0) = false := by rw [beq_eq_false_iff_ne]; exact he0
        have HNC : Hid (¬ C) := Lib.hid (fun c => he0 (he c))
        clear he he0
        go_wp2
        go_roundw
        case rel => exact ⟨m + 1, ls, a, q, cp, HL.out.1, by go_num, by have := HL.out.2; omega, fun c => absurd c HNC.out, HPS.out.cast (fun c => absurd c HNC.out)⟩
        case measure => have := HL.out.1; simp [intOf]; omega
    · obtain rfl : m = n := by omega
      have HLF := Lib.hid hps.lfs
      have HPS := Lib.hid hps
      have HPA : Hid (∀ x ∈ ls, x.l.p.length ≤ 1000) := Lib.hid (fun x hx => by have := (hps.pa x hx).2.2; omega)
      have c0 := hps.pb.c0
      have c1 := hps.pb.c1
      have HVL : Hid (C → vals ls = p0.ls) := Lib.hid (fun c => by rw [hlc c, HN.out.2 c, List.take_length])
      have hl1000 : ls.length ≤ 1000 := by omega
      obtain rfl : q = ls.length := HLF.out.1
      clear hps hlc hmn hll
      have HBY := Lib.hid (pf_bytes _ ab a cp ls wr HLF.out.2.2 hl1000 HPA.out)
      obtain ⟨r, hr⟩ : ∃ r, r = pfBytes ⟨ab, vals ls⟩ := ⟨_, rfl⟩
      rw [← hr] at HBY
      have HR := Lib.hid hr
      clear hr
      obtain ⟨t, e⟩ := r
      go_wp2_with fail
      refine HBY.out.mono ?_
      rintro x w5 ⟨rfl, b5⟩
      have H5 : Hid (Ps C w (w.heap.size + 1) w.heap.size X (lsB (p0.ls.drop m)) ab a ls.length cp ls w5) := Lib.hid (HPS.out.below b5)
      clear b5 HBY c0 c1 HPS
      have g0 := H5.out.rb.fz 0
      have g1 := H5.out.rb.fz 1
      have r0 := H5.out.rb.c0
      have r1 := H5.out.rb.c1
      have c0 := H5.out.pb.c0
      have c1 := H5.out.pb.c1
      by_cases hC : C
      · have hm0 := HP.out hC
        have hvl : (⟨ab, vals ls⟩ : PfV) = p0 := by rw [HAB.out hC, HVL.out hC]
        have HRES : Hid (pfParse s = (p0, 0) ∧ t = s ∧ e = 0) := Lib.hid ⟨pfParse_some hm0.1 hm0.2, by
          have h1 := HR.out
          rw [hvl, again_yes hm0.1 hm0.2] at h1
          injection h1 with h1 h2
          exact ⟨h1, h2⟩⟩
        have HV := Lib.hid hvl
        clear hm0 hvl hC
        obtain ⟨-, rfl, rfl⟩ := HRES.out
        have e1 : (t.toList != t.toList) = false := by simp
        go_wp2
        have p1 := H5.out.rb.fill ab (.slice a ls.length cp)
        have p2 := filled2_keeps w5 w.heap.size ab (.slice a ls.length cp)
        obtain ⟨Wf, hWf⟩ : ∃ Wf, Wf = filled2 w5 w.heap.size ab (.slice a ls.length cp) := ⟨_, rfl⟩
        change bodyPost _ _ _ _ _ (filled2 w5 w.heap.size ab (.slice a ls.length cp))
        rw [← hWf] at p1 p2 ⊢
        have z0 := p1.c0
        have z1 := p1.c1
        refine bodyPost_ret (v := .tuple #[.agg #[.bool ab, .slice a ls.length cp], .int .i64 0]) (by simp [results, Tryz.results53, go_sem, z0, z1]) rfl ?_
        refine PfPost.mk' ls rfl ?_ HLF.out.2.1 ?_ (below_far H5.out.bel p2 (Nat.le_refl _) (fun k _ hk => by omega)) (ab := ab) (e := 0) ?_ ?_ rfl
        · rw [HRES.out.1]; show vals ls = p0.ls; rw [← HV.out]
        · exact (H5.out.lfs.2.2.keeps p2 (fun k _ hk => by have := H5.out.ne3; omega)).mono (fun k _ hk => by have := H5.out.ne3; have := H5.out.ne; omega)
        · rw [HRES.out.1]; show ab = p0.ab; rw [← HV.out]
        · rw [HRES.out.1]
      · have HRES : Hid (pfParse s = (⟨false, []⟩, 5) ∧ ¬ (e = 0 ∧ t = s)) := Lib.hid ⟨isPf_no (fun h => hC (by rw [HC.out]; exact h)), fun h => again_no (p := ⟨ab, vals ls⟩) (fun h => hC (by rw [HC.out]; exact h)) (by rw [← HR.out]; exact h)⟩
        have HEND : Hid (∀ x, x = .returned (.tuple #[.agg #[.bool false, .slice none 0 0], .int .i64 5]) → PfPost w (pfParse s) x (filled2 w5 w.heap.size false (.slice none 0 0))) := Lib.hid (fun x hx => by
          have p2 := filled2_keeps w5 w.heap.size false (.slice none 0 0)
          exact PfPost.mk' (A := none) (q := 0) (cap := 0) [] rfl (by rw [HRES.out.1]; rfl) (Nat.le_refl _) LfsN.nil (below_far H5.out.bel p2 (Nat.le_refl _) (fun k _ hk => by omega)) (ab := false) (e := 5) (by rw [HRES.out.1]) (by rw [HRES.out.1]) hx)
        have p1 := Lib.hid (H5.out.rb.fill false (.slice none 0 0))
        have hcase := HRES.out.2
        clear hC HRES
        by_cases he : e = 0
        · subst he
          have ht : ¬ t = s := fun h => hcase ⟨rfl, h⟩
          have e1 : (t.toList != s.toList) = true := by rw [bne_iff_ne]; exact fun h => ht (toList_inj h)
          have e2 : (t.toList == s.toList) = false := by rw [beq_eq_false_iff_ne]; exact fun h => ht (toList_inj h)
          clear hcase ht
          go_wp2
          obtain ⟨Wf, hWf⟩ : ∃ Wf, Wf = filled2 w5 w.heap.size false (.slice none 0 0) := ⟨_, rfl⟩
          change bodyPost _ _ _ _ _ (filled2 w5 w.heap.size false (.slice none 0 0))
          rw [← hWf] at p1 HEND ⊢
          have z0 := p1.out.c0
          have z1 := p1.out.c1
          refine bodyPost_ret (v := .tuple #[.agg #[.bool false, .slice none 0 0], .int .i64 5]) (by simp [results, Tryz.results53, go_sem, z0, z1]) rfl ?_
          exact HEND.out _ rfl
        · have e1 : (e != 0) = true := by rw [bne_iff_ne]; exact he
          clear hcase he
          go_wp2
          obtain ⟨Wf, hWf⟩ : ∃ Wf, Wf = filled2 w5 w.heap.size false (.slice none 0 0) := ⟨_, rfl⟩
          change bodyPost _ _ _ _ _ (filled2 w5 w.heap.size false (.slice none 0 0))
          rw [← hWf] at p1 HEND ⊢
          have z0 := p1.out.c0
          have z1 := p1.out.c1
          refine bodyPost_ret (v := .tuple #[.agg #[.bool false, .slice none 0 0], .int .i64 5]) (by simp [results, Tryz.results53, go_sem, z0, z1]) rfl ?_
          exact HEND.out _ rfl
end Go.Proofs.YtbjchfcoacmaaaaGreatDoor
namespace Go.Proofs.YtbjchfcoacmaaaaGreatDoor
open Go.RowKit
set_option linter.unusedVariables false
set_option maxRecDepth 100000 in
set_option maxHeartbeats 1000000 in
theorem pf_isKey (key : ByteArray) (w : World) :
    Calls Tryz.prog 55 #[.string key] w fun x w' => x = .returned (.bool (isKeyB key)) ∧ w = w' := by
  by_cases h0 : key.size = 0
  · have HE : Hid (isKeyB key = false) := Lib.hid (decide_eq_false (by omega))
    obtain rfl : key = ⟨#[]⟩ := by
      apply nl_inj
      rw [List.eq_nil_of_length_eq_zero (show (nl key).length = 0 by rw [nl_length]; exact h0)]; rfl
    clear h0
    go_enter Tryz.func55, Tryz.ntmps55
    go_wp2
    go_ret
    exact ⟨by rw [HE.out]; rfl, rfl⟩
  · have hk := nonempty_of h0
    by_cases h1 : key.size ≤ 16
    · have HE : Hid (isKeyB key = true) := Lib.hid (decide_eq_true (by omega))
      have d1 : decide ((key.size : Int) ≤ 16) = true := decide_eq_true (by omega)
      have d2 : decide (key.size ≤ 16) = true := decide_eq_true h1
      clear h0 h1
      go_enter Tryz.func55, Tryz.ntmps55
      go_wp2
      go_ret
      exact ⟨by rw [HE.out]; rfl, rfl⟩
    · have HE : Hid (isKeyB key = false) := Lib.hid (decide_eq_false (by omega))
      have d1 : decide ((key.size : Int) ≤ 16) = false := decide_eq_false (by omega)
      have d2 : decide (key.size ≤ 16) = false := decide_eq_false h1
      clear h0 h1
      go_enter Tryz.func55, Tryz.ntmps55
      go_wp2
      go_ret
      exact ⟨by rw [HE.out]; rfl, rfl⟩
/-- numbers of a leaf that may be in a proof -/
def LfInt (x : LfV) : Prop := 0 ≤ x.i ∧ x.i ≤ 4096 ∧ 0 ≤ x.c ∧ x.c ≤ 4096
theorem LfMay.int {x : LfV} (h : LfMay x) : LfInt x := ⟨h.i0, h.i1, h.c0, h.c1⟩
set_option maxRecDepth 100000 in
set_option maxHeartbeats 1000000 in
theorem pf_outside (key : ByteArray) (x : LfW) (w : World) (hx : LfInt x.l) :
    Calls Tryz.prog 57 #[.string key, x.val] w fun y w' => y = .returned (.bool (outB key x.l)) ∧ Below w.heap.size w w' := by
  obtain ⟨⟨i, c, k, v, p⟩, a, cp⟩ := x
  obtain ⟨h0, h1, h2, h3⟩ := hx
  simp only at h0 h1 h2 h3
  unfold LfW.val
  simp only
  have HB := Lib.hid (Kq.below_alloc w (.cells #[.int .i64 i, .int .i64 c, .string k, .string v, .slice a p.length cp] 108))
  have hw : IntKind.i64.wrap (c - 1) = c - 1 := IntWalk.i64_in _ (by omega)
  by_cases t1 : Op.bytesLess key.toList k.toList = true
  · have t2 : Op.bytesLess k.toList key.toList = false := lt_asym t1
    by_cases t3 : i = 0
    · have HE : Hid (outB key ⟨i, c, k, v, p⟩ = true) := Lib.hid (by unfold outB ltT; simp [t1, t3])
      subst t3
      clear h0 h1 h2 h3 hw
      go_enter Tryz.func57, Tryz.ntmps57
      go_wp2
      go_ret
      exact ⟨by rw [HE.out]; rfl, HB.out⟩
    · have HE : Hid (outB key ⟨i, c, k, v, p⟩ = false) := Lib.hid (by unfold outB ltT; simp [t1, t2, t3])
      have e1 : (i == 0) = false := by rw [beq_eq_false_iff_ne]; exact t3
      clear h0 h1 h2 h3 hw t3
      go_enter Tryz.func57, Tryz.ntmps57
      go_wp2
      go_ret
      exact ⟨by rw [HE.out]; rfl, HB.out⟩
  · have t1' : Op.bytesLess key.toList k.toList = false := by simpa using t1
    clear t1
    by_cases t2 : Op.bytesLess k.toList key.toList = true
    · by_cases t3 : i = c - 1
      · have HE : Hid (outB key ⟨i, c, k, v, p⟩ = true) := Lib.hid (by unfold outB ltT; simp [t2, t3])
        have e1 : (i == c - 1) = true := by rw [beq_iff_eq]; exact t3
        clear h0 h1 t3
        go_enter Tryz.func57, Tryz.ntmps57
        go_wp2
        go_ret
        exact ⟨by rw [HE.out]; rfl, HB.out⟩
      · have HE : Hid (outB key ⟨i, c, k, v, p⟩ = false) := Lib.hid (by unfold outB ltT; simp [t1', t3])
        have e1 : (i == c - 1) = false := by rw [beq_eq_false_iff_ne]; exact t3
        clear h0 h1 t3
        go_enter Tryz.func57, Tryz.ntmps57
        go_wp2
        go_ret
        exact ⟨by rw [HE.out]; rfl, HB.out⟩
    · have t2' : Op.bytesLess k.toList key.toList = false := by simpa using t2
      have HE : Hid (outB key ⟨i, c, k, v, p⟩ = false) := Lib.hid (by unfold outB ltT; simp [t1', t2'])
      clear t2 h0 h1 h2 h3 hw
      go_enter Tryz.func57, Tryz.ntmps57
      go_wp2
      go_ret
      exact ⟨by rw [HE.out]; rfl, HB.out⟩
set_option maxRecDepth 100000 in
set_option maxHeartbeats 1000000 in
theorem pf_between (key : ByteArray) (x y : LfW) (w : World) (hx : LfInt x.l) (hy : LfInt y.l) :
    Calls Tryz.prog 58 #[.string key, x.val, y.val] w fun r w' => r = .returned (.bool (betB key x.l y.l)) ∧ Below w.heap.size w w' := by
  obtain ⟨⟨i, c, k, v, p⟩, a, cp⟩ := x
  obtain ⟨⟨i2, c2, k2, v2, p2⟩, a2, cp2⟩ := y
  obtain ⟨h0, h1, h2, h3⟩ := hx
  simp only at h0 h1 h2 h3
  unfold LfW.val
  simp only
  have HB := Lib.hid ((Kq.below_alloc w (.cells #[.int .i64 i, .int .i64 c, .string k, .string v, .slice a p.length cp] 108)).trans ((Kq.below_alloc (w.alloc (.cells #[.int .i64 i, .int .i64 c, .string k, .string v, .slice a p.length cp] 108)) (.cells #[.int .i64 i2, .int .i64 c2, .string k2, .string v2, .slice a2 p2.length cp2] 108)).mono (by simp)))
  have hw : IntKind.i64.wrap (i + 1) = i + 1 := IntWalk.i64_in _ (by omega)
  by_cases t1 : c = c2
  · subst t1
    by_cases t2 : i + 1 = i2
    · subst t2
      by_cases t3 : Op.bytesLess k.toList key.toList = true
      · by_cases t4 : Op.bytesLess key.toList k2.toList = true
        · have HE : Hid (betB key ⟨i, c, k, v, p⟩ ⟨i + 1, c, k2, v2, p2⟩ = true) := Lib.hid (by unfold betB ltT; simp [t3, t4])
          have e1 : (c != c) = false := by simp
          have e2 : (i + 1 != i + 1) = false := by simp
          clear h2 h3
          go_enter Tryz.func58, Tryz.ntmps58
          go_wp2
          go_ret
          exact ⟨by rw [HE.out]; rfl, HB.out⟩
        · have t4' : Op.bytesLess key.toList k2.toList = false := by simpa using t4
          have HE : Hid (betB key ⟨i, c, k, v, p⟩ ⟨i + 1, c, k2, v2, p2⟩ = false) := Lib.hid (by unfold betB ltT; simp [t4'])
          have e1 : (c != c) = false := by simp
          have e2 : (i + 1 != i + 1) = false := by simp
          clear t4 h2 h3
          go_enter Tryz.func58, Tryz.ntmps58
          go_wp2
          go_ret
          exact ⟨by rw [HE.out]; rfl, HB.out⟩
      · have t3' : Op.bytesLess k.toList key.toList = false := by simpa using t3
        have HE : Hid (betB key ⟨i, c, k, v, p⟩ ⟨i + 1, c, k2, v2, p2⟩ = false) := Lib.hid (by unfold betB ltT; simp [t3'])
        have e1 : (c != c) = false := by simp
        have e2 : (i + 1 != i + 1) = false := by simp
        clear t3 h2 h3
        go_enter Tryz.func58, Tryz.ntmps58
        go_wp2
        go_ret
        exact ⟨by rw [HE.out]; rfl, HB.out⟩
    · have HE : Hid (betB key ⟨i, c, k, v, p⟩ ⟨i2, c, k2, v2, p2⟩ = false) := Lib.hid (by unfold betB; simp [t2])
      have e1 : (c != c) = false := by simp
      have e2 : (i + 1 != i2) = true := by rw [bne_iff_ne]; exact t2
      clear h2 h3 t2
      go_enter Tryz.func58, Tryz.ntmps58
      go_wp2
      go_ret
      exact ⟨by rw [HE.out]; rfl, HB.out⟩
  · have HE : Hid (betB key ⟨i, c, k, v, p⟩ ⟨i2, c2, k2, v2, p2⟩ = false) := Lib.hid (by unfold betB; simp [t1])
    have e1 : (c != c2) = true := by rw [bne_iff_ne]; exact t1
    clear h0 h1 h2 h3 t1 hw
    go_enter Tryz.func58, Tryz.ntmps58
    go_wp2
    go_ret
    exact ⟨by rw [HE.out]; rfl, HB.out⟩
theorem clB_no {root : ByteArray} {ls : List LfV} {L : LfV} (hL : L ∈ ls) (h : lfClimb L ≠ (root, true)) : clB root ls = false := by
  unfold clB
  rw [List.all_eq_false]
  exact ⟨L, hL, by simpa using h⟩
theorem clB_yes {root : ByteArray} {ls : List LfV} (h : ∀ L ∈ ls, lfClimb L = (root, true)) : clB root ls = true := List.all_eq_true.2 (fun L hL => decide_eq_true (h L hL))
set_option maxRecDepth 100000 in
set_option maxHeartbeats 2000000 in
theorem pf_climb (root : ByteArray) (S : Nat → Prop) (A : Option Addr) (cap : Nat) (ls : List LfW) (w : World) (hA : LfsN w S A ls) (hL : LaidOk w) (hn : ls.length ≤ 1000) (hm : ∀ x ∈ ls, LfMay x.l) :
    Calls Tryz.prog 54 #[.string root, .slice A ls.length cap] w fun x w' => x = .returned (.bool (clB root (vals ls))) ∧ Below w.heap.size w w' := by
  have HA := Lib.hid (And.intro hA (And.intro hL hm))
  have HN := Lib.hid hn
  clear hA hL hm
  go_enter Tryz.func54, Tryz.ntmps54
  go_wp2
  go_loopw [11] (fun i wr => ∃ j : Nat, j ≤ ls.length ∧ i = .int .i64 (j : Int) ∧ (∀ q (hq : q < ls.length), q < j → lfClimb ls[q].l = (root, true)) ∧ Below w.heap.size w wr) (fun i _ => ls.length - (intOf i).toNat)
  case atStart => exact ⟨0, by omega, rfl, fun i _ hi => absurd hi (Nat.not_lt_zero _), Below.refl _ _⟩
  case round =>
    obtain ⟨j, hj, rfl, hup, hbl⟩ := hrel
    have HUP := Lib.hid (And.intro hup hbl)
    have hn' := HN.out
    by_cases hlt : j < ls.length
    · obtain ⟨b, off, rfl, -, hb, hc, ht, hcp⟩ := (HA.out.1.below hbl) j hlt
      have hmay : LfMay ls[j].l := HA.out.2.2 _ (List.getElem_mem _)
      have HNO : Hid (lfClimb ls[j].l ≠ (root, true) → clB root (vals ls) = false) := Lib.hid (fun h => clB_no (vals_mem hlt) h)
      obtain ⟨x, hx⟩ : ∃ x, x = ls[j] := ⟨_, rfl⟩
      rw [← hx] at hc ht hcp hmay HNO
      have HX := Lib.hid hx
      have HLT := Lib.hid hlt
      have hi0 : (j : Int) < (ls.length : Int) := by omega
      clear hup hbl hb hx
      obtain ⟨⟨i, c, k, v, p⟩, a, cp⟩ := x
      obtain ⟨c0, c1, c2, c3, c4⟩ := hc
      simp only at c0 c1 c2 c3 c4 ht hcp hmay HNO HX
      have hb1 := Kq.below_alloc wr (.cells #[.int .i64 i, .int .i64 c, .string k, .string v, .slice a p.length cp] 108)
      have HCL := Lib.hid (mk_climb i c (k, v) p a cp _ (ht.below hb1).parts (by have := hmay.n; simp only at this; omega) (by have := hmay.k; have := hmay.v; simp only at *; omega) hcp ((HA.out.2.1.later HUP.out.2).later hb1))
      have HB1 : Hid (Below w.heap.size w (wr.alloc (.cells #[.int .i64 i, .int .i64 c, .string k, .string v, .slice a p.length cp] 108))) := Lib.hid (HUP.out.2.trans (hb1.mono HUP.out.2.size))
      obtain ⟨r, hr⟩ : ∃ r, r = climbV i c (k, v) p := ⟨_, rfl⟩
      have HR : Hid (lfClimb ⟨i, c, k, v, p⟩ = r) := Lib.hid hr.symm
      rw [← hr] at HCL
      obtain ⟨d, ok⟩ := r
      clear ht hcp hmay hb1 hr
      simp only at HCL
      go_wp2_with fail
      refine HCL.out.mono ?_
      rintro x w3 ⟨rfl, b3⟩
      have HB3 : Hid (Below w.heap.size w w3) := Lib.hid (HB1.out.trans (b3.mono HB1.out.size))
      clear b3 HB1 HCL c0 c1 c2 c3 c4
      cases ok with
      | false =>
        have HE : Hid (clB root (vals ls) = false) := Lib.hid (HNO.out (fun h => by rw [HR.out] at h; cases h))
        go_wp2
        go_ret
        exact ⟨by rw [HE.out]; rfl, HB3.out⟩
      | true =>
        by_cases he : d = root
        · subst he
          have e1 : (d.toList != d.toList) = false := by simp
          go_wp2
          go_roundw
          case rel =>
            refine ⟨j + 1, HLT.out, by go_num, fun q hq h => ?_, HB3.out⟩
            rcases Nat.lt_or_ge q j with h' | h'
            · exact HUP.out.1 q hq h'
            · obtain rfl : q = j := by omega
              rw [← HX.out]; exact HR.out
          case measure => have := HLT.out; simp [intOf]; omega
        · have HE : Hid (clB root (vals ls) = false) := Lib.hid (HNO.out (fun h => by rw [HR.out] at h; injection h with h; exact he h))
          have e1 : (d.toList != root.toList) = true := by rw [bne_iff_ne]; exact fun h => he (toList_inj h)
          have e2 : (d.toList == root.toList) = false := by rw [beq_eq_false_iff_ne]; exact fun h => he (toList_inj h)
          clear he
          go_wp2
          go_ret
          exact ⟨by rw [HE.out]; rfl, HB3.out⟩
    · obtain rfl : j = ls.length := by omega
      have HE : Hid (clB root (vals ls) = true) := Lib.hid (clB_yes (fun L hL => by
        obtain ⟨x, hx, rfl⟩ := List.mem_map.1 hL
        obtain ⟨q, hq, rfl⟩ := List.getElem_of_mem hx
        exact HUP.out.1 q hq hq))
      clear hup
      go_wp2
      go_ret
      exact ⟨by rw [HE.out]; rfl, hbl⟩
end Go.Proofs.YtbjchfcoacmaaaaGreatDoor
namespace Go.Proofs.YtbjchfcoacmaaaaGreatDoor
open Go.RowKit
set_option linter.unusedVariables false
theorem pfParse_cases (s : ByteArray) : ((pfParse s).2 = 5 ∧ (pfParse s).1 = ⟨false, []⟩) ∨ ((pfParse s).2 = 0 ∧ PfMay (pfParse s).1) := by
  by_cases h : IsPf s
  · obtain ⟨p, hp, e⟩ := h
    rw [pfParse_some hp e]
    exact Or.inr ⟨rfl, hp⟩
  · rw [isPf_no h]
    exact Or.inl ⟨rfl, rfl⟩
/-- what Parse tells, opened: a refusal, or a proof of 0, 1 or 2 leaves -/
structure PfOk (w w' : World) (r : PfV × Int) (A : Option Addr) (cap : Nat) (ls : List LfW) : Prop where
  e0 : r.2 = 0
  v : vals ls = r.1.ls
  n : ls.length ≤ 2
  may : ∀ x ∈ ls, LfMay x.l
  at_ : LfsN w' (fun k => k < w.heap.size) A ls
  bel : Below w.heap.size w w'
theorem PfPost.open_ {w w' : World} {s : ByteArray} {x : Ending} (h : PfPost w (pfParse s) x w') :
    ((pfParse s).1 = ⟨false, []⟩ ∧ ∃ A cap, x = .returned (.tuple #[.agg #[.bool false, .slice A 0 cap], .int .i64 5]) ∧ Below w.heap.size w w') ∨
    ∃ A cap ls, x = .returned (.tuple #[.agg #[.bool (pfParse s).1.ab, .slice A (List.length ls) cap], .int .i64 0]) ∧ PfOk w w' (pfParse s) A cap ls := by
  obtain ⟨A, cap, ls, rfl, h1, h2, h3, h4⟩ := h
  rcases pfParse_cases s with ⟨e1, e2⟩ | ⟨e1, e2⟩
  · left
    rw [e2] at h1
    obtain rfl : ls = [] := by
      apply List.eq_nil_of_length_eq_zero
      rw [← vals_len, h1]; rfl
    exact ⟨e2, A, cap, by rw [e1, e2]; rfl, h4⟩
  · right
    refine ⟨A, cap, ls, by rw [e1], e1, h1, ?_, ?_, h3, h4⟩
    · rw [← vals_len, h1]; exact e2.1
    · exact fun x hx => e2.2 x.l (by rw [← h1]; exact List.mem_map_of_mem hx)
section
variable {w w' : World} {S : Nat → Prop} {A : Option Addr} {x y : LfW}
theorem LfsN.head {ls : List LfW} (h : LfsN w S A (x :: ls)) : ∃ b off, A = some ⟨b, off, none⟩ ∧ ¬ S b ∧ b < w.heap.size ∧ IsLf w b off x := by
  obtain ⟨b, off, e, h0, h1, h2, _⟩ := h 0 (by simp)
  rw [Nat.zero_mul, Nat.add_zero] at h2
  exact ⟨b, off, e, h0, h1, h2⟩
theorem LfsN.two {ls : List LfW} (h : LfsN w S A (x :: y :: ls)) : ∃ b off, A = some ⟨b, off, none⟩ ∧ ¬ S b ∧ b < w.heap.size ∧ IsLf w b off x ∧ IsLf w b (off + 5) y := by
  obtain ⟨b, off, e, h0, h1, h2, _⟩ := h 0 (by simp)
  obtain ⟨b', off', e', _, _, h2', _⟩ := h 1 (by simp)
  rw [Nat.zero_mul, Nat.add_zero] at h2
  rw [e] at e'
  simp only [Option.some.injEq, Addr.mk.injEq] at e'
  obtain ⟨rfl, rfl, -⟩ := e'
  rw [Nat.one_mul] at h2'
  exact ⟨b, off, e, h0, h1, h2, h2'⟩
end
theorem hasP_no (root key value : ByteArray) (p : PfV) (h : p.ab = true ∨ p.ls.length ≠ 1) : hasP root key value p = false := by
  obtain ⟨ab, ls⟩ := p
  unfold hasP
  rcases h with h | h
  · simp only at h; subst h; simp
  · simp only at h
    match ls with
    | [] => cases ab <;> rfl
    | [L] => exact absurd rfl h
    | _ :: _ :: _ => cases ab <;> rfl
set_option maxRecDepth 100000 in
set_option maxHeartbeats 4000000 in
theorem pf_has (root s key value : ByteArray) (w : World) (hs : s.size ≤ 100000) (hL : LaidOk w) :
    Calls Tryz.prog 26 #[.string root, .string s, .string key, .string value] w fun x w' => x = .returned (.bool (hasP root key value (pfParse s).1)) ∧ Below w.heap.size w w' := by
  have HP := Lib.hid (pf_parse s w hs)
  have HL := Lib.hid hL
  obtain ⟨H, hH⟩ : ∃ H, H = hasP root key value (pfParse s).1 := ⟨_, rfl⟩
  have HH := Lib.hid hH
  rw [← hH]
  clear hL hs hH
  go_enter Tryz.func26, Tryz.ntmps26
  go_wp2_with fail
  refine HP.out.mono ?_
  intro x w2 hpost
  rcases hpost.open_ with ⟨e1, A, cap, rfl, hb⟩ | ⟨A, cap, ls, rfl, hok⟩
  · have HE : Hid (H = false) := Lib.hid (by rw [HH.out, e1]; rfl)
    have HB : Hid (Below w.heap.size w (w2.alloc (.cells #[.bool false, .slice A 0 cap] 102))) := Lib.hid (hb.trans ((Kq.below_alloc _ _).mono hb.size))
    clear hpost e1 hb HH HP
    go_wp2
    go_ret
    exact ⟨by rw [HE.out]; rfl, HB.out⟩
  · have HOK := Lib.hid hok
    obtain ⟨ab, hab⟩ : ∃ ab, ab = (pfParse s).1.ab := ⟨_, rfl⟩
    have HAB := Lib.hid hab
    have hn := hok.n
    rw [← hab]
    have hbl := Kq.below_alloc w2 (.cells #[.bool ab, .slice A ls.length cap] 102)
    have HB : Hid (Below w.heap.size w (w2.alloc (.cells #[.bool ab, .slice A ls.length cap] 102)) ∧ LfsN (w2.alloc (.cells #[.bool ab, .slice A ls.length cap] 102)) (fun k => k < w.heap.size) A ls) := Lib.hid ⟨hok.bel.trans (hbl.mono hok.bel.size), hok.at_.below hbl⟩
    clear hpost hab hok HP hbl
    cases ab with
    | true =>
      have HE : Hid (H = false) := Lib.hid (by rw [HH.out]; exact hasP_no _ _ _ _ (Or.inl HAB.out.symm))
      clear hn
      go_wp2
      go_ret
      exact ⟨by rw [HE.out]; rfl, HB.out.1⟩
    | false =>
      rcases ls with _ | ⟨x, _ | ⟨y, _ | ⟨z, ls⟩⟩⟩
      · have HE : Hid (H = false) := Lib.hid (by rw [HH.out]; exact hasP_no _ _ _ _ (Or.inr (by rw [← HOK.out.v]; simp [vals])))
        simp only [List.length_nil] at HB ⊢
        clear hn
        go_wp2
        go_ret
        exact ⟨by rw [HE.out]; rfl, HB.out.1⟩
      · have hv : (pfParse s).1.ls = [x.l] := HOK.out.v.symm
        have HMX := Lib.hid (HOK.out.may x (by simp))
        have HV : Hid (H = (decide (x.l.k = key ∧ x.l.v = value) && clB root [x.l])) := Lib.hid (by
          rw [HH.out]
          have hp : (pfParse s).1 = ⟨false, [x.l]⟩ := by
            rw [← hv, HAB.out]
          rw [hp]; rfl)
        have HCL := Lib.hid (pf_climb root _ A cap [x] _ HB.out.2 (HL.out.later HB.out.1) (by simp) (fun z hz => by rw [List.mem_singleton] at hz; rw [hz]; exact HMX.out))
        simp only [List.length_cons, List.length_nil, Nat.zero_add] at HB HCL ⊢
        have HVX : Hid (vals [x] = [x.l]) := Lib.hid rfl
        rw [HVX.out] at HCL
        obtain ⟨b, off, rfl, -, hb, hc⟩ := HB.out.2.head
        obtain ⟨c0, c1, c2, c3, c4⟩ := hc
        obtain ⟨⟨i, c, k, v, p⟩, a, cp⟩ := x
        simp only at c0 c1 c2 c3 c4 HV HCL
        clear hn hv hb HMX HVX c0 c1 c4
        by_cases h1 : k = key
        · subst h1
          have e1 : (k.toList == k.toList) = true := by simp
          by_cases h2 : v = value
          · subst h2
            have e2 : (v.toList == v.toList) = true := by simp
            obtain ⟨CB, hCB⟩ : ∃ CB, CB = clB root [⟨i, c, k, v, p⟩] := ⟨_, rfl⟩
            rw [← hCB] at HCL
            have HE : Hid (H = CB) := Lib.hid (by rw [HV.out, hCB]; simp)
            clear hCB
            go_wp2_with fail
            refine HCL.out.mono ?_
            rintro x w5 ⟨rfl, b5⟩
            have H5 : Hid (Below w.heap.size w w5) := Lib.hid (HB.out.1.trans (b5.mono HB.out.1.size))
            clear b5 HCL
            go_wp2
            go_ret
            exact ⟨by rw [HE.out]; rfl, H5.out⟩
          · have e2 : (v.toList == value.toList) = false := by rw [beq_eq_false_iff_ne]; exact fun h => h2 (toList_inj h)
            have HE : Hid (H = false) := Lib.hid (by rw [HV.out]; simp [h2])
            clear h2
            go_wp2
            go_ret
            exact ⟨by rw [HE.out]; rfl, HB.out.1⟩
        · have e2 : (k.toList == key.toList) = false := by rw [beq_eq_false_iff_ne]; exact fun h => h1 (toList_inj h)
          have HE : Hid (H = false) := Lib.hid (by rw [HV.out]; simp [h1])
          clear h1
          go_wp2
          all_goals
            go_ret
            exact ⟨by rw [HE.out]; rfl, HB.out.1⟩
      · have HE : Hid (H = false) := Lib.hid (by rw [HH.out]; exact hasP_no _ _ _ _ (Or.inr (by rw [← HOK.out.v]; simp [vals])))
        simp only [List.length_cons, List.length_nil, Nat.zero_add, Nat.reduceAdd] at HB ⊢
        clear hn
        go_wp2
        go_ret
        exact ⟨by rw [HE.out]; rfl, HB.out.1⟩
      · exact absurd hn (by simp)
end Go.Proofs.YtbjchfcoacmaaaaGreatDoor
namespace Go.Proofs.YtbjchfcoacmaaaaGreatDoor
open Go.RowKit
set_option linter.unusedVariables false
theorem lacksP_ab (root key : ByteArray) (p : PfV) (h : p.ab = false) : lacksP root key p = false := by
  obtain ⟨ab, ls⟩ := p
  simp only at h; subst h
  unfold lacksP
  simp
theorem lacksP_key (root key : ByteArray) (p : PfV) (h : isKeyB key = false) : lacksP root key p = false := by
  obtain ⟨ab, ls⟩ := p
  unfold lacksP
  split
  all_goals simp [h]
def TwoB (w' : World) (X b off : Nat) (n cap : Nat) (x y : LfW) : Prop :=
  w'.cell? ⟨X, 1, none⟩ = some (.slice (some ⟨b, off, none⟩) n cap) ∧ w'.cell? ⟨b, off, none⟩ = some (.int .i64 x.l.i) ∧ w'.cell? ⟨b, off + 1, none⟩ = some (.int .i64 x.l.c) ∧ w'.cell? ⟨b, off + 2, none⟩ = some (.string x.l.k) ∧ w'.cell? ⟨b, off + 3, none⟩ = some (.string x.l.v) ∧ w'.cell? ⟨b, off + 4, none⟩ = some (.slice x.a x.l.p.length x.cap) ∧
  w'.cell? ⟨b, off + 5, none⟩ = some (.int .i64 y.l.i) ∧ w'.cell? ⟨b, off + 6, none⟩ = some (.int .i64 y.l.c) ∧ w'.cell? ⟨b, off + 7, none⟩ = some (.string y.l.k) ∧ w'.cell? ⟨b, off + 8, none⟩ = some (.string y.l.v) ∧ w'.cell? ⟨b, off + 9, none⟩ = some (.slice y.a y.l.p.length y.cap)
theorem TwoB.of {w' : World} {X b off n cap : Nat} {x y : LfW} (h : w'.cell? ⟨X, 1, none⟩ = some (.slice (some ⟨b, off, none⟩) n cap)) (hx : IsLf w' b off x) (hy : IsLf w' b (off + 5) y) : TwoB w' X b off n cap x y :=
  ⟨h, hx.c0, hx.c1, hx.c2, hx.c3, hx.c4, hy.c0, hy.c1, hy.c2, hy.c3, hy.c4⟩
theorem TwoB.below {w w' : World} {X b off n cap : Nat} {x y : LfW} (h : TwoB w X b off n cap x y) (hX : X < w.heap.size) (hb : b < w.heap.size) (hbl : Below w.heap.size w w') : TwoB w' X b off n cap x y := by
  obtain ⟨h0, h1, h2, h3, h4, h5, h6, h7, h8, h9, h10⟩ := h
  have q := fun i => hbl.cell (p := ⟨b, i, none⟩) hb
  exact ⟨(hbl.cell (p := ⟨X, 1, none⟩) hX).trans h0, (q _).trans h1, (q _).trans h2, (q _).trans h3, (q _).trans h4, (q _).trans h5, (q _).trans h6, (q _).trans h7, (q _).trans h8, (q _).trans h9, (q _).trans h10⟩
set_option maxRecDepth 100000 in
set_option maxHeartbeats 4000000 in
theorem pf_lacks (root s key : ByteArray) (w : World) (hs : s.size ≤ 100000) (hL : LaidOk w) :
    Calls Tryz.prog 27 #[.string root, .string s, .string key] w fun x w' => x = .returned (.bool (lacksP root key (pfParse s).1)) ∧ Below w.heap.size w w' := by
  have HP := Lib.hid (pf_parse s w hs)
  have HL := Lib.hid hL
  have HK := Lib.hid (fun w => pf_isKey key w)
  obtain ⟨H, hH⟩ : ∃ H, H = lacksP root key (pfParse s).1 := ⟨_, rfl⟩
  have HH := Lib.hid hH
  rw [← hH]
  obtain ⟨KB, hKB⟩ : ∃ KB, KB = isKeyB key := ⟨_, rfl⟩
  have HKB := Lib.hid hKB
  rw [← hKB] at HK
  clear hL hs hH hKB
  go_enter Tryz.func27, Tryz.ntmps27
  go_wp2_with fail
  refine HP.out.mono ?_
  intro x w2 hpost
  rcases hpost.open_ with ⟨e1, A, cap, rfl, hb⟩ | ⟨A, cap, ls, rfl, hok⟩
  · have HE : Hid (H = false) := Lib.hid (by rw [HH.out, e1]; rfl)
    have HB : Hid (Below w.heap.size w (w2.alloc (.cells #[.bool false, .slice A 0 cap] 102))) := Lib.hid (hb.trans ((Kq.below_alloc _ _).mono hb.size))
    clear hpost e1 hb HH HP
    go_wp2
    go_ret
    exact ⟨by rw [HE.out]; rfl, HB.out⟩
  · have HOK := Lib.hid hok
    obtain ⟨ab, hab⟩ : ∃ ab, ab = (pfParse s).1.ab := ⟨_, rfl⟩
    have HAB := Lib.hid hab
    have hn := hok.n
    rw [← hab]
    have hbl := Kq.below_alloc w2 (.cells #[.bool ab, .slice A ls.length cap] 102)
    have HB : Hid (Below w.heap.size w (w2.alloc (.cells #[.bool ab, .slice A ls.length cap] 102)) ∧ LfsN (w2.alloc (.cells #[.bool ab, .slice A ls.length cap] 102)) (fun k => k < w.heap.size) A ls ∧ PBk (w2.alloc (.cells #[.bool ab, .slice A ls.length cap] 102)) w2.heap.size ab (.slice A ls.length cap)) := Lib.hid ⟨hok.bel.trans (hbl.mono hok.bel.size), hok.at_.below hbl, ⟨Kq.blk_new _ _ _ _⟩⟩
    clear hpost hab hok HP hbl
    cases ab with
    | false =>
      have HE : Hid (H = false) := Lib.hid (by rw [HH.out]; exact lacksP_ab _ _ _ HAB.out.symm)
      clear hn
      go_wp2
      go_ret
      exact ⟨by rw [HE.out]; rfl, HB.out.1⟩
    | true =>
      go_wp2_with fail
      refine (HK.out _).mono ?_
      rintro x w3 ⟨rfl, rfl⟩
      cases KB with
      | false =>
        have HE : Hid (H = false) := Lib.hid (by rw [HH.out]; exact lacksP_key _ _ _ HKB.out.symm)
        clear hn
        go_wp2
        go_ret
        exact ⟨by rw [HE.out]; rfl, HB.out.1⟩
      | true =>
        have hp : (pfParse s).1 = ⟨true, vals ls⟩ := by rw [HOK.out.v, HAB.out]
        rcases ls with _ | ⟨x, _ | ⟨y, _ | ⟨z, ls⟩⟩⟩
        · have HV : Hid (H = decide (root = rootL [])) := Lib.hid (by
            rw [HH.out, hp]
            show (isKeyB key && _) = _
            rw [← HKB.out, Bool.true_and])
          have HR := Lib.hid (mk_root [] none 0 (w2.alloc (.cells #[.bool true, .slice A 0 cap] 102)) (by simp) (fun p hp => by cases hp) (fun j hj => absurd hj (by simp)) (HL.out.later HB.out.1) (by simp))
          have HRL : Hid (dgT (topT ([] : List PairV).length (digL [])) = rootL []) := Lib.hid rfl
          rw [HRL.out] at HR
          obtain ⟨RN, hRN⟩ : ∃ RN, RN = rootL [] := ⟨_, rfl⟩
          rw [← hRN] at HR HV
          simp only [List.length_nil] at HB HR ⊢
          clear hn hp HRL hRN
          go_wp2_with fail
          refine HR.out.mono ?_
          rintro x w5 ⟨rfl, b5⟩
          have H5 : Hid (Below w.heap.size w w5) := Lib.hid (HB.out.1.trans (b5.mono HB.out.1.size))
          clear b5 HR
          have HEQ : Hid ((root.toList == RN.toList) = decide (root = RN)) := Lib.hid (by
            by_cases h : root = RN
            · subst h; simp
            · rw [decide_eq_false h, beq_eq_false_iff_ne]; exact fun e => h (toList_inj e))
          go_wp2
          go_ret
          exact ⟨by rw [HV.out, ← HEQ.out]; rfl, H5.out⟩
        · have hmx := HOK.out.may x (by simp)
          have HMX := Lib.hid hmx
          have HV : Hid (H = (outB key x.l && clB root [x.l])) := Lib.hid (by
            rw [HH.out, hp]
            show ((isKeyB key && _) && _) = _
            rw [← HKB.out, Bool.true_and])
          have HCL := Lib.hid (fun (w' : World) (h1 : LfsN w' (fun k => k < w.heap.size) A [x]) (h2 : LaidOk w') => pf_climb root _ A cap [x] w' h1 h2 (by simp) (fun z hz => by rw [List.mem_singleton] at hz; rw [hz]; exact hmx))
          have HVX : Hid (vals [x] = [x.l]) := Lib.hid rfl
          rw [HVX.out] at HCL
          simp only [List.length_cons, List.length_nil, Nat.zero_add] at HB HCL ⊢
          obtain ⟨b, off, rfl, -, hb, hc⟩ := HB.out.2.1.head
          have HOU := Lib.hid (pf_outside key x (w2.alloc (.cells #[.bool true, .slice (some ⟨b, off, none⟩) 1 cap] 102)) hmx.int)
          have hX := HB.out.2.2.lt
          have HBX := Lib.hid (And.intro hb hX)
          obtain ⟨OB, hOB⟩ : ∃ OB, OB = outB key x.l := ⟨_, rfl⟩
          obtain ⟨CB, hCB⟩ : ∃ CB, CB = clB root [x.l] := ⟨_, rfl⟩
          rw [← hOB] at HOU HV
          rw [← hCB] at HCL HV
          obtain ⟨c0, c1, c2, c3, c4⟩ := hc
          obtain ⟨⟨i, c, k, v, p⟩, a, cp⟩ := x
          simp only at c0 c1 c2 c3 c4
          simp only [LfW.val] at HOU
          clear hn hp hmx hb hX HMX HVX hOB hCB
          go_wp2_with fail
          refine HOU.out.mono ?_
          rintro x w5 ⟨rfl, b5⟩
          have H5 : Hid (Below w.heap.size w w5 ∧ LfsN w5 (fun k => k < w.heap.size) (some ⟨b, off, none⟩) [⟨⟨i, c, k, v, p⟩, a, cp⟩] ∧ PBk w5 w2.heap.size true (.slice (some ⟨b, off, none⟩) 1 cap)) := Lib.hid ⟨HB.out.1.trans (b5.mono HB.out.1.size), HB.out.2.1.below b5, HB.out.2.2.below b5⟩
          have d1 := H5.out.2.2.c1
          clear b5 HOU c0 c1 c2 c3 c4 HB
          cases OB with
          | false =>
            have HE : Hid (H = false) := Lib.hid (by rw [HV.out]; rfl)
            go_wp2
            go_ret
            exact ⟨by rw [HE.out]; rfl, H5.out.1⟩
          | true =>
            have HE : Hid (H = CB) := Lib.hid (by rw [HV.out]; rfl)
            go_wp2_with fail
            refine (HCL.out w5 H5.out.2.1 (HL.out.later H5.out.1)).mono ?_
            rintro x w6 ⟨rfl, b6⟩
            have H6 : Hid (Below w.heap.size w w6) := Lib.hid (H5.out.1.trans (b6.mono H5.out.1.size))
            clear b6 HCL d1
            go_wp2
            go_ret
            exact ⟨by rw [HE.out]; rfl, H6.out⟩
        · have hmx := HOK.out.may x (by simp)
          have hmy := HOK.out.may y (by simp)
          have HV : Hid (H = (betB key x.l y.l && clB root [x.l, y.l])) := Lib.hid (by
            rw [HH.out, hp]
            show ((isKeyB key && _) && _) = _
            rw [← HKB.out, Bool.true_and])
          have HCL := Lib.hid (fun (w' : World) (h1 : LfsN w' (fun k => k < w.heap.size) A [x, y]) (h2 : LaidOk w') => pf_climb root _ A cap [x, y] w' h1 h2 (by simp) (fun z hz => by
            simp only [List.mem_cons, List.not_mem_nil, or_false] at hz
            rcases hz with rfl | rfl
            · exact hmx
            · exact hmy))
          have HVX : Hid (vals [x, y] = [x.l, y.l]) := Lib.hid rfl
          rw [HVX.out] at HCL
          simp only [List.length_cons, List.length_nil, Nat.zero_add, Nat.reduceAdd] at HB HCL ⊢
          obtain ⟨b, off, rfl, -, hb, hc, hc'⟩ := HB.out.2.1.two
          have HTW := Lib.hid (TwoB.of HB.out.2.2.c1 hc hc')
          have HBE := Lib.hid (fun w' => pf_between key x y w' hmx.int hmy.int)
          have hX := HB.out.2.2.lt
          have HBX := Lib.hid (And.intro hb hX)
          obtain ⟨OB, hOB⟩ : ∃ OB, OB = betB key x.l y.l := ⟨_, rfl⟩
          obtain ⟨CB, hCB⟩ : ∃ CB, CB = clB root [x.l, y.l] := ⟨_, rfl⟩
          rw [← hOB] at HBE HV
          rw [← hCB] at HCL HV
          clear hn hp hmx hmy hb hX HVX hOB hCB hc hc'
          obtain ⟨⟨i, c, k, v, p⟩, a, cp⟩ := x
          obtain ⟨⟨i', c', k', v', p'⟩, a', cp'⟩ := y
          simp only [LfW.val] at HBE
          unfold TwoB at HTW
          simp only at HTW
          obtain ⟨w4, hw4⟩ : ∃ z, z = w2.alloc (.cells #[.bool true, .slice (some ⟨b, off, none⟩) 2 cap] 102) := ⟨_, rfl⟩
          obtain ⟨X, hX⟩ : ∃ X, X = w2.heap.size := ⟨_, rfl⟩
          rw [← hw4] at HB HTW HBX
          rw [← hX] at HB HTW HBX
          have HT := Lib.hid (fun w' (hb : Below w4.heap.size w4 w') => TwoB.below (x := ⟨⟨i, c, k, v, p⟩, a, cp⟩) (y := ⟨⟨i', c', k', v', p'⟩, a', cp'⟩) HTW.out HBX.out.2 HBX.out.1 hb)
          go_wp2
          rw [← hw4, ← hX]
          clear hw4 hX
          have b0 : Below w4.heap.size w4 w4.drew := (Below.refl _ _).drew
          have HZ0 : Hid (Below w.heap.size w w4.drew ∧ LfsN w4.drew (fun k => k < w.heap.size) (some ⟨b, off, none⟩) [⟨⟨i, c, k, v, p⟩, a, cp⟩, ⟨⟨i', c', k', v', p'⟩, a', cp'⟩] ∧ Below w4.heap.size w4 w4.drew) := Lib.hid ⟨HB.out.1.drew, HB.out.2.1.below b0, b0⟩
          clear b0 HB
          refine wp_region_held_drew (S := fun w' => TwoB w' X b off 2 cap ⟨⟨i, c, k, v, p⟩, a, cp⟩ ⟨⟨i', c', k', v', p'⟩, a', cp'⟩) (by kernel_rfl) (HT.out _ HZ0.out.2.2) (fun hS0 => ?_)
          generalize w4.drew = z0 at *
          unfold TwoB at hS0
          dsimp only [TwoB]
          dsimp only at hS0
          refine wpAnyH_take (i := 0) (v := ?_) rfl (by kernel_rfl) (by kernel_rfl) (by kernel_rfl) (fun _ _ _ h => h) (Or.inl ⟨by kernel_rfl, ?_⟩) (by assumption) ?_
          rotate_left
          · intro w hSw; (try dsimp only at hSw); go_simp; (try with_reducible rfl)
          refine wpAnyH_take (i := 1) (v := ?_) rfl (by kernel_rfl) (by kernel_rfl) (by kernel_rfl) (fun _ _ _ h => h) (Or.inl ⟨by kernel_rfl, ?_⟩) (by assumption) ?_
          rotate_left
          · intro w hSw; (try dsimp only at hSw); go_simp; (try with_reducible rfl)
          refine wpAnyH_take (i := 2) (v := ?_) rfl (by kernel_rfl) (by kernel_rfl) (by kernel_rfl) (fun _ _ _ h => h) (Or.inl ⟨by kernel_rfl, ?_⟩) (by assumption) ?_
          rotate_left
          · intro w hSw; (try dsimp only at hSw); go_simp; (try with_reducible rfl)
          refine wpAnyH_take (i := 3) (v := ?_) rfl (by kernel_rfl) (by kernel_rfl) (by kernel_rfl) (fun _ _ _ h => h) (Or.inl ⟨by kernel_rfl, ?_⟩) (by assumption) ?_
          rotate_left
          · intro w hSw; (try dsimp only at hSw); go_simp; (try with_reducible rfl)
          refine wpAnyH_take (i := 4) (v := ?_) rfl (by kernel_rfl) (by kernel_rfl) (by kernel_rfl) (fun _ _ _ h => h) (Or.inl ⟨by kernel_rfl, ?_⟩) (by assumption) ?_
          rotate_left
          · intro w hSw; (try dsimp only at hSw); go_simp; (try with_reducible rfl)
          refine wpAnyH_take (i := 5) (v := ?_) rfl (by kernel_rfl) (by kernel_rfl) (by kernel_rfl) (fun _ _ _ h => h) (Or.inl ⟨by kernel_rfl, ?_⟩) (by assumption) ?_
          rotate_left
          · intro w hSw; (try dsimp only at hSw); go_simp; (try with_reducible rfl)
          refine wpAnyH_take (i := 6) (v := ?_) rfl (by kernel_rfl) (by kernel_rfl) (by kernel_rfl) (fun _ _ _ h => h) (Or.inl ⟨by kernel_rfl, ?_⟩) (by assumption) ?_
          rotate_left
          · intro w hSw; (try dsimp only at hSw); go_simp; (try with_reducible rfl)
          refine wpAnyH_take (i := 7) (v := ?_) rfl (by kernel_rfl) (by kernel_rfl) (by kernel_rfl) (fun _ _ _ h => h) (Or.inl ⟨by kernel_rfl, ?_⟩) (by assumption) ?_
          rotate_left
          · intro w hSw; (try dsimp only at hSw); go_simp; (try with_reducible rfl)
          refine wpAnyH_take (i := 8) (v := ?_) rfl (by kernel_rfl) (by kernel_rfl) (by kernel_rfl) (fun _ _ _ h => h) (Or.inl ⟨by kernel_rfl, ?_⟩) (by assumption) ?_
          rotate_left
          · intro w hSw; (try dsimp only at hSw); go_simp; (try with_reducible rfl)
          refine wpAnyH_ready (rs := [9]) (by kernel_rfl) (by simp) ?_
          refine AllReadyH.cons rfl (fun K hK => ?_) AllReadyH.nil
          go_simp
          refine (HBE.out z0).mono ?_
          rintro x z1 ⟨rfl, b1⟩
          have HZ1 : Hid (Below w.heap.size w z1 ∧ LfsN z1 (fun k => k < w.heap.size) (some ⟨b, off, none⟩) [⟨⟨i, c, k, v, p⟩, a, cp⟩, ⟨⟨i', c', k', v', p'⟩, a', cp'⟩] ∧ Below w4.heap.size w4 z1) := Lib.hid ⟨HZ0.out.1.trans (b1.mono HZ0.out.1.size), HZ0.out.2.1.below b1, HZ0.out.2.2.trans (b1.mono HZ0.out.2.2.size)⟩
          clear b1 HZ0 HBE hS0
          refine hK.out _ _ (HT.out _ HZ1.out.2.2) (fun hS0 => ?_)
          clear hK K
          cases OB with
          | false =>
            have HE : Hid (H = false) := Lib.hid (by rw [HV.out]; rfl)
            refine wpAnyH_take (i := 10) (v := ?_) rfl (by kernel_rfl) (by kernel_rfl) (by kernel_rfl) (fun _ _ _ h => h) (Or.inl ⟨by kernel_rfl, ?_⟩) (by assumption) ?_
            rotate_left
            · intro w hSw; (try dsimp only at hSw); go_simp; (try with_reducible rfl)
            refine wpAnyH_take (i := 11) (v := undef) rfl (by kernel_rfl) (by kernel_rfl) (by kernel_rfl) (fun _ _ _ h => h) (Or.inr ⟨by kernel_rfl, rfl⟩) (by assumption) ?_
            refine wpAnyH_take (i := 12) (v := undef) rfl (by kernel_rfl) (by kernel_rfl) (by kernel_rfl) (fun _ _ _ h => h) (Or.inr ⟨by kernel_rfl, rfl⟩) (by assumption) ?_
            refine wpAnyH_take (i := 13) (v := undef) rfl (by kernel_rfl) (by kernel_rfl) (by kernel_rfl) (fun _ _ _ h => h) (Or.inr ⟨by kernel_rfl, rfl⟩) (by assumption) ?_
            refine wpAnyH_take (i := 14) (v := undef) rfl (by kernel_rfl) (by kernel_rfl) (by kernel_rfl) (fun _ _ _ h => h) (Or.inr ⟨by kernel_rfl, rfl⟩) (by assumption) ?_
            refine wpAnyH_take (i := 15) (v := ?_) rfl (by kernel_rfl) (by kernel_rfl) (by kernel_rfl) (fun _ _ _ h => h) (Or.inl ⟨by kernel_rfl, ?_⟩) (by assumption) ?_
            rotate_left
            · intro w hSw; (try dsimp only at hSw); go_simp; (try with_reducible rfl)
            refine wpAnyH_take (i := 16) (v := ?_) rfl (by kernel_rfl) (by kernel_rfl) (by kernel_rfl) (fun _ _ _ h => h) (Or.inl ⟨by kernel_rfl, ?_⟩) (by assumption) ?_
            rotate_left
            · intro w hSw; (try dsimp only at hSw); go_simp; (try with_reducible rfl)
            refine wpAnyH_done (by kernel_rfl) ?_ _
            go_simp
            go_wp2
            go_ret
            exact ⟨by rw [HE.out]; rfl, HZ1.out.1⟩
          | true =>
            have HE : Hid (H = CB) := Lib.hid (by rw [HV.out]; rfl)
            refine wpAnyH_take (i := 10) (v := ?_) rfl (by kernel_rfl) (by kernel_rfl) (by kernel_rfl) (fun _ _ _ h => h) (Or.inl ⟨by kernel_rfl, ?_⟩) (by assumption) ?_
            rotate_left
            · intro w hSw; (try dsimp only at hSw); go_simp; (try with_reducible rfl)
            refine wpAnyH_take (i := 11) (v := ?_) rfl (by kernel_rfl) (by kernel_rfl) (by kernel_rfl) (fun _ _ _ h => h) (Or.inl ⟨by kernel_rfl, ?_⟩) (by assumption) ?_
            rotate_left
            · intro w hSw; (try dsimp only at hSw); go_simp; (try with_reducible rfl)
            refine wpAnyH_take (i := 12) (v := ?_) rfl (by kernel_rfl) (by kernel_rfl) (by kernel_rfl) (fun _ _ _ h => h) (Or.inl ⟨by kernel_rfl, ?_⟩) (by assumption) ?_
            rotate_left
            · intro w hSw; (try dsimp only at hSw); go_simp; (try with_reducible rfl)
            refine wpAnyH_take (i := 13) (v := ?_) rfl (by kernel_rfl) (by kernel_rfl) (by kernel_rfl) (fun _ _ _ h => h) (Or.inl ⟨by kernel_rfl, ?_⟩) (by assumption) ?_
            rotate_left
            · intro w hSw; (try dsimp only at hSw); go_simp; (try with_reducible rfl)
            refine wpAnyH_ready (rs := [14]) (by kernel_rfl) (by simp) ?_
            refine AllReadyH.cons rfl (fun K hK => ?_) AllReadyH.nil
            go_simp
            refine (HCL.out z1 HZ1.out.2.1 (HL.out.later HZ1.out.1)).mono ?_
            rintro x z2 ⟨rfl, b2⟩
            have HZ2 : Hid (Below w.heap.size w z2 ∧ Below w4.heap.size w4 z2) := Lib.hid ⟨HZ1.out.1.trans (b2.mono HZ1.out.1.size), HZ1.out.2.2.trans (b2.mono HZ1.out.2.2.size)⟩
            clear b2 HCL HZ1 hS0
            refine hK.out _ _ (HT.out _ HZ2.out.2) (fun hS0 => ?_)
            clear hK K
            refine wpAnyH_take (i := 15) (v := ?_) rfl (by kernel_rfl) (by kernel_rfl) (by kernel_rfl) (fun _ _ _ h => h) (Or.inl ⟨by kernel_rfl, ?_⟩) (by assumption) ?_
            rotate_left
            · intro w hSw; (try dsimp only at hSw); go_simp; (try with_reducible rfl)
            refine wpAnyH_take (i := 16) (v := ?_) rfl (by kernel_rfl) (by kernel_rfl) (by kernel_rfl) (fun _ _ _ h => h) (Or.inl ⟨by kernel_rfl, ?_⟩) (by assumption) ?_
            rotate_left
            · intro w hSw; (try dsimp only at hSw); go_simp; (try with_reducible rfl)
            refine wpAnyH_done (by kernel_rfl) ?_ _
            go_simp
            go_wp2
            go_ret
            exact ⟨by rw [HE.out]; rfl, HZ2.out.1⟩
        · exact absurd hn (by simp)
end Go.Proofs.YtbjchfcoacmaaaaGreatDoor
namespace Go.Proofs.YtbjchfcoacmaaaaGreatDoor
open Go.RowKit
set_option linter.unusedVariables false
set_option maxRecDepth 100000 in
set_option maxHeartbeats 1000000 in
theorem pf_find1 (l : List PairV) (A : Option Addr) (cap Z K i : Nat) (key : ByteArray) (w : World) (hi : i < l.length) (hn : l.length ≤ 1000000) (hA : PsAt w A l) (hZ : w.cell? ⟨Z, 0, none⟩ = some (.slice A l.length cap)) (hK : w.cell? ⟨K, 0, none⟩ = some (.string key)) :
    Calls Tryz.prog 137 #[.int .i64 (i : Int), .pointer (some ⟨Z, 0, none⟩), .pointer (some ⟨K, 0, none⟩)] w fun e w' => e = .returned (.bool (!ltT l[i].1 key)) ∧ ∃ r, w' = w.drewN r := by
  obtain ⟨b, off, rfl, -, c0, -⟩ := hA i hi
  obtain ⟨k, hk⟩ : ∃ k, k = l[i].1 := ⟨_, rfl⟩
  rw [← hk] at c0 ⊢
  have hi0 : (i : Int) < (l.length : Int) := by omega
  obtain ⟨B, hB⟩ : ∃ B, B = ltT k key := ⟨_, rfl⟩
  have hB' : Op.bytesLess k.toList key.toList = B := hB.symm
  rw [← hB]
  clear hA hk hB
  cases B
  all_goals
    go_enter Tryz.func137, Tryz.ntmps137
    go_wp2
    go_quiet (fail)
    go_wp2
    go_ret
    exact ⟨rfl, _, rfl⟩
set_option maxRecDepth 100000 in
set_option maxHeartbeats 2000000 in
theorem pf_find (l : List PairV) (A : Option Addr) (cap : Nat) (key : ByteArray) (w : World) (hn : l.length ≤ 1000) (hs : SortL l) (hA : PsAt w A l) :
    Calls Tryz.prog 88 #[.slice A l.length cap, .string key] w fun e w' => e = .returned (.tuple #[.int .i64 (plc l key : Nat), .bool (isIn l key)]) ∧ Below w.heap.size w w' := by
  have b1 := Kq.below_alloc w (.cells #[.slice A l.length cap] 35)
  have n1 := Kq.blk_new w #[.slice A l.length cap] 35 (0, 0)
  have z1 : (w.alloc (.cells #[.slice A l.length cap] 35)).heap.size = w.heap.size + 1 := by simp
  have b2 := Kq.below_alloc (w.alloc (.cells #[.slice A l.length cap] 35)) (.cells #[.string key] 9)
  have n2 := Kq.blk_new (w.alloc (.cells #[.slice A l.length cap] 35)) #[.string key] 9 (0, 0)
  rw [z1] at n2 b2
  have HW : Hid (Below w.heap.size w ((w.alloc (.cells #[.slice A l.length cap] 35)).alloc (.cells #[.string key] 9)) ∧ PsAt ((w.alloc (.cells #[.slice A l.length cap] 35)).alloc (.cells #[.string key] 9)) A l ∧ ((w.alloc (.cells #[.slice A l.length cap] 35)).alloc (.cells #[.string key] 9)).cell? ⟨w.heap.size, 0, none⟩ = some (.slice A l.length cap) ∧ ((w.alloc (.cells #[.slice A l.length cap] 35)).alloc (.cells #[.string key] 9)).cell? ⟨w.heap.size + 1, 0, none⟩ = some (.string key)) :=
    Lib.hid ⟨b1.trans (b2.mono (by omega)), (hA.below b1).below (by rw [z1]; exact b2), Kq.blk_cell (Kq.below_blk b2 n1 (by omega)) 0, Kq.blk_cell n2 0⟩
  obtain ⟨p, hp⟩ : ∃ p, p = plc l key := ⟨_, rfl⟩
  have hple : p ≤ l.length := by rw [hp]; exact plc_le l key
  have HPL : Hid (∀ i (h : i < l.length), (!ltT l[i].1 key) = decide (p ≤ i)) := Lib.hid (fun i h => by
    rw [plc_at l key hs i h, ← hp]
    by_cases g : i < p
    · rw [decide_eq_true g, decide_eq_false (by omega)]; rfl
    · rw [decide_eq_false g, decide_eq_true (by omega)]; rfl)
  have HIN : Hid (isIn l key = decide (∃ h : p < l.length, l[p].1 = key)) := Lib.hid (by subst hp; rfl)
  rw [← hp]
  have HN := Lib.hid hn
  have HLE := Lib.hid hple
  clear hA hs hp b1 b2 n1 n2 z1 hple
  go_enter Tryz.func88, Tryz.ntmps88
  have HS := Lib.hid (search_okP l.length p HLE.out (by have := HN.out; omega) (.pointer (some ⟨w.heap.size, 0, none⟩)) (.pointer (some ⟨w.heap.size + 1, 0, none⟩)) ((w.alloc (.cells #[.slice A l.length cap] 35)).alloc (.cells #[.string key] 9)) (fun q i hi => by
    refine (pf_find1 l A cap w.heap.size (w.heap.size + 1) i key (World.drewN _ q) hi (by have := HN.out; omega) (HW.out.2.1.below (below_drewN (Below.refl _ _) q)) HW.out.2.2.1 HW.out.2.2.2).mono ?_
    rintro e w' ⟨rfl, r, rfl⟩
    exact ⟨by rw [HPL.out i hi], q + r, by simp [World.drewN, Nat.add_assoc]⟩))
  go_wp2_with fail
  refine HS.out.mono ?_
  rintro x w2 ⟨rfl, r, hw2⟩
  have HW2 : Hid (Below w.heap.size w w2 ∧ PsAt w2 A l ∧ w2.cell? ⟨w.heap.size, 0, none⟩ = some (.slice A l.length cap) ∧ w2.cell? ⟨w.heap.size + 1, 0, none⟩ = some (.string key)) := Lib.hid (by
    rw [hw2]
    exact ⟨below_drewN HW.out.1 r, HW.out.2.1.below (below_drewN (Below.refl _ _) r), HW.out.2.2.1, HW.out.2.2.2⟩)
  clear hw2 HS HW HPL
  have c0 := HW2.out.2.2.1
  have c1 := HW2.out.2.2.2
  have hn' := HN.out
  have hle := HLE.out
  by_cases hlt : p < l.length
  · obtain ⟨b, off, rfl, -, d0, -⟩ := HW2.out.2.1 p hlt
    have hi0 : (p : Int) < (l.length : Int) := by omega
    have e0 : decide ((p : Int) < (l.length : Int)) = true := decide_eq_true hi0
    have e1 : decide (p < l.length) = true := decide_eq_true hlt
    obtain ⟨k, hk⟩ : ∃ k, k = l[p].1 := ⟨_, rfl⟩
    rw [← hk] at d0
    have HI : Hid (isIn l key = (k.toList == key.toList)) := Lib.hid (by
      rw [HIN.out]
      by_cases g : k = key
      · rw [decide_eq_true ⟨hlt, by rw [← hk]; exact g⟩, g]; simp
      · rw [decide_eq_false (fun ⟨_, h⟩ => g (by rw [hk]; exact h))]
        rw [eq_comm, beq_eq_false_iff_ne]
        exact fun h => g (toList_inj h))
    clear hk hlt HIN
    obtain ⟨BB, hBB⟩ : ∃ BB, BB = (k.toList == key.toList) := ⟨_, rfl⟩
    rw [← hBB] at HI
    have hBB' : (k.toList == key.toList) = BB := hBB.symm
    clear hBB
    cases BB
    all_goals
      go_wp2
      go_quiet (fail)
      have HD : Hid (∀ n, Below w.heap.size w (w2.drewN n)) := Lib.hid (fun n => below_drewN HW2.out.1 n)
      go_wp2
      go_ret2
      exact ⟨by rw [HI.out]; rfl, HD.out _⟩
  · obtain rfl : p = l.length := by omega
    have e0 : decide ((l.length : Int) < (l.length : Int)) = false := decide_eq_false (by omega)
    have e1 : decide (l.length < l.length) = false := decide_eq_false (by omega)
    have HI : Hid (isIn l key = false) := Lib.hid (by rw [HIN.out]; exact decide_eq_false (fun ⟨h, _⟩ => hlt h))
    clear hlt HIN hle
    go_wp2
    go_quiet (fail)
    have HD : Hid (∀ n, Below w.heap.size w (w2.drewN n)) := Lib.hid (fun n => below_drewN HW2.out.1 n)
    go_wp2
    go_ret2
    exact ⟨by rw [HI.out]; rfl, HD.out _⟩
/-- what a call tells that tells a leaf of a map -/
def MlPost (w : World) (l : List PairV) (i : Nat) (x : Ending) (w' : World) : Prop :=
  ∃ z : LfW, z.l = mkLf l i ∧ x = .returned z.val ∧ TxN w' (fun k => k < w.heap.size) z.a z.l.p ∧ z.l.p.length ≤ z.cap ∧ Below w.heap.size w w'
def PrB (w' : World) (b o : Nat) (k v : ByteArray) : Prop := w'.cell? ⟨b, o, none⟩ = some (.string k) ∧ w'.cell? ⟨b, o + 1, none⟩ = some (.string v)
set_option maxRecDepth 100000 in
set_option maxHeartbeats 2000000 in
theorem pf_leaf (l : List PairV) (A : Option Addr) (cap i : Nat) (w : World) (hn : l.length ≤ 1000) (hf : Fit l) (hA : PsAt w A l) (hL : LaidOk w) (hcap : l.length ≤ cap) (hi : i < l.length) :
    Calls Tryz.prog 90 #[.slice A l.length cap, .int .i64 (i : Int)] w (MlPost w l i) := by
  obtain ⟨b, off, rfl, hb, c0, c1⟩ := hA i hi
  obtain ⟨k, hk⟩ : ∃ k, k = l[i].1 := ⟨_, rfl⟩
  obtain ⟨v, hv⟩ : ∃ v, v = l[i].2 := ⟨_, rfl⟩
  rw [← hk] at c0
  rw [← hv] at c1
  have HMK : Hid (mkLf l i = ⟨(i : Int), (l.length : Int), k, v, pathL l i⟩) := Lib.hid (by unfold mkLf; rw [getD_at hi, hk, hv])
  have hi0 : (i : Int) < (l.length : Int) := by omega
  have ba := Kq.below_alloc w (Obj.cells #[Value.int IntKind.i64 0, Value.int IntKind.i64 0, Value.string ⟨#[]⟩, Value.string ⟨#[]⟩, Value.slice none 0 0] 108)
  have HW : Hid (Below w.heap.size w (w.alloc (Obj.cells #[Value.int IntKind.i64 0, Value.int IntKind.i64 0, Value.string ⟨#[]⟩, Value.string ⟨#[]⟩, Value.slice none 0 0] 108)).drew ∧ LB (w.alloc (Obj.cells #[Value.int IntKind.i64 0, Value.int IntKind.i64 0, Value.string ⟨#[]⟩, Value.string ⟨#[]⟩, Value.slice none 0 0] 108)).drew w.heap.size 0 0 ⟨#[]⟩ ⟨#[]⟩ (.slice none 0 0) ∧ PrB (w.alloc (Obj.cells #[Value.int IntKind.i64 0, Value.int IntKind.i64 0, Value.string ⟨#[]⟩, Value.string ⟨#[]⟩, Value.slice none 0 0] 108)).drew b (off + i * 2) k v) :=
    Lib.hid ⟨ba.drew, ⟨Kq.blk_new w #[Value.int IntKind.i64 0, Value.int IntKind.i64 0, Value.string ⟨#[]⟩, Value.string ⟨#[]⟩, Value.slice none 0 0] 108 (0, 0)⟩, (ba.cell (p := ⟨b, off + i * 2, none⟩) hb).trans c0, (ba.cell (p := ⟨b, off + i * 2 + 1, none⟩) hb).trans c1⟩
  have HPA := Lib.hid (mk_path l.length l i (some ⟨b, off, none⟩) cap _ (Nat.le_refl _) (by omega) hf (hA.below ba.drew) (hL.later ba.drew) hcap hi)
  obtain ⟨ps, hps⟩ : ∃ ps, ps = pathL l i := ⟨_, rfl⟩
  rw [← hps] at HPA HMK
  have HB := Lib.hid hb
  clear hA hf hL hcap hi hk hv c0 c1 ba hps hb
  go_enter Tryz.func90, Tryz.ntmps90
  go_wp2
  refine Kq.wp_region_T 11 (fun cur => PrB cur b (off + i * 2) k v) (by kernel_rfl) HW.out.2.2 (fun hS0 => ?_)
  obtain ⟨z0, hz0⟩ : ∃ z, z = (w.alloc (Obj.cells #[Value.int IntKind.i64 0, Value.int IntKind.i64 0, Value.string ⟨#[]⟩, Value.string ⟨#[]⟩, Value.slice none 0 0] 108)).drew := ⟨_, rfl⟩
  rw [← hz0] at HW HPA hS0 ⊢
  clear hz0
  unfold PrB at hS0
  dsimp only [PrB]
  refine Kq.wpAnyT_take (i := 0) (v := ?_) rfl rfl (by kernel_rfl) (by kernel_rfl) (by kernel_rfl) (by kernel_rfl) (fun _ _ _ h => h) (Or.inl ⟨by kernel_rfl, ?_⟩) (by assumption) ?_
  rotate_left
  · intro w hSw; (try dsimp only at hSw); go_simp; (try with_reducible rfl)
  refine Kq.wpAnyT_take (i := 1) (v := ?_) rfl rfl (by kernel_rfl) (by kernel_rfl) (by kernel_rfl) (by kernel_rfl) (fun _ _ _ h => h) (Or.inl ⟨by kernel_rfl, ?_⟩) (by assumption) ?_
  rotate_left
  · intro w hSw; (try dsimp only at hSw); go_simp; (try with_reducible rfl)
  refine Kq.wpAnyT_take (i := 2) (v := ?_) rfl rfl (by kernel_rfl) (by kernel_rfl) (by kernel_rfl) (by kernel_rfl) (fun _ _ _ h => h) (Or.inl ⟨by kernel_rfl, ?_⟩) (by assumption) ?_
  rotate_left
  · intro w hSw; (try dsimp only at hSw); go_simp; (try with_reducible rfl)
  refine Kq.wpAnyT_take (i := 3) (v := ?_) rfl rfl (by kernel_rfl) (by kernel_rfl) (by kernel_rfl) (by kernel_rfl) (fun _ _ _ h => h) (Or.inl ⟨by kernel_rfl, ?_⟩) (by assumption) ?_
  rotate_left
  · intro w hSw; (try dsimp only at hSw); go_simp; (try with_reducible rfl)
  refine Kq.wpAnyT_take (i := 4) (v := ?_) rfl rfl (by kernel_rfl) (by kernel_rfl) (by kernel_rfl) (by kernel_rfl) (fun _ _ _ h => h) (Or.inl ⟨by kernel_rfl, ?_⟩) (by assumption) ?_
  rotate_left
  · intro w hSw; (try dsimp only at hSw); go_simp; (try with_reducible rfl)
  refine Kq.wpAnyT_take (i := 5) (v := ?_) rfl rfl (by kernel_rfl) (by kernel_rfl) (by kernel_rfl) (by kernel_rfl) (fun _ _ _ h => h) (Or.inl ⟨by kernel_rfl, ?_⟩) (by assumption) ?_
  rotate_left
  · intro w hSw; (try dsimp only at hSw); go_simp; (try with_reducible rfl)
  refine Kq.wpAnyT_take (i := 6) (v := ?_) rfl rfl (by kernel_rfl) (by kernel_rfl) (by kernel_rfl) (by kernel_rfl) (fun _ _ _ h => h) (Or.inl ⟨by kernel_rfl, ?_⟩) (by assumption) ?_
  rotate_left
  · intro w hSw; (try dsimp only at hSw); go_simp; (try with_reducible rfl)
  refine Kq.wpAnyT_take (i := 7) (v := ?_) rfl rfl (by kernel_rfl) (by kernel_rfl) (by kernel_rfl) (by kernel_rfl) (fun _ _ _ h => h) (Or.inl ⟨by kernel_rfl, ?_⟩) (by assumption) ?_
  rotate_left
  · intro w hSw; (try dsimp only at hSw); go_simp; (try with_reducible rfl)
  refine Kq.wpAnyT_take (i := 8) (v := ?_) rfl rfl (by kernel_rfl) (by kernel_rfl) (by kernel_rfl) (by kernel_rfl) (fun _ _ _ h => h) (Or.inl ⟨by kernel_rfl, ?_⟩) (by assumption) ?_
  rotate_left
  · intro w hSw; (try dsimp only at hSw); go_simp; (try with_reducible rfl)
  refine Kq.wpAnyT_one (i := 9) (by kernel_rfl) rfl (fun K hK => ?_)
  go_simp
  refine HPA.out.mono ?_
  rintro x z1 ⟨pv, rfl, hown, b1⟩
  have HZ : Hid (w.heap.size < z0.heap.size) := Lib.hid HW.out.2.1.lt
  obtain ⟨A', cap', rfl, hc', htx⟩ := row_txn (S := fun k => k < w.heap.size + 1) hown (fun k hk => by have := HZ.out; omega)
  have H1 : Hid (Below w.heap.size w z1 ∧ LB z1 w.heap.size 0 0 ⟨#[]⟩ ⟨#[]⟩ (.slice none 0 0) ∧ PrB z1 b (off + i * 2) k v ∧ TxN z1 (fun k => k < w.heap.size + 1) A' ps ∧ ps.length ≤ cap') := Lib.hid (by
    have hb0 : b < z0.heap.size := by have := HB.out; have := HZ.out; omega
    exact ⟨HW.out.1.trans (b1.mono HW.out.1.size), ⟨Kq.below_blk b1 HW.out.2.1.blk HZ.out⟩, ⟨(b1.cell (p := ⟨b, off + i * 2, none⟩) hb0).trans HW.out.2.2.1, (b1.cell (p := ⟨b, off + i * 2 + 1, none⟩) hb0).trans HW.out.2.2.2⟩, htx, hc'⟩)
  clear hown b1 hc' htx HPA HW hS0
  refine hK.out _ _ H1.out.2.2.1 (fun hS0 => ?_)
  clear hK K
  have r0 := H1.out.2.1.c0
  have r1 := H1.out.2.1.c1
  have r2 := H1.out.2.1.c2
  have r3 := H1.out.2.1.c3
  have r4 := H1.out.2.1.c4
  have g0 := H1.out.2.1.fz 0
  have g1 := H1.out.2.1.fz 1
  have g2 := H1.out.2.1.fz 2
  have g3 := H1.out.2.1.fz 3
  have g4 := H1.out.2.1.fz 4
  refine Kq.wpAnyT_take (i := 10) (v := ?_) rfl rfl (by kernel_rfl) (by kernel_rfl) (by kernel_rfl) (by kernel_rfl) (fun _ _ _ h => h) (Or.inl ⟨by kernel_rfl, ?_⟩) (by assumption) ?_
  rotate_left
  · intro w hSw; (try dsimp only at hSw); go_simp; (try with_reducible rfl)
  refine Kq.wpAnyT_last (by kernel_rfl) rfl (fun K hK => ?_)
  go_simp
  refine hK.out _ _ ?_
  clear hK K
  refine Kq.wpAnyT_done (by kernel_rfl) ?_ _
  go_simp
  go_wp2
  have p1 := H1.out.2.1.fill (i : Int) (l.length : Int) k v (.slice A' ps.length cap')
  have p2 := filled5_keeps z1 w.heap.size (i : Int) (l.length : Int) k v (.slice A' ps.length cap')
  obtain ⟨Wf, hWf⟩ : ∃ Wf, Wf = filled5 z1 w.heap.size (i : Int) (l.length : Int) k v (.slice A' ps.length cap') := ⟨_, rfl⟩
  change bodyPost _ _ _ _ _ (filled5 z1 w.heap.size (i : Int) (l.length : Int) k v (.slice A' ps.length cap'))
  rw [← hWf] at p1 p2 ⊢
  have z0 := p1.c0
  have z1 := p1.c1
  have z2 := p1.c2
  have z3 := p1.c3
  have z4 := p1.c4
  refine bodyPost_ret (v := .agg #[.int .i64 (i : Int), .int .i64 (l.length : Int), .string k, .string v, .slice A' ps.length cap']) (by simp [results, Tryz.results90, go_sem, z0, z1, z2, z3, z4]) rfl ?_
  exact ⟨⟨⟨(i : Int), (l.length : Int), k, v, ps⟩, A', cap'⟩, HMK.out.symm, rfl, (H1.out.2.2.2.1.keeps p2 (fun k _ hk => by omega)).mono (fun k _ hk => by omega), H1.out.2.2.2.2, below_far H1.out.1 p2 (Nat.le_refl _) (fun k _ hk => by omega)⟩
set_option maxRecDepth 100000 in
set_option maxHeartbeats 1000000 in
theorem pf_of (ab : Bool) (A : Option Addr) (n cap : Nat) (w : World) :
    Calls Tryz.prog 89 #[.bool ab, .slice A n cap] w fun x w' => x = .returned (.agg #[.bool ab, .slice A n cap]) ∧ Below w.heap.size w w' := by
  have ba := Kq.below_alloc w (Obj.cells #[.bool false, .slice none 0 0] 102)
  have H1 : Hid (Below w.heap.size w (w.alloc (.cells #[.bool ab, .slice A n cap] 102)) ∧ PBk (w.alloc (.cells #[.bool ab, .slice A n cap] 102)) w.heap.size ab (.slice A n cap)) := Lib.hid ⟨Kq.below_alloc _ _, ⟨Kq.blk_new _ _ _ _⟩⟩
  clear ba
  go_enter Tryz.func89, Tryz.ntmps89
  go_wp2
  have z0 := H1.out.2.c0
  have z1 := H1.out.2.c1
  refine bodyPost_ret (v := .agg #[.bool ab, .slice A n cap]) (by simp [results, Tryz.results89, go_sem, z0, z1]) rfl ?_
  exact ⟨rfl, H1.out.1⟩
end Go.Proofs.YtbjchfcoacmaaaaGreatDoor
namespace Go.Proofs.YtbjchfcoacmaaaaGreatDoor
open Go.RowKit
set_option linter.unusedVariables false
def presV (l : List PairV) (key : ByteArray) : PfV × Int := if isIn l key = true then (pfHas l key, 0) else (⟨false, []⟩, 3)
def absV (l : List PairV) (key : ByteArray) : PfV × Int := if isKeyB key = false then (⟨false, []⟩, 1) else if isIn l key = true then (⟨false, []⟩, 4) else (pfNot l key, 0)
theorem made_leaves (ls : List LfW) (w : World) {W : Nat} (hW : W ≤ w.heap.size) (h : ∀ z ∈ ls, TxN w (fun k => k < W) z.a z.l.p ∧ z.l.p.length ≤ z.cap) :
    LfsN (w.alloc (.cells (LfE.flat ls).toArray 108)) (fun k => k < W) (some ⟨w.heap.size, 0, none⟩) ls := by
  refine LfsN.of (fun i hi => ⟨_, 0, rfl, by simp, fun j hj => ?_⟩) (fun b off e _ => ?_) (fun z hz => ⟨(h z hz).1.below (Kq.below_alloc _ _), (h z hz).2⟩)
  · rw [Nat.zero_add, Kq.blk_cell (Kq.blk_new w _ _ _), List.getElem?_toArray]
    exact LfE.flat_at ls i hi j hj
  · simp only [Option.some.injEq, Addr.mk.injEq] at e
    omega
theorem pf_endP {w w5 : World} {r : PfV × Int} {A : Option Addr} {q cap : Nat} {ls : List LfW} {ab : Bool} {e : Int} (hq : q = ls.length) (hcap : ls.length ≤ cap) (hv : vals ls = r.1.ls) (hab : ab = r.1.ab) (he : e = r.2) (hA : LfsN w5 (fun k => k < w.heap.size + 1) A ls) (hb : Below w.heap.size w w5) {x : Ending} (hx : x = .returned (.tuple #[.agg #[.bool ab, .slice A q cap], .int .i64 e])) :
    PfPost w r x (filled2 w5 w.heap.size ab (.slice A q cap)) := by
  have p2 := filled2_keeps w5 w.heap.size ab (.slice A q cap)
  exact PfPost.mk' ls hq hv hcap ((hA.keeps p2 (fun k _ hk => by omega)).mono (fun k _ hk => by omega)) (below_far hb p2 (Nat.le_refl _) (fun k _ hk => by omega)) hab he hx
theorem pk_start (w : World) : Below w.heap.size w (w.alloc (.cells #[.bool false, .slice none 0 0] 102)) ∧ PBk (w.alloc (.cells #[.bool false, .slice none 0 0] 102)) w.heap.size false (.slice none 0 0) := ⟨Kq.below_alloc _ _, ⟨Kq.blk_new _ _ _ _⟩⟩
/-- what stands while a proof is made: the list, the constants, the result's block -/
structure Pm (w : World) (l : List PairV) (A : Option Addr) (w' : World) : Prop where
  bel : Below w.heap.size w w'
  rb : PBk w' w.heap.size false (.slice none 0 0)
  a : PsAt w' A l
  lk : LaidOk w'
theorem Pm.below {w w' w2 : World} {l : List PairV} {A : Option Addr} (h : Pm w l A w') (hb : Below w'.heap.size w' w2) : Pm w l A w2 := ⟨h.bel.trans (hb.mono h.bel.size), h.rb.below hb, h.a.below hb, h.lk.later hb⟩
theorem Pm.start {w : World} {l : List PairV} {A : Option Addr} (hA : PsAt w A l) (hL : LaidOk w) : Pm w l A (w.alloc (.cells #[.bool false, .slice none 0 0] 102)) := ⟨(pk_start w).1, (pk_start w).2, hA.below (pk_start w).1, hL.later (pk_start w).1⟩
set_option maxRecDepth 100000 in
set_option maxHeartbeats 2000000 in
theorem pf_present (l : List PairV) (A : Option Addr) (cap : Nat) (key : ByteArray) (w : World) (hn : l.length ≤ 1000) (hs : SortL l) (hf : Fit l) (hA : PsAt w A l) (hL : LaidOk w) (hcap : l.length ≤ cap) :
    Calls Tryz.prog 50 #[.slice A l.length cap, .string key] w (PfPost w (presV l key)) := by
  have H0 := Lib.hid (Pm.start hA hL)
  have HF := Lib.hid (fun w' h => pf_find l A cap key w' hn hs h)
  have HLF := Lib.hid (fun i w' h1 h2 h3 => pf_leaf l A cap i w' hn hf h1 h2 hcap h3)
  have HI := Lib.hid (fun (h : isIn l key = true) => (of_decide_eq_true h).choose)
  have HN := Lib.hid hn
  obtain ⟨RV, hRV⟩ : ∃ RV, RV = presV l key := ⟨_, rfl⟩
  rw [← hRV]
  have HRV := Lib.hid hRV
  clear hA hL hs hf hcap hRV
  go_enter Tryz.func50, Tryz.ntmps50
  go_wp2_with fail
  refine (HF.out _ H0.out.a).mono ?_
  rintro x w2 ⟨rfl, b2⟩
  have H2 := Lib.hid (H0.out.below b2)
  clear b2 H0 HF
  obtain ⟨is, his⟩ : ∃ is, is = isIn l key := ⟨_, rfl⟩
  rw [← his]
  have HIS := Lib.hid his
  clear his
  have r0 := H2.out.rb.c0
  have r1 := H2.out.rb.c1
  have g0 := H2.out.rb.fz 0
  have g1 := H2.out.rb.fz 1
  cases is with
  | false =>
    have HE : Hid (RV = (⟨false, []⟩, 3)) := Lib.hid (by rw [HRV.out]; unfold presV; rw [← HIS.out]; rfl)
    have HEND : Hid (∀ x, x = .returned (.tuple #[.agg #[.bool false, .slice none 0 0], .int .i64 3]) → PfPost w RV x (filled2 w2 w.heap.size false (.slice none 0 0))) := Lib.hid (fun x hx => by
      rw [HE.out]
      exact pf_endP (ls := []) rfl (Nat.le_refl _) rfl rfl rfl LfsN.nil H2.out.bel hx)
    have p1 := Lib.hid (H2.out.rb.fill false (.slice none 0 0))
    go_wp2
    obtain ⟨Wf, hWf⟩ : ∃ Wf, Wf = filled2 w2 w.heap.size false (.slice none 0 0) := ⟨_, rfl⟩
    change bodyPost _ _ _ _ _ (filled2 w2 w.heap.size false (.slice none 0 0))
    rw [← hWf] at p1 HEND ⊢
    have z0 := p1.out.c0
    have z1 := p1.out.c1
    refine bodyPost_ret (v := .tuple #[.agg #[.bool false, .slice none 0 0], .int .i64 3]) (by simp [results, Tryz.results50, go_sem, z0, z1]) rfl ?_
    exact HEND.out _ rfl
  | true =>
    have hp := HI.out HIS.out.symm
    have HP := Lib.hid hp
    have HE : Hid (RV = (⟨false, [mkLf l (plc l key)]⟩, 0)) := Lib.hid (by rw [HRV.out]; unfold presV; rw [← HIS.out]; rfl)
    obtain ⟨p, hpp⟩ : ∃ p, p = plc l key := ⟨_, rfl⟩
    rw [← hpp] at HP HE ⊢
    clear hp hpp HI HIS
    go_wp2_with fail
    refine (HLF.out p w2 H2.out.a H2.out.lk HP.out).mono ?_
    rintro x w3 ⟨z, hz, rfl, htx, hzc, b3⟩
    have hW : w.heap.size + 1 ≤ w2.heap.size := H2.out.rb.lt
    have HZ := Lib.hid hz
    have H3 := Lib.hid (H2.out.below b3)
    have HML := Lib.hid (made_leaves [z] w3 (W := w.heap.size + 1) (Nat.le_trans hW b3.size) (fun y hy => by rw [List.mem_singleton] at hy; rw [hy]; exact ⟨htx.mono (fun k _ hk => by omega), hzc⟩))
    have hba := Kq.below_alloc w3 (.cells (LfE.flat [z]).toArray 108)
    have H4 := Lib.hid (H3.out.below hba)
    clear b3 H2 HLF hW hz htx hzc r0 r1 g0 g1 hba H3
    obtain ⟨⟨i, c, k, v, ps⟩, za, zc⟩ := z
    simp only [LfW.val, LfE, Kq.Elt.flat, LfW.cells, List.flatMap_cons, List.flatMap_nil, List.append_nil] at HML H4 ⊢
    go_wp2_with fail
    refine (pf_of false _ 1 1 _).mono ?_
    rintro x w5 ⟨rfl, b5⟩
    have H5 := Lib.hid (H4.out.below b5)
    have HML5 := Lib.hid (HML.out.below b5)
    clear b5 H4 HML
    have r0 := H5.out.rb.c0
    have r1 := H5.out.rb.c1
    have g0 := H5.out.rb.fz 0
    have g1 := H5.out.rb.fz 1
    have HEND : Hid (∀ x, x = .returned (.tuple #[.agg #[.bool false, .slice (some ⟨w3.heap.size, 0, none⟩) 1 1], .int .i64 0]) → PfPost w RV x (filled2 w5 w.heap.size false (.slice (some ⟨w3.heap.size, 0, none⟩) 1 1))) := Lib.hid (fun x hx => by
      rw [HE.out]
      exact pf_endP (ls := [⟨⟨i, c, k, v, ps⟩, za, zc⟩]) rfl (Nat.le_refl _) (by rw [← HZ.out]; rfl) rfl rfl HML5.out H5.out.bel hx)
    have p1 := Lib.hid (H5.out.rb.fill false (.slice (some ⟨w3.heap.size, 0, none⟩) 1 1))
    go_wp2
    obtain ⟨Wf, hWf⟩ : ∃ Wf, Wf = filled2 w5 w.heap.size false (.slice (some ⟨w3.heap.size, 0, none⟩) 1 1) := ⟨_, rfl⟩
    change bodyPost _ _ _ _ _ (filled2 w5 w.heap.size false (.slice (some ⟨w3.heap.size, 0, none⟩) 1 1))
    rw [← hWf] at p1 HEND ⊢
    have z0 := p1.out.c0
    have z1 := p1.out.c1
    refine bodyPost_ret (v := .tuple #[.agg #[.bool false, .slice (some ⟨w3.heap.size, 0, none⟩) 1 1], .int .i64 0]) (by simp [results, Tryz.results50, go_sem, z0, z1]) rfl ?_
    exact HEND.out _ rfl
end Go.Proofs.YtbjchfcoacmaaaaGreatDoor
namespace Go.Proofs.YtbjchfcoacmaaaaGreatDoor
open Go.RowKit
set_option linter.unusedVariables false
theorem isInG {l : List PairV} {key : ByteArray} (h : isIn l key = true) : ∃ h : plc l key < l.length, l[plc l key].1 = key := of_decide_eq_true h
theorem pathL_ten (l : List PairV) (i : Nat) (h : l.length ≤ 1000) : (pathL l i).length ≤ 10 := by
  rw [pathL_dep _ l i (Nat.le_refl _)]
  exact dep_log 10 i _ (by omega)
theorem mkLf_mayG (l : List PairV) (i : Nat) (h : i < l.length) (hl : l.length ≤ 1000) (hs : ∀ p ∈ l, p.1.size ≤ 16 ∧ p.2.size ≤ 64) : LfMay (mkLf l i) := by
  have h2 := hs l[i] (List.getElem_mem _)
  have hd := pathL_ten l i hl
  unfold mkLf
  rw [getD_at h]
  exact ⟨by simp only; omega, by simp only; omega, by simp only; omega, by simp only; omega, h2.1, h2.2, by simp only; omega, fun x hx => pathL_size _ l i (Nat.le_refl _) x hx⟩
theorem smallP.sz {l : List PairV} (h : smallP l) : ∀ p ∈ l, p.1.size ≤ 16 ∧ p.2.size ≤ 64 := fun p hp => (h.2.2 p hp).2
theorem pfHas_mayG {l : List PairV} {key : ByteArray} (hc : smallP l) (h40 : l.length ≤ 1000) (h : isIn l key = true) : PfMay (pfHas l key) := by
  obtain ⟨hp, -⟩ := isInG h
  refine ⟨by unfold pfHas; simp, fun L hL => ?_⟩
  unfold pfHas at hL
  simp only [List.mem_singleton] at hL
  rw [hL]
  exact mkLf_mayG l _ hp h40 hc.sz
theorem pfNot_mayG {l : List PairV} {key : ByteArray} (hc : smallP l) (h40 : l.length ≤ 1000) : PfMay (pfNot l key) := by
  have hm : ∀ i, i < l.length → LfMay (mkLf l i) := fun i hi => mkLf_mayG l i hi h40 hc.sz
  have hpl := plc_le l key
  refine ⟨?_, fun L hL => ?_⟩
  · unfold pfNot
    simp only [List.length_append]
    have h1 : (if plc l key = 0 then [] else [mkLf l (plc l key - 1)]).length ≤ 1 := by split <;> simp
    have h2 : (if plc l key < l.length then [mkLf l (plc l key)] else []).length ≤ 1 := by split <;> simp
    omega
  · unfold pfNot at hL
    rcases List.mem_append.1 hL with h | h
    · by_cases h0 : plc l key = 0
      · rw [if_pos h0] at h; cases h
      · rw [if_neg h0, List.mem_singleton] at h
        rw [h]; exact hm _ (by omega)
    · by_cases h0 : plc l key < l.length
      · rw [if_pos h0, List.mem_singleton] at h
        rw [h]; exact hm _ h0
      · rw [if_neg h0] at h; cases h
/-- bytes of what may be, parsed -/
theorem parse_bytesG {p : PfV} (hm : PfMay p) : pfBytes p = (txt (pfB p), 0) ∧ pfParse (txt (pfB p)) = (p, 0) := ⟨if_pos hm, pfParse_some hm (nl_txt _ (pfB_lt hm)).symm⟩
theorem mkG {l : List PairV} {i : Nat} (h : i < l.length) : (mkLf l i).k = l[i].1 ∧ (mkLf l i).v = l[i].2 ∧ (mkLf l i).i = (i : Int) ∧ (mkLf l i).c = (l.length : Int) := by unfold mkLf; rw [getD_at h]; exact ⟨rfl, rfl, rfl, rfl⟩
theorem has_madeG {l : List PairV} {key : ByteArray} (h40 : l.length ≤ 1000) (h : isIn l key = true) (other : ByteArray) : hasP (rootL l) key other (pfHas l key) = decide (other = (mkLf l (plc l key)).v) := by
  obtain ⟨hp, he⟩ := isInG h
  have hk := mkG hp
  have hcl := mkLf_climb l _ hp (by omega)
  unfold pfHas hasP
  simp only
  rw [hk.1, he]
  have : clB (rootL l) [mkLf l (plc l key)] = true := by unfold clB; simp [hcl]
  rw [this, Bool.and_true]
  by_cases hv : other = (mkLf l (plc l key)).v
  · rw [decide_eq_true ⟨rfl, hv.symm⟩, decide_eq_true hv]
  · rw [decide_eq_false (fun hh => hv hh.2.symm), decide_eq_false hv]
end Go.Proofs.YtbjchfcoacmaaaaGreatDoor
namespace Go.Proofs.YtbjchfcoacmaaaaGreatDoor
open Go.RowKit
set_option linter.unusedVariables false
theorem absV_key {l : List PairV} {key : ByteArray} (h : isKeyB key = false) : absV l key = (⟨false, []⟩, 1) := if_pos h
theorem absV_in {l : List PairV} {key : ByteArray} (h : isKeyB key = true) (h2 : isIn l key = true) : absV l key = (⟨false, []⟩, 4) := by unfold absV; rw [if_neg (by rw [h]; decide), if_pos h2]
theorem absV_ok {l : List PairV} {key : ByteArray} (h : isKeyB key = true) (h2 : isIn l key = false) : absV l key = (pfNot l key, 0) := by unfold absV; rw [if_neg (by rw [h]; decide), if_neg (by rw [h2]; decide)]
set_option maxRecDepth 100000 in
set_option maxHeartbeats 1000000 in
theorem pf_absent (l : List PairV) (A : Option Addr) (cap : Nat) (key : ByteArray) (w : World) (hn : l.length ≤ 1000) (hs : SortL l) (hf : Fit l) (hA : PsAt w A l) (hL : LaidOk w) (hcap : l.length ≤ cap) :
    Calls Tryz.prog 51 #[.slice A l.length cap, .string key] w (PfPost w (absV l key)) := by
  have H0 := Lib.hid (Pm.start hA hL)
  have HF := Lib.hid (fun w' h => pf_find l A cap key w' hn hs h)
  have HK := Lib.hid (fun w' => pf_isKey key w')
  have HLF := Lib.hid (fun i w' h1 h2 h3 => pf_leaf l A cap i w' hn hf h1 h2 hcap h3)
  have HPN : Hid (pfNot l key = ⟨true, (if plc l key = 0 then [] else [mkLf l (plc l key - 1)]) ++ (if plc l key < l.length then [mkLf l (plc l key)] else [])⟩) := Lib.hid rfl
  have HPL := Lib.hid (plc_le l key)
  have HN := Lib.hid hn
  obtain ⟨RV, hRV⟩ : ∃ RV, RV = absV l key := ⟨_, rfl⟩
  rw [← hRV]
  have HRV := Lib.hid hRV
  obtain ⟨KB, hKB⟩ : ∃ KB, KB = isKeyB key := ⟨_, rfl⟩
  have HKB := Lib.hid hKB
  rw [← hKB] at HK
  clear hA hL hs hf hcap hRV hKB hn
  go_enter Tryz.func51, Tryz.ntmps51
  go_wp2_with fail
  refine (HK.out _).mono ?_
  rintro x w1 ⟨rfl, rfl⟩
  cases KB with
  | false =>
    have HE : Hid (RV = (⟨false, []⟩, 1)) := Lib.hid (by rw [HRV.out]; exact absV_key HKB.out.symm)
    have HEND : Hid (∀ x, x = .returned (.tuple #[.agg #[.bool false, .slice none 0 0], .int .i64 1]) → PfPost w RV x (w.alloc (.cells #[.bool false, .slice none 0 0] 102))) := Lib.hid (fun x hx => by
      rw [HE.out]
      exact PfPost.mk' (A := none) (q := 0) (cap := 0) [] rfl rfl (Nat.le_refl _) LfsN.nil (pk_start w).1 (ab := false) (e := 1) rfl rfl hx)
    have z0 := (pk_start w).2.c0
    have z1 := (pk_start w).2.c1
    go_wp2
    refine bodyPost_ret (v := .tuple #[.agg #[.bool false, .slice none 0 0], .int .i64 1]) (by simp [results, Tryz.results51, go_sem, z0, z1]) rfl ?_
    exact HEND.out _ rfl
  | true =>
    go_wp2_with fail
    refine (HF.out _ H0.out.a).mono ?_
    rintro x w2 ⟨rfl, b2⟩
    have H2 := Lib.hid (H0.out.below b2)
    clear b2 H0 HF
    obtain ⟨is, his⟩ : ∃ is, is = isIn l key := ⟨_, rfl⟩
    rw [← his]
    have HIS := Lib.hid his
    have hW : Hid (w.heap.size + 1 ≤ w2.heap.size) := Lib.hid H2.out.rb.lt
    clear his
    have r0 := H2.out.rb.c0
    have r1 := H2.out.rb.c1
    have g0 := H2.out.rb.fz 0
    have g1 := H2.out.rb.fz 1
    cases is with
    | true =>
      have HE : Hid (RV = (⟨false, []⟩, 4)) := Lib.hid (by rw [HRV.out]; exact absV_in HKB.out.symm HIS.out.symm)
      have HEND : Hid (∀ x, x = .returned (.tuple #[.agg #[.bool false, .slice none 0 0], .int .i64 4]) → PfPost w RV x (filled2 w2 w.heap.size false (.slice none 0 0))) := Lib.hid (fun x hx => by
        rw [HE.out]
        exact pf_endP (ls := []) rfl (Nat.le_refl _) rfl rfl rfl LfsN.nil H2.out.bel hx)
      have p1 := Lib.hid (H2.out.rb.fill false (.slice none 0 0))
      go_wp2
      obtain ⟨Wf, hWf⟩ : ∃ Wf, Wf = filled2 (w2) w.heap.size false (.slice none 0 0) := ⟨_, rfl⟩
      change bodyPost _ _ _ _ _ (filled2 (w2) w.heap.size false (.slice none 0 0))
      rw [← hWf] at p1 HEND ⊢
      have z0 := p1.out.c0
      have z1 := p1.out.c1
      refine bodyPost_ret (v := .tuple #[.agg #[.bool false, .slice none 0 0], .int .i64 4]) (by simp [results, Tryz.results51, go_sem, z0, z1]) rfl ?_
      exact HEND.out _ rfl
    | false =>
      have HE0 : Hid (RV = (pfNot l key, 0)) := Lib.hid (by rw [HRV.out]; exact absV_ok HKB.out.symm HIS.out.symm)
      obtain ⟨p, hpp⟩ : ∃ p, p = plc l key := ⟨_, rfl⟩
      rw [← hpp] at HPN HPL ⊢
      clear hpp HRV HIS HKB HK
      have hn' := HN.out
      have hpl := HPL.out
      obtain ⟨n, hnn⟩ : ∃ n, n = l.length := ⟨_, rfl⟩
      rw [← hnn] at HPN hn' hpl HLF ⊢
      have HNN := Lib.hid hnn
      clear hnn
      by_cases hn0 : n = 0
      · have HE : Hid (RV = (⟨true, []⟩, 0)) := Lib.hid (by rw [HE0.out, HPN.out, if_pos (by omega), if_neg (by omega)]; rfl)
        have e1 : ((n : Int) == 0) = true := by rw [beq_iff_eq]; omega
        clear hn0 r0 r1 g0 g1
        go_wp2_with fail
        refine (pf_of true none 0 0 _).mono ?_
        rintro x w5 ⟨rfl, b5⟩
        have H5 := Lib.hid (H2.out.below b5)
        clear b5 H2
        have r0 := H5.out.rb.c0
        have r1 := H5.out.rb.c1
        have g0 := H5.out.rb.fz 0
        have g1 := H5.out.rb.fz 1
        have HEND : Hid (∀ x, x = .returned (.tuple #[.agg #[.bool true, .slice none 0 0], .int .i64 0]) → PfPost w RV x (filled2 w5 w.heap.size true (.slice none 0 0))) := Lib.hid (fun x hx => by
          rw [HE.out]
          exact pf_endP (ls := []) rfl (Nat.le_refl _) rfl rfl rfl LfsN.nil H5.out.bel hx)
        have p1 := Lib.hid (H5.out.rb.fill true (.slice none 0 0))
        go_wp2
        obtain ⟨Wf, hWf⟩ : ∃ Wf, Wf = filled2 (w5) w.heap.size true (.slice none 0 0) := ⟨_, rfl⟩
        change bodyPost _ _ _ _ _ (filled2 (w5) w.heap.size true (.slice none 0 0))
        rw [← hWf] at p1 HEND ⊢
        have z0 := p1.out.c0
        have z1 := p1.out.c1
        refine bodyPost_ret (v := .tuple #[.agg #[.bool true, .slice none 0 0], .int .i64 0]) (by simp [results, Tryz.results51, go_sem, z0, z1]) rfl ?_
        exact HEND.out _ rfl
      · have e1 : ((n : Int) == 0) = false := by rw [beq_eq_false_iff_ne]; omega
        by_cases hp0 : p = 0
        · subst hp0
          have HE : Hid (RV = (⟨true, [mkLf l 0]⟩, 0)) := Lib.hid (by rw [HE0.out, HPN.out, if_pos rfl, if_pos (by omega)]; rfl)
          have HX : Hid (0 < n) := Lib.hid (by omega)
          clear r0 r1 g0 g1
          go_wp2_with fail
          refine (HLF.out 0 w2 H2.out.a H2.out.lk HX.out).mono ?_
          rintro x w3 ⟨z, hz, rfl, htx, hzc, b3⟩
          have HZ := Lib.hid hz
          have H3 := Lib.hid (H2.out.below b3)
          have HML := Lib.hid (made_leaves [z] w3 (W := w.heap.size + 1) (Nat.le_trans hW.out b3.size) (fun y hy => by rw [List.mem_singleton] at hy; rw [hy]; exact ⟨htx.mono (fun k _ hk => by have := hW.out; omega), hzc⟩))
          have hba := Kq.below_alloc w3 (.cells (LfE.flat [z]).toArray 108)
          have H4 := Lib.hid (H3.out.below hba)
          clear b3 H2 HLF hz htx hzc hba H3
          obtain ⟨⟨i, c, k, v, ps⟩, za, zc⟩ := z
          simp only [LfW.val, LfE, Kq.Elt.flat, LfW.cells, List.flatMap_cons, List.flatMap_nil, List.append_nil] at HML H4 ⊢
          go_wp2_with fail
          refine (pf_of true _ 1 1 _).mono ?_
          rintro x w5 ⟨rfl, b5⟩
          have H5 := Lib.hid (H4.out.below b5)
          have HML5 := Lib.hid (HML.out.below b5)
          clear b5 H4 HML
          have r0 := H5.out.rb.c0
          have r1 := H5.out.rb.c1
          have g0 := H5.out.rb.fz 0
          have g1 := H5.out.rb.fz 1
          have HEND : Hid (∀ x, x = .returned (.tuple #[.agg #[.bool true, .slice (some ⟨w3.heap.size, 0, none⟩) 1 1], .int .i64 0]) → PfPost w RV x (filled2 w5 w.heap.size true (.slice (some ⟨w3.heap.size, 0, none⟩) 1 1))) := Lib.hid (fun x hx => by
            rw [HE.out]
            exact pf_endP (ls := [⟨⟨i, c, k, v, ps⟩, za, zc⟩]) rfl (Nat.le_refl _) (by rw [← HZ.out]; rfl) rfl rfl HML5.out H5.out.bel hx)
          have p1 := Lib.hid (H5.out.rb.fill true (.slice (some ⟨w3.heap.size, 0, none⟩) 1 1))
          go_wp2
          obtain ⟨Wf, hWf⟩ : ∃ Wf, Wf = filled2 (w5) w.heap.size true (.slice (some ⟨w3.heap.size, 0, none⟩) 1 1) := ⟨_, rfl⟩
          change bodyPost _ _ _ _ _ (filled2 (w5) w.heap.size true (.slice (some ⟨w3.heap.size, 0, none⟩) 1 1))
          rw [← hWf] at p1 HEND ⊢
          have z0 := p1.out.c0
          have z1 := p1.out.c1
          refine bodyPost_ret (v := .tuple #[.agg #[.bool true, .slice (some ⟨w3.heap.size, 0, none⟩) 1 1], .int .i64 0]) (by simp [results, Tryz.results51, go_sem, z0, z1]) rfl ?_
          exact HEND.out _ rfl
        · have e2 : ((p : Int) == 0) = false := by rw [beq_eq_false_iff_ne]; omega
          obtain ⟨q, hq⟩ : ∃ q, q = p - 1 := ⟨_, rfl⟩
          have HQ := Lib.hid hq
          have hw1 : IntKind.i64.wrap ((p : Int) - 1) = (q : Int) := by rw [IntWalk.i64_in _ (by omega)]; omega
          have hw2 : (p : Int) - 1 = (q : Int) := by omega
          have HX : Hid (q < n) := Lib.hid (by omega)
          have HP1 : Hid (1 ≤ p) := Lib.hid (by omega)
          clear hq
          by_cases hpn : p = n
          · have HE : Hid (RV = (⟨true, [mkLf l q]⟩, 0)) := Lib.hid (by rw [HE0.out, HPN.out, if_neg hp0, if_neg (by omega), HQ.out]; rfl)
            have e3 : ((p : Int) == (n : Int)) = true := by rw [beq_iff_eq]; omega
            clear hp0 hn0 hpn
            clear r0 r1 g0 g1
            go_wp2_with fail
            refine (HLF.out q w2 H2.out.a H2.out.lk HX.out).mono ?_
            rintro x w3 ⟨z, hz, rfl, htx, hzc, b3⟩
            have HZ := Lib.hid hz
            have H3 := Lib.hid (H2.out.below b3)
            have HML := Lib.hid (made_leaves [z] w3 (W := w.heap.size + 1) (Nat.le_trans hW.out b3.size) (fun y hy => by rw [List.mem_singleton] at hy; rw [hy]; exact ⟨htx.mono (fun k _ hk => by have := hW.out; omega), hzc⟩))
            have hba := Kq.below_alloc w3 (.cells (LfE.flat [z]).toArray 108)
            have H4 := Lib.hid (H3.out.below hba)
            clear b3 H2 HLF hz htx hzc hba H3
            obtain ⟨⟨i, c, k, v, ps⟩, za, zc⟩ := z
            simp only [LfW.val, LfE, Kq.Elt.flat, LfW.cells, List.flatMap_cons, List.flatMap_nil, List.append_nil] at HML H4 ⊢
            go_wp2_with fail
            refine (pf_of true _ 1 1 _).mono ?_
            rintro x w5 ⟨rfl, b5⟩
            have H5 := Lib.hid (H4.out.below b5)
            have HML5 := Lib.hid (HML.out.below b5)
            clear b5 H4 HML
            clear hw1 hw2
            have r0 := H5.out.rb.c0
            have r1 := H5.out.rb.c1
            have g0 := H5.out.rb.fz 0
            have g1 := H5.out.rb.fz 1
            have HEND : Hid (∀ x, x = .returned (.tuple #[.agg #[.bool true, .slice (some ⟨w3.heap.size, 0, none⟩) 1 1], .int .i64 0]) → PfPost w RV x (filled2 w5 w.heap.size true (.slice (some ⟨w3.heap.size, 0, none⟩) 1 1))) := Lib.hid (fun x hx => by
              rw [HE.out]
              exact pf_endP (ls := [⟨⟨i, c, k, v, ps⟩, za, zc⟩]) rfl (Nat.le_refl _) (by rw [← HZ.out]; rfl) rfl rfl HML5.out H5.out.bel hx)
            have p1 := Lib.hid (H5.out.rb.fill true (.slice (some ⟨w3.heap.size, 0, none⟩) 1 1))
            go_wp2
            obtain ⟨Wf, hWf⟩ : ∃ Wf, Wf = filled2 (w5) w.heap.size true (.slice (some ⟨w3.heap.size, 0, none⟩) 1 1) := ⟨_, rfl⟩
            change bodyPost _ _ _ _ _ (filled2 (w5) w.heap.size true (.slice (some ⟨w3.heap.size, 0, none⟩) 1 1))
            rw [← hWf] at p1 HEND ⊢
            have z0 := p1.out.c0
            have z1 := p1.out.c1
            refine bodyPost_ret (v := .tuple #[.agg #[.bool true, .slice (some ⟨w3.heap.size, 0, none⟩) 1 1], .int .i64 0]) (by simp [results, Tryz.results51, go_sem, z0, z1]) rfl ?_
            exact HEND.out _ rfl
          · have HE : Hid (RV = (⟨true, [mkLf l q, mkLf l p]⟩, 0)) := Lib.hid (by rw [HE0.out, HPN.out, if_neg hp0, if_pos (by omega), HQ.out]; rfl)
            have e3 : ((p : Int) == (n : Int)) = false := by rw [beq_eq_false_iff_ne]; omega
            have HX2 : Hid (p < n) := Lib.hid (by omega)
            clear hp0 hn0 hpn
            clear r0 r1 g0 g1
            go_wp2_with fail
            refine (HLF.out q w2 H2.out.a H2.out.lk HX.out).mono ?_
            rintro x w3 ⟨y, hy, rfl, hty, hyc, b3⟩
            have HY := Lib.hid (And.intro hy (And.intro hty hyc))
            have H3 := Lib.hid (H2.out.below b3)
            have hW3 : Hid (w.heap.size + 1 ≤ w3.heap.size) := Lib.hid (Nat.le_trans hW.out b3.size)
            clear b3 H2 hy hty hyc
            go_wp2_with fail
            refine (HLF.out p w3 H3.out.a H3.out.lk HX2.out).mono ?_
            rintro x w4 ⟨z, hz, rfl, htz, hzc, b4⟩
            have HZ := Lib.hid hz
            have H4a := Lib.hid (H3.out.below b4)
            have HML := Lib.hid (made_leaves [y, z] w4 (W := w.heap.size + 1) (Nat.le_trans hW3.out b4.size) (fun u hu => by
              simp only [List.mem_cons, List.not_mem_nil, or_false] at hu
              rcases hu with rfl | rfl
              · exact ⟨(HY.out.2.1.below b4).mono (fun k _ hk => by have := hW.out; omega), HY.out.2.2⟩
              · exact ⟨htz.mono (fun k _ hk => by have := hW3.out; omega), hzc⟩))
            have hba := Kq.below_alloc w4 (.cells (LfE.flat [y, z]).toArray 108)
            have H4 := Lib.hid (H4a.out.below hba)
            clear b4 H3 HLF hz htz hzc hba H4a hw1 hw2
            have HYZ : Hid (y.l = mkLf l q) := Lib.hid HY.out.1
            clear HY
            obtain ⟨⟨i, c, k, v, ps⟩, za, zc⟩ := z
            obtain ⟨⟨i', c', k', v', ps'⟩, za', zc'⟩ := y
            simp only [LfW.val, LfE, Kq.Elt.flat, LfW.cells, List.flatMap_cons, List.flatMap_nil, List.append_nil, List.cons_append, List.nil_append] at HML H4 ⊢
            go_wp2_with fail
            refine (pf_of true _ 2 2 _).mono ?_
            rintro x w5 ⟨rfl, b5⟩
            have H5 := Lib.hid (H4.out.below b5)
            have HML5 := Lib.hid (HML.out.below b5)
            clear b5 H4 HML
            have r0 := H5.out.rb.c0
            have r1 := H5.out.rb.c1
            have g0 := H5.out.rb.fz 0
            have g1 := H5.out.rb.fz 1
            have HEND : Hid (∀ x, x = .returned (.tuple #[.agg #[.bool true, .slice (some ⟨w4.heap.size, 0, none⟩) 2 2], .int .i64 0]) → PfPost w RV x (filled2 w5 w.heap.size true (.slice (some ⟨w4.heap.size, 0, none⟩) 2 2))) := Lib.hid (fun x hx => by
              rw [HE.out]
              exact pf_endP (ls := [⟨⟨i', c', k', v', ps'⟩, za', zc'⟩, ⟨⟨i, c, k, v, ps⟩, za, zc⟩]) rfl (Nat.le_refl _) (by rw [← HZ.out, ← HYZ.out]; rfl) rfl rfl HML5.out H5.out.bel hx)
            have p1 := Lib.hid (H5.out.rb.fill true (.slice (some ⟨w4.heap.size, 0, none⟩) 2 2))
            go_wp2
            obtain ⟨Wf, hWf⟩ : ∃ Wf, Wf = filled2 (w5) w.heap.size true (.slice (some ⟨w4.heap.size, 0, none⟩) 2 2) := ⟨_, rfl⟩
            change bodyPost _ _ _ _ _ (filled2 (w5) w.heap.size true (.slice (some ⟨w4.heap.size, 0, none⟩) 2 2))
            rw [← hWf] at p1 HEND ⊢
            have z0 := p1.out.c0
            have z1 := p1.out.c1
            refine bodyPost_ret (v := .tuple #[.agg #[.bool true, .slice (some ⟨w4.heap.size, 0, none⟩) 2 2], .int .i64 0]) (by simp [results, Tryz.results51, go_sem, z0, z1]) rfl ?_
            exact HEND.out _ rfl
end Go.Proofs.YtbjchfcoacmaaaaGreatDoor
