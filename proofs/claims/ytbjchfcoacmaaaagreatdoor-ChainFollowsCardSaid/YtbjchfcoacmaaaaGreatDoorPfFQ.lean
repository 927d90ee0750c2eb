/- Merged: PfBy, PfPs, PfF. Contract of proof.Bytes. Condition: sizes. Contract of proof.Parse. Condition: lengths. Contracts of proof.find, leaf, of. Condition: sizes; the constants lie where they lie. -/
import Derived.WalkSpells
import Derived.Outline
import Derived.Test.YtbjchfcoacmaaaaGreatDoorPfBQ
import Derived.Deep.QuietTactic
import Derived.BigQuiet
import Derived.Test.YtbjchfcoacmaaaaGreatDoorPfSeQ
import Derived.Test.YtbjchfcoacmaaaaGreatDoorMkPQ
namespace Go.Proofs.YtbjchfcoacmaaaaGreatDoor
open Go.RowKit
set_option linter.unusedVariables false
/-- in the midst of Bytes: behind w2, with l written -/
structure ByMid (w2 : World) (l : List Nat) (wr : World) : Prop where
  ex : ∃ v, WrMid (w2.alloc (.cells #[.int .i64 0, .slice none 0 0] 159)) w2.heap.size w2.heap.size (.slice none 0 0) 0 v l wr
theorem ByMid.below {w2 wr : World} {l : List Nat} (h : ByMid w2 l wr) : Below w2.heap.size w2 wr := by
  obtain ⟨v, h⟩ := h.ex
  exact WrMid.below h
theorem ByMid.belowM {w2 wr w' : World} {l : List Nat} (h : ByMid w2 l wr) (hb : Below wr.heap.size wr w') : ByMid w2 l w' := by
  obtain ⟨v, h⟩ := h.ex
  exact ⟨v, h.belowM hb⟩
theorem ByMid.step {w2 wr w' : World} {l l' : List Nat} {v : Value} (h : WrMid (w2.alloc (.cells #[.int .i64 0, .slice none 0 0] 159)) w2.heap.size w2.heap.size (.slice none 0 0) 0 v l wr) {x : Ending} (hp : WrAny wr w2.heap.size w2.heap.size v 0 l' x w') : ByMid w2 l' w' := by
  obtain ⟨v', h'⟩ := h.step hp
  exact ⟨v', h'⟩
/-- .. with a box beside it -/
structure ByBox (w2 : World) (l : List Nat) (X : Nat) (o : Obj) (wr : World) : Prop where
  ex : ∃ v, WrMid (w2.alloc (.cells #[.int .i64 0, .slice none 0 0] 159)) w2.heap.size w2.heap.size (.slice none 0 0) 0 v l wr ∧ wr.heap[X]? = some o ∧ (X ≠ w2.heap.size ∧ some X ≠ v.ownBlock)
theorem ByBox.mid {w2 wr : World} {l : List Nat} {X : Nat} {o : Obj} (h : ByBox w2 l X o wr) : ByMid w2 l wr := by
  obtain ⟨v, h, _⟩ := h.ex
  exact ⟨v, h⟩
theorem ByBox.blk {w2 wr : World} {l : List Nat} {X : Nat} {o : Obj} (h : ByBox w2 l X o wr) : wr.heap[X]? = some o := by
  obtain ⟨v, _, h, _⟩ := h.ex
  exact h
theorem ByMid.box {w2 wr : World} {l : List Nat} (h : ByMid w2 l wr) (cs : Array Value) (T : TypeId) : ByBox w2 l wr.heap.size (.cells cs T (0, 0)) (wr.alloc (.cells cs T)) := by
  obtain ⟨v, h⟩ := h.ex
  refine ⟨v, h.belowM (Kq.below_alloc _ _), Kq.blk_new _ _ _ _, ?_, ?_⟩
  · have := Kq.blk_lt h.it.blk; omega
  · exact fun hc => Nat.lt_irrefl _ (h.it.own.lt _ hc.symm).2
/-- the writing calls, each in a contract of this shape -/
def ByPost (w2 : World) (l : List Nat) (x : Ending) (w' : World) : Prop := x = .returned (.tuple #[]) ∧ ByMid w2 l w'
def BxPost (w2 : World) (l : List Nat) (X : Nat) (o : Obj) (x : Ending) (w' : World) : Prop := x = .returned (.tuple #[]) ∧ ByBox w2 l X o w'
section
variable {w2 wr : World} {l : List Nat} {X : Nat} {o : Obj}
theorem by_byte (h : ByMid w2 l wr) (n : Nat) (hn : n ≤ 255) (hl : l.length ≤ 1000000) : Calls Tryz.prog 92 #[.pointer (some ⟨w2.heap.size, 0, none⟩), .int .i64 (n : Int)] wr (ByPost w2 (l ++ [n])) := by
  obtain ⟨v, h⟩ := h.ex
  refine (wr_byte_ok _ _ 0 v l n wr h.it hn (by omega)).mono fun x w' hp => ⟨hp.1, ByMid.step h hp.any⟩
theorem by_raw (h : ByMid w2 l wr) (s : ByteArray) (hl : l.length + s.size ≤ 1000000) : Calls Tryz.prog 95 #[.pointer (some ⟨w2.heap.size, 0, none⟩), .string s] wr (ByPost w2 (l ++ nl s)) := by
  obtain ⟨v, h⟩ := h.ex
  refine (wr_raw _ _ 0 v l s wr h.it (by omega)).mono fun x w' hp => ⟨hp.1, ByMid.step h hp.any⟩
theorem bx_of {l' : List Nat} {v : Value} (h : WrMid (w2.alloc (.cells #[.int .i64 0, .slice none 0 0] 159)) w2.heap.size w2.heap.size (.slice none 0 0) 0 v l wr) (hb : wr.heap[X]? = some o) (hX : X ≠ w2.heap.size ∧ some X ≠ v.ownBlock) {x : Ending} {w' : World} (hp : WrAny wr w2.heap.size w2.heap.size v 0 l' x w') : BxPost w2 l' X o x w' := by
  obtain ⟨v', h1, h2, h3⟩ := h.stepX hp hb hX
  exact ⟨hp.1, v', h1, h2, h3⟩
theorem bx_number (h : ByBox w2 l X o wr) (n : Nat) (hn : n < M64) (hl : l.length ≤ 1000000) : Calls Tryz.prog 93 #[.pointer (some ⟨w2.heap.size, 0, none⟩), .int .u64 (n : Int)] wr (BxPost w2 (l ++ num8 n) X o) := by
  obtain ⟨v, h, hb, hX⟩ := h.ex
  exact (wr_number _ _ 0 v l n wr h.it hn (by omega)).mono fun x w' hp => bx_of h hb hX hp
theorem bx_text (h : ByBox w2 l X o wr) (s : ByteArray) (hs : s.size ≤ 65535) (hl : l.length ≤ 1000000) : Calls Tryz.prog 94 #[.pointer (some ⟨w2.heap.size, 0, none⟩), .string s] wr (BxPost w2 (l ++ tx2 s) X o) := by
  obtain ⟨v, h, hb, hX⟩ := h.ex
  refine (wr_text_ok _ _ 0 v l s wr h.it hs (by omega)).mono fun x w' hp => ?_
  rw [List.append_assoc] at hp
  exact bx_of h hb hX hp
theorem bx_byte (h : ByBox w2 l X o wr) (n : Nat) (hn : n ≤ 255) (hl : l.length ≤ 1000000) : Calls Tryz.prog 92 #[.pointer (some ⟨w2.heap.size, 0, none⟩), .int .i64 (n : Int)] wr (BxPost w2 (l ++ [n]) X o) := by
  obtain ⟨v, h, hb, hX⟩ := h.ex
  exact (wr_byte_ok _ _ 0 v l n wr h.it hn (by omega)).mono fun x w' hp => bx_of h hb hX hp.any
end
theorem by_bytes {w2 wr : World} {l : List Nat} (h : ByMid w2 l wr) (hl : ∀ b ∈ l, b < 256) : Calls Tryz.prog 96 #[.pointer (some ⟨w2.heap.size, 0, none⟩)] wr fun x w' => x = .returned (.tuple #[.string (txt l), .int .i64 0]) ∧ wr = w' := by
  obtain ⟨v, h⟩ := h.ex
  exact wr_bytes_ok _ _ v l wr h.it hl
set_option maxRecDepth 100000 in
set_option maxHeartbeats 2000000 in
theorem pf_bytes_no (S : Nat → Prop) (ab : Bool) (A : Option Addr) (cap : Nat) (ls : List LfW) (w : World) (hA : LfsN w S A ls) (hn : ls.length ≤ 1000) (hp : ∀ x ∈ ls, x.l.p.length ≤ 1000) (hno : ¬ ((vals ls).length ≤ 2 ∧ ∀ l ∈ vals ls, LfMay l)) :
    Calls Tryz.prog 52 #[.agg #[.bool ab, .slice A ls.length cap]] w (BsPost w (pfBytes ⟨ab, vals ls⟩)) := by
  have HE : Hid (pfBytes ⟨ab, vals ls⟩ = (⟨#[]⟩, 1)) := Lib.hid (pfBytes_no hno)
  rw [HE.out]
  have hb0 := Kq.below_alloc w (.cells #[.bool ab, .slice A ls.length cap] 102)
  have HM := Lib.hid (pf_may S A cap ls _ (hA.below hb0) hn hp)
  have HN : Hid (mayB (vals ls) = false) := Lib.hid (mayB_no hno)
  have HB := Lib.hid hb0
  clear hA hp hno hb0
  clear HE
  cases ab
  all_goals
    go_enter Tryz.func52, Tryz.ntmps52
    go_wp2_with fail
    refine HM.out.mono ?_
    rintro x w2 ⟨rfl, b2⟩
    rw [HN.out]
    have H2 : Hid (Below w.heap.size w w2) := Lib.hid (HB.out.trans (b2.mono HB.out.size))
    clear b2 HM
    go_wp2
    go_ret2
    exact ⟨rfl, H2.out⟩
set_option maxRecDepth 100000 in
set_option maxHeartbeats 4000000 in
theorem pf_bytes_yes_f (S : Nat → Prop) (A : Option Addr) (cap : Nat) (ls : List LfW) (w : World) (hA : LfsN w S A ls) (hyes : (vals ls).length ≤ 2 ∧ ∀ l ∈ vals ls, LfMay l) :
    Calls Tryz.prog 52 #[.agg #[.bool false, .slice A ls.length cap]] w (BsPost w (pfBytes ⟨false, vals ls⟩)) := by
  have HE : Hid (pfBytes ⟨false, vals ls⟩ = (txt ([1] ++ ([ls.length] ++ lsB (vals ls))), 0)) := Lib.hid (by
    rw [pfBytes_yes (p := ⟨false, vals ls⟩) hyes]; unfold pfB; simp only [if_false, Bool.false_eq_true]; rw [vals_len])
  have HLT : Hid (∀ b ∈ [1] ++ ([ls.length] ++ lsB (vals ls)), b < 256) := Lib.hid (by
    have := pfB_lt (p := ⟨false, vals ls⟩) hyes
    unfold pfB at this; simp only [if_false, Bool.false_eq_true] at this; rwa [vals_len] at this)
  rw [HE.out]
  have hn2 : ls.length ≤ 2 := by have := hyes.1; rwa [vals_len] at this
  have hp16 : ∀ x ∈ ls, x.l.p.length ≤ 1000 := fun x hx => by have := (hyes.2 x.l (List.mem_map_of_mem hx)).n; omega
  have hb0 := Kq.below_alloc w (.cells #[.bool false, .slice A ls.length cap] 102)
  have HM := Lib.hid (pf_may S A cap ls _ (hA.below hb0) (by omega) hp16)
  have HN : Hid (mayB (vals ls) = true) := Lib.hid (mayB_yes hyes)
  have HB := Lib.hid (And.intro hb0 (And.intro (hA.below hb0) (Kq.blk_new w #[.bool false, .slice A ls.length cap] 102 (0, 0))))
  have HY := Lib.hid hyes
  have H2N := Lib.hid hn2
  clear hA hyes hb0 hp16
  clear HE
  go_enter Tryz.func52, Tryz.ntmps52
  go_wp2_with fail
  refine HM.out.mono ?_
  rintro x w2 ⟨rfl, b2⟩
  rw [HN.out]
  have H2 : Hid (Below w.heap.size w w2 ∧ LfsN w2 S A ls ∧ w2.heap[w.heap.size]? = some (.cells #[.bool false, .slice A ls.length cap] 102 (0, 0)) ∧ w.heap.size < w2.heap.size) := Lib.hid ⟨HB.out.1.trans (b2.mono HB.out.1.size), HB.out.2.1.below b2, Kq.below_blk b2 HB.out.2.2 (Kq.blk_lt HB.out.2.2), Nat.lt_of_lt_of_le (Kq.blk_lt HB.out.2.2) b2.size⟩
  clear b2 HM HB
  have HW : Hid (ByMid w2 [] (w2.alloc (.cells #[.int .i64 0, .slice none 0 0] 159))) := Lib.hid ⟨_, WrMid.start (wr_new w2)⟩
  have HX : Hid (∀ wr l, ByMid w2 l wr → wr.cell? ⟨w.heap.size, 0, none⟩ = some (.bool false) ∧ wr.cell? ⟨w.heap.size, 1, none⟩ = some (.slice A ls.length cap)) := Lib.hid (fun wr l h => by
    have hb := Kq.below_blk h.below H2.out.2.2.1 H2.out.2.2.2
    exact ⟨Kq.blk_cell hb 0, Kq.blk_cell hb 1⟩)
  have HP1 : Hid (Calls Tryz.prog 92 #[.pointer (some ⟨w2.heap.size, 0, none⟩), .int .i64 1] (w2.alloc (.cells #[.int .i64 0, .slice none 0 0] 159)) (ByPost w2 ([] ++ [1]))) := Lib.hid (by_byte HW.out 1 (by decide) (by simp))
  rw [List.nil_append] at HP1
  have c0 := (HX.out _ _ HW.out).1
  have c1 := (HX.out _ _ HW.out).2
  obtain ⟨pre, hpre⟩ : ∃ pre, pre = [1] := ⟨_, rfl⟩
  have HPL : Hid (pre.length = 1) := Lib.hid (by rw [hpre]; rfl)
  rw [← hpre] at HP1 HLT
  have HPRE := Lib.hid hpre
  clear hpre
  go_wp2_with fail
  refine HP1.out.mono ?_
  rintro x w3 ⟨rfl, H3⟩
  have H3 := Lib.hid H3
  clear c0 c1 HP1
  have c0 := (HX.out _ _ H3.out).1
  have c1 := (HX.out _ _ H3.out).2
  go_wp2_with fail
  refine (by_byte H3.out ls.length (by omega) (by have := HPL.out; omega)).mono ?_
  rintro x w4 ⟨rfl, H4⟩
  have H4 := Lib.hid H4
  clear c0 c1 H3
  have c0 := (HX.out _ _ H4.out).1
  have c1 := (HX.out _ _ H4.out).2
  go_wp2
  clear c0 c1
  go_loopw [24] (fun i wr => ∃ j : Nat, j ≤ ls.length ∧ i = .int .i64 (j : Int) ∧ ByMid w2 (pre ++ ([ls.length] ++ lsB ((vals ls).take j))) wr) (fun i _ => ls.length - (intOf i).toNat)
  case atStart => exact ⟨0, by omega, rfl, by simpa [lsB, List.append_assoc] using H4.out⟩
  case round =>
    obtain ⟨j, hj, rfl, hmid⟩ := hrel
    have HMID := Lib.hid hmid
    have hn2 := H2N.out
    clear hmid
    by_cases hlt : j < ls.length
    · obtain ⟨b, off, rfl, -, hb, hc, ht, -⟩ := (H2.out.2.1.below HMID.out.below) j hlt
      have hv : j < (vals ls).length := by rw [vals_len]; exact hlt
      have hmay : LfMay ls[j].l := HY.out.2 _ (vals_mem hlt)
      have HLB : Hid ((pre ++ ([ls.length] ++ lsB ((vals ls).take j))).length ≤ 10000) := Lib.hid (by
        have h1 := lsB_len ((vals ls).take j) (fun x hx => HY.out.2 x (List.mem_of_mem_take hx))
        have h2 : ((vals ls).take j).length ≤ 2 := by rw [List.length_take, vals_len]; omega
        have h3 := HPL.out
        simp only [List.length_append, List.length_cons, List.length_nil]; omega)
      have HTK : Hid (lsB ((vals ls).take (j + 1)) = lsB ((vals ls).take j) ++ lfB ls[j].l) := Lib.hid (by rw [lsB_take _ _ hv]; simp [vals])
      obtain ⟨b', off', he', -, -, -, ht2, -⟩ := H2.out.2.1 j hlt
      clear he'
      obtain ⟨x, hx⟩ : ∃ x, x = ls[j] := ⟨_, rfl⟩
      rw [← hx] at hc ht hmay HTK ht2
      have HLT2 := Lib.hid hlt
      have hi0 : (j : Int) < (ls.length : Int) := by omega
      clear hb hx hv
      obtain ⟨⟨i, c, k, v, p⟩, a, cp⟩ := x
      obtain ⟨c0, c1, c2, c3, c4⟩ := hc
      simp only at c0 c1 c2 c3 c4 ht hmay HTK ht2
      have HT2 := Lib.hid ht2
      clear ht2
      have HMAY := Lib.hid hmay
      obtain ⟨iN, rfl⟩ := Int.eq_ofNat_of_zero_le hmay.i0
      obtain ⟨cN, rfl⟩ := Int.eq_ofNat_of_zero_le hmay.c0
      have hiN : iN ≤ 4096 := by have := hmay.i1; simp only at this; omega
      have hcN : cN ≤ 4096 := by have := hmay.c1; simp only at this; omega
      have hpn : p.length ≤ 16 := hmay.n
      have hks : k.size ≤ 16 := hmay.k
      have hvs : v.size ≤ 64 := hmay.v
      have hw1 : IntKind.u64.wrap (iN : Int) = (iN : Int) := IntWalk.u64_in _ (by omega)
      have hw2 : IntKind.u64.wrap (cN : Int) = (cN : Int) := IntWalk.u64_in _ (by omega)
      obtain ⟨L0, hL0⟩ : ∃ L0, L0 = pre ++ ([ls.length] ++ lsB ((vals ls).take j)) := ⟨_, rfl⟩
      rw [← hL0] at HMID HLB
      have HL0 := Lib.hid hL0
      have hL := HLB.out
      have HBX := Lib.hid (HMID.out.box #[.int .i64 (iN : Int), .int .i64 (cN : Int), .string k, .string v, .slice a p.length cp] 108)
      clear hmay ht hL0
      go_wp2_with fail
      refine (bx_number HBX.out iN (by unfold M64; omega) (by omega)).mono ?_
      rintro x w5 ⟨rfl, H5⟩
      have H5 := Lib.hid H5
      clear c0 c1 c2 c3 c4 HBX
      have c0 := Kq.blk_cell H5.out.blk 0
      have c1 := Kq.blk_cell H5.out.blk 1
      have c2 := Kq.blk_cell H5.out.blk 2
      have c3 := Kq.blk_cell H5.out.blk 3
      have c4 := Kq.blk_cell H5.out.blk 4
      simp only [List.getElem?_toArray, List.getElem?_cons_zero, List.getElem?_cons_succ] at c0 c1 c2 c3 c4
      go_wp2_with fail
      refine (bx_number H5.out cN (by unfold M64; omega) (by simp only [List.length_append, num8_length]; omega)).mono ?_
      rintro x w6 ⟨rfl, H6⟩
      have H6 := Lib.hid H6
      clear c0 c1 c2 c3 c4 H5
      have c2 := Kq.blk_cell H6.out.blk 2
      have c3 := Kq.blk_cell H6.out.blk 3
      have c4 := Kq.blk_cell H6.out.blk 4
      simp only [List.getElem?_toArray, List.getElem?_cons_zero, List.getElem?_cons_succ] at c2 c3 c4
      go_wp2_with fail
      refine (bx_text H6.out k (by omega) (by simp only [List.length_append, num8_length]; omega)).mono ?_
      rintro x w7 ⟨rfl, H7⟩
      have H7 := Lib.hid H7
      clear c2 c3 c4 H6
      have c3 := Kq.blk_cell H7.out.blk 3
      have c4 := Kq.blk_cell H7.out.blk 4
      simp only [List.getElem?_toArray, List.getElem?_cons_zero, List.getElem?_cons_succ] at c3 c4
      go_wp2_with fail
      refine (bx_text H7.out v (by omega) (by simp only [List.length_append, num8_length, tx2, nl_length, List.length_cons, List.length_nil]; omega)).mono ?_
      rintro x w8 ⟨rfl, H8⟩
      have H8 := Lib.hid H8
      clear c3 c4 H7
      have c4 := Kq.blk_cell H8.out.blk 4
      simp only [List.getElem?_toArray, List.getElem?_cons_zero, List.getElem?_cons_succ] at c4
      go_wp2_with fail
      refine (bx_byte H8.out p.length (by omega) (by simp only [List.length_append, num8_length, tx2, nl_length, List.length_cons, List.length_nil]; omega)).mono ?_
      rintro x w9 ⟨rfl, H9⟩
      have H9 := Lib.hid H9
      clear c4 H8
      have c4 := Kq.blk_cell H9.out.blk 4
      simp only [List.getElem?_toArray, List.getElem?_cons_zero, List.getElem?_cons_succ] at c4
      obtain ⟨L1, hL1⟩ : ∃ L1, L1 = L0 ++ num8 iN ++ num8 cN ++ tx2 k ++ tx2 v ++ [p.length] := ⟨_, rfl⟩
      rw [← hL1] at H9
      have HL1 : Hid (L1.length ≤ 10200 ∧ L1 ++ rawL p = L0 ++ lfB ⟨(iN : Int), (cN : Int), k, v, p⟩) := Lib.hid ⟨by rw [hL1]; simp only [List.length_append, num8_length, tx2, nl_length, List.length_cons, List.length_nil]; omega, by rw [hL1]; unfold lfB; simp only [Int.toNat_natCast, List.append_assoc]⟩
      clear hL1
      go_wp2
      clear c4
      go_loopw [51] (fun u wr => ∃ m : Nat, m ≤ p.length ∧ u = .int .i64 (m : Int) ∧ ByMid w2 (L1 ++ rawL (p.take m)) wr) (fun u _ => p.length - (intOf u).toNat)
      case atStart => exact ⟨0, by omega, rfl, by simpa [rawL] using H9.out.mid⟩
      case round =>
        obtain ⟨m, hm, rfl, hmid⟩ := hrel
        have HMID2 := Lib.hid hmid
        clear hmid
        by_cases hlt2 : m < p.length
        · obtain ⟨g, o, rfl, -, hg, cm⟩ := HT2.out m hlt2
          have cm' := (HMID2.out.below.cell (p := ⟨g, o + m, none⟩) hg).trans cm
          clear cm hg
          have HRL : Hid (L1 ++ rawL (p.take (m + 1)) = (L1 ++ rawL (p.take m)) ++ nl p[m]) := Lib.hid (by rw [rawL_take p m hlt2, List.append_assoc])
          have HLL : Hid ((L1 ++ rawL (p.take m)).length + p[m].size ≤ 1000000) := Lib.hid (by
            have h1 := HL1.out.1
            have h2 := rawL_len (p.take m) (fun d hd => HMAY.out.d d (List.mem_of_mem_take hd))
            have h3 := HMAY.out.d p[m] (List.getElem_mem _)
            rw [List.length_take] at h2
            rw [List.length_append]; omega)
          obtain ⟨d, hd⟩ : ∃ d, d = p[m] := ⟨_, rfl⟩
          rw [← hd] at cm' HRL HLL
          clear hd
          have hi1 : (m : Int) < (p.length : Int) := by omega
          have HLT3 := Lib.hid hlt2
          obtain ⟨L2, hL2⟩ : ∃ L2, L2 = L1 ++ rawL (p.take m) := ⟨_, rfl⟩
          rw [← hL2] at HMID2 HRL HLL
          clear hL2
          go_wp2_with fail
          refine (by_raw HMID2.out d HLL.out).mono ?_
          rintro x w10 ⟨rfl, H10⟩
          have H10 := Lib.hid H10
          go_wp2
          go_roundw
          case rel => exact ⟨m + 1, HLT3.out, by go_num, by rw [HRL.out]; exact H10.out⟩
          case measure => have := HLT3.out; simp [intOf]; omega
        · obtain rfl : m = p.length := by omega
          have HEND : Hid (ByMid w2 (pre ++ ([ls.length] ++ lsB ((vals ls).take (j + 1)))) wr) := Lib.hid (by
            have := HMID2.out
            rw [List.take_length, HL1.out.2, HL0.out] at this
            rw [HTK.out]
            simpa [List.append_assoc] using this)
          go_wp2
          go_roundw
          case rel => exact ⟨j + 1, HLT2.out, by go_num, HEND.out⟩
          case measure => have := HLT2.out; simp [intOf]; omega
    · obtain rfl : j = ls.length := by omega
      have HML := Lib.hid HMID.out
      have HTA : Hid ((vals ls).take ls.length = vals ls) := Lib.hid (by rw [← vals_len, List.take_length])
      rw [HTA.out] at HMID
      clear HML
      go_wp2_with fail
      refine (by_bytes HMID.out HLT.out).mono ?_
      rintro x w5 ⟨rfl, rfl⟩
      have H5 : Hid (Below w.heap.size w wr) := Lib.hid (H2.out.1.trans (HMID.out.below.mono H2.out.1.size))
      go_wp2
      go_ret2
      exact ⟨by rw [HPRE.out]; rfl, H5.out⟩
set_option maxRecDepth 100000 in
set_option maxHeartbeats 4000000 in
theorem pf_bytes_yes_t (S : Nat → Prop) (A : Option Addr) (cap : Nat) (ls : List LfW) (w : World) (hA : LfsN w S A ls) (hyes : (vals ls).length ≤ 2 ∧ ∀ l ∈ vals ls, LfMay l) :
    Calls Tryz.prog 52 #[.agg #[.bool true, .slice A ls.length cap]] w (BsPost w (pfBytes ⟨true, vals ls⟩)) := by
  have HE : Hid (pfBytes ⟨true, vals ls⟩ = (txt ([2] ++ ([ls.length] ++ lsB (vals ls))), 0)) := Lib.hid (by
    rw [pfBytes_yes (p := ⟨true, vals ls⟩) hyes]; unfold pfB; simp only [if_true]; rw [vals_len])
  have HLT : Hid (∀ b ∈ [2] ++ ([ls.length] ++ lsB (vals ls)), b < 256) := Lib.hid (by
    have := pfB_lt (p := ⟨true, vals ls⟩) hyes
    unfold pfB at this; simp only [if_true] at this; rwa [vals_len] at this)
  rw [HE.out]
  have hn2 : ls.length ≤ 2 := by have := hyes.1; rwa [vals_len] at this
  have hp16 : ∀ x ∈ ls, x.l.p.length ≤ 1000 := fun x hx => by have := (hyes.2 x.l (List.mem_map_of_mem hx)).n; omega
  have hb0 := Kq.below_alloc w (.cells #[.bool true, .slice A ls.length cap] 102)
  have HM := Lib.hid (pf_may S A cap ls _ (hA.below hb0) (by omega) hp16)
  have HN : Hid (mayB (vals ls) = true) := Lib.hid (mayB_yes hyes)
  have HB := Lib.hid (And.intro hb0 (And.intro (hA.below hb0) (Kq.blk_new w #[.bool true, .slice A ls.length cap] 102 (0, 0))))
  have HY := Lib.hid hyes
  have H2N := Lib.hid hn2
  clear hA hyes hb0 hp16
  clear HE
  go_enter Tryz.func52, Tryz.ntmps52
  go_wp2_with fail
  refine HM.out.mono ?_
  rintro x w2 ⟨rfl, b2⟩
  rw [HN.out]
  have H2 : Hid (Below w.heap.size w w2 ∧ LfsN w2 S A ls ∧ w2.heap[w.heap.size]? = some (.cells #[.bool true, .slice A ls.length cap] 102 (0, 0)) ∧ w.heap.size < w2.heap.size) := Lib.hid ⟨HB.out.1.trans (b2.mono HB.out.1.size), HB.out.2.1.below b2, Kq.below_blk b2 HB.out.2.2 (Kq.blk_lt HB.out.2.2), Nat.lt_of_lt_of_le (Kq.blk_lt HB.out.2.2) b2.size⟩
  clear b2 HM HB
  have HW : Hid (ByMid w2 [] (w2.alloc (.cells #[.int .i64 0, .slice none 0 0] 159))) := Lib.hid ⟨_, WrMid.start (wr_new w2)⟩
  have HX : Hid (∀ wr l, ByMid w2 l wr → wr.cell? ⟨w.heap.size, 0, none⟩ = some (.bool true) ∧ wr.cell? ⟨w.heap.size, 1, none⟩ = some (.slice A ls.length cap)) := Lib.hid (fun wr l h => by
    have hb := Kq.below_blk h.below H2.out.2.2.1 H2.out.2.2.2
    exact ⟨Kq.blk_cell hb 0, Kq.blk_cell hb 1⟩)
  have HP1 : Hid (Calls Tryz.prog 92 #[.pointer (some ⟨w2.heap.size, 0, none⟩), .int .i64 2] (w2.alloc (.cells #[.int .i64 0, .slice none 0 0] 159)) (ByPost w2 ([] ++ [2]))) := Lib.hid (by_byte HW.out 2 (by decide) (by simp))
  rw [List.nil_append] at HP1
  have c0 := (HX.out _ _ HW.out).1
  have c1 := (HX.out _ _ HW.out).2
  obtain ⟨pre, hpre⟩ : ∃ pre, pre = [2] := ⟨_, rfl⟩
  have HPL : Hid (pre.length = 1) := Lib.hid (by rw [hpre]; rfl)
  rw [← hpre] at HP1 HLT
  have HPRE := Lib.hid hpre
  clear hpre
  go_wp2_with fail
  refine HP1.out.mono ?_
  rintro x w3 ⟨rfl, H3⟩
  have H3 := Lib.hid H3
  clear c0 c1 HP1
  have c0 := (HX.out _ _ H3.out).1
  have c1 := (HX.out _ _ H3.out).2
  go_wp2_with fail
  refine (by_byte H3.out ls.length (by omega) (by have := HPL.out; omega)).mono ?_
  rintro x w4 ⟨rfl, H4⟩
  have H4 := Lib.hid H4
  clear c0 c1 H3
  have c0 := (HX.out _ _ H4.out).1
  have c1 := (HX.out _ _ H4.out).2
  go_wp2
  clear c0 c1
  go_loopw [24] (fun i wr => ∃ j : Nat, j ≤ ls.length ∧ i = .int .i64 (j : Int) ∧ ByMid w2 (pre ++ ([ls.length] ++ lsB ((vals ls).take j))) wr) (fun i _ => ls.length - (intOf i).toNat)
  case atStart => exact ⟨0, by omega, rfl, by simpa [lsB, List.append_assoc] using H4.out⟩
  case round =>
    obtain ⟨j, hj, rfl, hmid⟩ := hrel
    have HMID := Lib.hid hmid
    have hn2 := H2N.out
    clear hmid
    by_cases hlt : j < ls.length
    · obtain ⟨b, off, rfl, -, hb, hc, ht, -⟩ := (H2.out.2.1.below HMID.out.below) j hlt
      have hv : j < (vals ls).length := by rw [vals_len]; exact hlt
      have hmay : LfMay ls[j].l := HY.out.2 _ (vals_mem hlt)
      have HLB : Hid ((pre ++ ([ls.length] ++ lsB ((vals ls).take j))).length ≤ 10000) := Lib.hid (by
        have h1 := lsB_len ((vals ls).take j) (fun x hx => HY.out.2 x (List.mem_of_mem_take hx))
        have h2 : ((vals ls).take j).length ≤ 2 := by rw [List.length_take, vals_len]; omega
        have h3 := HPL.out
        simp only [List.length_append, List.length_cons, List.length_nil]; omega)
      have HTK : Hid (lsB ((vals ls).take (j + 1)) = lsB ((vals ls).take j) ++ lfB ls[j].l) := Lib.hid (by rw [lsB_take _ _ hv]; simp [vals])
      obtain ⟨b', off', he', -, -, -, ht2, -⟩ := H2.out.2.1 j hlt
      clear he'
      obtain ⟨x, hx⟩ : ∃ x, x = ls[j] := ⟨_, rfl⟩
      rw [← hx] at hc ht hmay HTK ht2
      have HLT2 := Lib.hid hlt
      have hi0 : (j : Int) < (ls.length : Int) := by omega
      clear hb hx hv
      obtain ⟨⟨i, c, k, v, p⟩, a, cp⟩ := x
      obtain ⟨c0, c1, c2, c3, c4⟩ := hc
      simp only at c0 c1 c2 c3 c4 ht hmay HTK ht2
      have HT2 := Lib.hid ht2
      clear ht2
      have HMAY := Lib.hid hmay
      obtain ⟨iN, rfl⟩ := Int.eq_ofNat_of_zero_le hmay.i0
      obtain ⟨cN, rfl⟩ := Int.eq_ofNat_of_zero_le hmay.c0
      have hiN : iN ≤ 4096 := by have := hmay.i1; simp only at this; omega
      have hcN : cN ≤ 4096 := by have := hmay.c1; simp only at this; omega
      have hpn : p.length ≤ 16 := hmay.n
      have hks : k.size ≤ 16 := hmay.k
      have hvs : v.size ≤ 64 := hmay.v
      have hw1 : IntKind.u64.wrap (iN : Int) = (iN : Int) := IntWalk.u64_in _ (by omega)
      have hw2 : IntKind.u64.wrap (cN : Int) = (cN : Int) := IntWalk.u64_in _ (by omega)
      obtain ⟨L0, hL0⟩ : ∃ L0, L0 = pre ++ ([ls.length] ++ lsB ((vals ls).take j)) := ⟨_, rfl⟩
      rw [← hL0] at HMID HLB
      have HL0 := Lib.hid hL0
      have hL := HLB.out
      have HBX := Lib.hid (HMID.out.box #[.int .i64 (iN : Int), .int .i64 (cN : Int), .string k, .string v, .slice a p.length cp] 108)
      clear hmay ht hL0
      go_wp2_with fail
      refine (bx_number HBX.out iN (by unfold M64; omega) (by omega)).mono ?_
      rintro x w5 ⟨rfl, H5⟩
      have H5 := Lib.hid H5
      clear c0 c1 c2 c3 c4 HBX
      have c0 := Kq.blk_cell H5.out.blk 0
      have c1 := Kq.blk_cell H5.out.blk 1
      have c2 := Kq.blk_cell H5.out.blk 2
      have c3 := Kq.blk_cell H5.out.blk 3
      have c4 := Kq.blk_cell H5.out.blk 4
      simp only [List.getElem?_toArray, List.getElem?_cons_zero, List.getElem?_cons_succ] at c0 c1 c2 c3 c4
      go_wp2_with fail
      refine (bx_number H5.out cN (by unfold M64; omega) (by simp only [List.length_append, num8_length]; omega)).mono ?_
      rintro x w6 ⟨rfl, H6⟩
      have H6 := Lib.hid H6
      clear c0 c1 c2 c3 c4 H5
      have c2 := Kq.blk_cell H6.out.blk 2
      have c3 := Kq.blk_cell H6.out.blk 3
      have c4 := Kq.blk_cell H6.out.blk 4
      simp only [List.getElem?_toArray, List.getElem?_cons_zero, List.getElem?_cons_succ] at c2 c3 c4
      go_wp2_with fail
      refine (bx_text H6.out k (by omega) (by simp only [List.length_append, num8_length]; omega)).mono ?_
      rintro x w7 ⟨rfl, H7⟩
      have H7 := Lib.hid H7
      clear c2 c3 c4 H6
      have c3 := Kq.blk_cell H7.out.blk 3
      have c4 := Kq.blk_cell H7.out.blk 4
      simp only [List.getElem?_toArray, List.getElem?_cons_zero, List.getElem?_cons_succ] at c3 c4
      go_wp2_with fail
      refine (bx_text H7.out v (by omega) (by simp only [List.length_append, num8_length, tx2, nl_length, List.length_cons, List.length_nil]; omega)).mono ?_
      rintro x w8 ⟨rfl, H8⟩
      have H8 := Lib.hid H8
      clear c3 c4 H7
      have c4 := Kq.blk_cell H8.out.blk 4
      simp only [List.getElem?_toArray, List.getElem?_cons_zero, List.getElem?_cons_succ] at c4
      go_wp2_with fail
      refine (bx_byte H8.out p.length (by omega) (by simp only [List.length_append, num8_length, tx2, nl_length, List.length_cons, List.length_nil]; omega)).mono ?_
      rintro x w9 ⟨rfl, H9⟩
      have H9 := Lib.hid H9
      clear c4 H8
      have c4 := Kq.blk_cell H9.out.blk 4
      simp only [List.getElem?_toArray, List.getElem?_cons_zero, List.getElem?_cons_succ] at c4
      obtain ⟨L1, hL1⟩ : ∃ L1, L1 = L0 ++ num8 iN ++ num8 cN ++ tx2 k ++ tx2 v ++ [p.length] := ⟨_, rfl⟩
      rw [← hL1] at H9
      have HL1 : Hid (L1.length ≤ 10200 ∧ L1 ++ rawL p = L0 ++ lfB ⟨(iN : Int), (cN : Int), k, v, p⟩) := Lib.hid ⟨by rw [hL1]; simp only [List.length_append, num8_length, tx2, nl_length, List.length_cons, List.length_nil]; omega, by rw [hL1]; unfold lfB; simp only [Int.toNat_natCast, List.append_assoc]⟩
      clear hL1
      go_wp2
      clear c4
      go_loopw [51] (fun u wr => ∃ m : Nat, m ≤ p.length ∧ u = .int .i64 (m : Int) ∧ ByMid w2 (L1 ++ rawL (p.take m)) wr) (fun u _ => p.length - (intOf u).toNat)
      case atStart => exact ⟨0, by omega, rfl, by simpa [rawL] using H9.out.mid⟩
      case round =>
        obtain ⟨m, hm, rfl, hmid⟩ := hrel
        have HMID2 := Lib.hid hmid
        clear hmid
        by_cases hlt2 : m < p.length
        · obtain ⟨g, o, rfl, -, hg, cm⟩ := HT2.out m hlt2
          have cm' := (HMID2.out.below.cell (p := ⟨g, o + m, none⟩) hg).trans cm
          clear cm hg
          have HRL : Hid (L1 ++ rawL (p.take (m + 1)) = (L1 ++ rawL (p.take m)) ++ nl p[m]) := Lib.hid (by rw [rawL_take p m hlt2, List.append_assoc])
          have HLL : Hid ((L1 ++ rawL (p.take m)).length + p[m].size ≤ 1000000) := Lib.hid (by
            have h1 := HL1.out.1
            have h2 := rawL_len (p.take m) (fun d hd => HMAY.out.d d (List.mem_of_mem_take hd))
            have h3 := HMAY.out.d p[m] (List.getElem_mem _)
            rw [List.length_take] at h2
            rw [List.length_append]; omega)
          obtain ⟨d, hd⟩ : ∃ d, d = p[m] := ⟨_, rfl⟩
          rw [← hd] at cm' HRL HLL
          clear hd
          have hi1 : (m : Int) < (p.length : Int) := by omega
          have HLT3 := Lib.hid hlt2
          obtain ⟨L2, hL2⟩ : ∃ L2, L2 = L1 ++ rawL (p.take m) := ⟨_, rfl⟩
          rw [← hL2] at HMID2 HRL HLL
          clear hL2
          go_wp2_with fail
          refine (by_raw HMID2.out d HLL.out).mono ?_
          rintro x w10 ⟨rfl, H10⟩
          have H10 := Lib.hid H10
          go_wp2
          go_roundw
          case rel => exact ⟨m + 1, HLT3.out, by go_num, by rw [HRL.out]; exact H10.out⟩
          case measure => have := HLT3.out; simp [intOf]; omega
        · obtain rfl : m = p.length := by omega
          have HEND : Hid (ByMid w2 (pre ++ ([ls.length] ++ lsB ((vals ls).take (j + 1)))) wr) := Lib.hid (by
            have := HMID2.out
            rw [List.take_length, HL1.out.2, HL0.out] at this
            rw [HTK.out]
            simpa [List.append_assoc] using this)
          go_wp2
          go_roundw
          case rel => exact ⟨j + 1, HLT2.out, by go_num, HEND.out⟩
          case measure => have := HLT2.out; simp [intOf]; omega
    · obtain rfl : j = ls.length := by omega
      have HML := Lib.hid HMID.out
      have HTA : Hid ((vals ls).take ls.length = vals ls) := Lib.hid (by rw [← vals_len, List.take_length])
      rw [HTA.out] at HMID
      clear HML
      go_wp2_with fail
      refine (by_bytes HMID.out HLT.out).mono ?_
      rintro x w5 ⟨rfl, rfl⟩
      have H5 : Hid (Below w.heap.size w wr) := Lib.hid (H2.out.1.trans (HMID.out.below.mono H2.out.1.size))
      go_wp2
      go_ret2
      exact ⟨by rw [HPRE.out]; rfl, H5.out⟩
theorem pf_bytes (S : Nat → Prop) (ab : Bool) (A : Option Addr) (cap : Nat) (ls : List LfW) (w : World) (hA : LfsN w S A ls) (hn : ls.length ≤ 1000) (hp : ∀ x ∈ ls, x.l.p.length ≤ 1000) :
    Calls Tryz.prog 52 #[.agg #[.bool ab, .slice A ls.length cap]] w (BsPost w (pfBytes ⟨ab, vals ls⟩)) := by
  by_cases h : (vals ls).length ≤ 2 ∧ ∀ l ∈ vals ls, LfMay l
  · cases ab
    · exact pf_bytes_yes_f S A cap ls w hA h
    · exact pf_bytes_yes_t S A cap ls w hA h
  · exact pf_bytes_no S ab A cap ls w hA hn hp h
end Go.Proofs.YtbjchfcoacmaaaaGreatDoor
namespace Go.Proofs.YtbjchfcoacmaaaaGreatDoor
open Go.RowKit
set_option linter.unusedVariables false
/-- a proof's block -/
structure PBk (w : World) (X : Nat) (ab : Bool) (P : Value) : Prop where
  blk : w.heap[X]? = some (.cells #[.bool ab, P] 102 (0, 0))
section
variable {w : World} {X : Nat} {ab : Bool} {P : Value} (h : PBk w X ab P)
include h
theorem PBk.c0 : w.cell? ⟨X, 0, none⟩ = some (.bool ab) := Kq.blk_cell h.blk 0
theorem PBk.c1 : w.cell? ⟨X, 1, none⟩ = some P := Kq.blk_cell h.blk 1
theorem PBk.fz (j : Nat) : w.frozen? ⟨X, j, none⟩ = false := Kq.blk_free h.blk j
theorem PBk.s0 (x : Bool) : PBk (w.setCell ⟨X, 0, none⟩ (.bool x)) X x P := ⟨Kq.blk_set h.blk 0 _⟩
theorem PBk.s1 (x : Value) : PBk (w.setCell ⟨X, 1, none⟩ x) X ab x := ⟨Kq.blk_set h.blk 1 _⟩
theorem PBk.later {S : Nat → Prop} {w' : World} (hk : Kq.Keeps S w w') (hS : ¬ S X) : PBk w' X ab P := ⟨hk.blk h.blk hS⟩
theorem PBk.below {w' : World} (hb : Below w.heap.size w w') : PBk w' X ab P := ⟨Kq.below_blk hb h.blk (Kq.blk_lt h.blk)⟩
theorem PBk.lt : X < w.heap.size := Kq.blk_lt h.blk
end
def filled2 (w : World) (R : Nat) (ab : Bool) (P : Value) : World := (w.setCell ⟨R, 0, none⟩ (.bool ab)).setCell ⟨R, 1, none⟩ P
theorem filled2_keeps (w : World) (R : Nat) (ab : Bool) (P : Value) : Kq.Keeps (· = R) w (filled2 w R ab P) := by
  unfold filled2
  have k1 := Kq.Keeps.setCell (S := (· = R)) w ⟨R, 0, none⟩ (.bool ab) rfl
  have k2 := Kq.Keeps.setCell (S := (· = R)) (w.setCell ⟨R, 0, none⟩ (.bool ab)) ⟨R, 1, none⟩ P rfl
  exact k1.trans k2
theorem PBk.fill {w : World} {R : Nat} {a0 : Bool} {P0 : Value} (h : PBk w R a0 P0) (ab : Bool) (P : Value) : PBk (filled2 w R ab P) R ab P := (h.s0 ab).s1 P
theorem infoLf : (Tryz.prog.info? 108).map (fun i => (i.zero, i.size, i.bytes)) = some (some (.agg #[.int .i64 0, .int .i64 0, .string ⟨#[]⟩, .string ⟨#[]⟩, .slice none 0 0]), 5, 72) := by kernel_rfl
/-- in the midst of Parse: leaves that were read -/
structure Ps (C : Prop) (w : World) (B R X : Nat) (l : List Nat) (ab : Bool) (a : Option Addr) (q cp : Nat) (ls : List LfW) (w' : World) : Prop where
  rd : RdC C w' B l
  rb : PBk w' R false (.slice none 0 0)
  pb : PBk w' X ab (.slice a q cp)
  ne : w.heap.size ≤ B
  ne2 : w.heap.size ≤ R
  ne3 : R ≠ X ∧ B ≠ X ∧ B ≠ R ∧ B < X ∧ R < X
  bel : Below w.heap.size w w'
  own : w'.ownsRow (X + 1) 108 5 (.slice a q cp) ls.length (LfE.flat ls)
  sz : X + 1 ≤ w'.heap.size
  pa : ∀ x ∈ ls, TxN w' (fun k => k < X + 1 ∨ some k = (Value.slice a q cp).ownBlock) x.a x.l.p ∧ x.l.p.length ≤ x.cap ∧ x.l.p.length ≤ 300
theorem below_far {W : Nat} {a b d : World} {T : Nat → Prop} (h : Below W a b) (hk : Kq.Keeps T b d) (hW : W ≤ a.heap.size) (hT : ∀ k, k < b.heap.size → T k → W ≤ k) : Below W a d :=
  h.trans (hk.below (Nat.le_trans hW h.size) hT)
section
variable {C : Prop} {w w1 w' : World} {B R X : Nat} {l l' : List Nat} {ab : Bool} {a : Option Addr} {q cp : Nat} {ls : List LfW}
theorem Ps.cast (h : Ps C w B R X l ab a q cp ls w1) (hl : C → l = l') : Ps C w B R X l' ab a q cp ls w1 := ⟨h.rd.cast hl, h.rb, h.pb, h.ne, h.ne2, h.ne3, h.bel, h.own, h.sz, h.pa⟩
theorem Ps.read (h : Ps C w B R X l ab a q cp ls w1) (hr : RdC C w' B l') (hk : Kq.Keeps (· = B) w1 w') : Ps C w B R X l' ab a q cp ls w' :=
  ⟨hr, h.rb.later hk (fun e => h.ne3.2.2.1 e.symm), h.pb.later hk (fun e => h.ne3.2.1 e.symm), h.ne, h.ne2, h.ne3, below_far h.bel hk (Nat.le_refl _) (fun k _ e => by have := h.ne; omega), own_keeps h.own hk (fun k e => by have := h.ne3; omega), Nat.le_trans h.sz hk.size, fun x hx => ⟨(h.pa x hx).1.keeps hk (fun k _ e => Or.inl (by have := h.ne3; omega)), (h.pa x hx).2⟩⟩
theorem Ps.below (h : Ps C w B R X l ab a q cp ls w1) (hb : Below w1.heap.size w1 w') : Ps C w B R X l ab a q cp ls w' :=
  ⟨h.rd.below hb, h.rb.below hb, h.pb.below hb, h.ne, h.ne2, h.ne3, h.bel.trans (hb.mono h.bel.size), own_belowB h.own hb, Nat.le_trans h.sz hb.size, fun x hx => ⟨(h.pa x hx).1.below hb, (h.pa x hx).2⟩⟩
theorem Ps.start {w2 : World} (hr : RdC C w2 B l) (hb : PBk w2 R false (.slice none 0 0)) (h1 : w.heap.size ≤ B) (h2 : w.heap.size ≤ R) (h3 : B ≠ R) (hw : Below w.heap.size w w2) : Ps C w B R w2.heap.size l ab none 0 0 [] (w2.alloc (.cells #[.bool ab, .slice none 0 0] 102)) := by
  have b1 := Kq.below_alloc w2 (.cells #[.bool ab, .slice none 0 0] 102)
  have e1 := hr.lt
  have e2 := hb.lt
  exact ⟨hr.below b1, hb.below b1, ⟨Kq.blk_new _ _ _ _⟩, h1, h2, by omega, hw.trans (b1.mono hw.size), ⟨rfl, Or.inl ⟨rfl, rfl⟩⟩, by simp, fun x hx => by cases hx⟩
/-- one leaf more: it was read into z, and appended -/
theorem Ps.snoc {z : LfW} {a' : Option Addr} {q' cp' : Nat} {z1 z3 : World} (h : Ps C w B R X l ab a q cp ls z1) (hz : TxN z1 (fun k => k < X + 1 ∨ some k = (Value.slice a q cp).ownBlock) z.a z.l.p ∧ z.l.p.length ≤ z.cap ∧ z.l.p.length ≤ 300)
    (hk : Kq.Keeps (fun g => some g = (Value.slice a q cp).ownBlock) z1 z3) (hown : z3.ownsRow (X + 1) 108 5 (.slice a' q' cp') (ls ++ [z]).length (LfE.flat (ls ++ [z])))
    (hfr : ∀ k, (Value.slice a' q' cp').ownBlock = some k → some k = (Value.slice a q cp).ownBlock ∨ z1.heap.size ≤ k) :
    Ps C w B R X l ab a' q' cp' (ls ++ [z]) (z3.setCell ⟨X, 1, none⟩ (.slice a' q' cp')) := by
  have hge : ∀ g, some g = (Value.slice a q cp).ownBlock → X + 1 ≤ g := fun g hg => own_geB h.own hg.symm
  have hs : Kq.Keeps (· = X) z3 (z3.setCell ⟨X, 1, none⟩ (.slice a' q' cp')) := Kq.Keeps.setCell _ _ _ rfl
  have h3 := h.ne3
  refine ⟨(h.rd.keeps hk (fun e => by have := hge B e; omega)).keeps hs h3.2.1, (h.rb.later hk (fun e => by have := hge R e; omega)).later hs h3.1, (h.pb.later hk (fun e => by have := hge X e; omega)).s1 _, h.ne, h.ne2, h.ne3, ?_, own_keeps hown hs (fun k e => by omega), ?_, fun x hx => ?_⟩
  · have hWX : w.heap.size ≤ X := by have := h.ne; omega
    exact below_far (below_far h.bel hk (Nat.le_refl _) (fun k _ e => by have := hge k e; omega)) hs (Nat.le_refl _) (fun k _ e => by omega)
  · exact Nat.le_trans h.sz (Nat.le_trans hk.size hs.size)
  · have hx0 : TxN z1 (fun k => k < X + 1 ∨ some k = (Value.slice a q cp).ownBlock) x.a x.l.p ∧ x.l.p.length ≤ x.cap ∧ x.l.p.length ≤ 300 := by
      rcases List.mem_append.1 hx with hx | hx
      · exact h.pa x hx
      · rw [List.mem_singleton] at hx; rw [hx]; exact hz
    refine ⟨?_, hx0.2⟩
    have h4 : TxN z3 (fun k => k < X + 1 ∨ some k = (Value.slice a q cp).ownBlock) x.a x.l.p := hx0.1.keeps hk (fun k _ e => Or.inr e)
    have h5 : TxN z3 (fun k => k < X + 1 ∨ some k = (Value.slice a' q' cp').ownBlock) x.a x.l.p := fun j hj => by
      obtain ⟨g, o, e, e1, e2, e3⟩ := h4 j hj
      obtain ⟨g', o', e', _, e2', _⟩ := hx0.1 j hj
      rw [e] at e'
      simp only [Option.some.injEq, Addr.mk.injEq] at e'
      obtain ⟨rfl, -, -⟩ := e'
      refine ⟨g, o, e, fun hc => ?_, e2, e3⟩
      rcases hc with hc | hc
      · exact e1 (Or.inl hc)
      · rcases hfr g hc.symm with hc | hc
        · exact e1 (Or.inr hc)
        · omega
    exact h5.keeps hs (fun k _ e => Or.inl (by omega))
end
/-- what Parse is told of: the proof whose bytes they are, if there is one -/
def IsPf (s : ByteArray) : Prop := ∃ p, PfMay p ∧ pfB p = nl s
theorem isPf_no {s : ByteArray} (h : ¬ IsPf s) : pfParse s = (⟨false, []⟩, 5) := pfParse_none (fun p hp e => h ⟨p, hp, e⟩)
/-- put again, it is another text -/
theorem again_no {s : ByteArray} {p : PfV} (h : ¬ IsPf s) : ¬ ((pfBytes p).2 = 0 ∧ (pfBytes p).1 = s) := fun ⟨h1, h2⟩ => by
  by_cases hm : PfMay p
  · have e : pfBytes p = (txt (pfB p), 0) := if_pos hm
    rw [e] at h2
    exact h ⟨p, hm, by rw [← h2, nl_txt _ (pfB_lt hm)]⟩
  · have e : pfBytes p = (⟨#[]⟩, 1) := if_neg hm
    rw [e] at h1; cases h1
theorem again_yes {s : ByteArray} {p : PfV} (hm : PfMay p) (h : pfB p = nl s) : pfBytes p = (s, 0) := by
  have e : pfBytes p = (txt (pfB p), 0) := if_pos hm
  rw [e, h]
  congr 1
  apply nl_inj
  rw [nl_txt _ (nl_lt s)]
theorem lsB_drop {C : Prop} (ls : List LfV) (m n : Nat) (h : C → n = ls.length) (hm : m < n) : C → lsB (ls.drop m) = lfB (ls.getD m ⟨0, 0, ⟨#[]⟩, ⟨#[]⟩, []⟩) ++ lsB (ls.drop (m + 1)) := fun c => by
  have hl : m < ls.length := by have := h c; omega
  rw [List.drop_eq_getElem_cons hl, List.getD_eq_getElem?_getD, List.getElem?_eq_getElem hl]
  rfl
theorem Ps.lfs {C : Prop} {w w1 : World} {B R X : Nat} {l : List Nat} {ab : Bool} {a : Option Addr} {q cp : Nat} {ls : List LfW} (h : Ps C w B R X l ab a q cp ls w1) : q = ls.length ∧ ls.length ≤ cp ∧ LfsN w1 (fun k => k < X + 1) a ls := by
  obtain ⟨A, cap, e, hc, hat, hb, _⟩ := Kq.Elt.own_at (E := LfE) (l := ls) h.own
  injection e with e1 e2 e3
  subst e1 e2 e3
  refine ⟨rfl, hc, LfsN.of hat (fun b off e hb' => ?_) (fun x hx => ⟨(h.pa x hx).1.mono (fun k _ hk => Or.inl hk), (h.pa x hx).2.1⟩)⟩
  have := hb b off e
  omega
end Go.Proofs.YtbjchfcoacmaaaaGreatDoor
namespace Go.Proofs.YtbjchfcoacmaaaaGreatDoor
open Go.RowKit
set_option linter.unusedVariables false
set_option maxRecDepth 100000 in
set_option maxHeartbeats 1000000 in
theorem pf_find1 (l : List PairV) (A : Option Addr) (cap Z K i : Nat) (key : ByteArray) (w : World) (hi : i < l.length) (hn : l.length ≤ 1000000) (hA : PsAt w A l) (hZ : w.cell? ⟨Z, 0, none⟩ = some (.slice A l.length cap)) (hK : w.cell? ⟨K, 0, none⟩ = some (.string key)) :
    Calls Tryz.prog 137 #[.int .i64 (i : Int), .pointer (some ⟨Z, 0, none⟩), .pointer (some ⟨K, 0, none⟩)] w fun e w' => e = .returned (.bool (!ltT l[i].1 key)) ∧ ∃ r, w' = w.drewN r := by
  obtain ⟨b, off, rfl, -, c0, -⟩ := hA i hi
  obtain ⟨k, hk⟩ : ∃ k, k = l[i].1 := ⟨_, rfl⟩
  rw [← hk] at c0 ⊢
  have hi0 : (i : Int) < (l.length : Int) := by omega
  obtain ⟨B, hB⟩ : ∃ B, B = ltT k key := ⟨_, rfl⟩
  have hB' : Op.bytesLess k.toList key.toList = B := hB.symm
  rw [← hB]
  clear hA hk hB
  cases B
  all_goals
    go_enter Tryz.func137, Tryz.ntmps137
    go_wp2
    go_quiet (fail)
    go_wp2
    go_ret
    exact ⟨rfl, _, rfl⟩
set_option maxRecDepth 100000 in
set_option maxHeartbeats 2000000 in
theorem pf_find (l : List PairV) (A : Option Addr) (cap : Nat) (key : ByteArray) (w : World) (hn : l.length ≤ 1000) (hs : SortL l) (hA : PsAt w A l) :
    Calls Tryz.prog 88 #[.slice A l.length cap, .string key] w fun e w' => e = .returned (.tuple #[.int .i64 (plc l key : Nat), .bool (isIn l key)]) ∧ Below w.heap.size w w' := by
  have b1 := Kq.below_alloc w (.cells #[.slice A l.length cap] 35)
  have n1 := Kq.blk_new w #[.slice A l.length cap] 35 (0, 0)
  have z1 : (w.alloc (.cells #[.slice A l.length cap] 35)).heap.size = w.heap.size + 1 := by simp
  have b2 := Kq.below_alloc (w.alloc (.cells #[.slice A l.length cap] 35)) (.cells #[.string key] 9)
  have n2 := Kq.blk_new (w.alloc (.cells #[.slice A l.length cap] 35)) #[.string key] 9 (0, 0)
  rw [z1] at n2 b2
  have HW : Hid (Below w.heap.size w ((w.alloc (.cells #[.slice A l.length cap] 35)).alloc (.cells #[.string key] 9)) ∧ PsAt ((w.alloc (.cells #[.slice A l.length cap] 35)).alloc (.cells #[.string key] 9)) A l ∧ ((w.alloc (.cells #[.slice A l.length cap] 35)).alloc (.cells #[.string key] 9)).cell? ⟨w.heap.size, 0, none⟩ = some (.slice A l.length cap) ∧ ((w.alloc (.cells #[.slice A l.length cap] 35)).alloc (.cells #[.string key] 9)).cell? ⟨w.heap.size + 1, 0, none⟩ = some (.string key)) :=
    Lib.hid ⟨b1.trans (b2.mono (by omega)), (hA.below b1).below (by rw [z1]; exact b2), Kq.blk_cell (Kq.below_blk b2 n1 (by omega)) 0, Kq.blk_cell n2 0⟩
  obtain ⟨p, hp⟩ : ∃ p, p = plc l key := ⟨_, rfl⟩
  have hple : p ≤ l.length := by rw [hp]; exact plc_le l key
  have HPL : Hid (∀ i (h : i < l.length), (!ltT l[i].1 key) = decide (p ≤ i)) := Lib.hid (fun i h => by
    rw [plc_at l key hs i h, ← hp]
    by_cases g : i < p
    · rw [decide_eq_true g, decide_eq_false (by omega)]; rfl
    · rw [decide_eq_false g, decide_eq_true (by omega)]; rfl)
  have HIN : Hid (isIn l key = decide (∃ h : p < l.length, l[p].1 = key)) := Lib.hid (by subst hp; rfl)
  rw [← hp]
  have HN := Lib.hid hn
  have HLE := Lib.hid hple
  clear hA hs hp b1 b2 n1 n2 z1 hple
  go_enter Tryz.func88, Tryz.ntmps88
  have HS := Lib.hid (search_okP l.length p HLE.out (by have := HN.out; omega) (.pointer (some ⟨w.heap.size, 0, none⟩)) (.pointer (some ⟨w.heap.size + 1, 0, none⟩)) ((w.alloc (.cells #[.slice A l.length cap] 35)).alloc (.cells #[.string key] 9)) (fun q i hi => by
    refine (pf_find1 l A cap w.heap.size (w.heap.size + 1) i key (World.drewN _ q) hi (by have := HN.out; omega) (HW.out.2.1.below (below_drewN (Below.refl _ _) q)) HW.out.2.2.1 HW.out.2.2.2).mono ?_
    rintro e w' ⟨rfl, r, rfl⟩
    exact ⟨by rw [HPL.out i hi], q + r, by simp [World.drewN, Nat.add_assoc]⟩))
  go_wp2_with fail
  refine HS.out.mono ?_
  rintro x w2 ⟨rfl, r, hw2⟩
  have HW2 : Hid (Below w.heap.size w w2 ∧ PsAt w2 A l ∧ w2.cell? ⟨w.heap.size, 0, none⟩ = some (.slice A l.length cap) ∧ w2.cell? ⟨w.heap.size + 1, 0, none⟩ = some (.string key)) := Lib.hid (by
    rw [hw2]
    exact ⟨below_drewN HW.out.1 r, HW.out.2.1.below (below_drewN (Below.refl _ _) r), HW.out.2.2.1, HW.out.2.2.2⟩)
  clear hw2 HS HW HPL
  have c0 := HW2.out.2.2.1
  have c1 := HW2.out.2.2.2
  have hn' := HN.out
  have hle := HLE.out
  by_cases hlt : p < l.length
  · obtain ⟨b, off, rfl, -, d0, -⟩ := HW2.out.2.1 p hlt
    have hi0 : (p : Int) < (l.length : Int) := by omega
    have e0 : decide ((p : Int) < (l.length : Int)) = true := decide_eq_true hi0
    have e1 : decide (p < l.length) = true := decide_eq_true hlt
    obtain ⟨k, hk⟩ : ∃ k, k = l[p].1 := ⟨_, rfl⟩
    rw [← hk] at d0
    have HI : Hid (isIn l key = (k.toList == key.toList)) := Lib.hid (by
      rw [HIN.out]
      by_cases g : k = key
      · rw [decide_eq_true ⟨hlt, by rw [← hk]; exact g⟩, g]; simp
      · rw [decide_eq_false (fun ⟨_, h⟩ => g (by rw [hk]; exact h))]
        rw [eq_comm, beq_eq_false_iff_ne]
        exact fun h => g (toList_inj h))
    clear hk hlt HIN
    obtain ⟨BB, hBB⟩ : ∃ BB, BB = (k.toList == key.toList) := ⟨_, rfl⟩
    rw [← hBB] at HI
    have hBB' : (k.toList == key.toList) = BB := hBB.symm
    clear hBB
    cases BB
    all_goals
      go_wp2
      go_quiet (fail)
      have HD : Hid (∀ n, Below w.heap.size w (w2.drewN n)) := Lib.hid (fun n => below_drewN HW2.out.1 n)
      go_wp2
      go_ret2
      exact ⟨by rw [HI.out]; rfl, HD.out _⟩
  · obtain rfl : p = l.length := by omega
    have e0 : decide ((l.length : Int) < (l.length : Int)) = false := decide_eq_false (by omega)
    have e1 : decide (l.length < l.length) = false := decide_eq_false (by omega)
    have HI : Hid (isIn l key = false) := Lib.hid (by rw [HIN.out]; exact decide_eq_false (fun ⟨h, _⟩ => hlt h))
    clear hlt HIN hle
    go_wp2
    go_quiet (fail)
    have HD : Hid (∀ n, Below w.heap.size w (w2.drewN n)) := Lib.hid (fun n => below_drewN HW2.out.1 n)
    go_wp2
    go_ret2
    exact ⟨by rw [HI.out]; rfl, HD.out _⟩
/-- what a call tells that tells a leaf of a map -/
def MlPost (w : World) (l : List PairV) (i : Nat) (x : Ending) (w' : World) : Prop :=
  ∃ z : LfW, z.l = mkLf l i ∧ x = .returned z.val ∧ TxN w' (fun k => k < w.heap.size) z.a z.l.p ∧ z.l.p.length ≤ z.cap ∧ Below w.heap.size w w'
def PrB (w' : World) (b o : Nat) (k v : ByteArray) : Prop := w'.cell? ⟨b, o, none⟩ = some (.string k) ∧ w'.cell? ⟨b, o + 1, none⟩ = some (.string v)
set_option maxRecDepth 100000 in
set_option maxHeartbeats 2000000 in
theorem pf_leaf (l : List PairV) (A : Option Addr) (cap i : Nat) (w : World) (hn : l.length ≤ 1000) (hf : Fit l) (hA : PsAt w A l) (hL : LaidOk w) (hcap : l.length ≤ cap) (hi : i < l.length) :
    Calls Tryz.prog 90 #[.slice A l.length cap, .int .i64 (i : Int)] w (MlPost w l i) := by
  obtain ⟨b, off, rfl, hb, c0, c1⟩ := hA i hi
  obtain ⟨k, hk⟩ : ∃ k, k = l[i].1 := ⟨_, rfl⟩
  obtain ⟨v, hv⟩ : ∃ v, v = l[i].2 := ⟨_, rfl⟩
  rw [← hk] at c0
  rw [← hv] at c1
  have HMK : Hid (mkLf l i = ⟨(i : Int), (l.length : Int), k, v, pathL l i⟩) := Lib.hid (by unfold mkLf; rw [getD_at hi, hk, hv])
  have hi0 : (i : Int) < (l.length : Int) := by omega
  have ba := Kq.below_alloc w (Obj.cells #[Value.int IntKind.i64 0, Value.int IntKind.i64 0, Value.string ⟨#[]⟩, Value.string ⟨#[]⟩, Value.slice none 0 0] 108)
  have HW : Hid (Below w.heap.size w (w.alloc (Obj.cells #[Value.int IntKind.i64 0, Value.int IntKind.i64 0, Value.string ⟨#[]⟩, Value.string ⟨#[]⟩, Value.slice none 0 0] 108)).drew ∧ LB (w.alloc (Obj.cells #[Value.int IntKind.i64 0, Value.int IntKind.i64 0, Value.string ⟨#[]⟩, Value.string ⟨#[]⟩, Value.slice none 0 0] 108)).drew w.heap.size 0 0 ⟨#[]⟩ ⟨#[]⟩ (.slice none 0 0) ∧ PrB (w.alloc (Obj.cells #[Value.int IntKind.i64 0, Value.int IntKind.i64 0, Value.string ⟨#[]⟩, Value.string ⟨#[]⟩, Value.slice none 0 0] 108)).drew b (off + i * 2) k v) :=
    Lib.hid ⟨ba.drew, ⟨Kq.blk_new w #[Value.int IntKind.i64 0, Value.int IntKind.i64 0, Value.string ⟨#[]⟩, Value.string ⟨#[]⟩, Value.slice none 0 0] 108 (0, 0)⟩, (ba.cell (p := ⟨b, off + i * 2, none⟩) hb).trans c0, (ba.cell (p := ⟨b, off + i * 2 + 1, none⟩) hb).trans c1⟩
  have HPA := Lib.hid (mk_path l.length l i (some ⟨b, off, none⟩) cap _ (Nat.le_refl _) (by omega) hf (hA.below ba.drew) (hL.later ba.drew) hcap hi)
  obtain ⟨ps, hps⟩ : ∃ ps, ps = pathL l i := ⟨_, rfl⟩
  rw [← hps] at HPA HMK
  have HB := Lib.hid hb
  clear hA hf hL hcap hi hk hv c0 c1 ba hps hb
  go_enter Tryz.func90, Tryz.ntmps90
  go_wp2
  refine Kq.wp_region_T 11 (fun cur => PrB cur b (off + i * 2) k v) (by kernel_rfl) HW.out.2.2 (fun hS0 => ?_)
  obtain ⟨z0, hz0⟩ : ∃ z, z = (w.alloc (Obj.cells #[Value.int IntKind.i64 0, Value.int IntKind.i64 0, Value.string ⟨#[]⟩, Value.string ⟨#[]⟩, Value.slice none 0 0] 108)).drew := ⟨_, rfl⟩
  rw [← hz0] at HW HPA hS0 ⊢
  clear hz0
  unfold PrB at hS0
  dsimp only [PrB]
  refine Kq.wpAnyT_take (i := 0) (v := ?_) rfl rfl (by kernel_rfl) (by kernel_rfl) (by kernel_rfl) (by kernel_rfl) (fun _ _ _ h => h) (Or.inl ⟨by kernel_rfl, ?_⟩) (by assumption) ?_
  rotate_left
  · intro w hSw; (try dsimp only at hSw); go_simp; (try with_reducible rfl)
  refine Kq.wpAnyT_take (i := 1) (v := ?_) rfl rfl (by kernel_rfl) (by kernel_rfl) (by kernel_rfl) (by kernel_rfl) (fun _ _ _ h => h) (Or.inl ⟨by kernel_rfl, ?_⟩) (by assumption) ?_
  rotate_left
  · intro w hSw; (try dsimp only at hSw); go_simp; (try with_reducible rfl)
  refine Kq.wpAnyT_take (i := 2) (v := ?_) rfl rfl (by kernel_rfl) (by kernel_rfl) (by kernel_rfl) (by kernel_rfl) (fun _ _ _ h => h) (Or.inl ⟨by kernel_rfl, ?_⟩) (by assumption) ?_
  rotate_left
  · intro w hSw; (try dsimp only at hSw); go_simp; (try with_reducible rfl)
  refine Kq.wpAnyT_take (i := 3) (v := ?_) rfl rfl (by kernel_rfl) (by kernel_rfl) (by kernel_rfl) (by kernel_rfl) (fun _ _ _ h => h) (Or.inl ⟨by kernel_rfl, ?_⟩) (by assumption) ?_
  rotate_left
  · intro w hSw; (try dsimp only at hSw); go_simp; (try with_reducible rfl)
  refine Kq.wpAnyT_take (i := 4) (v := ?_) rfl rfl (by kernel_rfl) (by kernel_rfl) (by kernel_rfl) (by kernel_rfl) (fun _ _ _ h => h) (Or.inl ⟨by kernel_rfl, ?_⟩) (by assumption) ?_
  rotate_left
  · intro w hSw; (try dsimp only at hSw); go_simp; (try with_reducible rfl)
  refine Kq.wpAnyT_take (i := 5) (v := ?_) rfl rfl (by kernel_rfl) (by kernel_rfl) (by kernel_rfl) (by kernel_rfl) (fun _ _ _ h => h) (Or.inl ⟨by kernel_rfl, ?_⟩) (by assumption) ?_
  rotate_left
  · intro w hSw; (try dsimp only at hSw); go_simp; (try with_reducible rfl)
  refine Kq.wpAnyT_take (i := 6) (v := ?_) rfl rfl (by kernel_rfl) (by kernel_rfl) (by kernel_rfl) (by kernel_rfl) (fun _ _ _ h => h) (Or.inl ⟨by kernel_rfl, ?_⟩) (by assumption) ?_
  rotate_left
  · intro w hSw; (try dsimp only at hSw); go_simp; (try with_reducible rfl)
  refine Kq.wpAnyT_take (i := 7) (v := ?_) rfl rfl (by kernel_rfl) (by kernel_rfl) (by kernel_rfl) (by kernel_rfl) (fun _ _ _ h => h) (Or.inl ⟨by kernel_rfl, ?_⟩) (by assumption) ?_
  rotate_left
  · intro w hSw; (try dsimp only at hSw); go_simp; (try with_reducible rfl)
  refine Kq.wpAnyT_take (i := 8) (v := ?_) rfl rfl (by kernel_rfl) (by kernel_rfl) (by kernel_rfl) (by kernel_rfl) (fun _ _ _ h => h) (Or.inl ⟨by kernel_rfl, ?_⟩) (by assumption) ?_
  rotate_left
  · intro w hSw; (try dsimp only at hSw); go_simp; (try with_reducible rfl)
  refine Kq.wpAnyT_one (i := 9) (by kernel_rfl) rfl (fun K hK => ?_)
  go_simp
  refine HPA.out.mono ?_
  rintro x z1 ⟨pv, rfl, hown, b1⟩
  have HZ : Hid (w.heap.size < z0.heap.size) := Lib.hid HW.out.2.1.lt
  obtain ⟨A', cap', rfl, hc', htx⟩ := row_txn (S := fun k => k < w.heap.size + 1) hown (fun k hk => by have := HZ.out; omega)
  have H1 : Hid (Below w.heap.size w z1 ∧ LB z1 w.heap.size 0 0 ⟨#[]⟩ ⟨#[]⟩ (.slice none 0 0) ∧ PrB z1 b (off + i * 2) k v ∧ TxN z1 (fun k => k < w.heap.size + 1) A' ps ∧ ps.length ≤ cap') := Lib.hid (by
    have hb0 : b < z0.heap.size := by have := HB.out; have := HZ.out; omega
    exact ⟨HW.out.1.trans (b1.mono HW.out.1.size), ⟨Kq.below_blk b1 HW.out.2.1.blk HZ.out⟩, ⟨(b1.cell (p := ⟨b, off + i * 2, none⟩) hb0).trans HW.out.2.2.1, (b1.cell (p := ⟨b, off + i * 2 + 1, none⟩) hb0).trans HW.out.2.2.2⟩, htx, hc'⟩)
  clear hown b1 hc' htx HPA HW hS0
  refine hK.out _ _ H1.out.2.2.1 (fun hS0 => ?_)
  clear hK K
  have r0 := H1.out.2.1.c0
  have r1 := H1.out.2.1.c1
  have r2 := H1.out.2.1.c2
  have r3 := H1.out.2.1.c3
  have r4 := H1.out.2.1.c4
  have g0 := H1.out.2.1.fz 0
  have g1 := H1.out.2.1.fz 1
  have g2 := H1.out.2.1.fz 2
  have g3 := H1.out.2.1.fz 3
  have g4 := H1.out.2.1.fz 4
  refine Kq.wpAnyT_take (i := 10) (v := ?_) rfl rfl (by kernel_rfl) (by kernel_rfl) (by kernel_rfl) (by kernel_rfl) (fun _ _ _ h => h) (Or.inl ⟨by kernel_rfl, ?_⟩) (by assumption) ?_
  rotate_left
  · intro w hSw; (try dsimp only at hSw); go_simp; (try with_reducible rfl)
  refine Kq.wpAnyT_last (by kernel_rfl) rfl (fun K hK => ?_)
  go_simp
  refine hK.out _ _ ?_
  clear hK K
  refine Kq.wpAnyT_done (by kernel_rfl) ?_ _
  go_simp
  go_wp2
  have p1 := H1.out.2.1.fill (i : Int) (l.length : Int) k v (.slice A' ps.length cap')
  have p2 := filled5_keeps z1 w.heap.size (i : Int) (l.length : Int) k v (.slice A' ps.length cap')
  obtain ⟨Wf, hWf⟩ : ∃ Wf, Wf = filled5 z1 w.heap.size (i : Int) (l.length : Int) k v (.slice A' ps.length cap') := ⟨_, rfl⟩
  change bodyPost _ _ _ _ _ (filled5 z1 w.heap.size (i : Int) (l.length : Int) k v (.slice A' ps.length cap'))
  rw [← hWf] at p1 p2 ⊢
  have z0 := p1.c0
  have z1 := p1.c1
  have z2 := p1.c2
  have z3 := p1.c3
  have z4 := p1.c4
  refine bodyPost_ret (v := .agg #[.int .i64 (i : Int), .int .i64 (l.length : Int), .string k, .string v, .slice A' ps.length cap']) (by simp [results, Tryz.results90, go_sem, z0, z1, z2, z3, z4]) rfl ?_
  exact ⟨⟨⟨(i : Int), (l.length : Int), k, v, ps⟩, A', cap'⟩, HMK.out.symm, rfl, (H1.out.2.2.2.1.keeps p2 (fun k _ hk => by omega)).mono (fun k _ hk => by omega), H1.out.2.2.2.2, below_far H1.out.1 p2 (Nat.le_refl _) (fun k _ hk => by omega)⟩
set_option maxRecDepth 100000 in
set_option maxHeartbeats 1000000 in
theorem pf_of (ab : Bool) (A : Option Addr) (n cap : Nat) (w : World) :
    Calls Tryz.prog 89 #[.bool ab, .slice A n cap] w fun x w' => x = .returned (.agg #[.bool ab, .slice A n cap]) ∧ Below w.heap.size w w' := by
  have ba := Kq.below_alloc w (Obj.cells #[.bool false, .slice none 0 0] 102)
  have H1 : Hid (Below w.heap.size w (w.alloc (.cells #[.bool ab, .slice A n cap] 102)) ∧ PBk (w.alloc (.cells #[.bool ab, .slice A n cap] 102)) w.heap.size ab (.slice A n cap)) := Lib.hid ⟨Kq.below_alloc _ _, ⟨Kq.blk_new _ _ _ _⟩⟩
  clear ba
  go_enter Tryz.func89, Tryz.ntmps89
  go_wp2
  have z0 := H1.out.2.c0
  have z1 := H1.out.2.c1
  refine bodyPost_ret (v := .agg #[.bool ab, .slice A n cap]) (by simp [results, Tryz.results89, go_sem, z0, z1]) rfl ?_
  exact ⟨rfl, H1.out.1⟩
end Go.Proofs.YtbjchfcoacmaaaaGreatDoor
