/- Merged: WrL, PfB, PfBy. A writing call that puts what it adds if all is well, and else remembers 1 (NtPut's words, without packets; never import both). Condition: lengths. Contracts of proof.mayBe, proof.Bytes. Condition: sizes. Contract of proof.Bytes. Condition: sizes. -/
import Derived.WalkSpells
import Derived.Test.YtclloplkbajebaaDoorWrNewQ
import Derived.Test.YtclloplkbajebaaDoorWireRd2Q
import Derived.Test.YtclloplkbajebaaDoorRdLQ
import Derived.Test.YtclloplkbajebaaDoorCommonQ
import Derived.Outline
import Derived.Test.YtclloplkbajebaaDoorPfAQ
namespace Go.Proofs.YtclloplkbajebaaDoor
open Go.RowKit
set_option linter.unusedVariables false
/-- a writing call that puts 'add' if all is well, and else remembers ErrRange -/
def WrStep (w : World) (base B : Nat) (v : Value) (e : Int) (l : List Nat) (ok : Prop) (add : List Nat) (n : Nat) (x : Ending) (w' : World) : Prop :=
  ∃ e' l', WrAny w base B v e' l' x w' ∧ l'.length ≤ l.length + n ∧ (ok → e' = e ∧ l' = l ++ add) ∧ (¬ ok → e' = keepE e 1)
theorem keepE_one (e : Int) : keepE (keepE e 1) 1 = keepE e 1 := by
  unfold keepE
  by_cases h : e = 0
  · subst h; rfl
  · rw [if_neg h, if_neg h]
theorem wr_byte_step (base B : Nat) (e : Int) (v : Value) (l : List Nat) (n : Int) (w : World) (h : Wr w base B e v l) (hl : l.length ≤ 1000000) :
    Calls Tryd.prog 28 #[.pointer (some ⟨B, 0, none⟩), .int .i64 n] w (WrStep w base B v e l (0 ≤ n ∧ n ≤ 255) [n.toNat] 1) := by
  by_cases hn : 0 ≤ n ∧ n ≤ 255
  · obtain ⟨m, rfl⟩ := Int.eq_ofNat_of_zero_le hn.1
    refine (wr_byte_ok base B e v l m w h (by omega) (by omega)).mono fun x w' hp => ?_
    exact ⟨e, l ++ [m], hp.any, by simp, fun _ => ⟨rfl, rfl⟩, fun h => absurd hn h⟩
  · refine (wr_byte_bad base B e v l n w h (by omega)).mono fun x w' hp => ?_
    exact ⟨_, l, hp, by omega, fun h => absurd h hn, fun _ => rfl⟩
theorem WrMid.belowM {w wr w' : World} {base B : Nat} {v0 v : Value} {e : Int} {l : List Nat} (h : WrMid w base B v0 e v l wr) (hb : Below wr.heap.size wr w') : WrMid w base B v0 e v l w' := by
  have hk : Kq.Keeps (fun _ => False) wr w' := Kq.Keeps.of_below (S := fun _ => False) hb (fun k h1 h2 => absurd h1 (Nat.not_le.2 h2))
  exact ⟨h.it.belowW hb, h.keeps.trans (hk.mono (fun _ _ hf => hf.elim)), h.fresh⟩
theorem WrMid.stepV {w wr w' : World} {base B : Nat} {v0 v v' : Value} {e e' : Int} {l l' : List Nat} (h : WrMid w base B v0 e v l wr) (h1 : Wr w' base B e' v' l') (h2 : Kq.Keeps (fun k => k = B ∨ some k = v.ownBlock) wr w') (h3 : ∀ k, v'.ownBlock = some k → some k = v.ownBlock ∨ wr.heap.size ≤ k) : WrMid w base B v0 e' v' l' w' := by
  refine ⟨h1, ?_, fun k hk => ?_⟩
  · refine ⟨h2.os.trans h.keeps.os, h2.tape.trans h.keeps.tape, h2.output.trans h.keeps.output, Nat.le_trans h.keeps.size h2.size, fun k hk hn => ?_⟩
    rw [h2.block k (Nat.lt_of_lt_of_le hk h.keeps.size) ?_, h.keeps.block k hk hn]
    rintro (h4 | h4)
    · exact hn (Or.inl h4)
    · rcases h.fresh k h4.symm with h5 | h5
      · exact hn (Or.inr h5)
      · omega
  · rcases h3 k hk with h4 | h4
    · exact h.fresh k h4.symm
    · exact Or.inr (Nat.le_trans h.keeps.size h4)
end Go.Proofs.YtclloplkbajebaaDoor
namespace Go.Proofs.YtclloplkbajebaaDoor
open Go.RowKit
set_option linter.unusedVariables false
open Classical in
/-- may such leaves have bytes? -/
noncomputable def mayB (ls : List LfV) : Bool := if ls.length ≤ 2 ∧ ∀ l ∈ ls, LfMay l then true else false
theorem mayB_yes {ls : List LfV} (h : ls.length ≤ 2 ∧ ∀ l ∈ ls, LfMay l) : mayB ls = true := if_pos h
theorem mayB_no {ls : List LfV} (h : ¬ (ls.length ≤ 2 ∧ ∀ l ∈ ls, LfMay l)) : mayB ls = false := if_neg h
theorem vals_mem {ls : List LfW} {j : Nat} (h : j < ls.length) : ls[j].l ∈ vals ls := List.mem_map_of_mem (List.getElem_mem _)
set_option maxRecDepth 100000 in
set_option maxHeartbeats 4000000 in
theorem pf_may (S : Nat → Prop) (A : Option Addr) (cap : Nat) (ls : List LfW) (w : World) (hA : LfsN w S A ls) (hn : ls.length ≤ 1000) (hp : ∀ x ∈ ls, x.l.p.length ≤ 1000) :
    Calls Tryd.prog 27 #[.slice A ls.length cap] w fun x w' => x = .returned (.bool (mayB (vals ls))) ∧ Below w.heap.size w w' := by
  have HA := Lib.hid hA
  have HP := Lib.hid hp
  have HN := Lib.hid hn
  clear hA hp
  by_cases h2 : 2 < ls.length
  · have d1 : decide ((2 : Int) < (ls.length : Int)) = true := decide_eq_true (by omega)
    have d2 : decide (2 < ls.length) = true := decide_eq_true h2
    have HE : Hid (mayB (vals ls) = false) := Lib.hid (mayB_no (fun h => by have := h.1; rw [vals_len] at this; omega))
    clear h2
    go_enter Tryd.func27, Tryd.ntmps27
    go_wp2
    go_ret
    exact ⟨by rw [HE.out]; rfl, Below.refl _ _⟩
  have d1 : decide ((2 : Int) < (ls.length : Int)) = false := decide_eq_false (by omega)
  have d2 : decide (2 < ls.length) = false := decide_eq_false h2
  have H2 := Lib.hid h2
  clear h2
  go_enter Tryd.func27, Tryd.ntmps27
  go_wp2
  go_loopw [12] (fun i wr => ∃ j : Nat, j ≤ ls.length ∧ i = .int .i64 (j : Int) ∧ (∀ i (hi : i < ls.length), i < j → LfMay ls[i].l) ∧ Below w.heap.size w wr) (fun i _ => ls.length - (intOf i).toNat)
  case atStart => exact ⟨0, by omega, rfl, fun i _ hi => absurd hi (Nat.not_lt_zero _), Below.refl _ _⟩
  case round =>
    obtain ⟨j, hj, rfl, hup, hbl⟩ := hrel
    have HUP := Lib.hid (And.intro hup hbl)
    have hn' := HN.out
    by_cases hlt : j < ls.length
    · obtain ⟨b, off, rfl, -, hb, hc, ht, -⟩ := (HA.out.below hbl) j hlt
      have hpl := HP.out ls[j] (List.getElem_mem _)
      have HV : Hid (∀ z : LfV, z = ls[j].l → ¬ LfMay z → mayB (vals ls) = false) := Lib.hid (fun z hz hno => mayB_no (fun h => hno (by rw [hz]; exact h.2 _ (vals_mem hlt))))
      obtain ⟨x, hx⟩ : ∃ x, x = ls[j] := ⟨_, rfl⟩
      rw [← hx] at hc ht hpl HV
      have HX := Lib.hid hx
      have HLT := Lib.hid hlt
      have hi0 : (j : Int) < (ls.length : Int) := by omega
      clear hup hbl hb hx
      obtain ⟨⟨i, c, k, v, p⟩, a, cp⟩ := x
      obtain ⟨c0, c1, c2, c3, c4⟩ := hc
      simp only at c0 c1 c2 c3 c4 ht hpl HV
      have HB : Hid (Below w.heap.size w (wr.alloc (.cells #[.int .i64 i, .int .i64 c, .string k, .string v, .slice a p.length cp] 30))) := Lib.hid (HUP.out.2.trans ((Kq.below_alloc _ _).mono HUP.out.2.size))
      by_cases t1 : i < 0 ∨ 4096 < i
      · have HE : Hid (mayB (vals ls) = false) := Lib.hid (HV.out _ rfl (fun h => by have := h.i0; have := h.i1; simp only at *; omega))
        clear ht
        by_cases u1 : i < 0
        · have e1 : decide (i < 0) = true := decide_eq_true u1
          clear t1 u1
          go_wp2
          go_ret
          exact ⟨by rw [HE.out]; rfl, HB.out⟩
        · have e1 : decide (i < 0) = false := decide_eq_false u1
          have e2 : decide (4096 < i) = true := decide_eq_true (t1.resolve_left u1)
          clear t1 u1
          go_wp2
          go_ret
          exact ⟨by rw [HE.out]; rfl, HB.out⟩
      have e1 : decide (i < 0) = false := decide_eq_false (fun h => t1 (Or.inl h))
      have e2 : decide (4096 < i) = false := decide_eq_false (fun h => t1 (Or.inr h))
      by_cases t2 : c < 0 ∨ 4096 < c
      · have HE : Hid (mayB (vals ls) = false) := Lib.hid (HV.out _ rfl (fun h => by have := h.c0; have := h.c1; simp only at *; omega))
        clear ht
        by_cases u1 : c < 0
        · have e3 : decide (c < 0) = true := decide_eq_true u1
          clear t1 t2 u1
          go_wp2
          go_ret
          exact ⟨by rw [HE.out]; rfl, HB.out⟩
        · have e3 : decide (c < 0) = false := decide_eq_false u1
          have e4 : decide (4096 < c) = true := decide_eq_true (t2.resolve_left u1)
          clear t1 t2 u1
          go_wp2
          go_ret
          exact ⟨by rw [HE.out]; rfl, HB.out⟩
      have e3 : decide (c < 0) = false := decide_eq_false (fun h => t2 (Or.inl h))
      have e4 : decide (4096 < c) = false := decide_eq_false (fun h => t2 (Or.inr h))
      by_cases t3 : 16 < k.size
      · have HE : Hid (mayB (vals ls) = false) := Lib.hid (HV.out _ rfl (fun h => by have := h.k; simp only at *; omega))
        have e5 : decide ((16 : Int) < (k.size : Int)) = true := decide_eq_true (by omega)
        have e5' : decide (16 < k.size) = true := decide_eq_true t3
        clear ht t1 t2 t3
        go_wp2
        go_ret
        exact ⟨by rw [HE.out]; rfl, HB.out⟩
      have e5 : decide ((16 : Int) < (k.size : Int)) = false := decide_eq_false (by omega)
      have e5' : decide (16 < k.size) = false := decide_eq_false t3
      by_cases t4 : 64 < v.size
      · have HE : Hid (mayB (vals ls) = false) := Lib.hid (HV.out _ rfl (fun h => by have := h.v; simp only at *; omega))
        have e6 : decide ((64 : Int) < (v.size : Int)) = true := decide_eq_true (by omega)
        have e6' : decide (64 < v.size) = true := decide_eq_true t4
        clear ht t1 t2 t3 t4
        go_wp2
        go_ret
        exact ⟨by rw [HE.out]; rfl, HB.out⟩
      have e6 : decide ((64 : Int) < (v.size : Int)) = false := decide_eq_false (by omega)
      have e6' : decide (64 < v.size) = false := decide_eq_false t4
      by_cases t5 : 16 < p.length
      · have HE : Hid (mayB (vals ls) = false) := Lib.hid (HV.out _ rfl (fun h => by have := h.n; simp only at *; omega))
        have e7 : decide ((16 : Int) < (p.length : Int)) = true := decide_eq_true (by omega)
        have e7' : decide (16 < p.length) = true := decide_eq_true t5
        clear ht t1 t2 t3 t4 t5
        go_wp2
        go_ret
        exact ⟨by rw [HE.out]; rfl, HB.out⟩
      have e7 : decide ((16 : Int) < (p.length : Int)) = false := decide_eq_false (by omega)
      have e7' : decide (16 < p.length) = false := decide_eq_false t5
      have HT := Lib.hid (ht.below (Kq.below_alloc wr (.cells #[.int .i64 i, .int .i64 c, .string k, .string v, .slice a p.length cp] 30)))
      have HG : Hid (0 ≤ i ∧ i ≤ 4096 ∧ 0 ≤ c ∧ c ≤ 4096 ∧ k.size ≤ 16 ∧ v.size ≤ 64 ∧ p.length ≤ 16) := Lib.hid (by omega)
      clear ht t1 t2 t3 t4 t5
      go_wp2
      go_loop [56] (fun u => ∃ m : Nat, m ≤ p.length ∧ u = .int .i64 (m : Int) ∧ (∀ q (hq : q < p.length), q < m → p[q].size = 32)) (fun u => p.length - (intOf u).toNat)
      case atStart => exact ⟨0, by omega, rfl, fun q _ hq => absurd hq (Nat.not_lt_zero _)⟩
      case round =>
        obtain ⟨m, hm, rfl, hup2⟩ := hrel
        have HUP2 := Lib.hid hup2
        by_cases hlt2 : m < p.length
        · obtain ⟨g, o, rfl, -, -, cm⟩ := HT.out m hlt2
          have HV2 : Hid (¬ p[m].size = 32 → mayB (vals ls) = false) := Lib.hid (fun hno => HV.out _ rfl (fun h => hno (h.d _ (List.getElem_mem _))))
          obtain ⟨d, hd⟩ : ∃ d, d = p[m] := ⟨_, rfl⟩
          rw [← hd] at cm HV2
          have HD := Lib.hid hd
          have HLT2 := Lib.hid hlt2
          have hi1 : (m : Int) < (p.length : Int) := by omega
          clear hup2 hd
          by_cases h32 : d.size = 32
          · have e8 : ((d.size : Int) != 32) = false := by rw [bne_eq_false_iff_eq]; omega
            have HS := Lib.hid h32
            clear h32
            go_wp2
            go_round
            case rel =>
              refine ⟨m + 1, HLT2.out, by go_num, fun q hq h => ?_⟩
              rcases Nat.lt_or_ge q m with h' | h'
              · exact HUP2.out q hq h'
              · obtain rfl : q = m := by omega
                rw [← HD.out]; exact HS.out
            case measure => have := HLT2.out; simp [intOf]; omega
          · have e8 : ((d.size : Int) != 32) = true := by rw [bne_iff_ne]; omega
            have HE := Lib.hid (HV2.out h32)
            clear h32
            go_wp2
            go_ret
            exact ⟨by rw [HE.out]; rfl, HB.out⟩
        · obtain rfl : m = p.length := by omega
          have HM : Hid (LfMay ⟨i, c, k, v, p⟩) := Lib.hid ⟨HG.out.1, HG.out.2.1, HG.out.2.2.1, HG.out.2.2.2.1, HG.out.2.2.2.2.1, HG.out.2.2.2.2.2.1, HG.out.2.2.2.2.2.2, fun d hd => by
            obtain ⟨q, hq, rfl⟩ := List.getElem_of_mem hd
            exact hup2 q hq hq⟩
          clear hup2
          go_wp2
          go_roundw
          case rel =>
            refine ⟨j + 1, HLT.out, by go_num, fun q hq h => ?_, HB.out⟩
            rcases Nat.lt_or_ge q j with h' | h'
            · exact HUP.out.1 q hq h'
            · obtain rfl : q = j := by omega
              rw [← HX.out]; exact HM.out
          case measure => have := HLT.out; simp [intOf]; omega
    · obtain rfl : j = ls.length := by omega
      have HE : Hid (mayB (vals ls) = true) := Lib.hid (mayB_yes ⟨by rw [vals_len]; have := H2.out; omega, fun l hl => by
        obtain ⟨x, hx, rfl⟩ := List.mem_map.1 hl
        obtain ⟨q, hq, rfl⟩ := List.getElem_of_mem hx
        exact HUP.out.1 q hq hq⟩)
      clear hup
      go_wp2
      go_ret
      exact ⟨by rw [HE.out]; rfl, hbl⟩
/-- a write that leaves a block as it was -/
theorem WrMid.stepX {w wr w' : World} {base B : Nat} {v0 v : Value} {e e' : Int} {l l' : List Nat} (h : WrMid w base B v0 e v l wr) {x : Ending} (hp : WrAny wr base B v e' l' x w') {X : Nat} {o : Obj} (hb : wr.heap[X]? = some o) (h1 : X ≠ B ∧ some X ≠ v.ownBlock) :
    ∃ v', WrMid w base B v0 e' v' l' w' ∧ w'.heap[X]? = some o ∧ (X ≠ B ∧ some X ≠ v'.ownBlock) := by
  obtain ⟨_, v', h2, h3, h4⟩ := hp
  refine ⟨v', h.stepV h2 h3 h4, h3.blk hb (fun hc => ?_), h1.1, fun hc => ?_⟩
  · rcases hc with hc | hc
    · exact h1.1 hc
    · exact h1.2 hc
  · rcases h4 X hc.symm with hc | hc
    · exact h1.2 hc
    · exact absurd (Kq.blk_lt hb) (Nat.not_lt.2 hc)
/-- what a call tells that tells bytes and a code -/
def BsPost (w : World) (r : ByteArray × Int) (x : Ending) (w' : World) : Prop := x = .returned (.tuple #[.string r.1, .int .i64 r.2]) ∧ Below w.heap.size w w'
theorem pfBytes_no {p : PfV} (h : ¬ (p.ls.length ≤ 2 ∧ ∀ l ∈ p.ls, LfMay l)) : pfBytes p = (⟨#[]⟩, 1) := if_neg h
theorem pfBytes_yes {p : PfV} (h : p.ls.length ≤ 2 ∧ ∀ l ∈ p.ls, LfMay l) : pfBytes p = (txt (pfB p), 0) := if_pos h
theorem lsB_take (ls : List LfV) (j : Nat) (h : j < ls.length) : lsB (ls.take (j + 1)) = lsB (ls.take j) ++ lfB ls[j] := by
  rw [List.take_succ_eq_append_getElem h, lsB_append]; simp [lsB]
theorem rawL_take (p : List ByteArray) (j : Nat) (h : j < p.length) : rawL (p.take (j + 1)) = rawL (p.take j) ++ nl p[j] := by
  rw [List.take_succ_eq_append_getElem h, rawL_append]; simp [rawL]
theorem rawL_len : ∀ (p : List ByteArray), (∀ d ∈ p, d.size = 32) → (rawL p).length = 32 * p.length
  | [], _ => rfl
  | d :: p, h => by
    have := rawL_len p (fun x hx => h x (List.mem_cons_of_mem _ hx))
    simp only [rawL, List.length_append, nl_length, h d List.mem_cons_self, List.length_cons]; omega
theorem num8_length (n : Nat) : (num8 n).length = 8 := rfl
theorem lfB_len {l : LfV} (h : LfMay l) : (lfB l).length ≤ 700 := by
  have h1 := h.k
  have h2 := h.v
  have h3 := h.n
  have h4 := rawL_len l.p h.d
  simp only [lfB, tx2, List.length_append, nl_length, List.length_cons, List.length_nil, num8_length]
  omega
theorem lsB_len : ∀ (ls : List LfV), (∀ l ∈ ls, LfMay l) → (lsB ls).length ≤ 700 * ls.length
  | [], _ => by simp [lsB]
  | l :: ls, h => by
    have h1 := lsB_len ls (fun x hx => h x (List.mem_cons_of_mem _ hx))
    have h2 := lfB_len (h l List.mem_cons_self)
    simp only [lsB, List.length_append, List.length_cons]; omega
end Go.Proofs.YtclloplkbajebaaDoor
namespace Go.Proofs.YtclloplkbajebaaDoor
open Go.RowKit
set_option linter.unusedVariables false
/-- in the midst of Bytes: behind w2, with l written -/
structure ByMid (w2 : World) (l : List Nat) (wr : World) : Prop where
  ex : ∃ v, WrMid (w2.alloc (.cells #[.int .i64 0, .slice none 0 0] 66)) w2.heap.size w2.heap.size (.slice none 0 0) 0 v l wr
theorem ByMid.below {w2 wr : World} {l : List Nat} (h : ByMid w2 l wr) : Below w2.heap.size w2 wr := by
  obtain ⟨v, h⟩ := h.ex
  exact WrMid.below h
theorem ByMid.belowM {w2 wr w' : World} {l : List Nat} (h : ByMid w2 l wr) (hb : Below wr.heap.size wr w') : ByMid w2 l w' := by
  obtain ⟨v, h⟩ := h.ex
  exact ⟨v, h.belowM hb⟩
theorem ByMid.step {w2 wr w' : World} {l l' : List Nat} {v : Value} (h : WrMid (w2.alloc (.cells #[.int .i64 0, .slice none 0 0] 66)) w2.heap.size w2.heap.size (.slice none 0 0) 0 v l wr) {x : Ending} (hp : WrAny wr w2.heap.size w2.heap.size v 0 l' x w') : ByMid w2 l' w' := by
  obtain ⟨v', h'⟩ := h.step hp
  exact ⟨v', h'⟩
/-- .. with a box beside it -/
structure ByBox (w2 : World) (l : List Nat) (X : Nat) (o : Obj) (wr : World) : Prop where
  ex : ∃ v, WrMid (w2.alloc (.cells #[.int .i64 0, .slice none 0 0] 66)) w2.heap.size w2.heap.size (.slice none 0 0) 0 v l wr ∧ wr.heap[X]? = some o ∧ (X ≠ w2.heap.size ∧ some X ≠ v.ownBlock)
theorem ByBox.mid {w2 wr : World} {l : List Nat} {X : Nat} {o : Obj} (h : ByBox w2 l X o wr) : ByMid w2 l wr := by
  obtain ⟨v, h, _⟩ := h.ex
  exact ⟨v, h⟩
theorem ByBox.blk {w2 wr : World} {l : List Nat} {X : Nat} {o : Obj} (h : ByBox w2 l X o wr) : wr.heap[X]? = some o := by
  obtain ⟨v, _, h, _⟩ := h.ex
  exact h
theorem ByMid.box {w2 wr : World} {l : List Nat} (h : ByMid w2 l wr) (cs : Array Value) (T : TypeId) : ByBox w2 l wr.heap.size (.cells cs T (0, 0)) (wr.alloc (.cells cs T)) := by
  obtain ⟨v, h⟩ := h.ex
  refine ⟨v, h.belowM (Kq.below_alloc _ _), Kq.blk_new _ _ _ _, ?_, ?_⟩
  · have := Kq.blk_lt h.it.blk; omega
  · exact fun hc => Nat.lt_irrefl _ (h.it.own.lt _ hc.symm).2
/-- the writing calls, each in a contract of this shape -/
def ByPost (w2 : World) (l : List Nat) (x : Ending) (w' : World) : Prop := x = .returned (.tuple #[]) ∧ ByMid w2 l w'
def BxPost (w2 : World) (l : List Nat) (X : Nat) (o : Obj) (x : Ending) (w' : World) : Prop := x = .returned (.tuple #[]) ∧ ByBox w2 l X o w'
section
variable {w2 wr : World} {l : List Nat} {X : Nat} {o : Obj}
theorem by_byte (h : ByMid w2 l wr) (n : Nat) (hn : n ≤ 255) (hl : l.length ≤ 1000000) : Calls Tryd.prog 28 #[.pointer (some ⟨w2.heap.size, 0, none⟩), .int .i64 (n : Int)] wr (ByPost w2 (l ++ [n])) := by
  obtain ⟨v, h⟩ := h.ex
  refine (wr_byte_ok _ _ 0 v l n wr h.it hn (by omega)).mono fun x w' hp => ⟨hp.1, ByMid.step h hp.any⟩
theorem by_raw (h : ByMid w2 l wr) (s : ByteArray) (hl : l.length + s.size ≤ 1000000) : Calls Tryd.prog 31 #[.pointer (some ⟨w2.heap.size, 0, none⟩), .string s] wr (ByPost w2 (l ++ nl s)) := by
  obtain ⟨v, h⟩ := h.ex
  refine (wr_raw _ _ 0 v l s wr h.it (by omega)).mono fun x w' hp => ⟨hp.1, ByMid.step h hp.any⟩
theorem bx_of {l' : List Nat} {v : Value} (h : WrMid (w2.alloc (.cells #[.int .i64 0, .slice none 0 0] 66)) w2.heap.size w2.heap.size (.slice none 0 0) 0 v l wr) (hb : wr.heap[X]? = some o) (hX : X ≠ w2.heap.size ∧ some X ≠ v.ownBlock) {x : Ending} {w' : World} (hp : WrAny wr w2.heap.size w2.heap.size v 0 l' x w') : BxPost w2 l' X o x w' := by
  obtain ⟨v', h1, h2, h3⟩ := h.stepX hp hb hX
  exact ⟨hp.1, v', h1, h2, h3⟩
theorem bx_number (h : ByBox w2 l X o wr) (n : Nat) (hn : n < M64) (hl : l.length ≤ 1000000) : Calls Tryd.prog 29 #[.pointer (some ⟨w2.heap.size, 0, none⟩), .int .u64 (n : Int)] wr (BxPost w2 (l ++ num8 n) X o) := by
  obtain ⟨v, h, hb, hX⟩ := h.ex
  exact (wr_number _ _ 0 v l n wr h.it hn (by omega)).mono fun x w' hp => bx_of h hb hX hp
theorem bx_text (h : ByBox w2 l X o wr) (s : ByteArray) (hs : s.size ≤ 65535) (hl : l.length ≤ 1000000) : Calls Tryd.prog 30 #[.pointer (some ⟨w2.heap.size, 0, none⟩), .string s] wr (BxPost w2 (l ++ tx2 s) X o) := by
  obtain ⟨v, h, hb, hX⟩ := h.ex
  refine (wr_text_ok _ _ 0 v l s wr h.it hs (by omega)).mono fun x w' hp => ?_
  rw [List.append_assoc] at hp
  exact bx_of h hb hX hp
theorem bx_byte (h : ByBox w2 l X o wr) (n : Nat) (hn : n ≤ 255) (hl : l.length ≤ 1000000) : Calls Tryd.prog 28 #[.pointer (some ⟨w2.heap.size, 0, none⟩), .int .i64 (n : Int)] wr (BxPost w2 (l ++ [n]) X o) := by
  obtain ⟨v, h, hb, hX⟩ := h.ex
  exact (wr_byte_ok _ _ 0 v l n wr h.it hn (by omega)).mono fun x w' hp => bx_of h hb hX hp.any
end
theorem by_bytes {w2 wr : World} {l : List Nat} (h : ByMid w2 l wr) (hl : ∀ b ∈ l, b < 256) : Calls Tryd.prog 32 #[.pointer (some ⟨w2.heap.size, 0, none⟩)] wr fun x w' => x = .returned (.tuple #[.string (txt l), .int .i64 0]) ∧ wr = w' := by
  obtain ⟨v, h⟩ := h.ex
  exact wr_bytes_ok _ _ v l wr h.it hl
set_option maxRecDepth 100000 in
set_option maxHeartbeats 2000000 in
theorem pf_bytes_no (S : Nat → Prop) (ab : Bool) (A : Option Addr) (cap : Nat) (ls : List LfW) (w : World) (hA : LfsN w S A ls) (hn : ls.length ≤ 1000) (hp : ∀ x ∈ ls, x.l.p.length ≤ 1000) (hno : ¬ ((vals ls).length ≤ 2 ∧ ∀ l ∈ vals ls, LfMay l)) :
    Calls Tryd.prog 10 #[.agg #[.bool ab, .slice A ls.length cap]] w (BsPost w (pfBytes ⟨ab, vals ls⟩)) := by
  have HE : Hid (pfBytes ⟨ab, vals ls⟩ = (⟨#[]⟩, 1)) := Lib.hid (pfBytes_no hno)
  rw [HE.out]
  have hb0 := Kq.below_alloc w (.cells #[.bool ab, .slice A ls.length cap] 24)
  have HM := Lib.hid (pf_may S A cap ls _ (hA.below hb0) hn hp)
  have HN : Hid (mayB (vals ls) = false) := Lib.hid (mayB_no hno)
  have HB := Lib.hid hb0
  clear hA hp hno hb0
  clear HE
  cases ab
  all_goals
    go_enter Tryd.func10, Tryd.ntmps10
    go_wp2_with fail
    refine HM.out.mono ?_
    rintro x w2 ⟨rfl, b2⟩
    rw [HN.out]
    have H2 : Hid (Below w.heap.size w w2) := Lib.hid (HB.out.trans (b2.mono HB.out.size))
    clear b2 HM
    go_wp2
    go_ret2
    exact ⟨rfl, H2.out⟩
set_option maxRecDepth 100000 in
set_option maxHeartbeats 4000000 in
theorem pf_bytes_yes_f (S : Nat → Prop) (A : Option Addr) (cap : Nat) (ls : List LfW) (w : World) (hA : LfsN w S A ls) (hyes : (vals ls).length ≤ 2 ∧ ∀ l ∈ vals ls, LfMay l) :
    Calls Tryd.prog 10 #[.agg #[.bool false, .slice A ls.length cap]] w (BsPost w (pfBytes ⟨false, vals ls⟩)) := by
  have HE : Hid (pfBytes ⟨false, vals ls⟩ = (txt ([1] ++ ([ls.length] ++ lsB (vals ls))), 0)) := Lib.hid (by
    rw [pfBytes_yes (p := ⟨false, vals ls⟩) hyes]; unfold pfB; simp only [if_false, Bool.false_eq_true]; rw [vals_len])
  have HLT : Hid (∀ b ∈ [1] ++ ([ls.length] ++ lsB (vals ls)), b < 256) := Lib.hid (by
    have := pfB_lt (p := ⟨false, vals ls⟩) hyes
    unfold pfB at this; simp only [if_false, Bool.false_eq_true] at this; rwa [vals_len] at this)
  rw [HE.out]
  have hn2 : ls.length ≤ 2 := by have := hyes.1; rwa [vals_len] at this
  have hp16 : ∀ x ∈ ls, x.l.p.length ≤ 1000 := fun x hx => by have := (hyes.2 x.l (List.mem_map_of_mem hx)).n; omega
  have hb0 := Kq.below_alloc w (.cells #[.bool false, .slice A ls.length cap] 24)
  have HM := Lib.hid (pf_may S A cap ls _ (hA.below hb0) (by omega) hp16)
  have HN : Hid (mayB (vals ls) = true) := Lib.hid (mayB_yes hyes)
  have HB := Lib.hid (And.intro hb0 (And.intro (hA.below hb0) (Kq.blk_new w #[.bool false, .slice A ls.length cap] 24 (0, 0))))
  have HY := Lib.hid hyes
  have H2N := Lib.hid hn2
  clear hA hyes hb0 hp16
  clear HE
  go_enter Tryd.func10, Tryd.ntmps10
  go_wp2_with fail
  refine HM.out.mono ?_
  rintro x w2 ⟨rfl, b2⟩
  rw [HN.out]
  have H2 : Hid (Below w.heap.size w w2 ∧ LfsN w2 S A ls ∧ w2.heap[w.heap.size]? = some (.cells #[.bool false, .slice A ls.length cap] 24 (0, 0)) ∧ w.heap.size < w2.heap.size) := Lib.hid ⟨HB.out.1.trans (b2.mono HB.out.1.size), HB.out.2.1.below b2, Kq.below_blk b2 HB.out.2.2 (Kq.blk_lt HB.out.2.2), Nat.lt_of_lt_of_le (Kq.blk_lt HB.out.2.2) b2.size⟩
  clear b2 HM HB
  have HW : Hid (ByMid w2 [] (w2.alloc (.cells #[.int .i64 0, .slice none 0 0] 66))) := Lib.hid ⟨_, WrMid.start (wr_new w2)⟩
  have HX : Hid (∀ wr l, ByMid w2 l wr → wr.cell? ⟨w.heap.size, 0, none⟩ = some (.bool false) ∧ wr.cell? ⟨w.heap.size, 1, none⟩ = some (.slice A ls.length cap)) := Lib.hid (fun wr l h => by
    have hb := Kq.below_blk h.below H2.out.2.2.1 H2.out.2.2.2
    exact ⟨Kq.blk_cell hb 0, Kq.blk_cell hb 1⟩)
  have HP1 : Hid (Calls Tryd.prog 28 #[.pointer (some ⟨w2.heap.size, 0, none⟩), .int .i64 1] (w2.alloc (.cells #[.int .i64 0, .slice none 0 0] 66)) (ByPost w2 ([] ++ [1]))) := Lib.hid (by_byte HW.out 1 (by decide) (by simp))
  rw [List.nil_append] at HP1
  have c0 := (HX.out _ _ HW.out).1
  have c1 := (HX.out _ _ HW.out).2
  obtain ⟨pre, hpre⟩ : ∃ pre, pre = [1] := ⟨_, rfl⟩
  have HPL : Hid (pre.length = 1) := Lib.hid (by rw [hpre]; rfl)
  rw [← hpre] at HP1 HLT
  have HPRE := Lib.hid hpre
  clear hpre
  go_wp2_with fail
  refine HP1.out.mono ?_
  rintro x w3 ⟨rfl, H3⟩
  have H3 := Lib.hid H3
  clear c0 c1 HP1
  have c0 := (HX.out _ _ H3.out).1
  have c1 := (HX.out _ _ H3.out).2
  go_wp2_with fail
  refine (by_byte H3.out ls.length (by omega) (by have := HPL.out; omega)).mono ?_
  rintro x w4 ⟨rfl, H4⟩
  have H4 := Lib.hid H4
  clear c0 c1 H3
  have c0 := (HX.out _ _ H4.out).1
  have c1 := (HX.out _ _ H4.out).2
  go_wp2
  clear c0 c1
  go_loopw [24] (fun i wr => ∃ j : Nat, j ≤ ls.length ∧ i = .int .i64 (j : Int) ∧ ByMid w2 (pre ++ ([ls.length] ++ lsB ((vals ls).take j))) wr) (fun i _ => ls.length - (intOf i).toNat)
  case atStart => exact ⟨0, by omega, rfl, by simpa [lsB, List.append_assoc] using H4.out⟩
  case round =>
    obtain ⟨j, hj, rfl, hmid⟩ := hrel
    have HMID := Lib.hid hmid
    have hn2 := H2N.out
    clear hmid
    by_cases hlt : j < ls.length
    · obtain ⟨b, off, rfl, -, hb, hc, ht, -⟩ := (H2.out.2.1.below HMID.out.below) j hlt
      have hv : j < (vals ls).length := by rw [vals_len]; exact hlt
      have hmay : LfMay ls[j].l := HY.out.2 _ (vals_mem hlt)
      have HLB : Hid ((pre ++ ([ls.length] ++ lsB ((vals ls).take j))).length ≤ 10000) := Lib.hid (by
        have h1 := lsB_len ((vals ls).take j) (fun x hx => HY.out.2 x (List.mem_of_mem_take hx))
        have h2 : ((vals ls).take j).length ≤ 2 := by rw [List.length_take, vals_len]; omega
        have h3 := HPL.out
        simp only [List.length_append, List.length_cons, List.length_nil]; omega)
      have HTK : Hid (lsB ((vals ls).take (j + 1)) = lsB ((vals ls).take j) ++ lfB ls[j].l) := Lib.hid (by rw [lsB_take _ _ hv]; simp [vals])
      obtain ⟨b', off', he', -, -, -, ht2, -⟩ := H2.out.2.1 j hlt
      clear he'
      obtain ⟨x, hx⟩ : ∃ x, x = ls[j] := ⟨_, rfl⟩
      rw [← hx] at hc ht hmay HTK ht2
      have HLT2 := Lib.hid hlt
      have hi0 : (j : Int) < (ls.length : Int) := by omega
      clear hb hx hv
      obtain ⟨⟨i, c, k, v, p⟩, a, cp⟩ := x
      obtain ⟨c0, c1, c2, c3, c4⟩ := hc
      simp only at c0 c1 c2 c3 c4 ht hmay HTK ht2
      have HT2 := Lib.hid ht2
      clear ht2
      have HMAY := Lib.hid hmay
      obtain ⟨iN, rfl⟩ := Int.eq_ofNat_of_zero_le hmay.i0
      obtain ⟨cN, rfl⟩ := Int.eq_ofNat_of_zero_le hmay.c0
      have hiN : iN ≤ 4096 := by have := hmay.i1; simp only at this; omega
      have hcN : cN ≤ 4096 := by have := hmay.c1; simp only at this; omega
      have hpn : p.length ≤ 16 := hmay.n
      have hks : k.size ≤ 16 := hmay.k
      have hvs : v.size ≤ 64 := hmay.v
      have hw1 : IntKind.u64.wrap (iN : Int) = (iN : Int) := IntWalk.u64_in _ (by omega)
      have hw2 : IntKind.u64.wrap (cN : Int) = (cN : Int) := IntWalk.u64_in _ (by omega)
      obtain ⟨L0, hL0⟩ : ∃ L0, L0 = pre ++ ([ls.length] ++ lsB ((vals ls).take j)) := ⟨_, rfl⟩
      rw [← hL0] at HMID HLB
      have HL0 := Lib.hid hL0
      have hL := HLB.out
      have HBX := Lib.hid (HMID.out.box #[.int .i64 (iN : Int), .int .i64 (cN : Int), .string k, .string v, .slice a p.length cp] 30)
      clear hmay ht hL0
      go_wp2_with fail
      refine (bx_number HBX.out iN (by unfold M64; omega) (by omega)).mono ?_
      rintro x w5 ⟨rfl, H5⟩
      have H5 := Lib.hid H5
      clear c0 c1 c2 c3 c4 HBX
      have c0 := Kq.blk_cell H5.out.blk 0
      have c1 := Kq.blk_cell H5.out.blk 1
      have c2 := Kq.blk_cell H5.out.blk 2
      have c3 := Kq.blk_cell H5.out.blk 3
      have c4 := Kq.blk_cell H5.out.blk 4
      simp only [List.getElem?_toArray, List.getElem?_cons_zero, List.getElem?_cons_succ] at c0 c1 c2 c3 c4
      go_wp2_with fail
      refine (bx_number H5.out cN (by unfold M64; omega) (by simp only [List.length_append, num8_length]; omega)).mono ?_
      rintro x w6 ⟨rfl, H6⟩
      have H6 := Lib.hid H6
      clear c0 c1 c2 c3 c4 H5
      have c2 := Kq.blk_cell H6.out.blk 2
      have c3 := Kq.blk_cell H6.out.blk 3
      have c4 := Kq.blk_cell H6.out.blk 4
      simp only [List.getElem?_toArray, List.getElem?_cons_zero, List.getElem?_cons_succ] at c2 c3 c4
      go_wp2_with fail
      refine (bx_text H6.out k (by omega) (by simp only [List.length_append, num8_length]; omega)).mono ?_
      rintro x w7 ⟨rfl, H7⟩
      have H7 := Lib.hid H7
      clear c2 c3 c4 H6
      have c3 := Kq.blk_cell H7.out.blk 3
      have c4 := Kq.blk_cell H7.out.blk 4
      simp only [List.getElem?_toArray, List.getElem?_cons_zero, List.getElem?_cons_succ] at c3 c4
      go_wp2_with fail
      refine (bx_text H7.out v (by omega) (by simp only [List.length_append, num8_length, tx2, nl_length, List.length_cons, List.length_nil]; omega)).mono ?_
      rintro x w8 ⟨rfl, H8⟩
      have H8 := Lib.hid H8
      clear c3 c4 H7
      have c4 := Kq.blk_cell H8.out.blk 4
      simp only [List.getElem?_toArray, List.getElem?_cons_zero, List.getElem?_cons_succ] at c4
      go_wp2_with fail
      refine (bx_byte H8.out p.length (by omega) (by simp only [List.length_append, num8_length, tx2, nl_length, List.length_cons, List.length_nil]; omega)).mono ?_
      rintro x w9 ⟨rfl, H9⟩
      have H9 := Lib.hid H9
      clear c4 H8
      have c4 := Kq.blk_cell H9.out.blk 4
      simp only [List.getElem?_toArray, List.getElem?_cons_zero, List.getElem?_cons_succ] at c4
      obtain ⟨L1, hL1⟩ : ∃ L1, L1 = L0 ++ num8 iN ++ num8 cN ++ tx2 k ++ tx2 v ++ [p.length] := ⟨_, rfl⟩
      rw [← hL1] at H9
      have HL1 : Hid (L1.length ≤ 10200 ∧ L1 ++ rawL p = L0 ++ lfB ⟨(iN : Int), (cN : Int), k, v, p⟩) := Lib.hid ⟨by rw [hL1]; simp only [List.length_append, num8_length, tx2, nl_length, List.length_cons, List.length_nil]; omega, by rw [hL1]; unfold lfB; simp only [Int.toNat_natCast, List.append_assoc]⟩
      clear hL1
      go_wp2
      clear c4
      go_loopw [51] (fun u wr => ∃ m : Nat, m ≤ p.length ∧ u = .int .i64 (m : Int) ∧ ByMid w2 (L1 ++ rawL (p.take m)) wr) (fun u _ => p.length - (intOf u).toNat)
      case atStart => exact ⟨0, by omega, rfl, by simpa [rawL] using H9.out.mid⟩
      case round =>
        obtain ⟨m, hm, rfl, hmid⟩ := hrel
        have HMID2 := Lib.hid hmid
        clear hmid
        by_cases hlt2 : m < p.length
        · obtain ⟨g, o, rfl, -, hg, cm⟩ := HT2.out m hlt2
          have cm' := (HMID2.out.below.cell (p := ⟨g, o + m, none⟩) hg).trans cm
          clear cm hg
          have HRL : Hid (L1 ++ rawL (p.take (m + 1)) = (L1 ++ rawL (p.take m)) ++ nl p[m]) := Lib.hid (by rw [rawL_take p m hlt2, List.append_assoc])
          have HLL : Hid ((L1 ++ rawL (p.take m)).length + p[m].size ≤ 1000000) := Lib.hid (by
            have h1 := HL1.out.1
            have h2 := rawL_len (p.take m) (fun d hd => HMAY.out.d d (List.mem_of_mem_take hd))
            have h3 := HMAY.out.d p[m] (List.getElem_mem _)
            rw [List.length_take] at h2
            rw [List.length_append]; omega)
          obtain ⟨d, hd⟩ : ∃ d, d = p[m] := ⟨_, rfl⟩
          rw [← hd] at cm' HRL HLL
          clear hd
          have hi1 : (m : Int) < (p.length : Int) := by omega
          have HLT3 := Lib.hid hlt2
          obtain ⟨L2, hL2⟩ : ∃ L2, L2 = L1 ++ rawL (p.take m) := ⟨_, rfl⟩
          rw [← hL2] at HMID2 HRL HLL
          clear hL2
          go_wp2_with fail
          refine (by_raw HMID2.out d HLL.out).mono ?_
          rintro x w10 ⟨rfl, H10⟩
          have H10 := Lib.hid H10
          go_wp2
          go_roundw
          case rel => exact ⟨m + 1, HLT3.out, by go_num, by rw [HRL.out]; exact H10.out⟩
          case measure => have := HLT3.out; simp [intOf]; omega
        · obtain rfl : m = p.length := by omega
          have HEND : Hid (ByMid w2 (pre ++ ([ls.length] ++ lsB ((vals ls).take (j + 1)))) wr) := Lib.hid (by
            have := HMID2.out
            rw [List.take_length, HL1.out.2, HL0.out] at this
            rw [HTK.out]
            simpa [List.append_assoc] using this)
          go_wp2
          go_roundw
          case rel => exact ⟨j + 1, HLT2.out, by go_num, HEND.out⟩
          case measure => have := HLT2.out; simp [intOf]; omega
    · obtain rfl : j = ls.length := by omega
      have HML := Lib.hid HMID.out
      have HTA : Hid ((vals ls).take ls.length = vals ls) := Lib.hid (by rw [← vals_len, List.take_length])
      rw [HTA.out] at HMID
      clear HML
      go_wp2_with fail
      refine (by_bytes HMID.out HLT.out).mono ?_
      rintro x w5 ⟨rfl, rfl⟩
      have H5 : Hid (Below w.heap.size w wr) := Lib.hid (H2.out.1.trans (HMID.out.below.mono H2.out.1.size))
      go_wp2
      go_ret2
      exact ⟨by rw [HPRE.out]; rfl, H5.out⟩
set_option maxRecDepth 100000 in
set_option maxHeartbeats 4000000 in
theorem pf_bytes_yes_t (S : Nat → Prop) (A : Option Addr) (cap : Nat) (ls : List LfW) (w : World) (hA : LfsN w S A ls) (hyes : (vals ls).length ≤ 2 ∧ ∀ l ∈ vals ls, LfMay l) :
    Calls Tryd.prog 10 #[.agg #[.bool true, .slice A ls.length cap]] w (BsPost w (pfBytes ⟨true, vals ls⟩)) := by
  have HE : Hid (pfBytes ⟨true, vals ls⟩ = (txt ([2] ++ ([ls.length] ++ lsB (vals ls))), 0)) := Lib.hid (by
    rw [pfBytes_yes (p := ⟨true, vals ls⟩) hyes]; unfold pfB; simp only [if_true]; rw [vals_len])
  have HLT : Hid (∀ b ∈ [2] ++ ([ls.length] ++ lsB (vals ls)), b < 256) := Lib.hid (by
    have := pfB_lt (p := ⟨true, vals ls⟩) hyes
    unfold pfB at this; simp only [if_true] at this; rwa [vals_len] at this)
  rw [HE.out]
  have hn2 : ls.length ≤ 2 := by have := hyes.1; rwa [vals_len] at this
  have hp16 : ∀ x ∈ ls, x.l.p.length ≤ 1000 := fun x hx => by have := (hyes.2 x.l (List.mem_map_of_mem hx)).n; omega
  have hb0 := Kq.below_alloc w (.cells #[.bool true, .slice A ls.length cap] 24)
  have HM := Lib.hid (pf_may S A cap ls _ (hA.below hb0) (by omega) hp16)
  have HN : Hid (mayB (vals ls) = true) := Lib.hid (mayB_yes hyes)
  have HB := Lib.hid (And.intro hb0 (And.intro (hA.below hb0) (Kq.blk_new w #[.bool true, .slice A ls.length cap] 24 (0, 0))))
  have HY := Lib.hid hyes
  have H2N := Lib.hid hn2
  clear hA hyes hb0 hp16
  clear HE
  go_enter Tryd.func10, Tryd.ntmps10
  go_wp2_with fail
  refine HM.out.mono ?_
  rintro x w2 ⟨rfl, b2⟩
  rw [HN.out]
  have H2 : Hid (Below w.heap.size w w2 ∧ LfsN w2 S A ls ∧ w2.heap[w.heap.size]? = some (.cells #[.bool true, .slice A ls.length cap] 24 (0, 0)) ∧ w.heap.size < w2.heap.size) := Lib.hid ⟨HB.out.1.trans (b2.mono HB.out.1.size), HB.out.2.1.below b2, Kq.below_blk b2 HB.out.2.2 (Kq.blk_lt HB.out.2.2), Nat.lt_of_lt_of_le (Kq.blk_lt HB.out.2.2) b2.size⟩
  clear b2 HM HB
  have HW : Hid (ByMid w2 [] (w2.alloc (.cells #[.int .i64 0, .slice none 0 0] 66))) := Lib.hid ⟨_, WrMid.start (wr_new w2)⟩
  have HX : Hid (∀ wr l, ByMid w2 l wr → wr.cell? ⟨w.heap.size, 0, none⟩ = some (.bool true) ∧ wr.cell? ⟨w.heap.size, 1, none⟩ = some (.slice A ls.length cap)) := Lib.hid (fun wr l h => by
    have hb := Kq.below_blk h.below H2.out.2.2.1 H2.out.2.2.2
    exact ⟨Kq.blk_cell hb 0, Kq.blk_cell hb 1⟩)
  have HP1 : Hid (Calls Tryd.prog 28 #[.pointer (some ⟨w2.heap.size, 0, none⟩), .int .i64 2] (w2.alloc (.cells #[.int .i64 0, .slice none 0 0] 66)) (ByPost w2 ([] ++ [2]))) := Lib.hid (by_byte HW.out 2 (by decide) (by simp))
  rw [List.nil_append] at HP1
  have c0 := (HX.out _ _ HW.out).1
  have c1 := (HX.out _ _ HW.out).2
  obtain ⟨pre, hpre⟩ : ∃ pre, pre = [2] := ⟨_, rfl⟩
  have HPL : Hid (pre.length = 1) := Lib.hid (by rw [hpre]; rfl)
  rw [← hpre] at HP1 HLT
  have HPRE := Lib.hid hpre
  clear hpre
  go_wp2_with fail
  refine HP1.out.mono ?_
  rintro x w3 ⟨rfl, H3⟩
  have H3 := Lib.hid H3
  clear c0 c1 HP1
  have c0 := (HX.out _ _ H3.out).1
  have c1 := (HX.out _ _ H3.out).2
  go_wp2_with fail
  refine (by_byte H3.out ls.length (by omega) (by have := HPL.out; omega)).mono ?_
  rintro x w4 ⟨rfl, H4⟩
  have H4 := Lib.hid H4
  clear c0 c1 H3
  have c0 := (HX.out _ _ H4.out).1
  have c1 := (HX.out _ _ H4.out).2
  go_wp2
  clear c0 c1
  go_loopw [24] (fun i wr => ∃ j : Nat, j ≤ ls.length ∧ i = .int .i64 (j : Int) ∧ ByMid w2 (pre ++ ([ls.length] ++ lsB ((vals ls).take j))) wr) (fun i _ => ls.length - (intOf i).toNat)
  case atStart => exact ⟨0, by omega, rfl, by simpa [lsB, List.append_assoc] using H4.out⟩
  case round =>
    obtain ⟨j, hj, rfl, hmid⟩ := hrel
    have HMID := Lib.hid hmid
    have hn2 := H2N.out
    clear hmid
    by_cases hlt : j < ls.length
    · obtain ⟨b, off, rfl, -, hb, hc, ht, -⟩ := (H2.out.2.1.below HMID.out.below) j hlt
      have hv : j < (vals ls).length := by rw [vals_len]; exact hlt
      have hmay : LfMay ls[j].l := HY.out.2 _ (vals_mem hlt)
      have HLB : Hid ((pre ++ ([ls.length] ++ lsB ((vals ls).take j))).length ≤ 10000) := Lib.hid (by
        have h1 := lsB_len ((vals ls).take j) (fun x hx => HY.out.2 x (List.mem_of_mem_take hx))
        have h2 : ((vals ls).take j).length ≤ 2 := by rw [List.length_take, vals_len]; omega
        have h3 := HPL.out
        simp only [List.length_append, List.length_cons, List.length_nil]; omega)
      have HTK : Hid (lsB ((vals ls).take (j + 1)) = lsB ((vals ls).take j) ++ lfB ls[j].l) := Lib.hid (by rw [lsB_take _ _ hv]; simp [vals])
      obtain ⟨b', off', he', -, -, -, ht2, -⟩ := H2.out.2.1 j hlt
      clear he'
      obtain ⟨x, hx⟩ : ∃ x, x = ls[j] := ⟨_, rfl⟩
      rw [← hx] at hc ht hmay HTK ht2
      have HLT2 := Lib.hid hlt
      have hi0 : (j : Int) < (ls.length : Int) := by omega
      clear hb hx hv
      obtain ⟨⟨i, c, k, v, p⟩, a, cp⟩ := x
      obtain ⟨c0, c1, c2, c3, c4⟩ := hc
      simp only at c0 c1 c2 c3 c4 ht hmay HTK ht2
      have HT2 := Lib.hid ht2
      clear ht2
      have HMAY := Lib.hid hmay
      obtain ⟨iN, rfl⟩ := Int.eq_ofNat_of_zero_le hmay.i0
      obtain ⟨cN, rfl⟩ := Int.eq_ofNat_of_zero_le hmay.c0
      have hiN : iN ≤ 4096 := by have := hmay.i1; simp only at this; omega
      have hcN : cN ≤ 4096 := by have := hmay.c1; simp only at this; omega
      have hpn : p.length ≤ 16 := hmay.n
      have hks : k.size ≤ 16 := hmay.k
      have hvs : v.size ≤ 64 := hmay.v
      have hw1 : IntKind.u64.wrap (iN : Int) = (iN : Int) := IntWalk.u64_in _ (by omega)
      have hw2 : IntKind.u64.wrap (cN : Int) = (cN : Int) := IntWalk.u64_in _ (by omega)
      obtain ⟨L0, hL0⟩ : ∃ L0, L0 = pre ++ ([ls.length] ++ lsB ((vals ls).take j)) := ⟨_, rfl⟩
      rw [← hL0] at HMID HLB
      have HL0 := Lib.hid hL0
      have hL := HLB.out
      have HBX := Lib.hid (HMID.out.box #[.int .i64 (iN : Int), .int .i64 (cN : Int), .string k, .string v, .slice a p.length cp] 30)
      clear hmay ht hL0
      go_wp2_with fail
      refine (bx_number HBX.out iN (by unfold M64; omega) (by omega)).mono ?_
      rintro x w5 ⟨rfl, H5⟩
      have H5 := Lib.hid H5
      clear c0 c1 c2 c3 c4 HBX
      have c0 := Kq.blk_cell H5.out.blk 0
      have c1 := Kq.blk_cell H5.out.blk 1
      have c2 := Kq.blk_cell H5.out.blk 2
      have c3 := Kq.blk_cell H5.out.blk 3
      have c4 := Kq.blk_cell H5.out.blk 4
      simp only [List.getElem?_toArray, List.getElem?_cons_zero, List.getElem?_cons_succ] at c0 c1 c2 c3 c4
      go_wp2_with fail
      refine (bx_number H5.out cN (by unfold M64; omega) (by simp only [List.length_append, num8_length]; omega)).mono ?_
      rintro x w6 ⟨rfl, H6⟩
      have H6 := Lib.hid H6
      clear c0 c1 c2 c3 c4 H5
      have c2 := Kq.blk_cell H6.out.blk 2
      have c3 := Kq.blk_cell H6.out.blk 3
      have c4 := Kq.blk_cell H6.out.blk 4
      simp only [List.getElem?_toArray, List.getElem?_cons_zero, List.getElem?_cons_succ] at c2 c3 c4
      go_wp2_with fail
      refine (bx_text H6.out k (by omega) (by simp only [List.length_append, num8_length]; omega)).mono ?_
      rintro x w7 ⟨rfl, H7⟩
      have H7 := Lib.hid H7
      clear c2 c3 c4 H6
      have c3 := Kq.blk_cell H7.out.blk 3
      have c4 := Kq.blk_cell H7.out.blk 4
      simp only [List.getElem?_toArray, List.getElem?_cons_zero, List.getElem?_cons_succ] at c3 c4
      go_wp2_with fail
      refine (bx_text H7.out v (by omega) (by simp only [List.length_append, num8_length, tx2, nl_length, List.length_cons, List.length_nil]; omega)).mono ?_
      rintro x w8 ⟨rfl, H8⟩
      have H8 := Lib.hid H8
      clear c3 c4 H7
      have c4 := Kq.blk_cell H8.out.blk 4
      simp only [List.getElem?_toArray, List.getElem?_cons_zero, List.getElem?_cons_succ] at c4
      go_wp2_with fail
      refine (bx_byte H8.out p.length (by omega) (by simp only [List.length_append, num8_length, tx2, nl_length, List.length_cons, List.length_nil]; omega)).mono ?_
      rintro x w9 ⟨rfl, H9⟩
      have H9 := Lib.hid H9
      clear c4 H8
      have c4 := Kq.blk_cell H9.out.blk 4
      simp only [List.getElem?_toArray, List.getElem?_cons_zero, List.getElem?_cons_succ] at c4
      obtain ⟨L1, hL1⟩ : ∃ L1, L1 = L0 ++ num8 iN ++ num8 cN ++ tx2 k ++ tx2 v ++ [p.length] := ⟨_, rfl⟩
      rw [← hL1] at H9
      have HL1 : Hid (L1.length ≤ 10200 ∧ L1 ++ rawL p = L0 ++ lfB ⟨(iN : Int), (cN : Int), k, v, p⟩) := Lib.hid ⟨by rw [hL1]; simp only [List.length_append, num8_length, tx2, nl_length, List.length_cons, List.length_nil]; omega, by rw [hL1]; unfold lfB; simp only [Int.toNat_natCast, List.append_assoc]⟩
      clear hL1
      go_wp2
      clear c4
      go_loopw [51] (fun u wr => ∃ m : Nat, m ≤ p.length ∧ u = .int .i64 (m : Int) ∧ ByMid w2 (L1 ++ rawL (p.take m)) wr) (fun u _ => p.length - (intOf u).toNat)
      case atStart => exact ⟨0, by omega, rfl, by simpa [rawL] using H9.out.mid⟩
      case round =>
        obtain ⟨m, hm, rfl, hmid⟩ := hrel
        have HMID2 := Lib.hid hmid
        clear hmid
        by_cases hlt2 : m < p.length
        · obtain ⟨g, o, rfl, -, hg, cm⟩ := HT2.out m hlt2
          have cm' := (HMID2.out.below.cell (p := ⟨g, o + m, none⟩) hg).trans cm
          clear cm hg
          have HRL : Hid (L1 ++ rawL (p.take (m + 1)) = (L1 ++ rawL (p.take m)) ++ nl p[m]) := Lib.hid (by rw [rawL_take p m hlt2, List.append_assoc])
          have HLL : Hid ((L1 ++ rawL (p.take m)).length + p[m].size ≤ 1000000) := Lib.hid (by
            have h1 := HL1.out.1
            have h2 := rawL_len (p.take m) (fun d hd => HMAY.out.d d (List.mem_of_mem_take hd))
            have h3 := HMAY.out.d p[m] (List.getElem_mem _)
            rw [List.length_take] at h2
            rw [List.length_append]; omega)
          obtain ⟨d, hd⟩ : ∃ d, d = p[m] := ⟨_, rfl⟩
          rw [← hd] at cm' HRL HLL
          clear hd
          have hi1 : (m : Int) < (p.length : Int) := by omega
          have HLT3 := Lib.hid hlt2
          obtain ⟨L2, hL2⟩ : ∃ L2, L2 = L1 ++ rawL (p.take m) := ⟨_, rfl⟩
          rw [← hL2] at HMID2 HRL HLL
          clear hL2
          go_wp2_with fail
          refine (by_raw HMID2.out d HLL.out).mono ?_
          rintro x w10 ⟨rfl, H10⟩
          have H10 := Lib.hid H10
          go_wp2
          go_roundw
          case rel => exact ⟨m + 1, HLT3.out, by go_num, by rw [HRL.out]; exact H10.out⟩
          case measure => have := HLT3.out; simp [intOf]; omega
        · obtain rfl : m = p.length := by omega
          have HEND : Hid (ByMid w2 (pre ++ ([ls.length] ++ lsB ((vals ls).take (j + 1)))) wr) := Lib.hid (by
            have := HMID2.out
            rw [List.take_length, HL1.out.2, HL0.out] at this
            rw [HTK.out]
            simpa [List.append_assoc] using this)
          go_wp2
          go_roundw
          case rel => exact ⟨j + 1, HLT2.out, by go_num, HEND.out⟩
          case measure => have := HLT2.out; simp [intOf]; omega
    · obtain rfl : j = ls.length := by omega
      have HML := Lib.hid HMID.out
      have HTA : Hid ((vals ls).take ls.length = vals ls) := Lib.hid (by rw [← vals_len, List.take_length])
      rw [HTA.out] at HMID
      clear HML
      go_wp2_with fail
      refine (by_bytes HMID.out HLT.out).mono ?_
      rintro x w5 ⟨rfl, rfl⟩
      have H5 : Hid (Below w.heap.size w wr) := Lib.hid (H2.out.1.trans (HMID.out.below.mono H2.out.1.size))
      go_wp2
      go_ret2
      exact ⟨by rw [HPRE.out]; rfl, H5.out⟩
theorem pf_bytes (S : Nat → Prop) (ab : Bool) (A : Option Addr) (cap : Nat) (ls : List LfW) (w : World) (hA : LfsN w S A ls) (hn : ls.length ≤ 1000) (hp : ∀ x ∈ ls, x.l.p.length ≤ 1000) :
    Calls Tryd.prog 10 #[.agg #[.bool ab, .slice A ls.length cap]] w (BsPost w (pfBytes ⟨ab, vals ls⟩)) := by
  by_cases h : (vals ls).length ≤ 2 ∧ ∀ l ∈ vals ls, LfMay l
  · cases ab
    · exact pf_bytes_yes_f S A cap ls w hA h
    · exact pf_bytes_yes_t S A cap ls w hA h
  · exact pf_bytes_no S ab A cap ls w hA hn hp h
end Go.Proofs.YtclloplkbajebaaDoor
