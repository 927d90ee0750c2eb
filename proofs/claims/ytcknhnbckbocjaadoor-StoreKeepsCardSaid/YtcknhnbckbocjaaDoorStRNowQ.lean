/- Merged: StR, StRGet, StRNow. The document's store in memory; contracts of its Height, find, Get. Condition: sizes. The document's store kept; contract of its Get. Condition: sizes. Contract of the document's Set. Condition: sizes. -/
import Derived.WalkSpells
import Derived.Outline
import Derived.Deep.QuietTactic
import Derived.BigQuiet
import Derived.Test.YtcknhnbckbocjaaDoorStComQ
namespace Go.Proofs.YtcknhnbckbocjaaDoor
open Go.RowKit
set_option linter.unusedVariables false
/-- pairs in memory, in a block of O -/
structure PsO (w : World) (O : Nat → Prop) (A : Option Addr) (l : List PairV) : Prop where
  at_ : PsAt w A l
  o : ∀ b off, A = some ⟨b, off, none⟩ → O b ∧ b < w.heap.size
theorem psAt_keeps {w w' : World} {A : Option Addr} {l : List PairV} {S : Nat → Prop} (h : PsAt w A l) (hk : Kq.Keeps S w w') (hS : ∀ b off, A = some ⟨b, off, none⟩ → ¬ S b) : PsAt w' A l := fun j hj => by
  obtain ⟨b, off, e, h1, h2, h3⟩ := h j hj
  have hb := hk.block b h1 (hS b off e)
  exact ⟨b, off, e, Nat.lt_of_lt_of_le h1 hk.size, by rw [World.cell?_of_block hb]; exact h2, by rw [World.cell?_of_block hb]; exact h3⟩
section
variable {w w' : World} {O O' : Nat → Prop} {A : Option Addr} {l : List PairV}
theorem PsO.keeps {S : Nat → Prop} (h : PsO w O A l) (hk : Kq.Keeps S w w') (hS : ∀ b, O b → b < w.heap.size → (∃ off, A = some ⟨b, off, none⟩) → ¬ S b) : PsO w' O A l :=
  ⟨psAt_keeps h.at_ hk (fun b off e => hS b (h.o b off e).1 (h.o b off e).2 ⟨off, e⟩), fun b off e => ⟨(h.o b off e).1, Nat.lt_of_lt_of_le (h.o b off e).2 hk.size⟩⟩
theorem PsO.mono (h : PsO w O A l) (hO : ∀ k, O k → O' k) : PsO w O' A l := ⟨h.at_, fun b off e => ⟨hO _ (h.o b off e).1, (h.o b off e).2⟩⟩
theorem PsO.nil : PsO w O none [] := ⟨fun j hj => absurd hj (Nat.not_lt_zero _), fun b off e => by cases e⟩
end
structure RP (w : World) (O : Nat → Prop) (B : Nat) (s : StV) (An : Option Addr) (cn : Nat) (Ab : Option Addr) (cb : Nat) : Prop where
  blk : w.heap[B]? = some (.cells #[.slice An s.now.length cn, .int .u64 (s.first : Int), .slice Ab s.blks.length cb] 38 (0, 0))
  now : PsO w O An s.now
  sh : (An = none ∧ cn = 0) ∨ ∃ b off, An = some ⟨b, off, none⟩
  cap : s.now.length ≤ cn
  cab : s.blks.length ≤ cb
  row : ∀ i (h : i < s.blks.length), ∃ g o A c, Ab = some ⟨g, o, none⟩ ∧ g < w.heap.size ∧ w.cell? ⟨g, o + i, none⟩ = some (.slice A s.blks[i].length c) ∧ s.blks[i].length ≤ c ∧ PsO w O A s.blks[i]
  oB : O B
  oA : ∀ b off, Ab = some ⟨b, off, none⟩ → O b
  ne : (∀ b off, An = some ⟨b, off, none⟩ → b ≠ B) ∧ (∀ b off, Ab = some ⟨b, off, none⟩ → b ≠ B) ∧ (∀ i (h : i < s.blks.length) g o A c, Ab = some ⟨g, o, none⟩ → w.cell? ⟨g, o + i, none⟩ = some (.slice A s.blks[i].length c) → ∀ b off, A = some ⟨b, off, none⟩ → b ≠ B)
def RefP (w : World) (O : Nat → Prop) (B : Nat) (s : StV) : Prop := ∃ An cn Ab cb, RP w O B s An cn Ab cb
section
variable {w w' : World} {O O' : Nat → Prop} {B : Nat} {s : StV} {An : Option Addr} {cn : Nat} {Ab : Option Addr} {cb : Nat}
theorem RP.c0 (h : RP w O B s An cn Ab cb) : w.cell? ⟨B, 0, none⟩ = some (.slice An s.now.length cn) := Kq.blk_cell h.blk 0
theorem RP.c1 (h : RP w O B s An cn Ab cb) : w.cell? ⟨B, 1, none⟩ = some (.int .u64 (s.first : Int)) := Kq.blk_cell h.blk 1
theorem RP.c2 (h : RP w O B s An cn Ab cb) : w.cell? ⟨B, 2, none⟩ = some (.slice Ab s.blks.length cb) := Kq.blk_cell h.blk 2
theorem RP.fz (h : RP w O B s An cn Ab cb) (j : Nat) : w.frozen? ⟨B, j, none⟩ = false := Kq.blk_free h.blk j
end
section
variable (w : World) (O : Nat → Prop) (B : Nat) (s : StV)
set_option maxRecDepth 100000 in
set_option maxHeartbeats 1000000 in
theorem sr_height (h : RefP w O B s) (hs : StOk s) : Calls Tryd.prog 14 #[.pointer (some ⟨B, 0, none⟩)] w fun x w' => x = .returned (.int .u64 (s.height : Int)) ∧ ∃ n, w' = w.drewN n := by
  obtain ⟨An, cn, Ab, cb, h⟩ := h
  have c1 := h.c1
  have c2 := h.c2
  have htop := hs.top
  have hone := hs.one
  have hfew := hs.few
  obtain ⟨n, hn⟩ : ∃ n, n = s.blks.length := ⟨_, rfl⟩
  obtain ⟨t, ht⟩ : ∃ t, t = s.height := ⟨_, rfl⟩
  obtain ⟨f, hf⟩ : ∃ f, f = s.first := ⟨_, rfl⟩
  have htt : t = f + (n - 1) := by rw [ht, hn, hf]; rfl
  rw [← hn] at c2 htop hone hfew
  rw [← hf] at c1 htop
  rw [← ht]
  have hw1 : IntKind.i64.wrap ((n : Int) - 1) = ((n - 1 : Nat) : Int) := by rw [IntWalk.i64_in _ (by omega)]; omega
  have hw2 : IntKind.u64.wrap ((n - 1 : Nat) : Int) = ((n - 1 : Nat) : Int) := by rw [IntWalk.u64_in _ (by omega)]
  have hw3 : IntKind.u64.wrap ((f : Int) + ((n - 1 : Nat) : Int)) = (t : Int) := by rw [IntWalk.u64_in _ (by omega)]; omega
  clear h hs htop hone hn ht hf htt
  go_enter Tryd.func14, Tryd.ntmps14
  go_wp2
  go_quiet (fail)
  go_wp2
  go_ret
  exact ⟨rfl, _, rfl⟩
set_option maxRecDepth 100000 in
set_option maxHeartbeats 1000000 in
theorem sr_find (k : ByteArray) (h : RefP w O B s) (hs : StOk s) : Calls Tryd.prog 33 #[.pointer (some ⟨B, 0, none⟩), .string k] w fun x w' => x = .returned (.tuple #[.int .i64 (plc s.now k : Nat), .bool (isIn s.now k)]) ∧ ∃ n, w' = w.drewN n := by
  obtain ⟨An, cn, Ab, cb, h⟩ := h
  have c0 := h.c0
  have HA := Lib.hid h.now.at_
  obtain ⟨l, hl⟩ : ∃ l, l = s.now := ⟨_, rfl⟩
  have HS := Lib.hid hs.now.2.1
  have hl4 := hs.now.1
  rw [← hl] at c0 HA HS hl4 ⊢
  obtain ⟨p, hp⟩ : ∃ p, p = plc l k := ⟨_, rfl⟩
  have hple : p ≤ l.length := by rw [hp]; exact plc_le l k
  have HP := Lib.hid hp
  rw [← hp]
  obtain ⟨n, hn⟩ : ∃ n, n = l.length := ⟨_, rfl⟩
  rw [← hn] at c0 hple hl4
  have HN := Lib.hid hn
  have HPL := Lib.hid hple
  clear h hs hl hp hn hple
  go_enter Tryd.func33, Tryd.ntmps33
  go_wp2
  go_loopw [6] (fun u wr => ∃ j : Nat, j ≤ p ∧ u = .int .i64 (j : Int) ∧ wr = w) (fun u _ => p - (intOf u).toNat)
  case atStart => exact ⟨0, by omega, rfl, rfl⟩
  case round =>
    obtain ⟨j, hj, rfl, rfl⟩ := hrel
    have hple := HPL.out
    by_cases hjn : j < n
    · have hjl : j < l.length := by rw [← HN.out]; exact hjn
      have hat := plc_at l k HS.out j hjl
      rw [← HP.out] at hat
      obtain ⟨b, off, rfl, hb, d0, d1⟩ := HA.out j hjl
      obtain ⟨x, hx⟩ : ∃ x, x = l[j].1 := ⟨_, rfl⟩
      rw [← hx] at hat d0
      have t0 : (j : Int) < (n : Int) := by omega
      have t1 : decide ((j : Int) < (n : Int)) = true := decide_eq_true t0
      have t2 : decide (j < n) = true := decide_eq_true hjn
      have HX := Lib.hid (And.intro hx hjl)
      by_cases hjp : j < p
      · have hB : Op.bytesLess x.toList k.toList = true := by rw [decide_eq_true hjp] at hat; exact hat
        have HJ := Lib.hid hjp
        clear HX hat hx hjl hjn hjp d1 hple
        go_wp2
        go_roundw
        case rel => exact ⟨j + 1, HJ.out, by go_num, by first | trivial | rfl⟩
        case measure => have := HJ.out; simp [intOf]; omega
      · have hB : Op.bytesLess x.toList k.toList = false := by rw [decide_eq_false hjp] at hat; exact hat
        obtain rfl : j = p := by omega
        have HI : Hid (isIn l k = (x.toList == k.toList)) := Lib.hid (by
          obtain ⟨e1, e2⟩ := HX.out
          subst e1
          have hp := HP.out
          subst hp
          unfold isIn
          by_cases g : l[plc l k].1 = k
          · rw [decide_eq_true ⟨e2, g⟩, g]; simp
          · rw [decide_eq_false (fun ⟨_, h'⟩ => g h'), eq_comm, beq_eq_false_iff_ne]
            exact fun h => g (toList_inj h))
        obtain ⟨E, hE⟩ : ∃ E, E = (x.toList == k.toList) := ⟨_, rfl⟩
        rw [← hE] at HI
        have hE' : (x.toList == k.toList) = E := hE.symm
        clear HX hat hx hjl hjn hjp d1 hple hE
        cases E
        all_goals
          go_wp2
          go_quiet (fail)
          go_wp2
          go_ret2
          exact ⟨by rw [HI.out]; rfl, _, rfl⟩
    · obtain hjp : j = p := by omega
      obtain hjn2 : j = n := by omega
      have HI : Hid (isIn l k = false) := Lib.hid (by
        unfold isIn
        rw [← HP.out]
        exact decide_eq_false (fun ⟨h, _⟩ => by have := HN.out; omega))
      have HJP := Lib.hid hjp
      have t1 : decide ((j : Int) < (n : Int)) = false := decide_eq_false (by omega)
      have t2 : decide (j < n) = false := decide_eq_false hjn
      clear hjp hjn2 hjn hple
      go_wp2
      go_quiet (fail)
      go_wp2
      go_ret2
      exact ⟨by rw [HI.out, ← HJP.out]; rfl, _, rfl⟩
end
end Go.Proofs.YtcknhnbckbocjaaDoor
namespace Go.Proofs.YtcknhnbckbocjaaDoor
open Go.RowKit
set_option linter.unusedVariables false
section
variable {w w' : World} {O O' : Nat → Prop} {B : Nat} {s : StV} {An : Option Addr} {cn : Nat} {Ab : Option Addr} {cb : Nat}
theorem RP.keeps {S : Nat → Prop} (h : RP w O B s An cn Ab cb) (hk : Kq.Keeps S w w') (hS : ∀ k, O k → ¬ S k) : RP w' O B s An cn Ab cb := by
  have hcell : ∀ g o, Ab = some ⟨g, o, none⟩ → g < w.heap.size → ∀ i, w'.cell? ⟨g, o + i, none⟩ = w.cell? ⟨g, o + i, none⟩ := fun g o e hg i => World.cell?_of_block (hk.block g hg (hS g (h.oA g o e)))
  refine ⟨hk.blk h.blk (hS _ h.oB), h.now.keeps hk (fun b hb _ _ => hS b hb), h.sh, h.cap, h.cab, fun i hi => ?_, h.oB, h.oA, h.ne.1, h.ne.2.1, fun i hi g o A c e hc => ?_⟩
  · obtain ⟨g, o, A, c, e, h1, h2, h3, h4⟩ := h.row i hi
    exact ⟨g, o, A, c, e, Nat.lt_of_lt_of_le h1 hk.size, by rw [hcell g o e h1]; exact h2, h3, h4.keeps hk (fun b hb _ _ => hS b hb)⟩
  · obtain ⟨g', o', A', c', e', h1, _⟩ := h.row i hi
    have hg : g = g' := by
      rw [e] at e'
      injection e' with e'
      injection e'
    rw [hcell g o e (by rw [hg]; exact h1)] at hc
    exact h.ne.2.2 i hi g o A c e hc
theorem RP.mono (h : RP w O B s An cn Ab cb) (hO : ∀ k, O k → O' k) : RP w O' B s An cn Ab cb :=
  ⟨h.blk, h.now.mono hO, h.sh, h.cap, h.cab, fun i hi => by
    obtain ⟨g, o, A, c, e, h1, h2, h3, h4⟩ := h.row i hi
    exact ⟨g, o, A, c, e, h1, h2, h3, h4.mono hO⟩, hO _ h.oB, fun b off e => hO _ (h.oA b off e), h.ne⟩
theorem keepsF {O : Nat → Prop} (hb : Below w.heap.size w w') : Kq.Keeps (fun _ => False) w w' := Kq.Keeps.of_below hb (fun k h1 h2 => absurd h1 (Nat.not_le.2 h2))
theorem RefP.keeps {S : Nat → Prop} (h : RefP w O B s) (hk : Kq.Keeps S w w') (hS : ∀ k, O k → ¬ S k) : RefP w' O B s := by
  obtain ⟨An, cn, Ab, cb, h⟩ := h
  exact ⟨An, cn, Ab, cb, h.keeps hk hS⟩
theorem RefP.mono (h : RefP w O B s) (hO : ∀ k, O k → O' k) : RefP w O' B s := by
  obtain ⟨An, cn, Ab, cb, h⟩ := h
  exact ⟨An, cn, Ab, cb, h.mono hO⟩
theorem RefP.below (h : RefP w O B s) (hb : Below w.heap.size w w') : RefP w' O B s := h.keeps (keepsF (O := O) hb) (fun _ _ h => h)
theorem RefP.drewN (h : RefP w O B s) (n : Nat) : RefP (w.drewN n) O B s := h.below (below_drewN (Below.refl _ _) n)
end
/-- what a call tells that may change the document's store -/
def RefStep (w : World) (O : Nat → Prop) (B : Nat) (r : Value) (s' : StV) (x : Ending) (w' : World) : Prop := x = .returned r ∧ RefP w' (Ext O w w') B s' ∧ Kq.Keeps O w w'
theorem RefStep.same {w : World} {O : Nat → Prop} {B : Nat} {r : Value} {s : StV} (h : RefP w O B s) (n : Nat) {x : Ending} (hx : x = .returned r) : RefStep w O B r s x (w.drewN n) :=
  ⟨hx, (h.drewN n).mono (fun k hk => Or.inl hk), Kq.Keeps.of_below (below_drewN (Below.refl _ _) n) (fun k h1 h2 => absurd h2 (Nat.not_lt.2 h1))⟩
section
variable (w : World) (O : Nat → Prop) (B : Nat) (s : StV)
set_option maxRecDepth 100000 in
set_option maxHeartbeats 1000000 in
theorem sr_get (k : ByteArray) (h : RefP w O B s) (hs : StOk s) : Calls Tryd.prog 18 #[.pointer (some ⟨B, 0, none⟩), .string k] w fun x w' => x = .returned (.tuple #[.string ((lk s.now k).getD ⟨#[]⟩), .bool (lk s.now k).isSome]) ∧ ∃ n, w' = w.drewN n := by
  have HF := Lib.hid (sr_find w O B s k h hs)
  have H := Lib.hid h
  have HS := Lib.hid hs
  obtain ⟨I, hI⟩ : ∃ I, I = isIn s.now k := ⟨_, rfl⟩
  obtain ⟨p, hp⟩ : ∃ p, p = plc s.now k := ⟨_, rfl⟩
  rw [← hI, ← hp] at HF
  have HI := Lib.hid hI
  have HP := Lib.hid hp
  clear h hs hI hp
  go_enter Tryd.func18, Tryd.ntmps18
  go_wp2_with fail
  refine HF.out.mono ?_
  rintro x w1 ⟨rfl, n1, hw1⟩
  cases I with
  | false =>
    have HW := Lib.hid hw1
    clear hw1 HF
    have HE : Hid (lk s.now k = none) := Lib.hid (none_of (by rw [← isIn_lk HS.out.now.2.1, ← HI.out]))
    go_wp2
    go_ret2
    exact ⟨by rw [HE.out]; rfl, n1, HW.out⟩
  | true =>
    have hin := of_decide_eq_true HI.out.symm
    obtain ⟨h1, h2⟩ := hin
    have HE := Lib.hid (lk_at HS.out.now.2.1 k h1 h2)
    obtain ⟨An, cn, Ab, cb, hr⟩ := H.out.drewN n1
    rw [← hw1] at hr
    have c0 := hr.c0
    obtain ⟨b, off, rfl, hb, d0, d1⟩ := hr.now.at_ _ h1
    obtain ⟨v, hv⟩ : ∃ v, v = s.now[plc s.now k].2 := ⟨_, rfl⟩
    rw [← hv] at d1 HE
    have hpl : p < s.now.length := by rw [HP.out]; exact h1
    rw [← HP.out] at d1
    obtain ⟨m, hm⟩ : ∃ m, m = s.now.length := ⟨_, rfl⟩
    rw [← hm] at c0 hpl
    have hi0 : (p : Int) < (m : Int) := by omega
    have HW := Lib.hid hw1
    clear hr d0 hb h1 h2 hv hm hpl hw1 HF
    go_wp2
    go_ret2
    exact ⟨by rw [HE.out]; rfl, n1, HW.out⟩
end
end Go.Proofs.YtcknhnbckbocjaaDoor
namespace Go.Proofs.YtcknhnbckbocjaaDoor
open Go.RowKit
set_option linter.unusedVariables false
theorem psAt_E {w : World} {A : Option Addr} {l : List PairV} : PsAt w A l ↔ PrE.At w A l := by
  constructor
  · intro h i hi
    obtain ⟨b, off, e, h1, h2, h3⟩ := h i hi
    refine ⟨b, off, e, h1, fun j hj => ?_⟩
    have hj2 : j < 2 := hj
    have : j = 0 ∨ j = 1 := by omega
    rcases this with rfl | rfl
    · exact h2
    · exact h3
  · intro h i hi
    obtain ⟨b, off, e, h1, h2⟩ := h i hi
    exact ⟨b, off, e, h1, h2 0 (by decide), h2 1 (by decide)⟩
/-- the block of the document's store changed its list, which was made anew -/
theorem RP.now_newA {w w1 w' : World} {O : Nat → Prop} {B : Nat} {s : StV} {An : Option Addr} {cn : Nat} {Ab : Option Addr} {cb : Nat} (h : RP w O B s An cn Ab cb) (hO : ∀ k, O k → k < w.heap.size) (hk : Kq.Keeps (fun k => w.heap.size ≤ k) w w1) {l : List PairV} {A' : Option Addr} {c : Nat}
    (hp : PsAt w1 A' l) (hA : (A' = none ∧ c = 0) ∨ ∃ b off, A' = some ⟨b, off, none⟩) (hb : ∀ b off, A' = some ⟨b, off, none⟩ → w.heap.size ≤ b ∧ b < w1.heap.size) (hc : l.length ≤ c) (hw : w' = w1.setCell ⟨B, 0, none⟩ (.slice A' l.length c)) : RefP w' (Ext O w w') B { s with now := l } ∧ Kq.Keeps O w w' := by
  have h1 := h.keeps hk (fun k ho hh => by have := hO k ho; omega)
  have hBlt := hO B h.oB
  have hk2 : Kq.Keeps (· = B) w1 w' := by rw [hw]; exact Kq.Keeps.setCell _ _ _ rfl
  have hsz := hk2.size
  have hb' : w'.heap[B]? = some (.cells #[.slice A' l.length c, .int .u64 (s.first : Int), .slice Ab s.blks.length cb] 38 (0, 0)) := by rw [hw]; exact Kq.blk_set h1.blk 0 _
  have hp' := psAt_keeps hp hk2 (fun b' off e => by
    have := hb b' off e
    intro e3
    have : b' = B := e3
    omega)
  have hcell : ∀ g o, Ab = some ⟨g, o, none⟩ → g < w1.heap.size → ∀ i, w'.cell? ⟨g, o + i, none⟩ = w1.cell? ⟨g, o + i, none⟩ := fun g o e hg i => World.cell?_of_block (hk2.block g hg (h1.ne.2.1 g o e))
  refine ⟨⟨A', c, Ab, cb, hb', ⟨hp', fun b' off e => ?_⟩, hA, hc, h.cab, fun i hi => ?_, Or.inl h.oB, fun g o e => Or.inl (h.oA g o e), ⟨fun b' off e => ?_, h1.ne.2.1, fun i hi g o A c' e hcc => ?_⟩⟩, ?_⟩
  · have := hb b' off e
    exact ⟨Or.inr ⟨this.1, by omega⟩, by omega⟩
  · obtain ⟨g, o, A, c', e, g1, g2, g3, g4⟩ := h1.row i hi
    refine ⟨g, o, A, c', e, Nat.lt_of_lt_of_le g1 hsz, by rw [hcell g o e g1]; exact g2, g3, (g4.keeps hk2 (fun b' hb2 _ hA => ?_)).mono (fun k hk => Or.inl hk)⟩
    obtain ⟨off, hA⟩ := hA
    exact h1.ne.2.2 i hi g o A c' e g2 b' off hA
  · have := hb b' off e
    omega
  · obtain ⟨g', o', A', c2, e', g1, _⟩ := h1.row i hi
    have hg : g = g' := by
      rw [e] at e'
      injection e' with e'
      injection e'
    rw [hcell g o e (by rw [hg]; exact g1)] at hcc
    exact h1.ne.2.2 i hi g o A c' e hcc
  · exact keeps_pastO (hk.mono (T := fun k => O k ∨ w.heap.size ≤ k) (fun k _ h => Or.inr h) |> fun h' => ⟨h'.os, h'.tape, h'.output, h'.size, fun k hk1 hn => h'.block k hk1 (fun hh => hh.elim hn (fun hh => by omega))⟩) hk2 (fun k e => Or.inl (by rw [show k = B from e]; exact h.oB))
/-- the block of the document's store changed its list, which was made anew -/
theorem RP.now_new {w w1 w' : World} {O : Nat → Prop} {B : Nat} {s : StV} {An : Option Addr} {cn : Nat} {Ab : Option Addr} {cb : Nat} (h : RP w O B s An cn Ab cb) (hO : ∀ k, O k → k < w.heap.size) (hk : Kq.Keeps (fun k => w.heap.size ≤ k) w w1) {l : List PairV} {b c : Nat}
    (hp : PsAt w1 (some ⟨b, 0, none⟩) l) (hb : w.heap.size ≤ b ∧ b < w1.heap.size) (hc : l.length ≤ c) (hw : w' = w1.setCell ⟨B, 0, none⟩ (.slice (some ⟨b, 0, none⟩) l.length c)) : RefP w' (Ext O w w') B { s with now := l } ∧ Kq.Keeps O w w' :=
  h.now_newA hO hk hp (Or.inr ⟨b, 0, rfl⟩) (fun b' off e => by injection e with e; injection e with e; subst e; exact hb) hc hw
end Go.Proofs.YtcknhnbckbocjaaDoor
