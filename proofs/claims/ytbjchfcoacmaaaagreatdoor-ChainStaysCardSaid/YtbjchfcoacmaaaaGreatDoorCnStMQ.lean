/- Merged: CnDoM, CnMade, CnAwM, CnDoA, CnDo0, CnDo1, CnDo2, CnDo3, CnDo4, CnDo5, CnLw, CnAwake, CnNk, CnMapI, CnStM. Two chains, their calls: as values, in memory. No condition. carracklaw13's made; the document's chains are laid beside. Condition: the sequences may be. The chains' example: mathematics. No condition. What carracklaw13's do holds. No condition. carracklaw13's do: Send. Condition: few calls, short texts; the constants lie where they lie. carracklaw13's do: Update. Condition: few calls, short texts; the constants lie where they lie. carracklaw13's do: Recv. Condition: few calls, short texts; the constants lie where they lie. carracklaw13's do: Ack. Condition: few calls, short texts; the constants lie where they lie. carracklaw13's do: Timeout. Condition: few calls, short texts; the constants lie where they lie. carracklaw13's do: Commit, nothing. Condition: few calls, short texts; the constants lie where they lie. Two chains of a law's own beside its own blocks; any call of them. Condition: few calls, short texts; the constants lie where they lie. carracklaw13's awake. Condition: the constants lie where they lie. The notes of chains are right. No condition. The keys of a chain's map are the last block's, and those that the notes behind it tell of. No condition. What is refused changes nothing; each note that is told. No condition. -/
import Derived.Test.YtbjchfcoacmaaaaGreatDoorCnPrvQ
import Derived.Test.YtbjchfcoacmaaaaGreatDoorCnLogQ
import Derived.Test.YtbjchfcoacmaaaaGreatDoorCaMQ
import Derived.WalkSpells
import Derived.Outline
import Derived.ProofKit
import Derived.Deep.QuietTactic
import Derived.Deep.RegionHeld
import Derived.Test.YtbjchfcoacmaaaaGreatDoorShConstQ
import Derived.Test.YtbjchfcoacmaaaaGreatDoorCnNoQ
import Derived.BigQuiet
import Derived.Test.YtbjchfcoacmaaaaGreatDoorWidCQ
namespace Go.Proofs.YtbjchfcoacmaaaaGreatDoor
open Go.RowKit
set_option linter.unusedVariables false
def CaV.val (a : CaV) : Value := .agg a.cells.toArray
/-- its numbers are a uint64's, its texts are short -/
structure CaOk (a : CaV) : Prop where
  h : a.h < 18446744073709551616
  q : a.q < 18446744073709551616
  t : a.t < 18446744073709551616
  d : a.d.size ≤ 2000
  pd : a.pd.size ≤ 300
def sideN (id : Int) : Nat := if id = 1 then 1 else 0
theorem sideN_lt (id : Int) : sideN id < 2 := by unfold sideN; split <;> omega
def CaV.s (a : CaV) : Nat := sideN a.id
def CaV.o (a : CaV) : Nat := 1 - sideN a.id
def CaV.key (a : CaV) : ByteArray := if a.kd = 2 then keyT 99 a.q else if a.kd = 3 then keyT 97 a.q else keyT 114 a.q
def updF (c : Nat → ChV) (k : Nat) (x : ChV) : Nat → ChV := fun j => if j = k then x else c j
noncomputable def CaV.pr (a : CaV) (c : Nat → ChV) : ByteArray := if a.sp = false ∧ 2 ≤ a.kd ∧ a.kd ≤ 4 then (proveV (c a.o).st a.key a.h).1 else a.d
/-- what a call leaves of its chain -/
noncomputable def doC (c : Nat → ChV) (a : CaV) : ChV :=
  if a.kd = 0 then sendC (c a.s) a.d a.h
  else if a.kd = 1 then (if (rootV (c a.o).st a.h).2 = 0 then updC (c a.s) a.h (rootV (c a.o).st a.h).1 else c a.s)
  else if a.kd = 2 then recvC (c a.s) a.f a.q a.t a.pd (a.pr c) a.h
  else if a.kd = 3 then setlC (c a.s) 3 a.f a.q a.t a.pd (ackL (c a.s) a.f a.q a.t a.pd (a.pr c) a.h)
  else if a.kd = 4 then setlC (c a.s) 4 a.f a.q a.t a.pd (timeL (c a.s) a.f a.q a.t a.pd (a.pr c) a.h)
  else if a.kd = 5 then comC (c a.s)
  else c a.s
/-- .. and tells: a packet, a height, an error -/
noncomputable def doP (c : Nat → ChV) (a : CaV) : PkV := if a.kd = 0 then sendP (c a.s) a.d a.h else zeroPk
noncomputable def doH (c : Nat → ChV) (a : CaV) : Nat := if a.kd = 5 then (comV (c a.s).st).2.1 else 0
noncomputable def doE (c : Nat → ChV) (a : CaV) : Int :=
  if a.kd = 0 then firstE (sendE (c a.s) a.d a.h)
  else if a.kd = 1 then (if (rootV (c a.o).st a.h).2 = 0 then (setF a.h (rootV (c a.o).st a.h).1 (c a.s).hs (c a.s).f).2.2 else (rootV (c a.o).st a.h).2)
  else if a.kd = 2 then firstE (recvE (c a.s) a.f a.q a.t a.pd (a.pr c) a.h)
  else if a.kd = 3 then firstE (setlE (c a.s) a.f a.q a.t a.pd (ackL (c a.s) a.f a.q a.t a.pd (a.pr c) a.h))
  else if a.kd = 4 then firstE (setlE (c a.s) a.f a.q a.t a.pd (timeL (c a.s) a.f a.q a.t a.pd (a.pr c) a.h))
  else if a.kd = 5 then (comV (c a.s).st).2.2
  else 0
noncomputable def doV (c : Nat → ChV) (a : CaV) : Nat → ChV := updF c a.s (doC c a)
/-- right, both -/
def TwK (m : Nat) (c : Nat → ChV) : Prop := ∀ k, k < 2 → ChK m (c k)
theorem TwK.do {m : Nat} {c : Nat → ChV} (h : TwK m c) (hm : m < 900) (a : CaV) : TwK (m + 1) (doV c a) := by
  intro k hk
  unfold doV updF
  by_cases e : k = a.s
  · rw [if_pos e]
    have hs := h a.s (sideN_lt _)
    unfold doC
    split
    · exact hs.send hm _ _
    · split
      · split
        · exact hs.upd hm _ _
        · exact hs.mono (by omega)
      · split
        · exact hs.recv hm _ _ _ _ _ _
        · split
          · exact hs.setl hm _ _ _ _ _ _
          · split
            · exact hs.setl hm _ _ _ _ _ _
            · split
              · exact hs.com hm
              · exact hs.mono (by omega)
  · rw [if_neg e]; exact (h k hk).mono (by omega)
theorem pfB_lenG {p : PfV} (h : PfMay p) : (txt (pfB p)).size ≤ 2000 := by
  rw [txt_size]
  have := lsB_len p.ls h.2
  have := h.1
  simp only [pfB, List.length_append, List.length_cons, List.length_nil]; omega
theorem proveL_size {l : List PairV} (hl : smallP l) (hn : l.length ≤ 1000) (key : ByteArray) : (proveL l key).1.size ≤ 2000 := by
  unfold proveL
  split
  · rename_i h
    rw [(parse_bytesG (pfHas_mayG hl hn h)).1]; exact pfB_lenG (pfHas_mayG hl hn h)
  · split
    · exact Nat.zero_le _
    · rw [(parse_bytesG (pfNot_mayG hl hn)).1]; exact pfB_lenG (pfNot_mayG hl hn)
theorem proveV_size {s : StV} (hs : StOk s) (hn : ∀ l ∈ s.blks, l.length ≤ 1000) (key : ByteArray) (H : Nat) : (proveV s key H).1.size ≤ 2000 := by
  unfold proveV
  split
  · exact proveL_size (atV_small hs H) (atV_len hn H) key
  · exact Nat.zero_le _
theorem rootV_size (s : StV) (H : Nat) : (rootV s H).1.size ≤ 32 := by
  unfold rootV
  split
  · show (dgT _).size ≤ 32
    rw [dgT_size]; exact Nat.le_refl _
  · exact Nat.zero_le _
theorem CaV.pr_size {a : CaV} {c : Nat → ChV} {m : Nat} (h : TwK m c) (hm : m ≤ 400) (ha : CaOk a) : (a.pr c).size ≤ 2000 := by
  unfold CaV.pr
  have ho : a.o < 2 := by unfold CaV.o; omega
  split
  · exact proveV_size (h a.o ho).ok.st (fun l hl => by have := (h a.o ho).bl l hl; omega) _ _
  · exact ha.d
/-- two chains in memory: the law's block holds both; all of them in O -/
structure TwS (w : World) (O : Nat → Prop) (X : Nat) (B : Nat → Nat) (P : Nat → Nat → Prop) (M : Value) (c : Nat → ChV) : Prop where
  blk : w.heap[X]? = some (.cells #[.pointer (some ⟨B 0, 0, none⟩), .pointer (some ⟨B 1, 0, none⟩), M] 54 (0, 0))
  ch : ∀ k, k < 2 → ChP w (P k) (B k) (c k)
  oX : O X
  sub : ∀ k j, k < 2 → P k j → O j ∧ j ≠ X
  apart : ∀ j, P 0 j → ¬ P 1 j
  lt : ∀ j, O j → j < w.heap.size
def TwP (w : World) (O : Nat → Prop) (X : Nat) (c : Nat → ChV) : Prop := ∃ B P M, TwS w O X B P M c
section
variable {w w' : World} {O : Nat → Prop} {X : Nat} {B : Nat → Nat} {P : Nat → Nat → Prop} {M : Value} {c : Nat → ChV}
theorem TwS.keeps {T : Nat → Prop} (h : TwS w O X B P M c) (hk : Kq.Keeps T w w') (hT : ∀ k, O k → ¬ T k) : TwS w' O X B P M c :=
  ⟨hk.blk h.blk (hT _ h.oX), fun k hk2 => (h.ch k hk2).keeps hk (fun j hj => hT j (h.sub k j hk2 hj).1), h.oX, h.sub, h.apart, fun j hj => Nat.lt_of_lt_of_le (h.lt j hj) hk.size⟩
theorem TwS.below (h : TwS w O X B P M c) (hb : Below w.heap.size w w') : TwS w' O X B P M c :=
  h.keeps (T := fun _ => False) (Kq.Keeps.of_below hb (fun k h1 h2 => absurd h1 (Nat.not_le.2 h2))) (fun _ _ h => h)
theorem TwP.below (h : TwP w O X c) (hb : Below w.heap.size w w') : TwP w' O X c := by
  obtain ⟨B, P, M, h⟩ := h; exact ⟨B, P, M, h.below hb⟩
theorem TwP.keeps {T : Nat → Prop} (h : TwP w O X c) (hk : Kq.Keeps T w w') (hT : ∀ k, O k → ¬ T k) : TwP w' O X c := by
  obtain ⟨B, P, M, h⟩ := h; exact ⟨B, P, M, h.keeps hk hT⟩
theorem TwP.lt (h : TwP w O X c) : ∀ j, O j → j < w.heap.size := by
  obtain ⟨B, P, M, h⟩ := h; exact h.lt
theorem TwS.widen {O' : Nat → Prop} (h : TwS w O X B P M c) (hO : ∀ k, O k → O' k) (hl : ∀ k, O' k → k < w.heap.size) : TwS w O' X B P M c :=
  ⟨h.blk, h.ch, hO _ h.oX, fun k j hk hj => ⟨hO _ (h.sub k j hk hj).1, (h.sub k j hk hj).2⟩, h.apart, hl⟩
theorem TwS.cell (h : TwS w O X B P M c) (k : Nat) (hk : k < 2) : w.cell? ⟨X, k, none⟩ = some (.pointer (some ⟨B k, 0, none⟩)) := by
  rcases Nat.lt_succ_iff_lt_or_eq.1 hk with h1 | rfl
  · obtain rfl : k = 0 := by omega
    exact Kq.blk_cell h.blk 0
  · exact Kq.blk_cell h.blk 1
/-- one of them changed -/
theorem TwS.step {k : Nat} (hk : k < 2) {r : Value} {c' : ChV} {x : Ending} (h : TwS w O X B P M c) (hs : StepC w (P k) (B k) r c' x w') : TwS w' (Ext O w w') X B (fun j => if j = k then Ext (P k) w w' else P j) M (updF c k c') ∧ Kq.Keeps (fun j => O j ∧ j ≠ X) w w' := by
  obtain ⟨-, h1, h2⟩ := hs
  have hko : Kq.Keeps (fun j => O j ∧ j ≠ X) w w' := h2.mono (fun j _ hj => h.sub k j hk hj)
  refine ⟨⟨h2.blk h.blk (fun e => (h.sub k X hk e).2 rfl), fun j hj => ?_, Or.inl h.oX, fun j i hj hi => ?_, fun i hi => ?_, ext_lt h.lt h2.size⟩, hko⟩
  · unfold updF
    by_cases e : j = k
    · subst e; rw [if_pos rfl, if_pos rfl]; exact h1
    · rw [if_neg e, if_neg e]
      refine (h.ch j hj).keeps h2 (fun i h3 h4 => ?_)
      have : (j = 0 ∧ k = 1) ∨ (j = 1 ∧ k = 0) := by omega
      rcases this with ⟨rfl, rfl⟩ | ⟨rfl, rfl⟩
      · exact h.apart i h3 h4
      · exact h.apart i h4 h3
  · by_cases e : j = k
    · subst e; rw [if_pos rfl] at hi
      rcases hi with hi | hi
      · exact ⟨Or.inl (h.sub j i hj hi).1, (h.sub j i hj hi).2⟩
      · exact ⟨Or.inr hi, fun e => by have := h.lt X h.oX; omega⟩
    · rw [if_neg e] at hi
      exact ⟨Or.inl (h.sub j i hj hi).1, (h.sub j i hj hi).2⟩
  · intro h3
    have hl0 : ∀ i, P 0 i → i < w.heap.size := fun i hi => h.lt i (h.sub 0 i (by omega) hi).1
    have hl1 : ∀ i, P 1 i → i < w.heap.size := fun i hi => h.lt i (h.sub 1 i (by omega) hi).1
    by_cases e : k = 0
    · subst e
      rw [if_pos rfl] at hi
      rw [if_neg (by omega)] at h3
      rcases hi with hi | hi
      · exact h.apart i hi h3
      · have := hl1 i h3; omega
    · obtain rfl : k = 1 := by omega
      rw [if_neg (by omega)] at hi
      rw [if_pos rfl] at h3
      rcases h3 with h3 | h3
      · exact h.apart i hi h3
      · have := hl0 i hi; omega
end
theorem updF_same (c : Nat → ChV) (k : Nat) : updF c k (c k) = c := by
  funext j
  unfold updF
  by_cases e : j = k
  · rw [if_pos e, e]
  · rw [if_neg e]
/-- what a call tells that may change the chains -/
def StepT (w : World) (O : Nat → Prop) (X : Nat) (r : Value) (c' : Nat → ChV) (x : Ending) (w' : World) : Prop := x = .returned r ∧ TwP w' (Ext O w w') X c' ∧ Kq.Keeps (fun j => O j ∧ j ≠ X) w w'
end Go.Proofs.YtbjchfcoacmaaaaGreatDoor
namespace Go.Proofs.YtbjchfcoacmaaaaGreatDoor
open Go.RowKit
set_option linter.unusedVariables false
def PtrPost (w : World) (x : Ending) (w' : World) : Prop := ∃ P, x = .returned (.pointer (some ⟨P, 0, none⟩)) ∧ Below w.heap.size w w'
set_option maxRecDepth 100000 in
set_option maxHeartbeats 1000000 in
theorem r_new0 (w : World) : Calls Tryz.prog 42 #[] w (PtrPost w) := by
  go_enter Tryz.func42, Tryz.ntmps42
  go_wp2_with fail
  refine (r_constants w).mono ?_
  rintro e w1 ⟨A, ca, B, cb, rfl, hA, hA1, hB, hB1, hK, hH, hb1⟩
  have H1 := Lib.hid hb1
  clear hA hA1 hB hB1 hK hH hb1
  have hmm := @run_makeMap Tryz.prog
  go_wp2
  have hb2 := (Kq.below_alloc w1 (.map #[] 0))
  have hb3 := hb2.trans ((Kq.below_alloc (w1.alloc (.map #[] 0)) (.cells #[.slice (some ⟨A, 0, none⟩) 64 ca, .slice (some ⟨B, 0, none⟩) 8 cb, .map (some w1.heap.size), .bool false] 146)).mono hb2.size)
  have H2 := Lib.hid (H1.out.trans (hb3.mono H1.out.size))
  clear hb2 hb3 hmm
  go_ret
  exact ⟨_, rfl, H2.out⟩
set_option maxRecDepth 100000 in
set_option maxHeartbeats 1000000 in
theorem sr_new0 (h : Int) (w : World) : Calls Tryz.prog 125 #[.int .u64 h] w (PtrPost w) := by
  go_enter Tryz.func125, Tryz.ntmps125
  go_wp2
  go_ret
  exact ⟨_, rfl, (Kq.below_alloc w _).trans ((Kq.below_alloc _ _).mono (by simp))⟩
set_option maxRecDepth 100000 in
set_option maxHeartbeats 1000000 in
theorem cr_new0 (Q : Nat) (id h s : Int) (w : World) : Calls Tryz.prog 74 #[.pointer (some ⟨Q, 0, none⟩), .int .i64 id, .int .u64 h, .int .u64 s] w (PtrPost w) := by
  go_enter Tryz.func74, Tryz.ntmps74
  go_wp2_with fail
  refine (sr_new0 h w).mono ?_
  rintro x w1 ⟨P, rfl, b1⟩
  have H1 := Lib.hid b1
  clear b1
  go_wp2
  go_ret
  exact ⟨_, rfl, H1.out.trans (((Kq.below_alloc w1 _).trans (((Kq.below_alloc _ _).trans ((Kq.below_alloc _ _).mono (by simp))).mono (by simp))).mono H1.out.size)⟩
/-- two arrays in their boxes -/
def ArrB (w : World) (Y : Nat) (h0 h1 s0 s1 : Int) : Prop := w.heap[Y]? = some (.cells #[.int .u64 h0, .int .u64 h1] 40 (0, 0)) ∧ w.heap[Y + 1]? = some (.cells #[.int .u64 s0, .int .u64 s1] 40 (0, 0))
theorem ArrB.below {w w' : World} {Y : Nat} {h0 h1 s0 s1 : Int} (h : ArrB w Y h0 h1 s0 s1) (hb : Below w.heap.size w w') : ArrB w' Y h0 h1 s0 s1 := ⟨Kq.below_blk hb h.1 (Kq.blk_lt h.1), Kq.below_blk hb h.2 (Kq.blk_lt h.2)⟩
theorem ArrB.keeps {w w' : World} {Y : Nat} {h0 h1 s0 s1 : Int} {S : Nat → Prop} (h : ArrB w Y h0 h1 s0 s1) (hk : Kq.Keeps S w w') (a : ¬ S Y) (b : ¬ S (Y + 1)) : ArrB w' Y h0 h1 s0 s1 := ⟨hk.blk h.1 a, hk.blk h.2 b⟩
theorem ArrB.new (w : World) (h0 h1 s0 s1 : Int) : ArrB ((w.alloc (.cells #[.int .u64 h0, .int .u64 h1] 40)).alloc (.cells #[.int .u64 s0, .int .u64 s1] 40)) w.heap.size h0 h1 s0 s1 ∧ Below w.heap.size w ((w.alloc (.cells #[.int .u64 h0, .int .u64 h1] 40)).alloc (.cells #[.int .u64 s0, .int .u64 s1] 40)) := by
  have b1 := Kq.below_alloc w (.cells #[.int .u64 h0, .int .u64 h1] 40)
  have n1 := Kq.blk_new w #[.int .u64 h0, .int .u64 h1] 40 (0, 0)
  have hs : (w.alloc (.cells #[.int .u64 h0, .int .u64 h1] 40)).heap.size = w.heap.size + 1 := by simp
  generalize w.alloc (.cells #[.int .u64 h0, .int .u64 h1] 40) = z at *
  have b2 := Kq.below_alloc z (.cells #[.int .u64 s0, .int .u64 s1] 40)
  have n2 := Kq.blk_new z #[.int .u64 s0, .int .u64 s1] 40 (0, 0)
  rw [hs] at n2
  exact ⟨⟨Kq.below_blk b2 n1 (Kq.blk_lt n1), n2⟩, b1.trans (b2.mono (by omega))⟩
set_option maxRecDepth 100000 in
set_option maxHeartbeats 1000000 in
theorem both_new0 (Q : Nat) (h0 h1 s0 s1 : Int) (w : World) : Calls Tryz.prog 41 #[.pointer (some ⟨Q, 0, none⟩), .agg #[.int .u64 h0, .int .u64 h1], .agg #[.int .u64 s0, .int .u64 s1]] w (PtrPost w) := by
  obtain ⟨Y, hY⟩ : ∃ Y, Y = w.heap.size := ⟨_, rfl⟩
  obtain ⟨wb, hwb⟩ : ∃ z, z = (w.alloc (.cells #[.int .u64 h0, .int .u64 h1] 40)).alloc (.cells #[.int .u64 s0, .int .u64 s1] 40) := ⟨_, rfl⟩
  have H0 : Hid (ArrB wb.drew Y h0 h1 s0 s1 ∧ Below w.heap.size w wb.drew) := Lib.hid (by
    have := ArrB.new w h0 h1 s0 s1
    rw [← hwb, ← hY] at this
    exact ⟨this.1.below (Below.refl _ _).drew, by rw [← hY]; exact this.2.drew⟩)
  have HCB : Hid (∀ z, ArrB z Y h0 h1 s0 s1 → (z.cell? ⟨Y, 0, none⟩ = some (.int .u64 h0) ∧ z.cell? ⟨Y, 1, none⟩ = some (.int .u64 h1) ∧ z.cell? ⟨Y + 1, 0, none⟩ = some (.int .u64 s0) ∧ z.cell? ⟨Y + 1, 1, none⟩ = some (.int .u64 s1))) := Lib.hid (fun z hz => ⟨Kq.blk_cell hz.1 0, Kq.blk_cell hz.1 1, Kq.blk_cell hz.2 0, Kq.blk_cell hz.2 1⟩)
  go_enter Tryz.func41, Tryz.ntmps41
  go_wp2
  rw [← hwb, ← hY]
  clear hwb hY
  refine wp_region_held_drew (S := fun w' => w'.cell? ⟨Y, 0, none⟩ = some (.int .u64 h0) ∧ w'.cell? ⟨Y, 1, none⟩ = some (.int .u64 h1) ∧ w'.cell? ⟨Y + 1, 0, none⟩ = some (.int .u64 s0) ∧ w'.cell? ⟨Y + 1, 1, none⟩ = some (.int .u64 s1)) (by kernel_rfl) (HCB.out _ H0.out.1) (fun hS0 => ?_)
  generalize wb.drew = z0 at *
  refine wpAnyH_take (i := 0) (v := ?_) rfl (by kernel_rfl) (by kernel_rfl) (by kernel_rfl) (fun _ _ _ h => h) (Or.inl ⟨by kernel_rfl, ?_⟩) (by assumption) ?_
  rotate_left
  · intro w hSw; (try dsimp only at hSw); go_simp; (try with_reducible rfl)
  refine wpAnyH_take (i := 1) (v := ?_) rfl (by kernel_rfl) (by kernel_rfl) (by kernel_rfl) (fun _ _ _ h => h) (Or.inl ⟨by kernel_rfl, ?_⟩) (by assumption) ?_
  rotate_left
  · intro w hSw; (try dsimp only at hSw); go_simp; (try with_reducible rfl)
  refine wpAnyH_take (i := 2) (v := ?_) rfl (by kernel_rfl) (by kernel_rfl) (by kernel_rfl) (fun _ _ _ h => h) (Or.inl ⟨by kernel_rfl, ?_⟩) (by assumption) ?_
  rotate_left
  · intro w hSw; (try dsimp only at hSw); go_simp; (try with_reducible rfl)
  refine wpAnyH_take (i := 3) (v := ?_) rfl (by kernel_rfl) (by kernel_rfl) (by kernel_rfl) (fun _ _ _ h => h) (Or.inl ⟨by kernel_rfl, ?_⟩) (by assumption) ?_
  rotate_left
  · intro w hSw; (try dsimp only at hSw); go_simp; (try with_reducible rfl)
  refine wpAnyH_take (i := 4) (v := ?_) rfl (by kernel_rfl) (by kernel_rfl) (by kernel_rfl) (fun _ _ _ h => h) (Or.inl ⟨by kernel_rfl, ?_⟩) (by assumption) ?_
  rotate_left
  · intro w hSw; (try dsimp only at hSw); go_simp; (try with_reducible rfl)
  refine wpAnyH_take (i := 6) (v := ?_) rfl (by kernel_rfl) (by kernel_rfl) (by kernel_rfl) (fun _ _ _ h => h) (Or.inl ⟨by kernel_rfl, ?_⟩) (by assumption) ?_
  rotate_left
  · intro w hSw; (try dsimp only at hSw); go_simp; (try with_reducible rfl)
  refine wpAnyH_take (i := 7) (v := ?_) rfl (by kernel_rfl) (by kernel_rfl) (by kernel_rfl) (fun _ _ _ h => h) (Or.inl ⟨by kernel_rfl, ?_⟩) (by assumption) ?_
  rotate_left
  · intro w hSw; (try dsimp only at hSw); go_simp; (try with_reducible rfl)
  refine wpAnyH_take (i := 8) (v := ?_) rfl (by kernel_rfl) (by kernel_rfl) (by kernel_rfl) (fun _ _ _ h => h) (Or.inl ⟨by kernel_rfl, ?_⟩) (by assumption) ?_
  rotate_left
  · intro w hSw; (try dsimp only at hSw); go_simp; (try with_reducible rfl)
  refine wpAnyH_take (i := 9) (v := ?_) rfl (by kernel_rfl) (by kernel_rfl) (by kernel_rfl) (fun _ _ _ h => h) (Or.inl ⟨by kernel_rfl, ?_⟩) (by assumption) ?_
  rotate_left
  · intro w hSw; (try dsimp only at hSw); go_simp; (try with_reducible rfl)
  refine wpAnyH_take (i := 10) (v := ?_) rfl (by kernel_rfl) (by kernel_rfl) (by kernel_rfl) (fun _ _ _ h => h) (Or.inl ⟨by kernel_rfl, ?_⟩) (by assumption) ?_
  rotate_left
  · intro w hSw; (try dsimp only at hSw); go_simp; (try with_reducible rfl)
  refine wpAnyH_ready (rs := [5]) (by kernel_rfl) (by simp) ?_
  refine AllReadyH.cons rfl (fun K hK => ?_) AllReadyH.nil
  go_simp
  refine (cr_new0 Q 0 h0 s0 z0).mono ?_
  rintro x z1 ⟨P1, rfl, b1⟩
  have H1 : Hid (ArrB z1 Y h0 h1 s0 s1 ∧ Below w.heap.size w z1) := Lib.hid ⟨H0.out.1.below b1, H0.out.2.trans (b1.mono H0.out.2.size)⟩
  clear b1 H0 hS0
  refine hK.out _ _ (HCB.out _ H1.out.1) (fun hS0 => ?_)
  clear hK K
  refine wpAnyH_ready (rs := [11]) (by kernel_rfl) (by simp) ?_
  refine AllReadyH.cons rfl (fun K hK => ?_) AllReadyH.nil
  go_simp
  refine (cr_new0 Q 1 h1 s1 z1).mono ?_
  rintro x z2 ⟨P2, rfl, b1⟩
  have H2 : Hid (ArrB z2 Y h0 h1 s0 s1 ∧ Below w.heap.size w z2) := Lib.hid ⟨H1.out.1.below b1, H1.out.2.trans (b1.mono H1.out.2.size)⟩
  clear b1 H1 hS0
  refine hK.out _ _ (HCB.out _ H2.out.1) (fun hS0 => ?_)
  clear hK K
  refine wpAnyH_take (i := 12) (v := ?_) rfl (by kernel_rfl) (by kernel_rfl) (by kernel_rfl) (fun _ _ _ h => h) (Or.inl ⟨by kernel_rfl, ?_⟩) (by assumption) ?_
  rotate_left
  · intro w hSw; (try dsimp only at hSw); go_simp; (try with_reducible rfl)
  refine wpAnyH_take (i := 13) (v := ?_) rfl (by kernel_rfl) (by kernel_rfl) (by kernel_rfl) (fun _ _ _ h => h) (Or.inl ⟨by kernel_rfl, ?_⟩) (by assumption) ?_
  rotate_left
  · intro w hSw; (try dsimp only at hSw); go_simp; (try with_reducible rfl)
  refine wpAnyH_ready (rs := [14]) (by kernel_rfl) (by simp) ?_
  refine AllReadyH.cons rfl (fun K hK => ?_) AllReadyH.nil
  go_simp
  have ba := Kq.below_alloc z2 (.cells #[.pointer (some ⟨P1, 0, none⟩), .pointer (some ⟨P2, 0, none⟩)] 141)
  have H3 : Hid (ArrB (z2.alloc (.cells #[.pointer (some ⟨P1, 0, none⟩), .pointer (some ⟨P2, 0, none⟩)] 141)) Y h0 h1 s0 s1 ∧ Below w.heap.size w (z2.alloc (.cells #[.pointer (some ⟨P1, 0, none⟩), .pointer (some ⟨P2, 0, none⟩)] 141))) := Lib.hid ⟨H2.out.1.below ba, H2.out.2.trans (ba.mono H2.out.2.size)⟩
  clear ba H2 hS0
  refine hK.out _ _ (HCB.out _ H3.out.1) (fun hS0 => ?_)
  clear hK K
  refine wpAnyH_take (i := 15) (v := ?_) rfl (by kernel_rfl) (by kernel_rfl) (by kernel_rfl) (fun _ _ _ h => h) (Or.inl ⟨by kernel_rfl, ?_⟩) (by assumption) ?_
  rotate_left
  · intro w hSw; (try dsimp only at hSw); go_simp; (try with_reducible rfl)
  refine wpAnyH_done (by kernel_rfl) ?_ _
  clear hS0 HCB
  go_wp2
  go_ret
  exact ⟨_, rfl, H3.out.2⟩
/-- both at first -/
def newTw (h0 h1 s0 s1 : Nat) : Nat → ChV := fun j => if j = 0 then newCh 0 h0 s0 else newCh 1 h1 s1
def MadePost (w : World) (h0 h1 s0 s1 : Nat) (x : Ending) (w' : World) : Prop := ∃ X, x = .returned (.pointer (some ⟨X, 0, none⟩)) ∧ TwP w' (fun k => w.heap.size ≤ k ∧ k < w'.heap.size) X (newTw h0 h1 s0 s1) ∧ Below w.heap.size w w'
/-- behind j chains -/
structure MdS (Y : Nat) (w0 : World) (h0 h1 s0 s1 : Nat) (X : Nat) (M : Value) (j : Nat) (w : World) : Prop where
  bx : ArrB w Y (h0 : Int) (h1 : Int) (s0 : Int) (s1 : Int)
  xl : Y + 1 < X
  bel : Below Y w0 w
  yle : Y = w0.heap.size
  st : (j = 0 ∧ w.heap[X]? = some (.cells #[.pointer none, .pointer none, M] 54 (0, 0))) ∨
    (j = 1 ∧ ∃ B0 P0, w.heap[X]? = some (.cells #[.pointer (some ⟨B0, 0, none⟩), .pointer none, M] 54 (0, 0)) ∧ ChP w P0 B0 (newCh 0 h0 s0) ∧ ∀ k, P0 k → X < k ∧ k < w.heap.size) ∨
    (j = 2 ∧ TwP w (fun k => Y ≤ k ∧ k < w.heap.size) X (newTw h0 h1 s0 s1))
theorem MdS.lt {Y : Nat} {w0 w : World} {h0 h1 s0 s1 X : Nat} {M : Value} {j : Nat} (h : MdS Y w0 h0 h1 s0 s1 X M j w) : Y + 1 < w.heap.size := Kq.blk_lt h.bx.2
set_option maxRecDepth 100000 in
set_option maxHeartbeats 2000000 in
theorem made13 (h0 h1 s0 s1 : Nat) (w : World) (z0 : s0 ≠ 0) (z1 : s1 ≠ 0) : Calls Tryz.prog 16 #[.agg #[.int .u64 (h0 : Int), .int .u64 (h1 : Int)], .agg #[.int .u64 (s0 : Int), .int .u64 (s1 : Int)]] w (MadePost w h0 h1 s0 s1) := by
  obtain ⟨Y, hY⟩ : ∃ Y, Y = w.heap.size := ⟨_, rfl⟩
  obtain ⟨wb, hwb⟩ : ∃ z, z = (w.alloc (.cells #[.int .u64 (h0 : Int), .int .u64 (h1 : Int)] 40)).alloc (.cells #[.int .u64 (s0 : Int), .int .u64 (s1 : Int)] 40) := ⟨_, rfl⟩
  have H0 : Hid (ArrB wb.drew Y (h0 : Int) (h1 : Int) (s0 : Int) (s1 : Int) ∧ Below Y w wb.drew) := Lib.hid (by
    have := ArrB.new w (h0 : Int) (h1 : Int) (s0 : Int) (s1 : Int)
    rw [← hwb, ← hY] at this
    exact ⟨this.1.below (Below.refl _ _).drew, this.2.drew⟩)
  have HCB : Hid (∀ z, ArrB z Y (h0 : Int) (h1 : Int) (s0 : Int) (s1 : Int) → (z.cell? ⟨Y, 0, none⟩ = some (.int .u64 (h0 : Int)) ∧ z.cell? ⟨Y, 1, none⟩ = some (.int .u64 (h1 : Int)) ∧ z.cell? ⟨Y + 1, 0, none⟩ = some (.int .u64 (s0 : Int)) ∧ z.cell? ⟨Y + 1, 1, none⟩ = some (.int .u64 (s1 : Int)))) := Lib.hid (fun z hz => ⟨Kq.blk_cell hz.1 0, Kq.blk_cell hz.1 1, Kq.blk_cell hz.2 0, Kq.blk_cell hz.2 1⟩)
  have HYW := Lib.hid hY
  have HN0 := Lib.hid (fun z => cn_new 0 h0 s0 z (by omega) z0)
  have HN1 := Lib.hid (fun z => cn_new 1 h1 s1 z (by omega) z1)
  clear z0 z1
  go_enter Tryz.func16, Tryz.ntmps16
  go_wp2
  rw [← hwb, ← hY]
  clear hwb hY
  refine wp_region_held_drew (S := fun w' => w'.cell? ⟨Y, 0, none⟩ = some (.int .u64 (h0 : Int)) ∧ w'.cell? ⟨Y, 1, none⟩ = some (.int .u64 (h1 : Int)) ∧ w'.cell? ⟨Y + 1, 0, none⟩ = some (.int .u64 (s0 : Int)) ∧ w'.cell? ⟨Y + 1, 1, none⟩ = some (.int .u64 (s1 : Int))) (by kernel_rfl) (HCB.out _ H0.out.1) (fun hS0 => ?_)
  generalize wb.drew = y0 at *
  refine wpAnyH_take (i := 1) (v := ?_) rfl (by kernel_rfl) (by kernel_rfl) (by kernel_rfl) (fun _ _ _ h => h) (Or.inl ⟨by kernel_rfl, ?_⟩) (by assumption) ?_
  rotate_left
  · intro w hSw; (try dsimp only at hSw); go_simp; (try with_reducible rfl)
  refine wpAnyH_take (i := 2) (v := ?_) rfl (by kernel_rfl) (by kernel_rfl) (by kernel_rfl) (fun _ _ _ h => h) (Or.inl ⟨by kernel_rfl, ?_⟩) (by assumption) ?_
  rotate_left
  · intro w hSw; (try dsimp only at hSw); go_simp; (try with_reducible rfl)
  refine wpAnyH_ready (rs := [0]) (by kernel_rfl) (by simp) ?_
  refine AllReadyH.cons rfl (fun K hK => ?_) AllReadyH.nil
  go_simp
  refine (r_new0 y0).mono ?_
  rintro x y1 ⟨P1, rfl, b1⟩
  have H1 : Hid (ArrB y1 Y (h0 : Int) (h1 : Int) (s0 : Int) (s1 : Int) ∧ Below Y w y1) := Lib.hid ⟨H0.out.1.below b1, H0.out.2.trans (b1.mono (by have := Kq.blk_lt H0.out.1.2; omega))⟩
  clear b1 H0 hS0
  refine hK.out _ _ (HCB.out _ H1.out.1) (fun hS0 => ?_)
  clear hK K
  refine wpAnyH_ready (rs := [3]) (by kernel_rfl) (by simp) ?_
  refine AllReadyH.cons rfl (fun K hK => ?_) AllReadyH.nil
  go_simp
  refine (both_new0 _ (h0 : Int) (h1 : Int) (s0 : Int) (s1 : Int) y1).mono ?_
  rintro x y2 ⟨P2, rfl, b1⟩
  have H2 : Hid (ArrB y2 Y (h0 : Int) (h1 : Int) (s0 : Int) (s1 : Int) ∧ Below Y w y2) := Lib.hid ⟨H1.out.1.below b1, H1.out.2.trans (b1.mono (by have := Kq.blk_lt H1.out.1.2; omega))⟩
  clear b1 H1 hS0
  refine hK.out _ _ (HCB.out _ H2.out.1) (fun hS0 => ?_)
  clear hK K
  refine wpAnyH_take (i := 4) (v := ?_) rfl (by kernel_rfl) (by kernel_rfl) (by kernel_rfl) (fun _ _ _ h => h) (Or.inl ⟨by kernel_rfl, ?_⟩) (by assumption) ?_
  rotate_left
  · intro w hSw; (try dsimp only at hSw); go_simp; (try with_reducible rfl)
  refine wpAnyH_ready (rs := [5]) (by kernel_rfl) (by simp) ?_
  refine AllReadyH.cons rfl (fun K hK => ?_) AllReadyH.nil
  go_simp
  obtain ⟨y3, hy3⟩ : ∃ z, z = y2.alloc (.cells #[.pointer none, .pointer none, .pointer (some ⟨P2, 0, none⟩)] 54) := ⟨_, rfl⟩
  obtain ⟨X, hX⟩ : ∃ X, X = y2.heap.size := ⟨_, rfl⟩
  have H3 : Hid (MdS Y w h0 h1 s0 s1 X (.pointer (some ⟨P2, 0, none⟩)) 0 y3) := Lib.hid (by
    have ba := Kq.below_alloc y2 (.cells #[.pointer none, .pointer none, .pointer (some ⟨P2, 0, none⟩)] 54)
    have bn := Kq.blk_new y2 #[.pointer none, .pointer none, .pointer (some ⟨P2, 0, none⟩)] 54 (0, 0)
    rw [← hy3] at ba bn
    have := Kq.blk_lt H2.out.1.2
    exact ⟨H2.out.1.below ba, by omega, H2.out.2.trans (ba.mono (by omega)), HYW.out, Or.inl ⟨rfl, by rw [hX]; exact bn⟩⟩)
  rw [← hy3, ← hX]
  clear hy3 hX H2 hS0
  refine hK.out _ _ (HCB.out _ H3.out.bx) (fun hS0 => ?_)
  clear hK K
  refine wpAnyH_take (i := 6) (v := ?_) rfl (by kernel_rfl) (by kernel_rfl) (by kernel_rfl) (fun _ _ _ h => h) (Or.inl ⟨by kernel_rfl, ?_⟩) (by assumption) ?_
  rotate_left
  · intro w hSw; (try dsimp only at hSw); go_simp; (try with_reducible rfl)
  refine wpAnyH_done (by kernel_rfl) ?_ _
  clear hS0
  go_wp2
  go_loopw [6] (fun u wr => ∃ j : Nat, u = .int .i64 (j : Int) ∧ j ≤ 2 ∧ MdS Y w h0 h1 s0 s1 X (.pointer (some ⟨P2, 0, none⟩)) j wr) (fun u _ => 2 - (intOf u).toNat)
  case atStart => exact ⟨0, rfl, by omega, H3.out⟩
  case round =>
    clear H3
    obtain ⟨j, rfl, hj, hM⟩ := hrel
    have HM := Lib.hid hM
    clear hM
    obtain rfl | rfl | rfl : j = 0 ∨ j = 1 ∨ j = 2 := by omega
    · -- the chain 0
      have HX : Hid (wr.heap[X]? = some (.cells #[.pointer none, .pointer none, .pointer (some ⟨P2, 0, none⟩)] 54 (0, 0))) := Lib.hid (by
        rcases HM.out.st with ⟨-, h⟩ | ⟨h, _⟩ | ⟨h, _⟩
        · exact h
        · cases h
        · cases h)
      go_wp2
      refine wp_region_held_drew (S := fun w' => w'.cell? ⟨Y, 0, none⟩ = some (.int .u64 (h0 : Int)) ∧ w'.cell? ⟨Y, 1, none⟩ = some (.int .u64 (h1 : Int)) ∧ w'.cell? ⟨Y + 1, 0, none⟩ = some (.int .u64 (s0 : Int)) ∧ w'.cell? ⟨Y + 1, 1, none⟩ = some (.int .u64 (s1 : Int))) (by kernel_rfl) (HCB.out _ HM.out.bx) (fun hS0 => ?_)
      refine wpAnyH_take (i := 0) (v := ?_) rfl (by kernel_rfl) (by kernel_rfl) (by kernel_rfl) (fun _ _ _ h => h) (Or.inl ⟨by kernel_rfl, ?_⟩) (by assumption) ?_
      rotate_left
      · intro w hSw; (try dsimp only at hSw); go_simp; (try with_reducible rfl)
      refine wpAnyH_take (i := 1) (v := ?_) rfl (by kernel_rfl) (by kernel_rfl) (by kernel_rfl) (fun _ _ _ h => h) (Or.inl ⟨by kernel_rfl, ?_⟩) (by assumption) ?_
      rotate_left
      · intro w hSw; (try dsimp only at hSw); go_simp; (try with_reducible rfl)
      refine wpAnyH_take (i := 2) (v := ?_) rfl (by kernel_rfl) (by kernel_rfl) (by kernel_rfl) (fun _ _ _ h => h) (Or.inl ⟨by kernel_rfl, ?_⟩) (by assumption) ?_
      rotate_left
      · intro w hSw; (try dsimp only at hSw); go_simp; (try with_reducible rfl)
      refine wpAnyH_take (i := 3) (v := ?_) rfl (by kernel_rfl) (by kernel_rfl) (by kernel_rfl) (fun _ _ _ h => h) (Or.inl ⟨by kernel_rfl, ?_⟩) (by assumption) ?_
      rotate_left
      · intro w hSw; (try dsimp only at hSw); go_simp; (try with_reducible rfl)
      refine wpAnyH_take (i := 4) (v := ?_) rfl (by kernel_rfl) (by kernel_rfl) (by kernel_rfl) (fun _ _ _ h => h) (Or.inl ⟨by kernel_rfl, ?_⟩) (by assumption) ?_
      rotate_left
      · intro w hSw; (try dsimp only at hSw); go_simp; (try with_reducible rfl)
      refine wpAnyH_take (i := 5) (v := ?_) rfl (by kernel_rfl) (by kernel_rfl) (by kernel_rfl) (fun _ _ _ h => h) (Or.inl ⟨by kernel_rfl, ?_⟩) (by assumption) ?_
      rotate_left
      · intro w hSw; (try dsimp only at hSw); go_simp; (try with_reducible rfl)
      refine wpAnyH_take (i := 6) (v := ?_) rfl (by kernel_rfl) (by kernel_rfl) (by kernel_rfl) (fun _ _ _ h => h) (Or.inl ⟨by kernel_rfl, ?_⟩) (by assumption) ?_
      rotate_left
      · intro w hSw; (try dsimp only at hSw); go_simp; (try with_reducible rfl)
      refine wpAnyH_ready (rs := [7]) (by kernel_rfl) (by simp) ?_
      refine AllReadyH.cons rfl (fun K hK => ?_) AllReadyH.nil
      go_simp
      refine (HN0.out wr.drew).mono ?_
      rintro x y4 ⟨B, rfl, hch, b4⟩
      have HB : Hid (ArrB y4 Y (h0 : Int) (h1 : Int) (s0 : Int) (s1 : Int) ∧ y4.heap[X]? = some (.cells #[.pointer none, .pointer none, .pointer (some ⟨P2, 0, none⟩)] 54 (0, 0)) ∧ Below Y w y4 ∧ ChP y4 (fun k => wr.drew.heap.size ≤ k ∧ k < y4.heap.size) B (newCh 0 h0 s0) ∧ X < wr.drew.heap.size) := Lib.hid ⟨(HM.out.bx.below (Below.refl _ _).drew).below b4, Kq.below_blk (Below.trans (Below.refl wr.heap.size wr).drew b4) HX.out (Kq.blk_lt HX.out), HM.out.bel.trans ((Below.trans (Below.refl wr.heap.size wr).drew b4).mono (by have := HM.out.lt; omega)), hch, Kq.blk_lt HX.out⟩
      clear hch b4 hS0 HX
      refine hK.out _ _ (HCB.out _ HB.out.1) (fun hS0 => ?_)
      clear hK K
      refine wpAnyH_take (i := 8) (v := ?_) rfl (by kernel_rfl) (by kernel_rfl) (by kernel_rfl) (fun _ _ _ h => h) (Or.inl ⟨by kernel_rfl, ?_⟩) (by assumption) ?_
      rotate_left
      · intro w hSw; (try dsimp only at hSw); go_simp; (try with_reducible rfl)
      refine wpAnyH_take (i := 9) (v := ?_) rfl (by kernel_rfl) (by kernel_rfl) (by kernel_rfl) (fun _ _ _ h => h) (Or.inl ⟨by kernel_rfl, ?_⟩) (by assumption) ?_
      rotate_left
      · intro w hSw; (try dsimp only at hSw); go_simp; (try with_reducible rfl)
      refine wpAnyH_take (i := 10) (v := ?_) rfl (by kernel_rfl) (by kernel_rfl) (by kernel_rfl) (fun _ _ _ h => h) (Or.inl ⟨by kernel_rfl, ?_⟩) (by assumption) ?_
      rotate_left
      · intro w hSw; (try dsimp only at hSw); go_simp; (try with_reducible rfl)
      refine wpAnyH_take (i := 11) (v := ?_) rfl (by kernel_rfl) (by kernel_rfl) (by kernel_rfl) (fun _ _ _ h => h) (Or.inl ⟨by kernel_rfl, ?_⟩) (by assumption) ?_
      rotate_left
      · intro w hSw; (try dsimp only at hSw); go_simp; (try with_reducible rfl)
      refine wpAnyH_take (i := 12) (v := ?_) rfl (by kernel_rfl) (by kernel_rfl) (by kernel_rfl) (fun _ _ _ h => h) (Or.inl ⟨by kernel_rfl, ?_⟩) (by assumption) ?_
      rotate_left
      · intro w hSw; (try dsimp only at hSw); go_simp; (try with_reducible rfl)
      refine wpAnyH_done (by kernel_rfl) ?_ _
      clear hS0
      have x0 := Kq.blk_cell HB.out.2.1 0
      have g0 := Kq.blk_free HB.out.2.1 0
      go_wp2
      have HE : Hid (MdS Y w h0 h1 s0 s1 X (.pointer (some ⟨P2, 0, none⟩)) (0 + 1) (y4.setCell ⟨X, 0, none⟩ (.pointer (some ⟨B, 0, none⟩)))) := Lib.hid (by
        have k1 : Kq.Keeps (· = X) y4 (y4.setCell ⟨X, 0, none⟩ (.pointer (some ⟨B, 0, none⟩))) := Kq.Keeps.setCell _ _ _ rfl
        have hxy := HM.out.xl
        refine ⟨HB.out.1.keeps k1 (fun e => by have e : Y = X := e; omega) (fun e => by have e : Y + 1 = X := e; omega), HM.out.xl, below_past HB.out.2.2.1 k1 (Nat.le_of_eq HYW.out) (fun k _ e => by have e : k = X := e; omega), HYW.out, Or.inr (Or.inl ⟨rfl, B, (fun k => wr.drew.heap.size ≤ k ∧ k < y4.heap.size), Kq.blk_set HB.out.2.1 0 _, HB.out.2.2.2.1.keeps k1 (fun k hk e => by have e : k = X := e; have := HB.out.2.2.2.2; omega), fun k hk => ?_⟩)⟩
        have := HB.out.2.2.2.2; have := k1.size; exact ⟨by omega, by omega⟩)
      go_roundw
      case rel => exact ⟨0 + 1, rfl, by omega, HE.out⟩
      case measure => simp [intOf]
    · -- the chain 1
      obtain ⟨B0, P0, hx, hch, hp⟩ : ∃ B0 P0, wr.heap[X]? = some (.cells #[.pointer (some ⟨B0, 0, none⟩), .pointer none, .pointer (some ⟨P2, 0, none⟩)] 54 (0, 0)) ∧ ChP wr P0 B0 (newCh 0 h0 s0) ∧ ∀ k, P0 k → X < k ∧ k < wr.heap.size := by
        rcases HM.out.st with ⟨h, _⟩ | ⟨-, h⟩ | ⟨h, _⟩
        · cases h
        · exact h
        · cases h
      have HX := Lib.hid hx
      have HC0 := Lib.hid (And.intro hch hp)
      clear hx hch hp
      go_wp2
      refine wp_region_held_drew (S := fun w' => w'.cell? ⟨Y, 0, none⟩ = some (.int .u64 (h0 : Int)) ∧ w'.cell? ⟨Y, 1, none⟩ = some (.int .u64 (h1 : Int)) ∧ w'.cell? ⟨Y + 1, 0, none⟩ = some (.int .u64 (s0 : Int)) ∧ w'.cell? ⟨Y + 1, 1, none⟩ = some (.int .u64 (s1 : Int))) (by kernel_rfl) (HCB.out _ HM.out.bx) (fun hS0 => ?_)
      refine wpAnyH_take (i := 0) (v := ?_) rfl (by kernel_rfl) (by kernel_rfl) (by kernel_rfl) (fun _ _ _ h => h) (Or.inl ⟨by kernel_rfl, ?_⟩) (by assumption) ?_
      rotate_left
      · intro w hSw; (try dsimp only at hSw); go_simp; (try with_reducible rfl)
      refine wpAnyH_take (i := 1) (v := ?_) rfl (by kernel_rfl) (by kernel_rfl) (by kernel_rfl) (fun _ _ _ h => h) (Or.inl ⟨by kernel_rfl, ?_⟩) (by assumption) ?_
      rotate_left
      · intro w hSw; (try dsimp only at hSw); go_simp; (try with_reducible rfl)
      refine wpAnyH_take (i := 2) (v := ?_) rfl (by kernel_rfl) (by kernel_rfl) (by kernel_rfl) (fun _ _ _ h => h) (Or.inl ⟨by kernel_rfl, ?_⟩) (by assumption) ?_
      rotate_left
      · intro w hSw; (try dsimp only at hSw); go_simp; (try with_reducible rfl)
      refine wpAnyH_take (i := 3) (v := ?_) rfl (by kernel_rfl) (by kernel_rfl) (by kernel_rfl) (fun _ _ _ h => h) (Or.inl ⟨by kernel_rfl, ?_⟩) (by assumption) ?_
      rotate_left
      · intro w hSw; (try dsimp only at hSw); go_simp; (try with_reducible rfl)
      refine wpAnyH_take (i := 4) (v := ?_) rfl (by kernel_rfl) (by kernel_rfl) (by kernel_rfl) (fun _ _ _ h => h) (Or.inl ⟨by kernel_rfl, ?_⟩) (by assumption) ?_
      rotate_left
      · intro w hSw; (try dsimp only at hSw); go_simp; (try with_reducible rfl)
      refine wpAnyH_take (i := 5) (v := ?_) rfl (by kernel_rfl) (by kernel_rfl) (by kernel_rfl) (fun _ _ _ h => h) (Or.inl ⟨by kernel_rfl, ?_⟩) (by assumption) ?_
      rotate_left
      · intro w hSw; (try dsimp only at hSw); go_simp; (try with_reducible rfl)
      refine wpAnyH_take (i := 6) (v := ?_) rfl (by kernel_rfl) (by kernel_rfl) (by kernel_rfl) (fun _ _ _ h => h) (Or.inl ⟨by kernel_rfl, ?_⟩) (by assumption) ?_
      rotate_left
      · intro w hSw; (try dsimp only at hSw); go_simp; (try with_reducible rfl)
      refine wpAnyH_ready (rs := [7]) (by kernel_rfl) (by simp) ?_
      refine AllReadyH.cons rfl (fun K hK => ?_) AllReadyH.nil
      go_simp
      refine (HN1.out wr.drew).mono ?_
      rintro x y4 ⟨B, rfl, hch, b4⟩
      have HB : Hid (ArrB y4 Y (h0 : Int) (h1 : Int) (s0 : Int) (s1 : Int) ∧ y4.heap[X]? = some (.cells #[.pointer (some ⟨B0, 0, none⟩), .pointer none, .pointer (some ⟨P2, 0, none⟩)] 54 (0, 0)) ∧ Below Y w y4 ∧ ChP y4 (fun k => wr.drew.heap.size ≤ k ∧ k < y4.heap.size) B (newCh 1 h1 s1) ∧ X < wr.drew.heap.size) := Lib.hid ⟨(HM.out.bx.below (Below.refl _ _).drew).below b4, Kq.below_blk (Below.trans (Below.refl wr.heap.size wr).drew b4) HX.out (Kq.blk_lt HX.out), HM.out.bel.trans ((Below.trans (Below.refl wr.heap.size wr).drew b4).mono (by have := HM.out.lt; omega)), hch, Kq.blk_lt HX.out⟩
      have HC0 : Hid (ChP y4 P0 B0 (newCh 0 h0 s0) ∧ (∀ k, P0 k → X < k ∧ k < wr.heap.size) ∧ wr.heap.size ≤ y4.heap.size ∧ wr.heap.size ≤ y4.heap.size) := Lib.hid ⟨(HC0.out.1.below (Below.refl _ _).drew).below b4, HC0.out.2, b4.size, b4.size⟩
      clear hch b4 hS0 HX
      refine hK.out _ _ (HCB.out _ HB.out.1) (fun hS0 => ?_)
      clear hK K
      refine wpAnyH_take (i := 8) (v := ?_) rfl (by kernel_rfl) (by kernel_rfl) (by kernel_rfl) (fun _ _ _ h => h) (Or.inl ⟨by kernel_rfl, ?_⟩) (by assumption) ?_
      rotate_left
      · intro w hSw; (try dsimp only at hSw); go_simp; (try with_reducible rfl)
      refine wpAnyH_take (i := 9) (v := ?_) rfl (by kernel_rfl) (by kernel_rfl) (by kernel_rfl) (fun _ _ _ h => h) (Or.inl ⟨by kernel_rfl, ?_⟩) (by assumption) ?_
      rotate_left
      · intro w hSw; (try dsimp only at hSw); go_simp; (try with_reducible rfl)
      refine wpAnyH_take (i := 10) (v := ?_) rfl (by kernel_rfl) (by kernel_rfl) (by kernel_rfl) (fun _ _ _ h => h) (Or.inl ⟨by kernel_rfl, ?_⟩) (by assumption) ?_
      rotate_left
      · intro w hSw; (try dsimp only at hSw); go_simp; (try with_reducible rfl)
      refine wpAnyH_take (i := 11) (v := ?_) rfl (by kernel_rfl) (by kernel_rfl) (by kernel_rfl) (fun _ _ _ h => h) (Or.inl ⟨by kernel_rfl, ?_⟩) (by assumption) ?_
      rotate_left
      · intro w hSw; (try dsimp only at hSw); go_simp; (try with_reducible rfl)
      refine wpAnyH_take (i := 12) (v := ?_) rfl (by kernel_rfl) (by kernel_rfl) (by kernel_rfl) (fun _ _ _ h => h) (Or.inl ⟨by kernel_rfl, ?_⟩) (by assumption) ?_
      rotate_left
      · intro w hSw; (try dsimp only at hSw); go_simp; (try with_reducible rfl)
      refine wpAnyH_done (by kernel_rfl) ?_ _
      clear hS0
      have x0 := Kq.blk_cell HB.out.2.1 1
      have g0 := Kq.blk_free HB.out.2.1 1
      go_wp2
      have HE : Hid (MdS Y w h0 h1 s0 s1 X (.pointer (some ⟨P2, 0, none⟩)) (1 + 1) (y4.setCell ⟨X, 1, none⟩ (.pointer (some ⟨B, 0, none⟩)))) := Lib.hid (by
        have k1 : Kq.Keeps (· = X) y4 (y4.setCell ⟨X, 1, none⟩ (.pointer (some ⟨B, 0, none⟩))) := Kq.Keeps.setCell _ _ _ rfl
        have hxy := HM.out.xl
        refine ⟨HB.out.1.keeps k1 (fun e => by have e : Y = X := e; omega) (fun e => by have e : Y + 1 = X := e; omega), HM.out.xl, below_past HB.out.2.2.1 k1 (Nat.le_of_eq HYW.out) (fun k _ e => by have e : k = X := e; omega), HYW.out, Or.inr (Or.inr ⟨rfl, (fun k => if k = 0 then B0 else B), (fun k => if k = 0 then P0 else (fun k => wr.drew.heap.size ≤ k ∧ k < y4.heap.size)), .pointer (some ⟨P2, 0, none⟩), ?_⟩)⟩
        have hsz : wr.heap.size ≤ y4.heap.size := HC0.out.2.2.2
        have hxl := HB.out.2.2.2.2
        have hsz2 := k1.size
        have h4 : wr.drew.heap.size = wr.heap.size := rfl
        refine ⟨Kq.blk_set HB.out.2.1 1 _, fun k hk => ?_, ⟨by omega, by omega⟩, fun k i hk hi => ?_, fun i hi hi2 => ?_, fun i hi => hi.2⟩
        · obtain rfl | rfl : k = 0 ∨ k = 1 := by omega
          · show ChP _ P0 B0 (newCh 0 h0 s0)
            exact HC0.out.1.keeps k1 (fun i h e => by have e : i = X := e; have := (HC0.out.2.1 i h).1; omega)
          · show ChP _ (fun k => wr.drew.heap.size ≤ k ∧ k < y4.heap.size) B (newCh 1 h1 s1)
            exact HB.out.2.2.2.1.keeps k1 (fun i h e => by have e : i = X := e; omega)
        · obtain rfl | rfl : k = 0 ∨ k = 1 := by omega
          · have hi : P0 i := hi
            have := HC0.out.2.1 i hi
            exact ⟨⟨by omega, by omega⟩, by omega⟩
          · have hi : wr.drew.heap.size ≤ i ∧ i < y4.heap.size := hi
            exact ⟨⟨by omega, by omega⟩, by omega⟩
        · have hi : P0 i := hi
          have hi2 : wr.drew.heap.size ≤ i ∧ i < y4.heap.size := hi2
          have h3 := (HC0.out.2.1 i hi).2
          have h4 : wr.drew.heap.size = wr.heap.size := rfl
          omega)
      go_roundw
      case rel => exact ⟨1 + 1, rfl, by omega, HE.out⟩
      case measure => simp [intOf]
    · have HT : Hid (TwP wr (fun k => Y ≤ k ∧ k < wr.heap.size) X (newTw h0 h1 s0 s1)) := Lib.hid (by
        rcases HM.out.st with ⟨h, _⟩ | ⟨h, _⟩ | ⟨-, h⟩
        · cases h
        · cases h
        · exact h)
      go_wp2
      go_ret
      exact ⟨X, rfl, by rw [← HYW.out]; exact HT.out, by rw [← HYW.out]; exact HM.out.bel⟩
end Go.Proofs.YtbjchfcoacmaaaaGreatDoor
namespace Go.Proofs.YtbjchfcoacmaaaaGreatDoor
open Go.RowKit Go.Cl
set_option linter.unusedVariables false
namespace AwC
def x : ByteArray := ⟨#[120]⟩
def p : PkV := ⟨0, 1, 20, x⟩
noncomputable def com : ByteArray := comD p
def k : ByteArray := keyT 99 1
noncomputable def l1 : List PairV := [(k, com)]
noncomputable def C1 : ChV := ⟨0, ⟨l1, 5, [[]]⟩, [], fun _ => none, 0, 2, 5, [[]], [ntOf 1 p]⟩
noncomputable def C2 : ChV := ⟨0, ⟨l1, 5, [[], l1]⟩, [], fun _ => none, 0, 2, 5, [[], [ntOf 1 p]], []⟩
noncomputable def rt : ByteArray := rootP l1
noncomputable def B1 : ChV := ⟨1, newV 9, [6], updT (fun _ => none) 6 rt, 1, 1, 9, [[]], []⟩
noncomputable def pr : ByteArray := (pfBytes (pfHas l1 k)).1
theorem com_size : com.size = 32 := dgT_size _
theorem k_size : k.size = 9 := keyT_size _ _
theorem bad_of {k v : ByteArray} (h1 : 1 ≤ k.size) (h2 : k.size ≤ 16) (h3 : v.size ≤ 64) : badKV k v = false := by
  unfold badKV
  rw [decide_eq_false (by omega), decide_eq_false (by omega), decide_eq_false (by omega)]; rfl
theorem send0 : firstE (sendE (newCh 0 5 1) x 20) = 0 := by decide
theorem send1 : sendC (newCh 0 5 1) x 20 = C1 := by
  unfold sendC
  rw [if_pos send0]
  have h : setV (newCh 0 5 1).st (keyT 99 (newCh 0 5 1).next) (comD ((newCh 0 5 1).pk 20 x)) = (⟨l1, 5, [[]]⟩, 0) := by
    show setV (newV 5) k com = _
    unfold setV
    rw [if_neg (by rw [bad_of (by rw [k_size]; decide) (by rw [k_size]; decide) (by rw [com_size]; decide)]; decide), if_neg (fun h => by have := h.2; simp [newV] at this)]
    rfl
  unfold ChV.set
  rw [h]
  rfl
theorem sendp : sendP (newCh 0 5 1) x 20 = p := by
  unfold sendP
  rw [if_pos send0]; rfl
theorem com0 : comV C1.st = (⟨l1, 5, [[], l1]⟩, 6, 0) := by
  unfold comV
  rw [if_neg (by show ¬ ((5 + ([[]] : List (List PairV)).length - 1) : Nat) = _; decide), if_neg (by show ¬ 4096 ≤ 1; decide)]
  rfl
theorem com1 : comC C1 = C2 := by
  unfold comC
  rw [com0]
  rfl
theorem at0 : atV C2.st 6 = (l1, 0) := by
  unfold atV
  rw [if_pos (by constructor <;> decide)]
  rfl
theorem root0 : rootV C2.st 6 = (rt, 0) := by
  unfold rootV
  rw [at0]
  rfl
theorem upd0 : setF 6 rt (newCh 1 9 1).hs (newCh 1 9 1).f = ([6], updT (fun _ => none) 6 rt, 0) := by
  unfold setF
  rw [if_pos (show rt.size = 32 from dgT_size _)]
  rfl
theorem upd1 : updC (newCh 1 9 1) 6 rt = B1 := by
  unfold updC
  rw [upd0]
  rfl
theorem small1 : smallP l1 := ⟨by simp [l1], by unfold l1 SortL; simp, fun q hq => by
  unfold l1 at hq
  rw [List.mem_singleton.1 hq]
  exact ⟨by show 1 ≤ k.size; rw [k_size]; decide, by show k.size ≤ 16; rw [k_size]; decide, by show com.size ≤ 64; rw [com_size]; decide⟩⟩
theorem in1 : isIn l1 k = true := (isIn_iff small1.2.1 k).2 ⟨0, by simp [l1], rfl⟩
theorem plc1 : plc l1 k = 0 := plc_none _ _ (fun q hq => by
  unfold l1 at hq
  rw [List.mem_singleton.1 hq]; exact lt_irr _)
theorem pr0 : (proveV C2.st k 6).1 = pr := by
  unfold proveV
  rw [at0]
  show (if (0 : Int) = 0 then proveL l1 k else _).1 = _
  rw [if_pos rfl]
  unfold proveL
  rw [if_pos in1]; rfl
theorem has1 : hasP rt k com (pfParse pr).1 = true := by
  have hm := pfHas_mayG (key := k) small1 (by simp [l1]) in1
  unfold pr
  rw [(parse_bytesG hm).1, (parse_bytesG hm).2]
  show hasP (rootL l1) k com (pfHas l1 k) = true
  rw [has_madeG (by simp [l1]) in1 com, plc1]
  exact decide_eq_true (by unfold mkLf l1; rfl)
theorem recv0 : firstE (recvE B1 0 1 20 x pr 6) = 0 := by
  have h5 : provesE B1 6 (fun root => hasP root (keyT 99 1) (comD ⟨0, ((1 : Nat) : Int), ((20 : Nat) : Int), x⟩) (pfParse pr).1) = 0 := by
    unfold provesE
    have hf : B1.f ((6 : Nat) : Int) = some rt := rfl
    rw [hf]
    show (if true = true then (if hasP rt k com (pfParse pr).1 = true then (0 : Int) else 9) else 11) = 0
    rw [has1]; rfl
  unfold recvE
  rw [h5]
  rfl
noncomputable def B2 : ChV := recvC B1 0 1 20 x pr 6
theorem st2 : B2.st = (setV (setV (newV 9) (keyT 114 1) ⟨#[1]⟩).1 (keyT 97 1) (ansD p)).1 ∧ B2.id = 1 ∧ B2.hs = [6] := by
  unfold B2 recvC
  rw [if_pos recv0]
  exact ⟨rfl, rfl, rfl⟩
theorem recv1 : firstE (recvE B2 0 1 20 x pr 6) = 4 := by
  obtain ⟨e1, e2, e3⟩ := st2
  have hb1 : badKV (keyT 114 1) ⟨#[1]⟩ = false := bad_of (by rw [keyT_size]; decide) (by rw [keyT_size]; decide) (by decide)
  have hb2 : badKV (keyT 97 1) (ansD p) = false := bad_of (by rw [keyT_size]; decide) (by rw [keyT_size]; decide) (by rw [show (ansD p).size = 32 from dgT_size _]; decide)
  have f1 : (setV (newV 9) (keyT 114 1) ⟨#[1]⟩).1 = ⟨[(keyT 114 1, ⟨#[1]⟩)], 9, [[]]⟩ := by
    unfold setV
    rw [if_neg (by rw [hb1]; decide), if_neg (fun h => by have := h.2; simp [newV] at this)]
    rfl
  have f2 : B2.st = ⟨insP [(keyT 114 1, ⟨#[1]⟩)] (keyT 97 1) (ansD p), 9, [[]]⟩ := by
    rw [e1, f1]
    unfold setV
    rw [if_neg (by rw [hb2]; decide), if_neg (fun h => by have := h.2; simp at this)]
  have hh : B2.has (keyT 114 1) = true := by
    unfold ChV.has
    rw [f2, lk_ins]
    by_cases e : keyT 114 1 = keyT 97 1
    · rw [if_pos e]; rfl
    · rw [if_neg e]; unfold lk; rw [if_pos rfl]; rfl
  have hht : B2.st.height = 9 := by rw [f2]; rfl
  have hg : goesE B2 = 0 := by unfold goesE; rw [hht]; rfl
  have hf : fromE ⟨0, ((1 : Nat) : Int), ((20 : Nat) : Int), x⟩ (1 - (B2.id : Int)) = 0 := by rw [e2]; decide
  have hr : recv1B B2 ⟨0, ((1 : Nat) : Int), ((20 : Nat) : Int), x⟩ = true := by unfold recv1B; rw [hht]; decide
  unfold recvE
  rw [hg, hf, hr, hh]
  rfl
end AwC
end Go.Proofs.YtbjchfcoacmaaaaGreatDoor
namespace Go.Proofs.YtbjchfcoacmaaaaGreatDoor
open Go.RowKit
set_option linter.unusedVariables false
set_option maxRecDepth 100000 in
theorem side_one (id : Int) (w : World) : Calls Tryz.prog 20 #[.int .i64 id] w fun x w' => x = .returned (.int .i64 (sideN id : Int)) ∧ w' = w := by
  by_cases e : id = 1
  · subst e
    go_enter Tryz.func20, Tryz.ntmps20
    go_wp2
    go_ret
    exact ⟨rfl, rfl⟩
  · have e1 : (id == 1) = false := by rw [beq_eq_false_iff_ne]; exact e
    have hs : Hid (sideN id = 0) := Lib.hid (if_neg e)
    go_enter Tryz.func20, Tryz.ntmps20
    go_wp2
    go_ret
    exact ⟨by rw [hs.out]; rfl, rfl⟩
/-- what stands within a call -/
structure DoS (Y : Nat) (w0 : World) (O O' : Nat → Prop) (X : Nat) (c : Nat → ChV) (a : CaV) (B : Nat → Nat) (P : Nat → Nat → Prop) (M : Value) (w : World) : Prop where
  tw : TwS w O' X B P M c
  bx : w.heap[Y]? = some (.cells a.cells.toArray 50 (0, 0))
  rs : w.heap[Y + 1]? = some (.cells #[.int .i64 0, .int .u64 0, .int .u64 0, .string ⟨#[]⟩] 46 (0, 0))
  kp : Kq.Keeps (fun j => O j ∧ j ≠ X) w0 w
  ext : ∀ j, O' j → O j ∨ Y + 2 ≤ j
  olt : ∀ j, O j → j < Y
  y : Y = w0.heap.size
section
variable {Y : Nat} {w0 w w' : World} {O O' : Nat → Prop} {X : Nat} {c : Nat → ChV} {a : CaV} {B : Nat → Nat} {P : Nat → Nat → Prop} {M : Value}
theorem DoS.sz (h : DoS Y w0 O O' X c a B P M w) : Y + 1 < w.heap.size := Kq.blk_lt h.rs
theorem DoS.below (h : DoS Y w0 O O' X c a B P M w) (hb : Below w.heap.size w w') : DoS Y w0 O O' X c a B P M w' :=
  ⟨h.tw.below hb, Kq.below_blk hb h.bx (Kq.blk_lt h.bx), Kq.below_blk hb h.rs (Kq.blk_lt h.rs), h.kp.trans (Kq.Keeps.of_below hb (fun k h1 h2 => absurd h1 (Nat.not_le.2 h2))), h.ext, h.olt, h.y⟩
theorem DoS.start (h : TwS w O X B P M c) (a : CaV) : DoS w.heap.size w O O X c a B P M ((w.alloc (.cells a.cells.toArray 50)).alloc (.cells #[.int .i64 0, .int .u64 0, .int .u64 0, .string ⟨#[]⟩] 46)) := by
  have b1 := Kq.below_alloc w (.cells a.cells.toArray 50)
  have n1 := Kq.blk_new w a.cells.toArray 50 (0, 0)
  have hs : (w.alloc (.cells a.cells.toArray 50)).heap.size = w.heap.size + 1 := by simp
  generalize w.alloc (.cells a.cells.toArray 50) = z at *
  have b2 := Kq.below_alloc z (.cells #[.int .i64 0, .int .u64 0, .int .u64 0, .string ⟨#[]⟩] 46)
  have n2 := Kq.blk_new z #[.int .i64 0, .int .u64 0, .int .u64 0, .string ⟨#[]⟩] 46 (0, 0)
  rw [hs] at n2
  have b3 := b1.trans (b2.mono (by omega))
  exact ⟨h.below b3, Kq.below_blk b2 n1 (Kq.blk_lt n1), n2, Kq.Keeps.of_below b3 (fun k h1 h2 => absurd h1 (Nat.not_le.2 h2)), fun j hj => Or.inl hj, h.lt, rfl⟩
/-- a chain changed -/
theorem DoS.step {k : Nat} (hk : k < 2) {r : Value} {c' : ChV} {x : Ending} (h : DoS Y w0 O O' X c a B P M w) (hs : StepC w (P k) (B k) r c' x w') : DoS Y w0 O (Ext O' w w') X (updF c k c') a B (fun j => if j = k then Ext (P k) w w' else P j) M w' := by
  obtain ⟨h1, h2⟩ := h.tw.step hk hs
  have hsz := h.sz
  have hn : ∀ j, O' j → j ≠ Y ∧ j ≠ Y + 1 := fun j hj => by
    rcases h.ext j hj with h3 | h3
    · have := h.olt j h3; omega
    · omega
  refine ⟨h1, h2.blk h.bx (fun e => (hn Y e.1).1 rfl), h2.blk h.rs (fun e => (hn _ e.1).2 rfl), keeps_extC h.kp h2 (fun j e => ?_), fun j hj => ?_, h.olt, h.y⟩
  · rcases h.ext j e.1 with h3 | h3
    · exact Or.inl ⟨h3, e.2⟩
    · exact Or.inr ⟨by have := h.y; omega, h.tw.lt j e.1⟩
  · rcases hj with hj | hj
    · exact h.ext j hj
    · exact Or.inr (by omega)
theorem fillW_keeps (w : World) (R : Nat) (f q t : Int) (d : ByteArray) : Kq.Keeps (· = R) w (fillW w R f q t d) := by
  unfold fillW
  refine Kq.Keeps.trans (b := ((w.setCell ⟨R, 0, none⟩ (.int .i64 f)).setCell ⟨R, 1, none⟩ (.int .u64 q)).setCell ⟨R, 2, none⟩ (.int .u64 t)) ?_ (Kq.Keeps.setCell _ _ _ rfl)
  refine Kq.Keeps.trans (b := (w.setCell ⟨R, 0, none⟩ (.int .i64 f)).setCell ⟨R, 1, none⟩ (.int .u64 q)) ?_ (Kq.Keeps.setCell _ _ _ rfl)
  exact Kq.Keeps.trans (b := w.setCell ⟨R, 0, none⟩ (.int .i64 f)) (Kq.Keeps.setCell _ _ _ rfl) (Kq.Keeps.setCell _ _ _ rfl)
/-- the packet is told -/
theorem DoS.fill (h : DoS Y w0 O O' X c a B P M w) (f q t : Int) (d : ByteArray) : (fillW w (Y + 1) f q t d).heap[Y + 1]? = some (.cells #[.int .i64 f, .int .u64 q, .int .u64 t, .string d] 46 (0, 0)) ∧ TwP (fillW w (Y + 1) f q t d) (Ext O w0 (fillW w (Y + 1) f q t d)) X c ∧ Kq.Keeps (fun j => O j ∧ j ≠ X) w0 (fillW w (Y + 1) f q t d) := by
  have k1 := fillW_keeps w (Y + 1) f q t d
  have hsz := h.sz
  have hy := h.y
  have hsz2 := k1.size
  refine ⟨by unfold fillW; exact Kq.blk_set (Kq.blk_set (Kq.blk_set (Kq.blk_set h.rs 0 _) 1 _) 2 _) 3 _, ⟨B, P, M, (h.tw.keeps k1 (fun j hj e => ?_)).widen (fun j hj => ?_) (fun j hj => ?_)⟩, keeps_past h.kp k1 (fun j e => by have e : j = Y + 1 := e; omega)⟩
  · have e : j = Y + 1 := e
    rcases h.ext j hj with h3 | h3
    · have := h.olt j h3; omega
    · omega
  · rcases h.ext j hj with h3 | h3
    · exact Or.inl h3
    · exact Or.inr ⟨by omega, by have := h.tw.lt j hj; omega⟩
  · rcases hj with h3 | h3
    · have := h.olt j h3; omega
    · exact h3.2
end
set_option maxRecDepth 100000 in
theorem act_key (a : CaV) (w : World) (hq : a.q < 18446744073709551616) : Calls Tryz.prog 43 #[.agg #[.int .i64 a.kd, .int .i64 a.id, .int .u64 (a.h : Int), .string a.d, .int .i64 a.f, .int .u64 (a.q : Int), .int .u64 (a.t : Int), .string a.pd, .bool a.sp]] w fun x w' => x = .returned (.string a.key) ∧ Below w.heap.size w w' := by
  have c0 : (⟨#[99]⟩ : ByteArray) = txt [99] := rfl
  have c1 : (⟨#[97]⟩ : ByteArray) = txt [97] := rfl
  have c2 : (⟨#[114]⟩ : ByteArray) = txt [114] := rfl
  obtain ⟨kd, id, h, d, f, q, t, pd, sp⟩ := a
  have HQ := Lib.hid hq
  have hz := Kq.below_alloc w (.cells #[.int .i64 kd, .int .i64 id, .int .u64 (h : Int), .string d, .int .i64 f, .int .u64 (q : Int), .int .u64 (t : Int), .string pd, .bool sp] 50)
  have HB := Lib.hid hz
  clear hq hz
  have HR := Lib.hid (fun (l : Nat) (hl : l < 256) => ref_key l q (w.alloc (.cells #[.int .i64 kd, .int .i64 id, .int .u64 (h : Int), .string d, .int .i64 f, .int .u64 (q : Int), .int .u64 (t : Int), .string pd, .bool sp] 50)) hl HQ.out)
  obtain ⟨kk, hkk⟩ : ∃ kk, kk = CaV.key ⟨kd, id, h, d, f, q, t, pd, sp⟩ := ⟨_, rfl⟩
  have HK := Lib.hid hkk
  rw [← hkk]
  clear hkk
  by_cases e2 : kd = 2
  · subst e2
    have HE : Hid (kk = keyT 99 q) := Lib.hid (by rw [HK.out]; rfl)
    go_enter Tryz.func43, Tryz.ntmps43
    go_wp2_with fail
    refine (HR.out 99 (by decide)).mono ?_
    rintro x w2 ⟨rfl, b2⟩
    have HF := Lib.hid (HB.out.trans (b2.mono HB.out.size))
    clear b2
    go_wp2
    go_ret
    exact ⟨by rw [HE.out]; rfl, HF.out⟩
  by_cases e3 : kd = 3
  · subst e3
    have HE : Hid (kk = keyT 97 q) := Lib.hid (by rw [HK.out]; rfl)
    go_enter Tryz.func43, Tryz.ntmps43
    go_wp2_with fail
    refine (HR.out 97 (by decide)).mono ?_
    rintro x w2 ⟨rfl, b2⟩
    have HF := Lib.hid (HB.out.trans (b2.mono HB.out.size))
    clear b2
    go_wp2
    go_ret
    exact ⟨by rw [HE.out]; rfl, HF.out⟩
  · have d2 : (kd == 2) = false := by rw [beq_eq_false_iff_ne]; exact e2
    have d3 : (kd == 3) = false := by rw [beq_eq_false_iff_ne]; exact e3
    have HE : Hid (kk = keyT 114 q) := Lib.hid (by rw [HK.out]; unfold CaV.key; rw [if_neg e2, if_neg e3])
    go_enter Tryz.func43, Tryz.ntmps43
    go_wp2_with fail
    refine (HR.out 114 (by decide)).mono ?_
    rintro x w2 ⟨rfl, b2⟩
    have HF := Lib.hid (HB.out.trans (b2.mono HB.out.size))
    clear b2
    go_wp2
    go_ret
    exact ⟨by rw [HE.out]; rfl, HF.out⟩
end Go.Proofs.YtbjchfcoacmaaaaGreatDoor
namespace Go.Proofs.YtbjchfcoacmaaaaGreatDoor
open Go.RowKit
set_option linter.unusedVariables false
set_option maxRecDepth 100000 in
set_option maxHeartbeats 1000000 in
theorem do_k0t {w : World} {O : Nat → Prop} {X : Nat} {c : Nat → ChV} {m : Nat} (id : Int) (h q t : Nat) (d pd : ByteArray) (f : Int) (hT : TwP w O X c) (hk : TwK m c) (hm : m ≤ 400) (ha : CaOk ⟨0, id, h, d, f, q, t, pd, true⟩) (hL : LaidOk w) (hO : ¬ O 1 ∧ ¬ O 0) : Calls Tryz.prog 17 #[.pointer (some ⟨X, 0, none⟩), .agg #[.int .i64 0, .int .i64 id, .int .u64 (h : Int), .string d, .int .i64 f, .int .u64 (q : Int), .int .u64 (t : Int), .string pd, .bool true]] w (StepT w O X (.tuple #[(doP c ⟨0, id, h, d, f, q, t, pd, true⟩).val, .int .u64 (doH c ⟨0, id, h, d, f, q, t, pd, true⟩ : Int), .int .i64 (doE c ⟨0, id, h, d, f, q, t, pd, true⟩)]) (doV c ⟨0, id, h, d, f, q, t, pd, true⟩)) := by
  obtain ⟨B, P, M, hT⟩ := hT
  obtain ⟨s, hs⟩ : ∃ s, s = sideN id := ⟨_, rfl⟩
  obtain ⟨o, ho⟩ : ∃ o, o = 1 - s := ⟨_, rfl⟩
  have hs2 : s < 2 := by rw [hs]; exact sideN_lt id
  obtain ⟨Y, hY⟩ : ∃ Y, Y = w.heap.size := ⟨_, rfl⟩
  obtain ⟨wb, hwb⟩ : ∃ z, z = (w.alloc (.cells #[.int .i64 0, .int .i64 id, .int .u64 (h : Int), .string d, .int .i64 f, .int .u64 (q : Int), .int .u64 (t : Int), .string pd, .bool true] 50)).alloc (.cells #[.int .i64 0, .int .u64 0, .int .u64 0, .string ⟨#[]⟩] 46) := ⟨_, rfl⟩
  have HB0 : Hid (DoS Y w O O X c ⟨0, id, h, d, f, q, t, pd, true⟩ B P M wb) := Lib.hid (by rw [hwb, hY]; exact DoS.start hT ⟨0, id, h, d, f, q, t, pd, true⟩)
  have HSD := Lib.hid (fun (z : World) (n : Nat) => Calls.quiet_of_same (side_one id (z.drewN n)))
  rw [← hs] at HSD
  have hw1 : IntKind.i64.wrap (1 - (s : Int)) = (o : Int) := by rw [IntWalk.i64_in _ (by omega)]; omega
  have i1 : (s : Int) < 2 := by omega
  have i2 : (o : Int) < 2 := by omega
  have HSO : Hid (s < 2 ∧ o < 2 ∧ CaV.s ⟨0, id, h, d, f, q, t, pd, true⟩ = s ∧ CaV.o ⟨0, id, h, d, f, q, t, pd, true⟩ = o) := Lib.hid ⟨hs2, by omega, hs.symm, by show 1 - sideN id = o; rw [ho, hs]⟩
  have HOK := Lib.hid (And.intro (hk s hs2) (And.intro (hk o (by omega)) (And.intro hm (And.intro ha (And.intro hL (And.intro hO (CaV.pr_size hk hm ha)))))))
  have HYW := Lib.hid hY
  clear hT hk hm ha hL hO hs ho hs2
  have e0 := HSO.out.2.2.1
  have v1 : doV c ⟨0, id, h, d, f, q, t, pd, true⟩ = updF c s (sendC (c s) d h) := by unfold doV doC; rw [if_pos rfl, e0]
  have v2 : doP c ⟨0, id, h, d, f, q, t, pd, true⟩ = sendP (c s) d h := by unfold doP; rw [if_pos rfl, e0]
  have v3 : doH c ⟨0, id, h, d, f, q, t, pd, true⟩ = 0 := rfl
  have v4 : doE c ⟨0, id, h, d, f, q, t, pd, true⟩ = firstE (sendE (c s) d h) := by unfold doE; rw [if_pos rfl, e0]
  rw [v1, v2, v3, v4]
  have hsz := HOK.out.2.2.2.1.d
  have HSE := Lib.hid (fun z hc hL => cn_send (w := z) (O := P s) (B := B s) d h hc HOK.out.1.ok HOK.out.2.2.2.1.h (by show d.size ≤ 9223372036854775807; have hsz : d.size ≤ 2000 := hsz; omega) hL)
  clear v1 v2 v3 v4 e0 hsz
  obtain ⟨er, her⟩ : ∃ er, er = firstE (sendE (c s) d h) := ⟨_, rfl⟩
  obtain ⟨pf, pq, pt, ppd, hp⟩ : ∃ pf pq pt ppd, sendP (c s) d h = ⟨pf, pq, pt, ppd⟩ := ⟨_, _, _, _, rfl⟩
  rw [hp, ← her] at HSE ⊢
  simp only [PkV.val] at HSE ⊢
  generalize sendC (c s) d h = c' at *
  clear her hp
  go_enter Tryz.func17, Tryz.ntmps17
  go_wp2
  rw [← hwb, ← hY]
  clear hwb hY
  have a1 := Kq.blk_cell HB0.out.bx 1
  simp only [CaV.cells] at a1
  have x1 := HB0.out.tw.cell s HSO.out.1
  have x2 := HB0.out.tw.cell o HSO.out.2.1
  go_quiet ((first | (go_at_call 20; exact HSD.out _ _)))
  generalize hwq : wb.drewN nq = wq
  have HB1 : Hid (DoS Y w O O X c ⟨0, id, h, d, f, q, t, pd, true⟩ B P M wq) := Lib.hid (by rw [← hwq]; exact HB0.out.below (below_drewN (Below.refl _ _) nq))
  have HLD : Hid (LaidOk wq) := Lib.hid (HOK.out.2.2.2.2.1.keeps HB1.out.kp (fun e => HOK.out.2.2.2.2.2.1.1 e.1) (fun e => HOK.out.2.2.2.2.2.1.2 e.1))
  clear hwq HB0 a1 x1 x2 HSD hw1 i1 i2 nq
  have a0 := Kq.blk_cell HB1.out.bx 0
  have a2 := Kq.blk_cell HB1.out.bx 2
  have a3 := Kq.blk_cell HB1.out.bx 3
  have a4 := Kq.blk_cell HB1.out.bx 4
  have a5 := Kq.blk_cell HB1.out.bx 5
  have a6 := Kq.blk_cell HB1.out.bx 6
  have a7 := Kq.blk_cell HB1.out.bx 7
  have a8 := Kq.blk_cell HB1.out.bx 8
  simp only [CaV.cells] at a0 a2 a3 a4 a5 a6 a7 a8
  go_wp2_with fail
  refine (HSE.out wq (HB1.out.tw.ch s HSO.out.1) HLD.out).mono ?_
  rintro x w2 hst
  have hx := hst.1
  subst hx
  have hb := Kq.below_alloc w2 (.cells #[.int .i64 pf, .int .u64 pq, .int .u64 pt, .string ppd] 46)
  have HB2 := Lib.hid ((HB1.out.step HSO.out.1 hst).below hb)
  clear hst hb HB1 HLD a0 a2 a3 a4 a5 a6 a7 a8
  have r0 := Kq.blk_cell HB2.out.rs 0
  have r1 := Kq.blk_cell HB2.out.rs 1
  have r2 := Kq.blk_cell HB2.out.rs 2
  have r3 := Kq.blk_cell HB2.out.rs 3
  have g0 := Kq.blk_free HB2.out.rs 0
  have g1 := Kq.blk_free HB2.out.rs 1
  have g2 := Kq.blk_free HB2.out.rs 2
  have g3 := Kq.blk_free HB2.out.rs 3
  go_wp2
  obtain ⟨q1, q2, q3⟩ := HB2.out.fill pf pq pt ppd
  change bodyPost _ _ _ _ _ (fillW (w2.alloc (.cells #[.int .i64 pf, .int .u64 pq, .int .u64 pt, .string ppd] 46)) (Y + 1) pf pq pt ppd)
  have z0' := Kq.blk_cell q1 0
  have z1' := Kq.blk_cell q1 1
  have z2' := Kq.blk_cell q1 2
  have z3' := Kq.blk_cell q1 3
  generalize fillW (w2.alloc (.cells #[.int .i64 pf, .int .u64 pq, .int .u64 pt, .string ppd] 46)) (Y + 1) pf pq pt ppd = w9 at *
  refine bodyPost_ret (v := .tuple #[.agg #[.int .i64 pf, .int .u64 pq, .int .u64 pt, .string ppd], .int .u64 0, .int .i64 er]) (by simp [results, Tryz.results17, go_sem, z0', z1', z2', z3']) rfl ?_
  exact ⟨rfl, q2, q3⟩
set_option maxRecDepth 100000 in
set_option maxHeartbeats 1000000 in
theorem do_k0f {w : World} {O : Nat → Prop} {X : Nat} {c : Nat → ChV} {m : Nat} (id : Int) (h q t : Nat) (d pd : ByteArray) (f : Int) (hT : TwP w O X c) (hk : TwK m c) (hm : m ≤ 400) (ha : CaOk ⟨0, id, h, d, f, q, t, pd, false⟩) (hL : LaidOk w) (hO : ¬ O 1 ∧ ¬ O 0) : Calls Tryz.prog 17 #[.pointer (some ⟨X, 0, none⟩), .agg #[.int .i64 0, .int .i64 id, .int .u64 (h : Int), .string d, .int .i64 f, .int .u64 (q : Int), .int .u64 (t : Int), .string pd, .bool false]] w (StepT w O X (.tuple #[(doP c ⟨0, id, h, d, f, q, t, pd, false⟩).val, .int .u64 (doH c ⟨0, id, h, d, f, q, t, pd, false⟩ : Int), .int .i64 (doE c ⟨0, id, h, d, f, q, t, pd, false⟩)]) (doV c ⟨0, id, h, d, f, q, t, pd, false⟩)) := by
  obtain ⟨B, P, M, hT⟩ := hT
  obtain ⟨s, hs⟩ : ∃ s, s = sideN id := ⟨_, rfl⟩
  obtain ⟨o, ho⟩ : ∃ o, o = 1 - s := ⟨_, rfl⟩
  have hs2 : s < 2 := by rw [hs]; exact sideN_lt id
  obtain ⟨Y, hY⟩ : ∃ Y, Y = w.heap.size := ⟨_, rfl⟩
  obtain ⟨wb, hwb⟩ : ∃ z, z = (w.alloc (.cells #[.int .i64 0, .int .i64 id, .int .u64 (h : Int), .string d, .int .i64 f, .int .u64 (q : Int), .int .u64 (t : Int), .string pd, .bool false] 50)).alloc (.cells #[.int .i64 0, .int .u64 0, .int .u64 0, .string ⟨#[]⟩] 46) := ⟨_, rfl⟩
  have HB0 : Hid (DoS Y w O O X c ⟨0, id, h, d, f, q, t, pd, false⟩ B P M wb) := Lib.hid (by rw [hwb, hY]; exact DoS.start hT ⟨0, id, h, d, f, q, t, pd, false⟩)
  have HSD := Lib.hid (fun (z : World) (n : Nat) => Calls.quiet_of_same (side_one id (z.drewN n)))
  rw [← hs] at HSD
  have hw1 : IntKind.i64.wrap (1 - (s : Int)) = (o : Int) := by rw [IntWalk.i64_in _ (by omega)]; omega
  have i1 : (s : Int) < 2 := by omega
  have i2 : (o : Int) < 2 := by omega
  have HSO : Hid (s < 2 ∧ o < 2 ∧ CaV.s ⟨0, id, h, d, f, q, t, pd, false⟩ = s ∧ CaV.o ⟨0, id, h, d, f, q, t, pd, false⟩ = o) := Lib.hid ⟨hs2, by omega, hs.symm, by show 1 - sideN id = o; rw [ho, hs]⟩
  have HOK := Lib.hid (And.intro (hk s hs2) (And.intro (hk o (by omega)) (And.intro hm (And.intro ha (And.intro hL (And.intro hO (CaV.pr_size hk hm ha)))))))
  have HYW := Lib.hid hY
  clear hT hk hm ha hL hO hs ho hs2
  have e0 := HSO.out.2.2.1
  have v1 : doV c ⟨0, id, h, d, f, q, t, pd, false⟩ = updF c s (sendC (c s) d h) := by unfold doV doC; rw [if_pos rfl, e0]
  have v2 : doP c ⟨0, id, h, d, f, q, t, pd, false⟩ = sendP (c s) d h := by unfold doP; rw [if_pos rfl, e0]
  have v3 : doH c ⟨0, id, h, d, f, q, t, pd, false⟩ = 0 := rfl
  have v4 : doE c ⟨0, id, h, d, f, q, t, pd, false⟩ = firstE (sendE (c s) d h) := by unfold doE; rw [if_pos rfl, e0]
  rw [v1, v2, v3, v4]
  have hsz := HOK.out.2.2.2.1.d
  have HSE := Lib.hid (fun z hc hL => cn_send (w := z) (O := P s) (B := B s) d h hc HOK.out.1.ok HOK.out.2.2.2.1.h (by show d.size ≤ 9223372036854775807; have hsz : d.size ≤ 2000 := hsz; omega) hL)
  clear v1 v2 v3 v4 e0 hsz
  obtain ⟨er, her⟩ : ∃ er, er = firstE (sendE (c s) d h) := ⟨_, rfl⟩
  obtain ⟨pf, pq, pt, ppd, hp⟩ : ∃ pf pq pt ppd, sendP (c s) d h = ⟨pf, pq, pt, ppd⟩ := ⟨_, _, _, _, rfl⟩
  rw [hp, ← her] at HSE ⊢
  simp only [PkV.val] at HSE ⊢
  generalize sendC (c s) d h = c' at *
  clear her hp
  go_enter Tryz.func17, Tryz.ntmps17
  go_wp2
  rw [← hwb, ← hY]
  clear hwb hY
  have a1 := Kq.blk_cell HB0.out.bx 1
  simp only [CaV.cells] at a1
  have x1 := HB0.out.tw.cell s HSO.out.1
  have x2 := HB0.out.tw.cell o HSO.out.2.1
  go_quiet ((first | (go_at_call 20; exact HSD.out _ _)))
  generalize hwq : wb.drewN nq = wq
  have HB1 : Hid (DoS Y w O O X c ⟨0, id, h, d, f, q, t, pd, false⟩ B P M wq) := Lib.hid (by rw [← hwq]; exact HB0.out.below (below_drewN (Below.refl _ _) nq))
  have HLD : Hid (LaidOk wq) := Lib.hid (HOK.out.2.2.2.2.1.keeps HB1.out.kp (fun e => HOK.out.2.2.2.2.2.1.1 e.1) (fun e => HOK.out.2.2.2.2.2.1.2 e.1))
  clear hwq HB0 a1 x1 x2 HSD hw1 i1 i2 nq
  have a0 := Kq.blk_cell HB1.out.bx 0
  have a2 := Kq.blk_cell HB1.out.bx 2
  have a3 := Kq.blk_cell HB1.out.bx 3
  have a4 := Kq.blk_cell HB1.out.bx 4
  have a5 := Kq.blk_cell HB1.out.bx 5
  have a6 := Kq.blk_cell HB1.out.bx 6
  have a7 := Kq.blk_cell HB1.out.bx 7
  have a8 := Kq.blk_cell HB1.out.bx 8
  simp only [CaV.cells] at a0 a2 a3 a4 a5 a6 a7 a8
  go_wp2_with fail
  refine (HSE.out wq (HB1.out.tw.ch s HSO.out.1) HLD.out).mono ?_
  rintro x w2 hst
  have hx := hst.1
  subst hx
  have hb := Kq.below_alloc w2 (.cells #[.int .i64 pf, .int .u64 pq, .int .u64 pt, .string ppd] 46)
  have HB2 := Lib.hid ((HB1.out.step HSO.out.1 hst).below hb)
  clear hst hb HB1 HLD a0 a2 a3 a4 a5 a6 a7 a8
  have r0 := Kq.blk_cell HB2.out.rs 0
  have r1 := Kq.blk_cell HB2.out.rs 1
  have r2 := Kq.blk_cell HB2.out.rs 2
  have r3 := Kq.blk_cell HB2.out.rs 3
  have g0 := Kq.blk_free HB2.out.rs 0
  have g1 := Kq.blk_free HB2.out.rs 1
  have g2 := Kq.blk_free HB2.out.rs 2
  have g3 := Kq.blk_free HB2.out.rs 3
  go_wp2
  obtain ⟨q1, q2, q3⟩ := HB2.out.fill pf pq pt ppd
  change bodyPost _ _ _ _ _ (fillW (w2.alloc (.cells #[.int .i64 pf, .int .u64 pq, .int .u64 pt, .string ppd] 46)) (Y + 1) pf pq pt ppd)
  have z0' := Kq.blk_cell q1 0
  have z1' := Kq.blk_cell q1 1
  have z2' := Kq.blk_cell q1 2
  have z3' := Kq.blk_cell q1 3
  generalize fillW (w2.alloc (.cells #[.int .i64 pf, .int .u64 pq, .int .u64 pt, .string ppd] 46)) (Y + 1) pf pq pt ppd = w9 at *
  refine bodyPost_ret (v := .tuple #[.agg #[.int .i64 pf, .int .u64 pq, .int .u64 pt, .string ppd], .int .u64 0, .int .i64 er]) (by simp [results, Tryz.results17, go_sem, z0', z1', z2', z3']) rfl ?_
  exact ⟨rfl, q2, q3⟩
end Go.Proofs.YtbjchfcoacmaaaaGreatDoor
namespace Go.Proofs.YtbjchfcoacmaaaaGreatDoor
open Go.RowKit
set_option linter.unusedVariables false
set_option maxRecDepth 100000 in
set_option maxHeartbeats 1000000 in
theorem do_k1ty {w : World} {O : Nat → Prop} {X : Nat} {c : Nat → ChV} {m : Nat} (id : Int) (h q t : Nat) (d pd : ByteArray) (f : Int) (hre0 : ∀ o, o = CaV.o ⟨1, id, h, d, f, q, t, pd, true⟩ → (rootV (c o).st h).2 = 0) (hT : TwP w O X c) (hk : TwK m c) (hm : m ≤ 400) (ha : CaOk ⟨1, id, h, d, f, q, t, pd, true⟩) (hL : LaidOk w) (hO : ¬ O 1 ∧ ¬ O 0) : Calls Tryz.prog 17 #[.pointer (some ⟨X, 0, none⟩), .agg #[.int .i64 1, .int .i64 id, .int .u64 (h : Int), .string d, .int .i64 f, .int .u64 (q : Int), .int .u64 (t : Int), .string pd, .bool true]] w (StepT w O X (.tuple #[(doP c ⟨1, id, h, d, f, q, t, pd, true⟩).val, .int .u64 (doH c ⟨1, id, h, d, f, q, t, pd, true⟩ : Int), .int .i64 (doE c ⟨1, id, h, d, f, q, t, pd, true⟩)]) (doV c ⟨1, id, h, d, f, q, t, pd, true⟩)) := by
  obtain ⟨B, P, M, hT⟩ := hT
  obtain ⟨s, hs⟩ : ∃ s, s = sideN id := ⟨_, rfl⟩
  obtain ⟨o, ho⟩ : ∃ o, o = 1 - s := ⟨_, rfl⟩
  have hs2 : s < 2 := by rw [hs]; exact sideN_lt id
  obtain ⟨Y, hY⟩ : ∃ Y, Y = w.heap.size := ⟨_, rfl⟩
  obtain ⟨wb, hwb⟩ : ∃ z, z = (w.alloc (.cells #[.int .i64 1, .int .i64 id, .int .u64 (h : Int), .string d, .int .i64 f, .int .u64 (q : Int), .int .u64 (t : Int), .string pd, .bool true] 50)).alloc (.cells #[.int .i64 0, .int .u64 0, .int .u64 0, .string ⟨#[]⟩] 46) := ⟨_, rfl⟩
  have HB0 : Hid (DoS Y w O O X c ⟨1, id, h, d, f, q, t, pd, true⟩ B P M wb) := Lib.hid (by rw [hwb, hY]; exact DoS.start hT ⟨1, id, h, d, f, q, t, pd, true⟩)
  have HSD := Lib.hid (fun (z : World) (n : Nat) => Calls.quiet_of_same (side_one id (z.drewN n)))
  rw [← hs] at HSD
  have hw1 : IntKind.i64.wrap (1 - (s : Int)) = (o : Int) := by rw [IntWalk.i64_in _ (by omega)]; omega
  have i1 : (s : Int) < 2 := by omega
  have i2 : (o : Int) < 2 := by omega
  have HSO : Hid (s < 2 ∧ o < 2 ∧ CaV.s ⟨1, id, h, d, f, q, t, pd, true⟩ = s ∧ CaV.o ⟨1, id, h, d, f, q, t, pd, true⟩ = o) := Lib.hid ⟨hs2, by omega, hs.symm, by show 1 - sideN id = o; rw [ho, hs]⟩
  have HOK := Lib.hid (And.intro (hk s hs2) (And.intro (hk o (by omega)) (And.intro hm (And.intro ha (And.intro hL (And.intro hO (CaV.pr_size hk hm ha)))))))
  have HYW := Lib.hid hY
  clear hT hk hm ha hL hO hs ho hs2
  have e0 := HSO.out.2.2.1
  have e1 := HSO.out.2.2.2
  obtain ⟨re, hre⟩ : ∃ re, re = (rootV (c o).st h).2 := ⟨_, rfl⟩
  obtain ⟨rt, hrt⟩ : ∃ rt, rt = (rootV (c o).st h).1 := ⟨_, rfl⟩
  have hrz : (rootV (c o).st h).2 = 0 := hre0 o e1.symm
  have v1 : doV c ⟨1, id, h, d, f, q, t, pd, true⟩ = updF c s (updC (c s) h rt) := by unfold doV doC; rw [e0, e1, if_neg (by simp), if_pos rfl, if_pos hrz, ← hrt]
  have v2 : doP c ⟨1, id, h, d, f, q, t, pd, true⟩ = zeroPk := by unfold doP; rw [if_neg (by simp)]
  have v3 : doH c ⟨1, id, h, d, f, q, t, pd, true⟩ = 0 := rfl
  have v4 : doE c ⟨1, id, h, d, f, q, t, pd, true⟩ = (setF h rt (c s).hs (c s).f).2.2 := by unfold doE; rw [e0, e1, if_neg (by simp), if_pos rfl, if_pos hrz, ← hrt]
  rw [v1, v2, v3, v4]
  have HRT := Lib.hid (fun z hc hL => cn_root (w := z) (O := P o) (B := B o) h hc HOK.out.2.1.ok HOK.out.2.2.2.1.h hL)
  rw [← hre, ← hrt] at HRT
  have hsz : rt.size ≤ 32 := by rw [hrt]; exact rootV_size _ _
  have HUP := Lib.hid (fun z hc => cn_update (w := z) (O := P s) (B := B s) h rt hc HOK.out.1.ok HOK.out.2.2.2.1.h (by unfold maxLen; omega))
  obtain ⟨er, her⟩ : ∃ er, er = (setF h rt (c s).hs (c s).f).2.2 := ⟨_, rfl⟩
  rw [← her] at HUP ⊢
  generalize updC (c s) h rt = c' at *
  obtain rfl : re = 0 := hre.trans hrz
  have HZ : Hid (zeroPk.val = .agg #[.int .i64 0, .int .u64 0, .int .u64 0, .string ⟨#[]⟩]) := Lib.hid rfl
  rw [HZ.out]
  clear v1 v2 v3 v4 e0 e1 hre hrt hrz hsz her HZ
  go_enter Tryz.func17, Tryz.ntmps17
  go_wp2
  rw [← hwb, ← hY]
  clear hwb hY
  have a1 := Kq.blk_cell HB0.out.bx 1
  simp only [CaV.cells] at a1
  have x1 := HB0.out.tw.cell s HSO.out.1
  have x2 := HB0.out.tw.cell o HSO.out.2.1
  go_quiet ((first | (go_at_call 20; exact HSD.out _ _)))
  generalize hwq : wb.drewN nq = wq
  have HB1 : Hid (DoS Y w O O X c ⟨1, id, h, d, f, q, t, pd, true⟩ B P M wq) := Lib.hid (by rw [← hwq]; exact HB0.out.below (below_drewN (Below.refl _ _) nq))
  have HLD : Hid (LaidOk wq) := Lib.hid (HOK.out.2.2.2.2.1.keeps HB1.out.kp (fun e => HOK.out.2.2.2.2.2.1.1 e.1) (fun e => HOK.out.2.2.2.2.2.1.2 e.1))
  clear hwq HB0 a1 x1 x2 HSD hw1 i1 i2 nq
  have a0 := Kq.blk_cell HB1.out.bx 0
  have a2 := Kq.blk_cell HB1.out.bx 2
  have a3 := Kq.blk_cell HB1.out.bx 3
  have a4 := Kq.blk_cell HB1.out.bx 4
  have a5 := Kq.blk_cell HB1.out.bx 5
  have a6 := Kq.blk_cell HB1.out.bx 6
  have a7 := Kq.blk_cell HB1.out.bx 7
  have a8 := Kq.blk_cell HB1.out.bx 8
  simp only [CaV.cells] at a0 a2 a3 a4 a5 a6 a7 a8
  go_wp2_with fail
  refine (HRT.out wq (HB1.out.tw.ch o HSO.out.2.1) HLD.out).mono ?_
  rintro x w2 ⟨rfl, b2⟩
  have HB2 := Lib.hid (HB1.out.below b2)
  clear b2 HB1 HLD a0 a2 a3 a4 a5 a6 a7 a8
  have a2 := Kq.blk_cell HB2.out.bx 2
  simp only [CaV.cells] at a2
  go_wp2_with fail
  refine (HUP.out w2 (HB2.out.tw.ch s HSO.out.1)).mono ?_
  rintro x w3 hst
  have hx := hst.1
  subst hx
  have HB3 := Lib.hid (HB2.out.step HSO.out.1 hst)
  clear hst HB2 a2
  have r0 := Kq.blk_cell HB3.out.rs 0
  have r1 := Kq.blk_cell HB3.out.rs 1
  have r2 := Kq.blk_cell HB3.out.rs 2
  have r3 := Kq.blk_cell HB3.out.rs 3
  have g0 := Kq.blk_free HB3.out.rs 0
  have g1 := Kq.blk_free HB3.out.rs 1
  have g2 := Kq.blk_free HB3.out.rs 2
  have g3 := Kq.blk_free HB3.out.rs 3
  go_wp2
  obtain ⟨q1, q2, q3⟩ := HB3.out.fill 0 0 0 ⟨#[]⟩
  change bodyPost _ _ _ _ _ (fillW w3 (Y + 1) 0 0 0 ⟨#[]⟩)
  have z0' := Kq.blk_cell q1 0
  have z1' := Kq.blk_cell q1 1
  have z2' := Kq.blk_cell q1 2
  have z3' := Kq.blk_cell q1 3
  generalize fillW w3 (Y + 1) 0 0 0 ⟨#[]⟩ = w9 at *
  refine bodyPost_ret (v := .tuple #[.agg #[.int .i64 0, .int .u64 0, .int .u64 0, .string ⟨#[]⟩], .int .u64 0, .int .i64 er]) (by simp [results, Tryz.results17, go_sem, z0', z1', z2', z3']) rfl ?_
  exact ⟨rfl, q2, q3⟩
set_option maxRecDepth 100000 in
set_option maxHeartbeats 1000000 in
theorem do_k1tn {w : World} {O : Nat → Prop} {X : Nat} {c : Nat → ChV} {m : Nat} (id : Int) (h q t : Nat) (d pd : ByteArray) (f : Int) (hre0 : ∀ o, o = CaV.o ⟨1, id, h, d, f, q, t, pd, true⟩ → (rootV (c o).st h).2 ≠ 0) (hT : TwP w O X c) (hk : TwK m c) (hm : m ≤ 400) (ha : CaOk ⟨1, id, h, d, f, q, t, pd, true⟩) (hL : LaidOk w) (hO : ¬ O 1 ∧ ¬ O 0) : Calls Tryz.prog 17 #[.pointer (some ⟨X, 0, none⟩), .agg #[.int .i64 1, .int .i64 id, .int .u64 (h : Int), .string d, .int .i64 f, .int .u64 (q : Int), .int .u64 (t : Int), .string pd, .bool true]] w (StepT w O X (.tuple #[(doP c ⟨1, id, h, d, f, q, t, pd, true⟩).val, .int .u64 (doH c ⟨1, id, h, d, f, q, t, pd, true⟩ : Int), .int .i64 (doE c ⟨1, id, h, d, f, q, t, pd, true⟩)]) (doV c ⟨1, id, h, d, f, q, t, pd, true⟩)) := by
  obtain ⟨B, P, M, hT⟩ := hT
  obtain ⟨s, hs⟩ : ∃ s, s = sideN id := ⟨_, rfl⟩
  obtain ⟨o, ho⟩ : ∃ o, o = 1 - s := ⟨_, rfl⟩
  have hs2 : s < 2 := by rw [hs]; exact sideN_lt id
  obtain ⟨Y, hY⟩ : ∃ Y, Y = w.heap.size := ⟨_, rfl⟩
  obtain ⟨wb, hwb⟩ : ∃ z, z = (w.alloc (.cells #[.int .i64 1, .int .i64 id, .int .u64 (h : Int), .string d, .int .i64 f, .int .u64 (q : Int), .int .u64 (t : Int), .string pd, .bool true] 50)).alloc (.cells #[.int .i64 0, .int .u64 0, .int .u64 0, .string ⟨#[]⟩] 46) := ⟨_, rfl⟩
  have HB0 : Hid (DoS Y w O O X c ⟨1, id, h, d, f, q, t, pd, true⟩ B P M wb) := Lib.hid (by rw [hwb, hY]; exact DoS.start hT ⟨1, id, h, d, f, q, t, pd, true⟩)
  have HSD := Lib.hid (fun (z : World) (n : Nat) => Calls.quiet_of_same (side_one id (z.drewN n)))
  rw [← hs] at HSD
  have hw1 : IntKind.i64.wrap (1 - (s : Int)) = (o : Int) := by rw [IntWalk.i64_in _ (by omega)]; omega
  have i1 : (s : Int) < 2 := by omega
  have i2 : (o : Int) < 2 := by omega
  have HSO : Hid (s < 2 ∧ o < 2 ∧ CaV.s ⟨1, id, h, d, f, q, t, pd, true⟩ = s ∧ CaV.o ⟨1, id, h, d, f, q, t, pd, true⟩ = o) := Lib.hid ⟨hs2, by omega, hs.symm, by show 1 - sideN id = o; rw [ho, hs]⟩
  have HOK := Lib.hid (And.intro (hk s hs2) (And.intro (hk o (by omega)) (And.intro hm (And.intro ha (And.intro hL (And.intro hO (CaV.pr_size hk hm ha)))))))
  have HYW := Lib.hid hY
  clear hT hk hm ha hL hO hs ho hs2
  have e0 := HSO.out.2.2.1
  have e1 := HSO.out.2.2.2
  obtain ⟨re, hre⟩ : ∃ re, re = (rootV (c o).st h).2 := ⟨_, rfl⟩
  obtain ⟨rt, hrt⟩ : ∃ rt, rt = (rootV (c o).st h).1 := ⟨_, rfl⟩
  have hrz : (rootV (c o).st h).2 ≠ 0 := hre0 o e1.symm
  have v1 : doV c ⟨1, id, h, d, f, q, t, pd, true⟩ = updF c s (c s) := by unfold doV doC; rw [e0, e1, if_neg (by simp), if_pos rfl, if_neg hrz]
  have v2 : doP c ⟨1, id, h, d, f, q, t, pd, true⟩ = zeroPk := by unfold doP; rw [if_neg (by simp)]
  have v3 : doH c ⟨1, id, h, d, f, q, t, pd, true⟩ = 0 := rfl
  have v4 : doE c ⟨1, id, h, d, f, q, t, pd, true⟩ = re := by unfold doE; rw [e0, e1, if_neg (by simp), if_pos rfl, if_neg hrz, ← hre]
  rw [v1, v2, v3, v4]
  have HRT := Lib.hid (fun z hc hL => cn_root (w := z) (O := P o) (B := B o) h hc HOK.out.2.1.ok HOK.out.2.2.2.1.h hL)
  rw [← hre, ← hrt] at HRT
  have hsz : rt.size ≤ 32 := by rw [hrt]; exact rootV_size _ _
  have rz : (re != 0) = true := by rw [bne_iff_ne, hre]; exact hrz
  have HZ : Hid (zeroPk.val = .agg #[.int .i64 0, .int .u64 0, .int .u64 0, .string ⟨#[]⟩]) := Lib.hid rfl
  rw [HZ.out, updF_same]
  clear v1 v2 v3 v4 e0 e1 hre hrt hrz hsz HZ
  go_enter Tryz.func17, Tryz.ntmps17
  go_wp2
  rw [← hwb, ← hY]
  clear hwb hY
  have a1 := Kq.blk_cell HB0.out.bx 1
  simp only [CaV.cells] at a1
  have x1 := HB0.out.tw.cell s HSO.out.1
  have x2 := HB0.out.tw.cell o HSO.out.2.1
  go_quiet ((first | (go_at_call 20; exact HSD.out _ _)))
  generalize hwq : wb.drewN nq = wq
  have HB1 : Hid (DoS Y w O O X c ⟨1, id, h, d, f, q, t, pd, true⟩ B P M wq) := Lib.hid (by rw [← hwq]; exact HB0.out.below (below_drewN (Below.refl _ _) nq))
  have HLD : Hid (LaidOk wq) := Lib.hid (HOK.out.2.2.2.2.1.keeps HB1.out.kp (fun e => HOK.out.2.2.2.2.2.1.1 e.1) (fun e => HOK.out.2.2.2.2.2.1.2 e.1))
  clear hwq HB0 a1 x1 x2 HSD hw1 i1 i2 nq
  have a0 := Kq.blk_cell HB1.out.bx 0
  have a2 := Kq.blk_cell HB1.out.bx 2
  have a3 := Kq.blk_cell HB1.out.bx 3
  have a4 := Kq.blk_cell HB1.out.bx 4
  have a5 := Kq.blk_cell HB1.out.bx 5
  have a6 := Kq.blk_cell HB1.out.bx 6
  have a7 := Kq.blk_cell HB1.out.bx 7
  have a8 := Kq.blk_cell HB1.out.bx 8
  simp only [CaV.cells] at a0 a2 a3 a4 a5 a6 a7 a8
  go_wp2_with fail
  refine (HRT.out wq (HB1.out.tw.ch o HSO.out.2.1) HLD.out).mono ?_
  rintro x w2 ⟨rfl, b2⟩
  have HB2 := Lib.hid (HB1.out.below b2)
  clear b2 HB1 HLD a0 a2 a3 a4 a5 a6 a7 a8
  have r0 := Kq.blk_cell HB2.out.rs 0
  have r1 := Kq.blk_cell HB2.out.rs 1
  have r2 := Kq.blk_cell HB2.out.rs 2
  have r3 := Kq.blk_cell HB2.out.rs 3
  have g0 := Kq.blk_free HB2.out.rs 0
  have g1 := Kq.blk_free HB2.out.rs 1
  have g2 := Kq.blk_free HB2.out.rs 2
  have g3 := Kq.blk_free HB2.out.rs 3
  go_wp2
  obtain ⟨q1, q2, q3⟩ := HB2.out.fill 0 0 0 ⟨#[]⟩
  change bodyPost _ _ _ _ _ (fillW w2 (Y + 1) 0 0 0 ⟨#[]⟩)
  have z0' := Kq.blk_cell q1 0
  have z1' := Kq.blk_cell q1 1
  have z2' := Kq.blk_cell q1 2
  have z3' := Kq.blk_cell q1 3
  generalize fillW w2 (Y + 1) 0 0 0 ⟨#[]⟩ = w9 at *
  refine bodyPost_ret (v := .tuple #[.agg #[.int .i64 0, .int .u64 0, .int .u64 0, .string ⟨#[]⟩], .int .u64 0, .int .i64 re]) (by simp [results, Tryz.results17, go_sem, z0', z1', z2', z3']) rfl ?_
  exact ⟨rfl, q2, q3⟩
set_option maxRecDepth 100000 in
set_option maxHeartbeats 1000000 in
theorem do_k1fy {w : World} {O : Nat → Prop} {X : Nat} {c : Nat → ChV} {m : Nat} (id : Int) (h q t : Nat) (d pd : ByteArray) (f : Int) (hre0 : ∀ o, o = CaV.o ⟨1, id, h, d, f, q, t, pd, false⟩ → (rootV (c o).st h).2 = 0) (hT : TwP w O X c) (hk : TwK m c) (hm : m ≤ 400) (ha : CaOk ⟨1, id, h, d, f, q, t, pd, false⟩) (hL : LaidOk w) (hO : ¬ O 1 ∧ ¬ O 0) : Calls Tryz.prog 17 #[.pointer (some ⟨X, 0, none⟩), .agg #[.int .i64 1, .int .i64 id, .int .u64 (h : Int), .string d, .int .i64 f, .int .u64 (q : Int), .int .u64 (t : Int), .string pd, .bool false]] w (StepT w O X (.tuple #[(doP c ⟨1, id, h, d, f, q, t, pd, false⟩).val, .int .u64 (doH c ⟨1, id, h, d, f, q, t, pd, false⟩ : Int), .int .i64 (doE c ⟨1, id, h, d, f, q, t, pd, false⟩)]) (doV c ⟨1, id, h, d, f, q, t, pd, false⟩)) := by
  obtain ⟨B, P, M, hT⟩ := hT
  obtain ⟨s, hs⟩ : ∃ s, s = sideN id := ⟨_, rfl⟩
  obtain ⟨o, ho⟩ : ∃ o, o = 1 - s := ⟨_, rfl⟩
  have hs2 : s < 2 := by rw [hs]; exact sideN_lt id
  obtain ⟨Y, hY⟩ : ∃ Y, Y = w.heap.size := ⟨_, rfl⟩
  obtain ⟨wb, hwb⟩ : ∃ z, z = (w.alloc (.cells #[.int .i64 1, .int .i64 id, .int .u64 (h : Int), .string d, .int .i64 f, .int .u64 (q : Int), .int .u64 (t : Int), .string pd, .bool false] 50)).alloc (.cells #[.int .i64 0, .int .u64 0, .int .u64 0, .string ⟨#[]⟩] 46) := ⟨_, rfl⟩
  have HB0 : Hid (DoS Y w O O X c ⟨1, id, h, d, f, q, t, pd, false⟩ B P M wb) := Lib.hid (by rw [hwb, hY]; exact DoS.start hT ⟨1, id, h, d, f, q, t, pd, false⟩)
  have HSD := Lib.hid (fun (z : World) (n : Nat) => Calls.quiet_of_same (side_one id (z.drewN n)))
  rw [← hs] at HSD
  have hw1 : IntKind.i64.wrap (1 - (s : Int)) = (o : Int) := by rw [IntWalk.i64_in _ (by omega)]; omega
  have i1 : (s : Int) < 2 := by omega
  have i2 : (o : Int) < 2 := by omega
  have HSO : Hid (s < 2 ∧ o < 2 ∧ CaV.s ⟨1, id, h, d, f, q, t, pd, false⟩ = s ∧ CaV.o ⟨1, id, h, d, f, q, t, pd, false⟩ = o) := Lib.hid ⟨hs2, by omega, hs.symm, by show 1 - sideN id = o; rw [ho, hs]⟩
  have HOK := Lib.hid (And.intro (hk s hs2) (And.intro (hk o (by omega)) (And.intro hm (And.intro ha (And.intro hL (And.intro hO (CaV.pr_size hk hm ha)))))))
  have HYW := Lib.hid hY
  clear hT hk hm ha hL hO hs ho hs2
  have e0 := HSO.out.2.2.1
  have e1 := HSO.out.2.2.2
  obtain ⟨re, hre⟩ : ∃ re, re = (rootV (c o).st h).2 := ⟨_, rfl⟩
  obtain ⟨rt, hrt⟩ : ∃ rt, rt = (rootV (c o).st h).1 := ⟨_, rfl⟩
  have hrz : (rootV (c o).st h).2 = 0 := hre0 o e1.symm
  have v1 : doV c ⟨1, id, h, d, f, q, t, pd, false⟩ = updF c s (updC (c s) h rt) := by unfold doV doC; rw [e0, e1, if_neg (by simp), if_pos rfl, if_pos hrz, ← hrt]
  have v2 : doP c ⟨1, id, h, d, f, q, t, pd, false⟩ = zeroPk := by unfold doP; rw [if_neg (by simp)]
  have v3 : doH c ⟨1, id, h, d, f, q, t, pd, false⟩ = 0 := rfl
  have v4 : doE c ⟨1, id, h, d, f, q, t, pd, false⟩ = (setF h rt (c s).hs (c s).f).2.2 := by unfold doE; rw [e0, e1, if_neg (by simp), if_pos rfl, if_pos hrz, ← hrt]
  rw [v1, v2, v3, v4]
  have HRT := Lib.hid (fun z hc hL => cn_root (w := z) (O := P o) (B := B o) h hc HOK.out.2.1.ok HOK.out.2.2.2.1.h hL)
  rw [← hre, ← hrt] at HRT
  have hsz : rt.size ≤ 32 := by rw [hrt]; exact rootV_size _ _
  have HUP := Lib.hid (fun z hc => cn_update (w := z) (O := P s) (B := B s) h rt hc HOK.out.1.ok HOK.out.2.2.2.1.h (by unfold maxLen; omega))
  obtain ⟨er, her⟩ : ∃ er, er = (setF h rt (c s).hs (c s).f).2.2 := ⟨_, rfl⟩
  rw [← her] at HUP ⊢
  generalize updC (c s) h rt = c' at *
  obtain rfl : re = 0 := hre.trans hrz
  have HZ : Hid (zeroPk.val = .agg #[.int .i64 0, .int .u64 0, .int .u64 0, .string ⟨#[]⟩]) := Lib.hid rfl
  rw [HZ.out]
  clear v1 v2 v3 v4 e0 e1 hre hrt hrz hsz her HZ
  go_enter Tryz.func17, Tryz.ntmps17
  go_wp2
  rw [← hwb, ← hY]
  clear hwb hY
  have a1 := Kq.blk_cell HB0.out.bx 1
  simp only [CaV.cells] at a1
  have x1 := HB0.out.tw.cell s HSO.out.1
  have x2 := HB0.out.tw.cell o HSO.out.2.1
  go_quiet ((first | (go_at_call 20; exact HSD.out _ _)))
  generalize hwq : wb.drewN nq = wq
  have HB1 : Hid (DoS Y w O O X c ⟨1, id, h, d, f, q, t, pd, false⟩ B P M wq) := Lib.hid (by rw [← hwq]; exact HB0.out.below (below_drewN (Below.refl _ _) nq))
  have HLD : Hid (LaidOk wq) := Lib.hid (HOK.out.2.2.2.2.1.keeps HB1.out.kp (fun e => HOK.out.2.2.2.2.2.1.1 e.1) (fun e => HOK.out.2.2.2.2.2.1.2 e.1))
  clear hwq HB0 a1 x1 x2 HSD hw1 i1 i2 nq
  have a0 := Kq.blk_cell HB1.out.bx 0
  have a2 := Kq.blk_cell HB1.out.bx 2
  have a3 := Kq.blk_cell HB1.out.bx 3
  have a4 := Kq.blk_cell HB1.out.bx 4
  have a5 := Kq.blk_cell HB1.out.bx 5
  have a6 := Kq.blk_cell HB1.out.bx 6
  have a7 := Kq.blk_cell HB1.out.bx 7
  have a8 := Kq.blk_cell HB1.out.bx 8
  simp only [CaV.cells] at a0 a2 a3 a4 a5 a6 a7 a8
  go_wp2_with fail
  refine (HRT.out wq (HB1.out.tw.ch o HSO.out.2.1) HLD.out).mono ?_
  rintro x w2 ⟨rfl, b2⟩
  have HB2 := Lib.hid (HB1.out.below b2)
  clear b2 HB1 HLD a0 a2 a3 a4 a5 a6 a7 a8
  have a2 := Kq.blk_cell HB2.out.bx 2
  simp only [CaV.cells] at a2
  go_wp2_with fail
  refine (HUP.out w2 (HB2.out.tw.ch s HSO.out.1)).mono ?_
  rintro x w3 hst
  have hx := hst.1
  subst hx
  have HB3 := Lib.hid (HB2.out.step HSO.out.1 hst)
  clear hst HB2 a2
  have r0 := Kq.blk_cell HB3.out.rs 0
  have r1 := Kq.blk_cell HB3.out.rs 1
  have r2 := Kq.blk_cell HB3.out.rs 2
  have r3 := Kq.blk_cell HB3.out.rs 3
  have g0 := Kq.blk_free HB3.out.rs 0
  have g1 := Kq.blk_free HB3.out.rs 1
  have g2 := Kq.blk_free HB3.out.rs 2
  have g3 := Kq.blk_free HB3.out.rs 3
  go_wp2
  obtain ⟨q1, q2, q3⟩ := HB3.out.fill 0 0 0 ⟨#[]⟩
  change bodyPost _ _ _ _ _ (fillW w3 (Y + 1) 0 0 0 ⟨#[]⟩)
  have z0' := Kq.blk_cell q1 0
  have z1' := Kq.blk_cell q1 1
  have z2' := Kq.blk_cell q1 2
  have z3' := Kq.blk_cell q1 3
  generalize fillW w3 (Y + 1) 0 0 0 ⟨#[]⟩ = w9 at *
  refine bodyPost_ret (v := .tuple #[.agg #[.int .i64 0, .int .u64 0, .int .u64 0, .string ⟨#[]⟩], .int .u64 0, .int .i64 er]) (by simp [results, Tryz.results17, go_sem, z0', z1', z2', z3']) rfl ?_
  exact ⟨rfl, q2, q3⟩
set_option maxRecDepth 100000 in
set_option maxHeartbeats 1000000 in
theorem do_k1fn {w : World} {O : Nat → Prop} {X : Nat} {c : Nat → ChV} {m : Nat} (id : Int) (h q t : Nat) (d pd : ByteArray) (f : Int) (hre0 : ∀ o, o = CaV.o ⟨1, id, h, d, f, q, t, pd, false⟩ → (rootV (c o).st h).2 ≠ 0) (hT : TwP w O X c) (hk : TwK m c) (hm : m ≤ 400) (ha : CaOk ⟨1, id, h, d, f, q, t, pd, false⟩) (hL : LaidOk w) (hO : ¬ O 1 ∧ ¬ O 0) : Calls Tryz.prog 17 #[.pointer (some ⟨X, 0, none⟩), .agg #[.int .i64 1, .int .i64 id, .int .u64 (h : Int), .string d, .int .i64 f, .int .u64 (q : Int), .int .u64 (t : Int), .string pd, .bool false]] w (StepT w O X (.tuple #[(doP c ⟨1, id, h, d, f, q, t, pd, false⟩).val, .int .u64 (doH c ⟨1, id, h, d, f, q, t, pd, false⟩ : Int), .int .i64 (doE c ⟨1, id, h, d, f, q, t, pd, false⟩)]) (doV c ⟨1, id, h, d, f, q, t, pd, false⟩)) := by
  obtain ⟨B, P, M, hT⟩ := hT
  obtain ⟨s, hs⟩ : ∃ s, s = sideN id := ⟨_, rfl⟩
  obtain ⟨o, ho⟩ : ∃ o, o = 1 - s := ⟨_, rfl⟩
  have hs2 : s < 2 := by rw [hs]; exact sideN_lt id
  obtain ⟨Y, hY⟩ : ∃ Y, Y = w.heap.size := ⟨_, rfl⟩
  obtain ⟨wb, hwb⟩ : ∃ z, z = (w.alloc (.cells #[.int .i64 1, .int .i64 id, .int .u64 (h : Int), .string d, .int .i64 f, .int .u64 (q : Int), .int .u64 (t : Int), .string pd, .bool false] 50)).alloc (.cells #[.int .i64 0, .int .u64 0, .int .u64 0, .string ⟨#[]⟩] 46) := ⟨_, rfl⟩
  have HB0 : Hid (DoS Y w O O X c ⟨1, id, h, d, f, q, t, pd, false⟩ B P M wb) := Lib.hid (by rw [hwb, hY]; exact DoS.start hT ⟨1, id, h, d, f, q, t, pd, false⟩)
  have HSD := Lib.hid (fun (z : World) (n : Nat) => Calls.quiet_of_same (side_one id (z.drewN n)))
  rw [← hs] at HSD
  have hw1 : IntKind.i64.wrap (1 - (s : Int)) = (o : Int) := by rw [IntWalk.i64_in _ (by omega)]; omega
  have i1 : (s : Int) < 2 := by omega
  have i2 : (o : Int) < 2 := by omega
  have HSO : Hid (s < 2 ∧ o < 2 ∧ CaV.s ⟨1, id, h, d, f, q, t, pd, false⟩ = s ∧ CaV.o ⟨1, id, h, d, f, q, t, pd, false⟩ = o) := Lib.hid ⟨hs2, by omega, hs.symm, by show 1 - sideN id = o; rw [ho, hs]⟩
  have HOK := Lib.hid (And.intro (hk s hs2) (And.intro (hk o (by omega)) (And.intro hm (And.intro ha (And.intro hL (And.intro hO (CaV.pr_size hk hm ha)))))))
  have HYW := Lib.hid hY
  clear hT hk hm ha hL hO hs ho hs2
  have e0 := HSO.out.2.2.1
  have e1 := HSO.out.2.2.2
  obtain ⟨re, hre⟩ : ∃ re, re = (rootV (c o).st h).2 := ⟨_, rfl⟩
  obtain ⟨rt, hrt⟩ : ∃ rt, rt = (rootV (c o).st h).1 := ⟨_, rfl⟩
  have hrz : (rootV (c o).st h).2 ≠ 0 := hre0 o e1.symm
  have v1 : doV c ⟨1, id, h, d, f, q, t, pd, false⟩ = updF c s (c s) := by unfold doV doC; rw [e0, e1, if_neg (by simp), if_pos rfl, if_neg hrz]
  have v2 : doP c ⟨1, id, h, d, f, q, t, pd, false⟩ = zeroPk := by unfold doP; rw [if_neg (by simp)]
  have v3 : doH c ⟨1, id, h, d, f, q, t, pd, false⟩ = 0 := rfl
  have v4 : doE c ⟨1, id, h, d, f, q, t, pd, false⟩ = re := by unfold doE; rw [e0, e1, if_neg (by simp), if_pos rfl, if_neg hrz, ← hre]
  rw [v1, v2, v3, v4]
  have HRT := Lib.hid (fun z hc hL => cn_root (w := z) (O := P o) (B := B o) h hc HOK.out.2.1.ok HOK.out.2.2.2.1.h hL)
  rw [← hre, ← hrt] at HRT
  have hsz : rt.size ≤ 32 := by rw [hrt]; exact rootV_size _ _
  have rz : (re != 0) = true := by rw [bne_iff_ne, hre]; exact hrz
  have HZ : Hid (zeroPk.val = .agg #[.int .i64 0, .int .u64 0, .int .u64 0, .string ⟨#[]⟩]) := Lib.hid rfl
  rw [HZ.out, updF_same]
  clear v1 v2 v3 v4 e0 e1 hre hrt hrz hsz HZ
  go_enter Tryz.func17, Tryz.ntmps17
  go_wp2
  rw [← hwb, ← hY]
  clear hwb hY
  have a1 := Kq.blk_cell HB0.out.bx 1
  simp only [CaV.cells] at a1
  have x1 := HB0.out.tw.cell s HSO.out.1
  have x2 := HB0.out.tw.cell o HSO.out.2.1
  go_quiet ((first | (go_at_call 20; exact HSD.out _ _)))
  generalize hwq : wb.drewN nq = wq
  have HB1 : Hid (DoS Y w O O X c ⟨1, id, h, d, f, q, t, pd, false⟩ B P M wq) := Lib.hid (by rw [← hwq]; exact HB0.out.below (below_drewN (Below.refl _ _) nq))
  have HLD : Hid (LaidOk wq) := Lib.hid (HOK.out.2.2.2.2.1.keeps HB1.out.kp (fun e => HOK.out.2.2.2.2.2.1.1 e.1) (fun e => HOK.out.2.2.2.2.2.1.2 e.1))
  clear hwq HB0 a1 x1 x2 HSD hw1 i1 i2 nq
  have a0 := Kq.blk_cell HB1.out.bx 0
  have a2 := Kq.blk_cell HB1.out.bx 2
  have a3 := Kq.blk_cell HB1.out.bx 3
  have a4 := Kq.blk_cell HB1.out.bx 4
  have a5 := Kq.blk_cell HB1.out.bx 5
  have a6 := Kq.blk_cell HB1.out.bx 6
  have a7 := Kq.blk_cell HB1.out.bx 7
  have a8 := Kq.blk_cell HB1.out.bx 8
  simp only [CaV.cells] at a0 a2 a3 a4 a5 a6 a7 a8
  go_wp2_with fail
  refine (HRT.out wq (HB1.out.tw.ch o HSO.out.2.1) HLD.out).mono ?_
  rintro x w2 ⟨rfl, b2⟩
  have HB2 := Lib.hid (HB1.out.below b2)
  clear b2 HB1 HLD a0 a2 a3 a4 a5 a6 a7 a8
  have r0 := Kq.blk_cell HB2.out.rs 0
  have r1 := Kq.blk_cell HB2.out.rs 1
  have r2 := Kq.blk_cell HB2.out.rs 2
  have r3 := Kq.blk_cell HB2.out.rs 3
  have g0 := Kq.blk_free HB2.out.rs 0
  have g1 := Kq.blk_free HB2.out.rs 1
  have g2 := Kq.blk_free HB2.out.rs 2
  have g3 := Kq.blk_free HB2.out.rs 3
  go_wp2
  obtain ⟨q1, q2, q3⟩ := HB2.out.fill 0 0 0 ⟨#[]⟩
  change bodyPost _ _ _ _ _ (fillW w2 (Y + 1) 0 0 0 ⟨#[]⟩)
  have z0' := Kq.blk_cell q1 0
  have z1' := Kq.blk_cell q1 1
  have z2' := Kq.blk_cell q1 2
  have z3' := Kq.blk_cell q1 3
  generalize fillW w2 (Y + 1) 0 0 0 ⟨#[]⟩ = w9 at *
  refine bodyPost_ret (v := .tuple #[.agg #[.int .i64 0, .int .u64 0, .int .u64 0, .string ⟨#[]⟩], .int .u64 0, .int .i64 re]) (by simp [results, Tryz.results17, go_sem, z0', z1', z2', z3']) rfl ?_
  exact ⟨rfl, q2, q3⟩
end Go.Proofs.YtbjchfcoacmaaaaGreatDoor
namespace Go.Proofs.YtbjchfcoacmaaaaGreatDoor
open Go.RowKit
set_option linter.unusedVariables false
set_option maxRecDepth 100000 in
set_option maxHeartbeats 1000000 in
theorem do_k2t {w : World} {O : Nat → Prop} {X : Nat} {c : Nat → ChV} {m : Nat} (id : Int) (h q t : Nat) (d pd : ByteArray) (f : Int) (hT : TwP w O X c) (hk : TwK m c) (hm : m ≤ 400) (ha : CaOk ⟨2, id, h, d, f, q, t, pd, true⟩) (hL : LaidOk w) (hO : ¬ O 1 ∧ ¬ O 0) : Calls Tryz.prog 17 #[.pointer (some ⟨X, 0, none⟩), .agg #[.int .i64 2, .int .i64 id, .int .u64 (h : Int), .string d, .int .i64 f, .int .u64 (q : Int), .int .u64 (t : Int), .string pd, .bool true]] w (StepT w O X (.tuple #[(doP c ⟨2, id, h, d, f, q, t, pd, true⟩).val, .int .u64 (doH c ⟨2, id, h, d, f, q, t, pd, true⟩ : Int), .int .i64 (doE c ⟨2, id, h, d, f, q, t, pd, true⟩)]) (doV c ⟨2, id, h, d, f, q, t, pd, true⟩)) := by
  obtain ⟨B, P, M, hT⟩ := hT
  obtain ⟨s, hs⟩ : ∃ s, s = sideN id := ⟨_, rfl⟩
  obtain ⟨o, ho⟩ : ∃ o, o = 1 - s := ⟨_, rfl⟩
  have hs2 : s < 2 := by rw [hs]; exact sideN_lt id
  obtain ⟨Y, hY⟩ : ∃ Y, Y = w.heap.size := ⟨_, rfl⟩
  obtain ⟨wb, hwb⟩ : ∃ z, z = (w.alloc (.cells #[.int .i64 2, .int .i64 id, .int .u64 (h : Int), .string d, .int .i64 f, .int .u64 (q : Int), .int .u64 (t : Int), .string pd, .bool true] 50)).alloc (.cells #[.int .i64 0, .int .u64 0, .int .u64 0, .string ⟨#[]⟩] 46) := ⟨_, rfl⟩
  have HB0 : Hid (DoS Y w O O X c ⟨2, id, h, d, f, q, t, pd, true⟩ B P M wb) := Lib.hid (by rw [hwb, hY]; exact DoS.start hT ⟨2, id, h, d, f, q, t, pd, true⟩)
  have HSD := Lib.hid (fun (z : World) (n : Nat) => Calls.quiet_of_same (side_one id (z.drewN n)))
  rw [← hs] at HSD
  have hw1 : IntKind.i64.wrap (1 - (s : Int)) = (o : Int) := by rw [IntWalk.i64_in _ (by omega)]; omega
  have i1 : (s : Int) < 2 := by omega
  have i2 : (o : Int) < 2 := by omega
  have HSO : Hid (s < 2 ∧ o < 2 ∧ CaV.s ⟨2, id, h, d, f, q, t, pd, true⟩ = s ∧ CaV.o ⟨2, id, h, d, f, q, t, pd, true⟩ = o) := Lib.hid ⟨hs2, by omega, hs.symm, by show 1 - sideN id = o; rw [ho, hs]⟩
  have HOK := Lib.hid (And.intro (hk s hs2) (And.intro (hk o (by omega)) (And.intro hm (And.intro ha (And.intro hL (And.intro hO (CaV.pr_size hk hm ha)))))))
  have HYW := Lib.hid hY
  clear hT hk hm ha hL hO hs ho hs2
  have e0 := HSO.out.2.2.1
  have e1 := HSO.out.2.2.2
  obtain ⟨pr, hpr⟩ : ∃ pr, pr = CaV.pr ⟨2, id, h, d, f, q, t, pd, true⟩ c := ⟨_, rfl⟩
  have hprs : pr.size ≤ 2000 := by rw [hpr]; exact HOK.out.2.2.2.2.2.2
  have v1 : doV c ⟨2, id, h, d, f, q, t, pd, true⟩ = updF c s (recvC (c s) f q t pd pr h) := by unfold doV doC; rw [e0, if_neg (by simp), if_neg (by simp), if_pos rfl, hpr]
  have v2 : doP c ⟨2, id, h, d, f, q, t, pd, true⟩ = zeroPk := by unfold doP; rw [if_neg (by simp)]
  have v3 : doH c ⟨2, id, h, d, f, q, t, pd, true⟩ = 0 := rfl
  have v4 : doE c ⟨2, id, h, d, f, q, t, pd, true⟩ = firstE (recvE (c s) f q t pd pr h) := by unfold doE; rw [e0, if_neg (by simp), if_neg (by simp), if_pos rfl, hpr]
  rw [v1, v2, v3, v4]
  have HRV := Lib.hid (fun z hc hL h1 h2 => cn_recv (w := z) (O := P s) (B := B s) (c := c s) f q t pd pr h hc HOK.out.1.ok HOK.out.2.2.2.1.q HOK.out.2.2.2.1.t HOK.out.2.2.2.1.h (by have h1 : pd.size ≤ 300 := HOK.out.2.2.2.1.pd; unfold maxLen; omega) (by omega) hL ⟨h1, h2⟩)
  obtain ⟨er, her⟩ : ∃ er, er = firstE (recvE (c s) f q t pd pr h) := ⟨_, rfl⟩
  rw [← her] at HRV ⊢
  generalize recvC (c s) f q t pd pr h = c' at *
  have HZ : Hid (zeroPk.val = .agg #[.int .i64 0, .int .u64 0, .int .u64 0, .string ⟨#[]⟩]) := Lib.hid rfl
  rw [HZ.out]
  have HPR : Hid (pr = d) := Lib.hid (by rw [hpr]; rfl)
  rw [HPR.out] at HRV
  clear v1 v2 v3 v4 e0 e1 HZ hpr her hprs HPR
  have HPO : Hid (∀ k j, k < 2 → P k j → O j) := Lib.hid (fun k j hk hj => (HB0.out.tw.sub k j hk hj).1)
  go_enter Tryz.func17, Tryz.ntmps17
  go_wp2
  rw [← hwb, ← hY]
  clear hwb hY
  have a1 := Kq.blk_cell HB0.out.bx 1
  simp only [CaV.cells] at a1
  have x1 := HB0.out.tw.cell s HSO.out.1
  have x2 := HB0.out.tw.cell o HSO.out.2.1
  go_quiet ((first | (go_at_call 20; exact HSD.out _ _)))
  generalize hwq : wb.drewN nq = wq
  have HB1 : Hid (DoS Y w O O X c ⟨2, id, h, d, f, q, t, pd, true⟩ B P M wq) := Lib.hid (by rw [← hwq]; exact HB0.out.below (below_drewN (Below.refl _ _) nq))
  have HLD : Hid (LaidOk wq) := Lib.hid (HOK.out.2.2.2.2.1.keeps HB1.out.kp (fun e => HOK.out.2.2.2.2.2.1.1 e.1) (fun e => HOK.out.2.2.2.2.2.1.2 e.1))
  clear hwq HB0 a1 x1 x2 HSD hw1 i1 i2 nq
  have a0 := Kq.blk_cell HB1.out.bx 0
  have a2 := Kq.blk_cell HB1.out.bx 2
  have a3 := Kq.blk_cell HB1.out.bx 3
  have a4 := Kq.blk_cell HB1.out.bx 4
  have a5 := Kq.blk_cell HB1.out.bx 5
  have a6 := Kq.blk_cell HB1.out.bx 6
  have a7 := Kq.blk_cell HB1.out.bx 7
  have a8 := Kq.blk_cell HB1.out.bx 8
  simp only [CaV.cells] at a0 a2 a3 a4 a5 a6 a7 a8
  go_wp2_with fail
  refine (HRV.out wq (HB1.out.tw.ch s HSO.out.1) HLD.out (fun e => HOK.out.2.2.2.2.2.1.1 (HPO.out s _ HSO.out.1 e)) (fun e => HOK.out.2.2.2.2.2.1.2 (HPO.out s _ HSO.out.1 e))).mono ?_
  rintro x w2 hst
  have hx := hst.1
  subst hx
  have HB2 := Lib.hid (HB1.out.step HSO.out.1 hst)
  clear hst HB1 HLD a0 a2 a3 a4 a5 a6 a7 a8
  have r0 := Kq.blk_cell HB2.out.rs 0
  have r1 := Kq.blk_cell HB2.out.rs 1
  have r2 := Kq.blk_cell HB2.out.rs 2
  have r3 := Kq.blk_cell HB2.out.rs 3
  have g0 := Kq.blk_free HB2.out.rs 0
  have g1 := Kq.blk_free HB2.out.rs 1
  have g2 := Kq.blk_free HB2.out.rs 2
  have g3 := Kq.blk_free HB2.out.rs 3
  go_wp2
  obtain ⟨q1, q2, q3⟩ := HB2.out.fill 0 0 0 ⟨#[]⟩
  change bodyPost _ _ _ _ _ (fillW w2 (Y + 1) 0 0 0 ⟨#[]⟩)
  have z0' := Kq.blk_cell q1 0
  have z1' := Kq.blk_cell q1 1
  have z2' := Kq.blk_cell q1 2
  have z3' := Kq.blk_cell q1 3
  generalize fillW w2 (Y + 1) 0 0 0 ⟨#[]⟩ = w9 at *
  refine bodyPost_ret (v := .tuple #[.agg #[.int .i64 0, .int .u64 0, .int .u64 0, .string ⟨#[]⟩], .int .u64 0, .int .i64 er]) (by simp [results, Tryz.results17, go_sem, z0', z1', z2', z3']) rfl ?_
  exact ⟨rfl, q2, q3⟩
set_option maxRecDepth 100000 in
set_option maxHeartbeats 1000000 in
theorem do_k2f {w : World} {O : Nat → Prop} {X : Nat} {c : Nat → ChV} {m : Nat} (id : Int) (h q t : Nat) (d pd : ByteArray) (f : Int) (hT : TwP w O X c) (hk : TwK m c) (hm : m ≤ 400) (ha : CaOk ⟨2, id, h, d, f, q, t, pd, false⟩) (hL : LaidOk w) (hO : ¬ O 1 ∧ ¬ O 0) : Calls Tryz.prog 17 #[.pointer (some ⟨X, 0, none⟩), .agg #[.int .i64 2, .int .i64 id, .int .u64 (h : Int), .string d, .int .i64 f, .int .u64 (q : Int), .int .u64 (t : Int), .string pd, .bool false]] w (StepT w O X (.tuple #[(doP c ⟨2, id, h, d, f, q, t, pd, false⟩).val, .int .u64 (doH c ⟨2, id, h, d, f, q, t, pd, false⟩ : Int), .int .i64 (doE c ⟨2, id, h, d, f, q, t, pd, false⟩)]) (doV c ⟨2, id, h, d, f, q, t, pd, false⟩)) := by
  obtain ⟨B, P, M, hT⟩ := hT
  obtain ⟨s, hs⟩ : ∃ s, s = sideN id := ⟨_, rfl⟩
  obtain ⟨o, ho⟩ : ∃ o, o = 1 - s := ⟨_, rfl⟩
  have hs2 : s < 2 := by rw [hs]; exact sideN_lt id
  obtain ⟨Y, hY⟩ : ∃ Y, Y = w.heap.size := ⟨_, rfl⟩
  obtain ⟨wb, hwb⟩ : ∃ z, z = (w.alloc (.cells #[.int .i64 2, .int .i64 id, .int .u64 (h : Int), .string d, .int .i64 f, .int .u64 (q : Int), .int .u64 (t : Int), .string pd, .bool false] 50)).alloc (.cells #[.int .i64 0, .int .u64 0, .int .u64 0, .string ⟨#[]⟩] 46) := ⟨_, rfl⟩
  have HB0 : Hid (DoS Y w O O X c ⟨2, id, h, d, f, q, t, pd, false⟩ B P M wb) := Lib.hid (by rw [hwb, hY]; exact DoS.start hT ⟨2, id, h, d, f, q, t, pd, false⟩)
  have HSD := Lib.hid (fun (z : World) (n : Nat) => Calls.quiet_of_same (side_one id (z.drewN n)))
  rw [← hs] at HSD
  have hw1 : IntKind.i64.wrap (1 - (s : Int)) = (o : Int) := by rw [IntWalk.i64_in _ (by omega)]; omega
  have i1 : (s : Int) < 2 := by omega
  have i2 : (o : Int) < 2 := by omega
  have HSO : Hid (s < 2 ∧ o < 2 ∧ CaV.s ⟨2, id, h, d, f, q, t, pd, false⟩ = s ∧ CaV.o ⟨2, id, h, d, f, q, t, pd, false⟩ = o) := Lib.hid ⟨hs2, by omega, hs.symm, by show 1 - sideN id = o; rw [ho, hs]⟩
  have HOK := Lib.hid (And.intro (hk s hs2) (And.intro (hk o (by omega)) (And.intro hm (And.intro ha (And.intro hL (And.intro hO (CaV.pr_size hk hm ha)))))))
  have HYW := Lib.hid hY
  clear hT hk hm ha hL hO hs ho hs2
  have e0 := HSO.out.2.2.1
  have e1 := HSO.out.2.2.2
  obtain ⟨pr, hpr⟩ : ∃ pr, pr = CaV.pr ⟨2, id, h, d, f, q, t, pd, false⟩ c := ⟨_, rfl⟩
  have hprs : pr.size ≤ 2000 := by rw [hpr]; exact HOK.out.2.2.2.2.2.2
  have v1 : doV c ⟨2, id, h, d, f, q, t, pd, false⟩ = updF c s (recvC (c s) f q t pd pr h) := by unfold doV doC; rw [e0, if_neg (by simp), if_neg (by simp), if_pos rfl, hpr]
  have v2 : doP c ⟨2, id, h, d, f, q, t, pd, false⟩ = zeroPk := by unfold doP; rw [if_neg (by simp)]
  have v3 : doH c ⟨2, id, h, d, f, q, t, pd, false⟩ = 0 := rfl
  have v4 : doE c ⟨2, id, h, d, f, q, t, pd, false⟩ = firstE (recvE (c s) f q t pd pr h) := by unfold doE; rw [e0, if_neg (by simp), if_neg (by simp), if_pos rfl, hpr]
  rw [v1, v2, v3, v4]
  have HRV := Lib.hid (fun z hc hL h1 h2 => cn_recv (w := z) (O := P s) (B := B s) (c := c s) f q t pd pr h hc HOK.out.1.ok HOK.out.2.2.2.1.q HOK.out.2.2.2.1.t HOK.out.2.2.2.1.h (by have h1 : pd.size ≤ 300 := HOK.out.2.2.2.1.pd; unfold maxLen; omega) (by omega) hL ⟨h1, h2⟩)
  obtain ⟨er, her⟩ : ∃ er, er = firstE (recvE (c s) f q t pd pr h) := ⟨_, rfl⟩
  rw [← her] at HRV ⊢
  generalize recvC (c s) f q t pd pr h = c' at *
  have HZ : Hid (zeroPk.val = .agg #[.int .i64 0, .int .u64 0, .int .u64 0, .string ⟨#[]⟩]) := Lib.hid rfl
  rw [HZ.out]
  have HPR : Hid (pr = (proveV (c o).st (CaV.key ⟨2, id, h, d, f, q, t, pd, false⟩) h).1) := Lib.hid (by rw [hpr]; unfold CaV.pr; rw [if_pos ⟨rfl, by simp, by simp⟩, e1])
  have HPV := Lib.hid (fun z hc hL => cn_prove (w := z) (O := P o) (B := B o) (c := c o) (CaV.key ⟨2, id, h, d, f, q, t, pd, false⟩) h hc HOK.out.2.1.ok HOK.out.2.2.2.1.h (fun l hl => by have := HOK.out.2.1.bl l hl; have := HOK.out.2.2.1; omega) hL)
  have HKY := Lib.hid (fun z => act_key ⟨2, id, h, d, f, q, t, pd, false⟩ z HOK.out.2.2.2.1.q)
  rw [← HPR.out] at HPV
  generalize (proveV (c o).st (CaV.key ⟨2, id, h, d, f, q, t, pd, false⟩) h).2 = ep at *
  generalize CaV.key ⟨2, id, h, d, f, q, t, pd, false⟩ = key at *
  clear v1 v2 v3 v4 e0 e1 HZ hpr her hprs HPR
  have HPO : Hid (∀ k j, k < 2 → P k j → O j) := Lib.hid (fun k j hk hj => (HB0.out.tw.sub k j hk hj).1)
  go_enter Tryz.func17, Tryz.ntmps17
  go_wp2
  rw [← hwb, ← hY]
  clear hwb hY
  have a1 := Kq.blk_cell HB0.out.bx 1
  simp only [CaV.cells] at a1
  have x1 := HB0.out.tw.cell s HSO.out.1
  have x2 := HB0.out.tw.cell o HSO.out.2.1
  go_quiet ((first | (go_at_call 20; exact HSD.out _ _)))
  generalize hwq : wb.drewN nq = wq
  have HB1 : Hid (DoS Y w O O X c ⟨2, id, h, d, f, q, t, pd, false⟩ B P M wq) := Lib.hid (by rw [← hwq]; exact HB0.out.below (below_drewN (Below.refl _ _) nq))
  have HLD : Hid (LaidOk wq) := Lib.hid (HOK.out.2.2.2.2.1.keeps HB1.out.kp (fun e => HOK.out.2.2.2.2.2.1.1 e.1) (fun e => HOK.out.2.2.2.2.2.1.2 e.1))
  clear hwq HB0 a1 x1 x2 HSD hw1 i1 i2 nq
  have a0 := Kq.blk_cell HB1.out.bx 0
  have a2 := Kq.blk_cell HB1.out.bx 2
  have a3 := Kq.blk_cell HB1.out.bx 3
  have a4 := Kq.blk_cell HB1.out.bx 4
  have a5 := Kq.blk_cell HB1.out.bx 5
  have a6 := Kq.blk_cell HB1.out.bx 6
  have a7 := Kq.blk_cell HB1.out.bx 7
  have a8 := Kq.blk_cell HB1.out.bx 8
  simp only [CaV.cells] at a0 a2 a3 a4 a5 a6 a7 a8
  have HCB : Hid (∀ w', DoS Y w O O X c ⟨2, id, h, d, f, q, t, pd, false⟩ B P M w' → (w'.cell? ⟨Y, 0, none⟩ = some (.int .i64 2) ∧ w'.cell? ⟨Y, 1, none⟩ = some (.int .i64 id) ∧ w'.cell? ⟨Y, 2, none⟩ = some (.int .u64 (h : Int)) ∧ w'.cell? ⟨Y, 3, none⟩ = some (.string d) ∧ w'.cell? ⟨Y, 4, none⟩ = some (.int .i64 f) ∧ w'.cell? ⟨Y, 5, none⟩ = some (.int .u64 (q : Int)) ∧ w'.cell? ⟨Y, 6, none⟩ = some (.int .u64 (t : Int)) ∧ w'.cell? ⟨Y, 7, none⟩ = some (.string pd) ∧ w'.cell? ⟨Y, 8, none⟩ = some (.bool false))) := Lib.hid (fun w' hd => ⟨Kq.blk_cell hd.bx 0, Kq.blk_cell hd.bx 1, Kq.blk_cell hd.bx 2, Kq.blk_cell hd.bx 3, Kq.blk_cell hd.bx 4, Kq.blk_cell hd.bx 5, Kq.blk_cell hd.bx 6, Kq.blk_cell hd.bx 7, Kq.blk_cell hd.bx 8⟩)
  go_wp2
  refine wp_region_held_drew (S := fun w' => w'.cell? ⟨Y, 0, none⟩ = some (.int .i64 2) ∧ w'.cell? ⟨Y, 1, none⟩ = some (.int .i64 id) ∧ w'.cell? ⟨Y, 2, none⟩ = some (.int .u64 (h : Int)) ∧ w'.cell? ⟨Y, 3, none⟩ = some (.string d) ∧ w'.cell? ⟨Y, 4, none⟩ = some (.int .i64 f) ∧ w'.cell? ⟨Y, 5, none⟩ = some (.int .u64 (q : Int)) ∧ w'.cell? ⟨Y, 6, none⟩ = some (.int .u64 (t : Int)) ∧ w'.cell? ⟨Y, 7, none⟩ = some (.string pd) ∧ w'.cell? ⟨Y, 8, none⟩ = some (.bool false)) (by kernel_rfl) (HCB.out _ (HB1.out.below (Below.refl _ _).drew)) (fun hS0 => ?_)
  have HB2 : Hid (DoS Y w O O X c ⟨2, id, h, d, f, q, t, pd, false⟩ B P M wq.drew ∧ LaidOk wq.drew) := Lib.hid ⟨HB1.out.below (Below.refl _ _).drew, HLD.out.later (Below.refl _ _).drew⟩
  generalize wq.drew = z0 at *
  clear HB1 HLD a0 a2 a3 a4 a5 a6 a7 a8
  refine wpAnyH_take (i := 0) (v := ?_) rfl (by kernel_rfl) (by kernel_rfl) (by kernel_rfl) (fun _ _ _ h => h) (Or.inl ⟨by kernel_rfl, ?_⟩) (by assumption) ?_
  rotate_left
  · intro w hSw; (try dsimp only at hSw); go_simp; (try with_reducible rfl)
  refine wpAnyH_take (i := 1) (v := ?_) rfl (by kernel_rfl) (by kernel_rfl) (by kernel_rfl) (fun _ _ _ h => h) (Or.inl ⟨by kernel_rfl, ?_⟩) (by assumption) ?_
  rotate_left
  · intro w hSw; (try dsimp only at hSw); go_simp; (try with_reducible rfl)
  refine wpAnyH_take (i := 3) (v := ?_) rfl (by kernel_rfl) (by kernel_rfl) (by kernel_rfl) (fun _ _ _ h => h) (Or.inl ⟨by kernel_rfl, ?_⟩) (by assumption) ?_
  rotate_left
  · intro w hSw; (try dsimp only at hSw); go_simp; (try with_reducible rfl)
  refine wpAnyH_take (i := 4) (v := ?_) rfl (by kernel_rfl) (by kernel_rfl) (by kernel_rfl) (fun _ _ _ h => h) (Or.inl ⟨by kernel_rfl, ?_⟩) (by assumption) ?_
  rotate_left
  · intro w hSw; (try dsimp only at hSw); go_simp; (try with_reducible rfl)
  refine wpAnyH_ready (rs := [2]) (by kernel_rfl) (by simp) ?_
  refine AllReadyH.cons rfl (fun K hK => ?_) AllReadyH.nil
  go_simp
  refine (HKY.out z0).mono ?_
  rintro x z1 ⟨rfl, b1⟩
  have HB3 : Hid (DoS Y w O O X c ⟨2, id, h, d, f, q, t, pd, false⟩ B P M z1 ∧ LaidOk z1) := Lib.hid ⟨HB2.out.1.below b1, HB2.out.2.later b1⟩
  clear b1 HB2 hS0
  refine hK.out _ _ (HCB.out _ HB3.out.1) (fun hS0 => ?_)
  clear hK K
  refine wpAnyH_ready (rs := [5]) (by kernel_rfl) (by simp) ?_
  refine AllReadyH.cons rfl (fun K hK => ?_) AllReadyH.nil
  go_simp
  refine (HPV.out z1 (HB3.out.1.tw.ch o HSO.out.2.1) HB3.out.2).mono ?_
  rintro x z2 ⟨rfl, b1⟩
  have HB1 : Hid (DoS Y w O O X c ⟨2, id, h, d, f, q, t, pd, false⟩ B P M z2) := Lib.hid (HB3.out.1.below b1)
  have HLD : Hid (LaidOk z2) := Lib.hid (HB3.out.2.later b1)
  clear b1 HB3 hS0
  refine hK.out _ _ (HCB.out _ HB1.out) (fun hS0 => ?_)
  clear hK K
  refine wpAnyH_take (i := 6) (v := ?_) rfl (by kernel_rfl) (by kernel_rfl) (by kernel_rfl) (fun _ _ _ h => h) (Or.inl ⟨by kernel_rfl, ?_⟩) (by assumption) ?_
  rotate_left
  · intro w hSw; (try dsimp only at hSw); go_simp; (try with_reducible rfl)
  refine wpAnyH_take (i := 7) (v := ?_) rfl (by kernel_rfl) (by kernel_rfl) (by kernel_rfl) (fun _ _ _ h => h) (Or.inl ⟨by kernel_rfl, ?_⟩) (by assumption) ?_
  rotate_left
  · intro w hSw; (try dsimp only at hSw); go_simp; (try with_reducible rfl)
  refine wpAnyH_take (i := 8) (v := ?_) rfl (by kernel_rfl) (by kernel_rfl) (by kernel_rfl) (fun _ _ _ h => h) (Or.inl ⟨by kernel_rfl, ?_⟩) (by assumption) ?_
  rotate_left
  · intro w hSw; (try dsimp only at hSw); go_simp; (try with_reducible rfl)
  refine wpAnyH_take (i := 9) (v := ?_) rfl (by kernel_rfl) (by kernel_rfl) (by kernel_rfl) (fun _ _ _ h => h) (Or.inl ⟨by kernel_rfl, ?_⟩) (by assumption) ?_
  rotate_left
  · intro w hSw; (try dsimp only at hSw); go_simp; (try with_reducible rfl)
  refine wpAnyH_done (by kernel_rfl) ?_ _
  clear hS0 HCB
  have a0 := Kq.blk_cell HB1.out.bx 0
  have a2 := Kq.blk_cell HB1.out.bx 2
  have a3 := Kq.blk_cell HB1.out.bx 3
  have a4 := Kq.blk_cell HB1.out.bx 4
  have a5 := Kq.blk_cell HB1.out.bx 5
  have a6 := Kq.blk_cell HB1.out.bx 6
  have a7 := Kq.blk_cell HB1.out.bx 7
  have a8 := Kq.blk_cell HB1.out.bx 8
  simp only [CaV.cells] at a0 a2 a3 a4 a5 a6 a7 a8
  go_wp2_with fail
  refine (HRV.out z2 (HB1.out.tw.ch s HSO.out.1) HLD.out (fun e => HOK.out.2.2.2.2.2.1.1 (HPO.out s _ HSO.out.1 e)) (fun e => HOK.out.2.2.2.2.2.1.2 (HPO.out s _ HSO.out.1 e))).mono ?_
  rintro x w2 hst
  have hx := hst.1
  subst hx
  have HB2 := Lib.hid (HB1.out.step HSO.out.1 hst)
  clear hst HB1 HLD a0 a2 a3 a4 a5 a6 a7 a8
  have r0 := Kq.blk_cell HB2.out.rs 0
  have r1 := Kq.blk_cell HB2.out.rs 1
  have r2 := Kq.blk_cell HB2.out.rs 2
  have r3 := Kq.blk_cell HB2.out.rs 3
  have g0 := Kq.blk_free HB2.out.rs 0
  have g1 := Kq.blk_free HB2.out.rs 1
  have g2 := Kq.blk_free HB2.out.rs 2
  have g3 := Kq.blk_free HB2.out.rs 3
  go_wp2
  obtain ⟨q1, q2, q3⟩ := HB2.out.fill 0 0 0 ⟨#[]⟩
  change bodyPost _ _ _ _ _ (fillW w2 (Y + 1) 0 0 0 ⟨#[]⟩)
  have z0' := Kq.blk_cell q1 0
  have z1' := Kq.blk_cell q1 1
  have z2' := Kq.blk_cell q1 2
  have z3' := Kq.blk_cell q1 3
  generalize fillW w2 (Y + 1) 0 0 0 ⟨#[]⟩ = w9 at *
  refine bodyPost_ret (v := .tuple #[.agg #[.int .i64 0, .int .u64 0, .int .u64 0, .string ⟨#[]⟩], .int .u64 0, .int .i64 er]) (by simp [results, Tryz.results17, go_sem, z0', z1', z2', z3']) rfl ?_
  exact ⟨rfl, q2, q3⟩
end Go.Proofs.YtbjchfcoacmaaaaGreatDoor
namespace Go.Proofs.YtbjchfcoacmaaaaGreatDoor
open Go.RowKit
set_option linter.unusedVariables false
set_option maxRecDepth 100000 in
set_option maxHeartbeats 1000000 in
theorem do_k3t {w : World} {O : Nat → Prop} {X : Nat} {c : Nat → ChV} {m : Nat} (id : Int) (h q t : Nat) (d pd : ByteArray) (f : Int) (hT : TwP w O X c) (hk : TwK m c) (hm : m ≤ 400) (ha : CaOk ⟨3, id, h, d, f, q, t, pd, true⟩) (hL : LaidOk w) (hO : ¬ O 1 ∧ ¬ O 0) : Calls Tryz.prog 17 #[.pointer (some ⟨X, 0, none⟩), .agg #[.int .i64 3, .int .i64 id, .int .u64 (h : Int), .string d, .int .i64 f, .int .u64 (q : Int), .int .u64 (t : Int), .string pd, .bool true]] w (StepT w O X (.tuple #[(doP c ⟨3, id, h, d, f, q, t, pd, true⟩).val, .int .u64 (doH c ⟨3, id, h, d, f, q, t, pd, true⟩ : Int), .int .i64 (doE c ⟨3, id, h, d, f, q, t, pd, true⟩)]) (doV c ⟨3, id, h, d, f, q, t, pd, true⟩)) := by
  obtain ⟨B, P, M, hT⟩ := hT
  obtain ⟨s, hs⟩ : ∃ s, s = sideN id := ⟨_, rfl⟩
  obtain ⟨o, ho⟩ : ∃ o, o = 1 - s := ⟨_, rfl⟩
  have hs2 : s < 2 := by rw [hs]; exact sideN_lt id
  obtain ⟨Y, hY⟩ : ∃ Y, Y = w.heap.size := ⟨_, rfl⟩
  obtain ⟨wb, hwb⟩ : ∃ z, z = (w.alloc (.cells #[.int .i64 3, .int .i64 id, .int .u64 (h : Int), .string d, .int .i64 f, .int .u64 (q : Int), .int .u64 (t : Int), .string pd, .bool true] 50)).alloc (.cells #[.int .i64 0, .int .u64 0, .int .u64 0, .string ⟨#[]⟩] 46) := ⟨_, rfl⟩
  have HB0 : Hid (DoS Y w O O X c ⟨3, id, h, d, f, q, t, pd, true⟩ B P M wb) := Lib.hid (by rw [hwb, hY]; exact DoS.start hT ⟨3, id, h, d, f, q, t, pd, true⟩)
  have HSD := Lib.hid (fun (z : World) (n : Nat) => Calls.quiet_of_same (side_one id (z.drewN n)))
  rw [← hs] at HSD
  have hw1 : IntKind.i64.wrap (1 - (s : Int)) = (o : Int) := by rw [IntWalk.i64_in _ (by omega)]; omega
  have i1 : (s : Int) < 2 := by omega
  have i2 : (o : Int) < 2 := by omega
  have HSO : Hid (s < 2 ∧ o < 2 ∧ CaV.s ⟨3, id, h, d, f, q, t, pd, true⟩ = s ∧ CaV.o ⟨3, id, h, d, f, q, t, pd, true⟩ = o) := Lib.hid ⟨hs2, by omega, hs.symm, by show 1 - sideN id = o; rw [ho, hs]⟩
  have HOK := Lib.hid (And.intro (hk s hs2) (And.intro (hk o (by omega)) (And.intro hm (And.intro ha (And.intro hL (And.intro hO (CaV.pr_size hk hm ha)))))))
  have HYW := Lib.hid hY
  clear hT hk hm ha hL hO hs ho hs2
  have e0 := HSO.out.2.2.1
  have e1 := HSO.out.2.2.2
  obtain ⟨pr, hpr⟩ : ∃ pr, pr = CaV.pr ⟨3, id, h, d, f, q, t, pd, true⟩ c := ⟨_, rfl⟩
  have hprs : pr.size ≤ 2000 := by rw [hpr]; exact HOK.out.2.2.2.2.2.2
  have v1 : doV c ⟨3, id, h, d, f, q, t, pd, true⟩ = updF c s (setlC (c s) 3 f q t pd (ackL (c s) f q t pd pr h)) := by unfold doV doC; rw [e0, if_neg (by simp), if_neg (by simp), if_neg (by simp), if_pos rfl, hpr]
  have v2 : doP c ⟨3, id, h, d, f, q, t, pd, true⟩ = zeroPk := by unfold doP; rw [if_neg (by simp)]
  have v3 : doH c ⟨3, id, h, d, f, q, t, pd, true⟩ = 0 := rfl
  have v4 : doE c ⟨3, id, h, d, f, q, t, pd, true⟩ = firstE (setlE (c s) f q t pd (ackL (c s) f q t pd pr h)) := by unfold doE; rw [e0, if_neg (by simp), if_neg (by simp), if_neg (by simp), if_pos rfl, hpr]
  rw [v1, v2, v3, v4]
  have HRV := Lib.hid (fun z hc hL h1 h2 => cn_ack (w := z) (O := P s) (B := B s) (c := c s) f q t pd pr h hc HOK.out.1.ok HOK.out.2.2.2.1.q HOK.out.2.2.2.1.t HOK.out.2.2.2.1.h (by omega) hL ⟨h1, h2⟩)
  obtain ⟨er, her⟩ : ∃ er, er = firstE (setlE (c s) f q t pd (ackL (c s) f q t pd pr h)) := ⟨_, rfl⟩
  rw [← her] at HRV ⊢
  generalize setlC (c s) 3 f q t pd (ackL (c s) f q t pd pr h) = c' at *
  have HZ : Hid (zeroPk.val = .agg #[.int .i64 0, .int .u64 0, .int .u64 0, .string ⟨#[]⟩]) := Lib.hid rfl
  rw [HZ.out]
  have HPR : Hid (pr = d) := Lib.hid (by rw [hpr]; rfl)
  rw [HPR.out] at HRV
  clear v1 v2 v3 v4 e0 e1 HZ hpr her hprs HPR
  have HPO : Hid (∀ k j, k < 2 → P k j → O j) := Lib.hid (fun k j hk hj => (HB0.out.tw.sub k j hk hj).1)
  go_enter Tryz.func17, Tryz.ntmps17
  go_wp2
  rw [← hwb, ← hY]
  clear hwb hY
  have a1 := Kq.blk_cell HB0.out.bx 1
  simp only [CaV.cells] at a1
  have x1 := HB0.out.tw.cell s HSO.out.1
  have x2 := HB0.out.tw.cell o HSO.out.2.1
  go_quiet ((first | (go_at_call 20; exact HSD.out _ _)))
  generalize hwq : wb.drewN nq = wq
  have HB1 : Hid (DoS Y w O O X c ⟨3, id, h, d, f, q, t, pd, true⟩ B P M wq) := Lib.hid (by rw [← hwq]; exact HB0.out.below (below_drewN (Below.refl _ _) nq))
  have HLD : Hid (LaidOk wq) := Lib.hid (HOK.out.2.2.2.2.1.keeps HB1.out.kp (fun e => HOK.out.2.2.2.2.2.1.1 e.1) (fun e => HOK.out.2.2.2.2.2.1.2 e.1))
  clear hwq HB0 a1 x1 x2 HSD hw1 i1 i2 nq
  have a0 := Kq.blk_cell HB1.out.bx 0
  have a2 := Kq.blk_cell HB1.out.bx 2
  have a3 := Kq.blk_cell HB1.out.bx 3
  have a4 := Kq.blk_cell HB1.out.bx 4
  have a5 := Kq.blk_cell HB1.out.bx 5
  have a6 := Kq.blk_cell HB1.out.bx 6
  have a7 := Kq.blk_cell HB1.out.bx 7
  have a8 := Kq.blk_cell HB1.out.bx 8
  simp only [CaV.cells] at a0 a2 a3 a4 a5 a6 a7 a8
  go_wp2_with fail
  refine (HRV.out wq (HB1.out.tw.ch s HSO.out.1) HLD.out (fun e => HOK.out.2.2.2.2.2.1.1 (HPO.out s _ HSO.out.1 e)) (fun e => HOK.out.2.2.2.2.2.1.2 (HPO.out s _ HSO.out.1 e))).mono ?_
  rintro x w2 hst
  have hx := hst.1
  subst hx
  have HB2 := Lib.hid (HB1.out.step HSO.out.1 hst)
  clear hst HB1 HLD a0 a2 a3 a4 a5 a6 a7 a8
  have r0 := Kq.blk_cell HB2.out.rs 0
  have r1 := Kq.blk_cell HB2.out.rs 1
  have r2 := Kq.blk_cell HB2.out.rs 2
  have r3 := Kq.blk_cell HB2.out.rs 3
  have g0 := Kq.blk_free HB2.out.rs 0
  have g1 := Kq.blk_free HB2.out.rs 1
  have g2 := Kq.blk_free HB2.out.rs 2
  have g3 := Kq.blk_free HB2.out.rs 3
  go_wp2
  obtain ⟨q1, q2, q3⟩ := HB2.out.fill 0 0 0 ⟨#[]⟩
  change bodyPost _ _ _ _ _ (fillW w2 (Y + 1) 0 0 0 ⟨#[]⟩)
  have z0' := Kq.blk_cell q1 0
  have z1' := Kq.blk_cell q1 1
  have z2' := Kq.blk_cell q1 2
  have z3' := Kq.blk_cell q1 3
  generalize fillW w2 (Y + 1) 0 0 0 ⟨#[]⟩ = w9 at *
  refine bodyPost_ret (v := .tuple #[.agg #[.int .i64 0, .int .u64 0, .int .u64 0, .string ⟨#[]⟩], .int .u64 0, .int .i64 er]) (by simp [results, Tryz.results17, go_sem, z0', z1', z2', z3']) rfl ?_
  exact ⟨rfl, q2, q3⟩
set_option maxRecDepth 100000 in
set_option maxHeartbeats 1000000 in
theorem do_k3f {w : World} {O : Nat → Prop} {X : Nat} {c : Nat → ChV} {m : Nat} (id : Int) (h q t : Nat) (d pd : ByteArray) (f : Int) (hT : TwP w O X c) (hk : TwK m c) (hm : m ≤ 400) (ha : CaOk ⟨3, id, h, d, f, q, t, pd, false⟩) (hL : LaidOk w) (hO : ¬ O 1 ∧ ¬ O 0) : Calls Tryz.prog 17 #[.pointer (some ⟨X, 0, none⟩), .agg #[.int .i64 3, .int .i64 id, .int .u64 (h : Int), .string d, .int .i64 f, .int .u64 (q : Int), .int .u64 (t : Int), .string pd, .bool false]] w (StepT w O X (.tuple #[(doP c ⟨3, id, h, d, f, q, t, pd, false⟩).val, .int .u64 (doH c ⟨3, id, h, d, f, q, t, pd, false⟩ : Int), .int .i64 (doE c ⟨3, id, h, d, f, q, t, pd, false⟩)]) (doV c ⟨3, id, h, d, f, q, t, pd, false⟩)) := by
  obtain ⟨B, P, M, hT⟩ := hT
  obtain ⟨s, hs⟩ : ∃ s, s = sideN id := ⟨_, rfl⟩
  obtain ⟨o, ho⟩ : ∃ o, o = 1 - s := ⟨_, rfl⟩
  have hs2 : s < 2 := by rw [hs]; exact sideN_lt id
  obtain ⟨Y, hY⟩ : ∃ Y, Y = w.heap.size := ⟨_, rfl⟩
  obtain ⟨wb, hwb⟩ : ∃ z, z = (w.alloc (.cells #[.int .i64 3, .int .i64 id, .int .u64 (h : Int), .string d, .int .i64 f, .int .u64 (q : Int), .int .u64 (t : Int), .string pd, .bool false] 50)).alloc (.cells #[.int .i64 0, .int .u64 0, .int .u64 0, .string ⟨#[]⟩] 46) := ⟨_, rfl⟩
  have HB0 : Hid (DoS Y w O O X c ⟨3, id, h, d, f, q, t, pd, false⟩ B P M wb) := Lib.hid (by rw [hwb, hY]; exact DoS.start hT ⟨3, id, h, d, f, q, t, pd, false⟩)
  have HSD := Lib.hid (fun (z : World) (n : Nat) => Calls.quiet_of_same (side_one id (z.drewN n)))
  rw [← hs] at HSD
  have hw1 : IntKind.i64.wrap (1 - (s : Int)) = (o : Int) := by rw [IntWalk.i64_in _ (by omega)]; omega
  have i1 : (s : Int) < 2 := by omega
  have i2 : (o : Int) < 2 := by omega
  have HSO : Hid (s < 2 ∧ o < 2 ∧ CaV.s ⟨3, id, h, d, f, q, t, pd, false⟩ = s ∧ CaV.o ⟨3, id, h, d, f, q, t, pd, false⟩ = o) := Lib.hid ⟨hs2, by omega, hs.symm, by show 1 - sideN id = o; rw [ho, hs]⟩
  have HOK := Lib.hid (And.intro (hk s hs2) (And.intro (hk o (by omega)) (And.intro hm (And.intro ha (And.intro hL (And.intro hO (CaV.pr_size hk hm ha)))))))
  have HYW := Lib.hid hY
  clear hT hk hm ha hL hO hs ho hs2
  have e0 := HSO.out.2.2.1
  have e1 := HSO.out.2.2.2
  obtain ⟨pr, hpr⟩ : ∃ pr, pr = CaV.pr ⟨3, id, h, d, f, q, t, pd, false⟩ c := ⟨_, rfl⟩
  have hprs : pr.size ≤ 2000 := by rw [hpr]; exact HOK.out.2.2.2.2.2.2
  have v1 : doV c ⟨3, id, h, d, f, q, t, pd, false⟩ = updF c s (setlC (c s) 3 f q t pd (ackL (c s) f q t pd pr h)) := by unfold doV doC; rw [e0, if_neg (by simp), if_neg (by simp), if_neg (by simp), if_pos rfl, hpr]
  have v2 : doP c ⟨3, id, h, d, f, q, t, pd, false⟩ = zeroPk := by unfold doP; rw [if_neg (by simp)]
  have v3 : doH c ⟨3, id, h, d, f, q, t, pd, false⟩ = 0 := rfl
  have v4 : doE c ⟨3, id, h, d, f, q, t, pd, false⟩ = firstE (setlE (c s) f q t pd (ackL (c s) f q t pd pr h)) := by unfold doE; rw [e0, if_neg (by simp), if_neg (by simp), if_neg (by simp), if_pos rfl, hpr]
  rw [v1, v2, v3, v4]
  have HRV := Lib.hid (fun z hc hL h1 h2 => cn_ack (w := z) (O := P s) (B := B s) (c := c s) f q t pd pr h hc HOK.out.1.ok HOK.out.2.2.2.1.q HOK.out.2.2.2.1.t HOK.out.2.2.2.1.h (by omega) hL ⟨h1, h2⟩)
  obtain ⟨er, her⟩ : ∃ er, er = firstE (setlE (c s) f q t pd (ackL (c s) f q t pd pr h)) := ⟨_, rfl⟩
  rw [← her] at HRV ⊢
  generalize setlC (c s) 3 f q t pd (ackL (c s) f q t pd pr h) = c' at *
  have HZ : Hid (zeroPk.val = .agg #[.int .i64 0, .int .u64 0, .int .u64 0, .string ⟨#[]⟩]) := Lib.hid rfl
  rw [HZ.out]
  have HPR : Hid (pr = (proveV (c o).st (CaV.key ⟨3, id, h, d, f, q, t, pd, false⟩) h).1) := Lib.hid (by rw [hpr]; unfold CaV.pr; rw [if_pos ⟨rfl, by simp, by simp⟩, e1])
  have HPV := Lib.hid (fun z hc hL => cn_prove (w := z) (O := P o) (B := B o) (c := c o) (CaV.key ⟨3, id, h, d, f, q, t, pd, false⟩) h hc HOK.out.2.1.ok HOK.out.2.2.2.1.h (fun l hl => by have := HOK.out.2.1.bl l hl; have := HOK.out.2.2.1; omega) hL)
  have HKY := Lib.hid (fun z => act_key ⟨3, id, h, d, f, q, t, pd, false⟩ z HOK.out.2.2.2.1.q)
  rw [← HPR.out] at HPV
  generalize (proveV (c o).st (CaV.key ⟨3, id, h, d, f, q, t, pd, false⟩) h).2 = ep at *
  generalize CaV.key ⟨3, id, h, d, f, q, t, pd, false⟩ = key at *
  clear v1 v2 v3 v4 e0 e1 HZ hpr her hprs HPR
  have HPO : Hid (∀ k j, k < 2 → P k j → O j) := Lib.hid (fun k j hk hj => (HB0.out.tw.sub k j hk hj).1)
  go_enter Tryz.func17, Tryz.ntmps17
  go_wp2
  rw [← hwb, ← hY]
  clear hwb hY
  have a1 := Kq.blk_cell HB0.out.bx 1
  simp only [CaV.cells] at a1
  have x1 := HB0.out.tw.cell s HSO.out.1
  have x2 := HB0.out.tw.cell o HSO.out.2.1
  go_quiet ((first | (go_at_call 20; exact HSD.out _ _)))
  generalize hwq : wb.drewN nq = wq
  have HB1 : Hid (DoS Y w O O X c ⟨3, id, h, d, f, q, t, pd, false⟩ B P M wq) := Lib.hid (by rw [← hwq]; exact HB0.out.below (below_drewN (Below.refl _ _) nq))
  have HLD : Hid (LaidOk wq) := Lib.hid (HOK.out.2.2.2.2.1.keeps HB1.out.kp (fun e => HOK.out.2.2.2.2.2.1.1 e.1) (fun e => HOK.out.2.2.2.2.2.1.2 e.1))
  clear hwq HB0 a1 x1 x2 HSD hw1 i1 i2 nq
  have a0 := Kq.blk_cell HB1.out.bx 0
  have a2 := Kq.blk_cell HB1.out.bx 2
  have a3 := Kq.blk_cell HB1.out.bx 3
  have a4 := Kq.blk_cell HB1.out.bx 4
  have a5 := Kq.blk_cell HB1.out.bx 5
  have a6 := Kq.blk_cell HB1.out.bx 6
  have a7 := Kq.blk_cell HB1.out.bx 7
  have a8 := Kq.blk_cell HB1.out.bx 8
  simp only [CaV.cells] at a0 a2 a3 a4 a5 a6 a7 a8
  have HCB : Hid (∀ w', DoS Y w O O X c ⟨3, id, h, d, f, q, t, pd, false⟩ B P M w' → (w'.cell? ⟨Y, 0, none⟩ = some (.int .i64 3) ∧ w'.cell? ⟨Y, 1, none⟩ = some (.int .i64 id) ∧ w'.cell? ⟨Y, 2, none⟩ = some (.int .u64 (h : Int)) ∧ w'.cell? ⟨Y, 3, none⟩ = some (.string d) ∧ w'.cell? ⟨Y, 4, none⟩ = some (.int .i64 f) ∧ w'.cell? ⟨Y, 5, none⟩ = some (.int .u64 (q : Int)) ∧ w'.cell? ⟨Y, 6, none⟩ = some (.int .u64 (t : Int)) ∧ w'.cell? ⟨Y, 7, none⟩ = some (.string pd) ∧ w'.cell? ⟨Y, 8, none⟩ = some (.bool false))) := Lib.hid (fun w' hd => ⟨Kq.blk_cell hd.bx 0, Kq.blk_cell hd.bx 1, Kq.blk_cell hd.bx 2, Kq.blk_cell hd.bx 3, Kq.blk_cell hd.bx 4, Kq.blk_cell hd.bx 5, Kq.blk_cell hd.bx 6, Kq.blk_cell hd.bx 7, Kq.blk_cell hd.bx 8⟩)
  go_wp2
  refine wp_region_held_drew (S := fun w' => w'.cell? ⟨Y, 0, none⟩ = some (.int .i64 3) ∧ w'.cell? ⟨Y, 1, none⟩ = some (.int .i64 id) ∧ w'.cell? ⟨Y, 2, none⟩ = some (.int .u64 (h : Int)) ∧ w'.cell? ⟨Y, 3, none⟩ = some (.string d) ∧ w'.cell? ⟨Y, 4, none⟩ = some (.int .i64 f) ∧ w'.cell? ⟨Y, 5, none⟩ = some (.int .u64 (q : Int)) ∧ w'.cell? ⟨Y, 6, none⟩ = some (.int .u64 (t : Int)) ∧ w'.cell? ⟨Y, 7, none⟩ = some (.string pd) ∧ w'.cell? ⟨Y, 8, none⟩ = some (.bool false)) (by kernel_rfl) (HCB.out _ (HB1.out.below (Below.refl _ _).drew)) (fun hS0 => ?_)
  have HB2 : Hid (DoS Y w O O X c ⟨3, id, h, d, f, q, t, pd, false⟩ B P M wq.drew ∧ LaidOk wq.drew) := Lib.hid ⟨HB1.out.below (Below.refl _ _).drew, HLD.out.later (Below.refl _ _).drew⟩
  generalize wq.drew = z0 at *
  clear HB1 HLD a0 a2 a3 a4 a5 a6 a7 a8
  refine wpAnyH_take (i := 0) (v := ?_) rfl (by kernel_rfl) (by kernel_rfl) (by kernel_rfl) (fun _ _ _ h => h) (Or.inl ⟨by kernel_rfl, ?_⟩) (by assumption) ?_
  rotate_left
  · intro w hSw; (try dsimp only at hSw); go_simp; (try with_reducible rfl)
  refine wpAnyH_take (i := 1) (v := ?_) rfl (by kernel_rfl) (by kernel_rfl) (by kernel_rfl) (fun _ _ _ h => h) (Or.inl ⟨by kernel_rfl, ?_⟩) (by assumption) ?_
  rotate_left
  · intro w hSw; (try dsimp only at hSw); go_simp; (try with_reducible rfl)
  refine wpAnyH_take (i := 3) (v := ?_) rfl (by kernel_rfl) (by kernel_rfl) (by kernel_rfl) (fun _ _ _ h => h) (Or.inl ⟨by kernel_rfl, ?_⟩) (by assumption) ?_
  rotate_left
  · intro w hSw; (try dsimp only at hSw); go_simp; (try with_reducible rfl)
  refine wpAnyH_take (i := 4) (v := ?_) rfl (by kernel_rfl) (by kernel_rfl) (by kernel_rfl) (fun _ _ _ h => h) (Or.inl ⟨by kernel_rfl, ?_⟩) (by assumption) ?_
  rotate_left
  · intro w hSw; (try dsimp only at hSw); go_simp; (try with_reducible rfl)
  refine wpAnyH_ready (rs := [2]) (by kernel_rfl) (by simp) ?_
  refine AllReadyH.cons rfl (fun K hK => ?_) AllReadyH.nil
  go_simp
  refine (HKY.out z0).mono ?_
  rintro x z1 ⟨rfl, b1⟩
  have HB3 : Hid (DoS Y w O O X c ⟨3, id, h, d, f, q, t, pd, false⟩ B P M z1 ∧ LaidOk z1) := Lib.hid ⟨HB2.out.1.below b1, HB2.out.2.later b1⟩
  clear b1 HB2 hS0
  refine hK.out _ _ (HCB.out _ HB3.out.1) (fun hS0 => ?_)
  clear hK K
  refine wpAnyH_ready (rs := [5]) (by kernel_rfl) (by simp) ?_
  refine AllReadyH.cons rfl (fun K hK => ?_) AllReadyH.nil
  go_simp
  refine (HPV.out z1 (HB3.out.1.tw.ch o HSO.out.2.1) HB3.out.2).mono ?_
  rintro x z2 ⟨rfl, b1⟩
  have HB1 : Hid (DoS Y w O O X c ⟨3, id, h, d, f, q, t, pd, false⟩ B P M z2) := Lib.hid (HB3.out.1.below b1)
  have HLD : Hid (LaidOk z2) := Lib.hid (HB3.out.2.later b1)
  clear b1 HB3 hS0
  refine hK.out _ _ (HCB.out _ HB1.out) (fun hS0 => ?_)
  clear hK K
  refine wpAnyH_take (i := 6) (v := ?_) rfl (by kernel_rfl) (by kernel_rfl) (by kernel_rfl) (fun _ _ _ h => h) (Or.inl ⟨by kernel_rfl, ?_⟩) (by assumption) ?_
  rotate_left
  · intro w hSw; (try dsimp only at hSw); go_simp; (try with_reducible rfl)
  refine wpAnyH_take (i := 7) (v := ?_) rfl (by kernel_rfl) (by kernel_rfl) (by kernel_rfl) (fun _ _ _ h => h) (Or.inl ⟨by kernel_rfl, ?_⟩) (by assumption) ?_
  rotate_left
  · intro w hSw; (try dsimp only at hSw); go_simp; (try with_reducible rfl)
  refine wpAnyH_take (i := 8) (v := ?_) rfl (by kernel_rfl) (by kernel_rfl) (by kernel_rfl) (fun _ _ _ h => h) (Or.inl ⟨by kernel_rfl, ?_⟩) (by assumption) ?_
  rotate_left
  · intro w hSw; (try dsimp only at hSw); go_simp; (try with_reducible rfl)
  refine wpAnyH_take (i := 9) (v := ?_) rfl (by kernel_rfl) (by kernel_rfl) (by kernel_rfl) (fun _ _ _ h => h) (Or.inl ⟨by kernel_rfl, ?_⟩) (by assumption) ?_
  rotate_left
  · intro w hSw; (try dsimp only at hSw); go_simp; (try with_reducible rfl)
  refine wpAnyH_done (by kernel_rfl) ?_ _
  clear hS0 HCB
  have a0 := Kq.blk_cell HB1.out.bx 0
  have a2 := Kq.blk_cell HB1.out.bx 2
  have a3 := Kq.blk_cell HB1.out.bx 3
  have a4 := Kq.blk_cell HB1.out.bx 4
  have a5 := Kq.blk_cell HB1.out.bx 5
  have a6 := Kq.blk_cell HB1.out.bx 6
  have a7 := Kq.blk_cell HB1.out.bx 7
  have a8 := Kq.blk_cell HB1.out.bx 8
  simp only [CaV.cells] at a0 a2 a3 a4 a5 a6 a7 a8
  go_wp2_with fail
  refine (HRV.out z2 (HB1.out.tw.ch s HSO.out.1) HLD.out (fun e => HOK.out.2.2.2.2.2.1.1 (HPO.out s _ HSO.out.1 e)) (fun e => HOK.out.2.2.2.2.2.1.2 (HPO.out s _ HSO.out.1 e))).mono ?_
  rintro x w2 hst
  have hx := hst.1
  subst hx
  have HB2 := Lib.hid (HB1.out.step HSO.out.1 hst)
  clear hst HB1 HLD a0 a2 a3 a4 a5 a6 a7 a8
  have r0 := Kq.blk_cell HB2.out.rs 0
  have r1 := Kq.blk_cell HB2.out.rs 1
  have r2 := Kq.blk_cell HB2.out.rs 2
  have r3 := Kq.blk_cell HB2.out.rs 3
  have g0 := Kq.blk_free HB2.out.rs 0
  have g1 := Kq.blk_free HB2.out.rs 1
  have g2 := Kq.blk_free HB2.out.rs 2
  have g3 := Kq.blk_free HB2.out.rs 3
  go_wp2
  obtain ⟨q1, q2, q3⟩ := HB2.out.fill 0 0 0 ⟨#[]⟩
  change bodyPost _ _ _ _ _ (fillW w2 (Y + 1) 0 0 0 ⟨#[]⟩)
  have z0' := Kq.blk_cell q1 0
  have z1' := Kq.blk_cell q1 1
  have z2' := Kq.blk_cell q1 2
  have z3' := Kq.blk_cell q1 3
  generalize fillW w2 (Y + 1) 0 0 0 ⟨#[]⟩ = w9 at *
  refine bodyPost_ret (v := .tuple #[.agg #[.int .i64 0, .int .u64 0, .int .u64 0, .string ⟨#[]⟩], .int .u64 0, .int .i64 er]) (by simp [results, Tryz.results17, go_sem, z0', z1', z2', z3']) rfl ?_
  exact ⟨rfl, q2, q3⟩
end Go.Proofs.YtbjchfcoacmaaaaGreatDoor
namespace Go.Proofs.YtbjchfcoacmaaaaGreatDoor
open Go.RowKit
set_option linter.unusedVariables false
set_option maxRecDepth 100000 in
set_option maxHeartbeats 1000000 in
theorem do_k4t {w : World} {O : Nat → Prop} {X : Nat} {c : Nat → ChV} {m : Nat} (id : Int) (h q t : Nat) (d pd : ByteArray) (f : Int) (hT : TwP w O X c) (hk : TwK m c) (hm : m ≤ 400) (ha : CaOk ⟨4, id, h, d, f, q, t, pd, true⟩) (hL : LaidOk w) (hO : ¬ O 1 ∧ ¬ O 0) : Calls Tryz.prog 17 #[.pointer (some ⟨X, 0, none⟩), .agg #[.int .i64 4, .int .i64 id, .int .u64 (h : Int), .string d, .int .i64 f, .int .u64 (q : Int), .int .u64 (t : Int), .string pd, .bool true]] w (StepT w O X (.tuple #[(doP c ⟨4, id, h, d, f, q, t, pd, true⟩).val, .int .u64 (doH c ⟨4, id, h, d, f, q, t, pd, true⟩ : Int), .int .i64 (doE c ⟨4, id, h, d, f, q, t, pd, true⟩)]) (doV c ⟨4, id, h, d, f, q, t, pd, true⟩)) := by
  obtain ⟨B, P, M, hT⟩ := hT
  obtain ⟨s, hs⟩ : ∃ s, s = sideN id := ⟨_, rfl⟩
  obtain ⟨o, ho⟩ : ∃ o, o = 1 - s := ⟨_, rfl⟩
  have hs2 : s < 2 := by rw [hs]; exact sideN_lt id
  obtain ⟨Y, hY⟩ : ∃ Y, Y = w.heap.size := ⟨_, rfl⟩
  obtain ⟨wb, hwb⟩ : ∃ z, z = (w.alloc (.cells #[.int .i64 4, .int .i64 id, .int .u64 (h : Int), .string d, .int .i64 f, .int .u64 (q : Int), .int .u64 (t : Int), .string pd, .bool true] 50)).alloc (.cells #[.int .i64 0, .int .u64 0, .int .u64 0, .string ⟨#[]⟩] 46) := ⟨_, rfl⟩
  have HB0 : Hid (DoS Y w O O X c ⟨4, id, h, d, f, q, t, pd, true⟩ B P M wb) := Lib.hid (by rw [hwb, hY]; exact DoS.start hT ⟨4, id, h, d, f, q, t, pd, true⟩)
  have HSD := Lib.hid (fun (z : World) (n : Nat) => Calls.quiet_of_same (side_one id (z.drewN n)))
  rw [← hs] at HSD
  have hw1 : IntKind.i64.wrap (1 - (s : Int)) = (o : Int) := by rw [IntWalk.i64_in _ (by omega)]; omega
  have i1 : (s : Int) < 2 := by omega
  have i2 : (o : Int) < 2 := by omega
  have HSO : Hid (s < 2 ∧ o < 2 ∧ CaV.s ⟨4, id, h, d, f, q, t, pd, true⟩ = s ∧ CaV.o ⟨4, id, h, d, f, q, t, pd, true⟩ = o) := Lib.hid ⟨hs2, by omega, hs.symm, by show 1 - sideN id = o; rw [ho, hs]⟩
  have HOK := Lib.hid (And.intro (hk s hs2) (And.intro (hk o (by omega)) (And.intro hm (And.intro ha (And.intro hL (And.intro hO (CaV.pr_size hk hm ha)))))))
  have HYW := Lib.hid hY
  clear hT hk hm ha hL hO hs ho hs2
  have e0 := HSO.out.2.2.1
  have e1 := HSO.out.2.2.2
  obtain ⟨pr, hpr⟩ : ∃ pr, pr = CaV.pr ⟨4, id, h, d, f, q, t, pd, true⟩ c := ⟨_, rfl⟩
  have hprs : pr.size ≤ 2000 := by rw [hpr]; exact HOK.out.2.2.2.2.2.2
  have v1 : doV c ⟨4, id, h, d, f, q, t, pd, true⟩ = updF c s (setlC (c s) 4 f q t pd (timeL (c s) f q t pd pr h)) := by unfold doV doC; rw [e0, if_neg (by simp), if_neg (by simp), if_neg (by simp), if_neg (by simp), if_pos rfl, hpr]
  have v2 : doP c ⟨4, id, h, d, f, q, t, pd, true⟩ = zeroPk := by unfold doP; rw [if_neg (by simp)]
  have v3 : doH c ⟨4, id, h, d, f, q, t, pd, true⟩ = 0 := rfl
  have v4 : doE c ⟨4, id, h, d, f, q, t, pd, true⟩ = firstE (setlE (c s) f q t pd (timeL (c s) f q t pd pr h)) := by unfold doE; rw [e0, if_neg (by simp), if_neg (by simp), if_neg (by simp), if_neg (by simp), if_pos rfl, hpr]
  rw [v1, v2, v3, v4]
  have HRV := Lib.hid (fun z hc hL h1 h2 => cn_timeout (w := z) (O := P s) (B := B s) (c := c s) f q t pd pr h hc HOK.out.1.ok HOK.out.2.2.2.1.q HOK.out.2.2.2.1.t HOK.out.2.2.2.1.h (by omega) hL ⟨h1, h2⟩)
  obtain ⟨er, her⟩ : ∃ er, er = firstE (setlE (c s) f q t pd (timeL (c s) f q t pd pr h)) := ⟨_, rfl⟩
  rw [← her] at HRV ⊢
  generalize setlC (c s) 4 f q t pd (timeL (c s) f q t pd pr h) = c' at *
  have HZ : Hid (zeroPk.val = .agg #[.int .i64 0, .int .u64 0, .int .u64 0, .string ⟨#[]⟩]) := Lib.hid rfl
  rw [HZ.out]
  have HPR : Hid (pr = d) := Lib.hid (by rw [hpr]; rfl)
  rw [HPR.out] at HRV
  clear v1 v2 v3 v4 e0 e1 HZ hpr her hprs HPR
  have HPO : Hid (∀ k j, k < 2 → P k j → O j) := Lib.hid (fun k j hk hj => (HB0.out.tw.sub k j hk hj).1)
  go_enter Tryz.func17, Tryz.ntmps17
  go_wp2
  rw [← hwb, ← hY]
  clear hwb hY
  have a1 := Kq.blk_cell HB0.out.bx 1
  simp only [CaV.cells] at a1
  have x1 := HB0.out.tw.cell s HSO.out.1
  have x2 := HB0.out.tw.cell o HSO.out.2.1
  go_quiet ((first | (go_at_call 20; exact HSD.out _ _)))
  generalize hwq : wb.drewN nq = wq
  have HB1 : Hid (DoS Y w O O X c ⟨4, id, h, d, f, q, t, pd, true⟩ B P M wq) := Lib.hid (by rw [← hwq]; exact HB0.out.below (below_drewN (Below.refl _ _) nq))
  have HLD : Hid (LaidOk wq) := Lib.hid (HOK.out.2.2.2.2.1.keeps HB1.out.kp (fun e => HOK.out.2.2.2.2.2.1.1 e.1) (fun e => HOK.out.2.2.2.2.2.1.2 e.1))
  clear hwq HB0 a1 x1 x2 HSD hw1 i1 i2 nq
  have a0 := Kq.blk_cell HB1.out.bx 0
  have a2 := Kq.blk_cell HB1.out.bx 2
  have a3 := Kq.blk_cell HB1.out.bx 3
  have a4 := Kq.blk_cell HB1.out.bx 4
  have a5 := Kq.blk_cell HB1.out.bx 5
  have a6 := Kq.blk_cell HB1.out.bx 6
  have a7 := Kq.blk_cell HB1.out.bx 7
  have a8 := Kq.blk_cell HB1.out.bx 8
  simp only [CaV.cells] at a0 a2 a3 a4 a5 a6 a7 a8
  go_wp2_with fail
  refine (HRV.out wq (HB1.out.tw.ch s HSO.out.1) HLD.out (fun e => HOK.out.2.2.2.2.2.1.1 (HPO.out s _ HSO.out.1 e)) (fun e => HOK.out.2.2.2.2.2.1.2 (HPO.out s _ HSO.out.1 e))).mono ?_
  rintro x w2 hst
  have hx := hst.1
  subst hx
  have HB2 := Lib.hid (HB1.out.step HSO.out.1 hst)
  clear hst HB1 HLD a0 a2 a3 a4 a5 a6 a7 a8
  have r0 := Kq.blk_cell HB2.out.rs 0
  have r1 := Kq.blk_cell HB2.out.rs 1
  have r2 := Kq.blk_cell HB2.out.rs 2
  have r3 := Kq.blk_cell HB2.out.rs 3
  have g0 := Kq.blk_free HB2.out.rs 0
  have g1 := Kq.blk_free HB2.out.rs 1
  have g2 := Kq.blk_free HB2.out.rs 2
  have g3 := Kq.blk_free HB2.out.rs 3
  go_wp2
  obtain ⟨q1, q2, q3⟩ := HB2.out.fill 0 0 0 ⟨#[]⟩
  change bodyPost _ _ _ _ _ (fillW w2 (Y + 1) 0 0 0 ⟨#[]⟩)
  have z0' := Kq.blk_cell q1 0
  have z1' := Kq.blk_cell q1 1
  have z2' := Kq.blk_cell q1 2
  have z3' := Kq.blk_cell q1 3
  generalize fillW w2 (Y + 1) 0 0 0 ⟨#[]⟩ = w9 at *
  refine bodyPost_ret (v := .tuple #[.agg #[.int .i64 0, .int .u64 0, .int .u64 0, .string ⟨#[]⟩], .int .u64 0, .int .i64 er]) (by simp [results, Tryz.results17, go_sem, z0', z1', z2', z3']) rfl ?_
  exact ⟨rfl, q2, q3⟩
set_option maxRecDepth 100000 in
set_option maxHeartbeats 1000000 in
theorem do_k4f {w : World} {O : Nat → Prop} {X : Nat} {c : Nat → ChV} {m : Nat} (id : Int) (h q t : Nat) (d pd : ByteArray) (f : Int) (hT : TwP w O X c) (hk : TwK m c) (hm : m ≤ 400) (ha : CaOk ⟨4, id, h, d, f, q, t, pd, false⟩) (hL : LaidOk w) (hO : ¬ O 1 ∧ ¬ O 0) : Calls Tryz.prog 17 #[.pointer (some ⟨X, 0, none⟩), .agg #[.int .i64 4, .int .i64 id, .int .u64 (h : Int), .string d, .int .i64 f, .int .u64 (q : Int), .int .u64 (t : Int), .string pd, .bool false]] w (StepT w O X (.tuple #[(doP c ⟨4, id, h, d, f, q, t, pd, false⟩).val, .int .u64 (doH c ⟨4, id, h, d, f, q, t, pd, false⟩ : Int), .int .i64 (doE c ⟨4, id, h, d, f, q, t, pd, false⟩)]) (doV c ⟨4, id, h, d, f, q, t, pd, false⟩)) := by
  obtain ⟨B, P, M, hT⟩ := hT
  obtain ⟨s, hs⟩ : ∃ s, s = sideN id := ⟨_, rfl⟩
  obtain ⟨o, ho⟩ : ∃ o, o = 1 - s := ⟨_, rfl⟩
  have hs2 : s < 2 := by rw [hs]; exact sideN_lt id
  obtain ⟨Y, hY⟩ : ∃ Y, Y = w.heap.size := ⟨_, rfl⟩
  obtain ⟨wb, hwb⟩ : ∃ z, z = (w.alloc (.cells #[.int .i64 4, .int .i64 id, .int .u64 (h : Int), .string d, .int .i64 f, .int .u64 (q : Int), .int .u64 (t : Int), .string pd, .bool false] 50)).alloc (.cells #[.int .i64 0, .int .u64 0, .int .u64 0, .string ⟨#[]⟩] 46) := ⟨_, rfl⟩
  have HB0 : Hid (DoS Y w O O X c ⟨4, id, h, d, f, q, t, pd, false⟩ B P M wb) := Lib.hid (by rw [hwb, hY]; exact DoS.start hT ⟨4, id, h, d, f, q, t, pd, false⟩)
  have HSD := Lib.hid (fun (z : World) (n : Nat) => Calls.quiet_of_same (side_one id (z.drewN n)))
  rw [← hs] at HSD
  have hw1 : IntKind.i64.wrap (1 - (s : Int)) = (o : Int) := by rw [IntWalk.i64_in _ (by omega)]; omega
  have i1 : (s : Int) < 2 := by omega
  have i2 : (o : Int) < 2 := by omega
  have HSO : Hid (s < 2 ∧ o < 2 ∧ CaV.s ⟨4, id, h, d, f, q, t, pd, false⟩ = s ∧ CaV.o ⟨4, id, h, d, f, q, t, pd, false⟩ = o) := Lib.hid ⟨hs2, by omega, hs.symm, by show 1 - sideN id = o; rw [ho, hs]⟩
  have HOK := Lib.hid (And.intro (hk s hs2) (And.intro (hk o (by omega)) (And.intro hm (And.intro ha (And.intro hL (And.intro hO (CaV.pr_size hk hm ha)))))))
  have HYW := Lib.hid hY
  clear hT hk hm ha hL hO hs ho hs2
  have e0 := HSO.out.2.2.1
  have e1 := HSO.out.2.2.2
  obtain ⟨pr, hpr⟩ : ∃ pr, pr = CaV.pr ⟨4, id, h, d, f, q, t, pd, false⟩ c := ⟨_, rfl⟩
  have hprs : pr.size ≤ 2000 := by rw [hpr]; exact HOK.out.2.2.2.2.2.2
  have v1 : doV c ⟨4, id, h, d, f, q, t, pd, false⟩ = updF c s (setlC (c s) 4 f q t pd (timeL (c s) f q t pd pr h)) := by unfold doV doC; rw [e0, if_neg (by simp), if_neg (by simp), if_neg (by simp), if_neg (by simp), if_pos rfl, hpr]
  have v2 : doP c ⟨4, id, h, d, f, q, t, pd, false⟩ = zeroPk := by unfold doP; rw [if_neg (by simp)]
  have v3 : doH c ⟨4, id, h, d, f, q, t, pd, false⟩ = 0 := rfl
  have v4 : doE c ⟨4, id, h, d, f, q, t, pd, false⟩ = firstE (setlE (c s) f q t pd (timeL (c s) f q t pd pr h)) := by unfold doE; rw [e0, if_neg (by simp), if_neg (by simp), if_neg (by simp), if_neg (by simp), if_pos rfl, hpr]
  rw [v1, v2, v3, v4]
  have HRV := Lib.hid (fun z hc hL h1 h2 => cn_timeout (w := z) (O := P s) (B := B s) (c := c s) f q t pd pr h hc HOK.out.1.ok HOK.out.2.2.2.1.q HOK.out.2.2.2.1.t HOK.out.2.2.2.1.h (by omega) hL ⟨h1, h2⟩)
  obtain ⟨er, her⟩ : ∃ er, er = firstE (setlE (c s) f q t pd (timeL (c s) f q t pd pr h)) := ⟨_, rfl⟩
  rw [← her] at HRV ⊢
  generalize setlC (c s) 4 f q t pd (timeL (c s) f q t pd pr h) = c' at *
  have HZ : Hid (zeroPk.val = .agg #[.int .i64 0, .int .u64 0, .int .u64 0, .string ⟨#[]⟩]) := Lib.hid rfl
  rw [HZ.out]
  have HPR : Hid (pr = (proveV (c o).st (CaV.key ⟨4, id, h, d, f, q, t, pd, false⟩) h).1) := Lib.hid (by rw [hpr]; unfold CaV.pr; rw [if_pos ⟨rfl, by simp, by simp⟩, e1])
  have HPV := Lib.hid (fun z hc hL => cn_prove (w := z) (O := P o) (B := B o) (c := c o) (CaV.key ⟨4, id, h, d, f, q, t, pd, false⟩) h hc HOK.out.2.1.ok HOK.out.2.2.2.1.h (fun l hl => by have := HOK.out.2.1.bl l hl; have := HOK.out.2.2.1; omega) hL)
  have HKY := Lib.hid (fun z => act_key ⟨4, id, h, d, f, q, t, pd, false⟩ z HOK.out.2.2.2.1.q)
  rw [← HPR.out] at HPV
  generalize (proveV (c o).st (CaV.key ⟨4, id, h, d, f, q, t, pd, false⟩) h).2 = ep at *
  generalize CaV.key ⟨4, id, h, d, f, q, t, pd, false⟩ = key at *
  clear v1 v2 v3 v4 e0 e1 HZ hpr her hprs HPR
  have HPO : Hid (∀ k j, k < 2 → P k j → O j) := Lib.hid (fun k j hk hj => (HB0.out.tw.sub k j hk hj).1)
  go_enter Tryz.func17, Tryz.ntmps17
  go_wp2
  rw [← hwb, ← hY]
  clear hwb hY
  have a1 := Kq.blk_cell HB0.out.bx 1
  simp only [CaV.cells] at a1
  have x1 := HB0.out.tw.cell s HSO.out.1
  have x2 := HB0.out.tw.cell o HSO.out.2.1
  go_quiet ((first | (go_at_call 20; exact HSD.out _ _)))
  generalize hwq : wb.drewN nq = wq
  have HB1 : Hid (DoS Y w O O X c ⟨4, id, h, d, f, q, t, pd, false⟩ B P M wq) := Lib.hid (by rw [← hwq]; exact HB0.out.below (below_drewN (Below.refl _ _) nq))
  have HLD : Hid (LaidOk wq) := Lib.hid (HOK.out.2.2.2.2.1.keeps HB1.out.kp (fun e => HOK.out.2.2.2.2.2.1.1 e.1) (fun e => HOK.out.2.2.2.2.2.1.2 e.1))
  clear hwq HB0 a1 x1 x2 HSD hw1 i1 i2 nq
  have a0 := Kq.blk_cell HB1.out.bx 0
  have a2 := Kq.blk_cell HB1.out.bx 2
  have a3 := Kq.blk_cell HB1.out.bx 3
  have a4 := Kq.blk_cell HB1.out.bx 4
  have a5 := Kq.blk_cell HB1.out.bx 5
  have a6 := Kq.blk_cell HB1.out.bx 6
  have a7 := Kq.blk_cell HB1.out.bx 7
  have a8 := Kq.blk_cell HB1.out.bx 8
  simp only [CaV.cells] at a0 a2 a3 a4 a5 a6 a7 a8
  have HCB : Hid (∀ w', DoS Y w O O X c ⟨4, id, h, d, f, q, t, pd, false⟩ B P M w' → (w'.cell? ⟨Y, 0, none⟩ = some (.int .i64 4) ∧ w'.cell? ⟨Y, 1, none⟩ = some (.int .i64 id) ∧ w'.cell? ⟨Y, 2, none⟩ = some (.int .u64 (h : Int)) ∧ w'.cell? ⟨Y, 3, none⟩ = some (.string d) ∧ w'.cell? ⟨Y, 4, none⟩ = some (.int .i64 f) ∧ w'.cell? ⟨Y, 5, none⟩ = some (.int .u64 (q : Int)) ∧ w'.cell? ⟨Y, 6, none⟩ = some (.int .u64 (t : Int)) ∧ w'.cell? ⟨Y, 7, none⟩ = some (.string pd) ∧ w'.cell? ⟨Y, 8, none⟩ = some (.bool false))) := Lib.hid (fun w' hd => ⟨Kq.blk_cell hd.bx 0, Kq.blk_cell hd.bx 1, Kq.blk_cell hd.bx 2, Kq.blk_cell hd.bx 3, Kq.blk_cell hd.bx 4, Kq.blk_cell hd.bx 5, Kq.blk_cell hd.bx 6, Kq.blk_cell hd.bx 7, Kq.blk_cell hd.bx 8⟩)
  go_wp2
  refine wp_region_held_drew (S := fun w' => w'.cell? ⟨Y, 0, none⟩ = some (.int .i64 4) ∧ w'.cell? ⟨Y, 1, none⟩ = some (.int .i64 id) ∧ w'.cell? ⟨Y, 2, none⟩ = some (.int .u64 (h : Int)) ∧ w'.cell? ⟨Y, 3, none⟩ = some (.string d) ∧ w'.cell? ⟨Y, 4, none⟩ = some (.int .i64 f) ∧ w'.cell? ⟨Y, 5, none⟩ = some (.int .u64 (q : Int)) ∧ w'.cell? ⟨Y, 6, none⟩ = some (.int .u64 (t : Int)) ∧ w'.cell? ⟨Y, 7, none⟩ = some (.string pd) ∧ w'.cell? ⟨Y, 8, none⟩ = some (.bool false)) (by kernel_rfl) (HCB.out _ (HB1.out.below (Below.refl _ _).drew)) (fun hS0 => ?_)
  have HB2 : Hid (DoS Y w O O X c ⟨4, id, h, d, f, q, t, pd, false⟩ B P M wq.drew ∧ LaidOk wq.drew) := Lib.hid ⟨HB1.out.below (Below.refl _ _).drew, HLD.out.later (Below.refl _ _).drew⟩
  generalize wq.drew = z0 at *
  clear HB1 HLD a0 a2 a3 a4 a5 a6 a7 a8
  refine wpAnyH_take (i := 0) (v := ?_) rfl (by kernel_rfl) (by kernel_rfl) (by kernel_rfl) (fun _ _ _ h => h) (Or.inl ⟨by kernel_rfl, ?_⟩) (by assumption) ?_
  rotate_left
  · intro w hSw; (try dsimp only at hSw); go_simp; (try with_reducible rfl)
  refine wpAnyH_take (i := 1) (v := ?_) rfl (by kernel_rfl) (by kernel_rfl) (by kernel_rfl) (fun _ _ _ h => h) (Or.inl ⟨by kernel_rfl, ?_⟩) (by assumption) ?_
  rotate_left
  · intro w hSw; (try dsimp only at hSw); go_simp; (try with_reducible rfl)
  refine wpAnyH_take (i := 3) (v := ?_) rfl (by kernel_rfl) (by kernel_rfl) (by kernel_rfl) (fun _ _ _ h => h) (Or.inl ⟨by kernel_rfl, ?_⟩) (by assumption) ?_
  rotate_left
  · intro w hSw; (try dsimp only at hSw); go_simp; (try with_reducible rfl)
  refine wpAnyH_take (i := 4) (v := ?_) rfl (by kernel_rfl) (by kernel_rfl) (by kernel_rfl) (fun _ _ _ h => h) (Or.inl ⟨by kernel_rfl, ?_⟩) (by assumption) ?_
  rotate_left
  · intro w hSw; (try dsimp only at hSw); go_simp; (try with_reducible rfl)
  refine wpAnyH_ready (rs := [2]) (by kernel_rfl) (by simp) ?_
  refine AllReadyH.cons rfl (fun K hK => ?_) AllReadyH.nil
  go_simp
  refine (HKY.out z0).mono ?_
  rintro x z1 ⟨rfl, b1⟩
  have HB3 : Hid (DoS Y w O O X c ⟨4, id, h, d, f, q, t, pd, false⟩ B P M z1 ∧ LaidOk z1) := Lib.hid ⟨HB2.out.1.below b1, HB2.out.2.later b1⟩
  clear b1 HB2 hS0
  refine hK.out _ _ (HCB.out _ HB3.out.1) (fun hS0 => ?_)
  clear hK K
  refine wpAnyH_ready (rs := [5]) (by kernel_rfl) (by simp) ?_
  refine AllReadyH.cons rfl (fun K hK => ?_) AllReadyH.nil
  go_simp
  refine (HPV.out z1 (HB3.out.1.tw.ch o HSO.out.2.1) HB3.out.2).mono ?_
  rintro x z2 ⟨rfl, b1⟩
  have HB1 : Hid (DoS Y w O O X c ⟨4, id, h, d, f, q, t, pd, false⟩ B P M z2) := Lib.hid (HB3.out.1.below b1)
  have HLD : Hid (LaidOk z2) := Lib.hid (HB3.out.2.later b1)
  clear b1 HB3 hS0
  refine hK.out _ _ (HCB.out _ HB1.out) (fun hS0 => ?_)
  clear hK K
  refine wpAnyH_take (i := 6) (v := ?_) rfl (by kernel_rfl) (by kernel_rfl) (by kernel_rfl) (fun _ _ _ h => h) (Or.inl ⟨by kernel_rfl, ?_⟩) (by assumption) ?_
  rotate_left
  · intro w hSw; (try dsimp only at hSw); go_simp; (try with_reducible rfl)
  refine wpAnyH_take (i := 7) (v := ?_) rfl (by kernel_rfl) (by kernel_rfl) (by kernel_rfl) (fun _ _ _ h => h) (Or.inl ⟨by kernel_rfl, ?_⟩) (by assumption) ?_
  rotate_left
  · intro w hSw; (try dsimp only at hSw); go_simp; (try with_reducible rfl)
  refine wpAnyH_take (i := 8) (v := ?_) rfl (by kernel_rfl) (by kernel_rfl) (by kernel_rfl) (fun _ _ _ h => h) (Or.inl ⟨by kernel_rfl, ?_⟩) (by assumption) ?_
  rotate_left
  · intro w hSw; (try dsimp only at hSw); go_simp; (try with_reducible rfl)
  refine wpAnyH_take (i := 9) (v := ?_) rfl (by kernel_rfl) (by kernel_rfl) (by kernel_rfl) (fun _ _ _ h => h) (Or.inl ⟨by kernel_rfl, ?_⟩) (by assumption) ?_
  rotate_left
  · intro w hSw; (try dsimp only at hSw); go_simp; (try with_reducible rfl)
  refine wpAnyH_done (by kernel_rfl) ?_ _
  clear hS0 HCB
  have a0 := Kq.blk_cell HB1.out.bx 0
  have a2 := Kq.blk_cell HB1.out.bx 2
  have a3 := Kq.blk_cell HB1.out.bx 3
  have a4 := Kq.blk_cell HB1.out.bx 4
  have a5 := Kq.blk_cell HB1.out.bx 5
  have a6 := Kq.blk_cell HB1.out.bx 6
  have a7 := Kq.blk_cell HB1.out.bx 7
  have a8 := Kq.blk_cell HB1.out.bx 8
  simp only [CaV.cells] at a0 a2 a3 a4 a5 a6 a7 a8
  go_wp2_with fail
  refine (HRV.out z2 (HB1.out.tw.ch s HSO.out.1) HLD.out (fun e => HOK.out.2.2.2.2.2.1.1 (HPO.out s _ HSO.out.1 e)) (fun e => HOK.out.2.2.2.2.2.1.2 (HPO.out s _ HSO.out.1 e))).mono ?_
  rintro x w2 hst
  have hx := hst.1
  subst hx
  have HB2 := Lib.hid (HB1.out.step HSO.out.1 hst)
  clear hst HB1 HLD a0 a2 a3 a4 a5 a6 a7 a8
  have r0 := Kq.blk_cell HB2.out.rs 0
  have r1 := Kq.blk_cell HB2.out.rs 1
  have r2 := Kq.blk_cell HB2.out.rs 2
  have r3 := Kq.blk_cell HB2.out.rs 3
  have g0 := Kq.blk_free HB2.out.rs 0
  have g1 := Kq.blk_free HB2.out.rs 1
  have g2 := Kq.blk_free HB2.out.rs 2
  have g3 := Kq.blk_free HB2.out.rs 3
  go_wp2
  obtain ⟨q1, q2, q3⟩ := HB2.out.fill 0 0 0 ⟨#[]⟩
  change bodyPost _ _ _ _ _ (fillW w2 (Y + 1) 0 0 0 ⟨#[]⟩)
  have z0' := Kq.blk_cell q1 0
  have z1' := Kq.blk_cell q1 1
  have z2' := Kq.blk_cell q1 2
  have z3' := Kq.blk_cell q1 3
  generalize fillW w2 (Y + 1) 0 0 0 ⟨#[]⟩ = w9 at *
  refine bodyPost_ret (v := .tuple #[.agg #[.int .i64 0, .int .u64 0, .int .u64 0, .string ⟨#[]⟩], .int .u64 0, .int .i64 er]) (by simp [results, Tryz.results17, go_sem, z0', z1', z2', z3']) rfl ?_
  exact ⟨rfl, q2, q3⟩
end Go.Proofs.YtbjchfcoacmaaaaGreatDoor
namespace Go.Proofs.YtbjchfcoacmaaaaGreatDoor
open Go.RowKit
set_option linter.unusedVariables false
set_option maxRecDepth 100000 in
set_option maxHeartbeats 1000000 in
theorem do_k5t {w : World} {O : Nat → Prop} {X : Nat} {c : Nat → ChV} {m : Nat} (id : Int) (h q t : Nat) (d pd : ByteArray) (f : Int) (hT : TwP w O X c) (hk : TwK m c) (hm : m ≤ 400) (ha : CaOk ⟨5, id, h, d, f, q, t, pd, true⟩) (hL : LaidOk w) (hO : ¬ O 1 ∧ ¬ O 0) : Calls Tryz.prog 17 #[.pointer (some ⟨X, 0, none⟩), .agg #[.int .i64 5, .int .i64 id, .int .u64 (h : Int), .string d, .int .i64 f, .int .u64 (q : Int), .int .u64 (t : Int), .string pd, .bool true]] w (StepT w O X (.tuple #[(doP c ⟨5, id, h, d, f, q, t, pd, true⟩).val, .int .u64 (doH c ⟨5, id, h, d, f, q, t, pd, true⟩ : Int), .int .i64 (doE c ⟨5, id, h, d, f, q, t, pd, true⟩)]) (doV c ⟨5, id, h, d, f, q, t, pd, true⟩)) := by
  obtain ⟨B, P, M, hT⟩ := hT
  obtain ⟨s, hs⟩ : ∃ s, s = sideN id := ⟨_, rfl⟩
  obtain ⟨o, ho⟩ : ∃ o, o = 1 - s := ⟨_, rfl⟩
  have hs2 : s < 2 := by rw [hs]; exact sideN_lt id
  obtain ⟨Y, hY⟩ : ∃ Y, Y = w.heap.size := ⟨_, rfl⟩
  obtain ⟨wb, hwb⟩ : ∃ z, z = (w.alloc (.cells #[.int .i64 5, .int .i64 id, .int .u64 (h : Int), .string d, .int .i64 f, .int .u64 (q : Int), .int .u64 (t : Int), .string pd, .bool true] 50)).alloc (.cells #[.int .i64 0, .int .u64 0, .int .u64 0, .string ⟨#[]⟩] 46) := ⟨_, rfl⟩
  have HB0 : Hid (DoS Y w O O X c ⟨5, id, h, d, f, q, t, pd, true⟩ B P M wb) := Lib.hid (by rw [hwb, hY]; exact DoS.start hT ⟨5, id, h, d, f, q, t, pd, true⟩)
  have HSD := Lib.hid (fun (z : World) (n : Nat) => Calls.quiet_of_same (side_one id (z.drewN n)))
  rw [← hs] at HSD
  have hw1 : IntKind.i64.wrap (1 - (s : Int)) = (o : Int) := by rw [IntWalk.i64_in _ (by omega)]; omega
  have i1 : (s : Int) < 2 := by omega
  have i2 : (o : Int) < 2 := by omega
  have HSO : Hid (s < 2 ∧ o < 2 ∧ CaV.s ⟨5, id, h, d, f, q, t, pd, true⟩ = s ∧ CaV.o ⟨5, id, h, d, f, q, t, pd, true⟩ = o) := Lib.hid ⟨hs2, by omega, hs.symm, by show 1 - sideN id = o; rw [ho, hs]⟩
  have HOK := Lib.hid (And.intro (hk s hs2) (And.intro (hk o (by omega)) (And.intro hm (And.intro ha (And.intro hL (And.intro hO (CaV.pr_size hk hm ha)))))))
  have HYW := Lib.hid hY
  clear hT hk hm ha hL hO hs ho hs2
  have e0 := HSO.out.2.2.1
  have v1 : doV c ⟨5, id, h, d, f, q, t, pd, true⟩ = updF c s (comC (c s)) := by unfold doV doC; rw [e0, if_neg (by simp), if_neg (by simp), if_neg (by simp), if_neg (by simp), if_neg (by simp), if_pos rfl]
  have v2 : doP c ⟨5, id, h, d, f, q, t, pd, true⟩ = zeroPk := by unfold doP; rw [if_neg (by simp)]
  have v3 : doH c ⟨5, id, h, d, f, q, t, pd, true⟩ = (comV (c s).st).2.1 := by unfold doH; rw [if_pos rfl, e0]
  have v4 : doE c ⟨5, id, h, d, f, q, t, pd, true⟩ = (comV (c s).st).2.2 := by unfold doE; rw [e0, if_neg (by simp), if_neg (by simp), if_neg (by simp), if_neg (by simp), if_neg (by simp), if_pos rfl]
  rw [v1, v2, v3, v4]
  have hcr : comR (c s).st = .tuple #[.int .u64 ((comV (c s).st).2.1 : Int), .int .i64 (comV (c s).st).2.2] := rfl
  have HCM := Lib.hid (fun z hc => cn_com (w := z) (O := P s) (B := B s) (c := c s) hc HOK.out.1.ok (by have := HOK.out.1.nb; have := HOK.out.2.2.1; omega))
  rw [hcr] at HCM
  generalize ((comV (c s).st).2.1 : Int) = hn at *
  generalize (comV (c s).st).2.2 = er at *
  generalize comC (c s) = c' at *
  have HZ : Hid (zeroPk.val = .agg #[.int .i64 0, .int .u64 0, .int .u64 0, .string ⟨#[]⟩]) := Lib.hid rfl
  rw [HZ.out]
  clear v1 v2 v3 v4 e0 HZ hcr
  go_enter Tryz.func17, Tryz.ntmps17
  go_wp2
  rw [← hwb, ← hY]
  clear hwb hY
  have a1 := Kq.blk_cell HB0.out.bx 1
  simp only [CaV.cells] at a1
  have x1 := HB0.out.tw.cell s HSO.out.1
  have x2 := HB0.out.tw.cell o HSO.out.2.1
  go_quiet ((first | (go_at_call 20; exact HSD.out _ _)))
  generalize hwq : wb.drewN nq = wq
  have HB1 : Hid (DoS Y w O O X c ⟨5, id, h, d, f, q, t, pd, true⟩ B P M wq) := Lib.hid (by rw [← hwq]; exact HB0.out.below (below_drewN (Below.refl _ _) nq))
  have HLD : Hid (LaidOk wq) := Lib.hid (HOK.out.2.2.2.2.1.keeps HB1.out.kp (fun e => HOK.out.2.2.2.2.2.1.1 e.1) (fun e => HOK.out.2.2.2.2.2.1.2 e.1))
  clear hwq HB0 a1 x1 x2 HSD hw1 i1 i2 nq
  have a0 := Kq.blk_cell HB1.out.bx 0
  have a2 := Kq.blk_cell HB1.out.bx 2
  have a3 := Kq.blk_cell HB1.out.bx 3
  have a4 := Kq.blk_cell HB1.out.bx 4
  have a5 := Kq.blk_cell HB1.out.bx 5
  have a6 := Kq.blk_cell HB1.out.bx 6
  have a7 := Kq.blk_cell HB1.out.bx 7
  have a8 := Kq.blk_cell HB1.out.bx 8
  simp only [CaV.cells] at a0 a2 a3 a4 a5 a6 a7 a8
  go_wp2_with fail
  refine (HCM.out wq (HB1.out.tw.ch s HSO.out.1)).mono ?_
  rintro x w2 hst
  have hx := hst.1
  subst hx
  have HB2 := Lib.hid (HB1.out.step HSO.out.1 hst)
  clear hst HB1 HLD a0 a2 a3 a4 a5 a6 a7 a8
  have r0 := Kq.blk_cell HB2.out.rs 0
  have r1 := Kq.blk_cell HB2.out.rs 1
  have r2 := Kq.blk_cell HB2.out.rs 2
  have r3 := Kq.blk_cell HB2.out.rs 3
  have g0 := Kq.blk_free HB2.out.rs 0
  have g1 := Kq.blk_free HB2.out.rs 1
  have g2 := Kq.blk_free HB2.out.rs 2
  have g3 := Kq.blk_free HB2.out.rs 3
  go_wp2
  obtain ⟨q1, q2, q3⟩ := HB2.out.fill 0 0 0 ⟨#[]⟩
  change bodyPost _ _ _ _ _ (fillW w2 (Y + 1) 0 0 0 ⟨#[]⟩)
  have z0' := Kq.blk_cell q1 0
  have z1' := Kq.blk_cell q1 1
  have z2' := Kq.blk_cell q1 2
  have z3' := Kq.blk_cell q1 3
  generalize fillW w2 (Y + 1) 0 0 0 ⟨#[]⟩ = w9 at *
  refine bodyPost_ret (v := .tuple #[.agg #[.int .i64 0, .int .u64 0, .int .u64 0, .string ⟨#[]⟩], .int .u64 hn, .int .i64 er]) (by simp [results, Tryz.results17, go_sem, z0', z1', z2', z3']) rfl ?_
  exact ⟨rfl, q2, q3⟩
set_option maxRecDepth 100000 in
set_option maxHeartbeats 1000000 in
theorem do_k5f {w : World} {O : Nat → Prop} {X : Nat} {c : Nat → ChV} {m : Nat} (id : Int) (h q t : Nat) (d pd : ByteArray) (f : Int) (hT : TwP w O X c) (hk : TwK m c) (hm : m ≤ 400) (ha : CaOk ⟨5, id, h, d, f, q, t, pd, false⟩) (hL : LaidOk w) (hO : ¬ O 1 ∧ ¬ O 0) : Calls Tryz.prog 17 #[.pointer (some ⟨X, 0, none⟩), .agg #[.int .i64 5, .int .i64 id, .int .u64 (h : Int), .string d, .int .i64 f, .int .u64 (q : Int), .int .u64 (t : Int), .string pd, .bool false]] w (StepT w O X (.tuple #[(doP c ⟨5, id, h, d, f, q, t, pd, false⟩).val, .int .u64 (doH c ⟨5, id, h, d, f, q, t, pd, false⟩ : Int), .int .i64 (doE c ⟨5, id, h, d, f, q, t, pd, false⟩)]) (doV c ⟨5, id, h, d, f, q, t, pd, false⟩)) := by
  obtain ⟨B, P, M, hT⟩ := hT
  obtain ⟨s, hs⟩ : ∃ s, s = sideN id := ⟨_, rfl⟩
  obtain ⟨o, ho⟩ : ∃ o, o = 1 - s := ⟨_, rfl⟩
  have hs2 : s < 2 := by rw [hs]; exact sideN_lt id
  obtain ⟨Y, hY⟩ : ∃ Y, Y = w.heap.size := ⟨_, rfl⟩
  obtain ⟨wb, hwb⟩ : ∃ z, z = (w.alloc (.cells #[.int .i64 5, .int .i64 id, .int .u64 (h : Int), .string d, .int .i64 f, .int .u64 (q : Int), .int .u64 (t : Int), .string pd, .bool false] 50)).alloc (.cells #[.int .i64 0, .int .u64 0, .int .u64 0, .string ⟨#[]⟩] 46) := ⟨_, rfl⟩
  have HB0 : Hid (DoS Y w O O X c ⟨5, id, h, d, f, q, t, pd, false⟩ B P M wb) := Lib.hid (by rw [hwb, hY]; exact DoS.start hT ⟨5, id, h, d, f, q, t, pd, false⟩)
  have HSD := Lib.hid (fun (z : World) (n : Nat) => Calls.quiet_of_same (side_one id (z.drewN n)))
  rw [← hs] at HSD
  have hw1 : IntKind.i64.wrap (1 - (s : Int)) = (o : Int) := by rw [IntWalk.i64_in _ (by omega)]; omega
  have i1 : (s : Int) < 2 := by omega
  have i2 : (o : Int) < 2 := by omega
  have HSO : Hid (s < 2 ∧ o < 2 ∧ CaV.s ⟨5, id, h, d, f, q, t, pd, false⟩ = s ∧ CaV.o ⟨5, id, h, d, f, q, t, pd, false⟩ = o) := Lib.hid ⟨hs2, by omega, hs.symm, by show 1 - sideN id = o; rw [ho, hs]⟩
  have HOK := Lib.hid (And.intro (hk s hs2) (And.intro (hk o (by omega)) (And.intro hm (And.intro ha (And.intro hL (And.intro hO (CaV.pr_size hk hm ha)))))))
  have HYW := Lib.hid hY
  clear hT hk hm ha hL hO hs ho hs2
  have e0 := HSO.out.2.2.1
  have v1 : doV c ⟨5, id, h, d, f, q, t, pd, false⟩ = updF c s (comC (c s)) := by unfold doV doC; rw [e0, if_neg (by simp), if_neg (by simp), if_neg (by simp), if_neg (by simp), if_neg (by simp), if_pos rfl]
  have v2 : doP c ⟨5, id, h, d, f, q, t, pd, false⟩ = zeroPk := by unfold doP; rw [if_neg (by simp)]
  have v3 : doH c ⟨5, id, h, d, f, q, t, pd, false⟩ = (comV (c s).st).2.1 := by unfold doH; rw [if_pos rfl, e0]
  have v4 : doE c ⟨5, id, h, d, f, q, t, pd, false⟩ = (comV (c s).st).2.2 := by unfold doE; rw [e0, if_neg (by simp), if_neg (by simp), if_neg (by simp), if_neg (by simp), if_neg (by simp), if_pos rfl]
  rw [v1, v2, v3, v4]
  have hcr : comR (c s).st = .tuple #[.int .u64 ((comV (c s).st).2.1 : Int), .int .i64 (comV (c s).st).2.2] := rfl
  have HCM := Lib.hid (fun z hc => cn_com (w := z) (O := P s) (B := B s) (c := c s) hc HOK.out.1.ok (by have := HOK.out.1.nb; have := HOK.out.2.2.1; omega))
  rw [hcr] at HCM
  generalize ((comV (c s).st).2.1 : Int) = hn at *
  generalize (comV (c s).st).2.2 = er at *
  generalize comC (c s) = c' at *
  have HZ : Hid (zeroPk.val = .agg #[.int .i64 0, .int .u64 0, .int .u64 0, .string ⟨#[]⟩]) := Lib.hid rfl
  rw [HZ.out]
  clear v1 v2 v3 v4 e0 HZ hcr
  go_enter Tryz.func17, Tryz.ntmps17
  go_wp2
  rw [← hwb, ← hY]
  clear hwb hY
  have a1 := Kq.blk_cell HB0.out.bx 1
  simp only [CaV.cells] at a1
  have x1 := HB0.out.tw.cell s HSO.out.1
  have x2 := HB0.out.tw.cell o HSO.out.2.1
  go_quiet ((first | (go_at_call 20; exact HSD.out _ _)))
  generalize hwq : wb.drewN nq = wq
  have HB1 : Hid (DoS Y w O O X c ⟨5, id, h, d, f, q, t, pd, false⟩ B P M wq) := Lib.hid (by rw [← hwq]; exact HB0.out.below (below_drewN (Below.refl _ _) nq))
  have HLD : Hid (LaidOk wq) := Lib.hid (HOK.out.2.2.2.2.1.keeps HB1.out.kp (fun e => HOK.out.2.2.2.2.2.1.1 e.1) (fun e => HOK.out.2.2.2.2.2.1.2 e.1))
  clear hwq HB0 a1 x1 x2 HSD hw1 i1 i2 nq
  have a0 := Kq.blk_cell HB1.out.bx 0
  have a2 := Kq.blk_cell HB1.out.bx 2
  have a3 := Kq.blk_cell HB1.out.bx 3
  have a4 := Kq.blk_cell HB1.out.bx 4
  have a5 := Kq.blk_cell HB1.out.bx 5
  have a6 := Kq.blk_cell HB1.out.bx 6
  have a7 := Kq.blk_cell HB1.out.bx 7
  have a8 := Kq.blk_cell HB1.out.bx 8
  simp only [CaV.cells] at a0 a2 a3 a4 a5 a6 a7 a8
  go_wp2_with fail
  refine (HCM.out wq (HB1.out.tw.ch s HSO.out.1)).mono ?_
  rintro x w2 hst
  have hx := hst.1
  subst hx
  have HB2 := Lib.hid (HB1.out.step HSO.out.1 hst)
  clear hst HB1 HLD a0 a2 a3 a4 a5 a6 a7 a8
  have r0 := Kq.blk_cell HB2.out.rs 0
  have r1 := Kq.blk_cell HB2.out.rs 1
  have r2 := Kq.blk_cell HB2.out.rs 2
  have r3 := Kq.blk_cell HB2.out.rs 3
  have g0 := Kq.blk_free HB2.out.rs 0
  have g1 := Kq.blk_free HB2.out.rs 1
  have g2 := Kq.blk_free HB2.out.rs 2
  have g3 := Kq.blk_free HB2.out.rs 3
  go_wp2
  obtain ⟨q1, q2, q3⟩ := HB2.out.fill 0 0 0 ⟨#[]⟩
  change bodyPost _ _ _ _ _ (fillW w2 (Y + 1) 0 0 0 ⟨#[]⟩)
  have z0' := Kq.blk_cell q1 0
  have z1' := Kq.blk_cell q1 1
  have z2' := Kq.blk_cell q1 2
  have z3' := Kq.blk_cell q1 3
  generalize fillW w2 (Y + 1) 0 0 0 ⟨#[]⟩ = w9 at *
  refine bodyPost_ret (v := .tuple #[.agg #[.int .i64 0, .int .u64 0, .int .u64 0, .string ⟨#[]⟩], .int .u64 hn, .int .i64 er]) (by simp [results, Tryz.results17, go_sem, z0', z1', z2', z3']) rfl ?_
  exact ⟨rfl, q2, q3⟩
set_option maxRecDepth 100000 in
set_option maxHeartbeats 1000000 in
theorem do_kot {w : World} {O : Nat → Prop} {X : Nat} {c : Nat → ChV} {m : Nat} (kd : Int) (id : Int) (h q t : Nat) (d pd : ByteArray) (f : Int) (hn : kd ≠ 0 ∧ kd ≠ 1 ∧ kd ≠ 2 ∧ kd ≠ 3 ∧ kd ≠ 4 ∧ kd ≠ 5) (hT : TwP w O X c) (hk : TwK m c) (hm : m ≤ 400) (ha : CaOk ⟨kd, id, h, d, f, q, t, pd, true⟩) (hL : LaidOk w) (hO : ¬ O 1 ∧ ¬ O 0) : Calls Tryz.prog 17 #[.pointer (some ⟨X, 0, none⟩), .agg #[.int .i64 kd, .int .i64 id, .int .u64 (h : Int), .string d, .int .i64 f, .int .u64 (q : Int), .int .u64 (t : Int), .string pd, .bool true]] w (StepT w O X (.tuple #[(doP c ⟨kd, id, h, d, f, q, t, pd, true⟩).val, .int .u64 (doH c ⟨kd, id, h, d, f, q, t, pd, true⟩ : Int), .int .i64 (doE c ⟨kd, id, h, d, f, q, t, pd, true⟩)]) (doV c ⟨kd, id, h, d, f, q, t, pd, true⟩)) := by
  obtain ⟨B, P, M, hT⟩ := hT
  obtain ⟨s, hs⟩ : ∃ s, s = sideN id := ⟨_, rfl⟩
  obtain ⟨o, ho⟩ : ∃ o, o = 1 - s := ⟨_, rfl⟩
  have hs2 : s < 2 := by rw [hs]; exact sideN_lt id
  obtain ⟨Y, hY⟩ : ∃ Y, Y = w.heap.size := ⟨_, rfl⟩
  obtain ⟨wb, hwb⟩ : ∃ z, z = (w.alloc (.cells #[.int .i64 kd, .int .i64 id, .int .u64 (h : Int), .string d, .int .i64 f, .int .u64 (q : Int), .int .u64 (t : Int), .string pd, .bool true] 50)).alloc (.cells #[.int .i64 0, .int .u64 0, .int .u64 0, .string ⟨#[]⟩] 46) := ⟨_, rfl⟩
  have HB0 : Hid (DoS Y w O O X c ⟨kd, id, h, d, f, q, t, pd, true⟩ B P M wb) := Lib.hid (by rw [hwb, hY]; exact DoS.start hT ⟨kd, id, h, d, f, q, t, pd, true⟩)
  have HSD := Lib.hid (fun (z : World) (n : Nat) => Calls.quiet_of_same (side_one id (z.drewN n)))
  rw [← hs] at HSD
  have hw1 : IntKind.i64.wrap (1 - (s : Int)) = (o : Int) := by rw [IntWalk.i64_in _ (by omega)]; omega
  have i1 : (s : Int) < 2 := by omega
  have i2 : (o : Int) < 2 := by omega
  have HSO : Hid (s < 2 ∧ o < 2 ∧ CaV.s ⟨kd, id, h, d, f, q, t, pd, true⟩ = s ∧ CaV.o ⟨kd, id, h, d, f, q, t, pd, true⟩ = o) := Lib.hid ⟨hs2, by omega, hs.symm, by show 1 - sideN id = o; rw [ho, hs]⟩
  have HOK := Lib.hid (And.intro (hk s hs2) (And.intro (hk o (by omega)) (And.intro hm (And.intro ha (And.intro hL (And.intro hO (CaV.pr_size hk hm ha)))))))
  have HYW := Lib.hid hY
  clear hT hk hm ha hL hO hs ho hs2
  have e0 := HSO.out.2.2.1
  have v1 : doV c ⟨kd, id, h, d, f, q, t, pd, true⟩ = c := by unfold doV doC; rw [if_neg hn.1, if_neg hn.2.1, if_neg hn.2.2.1, if_neg hn.2.2.2.1, if_neg hn.2.2.2.2.1, if_neg hn.2.2.2.2.2, e0, updF_same]
  have v2 : doP c ⟨kd, id, h, d, f, q, t, pd, true⟩ = zeroPk := by unfold doP; rw [if_neg hn.1]
  have v3 : doH c ⟨kd, id, h, d, f, q, t, pd, true⟩ = 0 := by unfold doH; rw [if_neg hn.2.2.2.2.2]
  have v4 : doE c ⟨kd, id, h, d, f, q, t, pd, true⟩ = 0 := by unfold doE; rw [if_neg hn.1, if_neg hn.2.1, if_neg hn.2.2.1, if_neg hn.2.2.2.1, if_neg hn.2.2.2.2.1, if_neg hn.2.2.2.2.2]
  rw [v1, v2, v3, v4]
  have HZ : Hid (zeroPk.val = .agg #[.int .i64 0, .int .u64 0, .int .u64 0, .string ⟨#[]⟩]) := Lib.hid rfl
  rw [HZ.out]
  obtain ⟨n0, n1, n2, n3, n4, n5⟩ := hn
  have d0 : (kd == 0) = false := by rw [beq_eq_false_iff_ne]; exact n0
  have d1 : (kd == 1) = false := by rw [beq_eq_false_iff_ne]; exact n1
  have d2 : (kd == 2) = false := by rw [beq_eq_false_iff_ne]; exact n2
  have d3 : (kd == 3) = false := by rw [beq_eq_false_iff_ne]; exact n3
  have d4 : (kd == 4) = false := by rw [beq_eq_false_iff_ne]; exact n4
  have d5 : (kd == 5) = false := by rw [beq_eq_false_iff_ne]; exact n5
  clear v1 v2 v3 v4 e0 HZ
  go_enter Tryz.func17, Tryz.ntmps17
  go_wp2
  rw [← hwb, ← hY]
  clear hwb hY
  have a1 := Kq.blk_cell HB0.out.bx 1
  simp only [CaV.cells] at a1
  have x1 := HB0.out.tw.cell s HSO.out.1
  have x2 := HB0.out.tw.cell o HSO.out.2.1
  go_quiet ((first | (go_at_call 20; exact HSD.out _ _)))
  generalize hwq : wb.drewN nq = wq
  have HB1 : Hid (DoS Y w O O X c ⟨kd, id, h, d, f, q, t, pd, true⟩ B P M wq) := Lib.hid (by rw [← hwq]; exact HB0.out.below (below_drewN (Below.refl _ _) nq))
  have HLD : Hid (LaidOk wq) := Lib.hid (HOK.out.2.2.2.2.1.keeps HB1.out.kp (fun e => HOK.out.2.2.2.2.2.1.1 e.1) (fun e => HOK.out.2.2.2.2.2.1.2 e.1))
  clear hwq HB0 a1 x1 x2 HSD hw1 i1 i2 nq
  have a0 := Kq.blk_cell HB1.out.bx 0
  have a2 := Kq.blk_cell HB1.out.bx 2
  have a3 := Kq.blk_cell HB1.out.bx 3
  have a4 := Kq.blk_cell HB1.out.bx 4
  have a5 := Kq.blk_cell HB1.out.bx 5
  have a6 := Kq.blk_cell HB1.out.bx 6
  have a7 := Kq.blk_cell HB1.out.bx 7
  have a8 := Kq.blk_cell HB1.out.bx 8
  simp only [CaV.cells] at a0 a2 a3 a4 a5 a6 a7 a8
  clear HLD
  have r0 := Kq.blk_cell HB1.out.rs 0
  have r1 := Kq.blk_cell HB1.out.rs 1
  have r2 := Kq.blk_cell HB1.out.rs 2
  have r3 := Kq.blk_cell HB1.out.rs 3
  have g0 := Kq.blk_free HB1.out.rs 0
  have g1 := Kq.blk_free HB1.out.rs 1
  have g2 := Kq.blk_free HB1.out.rs 2
  have g3 := Kq.blk_free HB1.out.rs 3
  go_wp2
  obtain ⟨q1, q2, q3⟩ := HB1.out.fill 0 0 0 ⟨#[]⟩
  change bodyPost _ _ _ _ _ (fillW wq (Y + 1) 0 0 0 ⟨#[]⟩)
  have z0' := Kq.blk_cell q1 0
  have z1' := Kq.blk_cell q1 1
  have z2' := Kq.blk_cell q1 2
  have z3' := Kq.blk_cell q1 3
  generalize fillW wq (Y + 1) 0 0 0 ⟨#[]⟩ = w9 at *
  refine bodyPost_ret (v := .tuple #[.agg #[.int .i64 0, .int .u64 0, .int .u64 0, .string ⟨#[]⟩], .int .u64 0, .int .i64 0]) (by simp [results, Tryz.results17, go_sem, z0', z1', z2', z3']) rfl ?_
  exact ⟨rfl, q2, q3⟩
set_option maxRecDepth 100000 in
set_option maxHeartbeats 1000000 in
theorem do_kofl {w : World} {O : Nat → Prop} {X : Nat} {c : Nat → ChV} {m : Nat} (kd : Int) (id : Int) (h q t : Nat) (d pd : ByteArray) (f : Int) (hn : kd ≠ 0 ∧ kd ≠ 1 ∧ kd ≠ 2 ∧ kd ≠ 3 ∧ kd ≠ 4 ∧ kd ≠ 5) (hlo : kd < 2) (hT : TwP w O X c) (hk : TwK m c) (hm : m ≤ 400) (ha : CaOk ⟨kd, id, h, d, f, q, t, pd, false⟩) (hL : LaidOk w) (hO : ¬ O 1 ∧ ¬ O 0) : Calls Tryz.prog 17 #[.pointer (some ⟨X, 0, none⟩), .agg #[.int .i64 kd, .int .i64 id, .int .u64 (h : Int), .string d, .int .i64 f, .int .u64 (q : Int), .int .u64 (t : Int), .string pd, .bool false]] w (StepT w O X (.tuple #[(doP c ⟨kd, id, h, d, f, q, t, pd, false⟩).val, .int .u64 (doH c ⟨kd, id, h, d, f, q, t, pd, false⟩ : Int), .int .i64 (doE c ⟨kd, id, h, d, f, q, t, pd, false⟩)]) (doV c ⟨kd, id, h, d, f, q, t, pd, false⟩)) := by
  obtain ⟨B, P, M, hT⟩ := hT
  obtain ⟨s, hs⟩ : ∃ s, s = sideN id := ⟨_, rfl⟩
  obtain ⟨o, ho⟩ : ∃ o, o = 1 - s := ⟨_, rfl⟩
  have hs2 : s < 2 := by rw [hs]; exact sideN_lt id
  obtain ⟨Y, hY⟩ : ∃ Y, Y = w.heap.size := ⟨_, rfl⟩
  obtain ⟨wb, hwb⟩ : ∃ z, z = (w.alloc (.cells #[.int .i64 kd, .int .i64 id, .int .u64 (h : Int), .string d, .int .i64 f, .int .u64 (q : Int), .int .u64 (t : Int), .string pd, .bool false] 50)).alloc (.cells #[.int .i64 0, .int .u64 0, .int .u64 0, .string ⟨#[]⟩] 46) := ⟨_, rfl⟩
  have HB0 : Hid (DoS Y w O O X c ⟨kd, id, h, d, f, q, t, pd, false⟩ B P M wb) := Lib.hid (by rw [hwb, hY]; exact DoS.start hT ⟨kd, id, h, d, f, q, t, pd, false⟩)
  have HSD := Lib.hid (fun (z : World) (n : Nat) => Calls.quiet_of_same (side_one id (z.drewN n)))
  rw [← hs] at HSD
  have hw1 : IntKind.i64.wrap (1 - (s : Int)) = (o : Int) := by rw [IntWalk.i64_in _ (by omega)]; omega
  have i1 : (s : Int) < 2 := by omega
  have i2 : (o : Int) < 2 := by omega
  have HSO : Hid (s < 2 ∧ o < 2 ∧ CaV.s ⟨kd, id, h, d, f, q, t, pd, false⟩ = s ∧ CaV.o ⟨kd, id, h, d, f, q, t, pd, false⟩ = o) := Lib.hid ⟨hs2, by omega, hs.symm, by show 1 - sideN id = o; rw [ho, hs]⟩
  have HOK := Lib.hid (And.intro (hk s hs2) (And.intro (hk o (by omega)) (And.intro hm (And.intro ha (And.intro hL (And.intro hO (CaV.pr_size hk hm ha)))))))
  have HYW := Lib.hid hY
  clear hT hk hm ha hL hO hs ho hs2
  have e0 := HSO.out.2.2.1
  have v1 : doV c ⟨kd, id, h, d, f, q, t, pd, false⟩ = c := by unfold doV doC; rw [if_neg hn.1, if_neg hn.2.1, if_neg hn.2.2.1, if_neg hn.2.2.2.1, if_neg hn.2.2.2.2.1, if_neg hn.2.2.2.2.2, e0, updF_same]
  have v2 : doP c ⟨kd, id, h, d, f, q, t, pd, false⟩ = zeroPk := by unfold doP; rw [if_neg hn.1]
  have v3 : doH c ⟨kd, id, h, d, f, q, t, pd, false⟩ = 0 := by unfold doH; rw [if_neg hn.2.2.2.2.2]
  have v4 : doE c ⟨kd, id, h, d, f, q, t, pd, false⟩ = 0 := by unfold doE; rw [if_neg hn.1, if_neg hn.2.1, if_neg hn.2.2.1, if_neg hn.2.2.2.1, if_neg hn.2.2.2.2.1, if_neg hn.2.2.2.2.2]
  rw [v1, v2, v3, v4]
  have HZ : Hid (zeroPk.val = .agg #[.int .i64 0, .int .u64 0, .int .u64 0, .string ⟨#[]⟩]) := Lib.hid rfl
  rw [HZ.out]
  obtain ⟨n0, n1, n2, n3, n4, n5⟩ := hn
  have d0 : (kd == 0) = false := by rw [beq_eq_false_iff_ne]; exact n0
  have d1 : (kd == 1) = false := by rw [beq_eq_false_iff_ne]; exact n1
  have d2 : (kd == 2) = false := by rw [beq_eq_false_iff_ne]; exact n2
  have d3 : (kd == 3) = false := by rw [beq_eq_false_iff_ne]; exact n3
  have d4 : (kd == 4) = false := by rw [beq_eq_false_iff_ne]; exact n4
  have d5 : (kd == 5) = false := by rw [beq_eq_false_iff_ne]; exact n5
  have g2 : decide (2 ≤ kd) = false := decide_eq_false (by omega)
  have g2' : ¬ 2 ≤ kd := by omega
  clear v1 v2 v3 v4 e0 HZ
  go_enter Tryz.func17, Tryz.ntmps17
  go_wp2
  rw [← hwb, ← hY]
  clear hwb hY
  have a1 := Kq.blk_cell HB0.out.bx 1
  simp only [CaV.cells] at a1
  have x1 := HB0.out.tw.cell s HSO.out.1
  have x2 := HB0.out.tw.cell o HSO.out.2.1
  go_quiet ((first | (go_at_call 20; exact HSD.out _ _)))
  generalize hwq : wb.drewN nq = wq
  have HB1 : Hid (DoS Y w O O X c ⟨kd, id, h, d, f, q, t, pd, false⟩ B P M wq) := Lib.hid (by rw [← hwq]; exact HB0.out.below (below_drewN (Below.refl _ _) nq))
  have HLD : Hid (LaidOk wq) := Lib.hid (HOK.out.2.2.2.2.1.keeps HB1.out.kp (fun e => HOK.out.2.2.2.2.2.1.1 e.1) (fun e => HOK.out.2.2.2.2.2.1.2 e.1))
  clear hwq HB0 a1 x1 x2 HSD hw1 i1 i2 nq
  have a0 := Kq.blk_cell HB1.out.bx 0
  have a2 := Kq.blk_cell HB1.out.bx 2
  have a3 := Kq.blk_cell HB1.out.bx 3
  have a4 := Kq.blk_cell HB1.out.bx 4
  have a5 := Kq.blk_cell HB1.out.bx 5
  have a6 := Kq.blk_cell HB1.out.bx 6
  have a7 := Kq.blk_cell HB1.out.bx 7
  have a8 := Kq.blk_cell HB1.out.bx 8
  simp only [CaV.cells] at a0 a2 a3 a4 a5 a6 a7 a8
  clear HLD
  have r0 := Kq.blk_cell HB1.out.rs 0
  have r1 := Kq.blk_cell HB1.out.rs 1
  have r2 := Kq.blk_cell HB1.out.rs 2
  have r3 := Kq.blk_cell HB1.out.rs 3
  have g0 := Kq.blk_free HB1.out.rs 0
  have g1 := Kq.blk_free HB1.out.rs 1
  have g2 := Kq.blk_free HB1.out.rs 2
  have g3 := Kq.blk_free HB1.out.rs 3
  go_wp2
  obtain ⟨q1, q2, q3⟩ := HB1.out.fill 0 0 0 ⟨#[]⟩
  change bodyPost _ _ _ _ _ (fillW wq (Y + 1) 0 0 0 ⟨#[]⟩)
  have z0' := Kq.blk_cell q1 0
  have z1' := Kq.blk_cell q1 1
  have z2' := Kq.blk_cell q1 2
  have z3' := Kq.blk_cell q1 3
  generalize fillW wq (Y + 1) 0 0 0 ⟨#[]⟩ = w9 at *
  refine bodyPost_ret (v := .tuple #[.agg #[.int .i64 0, .int .u64 0, .int .u64 0, .string ⟨#[]⟩], .int .u64 0, .int .i64 0]) (by simp [results, Tryz.results17, go_sem, z0', z1', z2', z3']) rfl ?_
  exact ⟨rfl, q2, q3⟩
set_option maxRecDepth 100000 in
set_option maxHeartbeats 1000000 in
theorem do_kofh {w : World} {O : Nat → Prop} {X : Nat} {c : Nat → ChV} {m : Nat} (kd : Int) (id : Int) (h q t : Nat) (d pd : ByteArray) (f : Int) (hn : kd ≠ 0 ∧ kd ≠ 1 ∧ kd ≠ 2 ∧ kd ≠ 3 ∧ kd ≠ 4 ∧ kd ≠ 5) (hlo : 4 < kd) (hT : TwP w O X c) (hk : TwK m c) (hm : m ≤ 400) (ha : CaOk ⟨kd, id, h, d, f, q, t, pd, false⟩) (hL : LaidOk w) (hO : ¬ O 1 ∧ ¬ O 0) : Calls Tryz.prog 17 #[.pointer (some ⟨X, 0, none⟩), .agg #[.int .i64 kd, .int .i64 id, .int .u64 (h : Int), .string d, .int .i64 f, .int .u64 (q : Int), .int .u64 (t : Int), .string pd, .bool false]] w (StepT w O X (.tuple #[(doP c ⟨kd, id, h, d, f, q, t, pd, false⟩).val, .int .u64 (doH c ⟨kd, id, h, d, f, q, t, pd, false⟩ : Int), .int .i64 (doE c ⟨kd, id, h, d, f, q, t, pd, false⟩)]) (doV c ⟨kd, id, h, d, f, q, t, pd, false⟩)) := by
  obtain ⟨B, P, M, hT⟩ := hT
  obtain ⟨s, hs⟩ : ∃ s, s = sideN id := ⟨_, rfl⟩
  obtain ⟨o, ho⟩ : ∃ o, o = 1 - s := ⟨_, rfl⟩
  have hs2 : s < 2 := by rw [hs]; exact sideN_lt id
  obtain ⟨Y, hY⟩ : ∃ Y, Y = w.heap.size := ⟨_, rfl⟩
  obtain ⟨wb, hwb⟩ : ∃ z, z = (w.alloc (.cells #[.int .i64 kd, .int .i64 id, .int .u64 (h : Int), .string d, .int .i64 f, .int .u64 (q : Int), .int .u64 (t : Int), .string pd, .bool false] 50)).alloc (.cells #[.int .i64 0, .int .u64 0, .int .u64 0, .string ⟨#[]⟩] 46) := ⟨_, rfl⟩
  have HB0 : Hid (DoS Y w O O X c ⟨kd, id, h, d, f, q, t, pd, false⟩ B P M wb) := Lib.hid (by rw [hwb, hY]; exact DoS.start hT ⟨kd, id, h, d, f, q, t, pd, false⟩)
  have HSD := Lib.hid (fun (z : World) (n : Nat) => Calls.quiet_of_same (side_one id (z.drewN n)))
  rw [← hs] at HSD
  have hw1 : IntKind.i64.wrap (1 - (s : Int)) = (o : Int) := by rw [IntWalk.i64_in _ (by omega)]; omega
  have i1 : (s : Int) < 2 := by omega
  have i2 : (o : Int) < 2 := by omega
  have HSO : Hid (s < 2 ∧ o < 2 ∧ CaV.s ⟨kd, id, h, d, f, q, t, pd, false⟩ = s ∧ CaV.o ⟨kd, id, h, d, f, q, t, pd, false⟩ = o) := Lib.hid ⟨hs2, by omega, hs.symm, by show 1 - sideN id = o; rw [ho, hs]⟩
  have HOK := Lib.hid (And.intro (hk s hs2) (And.intro (hk o (by omega)) (And.intro hm (And.intro ha (And.intro hL (And.intro hO (CaV.pr_size hk hm ha)))))))
  have HYW := Lib.hid hY
  clear hT hk hm ha hL hO hs ho hs2
  have e0 := HSO.out.2.2.1
  have v1 : doV c ⟨kd, id, h, d, f, q, t, pd, false⟩ = c := by unfold doV doC; rw [if_neg hn.1, if_neg hn.2.1, if_neg hn.2.2.1, if_neg hn.2.2.2.1, if_neg hn.2.2.2.2.1, if_neg hn.2.2.2.2.2, e0, updF_same]
  have v2 : doP c ⟨kd, id, h, d, f, q, t, pd, false⟩ = zeroPk := by unfold doP; rw [if_neg hn.1]
  have v3 : doH c ⟨kd, id, h, d, f, q, t, pd, false⟩ = 0 := by unfold doH; rw [if_neg hn.2.2.2.2.2]
  have v4 : doE c ⟨kd, id, h, d, f, q, t, pd, false⟩ = 0 := by unfold doE; rw [if_neg hn.1, if_neg hn.2.1, if_neg hn.2.2.1, if_neg hn.2.2.2.1, if_neg hn.2.2.2.2.1, if_neg hn.2.2.2.2.2]
  rw [v1, v2, v3, v4]
  have HZ : Hid (zeroPk.val = .agg #[.int .i64 0, .int .u64 0, .int .u64 0, .string ⟨#[]⟩]) := Lib.hid rfl
  rw [HZ.out]
  obtain ⟨n0, n1, n2, n3, n4, n5⟩ := hn
  have d0 : (kd == 0) = false := by rw [beq_eq_false_iff_ne]; exact n0
  have d1 : (kd == 1) = false := by rw [beq_eq_false_iff_ne]; exact n1
  have d2 : (kd == 2) = false := by rw [beq_eq_false_iff_ne]; exact n2
  have d3 : (kd == 3) = false := by rw [beq_eq_false_iff_ne]; exact n3
  have d4 : (kd == 4) = false := by rw [beq_eq_false_iff_ne]; exact n4
  have d5 : (kd == 5) = false := by rw [beq_eq_false_iff_ne]; exact n5
  have g2 : decide (2 ≤ kd) = true := decide_eq_true (by omega)
  have g4 : decide (kd ≤ 4) = false := decide_eq_false (by omega)
  clear v1 v2 v3 v4 e0 HZ
  go_enter Tryz.func17, Tryz.ntmps17
  go_wp2
  rw [← hwb, ← hY]
  clear hwb hY
  have a1 := Kq.blk_cell HB0.out.bx 1
  simp only [CaV.cells] at a1
  have x1 := HB0.out.tw.cell s HSO.out.1
  have x2 := HB0.out.tw.cell o HSO.out.2.1
  go_quiet ((first | (go_at_call 20; exact HSD.out _ _)))
  generalize hwq : wb.drewN nq = wq
  have HB1 : Hid (DoS Y w O O X c ⟨kd, id, h, d, f, q, t, pd, false⟩ B P M wq) := Lib.hid (by rw [← hwq]; exact HB0.out.below (below_drewN (Below.refl _ _) nq))
  have HLD : Hid (LaidOk wq) := Lib.hid (HOK.out.2.2.2.2.1.keeps HB1.out.kp (fun e => HOK.out.2.2.2.2.2.1.1 e.1) (fun e => HOK.out.2.2.2.2.2.1.2 e.1))
  clear hwq HB0 a1 x1 x2 HSD hw1 i1 i2 nq
  have a0 := Kq.blk_cell HB1.out.bx 0
  have a2 := Kq.blk_cell HB1.out.bx 2
  have a3 := Kq.blk_cell HB1.out.bx 3
  have a4 := Kq.blk_cell HB1.out.bx 4
  have a5 := Kq.blk_cell HB1.out.bx 5
  have a6 := Kq.blk_cell HB1.out.bx 6
  have a7 := Kq.blk_cell HB1.out.bx 7
  have a8 := Kq.blk_cell HB1.out.bx 8
  simp only [CaV.cells] at a0 a2 a3 a4 a5 a6 a7 a8
  clear HLD
  have r0 := Kq.blk_cell HB1.out.rs 0
  have r1 := Kq.blk_cell HB1.out.rs 1
  have r2 := Kq.blk_cell HB1.out.rs 2
  have r3 := Kq.blk_cell HB1.out.rs 3
  have g0 := Kq.blk_free HB1.out.rs 0
  have g1 := Kq.blk_free HB1.out.rs 1
  have g2 := Kq.blk_free HB1.out.rs 2
  have g3 := Kq.blk_free HB1.out.rs 3
  go_wp2
  obtain ⟨q1, q2, q3⟩ := HB1.out.fill 0 0 0 ⟨#[]⟩
  change bodyPost _ _ _ _ _ (fillW wq (Y + 1) 0 0 0 ⟨#[]⟩)
  have z0' := Kq.blk_cell q1 0
  have z1' := Kq.blk_cell q1 1
  have z2' := Kq.blk_cell q1 2
  have z3' := Kq.blk_cell q1 3
  generalize fillW wq (Y + 1) 0 0 0 ⟨#[]⟩ = w9 at *
  refine bodyPost_ret (v := .tuple #[.agg #[.int .i64 0, .int .u64 0, .int .u64 0, .string ⟨#[]⟩], .int .u64 0, .int .i64 0]) (by simp [results, Tryz.results17, go_sem, z0', z1', z2', z3']) rfl ?_
  exact ⟨rfl, q2, q3⟩
end Go.Proofs.YtbjchfcoacmaaaaGreatDoor
namespace Go.Proofs.YtbjchfcoacmaaaaGreatDoor
open Go.RowKit
set_option linter.unusedVariables false
/-- any call -/
theorem tw_do {w : World} {O : Nat → Prop} {X : Nat} {c : Nat → ChV} {m : Nat} (a : CaV) (hT : TwP w O X c) (hk : TwK m c) (hm : m ≤ 400) (ha : CaOk a) (hL : LaidOk w) (hO : ¬ O 1 ∧ ¬ O 0) : Calls Tryz.prog 17 #[.pointer (some ⟨X, 0, none⟩), .agg #[.int .i64 a.kd, .int .i64 a.id, .int .u64 (a.h : Int), .string a.d, .int .i64 a.f, .int .u64 (a.q : Int), .int .u64 (a.t : Int), .string a.pd, .bool a.sp]] w (StepT w O X (.tuple #[(doP c a).val, .int .u64 (doH c a : Int), .int .i64 (doE c a)]) (doV c a)) := by
  obtain ⟨kd, id, h, d, f, q, t, pd, sp⟩ := a
  by_cases e0 : kd = 0
  · subst e0; cases sp
    · exact do_k0f id h q t d pd f hT hk hm ha hL hO
    · exact do_k0t id h q t d pd f hT hk hm ha hL hO
  by_cases e1 : kd = 1
  · subst e1
    by_cases er : (rootV (c (1 - sideN id)).st h).2 = 0
    · cases sp
      · exact do_k1fy id h q t d pd f (fun o ho => by rw [ho]; exact er) hT hk hm ha hL hO
      · exact do_k1ty id h q t d pd f (fun o ho => by rw [ho]; exact er) hT hk hm ha hL hO
    · cases sp
      · exact do_k1fn id h q t d pd f (fun o ho => by rw [ho]; exact er) hT hk hm ha hL hO
      · exact do_k1tn id h q t d pd f (fun o ho => by rw [ho]; exact er) hT hk hm ha hL hO
  by_cases e2 : kd = 2
  · subst e2; cases sp
    · exact do_k2f id h q t d pd f hT hk hm ha hL hO
    · exact do_k2t id h q t d pd f hT hk hm ha hL hO
  by_cases e3 : kd = 3
  · subst e3; cases sp
    · exact do_k3f id h q t d pd f hT hk hm ha hL hO
    · exact do_k3t id h q t d pd f hT hk hm ha hL hO
  by_cases e4 : kd = 4
  · subst e4; cases sp
    · exact do_k4f id h q t d pd f hT hk hm ha hL hO
    · exact do_k4t id h q t d pd f hT hk hm ha hL hO
  by_cases e5 : kd = 5
  · subst e5; cases sp
    · exact do_k5f id h q t d pd f hT hk hm ha hL hO
    · exact do_k5t id h q t d pd f hT hk hm ha hL hO
  cases sp
  · by_cases hl : kd < 2
    · exact do_kofl kd id h q t d pd f ⟨e0, e1, e2, e3, e4, e5⟩ hl hT hk hm ha hL hO
    · exact do_kofh kd id h q t d pd f ⟨e0, e1, e2, e3, e4, e5⟩ (by omega) hT hk hm ha hL hO
  · exact do_kot kd id h q t d pd f ⟨e0, e1, e2, e3, e4, e5⟩ hT hk hm ha hL hO
/-- two chains that a law made, beside the law's own blocks V -/
structure LwT (V : Nat → Prop) (w0 : World) (X : Nat) (m : Nat) (c : Nat → ChV) (w : World) : Prop where
  tw : ∃ O, TwP w O X c ∧ ∀ k, O k → ¬ V k ∧ w0.heap.size ≤ k
  ok : TwK m c
  bel : Below w0.heap.size w0 w
  frw : FrW V w
  lk : LaidOk w0
section
variable {V : Nat → Prop} {w0 w w' : World} {X m : Nat} {c : Nat → ChV}
theorem LwT.below (h : LwT V w0 X m c w) (hb : Below w.heap.size w w') : LwT V w0 X m c w' := by
  obtain ⟨O, ht, hO⟩ := h.tw
  exact ⟨⟨O, ht.below hb, hO⟩, h.ok, h.bel.trans (hb.mono h.bel.size), h.frw.later hb.size, h.lk⟩
theorem LwT.wide (h : LwT V w0 X m c w) (hb : Below w.heap.size w w') : LwT (Wid V w w') w0 X m c w' := by
  obtain ⟨O, ht, hO⟩ := h.tw
  refine ⟨⟨O, ht.below hb, fun k hk => ⟨fun hw => ?_, (hO k hk).2⟩⟩, h.ok, h.bel.trans (hb.mono h.bel.size), wid_frw h.frw hb.size, h.lk⟩
  rcases hw with hw | hw
  · exact (hO k hk).1 hw
  · have := ht.lt k hk; omega
theorem LwT.narrow {V' : Nat → Prop} (h : LwT V w0 X m c w) (hV : ∀ k, V' k → V k) : LwT V' w0 X m c w := by
  obtain ⟨O, ht, hO⟩ := h.tw
  exact ⟨⟨O, ht, fun k hk => ⟨fun hw => (hO k hk).1 (hV k hw), (hO k hk).2⟩⟩, h.ok, h.bel, fun k hk => h.frw k (hV k hk), h.lk⟩
theorem LwT.mono {m' : Nat} (h : LwT V w0 X m c w) (hm : m ≤ m') : LwT V w0 X m' c w := ⟨h.tw, fun k hk => (h.ok k hk).mono hm, h.bel, h.frw, h.lk⟩
/-- the law's own blocks changed -/
theorem LwT.own {S : Nat → Prop} (h : LwT V w0 X m c w) (hk : Kq.Keeps S w w') (hS : ∀ k, S k → V k) (hS0 : ∀ k, S k → w0.heap.size ≤ k) : LwT V w0 X m c w' := by
  obtain ⟨O, ht, hO⟩ := h.tw
  exact ⟨⟨O, ht.keeps hk (fun k h1 h2 => (hO k h1).1 (hS k h2)), hO⟩, h.ok, h.bel.trans (hk.below h.bel.size (fun k _ e => hS0 k e)), h.frw.later hk.size, h.lk⟩
theorem LwT.step {O : Nat → Prop} {c' : Nat → ChV} {r : Value} {x : Ending} (h : LwT V w0 X m c w) (hO : ∀ k, O k → ¬ V k ∧ w0.heap.size ≤ k) (hok : TwK (m + 1) c') (hs : StepT w O X r c' x w') : LwT V w0 X (m + 1) c' w' ∧ Fb V w w' ∧ (X < w.heap.size → w'.heap[X]? = w.heap[X]?) := by
  obtain ⟨-, ht, hk⟩ := hs
  have hz2 := h.bel.size
  refine ⟨⟨⟨_, ht, fun k hk => ?_⟩, hok, h.bel.trans (hk.below hz2 (fun k _ e => (hO k e.1).2)), h.frw.later hk.size, h.lk⟩, hk.mono (fun k _ e => (hO k e.1).1), fun hx => hk.block X hx (fun e => e.2 rfl)⟩
  rcases hk with hk | hk
  · exact hO k hk
  · exact ⟨fun hv => by have := h.frw k hv; omega, by omega⟩
theorem LwT.xlt (h : LwT V w0 X m c w) : X < w.heap.size := by
  obtain ⟨O, ⟨B, P, M, ht⟩, _⟩ := h.tw
  exact Kq.blk_lt ht.blk
theorem LwT.laid (h : LwT V w0 X m c w) : LaidOk w := h.lk.later h.bel
theorem far_of {O : Nat → Prop} (hL : LaidOk w0) (hO : ∀ k, O k → ¬ V k ∧ w0.heap.size ≤ k) : ¬ O 1 ∧ ¬ O 0 := ⟨fun h => by have := hL.low; have := (hO _ h).2; omega, fun h => by have := hL.low0; have := (hO _ h).2; omega⟩
/-- any call of them -/
theorem lw_do (a : CaV) (h : LwT V w0 X m c w) (hm : m ≤ 400) (ha : CaOk a) : Calls Tryz.prog 17 #[.pointer (some ⟨X, 0, none⟩), .agg #[.int .i64 a.kd, .int .i64 a.id, .int .u64 (a.h : Int), .string a.d, .int .i64 a.f, .int .u64 (a.q : Int), .int .u64 (a.t : Int), .string a.pd, .bool a.sp]] w fun x w' => x = .returned (.tuple #[(doP c a).val, .int .u64 (doH c a : Int), .int .i64 (doE c a)]) ∧ LwT V w0 X (m + 1) (doV c a) w' ∧ Fb V w w' ∧ w'.heap[X]? = w.heap[X]? := by
  obtain ⟨O, ht, hO⟩ := h.tw
  refine (tw_do a ht h.ok hm ha h.laid (far_of h.lk hO)).mono ?_
  intro x w' hs
  obtain ⟨h1, h2, h3⟩ := h.step hO (h.ok.do (by omega) a) hs
  exact ⟨hs.1, h1, h2, h3 h.xlt⟩
/-- one of them, called by itself -/
theorem LwT.one (h : LwT V w0 X m c w) (k : Nat) (hk : k < 2) : ∃ B P, w.cell? ⟨X, k, none⟩ = some (.pointer (some ⟨B, 0, none⟩)) ∧ ChP w P B (c k) ∧ (∀ r c' x w', ChK (m + 1) c' → StepC w P B r c' x w' → LwT V w0 X (m + 1) (updF c k c') w' ∧ Fb V w w' ∧ w'.heap[X]? = w.heap[X]?) ∧ ¬ P 1 ∧ ¬ P 0 := by
  obtain ⟨O, ⟨B, P, M, ht⟩, hO⟩ := h.tw
  have hf := far_of h.lk hO
  refine ⟨B k, P k, ht.cell k hk, ht.ch k hk, fun r c' x w' hc hs => ?_, fun e => hf.1 (ht.sub k _ hk e).1, fun e => hf.2 (ht.sub k _ hk e).1⟩
  obtain ⟨h1, h2⟩ := ht.step hk hs
  have hok : TwK (m + 1) (updF c k c') := fun j hj => by
    unfold updF
    by_cases e : j = k
    · rw [if_pos e]; exact hc
    · rw [if_neg e]; exact (h.ok j hj).mono (by omega)
  obtain ⟨g1, g2, g3⟩ := h.step hO (c' := updF c k c') hok (r := r) (x := .returned r) ⟨rfl, ⟨B, _, M, h1⟩, h2⟩
  exact ⟨g1, g2, g3 h.xlt⟩
/-- .. asked -/
theorem LwT.ask (h : LwT V w0 X m c w) (k : Nat) (hk : k < 2) : ∃ B P, w.cell? ⟨X, k, none⟩ = some (.pointer (some ⟨B, 0, none⟩)) ∧ ChP w P B (c k) := by
  obtain ⟨B, P, h1, h2, _⟩ := h.one k hk
  exact ⟨B, P, h1, h2⟩
end
end Go.Proofs.YtbjchfcoacmaaaaGreatDoor
namespace Go.Proofs.YtbjchfcoacmaaaaGreatDoor
open Go.RowKit
set_option linter.unusedVariables false
theorem TwK.upd {m : Nat} {c : Nat → ChV} (h : TwK m c) (k : Nat) {c' : ChV} (hc : ChK (m + 1) c') : TwK (m + 1) (updF c k c') := fun j hj => by
  unfold updF
  by_cases e : j = k
  · rw [if_pos e]; exact hc
  · rw [if_neg e]; exact (h j hj).mono (by omega)
theorem LwT.made {w w1 : World} {h0 h1 s0 s1 X : Nat} (hL : LaidOk w) (hz0 : s0 ≠ 0) (hz1 : s1 ≠ 0) (l0 : s0 < 18446744073709551616) (l1 : s1 < 18446744073709551616) (g0 : h0 < 18446744073709551616) (g1 : h1 < 18446744073709551616) (w0 : World) (hw : Below w0.heap.size w0 w) (hL0 : LaidOk w0) {V : Nat → Prop} (hV : FrW V w) (ht : TwP w1 (fun k => w.heap.size ≤ k ∧ k < w1.heap.size) X (newTw h0 h1 s0 s1)) (b1 : Below w.heap.size w w1) : LwT V w0 X 0 (newTw h0 h1 s0 s1) w1 :=
  ⟨⟨_, ht, fun k hk => ⟨fun hv => by have := hV k hv; omega, by have := hw.size; omega⟩⟩, fun k hk => by
    obtain rfl | rfl : k = 0 ∨ k = 1 := by omega
    · exact newCh_k 0 h0 s0 (by omega) hz0 l0 g0
    · exact newCh_k 1 h1 s1 (by omega) hz1 l1 g1, hw.trans (b1.mono hw.size), hV.later b1.size, hL0⟩
/-- a packet of the law's own -/
structure PkB (V : Nat → Prop) (w : World) (X : Nat) (p : PkV) : Prop where
  blk : w.heap[X]? = some (.cells #[.int .i64 p.f, .int .u64 p.q, .int .u64 p.t, .string p.d] 46 (0, 0))
  v : V X
theorem PkB.fb {V : Nat → Prop} {w w' : World} {X : Nat} {p : PkV} (h : PkB V w X p) (hb : Fb V w w') : PkB V w' X p := ⟨Kq.Keeps.blk hb h.blk (fun hn => hn h.v), h.v⟩
theorem PkB.wide {V : Nat → Prop} {w w' : World} {X : Nat} {p : PkV} (h : PkB V w X p) (hb : Below w.heap.size w w') : PkB (Wid V w w') w' X p := ⟨Kq.below_blk hb h.blk (Kq.blk_lt h.blk), Or.inl h.v⟩
theorem PkB.new (V : Nat → Prop) (w : World) (p : PkV) : PkB (Wid V w (w.alloc (.cells #[.int .i64 p.f, .int .u64 p.q, .int .u64 p.t, .string p.d] 46))) (w.alloc (.cells #[.int .i64 p.f, .int .u64 p.q, .int .u64 p.t, .string p.d] 46)) w.heap.size p := ⟨Kq.blk_new _ _ _ _, Or.inr ⟨Nat.le_refl _, by simp⟩⟩
namespace AwC
noncomputable def c0 : Nat → ChV := newTw 5 9 1 1
noncomputable def c1 : Nat → ChV := updF c0 0 C1
noncomputable def c2 : Nat → ChV := updF c1 0 C2
noncomputable def c3 : Nat → ChV := doV c2 ⟨1, 1, 6, ⟨#[]⟩, 0, 0, 0, ⟨#[]⟩, false⟩
noncomputable def a2 : CaV := ⟨2, 1, 6, ⟨#[]⟩, 0, 1, 20, ⟨#[120]⟩, false⟩
theorem c2_0 : c2 0 = C2 := by
  show (if (0 : Nat) = 0 then C2 else c1 0) = C2
  rw [if_pos rfl]
theorem c2_1 : c2 1 = newCh 1 9 1 := rfl
theorem e3 : doE c2 ⟨1, 1, 6, ⟨#[]⟩, 0, 0, 0, ⟨#[]⟩, false⟩ = 0 ∧ c3 = updF c2 1 B1 := by
  constructor
  · unfold doE
    rw [if_neg (by simp), if_pos rfl]
    show (if (rootV (c2 0).st 6).2 = 0 then (setF 6 (rootV (c2 0).st 6).1 (c2 1).hs (c2 1).f).2.2 else (rootV (c2 0).st 6).2) = 0
    rw [c2_0, c2_1, root0, if_pos rfl]
    show (setF 6 rt (newCh 1 9 1).hs (newCh 1 9 1).f).2.2 = 0
    rw [upd0]
  · have h : doC c2 ⟨1, 1, 6, ⟨#[]⟩, 0, 0, 0, ⟨#[]⟩, false⟩ = B1 := by
      unfold doC
      rw [if_neg (by simp), if_pos rfl]
      show (if (rootV (c2 0).st 6).2 = 0 then updC (c2 1) 6 (rootV (c2 0).st 6).1 else c2 1) = _
      rw [c2_0, c2_1, root0, if_pos rfl]
      exact upd1
    unfold c3 doV
    rw [h]; rfl
theorem c3_0 : c3 0 = C2 := by rw [e3.2]; exact c2_0
theorem c3_1 : c3 1 = B1 := by
  rw [e3.2]
  show (if (1 : Nat) = 1 then B1 else c2 1) = B1
  rw [if_pos rfl]
theorem pr3 (c : Nat → ChV) (h : c 0 = C2) : a2.pr c = pr := by
  unfold CaV.pr
  rw [if_pos ⟨rfl, by simp [a2], by simp [a2]⟩]
  show (proveV (c 0).st k 6).1 = pr
  rw [h]
  exact pr0
theorem e4 : doE c3 a2 = 0 ∧ doV c3 a2 = updF c3 1 B2 := by
  constructor
  · unfold doE
    rw [if_neg (by simp [a2]), if_neg (by simp [a2]), if_pos (show a2.kd = 2 from rfl), pr3 _ c3_0]
    show firstE (recvE (c3 1) 0 1 20 x pr 6) = 0
    rw [c3_1]
    exact recv0
  · have h : doC c3 a2 = B2 := by
      unfold doC
      rw [if_neg (by simp [a2]), if_neg (by simp [a2]), if_pos (show a2.kd = 2 from rfl), pr3 _ c3_0]
      show recvC (c3 1) 0 1 20 x pr 6 = B2
      rw [c3_1]; rfl
    unfold doV
    rw [h]; rfl
theorem e5 : doE (doV c3 a2) a2 = 4 := by
  rw [e4.2]
  have h0 : updF c3 1 B2 0 = C2 := by
    show (if (0 : Nat) = 1 then B2 else c3 0) = C2
    rw [if_neg (by decide)]; exact c3_0
  have h1 : updF c3 1 B2 1 = B2 := by
    show (if (1 : Nat) = 1 then B2 else c3 1) = B2
    rw [if_pos rfl]
  unfold doE
  rw [if_neg (by simp [a2]), if_neg (by simp [a2]), if_pos (show a2.kd = 2 from rfl), pr3 _ h0]
  show firstE (recvE (updF c3 1 B2 1) 0 1 20 x pr 6) = 4
  rw [h1]
  exact recv1
theorem z1 : doP c2 ⟨1, 1, 6, ⟨#[]⟩, 0, 0, 0, ⟨#[]⟩, false⟩ = zeroPk ∧ doH c2 ⟨1, 1, 6, ⟨#[]⟩, 0, 0, 0, ⟨#[]⟩, false⟩ = 0 := ⟨rfl, rfl⟩
theorem z2 (c : Nat → ChV) : doP c a2 = zeroPk ∧ doH c a2 = 0 := ⟨rfl, rfl⟩
end AwC
set_option maxRecDepth 100000 in
set_option maxHeartbeats 2000000 in
theorem awake13 (w : World) (hL : LaidOk w) : Calls Tryz.prog 7 #[] w fun x w' => x = .returned (.bool true) ∧ Below w.heap.size w w' := by
  have HL := Lib.hid hL
  clear hL
  go_enter Tryz.func7, Tryz.ntmps7
  go_wp2_with fail
  refine (made13 5 9 1 1 w (by decide) (by decide)).mono ?_
  rintro x w1 ⟨X, rfl, ht, b1⟩
  have H1 : Hid (LwT (fun _ => False) w X 0 AwC.c0 w1) := Lib.hid (LwT.made HL.out (by decide) (by decide) (by decide) (by decide) (by decide) (by decide) w (Below.refl _ _) HL.out (fun _ h => h.elim) ht b1)
  clear ht b1
  obtain ⟨B0, P0, x0, hc0, hst0, -⟩ := H1.out.one 0 (by omega)
  have HC0 := Lib.hid hst0
  have HSE := Lib.hid (cn_send (c := newCh 0 5 1) ⟨#[120]⟩ 20 hc0 (H1.out.ok 0 (by omega)).ok (by decide) (by decide) H1.out.laid)
  have HK1 : Hid (ChK 1 AwC.C1) := Lib.hid (by
    have := (H1.out.ok 0 (by omega)).send (by omega) ⟨#[120]⟩ 20
    rw [show sendC (AwC.c0 0) ⟨#[120]⟩ 20 = AwC.C1 from AwC.send1] at this
    exact this)
  rw [show sendP (newCh 0 5 1) ⟨#[120]⟩ 20 = AwC.p from AwC.sendp, show firstE (sendE (newCh 0 5 1) ⟨#[120]⟩ 20) = 0 from AwC.send0, show sendC (newCh 0 5 1) ⟨#[120]⟩ 20 = AwC.C1 from AwC.send1] at HSE
  clear hc0 hst0
  go_wp2_with fail
  refine HSE.out.mono ?_
  rintro x w2 hst
  have hx := hst.1
  simp only [PkV.val, AwC.p, AwC.x] at hx
  subst hx
  obtain ⟨w3, hw3⟩ : ∃ z, z = w2.alloc (.cells #[.int .i64 0, .int .u64 1, .int .u64 20, .string ⟨#[120]⟩] 46) := ⟨_, rfl⟩
  obtain ⟨Y, hY⟩ : ∃ Y, Y = w2.heap.size := ⟨_, rfl⟩
  have H3 : Hid (LwT (Wid (fun _ => False) w2 w3) w X 1 AwC.c1 w3 ∧ PkB (Wid (fun _ => False) w2 w3) w3 Y AwC.p) := Lib.hid (by
    have h2 := (HC0.out _ _ _ _ HK1.out hst).1
    rw [hw3, hY]
    exact ⟨h2.wide (Kq.below_alloc _ _), PkB.new _ w2 AwC.p⟩)
  obtain ⟨V, hV⟩ : ∃ V, V = Wid (fun _ => False) w2 w3 := ⟨_, rfl⟩
  rw [← hV] at H3
  clear hV hst HC0 HSE H1 HK1 x0
  obtain ⟨B1, P1, x0, hc1, hst1, -⟩ := H3.out.1.one 0 (by omega)
  have HC1 := Lib.hid hst1
  have HCM := Lib.hid (cn_com hc1 (H3.out.1.ok 0 (by omega)).ok (by have := (H3.out.1.ok 0 (by omega)).nb; omega))
  have HK2 : Hid (ChK 2 AwC.C2) := Lib.hid (by
    have := (H3.out.1.ok 0 (by omega)).com (by omega)
    rw [show comC (AwC.c1 0) = AwC.C2 from AwC.com1] at this
    exact this)
  rw [show comC (AwC.c1 0) = AwC.C2 from AwC.com1, show comR (AwC.c1 0).st = .tuple #[.int .u64 ((6 : Nat) : Int), .int .i64 0] from by
    show comR AwC.C1.st = _
    unfold comR; rw [AwC.com0]] at HCM
  clear hc1 hst1
  rw [hw3] at x0
  have HW3 := Lib.hid hw3
  have HYY := Lib.hid hY
  rw [show ((6 : Nat) : Int) = 6 from rfl] at HCM
  go_wp2_with fail
  rw [← HW3.out, ← HYY.out]
  clear hw3 hY
  refine HCM.out.mono ?_
  rintro x w4 hst
  have hx := hst.1
  subst hx
  have H4 : Hid (LwT V w X 2 AwC.c2 w4 ∧ PkB V w4 Y AwC.p) := Lib.hid (by
    have h2 := HC1.out _ _ _ _ HK2.out hst
    exact ⟨h2.1, H3.out.2.fb h2.2.1⟩)
  clear hst HC1 HCM H3 HK2 x0 HW3 HYY
  have HD := Lib.hid (lw_do ⟨1, 1, 6, ⟨#[]⟩, 0, 0, 0, ⟨#[]⟩, false⟩ H4.out.1 (by omega) ⟨by decide, by decide, by decide, by decide, by decide⟩)
  rw [AwC.z1.1, AwC.z1.2, AwC.e3.1] at HD
  go_wp2_with fail
  refine HD.out.mono ?_
  rintro x w5 ⟨hx, hl, hf, -⟩
  simp only [PkV.val, zeroPk] at hx
  subst hx
  obtain ⟨w6, hw6⟩ : ∃ z, z = w5.alloc (.cells #[.int .i64 0, .int .u64 0, .int .u64 0, .string ⟨#[]⟩] 46) := ⟨_, rfl⟩
  have H6 : Hid (LwT V w X 3 AwC.c3 w6 ∧ PkB V w6 Y AwC.p) := Lib.hid (by
    rw [hw6]
    have hb := Kq.below_alloc w5 (.cells #[.int .i64 0, .int .u64 0, .int .u64 0, .string ⟨#[]⟩] 46)
    exact ⟨hl.below hb, (H4.out.2.fb hf).fb (Fb.of hb hl.frw)⟩)
  clear hl hf HD H4
  have HW6 := Lib.hid hw6
  have y0 := Kq.blk_cell H6.out.2.blk 0
  have y1 := Kq.blk_cell H6.out.2.blk 1
  have y2 := Kq.blk_cell H6.out.2.blk 2
  have y3 := Kq.blk_cell H6.out.2.blk 3
  rw [hw6] at y0 y1 y2 y3
  simp only [AwC.p, AwC.x] at y0 y1 y2 y3
  have HD := Lib.hid (lw_do AwC.a2 H6.out.1 (by omega) ⟨by decide, by decide, by decide, by decide, by decide⟩)
  rw [(AwC.z2 _).1, (AwC.z2 _).2, AwC.e4.1] at HD
  simp only [AwC.a2] at HD
  clear hw6
  go_wp2_with fail
  rw [← HW6.out]
  refine HD.out.mono ?_
  rintro x w7 ⟨hx, hl, hf, -⟩
  simp only [PkV.val, zeroPk] at hx
  subst hx
  obtain ⟨w8, hw8⟩ : ∃ z, z = w7.alloc (.cells #[.int .i64 0, .int .u64 0, .int .u64 0, .string ⟨#[]⟩] 46) := ⟨_, rfl⟩
  have H8 : Hid (LwT V w X 4 (doV AwC.c3 AwC.a2) w8 ∧ PkB V w8 Y AwC.p) := Lib.hid (by
    rw [hw8]
    have hb := Kq.below_alloc w7 (.cells #[.int .i64 0, .int .u64 0, .int .u64 0, .string ⟨#[]⟩] 46)
    exact ⟨hl.below hb, (H6.out.2.fb hf).fb (Fb.of hb hl.frw)⟩)
  clear hl hf HD H6 HW6 y0 y1 y2 y3
  have HW8 := Lib.hid hw8
  have y0 := Kq.blk_cell H8.out.2.blk 0
  have y1 := Kq.blk_cell H8.out.2.blk 1
  have y2 := Kq.blk_cell H8.out.2.blk 2
  have y3 := Kq.blk_cell H8.out.2.blk 3
  rw [hw8] at y0 y1 y2 y3
  simp only [AwC.p, AwC.x] at y0 y1 y2 y3
  have HD := Lib.hid (lw_do AwC.a2 H8.out.1 (by omega) ⟨by decide, by decide, by decide, by decide, by decide⟩)
  rw [(AwC.z2 _).1, (AwC.z2 _).2, AwC.e5] at HD
  simp only [AwC.a2] at HD
  clear hw8
  go_wp2_with fail
  rw [← HW8.out]
  refine HD.out.mono ?_
  rintro x w9 ⟨hx, hl, hf, -⟩
  simp only [PkV.val, zeroPk] at hx
  subst hx
  have H9 : Hid (PkB V w9 Y AwC.p ∧ Below w.heap.size w w9) := Lib.hid ⟨H8.out.2.fb hf, hl.bel⟩
  clear hl hf HD H8 HW8 y0 y1 y2 y3
  have hb := Kq.below_alloc w9 (.cells #[.int .i64 0, .int .u64 0, .int .u64 0, .string ⟨#[]⟩] 46)
  have y1 := Kq.blk_cell (Kq.below_blk hb H9.out.1.blk (Kq.blk_lt H9.out.1.blk)) 1
  simp only [AwC.p, AwC.x] at y1
  have HB := Lib.hid (H9.out.2.trans (hb.mono H9.out.2.size))
  clear hb
  go_wp2
  go_ret
  exact ⟨rfl, HB.out⟩
end Go.Proofs.YtbjchfcoacmaaaaGreatDoor
namespace Go.Proofs.YtbjchfcoacmaaaaGreatDoor
open Go.RowKit
set_option linter.unusedVariables false
def NOk (n : NtV) : Prop := (1 ≤ n.k ∧ n.k ≤ 4) ∧ PkOk n.p
structure NtK (c : ChV) : Prop where
  bl : ∀ n ∈ c.blks.flatten, NOk n
  bu : ∀ n ∈ c.built, NOk n
theorem fromE_ok {p : PkV} {id : Int} (h : fromE p id = 0) : PkOk p := by
  unfold fromE at h
  by_cases e : PkOk p ∧ p.f = id
  · exact e.1
  · rw [if_neg e] at h; cases h
theorem NtK.note {c : ChV} (h : NtK c) (k : Int) (p : PkV) (h1 : 1 ≤ k) (h2 : k ≤ 4) (hp : PkOk p) : NtK (c.note k p) := ⟨h.bl, fun n hn => by
  rcases List.mem_append.1 (show n ∈ c.built ++ [ntOf k p] from hn) with h3 | h3
  · exact h.bu n h3
  · rw [List.mem_singleton.1 h3]; exact ⟨⟨h1, h2⟩, hp⟩⟩
theorem NtK.new (id h seq : Nat) : NtK (newCh id h seq) := ⟨fun n hn => by simp [newCh] at hn, fun n hn => by simp [newCh] at hn⟩
theorem NtK.send {c : ChV} (h : NtK c) (d : ByteArray) (t : Nat) : NtK (sendC c d t) := by
  unfold sendC
  by_cases e : firstE (sendE c d t) = 0
  · rw [if_pos e]
    have h1 := fromE_ok (firstE_zero _ e _ (by simp [sendE] : fromE (c.pk t d) (c.id : Int) ∈ sendE c d t))
    exact NtK.note (c := { (c.set (keyT 99 c.next) (comD (c.pk t d))) with next := c.next + 1 }) ⟨h.bl, h.bu⟩ 1 (c.pk t d) (by omega) (by omega) h1
  · rw [if_neg e]; exact h
theorem NtK.recv {c : ChV} (h : NtK c) (f : Int) (q t : Nat) (d s : ByteArray) (H : Nat) : NtK (recvC c f q t d s H) := by
  unfold recvC
  by_cases e : firstE (recvE c f q t d s H) = 0
  · rw [if_pos e]
    have h1 := fromE_ok (firstE_zero _ e _ (by simp [recvE] : fromE ⟨f, (q : Int), (t : Int), d⟩ (1 - (c.id : Int)) ∈ recvE c f q t d s H))
    exact NtK.note (c := ((c.set (keyT 114 q) ⟨#[1]⟩).set (keyT 97 q) (ansD ⟨f, (q : Int), (t : Int), d⟩))) ⟨h.bl, h.bu⟩ 2 _ (by omega) (by omega) h1
  · rw [if_neg e]; exact h
theorem NtK.setl {c : ChV} (h : NtK c) (k f : Int) (q t : Nat) (d : ByteArray) (es : List Int) (k1 : 1 ≤ k) (k2 : k ≤ 4) : NtK (setlC c k f q t d es) := by
  unfold setlC
  by_cases e : firstE (setlE c f q t d es) = 0
  · rw [if_pos e]
    have h1 := fromE_ok (firstE_zero _ e _ (by simp [setlE] : fromE ⟨f, (q : Int), (t : Int), d⟩ (c.id : Int) ∈ setlE c f q t d es))
    exact NtK.note (c := c.del (keyT 99 q)) ⟨h.bl, h.bu⟩ k _ k1 k2 h1
  · rw [if_neg e]; exact h
theorem NtK.com {c : ChV} (h : NtK c) : NtK (comC c) := by
  unfold comC
  split
  · refine ⟨fun n hn => ?_, fun n hn => by cases hn⟩
    rw [show ({ c with st := (comV c.st).1, blks := c.blks ++ [c.built], built := [] } : ChV).blks.flatten = c.blks.flatten ++ c.built by simp] at hn
    rcases List.mem_append.1 hn with h3 | h3
    · exact h.bl n h3
    · exact h.bu n h3
  · exact h
theorem NtK.do {c : Nat → ChV} (h : ∀ k, k < 2 → NtK (c k)) (a : CaV) : ∀ k, k < 2 → NtK (doV c a k) := by
  intro k hk
  unfold doV updF
  by_cases e : k = a.s
  · rw [if_pos e]
    have hs := h a.s (sideN_lt _)
    unfold doC
    split
    · exact hs.send _ _
    · split
      · split
        · exact ⟨hs.bl, hs.bu⟩
        · exact hs
      · split
        · exact hs.recv _ _ _ _ _ _
        · split
          · exact hs.setl _ _ _ _ _ _ (by omega) (by omega)
          · split
            · exact hs.setl _ _ _ _ _ _ (by omega) (by omega)
            · split
              · exact hs.com
              · exact hs
  · rw [if_neg e]; exact h k hk
end Go.Proofs.YtbjchfcoacmaaaaGreatDoor
namespace Go.Proofs.YtbjchfcoacmaaaaGreatDoor
open Go.RowKit
set_option linter.unusedVariables false
def lastB (c : ChV) : List PairV := (atV c.st c.st.height).1
def ntKeys (n : NtV) : List ByteArray := [keyT 99 n.q.toNat, keyT 114 n.q.toNat, keyT 97 n.q.toNat]
structure MpK (c : ChV) : Prop where
  keys : ∀ k, (lk c.st.now k).isSome = true → (∃ p ∈ lastB c, p.1 = k) ∨ ∃ n ∈ c.built, k ∈ ntKeys n
  num : ∀ n ∈ c.built, 0 ≤ n.q ∧ n.q < 18446744073709551616
theorem last_same {c c' : ChV} (h1 : c'.st.first = c.st.first) (h2 : c'.st.blks = c.st.blks) : lastB c' = lastB c := by
  unfold lastB atV StV.height
  rw [h1, h2]
theorem lk_set {s : StV} {k v j : ByteArray} (h : (lk (setV s k v).1.now j).isSome = true) : j = k ∨ (lk s.now j).isSome = true := by
  unfold setV at h
  split at h
  · exact Or.inr h
  · split at h
    · exact Or.inr h
    · rw [lk_ins] at h
      by_cases e : j = k
      · exact Or.inl e
      · rw [if_neg e] at h; exact Or.inr h
theorem lk_delV {s : StV} (hs : StOk s) {k j : ByteArray} (h : (lk (delV s k).1.now j).isSome = true) : (lk s.now j).isSome = true := by
  unfold delV at h
  split at h
  · exact h
  · rw [lk_del _ _ _ hs.now.2.1] at h
    by_cases e : j = k
    · rw [if_pos e] at h; cases h
    · rw [if_neg e] at h; exact h
theorem MpK.new (id h seq : Nat) : MpK (newCh id h seq) := ⟨fun k hk => (by cases hk), fun n hn => (by cases hn)⟩
/-- one key set, noted by a note that tells of it -/
theorem mp_step {c c' : ChV} (h : MpK c) (n : NtV) (hn : 0 ≤ n.q ∧ n.q < 18446744073709551616) (h1 : c'.st.first = c.st.first) (h2 : c'.st.blks = c.st.blks) (hb : c'.built = c.built ++ [n]) (hk : ∀ k, (lk c'.st.now k).isSome = true → (lk c.st.now k).isSome = true ∨ k ∈ ntKeys n) : MpK c' := by
  refine ⟨fun k hk' => ?_, fun m hm => ?_⟩
  · rw [last_same h1 h2, hb]
    rcases hk k hk' with h3 | h3
    · rcases h.keys k h3 with h4 | ⟨m, hm, h4⟩
      · exact Or.inl h4
      · exact Or.inr ⟨m, List.mem_append_left _ hm, h4⟩
    · exact Or.inr ⟨n, List.mem_append_right _ List.mem_cons_self, h3⟩
  · rw [hb] at hm
    rcases List.mem_append.1 hm with hm | hm
    · exact h.num m hm
    · rw [List.mem_singleton.1 hm]; exact hn
theorem MpK.send {c : ChV} (h : MpK c) (hc : ChOk c) (d : ByteArray) (t : Nat) : MpK (sendC c d t) := by
  unfold sendC
  by_cases e : firstE (sendE c d t) = 0
  · rw [if_pos e]
    obtain ⟨e1, e2⟩ := setV_same c.st (keyT 99 c.next) (comD (c.pk t d))
    have := hc.next
    refine mp_step h (ntOf 1 (c.pk t d)) ⟨by show (0 : Int) ≤ (c.next : Int); omega, by show (c.next : Int) < _; omega⟩ e1 e2 rfl (fun k hk => ?_)
    rcases lk_set hk with h3 | h3
    · refine Or.inr ?_
      rw [h3]
      show keyT 99 c.next ∈ [keyT 99 ((c.next : Int)).toNat, _, _]
      rw [Int.toNat_natCast]; exact List.mem_cons_self
    · exact Or.inl h3
  · rw [if_neg e]; exact h
theorem MpK.recv {c : ChV} (h : MpK c) (f : Int) (q t : Nat) (d s : ByteArray) (H : Nat) (hq : q < 18446744073709551616) : MpK (recvC c f q t d s H) := by
  unfold recvC
  by_cases e : firstE (recvE c f q t d s H) = 0
  · rw [if_pos e]
    generalize (⟨#[1]⟩ : ByteArray) = one
    generalize ansD ⟨f, (q : Int), (t : Int), d⟩ = an
    obtain ⟨e1, e2⟩ := setV_same c.st (keyT 114 q) one
    obtain ⟨e3, e4⟩ := setV_same (setV c.st (keyT 114 q) one).1 (keyT 97 q) an
    refine mp_step h (ntOf 2 ⟨f, (q : Int), (t : Int), d⟩) ⟨by show (0 : Int) ≤ (q : Int); omega, by show (q : Int) < _; omega⟩ (e3.trans e1) (e4.trans e2) rfl (fun k hk => ?_)
    have hm : ∀ x, x = keyT 97 q ∨ x = keyT 114 q → x ∈ ntKeys (ntOf 2 ⟨f, (q : Int), (t : Int), d⟩) := fun x hx => by
      show x ∈ [keyT 99 ((q : Int)).toNat, keyT 114 ((q : Int)).toNat, keyT 97 ((q : Int)).toNat]
      rw [Int.toNat_natCast]
      rcases hx with rfl | rfl <;> simp
    rcases lk_set hk with h3 | h3
    · exact Or.inr (hm k (Or.inl h3))
    · rcases lk_set h3 with h3 | h3
      · exact Or.inr (hm k (Or.inr h3))
      · exact Or.inl h3
  · rw [if_neg e]; exact h
theorem MpK.setl {c : ChV} (h : MpK c) (hc : ChOk c) (k f : Int) (q t : Nat) (d : ByteArray) (es : List Int) (hq : q < 18446744073709551616) : MpK (setlC c k f q t d es) := by
  unfold setlC
  by_cases e : firstE (setlE c f q t d es) = 0
  · rw [if_pos e]
    obtain ⟨e1, e2⟩ := delV_same c.st (keyT 99 q)
    exact mp_step h (ntOf k ⟨f, (q : Int), (t : Int), d⟩) ⟨by show (0 : Int) ≤ (q : Int); omega, by show (q : Int) < _; omega⟩ e1 e2 rfl (fun k hk => Or.inl (lk_delV hc.st hk))
  · rw [if_neg e]; exact h
theorem com_okI {s : StV} (h : (comV s).2.2 = 0) : (comV s).1 = { s with blks := s.blks ++ [s.now] } ∧ (comV s).2.1 = s.height + 1 ∧ s.height ≠ 18446744073709551615 := by
  unfold comV at h ⊢
  by_cases h1 : s.height = 18446744073709551615
  · rw [if_pos h1] at h; cases h
  · rw [if_neg h1] at h ⊢
    by_cases h2 : 4096 ≤ s.blks.length
    · rw [if_pos h2] at h; cases h
    · rw [if_neg h2]; exact ⟨rfl, rfl, h1⟩
theorem com_lastI {s : StV} (hs : StOk s) (h : (comV s).2.2 = 0) : (atV (comV s).1 (comV s).1.height).1 = s.now := by
  obtain ⟨e1, e2, -⟩ := com_okI h
  have h1 := hs.one
  rw [e1]
  unfold atV StV.height
  simp only
  rw [List.length_append, List.length_singleton, if_pos ⟨by omega, by omega⟩]
  simp only
  rw [show s.first + (s.blks.length + 1 - 1) - s.first = s.blks.length by omega, List.getD_eq_getElem?_getD, List.getElem?_append_right (Nat.le_refl _)]
  simp
theorem MpK.com {c : ChV} (h : MpK c) (hc : ChOk c) : MpK (comC c) := by
  unfold comC
  by_cases e : (comV c.st).2.2 = 0
  · rw [if_pos e]
    obtain ⟨e1, e2, e3⟩ := com_okI e
    refine ⟨fun k hk => ?_, fun n hn => by cases hn⟩
    have hk' : (lk c.st.now k).isSome = true := by
      have : (comV c.st).1.now = c.st.now := by rw [e1]
      show (lk c.st.now k).isSome = true
      rw [← this]; exact hk
    refine Or.inl ?_
    obtain ⟨v, hv⟩ := Option.isSome_iff_exists.1 hk'
    refine ⟨(k, v), ?_, rfl⟩
    show (k, v) ∈ (atV (comV c.st).1 (comV c.st).1.height).1
    rw [com_lastI hc.st e]
    exact lk_mem _ _ _ hv
  · rw [if_neg e]; exact h
theorem MpK.do {m : Nat} {c : Nat → ChV} (h : ∀ k, k < 2 → MpK (c k)) (hk0 : TwK m c) (a : CaV) (ha : CaOk a) : ∀ k, k < 2 → MpK (doV c a k) := by
  intro k hk
  unfold doV updF
  by_cases e : k = a.s
  · rw [if_pos e]
    have hs := h a.s (sideN_lt _)
    have hc := (hk0 a.s (sideN_lt _)).ok
    unfold doC
    split
    · exact hs.send hc _ _
    · split
      · split
        · exact ⟨hs.keys, hs.num⟩
        · exact hs
      · split
        · exact hs.recv _ _ _ _ _ _ ha.q
        · split
          · exact hs.setl hc _ _ _ _ _ _ ha.q
          · split
            · exact hs.setl hc _ _ _ _ _ _ ha.q
            · split
              · exact hs.com hc
              · exact hs
  · rw [if_neg e]; exact h k hk
end Go.Proofs.YtbjchfcoacmaaaaGreatDoor
namespace Go.Proofs.YtbjchfcoacmaaaaGreatDoor
open Go.RowKit
set_option linter.unusedVariables false
def totC (c : ChV) : Nat := c.blks.flatten.length + c.built.length
def noted (kd : Int) : Prop := kd = 0 ∨ (2 ≤ kd ∧ kd ≤ 4)
theorem tot_note (c c' : ChV) (k : Int) (p : PkV) (h1 : c'.blks = c.blks) (h2 : c'.built = c.built) : totC (c'.note k p) = totC c + 1 := by
  unfold totC
  show c'.blks.flatten.length + (c'.built ++ [ntOf k p]).length = _
  rw [h1, h2, List.length_append]; simp only [List.length_cons, List.length_nil]; omega
theorem tot_com (c : ChV) : totC (comC c) = totC c := by
  unfold comC
  split
  · unfold totC
    show (c.blks ++ [c.built]).flatten.length + ([] : List NtV).length = _
    rw [List.flatten_append, List.length_append]; simp
  · rfl
/-- what stays -/
structure SameC (c c' : ChV) : Prop where
  st : c'.st = c.st
  next : c'.next = c.next
  hs : c'.hs = c.hs
  tot : totC c' = totC c
theorem SameC.rfl' (c : ChV) : SameC c c := ⟨rfl, rfl, rfl, rfl⟩
theorem do_other (c : Nat → ChV) (a : CaV) (k : Nat) (hk : k ≠ a.s) : doV c a k = c k := if_neg hk
theorem do_own (c : Nat → ChV) (a : CaV) : doV c a a.s = doC c a := if_pos rfl
theorem do_bad (c : Nat → ChV) (a : CaV) (h : doE c a ≠ 0) : SameC (c a.s) (doC c a) := by
  unfold doE at h
  unfold doC
  by_cases e0 : a.kd = 0
  · rw [if_pos e0] at h ⊢
    unfold sendC; rw [if_neg h]; exact SameC.rfl' _
  rw [if_neg e0] at h ⊢
  by_cases e1 : a.kd = 1
  · rw [if_pos e1] at h ⊢
    by_cases er : (rootV (c a.o).st a.h).2 = 0
    · rw [if_pos er] at h ⊢
      refine ⟨rfl, rfl, ?_, rfl⟩
      show (setF a.h (rootV (c a.o).st a.h).1 (c a.s).hs (c a.s).f).1 = _
      unfold setF at h ⊢
      split at h
      · split at h
        · rw [if_pos (by assumption), if_pos (by assumption)]
        · exact absurd rfl h
      · rw [if_neg (by assumption)]
    · rw [if_neg er]; exact SameC.rfl' _
  rw [if_neg e1] at h ⊢
  by_cases e2 : a.kd = 2
  · rw [if_pos e2] at h ⊢
    unfold recvC; rw [if_neg h]; exact SameC.rfl' _
  rw [if_neg e2] at h ⊢
  by_cases e3 : a.kd = 3
  · rw [if_pos e3] at h ⊢
    unfold setlC; rw [if_neg h]; exact SameC.rfl' _
  rw [if_neg e3] at h ⊢
  by_cases e4 : a.kd = 4
  · rw [if_pos e4] at h ⊢
    unfold setlC; rw [if_neg h]; exact SameC.rfl' _
  rw [if_neg e4] at h ⊢
  by_cases e5 : a.kd = 5
  · rw [if_pos e5] at h ⊢
    unfold comC; rw [if_neg h]; exact SameC.rfl' _
  rw [if_neg e5]; exact SameC.rfl' _
theorem do_good (c : Nat → ChV) (a : CaV) (h : doE c a = 0) (hn : noted a.kd) : totC (doC c a) = totC (c a.s) + 1 := by
  unfold doE at h
  unfold doC
  by_cases e0 : a.kd = 0
  · rw [if_pos e0] at h ⊢
    unfold sendC; rw [if_pos h]
    exact tot_note _ _ _ _ rfl rfl
  rw [if_neg e0] at h ⊢
  by_cases e1 : a.kd = 1
  · rcases hn with hn | hn <;> omega
  rw [if_neg e1] at h ⊢
  by_cases e2 : a.kd = 2
  · rw [if_pos e2] at h ⊢
    unfold recvC; rw [if_pos h]
    exact tot_note _ _ _ _ rfl rfl
  rw [if_neg e2] at h ⊢
  by_cases e3 : a.kd = 3
  · rw [if_pos e3] at h ⊢
    unfold setlC; rw [if_pos h]
    exact tot_note _ _ _ _ rfl rfl
  rw [if_neg e3] at h ⊢
  by_cases e4 : a.kd = 4
  · rw [if_pos e4] at h ⊢
    unfold setlC; rw [if_pos h]
    exact tot_note _ _ _ _ rfl rfl
  rcases hn with hn | hn <;> omega
theorem do_none (c : Nat → ChV) (a : CaV) (hn : ¬ noted a.kd) : totC (doC c a) = totC (c a.s) := by
  unfold noted at hn
  unfold doC
  rw [if_neg (by omega)]
  by_cases e1 : a.kd = 1
  · rw [if_pos e1]
    split <;> rfl
  rw [if_neg e1, if_neg (by omega), if_neg (by omega), if_neg (by omega)]
  by_cases e5 : a.kd = 5
  · rw [if_pos e5]; exact tot_com _
  · rw [if_neg e5]
/-- how many notes each chain has, in a block of the law's own -/
def GoT (w : World) (G : Nat) (n : Nat → Nat) : Prop := w.heap[G]? = some (.cells #[.int .i64 (n 0 : Int), .int .i64 (n 1 : Int)] 60 (0, 0))
theorem GoT.cell {w : World} {G : Nat} {n : Nat → Nat} (h : GoT w G n) (k : Nat) (hk : k < 2) : w.cell? ⟨G, k, none⟩ = some (.int .i64 (n k : Int)) := by
  rcases Nat.lt_succ_iff_lt_or_eq.1 hk with h1 | rfl
  · obtain rfl : k = 0 := by omega
    exact Kq.blk_cell h 0
  · exact Kq.blk_cell h 1
theorem GoT.set {w : World} {G : Nat} {n n' : Nat → Nat} (h : GoT w G n) (k : Nat) (hk : k < 2) (h1 : n' k = n k + 1) (h2 : ∀ j, j ≠ k → n' j = n j) : GoT (w.setCell ⟨G, k, none⟩ (.int .i64 ((n k + 1 : Nat) : Int))) G n' := by
  unfold GoT
  rcases Nat.lt_succ_iff_lt_or_eq.1 hk with h3 | rfl
  · obtain rfl : k = 0 := by omega
    rw [h1, h2 1 (by decide)]
    exact Kq.blk_set h 0 _
  · rw [h1, h2 0 (by decide)]
    exact Kq.blk_set h 1 _
theorem GoT.congr {w : World} {G : Nat} {n n' : Nat → Nat} (h : GoT w G n) (e : ∀ k, k < 2 → n' k = n k) : GoT w G n' := by
  unfold GoT at h ⊢
  rw [e 0 (by decide), e 1 (by decide)]; exact h
theorem GoT.fb {w w' : World} {G : Nat} {n : Nat → Nat} {V : Nat → Prop} (h : GoT w G n) (hb : Fb V w w') (hV : V G) : GoT w' G n := Kq.Keeps.blk hb h (fun hn => hn hV)
theorem GoT.below {w w' : World} {G : Nat} {n : Nat → Nat} (h : GoT w G n) (hb : Below w.heap.size w w') : GoT w' G n := Kq.below_blk hb h (Kq.blk_lt h)
end Go.Proofs.YtbjchfcoacmaaaaGreatDoor
