/- Merged: CnDoM, CnMade, CnDoA, CnDo3, CnDo4. Two chains, their calls: as values, in memory. No condition. carracklaw13's made; the document's chains are laid beside. Condition: the sequences may be. What carracklaw13's do holds. No condition. carracklaw13's do: Ack. Condition: few calls, short texts; the constants lie where they lie. carracklaw13's do: Timeout. Condition: few calls, short texts; the constants lie where they lie. -/
import Derived.Test.YtbjchfcoacmaaaaGreatDoorCnPrvMQ
import Derived.Test.YtbjchfcoacmaaaaGreatDoorCnLogQ
import Derived.Test.YtbjchfcoacmaaaaGreatDoorCaMQ
import Derived.WalkSpells
import Derived.Outline
import Derived.ProofKit
import Derived.Deep.QuietTactic
import Derived.Deep.RegionHeld
import Derived.Test.YtbjchfcoacmaaaaGreatDoorShConstQ
import Derived.Test.YtbjchfcoacmaaaaGreatDoorCnNoQ
import Derived.BigQuiet
import Derived.Test.YtbjchfcoacmaaaaGreatDoorCnAckQ
namespace Go.Proofs.YtbjchfcoacmaaaaGreatDoor
open Go.RowKit
set_option linter.unusedVariables false
def CaV.val (a : CaV) : Value := .agg a.cells.toArray
/-- its numbers are a uint64's, its texts are short -/
structure CaOk (a : CaV) : Prop where
  h : a.h < 18446744073709551616
  q : a.q < 18446744073709551616
  t : a.t < 18446744073709551616
  d : a.d.size ≤ 2000
  pd : a.pd.size ≤ 300
def sideN (id : Int) : Nat := if id = 1 then 1 else 0
theorem sideN_lt (id : Int) : sideN id < 2 := by unfold sideN; split <;> omega
def CaV.s (a : CaV) : Nat := sideN a.id
def CaV.o (a : CaV) : Nat := 1 - sideN a.id
def CaV.key (a : CaV) : ByteArray := if a.kd = 2 then keyT 99 a.q else if a.kd = 3 then keyT 97 a.q else keyT 114 a.q
def updF (c : Nat → ChV) (k : Nat) (x : ChV) : Nat → ChV := fun j => if j = k then x else c j
noncomputable def CaV.pr (a : CaV) (c : Nat → ChV) : ByteArray := if a.sp = false ∧ 2 ≤ a.kd ∧ a.kd ≤ 4 then (proveV (c a.o).st a.key a.h).1 else a.d
/-- what a call leaves of its chain -/
noncomputable def doC (c : Nat → ChV) (a : CaV) : ChV :=
  if a.kd = 0 then sendC (c a.s) a.d a.h
  else if a.kd = 1 then (if (rootV (c a.o).st a.h).2 = 0 then updC (c a.s) a.h (rootV (c a.o).st a.h).1 else c a.s)
  else if a.kd = 2 then recvC (c a.s) a.f a.q a.t a.pd (a.pr c) a.h
  else if a.kd = 3 then setlC (c a.s) 3 a.f a.q a.t a.pd (ackL (c a.s) a.f a.q a.t a.pd (a.pr c) a.h)
  else if a.kd = 4 then setlC (c a.s) 4 a.f a.q a.t a.pd (timeL (c a.s) a.f a.q a.t a.pd (a.pr c) a.h)
  else if a.kd = 5 then comC (c a.s)
  else c a.s
/-- .. and tells: a packet, a height, an error -/
noncomputable def doP (c : Nat → ChV) (a : CaV) : PkV := if a.kd = 0 then sendP (c a.s) a.d a.h else zeroPk
noncomputable def doH (c : Nat → ChV) (a : CaV) : Nat := if a.kd = 5 then (comV (c a.s).st).2.1 else 0
noncomputable def doE (c : Nat → ChV) (a : CaV) : Int :=
  if a.kd = 0 then firstE (sendE (c a.s) a.d a.h)
  else if a.kd = 1 then (if (rootV (c a.o).st a.h).2 = 0 then (setF a.h (rootV (c a.o).st a.h).1 (c a.s).hs (c a.s).f).2.2 else (rootV (c a.o).st a.h).2)
  else if a.kd = 2 then firstE (recvE (c a.s) a.f a.q a.t a.pd (a.pr c) a.h)
  else if a.kd = 3 then firstE (setlE (c a.s) a.f a.q a.t a.pd (ackL (c a.s) a.f a.q a.t a.pd (a.pr c) a.h))
  else if a.kd = 4 then firstE (setlE (c a.s) a.f a.q a.t a.pd (timeL (c a.s) a.f a.q a.t a.pd (a.pr c) a.h))
  else if a.kd = 5 then (comV (c a.s).st).2.2
  else 0
noncomputable def doV (c : Nat → ChV) (a : CaV) : Nat → ChV := updF c a.s (doC c a)
/-- right, both -/
def TwK (m : Nat) (c : Nat → ChV) : Prop := ∀ k, k < 2 → ChK m (c k)
theorem TwK.do {m : Nat} {c : Nat → ChV} (h : TwK m c) (hm : m < 900) (a : CaV) : TwK (m + 1) (doV c a) := by
  intro k hk
  unfold doV updF
  by_cases e : k = a.s
  · rw [if_pos e]
    have hs := h a.s (sideN_lt _)
    unfold doC
    split
    · exact hs.send hm _ _
    · split
      · split
        · exact hs.upd hm _ _
        · exact hs.mono (by omega)
      · split
        · exact hs.recv hm _ _ _ _ _ _
        · split
          · exact hs.setl hm _ _ _ _ _ _
          · split
            · exact hs.setl hm _ _ _ _ _ _
            · split
              · exact hs.com hm
              · exact hs.mono (by omega)
  · rw [if_neg e]; exact (h k hk).mono (by omega)
theorem pfB_lenG {p : PfV} (h : PfMay p) : (txt (pfB p)).size ≤ 2000 := by
  rw [txt_size]
  have := lsB_len p.ls h.2
  have := h.1
  simp only [pfB, List.length_append, List.length_cons, List.length_nil]; omega
theorem proveL_size {l : List PairV} (hl : smallP l) (hn : l.length ≤ 1000) (key : ByteArray) : (proveL l key).1.size ≤ 2000 := by
  unfold proveL
  split
  · rename_i h
    rw [(parse_bytesG (pfHas_mayG hl hn h)).1]; exact pfB_lenG (pfHas_mayG hl hn h)
  · split
    · exact Nat.zero_le _
    · rw [(parse_bytesG (pfNot_mayG hl hn)).1]; exact pfB_lenG (pfNot_mayG hl hn)
theorem proveV_size {s : StV} (hs : StOk s) (hn : ∀ l ∈ s.blks, l.length ≤ 1000) (key : ByteArray) (H : Nat) : (proveV s key H).1.size ≤ 2000 := by
  unfold proveV
  split
  · exact proveL_size (atV_small hs H) (atV_len hn H) key
  · exact Nat.zero_le _
theorem rootV_size (s : StV) (H : Nat) : (rootV s H).1.size ≤ 32 := by
  unfold rootV
  split
  · show (dgT _).size ≤ 32
    rw [dgT_size]; exact Nat.le_refl _
  · exact Nat.zero_le _
theorem CaV.pr_size {a : CaV} {c : Nat → ChV} {m : Nat} (h : TwK m c) (hm : m ≤ 400) (ha : CaOk a) : (a.pr c).size ≤ 2000 := by
  unfold CaV.pr
  have ho : a.o < 2 := by unfold CaV.o; omega
  split
  · exact proveV_size (h a.o ho).ok.st (fun l hl => by have := (h a.o ho).bl l hl; omega) _ _
  · exact ha.d
/-- two chains in memory: the law's block holds both; all of them in O -/
structure TwS (w : World) (O : Nat → Prop) (X : Nat) (B : Nat → Nat) (P : Nat → Nat → Prop) (M : Value) (c : Nat → ChV) : Prop where
  blk : w.heap[X]? = some (.cells #[.pointer (some ⟨B 0, 0, none⟩), .pointer (some ⟨B 1, 0, none⟩), M] 54 (0, 0))
  ch : ∀ k, k < 2 → ChP w (P k) (B k) (c k)
  oX : O X
  sub : ∀ k j, k < 2 → P k j → O j ∧ j ≠ X
  apart : ∀ j, P 0 j → ¬ P 1 j
  lt : ∀ j, O j → j < w.heap.size
def TwP (w : World) (O : Nat → Prop) (X : Nat) (c : Nat → ChV) : Prop := ∃ B P M, TwS w O X B P M c
section
variable {w w' : World} {O : Nat → Prop} {X : Nat} {B : Nat → Nat} {P : Nat → Nat → Prop} {M : Value} {c : Nat → ChV}
theorem TwS.keeps {T : Nat → Prop} (h : TwS w O X B P M c) (hk : Kq.Keeps T w w') (hT : ∀ k, O k → ¬ T k) : TwS w' O X B P M c :=
  ⟨hk.blk h.blk (hT _ h.oX), fun k hk2 => (h.ch k hk2).keeps hk (fun j hj => hT j (h.sub k j hk2 hj).1), h.oX, h.sub, h.apart, fun j hj => Nat.lt_of_lt_of_le (h.lt j hj) hk.size⟩
theorem TwS.below (h : TwS w O X B P M c) (hb : Below w.heap.size w w') : TwS w' O X B P M c :=
  h.keeps (T := fun _ => False) (Kq.Keeps.of_below hb (fun k h1 h2 => absurd h1 (Nat.not_le.2 h2))) (fun _ _ h => h)
theorem TwP.below (h : TwP w O X c) (hb : Below w.heap.size w w') : TwP w' O X c := by
  obtain ⟨B, P, M, h⟩ := h; exact ⟨B, P, M, h.below hb⟩
theorem TwP.keeps {T : Nat → Prop} (h : TwP w O X c) (hk : Kq.Keeps T w w') (hT : ∀ k, O k → ¬ T k) : TwP w' O X c := by
  obtain ⟨B, P, M, h⟩ := h; exact ⟨B, P, M, h.keeps hk hT⟩
theorem TwP.lt (h : TwP w O X c) : ∀ j, O j → j < w.heap.size := by
  obtain ⟨B, P, M, h⟩ := h; exact h.lt
theorem TwS.widen {O' : Nat → Prop} (h : TwS w O X B P M c) (hO : ∀ k, O k → O' k) (hl : ∀ k, O' k → k < w.heap.size) : TwS w O' X B P M c :=
  ⟨h.blk, h.ch, hO _ h.oX, fun k j hk hj => ⟨hO _ (h.sub k j hk hj).1, (h.sub k j hk hj).2⟩, h.apart, hl⟩
theorem TwS.cell (h : TwS w O X B P M c) (k : Nat) (hk : k < 2) : w.cell? ⟨X, k, none⟩ = some (.pointer (some ⟨B k, 0, none⟩)) := by
  rcases Nat.lt_succ_iff_lt_or_eq.1 hk with h1 | rfl
  · obtain rfl : k = 0 := by omega
    exact Kq.blk_cell h.blk 0
  · exact Kq.blk_cell h.blk 1
/-- one of them changed -/
theorem TwS.step {k : Nat} (hk : k < 2) {r : Value} {c' : ChV} {x : Ending} (h : TwS w O X B P M c) (hs : StepC w (P k) (B k) r c' x w') : TwS w' (Ext O w w') X B (fun j => if j = k then Ext (P k) w w' else P j) M (updF c k c') ∧ Kq.Keeps O w w' := by
  obtain ⟨-, h1, h2⟩ := hs
  have hko : Kq.Keeps O w w' := h2.mono (fun j _ hj => (h.sub k j hk hj).1)
  refine ⟨⟨h2.blk h.blk (fun e => (h.sub k X hk e).2 rfl), fun j hj => ?_, Or.inl h.oX, fun j i hj hi => ?_, fun i hi => ?_, ext_lt h.lt h2.size⟩, hko⟩
  · unfold updF
    by_cases e : j = k
    · subst e; rw [if_pos rfl, if_pos rfl]; exact h1
    · rw [if_neg e, if_neg e]
      refine (h.ch j hj).keeps h2 (fun i h3 h4 => ?_)
      have : (j = 0 ∧ k = 1) ∨ (j = 1 ∧ k = 0) := by omega
      rcases this with ⟨rfl, rfl⟩ | ⟨rfl, rfl⟩
      · exact h.apart i h3 h4
      · exact h.apart i h4 h3
  · by_cases e : j = k
    · subst e; rw [if_pos rfl] at hi
      rcases hi with hi | hi
      · exact ⟨Or.inl (h.sub j i hj hi).1, (h.sub j i hj hi).2⟩
      · exact ⟨Or.inr hi, fun e => by have := h.lt X h.oX; omega⟩
    · rw [if_neg e] at hi
      exact ⟨Or.inl (h.sub j i hj hi).1, (h.sub j i hj hi).2⟩
  · intro h3
    have hl0 : ∀ i, P 0 i → i < w.heap.size := fun i hi => h.lt i (h.sub 0 i (by omega) hi).1
    have hl1 : ∀ i, P 1 i → i < w.heap.size := fun i hi => h.lt i (h.sub 1 i (by omega) hi).1
    by_cases e : k = 0
    · subst e
      rw [if_pos rfl] at hi
      rw [if_neg (by omega)] at h3
      rcases hi with hi | hi
      · exact h.apart i hi h3
      · have := hl1 i h3; omega
    · obtain rfl : k = 1 := by omega
      rw [if_neg (by omega)] at hi
      rw [if_pos rfl] at h3
      rcases h3 with h3 | h3
      · exact h.apart i hi h3
      · have := hl0 i hi; omega
end
theorem updF_same (c : Nat → ChV) (k : Nat) : updF c k (c k) = c := by
  funext j
  unfold updF
  by_cases e : j = k
  · rw [if_pos e, e]
  · rw [if_neg e]
/-- what a call tells that may change the chains -/
def StepT (w : World) (O : Nat → Prop) (X : Nat) (r : Value) (c' : Nat → ChV) (x : Ending) (w' : World) : Prop := x = .returned r ∧ TwP w' (Ext O w w') X c' ∧ Kq.Keeps O w w'
end Go.Proofs.YtbjchfcoacmaaaaGreatDoor
namespace Go.Proofs.YtbjchfcoacmaaaaGreatDoor
open Go.RowKit
set_option linter.unusedVariables false
def PtrPost (w : World) (x : Ending) (w' : World) : Prop := ∃ P, x = .returned (.pointer (some ⟨P, 0, none⟩)) ∧ Below w.heap.size w w'
set_option maxRecDepth 100000 in
set_option maxHeartbeats 1000000 in
theorem r_new0 (w : World) : Calls Tryz.prog 42 #[] w (PtrPost w) := by
  go_enter Tryz.func42, Tryz.ntmps42
  go_wp2_with fail
  refine (r_constants w).mono ?_
  rintro e w1 ⟨A, ca, B, cb, rfl, hA, hA1, hB, hB1, hK, hH, hb1⟩
  have H1 := Lib.hid hb1
  clear hA hA1 hB hB1 hK hH hb1
  have hmm := @run_makeMap Tryz.prog
  go_wp2
  have hb2 := (Kq.below_alloc w1 (.map #[] 0))
  have hb3 := hb2.trans ((Kq.below_alloc (w1.alloc (.map #[] 0)) (.cells #[.slice (some ⟨A, 0, none⟩) 64 ca, .slice (some ⟨B, 0, none⟩) 8 cb, .map (some w1.heap.size), .bool false] 146)).mono hb2.size)
  have H2 := Lib.hid (H1.out.trans (hb3.mono H1.out.size))
  clear hb2 hb3 hmm
  go_ret
  exact ⟨_, rfl, H2.out⟩
set_option maxRecDepth 100000 in
set_option maxHeartbeats 1000000 in
theorem sr_new0 (h : Int) (w : World) : Calls Tryz.prog 125 #[.int .u64 h] w (PtrPost w) := by
  go_enter Tryz.func125, Tryz.ntmps125
  go_wp2
  go_ret
  exact ⟨_, rfl, (Kq.below_alloc w _).trans ((Kq.below_alloc _ _).mono (by simp))⟩
set_option maxRecDepth 100000 in
set_option maxHeartbeats 1000000 in
theorem cr_new0 (Q : Nat) (id h s : Int) (w : World) : Calls Tryz.prog 74 #[.pointer (some ⟨Q, 0, none⟩), .int .i64 id, .int .u64 h, .int .u64 s] w (PtrPost w) := by
  go_enter Tryz.func74, Tryz.ntmps74
  go_wp2_with fail
  refine (sr_new0 h w).mono ?_
  rintro x w1 ⟨P, rfl, b1⟩
  have H1 := Lib.hid b1
  clear b1
  go_wp2
  go_ret
  exact ⟨_, rfl, H1.out.trans (((Kq.below_alloc w1 _).trans (((Kq.below_alloc _ _).trans ((Kq.below_alloc _ _).mono (by simp))).mono (by simp))).mono H1.out.size)⟩
/-- two arrays in their boxes -/
def ArrB (w : World) (Y : Nat) (h0 h1 s0 s1 : Int) : Prop := w.heap[Y]? = some (.cells #[.int .u64 h0, .int .u64 h1] 40 (0, 0)) ∧ w.heap[Y + 1]? = some (.cells #[.int .u64 s0, .int .u64 s1] 40 (0, 0))
theorem ArrB.below {w w' : World} {Y : Nat} {h0 h1 s0 s1 : Int} (h : ArrB w Y h0 h1 s0 s1) (hb : Below w.heap.size w w') : ArrB w' Y h0 h1 s0 s1 := ⟨Kq.below_blk hb h.1 (Kq.blk_lt h.1), Kq.below_blk hb h.2 (Kq.blk_lt h.2)⟩
theorem ArrB.keeps {w w' : World} {Y : Nat} {h0 h1 s0 s1 : Int} {S : Nat → Prop} (h : ArrB w Y h0 h1 s0 s1) (hk : Kq.Keeps S w w') (a : ¬ S Y) (b : ¬ S (Y + 1)) : ArrB w' Y h0 h1 s0 s1 := ⟨hk.blk h.1 a, hk.blk h.2 b⟩
theorem ArrB.new (w : World) (h0 h1 s0 s1 : Int) : ArrB ((w.alloc (.cells #[.int .u64 h0, .int .u64 h1] 40)).alloc (.cells #[.int .u64 s0, .int .u64 s1] 40)) w.heap.size h0 h1 s0 s1 ∧ Below w.heap.size w ((w.alloc (.cells #[.int .u64 h0, .int .u64 h1] 40)).alloc (.cells #[.int .u64 s0, .int .u64 s1] 40)) := by
  have b1 := Kq.below_alloc w (.cells #[.int .u64 h0, .int .u64 h1] 40)
  have n1 := Kq.blk_new w #[.int .u64 h0, .int .u64 h1] 40 (0, 0)
  have hs : (w.alloc (.cells #[.int .u64 h0, .int .u64 h1] 40)).heap.size = w.heap.size + 1 := by simp
  generalize w.alloc (.cells #[.int .u64 h0, .int .u64 h1] 40) = z at *
  have b2 := Kq.below_alloc z (.cells #[.int .u64 s0, .int .u64 s1] 40)
  have n2 := Kq.blk_new z #[.int .u64 s0, .int .u64 s1] 40 (0, 0)
  rw [hs] at n2
  exact ⟨⟨Kq.below_blk b2 n1 (Kq.blk_lt n1), n2⟩, b1.trans (b2.mono (by omega))⟩
set_option maxRecDepth 100000 in
set_option maxHeartbeats 1000000 in
theorem both_new0 (Q : Nat) (h0 h1 s0 s1 : Int) (w : World) : Calls Tryz.prog 41 #[.pointer (some ⟨Q, 0, none⟩), .agg #[.int .u64 h0, .int .u64 h1], .agg #[.int .u64 s0, .int .u64 s1]] w (PtrPost w) := by
  obtain ⟨Y, hY⟩ : ∃ Y, Y = w.heap.size := ⟨_, rfl⟩
  obtain ⟨wb, hwb⟩ : ∃ z, z = (w.alloc (.cells #[.int .u64 h0, .int .u64 h1] 40)).alloc (.cells #[.int .u64 s0, .int .u64 s1] 40) := ⟨_, rfl⟩
  have H0 : Hid (ArrB wb.drew Y h0 h1 s0 s1 ∧ Below w.heap.size w wb.drew) := Lib.hid (by
    have := ArrB.new w h0 h1 s0 s1
    rw [← hwb, ← hY] at this
    exact ⟨this.1.below (Below.refl _ _).drew, by rw [← hY]; exact this.2.drew⟩)
  have HCB : Hid (∀ z, ArrB z Y h0 h1 s0 s1 → (z.cell? ⟨Y, 0, none⟩ = some (.int .u64 h0) ∧ z.cell? ⟨Y, 1, none⟩ = some (.int .u64 h1) ∧ z.cell? ⟨Y + 1, 0, none⟩ = some (.int .u64 s0) ∧ z.cell? ⟨Y + 1, 1, none⟩ = some (.int .u64 s1))) := Lib.hid (fun z hz => ⟨Kq.blk_cell hz.1 0, Kq.blk_cell hz.1 1, Kq.blk_cell hz.2 0, Kq.blk_cell hz.2 1⟩)
  go_enter Tryz.func41, Tryz.ntmps41
  go_wp2
  rw [← hwb, ← hY]
  clear hwb hY
  refine wp_region_held_drew (S := fun w' => w'.cell? ⟨Y, 0, none⟩ = some (.int .u64 h0) ∧ w'.cell? ⟨Y, 1, none⟩ = some (.int .u64 h1) ∧ w'.cell? ⟨Y + 1, 0, none⟩ = some (.int .u64 s0) ∧ w'.cell? ⟨Y + 1, 1, none⟩ = some (.int .u64 s1)) (by kernel_rfl) (HCB.out _ H0.out.1) (fun hS0 => ?_)
  generalize wb.drew = z0 at *
  refine wpAnyH_take (i := 0) (v := ?_) rfl (by kernel_rfl) (by kernel_rfl) (by kernel_rfl) (fun _ _ _ h => h) (Or.inl ⟨by kernel_rfl, ?_⟩) (by assumption) ?_
  rotate_left
  · intro w hSw; (try dsimp only at hSw); go_simp; (try with_reducible rfl)
  refine wpAnyH_take (i := 1) (v := ?_) rfl (by kernel_rfl) (by kernel_rfl) (by kernel_rfl) (fun _ _ _ h => h) (Or.inl ⟨by kernel_rfl, ?_⟩) (by assumption) ?_
  rotate_left
  · intro w hSw; (try dsimp only at hSw); go_simp; (try with_reducible rfl)
  refine wpAnyH_take (i := 2) (v := ?_) rfl (by kernel_rfl) (by kernel_rfl) (by kernel_rfl) (fun _ _ _ h => h) (Or.inl ⟨by kernel_rfl, ?_⟩) (by assumption) ?_
  rotate_left
  · intro w hSw; (try dsimp only at hSw); go_simp; (try with_reducible rfl)
  refine wpAnyH_take (i := 3) (v := ?_) rfl (by kernel_rfl) (by kernel_rfl) (by kernel_rfl) (fun _ _ _ h => h) (Or.inl ⟨by kernel_rfl, ?_⟩) (by assumption) ?_
  rotate_left
  · intro w hSw; (try dsimp only at hSw); go_simp; (try with_reducible rfl)
  refine wpAnyH_take (i := 4) (v := ?_) rfl (by kernel_rfl) (by kernel_rfl) (by kernel_rfl) (fun _ _ _ h => h) (Or.inl ⟨by kernel_rfl, ?_⟩) (by assumption) ?_
  rotate_left
  · intro w hSw; (try dsimp only at hSw); go_simp; (try with_reducible rfl)
  refine wpAnyH_take (i := 6) (v := ?_) rfl (by kernel_rfl) (by kernel_rfl) (by kernel_rfl) (fun _ _ _ h => h) (Or.inl ⟨by kernel_rfl, ?_⟩) (by assumption) ?_
  rotate_left
  · intro w hSw; (try dsimp only at hSw); go_simp; (try with_reducible rfl)
  refine wpAnyH_take (i := 7) (v := ?_) rfl (by kernel_rfl) (by kernel_rfl) (by kernel_rfl) (fun _ _ _ h => h) (Or.inl ⟨by kernel_rfl, ?_⟩) (by assumption) ?_
  rotate_left
  · intro w hSw; (try dsimp only at hSw); go_simp; (try with_reducible rfl)
  refine wpAnyH_take (i := 8) (v := ?_) rfl (by kernel_rfl) (by kernel_rfl) (by kernel_rfl) (fun _ _ _ h => h) (Or.inl ⟨by kernel_rfl, ?_⟩) (by assumption) ?_
  rotate_left
  · intro w hSw; (try dsimp only at hSw); go_simp; (try with_reducible rfl)
  refine wpAnyH_take (i := 9) (v := ?_) rfl (by kernel_rfl) (by kernel_rfl) (by kernel_rfl) (fun _ _ _ h => h) (Or.inl ⟨by kernel_rfl, ?_⟩) (by assumption) ?_
  rotate_left
  · intro w hSw; (try dsimp only at hSw); go_simp; (try with_reducible rfl)
  refine wpAnyH_take (i := 10) (v := ?_) rfl (by kernel_rfl) (by kernel_rfl) (by kernel_rfl) (fun _ _ _ h => h) (Or.inl ⟨by kernel_rfl, ?_⟩) (by assumption) ?_
  rotate_left
  · intro w hSw; (try dsimp only at hSw); go_simp; (try with_reducible rfl)
  refine wpAnyH_ready (rs := [5]) (by kernel_rfl) (by simp) ?_
  refine AllReadyH.cons rfl (fun K hK => ?_) AllReadyH.nil
  go_simp
  refine (cr_new0 Q 0 h0 s0 z0).mono ?_
  rintro x z1 ⟨P1, rfl, b1⟩
  have H1 : Hid (ArrB z1 Y h0 h1 s0 s1 ∧ Below w.heap.size w z1) := Lib.hid ⟨H0.out.1.below b1, H0.out.2.trans (b1.mono H0.out.2.size)⟩
  clear b1 H0 hS0
  refine hK.out _ _ (HCB.out _ H1.out.1) (fun hS0 => ?_)
  clear hK K
  refine wpAnyH_ready (rs := [11]) (by kernel_rfl) (by simp) ?_
  refine AllReadyH.cons rfl (fun K hK => ?_) AllReadyH.nil
  go_simp
  refine (cr_new0 Q 1 h1 s1 z1).mono ?_
  rintro x z2 ⟨P2, rfl, b1⟩
  have H2 : Hid (ArrB z2 Y h0 h1 s0 s1 ∧ Below w.heap.size w z2) := Lib.hid ⟨H1.out.1.below b1, H1.out.2.trans (b1.mono H1.out.2.size)⟩
  clear b1 H1 hS0
  refine hK.out _ _ (HCB.out _ H2.out.1) (fun hS0 => ?_)
  clear hK K
  refine wpAnyH_take (i := 12) (v := ?_) rfl (by kernel_rfl) (by kernel_rfl) (by kernel_rfl) (fun _ _ _ h => h) (Or.inl ⟨by kernel_rfl, ?_⟩) (by assumption) ?_
  rotate_left
  · intro w hSw; (try dsimp only at hSw); go_simp; (try with_reducible rfl)
  refine wpAnyH_take (i := 13) (v := ?_) rfl (by kernel_rfl) (by kernel_rfl) (by kernel_rfl) (fun _ _ _ h => h) (Or.inl ⟨by kernel_rfl, ?_⟩) (by assumption) ?_
  rotate_left
  · intro w hSw; (try dsimp only at hSw); go_simp; (try with_reducible rfl)
  refine wpAnyH_ready (rs := [14]) (by kernel_rfl) (by simp) ?_
  refine AllReadyH.cons rfl (fun K hK => ?_) AllReadyH.nil
  go_simp
  have ba := Kq.below_alloc z2 (.cells #[.pointer (some ⟨P1, 0, none⟩), .pointer (some ⟨P2, 0, none⟩)] 141)
  have H3 : Hid (ArrB (z2.alloc (.cells #[.pointer (some ⟨P1, 0, none⟩), .pointer (some ⟨P2, 0, none⟩)] 141)) Y h0 h1 s0 s1 ∧ Below w.heap.size w (z2.alloc (.cells #[.pointer (some ⟨P1, 0, none⟩), .pointer (some ⟨P2, 0, none⟩)] 141))) := Lib.hid ⟨H2.out.1.below ba, H2.out.2.trans (ba.mono H2.out.2.size)⟩
  clear ba H2 hS0
  refine hK.out _ _ (HCB.out _ H3.out.1) (fun hS0 => ?_)
  clear hK K
  refine wpAnyH_take (i := 15) (v := ?_) rfl (by kernel_rfl) (by kernel_rfl) (by kernel_rfl) (fun _ _ _ h => h) (Or.inl ⟨by kernel_rfl, ?_⟩) (by assumption) ?_
  rotate_left
  · intro w hSw; (try dsimp only at hSw); go_simp; (try with_reducible rfl)
  refine wpAnyH_done (by kernel_rfl) ?_ _
  clear hS0 HCB
  go_wp2
  go_ret
  exact ⟨_, rfl, H3.out.2⟩
/-- both at first -/
def newTw (h0 h1 s0 s1 : Nat) : Nat → ChV := fun j => if j = 0 then newCh 0 h0 s0 else newCh 1 h1 s1
def MadePost (w : World) (h0 h1 s0 s1 : Nat) (x : Ending) (w' : World) : Prop := ∃ X, x = .returned (.pointer (some ⟨X, 0, none⟩)) ∧ TwP w' (fun k => w.heap.size ≤ k ∧ k < w'.heap.size) X (newTw h0 h1 s0 s1) ∧ Below w.heap.size w w'
/-- behind j chains -/
structure MdS (Y : Nat) (w0 : World) (h0 h1 s0 s1 : Nat) (X : Nat) (M : Value) (j : Nat) (w : World) : Prop where
  bx : ArrB w Y (h0 : Int) (h1 : Int) (s0 : Int) (s1 : Int)
  xl : Y + 1 < X
  bel : Below Y w0 w
  yle : Y = w0.heap.size
  st : (j = 0 ∧ w.heap[X]? = some (.cells #[.pointer none, .pointer none, M] 54 (0, 0))) ∨
    (j = 1 ∧ ∃ B0 P0, w.heap[X]? = some (.cells #[.pointer (some ⟨B0, 0, none⟩), .pointer none, M] 54 (0, 0)) ∧ ChP w P0 B0 (newCh 0 h0 s0) ∧ ∀ k, P0 k → X < k ∧ k < w.heap.size) ∨
    (j = 2 ∧ TwP w (fun k => Y ≤ k ∧ k < w.heap.size) X (newTw h0 h1 s0 s1))
theorem MdS.lt {Y : Nat} {w0 w : World} {h0 h1 s0 s1 X : Nat} {M : Value} {j : Nat} (h : MdS Y w0 h0 h1 s0 s1 X M j w) : Y + 1 < w.heap.size := Kq.blk_lt h.bx.2
set_option maxRecDepth 100000 in
set_option maxHeartbeats 2000000 in
theorem made13 (h0 h1 s0 s1 : Nat) (w : World) (z0 : s0 ≠ 0) (z1 : s1 ≠ 0) : Calls Tryz.prog 16 #[.agg #[.int .u64 (h0 : Int), .int .u64 (h1 : Int)], .agg #[.int .u64 (s0 : Int), .int .u64 (s1 : Int)]] w (MadePost w h0 h1 s0 s1) := by
  obtain ⟨Y, hY⟩ : ∃ Y, Y = w.heap.size := ⟨_, rfl⟩
  obtain ⟨wb, hwb⟩ : ∃ z, z = (w.alloc (.cells #[.int .u64 (h0 : Int), .int .u64 (h1 : Int)] 40)).alloc (.cells #[.int .u64 (s0 : Int), .int .u64 (s1 : Int)] 40) := ⟨_, rfl⟩
  have H0 : Hid (ArrB wb.drew Y (h0 : Int) (h1 : Int) (s0 : Int) (s1 : Int) ∧ Below Y w wb.drew) := Lib.hid (by
    have := ArrB.new w (h0 : Int) (h1 : Int) (s0 : Int) (s1 : Int)
    rw [← hwb, ← hY] at this
    exact ⟨this.1.below (Below.refl _ _).drew, this.2.drew⟩)
  have HCB : Hid (∀ z, ArrB z Y (h0 : Int) (h1 : Int) (s0 : Int) (s1 : Int) → (z.cell? ⟨Y, 0, none⟩ = some (.int .u64 (h0 : Int)) ∧ z.cell? ⟨Y, 1, none⟩ = some (.int .u64 (h1 : Int)) ∧ z.cell? ⟨Y + 1, 0, none⟩ = some (.int .u64 (s0 : Int)) ∧ z.cell? ⟨Y + 1, 1, none⟩ = some (.int .u64 (s1 : Int)))) := Lib.hid (fun z hz => ⟨Kq.blk_cell hz.1 0, Kq.blk_cell hz.1 1, Kq.blk_cell hz.2 0, Kq.blk_cell hz.2 1⟩)
  have HYW := Lib.hid hY
  have HN0 := Lib.hid (fun z => cn_new 0 h0 s0 z (by omega) z0)
  have HN1 := Lib.hid (fun z => cn_new 1 h1 s1 z (by omega) z1)
  clear z0 z1
  go_enter Tryz.func16, Tryz.ntmps16
  go_wp2
  rw [← hwb, ← hY]
  clear hwb hY
  refine wp_region_held_drew (S := fun w' => w'.cell? ⟨Y, 0, none⟩ = some (.int .u64 (h0 : Int)) ∧ w'.cell? ⟨Y, 1, none⟩ = some (.int .u64 (h1 : Int)) ∧ w'.cell? ⟨Y + 1, 0, none⟩ = some (.int .u64 (s0 : Int)) ∧ w'.cell? ⟨Y + 1, 1, none⟩ = some (.int .u64 (s1 : Int))) (by kernel_rfl) (HCB.out _ H0.out.1) (fun hS0 => ?_)
  generalize wb.drew = y0 at *
  refine wpAnyH_take (i := 1) (v := ?_) rfl (by kernel_rfl) (by kernel_rfl) (by kernel_rfl) (fun _ _ _ h => h) (Or.inl ⟨by kernel_rfl, ?_⟩) (by assumption) ?_
  rotate_left
  · intro w hSw; (try dsimp only at hSw); go_simp; (try with_reducible rfl)
  refine wpAnyH_take (i := 2) (v := ?_) rfl (by kernel_rfl) (by kernel_rfl) (by kernel_rfl) (fun _ _ _ h => h) (Or.inl ⟨by kernel_rfl, ?_⟩) (by assumption) ?_
  rotate_left
  · intro w hSw; (try dsimp only at hSw); go_simp; (try with_reducible rfl)
  refine wpAnyH_ready (rs := [0]) (by kernel_rfl) (by simp) ?_
  refine AllReadyH.cons rfl (fun K hK => ?_) AllReadyH.nil
  go_simp
  refine (r_new0 y0).mono ?_
  rintro x y1 ⟨P1, rfl, b1⟩
  have H1 : Hid (ArrB y1 Y (h0 : Int) (h1 : Int) (s0 : Int) (s1 : Int) ∧ Below Y w y1) := Lib.hid ⟨H0.out.1.below b1, H0.out.2.trans (b1.mono (by have := Kq.blk_lt H0.out.1.2; omega))⟩
  clear b1 H0 hS0
  refine hK.out _ _ (HCB.out _ H1.out.1) (fun hS0 => ?_)
  clear hK K
  refine wpAnyH_ready (rs := [3]) (by kernel_rfl) (by simp) ?_
  refine AllReadyH.cons rfl (fun K hK => ?_) AllReadyH.nil
  go_simp
  refine (both_new0 _ (h0 : Int) (h1 : Int) (s0 : Int) (s1 : Int) y1).mono ?_
  rintro x y2 ⟨P2, rfl, b1⟩
  have H2 : Hid (ArrB y2 Y (h0 : Int) (h1 : Int) (s0 : Int) (s1 : Int) ∧ Below Y w y2) := Lib.hid ⟨H1.out.1.below b1, H1.out.2.trans (b1.mono (by have := Kq.blk_lt H1.out.1.2; omega))⟩
  clear b1 H1 hS0
  refine hK.out _ _ (HCB.out _ H2.out.1) (fun hS0 => ?_)
  clear hK K
  refine wpAnyH_take (i := 4) (v := ?_) rfl (by kernel_rfl) (by kernel_rfl) (by kernel_rfl) (fun _ _ _ h => h) (Or.inl ⟨by kernel_rfl, ?_⟩) (by assumption) ?_
  rotate_left
  · intro w hSw; (try dsimp only at hSw); go_simp; (try with_reducible rfl)
  refine wpAnyH_ready (rs := [5]) (by kernel_rfl) (by simp) ?_
  refine AllReadyH.cons rfl (fun K hK => ?_) AllReadyH.nil
  go_simp
  obtain ⟨y3, hy3⟩ : ∃ z, z = y2.alloc (.cells #[.pointer none, .pointer none, .pointer (some ⟨P2, 0, none⟩)] 54) := ⟨_, rfl⟩
  obtain ⟨X, hX⟩ : ∃ X, X = y2.heap.size := ⟨_, rfl⟩
  have H3 : Hid (MdS Y w h0 h1 s0 s1 X (.pointer (some ⟨P2, 0, none⟩)) 0 y3) := Lib.hid (by
    have ba := Kq.below_alloc y2 (.cells #[.pointer none, .pointer none, .pointer (some ⟨P2, 0, none⟩)] 54)
    have bn := Kq.blk_new y2 #[.pointer none, .pointer none, .pointer (some ⟨P2, 0, none⟩)] 54 (0, 0)
    rw [← hy3] at ba bn
    have := Kq.blk_lt H2.out.1.2
    exact ⟨H2.out.1.below ba, by omega, H2.out.2.trans (ba.mono (by omega)), HYW.out, Or.inl ⟨rfl, by rw [hX]; exact bn⟩⟩)
  rw [← hy3, ← hX]
  clear hy3 hX H2 hS0
  refine hK.out _ _ (HCB.out _ H3.out.bx) (fun hS0 => ?_)
  clear hK K
  refine wpAnyH_take (i := 6) (v := ?_) rfl (by kernel_rfl) (by kernel_rfl) (by kernel_rfl) (fun _ _ _ h => h) (Or.inl ⟨by kernel_rfl, ?_⟩) (by assumption) ?_
  rotate_left
  · intro w hSw; (try dsimp only at hSw); go_simp; (try with_reducible rfl)
  refine wpAnyH_done (by kernel_rfl) ?_ _
  clear hS0
  go_wp2
  go_loopw [6] (fun u wr => ∃ j : Nat, u = .int .i64 (j : Int) ∧ j ≤ 2 ∧ MdS Y w h0 h1 s0 s1 X (.pointer (some ⟨P2, 0, none⟩)) j wr) (fun u _ => 2 - (intOf u).toNat)
  case atStart => exact ⟨0, rfl, by omega, H3.out⟩
  case round =>
    clear H3
    obtain ⟨j, rfl, hj, hM⟩ := hrel
    have HM := Lib.hid hM
    clear hM
    obtain rfl | rfl | rfl : j = 0 ∨ j = 1 ∨ j = 2 := by omega
    · -- the chain 0
      have HX : Hid (wr.heap[X]? = some (.cells #[.pointer none, .pointer none, .pointer (some ⟨P2, 0, none⟩)] 54 (0, 0))) := Lib.hid (by
        rcases HM.out.st with ⟨-, h⟩ | ⟨h, _⟩ | ⟨h, _⟩
        · exact h
        · cases h
        · cases h)
      go_wp2
      refine wp_region_held_drew (S := fun w' => w'.cell? ⟨Y, 0, none⟩ = some (.int .u64 (h0 : Int)) ∧ w'.cell? ⟨Y, 1, none⟩ = some (.int .u64 (h1 : Int)) ∧ w'.cell? ⟨Y + 1, 0, none⟩ = some (.int .u64 (s0 : Int)) ∧ w'.cell? ⟨Y + 1, 1, none⟩ = some (.int .u64 (s1 : Int))) (by kernel_rfl) (HCB.out _ HM.out.bx) (fun hS0 => ?_)
      refine wpAnyH_take (i := 0) (v := ?_) rfl (by kernel_rfl) (by kernel_rfl) (by kernel_rfl) (fun _ _ _ h => h) (Or.inl ⟨by kernel_rfl, ?_⟩) (by assumption) ?_
      rotate_left
      · intro w hSw; (try dsimp only at hSw); go_simp; (try with_reducible rfl)
      refine wpAnyH_take (i := 1) (v := ?_) rfl (by kernel_rfl) (by kernel_rfl) (by kernel_rfl) (fun _ _ _ h => h) (Or.inl ⟨by kernel_rfl, ?_⟩) (by assumption) ?_
      rotate_left
      · intro w hSw; (try dsimp only at hSw); go_simp; (try with_reducible rfl)
      refine wpAnyH_take (i := 2) (v := ?_) rfl (by kernel_rfl) (by kernel_rfl) (by kernel_rfl) (fun _ _ _ h => h) (Or.inl ⟨by kernel_rfl, ?_⟩) (by assumption) ?_
      rotate_left
      · intro w hSw; (try dsimp only at hSw); go_simp; (try with_reducible rfl)
      refine wpAnyH_take (i := 3) (v := ?_) rfl (by kernel_rfl) (by kernel_rfl) (by kernel_rfl) (fun _ _ _ h => h) (Or.inl ⟨by kernel_rfl, ?_⟩) (by assumption) ?_
      rotate_left
      · intro w hSw; (try dsimp only at hSw); go_simp; (try with_reducible rfl)
      refine wpAnyH_take (i := 4) (v := ?_) rfl (by kernel_rfl) (by kernel_rfl) (by kernel_rfl) (fun _ _ _ h => h) (Or.inl ⟨by kernel_rfl, ?_⟩) (by assumption) ?_
      rotate_left
      · intro w hSw; (try dsimp only at hSw); go_simp; (try with_reducible rfl)
      refine wpAnyH_take (i := 5) (v := ?_) rfl (by kernel_rfl) (by kernel_rfl) (by kernel_rfl) (fun _ _ _ h => h) (Or.inl ⟨by kernel_rfl, ?_⟩) (by assumption) ?_
      rotate_left
      · intro w hSw; (try dsimp only at hSw); go_simp; (try with_reducible rfl)
      refine wpAnyH_take (i := 6) (v := ?_) rfl (by kernel_rfl) (by kernel_rfl) (by kernel_rfl) (fun _ _ _ h => h) (Or.inl ⟨by kernel_rfl, ?_⟩) (by assumption) ?_
      rotate_left
      · intro w hSw; (try dsimp only at hSw); go_simp; (try with_reducible rfl)
      refine wpAnyH_ready (rs := [7]) (by kernel_rfl) (by simp) ?_
      refine AllReadyH.cons rfl (fun K hK => ?_) AllReadyH.nil
      go_simp
      refine (HN0.out wr.drew).mono ?_
      rintro x y4 ⟨B, rfl, hch, b4⟩
      have HB : Hid (ArrB y4 Y (h0 : Int) (h1 : Int) (s0 : Int) (s1 : Int) ∧ y4.heap[X]? = some (.cells #[.pointer none, .pointer none, .pointer (some ⟨P2, 0, none⟩)] 54 (0, 0)) ∧ Below Y w y4 ∧ ChP y4 (fun k => wr.drew.heap.size ≤ k ∧ k < y4.heap.size) B (newCh 0 h0 s0) ∧ X < wr.drew.heap.size) := Lib.hid ⟨(HM.out.bx.below (Below.refl _ _).drew).below b4, Kq.below_blk (Below.trans (Below.refl wr.heap.size wr).drew b4) HX.out (Kq.blk_lt HX.out), HM.out.bel.trans ((Below.trans (Below.refl wr.heap.size wr).drew b4).mono (by have := HM.out.lt; omega)), hch, Kq.blk_lt HX.out⟩
      clear hch b4 hS0 HX
      refine hK.out _ _ (HCB.out _ HB.out.1) (fun hS0 => ?_)
      clear hK K
      refine wpAnyH_take (i := 8) (v := ?_) rfl (by kernel_rfl) (by kernel_rfl) (by kernel_rfl) (fun _ _ _ h => h) (Or.inl ⟨by kernel_rfl, ?_⟩) (by assumption) ?_
      rotate_left
      · intro w hSw; (try dsimp only at hSw); go_simp; (try with_reducible rfl)
      refine wpAnyH_take (i := 9) (v := ?_) rfl (by kernel_rfl) (by kernel_rfl) (by kernel_rfl) (fun _ _ _ h => h) (Or.inl ⟨by kernel_rfl, ?_⟩) (by assumption) ?_
      rotate_left
      · intro w hSw; (try dsimp only at hSw); go_simp; (try with_reducible rfl)
      refine wpAnyH_take (i := 10) (v := ?_) rfl (by kernel_rfl) (by kernel_rfl) (by kernel_rfl) (fun _ _ _ h => h) (Or.inl ⟨by kernel_rfl, ?_⟩) (by assumption) ?_
      rotate_left
      · intro w hSw; (try dsimp only at hSw); go_simp; (try with_reducible rfl)
      refine wpAnyH_take (i := 11) (v := ?_) rfl (by kernel_rfl) (by kernel_rfl) (by kernel_rfl) (fun _ _ _ h => h) (Or.inl ⟨by kernel_rfl, ?_⟩) (by assumption) ?_
      rotate_left
      · intro w hSw; (try dsimp only at hSw); go_simp; (try with_reducible rfl)
      refine wpAnyH_take (i := 12) (v := ?_) rfl (by kernel_rfl) (by kernel_rfl) (by kernel_rfl) (fun _ _ _ h => h) (Or.inl ⟨by kernel_rfl, ?_⟩) (by assumption) ?_
      rotate_left
      · intro w hSw; (try dsimp only at hSw); go_simp; (try with_reducible rfl)
      refine wpAnyH_done (by kernel_rfl) ?_ _
      clear hS0
      have x0 := Kq.blk_cell HB.out.2.1 0
      have g0 := Kq.blk_free HB.out.2.1 0
      go_wp2
      have HE : Hid (MdS Y w h0 h1 s0 s1 X (.pointer (some ⟨P2, 0, none⟩)) (0 + 1) (y4.setCell ⟨X, 0, none⟩ (.pointer (some ⟨B, 0, none⟩)))) := Lib.hid (by
        have k1 : Kq.Keeps (· = X) y4 (y4.setCell ⟨X, 0, none⟩ (.pointer (some ⟨B, 0, none⟩))) := Kq.Keeps.setCell _ _ _ rfl
        have hxy := HM.out.xl
        refine ⟨HB.out.1.keeps k1 (fun e => by have e : Y = X := e; omega) (fun e => by have e : Y + 1 = X := e; omega), HM.out.xl, below_past HB.out.2.2.1 k1 (Nat.le_of_eq HYW.out) (fun k _ e => by have e : k = X := e; omega), HYW.out, Or.inr (Or.inl ⟨rfl, B, (fun k => wr.drew.heap.size ≤ k ∧ k < y4.heap.size), Kq.blk_set HB.out.2.1 0 _, HB.out.2.2.2.1.keeps k1 (fun k hk e => by have e : k = X := e; have := HB.out.2.2.2.2; omega), fun k hk => ?_⟩)⟩
        have := HB.out.2.2.2.2; have := k1.size; exact ⟨by omega, by omega⟩)
      go_roundw
      case rel => exact ⟨0 + 1, rfl, by omega, HE.out⟩
      case measure => simp [intOf]
    · -- the chain 1
      obtain ⟨B0, P0, hx, hch, hp⟩ : ∃ B0 P0, wr.heap[X]? = some (.cells #[.pointer (some ⟨B0, 0, none⟩), .pointer none, .pointer (some ⟨P2, 0, none⟩)] 54 (0, 0)) ∧ ChP wr P0 B0 (newCh 0 h0 s0) ∧ ∀ k, P0 k → X < k ∧ k < wr.heap.size := by
        rcases HM.out.st with ⟨h, _⟩ | ⟨-, h⟩ | ⟨h, _⟩
        · cases h
        · exact h
        · cases h
      have HX := Lib.hid hx
      have HC0 := Lib.hid (And.intro hch hp)
      clear hx hch hp
      go_wp2
      refine wp_region_held_drew (S := fun w' => w'.cell? ⟨Y, 0, none⟩ = some (.int .u64 (h0 : Int)) ∧ w'.cell? ⟨Y, 1, none⟩ = some (.int .u64 (h1 : Int)) ∧ w'.cell? ⟨Y + 1, 0, none⟩ = some (.int .u64 (s0 : Int)) ∧ w'.cell? ⟨Y + 1, 1, none⟩ = some (.int .u64 (s1 : Int))) (by kernel_rfl) (HCB.out _ HM.out.bx) (fun hS0 => ?_)
      refine wpAnyH_take (i := 0) (v := ?_) rfl (by kernel_rfl) (by kernel_rfl) (by kernel_rfl) (fun _ _ _ h => h) (Or.inl ⟨by kernel_rfl, ?_⟩) (by assumption) ?_
      rotate_left
      · intro w hSw; (try dsimp only at hSw); go_simp; (try with_reducible rfl)
      refine wpAnyH_take (i := 1) (v := ?_) rfl (by kernel_rfl) (by kernel_rfl) (by kernel_rfl) (fun _ _ _ h => h) (Or.inl ⟨by kernel_rfl, ?_⟩) (by assumption) ?_
      rotate_left
      · intro w hSw; (try dsimp only at hSw); go_simp; (try with_reducible rfl)
      refine wpAnyH_take (i := 2) (v := ?_) rfl (by kernel_rfl) (by kernel_rfl) (by kernel_rfl) (fun _ _ _ h => h) (Or.inl ⟨by kernel_rfl, ?_⟩) (by assumption) ?_
      rotate_left
      · intro w hSw; (try dsimp only at hSw); go_simp; (try with_reducible rfl)
      refine wpAnyH_take (i := 3) (v := ?_) rfl (by kernel_rfl) (by kernel_rfl) (by kernel_rfl) (fun _ _ _ h => h) (Or.inl ⟨by kernel_rfl, ?_⟩) (by assumption) ?_
      rotate_left
      · intro w hSw; (try dsimp only at hSw); go_simp; (try with_reducible rfl)
      refine wpAnyH_take (i := 4) (v := ?_) rfl (by kernel_rfl) (by kernel_rfl) (by kernel_rfl) (fun _ _ _ h => h) (Or.inl ⟨by kernel_rfl, ?_⟩) (by assumption) ?_
      rotate_left
      · intro w hSw; (try dsimp only at hSw); go_simp; (try with_reducible rfl)
      refine wpAnyH_take (i := 5) (v := ?_) rfl (by kernel_rfl) (by kernel_rfl) (by kernel_rfl) (fun _ _ _ h => h) (Or.inl ⟨by kernel_rfl, ?_⟩) (by assumption) ?_
      rotate_left
      · intro w hSw; (try dsimp only at hSw); go_simp; (try with_reducible rfl)
      refine wpAnyH_take (i := 6) (v := ?_) rfl (by kernel_rfl) (by kernel_rfl) (by kernel_rfl) (fun _ _ _ h => h) (Or.inl ⟨by kernel_rfl, ?_⟩) (by assumption) ?_
      rotate_left
      · intro w hSw; (try dsimp only at hSw); go_simp; (try with_reducible rfl)
      refine wpAnyH_ready (rs := [7]) (by kernel_rfl) (by simp) ?_
      refine AllReadyH.cons rfl (fun K hK => ?_) AllReadyH.nil
      go_simp
      refine (HN1.out wr.drew).mono ?_
      rintro x y4 ⟨B, rfl, hch, b4⟩
      have HB : Hid (ArrB y4 Y (h0 : Int) (h1 : Int) (s0 : Int) (s1 : Int) ∧ y4.heap[X]? = some (.cells #[.pointer (some ⟨B0, 0, none⟩), .pointer none, .pointer (some ⟨P2, 0, none⟩)] 54 (0, 0)) ∧ Below Y w y4 ∧ ChP y4 (fun k => wr.drew.heap.size ≤ k ∧ k < y4.heap.size) B (newCh 1 h1 s1) ∧ X < wr.drew.heap.size) := Lib.hid ⟨(HM.out.bx.below (Below.refl _ _).drew).below b4, Kq.below_blk (Below.trans (Below.refl wr.heap.size wr).drew b4) HX.out (Kq.blk_lt HX.out), HM.out.bel.trans ((Below.trans (Below.refl wr.heap.size wr).drew b4).mono (by have := HM.out.lt; omega)), hch, Kq.blk_lt HX.out⟩
      have HC0 : Hid (ChP y4 P0 B0 (newCh 0 h0 s0) ∧ (∀ k, P0 k → X < k ∧ k < wr.heap.size) ∧ wr.heap.size ≤ y4.heap.size ∧ wr.heap.size ≤ y4.heap.size) := Lib.hid ⟨(HC0.out.1.below (Below.refl _ _).drew).below b4, HC0.out.2, b4.size, b4.size⟩
      clear hch b4 hS0 HX
      refine hK.out _ _ (HCB.out _ HB.out.1) (fun hS0 => ?_)
      clear hK K
      refine wpAnyH_take (i := 8) (v := ?_) rfl (by kernel_rfl) (by kernel_rfl) (by kernel_rfl) (fun _ _ _ h => h) (Or.inl ⟨by kernel_rfl, ?_⟩) (by assumption) ?_
      rotate_left
      · intro w hSw; (try dsimp only at hSw); go_simp; (try with_reducible rfl)
      refine wpAnyH_take (i := 9) (v := ?_) rfl (by kernel_rfl) (by kernel_rfl) (by kernel_rfl) (fun _ _ _ h => h) (Or.inl ⟨by kernel_rfl, ?_⟩) (by assumption) ?_
      rotate_left
      · intro w hSw; (try dsimp only at hSw); go_simp; (try with_reducible rfl)
      refine wpAnyH_take (i := 10) (v := ?_) rfl (by kernel_rfl) (by kernel_rfl) (by kernel_rfl) (fun _ _ _ h => h) (Or.inl ⟨by kernel_rfl, ?_⟩) (by assumption) ?_
      rotate_left
      · intro w hSw; (try dsimp only at hSw); go_simp; (try with_reducible rfl)
      refine wpAnyH_take (i := 11) (v := ?_) rfl (by kernel_rfl) (by kernel_rfl) (by kernel_rfl) (fun _ _ _ h => h) (Or.inl ⟨by kernel_rfl, ?_⟩) (by assumption) ?_
      rotate_left
      · intro w hSw; (try dsimp only at hSw); go_simp; (try with_reducible rfl)
      refine wpAnyH_take (i := 12) (v := ?_) rfl (by kernel_rfl) (by kernel_rfl) (by kernel_rfl) (fun _ _ _ h => h) (Or.inl ⟨by kernel_rfl, ?_⟩) (by assumption) ?_
      rotate_left
      · intro w hSw; (try dsimp only at hSw); go_simp; (try with_reducible rfl)
      refine wpAnyH_done (by kernel_rfl) ?_ _
      clear hS0
      have x0 := Kq.blk_cell HB.out.2.1 1
      have g0 := Kq.blk_free HB.out.2.1 1
      go_wp2
      have HE : Hid (MdS Y w h0 h1 s0 s1 X (.pointer (some ⟨P2, 0, none⟩)) (1 + 1) (y4.setCell ⟨X, 1, none⟩ (.pointer (some ⟨B, 0, none⟩)))) := Lib.hid (by
        have k1 : Kq.Keeps (· = X) y4 (y4.setCell ⟨X, 1, none⟩ (.pointer (some ⟨B, 0, none⟩))) := Kq.Keeps.setCell _ _ _ rfl
        have hxy := HM.out.xl
        refine ⟨HB.out.1.keeps k1 (fun e => by have e : Y = X := e; omega) (fun e => by have e : Y + 1 = X := e; omega), HM.out.xl, below_past HB.out.2.2.1 k1 (Nat.le_of_eq HYW.out) (fun k _ e => by have e : k = X := e; omega), HYW.out, Or.inr (Or.inr ⟨rfl, (fun k => if k = 0 then B0 else B), (fun k => if k = 0 then P0 else (fun k => wr.drew.heap.size ≤ k ∧ k < y4.heap.size)), .pointer (some ⟨P2, 0, none⟩), ?_⟩)⟩
        have hsz : wr.heap.size ≤ y4.heap.size := HC0.out.2.2.2
        have hxl := HB.out.2.2.2.2
        have hsz2 := k1.size
        have h4 : wr.drew.heap.size = wr.heap.size := rfl
        refine ⟨Kq.blk_set HB.out.2.1 1 _, fun k hk => ?_, ⟨by omega, by omega⟩, fun k i hk hi => ?_, fun i hi hi2 => ?_, fun i hi => hi.2⟩
        · obtain rfl | rfl : k = 0 ∨ k = 1 := by omega
          · show ChP _ P0 B0 (newCh 0 h0 s0)
            exact HC0.out.1.keeps k1 (fun i h e => by have e : i = X := e; have := (HC0.out.2.1 i h).1; omega)
          · show ChP _ (fun k => wr.drew.heap.size ≤ k ∧ k < y4.heap.size) B (newCh 1 h1 s1)
            exact HB.out.2.2.2.1.keeps k1 (fun i h e => by have e : i = X := e; omega)
        · obtain rfl | rfl : k = 0 ∨ k = 1 := by omega
          · have hi : P0 i := hi
            have := HC0.out.2.1 i hi
            exact ⟨⟨by omega, by omega⟩, by omega⟩
          · have hi : wr.drew.heap.size ≤ i ∧ i < y4.heap.size := hi
            exact ⟨⟨by omega, by omega⟩, by omega⟩
        · have hi : P0 i := hi
          have hi2 : wr.drew.heap.size ≤ i ∧ i < y4.heap.size := hi2
          have h3 := (HC0.out.2.1 i hi).2
          have h4 : wr.drew.heap.size = wr.heap.size := rfl
          omega)
      go_roundw
      case rel => exact ⟨1 + 1, rfl, by omega, HE.out⟩
      case measure => simp [intOf]
    · have HT : Hid (TwP wr (fun k => Y ≤ k ∧ k < wr.heap.size) X (newTw h0 h1 s0 s1)) := Lib.hid (by
        rcases HM.out.st with ⟨h, _⟩ | ⟨h, _⟩ | ⟨-, h⟩
        · cases h
        · cases h
        · exact h)
      go_wp2
      go_ret
      exact ⟨X, rfl, by rw [← HYW.out]; exact HT.out, by rw [← HYW.out]; exact HM.out.bel⟩
end Go.Proofs.YtbjchfcoacmaaaaGreatDoor
namespace Go.Proofs.YtbjchfcoacmaaaaGreatDoor
open Go.RowKit
set_option linter.unusedVariables false
set_option maxRecDepth 100000 in
theorem side_one (id : Int) (w : World) : Calls Tryz.prog 20 #[.int .i64 id] w fun x w' => x = .returned (.int .i64 (sideN id : Int)) ∧ w' = w := by
  by_cases e : id = 1
  · subst e
    go_enter Tryz.func20, Tryz.ntmps20
    go_wp2
    go_ret
    exact ⟨rfl, rfl⟩
  · have e1 : (id == 1) = false := by rw [beq_eq_false_iff_ne]; exact e
    have hs : Hid (sideN id = 0) := Lib.hid (if_neg e)
    go_enter Tryz.func20, Tryz.ntmps20
    go_wp2
    go_ret
    exact ⟨by rw [hs.out]; rfl, rfl⟩
/-- what stands within a call -/
structure DoS (Y : Nat) (w0 : World) (O O' : Nat → Prop) (X : Nat) (c : Nat → ChV) (a : CaV) (B : Nat → Nat) (P : Nat → Nat → Prop) (M : Value) (w : World) : Prop where
  tw : TwS w O' X B P M c
  bx : w.heap[Y]? = some (.cells a.cells.toArray 50 (0, 0))
  rs : w.heap[Y + 1]? = some (.cells #[.int .i64 0, .int .u64 0, .int .u64 0, .string ⟨#[]⟩] 46 (0, 0))
  kp : Kq.Keeps O w0 w
  ext : ∀ j, O' j → O j ∨ Y + 2 ≤ j
  olt : ∀ j, O j → j < Y
  y : Y = w0.heap.size
section
variable {Y : Nat} {w0 w w' : World} {O O' : Nat → Prop} {X : Nat} {c : Nat → ChV} {a : CaV} {B : Nat → Nat} {P : Nat → Nat → Prop} {M : Value}
theorem DoS.sz (h : DoS Y w0 O O' X c a B P M w) : Y + 1 < w.heap.size := Kq.blk_lt h.rs
theorem DoS.below (h : DoS Y w0 O O' X c a B P M w) (hb : Below w.heap.size w w') : DoS Y w0 O O' X c a B P M w' :=
  ⟨h.tw.below hb, Kq.below_blk hb h.bx (Kq.blk_lt h.bx), Kq.below_blk hb h.rs (Kq.blk_lt h.rs), h.kp.trans (Kq.Keeps.of_below hb (fun k h1 h2 => absurd h1 (Nat.not_le.2 h2))), h.ext, h.olt, h.y⟩
theorem DoS.start (h : TwS w O X B P M c) (a : CaV) : DoS w.heap.size w O O X c a B P M ((w.alloc (.cells a.cells.toArray 50)).alloc (.cells #[.int .i64 0, .int .u64 0, .int .u64 0, .string ⟨#[]⟩] 46)) := by
  have b1 := Kq.below_alloc w (.cells a.cells.toArray 50)
  have n1 := Kq.blk_new w a.cells.toArray 50 (0, 0)
  have hs : (w.alloc (.cells a.cells.toArray 50)).heap.size = w.heap.size + 1 := by simp
  generalize w.alloc (.cells a.cells.toArray 50) = z at *
  have b2 := Kq.below_alloc z (.cells #[.int .i64 0, .int .u64 0, .int .u64 0, .string ⟨#[]⟩] 46)
  have n2 := Kq.blk_new z #[.int .i64 0, .int .u64 0, .int .u64 0, .string ⟨#[]⟩] 46 (0, 0)
  rw [hs] at n2
  have b3 := b1.trans (b2.mono (by omega))
  exact ⟨h.below b3, Kq.below_blk b2 n1 (Kq.blk_lt n1), n2, Kq.Keeps.of_below b3 (fun k h1 h2 => absurd h1 (Nat.not_le.2 h2)), fun j hj => Or.inl hj, h.lt, rfl⟩
/-- a chain changed -/
theorem DoS.step {k : Nat} (hk : k < 2) {r : Value} {c' : ChV} {x : Ending} (h : DoS Y w0 O O' X c a B P M w) (hs : StepC w (P k) (B k) r c' x w') : DoS Y w0 O (Ext O' w w') X (updF c k c') a B (fun j => if j = k then Ext (P k) w w' else P j) M w' := by
  obtain ⟨h1, h2⟩ := h.tw.step hk hs
  have hsz := h.sz
  have hn : ∀ j, O' j → j ≠ Y ∧ j ≠ Y + 1 := fun j hj => by
    rcases h.ext j hj with h3 | h3
    · have := h.olt j h3; omega
    · omega
  refine ⟨h1, h2.blk h.bx (fun e => (hn Y e).1 rfl), h2.blk h.rs (fun e => (hn _ e).2 rfl), keeps_extC h.kp h2 (fun j e => ?_), fun j hj => ?_, h.olt, h.y⟩
  · rcases h.ext j e with h3 | h3
    · exact Or.inl h3
    · exact Or.inr ⟨by have := h.y; omega, h.tw.lt j e⟩
  · rcases hj with hj | hj
    · exact h.ext j hj
    · exact Or.inr (by omega)
theorem fillW_keeps (w : World) (R : Nat) (f q t : Int) (d : ByteArray) : Kq.Keeps (· = R) w (fillW w R f q t d) := by
  unfold fillW
  refine Kq.Keeps.trans (b := ((w.setCell ⟨R, 0, none⟩ (.int .i64 f)).setCell ⟨R, 1, none⟩ (.int .u64 q)).setCell ⟨R, 2, none⟩ (.int .u64 t)) ?_ (Kq.Keeps.setCell _ _ _ rfl)
  refine Kq.Keeps.trans (b := (w.setCell ⟨R, 0, none⟩ (.int .i64 f)).setCell ⟨R, 1, none⟩ (.int .u64 q)) ?_ (Kq.Keeps.setCell _ _ _ rfl)
  exact Kq.Keeps.trans (b := w.setCell ⟨R, 0, none⟩ (.int .i64 f)) (Kq.Keeps.setCell _ _ _ rfl) (Kq.Keeps.setCell _ _ _ rfl)
/-- the packet is told -/
theorem DoS.fill (h : DoS Y w0 O O' X c a B P M w) (f q t : Int) (d : ByteArray) : (fillW w (Y + 1) f q t d).heap[Y + 1]? = some (.cells #[.int .i64 f, .int .u64 q, .int .u64 t, .string d] 46 (0, 0)) ∧ TwP (fillW w (Y + 1) f q t d) (Ext O w0 (fillW w (Y + 1) f q t d)) X c ∧ Kq.Keeps O w0 (fillW w (Y + 1) f q t d) := by
  have k1 := fillW_keeps w (Y + 1) f q t d
  have hsz := h.sz
  have hy := h.y
  have hsz2 := k1.size
  refine ⟨by unfold fillW; exact Kq.blk_set (Kq.blk_set (Kq.blk_set (Kq.blk_set h.rs 0 _) 1 _) 2 _) 3 _, ⟨B, P, M, (h.tw.keeps k1 (fun j hj e => ?_)).widen (fun j hj => ?_) (fun j hj => ?_)⟩, keeps_past h.kp k1 (fun j e => by have e : j = Y + 1 := e; omega)⟩
  · have e : j = Y + 1 := e
    rcases h.ext j hj with h3 | h3
    · have := h.olt j h3; omega
    · omega
  · rcases h.ext j hj with h3 | h3
    · exact Or.inl h3
    · exact Or.inr ⟨by omega, by have := h.tw.lt j hj; omega⟩
  · rcases hj with h3 | h3
    · have := h.olt j h3; omega
    · exact h3.2
end
set_option maxRecDepth 100000 in
theorem act_key (a : CaV) (w : World) (hq : a.q < 18446744073709551616) : Calls Tryz.prog 43 #[.agg #[.int .i64 a.kd, .int .i64 a.id, .int .u64 (a.h : Int), .string a.d, .int .i64 a.f, .int .u64 (a.q : Int), .int .u64 (a.t : Int), .string a.pd, .bool a.sp]] w fun x w' => x = .returned (.string a.key) ∧ Below w.heap.size w w' := by
  have c0 : (⟨#[99]⟩ : ByteArray) = txt [99] := rfl
  have c1 : (⟨#[97]⟩ : ByteArray) = txt [97] := rfl
  have c2 : (⟨#[114]⟩ : ByteArray) = txt [114] := rfl
  obtain ⟨kd, id, h, d, f, q, t, pd, sp⟩ := a
  have HQ := Lib.hid hq
  have hz := Kq.below_alloc w (.cells #[.int .i64 kd, .int .i64 id, .int .u64 (h : Int), .string d, .int .i64 f, .int .u64 (q : Int), .int .u64 (t : Int), .string pd, .bool sp] 50)
  have HB := Lib.hid hz
  clear hq hz
  have HR := Lib.hid (fun (l : Nat) (hl : l < 256) => ref_key l q (w.alloc (.cells #[.int .i64 kd, .int .i64 id, .int .u64 (h : Int), .string d, .int .i64 f, .int .u64 (q : Int), .int .u64 (t : Int), .string pd, .bool sp] 50)) hl HQ.out)
  obtain ⟨kk, hkk⟩ : ∃ kk, kk = CaV.key ⟨kd, id, h, d, f, q, t, pd, sp⟩ := ⟨_, rfl⟩
  have HK := Lib.hid hkk
  rw [← hkk]
  clear hkk
  by_cases e2 : kd = 2
  · subst e2
    have HE : Hid (kk = keyT 99 q) := Lib.hid (by rw [HK.out]; rfl)
    go_enter Tryz.func43, Tryz.ntmps43
    go_wp2_with fail
    refine (HR.out 99 (by decide)).mono ?_
    rintro x w2 ⟨rfl, b2⟩
    have HF := Lib.hid (HB.out.trans (b2.mono HB.out.size))
    clear b2
    go_wp2
    go_ret
    exact ⟨by rw [HE.out]; rfl, HF.out⟩
  by_cases e3 : kd = 3
  · subst e3
    have HE : Hid (kk = keyT 97 q) := Lib.hid (by rw [HK.out]; rfl)
    go_enter Tryz.func43, Tryz.ntmps43
    go_wp2_with fail
    refine (HR.out 97 (by decide)).mono ?_
    rintro x w2 ⟨rfl, b2⟩
    have HF := Lib.hid (HB.out.trans (b2.mono HB.out.size))
    clear b2
    go_wp2
    go_ret
    exact ⟨by rw [HE.out]; rfl, HF.out⟩
  · have d2 : (kd == 2) = false := by rw [beq_eq_false_iff_ne]; exact e2
    have d3 : (kd == 3) = false := by rw [beq_eq_false_iff_ne]; exact e3
    have HE : Hid (kk = keyT 114 q) := Lib.hid (by rw [HK.out]; unfold CaV.key; rw [if_neg e2, if_neg e3])
    go_enter Tryz.func43, Tryz.ntmps43
    go_wp2_with fail
    refine (HR.out 114 (by decide)).mono ?_
    rintro x w2 ⟨rfl, b2⟩
    have HF := Lib.hid (HB.out.trans (b2.mono HB.out.size))
    clear b2
    go_wp2
    go_ret
    exact ⟨by rw [HE.out]; rfl, HF.out⟩
end Go.Proofs.YtbjchfcoacmaaaaGreatDoor
namespace Go.Proofs.YtbjchfcoacmaaaaGreatDoor
open Go.RowKit
set_option linter.unusedVariables false
set_option maxRecDepth 100000 in
set_option maxHeartbeats 1000000 in
theorem do_k3t {w : World} {O : Nat → Prop} {X : Nat} {c : Nat → ChV} {m : Nat} (id : Int) (h q t : Nat) (d pd : ByteArray) (f : Int) (hT : TwP w O X c) (hk : TwK m c) (hm : m ≤ 400) (ha : CaOk ⟨3, id, h, d, f, q, t, pd, true⟩) (hL : LaidOk w) (hO : ¬ O 1 ∧ ¬ O 0) : Calls Tryz.prog 17 #[.pointer (some ⟨X, 0, none⟩), .agg #[.int .i64 3, .int .i64 id, .int .u64 (h : Int), .string d, .int .i64 f, .int .u64 (q : Int), .int .u64 (t : Int), .string pd, .bool true]] w (StepT w O X (.tuple #[(doP c ⟨3, id, h, d, f, q, t, pd, true⟩).val, .int .u64 (doH c ⟨3, id, h, d, f, q, t, pd, true⟩ : Int), .int .i64 (doE c ⟨3, id, h, d, f, q, t, pd, true⟩)]) (doV c ⟨3, id, h, d, f, q, t, pd, true⟩)) := by
  obtain ⟨B, P, M, hT⟩ := hT
  obtain ⟨s, hs⟩ : ∃ s, s = sideN id := ⟨_, rfl⟩
  obtain ⟨o, ho⟩ : ∃ o, o = 1 - s := ⟨_, rfl⟩
  have hs2 : s < 2 := by rw [hs]; exact sideN_lt id
  obtain ⟨Y, hY⟩ : ∃ Y, Y = w.heap.size := ⟨_, rfl⟩
  obtain ⟨wb, hwb⟩ : ∃ z, z = (w.alloc (.cells #[.int .i64 3, .int .i64 id, .int .u64 (h : Int), .string d, .int .i64 f, .int .u64 (q : Int), .int .u64 (t : Int), .string pd, .bool true] 50)).alloc (.cells #[.int .i64 0, .int .u64 0, .int .u64 0, .string ⟨#[]⟩] 46) := ⟨_, rfl⟩
  have HB0 : Hid (DoS Y w O O X c ⟨3, id, h, d, f, q, t, pd, true⟩ B P M wb) := Lib.hid (by rw [hwb, hY]; exact DoS.start hT ⟨3, id, h, d, f, q, t, pd, true⟩)
  have HSD := Lib.hid (fun (z : World) (n : Nat) => Calls.quiet_of_same (side_one id (z.drewN n)))
  rw [← hs] at HSD
  have hw1 : IntKind.i64.wrap (1 - (s : Int)) = (o : Int) := by rw [IntWalk.i64_in _ (by omega)]; omega
  have i1 : (s : Int) < 2 := by omega
  have i2 : (o : Int) < 2 := by omega
  have HSO : Hid (s < 2 ∧ o < 2 ∧ CaV.s ⟨3, id, h, d, f, q, t, pd, true⟩ = s ∧ CaV.o ⟨3, id, h, d, f, q, t, pd, true⟩ = o) := Lib.hid ⟨hs2, by omega, hs.symm, by show 1 - sideN id = o; rw [ho, hs]⟩
  have HOK := Lib.hid (And.intro (hk s hs2) (And.intro (hk o (by omega)) (And.intro hm (And.intro ha (And.intro hL (And.intro hO (CaV.pr_size hk hm ha)))))))
  have HYW := Lib.hid hY
  clear hT hk hm ha hL hO hs ho hs2
  have e0 := HSO.out.2.2.1
  have e1 := HSO.out.2.2.2
  obtain ⟨pr, hpr⟩ : ∃ pr, pr = CaV.pr ⟨3, id, h, d, f, q, t, pd, true⟩ c := ⟨_, rfl⟩
  have hprs : pr.size ≤ 2000 := by rw [hpr]; exact HOK.out.2.2.2.2.2.2
  have v1 : doV c ⟨3, id, h, d, f, q, t, pd, true⟩ = updF c s (setlC (c s) 3 f q t pd (ackL (c s) f q t pd pr h)) := by unfold doV doC; rw [e0, if_neg (by simp), if_neg (by simp), if_neg (by simp), if_pos rfl, hpr]
  have v2 : doP c ⟨3, id, h, d, f, q, t, pd, true⟩ = zeroPk := by unfold doP; rw [if_neg (by simp)]
  have v3 : doH c ⟨3, id, h, d, f, q, t, pd, true⟩ = 0 := rfl
  have v4 : doE c ⟨3, id, h, d, f, q, t, pd, true⟩ = firstE (setlE (c s) f q t pd (ackL (c s) f q t pd pr h)) := by unfold doE; rw [e0, if_neg (by simp), if_neg (by simp), if_neg (by simp), if_pos rfl, hpr]
  rw [v1, v2, v3, v4]
  have HRV := Lib.hid (fun z hc hL h1 h2 => cn_ack (w := z) (O := P s) (B := B s) (c := c s) f q t pd pr h hc HOK.out.1.ok HOK.out.2.2.2.1.q HOK.out.2.2.2.1.t HOK.out.2.2.2.1.h (by omega) hL ⟨h1, h2⟩)
  obtain ⟨er, her⟩ : ∃ er, er = firstE (setlE (c s) f q t pd (ackL (c s) f q t pd pr h)) := ⟨_, rfl⟩
  rw [← her] at HRV ⊢
  generalize setlC (c s) 3 f q t pd (ackL (c s) f q t pd pr h) = c' at *
  have HZ : Hid (zeroPk.val = .agg #[.int .i64 0, .int .u64 0, .int .u64 0, .string ⟨#[]⟩]) := Lib.hid rfl
  rw [HZ.out]
  have HPR : Hid (pr = d) := Lib.hid (by rw [hpr]; rfl)
  rw [HPR.out] at HRV
  clear v1 v2 v3 v4 e0 e1 HZ hpr her hprs HPR
  have HPO : Hid (∀ k j, k < 2 → P k j → O j) := Lib.hid (fun k j hk hj => (HB0.out.tw.sub k j hk hj).1)
  go_enter Tryz.func17, Tryz.ntmps17
  go_wp2
  rw [← hwb, ← hY]
  clear hwb hY
  have a1 := Kq.blk_cell HB0.out.bx 1
  simp only [CaV.cells] at a1
  have x1 := HB0.out.tw.cell s HSO.out.1
  have x2 := HB0.out.tw.cell o HSO.out.2.1
  go_quiet ((first | (go_at_call 20; exact HSD.out _ _)))
  generalize hwq : wb.drewN nq = wq
  have HB1 : Hid (DoS Y w O O X c ⟨3, id, h, d, f, q, t, pd, true⟩ B P M wq) := Lib.hid (by rw [← hwq]; exact HB0.out.below (below_drewN (Below.refl _ _) nq))
  have HLD : Hid (LaidOk wq) := Lib.hid (HOK.out.2.2.2.2.1.keeps HB1.out.kp HOK.out.2.2.2.2.2.1.1 HOK.out.2.2.2.2.2.1.2)
  clear hwq HB0 a1 x1 x2 HSD hw1 i1 i2 nq
  have a0 := Kq.blk_cell HB1.out.bx 0
  have a2 := Kq.blk_cell HB1.out.bx 2
  have a3 := Kq.blk_cell HB1.out.bx 3
  have a4 := Kq.blk_cell HB1.out.bx 4
  have a5 := Kq.blk_cell HB1.out.bx 5
  have a6 := Kq.blk_cell HB1.out.bx 6
  have a7 := Kq.blk_cell HB1.out.bx 7
  have a8 := Kq.blk_cell HB1.out.bx 8
  simp only [CaV.cells] at a0 a2 a3 a4 a5 a6 a7 a8
  go_wp2_with fail
  refine (HRV.out wq (HB1.out.tw.ch s HSO.out.1) HLD.out (fun e => HOK.out.2.2.2.2.2.1.1 (HPO.out s _ HSO.out.1 e)) (fun e => HOK.out.2.2.2.2.2.1.2 (HPO.out s _ HSO.out.1 e))).mono ?_
  rintro x w2 hst
  have hx := hst.1
  subst hx
  have HB2 := Lib.hid (HB1.out.step HSO.out.1 hst)
  clear hst HB1 HLD a0 a2 a3 a4 a5 a6 a7 a8
  have r0 := Kq.blk_cell HB2.out.rs 0
  have r1 := Kq.blk_cell HB2.out.rs 1
  have r2 := Kq.blk_cell HB2.out.rs 2
  have r3 := Kq.blk_cell HB2.out.rs 3
  have g0 := Kq.blk_free HB2.out.rs 0
  have g1 := Kq.blk_free HB2.out.rs 1
  have g2 := Kq.blk_free HB2.out.rs 2
  have g3 := Kq.blk_free HB2.out.rs 3
  go_wp2
  obtain ⟨q1, q2, q3⟩ := HB2.out.fill 0 0 0 ⟨#[]⟩
  change bodyPost _ _ _ _ _ (fillW w2 (Y + 1) 0 0 0 ⟨#[]⟩)
  have z0' := Kq.blk_cell q1 0
  have z1' := Kq.blk_cell q1 1
  have z2' := Kq.blk_cell q1 2
  have z3' := Kq.blk_cell q1 3
  generalize fillW w2 (Y + 1) 0 0 0 ⟨#[]⟩ = w9 at *
  refine bodyPost_ret (v := .tuple #[.agg #[.int .i64 0, .int .u64 0, .int .u64 0, .string ⟨#[]⟩], .int .u64 0, .int .i64 er]) (by simp [results, Tryz.results17, go_sem, z0', z1', z2', z3']) rfl ?_
  exact ⟨rfl, q2, q3⟩
set_option maxRecDepth 100000 in
set_option maxHeartbeats 1000000 in
theorem do_k3f {w : World} {O : Nat → Prop} {X : Nat} {c : Nat → ChV} {m : Nat} (id : Int) (h q t : Nat) (d pd : ByteArray) (f : Int) (hT : TwP w O X c) (hk : TwK m c) (hm : m ≤ 400) (ha : CaOk ⟨3, id, h, d, f, q, t, pd, false⟩) (hL : LaidOk w) (hO : ¬ O 1 ∧ ¬ O 0) : Calls Tryz.prog 17 #[.pointer (some ⟨X, 0, none⟩), .agg #[.int .i64 3, .int .i64 id, .int .u64 (h : Int), .string d, .int .i64 f, .int .u64 (q : Int), .int .u64 (t : Int), .string pd, .bool false]] w (StepT w O X (.tuple #[(doP c ⟨3, id, h, d, f, q, t, pd, false⟩).val, .int .u64 (doH c ⟨3, id, h, d, f, q, t, pd, false⟩ : Int), .int .i64 (doE c ⟨3, id, h, d, f, q, t, pd, false⟩)]) (doV c ⟨3, id, h, d, f, q, t, pd, false⟩)) := by
  obtain ⟨B, P, M, hT⟩ := hT
  obtain ⟨s, hs⟩ : ∃ s, s = sideN id := ⟨_, rfl⟩
  obtain ⟨o, ho⟩ : ∃ o, o = 1 - s := ⟨_, rfl⟩
  have hs2 : s < 2 := by rw [hs]; exact sideN_lt id
  obtain ⟨Y, hY⟩ : ∃ Y, Y = w.heap.size := ⟨_, rfl⟩
  obtain ⟨wb, hwb⟩ : ∃ z, z = (w.alloc (.cells #[.int .i64 3, .int .i64 id, .int .u64 (h : Int), .string d, .int .i64 f, .int .u64 (q : Int), .int .u64 (t : Int), .string pd, .bool false] 50)).alloc (.cells #[.int .i64 0, .int .u64 0, .int .u64 0, .string ⟨#[]⟩] 46) := ⟨_, rfl⟩
  have HB0 : Hid (DoS Y w O O X c ⟨3, id, h, d, f, q, t, pd, false⟩ B P M wb) := Lib.hid (by rw [hwb, hY]; exact DoS.start hT ⟨3, id, h, d, f, q, t, pd, false⟩)
  have HSD := Lib.hid (fun (z : World) (n : Nat) => Calls.quiet_of_same (side_one id (z.drewN n)))
  rw [← hs] at HSD
  have hw1 : IntKind.i64.wrap (1 - (s : Int)) = (o : Int) := by rw [IntWalk.i64_in _ (by omega)]; omega
  have i1 : (s : Int) < 2 := by omega
  have i2 : (o : Int) < 2 := by omega
  have HSO : Hid (s < 2 ∧ o < 2 ∧ CaV.s ⟨3, id, h, d, f, q, t, pd, false⟩ = s ∧ CaV.o ⟨3, id, h, d, f, q, t, pd, false⟩ = o) := Lib.hid ⟨hs2, by omega, hs.symm, by show 1 - sideN id = o; rw [ho, hs]⟩
  have HOK := Lib.hid (And.intro (hk s hs2) (And.intro (hk o (by omega)) (And.intro hm (And.intro ha (And.intro hL (And.intro hO (CaV.pr_size hk hm ha)))))))
  have HYW := Lib.hid hY
  clear hT hk hm ha hL hO hs ho hs2
  have e0 := HSO.out.2.2.1
  have e1 := HSO.out.2.2.2
  obtain ⟨pr, hpr⟩ : ∃ pr, pr = CaV.pr ⟨3, id, h, d, f, q, t, pd, false⟩ c := ⟨_, rfl⟩
  have hprs : pr.size ≤ 2000 := by rw [hpr]; exact HOK.out.2.2.2.2.2.2
  have v1 : doV c ⟨3, id, h, d, f, q, t, pd, false⟩ = updF c s (setlC (c s) 3 f q t pd (ackL (c s) f q t pd pr h)) := by unfold doV doC; rw [e0, if_neg (by simp), if_neg (by simp), if_neg (by simp), if_pos rfl, hpr]
  have v2 : doP c ⟨3, id, h, d, f, q, t, pd, false⟩ = zeroPk := by unfold doP; rw [if_neg (by simp)]
  have v3 : doH c ⟨3, id, h, d, f, q, t, pd, false⟩ = 0 := rfl
  have v4 : doE c ⟨3, id, h, d, f, q, t, pd, false⟩ = firstE (setlE (c s) f q t pd (ackL (c s) f q t pd pr h)) := by unfold doE; rw [e0, if_neg (by simp), if_neg (by simp), if_neg (by simp), if_pos rfl, hpr]
  rw [v1, v2, v3, v4]
  have HRV := Lib.hid (fun z hc hL h1 h2 => cn_ack (w := z) (O := P s) (B := B s) (c := c s) f q t pd pr h hc HOK.out.1.ok HOK.out.2.2.2.1.q HOK.out.2.2.2.1.t HOK.out.2.2.2.1.h (by omega) hL ⟨h1, h2⟩)
  obtain ⟨er, her⟩ : ∃ er, er = firstE (setlE (c s) f q t pd (ackL (c s) f q t pd pr h)) := ⟨_, rfl⟩
  rw [← her] at HRV ⊢
  generalize setlC (c s) 3 f q t pd (ackL (c s) f q t pd pr h) = c' at *
  have HZ : Hid (zeroPk.val = .agg #[.int .i64 0, .int .u64 0, .int .u64 0, .string ⟨#[]⟩]) := Lib.hid rfl
  rw [HZ.out]
  have HPR : Hid (pr = (proveV (c o).st (CaV.key ⟨3, id, h, d, f, q, t, pd, false⟩) h).1) := Lib.hid (by rw [hpr]; unfold CaV.pr; rw [if_pos ⟨rfl, by simp, by simp⟩, e1])
  have HPV := Lib.hid (fun z hc hL => cn_prove (w := z) (O := P o) (B := B o) (c := c o) (CaV.key ⟨3, id, h, d, f, q, t, pd, false⟩) h hc HOK.out.2.1.ok HOK.out.2.2.2.1.h (fun l hl => by have := HOK.out.2.1.bl l hl; have := HOK.out.2.2.1; omega) hL)
  have HKY := Lib.hid (fun z => act_key ⟨3, id, h, d, f, q, t, pd, false⟩ z HOK.out.2.2.2.1.q)
  rw [← HPR.out] at HPV
  generalize (proveV (c o).st (CaV.key ⟨3, id, h, d, f, q, t, pd, false⟩) h).2 = ep at *
  generalize CaV.key ⟨3, id, h, d, f, q, t, pd, false⟩ = key at *
  clear v1 v2 v3 v4 e0 e1 HZ hpr her hprs HPR
  have HPO : Hid (∀ k j, k < 2 → P k j → O j) := Lib.hid (fun k j hk hj => (HB0.out.tw.sub k j hk hj).1)
  go_enter Tryz.func17, Tryz.ntmps17
  go_wp2
  rw [← hwb, ← hY]
  clear hwb hY
  have a1 := Kq.blk_cell HB0.out.bx 1
  simp only [CaV.cells] at a1
  have x1 := HB0.out.tw.cell s HSO.out.1
  have x2 := HB0.out.tw.cell o HSO.out.2.1
  go_quiet ((first | (go_at_call 20; exact HSD.out _ _)))
  generalize hwq : wb.drewN nq = wq
  have HB1 : Hid (DoS Y w O O X c ⟨3, id, h, d, f, q, t, pd, false⟩ B P M wq) := Lib.hid (by rw [← hwq]; exact HB0.out.below (below_drewN (Below.refl _ _) nq))
  have HLD : Hid (LaidOk wq) := Lib.hid (HOK.out.2.2.2.2.1.keeps HB1.out.kp HOK.out.2.2.2.2.2.1.1 HOK.out.2.2.2.2.2.1.2)
  clear hwq HB0 a1 x1 x2 HSD hw1 i1 i2 nq
  have a0 := Kq.blk_cell HB1.out.bx 0
  have a2 := Kq.blk_cell HB1.out.bx 2
  have a3 := Kq.blk_cell HB1.out.bx 3
  have a4 := Kq.blk_cell HB1.out.bx 4
  have a5 := Kq.blk_cell HB1.out.bx 5
  have a6 := Kq.blk_cell HB1.out.bx 6
  have a7 := Kq.blk_cell HB1.out.bx 7
  have a8 := Kq.blk_cell HB1.out.bx 8
  simp only [CaV.cells] at a0 a2 a3 a4 a5 a6 a7 a8
  have HCB : Hid (∀ w', DoS Y w O O X c ⟨3, id, h, d, f, q, t, pd, false⟩ B P M w' → (w'.cell? ⟨Y, 0, none⟩ = some (.int .i64 3) ∧ w'.cell? ⟨Y, 1, none⟩ = some (.int .i64 id) ∧ w'.cell? ⟨Y, 2, none⟩ = some (.int .u64 (h : Int)) ∧ w'.cell? ⟨Y, 3, none⟩ = some (.string d) ∧ w'.cell? ⟨Y, 4, none⟩ = some (.int .i64 f) ∧ w'.cell? ⟨Y, 5, none⟩ = some (.int .u64 (q : Int)) ∧ w'.cell? ⟨Y, 6, none⟩ = some (.int .u64 (t : Int)) ∧ w'.cell? ⟨Y, 7, none⟩ = some (.string pd) ∧ w'.cell? ⟨Y, 8, none⟩ = some (.bool false))) := Lib.hid (fun w' hd => ⟨Kq.blk_cell hd.bx 0, Kq.blk_cell hd.bx 1, Kq.blk_cell hd.bx 2, Kq.blk_cell hd.bx 3, Kq.blk_cell hd.bx 4, Kq.blk_cell hd.bx 5, Kq.blk_cell hd.bx 6, Kq.blk_cell hd.bx 7, Kq.blk_cell hd.bx 8⟩)
  go_wp2
  refine wp_region_held_drew (S := fun w' => w'.cell? ⟨Y, 0, none⟩ = some (.int .i64 3) ∧ w'.cell? ⟨Y, 1, none⟩ = some (.int .i64 id) ∧ w'.cell? ⟨Y, 2, none⟩ = some (.int .u64 (h : Int)) ∧ w'.cell? ⟨Y, 3, none⟩ = some (.string d) ∧ w'.cell? ⟨Y, 4, none⟩ = some (.int .i64 f) ∧ w'.cell? ⟨Y, 5, none⟩ = some (.int .u64 (q : Int)) ∧ w'.cell? ⟨Y, 6, none⟩ = some (.int .u64 (t : Int)) ∧ w'.cell? ⟨Y, 7, none⟩ = some (.string pd) ∧ w'.cell? ⟨Y, 8, none⟩ = some (.bool false)) (by kernel_rfl) (HCB.out _ (HB1.out.below (Below.refl _ _).drew)) (fun hS0 => ?_)
  have HB2 : Hid (DoS Y w O O X c ⟨3, id, h, d, f, q, t, pd, false⟩ B P M wq.drew ∧ LaidOk wq.drew) := Lib.hid ⟨HB1.out.below (Below.refl _ _).drew, HLD.out.later (Below.refl _ _).drew⟩
  generalize wq.drew = z0 at *
  clear HB1 HLD a0 a2 a3 a4 a5 a6 a7 a8
  refine wpAnyH_take (i := 0) (v := ?_) rfl (by kernel_rfl) (by kernel_rfl) (by kernel_rfl) (fun _ _ _ h => h) (Or.inl ⟨by kernel_rfl, ?_⟩) (by assumption) ?_
  rotate_left
  · intro w hSw; (try dsimp only at hSw); go_simp; (try with_reducible rfl)
  refine wpAnyH_take (i := 1) (v := ?_) rfl (by kernel_rfl) (by kernel_rfl) (by kernel_rfl) (fun _ _ _ h => h) (Or.inl ⟨by kernel_rfl, ?_⟩) (by assumption) ?_
  rotate_left
  · intro w hSw; (try dsimp only at hSw); go_simp; (try with_reducible rfl)
  refine wpAnyH_take (i := 3) (v := ?_) rfl (by kernel_rfl) (by kernel_rfl) (by kernel_rfl) (fun _ _ _ h => h) (Or.inl ⟨by kernel_rfl, ?_⟩) (by assumption) ?_
  rotate_left
  · intro w hSw; (try dsimp only at hSw); go_simp; (try with_reducible rfl)
  refine wpAnyH_take (i := 4) (v := ?_) rfl (by kernel_rfl) (by kernel_rfl) (by kernel_rfl) (fun _ _ _ h => h) (Or.inl ⟨by kernel_rfl, ?_⟩) (by assumption) ?_
  rotate_left
  · intro w hSw; (try dsimp only at hSw); go_simp; (try with_reducible rfl)
  refine wpAnyH_ready (rs := [2]) (by kernel_rfl) (by simp) ?_
  refine AllReadyH.cons rfl (fun K hK => ?_) AllReadyH.nil
  go_simp
  refine (HKY.out z0).mono ?_
  rintro x z1 ⟨rfl, b1⟩
  have HB3 : Hid (DoS Y w O O X c ⟨3, id, h, d, f, q, t, pd, false⟩ B P M z1 ∧ LaidOk z1) := Lib.hid ⟨HB2.out.1.below b1, HB2.out.2.later b1⟩
  clear b1 HB2 hS0
  refine hK.out _ _ (HCB.out _ HB3.out.1) (fun hS0 => ?_)
  clear hK K
  refine wpAnyH_ready (rs := [5]) (by kernel_rfl) (by simp) ?_
  refine AllReadyH.cons rfl (fun K hK => ?_) AllReadyH.nil
  go_simp
  refine (HPV.out z1 (HB3.out.1.tw.ch o HSO.out.2.1) HB3.out.2).mono ?_
  rintro x z2 ⟨rfl, b1⟩
  have HB1 : Hid (DoS Y w O O X c ⟨3, id, h, d, f, q, t, pd, false⟩ B P M z2) := Lib.hid (HB3.out.1.below b1)
  have HLD : Hid (LaidOk z2) := Lib.hid (HB3.out.2.later b1)
  clear b1 HB3 hS0
  refine hK.out _ _ (HCB.out _ HB1.out) (fun hS0 => ?_)
  clear hK K
  refine wpAnyH_take (i := 6) (v := ?_) rfl (by kernel_rfl) (by kernel_rfl) (by kernel_rfl) (fun _ _ _ h => h) (Or.inl ⟨by kernel_rfl, ?_⟩) (by assumption) ?_
  rotate_left
  · intro w hSw; (try dsimp only at hSw); go_simp; (try with_reducible rfl)
  refine wpAnyH_take (i := 7) (v := ?_) rfl (by kernel_rfl) (by kernel_rfl) (by kernel_rfl) (fun _ _ _ h => h) (Or.inl ⟨by kernel_rfl, ?_⟩) (by assumption) ?_
  rotate_left
  · intro w hSw; (try dsimp only at hSw); go_simp; (try with_reducible rfl)
  refine wpAnyH_take (i := 8) (v := ?_) rfl (by kernel_rfl) (by kernel_rfl) (by kernel_rfl) (fun _ _ _ h => h) (Or.inl ⟨by kernel_rfl, ?_⟩) (by assumption) ?_
  rotate_left
  · intro w hSw; (try dsimp only at hSw); go_simp; (try with_reducible rfl)
  refine wpAnyH_take (i := 9) (v := ?_) rfl (by kernel_rfl) (by kernel_rfl) (by kernel_rfl) (fun _ _ _ h => h) (Or.inl ⟨by kernel_rfl, ?_⟩) (by assumption) ?_
  rotate_left
  · intro w hSw; (try dsimp only at hSw); go_simp; (try with_reducible rfl)
  refine wpAnyH_done (by kernel_rfl) ?_ _
  clear hS0 HCB
  have a0 := Kq.blk_cell HB1.out.bx 0
  have a2 := Kq.blk_cell HB1.out.bx 2
  have a3 := Kq.blk_cell HB1.out.bx 3
  have a4 := Kq.blk_cell HB1.out.bx 4
  have a5 := Kq.blk_cell HB1.out.bx 5
  have a6 := Kq.blk_cell HB1.out.bx 6
  have a7 := Kq.blk_cell HB1.out.bx 7
  have a8 := Kq.blk_cell HB1.out.bx 8
  simp only [CaV.cells] at a0 a2 a3 a4 a5 a6 a7 a8
  go_wp2_with fail
  refine (HRV.out z2 (HB1.out.tw.ch s HSO.out.1) HLD.out (fun e => HOK.out.2.2.2.2.2.1.1 (HPO.out s _ HSO.out.1 e)) (fun e => HOK.out.2.2.2.2.2.1.2 (HPO.out s _ HSO.out.1 e))).mono ?_
  rintro x w2 hst
  have hx := hst.1
  subst hx
  have HB2 := Lib.hid (HB1.out.step HSO.out.1 hst)
  clear hst HB1 HLD a0 a2 a3 a4 a5 a6 a7 a8
  have r0 := Kq.blk_cell HB2.out.rs 0
  have r1 := Kq.blk_cell HB2.out.rs 1
  have r2 := Kq.blk_cell HB2.out.rs 2
  have r3 := Kq.blk_cell HB2.out.rs 3
  have g0 := Kq.blk_free HB2.out.rs 0
  have g1 := Kq.blk_free HB2.out.rs 1
  have g2 := Kq.blk_free HB2.out.rs 2
  have g3 := Kq.blk_free HB2.out.rs 3
  go_wp2
  obtain ⟨q1, q2, q3⟩ := HB2.out.fill 0 0 0 ⟨#[]⟩
  change bodyPost _ _ _ _ _ (fillW w2 (Y + 1) 0 0 0 ⟨#[]⟩)
  have z0' := Kq.blk_cell q1 0
  have z1' := Kq.blk_cell q1 1
  have z2' := Kq.blk_cell q1 2
  have z3' := Kq.blk_cell q1 3
  generalize fillW w2 (Y + 1) 0 0 0 ⟨#[]⟩ = w9 at *
  refine bodyPost_ret (v := .tuple #[.agg #[.int .i64 0, .int .u64 0, .int .u64 0, .string ⟨#[]⟩], .int .u64 0, .int .i64 er]) (by simp [results, Tryz.results17, go_sem, z0', z1', z2', z3']) rfl ?_
  exact ⟨rfl, q2, q3⟩
end Go.Proofs.YtbjchfcoacmaaaaGreatDoor
namespace Go.Proofs.YtbjchfcoacmaaaaGreatDoor
open Go.RowKit
set_option linter.unusedVariables false
set_option maxRecDepth 100000 in
set_option maxHeartbeats 1000000 in
theorem do_k4t {w : World} {O : Nat → Prop} {X : Nat} {c : Nat → ChV} {m : Nat} (id : Int) (h q t : Nat) (d pd : ByteArray) (f : Int) (hT : TwP w O X c) (hk : TwK m c) (hm : m ≤ 400) (ha : CaOk ⟨4, id, h, d, f, q, t, pd, true⟩) (hL : LaidOk w) (hO : ¬ O 1 ∧ ¬ O 0) : Calls Tryz.prog 17 #[.pointer (some ⟨X, 0, none⟩), .agg #[.int .i64 4, .int .i64 id, .int .u64 (h : Int), .string d, .int .i64 f, .int .u64 (q : Int), .int .u64 (t : Int), .string pd, .bool true]] w (StepT w O X (.tuple #[(doP c ⟨4, id, h, d, f, q, t, pd, true⟩).val, .int .u64 (doH c ⟨4, id, h, d, f, q, t, pd, true⟩ : Int), .int .i64 (doE c ⟨4, id, h, d, f, q, t, pd, true⟩)]) (doV c ⟨4, id, h, d, f, q, t, pd, true⟩)) := by
  obtain ⟨B, P, M, hT⟩ := hT
  obtain ⟨s, hs⟩ : ∃ s, s = sideN id := ⟨_, rfl⟩
  obtain ⟨o, ho⟩ : ∃ o, o = 1 - s := ⟨_, rfl⟩
  have hs2 : s < 2 := by rw [hs]; exact sideN_lt id
  obtain ⟨Y, hY⟩ : ∃ Y, Y = w.heap.size := ⟨_, rfl⟩
  obtain ⟨wb, hwb⟩ : ∃ z, z = (w.alloc (.cells #[.int .i64 4, .int .i64 id, .int .u64 (h : Int), .string d, .int .i64 f, .int .u64 (q : Int), .int .u64 (t : Int), .string pd, .bool true] 50)).alloc (.cells #[.int .i64 0, .int .u64 0, .int .u64 0, .string ⟨#[]⟩] 46) := ⟨_, rfl⟩
  have HB0 : Hid (DoS Y w O O X c ⟨4, id, h, d, f, q, t, pd, true⟩ B P M wb) := Lib.hid (by rw [hwb, hY]; exact DoS.start hT ⟨4, id, h, d, f, q, t, pd, true⟩)
  have HSD := Lib.hid (fun (z : World) (n : Nat) => Calls.quiet_of_same (side_one id (z.drewN n)))
  rw [← hs] at HSD
  have hw1 : IntKind.i64.wrap (1 - (s : Int)) = (o : Int) := by rw [IntWalk.i64_in _ (by omega)]; omega
  have i1 : (s : Int) < 2 := by omega
  have i2 : (o : Int) < 2 := by omega
  have HSO : Hid (s < 2 ∧ o < 2 ∧ CaV.s ⟨4, id, h, d, f, q, t, pd, true⟩ = s ∧ CaV.o ⟨4, id, h, d, f, q, t, pd, true⟩ = o) := Lib.hid ⟨hs2, by omega, hs.symm, by show 1 - sideN id = o; rw [ho, hs]⟩
  have HOK := Lib.hid (And.intro (hk s hs2) (And.intro (hk o (by omega)) (And.intro hm (And.intro ha (And.intro hL (And.intro hO (CaV.pr_size hk hm ha)))))))
  have HYW := Lib.hid hY
  clear hT hk hm ha hL hO hs ho hs2
  have e0 := HSO.out.2.2.1
  have e1 := HSO.out.2.2.2
  obtain ⟨pr, hpr⟩ : ∃ pr, pr = CaV.pr ⟨4, id, h, d, f, q, t, pd, true⟩ c := ⟨_, rfl⟩
  have hprs : pr.size ≤ 2000 := by rw [hpr]; exact HOK.out.2.2.2.2.2.2
  have v1 : doV c ⟨4, id, h, d, f, q, t, pd, true⟩ = updF c s (setlC (c s) 4 f q t pd (timeL (c s) f q t pd pr h)) := by unfold doV doC; rw [e0, if_neg (by simp), if_neg (by simp), if_neg (by simp), if_neg (by simp), if_pos rfl, hpr]
  have v2 : doP c ⟨4, id, h, d, f, q, t, pd, true⟩ = zeroPk := by unfold doP; rw [if_neg (by simp)]
  have v3 : doH c ⟨4, id, h, d, f, q, t, pd, true⟩ = 0 := rfl
  have v4 : doE c ⟨4, id, h, d, f, q, t, pd, true⟩ = firstE (setlE (c s) f q t pd (timeL (c s) f q t pd pr h)) := by unfold doE; rw [e0, if_neg (by simp), if_neg (by simp), if_neg (by simp), if_neg (by simp), if_pos rfl, hpr]
  rw [v1, v2, v3, v4]
  have HRV := Lib.hid (fun z hc hL h1 h2 => cn_timeout (w := z) (O := P s) (B := B s) (c := c s) f q t pd pr h hc HOK.out.1.ok HOK.out.2.2.2.1.q HOK.out.2.2.2.1.t HOK.out.2.2.2.1.h (by omega) hL ⟨h1, h2⟩)
  obtain ⟨er, her⟩ : ∃ er, er = firstE (setlE (c s) f q t pd (timeL (c s) f q t pd pr h)) := ⟨_, rfl⟩
  rw [← her] at HRV ⊢
  generalize setlC (c s) 4 f q t pd (timeL (c s) f q t pd pr h) = c' at *
  have HZ : Hid (zeroPk.val = .agg #[.int .i64 0, .int .u64 0, .int .u64 0, .string ⟨#[]⟩]) := Lib.hid rfl
  rw [HZ.out]
  have HPR : Hid (pr = d) := Lib.hid (by rw [hpr]; rfl)
  rw [HPR.out] at HRV
  clear v1 v2 v3 v4 e0 e1 HZ hpr her hprs HPR
  have HPO : Hid (∀ k j, k < 2 → P k j → O j) := Lib.hid (fun k j hk hj => (HB0.out.tw.sub k j hk hj).1)
  go_enter Tryz.func17, Tryz.ntmps17
  go_wp2
  rw [← hwb, ← hY]
  clear hwb hY
  have a1 := Kq.blk_cell HB0.out.bx 1
  simp only [CaV.cells] at a1
  have x1 := HB0.out.tw.cell s HSO.out.1
  have x2 := HB0.out.tw.cell o HSO.out.2.1
  go_quiet ((first | (go_at_call 20; exact HSD.out _ _)))
  generalize hwq : wb.drewN nq = wq
  have HB1 : Hid (DoS Y w O O X c ⟨4, id, h, d, f, q, t, pd, true⟩ B P M wq) := Lib.hid (by rw [← hwq]; exact HB0.out.below (below_drewN (Below.refl _ _) nq))
  have HLD : Hid (LaidOk wq) := Lib.hid (HOK.out.2.2.2.2.1.keeps HB1.out.kp HOK.out.2.2.2.2.2.1.1 HOK.out.2.2.2.2.2.1.2)
  clear hwq HB0 a1 x1 x2 HSD hw1 i1 i2 nq
  have a0 := Kq.blk_cell HB1.out.bx 0
  have a2 := Kq.blk_cell HB1.out.bx 2
  have a3 := Kq.blk_cell HB1.out.bx 3
  have a4 := Kq.blk_cell HB1.out.bx 4
  have a5 := Kq.blk_cell HB1.out.bx 5
  have a6 := Kq.blk_cell HB1.out.bx 6
  have a7 := Kq.blk_cell HB1.out.bx 7
  have a8 := Kq.blk_cell HB1.out.bx 8
  simp only [CaV.cells] at a0 a2 a3 a4 a5 a6 a7 a8
  go_wp2_with fail
  refine (HRV.out wq (HB1.out.tw.ch s HSO.out.1) HLD.out (fun e => HOK.out.2.2.2.2.2.1.1 (HPO.out s _ HSO.out.1 e)) (fun e => HOK.out.2.2.2.2.2.1.2 (HPO.out s _ HSO.out.1 e))).mono ?_
  rintro x w2 hst
  have hx := hst.1
  subst hx
  have HB2 := Lib.hid (HB1.out.step HSO.out.1 hst)
  clear hst HB1 HLD a0 a2 a3 a4 a5 a6 a7 a8
  have r0 := Kq.blk_cell HB2.out.rs 0
  have r1 := Kq.blk_cell HB2.out.rs 1
  have r2 := Kq.blk_cell HB2.out.rs 2
  have r3 := Kq.blk_cell HB2.out.rs 3
  have g0 := Kq.blk_free HB2.out.rs 0
  have g1 := Kq.blk_free HB2.out.rs 1
  have g2 := Kq.blk_free HB2.out.rs 2
  have g3 := Kq.blk_free HB2.out.rs 3
  go_wp2
  obtain ⟨q1, q2, q3⟩ := HB2.out.fill 0 0 0 ⟨#[]⟩
  change bodyPost _ _ _ _ _ (fillW w2 (Y + 1) 0 0 0 ⟨#[]⟩)
  have z0' := Kq.blk_cell q1 0
  have z1' := Kq.blk_cell q1 1
  have z2' := Kq.blk_cell q1 2
  have z3' := Kq.blk_cell q1 3
  generalize fillW w2 (Y + 1) 0 0 0 ⟨#[]⟩ = w9 at *
  refine bodyPost_ret (v := .tuple #[.agg #[.int .i64 0, .int .u64 0, .int .u64 0, .string ⟨#[]⟩], .int .u64 0, .int .i64 er]) (by simp [results, Tryz.results17, go_sem, z0', z1', z2', z3']) rfl ?_
  exact ⟨rfl, q2, q3⟩
set_option maxRecDepth 100000 in
set_option maxHeartbeats 1000000 in
theorem do_k4f {w : World} {O : Nat → Prop} {X : Nat} {c : Nat → ChV} {m : Nat} (id : Int) (h q t : Nat) (d pd : ByteArray) (f : Int) (hT : TwP w O X c) (hk : TwK m c) (hm : m ≤ 400) (ha : CaOk ⟨4, id, h, d, f, q, t, pd, false⟩) (hL : LaidOk w) (hO : ¬ O 1 ∧ ¬ O 0) : Calls Tryz.prog 17 #[.pointer (some ⟨X, 0, none⟩), .agg #[.int .i64 4, .int .i64 id, .int .u64 (h : Int), .string d, .int .i64 f, .int .u64 (q : Int), .int .u64 (t : Int), .string pd, .bool false]] w (StepT w O X (.tuple #[(doP c ⟨4, id, h, d, f, q, t, pd, false⟩).val, .int .u64 (doH c ⟨4, id, h, d, f, q, t, pd, false⟩ : Int), .int .i64 (doE c ⟨4, id, h, d, f, q, t, pd, false⟩)]) (doV c ⟨4, id, h, d, f, q, t, pd, false⟩)) := by
  obtain ⟨B, P, M, hT⟩ := hT
  obtain ⟨s, hs⟩ : ∃ s, s = sideN id := ⟨_, rfl⟩
  obtain ⟨o, ho⟩ : ∃ o, o = 1 - s := ⟨_, rfl⟩
  have hs2 : s < 2 := by rw [hs]; exact sideN_lt id
  obtain ⟨Y, hY⟩ : ∃ Y, Y = w.heap.size := ⟨_, rfl⟩
  obtain ⟨wb, hwb⟩ : ∃ z, z = (w.alloc (.cells #[.int .i64 4, .int .i64 id, .int .u64 (h : Int), .string d, .int .i64 f, .int .u64 (q : Int), .int .u64 (t : Int), .string pd, .bool false] 50)).alloc (.cells #[.int .i64 0, .int .u64 0, .int .u64 0, .string ⟨#[]⟩] 46) := ⟨_, rfl⟩
  have HB0 : Hid (DoS Y w O O X c ⟨4, id, h, d, f, q, t, pd, false⟩ B P M wb) := Lib.hid (by rw [hwb, hY]; exact DoS.start hT ⟨4, id, h, d, f, q, t, pd, false⟩)
  have HSD := Lib.hid (fun (z : World) (n : Nat) => Calls.quiet_of_same (side_one id (z.drewN n)))
  rw [← hs] at HSD
  have hw1 : IntKind.i64.wrap (1 - (s : Int)) = (o : Int) := by rw [IntWalk.i64_in _ (by omega)]; omega
  have i1 : (s : Int) < 2 := by omega
  have i2 : (o : Int) < 2 := by omega
  have HSO : Hid (s < 2 ∧ o < 2 ∧ CaV.s ⟨4, id, h, d, f, q, t, pd, false⟩ = s ∧ CaV.o ⟨4, id, h, d, f, q, t, pd, false⟩ = o) := Lib.hid ⟨hs2, by omega, hs.symm, by show 1 - sideN id = o; rw [ho, hs]⟩
  have HOK := Lib.hid (And.intro (hk s hs2) (And.intro (hk o (by omega)) (And.intro hm (And.intro ha (And.intro hL (And.intro hO (CaV.pr_size hk hm ha)))))))
  have HYW := Lib.hid hY
  clear hT hk hm ha hL hO hs ho hs2
  have e0 := HSO.out.2.2.1
  have e1 := HSO.out.2.2.2
  obtain ⟨pr, hpr⟩ : ∃ pr, pr = CaV.pr ⟨4, id, h, d, f, q, t, pd, false⟩ c := ⟨_, rfl⟩
  have hprs : pr.size ≤ 2000 := by rw [hpr]; exact HOK.out.2.2.2.2.2.2
  have v1 : doV c ⟨4, id, h, d, f, q, t, pd, false⟩ = updF c s (setlC (c s) 4 f q t pd (timeL (c s) f q t pd pr h)) := by unfold doV doC; rw [e0, if_neg (by simp), if_neg (by simp), if_neg (by simp), if_neg (by simp), if_pos rfl, hpr]
  have v2 : doP c ⟨4, id, h, d, f, q, t, pd, false⟩ = zeroPk := by unfold doP; rw [if_neg (by simp)]
  have v3 : doH c ⟨4, id, h, d, f, q, t, pd, false⟩ = 0 := rfl
  have v4 : doE c ⟨4, id, h, d, f, q, t, pd, false⟩ = firstE (setlE (c s) f q t pd (timeL (c s) f q t pd pr h)) := by unfold doE; rw [e0, if_neg (by simp), if_neg (by simp), if_neg (by simp), if_neg (by simp), if_pos rfl, hpr]
  rw [v1, v2, v3, v4]
  have HRV := Lib.hid (fun z hc hL h1 h2 => cn_timeout (w := z) (O := P s) (B := B s) (c := c s) f q t pd pr h hc HOK.out.1.ok HOK.out.2.2.2.1.q HOK.out.2.2.2.1.t HOK.out.2.2.2.1.h (by omega) hL ⟨h1, h2⟩)
  obtain ⟨er, her⟩ : ∃ er, er = firstE (setlE (c s) f q t pd (timeL (c s) f q t pd pr h)) := ⟨_, rfl⟩
  rw [← her] at HRV ⊢
  generalize setlC (c s) 4 f q t pd (timeL (c s) f q t pd pr h) = c' at *
  have HZ : Hid (zeroPk.val = .agg #[.int .i64 0, .int .u64 0, .int .u64 0, .string ⟨#[]⟩]) := Lib.hid rfl
  rw [HZ.out]
  have HPR : Hid (pr = (proveV (c o).st (CaV.key ⟨4, id, h, d, f, q, t, pd, false⟩) h).1) := Lib.hid (by rw [hpr]; unfold CaV.pr; rw [if_pos ⟨rfl, by simp, by simp⟩, e1])
  have HPV := Lib.hid (fun z hc hL => cn_prove (w := z) (O := P o) (B := B o) (c := c o) (CaV.key ⟨4, id, h, d, f, q, t, pd, false⟩) h hc HOK.out.2.1.ok HOK.out.2.2.2.1.h (fun l hl => by have := HOK.out.2.1.bl l hl; have := HOK.out.2.2.1; omega) hL)
  have HKY := Lib.hid (fun z => act_key ⟨4, id, h, d, f, q, t, pd, false⟩ z HOK.out.2.2.2.1.q)
  rw [← HPR.out] at HPV
  generalize (proveV (c o).st (CaV.key ⟨4, id, h, d, f, q, t, pd, false⟩) h).2 = ep at *
  generalize CaV.key ⟨4, id, h, d, f, q, t, pd, false⟩ = key at *
  clear v1 v2 v3 v4 e0 e1 HZ hpr her hprs HPR
  have HPO : Hid (∀ k j, k < 2 → P k j → O j) := Lib.hid (fun k j hk hj => (HB0.out.tw.sub k j hk hj).1)
  go_enter Tryz.func17, Tryz.ntmps17
  go_wp2
  rw [← hwb, ← hY]
  clear hwb hY
  have a1 := Kq.blk_cell HB0.out.bx 1
  simp only [CaV.cells] at a1
  have x1 := HB0.out.tw.cell s HSO.out.1
  have x2 := HB0.out.tw.cell o HSO.out.2.1
  go_quiet ((first | (go_at_call 20; exact HSD.out _ _)))
  generalize hwq : wb.drewN nq = wq
  have HB1 : Hid (DoS Y w O O X c ⟨4, id, h, d, f, q, t, pd, false⟩ B P M wq) := Lib.hid (by rw [← hwq]; exact HB0.out.below (below_drewN (Below.refl _ _) nq))
  have HLD : Hid (LaidOk wq) := Lib.hid (HOK.out.2.2.2.2.1.keeps HB1.out.kp HOK.out.2.2.2.2.2.1.1 HOK.out.2.2.2.2.2.1.2)
  clear hwq HB0 a1 x1 x2 HSD hw1 i1 i2 nq
  have a0 := Kq.blk_cell HB1.out.bx 0
  have a2 := Kq.blk_cell HB1.out.bx 2
  have a3 := Kq.blk_cell HB1.out.bx 3
  have a4 := Kq.blk_cell HB1.out.bx 4
  have a5 := Kq.blk_cell HB1.out.bx 5
  have a6 := Kq.blk_cell HB1.out.bx 6
  have a7 := Kq.blk_cell HB1.out.bx 7
  have a8 := Kq.blk_cell HB1.out.bx 8
  simp only [CaV.cells] at a0 a2 a3 a4 a5 a6 a7 a8
  have HCB : Hid (∀ w', DoS Y w O O X c ⟨4, id, h, d, f, q, t, pd, false⟩ B P M w' → (w'.cell? ⟨Y, 0, none⟩ = some (.int .i64 4) ∧ w'.cell? ⟨Y, 1, none⟩ = some (.int .i64 id) ∧ w'.cell? ⟨Y, 2, none⟩ = some (.int .u64 (h : Int)) ∧ w'.cell? ⟨Y, 3, none⟩ = some (.string d) ∧ w'.cell? ⟨Y, 4, none⟩ = some (.int .i64 f) ∧ w'.cell? ⟨Y, 5, none⟩ = some (.int .u64 (q : Int)) ∧ w'.cell? ⟨Y, 6, none⟩ = some (.int .u64 (t : Int)) ∧ w'.cell? ⟨Y, 7, none⟩ = some (.string pd) ∧ w'.cell? ⟨Y, 8, none⟩ = some (.bool false))) := Lib.hid (fun w' hd => ⟨Kq.blk_cell hd.bx 0, Kq.blk_cell hd.bx 1, Kq.blk_cell hd.bx 2, Kq.blk_cell hd.bx 3, Kq.blk_cell hd.bx 4, Kq.blk_cell hd.bx 5, Kq.blk_cell hd.bx 6, Kq.blk_cell hd.bx 7, Kq.blk_cell hd.bx 8⟩)
  go_wp2
  refine wp_region_held_drew (S := fun w' => w'.cell? ⟨Y, 0, none⟩ = some (.int .i64 4) ∧ w'.cell? ⟨Y, 1, none⟩ = some (.int .i64 id) ∧ w'.cell? ⟨Y, 2, none⟩ = some (.int .u64 (h : Int)) ∧ w'.cell? ⟨Y, 3, none⟩ = some (.string d) ∧ w'.cell? ⟨Y, 4, none⟩ = some (.int .i64 f) ∧ w'.cell? ⟨Y, 5, none⟩ = some (.int .u64 (q : Int)) ∧ w'.cell? ⟨Y, 6, none⟩ = some (.int .u64 (t : Int)) ∧ w'.cell? ⟨Y, 7, none⟩ = some (.string pd) ∧ w'.cell? ⟨Y, 8, none⟩ = some (.bool false)) (by kernel_rfl) (HCB.out _ (HB1.out.below (Below.refl _ _).drew)) (fun hS0 => ?_)
  have HB2 : Hid (DoS Y w O O X c ⟨4, id, h, d, f, q, t, pd, false⟩ B P M wq.drew ∧ LaidOk wq.drew) := Lib.hid ⟨HB1.out.below (Below.refl _ _).drew, HLD.out.later (Below.refl _ _).drew⟩
  generalize wq.drew = z0 at *
  clear HB1 HLD a0 a2 a3 a4 a5 a6 a7 a8
  refine wpAnyH_take (i := 0) (v := ?_) rfl (by kernel_rfl) (by kernel_rfl) (by kernel_rfl) (fun _ _ _ h => h) (Or.inl ⟨by kernel_rfl, ?_⟩) (by assumption) ?_
  rotate_left
  · intro w hSw; (try dsimp only at hSw); go_simp; (try with_reducible rfl)
  refine wpAnyH_take (i := 1) (v := ?_) rfl (by kernel_rfl) (by kernel_rfl) (by kernel_rfl) (fun _ _ _ h => h) (Or.inl ⟨by kernel_rfl, ?_⟩) (by assumption) ?_
  rotate_left
  · intro w hSw; (try dsimp only at hSw); go_simp; (try with_reducible rfl)
  refine wpAnyH_take (i := 3) (v := ?_) rfl (by kernel_rfl) (by kernel_rfl) (by kernel_rfl) (fun _ _ _ h => h) (Or.inl ⟨by kernel_rfl, ?_⟩) (by assumption) ?_
  rotate_left
  · intro w hSw; (try dsimp only at hSw); go_simp; (try with_reducible rfl)
  refine wpAnyH_take (i := 4) (v := ?_) rfl (by kernel_rfl) (by kernel_rfl) (by kernel_rfl) (fun _ _ _ h => h) (Or.inl ⟨by kernel_rfl, ?_⟩) (by assumption) ?_
  rotate_left
  · intro w hSw; (try dsimp only at hSw); go_simp; (try with_reducible rfl)
  refine wpAnyH_ready (rs := [2]) (by kernel_rfl) (by simp) ?_
  refine AllReadyH.cons rfl (fun K hK => ?_) AllReadyH.nil
  go_simp
  refine (HKY.out z0).mono ?_
  rintro x z1 ⟨rfl, b1⟩
  have HB3 : Hid (DoS Y w O O X c ⟨4, id, h, d, f, q, t, pd, false⟩ B P M z1 ∧ LaidOk z1) := Lib.hid ⟨HB2.out.1.below b1, HB2.out.2.later b1⟩
  clear b1 HB2 hS0
  refine hK.out _ _ (HCB.out _ HB3.out.1) (fun hS0 => ?_)
  clear hK K
  refine wpAnyH_ready (rs := [5]) (by kernel_rfl) (by simp) ?_
  refine AllReadyH.cons rfl (fun K hK => ?_) AllReadyH.nil
  go_simp
  refine (HPV.out z1 (HB3.out.1.tw.ch o HSO.out.2.1) HB3.out.2).mono ?_
  rintro x z2 ⟨rfl, b1⟩
  have HB1 : Hid (DoS Y w O O X c ⟨4, id, h, d, f, q, t, pd, false⟩ B P M z2) := Lib.hid (HB3.out.1.below b1)
  have HLD : Hid (LaidOk z2) := Lib.hid (HB3.out.2.later b1)
  clear b1 HB3 hS0
  refine hK.out _ _ (HCB.out _ HB1.out) (fun hS0 => ?_)
  clear hK K
  refine wpAnyH_take (i := 6) (v := ?_) rfl (by kernel_rfl) (by kernel_rfl) (by kernel_rfl) (fun _ _ _ h => h) (Or.inl ⟨by kernel_rfl, ?_⟩) (by assumption) ?_
  rotate_left
  · intro w hSw; (try dsimp only at hSw); go_simp; (try with_reducible rfl)
  refine wpAnyH_take (i := 7) (v := ?_) rfl (by kernel_rfl) (by kernel_rfl) (by kernel_rfl) (fun _ _ _ h => h) (Or.inl ⟨by kernel_rfl, ?_⟩) (by assumption) ?_
  rotate_left
  · intro w hSw; (try dsimp only at hSw); go_simp; (try with_reducible rfl)
  refine wpAnyH_take (i := 8) (v := ?_) rfl (by kernel_rfl) (by kernel_rfl) (by kernel_rfl) (fun _ _ _ h => h) (Or.inl ⟨by kernel_rfl, ?_⟩) (by assumption) ?_
  rotate_left
  · intro w hSw; (try dsimp only at hSw); go_simp; (try with_reducible rfl)
  refine wpAnyH_take (i := 9) (v := ?_) rfl (by kernel_rfl) (by kernel_rfl) (by kernel_rfl) (fun _ _ _ h => h) (Or.inl ⟨by kernel_rfl, ?_⟩) (by assumption) ?_
  rotate_left
  · intro w hSw; (try dsimp only at hSw); go_simp; (try with_reducible rfl)
  refine wpAnyH_done (by kernel_rfl) ?_ _
  clear hS0 HCB
  have a0 := Kq.blk_cell HB1.out.bx 0
  have a2 := Kq.blk_cell HB1.out.bx 2
  have a3 := Kq.blk_cell HB1.out.bx 3
  have a4 := Kq.blk_cell HB1.out.bx 4
  have a5 := Kq.blk_cell HB1.out.bx 5
  have a6 := Kq.blk_cell HB1.out.bx 6
  have a7 := Kq.blk_cell HB1.out.bx 7
  have a8 := Kq.blk_cell HB1.out.bx 8
  simp only [CaV.cells] at a0 a2 a3 a4 a5 a6 a7 a8
  go_wp2_with fail
  refine (HRV.out z2 (HB1.out.tw.ch s HSO.out.1) HLD.out (fun e => HOK.out.2.2.2.2.2.1.1 (HPO.out s _ HSO.out.1 e)) (fun e => HOK.out.2.2.2.2.2.1.2 (HPO.out s _ HSO.out.1 e))).mono ?_
  rintro x w2 hst
  have hx := hst.1
  subst hx
  have HB2 := Lib.hid (HB1.out.step HSO.out.1 hst)
  clear hst HB1 HLD a0 a2 a3 a4 a5 a6 a7 a8
  have r0 := Kq.blk_cell HB2.out.rs 0
  have r1 := Kq.blk_cell HB2.out.rs 1
  have r2 := Kq.blk_cell HB2.out.rs 2
  have r3 := Kq.blk_cell HB2.out.rs 3
  have g0 := Kq.blk_free HB2.out.rs 0
  have g1 := Kq.blk_free HB2.out.rs 1
  have g2 := Kq.blk_free HB2.out.rs 2
  have g3 := Kq.blk_free HB2.out.rs 3
  go_wp2
  obtain ⟨q1, q2, q3⟩ := HB2.out.fill 0 0 0 ⟨#[]⟩
  change bodyPost _ _ _ _ _ (fillW w2 (Y + 1) 0 0 0 ⟨#[]⟩)
  have z0' := Kq.blk_cell q1 0
  have z1' := Kq.blk_cell q1 1
  have z2' := Kq.blk_cell q1 2
  have z3' := Kq.blk_cell q1 3
  generalize fillW w2 (Y + 1) 0 0 0 ⟨#[]⟩ = w9 at *
  refine bodyPost_ret (v := .tuple #[.agg #[.int .i64 0, .int .u64 0, .int .u64 0, .string ⟨#[]⟩], .int .u64 0, .int .i64 er]) (by simp [results, Tryz.results17, go_sem, z0', z1', z2', z3']) rfl ?_
  exact ⟨rfl, q2, q3⟩
end Go.Proofs.YtbjchfcoacmaaaaGreatDoor
