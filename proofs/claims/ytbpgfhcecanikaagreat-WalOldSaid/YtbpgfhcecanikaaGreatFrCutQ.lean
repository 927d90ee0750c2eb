/- Merged: RangeCell, FrCut. A range over a function whose iterator keeps state of its own in cells; a region of a round walked by the words that serve outside of rounds. No condition. Contracts of frame.cut and of the iterator that it tells. Condition: sizes. -/
import Derived.RangeFuncNested
import Derived.RangeFuncBound
import Derived.RangeFuncCalls
import Derived.RangeFuncLeaves
import Derived.Shelf.Abstract
import Derived.Shelf.RegionOpen
import Derived.WalkKit
import Derived.OwnWalkIn
import Derived.TacticsInMore
import Derived.LoopNIn
import Derived.LoopIn
import Derived.OrdersHeld
import Derived.Deep.RegionHeld
import Derived.WalkSpells
import Derived.Test.YtbpgfhcecanikaaGreatHeldLastQ
import Derived.Test.YtbpgfhcecanikaaGreatFrMayQ
namespace Go.Kq
open Go.RowKit
set_option linter.unusedVariables false
variable {P : Program}
theorem uponIn_of_upon {l n : Nat} {o : Oper} {a : Act} {next next' : Act → World → Prop} {Q : Exit → Act → World → Prop} (hn : ∀ a w, next a w → next' a w) (hL : ¬ LetsOut Q) (r : Result Next)
    (h : o.upon P a next Q r) : o.uponIn (Fence.wide.inRound l) n P a next' Q r := by
  cases r with
  | ok x w' =>
    cases x with
    | value v => exact hn _ _ h
    | skip => exact hn _ _ h
    | defer d => exact hn _ _ h
    | enter f args =>
      refine ⟨fun h => by simp [Fence.inRound, Fence.wide] at h, CallsIn.inRound l (callsIn_wide.2 ?_)⟩
      exact Calls.mono h (fun e w'' he => by
        cases e with
        | returned v => exact hn _ _ he
        | panicked c => exact he
        | outgrown => exact he)
    | row row args =>
      refine ⟨fun h => by simp [Fence.inRound, Fence.wide] at h, ?_⟩
      intro c cs _
      obtain ⟨v, w'', r, s⟩ := h c cs
      exact ⟨v, w'', hn _ _ r, stepsIn_wide.2 s⟩
    | _ => exact h.elim
  | halt e w' =>
    cases e with
    | panic v => exact h
    | _ => exact h.elim
theorem wpOpsIn_of_wpOps {l n : Nat} {ops : Array Oper} {Q : Exit → Act → World → Prop} (hd : ∀ (i : Nat) (o : Oper) c, ops[i]? = some o → o.op ≠ .defer c) (hL : ¬ LetsOut Q) :
    ∀ (is : List Nat) (a : Act) (w : World), wpOps P ops Q is a w → wpOpsIn (Fence.wide.inRound l) n P ops Q is a w := by
  intro is
  induction is with
  | nil => exact fun a w h => h
  | cons i rest ih =>
    intro a w h
    simp only [wpOps] at h
    simp only [wpOpsIn]
    cases ho : ops[i]? with
    | none => simp only [ho] at h ⊢; exact ih a w h
    | some o =>
      simp only [ho] at h ⊢
      by_cases hw : Region.wanted o (yielded ops a.tmps) = true
      · simp only [hw, if_true] at h ⊢
        rcases h with h | h
        · refine ⟨fun _ _ => trivial, ?_⟩
          rw [show (Fence.wide.inRound l).round = some l from rfl, Oper.semAt_some l _ _ (fun c => hd i o c ho)]
          exact uponIn_of_upon ih hL _ h
        · exact absurd h.2 hL
      · simp only [hw, if_false, Bool.false_eq_true] at h ⊢
        exact ⟨fun _ _ => trivial, ih _ _ h⟩
/-- a region of a round that draws -/
theorem wpIn_region_any {l n id : Nat} {ops : Array Oper} {Q : Exit → Act → World → Prop} {a : Act} {w : World} (hd : (ops.all fun o => match o.op with | .defer _ => false | _ => true) = true) (hL : ¬ LetsOut Q) (hm : P.follows .mixedOrders = true)
    (h : wpAny P .any ops Q ops.size (Array.replicate ops.size false) a w.drew) : (Code.region id ops true).wpIn (Fence.wide.inRound l) n P Q a w := by
  have hd' : ∀ (i : Nat) (o : Oper) c, ops[i]? = some o → o.op ≠ .defer c := fun i o c ho e => by
    obtain ⟨hi, rfl⟩ := Array.getElem?_eq_some_iff.1 ho
    have := Array.all_eq_true.1 hd i hi
    rw [e] at this
    cases this
  refine wpIn_region_draw fun t => wpOpsIn_of_wpOps hd' hL _ _ _ ?_
  simp only [Region.schedule, hm, Bool.true_or, if_true]
  exact wpAny_sound ops.size t _ a _ h
theorem wpIn_region_held {l n id : Nat} {ops : Array Oper} {Q : Exit → Act → World → Prop} {S : World → Prop} {a : Act} {w : World} (hd : (ops.all fun o => match o.op with | .defer _ => false | _ => true) = true) (hL : ¬ LetsOut Q) (hm : P.follows .mixedOrders = true)
    (h : wpAnyH P .any ops Q S ops.size (Array.replicate ops.size false) a w.drew) : (Code.region id ops true).wpIn (Fence.wide.inRound l) n P Q a w :=
  wpIn_region_any hd hL hm (wpAny_of_held _ _ _ _ h)
theorem wpIn_region_T {l n id : Nat} {ops : Array Oper} {Q : Exit → Act → World → Prop} {a : Act} {w : World} (last : Nat) (S : World → Prop) (hd : (ops.all fun o => match o.op with | .defer _ => false | _ => true) = true) (hL : ¬ LetsOut Q) (hm : P.follows .mixedOrders = true) (hS : S w.drew)
    (h : S w.drew → wpAnyT P .any ops Q last S ops.size (Array.replicate ops.size false) a w.drew) : (Code.region id ops true).wpIn (Fence.wide.inRound l) n P Q a w :=
  wpIn_region_any hd hL hm (wpAny_of_T _ _ _ _ (h hS))
/-- **THE STATEMENT over an iterator that steps N rounds and keeps state in cells.** Ab: what the iterator does between two rounds; Kp: what it asks a round to keep. -/
theorem wpIn_rangeFunc_seq {F : Fence} {n : Nat} {g : Operand} {ps : Array Tmp} {assign body : Code} {Q : Exit → Act → World → Prop} {a : Act} {w : World}
    (hro : F.round = none) (h1 : 1 ≤ n) {gf : Nat} {lb : Array Value} (hg : a.eval g = .func (.func gf) #[] lb) (hFg : F.fn gf) (eg : ∀ args w, (callFunc gf args).run P w = .ok (.enter gf args) w)
    (encs : Nat → Array Value) (N : Nat) (hps : ∀ k, (encs k).size = ps.size)
    (Kp Ab : World → World → Prop) (hAb : ∀ A B, Ab A B → KeepsOthers A B)
    (hKt : ∀ A B C, Kp A B → Kp B C → Kp A C) (hKb : ∀ W k o o', W.heap[k]? = some o → o.isCells = false → w.heap.size ≤ k → Kp W (W.putObj k o'))
    (Start : World → Prop) (hS : ∀ W, Below w.heap.size w W → Start W)
    (hseq : ∀ (l : Nat) (J : Nat → World → Prop) (W : World), Start W → (∀ k A B, J k A → Ab A B → J k B) →
      (∀ k W, J k W → k < N → YieldAt F (n - 1 - 1) P l (encs k) W fun e W' => e = .returned (.bool true) ∧ J (k + 1) W' ∧ Kp W W') → J 0 W →
      CallsIn F (n - 1) P gf (#[.func (.yield l) #[] #[]] ++ lb) W fun e W' => (∃ v, e = .returned v) ∧ J N W')
    (I : Nat → World → Prop) (hIa : ∀ k A B, I k A → Ab A B → I k B) (hIp : ∀ k W l o o', w.heap.size ≤ l → W.heap[l]? = some o → o.isCells = false → I k W → I k (W.putObj l o'))
    (hIn : ∀ k W o, I k W → I k (W.alloc o)) (h0 : I 0 w) (a₁ : Nat → Act)
    (hassign : ∀ (l k : Nat) (W : World) (K : Act → World → Prop), k < N → K (a₁ k) W →
      assign.wpIn (F.inRound l) (n - 1 - 1) P (Exit.then K (fun _ _ _ => False)) { tmps := (ps.zip (encs k)).foldl (fun t (p, v) => t.setIfInBounds p v) a.tmps, defers := [] } W)
    (hbody : ∀ (l k : Nat) (W : World), I k W → k < N → body.wpIn (F.inRound l) (n - 1 - 1) P (fun e _ W' => match e with | .normal => KeepsOthers W W' ∧ I (k + 1) W' ∧ Kp W W' | _ => False) (a₁ k) W)
    (hdone : ∀ (D : Nat) (W : World), I N W → w.heap.size ≤ D → W.heap[D]? = some (.deferred (some [])) → Q .normal { a with defers := { target := .collected D, args := #[] } :: a.defers } W) :
    (Code.rangeFunc g ps assign body).wpIn F n P Q a w := by
  refine wpIn_rangeFunc ?_
  intro fn hfn
  rw [hro]
  obtain ⟨rec, hrec⟩ : ∃ rec : LoopState → Option Code → Loop, rec = fun st pe => { state := st, pending := pe, fn, tmps := a.tmps, params := ps, assign, body, defers := w.heap.size } := ⟨_, rfl⟩
  obtain ⟨W1, hW1⟩ : ∃ W1, (w.alloc (.deferred (some []))).alloc (.loop (rec .ready none)) = W1 := ⟨_, rfl⟩
  have hL1 : W1.heap[w.heap.size + 1]? = some (.loop (rec .ready none)) := by
    rw [← hW1]; have := World.alloc_heap_new (w.alloc (.deferred (some []))) (.loop (rec .ready none)); rwa [World.size_alloc] at this
  have hK1 : W1.heap[w.heap.size]? = some (.deferred (some [])) := by
    rw [← hW1]; exact (Below.heap_alloc _ _ _ (by simp)).trans (World.alloc_heap_new w _)
  have hI1 : I 0 W1 := by rw [← hW1]; exact hIn _ _ _ (hIn _ _ _ h0)
  have hb1 : Below w.heap.size w W1 := by
    rw [← hW1]; exact ((Below.refl _ w).alloc (Nat.le_refl _) _).alloc (by simp) _
  refine ⟨w.heap.size + 1, [{ target := .collected w.heap.size, args := #[] }], W1, { target := .fn (.func gf) lb, args := #[.func (.yield (w.heap.size + 1)) #[] #[]] }, W1, gf,
    #[.func (.yield (w.heap.size + 1)) #[] #[]] ++ lb, W1, ?_, ?_, ?_, ?_, fun _ => h1, ?_⟩
  · rw [← hW1, hrec]; exact run_enterLoop_outer _ _ _ _ _
  · simp only [resolve, hg]
    simp [go_sem]
  · intro f' hf'; simp [Target.leads] at hf'; subst hf'; exact hFg
  · simp [invoke, go_sem, eg]
  · refine (hseq (w.heap.size + 1)
      (fun k W => I k W ∧ W.heap[w.heap.size + 1]? = some (.loop (rec .ready none)) ∧ W.heap[w.heap.size]? = some (.deferred (some [])))
      W1 (hS _ hb1)
      (fun k A B hs hab => ⟨hIa k A B hs.1 hab, (hAb _ _ hab).same _ _ hs.2.1 rfl, (hAb _ _ hab).same _ _ hs.2.2 rfl⟩)
      ?_ ⟨hI1, hL1, hK1⟩).mono ?_
    · rintro k W ⟨hi, hl, hk⟩ hlen
      have hlt : w.heap.size + 1 < W.heap.size := (Array.getElem?_eq_some_iff.1 hl).1
      have hy := run_yield (P := P) (args := encs k) hl (by rw [hrec]; exact hps k)
      rw [hrec] at hy
      refine ⟨fn, _, assign, body, hy, roundIn_of_wpIn hfn (hassign _ k W _ hlen ⟨_, run_beginRound hl (by rw [hrec]), ?_⟩)⟩
      have hl2 : (W.putObj (w.heap.size + 1) (.loop { rec .ready none with state := .busy })).heap[w.heap.size + 1]? = some (.loop { rec .ready none with state := .busy }) := World.putObj_heap_same hlt
      have hk2 : (W.putObj (w.heap.size + 1) (.loop { rec .ready none with state := .busy })).heap[w.heap.size]? = some (.deferred (some [])) := (World.putObj_heap_other (by omega)).trans hk
      have hp2 := hKb W (w.heap.size + 1) _ (.loop { rec .ready none with state := .busy }) hl rfl (Nat.le_succ _)
      refine wpIn_mono (hbody _ k _ (hIp _ _ _ _ _ (Nat.le_succ _) hl rfl hi) hlen) ?_
      rintro e a3 W3 hp
      cases e with
      | normal =>
        obtain ⟨hk3, hi3, hp3⟩ := hp
        have hl3 := hk3.same _ _ hl2 rfl
        have hend := run_endRound (P := P) none hl3
        have hd3 := hk3.same _ _ hk2 rfl
        rw [hrec] at hend
        refine ⟨_, _, hend, rfl, ⟨hIp _ _ _ _ _ (Nat.le_succ _) hl3 rfl hi3, ?_, (World.putObj_heap_other (by omega)).trans hd3⟩, hKt _ _ _ hp2 (hKt _ _ _ hp3 (hKb _ _ _ _ hl3 rfl (Nat.le_succ _)))⟩
        rw [hrec]
        exact World.putObj_heap_same (Array.getElem?_eq_some_iff.1 hl3).1
      | _ => exact hp.elim
    · rintro e W2 ⟨⟨v, rfl⟩, hi, hl, hk⟩
      have hend := run_endLoop (P := P) hl (by rw [hrec]; simp)
      rw [hrec] at hend
      exact ⟨none, _, hend, hdone _ _ (hIp _ _ _ _ _ (Nat.le_succ _) hl rfl hi) (Nat.le_refl _) ((World.putObj_heap_other (by omega)).trans hk)⟩
end Go.Kq
namespace Go.Proofs.YtbpgfhcecanikaaGreat
open Go.RowKit Go.Shelf
attribute [local go_sem] Oper.semAt_some
set_option linter.unusedVariables false
set_option linter.unusedSimpArgs false
/-- what is left, and what is told next -/
def restC (r : Nat) (s : ByteArray) (k : Nat) : ByteArray := s.extract (k * r) s.size
def pieceC (r : Nat) (s : ByteArray) (k : Nat) : ByteArray := s.extract (k * r) ((k + 1) * r)
def BoxS (W : World) (B : Nat) (s : ByteArray) : Prop := W.heap[B]? = some (.cells #[.string s] 9 (0, 0))
def BoxI (W : World) (B : Nat) (i : Int) : Prop := W.heap[B]? = some (.cells #[.int .i64 i] 3 (0, 0))
def AbC (Bs : Nat) (A B : World) : Prop := KeepsOthers A B ∧ Kq.Keeps (· = Bs) A B
def KpC (Bs Br : Nat) (A B : World) : Prop := B.heap[Bs]? = A.heap[Bs]? ∧ B.heap[Br]? = A.heap[Br]?
theorem restC_size (r : Nat) (s : ByteArray) (k : Nat) : (restC r s k).size = s.size - k * r := by simp [restC]
theorem toList_size (s : ByteArray) : s.toList.length = s.size := by rw [Lib.toList_data, Array.length_toList]; rfl
theorem rest_piece (r : Nat) (s : ByteArray) (k : Nat) (h : k * r ≤ s.size) : (restC r s k).extract 0 (min r (restC r s k).size) = pieceC r s k := by
  apply nl_inj
  rw [restC_size]
  unfold restC pieceC
  rw [nl_extract, nl_extract, nl_extract, List.drop_zero, List.take_take]
  have e : (k + 1) * r = k * r + r := by rw [Nat.add_mul, Nat.one_mul]
  have hl : ((nl s).drop (k * r)).length = s.size - k * r := by rw [List.length_drop, nl_length]
  rw [e, show k * r + r - k * r = r by omega, Nat.sub_zero, show min (min r (s.size - k * r)) (s.size - k * r) = min r (s.size - k * r) by omega]
  rcases Nat.le_total r (s.size - k * r) with h1 | h1
  · rw [Nat.min_eq_left h1]
  · rw [Nat.min_eq_right h1, List.take_of_length_le (by omega), List.take_of_length_le (by omega)]
theorem rest_next (r : Nat) (s : ByteArray) (k : Nat) (h : k * r ≤ s.size) : (restC r s k).extract (min r (restC r s k).size) (restC r s k).size = restC r s (k + 1) := by
  apply nl_inj
  rw [restC_size]
  unfold restC
  have e : (k + 1) * r = k * r + r := by rw [Nat.add_mul, Nat.one_mul]
  rw [e, nl_extract, nl_extract, nl_extract]
  generalize k * r = q at *
  have hl : (nl s).length = s.size := nl_length s
  have h1 : ((nl s).drop q).take (s.size - q) = (nl s).drop q := List.take_of_length_le (by rw [List.length_drop]; omega)
  have h2 : ((nl s).drop (q + r)).take (s.size - (q + r)) = (nl s).drop (q + r) := List.take_of_length_le (by rw [List.length_drop]; omega)
  rw [h1, h2, List.drop_drop]
  rcases Nat.le_total r (s.size - q) with h3 | h3
  · rw [Nat.min_eq_left h3, List.take_of_length_le (by rw [List.length_drop]; omega)]
  · rw [Nat.min_eq_right h3, List.drop_of_length_le (by omega), List.drop_of_length_le (by omega)]
    simp
set_option maxRecDepth 100000 in
set_option maxHeartbeats 2000000 in
theorem fr_cut (s : ByteArray) (r : Int) (w : World) :
    Calls Tryz.prog 67 #[.string s, .int .i64 r] w fun e w' => e = .returned (.func (.func 88) #[] #[.pointer (some ⟨w.heap.size + 1, 0, none⟩), .pointer (some ⟨w.heap.size, 0, none⟩)]) ∧ w' = (w.alloc (.cells #[.string s] 9)).alloc (.cells #[.int .i64 r] 3) := by
  go_enter Tryz.func67, Tryz.ntmps67
  go_wp2
  go_ret
  exact ⟨rfl, rfl⟩
set_option maxRecDepth 100000 in
set_option maxHeartbeats 2000000 in
theorem fr_cut_in (n l Bs Br r N : Nat) (s : ByteArray) (hne : Bs ≠ Br) (hr : 1 ≤ r) (hr2 : r ≤ 1000) (hs : s.size ≤ 5000) (hN : ∀ k, k < N → (k * r ≤ s.size ∧ (k + 1 < N ↔ (k + 1) * r < s.size))) (hN1 : 1 ≤ N) (hN2 : N ≤ 5000)
    (J : Nat → World → Prop) (hJ : ∀ k A B, J k A → AbC Bs A B → J k B)
    (hY : ∀ k W, J k W → k < N → YieldAt Fence.wide (n - 1) Tryz.prog l #[.int .i64 (k : Int), .string (pieceC r s k)] W fun e W' => e = .returned (.bool true) ∧ J (k + 1) W' ∧ KpC Bs Br W W')
    (W : World) (hBs : BoxS W Bs s) (hBr : BoxI W Br r) (h0 : J 0 W) :
    CallsIn Fence.wide n Tryz.prog 88 #[.func (.yield l) #[] #[], .pointer (some ⟨Br, 0, none⟩), .pointer (some ⟨Bs, 0, none⟩)] W fun e W' => (∃ v, e = .returned v) ∧ J N W' := by
  have hs0 : restC r s 0 = s := by
    apply nl_inj
    unfold restC
    rw [nl_extract, Nat.zero_mul, List.drop_zero, List.take_of_length_le (by rw [nl_length]; omega)]
  refine callsIn_of_wp Tryz.func88 rfl trivial ?_ rfl
  simp only [Tryz.ntmps88, List.size_toArray, List.length_cons, List.length_nil, Nat.reduceAdd, Nat.reduceSub, Array.replicate_succ, Array.replicate_zero, List.push_toArray, List.append_toArray, List.nil_append, List.cons_append]
  have H0 := Lib.hid (And.intro (show BoxS W Bs (restC r s 0) by rw [hs0]; exact hBs) (And.intro hBr h0))
  have HJ := Lib.hid hJ
  have HY := Lib.hid hY
  have HN := Lib.hid hN
  have HS := Lib.hid (And.intro hne (And.intro hr (And.intro hr2 (And.intro hs (And.intro hN1 hN2)))))
  clear hs0 hBs hBr h0 hJ hY hN hne hr hr2 hs hN1 hN2
  gi_wp2
  gi_loopw [4] (fun i wr => ∃ k : Nat, i = .int .i64 (k : Int) ∧ k < N ∧ BoxS wr Bs (restC r s k) ∧ BoxI wr Br r ∧ J k wr) (fun i _ => N - (intOf i).toNat)
  case atStart => exact ⟨0, rfl, by have := HS.out; omega, H0.out.1, H0.out.2.1, H0.out.2.2⟩
  case round =>
    obtain ⟨k, rfl, hk, hbs, hbr, hJk⟩ := hrel
    have HB := Lib.hid (And.intro hbs (And.intro hbr hJk))
    have hkb : k ≤ 5000 := by have := HS.out; omega
    have HK := Lib.hid hk
    have HPN := Lib.hid (And.intro (rest_piece r s k (HN.out k hk).1) (And.intro (rest_next r s k (HN.out k hk).1) (restC_size r s k)))
    have hrs : (restC r s k).size ≤ 5000 := by rw [HPN.out.2.2]; have := HS.out; omega
    have HE : Hid ((restC r s (k + 1)).size = s.size - (k + 1) * r) := Lib.hid (restC_size r s (k + 1))
    have HYK := Lib.hid (HY.out k wr hJk hk)
    clear hbs hbr hJk hk
    have c1 := Kq.blk_cell HB.out.2.1 0
    have c2 := Kq.blk_cell HB.out.1 0
    generalize ht : restC r s k = t at *
    generalize ht2 : restC r s (k + 1) = t2 at *
    generalize pieceC r s k = pc at *
    obtain ⟨m, hm⟩ : ∃ m, m = min r t.size := ⟨_, rfl⟩
    rw [← hm] at HPN
    have HT := Lib.hid (And.intro ht ht2)
    have hx1 := HPN.out.1
    have hx2 := HPN.out.2.1
    have hr2 : r ≤ 1000 := HS.out.2.2.1
    obtain ⟨fn, tmps, assign, body, hy, hR⟩ := HYK.out
    clear ht ht2
    have HMB : Hid (m ≤ t.size ∧ m ≤ r ∧ (m = r ∨ m = t.size)) := Lib.hid (by rw [hm]; omega)
    have hm2 : m = min r t.size := hm
    clear hm
    by_cases hrt : t.size < r
    · obtain rfl : m = t.size := by omega
      have d0 : decide ((t.size : Int) < (r : Int)) = true := decide_eq_true (by omega)
      have d0' : decide (t.size < r) = true := decide_eq_true hrt
      obtain rfl : t = pc := by rw [← hx1]; simp
      obtain rfl : ByteArray.empty = t2 := by rw [← hx2]; simp
      have HNL : Hid (¬ k + 1 < N) := Lib.hid (fun h => by
      have h1 := (HN.out k HK.out).2.1 h
      have h2 := HPN.out.2.2
      have h3 : (k + 1) * r = k * r + r := by rw [Nat.add_mul, Nat.one_mul]
      omega)
      clear hx2
      clear hm2 hx1
      gi_wp2
      refine ⟨fun h => by simp [Fence.wide] at h, hR.mono ?_⟩
      rintro e W3 ⟨rfl, hJ3, hk3⟩
      have HW := Lib.hid (And.intro (show BoxS W3 Bs t from hk3.1.trans HB.out.1) (And.intro (show BoxI W3 Br r from hk3.2.trans HB.out.2.1) hJ3))
      clear hJ3 hk3 c1 c2 hy hR
      have c2 := Kq.blk_cell HW.out.1 0
      have f2 := Kq.blk_free HW.out.1 0
      have HX := Lib.hid (And.intro (show BoxS (W3.setCell ⟨Bs, 0, none⟩ (.string ByteArray.empty)) Bs ByteArray.empty from Kq.blk_set HW.out.1 0 _) (And.intro (show BoxI (W3.setCell ⟨Bs, 0, none⟩ (.string ByteArray.empty)) Br r from (Kq.Keeps.setCell (S := (· = Bs)) W3 ⟨Bs, 0, none⟩ (.string ByteArray.empty) rfl).blk HW.out.2.1 (fun e => HS.out.1 e.symm)) (HJ.out _ _ _ HW.out.2.2 ⟨KeepsOthers.setCell W3 ⟨Bs, 0, none⟩ (.string ByteArray.empty), Kq.Keeps.setCell (S := (· = Bs)) W3 ⟨Bs, 0, none⟩ (.string ByteArray.empty) rfl⟩)))
      have d2 := Kq.blk_cell HX.out.1 0
      have HNK : Hid (k + 1 = N) := Lib.hid (by have := HK.out; have := HNL.out; omega)
      gi_wp2
      refine bodyPost_ret (results_none rfl _ _ _) rfl ?_
      exact ⟨⟨_, rfl⟩, by rw [← HNK.out]; exact HX.out.2.2⟩
    · obtain rfl : m = r := by omega
      have d0 : decide ((t.size : Int) < (m : Int)) = false := decide_eq_false (by omega)
      have d0' : decide (t.size < m) = false := decide_eq_false hrt
      have d1 : (m : Int) ≤ (t.size : Int) := by omega
      clear hm2
      gi_wp2
      refine ⟨fun h => by simp [Fence.wide] at h, hR.mono ?_⟩
      rintro e W3 ⟨rfl, hJ3, hk3⟩
      have HW := Lib.hid (And.intro (show BoxS W3 Bs t from hk3.1.trans HB.out.1) (And.intro (show BoxI W3 Br m from hk3.2.trans HB.out.2.1) hJ3))
      clear hJ3 hk3 c1 c2 hy hR
      have c2 := Kq.blk_cell HW.out.1 0
      have f2 := Kq.blk_free HW.out.1 0
      have HX := Lib.hid (And.intro (show BoxS (W3.setCell ⟨Bs, 0, none⟩ (.string t2)) Bs t2 from Kq.blk_set HW.out.1 0 _) (And.intro (show BoxI (W3.setCell ⟨Bs, 0, none⟩ (.string t2)) Br m from (Kq.Keeps.setCell (S := (· = Bs)) W3 ⟨Bs, 0, none⟩ (.string t2) rfl).blk HW.out.2.1 (fun e => HS.out.1 e.symm)) (HJ.out _ _ _ HW.out.2.2 ⟨KeepsOthers.setCell W3 ⟨Bs, 0, none⟩ (.string t2), Kq.Keeps.setCell (S := (· = Bs)) W3 ⟨Bs, 0, none⟩ (.string t2) rfl⟩)))
      have d2 := Kq.blk_cell HX.out.1 0
      by_cases hlast : k + 1 < N
      · have hz : t2.size ≠ 0 := by have := (HN.out k HK.out).2.1 hlast; have := HE.out; omega
        have z0 : (t2.toList == []) = false := by rw [beq_eq_false_iff_ne]; intro e; exact hz (by rw [← toList_size t2, e]; rfl)
        have z1 : t2.toList.isEmpty = false := by cases h : t2.toList with | nil => exact absurd (by rw [← toList_size t2, h]; rfl) hz | cons _ _ => rfl
        have HLT := Lib.hid hlast
        clear hz hlast
        gi_wp2
        go_roundw
        case rel => first | exact ⟨k + 1, by go_num, HLT.out, by rw [HT.out.2]; exact HX.out.1, HX.out.2.1, HX.out.2.2⟩ | ((repeat apply Exists.intro); exact ⟨⟨k + 1, by go_num, HLT.out, by rw [HT.out.2]; exact HX.out.1, HX.out.2.1, HX.out.2.2⟩, rfl⟩)
        case measure => have := HLT.out; have h3 := HK.out; simp [intOf]; omega
      · have hz : t2.size = 0 := by
          have h1 := HK.out
          have h2 := (HN.out k h1).2
          have := HE.out
          have h3 : ¬ (k + 1) * m < s.size := fun h => hlast (h2.2 h)
          omega
        have hte : t2.toList = [] := List.length_eq_zero_iff.1 (by rw [toList_size]; exact hz)
        have z0 : (t2.toList == []) = true := by rw [hte]; rfl
        have z1 : t2.toList.isEmpty = true := by rw [hte]; rfl
        have HNK : Hid (k + 1 = N) := Lib.hid (by have := HK.out; omega)
        clear hz hlast hte
        gi_wp2
        refine bodyPost_ret (results_none rfl _ _ _) rfl ?_
        exact ⟨⟨_, rfl⟩, by rw [← HNK.out]; exact HX.out.2.2⟩
end Go.Proofs.YtbpgfhcecanikaaGreat
