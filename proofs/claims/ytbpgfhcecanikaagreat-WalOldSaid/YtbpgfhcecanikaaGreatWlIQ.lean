/- Merged: MapG, HdNext, LwF, WlI. A map that the program makes, of whatever keys and elements: what it holds, key by key, and how many. No condition. Contracts of head.Next, carrackref06.Next. No condition but that numbers fit. Contract of carracklaw07.few. Condition: none but the acts in memory. Contracts of a log's Broken, Ready, Gen, Used, Fits. Condition: sizes. -/
import Derived.WalkSpells
import Derived.Outline
import Derived.Maps.OwnSet
import Derived.Test.YtbpgfhcecanikaaGreatCommonQ
import Derived.Test.YtbpgfhcecanikaaGreatHdRNewQ
import Derived.Test.YtbpgfhcecanikaaGreatRfNewQ
import Derived.Deep.QuietTactic
import Derived.Deep.RegionHeld
import Derived.Test.YtbpgfhcecanikaaGreatWrNewQ
import Derived.Test.YtbpgfhcecanikaaGreatFrPartsQ
namespace Go.Kq
open Go.RowKit Go.Maps Go.MapKept Go.ChangeMaps
set_option linter.unusedVariables false
set_option linter.unusedSectionVars false
structure KeyK (P : Program) (tk : TypeId) (α : Type) where
  K : Keyed P tk
  val : α → Value
  key : α → Lit
  wf : α → Prop
  ok : ∀ a, wf a → keyOf P tk (val a) = some (key a)
  inj : ∀ a b, val a = val b → a = b
structure ElK (P : Program) (te : TypeId) (β : Type) where
  R : Value → Option (DataW Unit × List MemPlace)
  val : β → Value
  data : β → DataW Unit
  wf : β → Prop
  zero : β
  zwf : wf zero
  hz : ∀ w, (zeroValue te).run P w = .ok (val zero) w
  rd : ∀ b, wf b → R (val b) = some (data b, [])
  inv : ∀ v z, R v = some z → ∃ b, v = val b ∧ z.1 = data b
  inj : ∀ a b, data a = data b → a = b
section
variable {P : Program} {tk te : TypeId} {α β : Type} {kk : KeyK P tk α} {ek : ElK P te β}
structure MapG (kk : KeyK P tk α) (ek : ElK P te β) (w : World) (M N : Nat) (f : α → Option β) (sz : Nat) : Prop where
  ex : ∃ n, ∃ D : DataW Unit, n ≤ N ∧ w.ownsMap P tk ek.R M n D ∧ Maps.size D = sz ∧ ∀ a, kk.wf a → Maps.has D (kk.key a) = (f a).isSome ∧ D.atKey (kk.key a) (ek.data ek.zero) = ek.data ((f a).getD ek.zero)
variable {w w' : World} {M N sz : Nat} {f : α → Option β}
theorem MapG.made (kk : KeyK P tk α) (ek : ElK P te β) (w : World) : MapG kk ek (w.alloc (.map #[] 0)) w.heap.size 0 (fun _ => none) 0 := ⟨0, .map [], Nat.le_refl _, World.ownsMap_made _ _ _ _, rfl, fun k _ => ⟨rfl, rfl⟩⟩
theorem MapG.lt (h : MapG kk ek w M N f sz) : M < w.heap.size := by
  obtain ⟨n, D, _, h, _⟩ := h.ex
  exact h.lt
theorem MapG.keeps {S : Nat → Prop} (h : MapG kk ek w M N f sz) (hk : Kq.Keeps S w w') (hS : ¬ S M) : MapG kk ek w' M N f sz := by
  obtain ⟨n, D, hn, ⟨es, clock, hb, r⟩, hD⟩ := h.ex
  exact ⟨n, D, hn, ⟨es, clock, hk.blk hb hS, r⟩, hD⟩
theorem MapG.below (h : MapG kk ek w M N f sz) (hb : Below w.heap.size w w') : MapG kk ek w' M N f sz :=
  h.keeps (S := fun _ => False) (Kq.Keeps.of_below hb (fun j h1 h2 => absurd h1 (Nat.not_le.2 h2))) id
theorem MapG.up {N' : Nat} (h : MapG kk ek w M N f sz) (hN : N ≤ N') : MapG kk ek w M N' f sz := by
  obtain ⟨n, D, hn, r⟩ := h.ex
  exact ⟨n, D, Nat.le_trans hn hN, r⟩
theorem MapG.look {t : TypeId} (h : MapG kk ek w M N f sz) (ht : P.underlying t = some (.map tk te)) (a : α) (hw : kk.wf a) :
    (Instr.lookup t (.map (some M)) (kk.val a) true).run P w = .ok (.tuple #[ek.val ((f a).getD ek.zero), .bool (f a).isSome]) w := by
  obtain ⟨n, D, hn, hown, _, hD⟩ := h.ex
  obtain ⟨v, ps, hrun, hv⟩ := hown.look_ok kk.K ht (ek.hz w) (ek.rd _ ek.zwf) (kk.ok a hw)
  obtain ⟨b, rfl, hb⟩ := ek.inv _ _ hv
  obtain ⟨h1, h2⟩ := hD a hw
  rw [hrun, h1, ek.inj _ _ (hb.symm.trans h2)]
theorem MapG.get {t : TypeId} (h : MapG kk ek w M N f sz) (ht : P.underlying t = some (.map tk te)) (a : α) (hw : kk.wf a) :
    (Instr.lookup t (.map (some M)) (kk.val a) false).run P w = .ok (ek.val ((f a).getD ek.zero)) w := by
  obtain ⟨n, D, hn, hown, _, hD⟩ := h.ex
  obtain ⟨v, ps, hrun, hv⟩ := hown.lookup kk.K ht (ek.hz w) (ek.rd _ ek.zwf) (kk.ok a hw)
  obtain ⟨b, rfl, hb⟩ := ek.inv _ _ hv
  obtain ⟨h1, h2⟩ := hD a hw
  rw [hrun, ek.inj _ _ (hb.symm.trans h2)]
theorem MapG.len {t : TypeId} (h : MapG kk ek w M N f sz) (ht : P.underlying t = some (.map tk te)) (ty : TypeId) : (Builtin.len_ #[t] ty #[.map (some M)]).run P w = .ok (.int .i64 (sz : Int)) w := by
  obtain ⟨n, D, hn, hown, hs, hD⟩ := h.ex
  have := hown.len ht ty
  rw [hs] at this
  exact this
theorem MapG.size_le (h : MapG kk ek w M N f sz) : sz ≤ N := by
  obtain ⟨n, D, hn, hown, hs, hD⟩ := h.ex
  have := hown.size_le
  omega
section
variable [DecidableEq α]
def updG (f : α → Option β) (k : α) (v : β) : α → Option β := fun j => if j = k then some v else f j
def delG (f : α → Option β) (k : α) : α → Option β := fun j => if j = k then none else f j
theorem KeyK.key_ne (kk : KeyK P tk α) {a b : α} (ha : kk.wf a) (hb : kk.wf b) (hne : a ≠ b) : kk.key a ≠ kk.key b := fun e => by
  have h1 := kk.ok a ha
  have h2 := kk.ok b hb
  rw [← e] at h2
  exact hne (kk.inj a b (kk.K.inj h1 h2))
theorem MapG.put {t : TypeId} (h : MapG kk ek w M N f sz) (hN : N < 1000000000) (ht : P.underlying t = some (.map tk te)) (k : α) (hw : kk.wf k) (v : β) (hv : ek.wf v) :
    ∃ w', (Instr.mapUpdate t (.map (some M)) (kk.val k) (ek.val v)).run P w = .ok () w' ∧ MapG kk ek w' M (N + 1) (updG f k v) (if (f k).isSome then sz else sz + 1) ∧ Kq.Keeps (· = M) w w' := by
  obtain ⟨n, D, hn, hown, hsz, hD⟩ := h.ex
  obtain ⟨w', hrun, hown', hgr⟩ := hown.update kk.K ht (by unfold maxLen; omega) (kk.ok k hw) (ek.rd v hv)
  refine ⟨w', hrun, ⟨n + 1, _, Nat.succ_le_succ hn, hown', ?_, fun j hj => ?_⟩, Kq.Keeps.grown hgr (fun j _ hj => by cases hj; rfl)⟩
  · rw [size_put (hown.tidy kk.K), (hD k hw).1, hsz]
  · unfold updG
    by_cases hjk : j = k
    · subst hjk
      rw [if_pos rfl, has_put_same hown.isMap (kk.K.key (kk.ok j hj)), atKey_put_same hown.isMap (kk.K.key (kk.ok j hj))]
      exact ⟨rfl, rfl⟩
    · rw [if_neg hjk, has_put_other (kk.key_ne hj hw hjk), atKey_put_other (kk.key_ne hj hw hjk)]
      exact hD j hj
theorem MapG.del {t : TypeId} (h : MapG kk ek w M N f sz) (ht : P.underlying t = some (.map tk te)) (k : α) (hw : kk.wf k) (ty : TypeId) :
    ∃ w', (Builtin.delete_ #[t, tk] ty #[.map (some M), kk.val k]).run P w = .ok (.tuple #[]) w' ∧ MapG kk ek w' M N (delG f k) (if (f k).isSome then sz - 1 else sz) ∧ Kq.Keeps (· = M) w w' := by
  obtain ⟨n, D, hn, hown, hsz, hD⟩ := h.ex
  obtain ⟨w', hrun, hown', hturn⟩ := hown.drop kk.K ht (kk.ok k hw) ty
  refine ⟨w', hrun, ⟨n, _, hn, hown', ?_, fun j hj => ?_⟩, ?_⟩
  · have hs := size_del (k := kk.key k) (hown.tidy kk.K)
    rw [(hD k hw).1, hsz] at hs
    cases hf : (f k).isSome <;> simp [hf] at hs ⊢ <;> omega
  · unfold delG
    by_cases hjk : j = k
    · subst hjk
      rw [if_pos rfl, has_del_same, atKey_del_same]
      exact ⟨rfl, rfl⟩
    · rw [if_neg hjk, has_del_other (kk.key_ne hj hw hjk), atKey_del_other (kk.key_ne hj hw hjk)]
      exact hD j hj
  · obtain ⟨es, clock, es', clock', hb, rfl⟩ := hturn
    exact ⟨rfl, rfl, rfl, by simp [setBlock], fun i _ hi => heap_setBlock_other hb _ hi⟩
end
end
end Go.Kq
namespace Go.Proofs.YtbpgfhcecanikaaGreat
open Go.RowKit
set_option linter.unusedVariables false
def nxG (g : Nat) : Nat := if g + 1 = M64 then 0 else g + 1
def nxS (g : Nat) (sg : Int) : Int := if g + 1 = M64 then 0 else if sg = 0 then 1 else 0
def nxE (g : Nat) : Int := if g + 1 = M64 then 12 else 0
theorem nx_test (g : Nat) (h : g < M64) (hn : ¬ g + 1 = M64) : ((g : Int) == 18446744073709551615) = false := by
  rw [beq_eq_false_iff_ne]; unfold M64 at *; omega
theorem nx_wrap (g : Nat) (h : g < M64) (hn : ¬ g + 1 = M64) : IntKind.u64.wrap ((g : Int) + 1) = ((g + 1 : Nat) : Int) := by
  rw [IntWalk.u64_in _ (by unfold M64 at *; omega)]; omega
theorem nx_test1 (g : Nat) (h : g + 1 = M64) : ((g : Int) == 18446744073709551615) = true := by
  rw [beq_iff_eq]; unfold M64 at *; omega
theorem nx_wrap1 (g : Nat) (h : g + 1 = M64) : IntKind.u64.wrap ((g : Int) + 1) = 0 := by
  rw [IntKind.wrap_u64]; unfold M64 at *; omega
/-- two blocks of a call's own -/
theorem two_new (w : World) (cs ds : Array Value) (t u : TypeId) : ((w.alloc (.cells cs t)).alloc (.cells ds u)).heap[w.heap.size]? = some (.cells cs t (0, 0)) ∧ ((w.alloc (.cells cs t)).alloc (.cells ds u)).heap[w.heap.size + 1]? = some (.cells ds u (0, 0)) ∧ Below w.heap.size w ((w.alloc (.cells cs t)).alloc (.cells ds u)) := by
  have h1 := Kq.blk_new (w.alloc (.cells cs t)) ds u (0, 0)
  rw [World.size_alloc] at h1
  refine ⟨?_, h1, (Kq.below_alloc w _).trans ((Kq.below_alloc _ _).mono (Kq.below_alloc w _).size)⟩
  rw [Below.heap_alloc _ _ _ (by simp)]
  exact Kq.blk_new _ _ _ _
set_option maxRecDepth 100000 in
set_option maxHeartbeats 1000000 in
theorem hd_next (g : Nat) (sg : Int) (w : World) (h : g < M64) :
    Calls Tryz.prog 47 #[.agg #[.int .u64 (g : Int), .int .i64 sg]] w fun x w' => x = .returned (.tuple #[.agg #[.int .u64 ((nxG g : Nat) : Int), .int .i64 (nxS g sg)], .int .i64 (nxE g)]) ∧ Below w.heap.size w w' := by
  by_cases hn : g + 1 = M64
  · have HR : Hid (nxG g = 0 ∧ nxS g sg = 0 ∧ nxE g = 12) := Lib.hid ⟨if_pos hn, if_pos hn, if_pos hn⟩
    have t0 := nx_test1 g hn
    rw [HR.out.1, HR.out.2.1, HR.out.2.2]
    clear hn h
    go_enter Tryz.func47, Tryz.ntmps47
    go_wp2
    refine bodyPost_ret (v := .tuple #[.agg #[.int .u64 0, .int .i64 0], .int .i64 12]) (by simp [results, Tryz.results47, go_sem]) rfl ?_
    exact ⟨rfl, (two_new w _ _ _ _).2.2⟩
  · have t0 := nx_test g h hn
    have tw := nx_wrap g h hn
    by_cases hs : sg = 0
    · have HR : Hid (nxG g = g + 1 ∧ nxS g sg = 1 ∧ nxE g = 0) := Lib.hid ⟨if_neg hn, by unfold nxS; rw [if_neg hn, if_pos hs], if_neg hn⟩
      rw [HR.out.1, HR.out.2.1, HR.out.2.2]
      subst hs
      clear hn h HR
      generalize ((g + 1 : Nat) : Int) = g1 at *
      go_enter Tryz.func47, Tryz.ntmps47
      go_wp2
      refine bodyPost_ret (v := .tuple #[.agg #[.int .u64 g1, .int .i64 1], .int .i64 0]) (by simp [results, Tryz.results47, go_sem]) rfl ?_
      exact ⟨rfl, (two_new w _ _ _ _).2.2.trans ((Kq.below_alloc _ _).mono (two_new w _ _ _ _).2.2.size)⟩
    · have HR : Hid (nxG g = g + 1 ∧ nxS g sg = 0 ∧ nxE g = 0) := Lib.hid ⟨if_neg hn, by unfold nxS; rw [if_neg hn, if_neg hs], if_neg hn⟩
      rw [HR.out.1, HR.out.2.1, HR.out.2.2]
      have ts : (sg == 0) = false := by simpa using hs
      clear hn h HR hs
      generalize ((g + 1 : Nat) : Int) = g1 at *
      go_enter Tryz.func47, Tryz.ntmps47
      go_wp2
      refine bodyPost_ret (v := .tuple #[.agg #[.int .u64 g1, .int .i64 0], .int .i64 0]) (by simp [results, Tryz.results47, go_sem]) rfl ?_
      exact ⟨rfl, (two_new w _ _ _ _).2.2.trans ((Kq.below_alloc _ _).mono (two_new w _ _ _ _).2.2.size)⟩
set_option maxRecDepth 100000 in
set_option maxHeartbeats 1000000 in
theorem rf_next (g : Nat) (sg : Int) (w : World) (h : g < M64) :
    Calls Tryz.prog 59 #[.agg #[.int .u64 (g : Int), .int .i64 sg]] w fun x w' => x = .returned (.tuple #[.agg #[.int .u64 ((nxG g : Nat) : Int), .int .i64 (nxS g sg)], .int .i64 (nxE g)]) ∧ Below w.heap.size w w' := by
  by_cases hn : g + 1 = M64
  · have HR : Hid (nxG g = 0 ∧ nxS g sg = 0 ∧ nxE g = 12) := Lib.hid ⟨if_pos hn, if_pos hn, if_pos hn⟩
    have tw := nx_wrap1 g hn
    rw [HR.out.1, HR.out.2.1, HR.out.2.2]
    clear hn h
    go_enter Tryz.func59, Tryz.ntmps59
    go_wp2
    refine bodyPost_ret (v := .tuple #[.agg #[.int .u64 0, .int .i64 0], .int .i64 12]) (by simp [results, Tryz.results59, go_sem]) rfl ?_
    exact ⟨rfl, (two_new w _ _ _ _).2.2⟩
  · have tw := nx_wrap g h hn
    have tz : (((g + 1 : Nat) : Int) == 0) = false := by simp; omega
    by_cases hs : sg = 0
    · have HR : Hid (nxG g = g + 1 ∧ nxS g sg = 1 ∧ nxE g = 0) := Lib.hid ⟨if_neg hn, by unfold nxS; rw [if_neg hn, if_pos hs], if_neg hn⟩
      rw [HR.out.1, HR.out.2.1, HR.out.2.2]
      subst hs
      clear hn h HR
      generalize ((g + 1 : Nat) : Int) = g1 at *
      go_enter Tryz.func59, Tryz.ntmps59
      go_wp2
      refine bodyPost_ret (v := .tuple #[.agg #[.int .u64 g1, .int .i64 1], .int .i64 0]) (by simp [results, Tryz.results59, go_sem]) rfl ?_
      exact ⟨rfl, (two_new w _ _ _ _).2.2⟩
    · have HR : Hid (nxG g = g + 1 ∧ nxS g sg = 0 ∧ nxE g = 0) := Lib.hid ⟨if_neg hn, by unfold nxS; rw [if_neg hn, if_neg hs], if_neg hn⟩
      rw [HR.out.1, HR.out.2.1, HR.out.2.2]
      have ts : (sg == 0) = false := by simpa using hs
      clear hn h HR hs
      generalize ((g + 1 : Nat) : Int) = g1 at *
      go_enter Tryz.func59, Tryz.ntmps59
      go_wp2
      refine bodyPost_ret (v := .tuple #[.agg #[.int .u64 g1, .int .i64 0], .int .i64 0]) (by simp [results, Tryz.results59, go_sem]) rfl ?_
      exact ⟨rfl, (two_new w _ _ _ _).2.2⟩
end Go.Proofs.YtbpgfhcecanikaaGreat
namespace Go.Proofs.YtbpgfhcecanikaaGreat
open Go.RowKit
set_option linter.unusedVariables false
def fewW (a b : Int) (l : List ActW) : Prop := 64 ≤ a ∧ a ≤ 128 ∧ 1 ≤ b ∧ b ≤ 40 ∧ l.length ≤ 40 ∧ ∀ j (hj : j < l.length), l[j].s.size ≤ 5000 ∧ l[j].l.length ≤ 100 ∧ l[j].t.length ≤ 100
set_option maxRecDepth 100000 in
set_option maxHeartbeats 1000000 in
theorem few_early (a b : Int) (A : Option Addr) (cap : Nat) (l : List ActW) (w : World) (hf : ¬ (64 ≤ a ∧ a ≤ 128 ∧ 1 ≤ b ∧ b ≤ 40 ∧ l.length ≤ 40)) :
    Calls Tryz.prog 8 #[.int .i64 a, .int .i64 b, .slice A l.length cap] w fun x w' => x = .returned (.bool false) ∧ w = w' := by
  by_cases h1 : a < 64
  · have d1 : decide (a < 64) = true := decide_eq_true h1
    clear hf
    go_enter Tryz.func8, Tryz.ntmps8
    go_wp2
    go_ret
    exact ⟨rfl, rfl⟩
  · have d1 : decide (a < 64) = false := decide_eq_false h1
    by_cases h2 : 128 < a
    · have d2 : decide (128 < a) = true := decide_eq_true h2
      clear hf h1
      go_enter Tryz.func8, Tryz.ntmps8
      go_wp2
      go_ret
      exact ⟨rfl, rfl⟩
    · have d2 : decide (128 < a) = false := decide_eq_false h2
      by_cases h3 : b < 1
      · have d3 : decide (b < 1) = true := decide_eq_true h3
        clear hf h1 h2
        go_enter Tryz.func8, Tryz.ntmps8
        go_wp2
        go_ret
        exact ⟨rfl, rfl⟩
      · have d3 : decide (b < 1) = false := decide_eq_false h3
        by_cases h4 : 40 < b
        · have d4 : decide (40 < b) = true := decide_eq_true h4
          clear hf h1 h2 h3
          go_enter Tryz.func8, Tryz.ntmps8
          go_wp2
          go_ret
          exact ⟨rfl, rfl⟩
        · have d4 : decide (40 < b) = false := decide_eq_false h4
          have h5 : 40 < l.length := by omega
          have d5 : decide ((40 : Int) < (l.length : Int)) = true := decide_eq_true (by omega)
          have d5' : decide (40 < l.length) = true := decide_eq_true h5
          clear hf h1 h2 h3 h4 h5
          go_enter Tryz.func8, Tryz.ntmps8
          go_wp2
          go_ret
          exact ⟨rfl, rfl⟩
set_option maxRecDepth 100000 in
set_option maxHeartbeats 2000000 in
theorem few_loop (a b : Int) (A : Option Addr) (cap : Nat) (l : List ActW) (w : World) (hc : ActsAtW w A l) (hf : 64 ≤ a ∧ a ≤ 128 ∧ 1 ≤ b ∧ b ≤ 40 ∧ l.length ≤ 40) (r : Bool) (hr : r = true ↔ fewW a b l) :
    Calls Tryz.prog 8 #[.int .i64 a, .int .i64 b, .slice A l.length cap] w fun x w' => x = .returned (.bool r) ∧ w = w' := by
  have HR := Lib.hid hr
  clear hr
  obtain ⟨h1, h2, h3, h4, h5⟩ := hf
  have HF : Hid ((∀ j (hj : j < l.length), l[j].s.size ≤ 5000 ∧ l[j].l.length ≤ 100 ∧ l[j].t.length ≤ 100) ↔ fewW a b l) := Lib.hid ⟨fun h => ⟨h1, h2, h3, h4, h5, h⟩, fun h => h.2.2.2.2.2⟩
  have d1 : decide (a < 64) = false := decide_eq_false (by omega)
  have d2 : decide (128 < a) = false := decide_eq_false (by omega)
  have d3 : decide (b < 1) = false := decide_eq_false (by omega)
  have d4 : decide (40 < b) = false := decide_eq_false (by omega)
  have d5 : decide ((40 : Int) < (l.length : Int)) = false := decide_eq_false (by omega)
  have d5' : decide (40 < l.length) = false := decide_eq_false (by omega)
  have HC := Lib.hid hc
  clear hc h1 h2 h3 h4
  go_enter Tryz.func8, Tryz.ntmps8
  go_wp2
  go_loop [7] (fun i => ∃ j : Nat, j ≤ l.length ∧ i = .int .i64 (j : Int) ∧ ∀ i (hi : i < l.length), i < j → l[i].s.size ≤ 5000 ∧ l[i].l.length ≤ 100 ∧ l[i].t.length ≤ 100) (fun i => l.length - (intOf i).toNat)
  case atStart => exact ⟨0, by omega, rfl, fun i hi h => absurd h (Nat.not_lt_zero _)⟩
  case round =>
    obtain ⟨j, hj, rfl, hup⟩ := hrel
    have HUP := Lib.hid hup
    clear hup
    by_cases hlt : j < l.length
    · obtain ⟨g, o, rfl, hg, hact⟩ := HC.out j hlt
      have c2 := hact.c2
      have c3 := hact.c3
      have c4 := hact.c4
      obtain ⟨c, hcc⟩ : ∃ c, c = l[j] := ⟨_, rfl⟩
      rw [← hcc] at c2 c3 c4
      have HCC := Lib.hid hcc
      have HNO : Hid (¬ (c.s.size ≤ 5000 ∧ c.l.length ≤ 100 ∧ c.t.length ≤ 100) → ¬ fewW a b l) := Lib.hid (fun hn hw => hn (by have := HF.out.2 hw j hlt; rw [← hcc] at this; exact this))
      clear hact hg hcc
      by_cases hs : 5000 < c.s.size
      · have t0 : decide ((5000 : Int) < (c.s.size : Int)) = true := decide_eq_true (by omega)
        have t1 : decide (5000 < c.s.size) = true := decide_eq_true hs
        have HN := Lib.hid (HNO.out (by omega))
        clear hs
        go_wp2
        go_ret
        exact ⟨by rw [show r = false from by cases r with | false => rfl | true => exact absurd (HR.out.1 rfl) HN.out]; rfl, rfl⟩
      · have t0 : decide ((5000 : Int) < (c.s.size : Int)) = false := decide_eq_false (by omega)
        have t1 : decide (5000 < c.s.size) = false := decide_eq_false hs
        by_cases hll : 100 < c.l.length
        · have t2 : decide ((100 : Int) < (c.l.length : Int)) = true := decide_eq_true (by omega)
          have t3 : decide (100 < c.l.length) = true := decide_eq_true hll
          have HN := Lib.hid (HNO.out (by omega))
          clear hs hll
          go_wp2
          go_ret
          exact ⟨by rw [show r = false from by cases r with | false => rfl | true => exact absurd (HR.out.1 rfl) HN.out]; rfl, rfl⟩
        · have t2 : decide ((100 : Int) < (c.l.length : Int)) = false := decide_eq_false (by omega)
          have t3 : decide (100 < c.l.length) = false := decide_eq_false hll
          by_cases htl : 100 < c.t.length
          · have t4 : decide ((100 : Int) < (c.t.length : Int)) = true := decide_eq_true (by omega)
            have t5 : decide (100 < c.t.length) = true := decide_eq_true htl
            have HN := Lib.hid (HNO.out (by omega))
            clear hs hll htl
            go_wp2
            go_ret
            exact ⟨by rw [show r = false from by cases r with | false => rfl | true => exact absurd (HR.out.1 rfl) HN.out]; rfl, rfl⟩
          · have t4 : decide ((100 : Int) < (c.t.length : Int)) = false := decide_eq_false (by omega)
            have t5 : decide (100 < c.t.length) = false := decide_eq_false htl
            have HS := Lib.hid (And.intro (Nat.not_lt.1 hs) (And.intro (Nat.not_lt.1 hll) (Nat.not_lt.1 htl)))
            clear hs hll htl
            go_wp2
            go_round
            case rel =>
              refine ⟨j + 1, by omega, by go_num, fun i hi h => ?_⟩
              rcases Nat.lt_or_ge i j with h' | h'
              · exact HUP.out i hi h'
              · have : i = j := by omega
                subst this
                rw [← HCC.out]
                exact HS.out
            case measure => simp [intOf]; omega
    · have HY : Hid (fewW a b l) := Lib.hid (HF.out.1 (fun i hi => HUP.out i hi (by omega)))
      go_wp2
      go_ret
      exact ⟨by rw [HR.out.2 HY.out]; rfl, rfl⟩
theorem lw_few (a b : Int) (A : Option Addr) (cap : Nat) (l : List ActW) (w : World) (hc : ActsAtW w A l) (r : Bool) (hr : r = true ↔ fewW a b l) :
    Calls Tryz.prog 8 #[.int .i64 a, .int .i64 b, .slice A l.length cap] w fun x w' => x = .returned (.bool r) ∧ w = w' := by
  by_cases hf : 64 ≤ a ∧ a ≤ 128 ∧ 1 ≤ b ∧ b ≤ 40 ∧ l.length ≤ 40
  · exact few_loop a b A cap l w hc hf r hr
  · have e : r = false := by
      cases r with
      | false => rfl
      | true => exact absurd (hr.1 rfl) (fun h => hf ⟨h.1, h.2.1, h.2.2.1, h.2.2.2.1, h.2.2.2.2.1⟩)
    rw [e]
    exact few_early a b A cap l w hf
end Go.Proofs.YtbpgfhcecanikaaGreat
namespace Go.Proofs.YtbpgfhcecanikaaGreat
open Go.RowKit
set_option linter.unusedVariables false
set_option maxRecDepth 100000 in
theorem wl_broken {w : World} {base B S a b R : Nat} {buf : Value} {ws : List (Int × ByteArray)} {ar : Nat} {st : List Nat} {v : WalV} (h : WlS w base B S a b R buf ws ar st v) :
    Calls Tryz.prog 13 #[.pointer (some ⟨R, 0, none⟩)] w fun x w' => x = .returned (.bool v.broken) ∧ w = w' := by
  have c := h.c7
  clear h
  go_enter Tryz.func13, Tryz.ntmps13
  go_wp2
  go_ret
  exact ⟨rfl, rfl⟩
set_option maxRecDepth 100000 in
theorem wl_ready {w : World} {base B S a b R : Nat} {buf : Value} {ws : List (Int × ByteArray)} {ar : Nat} {st : List Nat} {v : WalV} (h : WlS w base B S a b R buf ws ar st v) :
    Calls Tryz.prog 14 #[.pointer (some ⟨R, 0, none⟩)] w fun x w' => x = .returned (.bool v.ready) ∧ w = w' := by
  have c := h.c6
  clear h
  go_enter Tryz.func14, Tryz.ntmps14
  go_wp2
  go_ret
  exact ⟨rfl, rfl⟩
set_option maxRecDepth 100000 in
theorem wl_gen {w : World} {base B S a b R : Nat} {buf : Value} {ws : List (Int × ByteArray)} {ar : Nat} {st : List Nat} {v : WalV} (h : WlS w base B S a b R buf ws ar st v) :
    Calls Tryz.prog 15 #[.pointer (some ⟨R, 0, none⟩)] w fun x w' => x = .returned (.int .u64 v.g) ∧ w = w' := by
  have c := h.c1
  clear h
  go_enter Tryz.func15, Tryz.ntmps15
  go_wp2
  go_ret
  exact ⟨rfl, rfl⟩
set_option maxRecDepth 100000 in
theorem wl_used {w : World} {base B S a b R : Nat} {buf : Value} {ws : List (Int × ByteArray)} {ar : Nat} {st : List Nat} {v : WalV} (h : WlS w base B S a b R buf ws ar st v) :
    Calls Tryz.prog 16 #[.pointer (some ⟨R, 0, none⟩)] w fun x w' => x = .returned (.int .i64 v.used) ∧ w = w' := by
  have c := h.c4
  clear h
  go_enter Tryz.func16, Tryz.ntmps16
  go_wp2
  go_ret
  exact ⟨rfl, rfl⟩
def fitB (a b used : Nat) (n : Int) : Bool := decide (0 < frParts (a : Int) n ∧ (used : Int) + frParts (a : Int) n ≤ (segN b : Int))
theorem nParts_leW (a b : Nat) (ha : 64 ≤ a) (hb : b ≤ 4096) : 1 ≤ nParts a b ∧ nParts a b ≤ 106 := by
  have hd : (b + (a - 25) - 1) / (a - 25) ≤ 106 := by
    apply Nat.le_of_lt_succ
    apply Nat.div_lt_of_lt_mul
    omega
  unfold nParts
  omega
theorem frParts_le (a : Nat) (n : Int) (ha : 64 ≤ a) : 0 ≤ frParts (a : Int) n ∧ frParts (a : Int) n ≤ 106 := by
  unfold frParts
  split
  · rename_i h
    have h1 : (a : Int) ≤ 512 := h.1.2
    have := nParts_leW a n.toNat ha (by omega)
    rw [Int.toNat_natCast]
    omega
  · omega
set_option maxRecDepth 100000 in
set_option maxHeartbeats 2000000 in
theorem wl_fits {w : World} {base B S a b R : Nat} {buf : Value} {ws : List (Int × ByteArray)} {ar : Nat} {st : List Nat} {v : WalV} (h : WlS w base B S a b R buf ws ar st v) (ha : 64 ≤ a) (hb : 4 ≤ b) (hb2 : b ≤ 5000) (hu : v.used ≤ 3000) (n : Int) :
    Calls Tryz.prog 19 #[.pointer (some ⟨R, 0, none⟩), .int .i64 n] w fun x w' => x = .returned (.bool (fitB a b v.used n)) ∧ Below w.heap.size w w' := by
  have H := Lib.hid (And.intro h (And.intro hb hb2))
  have c0 := h.c0
  have d0 := h.d.d.c0
  have d1 := h.d.d.c1
  have hpl := frParts_le a n ha
  have HF : Hid (fitB a b v.used n = decide (0 < frParts (a : Int) n ∧ (v.used : Int) + frParts (a : Int) n ≤ (segN b : Int))) := Lib.hid rfl
  clear h hb hb2 ha
  go_enter Tryz.func19, Tryz.ntmps19
  go_wp2_with fail
  refine (dk_size (a : Int) (b : Int) w).mono ?_
  rintro x w1 ⟨rfl, hb1⟩
  have H1 := Lib.hid (And.intro (H.out.1.below hb1) hb1)
  clear hb1 c0 d0 d1
  go_wp2_with fail
  refine (fr_parts (a : Int) n w1).mono ?_
  rintro x w2 ⟨rfl, rfl⟩
  generalize frParts (a : Int) n = m at *
  by_cases hm : 0 < m
  · have dm : decide (0 < m) = true := decide_eq_true hm
    obtain ⟨m, rfl⟩ := Int.eq_ofNat_of_zero_le hpl.1
    obtain ⟨u, hu1⟩ : ∃ u, u = v.used + m := ⟨_, rfl⟩
    have hw : IntKind.i64.wrap ((v.used : Int) + (m : Int)) = (u : Int) := by rw [IntWalk.i64_in _ (by omega)]; omega
    have HU := Lib.hid (And.intro hu1 hm)
    have hmn : 0 < m := by omega
    have hmd : decide (0 < m) = true := decide_eq_true hmn
    have HD : Hid (w1.drew.cell? ⟨R, 4, none⟩ = some (.int .i64 v.used) ∧ WlS w1.drew base B S a b R buf ws ar st v ∧ Below w.heap.size w w1.drew) := Lib.hid ⟨H1.out.1.c4, H1.out.1.drew, H1.out.2.drew⟩
    clear hu1 hm hpl
    go_wp2_with fail
    refine wp_region_held_drew (S := fun w' => w'.cell? ⟨R, 4, none⟩ = some (.int .i64 v.used)) (by kernel_rfl) HD.out.1 (fun hS0 => ?_)
    generalize w1.drew = wd at *
    refine wpAnyH_take (i := 0) (v := ?_) rfl (by kernel_rfl) (by kernel_rfl) (by kernel_rfl) (fun _ _ _ h => h) (Or.inl ⟨by kernel_rfl, ?_⟩) (by assumption) ?_
    rotate_left
    · intro w hSw; (try dsimp only at hSw); go_simp; (try with_reducible rfl)
    refine wpAnyH_take (i := 1) (v := ?_) rfl (by kernel_rfl) (by kernel_rfl) (by kernel_rfl) (fun _ _ _ h => h) (Or.inl ⟨by kernel_rfl, ?_⟩) (by assumption) ?_
    rotate_left
    · intro w hSw; (try dsimp only at hSw); go_simp; (try with_reducible rfl)
    refine wpAnyH_take (i := 2) (v := ?_) rfl (by kernel_rfl) (by kernel_rfl) (by kernel_rfl) (fun _ _ _ h => h) (Or.inl ⟨by kernel_rfl, ?_⟩) (by assumption) ?_
    rotate_left
    · intro w hSw; (try dsimp only at hSw); go_simp; (try with_reducible rfl)
    refine wpAnyH_take (i := 3) (v := ?_) rfl (by kernel_rfl) (by kernel_rfl) (by kernel_rfl) (fun _ _ _ h => h) (Or.inl ⟨by kernel_rfl, ?_⟩) (by assumption) ?_
    rotate_left
    · intro w hSw; (try dsimp only at hSw); go_simp; (try with_reducible rfl)
    refine wpAnyH_take (i := 4) (v := ?_) rfl (by kernel_rfl) (by kernel_rfl) (by kernel_rfl) (fun _ _ _ h => h) (Or.inl ⟨by kernel_rfl, ?_⟩) (by assumption) ?_
    rotate_left
    · intro w hSw; (try dsimp only at hSw); go_simp; (try with_reducible rfl)
    refine wpAnyH_take (i := 5) (v := ?_) rfl (by kernel_rfl) (by kernel_rfl) (by kernel_rfl) (fun _ _ _ h => h) (Or.inl ⟨by kernel_rfl, ?_⟩) (by assumption) ?_
    rotate_left
    · intro w hSw; (try dsimp only at hSw); go_simp; (try with_reducible rfl)
    refine wpAnyH_take (i := 7) (v := ?_) rfl (by kernel_rfl) (by kernel_rfl) (by kernel_rfl) (fun _ _ _ h => h) (Or.inl ⟨by kernel_rfl, ?_⟩) (by assumption) ?_
    rotate_left
    · intro w hSw; (try dsimp only at hSw); go_simp; (try with_reducible rfl)
    refine wpAnyH_take (i := 9) (v := ?_) rfl (by kernel_rfl) (by kernel_rfl) (by kernel_rfl) (fun _ _ _ h => h) (Or.inl ⟨by kernel_rfl, ?_⟩) (by assumption) ?_
    rotate_left
    · intro w hSw; (try dsimp only at hSw); go_simp; (try with_reducible rfl)
    refine wpAnyH_take (i := 6) (v := ?_) rfl (by kernel_rfl) (by kernel_rfl) (by kernel_rfl) (fun _ _ _ h => h) (Or.inl ⟨by kernel_rfl, ?_⟩) (by assumption) ?_
    rotate_left
    · intro w hSw; (try dsimp only at hSw); go_simp; (try with_reducible rfl)
    refine wpAnyH_take (i := 8) (v := ?_) rfl (by kernel_rfl) (by kernel_rfl) (by kernel_rfl) (fun _ _ _ h => h) (Or.inl ⟨by kernel_rfl, ?_⟩) (by assumption) ?_
    rotate_left
    · intro w hSw; (try dsimp only at hSw); go_simp; (try with_reducible rfl)
    refine wpAnyH_ready (rs := [10]) (by kernel_rfl) (by simp) ?_
    refine AllReadyH.cons rfl (fun K hK => ?_) AllReadyH.nil
    go_simp
    refine (wl_segment HD.out.2.1 H.out.2.1 (by have := H.out.2.2; omega)).mono ?_
    rintro x w3 ⟨rfl, hb3⟩
    have HD3 : Hid (w3.cell? ⟨R, 4, none⟩ = some (.int .i64 v.used) ∧ Below w.heap.size w w3) := Lib.hid ⟨(HD.out.2.1.below hb3).c4, HD.out.2.2.trans (hb3.mono HD.out.2.2.size)⟩
    clear hS0 hb3 HD
    refine hK.out _ _ HD3.out.1 (fun hS0 => ?_)
    clear hK K
    obtain ⟨sg, hsg⟩ : ∃ s, s = segN b := ⟨_, rfl⟩
    rw [← hsg] at HF ⊢
    clear hsg
    refine wpAnyH_take (i := 11) (v := ?_) rfl (by kernel_rfl) (by kernel_rfl) (by kernel_rfl) (fun _ _ _ h => h) (Or.inl ⟨by kernel_rfl, ?_⟩) (by assumption) ?_
    rotate_left
    · intro w hSw; (try dsimp only at hSw); go_simp; (try with_reducible rfl)
    refine wpAnyH_take (i := 12) (v := ?_) rfl (by kernel_rfl) (by kernel_rfl) (by kernel_rfl) (fun _ _ _ h => h) (Or.inl ⟨by kernel_rfl, ?_⟩) (by assumption) ?_
    rotate_left
    · intro w hSw; (try dsimp only at hSw); go_simp; (try with_reducible rfl)
    refine wpAnyH_take (i := 13) (v := ?_) rfl (by kernel_rfl) (by kernel_rfl) (by kernel_rfl) (fun _ _ _ h => h) (Or.inl ⟨by kernel_rfl, ?_⟩) (by assumption) ?_
    rotate_left
    · intro w hSw; (try dsimp only at hSw); go_simp; (try with_reducible rfl)
    refine wpAnyH_done (by kernel_rfl) ?_ _
    clear hS0
    have HR : Hid (fitB a b v.used n = decide ((u : Int) ≤ (sg : Int))) := Lib.hid (by
      rw [HF.out, decide_eq_decide]; have := HU.out; omega)
    go_simp
    go_wp2
    go_ret
    exact ⟨by rw [HR.out, show decide ((u : Int) ≤ (sg : Int)) = decide (u ≤ sg) from by rw [decide_eq_decide]; omega]; rfl, HD3.out.2⟩
  · have dm : decide (0 < m) = false := decide_eq_false hm
    have HR : Hid (fitB a b v.used n = false) := Lib.hid (by rw [HF.out]; exact decide_eq_false (fun h => hm h.1))
    clear hpl
    go_wp2_with fail
    go_quiet (fail)
    generalize hwq : w1.drewN nq = wq
    have HQ : Hid (Below w.heap.size w wq) := Lib.hid (by rw [← hwq]; exact below_drewN H1.out.2 nq)
    clear hwq
    go_wp2
    go_ret
    exact ⟨by rw [HR.out]; rfl, HQ.out⟩
end Go.Proofs.YtbpgfhcecanikaaGreat
