/- Package script's PutConfig. Condition: heights and sequences are numbers. -/
import Derived.WalkSpells
import Derived.Outline
import Derived.Test.YtjilbcefikbihaaScPairQ
import Derived.Test.YtjilbcefikbihaaScFiQ
import Derived.Test.YtjilbcefikbihaaScEnQ
namespace Go.Proofs.Ytjilbcefikbihaa
open Go.RowKit
set_option linter.unusedVariables false
/-- a configuration as a value -/
structure CoV where
  sec : Int
  secs : Int
  tb : Int
  bt : Int
  sc : Int
  h0 : Int
  h1 : Int
  s0 : Int
  s1 : Int
def CoV.wf (c : CoV) : Prop := (0 ≤ c.h0 ∧ c.h0 < 18446744073709551616) ∧ (0 ≤ c.h1 ∧ c.h1 < 18446744073709551616) ∧ (0 ≤ c.s0 ∧ c.s0 < 18446744073709551616) ∧ (0 ≤ c.s1 ∧ c.s1 < 18446744073709551616)
def CoV.ok (c : CoV) : Prop := (((((0 ≤ c.tb ∧ c.tb ≤ 255)) ∧ (0 ≤ c.bt ∧ c.bt ≤ 255)) ∧ (0 ≤ c.sc ∧ c.sc ≤ 255)) ∧ (0 ≤ c.sec ∧ c.sec ≤ 65535)) ∧ (0 ≤ c.secs ∧ c.secs ≤ 65535)
def CoV.pre (c : CoV) : List Nat := [c.tb.toNat] ++ [c.bt.toNat] ++ [c.sc.toNat] ++ hi2 c.sec.toNat ++ hi2 c.secs.toNat
def num2 (a b : Int) : Nat → List Nat
  | 0 => []
  | 1 => num8 a.toNat
  | _ => num8 a.toNat ++ num8 b.toNat
def CoV.enc (c : CoV) : List Nat := c.pre ++ num2 c.h0 c.h1 2 ++ num2 c.s0 c.s1 2
/-- a writer of the call's own, beside a box -/
structure PcW (w wr : World) (B C : Nat) (cs : Array Value) (T : TypeId) (ok : Prop) (add : List Nat) (n : Nat) : Prop where
  it : ∃ e v l, Wr wr B B e v l ∧ l.length ≤ n ∧ (ok → e = 0 ∧ l = add) ∧ (¬ ok → e = 1)
  cfg : wr.heap[C]? = some (.cells cs T (0, 0))
  bel : Below w.heap.size w wr
theorem PcW.step {w wr w' : World} {B C : Nat} {cs : Array Value} {T : TypeId} {ok ok2 : Prop} {add add2 : List Nat} {n n2 : Nat} {e : Int} {v : Value} {l : List Nat} {x : Ending} (h : PcW w wr B C cs T ok add n) (hB : C < B ∧ w.heap.size ≤ C) (W : Wr wr B B e v l) (hn : l.length ≤ n) (h1 : ok → e = 0 ∧ l = add) (h2 : ¬ ok → e = 1) (hp : WrStep wr B B v e l ok2 add2 n2 x w') :
    x = .returned (.tuple #[]) ∧ PcW w w' B C cs T (ok ∧ ok2) (add ++ add2) (n + n2) := by
  obtain ⟨e', l', ⟨rfl, v', g1, g2, g3⟩, g4, g5, g6⟩ := hp
  have hv : ∀ k, v.ownBlock = some k → B ≤ k := fun k hk => own_ge W.own hk
  have kk : Kq.Keeps (fun k => B ≤ k) wr w' := g2.mono (fun k hk h => h.elim (fun h => Nat.le_of_eq h.symm) (fun h => hv k h.symm))
  refine ⟨rfl, ⟨e', v', l', g1, by omega, fun hok => ?_, fun hok => ?_⟩, kk.blk h.cfg (by omega), ((Kq.Keeps.of_below (S := fun k => B ≤ k) h.bel (fun k h1 h2 => absurd h1 (Nat.not_le.2 h2))).trans kk).below (Nat.le_refl _) (fun k hk h => by omega)⟩
  · obtain ⟨rfl, rfl⟩ := h1 hok.1
    obtain ⟨rfl, rfl⟩ := g5 hok.2
    exact ⟨rfl, rfl⟩
  · by_cases c1 : ok
    · rw [g6 (fun c2 => hok ⟨c1, c2⟩), (h1 c1).1]; rfl
    · have k := h2 c1
      by_cases c2 : ok2
      · rw [(g5 c2).1, k]
      · rw [g6 c2, k]; rfl
theorem PcW.as {w wr : World} {B C : Nat} {cs : Array Value} {T : TypeId} {ok ok' : Prop} {add add' : List Nat} {n n' : Nat} (h : PcW w wr B C cs T ok add n) (hok : ok ↔ ok') (ha : ok → add = add') (hn : n ≤ n') : PcW w wr B C cs T ok' add' n' := by
  obtain ⟨⟨e, v, l, W, g1, g2, g3⟩, hc, hb⟩ := h
  exact ⟨⟨e, v, l, W, by omega, fun h => by obtain ⟨a, b⟩ := g2 (hok.2 h); exact ⟨a, b.trans (ha (hok.2 h))⟩, fun h => g3 (fun h2 => h (hok.1 h2))⟩, hc, hb⟩
theorem num2_lt (a b : Int) (k : Nat) : ∀ x ∈ num2 a b k, x < 256 := by
  intro x hx
  match k with
  | 0 => cases hx
  | 1 => exact num8_lt _ x hx
  | k + 2 =>
    rcases List.mem_append.1 (show x ∈ num8 a.toNat ++ num8 b.toNat from hx) with h | h
    · exact num8_lt _ x h
    · exact num8_lt _ x h
theorem CoV.enc_lt (c : CoV) (h : c.ok) : ∀ x ∈ c.enc, x < 256 := by
  obtain ⟨⟨⟨⟨a1, a2⟩, a3⟩, a4⟩, a5⟩ := h
  intro x hx
  unfold CoV.enc CoV.pre at hx
  simp only [List.mem_append, List.mem_singleton] at hx
  rcases hx with ((((((h | h) | h) | h) | h) | h) | h)
  · omega
  · omega
  · omega
  · exact hi2_lt _ (by omega) x h
  · exact hi2_lt _ (by omega) x h
  · exact num2_lt _ _ _ x h
  · exact num2_lt _ _ _ x h
theorem ix20 (a b : Int) (w : World) : (Instr.index 30 (.agg #[.int .u64 a, .int .u64 b]) (.int .i64 0)).run Try.prog w = .ok (.int .u64 a) w := by
  simp [Instr.index, run_underlying Try.underlying30, asIntOf, go_sem, part, isAgg]
theorem ix21 (a b : Int) (w : World) : (Instr.index 30 (.agg #[.int .u64 a, .int .u64 b]) (.int .i64 1)).run Try.prog w = .ok (.int .u64 b) w := by
  simp [Instr.index, run_underlying Try.underlying30, asIntOf, go_sem, part, isAgg]
set_option maxRecDepth 100000 in
set_option maxHeartbeats 4000000 in
theorem sc_putConfig (c : CoV) (hwf : c.wf) (w : World) :
    Calls Try.prog 10 #[.agg #[.int .i64 c.sec, .int .i64 c.secs, .int .i64 c.tb, .int .i64 c.bt, .int .i64 c.sc, .int .u64 c.h0, .int .u64 c.h1, .int .u64 c.s0, .int .u64 c.s1]] w fun x w' => Below w.heap.size w w' ∧ (c.ok → x = .returned (.tuple #[.string (txt c.enc), .int .i64 0])) ∧ (¬ c.ok → x = .returned (.tuple #[.string ⟨#[]⟩, .int .i64 1])) := by
  obtain ⟨C, hC⟩ : ∃ z, z = w.heap.size := ⟨_, rfl⟩
  obtain ⟨B, hB⟩ : ∃ z, z = w.heap.size + 1 := ⟨_, rfl⟩
  obtain ⟨w1, hw1⟩ : ∃ z, z = (w.alloc (.cells #[.int .i64 c.sec, .int .i64 c.secs, .int .i64 c.tb, .int .i64 c.bt, .int .i64 c.sc, .int .u64 c.h0, .int .u64 c.h1, .int .u64 c.s0, .int .u64 c.s1] 32)).alloc (.cells #[.int .i64 0, .slice none 0 0] 78) := ⟨_, rfl⟩
  have HBC : Hid (C < B ∧ w.heap.size ≤ C) := Lib.hid ⟨by omega, by omega⟩
  have H1 : Hid (PcW w w1 B C #[.int .i64 c.sec, .int .i64 c.secs, .int .i64 c.tb, .int .i64 c.bt, .int .i64 c.sc, .int .u64 c.h0, .int .u64 c.h1, .int .u64 c.s0, .int .u64 c.s1] 32 True [] 0) := Lib.hid (by
    have ba := Kq.below_alloc w (.cells #[.int .i64 c.sec, .int .i64 c.secs, .int .i64 c.tb, .int .i64 c.bt, .int .i64 c.sc, .int .u64 c.h0, .int .u64 c.h1, .int .u64 c.s0, .int .u64 c.s1] 32)
    have bb := Kq.below_alloc (w.alloc (.cells #[.int .i64 c.sec, .int .i64 c.secs, .int .i64 c.tb, .int .i64 c.bt, .int .i64 c.sc, .int .u64 c.h0, .int .u64 c.h1, .int .u64 c.s0, .int .u64 c.s1] 32)) (.cells #[.int .i64 0, .slice none 0 0] 78)
    have hn := wr_new (w.alloc (.cells #[.int .i64 c.sec, .int .i64 c.secs, .int .i64 c.tb, .int .i64 c.bt, .int .i64 c.sc, .int .u64 c.h0, .int .u64 c.h1, .int .u64 c.s0, .int .u64 c.s1] 32))
    have hc := Kq.blk_new w #[.int .i64 c.sec, .int .i64 c.secs, .int .i64 c.tb, .int .i64 c.bt, .int .i64 c.sc, .int .u64 c.h0, .int .u64 c.h1, .int .u64 c.s0, .int .u64 c.s1] 32 (0, 0)
    have hc2 := Kq.below_blk bb hc (Kq.blk_lt hc)
    rw [World.size_alloc, ← hB, ← hw1] at hn
    rw [← hw1] at hc2 bb
    exact ⟨⟨0, _, [], hn, Nat.le_refl _, fun _ => ⟨rfl, rfl⟩, fun h => absurd trivial h⟩, by rw [hC]; exact hc2, ba.trans (bb.mono ba.size)⟩)
  have HWF := Lib.hid hwf
  clear hwf
  go_enter Try.func10, Try.ntmps10
  have d0 : w1.cell? ⟨C, 2, none⟩ = some (.int .i64 c.tb) := Kq.blk_cell H1.out.cfg 2
  rw [hw1, hC] at d0
  go_wp2_with fail
  rw [← hw1]
  have hB2 : C + 1 = B := by omega
  rw [← hC, hB2]
  clear hB2
  clear hw1 hC hB d0
  obtain ⟨e, v, l, W, hn, h1, h2⟩ := id H1.out.it
  have HQ := Lib.hid (And.intro W (And.intro hn (And.intro h1 h2)))
  clear h1 h2
  have HC := Lib.hid (wr_byte_step B B e v l c.tb w1 W (by omega))
  clear hn W
  refine HC.out.mono ?_
  intro x w2 hp
  obtain ⟨rfl, hnx⟩ := PcW.step H1.out HBC.out HQ.out.1 HQ.out.2.1 HQ.out.2.2.1 HQ.out.2.2.2 hp
  have H2 := Lib.hid hnx
  clear hp hnx HQ HC H1 e v l
  have d1 : w2.cell? ⟨C, 3, none⟩ = some (.int .i64 c.bt) := Kq.blk_cell H2.out.cfg 3
  go_wp2_with fail
  clear d1
  obtain ⟨e, v, l, W, hn, h1, h2⟩ := id H2.out.it
  have HQ := Lib.hid (And.intro W (And.intro hn (And.intro h1 h2)))
  clear h1 h2
  have HC := Lib.hid (wr_byte_step B B e v l c.bt w2 W (by omega))
  clear hn W
  refine HC.out.mono ?_
  intro x w3 hp
  obtain ⟨rfl, hnx⟩ := PcW.step H2.out HBC.out HQ.out.1 HQ.out.2.1 HQ.out.2.2.1 HQ.out.2.2.2 hp
  have H3 := Lib.hid hnx
  clear hp hnx HQ HC H2 e v l
  have d2 : w3.cell? ⟨C, 4, none⟩ = some (.int .i64 c.sc) := Kq.blk_cell H3.out.cfg 4
  go_wp2_with fail
  clear d2
  obtain ⟨e, v, l, W, hn, h1, h2⟩ := id H3.out.it
  have HQ := Lib.hid (And.intro W (And.intro hn (And.intro h1 h2)))
  clear h1 h2
  have HC := Lib.hid (wr_byte_step B B e v l c.sc w3 W (by omega))
  clear hn W
  refine HC.out.mono ?_
  intro x w4 hp
  obtain ⟨rfl, hnx⟩ := PcW.step H3.out HBC.out HQ.out.1 HQ.out.2.1 HQ.out.2.2.1 HQ.out.2.2.2 hp
  have H4 := Lib.hid hnx
  clear hp hnx HQ HC H3 e v l
  have d3 : w4.cell? ⟨C, 0, none⟩ = some (.int .i64 c.sec) := Kq.blk_cell H4.out.cfg 0
  go_wp2_with fail
  clear d3
  obtain ⟨e, v, l, W, hn, h1, h2⟩ := id H4.out.it
  have HQ := Lib.hid (And.intro W (And.intro hn (And.intro h1 h2)))
  clear h1 h2
  have HC := Lib.hid (sc_putPair B B e v l c.sec w4 W (by omega))
  clear hn W
  refine HC.out.mono ?_
  intro x w5 hp
  obtain ⟨rfl, hnx⟩ := PcW.step H4.out HBC.out HQ.out.1 HQ.out.2.1 HQ.out.2.2.1 HQ.out.2.2.2 hp
  have H5 := Lib.hid hnx
  clear hp hnx HQ HC H4 e v l
  have d4 : w5.cell? ⟨C, 1, none⟩ = some (.int .i64 c.secs) := Kq.blk_cell H5.out.cfg 1
  go_wp2_with fail
  clear d4
  obtain ⟨e, v, l, W, hn, h1, h2⟩ := id H5.out.it
  have HQ := Lib.hid (And.intro W (And.intro hn (And.intro h1 h2)))
  clear h1 h2
  have HC := Lib.hid (sc_putPair B B e v l c.secs w5 W (by omega))
  clear hn W
  refine HC.out.mono ?_
  intro x w6 hp
  obtain ⟨rfl, hnx⟩ := PcW.step H5.out HBC.out HQ.out.1 HQ.out.2.1 HQ.out.2.2.1 HQ.out.2.2.2 hp
  have H6 := Lib.hid hnx
  clear hp hnx HQ HC H5 e v l
  have HA6 : Hid (PcW w w6 B C #[.int .i64 c.sec, .int .i64 c.secs, .int .i64 c.tb, .int .i64 c.bt, .int .i64 c.sc, .int .u64 c.h0, .int .u64 c.h1, .int .u64 c.s0, .int .u64 c.s1] 32 c.ok (c.pre) 20) := Lib.hid (H6.out.as (by unfold CoV.ok; simp only [true_and]) (fun _ => by unfold CoV.pre; simp) (by omega))
  have x0 : w6.cell? ⟨C, 5, none⟩ = some (.int .u64 c.h0) := Kq.blk_cell HA6.out.cfg 5
  have x1 : w6.cell? ⟨C, 6, none⟩ = some (.int .u64 c.h1) := Kq.blk_cell HA6.out.cfg 6
  go_wp2
  clear x0 x1
  go_loopw [26] (fun u wr => ∃ j : Nat, j ≤ 2 ∧ u = .int .i64 (j : Int) ∧ PcW w wr B C #[.int .i64 c.sec, .int .i64 c.secs, .int .i64 c.tb, .int .i64 c.bt, .int .i64 c.sc, .int .u64 c.h0, .int .u64 c.h1, .int .u64 c.s0, .int .u64 c.s1] 32 c.ok (c.pre ++ num2 c.h0 c.h1 j) (20 + 8 * j)) (fun u _ => 2 - (intOf u).toNat)
  case atStart => exact ⟨0, by omega, rfl, HA6.out.as Iff.rfl (fun _ => (List.append_nil _).symm) (by omega)⟩
  case round =>
    obtain ⟨j, hj, rfl, hst⟩ := hrel
    have HS := Lib.hid hst
    clear hst
    by_cases hlt : j < 2
    · have hj01 : j = 0 ∨ j = 1 := by omega
      obtain ⟨e, v, l, W, hn, h1, h2⟩ := id HS.out.it
      have HQ := Lib.hid (And.intro W (And.intro hn (And.intro h1 h2)))
      have HC0 := Lib.hid (wr_num_step B B e v l c.h0 wr W (by have := HWF.out; unfold CoV.wf at this; omega) (by omega))
      have HC1 := Lib.hid (wr_num_step B B e v l c.h1 wr W (by have := HWF.out; unfold CoV.wf at this; omega) (by omega))
      clear h1 h2 hn W hj hlt
      rcases hj01 with rfl | rfl
      · have hix := ix20 c.h0 c.h1
        go_wp2_with fail
        refine HC0.out.mono ?_
        intro x wz hp
        obtain ⟨rfl, hnx⟩ := PcW.step HS.out HBC.out HQ.out.1 HQ.out.2.1 HQ.out.2.2.1 HQ.out.2.2.2 hp
        have HN := Lib.hid hnx
        clear hp hnx
        go_wp2
        go_roundw
        case rel => (first | exact ⟨1, by omega, by go_num, HN.out.as (Iff.intro And.left (fun h => And.intro h trivial)) (fun _ => by show _ ++ [] ++ _ = _ ++ num8 _; rw [List.append_nil]) (by omega)⟩ | ((repeat apply Exists.intro); exact ⟨⟨1, by omega, by go_num, HN.out.as (Iff.intro And.left (fun h => And.intro h trivial)) (fun _ => by show _ ++ [] ++ _ = _ ++ num8 _; rw [List.append_nil]) (by omega)⟩, rfl⟩))
        case measure => simp [intOf]
      · have hix := ix21 c.h0 c.h1
        go_wp2_with fail
        refine HC1.out.mono ?_
        intro x wz hp
        obtain ⟨rfl, hnx⟩ := PcW.step HS.out HBC.out HQ.out.1 HQ.out.2.1 HQ.out.2.2.1 HQ.out.2.2.2 hp
        have HN := Lib.hid hnx
        clear hp hnx
        go_wp2
        go_roundw
        case rel => (first | exact ⟨2, by omega, by go_num, HN.out.as (Iff.intro And.left (fun h => And.intro h trivial)) (fun _ => List.append_assoc _ _ _) (by omega)⟩ | ((repeat apply Exists.intro); exact ⟨⟨2, by omega, by go_num, HN.out.as (Iff.intro And.left (fun h => And.intro h trivial)) (fun _ => List.append_assoc _ _ _) (by omega)⟩, rfl⟩))
        case measure => simp [intOf]
    · obtain rfl : j = 2 := by omega
      clear hj hlt HA6 H6
      obtain ⟨w7, hw7⟩ : ∃ z, z = wr := ⟨_, rfl⟩
      subst hw7
      have H7 := HS
      clear HS
      have HA7 : Hid (PcW w w7 B C #[.int .i64 c.sec, .int .i64 c.secs, .int .i64 c.tb, .int .i64 c.bt, .int .i64 c.sc, .int .u64 c.h0, .int .u64 c.h1, .int .u64 c.s0, .int .u64 c.s1] 32 c.ok (c.pre ++ num2 c.h0 c.h1 2) 40) := Lib.hid (H7.out.as Iff.rfl (fun _ => by rfl) (by omega))
      have x0 : w7.cell? ⟨C, 7, none⟩ = some (.int .u64 c.s0) := Kq.blk_cell HA7.out.cfg 7
      have x1 : w7.cell? ⟨C, 8, none⟩ = some (.int .u64 c.s1) := Kq.blk_cell HA7.out.cfg 8
      go_wp2
      clear x0 x1
      go_loopw [34] (fun u wr => ∃ j : Nat, j ≤ 2 ∧ u = .int .i64 (j : Int) ∧ PcW w wr B C #[.int .i64 c.sec, .int .i64 c.secs, .int .i64 c.tb, .int .i64 c.bt, .int .i64 c.sc, .int .u64 c.h0, .int .u64 c.h1, .int .u64 c.s0, .int .u64 c.s1] 32 c.ok (c.pre ++ num2 c.h0 c.h1 2 ++ num2 c.s0 c.s1 j) (40 + 8 * j)) (fun u _ => 2 - (intOf u).toNat)
      case atStart => exact ⟨0, by omega, rfl, HA7.out.as Iff.rfl (fun _ => (List.append_nil _).symm) (by omega)⟩
      case round =>
        obtain ⟨j, hj, rfl, hst⟩ := hrel
        have HS := Lib.hid hst
        clear hst
        by_cases hlt : j < 2
        · have hj01 : j = 0 ∨ j = 1 := by omega
          obtain ⟨e, v, l, W, hn, h1, h2⟩ := id HS.out.it
          have HQ := Lib.hid (And.intro W (And.intro hn (And.intro h1 h2)))
          have HC0 := Lib.hid (wr_num_step B B e v l c.s0 wr W (by have := HWF.out; unfold CoV.wf at this; omega) (by omega))
          have HC1 := Lib.hid (wr_num_step B B e v l c.s1 wr W (by have := HWF.out; unfold CoV.wf at this; omega) (by omega))
          clear h1 h2 hn W hj hlt
          rcases hj01 with rfl | rfl
          · have hix := ix20 c.s0 c.s1
            go_wp2_with fail
            refine HC0.out.mono ?_
            intro x wz hp
            obtain ⟨rfl, hnx⟩ := PcW.step HS.out HBC.out HQ.out.1 HQ.out.2.1 HQ.out.2.2.1 HQ.out.2.2.2 hp
            have HN := Lib.hid hnx
            clear hp hnx
            go_wp2
            go_roundw
            case rel => (first | exact ⟨1, by omega, by go_num, HN.out.as (Iff.intro And.left (fun h => And.intro h trivial)) (fun _ => by show _ ++ [] ++ _ = _ ++ num8 _; rw [List.append_nil]) (by omega)⟩ | ((repeat apply Exists.intro); exact ⟨⟨1, by omega, by go_num, HN.out.as (Iff.intro And.left (fun h => And.intro h trivial)) (fun _ => by show _ ++ [] ++ _ = _ ++ num8 _; rw [List.append_nil]) (by omega)⟩, rfl⟩))
            case measure => simp [intOf]
          · have hix := ix21 c.s0 c.s1
            go_wp2_with fail
            refine HC1.out.mono ?_
            intro x wz hp
            obtain ⟨rfl, hnx⟩ := PcW.step HS.out HBC.out HQ.out.1 HQ.out.2.1 HQ.out.2.2.1 HQ.out.2.2.2 hp
            have HN := Lib.hid hnx
            clear hp hnx
            go_wp2
            go_roundw
            case rel => (first | exact ⟨2, by omega, by go_num, HN.out.as (Iff.intro And.left (fun h => And.intro h trivial)) (fun _ => List.append_assoc _ _ _) (by omega)⟩ | ((repeat apply Exists.intro); exact ⟨⟨2, by omega, by go_num, HN.out.as (Iff.intro And.left (fun h => And.intro h trivial)) (fun _ => List.append_assoc _ _ _) (by omega)⟩, rfl⟩))
            case measure => simp [intOf]
        · obtain rfl : j = 2 := by omega
          clear hj hlt HA7 H7
          obtain ⟨e, v, l, W, hn, h1, h2⟩ := id HS.out.it
          have HQ := Lib.hid (And.intro W (And.intro h1 h2))
          clear hn
          by_cases hok : c.ok
          · obtain ⟨rfl, rfl⟩ := h1 hok
            have HK := Lib.hid hok
            clear h1 h2 W hok
            go_wp2_with fail
            refine (wr_bytes_ok B B v _ wr HQ.out.1 (CoV.enc_lt c HK.out)).mono ?_
            rintro x w9 ⟨rfl, rfl⟩
            go_wp2
            go_ret2
            exact ⟨HS.out.bel, fun _ => rfl, fun h => absurd HK.out h⟩
          · obtain rfl := h2 hok
            have HK := Lib.hid hok
            clear h1 h2 W hok
            go_wp2_with fail
            refine (wr_bytes_bad B B 1 v l wr HQ.out.1 (by decide)).mono ?_
            rintro x w9 ⟨rfl, rfl⟩
            go_wp2
            go_ret2
            exact ⟨HS.out.bel, fun h => absurd h HK.out, fun _ => rfl⟩
end Go.Proofs.Ytjilbcefikbihaa
