/- Merged: ScRqK, ScriptPutsWalk. carrackref23's Put, whatever the act. Condition: numbers are numbers, texts not too long. ScriptPuts: the walk. No condition. -/
import Derived.Test.YtjilbcefikbihaaScRqAQ
import Derived.Test.YtjilbcefikbihaaScRqBQ
import Derived.Test.YtjilbcefikbihaaScRqCQ
import Derived.Test.YtjilbcefikbihaaScRqDQ
import Derived.Test.YtjilbcefikbihaaScRqEQ
import Derived.Test.YtjilbcefikbihaaScRqFQ
import Derived.Test.YtjilbcefikbihaaScRqGQ
import Derived.Test.YtjilbcefikbihaaScRqHQ
import Derived.Test.YtjilbcefikbihaaScPut2Q
import Derived.WalkSpells
import Derived.Outline
import Derived.ProofKit
import Derived.Test.YtjilbcefikbihaaScOpenQ
import Derived.Test.YtjilbcefikbihaaScFewQ
import Derived.Test.YtjilbcefikbihaaScByQ
import Derived.Test.YtjilbcefikbihaaScRbQ
import Derived.Test.YtjilbcefikbihaaScRpQ
namespace Go.Proofs.Ytjilbcefikbihaa
open Go.RowKit
set_option linter.unusedVariables false
/-- what both tell -/
def PutAns (a : SaV) (x : Ending) : Prop :=
  (¬ (0 ≤ a.k ∧ a.k < 9) → x = .returned (.tuple #[.string ⟨#[]⟩, .int .i64 5])) ∧
  (0 ≤ a.k ∧ a.k < 9 →
    (a ≠ (fmOf a.k.toNat).keep a (zeroK a.k) → x = .returned (.tuple #[.string ⟨#[]⟩, .int .i64 5])) ∧
    (a = (fmOf a.k.toNat).keep a (zeroK a.k) → ¬ (fmOf a.k.toNat).ok a → x = .returned (.tuple #[.string ⟨#[]⟩, .int .i64 1])) ∧
    (a = (fmOf a.k.toNat).keep a (zeroK a.k) → (fmOf a.k.toNat).ok a → x = .returned (.tuple #[.string (txt ([a.k.toNat] ++ (fmOf a.k.toNat).enc a)), .int .i64 0])))
theorem PutAns.same {a : SaV} {x y : Ending} (h : PutAns a x) (g : PutAns a y) : x = y ∧ ∃ (s : ByteArray) (e : Int), x = .returned (.tuple #[.string s, .int .i64 e]) := by
  by_cases hk : 0 ≤ a.k ∧ a.k < 9
  · obtain ⟨h1, h2, h3⟩ := h.2 hk
    obtain ⟨g1, g2, g3⟩ := g.2 hk
    by_cases hq : a = (fmOf a.k.toNat).keep a (zeroK a.k)
    · by_cases ho : (fmOf a.k.toNat).ok a
      · exact ⟨(h3 hq ho).trans (g3 hq ho).symm, _, _, h3 hq ho⟩
      · exact ⟨(h2 hq ho).trans (g2 hq ho).symm, _, _, h2 hq ho⟩
    · exact ⟨(h1 hq).trans (g1 hq).symm, _, _, h1 hq⟩
  · exact ⟨(h.1 hk).trans (g.1 hk).symm, _, _, h.1 hk⟩
theorem sc_ans (a : SaV) (sv : Value) (w : World) (hws : WsAt w sv a.ws) (hsl : ∀ b, sBlk sv = some b → b < w.heap.size) (hwf : a.wf) :
    Calls Try.prog 8 #[.agg #[.int .i64 a.k, .int .i64 a.c, .int .u64 a.t, .string a.d, .int .i64 a.n, .int .i64 a.mk, .int .i64 a.mt, .int .u64 a.mh, .int .i64 a.pf, .int .u64 a.pq, .int .u64 a.pt, .string a.pd, .string a.mp, sv]] w fun x w' => PutAns a x ∧ Below w.heap.size w w' := by
  by_cases hk : 0 ≤ a.k ∧ a.k < 9
  · obtain ⟨n, hn⟩ : ∃ n, n = a.k.toNat := ⟨_, rfl⟩
    have hz : ((n : Nat) : Int) = a.k := by rw [hn]; exact Int.toNat_of_nonneg hk.1
    refine (sc_put a sv n w (by omega) hz.symm hws hsl hwf).mono ?_
    rintro x w' ⟨hb, h⟩
    rw [hz, hn] at h
    exact ⟨⟨fun h2 => absurd hk h2, fun _ => h⟩, hb⟩
  · refine (sc_put_kind a sv w hk).mono ?_
    rintro x w' ⟨rfl, hb⟩
    exact ⟨⟨fun _ => rfl, fun h => absurd h hk⟩, hb⟩
set_option maxRecDepth 100000 in
set_option maxHeartbeats 4000000 in
theorem rq_kind (a : SaV) (sv : Value) (w : World) (hk : ¬ (0 ≤ a.k ∧ a.k < 9)) :
    Calls Try.prog 9 #[.agg #[.int .i64 a.k, .int .i64 a.c, .int .u64 a.t, .string a.d, .int .i64 a.n, .int .i64 a.mk, .int .i64 a.mt, .int .u64 a.mh, .int .i64 a.pf, .int .u64 a.pq, .int .u64 a.pt, .string a.pd, .string a.mp, sv]] w fun x w' => x = .returned (.tuple #[.string ⟨#[]⟩, .int .i64 5]) ∧ Below w.heap.size w w' := by
  have HB : Hid (Below w.heap.size w (w.alloc (.cells #[.int .i64 a.k, .int .i64 a.c, .int .u64 a.t, .string a.d, .int .i64 a.n, .int .i64 a.mk, .int .i64 a.mt, .int .u64 a.mh, .int .i64 a.pf, .int .u64 a.pq, .int .u64 a.pt, .string a.pd, .string a.mp, sv] 29))) := Lib.hid (Kq.below_alloc _ _)
  by_cases h0 : a.k < 0
  · have t0 : decide (a.k < 0) = true := decide_eq_true h0
    clear hk h0
    go_enter Try.func9, Try.ntmps9
    go_wp2
    go_ret2
    exact ⟨rfl, HB.out⟩
  · have t0 : decide (a.k < 0) = false := decide_eq_false h0
    have t1 : decide (8 < a.k) = true := decide_eq_true (by omega)
    clear hk h0
    go_enter Try.func9, Try.ntmps9
    go_wp2
    go_ret2
    exact ⟨rfl, HB.out⟩
theorem rq_6 (a : SaV) (sv : Value) (w : World) (hk : a.k = 6) (hws : WsAt w sv a.ws) (hwf : a.wf) :
    Calls Try.prog 9 #[.agg #[.int .i64 a.k, .int .i64 a.c, .int .u64 a.t, .string a.d, .int .i64 a.n, .int .i64 a.mk, .int .i64 a.mt, .int .u64 a.mh, .int .i64 a.pf, .int .u64 a.pq, .int .u64 a.pt, .string a.pd, .string a.mp, sv]] w fun x w' => Below w.heap.size w w' ∧
      (a ≠ (fmOf 6).keep a (zeroK 6) → x = .returned (.tuple #[.string ⟨#[]⟩, .int .i64 5])) ∧
      (a = (fmOf 6).keep a (zeroK 6) → ¬ (fmOf 6).ok a → x = .returned (.tuple #[.string ⟨#[]⟩, .int .i64 1])) ∧
      (a = (fmOf 6).keep a (zeroK 6) → (fmOf 6).ok a → x = .returned (.tuple #[.string (txt ([6] ++ (fmOf 6).enc a)), .int .i64 0])) := by
  by_cases h0 : 0 ≤ a.mk ∧ a.mk ≤ 255
  case neg => exact rq_6_0 a sv w hk hws hwf h0
  by_cases h1 : 0 ≤ a.mt ∧ a.mt ≤ 255
  case neg => exact rq_6_1 a sv w hk hws hwf h0 h1
  by_cases h2 : 0 ≤ a.pf ∧ a.pf ≤ 255
  case neg => exact rq_6_2 a sv w hk hws hwf h0 h1 h2
  by_cases h3 : a.pd.size ≤ 65535
  case neg => exact rq_6_3 a sv w hk hws hwf h0 h1 h2 h3
  by_cases h4 : a.mp.size ≤ 65535
  case neg => exact rq_6_4 a sv w hk hws hwf h0 h1 h2 h3 h4
  exact rq_6_5 a sv w hk hws hwf h0 h1 h2 h3 h4
theorem rq_0 (a : SaV) (sv : Value) (w : World) (hk : a.k = 0) (hws : WsAt w sv a.ws) (hwf : a.wf) :
    Calls Try.prog 9 #[.agg #[.int .i64 a.k, .int .i64 a.c, .int .u64 a.t, .string a.d, .int .i64 a.n, .int .i64 a.mk, .int .i64 a.mt, .int .u64 a.mh, .int .i64 a.pf, .int .u64 a.pq, .int .u64 a.pt, .string a.pd, .string a.mp, sv]] w fun x w' => Below w.heap.size w w' ∧
      (a ≠ (fmOf 0).keep a (zeroK 0) → x = .returned (.tuple #[.string ⟨#[]⟩, .int .i64 5])) ∧
      (a = (fmOf 0).keep a (zeroK 0) → ¬ (fmOf 0).ok a → x = .returned (.tuple #[.string ⟨#[]⟩, .int .i64 1])) ∧
      (a = (fmOf 0).keep a (zeroK 0) → (fmOf 0).ok a → x = .returned (.tuple #[.string (txt ([0] ++ (fmOf 0).enc a)), .int .i64 0])) := by
  by_cases h0 : 0 ≤ a.c ∧ a.c ≤ 255
  case neg => exact rq_0_0 a sv w hk hws hwf h0
  by_cases h1 : a.d.size ≤ 65535
  case neg => exact rq_0_1 a sv w hk hws hwf h0 h1
  exact rq_0_2 a sv w hk hws hwf h0 h1
theorem rq_ans (a : SaV) (sv : Value) (w : World) (hws : WsAt w sv a.ws) (hwf : a.wf) :
    Calls Try.prog 9 #[.agg #[.int .i64 a.k, .int .i64 a.c, .int .u64 a.t, .string a.d, .int .i64 a.n, .int .i64 a.mk, .int .i64 a.mt, .int .u64 a.mh, .int .i64 a.pf, .int .u64 a.pq, .int .u64 a.pt, .string a.pd, .string a.mp, sv]] w fun x w' => PutAns a x ∧ Below w.heap.size w w' := by
  by_cases hk : 0 ≤ a.k ∧ a.k < 9
  case neg =>
    refine (rq_kind a sv w hk).mono ?_
    rintro x w' ⟨rfl, hb⟩
    exact ⟨⟨fun _ => rfl, fun h => absurd h hk⟩, hb⟩
  have hc : a.k = 0 ∨ a.k = 1 ∨ a.k = 2 ∨ a.k = 3 ∨ a.k = 4 ∨ a.k = 5 ∨ a.k = 6 ∨ a.k = 7 ∨ a.k = 8 := by omega
  rcases hc with h | h | h | h | h | h | h | h | h
  · refine (rq_0 a sv w h hws hwf).mono ?_
    rintro x w' ⟨hb, h2⟩
    refine ⟨⟨fun h3 => absurd hk h3, fun _ => ?_⟩, hb⟩
    rw [h]
    exact h2
  · refine (rq_1 a sv w h hws hwf).mono ?_
    rintro x w' ⟨hb, h2⟩
    refine ⟨⟨fun h3 => absurd hk h3, fun _ => ?_⟩, hb⟩
    rw [h]
    exact h2
  · refine (rq_2 a sv w h hws hwf).mono ?_
    rintro x w' ⟨hb, h2⟩
    refine ⟨⟨fun h3 => absurd hk h3, fun _ => ?_⟩, hb⟩
    rw [h]
    exact h2
  · refine (rq_3 a sv w h hws hwf).mono ?_
    rintro x w' ⟨hb, h2⟩
    refine ⟨⟨fun h3 => absurd hk h3, fun _ => ?_⟩, hb⟩
    rw [h]
    exact h2
  · refine (rq_4 a sv w h hws hwf).mono ?_
    rintro x w' ⟨hb, h2⟩
    refine ⟨⟨fun h3 => absurd hk h3, fun _ => ?_⟩, hb⟩
    rw [h]
    exact h2
  · refine (rq_5 a sv w h hws hwf).mono ?_
    rintro x w' ⟨hb, h2⟩
    refine ⟨⟨fun h3 => absurd hk h3, fun _ => ?_⟩, hb⟩
    rw [h]
    exact h2
  · refine (rq_6 a sv w h hws hwf).mono ?_
    rintro x w' ⟨hb, h2⟩
    refine ⟨⟨fun h3 => absurd hk h3, fun _ => ?_⟩, hb⟩
    rw [h]
    exact h2
  · refine (rq_7 a sv w h hws hwf).mono ?_
    rintro x w' ⟨hb, h2⟩
    refine ⟨⟨fun h3 => absurd hk h3, fun _ => ?_⟩, hb⟩
    rw [h]
    exact h2
  · refine (rq_8 a sv w h hws hwf).mono ?_
    rintro x w' ⟨hb, h2⟩
    refine ⟨⟨fun h3 => absurd hk h3, fun _ => ?_⟩, hb⟩
    rw [h]
    exact h2
end Go.Proofs.Ytjilbcefikbihaa
namespace Go.Proofs.Ytjilbcefikbihaa
open Go.RowKit
set_option linter.unusedVariables false
set_option maxRecDepth 100000 in
set_option maxHeartbeats 4000000 in
theorem scriptPuts.main (a : SaV) (A2 : Option Addr) (cap2 : Nat) (c : CoV) (A : Option Addr) (cap : Nat) (l : List RpV) (W : World) (hws : WsAt W (.slice A2 a.ws.length cap2) a.ws) (hwn : a.wn) (hsl : ∀ b, sBlk (.slice A2 a.ws.length cap2) = some b → b < W.heap.size) (hc : c.wf) (hR : RpsAt W A l) (hq : ∀ r ∈ l, 0 ≤ r.q ∧ r.q < 18446744073709551616) :
    Calls Try.prog 3 #[.agg #[.int .i64 a.k, .int .i64 a.c, .int .u64 a.t, .string a.d, .int .i64 a.n, .int .i64 a.mk, .int .i64 a.mt, .int .u64 a.mh, .int .i64 a.pf, .int .u64 a.pq, .int .u64 a.pt, .string a.pd, .string a.mp, .slice A2 a.ws.length cap2], .agg #[.int .i64 c.sec, .int .i64 c.secs, .int .i64 c.tb, .int .i64 c.bt, .int .i64 c.sc, .int .u64 c.h0, .int .u64 c.h1, .int .u64 c.s0, .int .u64 c.s1], .slice A l.length cap] W fun x w' => x = .returned (.bool true) ∧ Below W.heap.size W w' := by
  obtain ⟨C, hC⟩ : ∃ z, z = W.heap.size + 1 := ⟨_, rfl⟩
  obtain ⟨P, hP⟩ : ∃ z, z = W.heap.size := ⟨_, rfl⟩
  obtain ⟨w1, hw1⟩ : ∃ z, z = (W.alloc (.cells #[.int .i64 a.k, .int .i64 a.c, .int .u64 a.t, .string a.d, .int .i64 a.n, .int .i64 a.mk, .int .i64 a.mt, .int .u64 a.mh, .int .i64 a.pf, .int .u64 a.pq, .int .u64 a.pt, .string a.pd, .string a.mp, .slice A2 a.ws.length cap2] 29)).alloc (.cells #[.int .i64 c.sec, .int .i64 c.secs, .int .i64 c.tb, .int .i64 c.bt, .int .i64 c.sc, .int .u64 c.h0, .int .u64 c.h1, .int .u64 c.s0, .int .u64 c.s1] 32) := ⟨_, rfl⟩
  have H1 : Hid (w1.heap[P]? = some (.cells #[.int .i64 a.k, .int .i64 a.c, .int .u64 a.t, .string a.d, .int .i64 a.n, .int .i64 a.mk, .int .i64 a.mt, .int .u64 a.mh, .int .i64 a.pf, .int .u64 a.pq, .int .u64 a.pt, .string a.pd, .string a.mp, .slice A2 a.ws.length cap2] 29 (0, 0)) ∧ w1.heap[C]? = some (.cells #[.int .i64 c.sec, .int .i64 c.secs, .int .i64 c.tb, .int .i64 c.bt, .int .i64 c.sc, .int .u64 c.h0, .int .u64 c.h1, .int .u64 c.s0, .int .u64 c.s1] 32 (0, 0)) ∧ Below W.heap.size W w1) := Lib.hid (by
    have ba := Kq.below_alloc W (.cells #[.int .i64 a.k, .int .i64 a.c, .int .u64 a.t, .string a.d, .int .i64 a.n, .int .i64 a.mk, .int .i64 a.mt, .int .u64 a.mh, .int .i64 a.pf, .int .u64 a.pq, .int .u64 a.pt, .string a.pd, .string a.mp, .slice A2 a.ws.length cap2] 29)
    have bb := Kq.below_alloc (W.alloc (.cells #[.int .i64 a.k, .int .i64 a.c, .int .u64 a.t, .string a.d, .int .i64 a.n, .int .i64 a.mk, .int .i64 a.mt, .int .u64 a.mh, .int .i64 a.pf, .int .u64 a.pq, .int .u64 a.pt, .string a.pd, .string a.mp, .slice A2 a.ws.length cap2] 29)) (.cells #[.int .i64 c.sec, .int .i64 c.secs, .int .i64 c.tb, .int .i64 c.bt, .int .i64 c.sc, .int .u64 c.h0, .int .u64 c.h1, .int .u64 c.s0, .int .u64 c.s1] 32)
    have hx := Kq.blk_new W #[.int .i64 a.k, .int .i64 a.c, .int .u64 a.t, .string a.d, .int .i64 a.n, .int .i64 a.mk, .int .i64 a.mt, .int .u64 a.mh, .int .i64 a.pf, .int .u64 a.pq, .int .u64 a.pt, .string a.pd, .string a.mp, .slice A2 a.ws.length cap2] 29 (0, 0)
    have hy := Kq.blk_new (W.alloc (.cells #[.int .i64 a.k, .int .i64 a.c, .int .u64 a.t, .string a.d, .int .i64 a.n, .int .i64 a.mk, .int .i64 a.mt, .int .u64 a.mh, .int .i64 a.pf, .int .u64 a.pq, .int .u64 a.pt, .string a.pd, .string a.mp, .slice A2 a.ws.length cap2] 29)) #[.int .i64 c.sec, .int .i64 c.secs, .int .i64 c.tb, .int .i64 c.bt, .int .i64 c.sc, .int .u64 c.h0, .int .u64 c.h1, .int .u64 c.s0, .int .u64 c.s1] 32 (0, 0)
    have hx2 := Kq.below_blk bb hx (Kq.blk_lt hx)
    rw [World.size_alloc] at hy
    rw [hw1, hP, hC]
    exact ⟨hx2, hy, ba.trans (bb.mono ba.size)⟩)
  have HX := Lib.hid (And.intro hws (And.intro hwn (And.intro hsl (And.intro hc (And.intro hR hq)))))
  have HWW : Hid (∀ wz, Below W.heap.size W wz → WsAt wz (.slice A2 a.ws.length cap2) a.ws) := Lib.hid (fun wz h => HX.out.1.keeps (S := fun _ => False) (Kq.Keeps.of_below h (fun k h1 h2 => absurd h1 (Nat.not_le.2 h2))) (fun _ _ => id))
  clear hws hwn hsl hc hR hq
  go_enter Try.func3, Try.ntmps3
  go_wp2_with fail
  rw [← hw1]
  try rw [← hC]
  try rw [← hP]
  have hpc : P + 1 = C := by omega
  try rw [hpc]
  clear hw1 hC hP hpc
  refine (awake23 w1).mono ?_
  rintro x w2 ⟨rfl, b2⟩
  have H2 : Hid (w2.heap[P]? = some (.cells #[.int .i64 a.k, .int .i64 a.c, .int .u64 a.t, .string a.d, .int .i64 a.n, .int .i64 a.mk, .int .i64 a.mt, .int .u64 a.mh, .int .i64 a.pf, .int .u64 a.pq, .int .u64 a.pt, .string a.pd, .string a.mp, .slice A2 a.ws.length cap2] 29 (0, 0)) ∧ w2.heap[C]? = some (.cells #[.int .i64 c.sec, .int .i64 c.secs, .int .i64 c.tb, .int .i64 c.bt, .int .i64 c.sc, .int .u64 c.h0, .int .u64 c.h1, .int .u64 c.s0, .int .u64 c.s1] 32 (0, 0)) ∧ Below W.heap.size W w2) := Lib.hid ⟨Kq.below_blk b2 H1.out.1 (Kq.blk_lt H1.out.1), Kq.below_blk b2 H1.out.2.1 (Kq.blk_lt H1.out.2.1), H1.out.2.2.trans (b2.mono H1.out.2.2.size)⟩
  clear b2 H1
  have d0 : w2.cell? ⟨P, 0, none⟩ = some (.int .i64 a.k) := Kq.blk_cell H2.out.1 0
  have d1 : w2.cell? ⟨P, 1, none⟩ = some (.int .i64 a.c) := Kq.blk_cell H2.out.1 1
  have d2 : w2.cell? ⟨P, 2, none⟩ = some (.int .u64 a.t) := Kq.blk_cell H2.out.1 2
  have d3 : w2.cell? ⟨P, 3, none⟩ = some (.string a.d) := Kq.blk_cell H2.out.1 3
  have d4 : w2.cell? ⟨P, 4, none⟩ = some (.int .i64 a.n) := Kq.blk_cell H2.out.1 4
  have d5 : w2.cell? ⟨P, 5, none⟩ = some (.int .i64 a.mk) := Kq.blk_cell H2.out.1 5
  have d6 : w2.cell? ⟨P, 6, none⟩ = some (.int .i64 a.mt) := Kq.blk_cell H2.out.1 6
  have d7 : w2.cell? ⟨P, 7, none⟩ = some (.int .u64 a.mh) := Kq.blk_cell H2.out.1 7
  have d8 : w2.cell? ⟨P, 8, none⟩ = some (.int .i64 a.pf) := Kq.blk_cell H2.out.1 8
  have d9 : w2.cell? ⟨P, 9, none⟩ = some (.int .u64 a.pq) := Kq.blk_cell H2.out.1 9
  have d10 : w2.cell? ⟨P, 10, none⟩ = some (.int .u64 a.pt) := Kq.blk_cell H2.out.1 10
  have d11 : w2.cell? ⟨P, 11, none⟩ = some (.string a.pd) := Kq.blk_cell H2.out.1 11
  have d12 : w2.cell? ⟨P, 12, none⟩ = some (.string a.mp) := Kq.blk_cell H2.out.1 12
  have d13 : w2.cell? ⟨P, 13, none⟩ = some (.slice A2 a.ws.length cap2) := Kq.blk_cell H2.out.1 13
  go_wp2_with fail
  clear d0 d1 d2 d3 d4 d5 d6 d7 d8 d9 d10 d11 d12 d13
  refine (lw_few a A2 cap2 w2).mono ?_
  rintro x w3 ⟨rfl, b3⟩
  have H3 : Hid (w3.heap[P]? = some (.cells #[.int .i64 a.k, .int .i64 a.c, .int .u64 a.t, .string a.d, .int .i64 a.n, .int .i64 a.mk, .int .i64 a.mt, .int .u64 a.mh, .int .i64 a.pf, .int .u64 a.pq, .int .u64 a.pt, .string a.pd, .string a.mp, .slice A2 a.ws.length cap2] 29 (0, 0)) ∧ w3.heap[C]? = some (.cells #[.int .i64 c.sec, .int .i64 c.secs, .int .i64 c.tb, .int .i64 c.bt, .int .i64 c.sc, .int .u64 c.h0, .int .u64 c.h1, .int .u64 c.s0, .int .u64 c.s1] 32 (0, 0)) ∧ Below W.heap.size W w3) := Lib.hid ⟨Kq.below_blk b3 H2.out.1 (Kq.blk_lt H2.out.1), Kq.below_blk b3 H2.out.2.1 (Kq.blk_lt H2.out.2.1), H2.out.2.2.trans (b3.mono H2.out.2.2.size)⟩
  clear b3 H2
  by_cases hf : fewA a
  case neg =>
    rw [decide_eq_false hf]
    clear hf
    go_wp2
    go_ret
    exact ⟨rfl, H3.out.2.2⟩
  rw [decide_eq_true hf]
  have HF := Lib.hid hf
  clear hf
  by_cases hl : 40 < l.length
  case pos =>
    have t0 : decide ((40 : Int) < (l.length : Int)) = true := decide_eq_true (by omega)
    have t1 : decide (40 < l.length) = true := decide_eq_true hl
    have t2 : (40 : Int) < (l.length : Int) := by omega
    clear hl
    go_wp2
    go_ret
    exact ⟨rfl, H3.out.2.2⟩
  have t0 : decide ((40 : Int) < (l.length : Int)) = false := decide_eq_false (by omega)
  have t1 : decide (40 < l.length) = false := decide_eq_false hl
  have t2 : ¬ (40 : Int) < (l.length : Int) := by omega
  have HL : Hid (l.length ≤ 40) := Lib.hid (by omega)
  clear hl
  go_wp2
  clear t0 t1 t2
  go_loopw [7] (fun u wr => ∃ j : Nat, j ≤ l.length ∧ u = .int .i64 (j : Int) ∧ (∀ i (h : i < l.length), i < j → l[i].cs.length ≤ 600) ∧ w3 = wr) (fun u _ => l.length - (intOf u).toNat)
  case atStart => exact ⟨0, Nat.zero_le _, rfl, fun i _ h => absurd h (Nat.not_lt_zero _), rfl⟩
  case round =>
    obtain ⟨j, hj, rfl, hall, rfl⟩ := hrel
    have hj6 : j ≤ 40 := by have := HL.out; omega
    by_cases hlt : j < l.length
    · obtain ⟨b, o, CA, cap3, rfl, hb, -, -, -, c3, hcap, -⟩ := (HX.out.2.2.2.2.1.below H3.out.2.2) j hlt
      obtain ⟨n, hn⟩ : ∃ z, z = (l[j]'hlt).cs.length := ⟨_, rfl⟩
      rw [← hn] at c3 hcap
      have t1 : decide ((j : Int) < (l.length : Int)) = true := decide_eq_true (by omega)
      have t2 : decide (j < l.length) = true := decide_eq_true hlt
      have hi0 : (j : Int) < (l.length : Int) := by omega
      have HLT := Lib.hid hlt
      have HN : Hid (n = (l[j]'HLT.out).cs.length) := Lib.hid hn
      have HALL := Lib.hid hall
      have HJ : Hid (wrap64 ((j : Int) + 1) = ((j + 1 : Nat) : Int)) := Lib.hid (by rw [IntWalk.wrap64_in _ (by omega)]; omega)
      clear hlt hn hall hj hcap
      by_cases h6 : 600 < n
      · have u0 : decide ((600 : Int) < (n : Int)) = true := decide_eq_true (by omega)
        have u1 : decide (600 < n) = true := decide_eq_true h6
        have u2 : (600 : Int) < (n : Int) := by omega
        clear h6
        go_wp2
        go_ret
        exact ⟨rfl, H3.out.2.2⟩
      · have u0 : decide ((600 : Int) < (n : Int)) = false := decide_eq_false (by omega)
        have u1 : decide (600 < n) = false := decide_eq_false h6
        have u2 : ¬ (600 : Int) < (n : Int) := by omega
        have H6 := Lib.hid h6
        clear h6
        go_wp2
        try rw [HJ.out]
        go_roundw
        case rel =>
          refine ⟨j + 1, HLT.out, by first | rfl | go_num, fun i hi hij => ?_, by first | trivial | rfl⟩
          rcases Nat.lt_succ_iff_lt_or_eq.1 hij with h | h
          · exact HALL.out i hi h
          · subst h
            have := HN.out
            have := H6.out
            omega
        case measure => have := HLT.out; simp [intOf]; omega
    · obtain rfl : j = l.length := by omega
      have t1 : decide ((l.length : Int) < (l.length : Int)) = false := decide_eq_false (by omega)
      have t2 : decide (l.length < l.length) = false := decide_eq_false hlt
      have HOK : Hid (∀ r ∈ l, RpOk r) := Lib.hid (fun r hr => by
        obtain ⟨i, hi, rfl⟩ := List.getElem_of_mem hr
        exact ⟨HX.out.2.2.2.2.2 _ (List.getElem_mem _), hall i hi hi⟩)
      clear hlt hall hj hj6
      have HWF : Hid a.wf := Lib.hid ⟨HX.out.2.1.t, HX.out.2.1.mh, HX.out.2.1.pq, HX.out.2.1.pt, HF.out.1, HF.out.2.2.1, HF.out.2.1, HF.out.2.2.2⟩
      have d0 : w3.cell? ⟨P, 0, none⟩ = some (.int .i64 a.k) := Kq.blk_cell H3.out.1 0
      have d1 : w3.cell? ⟨P, 1, none⟩ = some (.int .i64 a.c) := Kq.blk_cell H3.out.1 1
      have d2 : w3.cell? ⟨P, 2, none⟩ = some (.int .u64 a.t) := Kq.blk_cell H3.out.1 2
      have d3 : w3.cell? ⟨P, 3, none⟩ = some (.string a.d) := Kq.blk_cell H3.out.1 3
      have d4 : w3.cell? ⟨P, 4, none⟩ = some (.int .i64 a.n) := Kq.blk_cell H3.out.1 4
      have d5 : w3.cell? ⟨P, 5, none⟩ = some (.int .i64 a.mk) := Kq.blk_cell H3.out.1 5
      have d6 : w3.cell? ⟨P, 6, none⟩ = some (.int .i64 a.mt) := Kq.blk_cell H3.out.1 6
      have d7 : w3.cell? ⟨P, 7, none⟩ = some (.int .u64 a.mh) := Kq.blk_cell H3.out.1 7
      have d8 : w3.cell? ⟨P, 8, none⟩ = some (.int .i64 a.pf) := Kq.blk_cell H3.out.1 8
      have d9 : w3.cell? ⟨P, 9, none⟩ = some (.int .u64 a.pq) := Kq.blk_cell H3.out.1 9
      have d10 : w3.cell? ⟨P, 10, none⟩ = some (.int .u64 a.pt) := Kq.blk_cell H3.out.1 10
      have d11 : w3.cell? ⟨P, 11, none⟩ = some (.string a.pd) := Kq.blk_cell H3.out.1 11
      have d12 : w3.cell? ⟨P, 12, none⟩ = some (.string a.mp) := Kq.blk_cell H3.out.1 12
      have d13 : w3.cell? ⟨P, 13, none⟩ = some (.slice A2 a.ws.length cap2) := Kq.blk_cell H3.out.1 13
      go_wp2_with fail
      clear d0 d1 d2 d3 d4 d5 d6 d7 d8 d9 d10 d11 d12 d13
      refine (sc_ans a (.slice A2 a.ws.length cap2) w3 (HWW.out w3 H3.out.2.2) (fun b h => Nat.lt_of_lt_of_le (HX.out.2.2.1 b h) H3.out.2.2.size) HWF.out).mono ?_
      rintro x w4 ⟨hp, b4⟩
      obtain ⟨-, s, e, rfl⟩ := hp.same hp
      have HPA := Lib.hid hp
      have H4 : Hid (w4.heap[P]? = some (.cells #[.int .i64 a.k, .int .i64 a.c, .int .u64 a.t, .string a.d, .int .i64 a.n, .int .i64 a.mk, .int .i64 a.mt, .int .u64 a.mh, .int .i64 a.pf, .int .u64 a.pq, .int .u64 a.pt, .string a.pd, .string a.mp, .slice A2 a.ws.length cap2] 29 (0, 0)) ∧ w4.heap[C]? = some (.cells #[.int .i64 c.sec, .int .i64 c.secs, .int .i64 c.tb, .int .i64 c.bt, .int .i64 c.sc, .int .u64 c.h0, .int .u64 c.h1, .int .u64 c.s0, .int .u64 c.s1] 32 (0, 0)) ∧ Below W.heap.size W w4) := Lib.hid ⟨Kq.below_blk b4 H3.out.1 (Kq.blk_lt H3.out.1), Kq.below_blk b4 H3.out.2.1 (Kq.blk_lt H3.out.2.1), H3.out.2.2.trans (b4.mono H3.out.2.2.size)⟩
      clear b4 H3 hp
      have d0 : w4.cell? ⟨P, 0, none⟩ = some (.int .i64 a.k) := Kq.blk_cell H4.out.1 0
      have d1 : w4.cell? ⟨P, 1, none⟩ = some (.int .i64 a.c) := Kq.blk_cell H4.out.1 1
      have d2 : w4.cell? ⟨P, 2, none⟩ = some (.int .u64 a.t) := Kq.blk_cell H4.out.1 2
      have d3 : w4.cell? ⟨P, 3, none⟩ = some (.string a.d) := Kq.blk_cell H4.out.1 3
      have d4 : w4.cell? ⟨P, 4, none⟩ = some (.int .i64 a.n) := Kq.blk_cell H4.out.1 4
      have d5 : w4.cell? ⟨P, 5, none⟩ = some (.int .i64 a.mk) := Kq.blk_cell H4.out.1 5
      have d6 : w4.cell? ⟨P, 6, none⟩ = some (.int .i64 a.mt) := Kq.blk_cell H4.out.1 6
      have d7 : w4.cell? ⟨P, 7, none⟩ = some (.int .u64 a.mh) := Kq.blk_cell H4.out.1 7
      have d8 : w4.cell? ⟨P, 8, none⟩ = some (.int .i64 a.pf) := Kq.blk_cell H4.out.1 8
      have d9 : w4.cell? ⟨P, 9, none⟩ = some (.int .u64 a.pq) := Kq.blk_cell H4.out.1 9
      have d10 : w4.cell? ⟨P, 10, none⟩ = some (.int .u64 a.pt) := Kq.blk_cell H4.out.1 10
      have d11 : w4.cell? ⟨P, 11, none⟩ = some (.string a.pd) := Kq.blk_cell H4.out.1 11
      have d12 : w4.cell? ⟨P, 12, none⟩ = some (.string a.mp) := Kq.blk_cell H4.out.1 12
      have d13 : w4.cell? ⟨P, 13, none⟩ = some (.slice A2 a.ws.length cap2) := Kq.blk_cell H4.out.1 13
      go_wp2_with fail
      clear d0 d1 d2 d3 d4 d5 d6 d7 d8 d9 d10 d11 d12 d13
      refine (rq_ans a (.slice A2 a.ws.length cap2) w4 (HWW.out w4 H4.out.2.2) HWF.out).mono ?_
      rintro x w5 ⟨hp, b5⟩
      obtain rfl := (HPA.out.same hp).1
      have H5 : Hid (w5.heap[P]? = some (.cells #[.int .i64 a.k, .int .i64 a.c, .int .u64 a.t, .string a.d, .int .i64 a.n, .int .i64 a.mk, .int .i64 a.mt, .int .u64 a.mh, .int .i64 a.pf, .int .u64 a.pq, .int .u64 a.pt, .string a.pd, .string a.mp, .slice A2 a.ws.length cap2] 29 (0, 0)) ∧ w5.heap[C]? = some (.cells #[.int .i64 c.sec, .int .i64 c.secs, .int .i64 c.tb, .int .i64 c.bt, .int .i64 c.sc, .int .u64 c.h0, .int .u64 c.h1, .int .u64 c.s0, .int .u64 c.s1] 32 (0, 0)) ∧ Below W.heap.size W w5) := Lib.hid ⟨Kq.below_blk b5 H4.out.1 (Kq.blk_lt H4.out.1), Kq.below_blk b5 H4.out.2.1 (Kq.blk_lt H4.out.2.1), H4.out.2.2.trans (b5.mono H4.out.2.2.size)⟩
      clear b5 H4 hp
      obtain ⟨s2, e2, hcf⟩ : ∃ (s2 : ByteArray) (e2 : Int), ∀ x : Ending, (c.ok → x = .returned (.tuple #[.string (txt c.enc), .int .i64 0])) ∧ (¬ c.ok → x = .returned (.tuple #[.string ⟨#[]⟩, .int .i64 1])) → x = .returned (.tuple #[.string s2, .int .i64 e2]) := by
        by_cases hk : c.ok
        · exact ⟨_, _, fun x h => h.1 hk⟩
        · exact ⟨_, _, fun x h => h.2 hk⟩
      have HCF := Lib.hid hcf
      clear hcf
      have k0 : w5.cell? ⟨C, 0, none⟩ = some (.int .i64 c.sec) := Kq.blk_cell H5.out.2.1 0
      have k1 : w5.cell? ⟨C, 1, none⟩ = some (.int .i64 c.secs) := Kq.blk_cell H5.out.2.1 1
      have k2 : w5.cell? ⟨C, 2, none⟩ = some (.int .i64 c.tb) := Kq.blk_cell H5.out.2.1 2
      have k3 : w5.cell? ⟨C, 3, none⟩ = some (.int .i64 c.bt) := Kq.blk_cell H5.out.2.1 3
      have k4 : w5.cell? ⟨C, 4, none⟩ = some (.int .i64 c.sc) := Kq.blk_cell H5.out.2.1 4
      have k5 : w5.cell? ⟨C, 5, none⟩ = some (.int .u64 c.h0) := Kq.blk_cell H5.out.2.1 5
      have k6 : w5.cell? ⟨C, 6, none⟩ = some (.int .u64 c.h1) := Kq.blk_cell H5.out.2.1 6
      have k7 : w5.cell? ⟨C, 7, none⟩ = some (.int .u64 c.s0) := Kq.blk_cell H5.out.2.1 7
      have k8 : w5.cell? ⟨C, 8, none⟩ = some (.int .u64 c.s1) := Kq.blk_cell H5.out.2.1 8
      go_wp2_with fail
      clear k0 k1 k2 k3 k4 k5 k6 k7 k8
      refine (sc_putConfig c HX.out.2.2.2.1 w5).mono ?_
      rintro x w6 ⟨b6, hx⟩
      obtain rfl := HCF.out x hx
      have H6 : Hid (w6.heap[P]? = some (.cells #[.int .i64 a.k, .int .i64 a.c, .int .u64 a.t, .string a.d, .int .i64 a.n, .int .i64 a.mk, .int .i64 a.mt, .int .u64 a.mh, .int .i64 a.pf, .int .u64 a.pq, .int .u64 a.pt, .string a.pd, .string a.mp, .slice A2 a.ws.length cap2] 29 (0, 0)) ∧ w6.heap[C]? = some (.cells #[.int .i64 c.sec, .int .i64 c.secs, .int .i64 c.tb, .int .i64 c.bt, .int .i64 c.sc, .int .u64 c.h0, .int .u64 c.h1, .int .u64 c.s0, .int .u64 c.s1] 32 (0, 0)) ∧ Below W.heap.size W w6) := Lib.hid ⟨Kq.below_blk b6 H5.out.1 (Kq.blk_lt H5.out.1), Kq.below_blk b6 H5.out.2.1 (Kq.blk_lt H5.out.2.1), H5.out.2.2.trans (b6.mono H5.out.2.2.size)⟩
      clear b6 H5 hx
      have k0 : w6.cell? ⟨C, 0, none⟩ = some (.int .i64 c.sec) := Kq.blk_cell H6.out.2.1 0
      have k1 : w6.cell? ⟨C, 1, none⟩ = some (.int .i64 c.secs) := Kq.blk_cell H6.out.2.1 1
      have k2 : w6.cell? ⟨C, 2, none⟩ = some (.int .i64 c.tb) := Kq.blk_cell H6.out.2.1 2
      have k3 : w6.cell? ⟨C, 3, none⟩ = some (.int .i64 c.bt) := Kq.blk_cell H6.out.2.1 3
      have k4 : w6.cell? ⟨C, 4, none⟩ = some (.int .i64 c.sc) := Kq.blk_cell H6.out.2.1 4
      have k5 : w6.cell? ⟨C, 5, none⟩ = some (.int .u64 c.h0) := Kq.blk_cell H6.out.2.1 5
      have k6 : w6.cell? ⟨C, 6, none⟩ = some (.int .u64 c.h1) := Kq.blk_cell H6.out.2.1 6
      have k7 : w6.cell? ⟨C, 7, none⟩ = some (.int .u64 c.s0) := Kq.blk_cell H6.out.2.1 7
      have k8 : w6.cell? ⟨C, 8, none⟩ = some (.int .u64 c.s1) := Kq.blk_cell H6.out.2.1 8
      go_wp2_with fail
      clear k0 k1 k2 k3 k4 k5 k6 k7 k8
      refine (rp_config c HX.out.2.2.2.1 w6).mono ?_
      rintro x w7 ⟨b7, hx⟩
      obtain rfl := HCF.out x hx
      have H7 : Hid (w7.heap[P]? = some (.cells #[.int .i64 a.k, .int .i64 a.c, .int .u64 a.t, .string a.d, .int .i64 a.n, .int .i64 a.mk, .int .i64 a.mt, .int .u64 a.mh, .int .i64 a.pf, .int .u64 a.pq, .int .u64 a.pt, .string a.pd, .string a.mp, .slice A2 a.ws.length cap2] 29 (0, 0)) ∧ w7.heap[C]? = some (.cells #[.int .i64 c.sec, .int .i64 c.secs, .int .i64 c.tb, .int .i64 c.bt, .int .i64 c.sc, .int .u64 c.h0, .int .u64 c.h1, .int .u64 c.s0, .int .u64 c.s1] 32 (0, 0)) ∧ Below W.heap.size W w7) := Lib.hid ⟨Kq.below_blk b7 H6.out.1 (Kq.blk_lt H6.out.1), Kq.below_blk b7 H6.out.2.1 (Kq.blk_lt H6.out.2.1), H6.out.2.2.trans (b7.mono H6.out.2.2.size)⟩
      clear b7 H6 hx
      have q1 : (s.toList == s.toList) = true := beq_self_eq_true _
      have q2 : (e == e) = true := beq_self_eq_true _
      have q3 : (s2.toList == s2.toList) = true := beq_self_eq_true _
      have q4 : (e2 == e2) = true := beq_self_eq_true _
      go_wp2_with fail
      refine (sc_bytes A cap l w7 (HX.out.2.2.2.2.1.below H7.out.2.2) HOK.out HL.out).mono ?_
      rintro x w8 ⟨rfl, b8⟩
      have H8 := Lib.hid (H7.out.2.2.trans (b8.mono H7.out.2.2.size))
      clear b8
      go_wp2_with fail
      refine (rb_bytes A cap l w8 (HX.out.2.2.2.2.1.below H8.out) HOK.out HL.out).mono ?_
      rintro x w9 ⟨rfl, b9⟩
      have H9 := Lib.hid (H8.out.trans (b9.mono H8.out.size))
      clear b9
      obtain ⟨r, hr⟩ : ∃ z, z = txt (encRp l) := ⟨_, rfl⟩
      rw [← hr]
      clear hr
      have q5 : (r.toList == r.toList) = true := beq_self_eq_true _
      go_wp2
      go_ret
      exact ⟨rfl, H9.out⟩
theorem scriptPuts_walk {W : World} (v0 v1 v2 : Value) (hd0 : ∃ e : EnX, v0 = .agg ⟨e.a.cells e.sl []⟩ ∧ WsAt W e.sl e.a.ws ∧ e.a.wn ∧ ∀ b, sBlk e.sl = some b → b < W.heap.size) (hd1 : ∃ c : CoV, v1 = .agg #[.int .i64 c.sec, .int .i64 c.secs, .int .i64 c.tb, .int .i64 c.bt, .int .i64 c.sc, .int .u64 c.h0, .int .u64 c.h1, .int .u64 c.s0, .int .u64 c.s1] ∧ c.wf) (hd2 : ∃ A cap, ∃ l : List RpV, v2 = .slice A l.length cap ∧ RpsAt W A l ∧ ∀ r ∈ l, 0 ≤ r.q ∧ r.q < 18446744073709551616) :
    Calls Try.prog 3 #[v0, v1, v2] W fun x w' => x = .returned (.bool true) ∧ Below W.heap.size W w' := by
  obtain ⟨⟨a, A2, cap2, ex⟩, rfl, hws, hwn, hsl⟩ := hd0
  obtain ⟨c, rfl, hc⟩ := hd1
  obtain ⟨A, cap, l, rfl, hR, hq⟩ := hd2
  exact scriptPuts.main a A2 cap2 c A cap l W hws hwn hsl hc hR hq
end Go.Proofs.Ytjilbcefikbihaa
