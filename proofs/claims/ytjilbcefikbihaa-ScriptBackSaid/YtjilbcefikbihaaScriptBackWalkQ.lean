/- ScriptBack: the walk. No condition. -/
import Derived.WalkSpells
import Derived.Outline
import Derived.ProofKit
import Derived.Test.YtjilbcefikbihaaScOpenQ
import Derived.Test.YtjilbcefikbihaaScLsQ
import Derived.Test.YtjilbcefikbihaaScCeQ
import Derived.Test.YtjilbcefikbihaaScPutAQ
namespace Go.Proofs.Ytjilbcefikbihaa
open Go.RowKit
set_option linter.unusedVariables false
theorem infoEk : (Try.prog.info? 61).map (fun i => (i.zero, i.size, i.bytes)) = some (some (.agg ⟨SaV.zero.cells (.slice none 0 0) [.int .i64 0]⟩), 15, 160) := by kernel_rfl
def KpX (xs : List EnX) : List SaV := xs.map EnX.a
set_option maxRecDepth 100000 in
set_option maxHeartbeats 4000000 in
theorem scriptBack.main (A : Option Addr) (cap : Nat) (l : List EnX) (c : CoV) (more : ByteArray) (W : World) (hA : ActsAt W A l) (hc : c.wf) :
    Calls Try.prog 5 #[.slice A l.length cap, .agg #[.int .i64 c.sec, .int .i64 c.secs, .int .i64 c.tb, .int .i64 c.bt, .int .i64 c.sc, .int .u64 c.h0, .int .u64 c.h1, .int .u64 c.s0, .int .u64 c.s1], .string more] W fun x w' => x = .returned (.bool true) ∧ Below W.heap.size W w' := by
  obtain ⟨i0, hi0, hz0, hz1, hz2⟩ := info_partsW infoEk
  obtain ⟨C, hC⟩ : ∃ z, z = W.heap.size := ⟨_, rfl⟩
  obtain ⟨w1, hw1⟩ : ∃ z, z = W.alloc (.cells #[.int .i64 c.sec, .int .i64 c.secs, .int .i64 c.tb, .int .i64 c.bt, .int .i64 c.sc, .int .u64 c.h0, .int .u64 c.h1, .int .u64 c.s0, .int .u64 c.s1] 32) := ⟨_, rfl⟩
  have H1 : Hid (w1.heap[C]? = some (.cells #[.int .i64 c.sec, .int .i64 c.secs, .int .i64 c.tb, .int .i64 c.bt, .int .i64 c.sc, .int .u64 c.h0, .int .u64 c.h1, .int .u64 c.s0, .int .u64 c.s1] 32 (0, 0)) ∧ Below W.heap.size W w1) := Lib.hid ⟨by rw [hw1, hC]; exact Kq.blk_new _ _ _ _, by rw [hw1]; exact Kq.below_alloc _ _⟩
  have HA := Lib.hid (And.intro hA hc)
  clear hA hc
  go_enter Try.func5, Try.ntmps5
  go_wp2_with fail
  rw [← hw1]
  try rw [← hC]
  clear hw1 hC
  refine (awake23 w1).mono ?_
  rintro x w2 ⟨rfl, b2⟩
  have H2 : Hid (w2.heap[C]? = some (.cells #[.int .i64 c.sec, .int .i64 c.secs, .int .i64 c.tb, .int .i64 c.bt, .int .i64 c.sc, .int .u64 c.h0, .int .u64 c.h1, .int .u64 c.s0, .int .u64 c.s1] 32 (0, 0)) ∧ Below W.heap.size W w2) := Lib.hid ⟨Kq.below_blk b2 H1.out.1 (Kq.blk_lt H1.out.1), H1.out.2.trans (b2.mono H1.out.2.size)⟩
  clear b2 H1
  by_cases hl : 60 < l.length
  · have t0 : decide ((60 : Int) < (l.length : Int)) = true := decide_eq_true (by omega)
    have t1 : decide (60 < l.length) = true := decide_eq_true hl
    have t2 : (60 : Int) < (l.length : Int) := by omega
    go_wp2
    go_ret
    exact ⟨rfl, H2.out.2⟩
  have t0 : decide ((60 : Int) < (l.length : Int)) = false := decide_eq_false (by omega)
  have t1 : decide (60 < l.length) = false := decide_eq_false hl
  have t2 : ¬ (60 : Int) < (l.length : Int) := by omega
  by_cases hm : 1000 < more.size
  · have u0 : decide ((1000 : Int) < (more.size : Int)) = true := decide_eq_true (by omega)
    have u1 : decide (1000 < more.size) = true := decide_eq_true hm
    have u2 : (1000 : Int) < (more.size : Int) := by omega
    go_wp2
    go_ret
    exact ⟨rfl, H2.out.2⟩
  have u0 : decide ((1000 : Int) < (more.size : Int)) = false := decide_eq_false (by omega)
  have u1 : decide (1000 < more.size) = false := decide_eq_false hm
  have u2 : ¬ (1000 : Int) < (more.size : Int) := by omega
  have HL : Hid (l.length ≤ 60 ∧ more.size ≤ 1000) := Lib.hid ⟨by omega, by omega⟩
  clear hl hm
  go_wp2
  clear t0 t1 t2 u0 u1 u2
  go_loopw [7, 8, 9] (fun t kv u wr => ∃ (j : Nat) (xs : List EnX), j ≤ l.length ∧ u = .int .i64 (j : Int) ∧ t = .string (txt ((KpX xs).flatMap encA)) ∧ wr.ownsRow w2.heap.size 61 15 kv xs.length (enE.flat xs) ∧ (∀ x ∈ xs, PutOk x.a ∧ x.e = 0 ∧ WsAt W x.sl x.a.ws ∧ x.a.ws.length ≤ 600) ∧ xs.length ≤ j ∧ Below w2.heap.size w2 wr) (fun _ _ u _ => l.length - (intOf u).toNat)
  case atStart => exact ⟨0, [], Nat.zero_le _, rfl, rfl, ⟨rfl, Or.inl ⟨rfl, rfl⟩⟩, (fun x hx => by cases hx), Nat.le_refl _, Below.refl _ _⟩
  case round =>
    obtain ⟨j, xs, hj, rfl, rfl, hown, hok, hxs, hb⟩ := hrel
    have hj6 : j ≤ 60 := by have := HL.out.1; omega
    have HH := Lib.hid (And.intro hown (And.intro hok (And.intro hxs hb)))
    clear hown hok hxs hb
    obtain ⟨T, hT⟩ : ∃ z, z = (KpX xs).flatMap encA := ⟨_, rfl⟩
    have HTX : Hid (T = (KpX xs).flatMap encA ∧ b256 T ∧ T.length ≤ 60 * 900001) := Lib.hid (by
      have hp : ∀ a ∈ KpX xs, PutOk a := fun a ha => by
        obtain ⟨x, hx, rfl⟩ := List.mem_map.1 ha
        exact (HH.out.2.1 x hx).1
      refine ⟨hT, by rw [hT]; exact encAs_lt _ hp, ?_⟩
      rw [hT]
      have h1 := encAs_len _ hp
      have h2 : (KpX xs).length = xs.length := List.length_map _
      have h3 := HH.out.2.2.1
      rw [h2] at h1
      exact Nat.le_trans h1 (Nat.mul_le_mul_right 900001 (by omega)))
    rw [← hT]
    clear hT
    by_cases hlt : j < l.length
    · obtain ⟨x, hx⟩ : ∃ z, z = l[j]'hlt := ⟨_, rfl⟩
      obtain ⟨b, o, rfl, hbl, hcs, hws, hwn⟩ := HA.out.1 j hlt
      rw [← hx] at hcs hws hwn
      have HC : Hid (∀ wz : World, Below W.heap.size W wz → ∀ i, i < 14 → wz.cell? ⟨b, o + j * 14 + i, none⟩ = (x.a.cells x.sl [])[i]?) := Lib.hid (fun wz hbz i hi => (hbz.cell (p := ⟨b, _, none⟩) hbl).trans (hcs i hi))
      have HW := Lib.hid (And.intro hws hwn)
      have HB : Hid (Below W.heap.size W wr) := Lib.hid (H2.out.2.trans (HH.out.2.2.2.mono H2.out.2.size))
      have HLT := Lib.hid hlt
      have t1 : decide ((j : Int) < (l.length : Int)) = true := decide_eq_true (by omega)
      have t2 : decide (j < l.length) = true := decide_eq_true hlt
      have t3 : (j : Int) < (l.length : Int) := by omega
      have c0 : wr.cell? ⟨b, o + j * 14, none⟩ = some (.int .i64 x.a.k) := HC.out wr HB.out 0 (by decide)
      have c1 : wr.cell? ⟨b, o + j * 14 + 1, none⟩ = some (.int .i64 x.a.c) := HC.out wr HB.out 1 (by decide)
      have c2 : wr.cell? ⟨b, o + j * 14 + 2, none⟩ = some (.int .u64 x.a.t) := HC.out wr HB.out 2 (by decide)
      have c3 : wr.cell? ⟨b, o + j * 14 + 3, none⟩ = some (.string x.a.d) := HC.out wr HB.out 3 (by decide)
      have c4 : wr.cell? ⟨b, o + j * 14 + 4, none⟩ = some (.int .i64 x.a.n) := HC.out wr HB.out 4 (by decide)
      have c5 : wr.cell? ⟨b, o + j * 14 + 5, none⟩ = some (.int .i64 x.a.mk) := HC.out wr HB.out 5 (by decide)
      have c6 : wr.cell? ⟨b, o + j * 14 + 6, none⟩ = some (.int .i64 x.a.mt) := HC.out wr HB.out 6 (by decide)
      have c7 : wr.cell? ⟨b, o + j * 14 + 7, none⟩ = some (.int .u64 x.a.mh) := HC.out wr HB.out 7 (by decide)
      have c8 : wr.cell? ⟨b, o + j * 14 + 8, none⟩ = some (.int .i64 x.a.pf) := HC.out wr HB.out 8 (by decide)
      have c9 : wr.cell? ⟨b, o + j * 14 + 9, none⟩ = some (.int .u64 x.a.pq) := HC.out wr HB.out 9 (by decide)
      have c10 : wr.cell? ⟨b, o + j * 14 + 10, none⟩ = some (.int .u64 x.a.pt) := HC.out wr HB.out 10 (by decide)
      have c11 : wr.cell? ⟨b, o + j * 14 + 11, none⟩ = some (.string x.a.pd) := HC.out wr HB.out 11 (by decide)
      have c12 : wr.cell? ⟨b, o + j * 14 + 12, none⟩ = some (.string x.a.mp) := HC.out wr HB.out 12 (by decide)
      have c13 : wr.cell? ⟨b, o + j * 14 + 13, none⟩ = some (.slice x.A x.a.ws.length x.c) := HC.out wr HB.out 13 (by decide)
      clear hx hlt hj hbl hcs hws hwn
      go_wp2_with fail
      clear c0 c1 c2 c3 c4 c5 c6 c7 c8 c9 c10 c11 c12 c13
      refine (lw_few x.a x.A x.c wr).mono ?_
      rintro y w3 ⟨rfl, b3⟩
      have H3 : Hid (Below wr.heap.size wr w3 ∧ Below W.heap.size W w3) := Lib.hid ⟨b3, HB.out.trans (b3.mono HB.out.size)⟩
      clear b3
      by_cases hf : fewA x.a
      · have HF := Lib.hid hf
        have d0 : decide (fewA x.a) = true := decide_eq_true hf
        rw [d0]
        have c0 : w3.cell? ⟨b, o + j * 14, none⟩ = some (.int .i64 x.a.k) := HC.out w3 H3.out.2 0 (by decide)
        have c1 : w3.cell? ⟨b, o + j * 14 + 1, none⟩ = some (.int .i64 x.a.c) := HC.out w3 H3.out.2 1 (by decide)
        have c2 : w3.cell? ⟨b, o + j * 14 + 2, none⟩ = some (.int .u64 x.a.t) := HC.out w3 H3.out.2 2 (by decide)
        have c3 : w3.cell? ⟨b, o + j * 14 + 3, none⟩ = some (.string x.a.d) := HC.out w3 H3.out.2 3 (by decide)
        have c4 : w3.cell? ⟨b, o + j * 14 + 4, none⟩ = some (.int .i64 x.a.n) := HC.out w3 H3.out.2 4 (by decide)
        have c5 : w3.cell? ⟨b, o + j * 14 + 5, none⟩ = some (.int .i64 x.a.mk) := HC.out w3 H3.out.2 5 (by decide)
        have c6 : w3.cell? ⟨b, o + j * 14 + 6, none⟩ = some (.int .i64 x.a.mt) := HC.out w3 H3.out.2 6 (by decide)
        have c7 : w3.cell? ⟨b, o + j * 14 + 7, none⟩ = some (.int .u64 x.a.mh) := HC.out w3 H3.out.2 7 (by decide)
        have c8 : w3.cell? ⟨b, o + j * 14 + 8, none⟩ = some (.int .i64 x.a.pf) := HC.out w3 H3.out.2 8 (by decide)
        have c9 : w3.cell? ⟨b, o + j * 14 + 9, none⟩ = some (.int .u64 x.a.pq) := HC.out w3 H3.out.2 9 (by decide)
        have c10 : w3.cell? ⟨b, o + j * 14 + 10, none⟩ = some (.int .u64 x.a.pt) := HC.out w3 H3.out.2 10 (by decide)
        have c11 : w3.cell? ⟨b, o + j * 14 + 11, none⟩ = some (.string x.a.pd) := HC.out w3 H3.out.2 11 (by decide)
        have c12 : w3.cell? ⟨b, o + j * 14 + 12, none⟩ = some (.string x.a.mp) := HC.out w3 H3.out.2 12 (by decide)
        have c13 : w3.cell? ⟨b, o + j * 14 + 13, none⟩ = some (.slice x.A x.a.ws.length x.c) := HC.out w3 H3.out.2 13 (by decide)
        clear hf d0
        have HP := Lib.hid (sc_put_all x.a x.sl w3 (HW.out.1.keeps (S := fun _ => False) (keeps_any H3.out.2) (fun _ _ => id)) (fun b hb => Nat.lt_of_lt_of_le (HW.out.2.2 b hb) H3.out.2.size) ⟨HW.out.2.1.t, HW.out.2.1.mh, HW.out.2.1.pq, HW.out.2.1.pt, HF.out.1, HF.out.2.2.1, HF.out.2.1, HF.out.2.2.2⟩)
        go_wp2_with fail
        clear c0 c1 c2 c3 c4 c5 c6 c7 c8 c9 c10 c11 c12 c13
        refine HP.out.mono ?_
        rintro y w4 ⟨b4, p1, p2⟩
        have H4 : Hid (Below W.heap.size W w4 ∧ Below wr.heap.size wr w4) := Lib.hid ⟨H3.out.2.trans (b4.mono H3.out.2.size), H3.out.1.trans (b4.mono H3.out.1.size)⟩
        by_cases hpo : PutOk x.a
        · obtain rfl := p1 hpo
          have HPO := Lib.hid hpo
          clear p1 p2 hpo b4 HP
          obtain ⟨z, hz⟩ : ∃ z : EnX, z = ⟨x.a, x.A, x.c, 0⟩ := ⟨_, rfl⟩
          have HB8 : Hid (Below w4.heap.size w4 (w4.alloc (.cells #[.int .i64 x.a.k, .int .i64 x.a.c, .int .u64 x.a.t, .string x.a.d, .int .i64 x.a.n, .int .i64 x.a.mk, .int .i64 x.a.mt, .int .u64 x.a.mh, .int .i64 x.a.pf, .int .u64 x.a.pq, .int .u64 x.a.pt, .string x.a.pd, .string x.a.mp, .slice x.A x.a.ws.length x.c, .int .i64 0] 61))) := Lib.hid (Kq.below_alloc _ _)
          have HSRC : Hid (Src Try.prog 15 56 (.slice (some ⟨w4.heap.size, 0, none⟩) 1 1) 1 (enE.flat [z]) (w4.alloc (.cells #[.int .i64 x.a.k, .int .i64 x.a.c, .int .u64 x.a.t, .string x.a.d, .int .i64 x.a.n, .int .i64 x.a.mk, .int .i64 x.a.mt, .int .u64 x.a.mh, .int .i64 x.a.pf, .int .u64 x.a.pq, .int .u64 x.a.pt, .string x.a.pd, .string x.a.mp, .slice x.A x.a.ws.length x.c, .int .i64 0] 61))) := Lib.hid (by rw [hz]; exact Kq.Elt.At.src Try.underlying56 (E := enE) 1 (Kq.Elt.made_one (E := enE) ⟨x.a, x.A, x.c, 0⟩ w4 61))
          have HZ : Hid (z.a = x.a ∧ z.e = 0 ∧ z.sl = x.sl) := Lib.hid ⟨by rw [hz], by rw [hz], by rw [hz]; rfl⟩
          have HOW : Hid ((w4.alloc (.cells #[.int .i64 x.a.k, .int .i64 x.a.c, .int .u64 x.a.t, .string x.a.d, .int .i64 x.a.n, .int .i64 x.a.mk, .int .i64 x.a.mt, .int .u64 x.a.mh, .int .i64 x.a.pf, .int .u64 x.a.pq, .int .u64 x.a.pt, .string x.a.pd, .string x.a.mp, .slice x.A x.a.ws.length x.c, .int .i64 0] 61)).ownsRow w2.heap.size 61 15 u8 xs.length (enE.flat xs) ∧ w2.heap.size ≤ (w4.alloc (.cells #[.int .i64 x.a.k, .int .i64 x.a.c, .int .u64 x.a.t, .string x.a.d, .int .i64 x.a.n, .int .i64 x.a.mk, .int .i64 x.a.mt, .int .u64 x.a.mh, .int .i64 x.a.pf, .int .u64 x.a.pq, .int .u64 x.a.pt, .string x.a.pd, .string x.a.mp, .slice x.A x.a.ws.length x.c, .int .i64 0] 61)).heap.size ∧ xs.length ≤ 60) := Lib.hid (by
            have hb := H4.out.2.trans (HB8.out.mono H4.out.2.size)
            exact ⟨own_later HH.out.1 (fun k hk => hb.block k (HH.out.1.lt k hk).2), Nat.le_trans HH.out.2.2.2.size hb.size, by have := HH.out.2.2.1; omega⟩)
          have HTA : Hid (txt T ++ txt (encA x.a) = txt (T ++ encA x.a)) := Lib.hid (txt_appS _ _ HTX.out.2.1 (encA_lt _ HPO.out))
          have ss : (txt T).size + (txt (encA x.a)).size ≤ 9223372036854775807 := by
            have h1 := HTX.out.2.2
            have h2 := encA_len x.a HPO.out
            rw [txt_size, txt_size]
            omega
          have c0 : w4.cell? ⟨b, o + j * 14, none⟩ = some (.int .i64 x.a.k) := HC.out w4 H4.out.1 0 (by decide)
          have c1 : w4.cell? ⟨b, o + j * 14 + 1, none⟩ = some (.int .i64 x.a.c) := HC.out w4 H4.out.1 1 (by decide)
          have c2 : w4.cell? ⟨b, o + j * 14 + 2, none⟩ = some (.int .u64 x.a.t) := HC.out w4 H4.out.1 2 (by decide)
          have c3 : w4.cell? ⟨b, o + j * 14 + 3, none⟩ = some (.string x.a.d) := HC.out w4 H4.out.1 3 (by decide)
          have c4 : w4.cell? ⟨b, o + j * 14 + 4, none⟩ = some (.int .i64 x.a.n) := HC.out w4 H4.out.1 4 (by decide)
          have c5 : w4.cell? ⟨b, o + j * 14 + 5, none⟩ = some (.int .i64 x.a.mk) := HC.out w4 H4.out.1 5 (by decide)
          have c6 : w4.cell? ⟨b, o + j * 14 + 6, none⟩ = some (.int .i64 x.a.mt) := HC.out w4 H4.out.1 6 (by decide)
          have c7 : w4.cell? ⟨b, o + j * 14 + 7, none⟩ = some (.int .u64 x.a.mh) := HC.out w4 H4.out.1 7 (by decide)
          have c8 : w4.cell? ⟨b, o + j * 14 + 8, none⟩ = some (.int .i64 x.a.pf) := HC.out w4 H4.out.1 8 (by decide)
          have c9 : w4.cell? ⟨b, o + j * 14 + 9, none⟩ = some (.int .u64 x.a.pq) := HC.out w4 H4.out.1 9 (by decide)
          have c10 : w4.cell? ⟨b, o + j * 14 + 10, none⟩ = some (.int .u64 x.a.pt) := HC.out w4 H4.out.1 10 (by decide)
          have c11 : w4.cell? ⟨b, o + j * 14 + 11, none⟩ = some (.string x.a.pd) := HC.out w4 H4.out.1 11 (by decide)
          have c12 : w4.cell? ⟨b, o + j * 14 + 12, none⟩ = some (.string x.a.mp) := HC.out w4 H4.out.1 12 (by decide)
          have c13 : w4.cell? ⟨b, o + j * 14 + 13, none⟩ = some (.slice x.A x.a.ws.length x.c) := HC.out w4 H4.out.1 13 (by decide)
          clear hz
          go_wp2_with (at_builtin; refine Kq.wpList_append_any _ rfl (.tmp 52) (.tmp 58) 56 56 rfl w2.heap.size 61 i0 (.agg ⟨SaV.zero.cells (.slice none 0 0) [.int .i64 0]⟩) 15 160 Try.underlying56 hi0 hz0 hz1 hz2 rfl (by decide) u8 xs.length (enE.flat xs) rfl HOW.out.1 (.slice (some ⟨w4.heap.size, 0, none⟩) 1 1) 1 (enE.flat [z]) rfl HSRC.out ?h1 ?h2 HOW.out.2.1 ?h4)
          case h1 => have := HOW.out.2.2; unfold maxLen; omega
          case h2 => have := HOW.out.2.2; omega
          case h4 =>
            intro v' z3 hown3 hgrow hfresh
            have H5 : Hid (z3.ownsRow w2.heap.size 61 15 v' (xs ++ [z]).length (enE.flat (xs ++ [z])) ∧ Below w2.heap.size w2 z3) := Lib.hid (by
              refine ⟨by rw [List.length_append, Kq.Elt.flat_append]; exact hown3, ?_⟩
              have kg : Kq.Keeps (fun k => w2.heap.size ≤ k) w4 z3 := (keeps_any HB8.out).trans (Kq.Keeps.grown hgrow (fun k _ hk => own_ge HH.out.1 hk))
              exact (((keeps_any (S := fun k => w2.heap.size ≤ k) HH.out.2.2.2).trans (keeps_any H4.out.2)).trans kg).below (Nat.le_refl _) (fun k hk h => by omega))
            clear hown3 hgrow hfresh HSRC HOW HB8 c0 c1 c2 c3 c4 c5 c6 c7 c8 c9 c10 c11 c12 c13 ss
            rw [HTA.out]
            go_wp2
            go_roundw
            case rel =>
              refine ⟨j + 1, xs ++ [z], HLT.out, by go_num, ?_, H5.out.1, fun y hy => ?_, ?_, H5.out.2⟩
              · rw [HTX.out.1]
                show Value.string (txt ((KpX xs).flatMap encA ++ encA x.a)) = Value.string (txt ((KpX (xs ++ [z])).flatMap encA))
                have : (KpX (xs ++ [z])).flatMap encA = (KpX xs).flatMap encA ++ encA x.a := by
                  simp only [KpX, List.map_append, List.map_cons, List.map_nil, List.flatMap_append, List.flatMap_cons, List.flatMap_nil, List.append_nil, HZ.out.1]
                rw [this]
              · rcases List.mem_append.1 hy with h | h
                · exact HH.out.2.1 y h
                · rw [List.mem_singleton.1 h]
                  refine ⟨by rw [HZ.out.1]; exact HPO.out, HZ.out.2.1, by rw [HZ.out.2.2, HZ.out.1]; exact HW.out.1, by rw [HZ.out.1]; exact HF.out.2.2.2⟩
              · rw [List.length_append]
                have := HH.out.2.2.1
                show xs.length + 1 ≤ j + 1
                omega
            case measure => have := HLT.out; simp [intOf]; omega
        · obtain ⟨e, he, rfl⟩ := p2 hpo
          have te : (e == 0) = false := by simp [he]
          have H5 : Hid (Below w2.heap.size w2 w4) := Lib.hid (HH.out.2.2.2.trans (H4.out.2.mono HH.out.2.2.2.size))
          clear p1 p2 hpo b4 HP he
          go_wp2
          go_roundw
          case rel => exact ⟨j + 1, xs, HLT.out, by go_num, by rw [HTX.out.1], own_later HH.out.1 (fun k hk => H4.out.2.block k (HH.out.1.lt k hk).2), HH.out.2.1, by have := HH.out.2.2.1; omega, H5.out⟩
          case measure => have := HLT.out; simp [intOf]; omega
      · have d0 : decide (fewA x.a) = false := decide_eq_false hf
        rw [d0]
        clear hf d0
        go_wp2
        go_ret
        exact ⟨rfl, H3.out.2⟩
    · obtain rfl : j = l.length := by omega
      have t1 : decide ((l.length : Int) < (l.length : Int)) = false := decide_eq_false (by omega)
      have t2 : decide (l.length < l.length) = false := decide_eq_false hlt
      obtain ⟨A6, c6, rfl, -, hat6, -, -⟩ := Kq.Elt.own_at (E := enE) HH.out.1
      have HAT := Lib.hid hat6
      have HXS : Hid ((KpX xs).map (fun a => (a, (0 : Int))) = xs.map EnX.out ∧ (∀ a ∈ KpX xs, PutOk a) ∧ EnsFew xs) := Lib.hid (by
        refine ⟨?_, fun a ha => ?_, fun x hx => by have := (HH.out.2.1 x hx).2.2.2; omega⟩
        · unfold KpX
          rw [List.map_map]
          refine List.map_congr_left (fun x hx => ?_)
          show (x.a, (0 : Int)) = (x.a, x.e)
          rw [(HH.out.2.1 x hx).2.1]
        · obtain ⟨x, hx, rfl⟩ := List.mem_map.1 ha
          exact (HH.out.2.1 x hx).1)
      clear hlt hj hat6
      go_wp2_with fail
      refine (sc_entries (txt T) wr (by rw [txt_size]; have := HTX.out.2.2; omega)).mono ?_
      rintro y w5 ⟨A5, c5, ys, rfl, hat5, hmap5, b5⟩
      have H5 : Hid (EnsAt w5 A5 ys ∧ ys.map EnX.out = xs.map EnX.out ∧ Below wr.heap.size wr w5) := Lib.hid ⟨hat5, by rw [hmap5, HTX.out.1, ents_back _ HXS.out.2.1, HXS.out.1], b5⟩
      have H5L : Hid (ys.length ≤ 100000000 ∧ EnsFew ys) := Lib.hid (by
        have h1 := congrArg List.length H5.out.2.1
        rw [List.length_map, List.length_map] at h1
        refine ⟨by have := HH.out.2.2.1; omega, fun y hy => ?_⟩
        have h2 : y.out ∈ xs.map EnX.out := by rw [← H5.out.2.1]; exact List.mem_map.2 ⟨y, hy, rfl⟩
        obtain ⟨x, hx, he⟩ := List.mem_map.1 h2
        have h3 : x.a = y.a := congrArg Prod.fst he
        rw [← h3]
        exact HXS.out.2.2 x hx)
      have HX5 : Hid (EnsAt w5 A6 xs) := Lib.hid ⟨HAT.out.below b5, fun x hx => (HH.out.2.1 x hx).2.2.1.keeps (S := fun _ => False) (keeps_any (H2.out.2.trans ((HH.out.2.2.2.trans (b5.mono HH.out.2.2.2.size)).mono H2.out.2.size))) (fun _ _ => id)⟩
      clear hat5 hmap5 b5 t1 t2
      go_wp2_with fail
      refine (lw_entries A5 A6 c5 c6 ys xs w5 H5.out.1 HX5.out H5L.out.2 HXS.out.2.2 H5L.out.1).mono ?_
      rintro y w6 ⟨rfl, b6⟩
      have d0 : decide (ys.map EnX.out = xs.map EnX.out) = true := decide_eq_true H5.out.2.1
      rw [d0]
      have H6 : Hid (Below w2.heap.size w2 w6 ∧ w6.heap[C]? = some (.cells #[.int .i64 c.sec, .int .i64 c.secs, .int .i64 c.tb, .int .i64 c.bt, .int .i64 c.sc, .int .u64 c.h0, .int .u64 c.h1, .int .u64 c.s0, .int .u64 c.s1] 32 (0, 0)) ∧ Below W.heap.size W w6) := Lib.hid (by
        have hb := HH.out.2.2.2.trans ((H5.out.2.2.trans (b6.mono H5.out.2.2.size)).mono HH.out.2.2.2.size)
        exact ⟨hb, Kq.below_blk hb H2.out.1 (Kq.blk_lt H2.out.1), H2.out.2.trans (hb.mono H2.out.2.size)⟩)
      clear b6 d0
      have k0 : w6.cell? ⟨C, 0, none⟩ = some (.int .i64 c.sec) := Kq.blk_cell H6.out.2.1 0
      have k1 : w6.cell? ⟨C, 1, none⟩ = some (.int .i64 c.secs) := Kq.blk_cell H6.out.2.1 1
      have k2 : w6.cell? ⟨C, 2, none⟩ = some (.int .i64 c.tb) := Kq.blk_cell H6.out.2.1 2
      have k3 : w6.cell? ⟨C, 3, none⟩ = some (.int .i64 c.bt) := Kq.blk_cell H6.out.2.1 3
      have k4 : w6.cell? ⟨C, 4, none⟩ = some (.int .i64 c.sc) := Kq.blk_cell H6.out.2.1 4
      have k5 : w6.cell? ⟨C, 5, none⟩ = some (.int .u64 c.h0) := Kq.blk_cell H6.out.2.1 5
      have k6 : w6.cell? ⟨C, 6, none⟩ = some (.int .u64 c.h1) := Kq.blk_cell H6.out.2.1 6
      have k7 : w6.cell? ⟨C, 7, none⟩ = some (.int .u64 c.s0) := Kq.blk_cell H6.out.2.1 7
      have k8 : w6.cell? ⟨C, 8, none⟩ = some (.int .u64 c.s1) := Kq.blk_cell H6.out.2.1 8
      go_wp2_with fail
      clear k0 k1 k2 k3 k4 k5 k6 k7 k8
      refine (sc_putConfig c HA.out.2 w6).mono ?_
      rintro y w7 ⟨b7, p1, p2⟩
      have H7 : Hid (w7.heap[C]? = some (.cells #[.int .i64 c.sec, .int .i64 c.secs, .int .i64 c.tb, .int .i64 c.bt, .int .i64 c.sc, .int .u64 c.h0, .int .u64 c.h1, .int .u64 c.s0, .int .u64 c.s1] 32 (0, 0)) ∧ Below W.heap.size W w7) := Lib.hid ⟨Kq.below_blk b7 H6.out.2.1 (Kq.blk_lt H6.out.2.1), H6.out.2.2.trans (b7.mono H6.out.2.2.size)⟩
      by_cases hck : c.ok
      · obtain rfl := p1 hck
        have HCK := Lib.hid hck
        clear p1 p2 hck b7
        have ss : (txt c.enc).size + more.size ≤ 9223372036854775807 := by rw [txt_size, c.enc_len]; have := HL.out.2; omega
        have HTM : Hid (txt c.enc ++ more = txt (c.enc ++ nl more)) := Lib.hid (by rw [← txt_appS _ _ (CoV.enc_lt c HCK.out) (nl_lt more), txt_nlS])
        have HCF : Hid (cfgF (txt (c.enc ++ nl more)) = (c, 0, more)) := Lib.hid (by rw [cfg_back c HA.out.2 HCK.out _ (nl_lt more), txt_nlS])
        go_wp2_with fail
        rw [HTM.out]
        refine (sc_config (txt (c.enc ++ nl more)) w7 (by rw [txt_size, List.length_append, c.enc_len, nl_length]; have := HL.out.2; omega)).mono ?_
        rintro y w8 ⟨b8, q1, -⟩
        rw [HCF.out] at q1
        have q2 : y = .returned (.tuple #[.agg #[.int .i64 c.sec, .int .i64 c.secs, .int .i64 c.tb, .int .i64 c.bt, .int .i64 c.sc, .int .u64 c.h0, .int .u64 c.h1, .int .u64 c.s0, .int .u64 c.s1], .string more, .int .i64 0]) := q1 rfl
        obtain rfl := q2
        have H8 : Hid (w8.heap[C]? = some (.cells #[.int .i64 c.sec, .int .i64 c.secs, .int .i64 c.tb, .int .i64 c.bt, .int .i64 c.sc, .int .u64 c.h0, .int .u64 c.h1, .int .u64 c.s0, .int .u64 c.s1] 32 (0, 0)) ∧ Below W.heap.size W w8) := Lib.hid ⟨Kq.below_blk b8 H7.out.1 (Kq.blk_lt H7.out.1), H7.out.2.trans (b8.mono H7.out.2.size)⟩
        clear b8 q1 ss
        obtain ⟨w9, hw9⟩ : ∃ z, z = w8.alloc (.cells #[.int .i64 c.sec, .int .i64 c.secs, .int .i64 c.tb, .int .i64 c.bt, .int .i64 c.sc, .int .u64 c.h0, .int .u64 c.h1, .int .u64 c.s0, .int .u64 c.s1] 32) := ⟨_, rfl⟩
        obtain ⟨D, hD⟩ : ∃ z, z = w8.heap.size := ⟨_, rfl⟩
        have H9 : Hid (w9.heap[C]? = some (.cells #[.int .i64 c.sec, .int .i64 c.secs, .int .i64 c.tb, .int .i64 c.bt, .int .i64 c.sc, .int .u64 c.h0, .int .u64 c.h1, .int .u64 c.s0, .int .u64 c.s1] 32 (0, 0)) ∧ w9.heap[D]? = some (.cells #[.int .i64 c.sec, .int .i64 c.secs, .int .i64 c.tb, .int .i64 c.bt, .int .i64 c.sc, .int .u64 c.h0, .int .u64 c.h1, .int .u64 c.s0, .int .u64 c.s1] 32 (0, 0)) ∧ Below W.heap.size W w9) := Lib.hid (by
          have hb : Below w8.heap.size w8 w9 := by rw [hw9]; exact Kq.below_alloc _ _
          exact ⟨Kq.below_blk hb H8.out.1 (Kq.blk_lt H8.out.1), by rw [hw9, hD]; exact Kq.blk_new _ _ _ _, H8.out.2.trans (hb.mono H8.out.2.size)⟩)
        have k0 : w9.cell? ⟨C, 0, none⟩ = some (.int .i64 c.sec) := Kq.blk_cell H9.out.1 0
        have k1 : w9.cell? ⟨C, 1, none⟩ = some (.int .i64 c.secs) := Kq.blk_cell H9.out.1 1
        have k2 : w9.cell? ⟨C, 2, none⟩ = some (.int .i64 c.tb) := Kq.blk_cell H9.out.1 2
        have k3 : w9.cell? ⟨C, 3, none⟩ = some (.int .i64 c.bt) := Kq.blk_cell H9.out.1 3
        have k4 : w9.cell? ⟨C, 4, none⟩ = some (.int .i64 c.sc) := Kq.blk_cell H9.out.1 4
        have k5 : w9.cell? ⟨C, 5, none⟩ = some (.int .u64 c.h0) := Kq.blk_cell H9.out.1 5
        have k6 : w9.cell? ⟨C, 6, none⟩ = some (.int .u64 c.h1) := Kq.blk_cell H9.out.1 6
        have k7 : w9.cell? ⟨C, 7, none⟩ = some (.int .u64 c.s0) := Kq.blk_cell H9.out.1 7
        have k8 : w9.cell? ⟨C, 8, none⟩ = some (.int .u64 c.s1) := Kq.blk_cell H9.out.1 8
        have d0 : w9.cell? ⟨D, 0, none⟩ = some (.int .i64 c.sec) := Kq.blk_cell H9.out.2.1 0
        have d1 : w9.cell? ⟨D, 1, none⟩ = some (.int .i64 c.secs) := Kq.blk_cell H9.out.2.1 1
        have d2 : w9.cell? ⟨D, 2, none⟩ = some (.int .i64 c.tb) := Kq.blk_cell H9.out.2.1 2
        have d3 : w9.cell? ⟨D, 3, none⟩ = some (.int .i64 c.bt) := Kq.blk_cell H9.out.2.1 3
        have d4 : w9.cell? ⟨D, 4, none⟩ = some (.int .i64 c.sc) := Kq.blk_cell H9.out.2.1 4
        have d5 : w9.cell? ⟨D, 5, none⟩ = some (.int .u64 c.h0) := Kq.blk_cell H9.out.2.1 5
        have d6 : w9.cell? ⟨D, 6, none⟩ = some (.int .u64 c.h1) := Kq.blk_cell H9.out.2.1 6
        have d7 : w9.cell? ⟨D, 7, none⟩ = some (.int .u64 c.s0) := Kq.blk_cell H9.out.2.1 7
        have d8 : w9.cell? ⟨D, 8, none⟩ = some (.int .u64 c.s1) := Kq.blk_cell H9.out.2.1 8
        have hq := cfg_eql c HA.out.2
        have hqm : (more.toList == more.toList) = true := beq_self_eq_true _
        rw [hw9] at k0 k1 k2 k3 k4 k5 k6 k7 k8 d0 d1 d2 d3 d4 d5 d6 d7 d8
        rw [hD] at d0 d1 d2 d3 d4 d5 d6 d7 d8
        go_wp2
        go_ret
        exact ⟨rfl, by rw [← hw9]; exact H9.out.2.2⟩
      · obtain rfl := p2 hck
        have hq0 : ((⟨#[]⟩ : ByteArray).toList == (⟨#[]⟩ : ByteArray).toList) = true := beq_self_eq_true _
        clear p1 p2 hck b7
        go_wp2
        go_ret
        exact ⟨rfl, H7.out.2⟩
theorem scriptBack_walk {W : World} (v0 v1 : Value) (a2 : ByteArray) (hd0 : ∃ A cap, ∃ l : List EnX, v0 = .slice A l.length cap ∧ ActsAt W A l) (hd1 : ∃ c : CoV, v1 = .agg #[.int .i64 c.sec, .int .i64 c.secs, .int .i64 c.tb, .int .i64 c.bt, .int .i64 c.sc, .int .u64 c.h0, .int .u64 c.h1, .int .u64 c.s0, .int .u64 c.s1] ∧ c.wf) (w2 : a2.size ≤ maxLen) :
    Calls Try.prog 5 #[v0, v1, .string a2] W fun x w' => x = .returned (.bool true) ∧ Below W.heap.size W w' := by
  obtain ⟨A, cap, l, rfl, hA⟩ := hd0
  obtain ⟨c, rfl, hc⟩ := hd1
  exact scriptBack.main A cap l c a2 W hA hc
end Go.Proofs.Ytjilbcefikbihaa
