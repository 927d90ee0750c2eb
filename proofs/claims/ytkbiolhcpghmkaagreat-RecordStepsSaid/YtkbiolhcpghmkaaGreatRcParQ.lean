/- Merged: RcParse, RcPar. Contract of record's Parse on a record's own bytes. Condition: what stands there. Contract of record's Parse on a record's own bytes, of either kind. Condition: what stands there. -/
import Derived.WalkSpells
import Derived.Outline
import Derived.Test.YtkbiolhcpghmkaaGreatRcGet2Q
import Derived.Test.YtkbiolhcpghmkaaGreatRcBytesQ
namespace Go.Proofs.YtkbiolhcpghmkaaGreat
open Go.RowKit
set_option linter.unusedVariables false
set_option maxRecDepth 100000 in
set_option maxHeartbeats 4000000 in
theorem rec_parse1 (h0 i0 h1 i1 : Nat) (l : List NtV) (w : World) (hb0 : h0 < 18446744073709551616) (hb1 : h1 < 18446744073709551616) (hi0 : i0 ≤ 65535) (hi1 : i1 ≤ 65535) (hlw : ∀ n ∈ l, n.wf) (hl : l.length ≤ 40) (hok : ∀ n ∈ l, EnOk [1, 2] n) (hlt : ∀ b ∈ ([1] ++ (num8 h0 ++ (num8 i0 ++ (num8 h1 ++ (num8 i1 ++ ([l.length] ++ (encL l ++ []))))))), b < 256) (hlen : ([1] ++ (num8 h0 ++ (num8 i0 ++ (num8 h1 ++ (num8 i1 ++ ([l.length] ++ (encL l ++ []))))))).length ≤ 1000000) :
    Calls Tryz.prog 29 #[.string (txt ([1] ++ (num8 h0 ++ (num8 i0 ++ (num8 h1 ++ (num8 i1 ++ ([l.length] ++ (encL l ++ []))))))))] w fun x w' => ∃ A c, x = .returned (.tuple #[.agg #[.int .i64 1, .int .u64 (h0 : Int), .int .i64 (i0 : Int), .int .u64 (h1 : Int), .int .i64 (i1 : Int), .slice A l.length c, .int .i64 0, .int .u64 0, .int .i64 0, .slice none 0 0], .int .i64 0]) ∧ EnAt NtV.ic w' A l ∧ Below w.heap.size w w' := by
  have HH := Lib.hid (And.intro hb0 (And.intro hb1 (And.intro hi0 (And.intro hi1 (And.intro hlw (And.intro hl hok))))))
  have HL := Lib.hid (And.intro hlt hlen)
  have HNEW := Lib.hid (fun w1 => rl_new ([1] ++ (num8 h0 ++ (num8 i0 ++ (num8 h1 ++ (num8 i1 ++ ([l.length] ++ (encL l ++ []))))))) w1 hlt hlen)
  obtain ⟨S, hS⟩ : ∃ S, S = txt ([1] ++ (num8 h0 ++ (num8 i0 ++ (num8 h1 ++ (num8 i1 ++ ([l.length] ++ (encL l ++ []))))))) := ⟨_, rfl⟩
  rw [← hS] at HNEW ⊢
  clear hS
  obtain ⟨w1, hw1⟩ : ∃ z, z = w.alloc (.cells #[.int .i64 0, .int .u64 0, .int .i64 0, .int .u64 0, .int .i64 0, .slice none 0 0, .int .i64 0, .int .u64 0, .int .i64 0, .slice none 0 0] 31) := ⟨_, rfl⟩
  have H1 : Hid (Below w.heap.size w w1 ∧ w1.heap[w.heap.size]? = some (.cells #[.int .i64 0, .int .u64 0, .int .i64 0, .int .u64 0, .int .i64 0, .slice none 0 0, .int .i64 0, .int .u64 0, .int .i64 0, .slice none 0 0] 31 (0, 0)) ∧ w1.heap.size = w.heap.size + 1) := Lib.hid (by
    have ha := Kq.below_alloc w (.cells #[.int .i64 0, .int .u64 0, .int .i64 0, .int .u64 0, .int .i64 0, .slice none 0 0, .int .i64 0, .int .u64 0, .int .i64 0, .slice none 0 0] 31)
    have hra := Kq.blk_new w #[.int .i64 0, .int .u64 0, .int .i64 0, .int .u64 0, .int .i64 0, .slice none 0 0, .int .i64 0, .int .u64 0, .int .i64 0, .slice none 0 0] 31 (0, 0)
    rw [← hw1] at ha hra
    exact ⟨ha, hra, by rw [hw1]; simp⟩)
  clear hb0 hb1 hi0 hi1 hlw hl hok hlt hlen
  go_enter Tryz.func29, Tryz.ntmps29
  go_wp2_with fail
  rw [← hw1]
  clear hw1
  refine (HNEW.out w1).mono ?_
  rintro x w2 ⟨rfl, hr2, b2⟩
  rw [H1.out.2.2] at hr2 ⊢
  have H2 : Hid (RdL w2 (w.heap.size + 1) ([1] ++ (num8 h0 ++ (num8 i0 ++ (num8 h1 ++ (num8 i1 ++ ([l.length] ++ (encL l ++ []))))))) ∧ Below w.heap.size w w2 ∧ w2.heap[w.heap.size]? = some (.cells #[.int .i64 0, .int .u64 0, .int .i64 0, .int .u64 0, .int .i64 0, .slice none 0 0, .int .i64 0, .int .u64 0, .int .i64 0, .slice none 0 0] 31 (0, 0))) := Lib.hid ⟨hr2, H1.out.1.trans (b2.mono H1.out.1.size), Kq.below_blk b2 H1.out.2.1 (Kq.blk_lt H1.out.2.1)⟩
  clear hr2 b2 H1
  go_wp2_with fail
  refine (rec_get1 (w.heap.size + 1) h0 i0 h1 i1 l [] w2 H2.out.1 HH.out.1 HH.out.2.1 HH.out.2.2.1 HH.out.2.2.2.1 HH.out.2.2.2.2.1 HH.out.2.2.2.2.2.1 HH.out.2.2.2.2.2.2).mono ?_
  rintro x w3 ⟨A, c, rfl, hat, hr3, k3, hfr⟩
  have hb4 := Kq.below_alloc w3 (.cells #[.int .i64 1, .int .u64 (h0 : Int), .int .i64 (i0 : Int), .int .u64 (h1 : Int), .int .i64 (i1 : Int), .slice A l.length c, .int .i64 0, .int .u64 0, .int .i64 0, .slice none 0 0] 31)
  have hr4 := Kq.blk_new w3 #[.int .i64 1, .int .u64 (h0 : Int), .int .i64 (i0 : Int), .int .u64 (h1 : Int), .int .i64 (i1 : Int), .slice A l.length c, .int .i64 0, .int .u64 0, .int .i64 0, .slice none 0 0] 31 (0, 0)
  have hx3 := k3.blk H2.out.2.2 (fun e => by have e2 : w.heap.size = w.heap.size + 1 := e; omega)
  have H4 : Hid (EnAt NtV.ic (w3.alloc (.cells #[.int .i64 1, .int .u64 (h0 : Int), .int .i64 (i0 : Int), .int .u64 (h1 : Int), .int .i64 (i1 : Int), .slice A l.length c, .int .i64 0, .int .u64 0, .int .i64 0, .slice none 0 0] 31)) A l ∧ RdL (w3.alloc (.cells #[.int .i64 1, .int .u64 (h0 : Int), .int .i64 (i0 : Int), .int .u64 (h1 : Int), .int .i64 (i1 : Int), .slice A l.length c, .int .i64 0, .int .u64 0, .int .i64 0, .slice none 0 0] 31)) (w.heap.size + 1) [] ∧ Below w.heap.size w (w3.alloc (.cells #[.int .i64 1, .int .u64 (h0 : Int), .int .i64 (i0 : Int), .int .u64 (h1 : Int), .int .i64 (i1 : Int), .slice A l.length c, .int .i64 0, .int .u64 0, .int .i64 0, .slice none 0 0] 31)) ∧ (w3.alloc (.cells #[.int .i64 1, .int .u64 (h0 : Int), .int .i64 (i0 : Int), .int .u64 (h1 : Int), .int .i64 (i1 : Int), .slice A l.length c, .int .i64 0, .int .u64 0, .int .i64 0, .slice none 0 0] 31)).heap[w.heap.size]? = some (.cells #[.int .i64 0, .int .u64 0, .int .i64 0, .int .u64 0, .int .i64 0, .slice none 0 0, .int .i64 0, .int .u64 0, .int .i64 0, .slice none 0 0] 31 (0, 0)) ∧ (w3.alloc (.cells #[.int .i64 1, .int .u64 (h0 : Int), .int .i64 (i0 : Int), .int .u64 (h1 : Int), .int .i64 (i1 : Int), .slice A l.length c, .int .i64 0, .int .u64 0, .int .i64 0, .slice none 0 0] 31)).heap[w3.heap.size]? = some (.cells #[.int .i64 1, .int .u64 (h0 : Int), .int .i64 (i0 : Int), .int .u64 (h1 : Int), .int .i64 (i1 : Int), .slice A l.length c, .int .i64 0, .int .u64 0, .int .i64 0, .slice none 0 0] 31 (0, 0)) ∧ w.heap.size < w3.heap.size ∧ ∀ b off, A = some ⟨b, off, none⟩ → w.heap.size < b) := Lib.hid ⟨hat.below hb4, hr3.below hb4, (H2.out.2.1.trans (k3.below H2.out.2.1.size (fun k _ e => by have e2 : k = w.heap.size + 1 := e; omega))).trans (hb4.mono (Nat.le_trans H2.out.2.1.size k3.size)), Kq.below_blk hb4 hx3 (Kq.blk_lt hx3), hr4, Kq.blk_lt hx3, fun b off e => Nat.lt_of_lt_of_le (Kq.blk_lt H2.out.2.2) (hfr b off e)⟩
  clear hat hfr hr3 k3 hb4 hr4 hx3 H2
  go_wp2_with fail
  obtain ⟨w4, hw4⟩ : ∃ z, z = w3.alloc (.cells #[.int .i64 1, .int .u64 (h0 : Int), .int .i64 (i0 : Int), .int .u64 (h1 : Int), .int .i64 (i1 : Int), .slice A l.length c, .int .i64 0, .int .u64 0, .int .i64 0, .slice none 0 0] 31) := ⟨_, rfl⟩
  rw [← hw4] at H4 ⊢
  clear hw4
  refine (rl_end (w.heap.size + 1) w4 H4.out.2.1).mono ?_
  rintro x w5 ⟨rfl, hw5⟩
  subst hw5
  have t0 := Kq.blk_cell H4.out.2.2.2.2.1 0
  have t1 := Kq.blk_cell H4.out.2.2.2.2.1 1
  have t2 := Kq.blk_cell H4.out.2.2.2.2.1 2
  have t3 := Kq.blk_cell H4.out.2.2.2.2.1 3
  have t4 := Kq.blk_cell H4.out.2.2.2.2.1 4
  have t5 := Kq.blk_cell H4.out.2.2.2.2.1 5
  have t6 := Kq.blk_cell H4.out.2.2.2.2.1 6
  have t7 := Kq.blk_cell H4.out.2.2.2.2.1 7
  have t8 := Kq.blk_cell H4.out.2.2.2.2.1 8
  have t9 := Kq.blk_cell H4.out.2.2.2.2.1 9
  have r0 := Kq.blk_cell H4.out.2.2.2.1 0
  have u0 := Kq.blk_free H4.out.2.2.2.1 0
  have r1 := Kq.blk_cell H4.out.2.2.2.1 1
  have u1 := Kq.blk_free H4.out.2.2.2.1 1
  have r2 := Kq.blk_cell H4.out.2.2.2.1 2
  have u2 := Kq.blk_free H4.out.2.2.2.1 2
  have r3 := Kq.blk_cell H4.out.2.2.2.1 3
  have u3 := Kq.blk_free H4.out.2.2.2.1 3
  have r4 := Kq.blk_cell H4.out.2.2.2.1 4
  have u4 := Kq.blk_free H4.out.2.2.2.1 4
  have r5 := Kq.blk_cell H4.out.2.2.2.1 5
  have u5 := Kq.blk_free H4.out.2.2.2.1 5
  have r6 := Kq.blk_cell H4.out.2.2.2.1 6
  have u6 := Kq.blk_free H4.out.2.2.2.1 6
  have r7 := Kq.blk_cell H4.out.2.2.2.1 7
  have u7 := Kq.blk_free H4.out.2.2.2.1 7
  have r8 := Kq.blk_cell H4.out.2.2.2.1 8
  have u8 := Kq.blk_free H4.out.2.2.2.1 8
  have r9 := Kq.blk_cell H4.out.2.2.2.1 9
  have u9 := Kq.blk_free H4.out.2.2.2.1 9
  go_wp2
  clear t0 r0 u0 t1 r1 u1 t2 r2 u2 t3 r3 u3 t4 r4 u4 t5 r5 u5 t6 r6 u6 t7 r7 u7 t8 r8 u8 t9 r9 u9
  change bodyPost _ _ _ _ _ (fillRc w4 w.heap.size (.int .i64 1) (.int .u64 (h0 : Int)) (.int .i64 (i0 : Int)) (.int .u64 (h1 : Int)) (.int .i64 (i1 : Int)) (.slice A l.length c) (.int .i64 0) (.int .u64 0) (.int .i64 0) (.slice none 0 0))
  have p1' := fillRc_blk H4.out.2.2.2.1 (.int .i64 1) (.int .u64 (h0 : Int)) (.int .i64 (i0 : Int)) (.int .u64 (h1 : Int)) (.int .i64 (i1 : Int)) (.slice A l.length c) (.int .i64 0) (.int .u64 0) (.int .i64 0) (.slice none 0 0)
  have p2' := fillRc_keeps w4 w.heap.size (.int .i64 1) (.int .u64 (h0 : Int)) (.int .i64 (i0 : Int)) (.int .u64 (h1 : Int)) (.int .i64 (i1 : Int)) (.slice A l.length c) (.int .i64 0) (.int .u64 0) (.int .i64 0) (.slice none 0 0)
  generalize fillRc w4 w.heap.size (.int .i64 1) (.int .u64 (h0 : Int)) (.int .i64 (i0 : Int)) (.int .u64 (h1 : Int)) (.int .i64 (i1 : Int)) (.slice A l.length c) (.int .i64 0) (.int .u64 0) (.int .i64 0) (.slice none 0 0) = z at *
  have t0 := Kq.blk_cell p1' 0
  have t1 := Kq.blk_cell p1' 1
  have t2 := Kq.blk_cell p1' 2
  have t3 := Kq.blk_cell p1' 3
  have t4 := Kq.blk_cell p1' 4
  have t5 := Kq.blk_cell p1' 5
  have t6 := Kq.blk_cell p1' 6
  have t7 := Kq.blk_cell p1' 7
  have t8 := Kq.blk_cell p1' 8
  have t9 := Kq.blk_cell p1' 9
  refine bodyPost_ret (v := .tuple #[.agg #[.int .i64 1, .int .u64 (h0 : Int), .int .i64 (i0 : Int), .int .u64 (h1 : Int), .int .i64 (i1 : Int), .slice A l.length c, .int .i64 0, .int .u64 0, .int .i64 0, .slice none 0 0], .int .i64 0]) (by simp [results, Tryz.results29, go_sem, t0, t1, t2, t3, t4, t5, t6, t7, t8, t9]) rfl ?_
  exact ⟨A, c, rfl, H4.out.1.keeps p2' (fun g o e h => by have h1 := H4.out.2.2.2.2.2.2 g o e; have h2 : g = w.heap.size := h; omega), H4.out.2.2.1.trans (p2'.below H4.out.2.2.1.size (fun k _ h => by have h2 : k = w.heap.size := h; omega))⟩
set_option maxRecDepth 100000 in
set_option maxHeartbeats 4000000 in
theorem rec_parse2 (cc h0 i0 : Nat) (l : List NtV) (w : World) (hb0 : h0 < 18446744073709551616) (hc : cc = 0 ∨ cc = 1) (hi0 : i0 ≤ 65535) (hlw : ∀ n ∈ l, n.wf) (hl : l.length ≤ 16) (hok : ∀ n ∈ l, EnOk [1, 2, 3, 4] n) (hlt : ∀ b ∈ ([2] ++ ([cc] ++ (num8 h0 ++ (num8 i0 ++ ([l.length] ++ (encL l ++ [])))))), b < 256) (hlen : ([2] ++ ([cc] ++ (num8 h0 ++ (num8 i0 ++ ([l.length] ++ (encL l ++ [])))))).length ≤ 1000000) :
    Calls Tryz.prog 29 #[.string (txt ([2] ++ ([cc] ++ (num8 h0 ++ (num8 i0 ++ ([l.length] ++ (encL l ++ [])))))))] w fun x w' => ∃ A c, x = .returned (.tuple #[.agg #[.int .i64 2, .int .u64 0, .int .i64 0, .int .u64 0, .int .i64 0, .slice none 0 0, .int .i64 (cc : Int), .int .u64 (h0 : Int), .int .i64 (i0 : Int), .slice A l.length c], .int .i64 0]) ∧ EnAt NtV.nc w' A l ∧ Below w.heap.size w w' := by
  have HH := Lib.hid (And.intro hb0 (And.intro hc (And.intro hi0 (And.intro hlw (And.intro hl hok)))))
  have HL := Lib.hid (And.intro hlt hlen)
  have HNEW := Lib.hid (fun w1 => rl_new ([2] ++ ([cc] ++ (num8 h0 ++ (num8 i0 ++ ([l.length] ++ (encL l ++ [])))))) w1 hlt hlen)
  obtain ⟨S, hS⟩ : ∃ S, S = txt ([2] ++ ([cc] ++ (num8 h0 ++ (num8 i0 ++ ([l.length] ++ (encL l ++ [])))))) := ⟨_, rfl⟩
  rw [← hS] at HNEW ⊢
  clear hS
  obtain ⟨w1, hw1⟩ : ∃ z, z = w.alloc (.cells #[.int .i64 0, .int .u64 0, .int .i64 0, .int .u64 0, .int .i64 0, .slice none 0 0, .int .i64 0, .int .u64 0, .int .i64 0, .slice none 0 0] 31) := ⟨_, rfl⟩
  have H1 : Hid (Below w.heap.size w w1 ∧ w1.heap[w.heap.size]? = some (.cells #[.int .i64 0, .int .u64 0, .int .i64 0, .int .u64 0, .int .i64 0, .slice none 0 0, .int .i64 0, .int .u64 0, .int .i64 0, .slice none 0 0] 31 (0, 0)) ∧ w1.heap.size = w.heap.size + 1) := Lib.hid (by
    have ha := Kq.below_alloc w (.cells #[.int .i64 0, .int .u64 0, .int .i64 0, .int .u64 0, .int .i64 0, .slice none 0 0, .int .i64 0, .int .u64 0, .int .i64 0, .slice none 0 0] 31)
    have hra := Kq.blk_new w #[.int .i64 0, .int .u64 0, .int .i64 0, .int .u64 0, .int .i64 0, .slice none 0 0, .int .i64 0, .int .u64 0, .int .i64 0, .slice none 0 0] 31 (0, 0)
    rw [← hw1] at ha hra
    exact ⟨ha, hra, by rw [hw1]; simp⟩)
  clear hb0 hc hi0 hlw hl hok hlt hlen
  go_enter Tryz.func29, Tryz.ntmps29
  go_wp2_with fail
  rw [← hw1]
  clear hw1
  refine (HNEW.out w1).mono ?_
  rintro x w2 ⟨rfl, hr2, b2⟩
  rw [H1.out.2.2] at hr2 ⊢
  have H2 : Hid (RdL w2 (w.heap.size + 1) ([2] ++ ([cc] ++ (num8 h0 ++ (num8 i0 ++ ([l.length] ++ (encL l ++ [])))))) ∧ Below w.heap.size w w2 ∧ w2.heap[w.heap.size]? = some (.cells #[.int .i64 0, .int .u64 0, .int .i64 0, .int .u64 0, .int .i64 0, .slice none 0 0, .int .i64 0, .int .u64 0, .int .i64 0, .slice none 0 0] 31 (0, 0))) := Lib.hid ⟨hr2, H1.out.1.trans (b2.mono H1.out.1.size), Kq.below_blk b2 H1.out.2.1 (Kq.blk_lt H1.out.2.1)⟩
  clear hr2 b2 H1
  go_wp2_with fail
  refine (rec_get2 (w.heap.size + 1) cc h0 i0 l [] w2 H2.out.1 HH.out.1 HH.out.2.1 HH.out.2.2.1 HH.out.2.2.2.1 HH.out.2.2.2.2.1 HH.out.2.2.2.2.2).mono ?_
  rintro x w3 ⟨A, c, rfl, hat, hr3, k3, hfr⟩
  have hb4 := Kq.below_alloc w3 (.cells #[.int .i64 2, .int .u64 0, .int .i64 0, .int .u64 0, .int .i64 0, .slice none 0 0, .int .i64 (cc : Int), .int .u64 (h0 : Int), .int .i64 (i0 : Int), .slice A l.length c] 31)
  have hr4 := Kq.blk_new w3 #[.int .i64 2, .int .u64 0, .int .i64 0, .int .u64 0, .int .i64 0, .slice none 0 0, .int .i64 (cc : Int), .int .u64 (h0 : Int), .int .i64 (i0 : Int), .slice A l.length c] 31 (0, 0)
  have hx3 := k3.blk H2.out.2.2 (fun e => by have e2 : w.heap.size = w.heap.size + 1 := e; omega)
  have H4 : Hid (EnAt NtV.nc (w3.alloc (.cells #[.int .i64 2, .int .u64 0, .int .i64 0, .int .u64 0, .int .i64 0, .slice none 0 0, .int .i64 (cc : Int), .int .u64 (h0 : Int), .int .i64 (i0 : Int), .slice A l.length c] 31)) A l ∧ RdL (w3.alloc (.cells #[.int .i64 2, .int .u64 0, .int .i64 0, .int .u64 0, .int .i64 0, .slice none 0 0, .int .i64 (cc : Int), .int .u64 (h0 : Int), .int .i64 (i0 : Int), .slice A l.length c] 31)) (w.heap.size + 1) [] ∧ Below w.heap.size w (w3.alloc (.cells #[.int .i64 2, .int .u64 0, .int .i64 0, .int .u64 0, .int .i64 0, .slice none 0 0, .int .i64 (cc : Int), .int .u64 (h0 : Int), .int .i64 (i0 : Int), .slice A l.length c] 31)) ∧ (w3.alloc (.cells #[.int .i64 2, .int .u64 0, .int .i64 0, .int .u64 0, .int .i64 0, .slice none 0 0, .int .i64 (cc : Int), .int .u64 (h0 : Int), .int .i64 (i0 : Int), .slice A l.length c] 31)).heap[w.heap.size]? = some (.cells #[.int .i64 0, .int .u64 0, .int .i64 0, .int .u64 0, .int .i64 0, .slice none 0 0, .int .i64 0, .int .u64 0, .int .i64 0, .slice none 0 0] 31 (0, 0)) ∧ (w3.alloc (.cells #[.int .i64 2, .int .u64 0, .int .i64 0, .int .u64 0, .int .i64 0, .slice none 0 0, .int .i64 (cc : Int), .int .u64 (h0 : Int), .int .i64 (i0 : Int), .slice A l.length c] 31)).heap[w3.heap.size]? = some (.cells #[.int .i64 2, .int .u64 0, .int .i64 0, .int .u64 0, .int .i64 0, .slice none 0 0, .int .i64 (cc : Int), .int .u64 (h0 : Int), .int .i64 (i0 : Int), .slice A l.length c] 31 (0, 0)) ∧ w.heap.size < w3.heap.size ∧ ∀ b off, A = some ⟨b, off, none⟩ → w.heap.size < b) := Lib.hid ⟨hat.below hb4, hr3.below hb4, (H2.out.2.1.trans (k3.below H2.out.2.1.size (fun k _ e => by have e2 : k = w.heap.size + 1 := e; omega))).trans (hb4.mono (Nat.le_trans H2.out.2.1.size k3.size)), Kq.below_blk hb4 hx3 (Kq.blk_lt hx3), hr4, Kq.blk_lt hx3, fun b off e => Nat.lt_of_lt_of_le (Kq.blk_lt H2.out.2.2) (hfr b off e)⟩
  clear hat hfr hr3 k3 hb4 hr4 hx3 H2
  go_wp2_with fail
  obtain ⟨w4, hw4⟩ : ∃ z, z = w3.alloc (.cells #[.int .i64 2, .int .u64 0, .int .i64 0, .int .u64 0, .int .i64 0, .slice none 0 0, .int .i64 (cc : Int), .int .u64 (h0 : Int), .int .i64 (i0 : Int), .slice A l.length c] 31) := ⟨_, rfl⟩
  rw [← hw4] at H4 ⊢
  clear hw4
  refine (rl_end (w.heap.size + 1) w4 H4.out.2.1).mono ?_
  rintro x w5 ⟨rfl, hw5⟩
  subst hw5
  have t0 := Kq.blk_cell H4.out.2.2.2.2.1 0
  have t1 := Kq.blk_cell H4.out.2.2.2.2.1 1
  have t2 := Kq.blk_cell H4.out.2.2.2.2.1 2
  have t3 := Kq.blk_cell H4.out.2.2.2.2.1 3
  have t4 := Kq.blk_cell H4.out.2.2.2.2.1 4
  have t5 := Kq.blk_cell H4.out.2.2.2.2.1 5
  have t6 := Kq.blk_cell H4.out.2.2.2.2.1 6
  have t7 := Kq.blk_cell H4.out.2.2.2.2.1 7
  have t8 := Kq.blk_cell H4.out.2.2.2.2.1 8
  have t9 := Kq.blk_cell H4.out.2.2.2.2.1 9
  have r0 := Kq.blk_cell H4.out.2.2.2.1 0
  have u0 := Kq.blk_free H4.out.2.2.2.1 0
  have r1 := Kq.blk_cell H4.out.2.2.2.1 1
  have u1 := Kq.blk_free H4.out.2.2.2.1 1
  have r2 := Kq.blk_cell H4.out.2.2.2.1 2
  have u2 := Kq.blk_free H4.out.2.2.2.1 2
  have r3 := Kq.blk_cell H4.out.2.2.2.1 3
  have u3 := Kq.blk_free H4.out.2.2.2.1 3
  have r4 := Kq.blk_cell H4.out.2.2.2.1 4
  have u4 := Kq.blk_free H4.out.2.2.2.1 4
  have r5 := Kq.blk_cell H4.out.2.2.2.1 5
  have u5 := Kq.blk_free H4.out.2.2.2.1 5
  have r6 := Kq.blk_cell H4.out.2.2.2.1 6
  have u6 := Kq.blk_free H4.out.2.2.2.1 6
  have r7 := Kq.blk_cell H4.out.2.2.2.1 7
  have u7 := Kq.blk_free H4.out.2.2.2.1 7
  have r8 := Kq.blk_cell H4.out.2.2.2.1 8
  have u8 := Kq.blk_free H4.out.2.2.2.1 8
  have r9 := Kq.blk_cell H4.out.2.2.2.1 9
  have u9 := Kq.blk_free H4.out.2.2.2.1 9
  go_wp2
  clear t0 r0 u0 t1 r1 u1 t2 r2 u2 t3 r3 u3 t4 r4 u4 t5 r5 u5 t6 r6 u6 t7 r7 u7 t8 r8 u8 t9 r9 u9
  change bodyPost _ _ _ _ _ (fillRc w4 w.heap.size (.int .i64 2) (.int .u64 0) (.int .i64 0) (.int .u64 0) (.int .i64 0) (.slice none 0 0) (.int .i64 (cc : Int)) (.int .u64 (h0 : Int)) (.int .i64 (i0 : Int)) (.slice A l.length c))
  have p1' := fillRc_blk H4.out.2.2.2.1 (.int .i64 2) (.int .u64 0) (.int .i64 0) (.int .u64 0) (.int .i64 0) (.slice none 0 0) (.int .i64 (cc : Int)) (.int .u64 (h0 : Int)) (.int .i64 (i0 : Int)) (.slice A l.length c)
  have p2' := fillRc_keeps w4 w.heap.size (.int .i64 2) (.int .u64 0) (.int .i64 0) (.int .u64 0) (.int .i64 0) (.slice none 0 0) (.int .i64 (cc : Int)) (.int .u64 (h0 : Int)) (.int .i64 (i0 : Int)) (.slice A l.length c)
  generalize fillRc w4 w.heap.size (.int .i64 2) (.int .u64 0) (.int .i64 0) (.int .u64 0) (.int .i64 0) (.slice none 0 0) (.int .i64 (cc : Int)) (.int .u64 (h0 : Int)) (.int .i64 (i0 : Int)) (.slice A l.length c) = z at *
  have t0 := Kq.blk_cell p1' 0
  have t1 := Kq.blk_cell p1' 1
  have t2 := Kq.blk_cell p1' 2
  have t3 := Kq.blk_cell p1' 3
  have t4 := Kq.blk_cell p1' 4
  have t5 := Kq.blk_cell p1' 5
  have t6 := Kq.blk_cell p1' 6
  have t7 := Kq.blk_cell p1' 7
  have t8 := Kq.blk_cell p1' 8
  have t9 := Kq.blk_cell p1' 9
  refine bodyPost_ret (v := .tuple #[.agg #[.int .i64 2, .int .u64 0, .int .i64 0, .int .u64 0, .int .i64 0, .slice none 0 0, .int .i64 (cc : Int), .int .u64 (h0 : Int), .int .i64 (i0 : Int), .slice A l.length c], .int .i64 0]) (by simp [results, Tryz.results29, go_sem, t0, t1, t2, t3, t4, t5, t6, t7, t8, t9]) rfl ?_
  exact ⟨A, c, rfl, H4.out.1.keeps p2' (fun g o e h => by have h1 := H4.out.2.2.2.2.2.2 g o e; have h2 : g = w.heap.size := h; omega), H4.out.2.2.1.trans (p2'.below H4.out.2.2.1.size (fun k _ h => by have h2 : k = w.heap.size := h; omega))⟩
end Go.Proofs.YtkbiolhcpghmkaaGreat
namespace Go.Proofs.YtkbiolhcpghmkaaGreat
open Go.RowKit
set_option linter.unusedVariables false
theorem plb_len (p : PlV) : p.b.length = 16 := by unfold PlV.b; rw [List.length_append, num8_len, num8_len]
theorem encR_len (r : ReV) (h : RecOk r) : (encR r).length ≤ 3600 := by
  unfold encR
  rcases h.1 with hm | hm
  · rw [if_pos hm.1]
    have h1 := encL_len [1, 2] r.d.l (h.2.1 hm.1).2.2
    have h2 := hm.2.2.2.2
    simp only [List.length_append, plb_len, List.length_singleton]; omega
  · rw [if_neg (by rw [hm.1]; decide)]
    have h1 := encL_len [1, 2, 3, 4] r.ns (h.2.2 hm.1).2
    have h2 := hm.2.2.2.2
    simp only [List.length_append, plb_len, List.length_singleton]; omega
/-- a record as a value -/
def reV (r : ReV) (A : Option Addr) (ca : Nat) (C : Option Addr) (cc : Nat) : Value := .agg #[.int .i64 r.k, .int .u64 r.d.p0.h, .int .i64 r.d.p0.i, .int .u64 r.d.p1.h, .int .i64 r.d.p1.i, .slice A r.d.l.length ca, .int .i64 r.c, .int .u64 r.p.h, .int .i64 r.p.i, .slice C r.ns.length cc]
/-- the numbers of a record are the machine's -/
structure RcNum (r : ReV) : Prop where
  p0 : r.d.p0.wf
  p1 : r.d.p1.wf
  p : r.p.wf
  lw : ∀ n ∈ r.d.l, n.wf
  nw : ∀ n ∈ r.ns, n.wf
theorem RecW.num {w : World} {A C : Option Addr} {r : ReV} (h : RecW w A C r) : RcNum r := ⟨h.p0, h.p1, h.p, h.lw, h.nw⟩
theorem plv_nat (p : PlV) (h : p.wf) (ho : p.ok) : ∃ a i : Nat, p = ⟨(a : Int), (i : Int)⟩ ∧ a < 18446744073709551616 ∧ i ≤ 65535 := by
  have h1 := h.range
  obtain ⟨a, i⟩ := p
  have h2 : 0 ≤ i ∧ i ≤ 65535 := ho
  simp only at h1
  exact ⟨a.toNat, i.toNat, by rw [Int.toNat_of_nonneg h1.1, Int.toNat_of_nonneg h2.1], by omega, by omega⟩
theorem plz_wf : PlV.z.wf := ⟨by decide, by decide⟩
theorem enAt_nil (c : NtV → List Value) (w : World) (A : Option Addr) : EnAt c w A [] := fun j h => absurd h (Nat.not_lt_zero _)
theorem rec_parse (r : ReV) (w : World) (hok : RecOk r) (hn : RcNum r) :
    Calls Tryz.prog 29 #[.string (txt (encR r))] w fun x w' => ∃ A ca C cc, x = .returned (.tuple #[reV r A ca C cc, .int .i64 0]) ∧ RecW w' A C r ∧ Below w.heap.size w w' := by
  have hlt := encR_lt r hok
  have hlen : (encR r).length ≤ 1000000 := Nat.le_trans (encR_len r hok) (by decide)
  obtain ⟨hm, h1, h2⟩ := hok
  obtain ⟨k, ⟨p0, p1, l⟩, c, p, ns⟩ := r
  have np0 : p0.wf := hn.p0
  have np1 : p1.wf := hn.p1
  have np : p.wf := hn.p
  have nl : ∀ n ∈ l, n.wf := hn.lw
  have nn : ∀ n ∈ ns, n.wf := hn.nw
  rcases hm with hm | hm
  · have hk : k = 1 := hm.1
    have hc : c = 0 := hm.2.1
    have hp : p = PlV.z := hm.2.2.1
    have hns : ns = [] := List.eq_nil_of_length_eq_zero hm.2.2.2.1
    have hl : l.length ≤ 40 := hm.2.2.2.2
    clear hm
    subst hk hc hp hns
    obtain ⟨o0, o1, ol⟩ := h1 rfl
    obtain ⟨a0, i0, e0, la0, li0⟩ := plv_nat p0 np0 o0
    obtain ⟨a1, i1, e1, la1, li1⟩ := plv_nat p1 np1 o1
    subst e0 e1
    have hb : encR ⟨1, ⟨⟨(a0 : Int), (i0 : Int)⟩, ⟨(a1 : Int), (i1 : Int)⟩, l⟩, 0, PlV.z, []⟩ = [1] ++ (num8 a0 ++ (num8 i0 ++ (num8 a1 ++ (num8 i1 ++ ([l.length] ++ (encL l ++ [])))))) := by
      unfold encR
      rw [if_pos rfl]
      simp [PlV.b, List.append_assoc]
    rw [hb] at hlt hlen ⊢
    refine (rec_parse1 a0 i0 a1 i1 l w la0 la1 li0 li1 nl hl ol hlt hlen).mono ?_
    rintro x w' ⟨A, c, rfl, hat, hbl⟩
    exact ⟨A, c, none, 0, rfl, ⟨np0, np1, np, hat, enAt_nil _ _ _, nl, nn, by show l.length ≤ 300; omega, by show 0 ≤ 300; omega⟩, hbl⟩
  · have hk : k = 2 := hm.1
    have hp0 : p0 = PlV.z := hm.2.1.1
    have hp1 : p1 = PlV.z := hm.2.1.2
    have hl : l = [] := List.eq_nil_of_length_eq_zero hm.2.2.1
    have hns : ns.length ≤ 16 := hm.2.2.2.2
    have hc : c = 0 ∨ c = 1 := hm.2.2.2.1
    clear hm
    obtain ⟨cn, hcn, hcc⟩ : ∃ cn : Nat, c = (cn : Int) ∧ (cn = 0 ∨ cn = 1) := by
      rcases hc with h | h
      · exact ⟨0, h, Or.inl rfl⟩
      · exact ⟨1, h, Or.inr rfl⟩
    subst hk hp0 hp1 hl hcn
    obtain ⟨o0, ol⟩ := h2 rfl
    obtain ⟨a0, i0, e0, la0, li0⟩ := plv_nat p np o0
    subst e0
    have hb : encR ⟨2, ⟨PlV.z, PlV.z, []⟩, (cn : Int), ⟨(a0 : Int), (i0 : Int)⟩, ns⟩ = [2] ++ ([cn] ++ (num8 a0 ++ (num8 i0 ++ ([ns.length] ++ (encL ns ++ []))))) := by
      unfold encR
      rw [if_neg (show ¬ ((2 : Int) = 1) by decide)]
      simp [PlV.b, List.append_assoc]
    rw [hb] at hlt hlen ⊢
    refine (rec_parse2 cn a0 i0 ns w la0 hcc li0 nn hns ol hlt hlen).mono ?_
    rintro x w' ⟨A, c, rfl, hat, hbl⟩
    exact ⟨none, 0, A, c, rfl, ⟨np0, np1, np, enAt_nil _ _ _, hat, nl, nn, by show 0 ≤ 300; omega, by show ns.length ≤ 300; omega⟩, hbl⟩
end Go.Proofs.YtkbiolhcpghmkaaGreat
