/- Merged: RcPar, RcCut. Contract of record's Parse on a record's own bytes, of either kind. Condition: what stands there. Contracts of record's Parse on a beginning of a record's own bytes, and on these with more behind. Condition: what stands there. -/
import Derived.Test.YtkbiolhcpghmkaaRcParseQ
import Derived.Test.YtkbiolhcpghmkaaRcBytesQ
import Derived.WalkSpells
import Derived.Outline
import Derived.Test.YtkbiolhcpghmkaaRcGetXQ
namespace Go.Proofs.Ytkbiolhcpghmkaa
open Go.RowKit
set_option linter.unusedVariables false
theorem plb_len (p : PlV) : p.b.length = 16 := by unfold PlV.b; rw [List.length_append, num8_len, num8_len]
theorem encR_len (r : ReV) (h : RecOk r) : (encR r).length ≤ 3600 := by
  unfold encR
  rcases h.1 with hm | hm
  · rw [if_pos hm.1]
    have h1 := encL_len [1, 2] r.d.l (h.2.1 hm.1).2.2
    have h2 := hm.2.2.2.2
    simp only [List.length_append, plb_len, List.length_singleton]; omega
  · rw [if_neg (by rw [hm.1]; decide)]
    have h1 := encL_len [1, 2, 3, 4] r.ns (h.2.2 hm.1).2
    have h2 := hm.2.2.2.2
    simp only [List.length_append, plb_len, List.length_singleton]; omega
/-- a record as a value -/
def reV (r : ReV) (A : Option Addr) (ca : Nat) (C : Option Addr) (cc : Nat) : Value := .agg #[.int .i64 r.k, .int .u64 r.d.p0.h, .int .i64 r.d.p0.i, .int .u64 r.d.p1.h, .int .i64 r.d.p1.i, .slice A r.d.l.length ca, .int .i64 r.c, .int .u64 r.p.h, .int .i64 r.p.i, .slice C r.ns.length cc]
/-- the numbers of a record are the machine's -/
structure RcNum (r : ReV) : Prop where
  p0 : r.d.p0.wf
  p1 : r.d.p1.wf
  p : r.p.wf
  lw : ∀ n ∈ r.d.l, n.wf
  nw : ∀ n ∈ r.ns, n.wf
theorem RecW.num {w : World} {A C : Option Addr} {r : ReV} (h : RecW w A C r) : RcNum r := ⟨h.p0, h.p1, h.p, h.lw, h.nw⟩
theorem plv_nat (p : PlV) (h : p.wf) (ho : p.ok) : ∃ a i : Nat, p = ⟨(a : Int), (i : Int)⟩ ∧ a < 18446744073709551616 ∧ i ≤ 65535 := by
  have h1 := h.range
  obtain ⟨a, i⟩ := p
  have h2 : 0 ≤ i ∧ i ≤ 65535 := ho
  simp only at h1
  exact ⟨a.toNat, i.toNat, by rw [Int.toNat_of_nonneg h1.1, Int.toNat_of_nonneg h2.1], by omega, by omega⟩
theorem plz_wf : PlV.z.wf := ⟨by decide, by decide⟩
theorem enAt_nil (c : NtV → List Value) (w : World) (A : Option Addr) : EnAt c w A [] := fun j h => absurd h (Nat.not_lt_zero _)
theorem rec_parse (r : ReV) (w : World) (hok : RecOk r) (hn : RcNum r) :
    Calls Try.prog 13 #[.string (txt (encR r))] w fun x w' => ∃ A ca C cc, x = .returned (.tuple #[reV r A ca C cc, .int .i64 0]) ∧ RecW w' A C r ∧ Below w.heap.size w w' := by
  have hlt := encR_lt r hok
  have hlen : (encR r).length ≤ 1000000 := Nat.le_trans (encR_len r hok) (by decide)
  obtain ⟨hm, h1, h2⟩ := hok
  obtain ⟨k, ⟨p0, p1, l⟩, c, p, ns⟩ := r
  have np0 : p0.wf := hn.p0
  have np1 : p1.wf := hn.p1
  have np : p.wf := hn.p
  have nl : ∀ n ∈ l, n.wf := hn.lw
  have nn : ∀ n ∈ ns, n.wf := hn.nw
  rcases hm with hm | hm
  · have hk : k = 1 := hm.1
    have hc : c = 0 := hm.2.1
    have hp : p = PlV.z := hm.2.2.1
    have hns : ns = [] := List.eq_nil_of_length_eq_zero hm.2.2.2.1
    have hl : l.length ≤ 40 := hm.2.2.2.2
    clear hm
    subst hk hc hp hns
    obtain ⟨o0, o1, ol⟩ := h1 rfl
    obtain ⟨a0, i0, e0, la0, li0⟩ := plv_nat p0 np0 o0
    obtain ⟨a1, i1, e1, la1, li1⟩ := plv_nat p1 np1 o1
    subst e0 e1
    have hb : encR ⟨1, ⟨⟨(a0 : Int), (i0 : Int)⟩, ⟨(a1 : Int), (i1 : Int)⟩, l⟩, 0, PlV.z, []⟩ = [1] ++ (num8 a0 ++ (num8 i0 ++ (num8 a1 ++ (num8 i1 ++ ([l.length] ++ (encL l ++ [])))))) := by
      unfold encR
      rw [if_pos rfl]
      simp [PlV.b, List.append_assoc]
    rw [hb] at hlt hlen ⊢
    refine (rec_parse1 a0 i0 a1 i1 l w la0 la1 li0 li1 nl hl ol hlt hlen).mono ?_
    rintro x w' ⟨A, c, rfl, hat, hbl⟩
    exact ⟨A, c, none, 0, rfl, ⟨np0, np1, np, hat, enAt_nil _ _ _, nl, nn, by show l.length ≤ 300; omega, by show 0 ≤ 300; omega⟩, hbl⟩
  · have hk : k = 2 := hm.1
    have hp0 : p0 = PlV.z := hm.2.1.1
    have hp1 : p1 = PlV.z := hm.2.1.2
    have hl : l = [] := List.eq_nil_of_length_eq_zero hm.2.2.1
    have hns : ns.length ≤ 16 := hm.2.2.2.2
    have hc : c = 0 ∨ c = 1 := hm.2.2.2.1
    clear hm
    obtain ⟨cn, hcn, hcc⟩ : ∃ cn : Nat, c = (cn : Int) ∧ (cn = 0 ∨ cn = 1) := by
      rcases hc with h | h
      · exact ⟨0, h, Or.inl rfl⟩
      · exact ⟨1, h, Or.inr rfl⟩
    subst hk hp0 hp1 hl hcn
    obtain ⟨o0, ol⟩ := h2 rfl
    obtain ⟨a0, i0, e0, la0, li0⟩ := plv_nat p np o0
    subst e0
    have hb : encR ⟨2, ⟨PlV.z, PlV.z, []⟩, (cn : Int), ⟨(a0 : Int), (i0 : Int)⟩, ns⟩ = [2] ++ ([cn] ++ (num8 a0 ++ (num8 i0 ++ ([ns.length] ++ (encL ns ++ []))))) := by
      unfold encR
      rw [if_neg (show ¬ ((2 : Int) = 1) by decide)]
      simp [PlV.b, List.append_assoc]
    rw [hb] at hlt hlen ⊢
    refine (rec_parse2 cn a0 i0 ns w la0 hcc li0 nn hns ol hlt hlen).mono ?_
    rintro x w' ⟨A, c, rfl, hat, hbl⟩
    exact ⟨none, 0, A, c, rfl, ⟨np0, np1, np, enAt_nil _ _ _, hat, nl, nn, by show 0 ≤ 300; omega, by show ns.length ≤ 300; omega⟩, hbl⟩
end Go.Proofs.Ytkbiolhcpghmkaa
namespace Go.Proofs.Ytkbiolhcpghmkaa
open Go.RowKit
set_option linter.unusedVariables false
/-- the zero record -/
def reZ : Value := .agg #[.int .i64 0, .int .u64 0, .int .i64 0, .int .u64 0, .int .i64 0, .slice none 0 0, .int .i64 0, .int .u64 0, .int .i64 0, .slice none 0 0]
/-- a record's bytes, of its numbers -/
theorem encR_shape (r : ReV) (hok : RecOk r) (hn : RcNum r) : (∃ (h0 i0 h1 i1 : Nat), r.k = 1 ∧ r.c = 0 ∧ r.p = PlV.z ∧ r.ns = [] ∧ r.d.p0 = ⟨h0, i0⟩ ∧ r.d.p1 = ⟨h1, i1⟩ ∧ h0 < 18446744073709551616 ∧ h1 < 18446744073709551616 ∧ i0 ≤ 65535 ∧ i1 ≤ 65535 ∧ r.d.l.length ≤ 40 ∧ (∀ n ∈ r.d.l, EnOk [1, 2] n) ∧ ∀ rest, encR r ++ rest = [1] ++ (num8 h0 ++ (num8 i0 ++ (num8 h1 ++ (num8 i1 ++ ([r.d.l.length] ++ (encL r.d.l ++ rest)))))))
    ∨ (∃ (cc h0 i0 : Nat), r.k = 2 ∧ r.c = (cc : Int) ∧ (cc = 0 ∨ cc = 1) ∧ r.p = ⟨h0, i0⟩ ∧ r.d.l = [] ∧ r.d.p0 = PlV.z ∧ r.d.p1 = PlV.z ∧ h0 < 18446744073709551616 ∧ i0 ≤ 65535 ∧ r.ns.length ≤ 16 ∧ (∀ n ∈ r.ns, EnOk [1, 2, 3, 4] n) ∧ ∀ rest, encR r ++ rest = [2] ++ ([cc] ++ (num8 h0 ++ (num8 i0 ++ ([r.ns.length] ++ (encL r.ns ++ rest)))))) := by
  obtain ⟨hm, h1, h2⟩ := hok
  rcases hm with hm | hm
  · obtain ⟨hk, hc, hp, hns, hl⟩ := hm
    obtain ⟨o0, o1, ol⟩ := h1 hk
    obtain ⟨a0, i0, e0, la0, li0⟩ := plv_nat _ hn.p0 o0
    obtain ⟨a1, i1, e1, la1, li1⟩ := plv_nat _ hn.p1 o1
    refine Or.inl ⟨a0, i0, a1, i1, hk, hc, hp, List.eq_nil_of_length_eq_zero hns, e0, e1, la0, la1, li0, li1, hl, ol, fun rest => ?_⟩
    unfold encR
    rw [if_pos hk, e0, e1]
    simp [PlV.b, List.append_assoc]
  · obtain ⟨hk, ⟨hp0, hp1⟩, hl, hc, hns⟩ := hm
    obtain ⟨cn, hcn, hcc⟩ : ∃ cn : Nat, r.c = (cn : Int) ∧ (cn = 0 ∨ cn = 1) := by
      rcases hc with h | h
      · exact ⟨0, h, Or.inl rfl⟩
      · exact ⟨1, h, Or.inr rfl⟩
    obtain ⟨o0, ol⟩ := h2 hk
    obtain ⟨a0, i0, e0, la0, li0⟩ := plv_nat _ hn.p o0
    refine Or.inr ⟨cn, a0, i0, hk, hcn, hcc, e0, List.eq_nil_of_length_eq_zero hl, hp0, hp1, la0, li0, hns, ol, fun rest => ?_⟩
    unfold encR
    rw [if_neg (by rw [hk]; decide), e0, hcn]
    simp [PlV.b, List.append_assoc]
theorem rec_getX (B : Nat) (r : ReV) (rest : List Nat) (w : World) (hok : RecOk r) (hn : RcNum r) (h : RdB w B (encR r ++ rest)) : Calls Try.prog 30 #[.pointer (some ⟨B, 0, none⟩)] w (XR w B rest) := by
  rcases encR_shape r hok hn with ⟨h0, i0, h1, i1, _, _, _, _, _, _, la, lb, lc, ld, le, lf, hb⟩ | ⟨cc, h0, i0, _, _, lc, _, _, _, _, la, lb, le, lf, hb⟩
  · rw [hb rest] at h
    exact rec_getX1 B h0 i0 h1 i1 r.d.l rest w h la lb lc ld hn.lw le lf
  · rw [hb rest] at h
    exact rec_getX2 B cc h0 i0 r.ns rest w h la lc lb hn.nw le lf
theorem rec_getM (B : Nat) (r : ReV) (rest : List Nat) (w : World) (hok : RecOk r) (hn : RcNum r) (h : RdL w B (encR r ++ rest)) : Calls Try.prog 30 #[.pointer (some ⟨B, 0, none⟩)] w fun x w' => ∃ A ca C cc, x = .returned (reV r A ca C cc) ∧ RdL w' B rest ∧ Kq.Keeps (· = B) w w' := by
  rcases encR_shape r hok hn with ⟨h0, i0, h1, i1, e1, e2, e3, e4, e5, e6, la, lb, lc, ld, le, lf, hb⟩ | ⟨cc, h0, i0, e1, e2, lc, e3, e4, e5, e6, la, lb, le, lf, hb⟩
  · rw [hb rest] at h
    refine (rec_get1 B h0 i0 h1 i1 r.d.l rest w h la lb lc ld hn.lw le lf).mono ?_
    rintro x w' ⟨A, c, rfl, -, hr, hk, -⟩
    exact ⟨A, c, none, 0, by unfold reV; rw [e1, e2, e3, e4, e5, e6]; rfl, hr, hk⟩
  · rw [hb rest] at h
    refine (rec_get2 B cc h0 i0 r.ns rest w h la lc lb hn.nw le lf).mono ?_
    rintro x w' ⟨A, c, rfl, -, hr, hk, -⟩
    exact ⟨none, 0, A, c, by unfold reV; rw [e1, e2, e3, e4, e5, e6]; rfl, hr, hk⟩
theorem rl_end_more (B b : Nat) (l : List Nat) (w : World) (h : RdL w B (b :: l)) : Calls Try.prog 31 #[.pointer (some ⟨B, 0, none⟩)] w fun x w' => x = .returned (.int .i64 7) ∧ w = w' := by
  obtain ⟨s, h1, h2, _⟩ := h
  have h0 : ¬ s.size = 0 := by rw [← nl_length, h2]; simp
  refine (rd_end B 0 s w h1).mono ?_
  rintro x w' ⟨rfl, rfl⟩
  refine ⟨?_, rfl⟩
  unfold endOf
  rw [if_pos rfl, if_neg h0]
set_option maxRecDepth 100000 in
set_option maxHeartbeats 4000000 in
theorem rec_parse_cut (r : ReV) (n : Nat) (w : World) (hok : RecOk r) (hn : RcNum r) (hlt : n < (encR r).length) :
    Calls Try.prog 13 #[.string (txt ((encR r).take n))] w fun x w' => x = .returned (.tuple #[reZ, .int .i64 6]) ∧ Below w.heap.size w w' := by
  have hltb : ∀ b ∈ (encR r).take n, b < 256 := fun b hb => encR_lt r hok b (List.mem_of_mem_take hb)
  have hlen : ((encR r).take n).length ≤ 1000000 := by have := encR_len r hok; rw [List.length_take]; omega
  have HH := Lib.hid (And.intro hok (And.intro hn hlt))
  clear hok hn hlt
  have HNEW := Lib.hid (fun w1 => rl_new ((encR r).take n) w1 hltb hlen)
  obtain ⟨S, hS⟩ : ∃ S, S = txt ((encR r).take n) := ⟨_, rfl⟩
  rw [← hS] at HNEW ⊢
  clear hS hltb hlen
  obtain ⟨w1, hw1⟩ : ∃ z, z = w.alloc (.cells #[.int .i64 0, .int .u64 0, .int .i64 0, .int .u64 0, .int .i64 0, .slice none 0 0, .int .i64 0, .int .u64 0, .int .i64 0, .slice none 0 0] 35) := ⟨_, rfl⟩
  have H1 : Hid (Below w.heap.size w w1 ∧ w1.heap[w.heap.size]? = some (.cells #[.int .i64 0, .int .u64 0, .int .i64 0, .int .u64 0, .int .i64 0, .slice none 0 0, .int .i64 0, .int .u64 0, .int .i64 0, .slice none 0 0] 35 (0, 0)) ∧ w1.heap.size = w.heap.size + 1) := Lib.hid (by
    have ha := Kq.below_alloc w (.cells #[.int .i64 0, .int .u64 0, .int .i64 0, .int .u64 0, .int .i64 0, .slice none 0 0, .int .i64 0, .int .u64 0, .int .i64 0, .slice none 0 0] 35)
    have hra := Kq.blk_new w #[.int .i64 0, .int .u64 0, .int .i64 0, .int .u64 0, .int .i64 0, .slice none 0 0, .int .i64 0, .int .u64 0, .int .i64 0, .slice none 0 0] 35 (0, 0)
    rw [← hw1] at ha hra
    exact ⟨ha, hra, by rw [hw1]; simp⟩)
  go_enter Try.func13, Try.ntmps13
  go_wp2_with fail
  rw [← hw1]
  clear hw1
  refine (HNEW.out w1).mono ?_
  rintro x w2 ⟨rfl, hr2, b2⟩
  rw [H1.out.2.2] at hr2 ⊢
  have H2 : Hid (RdL w2 (w.heap.size + 1) ((encR r).take n) ∧ Below w.heap.size w w2 ∧ w2.heap[w.heap.size]? = some (.cells #[.int .i64 0, .int .u64 0, .int .i64 0, .int .u64 0, .int .i64 0, .slice none 0 0, .int .i64 0, .int .u64 0, .int .i64 0, .slice none 0 0] 35 (0, 0))) := Lib.hid ⟨hr2, H1.out.1.trans (b2.mono H1.out.1.size), Kq.below_blk b2 H1.out.2.1 (Kq.blk_lt H1.out.2.1)⟩
  clear hr2 b2 H1
  go_wp2_with fail
  refine (rec_getX (w.heap.size + 1) r [] w2 HH.out.1 HH.out.2.1 ⟨n, by rw [List.append_nil]; exact HH.out.2.2, by rw [List.append_nil]; exact H2.out.1⟩).mono ?_
  rintro x w3 ⟨k, h0, i0, h1, i1, A, m, ca, c, h, i, C, mm, cc, rfl, hx, k3⟩
  have hr3 := hx.nil
  clear hx
  have hb4 := Kq.below_alloc w3 (.cells #[.int .i64 k, .int .u64 h0, .int .i64 i0, .int .u64 h1, .int .i64 i1, .slice A m ca, .int .i64 c, .int .u64 h, .int .i64 i, .slice C mm cc] 35)
  have hx3 := k3.blk H2.out.2.2 (fun e => by have e2 : w.heap.size = w.heap.size + 1 := e; omega)
  have H4 : Hid (RdS (w3.alloc (.cells #[.int .i64 k, .int .u64 h0, .int .i64 i0, .int .u64 h1, .int .i64 i1, .slice A m ca, .int .i64 c, .int .u64 h, .int .i64 i, .slice C mm cc] 35)) (w.heap.size + 1) ∧ Below w.heap.size w (w3.alloc (.cells #[.int .i64 k, .int .u64 h0, .int .i64 i0, .int .u64 h1, .int .i64 i1, .slice A m ca, .int .i64 c, .int .u64 h, .int .i64 i, .slice C mm cc] 35)) ∧ (w3.alloc (.cells #[.int .i64 k, .int .u64 h0, .int .i64 i0, .int .u64 h1, .int .i64 i1, .slice A m ca, .int .i64 c, .int .u64 h, .int .i64 i, .slice C mm cc] 35)).heap[w.heap.size]? = some (.cells #[.int .i64 0, .int .u64 0, .int .i64 0, .int .u64 0, .int .i64 0, .slice none 0 0, .int .i64 0, .int .u64 0, .int .i64 0, .slice none 0 0] 35 (0, 0))) := Lib.hid ⟨hr3.below hb4, (H2.out.2.1.trans (k3.below H2.out.2.1.size (fun k _ e => by have e2 : k = w.heap.size + 1 := e; omega))).trans (hb4.mono (Nat.le_trans H2.out.2.1.size k3.size)), Kq.below_blk hb4 hx3 (Kq.blk_lt hx3)⟩
  clear hr3 k3 hb4 hx3 H2
  go_wp2_with fail
  obtain ⟨w4, hw4⟩ : ∃ z, z = w3.alloc (.cells #[.int .i64 k, .int .u64 h0, .int .i64 i0, .int .u64 h1, .int .i64 i1, .slice A m ca, .int .i64 c, .int .u64 h, .int .i64 i, .slice C mm cc] 35) := ⟨_, rfl⟩
  rw [← hw4] at H4 ⊢
  clear hw4
  refine (xs_end (w.heap.size + 1) w4 H4.out.1).mono ?_
  rintro x w5 ⟨rfl, hw5⟩
  subst hw5
  have r0 := Kq.blk_cell H4.out.2.2 0
  have u0 := Kq.blk_free H4.out.2.2 0
  have r1 := Kq.blk_cell H4.out.2.2 1
  have u1 := Kq.blk_free H4.out.2.2 1
  have r2 := Kq.blk_cell H4.out.2.2 2
  have u2 := Kq.blk_free H4.out.2.2 2
  have r3 := Kq.blk_cell H4.out.2.2 3
  have u3 := Kq.blk_free H4.out.2.2 3
  have r4 := Kq.blk_cell H4.out.2.2 4
  have u4 := Kq.blk_free H4.out.2.2 4
  have r5 := Kq.blk_cell H4.out.2.2 5
  have u5 := Kq.blk_free H4.out.2.2 5
  have r6 := Kq.blk_cell H4.out.2.2 6
  have u6 := Kq.blk_free H4.out.2.2 6
  have r7 := Kq.blk_cell H4.out.2.2 7
  have u7 := Kq.blk_free H4.out.2.2 7
  have r8 := Kq.blk_cell H4.out.2.2 8
  have u8 := Kq.blk_free H4.out.2.2 8
  have r9 := Kq.blk_cell H4.out.2.2 9
  have u9 := Kq.blk_free H4.out.2.2 9
  go_wp2
  clear r0 u0 r1 u1 r2 u2 r3 u3 r4 u4 r5 u5 r6 u6 r7 u7 r8 u8 r9 u9
  change bodyPost _ _ _ _ _ (fillRc w4 w.heap.size (.int .i64 0) (.int .u64 0) (.int .i64 0) (.int .u64 0) (.int .i64 0) (.slice none 0 0) (.int .i64 0) (.int .u64 0) (.int .i64 0) (.slice none 0 0))
  have p1' := fillRc_blk H4.out.2.2 (.int .i64 0) (.int .u64 0) (.int .i64 0) (.int .u64 0) (.int .i64 0) (.slice none 0 0) (.int .i64 0) (.int .u64 0) (.int .i64 0) (.slice none 0 0)
  have p2' := fillRc_keeps w4 w.heap.size (.int .i64 0) (.int .u64 0) (.int .i64 0) (.int .u64 0) (.int .i64 0) (.slice none 0 0) (.int .i64 0) (.int .u64 0) (.int .i64 0) (.slice none 0 0)
  generalize fillRc w4 w.heap.size (.int .i64 0) (.int .u64 0) (.int .i64 0) (.int .u64 0) (.int .i64 0) (.slice none 0 0) (.int .i64 0) (.int .u64 0) (.int .i64 0) (.slice none 0 0) = z at *
  have t0 := Kq.blk_cell p1' 0
  have t1 := Kq.blk_cell p1' 1
  have t2 := Kq.blk_cell p1' 2
  have t3 := Kq.blk_cell p1' 3
  have t4 := Kq.blk_cell p1' 4
  have t5 := Kq.blk_cell p1' 5
  have t6 := Kq.blk_cell p1' 6
  have t7 := Kq.blk_cell p1' 7
  have t8 := Kq.blk_cell p1' 8
  have t9 := Kq.blk_cell p1' 9
  refine bodyPost_ret (v := .tuple #[reZ, .int .i64 6]) (by simp [reZ, results, Try.results13, go_sem, t0, t1, t2, t3, t4, t5, t6, t7, t8, t9]) rfl ?_
  exact ⟨rfl, H4.out.2.1.trans (p2'.below H4.out.2.1.size (fun k _ h => by have h2 : k = w.heap.size := h; omega))⟩
set_option maxRecDepth 100000 in
set_option maxHeartbeats 4000000 in
theorem rec_parse_more (r : ReV) (b : Nat) (more : List Nat) (w : World) (hok : RecOk r) (hn : RcNum r) (hm : ∀ c ∈ b :: more, c < 256) (hml : (b :: more).length ≤ 100000) :
    Calls Try.prog 13 #[.string (txt (encR r ++ b :: more))] w fun x w' => x = .returned (.tuple #[reZ, .int .i64 7]) ∧ Below w.heap.size w w' := by
  have hltb : ∀ c ∈ encR r ++ b :: more, c < 256 := fun c hc => by
    rcases List.mem_append.1 hc with h | h
    · exact encR_lt r hok c h
    · exact hm c h
  have hlen : (encR r ++ b :: more).length ≤ 1000000 := by have := encR_len r hok; rw [List.length_append]; omega
  have HH := Lib.hid (And.intro hok hn)
  clear hok hn hm hml
  have HNEW := Lib.hid (fun w1 => rl_new (encR r ++ b :: more) w1 hltb hlen)
  obtain ⟨S, hS⟩ : ∃ S, S = txt (encR r ++ b :: more) := ⟨_, rfl⟩
  rw [← hS] at HNEW ⊢
  clear hS hltb hlen
  obtain ⟨w1, hw1⟩ : ∃ z, z = w.alloc (.cells #[.int .i64 0, .int .u64 0, .int .i64 0, .int .u64 0, .int .i64 0, .slice none 0 0, .int .i64 0, .int .u64 0, .int .i64 0, .slice none 0 0] 35) := ⟨_, rfl⟩
  have H1 : Hid (Below w.heap.size w w1 ∧ w1.heap[w.heap.size]? = some (.cells #[.int .i64 0, .int .u64 0, .int .i64 0, .int .u64 0, .int .i64 0, .slice none 0 0, .int .i64 0, .int .u64 0, .int .i64 0, .slice none 0 0] 35 (0, 0)) ∧ w1.heap.size = w.heap.size + 1) := Lib.hid (by
    have ha := Kq.below_alloc w (.cells #[.int .i64 0, .int .u64 0, .int .i64 0, .int .u64 0, .int .i64 0, .slice none 0 0, .int .i64 0, .int .u64 0, .int .i64 0, .slice none 0 0] 35)
    have hra := Kq.blk_new w #[.int .i64 0, .int .u64 0, .int .i64 0, .int .u64 0, .int .i64 0, .slice none 0 0, .int .i64 0, .int .u64 0, .int .i64 0, .slice none 0 0] 35 (0, 0)
    rw [← hw1] at ha hra
    exact ⟨ha, hra, by rw [hw1]; simp⟩)
  go_enter Try.func13, Try.ntmps13
  go_wp2_with fail
  rw [← hw1]
  clear hw1
  refine (HNEW.out w1).mono ?_
  rintro x w2 ⟨rfl, hr2, b2⟩
  rw [H1.out.2.2] at hr2 ⊢
  have H2 : Hid (RdL w2 (w.heap.size + 1) (encR r ++ b :: more) ∧ Below w.heap.size w w2 ∧ w2.heap[w.heap.size]? = some (.cells #[.int .i64 0, .int .u64 0, .int .i64 0, .int .u64 0, .int .i64 0, .slice none 0 0, .int .i64 0, .int .u64 0, .int .i64 0, .slice none 0 0] 35 (0, 0))) := Lib.hid ⟨hr2, H1.out.1.trans (b2.mono H1.out.1.size), Kq.below_blk b2 H1.out.2.1 (Kq.blk_lt H1.out.2.1)⟩
  clear hr2 b2 H1
  go_wp2_with fail
  refine (rec_getM (w.heap.size + 1) r (b :: more) w2 HH.out.1 HH.out.2 H2.out.1).mono ?_
  rintro x w3 ⟨A, ca, C, cc, rfl, hr3, k3⟩
  unfold reV
  have hb4 := Kq.below_alloc w3 (.cells #[.int .i64 r.k, .int .u64 r.d.p0.h, .int .i64 r.d.p0.i, .int .u64 r.d.p1.h, .int .i64 r.d.p1.i, .slice A r.d.l.length ca, .int .i64 r.c, .int .u64 r.p.h, .int .i64 r.p.i, .slice C r.ns.length cc] 35)
  have hx3 := k3.blk H2.out.2.2 (fun e => by have e2 : w.heap.size = w.heap.size + 1 := e; omega)
  have H4 : Hid (RdL (w3.alloc (.cells #[.int .i64 r.k, .int .u64 r.d.p0.h, .int .i64 r.d.p0.i, .int .u64 r.d.p1.h, .int .i64 r.d.p1.i, .slice A r.d.l.length ca, .int .i64 r.c, .int .u64 r.p.h, .int .i64 r.p.i, .slice C r.ns.length cc] 35)) (w.heap.size + 1) (b :: more) ∧ Below w.heap.size w (w3.alloc (.cells #[.int .i64 r.k, .int .u64 r.d.p0.h, .int .i64 r.d.p0.i, .int .u64 r.d.p1.h, .int .i64 r.d.p1.i, .slice A r.d.l.length ca, .int .i64 r.c, .int .u64 r.p.h, .int .i64 r.p.i, .slice C r.ns.length cc] 35)) ∧ (w3.alloc (.cells #[.int .i64 r.k, .int .u64 r.d.p0.h, .int .i64 r.d.p0.i, .int .u64 r.d.p1.h, .int .i64 r.d.p1.i, .slice A r.d.l.length ca, .int .i64 r.c, .int .u64 r.p.h, .int .i64 r.p.i, .slice C r.ns.length cc] 35)).heap[w.heap.size]? = some (.cells #[.int .i64 0, .int .u64 0, .int .i64 0, .int .u64 0, .int .i64 0, .slice none 0 0, .int .i64 0, .int .u64 0, .int .i64 0, .slice none 0 0] 35 (0, 0))) := Lib.hid ⟨hr3.below hb4, (H2.out.2.1.trans (k3.below H2.out.2.1.size (fun k _ e => by have e2 : k = w.heap.size + 1 := e; omega))).trans (hb4.mono (Nat.le_trans H2.out.2.1.size k3.size)), Kq.below_blk hb4 hx3 (Kq.blk_lt hx3)⟩
  clear hr3 k3 hb4 hx3 H2
  go_wp2_with fail
  obtain ⟨w4, hw4⟩ : ∃ z, z = w3.alloc (.cells #[.int .i64 r.k, .int .u64 r.d.p0.h, .int .i64 r.d.p0.i, .int .u64 r.d.p1.h, .int .i64 r.d.p1.i, .slice A r.d.l.length ca, .int .i64 r.c, .int .u64 r.p.h, .int .i64 r.p.i, .slice C r.ns.length cc] 35) := ⟨_, rfl⟩
  rw [← hw4] at H4 ⊢
  clear hw4
  refine (rl_end_more (w.heap.size + 1) b more w4 H4.out.1).mono ?_
  rintro x w5 ⟨rfl, hw5⟩
  subst hw5
  have r0 := Kq.blk_cell H4.out.2.2 0
  have u0 := Kq.blk_free H4.out.2.2 0
  have r1 := Kq.blk_cell H4.out.2.2 1
  have u1 := Kq.blk_free H4.out.2.2 1
  have r2 := Kq.blk_cell H4.out.2.2 2
  have u2 := Kq.blk_free H4.out.2.2 2
  have r3 := Kq.blk_cell H4.out.2.2 3
  have u3 := Kq.blk_free H4.out.2.2 3
  have r4 := Kq.blk_cell H4.out.2.2 4
  have u4 := Kq.blk_free H4.out.2.2 4
  have r5 := Kq.blk_cell H4.out.2.2 5
  have u5 := Kq.blk_free H4.out.2.2 5
  have r6 := Kq.blk_cell H4.out.2.2 6
  have u6 := Kq.blk_free H4.out.2.2 6
  have r7 := Kq.blk_cell H4.out.2.2 7
  have u7 := Kq.blk_free H4.out.2.2 7
  have r8 := Kq.blk_cell H4.out.2.2 8
  have u8 := Kq.blk_free H4.out.2.2 8
  have r9 := Kq.blk_cell H4.out.2.2 9
  have u9 := Kq.blk_free H4.out.2.2 9
  go_wp2
  clear r0 u0 r1 u1 r2 u2 r3 u3 r4 u4 r5 u5 r6 u6 r7 u7 r8 u8 r9 u9
  change bodyPost _ _ _ _ _ (fillRc w4 w.heap.size (.int .i64 0) (.int .u64 0) (.int .i64 0) (.int .u64 0) (.int .i64 0) (.slice none 0 0) (.int .i64 0) (.int .u64 0) (.int .i64 0) (.slice none 0 0))
  have p1' := fillRc_blk H4.out.2.2 (.int .i64 0) (.int .u64 0) (.int .i64 0) (.int .u64 0) (.int .i64 0) (.slice none 0 0) (.int .i64 0) (.int .u64 0) (.int .i64 0) (.slice none 0 0)
  have p2' := fillRc_keeps w4 w.heap.size (.int .i64 0) (.int .u64 0) (.int .i64 0) (.int .u64 0) (.int .i64 0) (.slice none 0 0) (.int .i64 0) (.int .u64 0) (.int .i64 0) (.slice none 0 0)
  generalize fillRc w4 w.heap.size (.int .i64 0) (.int .u64 0) (.int .i64 0) (.int .u64 0) (.int .i64 0) (.slice none 0 0) (.int .i64 0) (.int .u64 0) (.int .i64 0) (.slice none 0 0) = z at *
  have t0 := Kq.blk_cell p1' 0
  have t1 := Kq.blk_cell p1' 1
  have t2 := Kq.blk_cell p1' 2
  have t3 := Kq.blk_cell p1' 3
  have t4 := Kq.blk_cell p1' 4
  have t5 := Kq.blk_cell p1' 5
  have t6 := Kq.blk_cell p1' 6
  have t7 := Kq.blk_cell p1' 7
  have t8 := Kq.blk_cell p1' 8
  have t9 := Kq.blk_cell p1' 9
  refine bodyPost_ret (v := .tuple #[reZ, .int .i64 7]) (by simp [reZ, results, Try.results13, go_sem, t0, t1, t2, t3, t4, t5, t6, t7, t8, t9]) rfl ?_
  exact ⟨rfl, H4.out.2.1.trans (p2'.below H4.out.2.1.size (fun k _ h => by have h2 : k = w.heap.size := h; omega))⟩
end Go.Proofs.Ytkbiolhcpghmkaa
