/- Contract of the document's Bytes of a record: its code. Condition: a record of the arguments. -/
import Derived.WalkSpells
import Derived.Outline
import Derived.Test.YtkbiolhcpghmkaaGreatRcOkQ
import Derived.Test.YtkbiolhcpghmkaaGreatNtRefPQ
namespace Go.Proofs.YtkbiolhcpghmkaaGreat
open Go.RowKit
set_option linter.unusedVariables false
theorem rl_place (p : PlV) (w : World) (hp : p.wf) : Calls Tryz.prog 42 #[.agg #[.int .u64 p.h, .int .i64 p.i]] w fun x w' => ∃ t : ByteArray, x = .returned (.tuple #[.string t, .int .i64 (if p.ok then 0 else 1)]) ∧ t.size ≤ 16 ∧ Below w.heap.size w w' := by
  by_cases hok : p.ok
  · obtain ⟨a, i, rfl, ha, hi⟩ := plv_nat p hp hok
    refine (r14_place_ok a i w hi ha).mono ?_
    rintro x w' ⟨rfl, hb⟩
    exact ⟨_, by rw [if_pos hok], by rw [txt_size, List.length_append, num8_len, num8_len]; exact Nat.le_refl _, hb⟩
  · refine (r14_place_bad p.h p.i w (by
      have h : ¬ (0 ≤ p.i ∧ p.i ≤ 65535) := hok
      omega)).mono ?_
    rintro x w' ⟨rfl, hb⟩
    exact ⟨_, by rw [if_neg hok], by decide, hb⟩
theorem num_1R (g : Nat) (hg : g < 256) (w : World) : Calls Tryz.prog 45 #[.int .u64 (g : Int), .int .i64 1] w fun x w' => x = .returned (.string (txt [g])) ∧ Below w.heap.size w w' := by
  have := ref_num g 1 w (by unfold M64; omega) (by decide)
  rwa [be1 g hg] at this
theorem listT_size (marks : List Int) (ns : List NtV) : (listT marks ns).size ≤ 30000 := by
  unfold listT
  by_cases h : ns.length ≤ 255 ∧ ∀ n ∈ ns, EnOk marks n
  · rw [if_pos h]
    have := preT_size marks ns ns.length (fun i hi _ => h.2 _ (List.getElem_mem hi))
    omega
  · rw [if_neg h]; decide
theorem rl_items (A : Option Addr) (cap : Nat) (ns : List NtV) (w : World) (hA : EnAt NtV.ic w A ns) (hwf : ∀ n ∈ ns, n.wf) (hl : ns.length ≤ 300) : Calls Tryz.prog 43 #[.slice A ns.length cap] w fun x w' => ∃ t : ByteArray, x = .returned (.tuple #[.string t, .int .i64 (listE [1, 2] ns)]) ∧ t.size ≤ 30000 ∧ Below w.heap.size w w' := by
  by_cases h : ns.length ≤ 255
  · refine (r14_items_short A cap ns w hA h hwf).mono ?_
    rintro x w' ⟨rfl, hb⟩
    exact ⟨_, rfl, listT_size _ _, hb⟩
  · refine (r14_items_long A cap ns w (by omega)).mono ?_
    rintro x w' ⟨rfl, hb⟩
    exact ⟨_, by rw [show listE [1, 2] ns = 1 from if_neg (fun g => h g.1)], by decide, hb⟩
theorem rl_notes (A : Option Addr) (cap : Nat) (ns : List NtV) (w : World) (hA : EnAt NtV.nc w A ns) (hwf : ∀ n ∈ ns, n.wf) (hl : ns.length ≤ 300) : Calls Tryz.prog 44 #[.slice A ns.length cap] w fun x w' => ∃ t : ByteArray, x = .returned (.tuple #[.string t, .int .i64 (listE [1, 2, 3, 4] ns)]) ∧ t.size ≤ 30000 ∧ Below w.heap.size w w' := by
  by_cases h : ns.length ≤ 255
  · refine (r14_notes_short A cap ns w hA h hwf).mono ?_
    rintro x w' ⟨rfl, hb⟩
    exact ⟨_, rfl, listT_size _ _, hb⟩
  · refine (r14_notes_long A cap ns w (by omega)).mono ?_
    rintro x w' ⟨rfl, hb⟩
    exact ⟨_, by rw [show listE [1, 2, 3, 4] ns = 1 from if_neg (fun g => h g.1)], by decide, hb⟩
theorem pa_neq (a b : PlV) (ha : a.wf) (hb : b.wf) (w : World) : (binOp .neq 25 (.agg #[.int .u64 a.h, .int .i64 a.i, .int .u64 b.h, .int .i64 b.i]) (.agg #[.int .u64 0, .int .i64 0, .int .u64 0, .int .i64 0])).run Tryz.prog w = .ok (.bool (!decide (a = PlV.z ∧ b = PlV.z))) w := by
  have h := pa_eql a b ha hb w
  rw [run_eql_struct] at h
  rw [run_neq_struct]
  revert h
  generalize (Op.equalIn 10000 25 (.agg #[.int .u64 a.h, .int .i64 a.i, .int .u64 b.h, .int .i64 b.i]) (.agg #[.int .u64 0, .int .i64 0, .int .u64 0, .int .i64 0])).run Tryz.prog w = r
  intro h
  cases r with
  | ok b w1 =>
    simp only [Result.andThen_ok, Result.ok.injEq, Value.bool.injEq] at h ⊢
    rw [h.1, h.2]
    exact ⟨rfl, rfl⟩
  | halt x w1 => cases h
theorem pl_zero {p : PlV} : p = PlV.z ↔ p.h = 0 ∧ p.i = 0 := by
  constructor
  · rintro rfl; exact ⟨rfl, rfl⟩
  · rintro ⟨h1, h2⟩; cases p; simp only at h1 h2; subst h1 h2; rfl
def RsP (w : World) (r : ReV) (x : Ending) (w' : World) : Prop := (∃ t : ByteArray, x = .returned (.tuple #[.string t, .int .i64 (recE r)])) ∧ Below w.heap.size w w'
set_option maxRecDepth 100000 in
set_option maxHeartbeats 4000000 in
theorem rs_bytes1 (A : Option Addr) (ca : Nat) (C : Option Addr) (cc : Nat) (p0 p1 p : PlV) (c : Int) (l ns : List NtV) (w : World) (hr : RecW w A C ⟨1, ⟨p0, p1, l⟩, c, p, ns⟩) :
    Calls Tryz.prog 17 #[.agg #[.int .i64 1, .int .u64 p0.h, .int .i64 p0.i, .int .u64 p1.h, .int .i64 p1.i, .slice A l.length ca, .int .i64 c, .int .u64 p.h, .int .i64 p.i, .slice C ns.length cc]] w (RsP w ⟨1, ⟨p0, p1, l⟩, c, p, ns⟩) := by
  have HR := Lib.hid hr
  obtain ⟨w0, hw0⟩ : ∃ z, z = w.alloc (.cells #[.int .i64 1, .int .u64 p0.h, .int .i64 p0.i, .int .u64 p1.h, .int .i64 p1.i, .slice A l.length ca, .int .i64 c, .int .u64 p.h, .int .i64 p.i, .slice C ns.length cc] 31) := ⟨_, rfl⟩
  obtain ⟨X, hX⟩ : ∃ X, X = w.heap.size := ⟨_, rfl⟩
  have H0 : Hid (Below w.heap.size w w0 ∧ RecX w0 X A ca C cc ⟨1, ⟨p0, p1, l⟩, c, p, ns⟩) := Lib.hid (by
    have hb := Kq.below_alloc w (.cells #[.int .i64 1, .int .u64 p0.h, .int .i64 p0.i, .int .u64 p1.h, .int .i64 p1.i, .slice A l.length ca, .int .i64 c, .int .u64 p.h, .int .i64 p.i, .slice C ns.length cc] 31)
    have hr := Kq.blk_new w #[.int .i64 1, .int .u64 p0.h, .int .i64 p0.i, .int .u64 p1.h, .int .i64 p1.i, .slice A l.length ca, .int .i64 c, .int .u64 p.h, .int .i64 p.i, .slice C ns.length cc] 31 (0, 0)
    rw [← hw0, ← hX] at hr
    rw [← hw0] at hb
    exact ⟨hb, hr⟩)
  clear hr
  obtain ⟨c0, c1, c2, c3, c4, c5, c6, c7, c8, c9⟩ := RecAt.of H0.out.2
  simp only at c0 c1 c2 c3 c4 c5 c6 c7 c8 c9
  rw [hw0] at c0 c1 c2 c3 c4 c5 c6 c7 c8 c9
  go_enter Tryz.func17, Tryz.ntmps17
  go_wp2_with fail
  rw [← hw0, ← hX]
  clear hw0 hX c0 c1 c2 c3 c4 c5 c6 c7 c8 c9
  refine (rl_place p0 w0 HR.out.p0).mono ?_
  rintro x w1 ⟨ta, rfl, sa, b1⟩
  have H1 : Hid (Below w.heap.size w w1 ∧ RecX w1 X A ca C cc ⟨1, ⟨p0, p1, l⟩, c, p, ns⟩) := Lib.hid ⟨H0.out.1.trans (b1.mono H0.out.1.size), Kq.below_blk b1 H0.out.2 (Kq.blk_lt H0.out.2)⟩
  clear b1 H0
  obtain ⟨c0, c1, c2, c3, c4, c5, c6, c7, c8, c9⟩ := RecAt.of H1.out.2
  simp only at c0 c1 c2 c3 c4 c5 c6 c7 c8 c9
  obtain ⟨e, he⟩ : ∃ e : Int, e = if p0.ok then 0 else 1 := ⟨_, rfl⟩
  rw [← he]
  have HVe := Lib.hid he
  clear he
  go_wp2_with fail
  clear c0 c1 c2 c3 c4 c5 c6 c7 c8 c9
  refine (rl_place p1 w1 HR.out.p1).mono ?_
  rintro x w2 ⟨tb, rfl, sb, b2⟩
  have H2 : Hid (Below w.heap.size w w2 ∧ RecX w2 X A ca C cc ⟨1, ⟨p0, p1, l⟩, c, p, ns⟩) := Lib.hid ⟨H1.out.1.trans (b2.mono H1.out.1.size), Kq.below_blk b2 H1.out.2 (Kq.blk_lt H1.out.2)⟩
  clear b2 H1
  obtain ⟨c0, c1, c2, c3, c4, c5, c6, c7, c8, c9⟩ := RecAt.of H2.out.2
  simp only at c0 c1 c2 c3 c4 c5 c6 c7 c8 c9
  obtain ⟨f, hf⟩ : ∃ f : Int, f = if p1.ok then 0 else 1 := ⟨_, rfl⟩
  rw [← hf]
  have HVf := Lib.hid hf
  clear hf
  go_wp2_with fail
  clear c0 c1 c2 c3 c4 c5 c6 c7 c8 c9
  refine (rl_items A ca l w2 (HR.out.l.below H2.out.1) HR.out.lw HR.out.ll).mono ?_
  rintro x w3 ⟨tc, rfl, sc, b3⟩
  have H3 : Hid (Below w.heap.size w w3 ∧ RecX w3 X A ca C cc ⟨1, ⟨p0, p1, l⟩, c, p, ns⟩) := Lib.hid ⟨H2.out.1.trans (b3.mono H2.out.1.size), Kq.below_blk b3 H2.out.2 (Kq.blk_lt H2.out.2)⟩
  clear b3 H2
  obtain ⟨c0, c1, c2, c3, c4, c5, c6, c7, c8, c9⟩ := RecAt.of H3.out.2
  simp only at c0 c1 c2 c3 c4 c5 c6 c7 c8 c9
  obtain ⟨g, hg⟩ : ∃ g : Int, g = listE [1, 2] l := ⟨_, rfl⟩
  rw [← hg]
  have HVg := Lib.hid hg
  clear hg
  have HSZ : Hid (ta.size ≤ 16 ∧ tb.size ≤ 16 ∧ tc.size ≤ 30000) := Lib.hid ⟨sa, sb, sc⟩
  clear sa sb sc
  by_cases o0 : p0.ok
  case neg =>
    have he := HVe.out
    rw [if_neg o0] at he
    subst he
    have HE : Hid (recE ⟨1, ⟨p0, p1, l⟩, c, p, ns⟩ = 1) := Lib.hid (if_neg (fun h => by
      exact o0 (h.2.1 rfl).1))
    clear o0
    go_wp2
    go_ret2
    exact ⟨⟨_, by (first | (rw [HE.out]; done) | (rw [HE.out]; rfl))⟩, H3.out.1⟩
  have he := HVe.out
  rw [if_pos o0] at he
  subst he
  have Ho0 := Lib.hid o0
  clear o0
  by_cases o1 : p1.ok
  case neg =>
    have hf := HVf.out
    rw [if_neg o1] at hf
    subst hf
    have HE : Hid (recE ⟨1, ⟨p0, p1, l⟩, c, p, ns⟩ = 1) := Lib.hid (if_neg (fun h => by
      exact o1 (h.2.1 rfl).2.1))
    clear o1
    go_wp2
    go_ret2
    exact ⟨⟨_, by (first | (rw [HE.out]; done) | (rw [HE.out]; rfl))⟩, H3.out.1⟩
  have hf := HVf.out
  rw [if_pos o1] at hf
  subst hf
  have Ho1 := Lib.hid o1
  clear o1
  by_cases o2 : (l.length ≤ 255 ∧ ∀ n ∈ l, EnOk [1, 2] n)
  case neg =>
    have hg2 : listE [1, 2] l = 1 := if_neg o2
    have hg := HVg.out
    rw [hg2] at hg
    subst hg
    clear hg2
    have HE : Hid (recE ⟨1, ⟨p0, p1, l⟩, c, p, ns⟩ = 1) := Lib.hid (if_neg (fun h => by
      have hm : MayR ⟨1, ⟨p0, p1, l⟩, c, p, ns⟩ := h.1
      rcases hm with hm | hm
      · exact o2 ⟨Nat.le_trans hm.2.2.2.2 (by decide), (h.2.1 rfl).2.2⟩
      · exact absurd hm.1 (show ¬ ((1 : Int) = 2) by decide)))
    clear o2
    go_wp2
    go_ret2
    exact ⟨⟨_, by (first | (rw [HE.out]; done) | (rw [HE.out]; rfl))⟩, H3.out.1⟩
  have hg2 : listE [1, 2] l = 0 := if_pos o2
  have hg := HVg.out
  rw [hg2] at hg
  subst hg
  clear hg2
  have Ho2 := Lib.hid o2
  clear o2
  by_cases o3 : l.length ≤ 40
  case neg =>
    have d3 : decide ((40 : Int) < (l.length : Int)) = true := decide_eq_true (by omega)
    have d3' : decide (40 < l.length) = true := decide_eq_true (by omega)
    have HE : Hid (recE ⟨1, ⟨p0, p1, l⟩, c, p, ns⟩ = 1) := Lib.hid (if_neg (fun h => by
      rcases h.1 with hm | hm
      · exact o3 hm.2.2.2.2
      · exact absurd hm.1 (show ¬ ((1 : Int) = 2) by decide)))
    clear o3
    go_wp2
    go_ret2
    exact ⟨⟨_, by (first | (rw [HE.out]; done) | (rw [HE.out]; rfl))⟩, H3.out.1⟩
  have d3 : decide ((40 : Int) < (l.length : Int)) = false := decide_eq_false (by omega)
  have d3' : decide (40 < l.length) = false := decide_eq_false (by omega)
  have Ho3 := Lib.hid o3
  clear o3
  by_cases o4 : c = 0
  case neg =>
    have d4 : (c != 0) = true := by rw [bne_iff_ne]; exact o4
    have HE : Hid (recE ⟨1, ⟨p0, p1, l⟩, c, p, ns⟩ = 1) := Lib.hid (if_neg (fun h => by
      rcases h.1 with hm | hm
      · exact o4 hm.2.1
      · exact absurd hm.1 (show ¬ ((1 : Int) = 2) by decide)))
    clear o4
    go_wp2
    go_ret2
    exact ⟨⟨_, by (first | (rw [HE.out]; done) | (rw [HE.out]; rfl))⟩, H3.out.1⟩
  have d4 : (c != 0) = false := by rw [o4]; rfl
  have Ho4 := Lib.hid o4
  clear o4
  by_cases o5 : p.h = 0
  case neg =>
    have d5 : (p.h != 0) = true := by rw [bne_iff_ne]; exact o5
    have HE : Hid (recE ⟨1, ⟨p0, p1, l⟩, c, p, ns⟩ = 1) := Lib.hid (if_neg (fun h => by
      rcases h.1 with hm | hm
      · exact o5 (pl_zero.1 hm.2.2.1).1
      · exact absurd hm.1 (show ¬ ((1 : Int) = 2) by decide)))
    clear o5
    go_wp2
    go_ret2
    exact ⟨⟨_, by (first | (rw [HE.out]; done) | (rw [HE.out]; rfl))⟩, H3.out.1⟩
  have d5 : (p.h != 0) = false := by rw [o5]; rfl
  have Ho5 := Lib.hid o5
  clear o5
  by_cases o6 : p.i = 0
  case neg =>
    have d6 : (p.i != 0) = true := by rw [bne_iff_ne]; exact o6
    have HE : Hid (recE ⟨1, ⟨p0, p1, l⟩, c, p, ns⟩ = 1) := Lib.hid (if_neg (fun h => by
      rcases h.1 with hm | hm
      · exact o6 (pl_zero.1 hm.2.2.1).2
      · exact absurd hm.1 (show ¬ ((1 : Int) = 2) by decide)))
    clear o6
    go_wp2
    go_ret2
    exact ⟨⟨_, by (first | (rw [HE.out]; done) | (rw [HE.out]; rfl))⟩, H3.out.1⟩
  have d6 : (p.i != 0) = false := by rw [o6]; rfl
  have Ho6 := Lib.hid o6
  clear o6
  by_cases o7 : ns.length = 0
  case neg =>
    have d7 : decide ((0 : Int) < (ns.length : Int)) = true := decide_eq_true (by omega)
    have d7' : decide (0 < ns.length) = true := decide_eq_true (by omega)
    have HE : Hid (recE ⟨1, ⟨p0, p1, l⟩, c, p, ns⟩ = 1) := Lib.hid (if_neg (fun h => by
      rcases h.1 with hm | hm
      · exact o7 hm.2.2.2.1
      · exact absurd hm.1 (show ¬ ((1 : Int) = 2) by decide)))
    clear o7
    go_wp2
    go_ret2
    exact ⟨⟨_, by (first | (rw [HE.out]; done) | (rw [HE.out]; rfl))⟩, H3.out.1⟩
  have d7 : decide ((0 : Int) < (ns.length : Int)) = false := decide_eq_false (by omega)
  have d7' : decide (0 < ns.length) = false := decide_eq_false (by omega)
  have Ho7 := Lib.hid o7
  clear o7
  have HE : Hid (recE ⟨1, ⟨p0, p1, l⟩, c, p, ns⟩ = 0) := Lib.hid (if_pos ⟨Or.inl ⟨rfl, Ho4.out, pl_zero.2 ⟨Ho5.out, Ho6.out⟩, Ho7.out, Ho3.out⟩, fun _ => ⟨Ho0.out, Ho1.out, Ho2.out.2⟩, fun h => absurd h (show ¬ ((1 : Int) = 2) by decide)⟩)
  have hsz := HSZ.out
  have s1 : (⟨#[1]⟩ : ByteArray).size + ta.size ≤ 9223372036854775807 := by have h : (⟨#[1]⟩ : ByteArray).size = 1 := rfl; omega
  have s2 : ((⟨#[1]⟩ : ByteArray) ++ ta).size + tb.size ≤ 9223372036854775807 := by rw [ByteArray.size_append]; have h : (⟨#[1]⟩ : ByteArray).size = 1 := rfl; omega
  have s3 : ((⟨#[1]⟩ : ByteArray) ++ ta ++ tb).size + tc.size ≤ 9223372036854775807 := by rw [ByteArray.size_append, ByteArray.size_append]; have h : (⟨#[1]⟩ : ByteArray).size = 1 := rfl; omega
  clear hsz
  go_wp2
  go_ret2
  exact ⟨⟨_, by (first | (rw [HE.out]; done) | (rw [HE.out]; rfl))⟩, H3.out.1⟩
set_option maxRecDepth 100000 in
set_option maxHeartbeats 4000000 in
theorem rs_bytes2 (A : Option Addr) (ca : Nat) (C : Option Addr) (cc : Nat) (p0 p1 p : PlV) (c : Int) (l ns : List NtV) (w : World) (hr : RecW w A C ⟨2, ⟨p0, p1, l⟩, c, p, ns⟩) :
    Calls Tryz.prog 17 #[.agg #[.int .i64 2, .int .u64 p0.h, .int .i64 p0.i, .int .u64 p1.h, .int .i64 p1.i, .slice A l.length ca, .int .i64 c, .int .u64 p.h, .int .i64 p.i, .slice C ns.length cc]] w (RsP w ⟨2, ⟨p0, p1, l⟩, c, p, ns⟩) := by
  have HR := Lib.hid hr
  obtain ⟨w0, hw0⟩ : ∃ z, z = w.alloc (.cells #[.int .i64 2, .int .u64 p0.h, .int .i64 p0.i, .int .u64 p1.h, .int .i64 p1.i, .slice A l.length ca, .int .i64 c, .int .u64 p.h, .int .i64 p.i, .slice C ns.length cc] 31) := ⟨_, rfl⟩
  obtain ⟨X, hX⟩ : ∃ X, X = w.heap.size := ⟨_, rfl⟩
  have H0 : Hid (Below w.heap.size w w0 ∧ RecX w0 X A ca C cc ⟨2, ⟨p0, p1, l⟩, c, p, ns⟩) := Lib.hid (by
    have hb := Kq.below_alloc w (.cells #[.int .i64 2, .int .u64 p0.h, .int .i64 p0.i, .int .u64 p1.h, .int .i64 p1.i, .slice A l.length ca, .int .i64 c, .int .u64 p.h, .int .i64 p.i, .slice C ns.length cc] 31)
    have hr := Kq.blk_new w #[.int .i64 2, .int .u64 p0.h, .int .i64 p0.i, .int .u64 p1.h, .int .i64 p1.i, .slice A l.length ca, .int .i64 c, .int .u64 p.h, .int .i64 p.i, .slice C ns.length cc] 31 (0, 0)
    rw [← hw0, ← hX] at hr
    rw [← hw0] at hb
    exact ⟨hb, hr⟩)
  clear hr
  obtain ⟨c0, c1, c2, c3, c4, c5, c6, c7, c8, c9⟩ := RecAt.of H0.out.2
  simp only at c0 c1 c2 c3 c4 c5 c6 c7 c8 c9
  rw [hw0] at c0 c1 c2 c3 c4 c5 c6 c7 c8 c9
  go_enter Tryz.func17, Tryz.ntmps17
  go_wp2_with fail
  rw [← hw0, ← hX]
  clear hw0 hX c0 c1 c2 c3 c4 c5 c6 c7 c8 c9
  refine (rl_place p w0 HR.out.p).mono ?_
  rintro x w1 ⟨ta, rfl, sa, b1⟩
  have H1 : Hid (Below w.heap.size w w1 ∧ RecX w1 X A ca C cc ⟨2, ⟨p0, p1, l⟩, c, p, ns⟩) := Lib.hid ⟨H0.out.1.trans (b1.mono H0.out.1.size), Kq.below_blk b1 H0.out.2 (Kq.blk_lt H0.out.2)⟩
  clear b1 H0
  obtain ⟨c0, c1, c2, c3, c4, c5, c6, c7, c8, c9⟩ := RecAt.of H1.out.2
  simp only at c0 c1 c2 c3 c4 c5 c6 c7 c8 c9
  obtain ⟨e, he⟩ : ∃ e : Int, e = if p.ok then 0 else 1 := ⟨_, rfl⟩
  rw [← he]
  have HVe := Lib.hid he
  clear he
  go_wp2_with fail
  clear c0 c1 c2 c3 c4 c5 c6 c7 c8 c9
  refine (rl_notes C cc ns w1 (HR.out.ns.below H1.out.1) HR.out.nw HR.out.nl).mono ?_
  rintro x w2 ⟨tb, rfl, sb, b2⟩
  have H2 : Hid (Below w.heap.size w w2 ∧ RecX w2 X A ca C cc ⟨2, ⟨p0, p1, l⟩, c, p, ns⟩) := Lib.hid ⟨H1.out.1.trans (b2.mono H1.out.1.size), Kq.below_blk b2 H1.out.2 (Kq.blk_lt H1.out.2)⟩
  clear b2 H1
  obtain ⟨c0, c1, c2, c3, c4, c5, c6, c7, c8, c9⟩ := RecAt.of H2.out.2
  simp only at c0 c1 c2 c3 c4 c5 c6 c7 c8 c9
  obtain ⟨g, hg⟩ : ∃ g : Int, g = listE [1, 2, 3, 4] ns := ⟨_, rfl⟩
  rw [← hg]
  have HVg := Lib.hid hg
  clear hg
  have hpa := fun wx => pa_neq p0 p1 HR.out.p0 HR.out.p1 wx
  have HSZ : Hid (ta.size ≤ 16 ∧ tb.size ≤ 30000) := Lib.hid ⟨sa, sb⟩
  clear sa sb
  by_cases o0 : p.ok
  case neg =>
    have he := HVe.out
    rw [if_neg o0] at he
    subst he
    have HE : Hid (recE ⟨2, ⟨p0, p1, l⟩, c, p, ns⟩ = 1) := Lib.hid (if_neg (fun h => by
      exact o0 (h.2.2 rfl).1))
    clear o0
    go_wp2
    go_ret2
    exact ⟨⟨_, by (first | (rw [HE.out]; done) | (rw [HE.out]; rfl))⟩, H2.out.1⟩
  have he := HVe.out
  rw [if_pos o0] at he
  subst he
  have Ho0 := Lib.hid o0
  clear o0
  by_cases o1 : (ns.length ≤ 255 ∧ ∀ n ∈ ns, EnOk [1, 2, 3, 4] n)
  case neg =>
    have hg2 : listE [1, 2, 3, 4] ns = 1 := if_neg o1
    have hg := HVg.out
    rw [hg2] at hg
    subst hg
    clear hg2
    have HE : Hid (recE ⟨2, ⟨p0, p1, l⟩, c, p, ns⟩ = 1) := Lib.hid (if_neg (fun h => by
      rcases h.1 with hm | hm
      · exact absurd hm.1 (show ¬ ((2 : Int) = 1) by decide)
      · exact o1 ⟨Nat.le_trans hm.2.2.2.2 (by decide), (h.2.2 rfl).2⟩))
    clear o1
    go_wp2
    go_ret2
    exact ⟨⟨_, by (first | (rw [HE.out]; done) | (rw [HE.out]; rfl))⟩, H2.out.1⟩
  have hg2 : listE [1, 2, 3, 4] ns = 0 := if_pos o1
  have hg := HVg.out
  rw [hg2] at hg
  subst hg
  clear hg2
  have Ho1 := Lib.hid o1
  clear o1
  by_cases o2 : ns.length ≤ 16
  case neg =>
    have d3 : decide ((16 : Int) < (ns.length : Int)) = true := decide_eq_true (by omega)
    have d3' : decide (16 < ns.length) = true := decide_eq_true (by omega)
    have HE : Hid (recE ⟨2, ⟨p0, p1, l⟩, c, p, ns⟩ = 1) := Lib.hid (if_neg (fun h => by
      rcases h.1 with hm | hm
      · exact absurd hm.1 (show ¬ ((2 : Int) = 1) by decide)
      · exact o2 hm.2.2.2.2))
    clear o2
    go_wp2
    go_ret2
    exact ⟨⟨_, by (first | (rw [HE.out]; done) | (rw [HE.out]; rfl))⟩, H2.out.1⟩
  have d3 : decide ((16 : Int) < (ns.length : Int)) = false := decide_eq_false (by omega)
  have d3' : decide (16 < ns.length) = false := decide_eq_false (by omega)
  have Ho2 := Lib.hid o2
  clear o2
  by_cases o3 : 0 ≤ c
  case neg =>
    have d4 : decide (c < 0) = true := decide_eq_true (by omega)
    have HE : Hid (recE ⟨2, ⟨p0, p1, l⟩, c, p, ns⟩ = 1) := Lib.hid (if_neg (fun h => by
      rcases h.1 with hm | hm
      · exact absurd hm.1 (show ¬ ((2 : Int) = 1) by decide)
      · have hc : c = 0 ∨ c = 1 := hm.2.2.2.1
        omega))
    clear o3
    go_wp2
    go_ret2
    exact ⟨⟨_, by (first | (rw [HE.out]; done) | (rw [HE.out]; rfl))⟩, H2.out.1⟩
  have d4 : decide (c < 0) = false := decide_eq_false (by omega)
  have Ho3 := Lib.hid o3
  clear o3
  by_cases o4 : c ≤ 1
  case neg =>
    have d5 : decide (1 < c) = true := decide_eq_true (by omega)
    have HE : Hid (recE ⟨2, ⟨p0, p1, l⟩, c, p, ns⟩ = 1) := Lib.hid (if_neg (fun h => by
      rcases h.1 with hm | hm
      · exact absurd hm.1 (show ¬ ((2 : Int) = 1) by decide)
      · have hc : c = 0 ∨ c = 1 := hm.2.2.2.1
        omega))
    clear o4
    go_wp2
    go_ret2
    exact ⟨⟨_, by (first | (rw [HE.out]; done) | (rw [HE.out]; rfl))⟩, H2.out.1⟩
  have d5 : decide (1 < c) = false := decide_eq_false (by omega)
  have Ho4 := Lib.hid o4
  clear o4
  by_cases o5 : l.length = 0
  case neg =>
    have d6 : decide ((0 : Int) < (l.length : Int)) = true := decide_eq_true (by omega)
    have d6' : decide (0 < l.length) = true := decide_eq_true (by omega)
    have HE : Hid (recE ⟨2, ⟨p0, p1, l⟩, c, p, ns⟩ = 1) := Lib.hid (if_neg (fun h => by
      rcases h.1 with hm | hm
      · exact absurd hm.1 (show ¬ ((2 : Int) = 1) by decide)
      · exact o5 hm.2.2.1))
    clear o5
    go_wp2
    go_ret2
    exact ⟨⟨_, by (first | (rw [HE.out]; done) | (rw [HE.out]; rfl))⟩, H2.out.1⟩
  have d6 : decide ((0 : Int) < (l.length : Int)) = false := decide_eq_false (by omega)
  have d6' : decide (0 < l.length) = false := decide_eq_false (by omega)
  have Ho5 := Lib.hid o5
  clear o5
  by_cases o6 : (p0 = PlV.z ∧ p1 = PlV.z)
  case neg =>
    rw [decide_eq_false o6] at hpa
    have HE : Hid (recE ⟨2, ⟨p0, p1, l⟩, c, p, ns⟩ = 1) := Lib.hid (if_neg (fun h => by
      rcases h.1 with hm | hm
      · exact absurd hm.1 (show ¬ ((2 : Int) = 1) by decide)
      · exact o6 hm.2.1))
    clear o6
    go_wp2
    go_ret2
    exact ⟨⟨_, by (first | (rw [HE.out]; done) | (rw [HE.out]; rfl))⟩, H2.out.1⟩
  rw [decide_eq_true o6] at hpa
  have Ho6 := Lib.hid o6
  clear o6
  have HE : Hid (recE ⟨2, ⟨p0, p1, l⟩, c, p, ns⟩ = 0) := Lib.hid (if_pos ⟨Or.inr ⟨rfl, Ho6.out, Ho5.out, (by have h1 := Ho3.out; have h2 := Ho4.out; show c = 0 ∨ c = 1; omega), Ho2.out⟩, fun h => absurd h (show ¬ ((2 : Int) = 1) by decide), fun _ => ⟨Ho0.out, Ho1.out.2⟩⟩)
  obtain ⟨cn, hcn⟩ := Int.eq_ofNat_of_zero_le Ho3.out
  have HCN : Hid (cn < 256) := Lib.hid (by have := Ho4.out; omega)
  have hwc : IntKind.u64.wrap c = c := IntWalk.u64_in _ (by have h1 := Ho3.out; have h2 := Ho4.out; omega)
  have hsz := HSZ.out
  have s1 : (⟨#[2]⟩ : ByteArray).size + (txt [cn]).size ≤ 9223372036854775807 := by rw [txt_size]; have h : (⟨#[2]⟩ : ByteArray).size = 1 := rfl; simp [h]
  have s2 : ((⟨#[2]⟩ : ByteArray) ++ txt [cn]).size + ta.size ≤ 9223372036854775807 := by rw [ByteArray.size_append, txt_size]; have h : (⟨#[2]⟩ : ByteArray).size = 1 := rfl; simp only [List.length_singleton]; omega
  have s3 : ((⟨#[2]⟩ : ByteArray) ++ txt [cn] ++ ta).size + tb.size ≤ 9223372036854775807 := by rw [ByteArray.size_append, ByteArray.size_append, txt_size]; have h : (⟨#[2]⟩ : ByteArray).size = 1 := rfl; simp only [List.length_singleton]; omega
  have HCC := Lib.hid hcn
  clear hsz hcn
  go_wp2_with fail
  rw [show c = (cn : Int) from HCC.out]
  refine (num_1R cn HCN.out w2).mono ?_
  rintro x w3 ⟨rfl, b3⟩
  have H4 := Lib.hid (H2.out.1.trans (b3.mono H2.out.1.size))
  clear b3
  obtain ⟨t1, ht1⟩ : ∃ t1, t1 = txt [cn] := ⟨_, rfl⟩
  rw [← ht1] at s1 s2 s3 ⊢
  clear ht1
  go_wp2
  go_ret2
  exact ⟨⟨_, by (first | (rw [HE.out]; done) | (rw [HE.out]; rfl))⟩, H4.out⟩
set_option maxRecDepth 100000 in
set_option maxHeartbeats 4000000 in
theorem rs_bytes3 (A : Option Addr) (ca : Nat) (C : Option Addr) (cc : Nat) (p0 p1 p : PlV) (k : Int) (c : Int) (l ns : List NtV) (w : World) (hr : RecW w A C ⟨k, ⟨p0, p1, l⟩, c, p, ns⟩) (h1 : ¬ k = 1) (h2 : ¬ k = 2) :
    Calls Tryz.prog 17 #[.agg #[.int .i64 k, .int .u64 p0.h, .int .i64 p0.i, .int .u64 p1.h, .int .i64 p1.i, .slice A l.length ca, .int .i64 c, .int .u64 p.h, .int .i64 p.i, .slice C ns.length cc]] w (RsP w ⟨k, ⟨p0, p1, l⟩, c, p, ns⟩) := by
  have HR := Lib.hid hr
  obtain ⟨w0, hw0⟩ : ∃ z, z = w.alloc (.cells #[.int .i64 k, .int .u64 p0.h, .int .i64 p0.i, .int .u64 p1.h, .int .i64 p1.i, .slice A l.length ca, .int .i64 c, .int .u64 p.h, .int .i64 p.i, .slice C ns.length cc] 31) := ⟨_, rfl⟩
  obtain ⟨X, hX⟩ : ∃ X, X = w.heap.size := ⟨_, rfl⟩
  have H0 : Hid (Below w.heap.size w w0 ∧ RecX w0 X A ca C cc ⟨k, ⟨p0, p1, l⟩, c, p, ns⟩) := Lib.hid (by
    have hb := Kq.below_alloc w (.cells #[.int .i64 k, .int .u64 p0.h, .int .i64 p0.i, .int .u64 p1.h, .int .i64 p1.i, .slice A l.length ca, .int .i64 c, .int .u64 p.h, .int .i64 p.i, .slice C ns.length cc] 31)
    have hr := Kq.blk_new w #[.int .i64 k, .int .u64 p0.h, .int .i64 p0.i, .int .u64 p1.h, .int .i64 p1.i, .slice A l.length ca, .int .i64 c, .int .u64 p.h, .int .i64 p.i, .slice C ns.length cc] 31 (0, 0)
    rw [← hw0, ← hX] at hr
    rw [← hw0] at hb
    exact ⟨hb, hr⟩)
  clear hr
  obtain ⟨c0, c1, c2, c3, c4, c5, c6, c7, c8, c9⟩ := RecAt.of H0.out.2
  simp only at c0 c1 c2 c3 c4 c5 c6 c7 c8 c9
  rw [hw0] at c0 c1 c2 c3 c4 c5 c6 c7 c8 c9
  go_enter Tryz.func17, Tryz.ntmps17
  have e1 : (k == 1) = false := beq_eq_false_iff_ne.2 h1
  have e2 : (k == 2) = false := beq_eq_false_iff_ne.2 h2
  have HE : Hid (recE ⟨k, ⟨p0, p1, l⟩, c, p, ns⟩ = 1) := Lib.hid (if_neg (fun h => by
    rcases h.1 with hm | hm
    · exact h1 hm.1
    · exact h2 hm.1))
  clear h1 h2
  go_wp2
  go_ret2
  rw [← hw0]
  exact ⟨⟨_, by (first | (rw [HE.out]; done) | (rw [HE.out]; rfl))⟩, H0.out.1⟩
theorem rs_bytes (A : Option Addr) (ca : Nat) (C : Option Addr) (cc : Nat) (r : ReV) (w : World) (hr : RecW w A C r) :
    Calls Tryz.prog 17 #[reV r A ca C cc] w (RsP w r) := by
  obtain ⟨k, ⟨p0, p1, l⟩, c, p, ns⟩ := r
  by_cases h1 : k = 1
  · subst h1; exact rs_bytes1 A ca C cc p0 p1 p c l ns w hr
  by_cases h2 : k = 2
  · subst h2; exact rs_bytes2 A ca C cc p0 p1 p c l ns w hr
  exact rs_bytes3 A ca C cc p0 p1 p k c l ns w hr h1 h2
end Go.Proofs.YtkbiolhcpghmkaaGreat
