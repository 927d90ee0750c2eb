/- carracklaw17.RecordCuts walked. No condition. -/
import Derived.WalkSpells
import Derived.Outline
import Derived.Test.YtkbiolhcpghmkaaRcSameQ
import Derived.Test.YtkbiolhcpghmkaaRcCutQ
import Derived.Test.YtkbiolhcpghmkaaRcOpenQ
namespace Go.Proofs.Ytkbiolhcpghmkaa
open Go.RowKit Go.Kq
set_option linter.unusedVariables false
namespace recordCuts
theorem ext_txt (l : List Nat) (h : ∀ b ∈ l, b < 256) (n : Nat) : (txt l).extract 0 n = txt (l.take n) := by
  apply nl_inj
  rw [nl_extract, nl_txt l h, nl_txt _ (fun b hb => h b (List.mem_of_mem_take hb)), List.drop_zero, Nat.sub_zero]
theorem app_txt (l : List Nat) (h : ∀ b ∈ l, b < 256) (s : ByteArray) : txt l ++ s = txt (l ++ nl s) := by
  apply nl_inj
  rw [nl_append, nl_txt l h, nl_txt]
  intro b hb
  rcases List.mem_append.1 hb with g | g
  · exact h b g
  · exact nl_lt s b g
theorem ext_all (s : ByteArray) : s.extract 0 s.size = s := by
  apply nl_inj
  rw [nl_extract, List.drop_zero, Nat.sub_zero, ← nl_length, List.take_length]
theorem zr_eq : (⟨0, ⟨PlV.z, PlV.z, []⟩, 0, PlV.z, []⟩ : ReV) = zR := rfl
set_option maxRecDepth 100000 in
set_option maxHeartbeats 4000000 in
theorem main (D : Option Addr) (cd : Nat) (C : Option Addr) (cc : Nat) (r : ReV) (cut : Int) (more : ByteArray) (W : World) (hr : RecL W D C r) :
    Calls Try.prog 5 #[reV r D cd C cc, .int .i64 cut, .string more] W fun x w' => x = .returned (.bool true) ∧ Below W.heap.size W w' := by
  have HG := Lib.hid hr
  clear hr
  obtain ⟨w0, hw0⟩ : ∃ z, z = W.alloc (.cells #[.int .i64 r.k, .int .u64 r.d.p0.h, .int .i64 r.d.p0.i, .int .u64 r.d.p1.h, .int .i64 r.d.p1.i, .slice D r.d.l.length cd, .int .i64 r.c, .int .u64 r.p.h, .int .i64 r.p.i, .slice C r.ns.length cc] 35) := ⟨_, rfl⟩
  obtain ⟨X3, hX3⟩ : ∃ X, X = W.heap.size := ⟨_, rfl⟩
  have H0 : Hid (Below W.heap.size W w0 ∧ RecX w0 X3 D cd C cc r) := Lib.hid (by
    have hb := Kq.below_alloc W (.cells #[.int .i64 r.k, .int .u64 r.d.p0.h, .int .i64 r.d.p0.i, .int .u64 r.d.p1.h, .int .i64 r.d.p1.i, .slice D r.d.l.length cd, .int .i64 r.c, .int .u64 r.p.h, .int .i64 r.p.i, .slice C r.ns.length cc] 35)
    have hr := Kq.blk_new W #[.int .i64 r.k, .int .u64 r.d.p0.h, .int .i64 r.d.p0.i, .int .u64 r.d.p1.h, .int .i64 r.d.p1.i, .slice D r.d.l.length cd, .int .i64 r.c, .int .u64 r.p.h, .int .i64 r.p.i, .slice C r.ns.length cc] 35 (0, 0)
    rw [← hw0] at hb
    rw [← hw0, ← hX3] at hr
    exact ⟨hb, hr⟩)
  unfold reV
  go_enter Try.func5, Try.ntmps5
  go_wp2_with fail
  rw [← hw0, ← hX3]
  clear hw0 hX3
  refine (awake17 w0).mono ?_
  rintro x w1 ⟨rfl, b1⟩
  have H1 : Hid (Below W.heap.size W w1 ∧ RecX w1 X3 D cd C cc r) := Lib.hid ⟨H0.out.1.trans (b1.mono H0.out.1.size), Kq.below_blk b1 H0.out.2 (Kq.blk_lt H0.out.2)⟩
  clear b1 H0
  have x0 := Kq.blk_cell H1.out.2 0
  have x1 := Kq.blk_cell H1.out.2 1
  have x2 := Kq.blk_cell H1.out.2 2
  have x3 := Kq.blk_cell H1.out.2 3
  have x4 := Kq.blk_cell H1.out.2 4
  have x5 := Kq.blk_cell H1.out.2 5
  have x6 := Kq.blk_cell H1.out.2 6
  have x7 := Kq.blk_cell H1.out.2 7
  have x8 := Kq.blk_cell H1.out.2 8
  have x9 := Kq.blk_cell H1.out.2 9
  go_wp2_with fail
  refine (few17 D cd C cc r w1 (HG.out.d.l.below H1.out.1) (HG.out.ns.below H1.out.1)).mono ?_
  rintro x w2 ⟨rfl, b2⟩
  have H2 : Hid (Below W.heap.size W w2 ∧ RecX w2 X3 D cd C cc r) := Lib.hid ⟨H1.out.1.trans (b2.mono H1.out.1.size), Kq.below_blk b2 H1.out.2 (Kq.blk_lt H1.out.2)⟩
  clear b2 H1 x0 x1 x2 x3 x4 x5 x6 x7 x8 x9
  by_cases hf : FewR r
  case neg =>
    rw [decide_eq_false hf]
    clear hf
    go_wp2
    go_ret
    exact ⟨rfl, H2.out.1⟩
  rw [decide_eq_true hf]
  have HRW : Hid (∀ w', Below W.heap.size W w' → RecW w' D C r) := Lib.hid (fun w' hb => (HG.out.few hf.1.2 hf.1.1).below hb)
  clear hf
  by_cases hm : 300 < more.size
  · have d1 : decide ((300 : Int) < (more.size : Int)) = true := decide_eq_true (by omega)
    have d1' : decide (300 < more.size) = true := decide_eq_true hm
    clear hm
    go_wp2
    go_ret
    exact ⟨rfl, H2.out.1⟩
  have d1 : decide ((300 : Int) < (more.size : Int)) = false := decide_eq_false (by omega)
  have d1' : decide (300 < more.size) = false := decide_eq_false hm
  have HM : Hid (more.size ≤ 300) := Lib.hid (by omega)
  clear hm
  have x0 := Kq.blk_cell H2.out.2 0
  have x1 := Kq.blk_cell H2.out.2 1
  have x2 := Kq.blk_cell H2.out.2 2
  have x3 := Kq.blk_cell H2.out.2 3
  have x4 := Kq.blk_cell H2.out.2 4
  have x5 := Kq.blk_cell H2.out.2 5
  have x6 := Kq.blk_cell H2.out.2 6
  have x7 := Kq.blk_cell H2.out.2 7
  have x8 := Kq.blk_cell H2.out.2 8
  have x9 := Kq.blk_cell H2.out.2 9
  go_wp2_with fail
  refine (rec_bytes D cd C cc r w2 (HRW.out w2 H2.out.1)).mono ?_
  rintro x w3 ⟨rfl, b3⟩
  have H3 : Hid (Below W.heap.size W w3 ∧ RecX w3 X3 D cd C cc r) := Lib.hid ⟨H2.out.1.trans (b3.mono H2.out.1.size), Kq.below_blk b3 H2.out.2 (Kq.blk_lt H2.out.2)⟩
  clear b3 H2 x0 x1 x2 x3 x4 x5 x6 x7 x8 x9 d1 d1'
  by_cases hok : RecOk r
  case neg =>
    rw [show recE r = 1 from if_neg hok, show recT r = ⟨#[]⟩ from if_neg hok]
    clear hok
    go_wp2
    go_ret
    exact ⟨rfl, H3.out.1⟩
  rw [recE_ok hok, recT_ok hok]
  have HOK := Lib.hid (And.intro hok (HRW.out w3 H3.out.1).num)
  have HLT := Lib.hid (encR_lt r hok)
  have HLEN := Lib.hid (encR_len r hok)
  clear hok
  obtain ⟨s, hs⟩ : ∃ s, s = txt (encR r) := ⟨_, rfl⟩
  rw [← hs]
  have HS : Hid (s = txt (encR r) ∧ s.size = (encR r).length) := Lib.hid ⟨hs, by rw [hs, txt_size]⟩
  clear hs
  have hsz : s.size ≤ 3600 := by have h1 := HS.out.2; have h2 := HLEN.out; omega
  by_cases hcut : 0 ≤ cut ∧ cut < (s.size : Int)
  · obtain ⟨n, rfl⟩ := Int.eq_ofNat_of_zero_le hcut.1
    have hn : n < s.size := by have := hcut.2; omega
    have d1 : decide ((n : Int) < 0) = false := decide_eq_false (by omega)
    have d2 : decide ((s.size : Int) < (n : Int)) = false := decide_eq_false (by omega)
    have d2' : decide (s.size < n) = false := decide_eq_false (by omega)
    have d3 : decide ((n : Int) < (s.size : Int)) = true := decide_eq_true (by omega)
    have d3' : decide (n < s.size) = true := decide_eq_true hn
    have g1 : (n : Int) ≤ (s.size : Int) := by omega
    have HN := Lib.hid hn
    have hE : s.extract 0 n = txt ((encR r).take n) := by rw [HS.out.1]; exact ext_txt _ HLT.out n
    have HE := Lib.hid hE
    clear hcut hn hE
    go_wp2_with fail
    simp only [HE.out]
    refine (rec_parse_cut r n w3 HOK.out.1 HOK.out.2 (by have h1 := HN.out; have h2 := HS.out.2; omega)).mono ?_
    rintro x w4 ⟨rfl, b4⟩
    clear d1 d2 d2'
    obtain ⟨X9, hX9⟩ : ∃ X, X = w4.heap.size := ⟨_, rfl⟩
    obtain ⟨w5, hw5⟩ : ∃ z, z = w4.alloc (.cells #[.int .i64 0, .int .u64 0, .int .i64 0, .int .u64 0, .int .i64 0, .slice none 0 0, .int .i64 0, .int .u64 0, .int .i64 0, .slice none 0 0] 35) := ⟨_, rfl⟩
    have H5 : Hid (Below W.heap.size W w5 ∧ RecX w5 X9 none 0 none 0 zR) := Lib.hid (by
      have hb := Kq.below_alloc w4 (.cells #[.int .i64 0, .int .u64 0, .int .i64 0, .int .u64 0, .int .i64 0, .slice none 0 0, .int .i64 0, .int .u64 0, .int .i64 0, .slice none 0 0] 35)
      have hr := Kq.blk_new w4 #[.int .i64 0, .int .u64 0, .int .i64 0, .int .u64 0, .int .i64 0, .slice none 0 0, .int .i64 0, .int .u64 0, .int .i64 0, .slice none 0 0] 35 (0, 0)
      rw [← hw5] at hb
      rw [← hw5, ← hX9] at hr
      exact ⟨(H3.out.1.trans (b4.mono H3.out.1.size)).trans (hb.mono (Nat.le_trans H3.out.1.size b4.size)), hr⟩)
    have x0 := Kq.blk_cell H5.out.2 0
    have x1 := Kq.blk_cell H5.out.2 1
    have x2 := Kq.blk_cell H5.out.2 2
    have x3 := Kq.blk_cell H5.out.2 3
    have x4 := Kq.blk_cell H5.out.2 4
    have x5 := Kq.blk_cell H5.out.2 5
    have x6 := Kq.blk_cell H5.out.2 6
    have x7 := Kq.blk_cell H5.out.2 7
    have x8 := Kq.blk_cell H5.out.2 8
    have x9 := Kq.blk_cell H5.out.2 9
    simp only [zR, PlV.z, List.length_nil] at x0 x1 x2 x3 x4 x5 x6 x7 x8 x9
    rw [hw5, hX9] at x0 x1 x2 x3 x4 x5 x6 x7 x8 x9
    unfold reZ
    go_wp2_with fail
    rw [← hw5]
    clear x0 x1 x2 x3 x4 x5 x6 x7 x8 x9 hw5 hX9
    refine (rec_same none 0 none 0 none 0 none 0 zR w5 (zR_w w5) (zR_w w5)).mono ?_
    rintro x w6 ⟨rfl, b6⟩
    have H6 := Lib.hid (H5.out.1.trans (b6.mono H5.out.1.size))
    clear b6
    go_wp2
    go_ret
    exact ⟨rfl, H6.out⟩
  by_cases hneg : cut < 0
  · have d1 : decide (cut < 0) = true := decide_eq_true hneg
    have d2 : decide (cut < 0) = true := decide_eq_true hneg
    have d2' : decide (cut < 0) = true := decide_eq_true hneg
    clear hneg hcut
    have hP := rec_parse r w3 HOK.out.1 HOK.out.2
    rw [← HS.out.1] at hP
    go_wp2_with fail
    try simp only [ext_all]
    refine hP.mono ?_
    clear hP
    rintro x w4 ⟨A4, ca4, C4, cc4, rfl, hw4, b4⟩
    clear d1 d2 d2'
    obtain ⟨X9, hX9⟩ : ∃ X, X = w4.heap.size := ⟨_, rfl⟩
    obtain ⟨w5, hw5⟩ : ∃ z, z = w4.alloc (.cells #[.int .i64 r.k, .int .u64 r.d.p0.h, .int .i64 r.d.p0.i, .int .u64 r.d.p1.h, .int .i64 r.d.p1.i, .slice A4 r.d.l.length ca4, .int .i64 r.c, .int .u64 r.p.h, .int .i64 r.p.i, .slice C4 r.ns.length cc4] 35) := ⟨_, rfl⟩
    have H5 : Hid (Below W.heap.size W w5 ∧ RecX w5 X3 D cd C cc r ∧ RecX w5 X9 A4 ca4 C4 cc4 r ∧ RecW w5 A4 C4 r) := Lib.hid (by
      have hb := Kq.below_alloc w4 (.cells #[.int .i64 r.k, .int .u64 r.d.p0.h, .int .i64 r.d.p0.i, .int .u64 r.d.p1.h, .int .i64 r.d.p1.i, .slice A4 r.d.l.length ca4, .int .i64 r.c, .int .u64 r.p.h, .int .i64 r.p.i, .slice C4 r.ns.length cc4] 35)
      have hr := Kq.blk_new w4 #[.int .i64 r.k, .int .u64 r.d.p0.h, .int .i64 r.d.p0.i, .int .u64 r.d.p1.h, .int .i64 r.d.p1.i, .slice A4 r.d.l.length ca4, .int .i64 r.c, .int .u64 r.p.h, .int .i64 r.p.i, .slice C4 r.ns.length cc4] 35 (0, 0)
      rw [← hw5] at hb
      rw [← hw5, ← hX9] at hr
      exact ⟨(H3.out.1.trans (b4.mono H3.out.1.size)).trans (hb.mono (Nat.le_trans H3.out.1.size b4.size)), (by
        have h1 := Kq.below_blk b4 H3.out.2 (Kq.blk_lt H3.out.2)
        exact Kq.below_blk hb h1 (Kq.blk_lt h1)), hr, hw4.below hb⟩)
    clear b4 hw4 H3
    have hm3 := HM.out
    have hadd : s.size + more.size ≤ 9223372036854775807 := by omega
    have d3 : decide ((s.size : Int) < (s.size : Int)) = false := decide_eq_false (by omega)
    have d3' : decide (s.size < s.size) = false := decide_eq_false (by omega)
    unfold reV
    by_cases hm0 : more.size = 0
    · obtain rfl : more = ⟨#[]⟩ := nl_inj (by rw [show nl ⟨#[]⟩ = [] from rfl]; exact List.eq_nil_of_length_eq_zero (by rw [nl_length]; exact hm0))
      have hP := rec_parse r w5 HOK.out.1 HOK.out.2
      rw [← HS.out.1] at hP
      have hsm : s ++ (⟨#[]⟩ : ByteArray) = s := nl_inj (by rw [nl_append, show nl ⟨#[]⟩ = [] from rfl, List.append_nil])
      go_wp2_with fail
      rw [← hw5, ← hX9]
      try simp only [hsm]
      refine hP.mono ?_
      clear hP hsm hm3 hadd d3 d3' hm0 hw5 hX9
      rintro x w6 ⟨A6, ca6, C6, cc6, rfl, hw6, b6⟩
      obtain ⟨X11, hX11⟩ : ∃ X, X = w6.heap.size := ⟨_, rfl⟩
      obtain ⟨w7, hw7⟩ : ∃ z, z = w6.alloc (.cells #[.int .i64 r.k, .int .u64 r.d.p0.h, .int .i64 r.d.p0.i, .int .u64 r.d.p1.h, .int .i64 r.d.p1.i, .slice A6 r.d.l.length ca6, .int .i64 r.c, .int .u64 r.p.h, .int .i64 r.p.i, .slice C6 r.ns.length cc6] 35) := ⟨_, rfl⟩
      have H7 : Hid (Below W.heap.size W w7 ∧ RecX w7 X3 D cd C cc r ∧ RecX w7 X9 A4 ca4 C4 cc4 r ∧ RecW w7 A4 C4 r ∧ RecX w7 X11 A6 ca6 C6 cc6 r ∧ RecW w7 A6 C6 r) := Lib.hid (by
        have hb := Kq.below_alloc w6 (.cells #[.int .i64 r.k, .int .u64 r.d.p0.h, .int .i64 r.d.p0.i, .int .u64 r.d.p1.h, .int .i64 r.d.p1.i, .slice A6 r.d.l.length ca6, .int .i64 r.c, .int .u64 r.p.h, .int .i64 r.p.i, .slice C6 r.ns.length cc6] 35)
        have hr := Kq.blk_new w6 #[.int .i64 r.k, .int .u64 r.d.p0.h, .int .i64 r.d.p0.i, .int .u64 r.d.p1.h, .int .i64 r.d.p1.i, .slice A6 r.d.l.length ca6, .int .i64 r.c, .int .u64 r.p.h, .int .i64 r.p.i, .slice C6 r.ns.length cc6] 35 (0, 0)
        rw [← hw7] at hb
        rw [← hw7, ← hX11] at hr
        have h1 := Kq.below_blk b6 H5.out.2.1 (Kq.blk_lt H5.out.2.1)
        have h2 := Kq.below_blk b6 H5.out.2.2.1 (Kq.blk_lt H5.out.2.2.1)
        exact ⟨(H5.out.1.trans (b6.mono H5.out.1.size)).trans (hb.mono (Nat.le_trans H5.out.1.size b6.size)), Kq.below_blk hb h1 (Kq.blk_lt h1), Kq.below_blk hb h2 (Kq.blk_lt h2), (H5.out.2.2.2.below b6).below hb, hr, hw6.below hb⟩)
      clear b6 hw6 H5
      have x0 := Kq.blk_cell H7.out.2.2.1 0
      have x1 := Kq.blk_cell H7.out.2.2.1 1
      have x2 := Kq.blk_cell H7.out.2.2.1 2
      have x3 := Kq.blk_cell H7.out.2.2.1 3
      have x4 := Kq.blk_cell H7.out.2.2.1 4
      have x5 := Kq.blk_cell H7.out.2.2.1 5
      have x6 := Kq.blk_cell H7.out.2.2.1 6
      have x7 := Kq.blk_cell H7.out.2.2.1 7
      have x8 := Kq.blk_cell H7.out.2.2.1 8
      have x9 := Kq.blk_cell H7.out.2.2.1 9
      have y0 := Kq.blk_cell H7.out.2.1 0
      have y1 := Kq.blk_cell H7.out.2.1 1
      have y2 := Kq.blk_cell H7.out.2.1 2
      have y3 := Kq.blk_cell H7.out.2.1 3
      have y4 := Kq.blk_cell H7.out.2.1 4
      have y5 := Kq.blk_cell H7.out.2.1 5
      have y6 := Kq.blk_cell H7.out.2.1 6
      have y7 := Kq.blk_cell H7.out.2.1 7
      have y8 := Kq.blk_cell H7.out.2.1 8
      have y9 := Kq.blk_cell H7.out.2.1 9
      rw [hw7] at x0 x1 x2 x3 x4 x5 x6 x7 x8 x9
      rw [hw7] at y0 y1 y2 y3 y4 y5 y6 y7 y8 y9
      unfold reV
      go_wp2_with fail
      rw [← hw7, ← hX11]
      clear x0 x1 x2 x3 x4 x5 x6 x7 x8 x9 y0 y1 y2 y3 y4 y5 y6 y7 y8 y9 hw7 hX11
      refine (rec_same A4 ca4 C4 cc4 D cd C cc r w7 H7.out.2.2.2.1 (HRW.out w7 H7.out.1)).mono ?_
      rintro x w8 ⟨rfl, b8⟩
      have H8 : Hid (Below W.heap.size W w8 ∧ RecX w8 X3 D cd C cc r ∧ RecX w8 X11 A6 ca6 C6 cc6 r ∧ RecW w8 A6 C6 r) := Lib.hid ⟨H7.out.1.trans (b8.mono H7.out.1.size), Kq.below_blk b8 H7.out.2.1 (Kq.blk_lt H7.out.2.1), Kq.below_blk b8 H7.out.2.2.2.2.1 (Kq.blk_lt H7.out.2.2.2.2.1), H7.out.2.2.2.2.2.below b8⟩
      clear b8 H7
      have x0 := Kq.blk_cell H8.out.2.2.1 0
      have x1 := Kq.blk_cell H8.out.2.2.1 1
      have x2 := Kq.blk_cell H8.out.2.2.1 2
      have x3 := Kq.blk_cell H8.out.2.2.1 3
      have x4 := Kq.blk_cell H8.out.2.2.1 4
      have x5 := Kq.blk_cell H8.out.2.2.1 5
      have x6 := Kq.blk_cell H8.out.2.2.1 6
      have x7 := Kq.blk_cell H8.out.2.2.1 7
      have x8 := Kq.blk_cell H8.out.2.2.1 8
      have x9 := Kq.blk_cell H8.out.2.2.1 9
      have y0 := Kq.blk_cell H8.out.2.1 0
      have y1 := Kq.blk_cell H8.out.2.1 1
      have y2 := Kq.blk_cell H8.out.2.1 2
      have y3 := Kq.blk_cell H8.out.2.1 3
      have y4 := Kq.blk_cell H8.out.2.1 4
      have y5 := Kq.blk_cell H8.out.2.1 5
      have y6 := Kq.blk_cell H8.out.2.1 6
      have y7 := Kq.blk_cell H8.out.2.1 7
      have y8 := Kq.blk_cell H8.out.2.1 8
      have y9 := Kq.blk_cell H8.out.2.1 9
      go_wp2_with fail
      clear x0 x1 x2 x3 x4 x5 x6 x7 x8 x9 y0 y1 y2 y3 y4 y5 y6 y7 y8 y9
      refine (rec_same A6 ca6 C6 cc6 D cd C cc r w8 H8.out.2.2.2 (HRW.out w8 H8.out.1)).mono ?_
      rintro x w9 ⟨rfl, b9⟩
      have H9 := Lib.hid (H8.out.1.trans (b9.mono H8.out.1.size))
      clear b9 H8
      go_wp2
      go_ret
      exact ⟨rfl, H9.out⟩
    · obtain ⟨mb, mt, hnl⟩ : ∃ mb mt, nl more = mb :: mt := by
        cases h : nl more with
        | nil => exact absurd (by rw [← nl_length, h]; rfl) hm0
        | cons a t => exact ⟨a, t, rfl⟩
      have hP := rec_parse_more r mb mt w5 HOK.out.1 HOK.out.2 (by rw [← hnl]; exact nl_lt more) (by rw [← hnl, nl_length]; omega)
      have hsm : s ++ more = txt (encR r ++ mb :: mt) := by rw [HS.out.1, ← hnl]; exact app_txt _ HLT.out more
      rw [← hsm] at hP
      clear hsm hnl
      have hne : ¬ more = ⟨#[]⟩ := fun h => hm0 (by rw [h]; rfl)
      have q1 : (more.toList == []) = false := by
        rw [beq_eq_false_iff_ne]
        intro h
        rw [ByteArray.toList_eq] at h
        exact hm0 (by show more.data.size = 0; rw [← Array.length_toList, h]; rfl)
      have q2 : (more.toList == (⟨#[]⟩ : ByteArray).toList) = false := by rw [show (⟨#[]⟩ : ByteArray).toList = [] from by rw [ByteArray.toList_eq]]; exact q1
      have HQ := Lib.hid (And.intro q1 (And.intro q2 hne))
      clear q1 q2 hne
      go_wp2_with fail
      rw [← hw5, ← hX9]
      refine hP.mono ?_
      clear hP hm3 hadd d3 d3' hm0 hw5 hX9
      rintro x w6 ⟨rfl, b6⟩
      obtain ⟨X11, hX11⟩ : ∃ X, X = w6.heap.size := ⟨_, rfl⟩
      obtain ⟨w7, hw7⟩ : ∃ z, z = w6.alloc (.cells #[.int .i64 0, .int .u64 0, .int .i64 0, .int .u64 0, .int .i64 0, .slice none 0 0, .int .i64 0, .int .u64 0, .int .i64 0, .slice none 0 0] 35) := ⟨_, rfl⟩
      have H7 : Hid (Below W.heap.size W w7 ∧ RecX w7 X3 D cd C cc r ∧ RecX w7 X9 A4 ca4 C4 cc4 r ∧ RecW w7 A4 C4 r ∧ RecX w7 X11 none 0 none 0 zR) := Lib.hid (by
        have hb := Kq.below_alloc w6 (.cells #[.int .i64 0, .int .u64 0, .int .i64 0, .int .u64 0, .int .i64 0, .slice none 0 0, .int .i64 0, .int .u64 0, .int .i64 0, .slice none 0 0] 35)
        have hr := Kq.blk_new w6 #[.int .i64 0, .int .u64 0, .int .i64 0, .int .u64 0, .int .i64 0, .slice none 0 0, .int .i64 0, .int .u64 0, .int .i64 0, .slice none 0 0] 35 (0, 0)
        rw [← hw7] at hb
        rw [← hw7, ← hX11] at hr
        have h1 := Kq.below_blk b6 H5.out.2.1 (Kq.blk_lt H5.out.2.1)
        have h2 := Kq.below_blk b6 H5.out.2.2.1 (Kq.blk_lt H5.out.2.2.1)
        exact ⟨(H5.out.1.trans (b6.mono H5.out.1.size)).trans (hb.mono (Nat.le_trans H5.out.1.size b6.size)), Kq.below_blk hb h1 (Kq.blk_lt h1), Kq.below_blk hb h2 (Kq.blk_lt h2), (H5.out.2.2.2.below b6).below hb, hr⟩)
      clear b6 H5
      have x0 := Kq.blk_cell H7.out.2.2.1 0
      have x1 := Kq.blk_cell H7.out.2.2.1 1
      have x2 := Kq.blk_cell H7.out.2.2.1 2
      have x3 := Kq.blk_cell H7.out.2.2.1 3
      have x4 := Kq.blk_cell H7.out.2.2.1 4
      have x5 := Kq.blk_cell H7.out.2.2.1 5
      have x6 := Kq.blk_cell H7.out.2.2.1 6
      have x7 := Kq.blk_cell H7.out.2.2.1 7
      have x8 := Kq.blk_cell H7.out.2.2.1 8
      have x9 := Kq.blk_cell H7.out.2.2.1 9
      have y0 := Kq.blk_cell H7.out.2.1 0
      have y1 := Kq.blk_cell H7.out.2.1 1
      have y2 := Kq.blk_cell H7.out.2.1 2
      have y3 := Kq.blk_cell H7.out.2.1 3
      have y4 := Kq.blk_cell H7.out.2.1 4
      have y5 := Kq.blk_cell H7.out.2.1 5
      have y6 := Kq.blk_cell H7.out.2.1 6
      have y7 := Kq.blk_cell H7.out.2.1 7
      have y8 := Kq.blk_cell H7.out.2.1 8
      have y9 := Kq.blk_cell H7.out.2.1 9
      rw [hw7] at x0 x1 x2 x3 x4 x5 x6 x7 x8 x9
      rw [hw7] at y0 y1 y2 y3 y4 y5 y6 y7 y8 y9
      unfold reZ
      go_wp2_with fail
      rw [← hw7, ← hX11]
      clear x0 x1 x2 x3 x4 x5 x6 x7 x8 x9 y0 y1 y2 y3 y4 y5 y6 y7 y8 y9 hw7 hX11
      refine (rec_same A4 ca4 C4 cc4 D cd C cc r w7 H7.out.2.2.2.1 (HRW.out w7 H7.out.1)).mono ?_
      rintro x w8 ⟨rfl, b8⟩
      have H8 : Hid (Below W.heap.size W w8 ∧ RecX w8 X11 none 0 none 0 zR) := Lib.hid ⟨H7.out.1.trans (b8.mono H7.out.1.size), Kq.below_blk b8 H7.out.2.2.2.2 (Kq.blk_lt H7.out.2.2.2.2)⟩
      clear b8 H7
      have x0 := Kq.blk_cell H8.out.2 0
      have x1 := Kq.blk_cell H8.out.2 1
      have x2 := Kq.blk_cell H8.out.2 2
      have x3 := Kq.blk_cell H8.out.2 3
      have x4 := Kq.blk_cell H8.out.2 4
      have x5 := Kq.blk_cell H8.out.2 5
      have x6 := Kq.blk_cell H8.out.2 6
      have x7 := Kq.blk_cell H8.out.2 7
      have x8 := Kq.blk_cell H8.out.2 8
      have x9 := Kq.blk_cell H8.out.2 9
      simp only [zR, PlV.z, List.length_nil] at x0 x1 x2 x3 x4 x5 x6 x7 x8 x9
      obtain ⟨q1, q2, q3⟩ := HQ.out
      go_wp2_with fail
      clear x0 x1 x2 x3 x4 x5 x6 x7 x8 x9 q1 q2 q3
      refine (rec_same none 0 none 0 none 0 none 0 zR w8 (zR_w w8) (zR_w w8)).mono ?_
      rintro x w9 ⟨rfl, b9⟩
      have H9 := Lib.hid (H8.out.1.trans (b9.mono H8.out.1.size))
      clear b9 H8
      have q1 := HQ.out.1
      have q2 := HQ.out.2.1
      go_wp2
      go_ret
      exact ⟨rfl, H9.out⟩
  by_cases hbig : (s.size : Int) < cut
  · have d1 : decide (cut < 0) = false := decide_eq_false hneg
    have d2 : decide ((s.size : Int) < cut) = true := decide_eq_true hbig
    have d2' : decide (cut < 0) = false := decide_eq_false hneg
    clear hneg hbig hcut
    have hP := rec_parse r w3 HOK.out.1 HOK.out.2
    rw [← HS.out.1] at hP
    go_wp2_with fail
    try simp only [ext_all]
    refine hP.mono ?_
    clear hP
    rintro x w4 ⟨A4, ca4, C4, cc4, rfl, hw4, b4⟩
    clear d1 d2 d2'
    obtain ⟨X9, hX9⟩ : ∃ X, X = w4.heap.size := ⟨_, rfl⟩
    obtain ⟨w5, hw5⟩ : ∃ z, z = w4.alloc (.cells #[.int .i64 r.k, .int .u64 r.d.p0.h, .int .i64 r.d.p0.i, .int .u64 r.d.p1.h, .int .i64 r.d.p1.i, .slice A4 r.d.l.length ca4, .int .i64 r.c, .int .u64 r.p.h, .int .i64 r.p.i, .slice C4 r.ns.length cc4] 35) := ⟨_, rfl⟩
    have H5 : Hid (Below W.heap.size W w5 ∧ RecX w5 X3 D cd C cc r ∧ RecX w5 X9 A4 ca4 C4 cc4 r ∧ RecW w5 A4 C4 r) := Lib.hid (by
      have hb := Kq.below_alloc w4 (.cells #[.int .i64 r.k, .int .u64 r.d.p0.h, .int .i64 r.d.p0.i, .int .u64 r.d.p1.h, .int .i64 r.d.p1.i, .slice A4 r.d.l.length ca4, .int .i64 r.c, .int .u64 r.p.h, .int .i64 r.p.i, .slice C4 r.ns.length cc4] 35)
      have hr := Kq.blk_new w4 #[.int .i64 r.k, .int .u64 r.d.p0.h, .int .i64 r.d.p0.i, .int .u64 r.d.p1.h, .int .i64 r.d.p1.i, .slice A4 r.d.l.length ca4, .int .i64 r.c, .int .u64 r.p.h, .int .i64 r.p.i, .slice C4 r.ns.length cc4] 35 (0, 0)
      rw [← hw5] at hb
      rw [← hw5, ← hX9] at hr
      exact ⟨(H3.out.1.trans (b4.mono H3.out.1.size)).trans (hb.mono (Nat.le_trans H3.out.1.size b4.size)), (by
        have h1 := Kq.below_blk b4 H3.out.2 (Kq.blk_lt H3.out.2)
        exact Kq.below_blk hb h1 (Kq.blk_lt h1)), hr, hw4.below hb⟩)
    clear b4 hw4 H3
    have hm3 := HM.out
    have hadd : s.size + more.size ≤ 9223372036854775807 := by omega
    have d3 : decide ((s.size : Int) < (s.size : Int)) = false := decide_eq_false (by omega)
    have d3' : decide (s.size < s.size) = false := decide_eq_false (by omega)
    unfold reV
    by_cases hm0 : more.size = 0
    · obtain rfl : more = ⟨#[]⟩ := nl_inj (by rw [show nl ⟨#[]⟩ = [] from rfl]; exact List.eq_nil_of_length_eq_zero (by rw [nl_length]; exact hm0))
      have hP := rec_parse r w5 HOK.out.1 HOK.out.2
      rw [← HS.out.1] at hP
      have hsm : s ++ (⟨#[]⟩ : ByteArray) = s := nl_inj (by rw [nl_append, show nl ⟨#[]⟩ = [] from rfl, List.append_nil])
      go_wp2_with fail
      rw [← hw5, ← hX9]
      try simp only [hsm]
      refine hP.mono ?_
      clear hP hsm hm3 hadd d3 d3' hm0 hw5 hX9
      rintro x w6 ⟨A6, ca6, C6, cc6, rfl, hw6, b6⟩
      obtain ⟨X11, hX11⟩ : ∃ X, X = w6.heap.size := ⟨_, rfl⟩
      obtain ⟨w7, hw7⟩ : ∃ z, z = w6.alloc (.cells #[.int .i64 r.k, .int .u64 r.d.p0.h, .int .i64 r.d.p0.i, .int .u64 r.d.p1.h, .int .i64 r.d.p1.i, .slice A6 r.d.l.length ca6, .int .i64 r.c, .int .u64 r.p.h, .int .i64 r.p.i, .slice C6 r.ns.length cc6] 35) := ⟨_, rfl⟩
      have H7 : Hid (Below W.heap.size W w7 ∧ RecX w7 X3 D cd C cc r ∧ RecX w7 X9 A4 ca4 C4 cc4 r ∧ RecW w7 A4 C4 r ∧ RecX w7 X11 A6 ca6 C6 cc6 r ∧ RecW w7 A6 C6 r) := Lib.hid (by
        have hb := Kq.below_alloc w6 (.cells #[.int .i64 r.k, .int .u64 r.d.p0.h, .int .i64 r.d.p0.i, .int .u64 r.d.p1.h, .int .i64 r.d.p1.i, .slice A6 r.d.l.length ca6, .int .i64 r.c, .int .u64 r.p.h, .int .i64 r.p.i, .slice C6 r.ns.length cc6] 35)
        have hr := Kq.blk_new w6 #[.int .i64 r.k, .int .u64 r.d.p0.h, .int .i64 r.d.p0.i, .int .u64 r.d.p1.h, .int .i64 r.d.p1.i, .slice A6 r.d.l.length ca6, .int .i64 r.c, .int .u64 r.p.h, .int .i64 r.p.i, .slice C6 r.ns.length cc6] 35 (0, 0)
        rw [← hw7] at hb
        rw [← hw7, ← hX11] at hr
        have h1 := Kq.below_blk b6 H5.out.2.1 (Kq.blk_lt H5.out.2.1)
        have h2 := Kq.below_blk b6 H5.out.2.2.1 (Kq.blk_lt H5.out.2.2.1)
        exact ⟨(H5.out.1.trans (b6.mono H5.out.1.size)).trans (hb.mono (Nat.le_trans H5.out.1.size b6.size)), Kq.below_blk hb h1 (Kq.blk_lt h1), Kq.below_blk hb h2 (Kq.blk_lt h2), (H5.out.2.2.2.below b6).below hb, hr, hw6.below hb⟩)
      clear b6 hw6 H5
      have x0 := Kq.blk_cell H7.out.2.2.1 0
      have x1 := Kq.blk_cell H7.out.2.2.1 1
      have x2 := Kq.blk_cell H7.out.2.2.1 2
      have x3 := Kq.blk_cell H7.out.2.2.1 3
      have x4 := Kq.blk_cell H7.out.2.2.1 4
      have x5 := Kq.blk_cell H7.out.2.2.1 5
      have x6 := Kq.blk_cell H7.out.2.2.1 6
      have x7 := Kq.blk_cell H7.out.2.2.1 7
      have x8 := Kq.blk_cell H7.out.2.2.1 8
      have x9 := Kq.blk_cell H7.out.2.2.1 9
      have y0 := Kq.blk_cell H7.out.2.1 0
      have y1 := Kq.blk_cell H7.out.2.1 1
      have y2 := Kq.blk_cell H7.out.2.1 2
      have y3 := Kq.blk_cell H7.out.2.1 3
      have y4 := Kq.blk_cell H7.out.2.1 4
      have y5 := Kq.blk_cell H7.out.2.1 5
      have y6 := Kq.blk_cell H7.out.2.1 6
      have y7 := Kq.blk_cell H7.out.2.1 7
      have y8 := Kq.blk_cell H7.out.2.1 8
      have y9 := Kq.blk_cell H7.out.2.1 9
      rw [hw7] at x0 x1 x2 x3 x4 x5 x6 x7 x8 x9
      rw [hw7] at y0 y1 y2 y3 y4 y5 y6 y7 y8 y9
      unfold reV
      go_wp2_with fail
      rw [← hw7, ← hX11]
      clear x0 x1 x2 x3 x4 x5 x6 x7 x8 x9 y0 y1 y2 y3 y4 y5 y6 y7 y8 y9 hw7 hX11
      refine (rec_same A4 ca4 C4 cc4 D cd C cc r w7 H7.out.2.2.2.1 (HRW.out w7 H7.out.1)).mono ?_
      rintro x w8 ⟨rfl, b8⟩
      have H8 : Hid (Below W.heap.size W w8 ∧ RecX w8 X3 D cd C cc r ∧ RecX w8 X11 A6 ca6 C6 cc6 r ∧ RecW w8 A6 C6 r) := Lib.hid ⟨H7.out.1.trans (b8.mono H7.out.1.size), Kq.below_blk b8 H7.out.2.1 (Kq.blk_lt H7.out.2.1), Kq.below_blk b8 H7.out.2.2.2.2.1 (Kq.blk_lt H7.out.2.2.2.2.1), H7.out.2.2.2.2.2.below b8⟩
      clear b8 H7
      have x0 := Kq.blk_cell H8.out.2.2.1 0
      have x1 := Kq.blk_cell H8.out.2.2.1 1
      have x2 := Kq.blk_cell H8.out.2.2.1 2
      have x3 := Kq.blk_cell H8.out.2.2.1 3
      have x4 := Kq.blk_cell H8.out.2.2.1 4
      have x5 := Kq.blk_cell H8.out.2.2.1 5
      have x6 := Kq.blk_cell H8.out.2.2.1 6
      have x7 := Kq.blk_cell H8.out.2.2.1 7
      have x8 := Kq.blk_cell H8.out.2.2.1 8
      have x9 := Kq.blk_cell H8.out.2.2.1 9
      have y0 := Kq.blk_cell H8.out.2.1 0
      have y1 := Kq.blk_cell H8.out.2.1 1
      have y2 := Kq.blk_cell H8.out.2.1 2
      have y3 := Kq.blk_cell H8.out.2.1 3
      have y4 := Kq.blk_cell H8.out.2.1 4
      have y5 := Kq.blk_cell H8.out.2.1 5
      have y6 := Kq.blk_cell H8.out.2.1 6
      have y7 := Kq.blk_cell H8.out.2.1 7
      have y8 := Kq.blk_cell H8.out.2.1 8
      have y9 := Kq.blk_cell H8.out.2.1 9
      go_wp2_with fail
      clear x0 x1 x2 x3 x4 x5 x6 x7 x8 x9 y0 y1 y2 y3 y4 y5 y6 y7 y8 y9
      refine (rec_same A6 ca6 C6 cc6 D cd C cc r w8 H8.out.2.2.2 (HRW.out w8 H8.out.1)).mono ?_
      rintro x w9 ⟨rfl, b9⟩
      have H9 := Lib.hid (H8.out.1.trans (b9.mono H8.out.1.size))
      clear b9 H8
      go_wp2
      go_ret
      exact ⟨rfl, H9.out⟩
    · obtain ⟨mb, mt, hnl⟩ : ∃ mb mt, nl more = mb :: mt := by
        cases h : nl more with
        | nil => exact absurd (by rw [← nl_length, h]; rfl) hm0
        | cons a t => exact ⟨a, t, rfl⟩
      have hP := rec_parse_more r mb mt w5 HOK.out.1 HOK.out.2 (by rw [← hnl]; exact nl_lt more) (by rw [← hnl, nl_length]; omega)
      have hsm : s ++ more = txt (encR r ++ mb :: mt) := by rw [HS.out.1, ← hnl]; exact app_txt _ HLT.out more
      rw [← hsm] at hP
      clear hsm hnl
      have hne : ¬ more = ⟨#[]⟩ := fun h => hm0 (by rw [h]; rfl)
      have q1 : (more.toList == []) = false := by
        rw [beq_eq_false_iff_ne]
        intro h
        rw [ByteArray.toList_eq] at h
        exact hm0 (by show more.data.size = 0; rw [← Array.length_toList, h]; rfl)
      have q2 : (more.toList == (⟨#[]⟩ : ByteArray).toList) = false := by rw [show (⟨#[]⟩ : ByteArray).toList = [] from by rw [ByteArray.toList_eq]]; exact q1
      have HQ := Lib.hid (And.intro q1 (And.intro q2 hne))
      clear q1 q2 hne
      go_wp2_with fail
      rw [← hw5, ← hX9]
      refine hP.mono ?_
      clear hP hm3 hadd d3 d3' hm0 hw5 hX9
      rintro x w6 ⟨rfl, b6⟩
      obtain ⟨X11, hX11⟩ : ∃ X, X = w6.heap.size := ⟨_, rfl⟩
      obtain ⟨w7, hw7⟩ : ∃ z, z = w6.alloc (.cells #[.int .i64 0, .int .u64 0, .int .i64 0, .int .u64 0, .int .i64 0, .slice none 0 0, .int .i64 0, .int .u64 0, .int .i64 0, .slice none 0 0] 35) := ⟨_, rfl⟩
      have H7 : Hid (Below W.heap.size W w7 ∧ RecX w7 X3 D cd C cc r ∧ RecX w7 X9 A4 ca4 C4 cc4 r ∧ RecW w7 A4 C4 r ∧ RecX w7 X11 none 0 none 0 zR) := Lib.hid (by
        have hb := Kq.below_alloc w6 (.cells #[.int .i64 0, .int .u64 0, .int .i64 0, .int .u64 0, .int .i64 0, .slice none 0 0, .int .i64 0, .int .u64 0, .int .i64 0, .slice none 0 0] 35)
        have hr := Kq.blk_new w6 #[.int .i64 0, .int .u64 0, .int .i64 0, .int .u64 0, .int .i64 0, .slice none 0 0, .int .i64 0, .int .u64 0, .int .i64 0, .slice none 0 0] 35 (0, 0)
        rw [← hw7] at hb
        rw [← hw7, ← hX11] at hr
        have h1 := Kq.below_blk b6 H5.out.2.1 (Kq.blk_lt H5.out.2.1)
        have h2 := Kq.below_blk b6 H5.out.2.2.1 (Kq.blk_lt H5.out.2.2.1)
        exact ⟨(H5.out.1.trans (b6.mono H5.out.1.size)).trans (hb.mono (Nat.le_trans H5.out.1.size b6.size)), Kq.below_blk hb h1 (Kq.blk_lt h1), Kq.below_blk hb h2 (Kq.blk_lt h2), (H5.out.2.2.2.below b6).below hb, hr⟩)
      clear b6 H5
      have x0 := Kq.blk_cell H7.out.2.2.1 0
      have x1 := Kq.blk_cell H7.out.2.2.1 1
      have x2 := Kq.blk_cell H7.out.2.2.1 2
      have x3 := Kq.blk_cell H7.out.2.2.1 3
      have x4 := Kq.blk_cell H7.out.2.2.1 4
      have x5 := Kq.blk_cell H7.out.2.2.1 5
      have x6 := Kq.blk_cell H7.out.2.2.1 6
      have x7 := Kq.blk_cell H7.out.2.2.1 7
      have x8 := Kq.blk_cell H7.out.2.2.1 8
      have x9 := Kq.blk_cell H7.out.2.2.1 9
      have y0 := Kq.blk_cell H7.out.2.1 0
      have y1 := Kq.blk_cell H7.out.2.1 1
      have y2 := Kq.blk_cell H7.out.2.1 2
      have y3 := Kq.blk_cell H7.out.2.1 3
      have y4 := Kq.blk_cell H7.out.2.1 4
      have y5 := Kq.blk_cell H7.out.2.1 5
      have y6 := Kq.blk_cell H7.out.2.1 6
      have y7 := Kq.blk_cell H7.out.2.1 7
      have y8 := Kq.blk_cell H7.out.2.1 8
      have y9 := Kq.blk_cell H7.out.2.1 9
      rw [hw7] at x0 x1 x2 x3 x4 x5 x6 x7 x8 x9
      rw [hw7] at y0 y1 y2 y3 y4 y5 y6 y7 y8 y9
      unfold reZ
      go_wp2_with fail
      rw [← hw7, ← hX11]
      clear x0 x1 x2 x3 x4 x5 x6 x7 x8 x9 y0 y1 y2 y3 y4 y5 y6 y7 y8 y9 hw7 hX11
      refine (rec_same A4 ca4 C4 cc4 D cd C cc r w7 H7.out.2.2.2.1 (HRW.out w7 H7.out.1)).mono ?_
      rintro x w8 ⟨rfl, b8⟩
      have H8 : Hid (Below W.heap.size W w8 ∧ RecX w8 X11 none 0 none 0 zR) := Lib.hid ⟨H7.out.1.trans (b8.mono H7.out.1.size), Kq.below_blk b8 H7.out.2.2.2.2 (Kq.blk_lt H7.out.2.2.2.2)⟩
      clear b8 H7
      have x0 := Kq.blk_cell H8.out.2 0
      have x1 := Kq.blk_cell H8.out.2 1
      have x2 := Kq.blk_cell H8.out.2 2
      have x3 := Kq.blk_cell H8.out.2 3
      have x4 := Kq.blk_cell H8.out.2 4
      have x5 := Kq.blk_cell H8.out.2 5
      have x6 := Kq.blk_cell H8.out.2 6
      have x7 := Kq.blk_cell H8.out.2 7
      have x8 := Kq.blk_cell H8.out.2 8
      have x9 := Kq.blk_cell H8.out.2 9
      simp only [zR, PlV.z, List.length_nil] at x0 x1 x2 x3 x4 x5 x6 x7 x8 x9
      obtain ⟨q1, q2, q3⟩ := HQ.out
      go_wp2_with fail
      clear x0 x1 x2 x3 x4 x5 x6 x7 x8 x9 q1 q2 q3
      refine (rec_same none 0 none 0 none 0 none 0 zR w8 (zR_w w8) (zR_w w8)).mono ?_
      rintro x w9 ⟨rfl, b9⟩
      have H9 := Lib.hid (H8.out.1.trans (b9.mono H8.out.1.size))
      clear b9 H8
      have q1 := HQ.out.1
      have q2 := HQ.out.2.1
      go_wp2
      go_ret
      exact ⟨rfl, H9.out⟩
  obtain rfl : cut = (s.size : Int) := by omega
  have d1 : decide ((s.size : Int) < 0) = false := decide_eq_false hneg
  have d2 : decide ((s.size : Int) < (s.size : Int)) = false := decide_eq_false hbig
  have d2' : decide (s.size < s.size) = false := decide_eq_false (by omega)
  clear hneg hbig hcut
  have hP := rec_parse r w3 HOK.out.1 HOK.out.2
  rw [← HS.out.1] at hP
  go_wp2_with fail
  try simp only [ext_all]
  refine hP.mono ?_
  clear hP
  rintro x w4 ⟨A4, ca4, C4, cc4, rfl, hw4, b4⟩
  clear d1 d2 d2'
  obtain ⟨X9, hX9⟩ : ∃ X, X = w4.heap.size := ⟨_, rfl⟩
  obtain ⟨w5, hw5⟩ : ∃ z, z = w4.alloc (.cells #[.int .i64 r.k, .int .u64 r.d.p0.h, .int .i64 r.d.p0.i, .int .u64 r.d.p1.h, .int .i64 r.d.p1.i, .slice A4 r.d.l.length ca4, .int .i64 r.c, .int .u64 r.p.h, .int .i64 r.p.i, .slice C4 r.ns.length cc4] 35) := ⟨_, rfl⟩
  have H5 : Hid (Below W.heap.size W w5 ∧ RecX w5 X3 D cd C cc r ∧ RecX w5 X9 A4 ca4 C4 cc4 r ∧ RecW w5 A4 C4 r) := Lib.hid (by
    have hb := Kq.below_alloc w4 (.cells #[.int .i64 r.k, .int .u64 r.d.p0.h, .int .i64 r.d.p0.i, .int .u64 r.d.p1.h, .int .i64 r.d.p1.i, .slice A4 r.d.l.length ca4, .int .i64 r.c, .int .u64 r.p.h, .int .i64 r.p.i, .slice C4 r.ns.length cc4] 35)
    have hr := Kq.blk_new w4 #[.int .i64 r.k, .int .u64 r.d.p0.h, .int .i64 r.d.p0.i, .int .u64 r.d.p1.h, .int .i64 r.d.p1.i, .slice A4 r.d.l.length ca4, .int .i64 r.c, .int .u64 r.p.h, .int .i64 r.p.i, .slice C4 r.ns.length cc4] 35 (0, 0)
    rw [← hw5] at hb
    rw [← hw5, ← hX9] at hr
    exact ⟨(H3.out.1.trans (b4.mono H3.out.1.size)).trans (hb.mono (Nat.le_trans H3.out.1.size b4.size)), (by
      have h1 := Kq.below_blk b4 H3.out.2 (Kq.blk_lt H3.out.2)
      exact Kq.below_blk hb h1 (Kq.blk_lt h1)), hr, hw4.below hb⟩)
  clear b4 hw4 H3
  have hm3 := HM.out
  have hadd : s.size + more.size ≤ 9223372036854775807 := by omega
  have d3 : decide ((s.size : Int) < (s.size : Int)) = false := decide_eq_false (by omega)
  have d3' : decide (s.size < s.size) = false := decide_eq_false (by omega)
  unfold reV
  by_cases hm0 : more.size = 0
  · obtain rfl : more = ⟨#[]⟩ := nl_inj (by rw [show nl ⟨#[]⟩ = [] from rfl]; exact List.eq_nil_of_length_eq_zero (by rw [nl_length]; exact hm0))
    have hP := rec_parse r w5 HOK.out.1 HOK.out.2
    rw [← HS.out.1] at hP
    have hsm : s ++ (⟨#[]⟩ : ByteArray) = s := nl_inj (by rw [nl_append, show nl ⟨#[]⟩ = [] from rfl, List.append_nil])
    go_wp2_with fail
    rw [← hw5, ← hX9]
    try simp only [hsm]
    refine hP.mono ?_
    clear hP hsm hm3 hadd d3 d3' hm0 hw5 hX9
    rintro x w6 ⟨A6, ca6, C6, cc6, rfl, hw6, b6⟩
    obtain ⟨X11, hX11⟩ : ∃ X, X = w6.heap.size := ⟨_, rfl⟩
    obtain ⟨w7, hw7⟩ : ∃ z, z = w6.alloc (.cells #[.int .i64 r.k, .int .u64 r.d.p0.h, .int .i64 r.d.p0.i, .int .u64 r.d.p1.h, .int .i64 r.d.p1.i, .slice A6 r.d.l.length ca6, .int .i64 r.c, .int .u64 r.p.h, .int .i64 r.p.i, .slice C6 r.ns.length cc6] 35) := ⟨_, rfl⟩
    have H7 : Hid (Below W.heap.size W w7 ∧ RecX w7 X3 D cd C cc r ∧ RecX w7 X9 A4 ca4 C4 cc4 r ∧ RecW w7 A4 C4 r ∧ RecX w7 X11 A6 ca6 C6 cc6 r ∧ RecW w7 A6 C6 r) := Lib.hid (by
      have hb := Kq.below_alloc w6 (.cells #[.int .i64 r.k, .int .u64 r.d.p0.h, .int .i64 r.d.p0.i, .int .u64 r.d.p1.h, .int .i64 r.d.p1.i, .slice A6 r.d.l.length ca6, .int .i64 r.c, .int .u64 r.p.h, .int .i64 r.p.i, .slice C6 r.ns.length cc6] 35)
      have hr := Kq.blk_new w6 #[.int .i64 r.k, .int .u64 r.d.p0.h, .int .i64 r.d.p0.i, .int .u64 r.d.p1.h, .int .i64 r.d.p1.i, .slice A6 r.d.l.length ca6, .int .i64 r.c, .int .u64 r.p.h, .int .i64 r.p.i, .slice C6 r.ns.length cc6] 35 (0, 0)
      rw [← hw7] at hb
      rw [← hw7, ← hX11] at hr
      have h1 := Kq.below_blk b6 H5.out.2.1 (Kq.blk_lt H5.out.2.1)
      have h2 := Kq.below_blk b6 H5.out.2.2.1 (Kq.blk_lt H5.out.2.2.1)
      exact ⟨(H5.out.1.trans (b6.mono H5.out.1.size)).trans (hb.mono (Nat.le_trans H5.out.1.size b6.size)), Kq.below_blk hb h1 (Kq.blk_lt h1), Kq.below_blk hb h2 (Kq.blk_lt h2), (H5.out.2.2.2.below b6).below hb, hr, hw6.below hb⟩)
    clear b6 hw6 H5
    have x0 := Kq.blk_cell H7.out.2.2.1 0
    have x1 := Kq.blk_cell H7.out.2.2.1 1
    have x2 := Kq.blk_cell H7.out.2.2.1 2
    have x3 := Kq.blk_cell H7.out.2.2.1 3
    have x4 := Kq.blk_cell H7.out.2.2.1 4
    have x5 := Kq.blk_cell H7.out.2.2.1 5
    have x6 := Kq.blk_cell H7.out.2.2.1 6
    have x7 := Kq.blk_cell H7.out.2.2.1 7
    have x8 := Kq.blk_cell H7.out.2.2.1 8
    have x9 := Kq.blk_cell H7.out.2.2.1 9
    have y0 := Kq.blk_cell H7.out.2.1 0
    have y1 := Kq.blk_cell H7.out.2.1 1
    have y2 := Kq.blk_cell H7.out.2.1 2
    have y3 := Kq.blk_cell H7.out.2.1 3
    have y4 := Kq.blk_cell H7.out.2.1 4
    have y5 := Kq.blk_cell H7.out.2.1 5
    have y6 := Kq.blk_cell H7.out.2.1 6
    have y7 := Kq.blk_cell H7.out.2.1 7
    have y8 := Kq.blk_cell H7.out.2.1 8
    have y9 := Kq.blk_cell H7.out.2.1 9
    rw [hw7] at x0 x1 x2 x3 x4 x5 x6 x7 x8 x9
    rw [hw7] at y0 y1 y2 y3 y4 y5 y6 y7 y8 y9
    unfold reV
    go_wp2_with fail
    rw [← hw7, ← hX11]
    clear x0 x1 x2 x3 x4 x5 x6 x7 x8 x9 y0 y1 y2 y3 y4 y5 y6 y7 y8 y9 hw7 hX11
    refine (rec_same A4 ca4 C4 cc4 D cd C cc r w7 H7.out.2.2.2.1 (HRW.out w7 H7.out.1)).mono ?_
    rintro x w8 ⟨rfl, b8⟩
    have H8 : Hid (Below W.heap.size W w8 ∧ RecX w8 X3 D cd C cc r ∧ RecX w8 X11 A6 ca6 C6 cc6 r ∧ RecW w8 A6 C6 r) := Lib.hid ⟨H7.out.1.trans (b8.mono H7.out.1.size), Kq.below_blk b8 H7.out.2.1 (Kq.blk_lt H7.out.2.1), Kq.below_blk b8 H7.out.2.2.2.2.1 (Kq.blk_lt H7.out.2.2.2.2.1), H7.out.2.2.2.2.2.below b8⟩
    clear b8 H7
    have x0 := Kq.blk_cell H8.out.2.2.1 0
    have x1 := Kq.blk_cell H8.out.2.2.1 1
    have x2 := Kq.blk_cell H8.out.2.2.1 2
    have x3 := Kq.blk_cell H8.out.2.2.1 3
    have x4 := Kq.blk_cell H8.out.2.2.1 4
    have x5 := Kq.blk_cell H8.out.2.2.1 5
    have x6 := Kq.blk_cell H8.out.2.2.1 6
    have x7 := Kq.blk_cell H8.out.2.2.1 7
    have x8 := Kq.blk_cell H8.out.2.2.1 8
    have x9 := Kq.blk_cell H8.out.2.2.1 9
    have y0 := Kq.blk_cell H8.out.2.1 0
    have y1 := Kq.blk_cell H8.out.2.1 1
    have y2 := Kq.blk_cell H8.out.2.1 2
    have y3 := Kq.blk_cell H8.out.2.1 3
    have y4 := Kq.blk_cell H8.out.2.1 4
    have y5 := Kq.blk_cell H8.out.2.1 5
    have y6 := Kq.blk_cell H8.out.2.1 6
    have y7 := Kq.blk_cell H8.out.2.1 7
    have y8 := Kq.blk_cell H8.out.2.1 8
    have y9 := Kq.blk_cell H8.out.2.1 9
    go_wp2_with fail
    clear x0 x1 x2 x3 x4 x5 x6 x7 x8 x9 y0 y1 y2 y3 y4 y5 y6 y7 y8 y9
    refine (rec_same A6 ca6 C6 cc6 D cd C cc r w8 H8.out.2.2.2 (HRW.out w8 H8.out.1)).mono ?_
    rintro x w9 ⟨rfl, b9⟩
    have H9 := Lib.hid (H8.out.1.trans (b9.mono H8.out.1.size))
    clear b9 H8
    go_wp2
    go_ret
    exact ⟨rfl, H9.out⟩
  · obtain ⟨mb, mt, hnl⟩ : ∃ mb mt, nl more = mb :: mt := by
      cases h : nl more with
      | nil => exact absurd (by rw [← nl_length, h]; rfl) hm0
      | cons a t => exact ⟨a, t, rfl⟩
    have hP := rec_parse_more r mb mt w5 HOK.out.1 HOK.out.2 (by rw [← hnl]; exact nl_lt more) (by rw [← hnl, nl_length]; omega)
    have hsm : s ++ more = txt (encR r ++ mb :: mt) := by rw [HS.out.1, ← hnl]; exact app_txt _ HLT.out more
    rw [← hsm] at hP
    clear hsm hnl
    have hne : ¬ more = ⟨#[]⟩ := fun h => hm0 (by rw [h]; rfl)
    have q1 : (more.toList == []) = false := by
      rw [beq_eq_false_iff_ne]
      intro h
      rw [ByteArray.toList_eq] at h
      exact hm0 (by show more.data.size = 0; rw [← Array.length_toList, h]; rfl)
    have q2 : (more.toList == (⟨#[]⟩ : ByteArray).toList) = false := by rw [show (⟨#[]⟩ : ByteArray).toList = [] from by rw [ByteArray.toList_eq]]; exact q1
    have HQ := Lib.hid (And.intro q1 (And.intro q2 hne))
    clear q1 q2 hne
    go_wp2_with fail
    rw [← hw5, ← hX9]
    refine hP.mono ?_
    clear hP hm3 hadd d3 d3' hm0 hw5 hX9
    rintro x w6 ⟨rfl, b6⟩
    obtain ⟨X11, hX11⟩ : ∃ X, X = w6.heap.size := ⟨_, rfl⟩
    obtain ⟨w7, hw7⟩ : ∃ z, z = w6.alloc (.cells #[.int .i64 0, .int .u64 0, .int .i64 0, .int .u64 0, .int .i64 0, .slice none 0 0, .int .i64 0, .int .u64 0, .int .i64 0, .slice none 0 0] 35) := ⟨_, rfl⟩
    have H7 : Hid (Below W.heap.size W w7 ∧ RecX w7 X3 D cd C cc r ∧ RecX w7 X9 A4 ca4 C4 cc4 r ∧ RecW w7 A4 C4 r ∧ RecX w7 X11 none 0 none 0 zR) := Lib.hid (by
      have hb := Kq.below_alloc w6 (.cells #[.int .i64 0, .int .u64 0, .int .i64 0, .int .u64 0, .int .i64 0, .slice none 0 0, .int .i64 0, .int .u64 0, .int .i64 0, .slice none 0 0] 35)
      have hr := Kq.blk_new w6 #[.int .i64 0, .int .u64 0, .int .i64 0, .int .u64 0, .int .i64 0, .slice none 0 0, .int .i64 0, .int .u64 0, .int .i64 0, .slice none 0 0] 35 (0, 0)
      rw [← hw7] at hb
      rw [← hw7, ← hX11] at hr
      have h1 := Kq.below_blk b6 H5.out.2.1 (Kq.blk_lt H5.out.2.1)
      have h2 := Kq.below_blk b6 H5.out.2.2.1 (Kq.blk_lt H5.out.2.2.1)
      exact ⟨(H5.out.1.trans (b6.mono H5.out.1.size)).trans (hb.mono (Nat.le_trans H5.out.1.size b6.size)), Kq.below_blk hb h1 (Kq.blk_lt h1), Kq.below_blk hb h2 (Kq.blk_lt h2), (H5.out.2.2.2.below b6).below hb, hr⟩)
    clear b6 H5
    have x0 := Kq.blk_cell H7.out.2.2.1 0
    have x1 := Kq.blk_cell H7.out.2.2.1 1
    have x2 := Kq.blk_cell H7.out.2.2.1 2
    have x3 := Kq.blk_cell H7.out.2.2.1 3
    have x4 := Kq.blk_cell H7.out.2.2.1 4
    have x5 := Kq.blk_cell H7.out.2.2.1 5
    have x6 := Kq.blk_cell H7.out.2.2.1 6
    have x7 := Kq.blk_cell H7.out.2.2.1 7
    have x8 := Kq.blk_cell H7.out.2.2.1 8
    have x9 := Kq.blk_cell H7.out.2.2.1 9
    have y0 := Kq.blk_cell H7.out.2.1 0
    have y1 := Kq.blk_cell H7.out.2.1 1
    have y2 := Kq.blk_cell H7.out.2.1 2
    have y3 := Kq.blk_cell H7.out.2.1 3
    have y4 := Kq.blk_cell H7.out.2.1 4
    have y5 := Kq.blk_cell H7.out.2.1 5
    have y6 := Kq.blk_cell H7.out.2.1 6
    have y7 := Kq.blk_cell H7.out.2.1 7
    have y8 := Kq.blk_cell H7.out.2.1 8
    have y9 := Kq.blk_cell H7.out.2.1 9
    rw [hw7] at x0 x1 x2 x3 x4 x5 x6 x7 x8 x9
    rw [hw7] at y0 y1 y2 y3 y4 y5 y6 y7 y8 y9
    unfold reZ
    go_wp2_with fail
    rw [← hw7, ← hX11]
    clear x0 x1 x2 x3 x4 x5 x6 x7 x8 x9 y0 y1 y2 y3 y4 y5 y6 y7 y8 y9 hw7 hX11
    refine (rec_same A4 ca4 C4 cc4 D cd C cc r w7 H7.out.2.2.2.1 (HRW.out w7 H7.out.1)).mono ?_
    rintro x w8 ⟨rfl, b8⟩
    have H8 : Hid (Below W.heap.size W w8 ∧ RecX w8 X11 none 0 none 0 zR) := Lib.hid ⟨H7.out.1.trans (b8.mono H7.out.1.size), Kq.below_blk b8 H7.out.2.2.2.2 (Kq.blk_lt H7.out.2.2.2.2)⟩
    clear b8 H7
    have x0 := Kq.blk_cell H8.out.2 0
    have x1 := Kq.blk_cell H8.out.2 1
    have x2 := Kq.blk_cell H8.out.2 2
    have x3 := Kq.blk_cell H8.out.2 3
    have x4 := Kq.blk_cell H8.out.2 4
    have x5 := Kq.blk_cell H8.out.2 5
    have x6 := Kq.blk_cell H8.out.2 6
    have x7 := Kq.blk_cell H8.out.2 7
    have x8 := Kq.blk_cell H8.out.2 8
    have x9 := Kq.blk_cell H8.out.2 9
    simp only [zR, PlV.z, List.length_nil] at x0 x1 x2 x3 x4 x5 x6 x7 x8 x9
    obtain ⟨q1, q2, q3⟩ := HQ.out
    go_wp2_with fail
    clear x0 x1 x2 x3 x4 x5 x6 x7 x8 x9 q1 q2 q3
    refine (rec_same none 0 none 0 none 0 none 0 zR w8 (zR_w w8) (zR_w w8)).mono ?_
    rintro x w9 ⟨rfl, b9⟩
    have H9 := Lib.hid (H8.out.1.trans (b9.mono H8.out.1.size))
    clear b9 H8
    have q1 := HQ.out.1
    have q2 := HQ.out.2.1
    go_wp2
    go_ret
    exact ⟨rfl, H9.out⟩
end recordCuts
theorem recordCuts_walk {W : World} (v0 : Value) (a1 : Int) (a2 : ByteArray) (hd0 : ∃ (A : Option Addr) (ca : Nat) (C : Option Addr) (cc : Nat) (r : ReV), v0 = reV r A ca C cc ∧ RecL W A C r) (w1 : (Lit.int .i64 a1).wf = true) (w2 : a2.size ≤ maxLen) :
    Calls Try.prog 5 #[v0, .int .i64 a1, .string a2] W fun x w' => x = .returned (.bool true) ∧ Below W.heap.size W w' := by
  obtain ⟨D, cd, C, cc, r, rfl, hr⟩ := hd0
  exact recordCuts.main D cd C cc r a1 a2 W hr
end Go.Proofs.Ytkbiolhcpghmkaa
