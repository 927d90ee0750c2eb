/- carracklaw09.ProofBytes walked. Condition: the constants lie where they lie. -/
import Derived.WalkSpells
import Derived.Outline
import Derived.Test.YtclloplkbajebaaDoorPfOpQ
import Derived.Test.YtclloplkbajebaaDoorPfLwQ
import Derived.Test.YtclloplkbajebaaDoorQfSQ
import Derived.Test.YtclloplkbajebaaDoorQfPwQ
namespace Go.Proofs.YtclloplkbajebaaDoor
open Go.RowKit
set_option linter.unusedVariables false
namespace proofBytes
/-- the law's proof in memory, its box, the constants -/
structure P9 (W w : World) (X : Nat) (ab : Bool) (A : Option Addr) (cap : Nat) (ls : List LfW) : Prop where
  laid : LaidOk W
  bel : Below W.heap.size W w
  pb : PBk w X ab (.slice A ls.length cap)
  lf : LfsN w (fun k => W.heap.size ≤ k) A ls
theorem P9.below {W w w' : World} {X : Nat} {ab : Bool} {A : Option Addr} {cap : Nat} {ls : List LfW} (h : P9 W w X ab A cap ls) (hb : Below w.heap.size w w') : P9 W w' X ab A cap ls := ⟨h.laid, h.bel.trans (hb.mono h.bel.size), h.pb.below hb, h.lf.below hb⟩
theorem P9.ok {W w : World} {X : Nat} {ab : Bool} {A : Option Addr} {cap : Nat} {ls : List LfW} (h : P9 W w X ab A cap ls) : LaidOk w := h.laid.later h.bel
theorem P9.start {W : World} {ab : Bool} {A : Option Addr} {cap : Nat} {ls : List LfW} (hL : LaidOk W) (hA : LfsN W (fun k => W.heap.size ≤ k) A ls) : P9 W (W.alloc (.cells #[.bool ab, .slice A ls.length cap] 24)) W.heap.size ab A cap ls :=
  ⟨hL, Kq.below_alloc _ _, ⟨Kq.blk_new _ _ _ _⟩, hA.below (Kq.below_alloc _ _)⟩
def Small9 (x : LfW) : Prop := x.l.p.length ≤ 40 ∧ x.l.k.size ≤ 300 ∧ x.l.v.size ≤ 300
set_option maxRecDepth 100000 in
set_option maxHeartbeats 1000000 in
theorem early (ab : Bool) (A : Option Addr) (cap : Nat) (ls : List LfW) (s : ByteArray) (W : World) (hL : LaidOk W) (hA : LfsN W (fun k => W.heap.size ≤ k) A ls) (hno : 10 < ls.length ∨ 3000 < s.size) :
    Calls Tryd.prog 3 #[.agg #[.bool ab, .slice A ls.length cap], .string s] W fun x w' => x = .returned (.bool true) ∧ Below W.heap.size W w' := by
  have H := Lib.hid (P9.start (ab := ab) (cap := cap) hL hA)
  have HA := Lib.hid (awake09 _ H.out.ok)
  clear hL hA
  by_cases h1 : 10 < ls.length
  · have d1 : decide ((10 : Int) < (ls.length : Int)) = true := decide_eq_true (by omega)
    have d2 : decide (10 < ls.length) = true := decide_eq_true h1
    clear h1 hno
    cases ab
    all_goals
      go_enter Tryd.func3, Tryd.ntmps3
      go_wp2_with fail
      refine HA.out.mono ?_
      rintro x w1 ⟨rfl, b1⟩
      have H1 := Lib.hid (H.out.below b1)
      have c1 := H1.out.pb.c1
      clear b1
      go_wp2
      go_ret
      exact ⟨rfl, H1.out.bel⟩
  · have h2 := hno.resolve_left h1
    have d1 : decide ((10 : Int) < (ls.length : Int)) = false := decide_eq_false (by omega)
    have d2 : decide (10 < ls.length) = false := decide_eq_false h1
    have d3 : decide ((3000 : Int) < (s.size : Int)) = true := decide_eq_true (by omega)
    have d4 : decide (3000 < s.size) = true := decide_eq_true h2
    clear h1 hno h2
    cases ab
    all_goals
      go_enter Tryd.func3, Tryd.ntmps3
      go_wp2_with fail
      refine HA.out.mono ?_
      rintro x w1 ⟨rfl, b1⟩
      have H1 := Lib.hid (H.out.below b1)
      have c1 := H1.out.pb.c1
      clear b1
      go_wp2
      go_ret
      exact ⟨rfl, H1.out.bel⟩
theorem bytes_cases (p : PfV) : (PfMay p ∧ pfBytes p = (txt (pfB p), 0)) ∨ pfBytes p = (⟨#[]⟩, 1) := by
  by_cases h : PfMay p
  · exact Or.inl ⟨h, if_pos h⟩
  · exact Or.inr (if_neg h)
set_option maxRecDepth 100000 in
set_option maxHeartbeats 2000000 in
theorem mainF (A : Option Addr) (cap : Nat) (ls : List LfW) (s : ByteArray) (W : World) (hL : LaidOk W) (hA : LfsN W (fun k => W.heap.size ≤ k) A ls) (hn : ls.length ≤ 10) (hs : s.size ≤ 3000) :
    Calls Tryd.prog 3 #[.agg #[.bool false, .slice A ls.length cap], .string s] W fun x w' => x = .returned (.bool true) ∧ Below W.heap.size W w' := by
  have H := Lib.hid (P9.start (ab := false) (cap := cap) hL hA)
  have HA := Lib.hid (awake09 _ H.out.ok)
  obtain ⟨p, hp⟩ : ∃ p : PfV, p = ⟨false, vals ls⟩ := ⟨_, rfl⟩
  have HPV : Hid (p.ab = false ∧ p.ls = vals ls) := Lib.hid (by rw [hp]; exact ⟨rfl, rfl⟩)
  have HBC := Lib.hid (bytes_cases p)
  obtain ⟨r, hr⟩ : ∃ r, r = pfBytes p := ⟨_, rfl⟩
  have HBY := Lib.hid (fun (hsm : ∀ x ∈ ls, Small9 x) (w' : World) (h : LfsN w' (fun k => W.heap.size ≤ k) A ls) => pf_bytes _ false A cap ls w' h (by omega) (fun x hx => by have := (hsm x hx).1; omega))
  have HBR := Lib.hid (fun (hsm : ∀ x ∈ ls, Small9 x) (w' : World) (h : LfsN w' (fun k => W.heap.size ≤ k) A ls) => rq_bytes _ false A cap ls w' h (by omega) (fun x hx => by have := (hsm x hx).1; omega))
  rw [← hp, ← hr] at HBY HBR
  rw [← hr] at HBC
  have HPP := Lib.hid (fun w' => pf_parse s w' (by omega))
  have HPR := Lib.hid (fun w' => rq_parse s w' (by omega))
  have HSM := Lib.hid (fun (hsm : ∀ x ∈ ls, Small9 x) (B : Option Addr) (cb : Nat) (ms : List LfW) (T : Nat → Prop) (w' : World) (hv : vals ms = vals ls) (h1 : LfsN w' T B ms) (h2 : LfsN w' (fun k => W.heap.size ≤ k) A ls) => rq_same false B A cb cap ms ls T _ w' hv h1 h2 (by rw [← vals_len, hv, vals_len]; omega) (fun x hx => by
    have : x.l ∈ vals ls := by rw [← hv]; exact List.mem_map_of_mem hx
    obtain ⟨y, hy, e⟩ := List.mem_map.1 this
    have := (hsm y hy).1
    rw [← e]; omega))
  obtain ⟨M, e⟩ := r
  have d1 : decide ((10 : Int) < (ls.length : Int)) = false := decide_eq_false (by omega)
  have d2 : decide (10 < ls.length) = false := decide_eq_false (by omega)
  have d3 : decide ((3000 : Int) < (s.size : Int)) = false := decide_eq_false (by omega)
  have d4 : decide (3000 < s.size) = false := decide_eq_false (by omega)
  have HN := Lib.hid hn
  clear hL hA hp hr hs
  go_enter Tryd.func3, Tryd.ntmps3
  go_wp2_with fail
  refine HA.out.mono ?_
  rintro x w1 ⟨rfl, b1⟩
  have H1 := Lib.hid (H.out.below b1)
  have c1 := H1.out.pb.c1
  clear b1 H HA
  go_wp2
  clear c1 d1 d2 d3 d4
  go_loopw [5] (fun i wr => ∃ j : Nat, j ≤ ls.length ∧ i = .int .i64 (j : Int) ∧ (∀ q (hq : q < ls.length), q < j → Small9 ls[q]) ∧ P9 W wr W.heap.size _ A cap ls) (fun i _ => ls.length - (intOf i).toNat)
  case atStart => exact ⟨0, by omega, rfl, fun q _ hq => absurd hq (Nat.not_lt_zero _), H1.out⟩
  case round =>
    obtain ⟨j, hj, rfl, hup, hst⟩ := hrel
    have HUP := Lib.hid hup
    have H2 := Lib.hid hst
    have hn' := HN.out
    have c0 := H2.out.pb.c0
    have c1 := H2.out.pb.c1
    clear hup hst
    by_cases hlt : j < ls.length
    · obtain ⟨b, off, rfl, -, hb, hc, -, -⟩ := H2.out.lf j hlt
      obtain ⟨x, hx⟩ : ∃ x, x = ls[j] := ⟨_, rfl⟩
      rw [← hx] at hc
      have HX := Lib.hid hx
      have HLT := Lib.hid hlt
      have hi0 : (j : Int) < (ls.length : Int) := by omega
      clear hx hb
      obtain ⟨⟨i, c, k, v, p⟩, a, cp⟩ := x
      obtain ⟨q0, q1, q2, q3, q4⟩ := hc
      simp only at q0 q1 q2 q3 q4
      have H3 := Lib.hid (H2.out.below (Kq.below_alloc wr (.cells #[.int .i64 i, .int .i64 c, .string k, .string v, .slice a p.length cp] 30)))
      have hpl : p.length ≤ 9223372036854775807 ∨ True := Or.inr trivial
      by_cases t1 : 40 < p.length
      · have e1 : decide ((40 : Int) < (p.length : Int)) = true := decide_eq_true (by omega)
        have e1' : decide (40 < p.length) = true := decide_eq_true t1
        clear t1 hpl
        go_wp2
        go_ret
        exact ⟨rfl, H3.out.bel⟩
      have e1 : decide ((40 : Int) < (p.length : Int)) = false := decide_eq_false (by omega)
      have e1' : decide (40 < p.length) = false := decide_eq_false t1
      by_cases t2 : 300 < k.size
      · have e2 : decide ((300 : Int) < (k.size : Int)) = true := decide_eq_true (by omega)
        have e2' : decide (300 < k.size) = true := decide_eq_true t2
        clear t1 t2 hpl
        go_wp2
        go_ret
        exact ⟨rfl, H3.out.bel⟩
      have e2 : decide ((300 : Int) < (k.size : Int)) = false := decide_eq_false (by omega)
      have e2' : decide (300 < k.size) = false := decide_eq_false t2
      by_cases t3 : 300 < v.size
      · have e3 : decide ((300 : Int) < (v.size : Int)) = true := decide_eq_true (by omega)
        have e3' : decide (300 < v.size) = true := decide_eq_true t3
        clear t1 t2 t3 hpl
        go_wp2
        go_ret
        exact ⟨rfl, H3.out.bel⟩
      have e3 : decide ((300 : Int) < (v.size : Int)) = false := decide_eq_false (by omega)
      have e3' : decide (300 < v.size) = false := decide_eq_false t3
      have HS : Hid (p.length ≤ 40 ∧ k.size ≤ 300 ∧ v.size ≤ 300) := Lib.hid (by omega)
      clear t1 t2 t3 hpl
      go_wp2
      go_roundw
      case rel =>
        refine ⟨j + 1, HLT.out, by go_num, fun q hq h => ?_, H3.out⟩
        rcases Nat.lt_or_ge q j with h' | h'
        · exact HUP.out q hq h'
        · obtain rfl : q = j := by omega
          rw [← HX.out]; exact HS.out
      case measure => have := HLT.out; simp [intOf]; omega
    · obtain rfl : j = ls.length := by omega
      have HALL : Hid (∀ x ∈ ls, Small9 x) := Lib.hid (fun x hx => by
        obtain ⟨q, hq, rfl⟩ := List.getElem_of_mem hx
        exact HUP.out q hq hq)
      clear hlt HUP
      go_wp2_with fail
      refine (HBY.out HALL.out wr H2.out.lf).mono ?_
      rintro x w3 ⟨rfl, b3⟩
      have H3 := Lib.hid (H2.out.below b3)
      clear b3 H2 c0 c1 HBY
      have c0 := H3.out.pb.c0
      have c1 := H3.out.pb.c1
      go_wp2_with fail
      refine (HBR.out HALL.out w3 H3.out.lf).mono ?_
      rintro x w4 ⟨rfl, b4⟩
      have H4 := Lib.hid (H3.out.below b4)
      clear b4 H3 c0 c1 HBR
      go_wp2_with fail
      refine (HPP.out w4).mono ?_
      rintro x w5 ⟨A5, cap5, ls5, rfl, hv5, hc5, hA5, b5⟩
      obtain ⟨q, hq⟩ : ∃ q, q = pfParse s := ⟨_, rfl⟩
      rw [← hq] at hv5 ⊢
      have HPC : Hid ((q.2 = 5 ∧ q.1 = ⟨false, []⟩) ∨ (q.2 = 0 ∧ PfMay q.1 ∧ pfB q.1 = nl s)) := Lib.hid (by
        rw [hq]
        rcases pfParse_cases s with h | ⟨h1, h2⟩
        · exact Or.inl h
        · exact Or.inr ⟨h1, (pfParse_back (s := s) (p := (pfParse s).1) (by rw [← h1]))⟩)
      have HQ := Lib.hid hq
      obtain ⟨⟨qa, ql⟩, g⟩ := q
      simp only at hv5 ⊢
      have ba := Kq.below_alloc w5 (.cells #[.bool qa, .slice A5 ls5.length cap5] 24)
      have H5 := Lib.hid (And.intro ((H4.out.below b5).below ba) (And.intro (hA5.below ba) (PBk.mk (Kq.blk_new w5 #[.bool qa, .slice A5 ls5.length cap5] 24 (0, 0)))))
      have HV5 := Lib.hid hv5
      clear b5 ba hv5 hc5 hA5 H4 hq HPP
      go_wp2_with fail
      refine (HPR.out _).mono ?_
      rintro x w6 ⟨A6, cap6, ls6, rfl, hv6, hc6, hA6, b6⟩
      rw [← HQ.out] at hv6 ⊢
      simp only at hv6 ⊢
      have hl6 : ls6.length = ls5.length := by rw [← vals_len, hv6, ← HV5.out, vals_len]
      rw [hl6]
      have ba := Kq.below_alloc w6 (.cells #[.bool qa, .slice A6 ls5.length cap6] 24)
      have H6 := Lib.hid (And.intro ((H5.out.1.below b6).below ba) (And.intro ((H5.out.2.1.below b6).below ba) (And.intro ((H5.out.2.2.below b6).below ba) (And.intro (hA6.below ba) (PBk.mk (Kq.blk_new w6 #[.bool qa, .slice A6 ls5.length cap6] 24 (0, 0)))))))
      have HL5 : Hid (ls5.length ≤ 2 ∧ ∀ x ∈ ls5, x.l.p.length ≤ 1000) := Lib.hid (by
        have hm : PfMay ⟨qa, ql⟩ ∨ ql = [] := by
          rcases HPC.out with h | h
          · right; have := h.2; injection this
          · exact Or.inl h.2.1
        rcases hm with hm | hm
        · refine ⟨by rw [← vals_len, HV5.out]; exact hm.1, fun x hx => ?_⟩
          have := (hm.2 x.l (by rw [← HV5.out]; exact List.mem_map_of_mem hx)).n
          omega
        · have h0 : ls5 = [] := List.eq_nil_of_length_eq_zero (by rw [← vals_len, HV5.out, hm]; rfl)
          subst h0
          exact ⟨by simp, fun x hx => by cases hx⟩)
      have HSXY := Lib.hid (rq_same qa A5 A6 cap5 cap6 ls5 ls6 _ _ _ (by rw [HV5.out, hv6]) H6.out.2.1 H6.out.2.2.2.1 (by have := HL5.out.1; omega) HL5.out.2)
      have HWS : Hid (w5.heap.size < w6.heap.size) := Lib.hid (by have := H5.out.2.2.lt; have := b6.size; omega)
      clear b6 ba hv6 hc6 hA6 hl6 H5 HPR
      have c0 := H6.out.2.2.1.c0
      have c1 := H6.out.2.2.1.c1
      have c2 := H6.out.2.2.2.2.c0
      have c3 := H6.out.2.2.2.2.c1
      have e1 : (M.toList != M.toList) = false := by simp
      have e2 : (e != e) = false := by simp
      have e3 : (g != g) = false := by simp
      have hl5 := HL5.out.1
      go_wp2_with fail
      refine HSXY.out.mono ?_
      rintro x w7 ⟨rfl, b7⟩
      have H7 := Lib.hid (And.intro (H6.out.1.below b7) (And.intro (H6.out.2.1.below b7) (H6.out.2.2.1.below b7)))
      clear b7 H6 HSXY c0 c1 c2 c3 e1
      rcases HBC.out with ⟨hmay, hme⟩ | hme
      · injection hme with hM he
        subst he
        have HM : Hid (pfParse M = (p, 0) ∧ M.size ≤ 100000) := Lib.hid ⟨by rw [hM]; exact (parse_bytes hmay).2, by rw [hM]; have := pfB_len hmay; omega⟩
        have HMAY := Lib.hid hmay
        clear hM hmay HBC
        go_wp2_with fail
        refine (pf_parse M w7 HM.out.2).mono ?_
        rintro x w8 ⟨A8, cap8, ls8, rfl, hv8, hc8, hA8, b8⟩
        rw [HM.out.1] at hv8 ⊢
        simp only at hv8 ⊢
        have hl8 : ls8.length = ls.length := by rw [← vals_len, hv8, HPV.out.2, vals_len]
        have hv8' : vals ls8 = vals ls := by rw [hv8, HPV.out.2]
        rw [hl8, HPV.out.1]
        have H8 := Lib.hid (And.intro ((H7.out.1.below b8).below (Kq.below_alloc w8 (.cells #[.bool false, .slice A8 ls.length cap8] 24))) (And.intro ((H7.out.2.1.below b8).below (Kq.below_alloc w8 (.cells #[.bool false, .slice A8 ls.length cap8] 24))) (And.intro ((H7.out.2.2.below b8).below (Kq.below_alloc w8 (.cells #[.bool false, .slice A8 ls.length cap8] 24))) (And.intro (hA8.below (Kq.below_alloc w8 (.cells #[.bool false, .slice A8 ls.length cap8] 24))) (PBk.mk (Kq.blk_new w8 #[.bool false, .slice A8 ls.length cap8] 24 (0, 0)))))))
        have HS8 := Lib.hid (HSM.out HALL.out A8 cap8 ls8 _ _ hv8' H8.out.2.2.2.1 H8.out.1.lf)
        rw [hl8] at HS8
        clear b8 hv8 hv8' hc8 hA8 hl8 H7 HSM
        have c0 := H8.out.1.pb.c0
        have c1 := H8.out.1.pb.c1
        have c2 := H8.out.2.2.2.2.c0
        have c3 := H8.out.2.2.2.2.c1
        go_wp2_with fail
        refine HS8.out.mono ?_
        rintro x w9 ⟨rfl, b9⟩
        have H9 := Lib.hid (And.intro (H8.out.1.below b9) (And.intro (H8.out.2.1.below b9) (H8.out.2.2.1.below b9)))
        clear b9 H8 HS8 c0 c1 c2 c3
        rcases HPC.out with ⟨hg, hq⟩ | ⟨hg, hqm, hqb⟩
        · (try simp only at hg)
          subst hg
          clear hq HPC
          go_wp2
          go_ret
          exact ⟨rfl, H9.out.1.bel⟩
        · (try simp only at hg); (try simp only at hqm); (try simp only at hqb)
          subst hg
          have HBX := Lib.hid (pf_bytes _ qa A5 cap5 ls5 w9 H9.out.2.1 (by have := HL5.out.1; omega) HL5.out.2)
          have HBV : Hid (pfBytes ⟨qa, vals ls5⟩ = (s, 0)) := Lib.hid (by rw [HV5.out]; exact again_yes hqm hqb)
          rw [HBV.out] at HBX
          clear hqm hqb HPC
          have c0 := H9.out.2.2.c0
          have c1 := H9.out.2.2.c1
          have es : (s.toList == s.toList) = true := by simp
          go_wp2_with fail
          refine HBX.out.mono ?_
          rintro x w10 ⟨rfl, b10⟩
          have H10 := Lib.hid (H9.out.1.below b10)
          clear b10 H9 HBX c0 c1
          go_wp2
          go_ret
          exact ⟨rfl, H10.out.bel⟩
      · injection hme with hM he
        subst he
        clear hM HBC HSM
        have H9 := Lib.hid H7.out
        clear H7
        rcases HPC.out with ⟨hg, hq⟩ | ⟨hg, hqm, hqb⟩
        · (try simp only at hg)
          subst hg
          clear hq HPC
          go_wp2
          go_ret
          exact ⟨rfl, H9.out.1.bel⟩
        · (try simp only at hg); (try simp only at hqm); (try simp only at hqb)
          subst hg
          have HBX := Lib.hid (pf_bytes _ qa A5 cap5 ls5 w7 H9.out.2.1 (by have := HL5.out.1; omega) HL5.out.2)
          have HBV : Hid (pfBytes ⟨qa, vals ls5⟩ = (s, 0)) := Lib.hid (by rw [HV5.out]; exact again_yes hqm hqb)
          rw [HBV.out] at HBX
          clear hqm hqb HPC
          have c0 := H9.out.2.2.c0
          have c1 := H9.out.2.2.c1
          have es : (s.toList == s.toList) = true := by simp
          go_wp2_with fail
          refine HBX.out.mono ?_
          rintro x w10 ⟨rfl, b10⟩
          have H10 := Lib.hid (H9.out.1.below b10)
          clear b10 H9 HBX c0 c1
          go_wp2
          go_ret
          exact ⟨rfl, H10.out.bel⟩
set_option maxRecDepth 100000 in
set_option maxHeartbeats 2000000 in
theorem mainT (A : Option Addr) (cap : Nat) (ls : List LfW) (s : ByteArray) (W : World) (hL : LaidOk W) (hA : LfsN W (fun k => W.heap.size ≤ k) A ls) (hn : ls.length ≤ 10) (hs : s.size ≤ 3000) :
    Calls Tryd.prog 3 #[.agg #[.bool true, .slice A ls.length cap], .string s] W fun x w' => x = .returned (.bool true) ∧ Below W.heap.size W w' := by
  have H := Lib.hid (P9.start (ab := true) (cap := cap) hL hA)
  have HA := Lib.hid (awake09 _ H.out.ok)
  obtain ⟨p, hp⟩ : ∃ p : PfV, p = ⟨true, vals ls⟩ := ⟨_, rfl⟩
  have HPV : Hid (p.ab = true ∧ p.ls = vals ls) := Lib.hid (by rw [hp]; exact ⟨rfl, rfl⟩)
  have HBC := Lib.hid (bytes_cases p)
  obtain ⟨r, hr⟩ : ∃ r, r = pfBytes p := ⟨_, rfl⟩
  have HBY := Lib.hid (fun (hsm : ∀ x ∈ ls, Small9 x) (w' : World) (h : LfsN w' (fun k => W.heap.size ≤ k) A ls) => pf_bytes _ true A cap ls w' h (by omega) (fun x hx => by have := (hsm x hx).1; omega))
  have HBR := Lib.hid (fun (hsm : ∀ x ∈ ls, Small9 x) (w' : World) (h : LfsN w' (fun k => W.heap.size ≤ k) A ls) => rq_bytes _ true A cap ls w' h (by omega) (fun x hx => by have := (hsm x hx).1; omega))
  rw [← hp, ← hr] at HBY HBR
  rw [← hr] at HBC
  have HPP := Lib.hid (fun w' => pf_parse s w' (by omega))
  have HPR := Lib.hid (fun w' => rq_parse s w' (by omega))
  have HSM := Lib.hid (fun (hsm : ∀ x ∈ ls, Small9 x) (B : Option Addr) (cb : Nat) (ms : List LfW) (T : Nat → Prop) (w' : World) (hv : vals ms = vals ls) (h1 : LfsN w' T B ms) (h2 : LfsN w' (fun k => W.heap.size ≤ k) A ls) => rq_same true B A cb cap ms ls T _ w' hv h1 h2 (by rw [← vals_len, hv, vals_len]; omega) (fun x hx => by
    have : x.l ∈ vals ls := by rw [← hv]; exact List.mem_map_of_mem hx
    obtain ⟨y, hy, e⟩ := List.mem_map.1 this
    have := (hsm y hy).1
    rw [← e]; omega))
  obtain ⟨M, e⟩ := r
  have d1 : decide ((10 : Int) < (ls.length : Int)) = false := decide_eq_false (by omega)
  have d2 : decide (10 < ls.length) = false := decide_eq_false (by omega)
  have d3 : decide ((3000 : Int) < (s.size : Int)) = false := decide_eq_false (by omega)
  have d4 : decide (3000 < s.size) = false := decide_eq_false (by omega)
  have HN := Lib.hid hn
  clear hL hA hp hr hs
  go_enter Tryd.func3, Tryd.ntmps3
  go_wp2_with fail
  refine HA.out.mono ?_
  rintro x w1 ⟨rfl, b1⟩
  have H1 := Lib.hid (H.out.below b1)
  have c1 := H1.out.pb.c1
  clear b1 H HA
  go_wp2
  clear c1 d1 d2 d3 d4
  go_loopw [5] (fun i wr => ∃ j : Nat, j ≤ ls.length ∧ i = .int .i64 (j : Int) ∧ (∀ q (hq : q < ls.length), q < j → Small9 ls[q]) ∧ P9 W wr W.heap.size _ A cap ls) (fun i _ => ls.length - (intOf i).toNat)
  case atStart => exact ⟨0, by omega, rfl, fun q _ hq => absurd hq (Nat.not_lt_zero _), H1.out⟩
  case round =>
    obtain ⟨j, hj, rfl, hup, hst⟩ := hrel
    have HUP := Lib.hid hup
    have H2 := Lib.hid hst
    have hn' := HN.out
    have c0 := H2.out.pb.c0
    have c1 := H2.out.pb.c1
    clear hup hst
    by_cases hlt : j < ls.length
    · obtain ⟨b, off, rfl, -, hb, hc, -, -⟩ := H2.out.lf j hlt
      obtain ⟨x, hx⟩ : ∃ x, x = ls[j] := ⟨_, rfl⟩
      rw [← hx] at hc
      have HX := Lib.hid hx
      have HLT := Lib.hid hlt
      have hi0 : (j : Int) < (ls.length : Int) := by omega
      clear hx hb
      obtain ⟨⟨i, c, k, v, p⟩, a, cp⟩ := x
      obtain ⟨q0, q1, q2, q3, q4⟩ := hc
      simp only at q0 q1 q2 q3 q4
      have H3 := Lib.hid (H2.out.below (Kq.below_alloc wr (.cells #[.int .i64 i, .int .i64 c, .string k, .string v, .slice a p.length cp] 30)))
      have hpl : p.length ≤ 9223372036854775807 ∨ True := Or.inr trivial
      by_cases t1 : 40 < p.length
      · have e1 : decide ((40 : Int) < (p.length : Int)) = true := decide_eq_true (by omega)
        have e1' : decide (40 < p.length) = true := decide_eq_true t1
        clear t1 hpl
        go_wp2
        go_ret
        exact ⟨rfl, H3.out.bel⟩
      have e1 : decide ((40 : Int) < (p.length : Int)) = false := decide_eq_false (by omega)
      have e1' : decide (40 < p.length) = false := decide_eq_false t1
      by_cases t2 : 300 < k.size
      · have e2 : decide ((300 : Int) < (k.size : Int)) = true := decide_eq_true (by omega)
        have e2' : decide (300 < k.size) = true := decide_eq_true t2
        clear t1 t2 hpl
        go_wp2
        go_ret
        exact ⟨rfl, H3.out.bel⟩
      have e2 : decide ((300 : Int) < (k.size : Int)) = false := decide_eq_false (by omega)
      have e2' : decide (300 < k.size) = false := decide_eq_false t2
      by_cases t3 : 300 < v.size
      · have e3 : decide ((300 : Int) < (v.size : Int)) = true := decide_eq_true (by omega)
        have e3' : decide (300 < v.size) = true := decide_eq_true t3
        clear t1 t2 t3 hpl
        go_wp2
        go_ret
        exact ⟨rfl, H3.out.bel⟩
      have e3 : decide ((300 : Int) < (v.size : Int)) = false := decide_eq_false (by omega)
      have e3' : decide (300 < v.size) = false := decide_eq_false t3
      have HS : Hid (p.length ≤ 40 ∧ k.size ≤ 300 ∧ v.size ≤ 300) := Lib.hid (by omega)
      clear t1 t2 t3 hpl
      go_wp2
      go_roundw
      case rel =>
        refine ⟨j + 1, HLT.out, by go_num, fun q hq h => ?_, H3.out⟩
        rcases Nat.lt_or_ge q j with h' | h'
        · exact HUP.out q hq h'
        · obtain rfl : q = j := by omega
          rw [← HX.out]; exact HS.out
      case measure => have := HLT.out; simp [intOf]; omega
    · obtain rfl : j = ls.length := by omega
      have HALL : Hid (∀ x ∈ ls, Small9 x) := Lib.hid (fun x hx => by
        obtain ⟨q, hq, rfl⟩ := List.getElem_of_mem hx
        exact HUP.out q hq hq)
      clear hlt HUP
      go_wp2_with fail
      refine (HBY.out HALL.out wr H2.out.lf).mono ?_
      rintro x w3 ⟨rfl, b3⟩
      have H3 := Lib.hid (H2.out.below b3)
      clear b3 H2 c0 c1 HBY
      have c0 := H3.out.pb.c0
      have c1 := H3.out.pb.c1
      go_wp2_with fail
      refine (HBR.out HALL.out w3 H3.out.lf).mono ?_
      rintro x w4 ⟨rfl, b4⟩
      have H4 := Lib.hid (H3.out.below b4)
      clear b4 H3 c0 c1 HBR
      go_wp2_with fail
      refine (HPP.out w4).mono ?_
      rintro x w5 ⟨A5, cap5, ls5, rfl, hv5, hc5, hA5, b5⟩
      obtain ⟨q, hq⟩ : ∃ q, q = pfParse s := ⟨_, rfl⟩
      rw [← hq] at hv5 ⊢
      have HPC : Hid ((q.2 = 5 ∧ q.1 = ⟨false, []⟩) ∨ (q.2 = 0 ∧ PfMay q.1 ∧ pfB q.1 = nl s)) := Lib.hid (by
        rw [hq]
        rcases pfParse_cases s with h | ⟨h1, h2⟩
        · exact Or.inl h
        · exact Or.inr ⟨h1, (pfParse_back (s := s) (p := (pfParse s).1) (by rw [← h1]))⟩)
      have HQ := Lib.hid hq
      obtain ⟨⟨qa, ql⟩, g⟩ := q
      simp only at hv5 ⊢
      have ba := Kq.below_alloc w5 (.cells #[.bool qa, .slice A5 ls5.length cap5] 24)
      have H5 := Lib.hid (And.intro ((H4.out.below b5).below ba) (And.intro (hA5.below ba) (PBk.mk (Kq.blk_new w5 #[.bool qa, .slice A5 ls5.length cap5] 24 (0, 0)))))
      have HV5 := Lib.hid hv5
      clear b5 ba hv5 hc5 hA5 H4 hq HPP
      go_wp2_with fail
      refine (HPR.out _).mono ?_
      rintro x w6 ⟨A6, cap6, ls6, rfl, hv6, hc6, hA6, b6⟩
      rw [← HQ.out] at hv6 ⊢
      simp only at hv6 ⊢
      have hl6 : ls6.length = ls5.length := by rw [← vals_len, hv6, ← HV5.out, vals_len]
      rw [hl6]
      have ba := Kq.below_alloc w6 (.cells #[.bool qa, .slice A6 ls5.length cap6] 24)
      have H6 := Lib.hid (And.intro ((H5.out.1.below b6).below ba) (And.intro ((H5.out.2.1.below b6).below ba) (And.intro ((H5.out.2.2.below b6).below ba) (And.intro (hA6.below ba) (PBk.mk (Kq.blk_new w6 #[.bool qa, .slice A6 ls5.length cap6] 24 (0, 0)))))))
      have HL5 : Hid (ls5.length ≤ 2 ∧ ∀ x ∈ ls5, x.l.p.length ≤ 1000) := Lib.hid (by
        have hm : PfMay ⟨qa, ql⟩ ∨ ql = [] := by
          rcases HPC.out with h | h
          · right; have := h.2; injection this
          · exact Or.inl h.2.1
        rcases hm with hm | hm
        · refine ⟨by rw [← vals_len, HV5.out]; exact hm.1, fun x hx => ?_⟩
          have := (hm.2 x.l (by rw [← HV5.out]; exact List.mem_map_of_mem hx)).n
          omega
        · have h0 : ls5 = [] := List.eq_nil_of_length_eq_zero (by rw [← vals_len, HV5.out, hm]; rfl)
          subst h0
          exact ⟨by simp, fun x hx => by cases hx⟩)
      have HSXY := Lib.hid (rq_same qa A5 A6 cap5 cap6 ls5 ls6 _ _ _ (by rw [HV5.out, hv6]) H6.out.2.1 H6.out.2.2.2.1 (by have := HL5.out.1; omega) HL5.out.2)
      have HWS : Hid (w5.heap.size < w6.heap.size) := Lib.hid (by have := H5.out.2.2.lt; have := b6.size; omega)
      clear b6 ba hv6 hc6 hA6 hl6 H5 HPR
      have c0 := H6.out.2.2.1.c0
      have c1 := H6.out.2.2.1.c1
      have c2 := H6.out.2.2.2.2.c0
      have c3 := H6.out.2.2.2.2.c1
      have e1 : (M.toList != M.toList) = false := by simp
      have e2 : (e != e) = false := by simp
      have e3 : (g != g) = false := by simp
      have hl5 := HL5.out.1
      go_wp2_with fail
      refine HSXY.out.mono ?_
      rintro x w7 ⟨rfl, b7⟩
      have H7 := Lib.hid (And.intro (H6.out.1.below b7) (And.intro (H6.out.2.1.below b7) (H6.out.2.2.1.below b7)))
      clear b7 H6 HSXY c0 c1 c2 c3 e1
      rcases HBC.out with ⟨hmay, hme⟩ | hme
      · injection hme with hM he
        subst he
        have HM : Hid (pfParse M = (p, 0) ∧ M.size ≤ 100000) := Lib.hid ⟨by rw [hM]; exact (parse_bytes hmay).2, by rw [hM]; have := pfB_len hmay; omega⟩
        have HMAY := Lib.hid hmay
        clear hM hmay HBC
        go_wp2_with fail
        refine (pf_parse M w7 HM.out.2).mono ?_
        rintro x w8 ⟨A8, cap8, ls8, rfl, hv8, hc8, hA8, b8⟩
        rw [HM.out.1] at hv8 ⊢
        simp only at hv8 ⊢
        have hl8 : ls8.length = ls.length := by rw [← vals_len, hv8, HPV.out.2, vals_len]
        have hv8' : vals ls8 = vals ls := by rw [hv8, HPV.out.2]
        rw [hl8, HPV.out.1]
        have H8 := Lib.hid (And.intro ((H7.out.1.below b8).below (Kq.below_alloc w8 (.cells #[.bool true, .slice A8 ls.length cap8] 24))) (And.intro ((H7.out.2.1.below b8).below (Kq.below_alloc w8 (.cells #[.bool true, .slice A8 ls.length cap8] 24))) (And.intro ((H7.out.2.2.below b8).below (Kq.below_alloc w8 (.cells #[.bool true, .slice A8 ls.length cap8] 24))) (And.intro (hA8.below (Kq.below_alloc w8 (.cells #[.bool true, .slice A8 ls.length cap8] 24))) (PBk.mk (Kq.blk_new w8 #[.bool true, .slice A8 ls.length cap8] 24 (0, 0)))))))
        have HS8 := Lib.hid (HSM.out HALL.out A8 cap8 ls8 _ _ hv8' H8.out.2.2.2.1 H8.out.1.lf)
        rw [hl8] at HS8
        clear b8 hv8 hv8' hc8 hA8 hl8 H7 HSM
        have c0 := H8.out.1.pb.c0
        have c1 := H8.out.1.pb.c1
        have c2 := H8.out.2.2.2.2.c0
        have c3 := H8.out.2.2.2.2.c1
        go_wp2_with fail
        refine HS8.out.mono ?_
        rintro x w9 ⟨rfl, b9⟩
        have H9 := Lib.hid (And.intro (H8.out.1.below b9) (And.intro (H8.out.2.1.below b9) (H8.out.2.2.1.below b9)))
        clear b9 H8 HS8 c0 c1 c2 c3
        rcases HPC.out with ⟨hg, hq⟩ | ⟨hg, hqm, hqb⟩
        · (try simp only at hg)
          subst hg
          clear hq HPC
          go_wp2
          go_ret
          exact ⟨rfl, H9.out.1.bel⟩
        · (try simp only at hg); (try simp only at hqm); (try simp only at hqb)
          subst hg
          have HBX := Lib.hid (pf_bytes _ qa A5 cap5 ls5 w9 H9.out.2.1 (by have := HL5.out.1; omega) HL5.out.2)
          have HBV : Hid (pfBytes ⟨qa, vals ls5⟩ = (s, 0)) := Lib.hid (by rw [HV5.out]; exact again_yes hqm hqb)
          rw [HBV.out] at HBX
          clear hqm hqb HPC
          have c0 := H9.out.2.2.c0
          have c1 := H9.out.2.2.c1
          have es : (s.toList == s.toList) = true := by simp
          go_wp2_with fail
          refine HBX.out.mono ?_
          rintro x w10 ⟨rfl, b10⟩
          have H10 := Lib.hid (H9.out.1.below b10)
          clear b10 H9 HBX c0 c1
          go_wp2
          go_ret
          exact ⟨rfl, H10.out.bel⟩
      · injection hme with hM he
        subst he
        clear hM HBC HSM
        have H9 := Lib.hid H7.out
        clear H7
        rcases HPC.out with ⟨hg, hq⟩ | ⟨hg, hqm, hqb⟩
        · (try simp only at hg)
          subst hg
          clear hq HPC
          go_wp2
          go_ret
          exact ⟨rfl, H9.out.1.bel⟩
        · (try simp only at hg); (try simp only at hqm); (try simp only at hqb)
          subst hg
          have HBX := Lib.hid (pf_bytes _ qa A5 cap5 ls5 w7 H9.out.2.1 (by have := HL5.out.1; omega) HL5.out.2)
          have HBV : Hid (pfBytes ⟨qa, vals ls5⟩ = (s, 0)) := Lib.hid (by rw [HV5.out]; exact again_yes hqm hqb)
          rw [HBV.out] at HBX
          clear hqm hqb HPC
          have c0 := H9.out.2.2.c0
          have c1 := H9.out.2.2.c1
          have es : (s.toList == s.toList) = true := by simp
          go_wp2_with fail
          refine HBX.out.mono ?_
          rintro x w10 ⟨rfl, b10⟩
          have H10 := Lib.hid (H9.out.1.below b10)
          clear b10 H9 HBX c0 c1
          go_wp2
          go_ret
          exact ⟨rfl, H10.out.bel⟩
theorem proofBytes_walk (v0 : Value) (s : ByteArray) {W : World} (h0 : ∃ ab A cap ls, v0 = .agg #[.bool ab, .slice A (List.length ls) cap] ∧ List.length ls ≤ maxLen ∧ LfsN W (fun k => W.heap.size ≤ k) A ls) (h1 : s.size ≤ maxLen) (w : World) (e : W = w) (hL : LaidOk w) :
    Calls Tryd.prog 3 #[v0, .string s] w fun x w' => x = .returned (.bool true) ∧ Below w.heap.size w w' := by
  subst e
  obtain ⟨ab, A, cap, ls, rfl, hl, hA⟩ := h0
  by_cases hg : 10 < ls.length ∨ 3000 < s.size
  · exact early ab A cap ls s W hL hA hg
  · cases ab
    · exact mainF A cap ls s W hL hA (by omega) (by omega)
    · exact mainT A cap ls s W hL hA (by omega) (by omega)
end proofBytes
end Go.Proofs.YtclloplkbajebaaDoor
