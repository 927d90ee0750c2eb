/- carracklaw09.ProofMakes walked. Condition: the constants lie where they lie. -/
import Derived.WalkSpells
import Derived.Outline
import Derived.Test.YtclloplkbajebaaDoorQfNQ
import Derived.Test.YtclloplkbajebaaDoorQfSQ
import Derived.Test.YtclloplkbajebaaDoorPfLwQ
namespace Go.Proofs.YtclloplkbajebaaDoor
open Go.RowKit
set_option linter.unusedVariables false
namespace proofMakes
/-- the constants, the list and the book -/
structure J (W w : World) (lo hi P : Nat) (T : List ByteArray) (A : Option Addr) (l : List PairV) : Prop where
  laid : LaidOk W
  bel : Below W.heap.size W w
  bk : BookW w lo hi P T
  hhi : hi ≤ w.heap.size
  hlo : lo ≤ w.heap.size
  wlo : W.heap.size ≤ lo
  a : PsLo w lo A l
section
variable {W w w' : World} {lo hi P : Nat} {T U : List ByteArray} {A : Option Addr} {l : List PairV}
theorem J.below (h : J W w lo hi P T A l) (hb : Below w.heap.size w w') : J W w' lo hi P T A l :=
  ⟨h.laid, h.bel.trans (hb.mono h.bel.size), h.bk.below hb, Nat.le_trans h.hhi hb.size, Nat.le_trans h.hlo hb.size, h.wlo, h.a.below hb⟩
theorem J.ask (h : J W w lo hi P T A l) (hb : BookW w' lo hi P U) (hk : Kq.Keeps (fun k => lo ≤ k ∧ k < hi) w w') : J W w' lo hi P U A l :=
  ⟨h.laid, below_far h.bel hk (Nat.le_refl _) (fun k _ hk => by have := h.wlo; omega), hb, Nat.le_trans h.hhi hk.size, Nat.le_trans h.hlo hk.size, h.wlo, h.a.keeps hk (fun k hk => hk.1)⟩
theorem J.ok (h : J W w lo hi P T A l) : LaidOk w := h.laid.later h.bel
theorem J.start (h : L9 W w A l) {w' : World} {P : Nat} (hb : BookW w' w.heap.size w'.heap.size P []) (hbl : Below w.heap.size w w') : J W w' w.heap.size w'.heap.size P [] A l :=
  ⟨h.laid, h.bel.trans (hbl.mono h.bel.size), hb, Nat.le_refl _, hbl.size, h.bel.size, (show PsLo w w.heap.size A l from fun j hj => by
    obtain ⟨b, off, e, h1, h2, h3⟩ := h.pa j hj
    exact ⟨b, off, e, h1, h1, h2, h3⟩).below hbl⟩
end
/-- a proof that was told, and its variable's block -/
structure Pr (w : World) (hi B : Nat) (ab : Bool) (A : Option Addr) (n cap : Nat) (ls : List LfW) : Prop where
  lf : LfsN w (fun k => k < hi) A ls
  pb : PBk w B ab (.slice A n cap)
  b : hi ≤ B
section
variable {w w' : World} {lo hi B n cap : Nat} {ab : Bool} {A : Option Addr} {ls : List LfW}
theorem Pr.below (h : Pr w hi B ab A n cap ls) (hb : Below w.heap.size w w') : Pr w' hi B ab A n cap ls := ⟨h.lf.below hb, h.pb.below hb, h.b⟩
theorem Pr.keeps (h : Pr w hi B ab A n cap ls) (hk : Kq.Keeps (fun k => lo ≤ k ∧ k < hi) w w') : Pr w' hi B ab A n cap ls := ⟨h.lf.keeps hk (fun k _ h => h.2), h.pb.later hk (by have := h.b; omega), h.b⟩
theorem Pr.start (hA : LfsN w (fun k => k < hi) A ls) (hh : hi ≤ w.heap.size) : Pr (w.alloc (.cells #[.bool ab, .slice A n cap] 24)) hi w.heap.size ab A n cap ls :=
  ⟨hA.below (Kq.below_alloc _ _), ⟨Kq.blk_new _ _ _ _⟩, hh⟩
end
theorem may_nil (ab : Bool) : PfMay ⟨ab, []⟩ := ⟨by simp, fun l hl => by cases hl⟩
theorem presV_may {l : List PairV} {key : ByteArray} (hc : chkE l = 0) (h40 : l.length ≤ 40) : PfMay (presV l key).1 ∧ (presV l key).1.ab = false := by
  by_cases h : isIn l key = true
  · rw [presV_yes h]; exact ⟨pfHas_may hc h40 h, rfl⟩
  · rw [presV_no (by simpa using h)]; exact ⟨may_nil _, rfl⟩
theorem absV_may {l : List PairV} {key : ByteArray} (hc : chkE l = 0) (h40 : l.length ≤ 40) : PfMay (absV l key).1 := by
  by_cases h : isKeyB key = true
  · by_cases h2 : isIn l key = true
    · rw [absV_in h h2]; exact may_nil _
    · rw [absV_ok h (by simpa using h2)]; exact pfNot_may hc h40
  · rw [absV_key (by simpa using h)]; exact may_nil _
set_option maxRecDepth 100000 in
set_option maxHeartbeats 1000000 in
theorem early (A : Option Addr) (ca : Nat) (l : List PairV) (key : ByteArray) (W : World) (h : L9 W W A l) (hno : ¬ (Few9 l ∧ key.size ≤ 300)) :
    Calls Tryd.prog 4 #[.slice A l.length ca, .string key] W fun x w' => x = .returned (.bool true) ∧ Below W.heap.size W w' := by
  have H := Lib.hid h
  have HNO := Lib.hid hno
  clear h hno
  go_enter Tryd.func4, Tryd.ntmps4
  go_wp2_with fail
  refine (awake09 W H.out.ok).mono ?_
  rintro x w1 ⟨rfl, b1⟩
  have H1 := Lib.hid (H.out.below b1)
  clear b1 H
  go_wp2_with fail
  refine (few09 l A ca w1 H1.out.pa).mono ?_
  rintro x w2 ⟨rfl, b2⟩
  have H2 := Lib.hid (H1.out.below b2)
  clear b2 H1
  by_cases f1 : Few9 l
  · rw [decide_eq_true f1]
    have k1 : 300 < key.size := by
      by_cases g : 300 < key.size
      · exact g
      · exact absurd ⟨f1, by omega⟩ HNO.out
    clear f1
    have d1 : decide ((300 : Int) < (key.size : Int)) = true := decide_eq_true (by omega)
    have d2 : decide (300 < key.size) = true := decide_eq_true k1
    clear k1
    go_wp2
    go_ret
    exact ⟨rfl, H2.out.bel⟩
  · rw [decide_eq_false f1]
    clear f1
    go_wp2
    go_ret
    exact ⟨rfl, H2.out.bel⟩
set_option maxRecDepth 100000 in
set_option maxHeartbeats 2000000 in
theorem main (A : Option Addr) (ca : Nat) (l : List PairV) (key : ByteArray) (W : World) (h : L9 W W A l) (hf : Few9 l) (hk : key.size ≤ 300) (hca : l.length ≤ ca) :
    Calls Tryd.prog 4 #[.slice A l.length ca, .string key] W fun x w' => x = .returned (.bool true) ∧ Below W.heap.size W w' := by
  have H := Lib.hid h
  have hl40 := hf.1
  have HPP := Lib.hid (fun w h1 h2 => pf_present l A ca key w (by omega) (chk_sorted hf.2) hf.fit h1 h2 hca)
  have HPA := Lib.hid (fun w h1 h2 => pf_absent l A ca key w (by omega) (chk_sorted hf.2) hf.fit h1 h2 hca)
  have HRP := Lib.hid (fun lo hi P (T : List ByteArray) w a b c d (hT : T.length ≤ 700) => rq_present l A ca lo hi P T key w hf.fit a b c d hca (by omega))
  have HRA := Lib.hid (fun lo hi P (T : List ByteArray) w a b c d (hT : T.length ≤ 700) => rq_absent l A ca lo hi P T key w hf.fit a b c d hca (by omega))
  have HM1 := Lib.hid (presV_may (key := key) hf.2 hf.1)
  have HM2 := Lib.hid (absV_may (key := key) hf.2 hf.1)
  have HL40 := Lib.hid hl40
  have d0 : Hid (decide (Few9 l) = true) := Lib.hid (decide_eq_true hf)
  have d1 : decide ((300 : Int) < (key.size : Int)) = false := decide_eq_false (by omega)
  have d2 : decide (300 < key.size) = false := decide_eq_false (by omega)
  obtain ⟨R1, hR1⟩ : ∃ R, R = presV l key := ⟨_, rfl⟩
  obtain ⟨R2, hR2⟩ : ∃ R, R = absV l key := ⟨_, rfl⟩
  rw [← hR1] at HPP HRP HM1
  rw [← hR2] at HPA HRA HM2
  obtain ⟨⟨ab1, l1⟩, E1⟩ := R1
  obtain ⟨⟨ab2, l2⟩, E2⟩ := R2
  obtain rfl : ab1 = false := HM1.out.2
  have HN1 : Hid (l1.length ≤ 2 ∧ ∀ L ∈ l1, L.p.length ≤ 1000) := Lib.hid ⟨HM1.out.1.1, fun L hL => by have := (HM1.out.1.2 L hL).n; omega⟩
  have HN2 : Hid (l2.length ≤ 2 ∧ ∀ L ∈ l2, L.p.length ≤ 1000) := Lib.hid ⟨HM2.out.1, fun L hL => by have := (HM2.out.2 L hL).n; omega⟩
  clear h hf hk hca hl40 hR1 hR2 HM1 HM2
  have e1 : (E1 == E1) = true := by simp
  have e2 : (E2 == E2) = true := by simp
  cases ab2 with
  | false =>
    go_enter Tryd.func4, Tryd.ntmps4
    go_wp2_with fail
    refine (awake09 W H.out.ok).mono ?_
    rintro x w1 ⟨rfl, b1⟩
    have H1 := Lib.hid (H.out.below b1)
    clear b1 H
    go_wp2_with fail
    refine (few09 l A ca w1 H1.out.pa).mono ?_
    rintro x w2 ⟨rfl, b2⟩
    rw [d0.out]
    have H2 := Lib.hid (H1.out.below b2)
    clear b2 H1 d0
    go_wp2_with fail
    refine (r_booknewW w2).mono ?_
    rintro x w3 ⟨P, rfl, hbk, hbl⟩
    have H3 := Lib.hid (J.start H2.out hbk hbl)
    clear hbk hbl H2 d1 d2
    generalize w2.heap.size = lo at *
    generalize w3.heap.size = hi at *
    go_wp2_with fail
    refine (HPP.out w3 H3.out.a.at H3.out.ok).mono ?_
    rintro x w4 ⟨A4, c4, s4, rfl, hv4, hc4, hl4, b4⟩
    have P1 := Lib.hid (Pr.start (ab := false) (n := s4.length) (cap := c4) (hl4.mono (T := fun k => k < hi) (fun k _ h => Nat.lt_of_lt_of_le h H3.out.hhi)) (Nat.le_trans H3.out.hhi b4.size))
    have H4 := Lib.hid ((H3.out.below b4).below (Kq.below_alloc w4 (.cells #[.bool false, .slice A4 s4.length c4] 24)))
    have HV4 := Lib.hid hv4
    clear hv4 hc4 hl4 b4 H3 HPP
    go_wp2_with fail
    refine (HRP.out lo hi P _ _ H4.out.a H4.out.bk H4.out.hhi H4.out.hlo (by simp)).mono ?_
    rintro x w5 ⟨A5, c5, s5, rfl, hv5, hc5, hl5, ⟨T5, hT5, hbk⟩, hkp⟩
    have hl : s5.length = s4.length := by rw [← vals_len, hv5, ← HV4.out, vals_len]
    rw [hl]
    have HT5 : Hid (T5.length ≤ 80) := Lib.hid (by have := HL40.out; simp at hT5; omega)
    have P2 := Lib.hid (And.intro ((P1.out.keeps hkp).below (Kq.below_alloc w5 (.cells #[.bool false, .slice A5 s4.length c5] 24))) (Pr.start (ab := false) (n := s4.length) (cap := c5) (hl5.mono (T := fun k => k < hi) (fun k _ h => Nat.lt_of_lt_of_le h H4.out.hhi)) (Nat.le_trans H4.out.hhi hkp.size)))
    have H5 := Lib.hid ((H4.out.ask hbk hkp).below (Kq.below_alloc w5 (.cells #[.bool false, .slice A5 s4.length c5] 24)))
    have HV5 : Hid (vals s4 = vals s5) := Lib.hid (by rw [hv5, HV4.out])
    clear hv5 hc5 hl5 hT5 hbk hkp hl H4 P1 HRP
    go_wp2_with fail
    refine (HPA.out _ H5.out.a.at H5.out.ok).mono ?_
    rintro x w6 ⟨A6, c6, s6, rfl, hv6, hc6, hl6, b6⟩
    have P3 := Lib.hid (And.intro ((P2.out.1.below b6).below (Kq.below_alloc w6 (.cells #[.bool false, .slice A6 s6.length c6] 24))) (And.intro ((P2.out.2.below b6).below (Kq.below_alloc w6 (.cells #[.bool false, .slice A6 s6.length c6] 24))) (Pr.start (ab := false) (n := s6.length) (cap := c6) (hl6.mono (T := fun k => k < hi) (fun k _ h => Nat.lt_of_lt_of_le h H5.out.hhi)) (Nat.le_trans H5.out.hhi b6.size))))
    have H6 := Lib.hid ((H5.out.below b6).below (Kq.below_alloc w6 (.cells #[.bool false, .slice A6 s6.length c6] 24)))
    have HV6 := Lib.hid hv6
    clear hv6 hc6 hl6 b6 H5 P2 HPA
    go_wp2_with fail
    refine (HRA.out lo hi P _ _ H6.out.a H6.out.bk H6.out.hhi H6.out.hlo (by have := HT5.out; omega)).mono ?_
    rintro x w7 ⟨A7, c7, s7, rfl, hv7, hc7, hl7, ⟨T7, hT7, hbk⟩, hkp⟩
    have hl : s7.length = s6.length := by rw [← vals_len, hv7, ← HV6.out, vals_len]
    rw [hl]
    have P4 := Lib.hid (And.intro ((P3.out.1.keeps hkp).below (Kq.below_alloc w7 (.cells #[.bool false, .slice A7 s6.length c7] 24))) (And.intro ((P3.out.2.1.keeps hkp).below (Kq.below_alloc w7 (.cells #[.bool false, .slice A7 s6.length c7] 24))) (And.intro ((P3.out.2.2.keeps hkp).below (Kq.below_alloc w7 (.cells #[.bool false, .slice A7 s6.length c7] 24))) (Pr.start (ab := false) (n := s6.length) (cap := c7) (hl7.mono (T := fun k => k < hi) (fun k _ h => Nat.lt_of_lt_of_le h H6.out.hhi)) (Nat.le_trans H6.out.hhi hkp.size)))))
    have H7 := Lib.hid ((H6.out.ask hbk hkp).below (Kq.below_alloc w7 (.cells #[.bool false, .slice A7 s6.length c7] 24)))
    have HV7 : Hid (vals s6 = vals s7) := Lib.hid (by rw [hv7, HV6.out])
    clear hv7 hc7 hl7 hT7 hbk hkp hl H6 P3 HRA
    have c0 := P4.out.1.pb.c0
    have c1 := P4.out.1.pb.c1
    have c2 := P4.out.2.1.pb.c0
    have c3 := P4.out.2.1.pb.c1
    go_wp2_with fail
    refine (rq_same false A4 A5 c4 c5 s4 s5 _ _ _ HV5.out P4.out.1.lf P4.out.2.1.lf (by have := HN1.out.1; rw [← HV4.out, vals_len] at this; omega) (fun x hx => HN1.out.2 x.l (by rw [← HV4.out]; exact List.mem_map_of_mem hx))).mono ?_
    rintro x w8 ⟨rfl, b8⟩
    have P5 := Lib.hid (And.intro (P4.out.2.2.1.below b8) (P4.out.2.2.2.below b8))
    have H8 := Lib.hid (H7.out.below b8)
    clear b8 H7 P4 c0 c1 c2 c3
    have c0 := P5.out.1.pb.c0
    have c1 := P5.out.1.pb.c1
    have c2 := P5.out.2.pb.c0
    have c3 := P5.out.2.pb.c1
    go_wp2_with fail
    refine (rq_same false A6 A7 c6 c7 s6 s7 _ _ _ HV7.out P5.out.1.lf P5.out.2.lf (by have := HN2.out.1; rw [← HV6.out, vals_len] at this; omega) (fun x hx => HN2.out.2 x.l (by rw [← HV6.out]; exact List.mem_map_of_mem hx))).mono ?_
    rintro x w9 ⟨rfl, b9⟩
    have H9 := Lib.hid (H8.out.below b9)
    clear b9 H8 P5 c0 c1 c2 c3
    go_wp2
    go_ret
    exact ⟨rfl, H9.out.bel⟩
  | true =>
    go_enter Tryd.func4, Tryd.ntmps4
    go_wp2_with fail
    refine (awake09 W H.out.ok).mono ?_
    rintro x w1 ⟨rfl, b1⟩
    have H1 := Lib.hid (H.out.below b1)
    clear b1 H
    go_wp2_with fail
    refine (few09 l A ca w1 H1.out.pa).mono ?_
    rintro x w2 ⟨rfl, b2⟩
    rw [d0.out]
    have H2 := Lib.hid (H1.out.below b2)
    clear b2 H1 d0
    go_wp2_with fail
    refine (r_booknewW w2).mono ?_
    rintro x w3 ⟨P, rfl, hbk, hbl⟩
    have H3 := Lib.hid (J.start H2.out hbk hbl)
    clear hbk hbl H2 d1 d2
    generalize w2.heap.size = lo at *
    generalize w3.heap.size = hi at *
    go_wp2_with fail
    refine (HPP.out w3 H3.out.a.at H3.out.ok).mono ?_
    rintro x w4 ⟨A4, c4, s4, rfl, hv4, hc4, hl4, b4⟩
    have P1 := Lib.hid (Pr.start (ab := false) (n := s4.length) (cap := c4) (hl4.mono (T := fun k => k < hi) (fun k _ h => Nat.lt_of_lt_of_le h H3.out.hhi)) (Nat.le_trans H3.out.hhi b4.size))
    have H4 := Lib.hid ((H3.out.below b4).below (Kq.below_alloc w4 (.cells #[.bool false, .slice A4 s4.length c4] 24)))
    have HV4 := Lib.hid hv4
    clear hv4 hc4 hl4 b4 H3 HPP
    go_wp2_with fail
    refine (HRP.out lo hi P _ _ H4.out.a H4.out.bk H4.out.hhi H4.out.hlo (by simp)).mono ?_
    rintro x w5 ⟨A5, c5, s5, rfl, hv5, hc5, hl5, ⟨T5, hT5, hbk⟩, hkp⟩
    have hl : s5.length = s4.length := by rw [← vals_len, hv5, ← HV4.out, vals_len]
    rw [hl]
    have HT5 : Hid (T5.length ≤ 80) := Lib.hid (by have := HL40.out; simp at hT5; omega)
    have P2 := Lib.hid (And.intro ((P1.out.keeps hkp).below (Kq.below_alloc w5 (.cells #[.bool false, .slice A5 s4.length c5] 24))) (Pr.start (ab := false) (n := s4.length) (cap := c5) (hl5.mono (T := fun k => k < hi) (fun k _ h => Nat.lt_of_lt_of_le h H4.out.hhi)) (Nat.le_trans H4.out.hhi hkp.size)))
    have H5 := Lib.hid ((H4.out.ask hbk hkp).below (Kq.below_alloc w5 (.cells #[.bool false, .slice A5 s4.length c5] 24)))
    have HV5 : Hid (vals s4 = vals s5) := Lib.hid (by rw [hv5, HV4.out])
    clear hv5 hc5 hl5 hT5 hbk hkp hl H4 P1 HRP
    go_wp2_with fail
    refine (HPA.out _ H5.out.a.at H5.out.ok).mono ?_
    rintro x w6 ⟨A6, c6, s6, rfl, hv6, hc6, hl6, b6⟩
    have P3 := Lib.hid (And.intro ((P2.out.1.below b6).below (Kq.below_alloc w6 (.cells #[.bool true, .slice A6 s6.length c6] 24))) (And.intro ((P2.out.2.below b6).below (Kq.below_alloc w6 (.cells #[.bool true, .slice A6 s6.length c6] 24))) (Pr.start (ab := true) (n := s6.length) (cap := c6) (hl6.mono (T := fun k => k < hi) (fun k _ h => Nat.lt_of_lt_of_le h H5.out.hhi)) (Nat.le_trans H5.out.hhi b6.size))))
    have H6 := Lib.hid ((H5.out.below b6).below (Kq.below_alloc w6 (.cells #[.bool true, .slice A6 s6.length c6] 24)))
    have HV6 := Lib.hid hv6
    clear hv6 hc6 hl6 b6 H5 P2 HPA
    go_wp2_with fail
    refine (HRA.out lo hi P _ _ H6.out.a H6.out.bk H6.out.hhi H6.out.hlo (by have := HT5.out; omega)).mono ?_
    rintro x w7 ⟨A7, c7, s7, rfl, hv7, hc7, hl7, ⟨T7, hT7, hbk⟩, hkp⟩
    have hl : s7.length = s6.length := by rw [← vals_len, hv7, ← HV6.out, vals_len]
    rw [hl]
    have P4 := Lib.hid (And.intro ((P3.out.1.keeps hkp).below (Kq.below_alloc w7 (.cells #[.bool true, .slice A7 s6.length c7] 24))) (And.intro ((P3.out.2.1.keeps hkp).below (Kq.below_alloc w7 (.cells #[.bool true, .slice A7 s6.length c7] 24))) (And.intro ((P3.out.2.2.keeps hkp).below (Kq.below_alloc w7 (.cells #[.bool true, .slice A7 s6.length c7] 24))) (Pr.start (ab := true) (n := s6.length) (cap := c7) (hl7.mono (T := fun k => k < hi) (fun k _ h => Nat.lt_of_lt_of_le h H6.out.hhi)) (Nat.le_trans H6.out.hhi hkp.size)))))
    have H7 := Lib.hid ((H6.out.ask hbk hkp).below (Kq.below_alloc w7 (.cells #[.bool true, .slice A7 s6.length c7] 24)))
    have HV7 : Hid (vals s6 = vals s7) := Lib.hid (by rw [hv7, HV6.out])
    clear hv7 hc7 hl7 hT7 hbk hkp hl H6 P3 HRA
    have c0 := P4.out.1.pb.c0
    have c1 := P4.out.1.pb.c1
    have c2 := P4.out.2.1.pb.c0
    have c3 := P4.out.2.1.pb.c1
    go_wp2_with fail
    refine (rq_same false A4 A5 c4 c5 s4 s5 _ _ _ HV5.out P4.out.1.lf P4.out.2.1.lf (by have := HN1.out.1; rw [← HV4.out, vals_len] at this; omega) (fun x hx => HN1.out.2 x.l (by rw [← HV4.out]; exact List.mem_map_of_mem hx))).mono ?_
    rintro x w8 ⟨rfl, b8⟩
    have P5 := Lib.hid (And.intro (P4.out.2.2.1.below b8) (P4.out.2.2.2.below b8))
    have H8 := Lib.hid (H7.out.below b8)
    clear b8 H7 P4 c0 c1 c2 c3
    have c0 := P5.out.1.pb.c0
    have c1 := P5.out.1.pb.c1
    have c2 := P5.out.2.pb.c0
    have c3 := P5.out.2.pb.c1
    go_wp2_with fail
    refine (rq_same true A6 A7 c6 c7 s6 s7 _ _ _ HV7.out P5.out.1.lf P5.out.2.lf (by have := HN2.out.1; rw [← HV6.out, vals_len] at this; omega) (fun x hx => HN2.out.2 x.l (by rw [← HV6.out]; exact List.mem_map_of_mem hx))).mono ?_
    rintro x w9 ⟨rfl, b9⟩
    have H9 := Lib.hid (H8.out.below b9)
    clear b9 H8 P5 c0 c1 c2 c3
    go_wp2
    go_ret
    exact ⟨rfl, H9.out.bel⟩
theorem proofMakes_walk (v0 : Value) (key : ByteArray) {W : World} (h0 : ∃ A ca l, v0 = .slice A (List.length l) ca ∧ List.length l ≤ ca ∧ PsLo W W.heap.size A l) (h1 : key.size ≤ maxLen) (w : World) (e : W = w) (hL : LaidOk w) :
    Calls Tryd.prog 4 #[v0, .string key] w fun x w' => x = .returned (.bool true) ∧ Below w.heap.size w w' := by
  subst e
  obtain ⟨A, ca, l, rfl, hca, hA⟩ := h0
  by_cases hg : Few9 l ∧ key.size ≤ 300
  · exact main A ca l key W ⟨hA, hL, Below.refl _ _⟩ hg.1 hg.2 hca
  · exact early A ca l key W ⟨hA, hL, Below.refl _ _⟩ hg
end proofMakes
end Go.Proofs.YtclloplkbajebaaDoor
