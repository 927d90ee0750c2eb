/- carracklaw12.ClientOrder walked. No condition. -/
import Derived.WalkSpells
import Derived.Outline
import Derived.StillTailTactics
import Derived.Test.YtdonoilcegaleaaClOrd
import Derived.Test.YtdonoilcegaleaaClNum
namespace Go.Proofs.Ytdonoilcegaleaa.clientOrder
open Go.RowKit Go.Cl
set_option linter.unusedVariables false
set_option maxRecDepth 100000 in
set_option maxHeartbeats 1000000 in
theorem out_ (A : Option Addr) (cap : Nat) (l : List (Nat × ByteArray)) (t x : Int) (W : World) (hl : 100 < l.length ∨ t < 0 ∨ (l.length : Int) < t) :
    Calls Try.prog 5 #[.slice A l.length cap, .int .i64 t, .int .u64 x] W fun e w' => e = .returned (.bool true) ∧ Below W.heap.size W w' := by
  by_cases h1 : 100 < l.length
  · have d0 : decide ((100 : Int) < (l.length : Int)) = true := decide_eq_true (by omega)
    have d1 : decide (100 < l.length) = true := decide_eq_true h1
    clear hl h1
    go_enter Try.func5, Try.ntmps5
    go_wp2_with fail
    refine (awake _).mono ?_
    rintro x w1 ⟨rfl, b1⟩
    have H1 := Lib.hid b1
    clear b1
    go_wp2
    go_ret
    exact ⟨rfl, H1.out⟩
  · have d0 : decide ((100 : Int) < (l.length : Int)) = false := decide_eq_false (by omega)
    have d1 : decide (100 < l.length) = false := decide_eq_false h1
    by_cases h2 : t < 0
    · have d2 : decide (t < 0) = true := decide_eq_true h2
      clear hl h1 h2
      go_enter Try.func5, Try.ntmps5
      go_wp2_with fail
      refine (awake _).mono ?_
      rintro x w1 ⟨rfl, b1⟩
      have H1 := Lib.hid b1
      clear b1
      go_wp2
      go_ret
      exact ⟨rfl, H1.out⟩
    · have d2 : decide (t < 0) = false := decide_eq_false h2
      have d3 : decide ((l.length : Int) < t) = true := decide_eq_true (by omega)
      clear hl h1 h2
      go_enter Try.func5, Try.ntmps5
      go_wp2_with fail
      refine (awake _).mono ?_
      rintro x w1 ⟨rfl, b1⟩
      have H1 := Lib.hid b1
      clear b1
      go_wp2
      go_ret
      exact ⟨rfl, H1.out⟩
/-- two clients, and the law's own set -/
structure Or (W w : World) (C M D K F N : Nat) (v : Value) (hs : List Nat) (f : Int → Option ByteArray) (u : Value) (ks : List Nat) (g : Int → Option ByteArray) (q : Int → Bool) : Prop where
  c : CliI W w M C M N v hs f
  d : CliI W w K D K N u ks g
  b : MapB w F N q
  cd : ∀ j, OwnC C M v j → ¬ OwnC D K u j
  cF : ¬ OwnC C M v F
  dF : ¬ OwnC D K u F
  hF : W.heap.size ≤ F
theorem cli_keeps {P : Nat → Prop} {W w w' : World} {C M N : Nat} {v : Value} {hs : List Nat} {f : Int → Option ByteArray} (h : CliI W w M C M N v hs f) (hk : Kq.Keeps P w w') (hP : ∀ j, OwnC C M v j → ¬ P j) (hW : ∀ j, P j → W.heap.size ≤ j) : CliI W w' M C M N v hs f :=
  ⟨h.s.keeps hk (hP C (Or.inl rfl)) (hP M (Or.inr (Or.inl rfl))) (fun k hk => hP k (Or.inr (Or.inr hk))), h.bel.trans (hk.below h.bel.size (fun j _ hj => hW j hj)), h.hC, h.hM, h.hbase⟩
theorem cli_up {W w : World} {C M N N' : Nat} {v : Value} {hs : List Nat} {f : Int → Option ByteArray} (h : CliI W w M C M N v hs f) (hN : N ≤ N') : CliI W w M C M N' v hs f :=
  ⟨⟨h.s.blk, h.s.own, h.s.mp.up hN, h.s.ne, h.s.cm, h.s.base, h.s.ok⟩, h.bel, h.hC, h.hM, h.hbase⟩
section
variable {W w w' : World} {C M D K F N : Nat} {v u : Value} {hs ks hs' : List Nat} {f g f' : Int → Option ByteArray} {q : Int → Bool}
theorem Or.below (h : Or W w C M D K F N v hs f u ks g q) (hb : Below w.heap.size w w') : Or W w' C M D K F N v hs f u ks g q := ⟨h.c.below hb, h.d.below hb, h.b.below hb, h.cd, h.cF, h.dF, h.hF⟩
theorem Or.setC (h : Or W w C M D K F N v hs f u ks g q) (hd : SetP w M C M (N + 1) v hs' f' w') : ∃ v', Or W w' C M D K F (N + 1) v' hs' f' u ks g q := by
  obtain ⟨v', h1, h2, h3⟩ := h.c.step hd
  have hfr : ∀ j, OwnC C M v' j → OwnC C M v j ∨ w.heap.size ≤ j := fun j hj => by
    rcases hj with e | e | e
    · exact Or.inl (Or.inl e)
    · exact Or.inl (Or.inr (Or.inl e))
    · exact (h3 j e).imp (fun e => Or.inr (Or.inr e)) id
  refine ⟨v', h1, cli_up (cli_keeps h.d h2 (fun j hj hc => h.cd j hc hj) (fun j hj => h.c.ownge hj)) (Nat.le_succ _), (h.b.keeps h2 h.cF).up (Nat.le_succ _), fun j hj hd' => ?_, fun hj => ?_, h.dF, h.hF⟩
  · rcases hfr j hj with e | e
    · exact h.cd j e hd'
    · have := h.d.s.ownlt hd'; omega
  · rcases hfr F hj with e | e
    · exact h.cF e
    · have := h.b.lt; omega
theorem Or.up (h : Or W w C M D K F N v hs f u ks g q) {N' : Nat} (hN : N ≤ N') : Or W w C M D K F N' v hs f u ks g q := ⟨cli_up h.c hN, cli_up h.d hN, h.b.up hN, h.cd, h.cF, h.dF, h.hF⟩
theorem Or.swap (h : Or W w C M D K F N v hs f u ks g q) : Or W w D K C M F N u ks g v hs f q := ⟨h.d, h.c, h.b, fun j hd hc => h.cd j hc hd, h.dF, h.cF, h.hF⟩
theorem Or.put (h : Or W w C M D K F N v hs f u ks g q) (hN : N < 1000000) (k : Nat) (hk : k < 18446744073709551616) :
    ∃ w', (Instr.mapUpdate 46 (.map (some F)) (.int .u64 (k : Int)) (.bool true)).run Try.prog w = .ok () w' ∧ Or W w' C M D K F (N + 1) v hs f u ks g (fun j => if j = (k : Int) then true else q j) := by
  obtain ⟨w', hrun, hm, hk'⟩ := h.b.put hN k hk
  exact ⟨w', hrun, cli_up (cli_keeps h.c hk' (fun j hj e => h.cF (e ▸ hj)) (fun j e => by have := h.hF; omega)) (Nat.le_succ _), cli_up (cli_keeps h.d hk' (fun j hj e => h.dF (e ▸ hj)) (fun j e => by have := h.hF; omega)) (Nat.le_succ _), hm, h.cd, h.cF, h.dF, h.hF⟩
end
theorem rot_idx {j t n : Nat} (hj : j < n) (ht : t ≤ n) (hn : n ≤ 100) : ∃ m jt : Nat, (jt = j + t ∧ m = jt % n) ∧ m < n ∧ Int.tmod (jt : Int) (n : Int) = (m : Int) ∧ wrap64 ((j : Int) + (t : Int)) = (jt : Int) ∧ IntKind.i64.wrap ((j : Int) + (t : Int)) = (jt : Int) := by
  refine ⟨(j + t) % n, j + t, ⟨rfl, rfl⟩, Nat.mod_lt _ (by omega), ?_, ?_, ?_⟩
  · rw [Int.tmod_eq_emod_of_nonneg (by omega)]; exact (Int.natCast_emod _ _).symm
  · rw [IntWalk.wrap64_in _ (by omega)]; omega
  · rw [IntWalk.i64_in _ (by omega)]; omega
theorem once_succ {l : List (Nat × ByteArray)} {j : Nat} (hj : j < l.length) (h : Once (l.take j)) (hn : ∀ i (hi : i < j), l[i].1 ≠ l[j].1) : Once (l.take (j + 1)) := by
  intro a b ha hb he
  simp only [List.length_take] at ha hb
  simp only [List.getElem_take] at he
  rcases Nat.lt_or_ge a j with h1 | h1
  · rcases Nat.lt_or_ge b j with h2 | h2
    · exact h a b (by simp; omega) (by simp; omega) (by simpa [List.getElem_take] using he)
    · have : b = j := by omega
      subst this
      exact absurd he (hn a h1)
  · have : a = j := by omega
    subst this
    rcases Nat.lt_or_ge b a with h2 | h2
    · exact absurd he.symm (hn b h2)
    · omega
set_option maxRecDepth 100000 in
set_option maxHeartbeats 8000000 in
theorem few_ (A : Option Addr) (cap : Nat) (l : List (Nat × ByteArray)) (t x : Nat) (hx : x < 18446744073709551616) (W : World) (hc : KnAt W A l) (hl : ¬ 100 < l.length) (ht : t ≤ l.length) :
    Calls Try.prog 5 #[.slice A l.length cap, .int .i64 (t : Int), .int .u64 (x : Int)] W fun e w' => e = .returned (.bool true) ∧ Below W.heap.size W w' := by
  have d0 : decide ((100 : Int) < (l.length : Int)) = false := decide_eq_false (by omega)
  have d1 : decide (100 < l.length) = false := decide_eq_false hl
  have d2 : decide ((t : Int) < 0) = false := decide_eq_false (by omega)
  have d3 : decide ((l.length : Int) < (t : Int)) = false := decide_eq_false (by omega)
  have d4 : decide (l.length < t) = false := decide_eq_false (by omega)
  have H := Lib.hid (And.intro hc (And.intro (Nat.not_lt.1 hl) (And.intro hx ht)))
  have hmm := @run_makeMap Try.prog
  clear hc hl hx ht
  go_enter Try.func5, Try.ntmps5
  go_wp2_with fail
  refine (awake _).mono ?_
  rintro e w1 ⟨rfl, b1⟩
  have H1 := Lib.hid b1
  clear b1
  go_wp2_with fail
  refine (cl_new _).mono ?_
  rintro e w2 ⟨rfl, hc, hb⟩
  have I2 := Lib.hid (CliI.made H1.out hc hb)
  clear hc hb
  go_wp2_with fail
  refine (cl_new _).mono ?_
  rintro e w3 ⟨rfl, hc, hb⟩
  have I3 := CliI.made I2.out.bel hc hb
  have K4 : Hid (Or W (w3.alloc (.map #[] 0)) (w1.heap.size + 1) w1.heap.size (w2.heap.size + 1) w2.heap.size w3.heap.size 0 (.slice none 0 0) [] (fun _ => none) (.slice none 0 0) [] (fun _ => none) (fun _ => false)) := Lib.hid (by
    refine ⟨(I2.out.below hb).below (Kq.below_alloc _ _), I3.below (Kq.below_alloc _ _), MapB.made w3, fun j h1 h2 => ?_, fun h1 => ?_, fun h1 => ?_, I3.bel.size⟩
    · have := I2.out.s.ownlt h1
      rcases h2 with e | e | e
      · omega
      · omega
      · cases e
    · have := I2.out.s.ownlt h1
      have := hb.size
      omega
    · have := I3.s.ownlt h1
      omega)
  clear hc hb I3 I2
  go_wp2
  generalize w3.alloc (.map #[] 0) = w4 at *
  generalize w1.heap.size + 1 = C at *
  generalize w1.heap.size = M at *
  generalize w2.heap.size + 1 = D at *
  generalize w2.heap.size = K at *
  generalize w3.heap.size = F at *
  clear d0 d1 d2 d3 d4 hmm
  go_loopw [10] (fun i wr => ∃ j : Nat, ∃ v : Value, ∃ hs : List Nat, ∃ f : Int → Option ByteArray, ∃ q : Int → Bool, j ≤ l.length ∧ i = .int .i64 (j : Int) ∧ hs.length ≤ j ∧ Or W wr C M D K F (2 * j) v hs f (.slice none 0 0) [] (fun _ => none) q ∧ Knows (l.take j) f ∧ Once (l.take j) ∧ ∀ i (hi : i < l.length), q (l[i].1 : Int) = false → ∀ a (ha : a < j), ∀ (ha' : a < l.length), l[a].1 ≠ l[i].1) (fun i _ => l.length - (intOf i).toNat)
  case atStart => exact ⟨0, _, [], _, _, by omega, rfl, Nat.le_refl _, K4.out, by simpa using Knows.nil, (fun a b ha => by simp at ha), fun _ _ _ a ha => by omega⟩
  case round =>
    obtain ⟨j, v, hs, f, q, hj, rfl, hhj, hd, hkn, hon, hq⟩ := hrel
    have HD := Lib.hid (And.intro hd (And.intro hhj (And.intro hkn (And.intro hon hq))))
    clear hd K4 hkn hon hq
    by_cases hlt : j < l.length
    · obtain ⟨g, o, rfl, hg0, q00, q01, hb0, hb1⟩ := H.out.1 j hlt
      have h100 := H.out.2.1
      have HL : Hid (l.take (j + 1) = l.take j ++ [(l[j].1, l[j].2)]) := Lib.hid (List.take_succ_eq_append_getElem hlt)
      have HN : Hid (q (l[j].1 : Int) = false → (∀ i (hi : i < j), l[i].1 ≠ l[j].1)) := Lib.hid (fun hq i hi => HD.out.2.2.2.2 j hlt hq i hi (by omega))
      obtain ⟨y, hy⟩ : ∃ y, y = l[j].1 := ⟨_, rfl⟩
      obtain ⟨s, hs'⟩ : ∃ s, s = l[j].2 := ⟨_, rfl⟩
      rw [← hy] at q00 hb0 HL HN
      rw [← hs'] at q01 hb1 HL
      have HY := Lib.hid hy
      have HB := Lib.hid (And.intro hb0 hb1)
      have KN : Hid (∀ w', Below W.heap.size W w' → w'.cell? ⟨g, o + j * 2, none⟩ = some (.int .u64 (y : Int)) ∧ w'.cell? ⟨g, o + j * 2 + 1, none⟩ = some (.string s)) := Lib.hid (fun w' hb => ⟨(hb.cell (p := ⟨g, o + j * 2, none⟩) hg0).trans q00, (hb.cell (p := ⟨g, o + j * 2 + 1, none⟩) hg0).trans q01⟩)
      clear hy hs' hb0 hb1 q00 q01 hg0
      obtain ⟨q0, q1⟩ := KN.out _ HD.out.1.c.bel
      have hget := HD.out.1.b.get y HB.out.1
      cases hqy : q (y : Int) with
      | true =>
        rw [hqy] at hget
        go_wp2
        go_ret
        exact ⟨rfl, HD.out.1.c.bel⟩
      | false =>
        rw [hqy] at hget
        have hnew := HN.out hqy
        have HW := Lib.hid hnew
        clear hnew hqy
        obtain ⟨w5, hrun, k5⟩ := HD.out.1.put (by omega) y HB.out.1
        have K5 := Lib.hid k5
        clear k5
        go_wp2
        obtain ⟨q0', q1'⟩ := KN.out _ K5.out.c.bel
        clear q0 q1 hget hrun
        go_still_tail 11, (by kernel_rfl)
        change wpList _ _ _ _ _ w5.drew
        have K6 := K5.out.below (Below.refl _ _).drew
        go_wp2_with fail
        refine (cl_set M C M (2 * j + 1) v hs f y HB.out.1 s HB.out.2 _ K6.c.s (by omega) (by omega)).mono ?_
        rintro e w7 ⟨rfl, hd7⟩
        obtain ⟨v7, k7⟩ := K6.setC hd7
        have K7 := Lib.hid k7
        have hl3 : (setF y s hs f).1.length ≤ j + 1 := by
          unfold setF
          split
          · split
            · show hs.length ≤ _; omega
            · show (ins y hs).length ≤ _; rw [ins_length]; omega
          · show hs.length ≤ _; omega
        have HK : Hid (Knows (l.take (j + 1)) (setF y s hs f).2.1) := Lib.hid (by
          rw [HL.out]
          refine HD.out.2.2.1.step y s (fun t hm => ?_)
          obtain ⟨i, hi, he⟩ := List.getElem_of_mem hm
          have hi' : i < j := by simp at hi; omega
          rw [List.getElem_take] at he
          have := HW.out i hi'
          rw [HY.out] at he
          exact HW.out i hi' (by rw [he, HY.out]))
        have HO : Hid (Once (l.take (j + 1))) := Lib.hid (once_succ hlt HD.out.2.2.2.1 (fun i hi => by have := HW.out i hi; rw [HY.out] at this; exact this))
        have HQ : Hid (∀ i (hi : i < l.length), (if (l[i].1 : Int) = (y : Int) then true else q (l[i].1 : Int)) = false → ∀ a (ha : a < j + 1), ∀ (ha' : a < l.length), l[a].1 ≠ l[i].1) := Lib.hid (fun i hi hq a ha ha' => by
          by_cases e : (l[i].1 : Int) = (y : Int)
          · rw [if_pos e] at hq; cases hq
          · rw [if_neg e] at hq
            rcases Nat.lt_or_ge a j with h1 | h1
            · exact HD.out.2.2.2.2 i hi hq a h1 ha'
            · have : a = j := by omega
              subst this
              rw [← HY.out]; omega)
        clear hd7 k7 K6 q0' q1' K5
        go_wp2
        go_roundw
        case rel => exact ⟨j + 1, v7, _, _, _, by omega, by go_num, hl3, K7.out, HK.out, HO.out, HQ.out⟩
        case measure => simp [intOf]; omega
    · obtain rfl : j = l.length := by omega
      have HC : Hid (Knows l f ∧ Once l) := Lib.hid (by have h1 := HD.out.2.2.1; have h2 := HD.out.2.2.2.1; rw [List.take_length] at h1 h2; exact ⟨h1, h2⟩)
      have h100 := H.out.2.1
      have K5 : Hid (Or W wr C M D K F 200 v hs f (.slice none 0 0) [] (fun _ => none) q) := Lib.hid (HD.out.1.up (by omega))
      clear hlt hj HD
      go_wp2
      go_loopw [11] (fun i wr => ∃ j : Nat, ∃ u : Value, ∃ ks : List Nat, ∃ g : Int → Option ByteArray, j ≤ l.length ∧ i = .int .i64 (j : Int) ∧ ks.length ≤ j ∧ ∃ N : Nat, N = 200 + j ∧ Or W wr C M D K F N v hs f u ks g q ∧ Knows (rot l t j) g) (fun i _ => l.length - (intOf i).toNat)
      case atStart => exact ⟨0, _, [], _, by omega, rfl, Nat.le_refl _, 200, rfl, K5.out, Knows.nil⟩
      case round =>
        obtain ⟨j, u, ks, gg, hj, rfl, hkj, N, hN, hd, hkn⟩ := hrel
        have HE := Lib.hid (And.intro hd (And.intro hkj (And.intro hkn hN)))
        clear hd hkn K5 hN
        by_cases hlt : j < l.length
        · obtain ⟨m, jt, hm, hml, hrem, m1, m2⟩ := rot_idx hlt H.out.2.2.2 H.out.2.1
          have HM := Lib.hid hm
          clear hm
          obtain ⟨g, o, rfl, hg0, q00, q01, hb0, hb1⟩ := (H.out.1.later HE.out.1.c.bel) m hml
          have hnz : ¬ l.length = 0 := Nat.ne_of_gt (Nat.lt_of_le_of_lt (Nat.zero_le _) hlt)
          have hnz2 : ((l.length : Int) == 0) = false := beq_eq_false_iff_ne.2 (fun e => hnz (Int.ofNat.inj e))
          have hnz3 : (l.length == 0) = false := beq_eq_false_iff_ne.2 hnz
          have hml2 : (m : Int) < (l.length : Int) := Int.ofNat_lt.2 hml
          have hN : N = 200 + j := HE.out.2.2.2
          have h100' := H.out.2.1
          go_wp2_with fail
          clear hrem m1 m2 hnz2 hnz3 hml2 q00 q01
          have K6 := (HE.out.1.below (Kq.below_alloc wr (.cells #[.int .u64 (l[m].1 : Int), .string l[m].2] 33))).swap
          refine (cl_set K D K N u ks gg l[m].1 hb0 l[m].2 hb1 _ K6.c.s (by omega) (by omega)).mono ?_
          rintro e w7 ⟨rfl, hd7⟩
          obtain ⟨u7, k7⟩ := K6.setC hd7
          have K7 := Lib.hid k7.swap
          have hl3 : (setF l[m].1 l[m].2 ks gg).1.length ≤ j + 1 := by
            unfold setF
            split
            · split
              · show ks.length ≤ _; omega
              · show (ins l[m].1 ks).length ≤ _; rw [ins_length]; omega
            · show ks.length ≤ _; omega
          have HKn : Hid (Knows (rot l t (j + 1)) (setF l[m].1 l[m].2 ks gg).2.1) := Lib.hid (by
            have em : (j + t) % l.length = m := by rw [HM.out.2, HM.out.1]
            have hnew : ∀ t', (l[m].1, t') ∉ rot l t j := fun t' hmm => by
              have := rot_new HC.out.2 t j hlt t'
              simp only [em] at this
              exact this hmm
            have hst := Knows.step (hs := ks) HE.out.2.2.1 l[m].1 l[m].2 hnew
            rw [rot_succ l t j (Nat.lt_of_le_of_lt (Nat.zero_le _) hlt)]
            simp only [em]
            exact hst)
          clear hd7 k7 K6 hb0 hb1
          go_wp2
          go_roundw
          case rel => first | exact ⟨j + 1, u7, _, _, by omega, by go_num, hl3, N + 1, by omega, K7.out, HKn.out⟩ | ((repeat apply Exists.intro); exact ⟨⟨j + 1, u7, _, _, by omega, by go_num, hl3, N + 1, by omega, K7.out, HKn.out⟩, rfl⟩)
          case measure => simp [intOf]; omega
        · have hjl : j = l.length := by omega
          have hkn := HE.out.2.2.1
          rw [hjl] at hkn
          obtain ⟨hhk, hfg⟩ := Knows.same HC.out.1 hkn (rot_mem l t) HE.out.1.c.s.ok HE.out.1.d.s.ok
          subst hhk
          have HFG := Lib.hid hfg
          have hs100 : hs.length ≤ 100 := by have := H.out.2.1; omega
          clear hkn hfg hlt
          have K5 := Lib.hid HE.out.1
          clear HE
          obtain ⟨y, ok, hF⟩ : ∃ y ok, fromF x hs = (y, ok) := ⟨_, _, rfl⟩
          go_wp2_with fail
          have hfr := cl_from M C M N v hs f x _ K5.out.c.s (by omega)
          rw [hF] at hfr
          refine hfr.mono ?_
          clear hfr
          rintro e w8 ⟨rfl, b8⟩
          have K8 := Lib.hid (K5.out.below b8)
          clear b8 K5
          go_wp2_with fail
          have hfr := cl_from K D K N u hs gg x _ K8.out.d.s (by omega)
          rw [hF] at hfr
          refine hfr.mono ?_
          clear hfr hF
          rintro e w9 ⟨rfl, b9⟩
          have K9 := Lib.hid (K8.out.below b9)
          clear b9 K8
          have hr1 := cl_root M C M N v hs f x H.out.2.2.1 _ K9.out.c.s
          have hr2 := cl_root K D K N u hs gg x H.out.2.2.1 _ K9.out.d.s
          rw [← HFG.out x] at hr2
          generalize (f (x : Int)).getD ⟨#[]⟩ = r at *
          generalize (f (x : Int)).isSome = rq at *
          have HR2 := Lib.hid hr2
          clear hr2
          go_wp2_with fail
          refine hr1.mono ?_
          clear hr1
          rintro e w10 ⟨rfl, rfl⟩
          go_wp2_with fail
          refine HR2.out.mono ?_
          clear HR2
          rintro e w10 ⟨rfl, rfl⟩
          go_wp2_with fail
          refine (cl_heights M C M N v hs f _ K9.out.c.s (by omega)).mono ?_
          rintro e w11 ⟨v11, rfl, hown, b11⟩
          have K11 := Lib.hid (And.intro (K9.out.below b11) hown)
          clear b11 hown K9
          obtain ⟨A11, cap11, rfl, -, hat⟩ := row_at K11.out.2
          have HAT := Lib.hid hat
          clear hat
          go_wp2_with fail
          refine (cl_heights K D K N u hs gg _ K11.out.1.d.s (by omega)).mono ?_
          rintro e w12 ⟨v12, rfl, hown, b12⟩
          have K12 := Lib.hid (And.intro (K11.out.1.below b12) hown)
          have HAT2 : Hid (∀ j (hj : j < hs.length), ∃ g, A11 = some ⟨g, 0, none⟩ ∧ w12.cell? ⟨g, j, none⟩ = some (.int .u64 (hs[j] : Int))) := Lib.hid (fun j hj => by
            obtain ⟨g, e, hg, hc⟩ := HAT.out j hj
            exact ⟨g, e, (b12.cell (p := ⟨g, j, none⟩) hg).trans hc⟩)
          clear b12 hown K11 HAT
          obtain ⟨A12, cap12, rfl, -, hat⟩ := row_at K12.out.2
          have HAT3 : Hid (∀ j (hj : j < hs.length), ∃ g, A12 = some ⟨g, 0, none⟩ ∧ w12.cell? ⟨g, j, none⟩ = some (.int .u64 (hs[j] : Int))) := Lib.hid (fun j hj => by
            obtain ⟨g, e, hg, hc⟩ := hat j hj
            exact ⟨g, e, hc⟩)
          clear hat
          go_wp2_with fail
          refine (num_same hs A11 A12 cap11 cap12 _ (by omega) HAT2.out HAT3.out).mono ?_
          rintro e w13 ⟨rfl, r13, rfl⟩
          have K13 := Lib.hid (K12.out.1.below (below_drewN (Below.refl _ _) r13))
          clear K12 HAT2 HAT3
          generalize w12.drewN r13 = w13 at *
          go_wp2_with fail
          refine (cl_latest M C M N v hs f _ K13.out.c.s (by omega)).mono ?_
          rintro e w14 ⟨rfl, b14⟩
          have K14 := Lib.hid (K13.out.below b14)
          clear b14 K13
          go_wp2_with fail
          refine (cl_latest K D K N u hs gg _ K14.out.d.s (by omega)).mono ?_
          rintro e w15 ⟨rfl, b15⟩
          have K15 := Lib.hid (K14.out.below b15)
          clear b15 K14
          go_wp2
          go_ret
          exact ⟨by simp, K15.out.c.bel⟩
end Go.Proofs.Ytdonoilcegaleaa.clientOrder
namespace Go.Proofs.Ytdonoilcegaleaa
open Go.RowKit
theorem clientOrder_walk (v : Value) (t x : Int) {W : World} (h0 : ∃ A cap l, v = .slice A l.length cap ∧ l.length ≤ maxLen ∧ KnAt W A l) (_ : (Lit.int .i64 t).wf = true) (wx : (Lit.int .u64 x).wf = true) :
    Calls Try.prog 5 #[v, .int .i64 t, .int .u64 x] W fun e w' => e = .returned (.bool true) ∧ Below W.heap.size W w' := by
  obtain ⟨A, cap, l, rfl, _, hc⟩ := h0
  have w0 : 0 ≤ x ∧ x < 18446744073709551616 := by simp [Lit.wf, IntKind.min, IntKind.max, IntKind.signed, IntKind.bits] at wx; omega
  obtain ⟨m, rfl⟩ := Int.eq_ofNat_of_zero_le w0.1
  by_cases hl : 100 < l.length ∨ t < 0 ∨ (l.length : Int) < t
  · exact clientOrder.out_ A cap l t _ W hl
  · obtain ⟨n, rfl⟩ := Int.eq_ofNat_of_zero_le (show 0 ≤ t by omega)
    exact clientOrder.few_ A cap l n m (by omega) W hc (by omega) (by omega)
end Go.Proofs.Ytdonoilcegaleaa
