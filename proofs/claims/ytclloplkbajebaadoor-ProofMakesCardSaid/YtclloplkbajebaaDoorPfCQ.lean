/- Contracts of proof.isKey, outside, between, climb. Condition: sizes; the constants lie where they lie. -/
import Derived.WalkSpells
import Derived.Outline
import Derived.Test.YtclloplkbajebaaDoorPfByQ
namespace Go.Proofs.YtclloplkbajebaaDoor
open Go.RowKit
set_option linter.unusedVariables false
set_option maxRecDepth 100000 in
set_option maxHeartbeats 1000000 in
theorem pf_isKey (key : ByteArray) (w : World) :
    Calls Tryd.prog 51 #[.string key] w fun x w' => x = .returned (.bool (isKeyB key)) ∧ w = w' := by
  by_cases h0 : key.size = 0
  · have HE : Hid (isKeyB key = false) := Lib.hid (decide_eq_false (by omega))
    obtain rfl : key = ⟨#[]⟩ := by
      apply nl_inj
      rw [List.eq_nil_of_length_eq_zero (show (nl key).length = 0 by rw [nl_length]; exact h0)]; rfl
    clear h0
    go_enter Tryd.func51, Tryd.ntmps51
    go_wp2
    go_ret
    exact ⟨by rw [HE.out]; rfl, rfl⟩
  · have hk := nonempty_of h0
    by_cases h1 : key.size ≤ 16
    · have HE : Hid (isKeyB key = true) := Lib.hid (decide_eq_true (by omega))
      have d1 : decide ((key.size : Int) ≤ 16) = true := decide_eq_true (by omega)
      have d2 : decide (key.size ≤ 16) = true := decide_eq_true h1
      clear h0 h1
      go_enter Tryd.func51, Tryd.ntmps51
      go_wp2
      go_ret
      exact ⟨by rw [HE.out]; rfl, rfl⟩
    · have HE : Hid (isKeyB key = false) := Lib.hid (decide_eq_false (by omega))
      have d1 : decide ((key.size : Int) ≤ 16) = false := decide_eq_false (by omega)
      have d2 : decide (key.size ≤ 16) = false := decide_eq_false h1
      clear h0 h1
      go_enter Tryd.func51, Tryd.ntmps51
      go_wp2
      go_ret
      exact ⟨by rw [HE.out]; rfl, rfl⟩
/-- numbers of a leaf that may be in a proof -/
def LfInt (x : LfV) : Prop := 0 ≤ x.i ∧ x.i ≤ 4096 ∧ 0 ≤ x.c ∧ x.c ≤ 4096
theorem LfMay.int {x : LfV} (h : LfMay x) : LfInt x := ⟨h.i0, h.i1, h.c0, h.c1⟩
set_option maxRecDepth 100000 in
set_option maxHeartbeats 1000000 in
theorem pf_outside (key : ByteArray) (x : LfW) (w : World) (hx : LfInt x.l) :
    Calls Tryd.prog 54 #[.string key, x.val] w fun y w' => y = .returned (.bool (outB key x.l)) ∧ Below w.heap.size w w' := by
  obtain ⟨⟨i, c, k, v, p⟩, a, cp⟩ := x
  obtain ⟨h0, h1, h2, h3⟩ := hx
  simp only at h0 h1 h2 h3
  unfold LfW.val
  simp only
  have HB := Lib.hid (Kq.below_alloc w (.cells #[.int .i64 i, .int .i64 c, .string k, .string v, .slice a p.length cp] 30))
  have hw : IntKind.i64.wrap (c - 1) = c - 1 := IntWalk.i64_in _ (by omega)
  by_cases t1 : Op.bytesLess key.toList k.toList = true
  · have t2 : Op.bytesLess k.toList key.toList = false := lt_asym t1
    by_cases t3 : i = 0
    · have HE : Hid (outB key ⟨i, c, k, v, p⟩ = true) := Lib.hid (by unfold outB ltT; simp [t1, t3])
      subst t3
      clear h0 h1 h2 h3 hw
      go_enter Tryd.func54, Tryd.ntmps54
      go_wp2
      go_ret
      exact ⟨by rw [HE.out]; rfl, HB.out⟩
    · have HE : Hid (outB key ⟨i, c, k, v, p⟩ = false) := Lib.hid (by unfold outB ltT; simp [t1, t2, t3])
      have e1 : (i == 0) = false := by rw [beq_eq_false_iff_ne]; exact t3
      clear h0 h1 h2 h3 hw t3
      go_enter Tryd.func54, Tryd.ntmps54
      go_wp2
      go_ret
      exact ⟨by rw [HE.out]; rfl, HB.out⟩
  · have t1' : Op.bytesLess key.toList k.toList = false := by simpa using t1
    clear t1
    by_cases t2 : Op.bytesLess k.toList key.toList = true
    · by_cases t3 : i = c - 1
      · have HE : Hid (outB key ⟨i, c, k, v, p⟩ = true) := Lib.hid (by unfold outB ltT; simp [t2, t3])
        have e1 : (i == c - 1) = true := by rw [beq_iff_eq]; exact t3
        clear h0 h1 t3
        go_enter Tryd.func54, Tryd.ntmps54
        go_wp2
        go_ret
        exact ⟨by rw [HE.out]; rfl, HB.out⟩
      · have HE : Hid (outB key ⟨i, c, k, v, p⟩ = false) := Lib.hid (by unfold outB ltT; simp [t1', t3])
        have e1 : (i == c - 1) = false := by rw [beq_eq_false_iff_ne]; exact t3
        clear h0 h1 t3
        go_enter Tryd.func54, Tryd.ntmps54
        go_wp2
        go_ret
        exact ⟨by rw [HE.out]; rfl, HB.out⟩
    · have t2' : Op.bytesLess k.toList key.toList = false := by simpa using t2
      have HE : Hid (outB key ⟨i, c, k, v, p⟩ = false) := Lib.hid (by unfold outB ltT; simp [t1', t2'])
      clear t2 h0 h1 h2 h3 hw
      go_enter Tryd.func54, Tryd.ntmps54
      go_wp2
      go_ret
      exact ⟨by rw [HE.out]; rfl, HB.out⟩
set_option maxRecDepth 100000 in
set_option maxHeartbeats 1000000 in
theorem pf_between (key : ByteArray) (x y : LfW) (w : World) (hx : LfInt x.l) (hy : LfInt y.l) :
    Calls Tryd.prog 55 #[.string key, x.val, y.val] w fun r w' => r = .returned (.bool (betB key x.l y.l)) ∧ Below w.heap.size w w' := by
  obtain ⟨⟨i, c, k, v, p⟩, a, cp⟩ := x
  obtain ⟨⟨i2, c2, k2, v2, p2⟩, a2, cp2⟩ := y
  obtain ⟨h0, h1, h2, h3⟩ := hx
  simp only at h0 h1 h2 h3
  unfold LfW.val
  simp only
  have HB := Lib.hid ((Kq.below_alloc w (.cells #[.int .i64 i, .int .i64 c, .string k, .string v, .slice a p.length cp] 30)).trans ((Kq.below_alloc (w.alloc (.cells #[.int .i64 i, .int .i64 c, .string k, .string v, .slice a p.length cp] 30)) (.cells #[.int .i64 i2, .int .i64 c2, .string k2, .string v2, .slice a2 p2.length cp2] 30)).mono (by simp)))
  have hw : IntKind.i64.wrap (i + 1) = i + 1 := IntWalk.i64_in _ (by omega)
  by_cases t1 : c = c2
  · subst t1
    by_cases t2 : i + 1 = i2
    · subst t2
      by_cases t3 : Op.bytesLess k.toList key.toList = true
      · by_cases t4 : Op.bytesLess key.toList k2.toList = true
        · have HE : Hid (betB key ⟨i, c, k, v, p⟩ ⟨i + 1, c, k2, v2, p2⟩ = true) := Lib.hid (by unfold betB ltT; simp [t3, t4])
          have e1 : (c != c) = false := by simp
          have e2 : (i + 1 != i + 1) = false := by simp
          clear h2 h3
          go_enter Tryd.func55, Tryd.ntmps55
          go_wp2
          go_ret
          exact ⟨by rw [HE.out]; rfl, HB.out⟩
        · have t4' : Op.bytesLess key.toList k2.toList = false := by simpa using t4
          have HE : Hid (betB key ⟨i, c, k, v, p⟩ ⟨i + 1, c, k2, v2, p2⟩ = false) := Lib.hid (by unfold betB ltT; simp [t4'])
          have e1 : (c != c) = false := by simp
          have e2 : (i + 1 != i + 1) = false := by simp
          clear t4 h2 h3
          go_enter Tryd.func55, Tryd.ntmps55
          go_wp2
          go_ret
          exact ⟨by rw [HE.out]; rfl, HB.out⟩
      · have t3' : Op.bytesLess k.toList key.toList = false := by simpa using t3
        have HE : Hid (betB key ⟨i, c, k, v, p⟩ ⟨i + 1, c, k2, v2, p2⟩ = false) := Lib.hid (by unfold betB ltT; simp [t3'])
        have e1 : (c != c) = false := by simp
        have e2 : (i + 1 != i + 1) = false := by simp
        clear t3 h2 h3
        go_enter Tryd.func55, Tryd.ntmps55
        go_wp2
        go_ret
        exact ⟨by rw [HE.out]; rfl, HB.out⟩
    · have HE : Hid (betB key ⟨i, c, k, v, p⟩ ⟨i2, c, k2, v2, p2⟩ = false) := Lib.hid (by unfold betB; simp [t2])
      have e1 : (c != c) = false := by simp
      have e2 : (i + 1 != i2) = true := by rw [bne_iff_ne]; exact t2
      clear h2 h3 t2
      go_enter Tryd.func55, Tryd.ntmps55
      go_wp2
      go_ret
      exact ⟨by rw [HE.out]; rfl, HB.out⟩
  · have HE : Hid (betB key ⟨i, c, k, v, p⟩ ⟨i2, c2, k2, v2, p2⟩ = false) := Lib.hid (by unfold betB; simp [t1])
    have e1 : (c != c2) = true := by rw [bne_iff_ne]; exact t1
    clear h0 h1 h2 h3 t1 hw
    go_enter Tryd.func55, Tryd.ntmps55
    go_wp2
    go_ret
    exact ⟨by rw [HE.out]; rfl, HB.out⟩
theorem clB_no {root : ByteArray} {ls : List LfV} {L : LfV} (hL : L ∈ ls) (h : lfClimb L ≠ (root, true)) : clB root ls = false := by
  unfold clB
  rw [List.all_eq_false]
  exact ⟨L, hL, by simpa using h⟩
theorem clB_yes {root : ByteArray} {ls : List LfV} (h : ∀ L ∈ ls, lfClimb L = (root, true)) : clB root ls = true := List.all_eq_true.2 (fun L hL => decide_eq_true (h L hL))
set_option maxRecDepth 100000 in
set_option maxHeartbeats 2000000 in
theorem pf_climb (root : ByteArray) (S : Nat → Prop) (A : Option Addr) (cap : Nat) (ls : List LfW) (w : World) (hA : LfsN w S A ls) (hL : LaidOk w) (hn : ls.length ≤ 1000) (hm : ∀ x ∈ ls, LfMay x.l) :
    Calls Tryd.prog 52 #[.string root, .slice A ls.length cap] w fun x w' => x = .returned (.bool (clB root (vals ls))) ∧ Below w.heap.size w w' := by
  have HA := Lib.hid (And.intro hA (And.intro hL hm))
  have HN := Lib.hid hn
  clear hA hL hm
  go_enter Tryd.func52, Tryd.ntmps52
  go_wp2
  go_loopw [11] (fun i wr => ∃ j : Nat, j ≤ ls.length ∧ i = .int .i64 (j : Int) ∧ (∀ q (hq : q < ls.length), q < j → lfClimb ls[q].l = (root, true)) ∧ Below w.heap.size w wr) (fun i _ => ls.length - (intOf i).toNat)
  case atStart => exact ⟨0, by omega, rfl, fun i _ hi => absurd hi (Nat.not_lt_zero _), Below.refl _ _⟩
  case round =>
    obtain ⟨j, hj, rfl, hup, hbl⟩ := hrel
    have HUP := Lib.hid (And.intro hup hbl)
    have hn' := HN.out
    by_cases hlt : j < ls.length
    · obtain ⟨b, off, rfl, -, hb, hc, ht, hcp⟩ := (HA.out.1.below hbl) j hlt
      have hmay : LfMay ls[j].l := HA.out.2.2 _ (List.getElem_mem _)
      have HNO : Hid (lfClimb ls[j].l ≠ (root, true) → clB root (vals ls) = false) := Lib.hid (fun h => clB_no (vals_mem hlt) h)
      obtain ⟨x, hx⟩ : ∃ x, x = ls[j] := ⟨_, rfl⟩
      rw [← hx] at hc ht hcp hmay HNO
      have HX := Lib.hid hx
      have HLT := Lib.hid hlt
      have hi0 : (j : Int) < (ls.length : Int) := by omega
      clear hup hbl hb hx
      obtain ⟨⟨i, c, k, v, p⟩, a, cp⟩ := x
      obtain ⟨c0, c1, c2, c3, c4⟩ := hc
      simp only at c0 c1 c2 c3 c4 ht hcp hmay HNO HX
      have hb1 := Kq.below_alloc wr (.cells #[.int .i64 i, .int .i64 c, .string k, .string v, .slice a p.length cp] 30)
      have HCL := Lib.hid (mk_climb i c (k, v) p a cp _ (ht.below hb1).parts (by have := hmay.n; simp only at this; omega) (by have := hmay.k; have := hmay.v; simp only at *; omega) hcp ((HA.out.2.1.later HUP.out.2).later hb1))
      have HB1 : Hid (Below w.heap.size w (wr.alloc (.cells #[.int .i64 i, .int .i64 c, .string k, .string v, .slice a p.length cp] 30))) := Lib.hid (HUP.out.2.trans (hb1.mono HUP.out.2.size))
      obtain ⟨r, hr⟩ : ∃ r, r = climbV i c (k, v) p := ⟨_, rfl⟩
      have HR : Hid (lfClimb ⟨i, c, k, v, p⟩ = r) := Lib.hid hr.symm
      rw [← hr] at HCL
      obtain ⟨d, ok⟩ := r
      clear ht hcp hmay hb1 hr
      simp only at HCL
      go_wp2_with fail
      refine HCL.out.mono ?_
      rintro x w3 ⟨rfl, b3⟩
      have HB3 : Hid (Below w.heap.size w w3) := Lib.hid (HB1.out.trans (b3.mono HB1.out.size))
      clear b3 HB1 HCL c0 c1 c2 c3 c4
      cases ok with
      | false =>
        have HE : Hid (clB root (vals ls) = false) := Lib.hid (HNO.out (fun h => by rw [HR.out] at h; cases h))
        go_wp2
        go_ret
        exact ⟨by rw [HE.out]; rfl, HB3.out⟩
      | true =>
        by_cases he : d = root
        · subst he
          have e1 : (d.toList != d.toList) = false := by simp
          go_wp2
          go_roundw
          case rel =>
            refine ⟨j + 1, HLT.out, by go_num, fun q hq h => ?_, HB3.out⟩
            rcases Nat.lt_or_ge q j with h' | h'
            · exact HUP.out.1 q hq h'
            · obtain rfl : q = j := by omega
              rw [← HX.out]; exact HR.out
          case measure => have := HLT.out; simp [intOf]; omega
        · have HE : Hid (clB root (vals ls) = false) := Lib.hid (HNO.out (fun h => by rw [HR.out] at h; injection h with h; exact he h))
          have e1 : (d.toList != root.toList) = true := by rw [bne_iff_ne]; exact fun h => he (toList_inj h)
          have e2 : (d.toList == root.toList) = false := by rw [beq_eq_false_iff_ne]; exact fun h => he (toList_inj h)
          clear he
          go_wp2
          go_ret
          exact ⟨by rw [HE.out]; rfl, HB3.out⟩
    · obtain rfl : j = ls.length := by omega
      have HE : Hid (clB root (vals ls) = true) := Lib.hid (clB_yes (fun L hL => by
        obtain ⟨x, hx, rfl⟩ := List.mem_map.1 hL
        obtain ⟨q, hq, rfl⟩ := List.getElem_of_mem hx
        exact HUP.out.1 q hq hq))
      clear hup
      go_wp2
      go_ret
      exact ⟨by rw [HE.out]; rfl, hbl⟩
end Go.Proofs.YtclloplkbajebaaDoor
