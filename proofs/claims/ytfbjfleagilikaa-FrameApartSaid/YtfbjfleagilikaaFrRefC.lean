/- Contracts of carrackref05.record, Scan, Texts. Condition: sizes. -/
import Derived.WalkSpells
import Derived.Deep.LoopGhost
import Derived.Deep.QuietTactic
import Derived.BigQuiet
import Derived.Test.YtfbjfleagilikaaFrRefB
import Derived.Test.YtfbjfleagilikaaFrScan
namespace Go.Proofs.Ytfbjfleagilikaa
open Go.RowKit
set_option linter.unusedVariables false
set_option linter.unusedSimpArgs false
theorem rf_read (a : Int) (s : ByteArray) (w : World) :
    Calls Try.prog 38 #[.int .i64 a, .string s] w fun e w' => e = .returned (readVal (frRead a s)) ∧ Below w.heap.size w w' := by
  by_cases h : FrSz a
  · by_cases hs : (s.size : Int) = a
    · subst hs
      cases hr : rightB s with
      | true => exact rf_read_in s.size s w h rfl hr
      | false =>
        have e : frRead (s.size : Int) s = (none, 8) := by unfold frRead; rw [if_neg (not_not_intro h), if_neg (by simp), if_pos hr]
        rw [e]
        exact rf_read_8 s.size s w h rfl hr
    · have e : frRead a s = (none, 6) := by unfold frRead; rw [if_neg (not_not_intro h), if_pos hs]
      rw [e]
      exact rf_read_6 a s w h hs
  · have e : frRead a s = (none, 1) := by unfold frRead; rw [if_pos h]
    rw [e]
    exact rf_read_1 a s w h
theorem txt_joinD (a : Nat) (s : ByteArray) (u i : Nat) (d : ByteArray) (h : joinD a s u (i + 1) = joinD a s u i ++ nl d) : txt (joinD a s u i) ++ d = txt (joinD a s u (i + 1)) := by
  apply nl_inj
  rw [nl_append, nl_txt _ (joinD_lt a s u i), nl_txt _ (joinD_lt a s u (i + 1)), h]
def recF (a g x : Nat) (s : ByteArray) (u : Nat) : ByteArray × Nat := if recOk a g x s u then (txt (joinD a s u (numAt a s u)), numAt a s u) else (⟨#[]⟩, 0)
set_option maxRecDepth 100000 in
set_option maxHeartbeats 4000000 in
theorem rf_record (a g x : Nat) (s : ByteArray) (w : World) (ha : 64 ≤ a) (h5 : a ≤ 512) (hs : s.size ≤ 30000) (hg : g < M64) (hx : x < M64) :
    Calls Try.prog 23 #[.int .i64 (a : Int), .int .u64 (g : Int), .int .u64 (x : Int), .string s] w fun e w' => e = .returned (.tuple #[.string (recF a g x s 0).1, .int .i64 ((recF a g x s 0).2 : Int)]) ∧ Below w.heap.size w w' := by
  have HA := Lib.hid (And.intro ha (And.intro h5 hs))
  have HNO : Hid (¬ recOk a g x s 0 → recF a g x s 0 = (⟨#[]⟩, 0)) := Lib.hid (fun h => if_neg h)
  have HYES : Hid (recOk a g x s 0 → recF a g x s 0 = (txt (joinD a s 0 (numAt a s 0)), numAt a s 0)) := Lib.hid (fun h => if_pos h)
  have ha1 : 64 ≤ (a : Int) := by omega
  have ha2 : (a : Int) ≤ 512 := by omega
  clear ha h5 hs hg hx
  go_enter Try.func23, Try.ntmps23
  go_wp2
  go_loopg [10, 11, 12] 256 (fun gi t m j wr => ∃ (i n : Nat), i + gi = 256 ∧ t = .string (txt (joinD a s 0 i)) ∧ m = .int .i64 (n : Int) ∧ j = .int .i64 (i : Int) ∧ PI a g x s 0 i n ∧ Below w.heap.size w wr)
  case atStart => exact ⟨0, 1, by omega, rfl, rfl, rfl, PI.start _ _ _ _ _, Below.refl _ _⟩
  case round =>
    obtain ⟨i, n, hgi, rfl, rfl, rfl, hPI, hbel⟩ := hrel
    have HP := Lib.hid hPI
    have H0 := Lib.hid hbel
    have HGI := Lib.hid hgi
    clear hPI hbel hgi
    by_cases hin : i < n
    · have d0 : decide ((i : Int) < (n : Int)) = true := decide_eq_true (by omega)
      have d1 : decide (i < n) = true := decide_eq_true hin
      have HIN := Lib.hid hin
      have hik : i ≤ 106 := by have := HP.out.max; omega
      obtain ⟨i2, hi2⟩ : ∃ z, z = i + 1 := ⟨_, rfl⟩
      have hi3 : (i : Int) + 1 = (i2 : Int) := by omega
      have hm1 : (i : Int) * (a : Int) = ((i * a : Nat) : Int) := by rw [Int.natCast_mul]
      have hm2 : (i2 : Int) * (a : Int) = ((i2 * a : Nat) : Int) := by rw [Int.natCast_mul]
      have hm3 : i2 * a = i * a + a := by rw [hi2, Nat.add_mul, Nat.one_mul]
      have hm4 : i2 * a ≤ 107 * 512 := Nat.mul_le_mul (by omega) HA.out.2.1
      have HPA : Hid (partAt a s (0 + i) = if i2 * a ≤ s.size then (frRead a (s.extract (i * a) (i2 * a))).1 else none) := Lib.hid (by unfold partAt; rw [Nat.zero_add, hm3])
      have hi4 : i2 ≤ 107 := by omega
      have HI2 := Lib.hid hi2
      clear hin hi2
      generalize i2 * a = f2 at *
      generalize i * a = f at *
      have hff : (f : Int) ≤ (f2 : Int) := by omega
      clear hm3
      by_cases hfs : f2 ≤ s.size
      · have d2 : decide ((s.size : Int) < (f2 : Int)) = false := decide_eq_false (by omega)
        have d2' : decide (s.size < f2) = false := decide_eq_false (by omega)
        have hfs2 : (f2 : Int) ≤ (s.size : Int) := by omega
        have HPA : Hid (partAt a s (0 + i) = (frRead a (s.extract f f2)).1) := Lib.hid (by rw [HPA.out, if_pos hfs])
        clear hfs
        go_wp2_with fail
        refine (rf_read (a : Int) (s.extract f f2) _).mono ?_
        rintro e w2 ⟨rfl, b2⟩
        obtain ⟨r, hr⟩ : ∃ r, r = frRead (a : Int) (s.extract f f2) := ⟨_, rfl⟩
        have HSO := Lib.hid (read_isSome (a : Int) (s.extract f f2))
        rw [← hr] at HPA HSO ⊢
        clear hr
        obtain ⟨o, er⟩ := r
        simp only at HPA HSO
        simp only [readVal]
        generalize hp : partOf o = p at *
        have HPP := Lib.hid hp
        clear hp
        obtain ⟨pg, px, pi, pn, pd⟩ := p
        simp only [FrP.val]
        have H2 := Lib.hid (H0.out.trans (b2.mono H0.out.size))
        have HB := Lib.hid (Kq.blk_new w2 #[.int .u64 (pg : Int), .int .u64 (px : Int), .int .i64 (pi : Int), .int .i64 (pn : Int), .string pd] 73 (0, 0))
        have H3 := Lib.hid (H2.out.trans ((Kq.below_alloc w2 (.cells #[.int .u64 (pg : Int), .int .u64 (px : Int), .int .i64 (pi : Int), .int .i64 (pn : Int), .string pd] 73)).mono H2.out.size))
        clear b2 H0
        have c0 := Kq.blk_cell HB.out 0
        have c1 := Kq.blk_cell HB.out 1
        have c2 := Kq.blk_cell HB.out 2
        have c3 := Kq.blk_cell HB.out 3
        have c4 := Kq.blk_cell HB.out 4
        obtain ⟨n', hn'⟩ : ∃ z, z = if i = 0 then pn else n := ⟨_, rfl⟩
        have HN : Hid (n' = if i = 0 then (partOf (partAt a s (0 + i))).n else n) := Lib.hid (by rw [HPA.out, HPP.out]; exact hn')
        cases o with
        | none =>
          have t0 : (er != 0) = true := by have := HSO.out; simp only [Option.isSome] at this; rw [bne, this]; rfl
          clear hn'
          have HRF : Hid (recF a g x s 0 = (⟨#[]⟩, 0)) := Lib.hid (HNO.out (HP.out.break_ HN.out HIN.out (fun d e => by rw [HPA.out] at e; cases e)))
          go_wp2
          go_ret2
          exact ⟨by rw [HRF.out]; rfl, H3.out⟩
        | some q =>
          obtain rfl : q = ⟨pg, px, pi, pn, pd⟩ := HPP.out
          obtain rfl : er = 0 := by have := HSO.out; simp only [Option.isSome] at this; exact eq_of_beq this
          by_cases q0 : g = pg
          rotate_left
          · have r0 : ((pg : Int) != ((g : Nat) : Int)) = true := by simp; omega
            have s0 : (pg != g) = true := by simp; omega
            have HQ := Lib.hid q0
            clear q0 hn'
            have HRF : Hid (recF a g x s 0 = (⟨#[]⟩, 0)) := Lib.hid (HNO.out (HP.out.break_ HN.out HIN.out (fun d e => by rw [HPA.out] at e; cases e; exact HQ.out rfl)))
            go_wp2
            go_ret2
            exact ⟨by rw [HRF.out]; rfl, H3.out⟩
          subst q0
          by_cases q1 : x = px
          rotate_left
          · have r1 : ((px : Int) != ((x : Nat) : Int)) = true := by simp; omega
            have s1 : (px != x) = true := by simp; omega
            have HQ := Lib.hid q1
            clear q1 hn'
            have HRF : Hid (recF a g x s 0 = (⟨#[]⟩, 0)) := Lib.hid (HNO.out (HP.out.break_ HN.out HIN.out (fun d e => by rw [HPA.out] at e; cases e; exact HQ.out rfl)))
            go_wp2
            go_ret2
            exact ⟨by rw [HRF.out]; rfl, H3.out⟩
          subst q1
          by_cases q2 : i = pi
          rotate_left
          · have r2 : ((pi : Int) != ((i : Nat) : Int)) = true := by simp; omega
            have s2 : (pi != i) = true := by simp; omega
            have HQ := Lib.hid q2
            clear q2 hn'
            have HRF : Hid (recF a g x s 0 = (⟨#[]⟩, 0)) := Lib.hid (HNO.out (HP.out.break_ HN.out HIN.out (fun d e => by rw [HPA.out] at e; cases e; exact HQ.out rfl)))
            go_wp2
            go_ret2
            exact ⟨by rw [HRF.out]; rfl, H3.out⟩
          subst q2
          by_cases h0 : 0 < i
          · have t5 : decide ((0 : Int) < (i : Int)) = true := decide_eq_true (by omega)
            have t5' : decide (0 < i) = true := decide_eq_true h0
            obtain rfl : n' = n := by rw [hn', if_neg (by omega)]
            clear h0 hn'
            by_cases q3 : n' = pn
            rotate_left
            · have r3 : ((pn : Int) != (n' : Int)) = true := by simp; omega
              have s3 : (pn != n') = true := by simp; omega
              have HQ := Lib.hid q3
              clear q3
              have HRF : Hid (recF a g x s 0 = (⟨#[]⟩, 0)) := Lib.hid (HNO.out (HP.out.break_ HN.out HIN.out (fun d e => by rw [HPA.out] at e; cases e; exact HQ.out rfl)))
              go_wp2
              go_ret2
              exact ⟨by rw [HRF.out]; rfl, H3.out⟩
            subst q3
            have HNX2 := Lib.hid (HP.out.next HA.out.1 HN.out HIN.out (d := pd) HPA.out)
            have HTX := Lib.hid (txt_joinD a s 0 i pd HNX2.out.2.1)
            rw [← HI2.out] at HNX2 HTX
            have hz1 : (txt (joinD a s 0 i)).size ≤ 106 * 512 := by rw [txt_size]; have := HP.out.len; omega
            have hz2 : pd.size ≤ 512 := HNX2.out.2.2.1
            have hz3 : ¬ 9223372036854775807 < (txt (joinD a s 0 i)).size + pd.size := by omega
            have htj := HTX.out
            generalize txt (joinD a s 0 i) = tj at *
            generalize htj2 : txt (joinD a s 0 i2) = tj2 at *
            have HT2 := Lib.hid htj2
            clear htj2
            go_wp2
            go_roundg (255 - i)
            case measure => have := HGI.out; omega
            case rel => exact ⟨i2, _, by have := HGI.out; have := HI2.out; omega, by rw [HT2.out], rfl, rfl, HNX2.out.1, H3.out⟩
          · have t5 : decide ((0 : Int) < (i : Int)) = false := decide_eq_false (by omega)
            have t5' : decide (0 < i) = false := decide_eq_false h0
            obtain rfl : n' = pn := by rw [hn', if_pos (by omega)]
            clear h0 hn'
            have HNX2 := Lib.hid (HP.out.next HA.out.1 HN.out HIN.out (d := pd) HPA.out)
            have HTX := Lib.hid (txt_joinD a s 0 i pd HNX2.out.2.1)
            rw [← HI2.out] at HNX2 HTX
            have hz1 : (txt (joinD a s 0 i)).size ≤ 106 * 512 := by rw [txt_size]; have := HP.out.len; omega
            have hz2 : pd.size ≤ 512 := HNX2.out.2.2.1
            have hz3 : ¬ 9223372036854775807 < (txt (joinD a s 0 i)).size + pd.size := by omega
            have htj := HTX.out
            generalize txt (joinD a s 0 i) = tj at *
            generalize htj2 : txt (joinD a s 0 i2) = tj2 at *
            have HT2 := Lib.hid htj2
            clear htj2
            go_wp2
            go_roundg (255 - i)
            case measure => have := HGI.out; omega
            case rel => exact ⟨i2, _, by have := HGI.out; have := HI2.out; omega, by rw [HT2.out], rfl, rfl, HNX2.out.1, H3.out⟩
      · have d2 : decide ((s.size : Int) < (f2 : Int)) = true := decide_eq_true (by omega)
        have d2' : decide (s.size < f2) = true := decide_eq_true (by omega)
        have HRF : Hid (recF a g x s 0 = (⟨#[]⟩, 0)) := Lib.hid (HNO.out (HP.out.break_ (n' := if i = 0 then (partOf (partAt a s (0 + i))).n else n) rfl HIN.out (fun d e => by rw [HPA.out, if_neg hfs] at e; cases e)))
        clear hfs
        go_wp2
        go_ret2
        exact ⟨by rw [HRF.out]; rfl, H0.out⟩
    · have d0 : decide ((i : Int) < (n : Int)) = false := decide_eq_false (by omega)
      have d1 : decide (i < n) = false := decide_eq_false hin
      obtain rfl : i = n := by have := HP.out.le; omega
      obtain ⟨hrec, hnum⟩ := HP.out.whole
      have HRF : Hid (recF a g x s 0 = (txt (joinD a s 0 i), i)) := Lib.hid (by rw [HYES.out hrec, ← hnum])
      clear hin hrec hnum
      go_wp2
      go_ret2
      exact ⟨by rw [HRF.out]; rfl, H0.out⟩
end Go.Proofs.Ytfbjfleagilikaa
