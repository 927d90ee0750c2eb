/- Merged: FrRefC, FrRefD, HdRNew. Contracts of carrackref05.record, Scan, Texts. Condition: sizes. Contracts of carrackref05.Scan, Texts. Condition: sizes. Contract of carrackref06.Newest. No condition but that lengths are ints. -/
import Derived.WalkSpells
import Derived.Deep.LoopGhost
import Derived.Deep.QuietTactic
import Derived.BigQuiet
import Derived.Test.YtbpgfhcecanikaaGreatFrRefBQ
import Derived.Test.YtbpgfhcecanikaaGreatFrScanQ
import Derived.Test.YtbpgfhcecanikaaGreatWrAQ
namespace Go.Proofs.YtbpgfhcecanikaaGreat
open Go.RowKit
set_option linter.unusedVariables false
set_option linter.unusedSimpArgs false
theorem rfr_read (a : Int) (s : ByteArray) (w : World) :
    Calls Tryz.prog 124 #[.int .i64 a, .string s] w fun e w' => e = .returned (readVal (frRead a s)) ∧ Below w.heap.size w w' := by
  by_cases h : FrSz a
  · by_cases hs : (s.size : Int) = a
    · subst hs
      cases hr : rightB s with
      | true => exact rf_read_in s.size s w h rfl hr
      | false =>
        have e : frRead (s.size : Int) s = (none, 8) := by unfold frRead; rw [if_neg (not_not_intro h), if_neg (by simp), if_pos hr]
        rw [e]
        exact rf_read_8 s.size s w h rfl hr
    · have e : frRead a s = (none, 6) := by unfold frRead; rw [if_neg (not_not_intro h), if_pos hs]
      rw [e]
      exact rf_read_6 a s w h hs
  · have e : frRead a s = (none, 1) := by unfold frRead; rw [if_pos h]
    rw [e]
    exact rf_read_1 a s w h
theorem txt_joinD (a : Nat) (s : ByteArray) (u i : Nat) (d : ByteArray) (h : joinD a s u (i + 1) = joinD a s u i ++ nl d) : txt (joinD a s u i) ++ d = txt (joinD a s u (i + 1)) := by
  apply nl_inj
  rw [nl_append, nl_txt _ (joinD_lt a s u i), nl_txt _ (joinD_lt a s u (i + 1)), h]
def recF (a g x : Nat) (s : ByteArray) (u : Nat) : ByteArray × Nat := if recOk a g x s u then (txt (joinD a s u (numAt a s u)), numAt a s u) else (⟨#[]⟩, 0)
set_option maxRecDepth 100000 in
set_option maxHeartbeats 4000000 in
theorem rf_record (a g x : Nat) (s : ByteArray) (w : World) (ha : 64 ≤ a) (h5 : a ≤ 512) (hs : s.size ≤ 30000) (hg : g < M64) (hx : x < M64) :
    Calls Tryz.prog 114 #[.int .i64 (a : Int), .int .u64 (g : Int), .int .u64 (x : Int), .string s] w fun e w' => e = .returned (.tuple #[.string (recF a g x s 0).1, .int .i64 ((recF a g x s 0).2 : Int)]) ∧ Below w.heap.size w w' := by
  have HA := Lib.hid (And.intro ha (And.intro h5 hs))
  have HNO : Hid (¬ recOk a g x s 0 → recF a g x s 0 = (⟨#[]⟩, 0)) := Lib.hid (fun h => if_neg h)
  have HYES : Hid (recOk a g x s 0 → recF a g x s 0 = (txt (joinD a s 0 (numAt a s 0)), numAt a s 0)) := Lib.hid (fun h => if_pos h)
  have ha1 : 64 ≤ (a : Int) := by omega
  have ha2 : (a : Int) ≤ 512 := by omega
  clear ha h5 hs hg hx
  go_enter Tryz.func114, Tryz.ntmps114
  go_wp2
  go_loopg [10, 11, 12] 256 (fun gi t m j wr => ∃ (i n : Nat), i + gi = 256 ∧ t = .string (txt (joinD a s 0 i)) ∧ m = .int .i64 (n : Int) ∧ j = .int .i64 (i : Int) ∧ PI a g x s 0 i n ∧ Below w.heap.size w wr)
  case atStart => exact ⟨0, 1, by omega, rfl, rfl, rfl, PI.start _ _ _ _ _, Below.refl _ _⟩
  case round =>
    obtain ⟨i, n, hgi, rfl, rfl, rfl, hPI, hbel⟩ := hrel
    have HP := Lib.hid hPI
    have H0 := Lib.hid hbel
    have HGI := Lib.hid hgi
    clear hPI hbel hgi
    by_cases hin : i < n
    · have d0 : decide ((i : Int) < (n : Int)) = true := decide_eq_true (by omega)
      have d1 : decide (i < n) = true := decide_eq_true hin
      have HIN := Lib.hid hin
      have hik : i ≤ 106 := by have := HP.out.max; omega
      obtain ⟨i2, hi2⟩ : ∃ z, z = i + 1 := ⟨_, rfl⟩
      have hi3 : (i : Int) + 1 = (i2 : Int) := by omega
      have hm1 : (i : Int) * (a : Int) = ((i * a : Nat) : Int) := by rw [Int.natCast_mul]
      have hm2 : (i2 : Int) * (a : Int) = ((i2 * a : Nat) : Int) := by rw [Int.natCast_mul]
      have hm3 : i2 * a = i * a + a := by rw [hi2, Nat.add_mul, Nat.one_mul]
      have hm4 : i2 * a ≤ 107 * 512 := Nat.mul_le_mul (by omega) HA.out.2.1
      have HPA : Hid (partAt a s (0 + i) = if i2 * a ≤ s.size then (frRead a (s.extract (i * a) (i2 * a))).1 else none) := Lib.hid (by unfold partAt; rw [Nat.zero_add, hm3])
      have hi4 : i2 ≤ 107 := by omega
      have HI2 := Lib.hid hi2
      clear hin hi2
      generalize i2 * a = f2 at *
      generalize i * a = f at *
      have hff : (f : Int) ≤ (f2 : Int) := by omega
      clear hm3
      by_cases hfs : f2 ≤ s.size
      · have d2 : decide ((s.size : Int) < (f2 : Int)) = false := decide_eq_false (by omega)
        have d2' : decide (s.size < f2) = false := decide_eq_false (by omega)
        have hfs2 : (f2 : Int) ≤ (s.size : Int) := by omega
        have HPA : Hid (partAt a s (0 + i) = (frRead a (s.extract f f2)).1) := Lib.hid (by rw [HPA.out, if_pos hfs])
        clear hfs
        go_wp2_with fail
        refine (rfr_read (a : Int) (s.extract f f2) _).mono ?_
        rintro e w2 ⟨rfl, b2⟩
        obtain ⟨r, hr⟩ : ∃ r, r = frRead (a : Int) (s.extract f f2) := ⟨_, rfl⟩
        have HSO := Lib.hid (read_isSome (a : Int) (s.extract f f2))
        rw [← hr] at HPA HSO ⊢
        clear hr
        obtain ⟨o, er⟩ := r
        simp only at HPA HSO
        simp only [readVal]
        generalize hp : partOf o = p at *
        have HPP := Lib.hid hp
        clear hp
        obtain ⟨pg, px, pi, pn, pd⟩ := p
        simp only [FrP.val]
        have H2 := Lib.hid (H0.out.trans (b2.mono H0.out.size))
        have HB := Lib.hid (Kq.blk_new w2 #[.int .u64 (pg : Int), .int .u64 (px : Int), .int .i64 (pi : Int), .int .i64 (pn : Int), .string pd] 185 (0, 0))
        have H3 := Lib.hid (H2.out.trans ((Kq.below_alloc w2 (.cells #[.int .u64 (pg : Int), .int .u64 (px : Int), .int .i64 (pi : Int), .int .i64 (pn : Int), .string pd] 185)).mono H2.out.size))
        clear b2 H0
        have c0 := Kq.blk_cell HB.out 0
        have c1 := Kq.blk_cell HB.out 1
        have c2 := Kq.blk_cell HB.out 2
        have c3 := Kq.blk_cell HB.out 3
        have c4 := Kq.blk_cell HB.out 4
        obtain ⟨n', hn'⟩ : ∃ z, z = if i = 0 then pn else n := ⟨_, rfl⟩
        have HN : Hid (n' = if i = 0 then (partOf (partAt a s (0 + i))).n else n) := Lib.hid (by rw [HPA.out, HPP.out]; exact hn')
        cases o with
        | none =>
          have t0 : (er != 0) = true := by have := HSO.out; simp only [Option.isSome] at this; rw [bne, this]; rfl
          clear hn'
          have HRF : Hid (recF a g x s 0 = (⟨#[]⟩, 0)) := Lib.hid (HNO.out (HP.out.break_ HN.out HIN.out (fun d e => by rw [HPA.out] at e; cases e)))
          go_wp2
          go_ret2
          exact ⟨by rw [HRF.out]; rfl, H3.out⟩
        | some q =>
          obtain rfl : q = ⟨pg, px, pi, pn, pd⟩ := HPP.out
          obtain rfl : er = 0 := by have := HSO.out; simp only [Option.isSome] at this; exact eq_of_beq this
          by_cases q0 : g = pg
          rotate_left
          · have r0 : ((pg : Int) != ((g : Nat) : Int)) = true := by simp; omega
            have s0 : (pg != g) = true := by simp; omega
            have HQ := Lib.hid q0
            clear q0 hn'
            have HRF : Hid (recF a g x s 0 = (⟨#[]⟩, 0)) := Lib.hid (HNO.out (HP.out.break_ HN.out HIN.out (fun d e => by rw [HPA.out] at e; cases e; exact HQ.out rfl)))
            go_wp2
            go_ret2
            exact ⟨by rw [HRF.out]; rfl, H3.out⟩
          subst q0
          by_cases q1 : x = px
          rotate_left
          · have r1 : ((px : Int) != ((x : Nat) : Int)) = true := by simp; omega
            have s1 : (px != x) = true := by simp; omega
            have HQ := Lib.hid q1
            clear q1 hn'
            have HRF : Hid (recF a g x s 0 = (⟨#[]⟩, 0)) := Lib.hid (HNO.out (HP.out.break_ HN.out HIN.out (fun d e => by rw [HPA.out] at e; cases e; exact HQ.out rfl)))
            go_wp2
            go_ret2
            exact ⟨by rw [HRF.out]; rfl, H3.out⟩
          subst q1
          by_cases q2 : i = pi
          rotate_left
          · have r2 : ((pi : Int) != ((i : Nat) : Int)) = true := by simp; omega
            have s2 : (pi != i) = true := by simp; omega
            have HQ := Lib.hid q2
            clear q2 hn'
            have HRF : Hid (recF a g x s 0 = (⟨#[]⟩, 0)) := Lib.hid (HNO.out (HP.out.break_ HN.out HIN.out (fun d e => by rw [HPA.out] at e; cases e; exact HQ.out rfl)))
            go_wp2
            go_ret2
            exact ⟨by rw [HRF.out]; rfl, H3.out⟩
          subst q2
          by_cases h0 : 0 < i
          · have t5 : decide ((0 : Int) < (i : Int)) = true := decide_eq_true (by omega)
            have t5' : decide (0 < i) = true := decide_eq_true h0
            obtain rfl : n' = n := by rw [hn', if_neg (by omega)]
            clear h0 hn'
            by_cases q3 : n' = pn
            rotate_left
            · have r3 : ((pn : Int) != (n' : Int)) = true := by simp; omega
              have s3 : (pn != n') = true := by simp; omega
              have HQ := Lib.hid q3
              clear q3
              have HRF : Hid (recF a g x s 0 = (⟨#[]⟩, 0)) := Lib.hid (HNO.out (HP.out.break_ HN.out HIN.out (fun d e => by rw [HPA.out] at e; cases e; exact HQ.out rfl)))
              go_wp2
              go_ret2
              exact ⟨by rw [HRF.out]; rfl, H3.out⟩
            subst q3
            have HNX2 := Lib.hid (HP.out.next HA.out.1 HN.out HIN.out (d := pd) HPA.out)
            have HTX := Lib.hid (txt_joinD a s 0 i pd HNX2.out.2.1)
            rw [← HI2.out] at HNX2 HTX
            have hz1 : (txt (joinD a s 0 i)).size ≤ 106 * 512 := by rw [txt_size]; have := HP.out.len; omega
            have hz2 : pd.size ≤ 512 := HNX2.out.2.2.1
            have hz3 : ¬ 9223372036854775807 < (txt (joinD a s 0 i)).size + pd.size := by omega
            have htj := HTX.out
            generalize txt (joinD a s 0 i) = tj at *
            generalize htj2 : txt (joinD a s 0 i2) = tj2 at *
            have HT2 := Lib.hid htj2
            clear htj2
            go_wp2
            go_roundg (255 - i)
            case measure => have := HGI.out; omega
            case rel => exact ⟨i2, _, by have := HGI.out; have := HI2.out; omega, by rw [HT2.out], rfl, rfl, HNX2.out.1, H3.out⟩
          · have t5 : decide ((0 : Int) < (i : Int)) = false := decide_eq_false (by omega)
            have t5' : decide (0 < i) = false := decide_eq_false h0
            obtain rfl : n' = pn := by rw [hn', if_pos (by omega)]
            clear h0 hn'
            have HNX2 := Lib.hid (HP.out.next HA.out.1 HN.out HIN.out (d := pd) HPA.out)
            have HTX := Lib.hid (txt_joinD a s 0 i pd HNX2.out.2.1)
            rw [← HI2.out] at HNX2 HTX
            have hz1 : (txt (joinD a s 0 i)).size ≤ 106 * 512 := by rw [txt_size]; have := HP.out.len; omega
            have hz2 : pd.size ≤ 512 := HNX2.out.2.2.1
            have hz3 : ¬ 9223372036854775807 < (txt (joinD a s 0 i)).size + pd.size := by omega
            have htj := HTX.out
            generalize txt (joinD a s 0 i) = tj at *
            generalize htj2 : txt (joinD a s 0 i2) = tj2 at *
            have HT2 := Lib.hid htj2
            clear htj2
            go_wp2
            go_roundg (255 - i)
            case measure => have := HGI.out; omega
            case rel => exact ⟨i2, _, by have := HGI.out; have := HI2.out; omega, by rw [HT2.out], rfl, rfl, HNX2.out.1, H3.out⟩
      · have d2 : decide ((s.size : Int) < (f2 : Int)) = true := decide_eq_true (by omega)
        have d2' : decide (s.size < f2) = true := decide_eq_true (by omega)
        have HRF : Hid (recF a g x s 0 = (⟨#[]⟩, 0)) := Lib.hid (HNO.out (HP.out.break_ (n' := if i = 0 then (partOf (partAt a s (0 + i))).n else n) rfl HIN.out (fun d e => by rw [HPA.out, if_neg hfs] at e; cases e)))
        clear hfs
        go_wp2
        go_ret2
        exact ⟨by rw [HRF.out]; rfl, H0.out⟩
    · have d0 : decide ((i : Int) < (n : Int)) = false := decide_eq_false (by omega)
      have d1 : decide (i < n) = false := decide_eq_false hin
      obtain rfl : i = n := by have := HP.out.le; omega
      obtain ⟨hrec, hnum⟩ := HP.out.whole
      have HRF : Hid (recF a g x s 0 = (txt (joinD a s 0 i), i)) := Lib.hid (by rw [HYES.out hrec, ← hnum])
      clear hin hrec hnum
      go_wp2
      go_ret2
      exact ⟨by rw [HRF.out]; rfl, H0.out⟩
end Go.Proofs.YtbpgfhcecanikaaGreat
namespace Go.Proofs.YtbpgfhcecanikaaGreat
open Go.RowKit
set_option linter.unusedVariables false
set_option linter.unusedSimpArgs false
theorem partAt_shift (a : Nat) (s : ByteArray) (u i : Nat) (h : u * a ≤ s.size) : partAt a (s.extract (u * a) s.size) i = partAt a s (u + i) := by
  have hz : (s.extract (u * a) s.size).size = s.size - u * a := by simp
  have e : (u + i) * a = u * a + i * a := Nat.add_mul _ _ _
  unfold partAt
  rw [hz, e]
  by_cases hc : i * a + a ≤ s.size - u * a
  · rw [if_pos hc, if_pos (by omega)]
    congr 2
    apply nl_inj
    rw [nl_extract, nl_extract, nl_extract, List.drop_take, List.drop_drop, List.take_take]
    congr 1
    omega
  · rw [if_neg hc, if_neg (by omega)]
theorem recF_shift (a g x : Nat) (s : ByteArray) (u : Nat) (h : u * a ≤ s.size) : recF a g x (s.extract (u * a) s.size) 0 = recF a g x s u := by
  have hp : ∀ i, partAt a (s.extract (u * a) s.size) (0 + i) = partAt a s (u + i) := fun i => by rw [Nat.zero_add]; exact partAt_shift a s u i h
  have hn : numAt a (s.extract (u * a) s.size) 0 = numAt a s u := by
    unfold numAt
    have := hp 0
    rw [Nat.add_zero, Nat.add_zero] at this
    rw [this]
  have hd : ∀ i, datAt a (s.extract (u * a) s.size) (0 + i) = datAt a s (u + i) := fun i => by unfold datAt; rw [hp]
  have hj : ∀ n, joinD a (s.extract (u * a) s.size) 0 n = joinD a s u n := fun n => by
    induction n with
    | zero => rfl
    | succ n ih => rw [joinD, joinD, ih, hd]
  have ho : recOk a g x (s.extract (u * a) s.size) 0 ↔ recOk a g x s u := by
    unfold recOk okPart
    rw [hn]
    constructor
    · rintro ⟨h1, h2⟩
      exact ⟨h1, fun i hi => by have := h2 i hi; rw [hp, hd] at this; exact this⟩
    · rintro ⟨h1, h2⟩
      exact ⟨h1, fun i hi => by rw [hp, hd]; exact h2 i hi⟩
  unfold recF
  rw [hn, hj]
  by_cases hc : recOk a g x s u
  · rw [if_pos hc, if_pos (ho.2 hc)]
  · rw [if_neg hc, if_neg (fun h => hc (ho.1 h))]
set_option maxRecDepth 100000 in
set_option maxHeartbeats 2000000 in
theorem rf_scan_in (a g : Nat) (s : ByteArray) (w : World) (ha : 64 ≤ a) (h5 : a ≤ 512) (hs : s.size ≤ 30000) (hg : g < M64) :
    Calls Tryz.prog 94 #[.int .i64 (a : Int), .int .u64 (g : Int), .string s] w (ScanPost a g s w) := by
  obtain ⟨j0, ji, jz0, jz1, jz2⟩ := info_parts infoStr
  have D0 := Lib.hid (show decide (64 ≤ (a : Int) ∧ (a : Int) ≤ 512) = true from decide_eq_true (by omega))
  have HA := Lib.hid (And.intro ha (And.intro h5 (And.intro hs hg)))
  have HPO : Hid (∀ v wz u l, scanF a g s (s.size + 1) 0 0 = (l, u) → wz.ownsRow w.heap.size 9 1 v l.length (tcells l) → Below w.heap.size w wz → ScanPost a g s w (.returned (.tuple #[v, .int .i64 (u : Int)])) wz) := Lib.hid (by
    intro v wz u l h1 h2 h3
    have e : scanAll (a : Int) g s = (l, u) := by unfold scanAll; rw [if_pos (by unfold FrSz; omega)]; exact h1
    unfold ScanPost
    rw [e]
    exact ⟨v, rfl, h2, h3⟩)
  clear ha h5 hs hg
  go_enter Tryz.func94, Tryz.ntmps94
  go_wp2_with fail
  refine (rf_fits _ _).mono ?_
  rw [D0.out]
  rintro e w1 ⟨rfl, rfl⟩
  go_wp2
  go_loopg [8, 9] (s.size + 1) (fun gk v u wr => ∃ (l : List ByteArray) (k : Nat) (A : Option Addr) (cap : Nat), k + gk = s.size + 1 ∧ u = .int .i64 (k : Int) ∧ v = .slice A l.length cap ∧ ScanAt a g s l k ∧ wr.ownsRow w.heap.size 9 1 v l.length (tcells l) ∧ Below w.heap.size w wr)
  case atStart => exact ⟨[], 0, none, 0, by omega, rfl, rfl, ScanAt.start a g s, World.ownsRow_nil _ _ _ _, Below.refl _ _⟩
  case round =>
    obtain ⟨l, u, A, cap, hgk, rfl, rfl, hsc, hrow, hbel⟩ := hrel
    have hul := hsc.u_le HA.out.1
    have hll := hsc.le
    have hss := HA.out.2.2.1
    have hfit := hsc.fits
    have HU := Lib.hid (And.intro hsc (And.intro hrow hbel))
    have HUL := Lib.hid (And.intro hul (And.intro hll (And.intro hgk hfit)))
    have hll2 : l.length ≤ 30000 := by omega
    have hul2 : u ≤ 30000 := by omega
    have hwl : IntKind.u64.wrap (l.length : Int) = (l.length : Int) := IntWalk.u64_in _ (by omega)
    have hm1 : (u : Int) * (a : Int) = ((u * a : Nat) : Int) := by rw [Int.natCast_mul]
    have hm4 : u * a ≤ 30000 := by omega
    have hm5 : ((u * a : Nat) : Int) ≤ (s.size : Int) := by omega
    have HRF := Lib.hid (recF_shift a g l.length s u hfit)
    have KR := Lib.hid (fun w => rf_record a g l.length (s.extract (u * a) s.size) w HA.out.1 HA.out.2.1 (by simp; omega) HA.out.2.2.2 (by unfold M64; omega))
    rw [HRF.out] at KR
    clear hsc hrow hbel hul hll hss hfit HRF
    generalize u * a = f at *
    generalize gk = go at *
    go_wp2_with fail
    refine (KR.out wr).mono ?_
    by_cases hr : recOk a g l.length s u
    · have e : recF a g l.length s u = (txt (joinD a s u (numAt a s u)), numAt a s u) := if_pos hr
      rw [e]
      have hn := recOk_in hr
      have HST := Lib.hid (HU.out.1.step HA.out.1 hr)
      generalize txt (joinD a s u (numAt a s u)) = tx at *
      obtain ⟨n, hnn⟩ : ∃ z, z = numAt a s u := ⟨_, rfl⟩
      rw [← hnn] at hn HST ⊢
      have HKN := Lib.hid hnn
      obtain ⟨k2, hk2⟩ : ∃ z, z = u + n := ⟨_, rfl⟩
      rw [← hk2] at HST
      have hsu := HST.out.u_le HA.out.1
      have hss := HA.out.2.2.1
      have hu2 : (u : Int) + (n : Int) = (k2 : Int) := by omega
      have hkb : k2 ≤ 30000 := by omega
      have z0 : ((n : Int) == 0) = false := by simp; omega
      have z0' : (n == 0) = false := by simp; omega
      have HKK := Lib.hid (show 64 * k2 ≤ s.size ∧ u < k2 by omega)
      clear e hn hsu hss hk2 hr hnn
      rintro e w2 ⟨rfl, b2⟩
      have H2 := Lib.hid (And.intro (fr_row_below HU.out.2.1 b2) (HU.out.2.2.trans (b2.mono HU.out.2.2.size)))
      clear b2
      go_wp2_with (at_builtin; refine Kq.wpList_append_any _ rfl (.tmp 33) (.tmp 35) 35 35 rfl w.heap.size 9 j0 (.string ⟨#[]⟩) 1 16 Tryz.underlying35 ji jz0 jz1 jz2 rfl (by decide) (.slice A l.length cap) l.length (tcells l) rfl (H2.out.1.alloc _) (.slice (some ⟨w2.heap.size, 0, none⟩) 1 1) 1 (tcells [tx]) rfl ?hs ?h1 ?h2 ?h3 ?_)
      case hs => exact fr_src_text w2 tx 1 _
      case h1 => unfold maxLen; omega
      case h2 => omega
      case h3 => have := H2.out.2.size; simp; omega
      intro v' w3 hown hgrow hfresh
      rw [← tcells_append] at hown
      have hk := Kq.Keeps.grown (S := fun j => w.heap.size ≤ j) hgrow (fun j _ hj => own_ge HU.out.2.1 hj)
      have HF := Lib.hid (And.intro hown ((H2.out.2.trans ((Kq.below_alloc w2 (.cells #[.string tx] 9)).mono H2.out.2.size)).trans (hk.below (by have := H2.out.2.size; simp; omega) (fun j _ e => e))))
      obtain ⟨A', cap', hv, -⟩ := row_strs (l := l ++ [tx]) (by rw [List.length_append]; exact hown)
      clear hown hgrow hfresh hk
      rw [hv] at HF ⊢
      clear hv
      go_wp2
      go_roundg (s.size + 1 - k2)
      case measure => have := HUL.out; have := HKK.out; omega
      case rel =>
        refine ⟨l ++ [tx], k2, A', cap', by have := HKK.out; omega, rfl, rfl, HST.out, ?_, HF.out.2⟩
        have h := HF.out.1
        rw [List.length_append] at h ⊢
        exact h
    · have e : recF a g l.length s u = (⟨#[]⟩, 0) := if_neg hr
      rw [e]
      have HNR := Lib.hid hr
      clear e hr
      rintro e w2 ⟨rfl, b2⟩
      have H2 := Lib.hid (And.intro (fr_row_below HU.out.2.1 b2) (HU.out.2.2.trans (b2.mono HU.out.2.2.size)))
      clear b2
      go_wp2
      go_ret2
      exact HPO.out _ _ u l (HU.out.1.stop HNR.out) H2.out.1 H2.out.2
set_option maxRecDepth 100000 in
set_option maxHeartbeats 1000000 in
theorem rf_scan (a : Int) (g : Nat) (s : ByteArray) (w : World) (hs : s.size ≤ 30000) (hg : g < M64) :
    Calls Tryz.prog 94 #[.int .i64 a, .int .u64 (g : Int), .string s] w (ScanPost a g s w) := by
  by_cases h : FrSz a
  · obtain ⟨n, rfl⟩ := Int.eq_ofNat_of_zero_le (show 0 ≤ a by have := h.1; omega)
    exact rf_scan_in n g s w (by have := h.1; omega) (by have := h.2; omega) hs hg
  · have D0 := Lib.hid (show decide (64 ≤ a ∧ a ≤ 512) = false from decide_eq_false h)
    have HPO : Hid (ScanPost a g s w (.returned (.tuple #[.slice none 0 0, .int .i64 0])) w) := Lib.hid (by
      have e : scanAll a g s = ([], 0) := by unfold scanAll; rw [if_neg h]
      unfold ScanPost
      rw [e]
      exact ⟨_, rfl, World.ownsRow_nil _ _ _ _, Below.refl _ _⟩)
    clear h
    go_enter Tryz.func94, Tryz.ntmps94
    go_wp2_with fail
    refine (rf_fits _ _).mono ?_
    rw [D0.out]
    rintro e w1 ⟨rfl, rfl⟩
    go_wp2
    go_ret2
    exact HPO.out
set_option maxRecDepth 100000 in
set_option maxHeartbeats 1000000 in
theorem rf_texts (A B : Option Addr) (ca cb : Nat) (l m : List ByteArray) (w : World) (hl : l.length ≤ 100000) (hm : m.length ≤ 100000) (hA : StrsAt w A l) (hB : StrsAt w B m) :
    Calls Tryz.prog 23 #[.slice A l.length ca, .slice B m.length cb] w fun e w' => e = .returned (.bool (decide (l = m))) ∧ Below w.heap.size w w' := by
  by_cases hlm : l.length = m.length
  · have d0 : ((l.length : Int) != (m.length : Int)) = false := by simp [hlm]
    have d0' : (l.length != m.length) = false := by simp [hlm]
    have HLM := Lib.hid hlm
    have HAB := Lib.hid (And.intro hA hB)
    clear hlm hA hB
    go_enter Tryz.func23, Tryz.ntmps23
    go_wp2
    clear d0 d0'
    go_loopw [5] (fun i wr => ∃ j : Nat, j ≤ l.length ∧ i = .int .i64 (j : Int) ∧ l.take j = m.take j ∧ Below w.heap.size w wr) (fun i _ => l.length - (intOf i).toNat)
    case atStart => exact ⟨0, Nat.zero_le _, rfl, rfl, Below.refl _ _⟩
    case round =>
      obtain ⟨j, hj, rfl, htk, hb⟩ := hrel
      have HB := Lib.hid hb
      have HT := Lib.hid htk
      clear hb htk
      by_cases hlt : j < l.length
      · have hltm : j < m.length := by rw [← HLM.out]; exact hlt
        obtain ⟨g1, o1, rfl, h1, c1⟩ := HAB.out.1.at_ j hlt
        obtain ⟨g2, o2, rfl, h2, c2⟩ := HAB.out.2.at_ j hltm
        have k1 := (HB.out.cell (p := ⟨g1, o1 + j, none⟩) h1).trans c1
        have k2 := (HB.out.cell (p := ⟨g2, o2 + j, none⟩) h2).trans c2
        have HS : Hid (l.take (j + 1) = m.take (j + 1) ↔ l[j] = m[j]) := Lib.hid (by
          rw [List.take_succ_eq_append_getElem hlt, List.take_succ_eq_append_getElem hltm, HT.out]
          constructor
          · intro h
            have := List.append_cancel_left h
            simpa using this
          · intro h; rw [h])
        have HNE : Hid (l = m → l[j] = m[j]) := Lib.hid (fun h => by subst h; rfl)
        generalize l[j] = x at *
        generalize m[j] = y at *
        have b1 : (j : Int) < (m.length : Int) := by omega
        have b2 : (j : Int) < (l.length : Int) := by omega
        clear c1 c2 h1 h2
        by_cases hq : x = y
        · have t0 : (!(x.toList == y.toList)) = false := by rw [hq]; simp
          have HQ := Lib.hid (HS.out.2 hq)
          clear hq
          go_wp2
          go_quiet (fail)
          go_wp2
          go_roundw
          case rel => first | exact ⟨j + 1, by omega, by go_num, HQ.out, below_drewN HB.out _⟩ | ((repeat apply Exists.intro); exact ⟨⟨j + 1, by omega, by go_num, HQ.out, below_drewN HB.out _⟩, rfl⟩)
          case measure => simp [intOf]; omega
        · have t0 : (!(x.toList == y.toList)) = true := by rw [eq_text, decide_eq_false (fun e => hq (nl_inj e))]; rfl
          have HQ : Hid (decide (l = m) = false) := Lib.hid (decide_eq_false (fun h => hq (HNE.out h)))
          clear hq
          go_wp2
          go_quiet (fail)
          go_wp2
          go_ret
          exact ⟨by rw [HQ.out]; rfl, below_drewN HB.out _⟩
      · obtain rfl : j = l.length := by omega
        have HQ : Hid (decide (l = m) = true) := Lib.hid (decide_eq_true (by
          have := HT.out
          rwa [List.take_length, HLM.out, List.take_length] at this))
        clear hlt
        go_wp2
        go_ret
        exact ⟨by rw [HQ.out]; rfl, HB.out⟩
  · have d0 : ((l.length : Int) != (m.length : Int)) = true := by simp; omega
    have d0' : (l.length != m.length) = true := by simp; omega
    have HQ : Hid (decide (l = m) = false) := Lib.hid (decide_eq_false (fun h => hlm (by rw [h])))
    clear hlm
    go_enter Tryz.func23, Tryz.ntmps23
    go_wp2
    go_ret
    exact ⟨by rw [HQ.out]; rfl, Below.refl _ _⟩
end Go.Proofs.YtbpgfhcecanikaaGreat
namespace Go.Proofs.YtbpgfhcecanikaaGreat.r6
open Go.RowKit
set_option linter.unusedVariables false
/-- in the midst of Newest: the result's block, the best one's -/
structure NS (w wr : World) (R Bb : Nat) (g sg : Int) : Prop where
  r : wr.heap[R]? = some (.cells #[.int .u64 0, .int .i64 0] 48 (0, 0))
  b : wr.heap[Bb]? = some (.cells #[.int .u64 g, .int .i64 sg] 48 (0, 0))
  ne : R ≠ Bb
  hb : w.heap.size ≤ Bb
  hr : w.heap.size ≤ R
  bel : Below w.heap.size w wr
theorem NS.below {w wr w' : World} {R Bb : Nat} {g sg : Int} (h : NS w wr R Bb g sg) (hb : Below wr.heap.size wr w') : NS w w' R Bb g sg :=
  ⟨Kq.below_blk hb h.r (Kq.blk_lt h.r), Kq.below_blk hb h.b (Kq.blk_lt h.b), h.ne, h.hb, h.hr, h.bel.trans (hb.mono h.bel.size)⟩
theorem NS.fill {w wr : World} {R Bb : Nat} {g sg : Int} (h : NS w wr R Bb g sg) (g' sg' : Int) : NS w (fill2 wr Bb g' sg') R Bb g' sg' :=
  ⟨(fill2_keeps wr Bb g' sg').blk h.r h.ne, fill2_blk h.b g' sg', h.ne, h.hb, h.hr, h.bel.trans ((fill2_keeps wr Bb g' sg').below h.bel.size (fun k _ e => by subst e; exact h.hb))⟩
set_option maxRecDepth 100000 in
set_option maxHeartbeats 4000000 in
theorem rf_newest (a : Int) (A : Option Addr) (cap : Nat) (l : List ByteArray) (w : World) (hl : l.length ≤ 1000000) (hs : ∀ s ∈ l, s.size ≤ maxLen) (hc : StrsAt w A l) :
    Calls Tryz.prog 73 #[.int .i64 a, .slice A l.length cap] w fun x w' => x = .returned (.tuple #[.agg #[.int .u64 (((nw a.toNat l l.length).1 : Nat) : Int), .int .i64 (((nw a.toNat l l.length).2.1 : Nat) : Int)], .int .i64 (nw a.toNat l l.length).2.2]) ∧ Below w.heap.size w w' := by
  have HC := Lib.hid hc
  have HS := Lib.hid hs
  clear hc hs
  have HN0 : Hid (NS w ((w.alloc (.cells #[.int .u64 0, .int .i64 0] 48)).alloc (.cells #[.int .u64 0, .int .i64 0] 48)) w.heap.size (w.heap.size + 1) 0 0) := Lib.hid (by
    have h1 := Kq.blk_new (w.alloc (.cells #[.int .u64 0, .int .i64 0] 48)) #[.int .u64 0, .int .i64 0] 48 (0, 0)
    rw [World.size_alloc] at h1
    refine ⟨?_, h1, by omega, by omega, by omega, (Kq.below_alloc w _).trans ((Kq.below_alloc _ _).mono (Kq.below_alloc w _).size)⟩
    rw [Below.heap_alloc _ _ _ (by simp)]
    exact Kq.blk_new _ _ _ _)
  go_enter Tryz.func73, Tryz.ntmps73
  go_wp2
  go_loopw [7, 8] (fun pv i wr => ∃ j : Nat, j ≤ l.length ∧ i = .int .i64 (j : Int) ∧ pv = .int .i64 (nw a.toNat l j).2.2 ∧ NS w wr w.heap.size (w.heap.size + 1) (((nw a.toNat l j).1 : Nat) : Int) (((nw a.toNat l j).2.1 : Nat) : Int)) (fun _ i _ => l.length - (intOf i).toNat)
  case atStart => exact ⟨0, by omega, rfl, rfl, HN0.out⟩
  case round =>
    obtain ⟨j, hj, rfl, rfl, hns⟩ := hrel
    have HNS := Lib.hid hns
    clear hns
    have HINV := Lib.hid (nw_inv a.toNat l j)
    by_cases hlt : j < l.length
    · have HST := Lib.hid (nw_succ a.toNat l j hlt)
      have HSZ := Lib.hid (HS.out l[j] (List.getElem_mem _))
      obtain ⟨G, o, rfl, hG, hcell⟩ := HC.out.at_ j hlt
      have hst : wr.cell? ⟨G, o + j, none⟩ = some (.string l[j]) := (HNS.out.bel.cell (p := ⟨G, o + j, none⟩) hG).trans hcell
      clear hG hcell
      obtain ⟨s, hs⟩ : ∃ s, s = l[j] := ⟨_, rfl⟩
      rw [← hs] at hst HST HSZ
      clear hs
      have dj : decide ((0 : Int) ≤ (j : Int)) = true := decide_eq_true (by omega)
      obtain ⟨n, hn⟩ : ∃ n, n = nw a.toNat l j := ⟨_, rfl⟩
      rw [← hn] at HNS HINV HST ⊢
      clear hn
      obtain ⟨g, sg, at_⟩ := n
      simp only at HNS HINV HST ⊢
      go_wp2_with fail
      refine (rf_get a s _).mono ?_
      cases hb : hdGoodB a.toNat s with
      | false =>
        rw [res_bad hb]
        have he := hdErr_ne a.toNat s
        rintro x w5 ⟨rfl, b5⟩
        have H5 := Lib.hid ((HNS.out.below b5).below (Kq.below_alloc w5 (.cells #[.int .u64 0, .int .i64 0] 48)))
        have HX : Hid (nw a.toNat l (j + 1) = (g, sg, at_)) := Lib.hid (by rw [HST.out, nwStep, if_neg (fun h => by rw [hb] at h; cases h.1)])
        generalize hdErr a.toNat s = er at *
        clear b5 hb hst
        go_wp2
        go_roundw
        case rel => exact ⟨j + 1, by omega, by go_num, by rw [HX.out], by rw [HX.out]; exact H5.out⟩
        case measure => simp [intOf]; omega
      | true =>
        rw [res_good hb]
        rintro x w5 ⟨rfl, b5⟩
        have H5 := Lib.hid ((HNS.out.below b5).below (Kq.below_alloc w5 (.cells #[.int .u64 ((gOf s : Nat) : Int), .int .i64 ((sOf s : Nat) : Int)] 48)))
        have H5b := Lib.hid (HNS.out.below b5)
        have c0 : w5.cell? ⟨w.heap.size + 1, 0, none⟩ = some (.int .u64 ((g : Nat) : Int)) := Kq.blk_cell H5b.out.b 0
        have c1 : w5.cell? ⟨w.heap.size + 1, 1, none⟩ = some (.int .i64 ((sg : Nat) : Int)) := Kq.blk_cell H5b.out.b 1
        have f0 := Kq.blk_free H5b.out.b 0
        have f1 := Kq.blk_free H5b.out.b 1
        have hBlt : w.heap.size + 1 < w5.heap.size := Kq.blk_lt H5b.out.b
        have hne1 : ¬ w5.heap.size = w.heap.size + 1 := by omega
        have hne2 : ¬ w.heap.size + 1 = w5.heap.size := by omega
        clear b5 hst
        have HFL := Lib.hid ((H5b.out.fill ((gOf s : Nat) : Int) ((sOf s : Nat) : Int)).below (Kq.below_alloc _ (.cells #[.int .u64 ((gOf s : Nat) : Int), .int .i64 ((sOf s : Nat) : Int)] 48)))
        by_cases hat : at_ < 0
        · have h0 : g = 0 ∧ sg = 0 ∧ at_ = -1 := by
            rcases HINV.out with ⟨_, h⟩ | ⟨h, _⟩
            · simp only [Prod.mk.injEq] at h; exact h
            · omega
          obtain ⟨rfl, rfl, rfl⟩ := h0
          have HX : Hid (nw a.toNat l (j + 1) = (gOf s, sOf s, (j : Int))) := Lib.hid (by rw [HST.out, nwStep, if_pos ⟨hb, Or.inl (by decide)⟩])
          have c0 : w5.cell? ⟨w.heap.size + 1, 0, none⟩ = some (.int .u64 0) := c0
          have c1 : w5.cell? ⟨w.heap.size + 1, 1, none⟩ = some (.int .i64 0) := c1
          clear hb hat
          go_wp2
          go_roundw
          case rel => exact ⟨j + 1, by omega, by go_num, by rw [HX.out], by rw [HX.out]; exact HFL.out⟩
          case measure => simp [intOf]; omega
        · have hg : 0 < g := by
            rcases HINV.out with ⟨h, _⟩ | ⟨_, h⟩
            · omega
            · exact h
          have g0 : ((g : Int) == 0) = false := by simp; omega
          have g1 : (g == 0) = false := by simp; omega
          have a0 : decide (at_ < 0) = false := decide_eq_false hat
          by_cases hgt : g < gOf s
          · have t0 : decide (g < gOf s) = true := decide_eq_true hgt
            have t1 : decide ((g : Int) < ((gOf s : Nat) : Int)) = true := decide_eq_true (by omega)
            have HX : Hid (nw a.toNat l (j + 1) = (gOf s, sOf s, (j : Int))) := Lib.hid (by rw [HST.out, nwStep, if_pos ⟨hb, Or.inr hgt⟩])
            clear hb hat hg hgt
            go_wp2
            go_roundw
            case rel => exact ⟨j + 1, by omega, by go_num, by rw [HX.out], by rw [HX.out]; exact HFL.out⟩
            case measure => simp [intOf]; omega
          · have t0 : decide (g < gOf s) = false := decide_eq_false hgt
            have t1 : decide ((g : Int) < ((gOf s : Nat) : Int)) = false := decide_eq_false (by omega)
            have HX : Hid (nw a.toNat l (j + 1) = (g, sg, at_)) := Lib.hid (by rw [HST.out, nwStep, if_neg (fun h => h.2.elim hat hgt)])
            clear hb hat hg hgt
            go_wp2
            go_roundw
            case rel => exact ⟨j + 1, by omega, by go_num, by rw [HX.out], by rw [HX.out]; exact H5.out⟩
            case measure => simp [intOf]; omega
    · have hk' : j = l.length := Nat.le_antisymm hj (Nat.not_lt.1 hlt)
      subst hk'
      obtain ⟨g, sg, at_, hn⟩ : ∃ g sg at_, nw a.toNat l l.length = (g, sg, at_) := ⟨_, _, _, rfl⟩
      have HQ := Lib.hid hn
      rw [hn] at HNS ⊢
      clear hn HINV
      simp only at HNS ⊢
      have c0 := Kq.blk_cell HNS.out.b 0
      have c1 := Kq.blk_cell HNS.out.b 1
      have r0 := Kq.blk_cell HNS.out.r 0
      have r1 := Kq.blk_cell HNS.out.r 1
      have q0 := Kq.blk_free HNS.out.r 0
      have q1 := Kq.blk_free HNS.out.r 1
      go_wp2
      change bodyPost _ _ _ _ _ (fill2 wr w.heap.size (g : Int) (sg : Int))
      have p1 := fill2_blk HNS.out.r (g : Int) (sg : Int)
      have p2 := fill2_keeps wr w.heap.size (g : Int) (sg : Int)
      generalize fill2 wr w.heap.size (g : Int) (sg : Int) = z at *
      have z0 := Kq.blk_cell p1 0
      have z1 := Kq.blk_cell p1 1
      refine bodyPost_ret (v := .tuple #[.agg #[.int .u64 (g : Int), .int .i64 (sg : Int)], .int .i64 at_]) (by simp [results, Tryz.results73, go_sem, z0, z1]) rfl ?_
      exact ⟨by rw [HQ.out], HNS.out.bel.trans (p2.below HNS.out.bel.size (fun k _ e => by subst e; exact Nat.le_refl _))⟩
end Go.Proofs.YtbpgfhcecanikaaGreat.r6
