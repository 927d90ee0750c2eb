/- carracklaw05.FrameBack walked. No condition. -/
import Derived.StillTailTactics
import Derived.Deep.LoopGhost
import Derived.Test.YtfbjfleagilikaaFrBackM
namespace Go.Proofs.Ytfbjfleagilikaa.frameBack
open Go.RowKit
set_option linter.unusedVariables false
set_option linter.unusedSimpArgs false
set_option maxRecDepth 100000 in
set_option maxHeartbeats 8000000 in
theorem main (a g : Nat) (A : Option Addr) (cap : Nat) (l : List ByteArray) (bad : Int) (y : Nat) (more : ByteArray) (W : World) (ha : 64 ≤ a) (h5 : a ≤ 512) (hl : l.length ≤ 10) (hm : more.size ≤ 1000) (hg : g < M64) (hy : y < CrcM.M)
    (hs : ∀ s ∈ l, s.size ≤ maxLen) (hA : StrsAt W A l) (hcap : l.length ≤ cap ∧ cap ≤ maxLen) :
    Calls Try.prog 5 #[.int .i64 (a : Int), .int .u64 (g : Int), .slice A l.length cap, .int .i64 bad, .int .u32 (y : Int), .string more] W fun e w' => e = .returned (.bool true) ∧ Below W.heap.size W w' := by
  obtain ⟨i0, hi, hz0, hz1, hz2⟩ := info_parts infoInt
  have HA := Lib.hid (And.intro ha (And.intro h5 (And.intro hl (And.intro hm (And.intro hg hy)))))
  have HL := Lib.hid (And.intro hs (And.intro hA hcap))
  have d0 : decide ((a : Int) < 64) = false := decide_eq_false (by omega)
  have d1 : decide ((512 : Int) < (a : Int)) = false := decide_eq_false (by omega)
  have d2 : decide ((10 : Int) < (l.length : Int)) = false := decide_eq_false (by omega)
  have d3 : decide ((1000 : Int) < (more.size : Int)) = false := decide_eq_false (by omega)
  have e0 : decide (a < 64) = false := decide_eq_false (by omega)
  have e1 : decide (512 < a) = false := decide_eq_false (by omega)
  have e2 : decide (10 < l.length) = false := decide_eq_false (by omega)
  have e3 : decide (1000 < more.size) = false := decide_eq_false (by omega)
  have ha1 : 64 ≤ (a : Int) := by omega
  have ha2 : (a : Int) ≤ 512 := by omega
  have hl10 : l.length ≤ 10 := hl
  have hm1 : more.size ≤ 1000 := hm
  clear ha h5 hl hm hg hy hs hA hcap
  go_enter Try.func5, Try.ntmps5
  go_wp2_with fail
  refine (fr_awake _).mono ?_
  rintro e w1 ⟨rfl, rfl⟩
  go_wp2
  clear d0 d1 d2 d3 e0 e1 e2 e3
  go_loopg [13, 14, 15] l.length (fun gk tx en i wr => ∃ k : Nat, k + gk = l.length ∧ i = .int .i64 (k : Int) ∧ tx = .string (catL (bigL a g 0 (l.take k))) ∧ wr.ownsRow W.heap.size 3 1 en k (ecells a g l k) ∧ (∀ s ∈ l.take k, s.size ≤ 600) ∧ Below W.heap.size W wr)
  case atStart => exact ⟨0, by omega, rfl, by rw [List.take_zero]; rfl, World.ownsRow_nil _ _ _ _, (by simp), Below.refl _ _⟩
  case round =>
    obtain ⟨k, hgk, rfl, rfl, hrow, h600, hbw⟩ := hrel
    generalize gk = go at *
    have HB := Lib.hid (And.intro hrow (And.intro h600 hbw))
    have HGK := Lib.hid hgk
    obtain ⟨EA, em, ecap, rfl⟩ := Kq.own_shape hrow
    clear hrow h600 hbw hgk
    by_cases hk : k < l.length
    · have d0 : decide ((k : Int) < (l.length : Int)) = true := decide_eq_true (by omega)
      have d1 : decide (k < l.length) = true := decide_eq_true hk
      obtain ⟨B, off, rfl, hB, hc⟩ := HL.out.2.1.at_ k hk
      have c0 := (HB.out.2.2.cell (p := ⟨B, off + k, none⟩) hB).trans hc
      have HCL := Lib.hid (show ∀ w', Below W.heap.size W w' → w'.cell? ⟨B, off + k, none⟩ = some (.string (l[k]'hk)) from fun w' hb => (hb.cell (p := ⟨B, off + k, none⟩) hB).trans hc)
      have hsz := HL.out.1 _ (List.getElem_mem hk)
      have hkl : (k : Int) < (l.length : Int) := by omega
      have hk10 : k ≤ 10 := by omega
      have HK := Lib.hid hk
      have HBT := Lib.hid (bigL_take a g l k hk)
      unfold maxLen at hsz
      clear hc hB
      by_cases hbig : 600 < (l[k]'hk).size
      · have t0 : decide ((600 : Int) < ((l[k]'hk).size : Int)) = true := decide_eq_true (by omega)
        have t1 : decide (600 < (l[k]'hk).size) = true := decide_eq_true hbig
        clear hbig HBT HCL
        generalize l[k]'hk = sk at *
        go_wp2
        go_ret
        exact ⟨rfl, HB.out.2.2⟩
      · have t0 : decide ((600 : Int) < ((l[k]'hk).size : Int)) = false := decide_eq_false (by omega)
        have t1 : decide (600 < (l[k]'hk).size) = false := decide_eq_false hbig
        have HT6 : Hid (∀ s ∈ l.take (k + 1), s.size ≤ 600) := Lib.hid (by
          intro s hs
          rw [List.take_succ_eq_append_getElem HK.out] at hs
          rcases List.mem_append.1 hs with h | h
          · exact HB.out.2.1 s h
          · rw [List.mem_singleton.1 h]; omega)
        have h600 : (l[k]'hk).size ≤ 600 := by omega
        have HSO := Lib.hid (secOk a g k (l[k]'hk) HA.out.1 HA.out.2.1 (by omega) HA.out.2.2.2.2.1 (by unfold M64; omega))
        have KSP := Lib.hid (fun w => fr_split a g k (l[k]'hk) w HA.out.2.2.2.2.1 (by unfold M64; omega))
        have HOP : Hid (∀ w e w', SplitPost a g k (l[k]'hk) w e w' → _) := Lib.hid (fun w e w' h => split_open HA.out.1 HA.out.2.1 (by omega) HA.out.2.2.2.2.1 (by unfold M64; omega) h)
        have KPA := Lib.hid (fun w => fr_parts_ok a (l[k]'hk).size w HA.out.1 HA.out.2.1 (by omega))
        have hwk : IntKind.u64.wrap (k : Int) = (k : Int) := IntWalk.u64_in _ (by omega)
        have HBR := Lib.hid (big_room a g HA.out.1 HA.out.2.1 (l.take (k + 1)) HT6.out 0)
        clear hbig hsz
        generalize hsk : l[k]'hk = sk at *
        generalize secs a g k sk = S at *
        generalize nParts a sk.size = N at *
        have hN106 : N ≤ 106 := HSO.out.le.2
        have HSK := Lib.hid hsk
        clear hsk
        go_wp2_with fail
        refine (KSP.out _).mono ?_
        intro e w2 hp
        obtain ⟨A2, cap2, rfl, hA2, hb2⟩ := HOP.out _ _ _ hp
        have H2 := Lib.hid (And.intro hA2 (And.intro (HB.out.2.2.trans (hb2.mono HB.out.2.2.size)) (fr_row_below HB.out.1 hb2)))
        clear hp hA2 hb2 KSP HOP t0 t1 c0
        have c0 := HCL.out _ H2.out.2.1
        go_wp2_with fail
        refine (KPA.out _).mono ?_
        rintro e w3 ⟨rfl, rfl⟩
        clear KPA
        go_wp2
        obtain ⟨P0, hP0⟩ : ∃ z, z = catL (bigL a g 0 (l.take k)) := ⟨_, rfl⟩
        rw [← hP0]
        have HP0 := Lib.hid hP0
        clear hP0 c0
        go_loopg [13, 18] N (fun gi tx j wr => ∃ m : Nat, m + gi = N ∧ j = .int .i64 (m : Int) ∧ tx = .string (P0 ++ catL (S.take m)) ∧ Below w2.heap.size w2 wr)
        case atStart => exact ⟨0, by omega, rfl, by rw [List.take_zero]; show _ = Value.string (P0 ++ ⟨#[]⟩); congr 1; apply nl_inj; rw [nl_append]; simp [nl], Below.refl _ _⟩
        case round =>
          obtain ⟨m, hgm, rfl, rfl, hbm⟩ := hrel
          have HM := Lib.hid hbm
          have HGM := Lib.hid hgm
          clear hbm hgm
          by_cases hmn : m < N
          · have d2 : decide ((m : Int) < (N : Int)) = true := decide_eq_true (by omega)
            have d3 : decide (m < N) = true := decide_eq_true hmn
            have hml : m < S.length := by rw [HSO.out.len]; exact hmn
            obtain ⟨B2, o2, rfl, hB2, hc2⟩ := H2.out.1.at_ m hml
            have c2 := (HM.out.cell (p := ⟨B2, o2 + m, none⟩) hB2).trans hc2
            have hzs : ((S[m]'hml).size : Int) = (a : Int) := by rw [HSO.out.sz _ (List.getElem_mem _)]
            have hne : (((S[m]'hml).size : Int) != (a : Int)) = false := by rw [hzs]; simp
            have hne' : ((S[m]'hml).size != a) = false := by rw [HSO.out.sz _ (List.getElem_mem _)]; simp
            have hct := catL_take S m hml
            have HPZ : Hid ((P0 ++ catL (S.take m)).size ≤ 100000) := Lib.hid (by
              rw [ByteArray.size_append, catL_take_size a S HSO.out.sz m (by omega), HP0.out, catL_size a _ (bigL_size a g HA.out.1 _ (fun s hs => Nat.le_trans (HB.out.2.1 s hs) (by omega)) 0)]
              have h1 := big_room a g HA.out.1 HA.out.2.1 (l.take k) HB.out.2.1 0
              have h2 : (l.take k).length ≤ 10 := by rw [List.length_take]; omega
              have h3 : m * a ≤ 106 * 512 := Nat.mul_le_mul (by omega) HA.out.2.1
              omega)
            have hpz := HPZ.out
            have hz3 : ¬ 9223372036854775807 < (P0 ++ catL (S.take m)).size + (S[m]'hml).size := by omega
            have hct2 : P0 ++ catL (S.take m) ++ S[m] = P0 ++ catL (S.take (m + 1)) := by rw [ByteArray.append_assoc, hct]
            have hmN : (m : Int) < (N : Int) := by omega
            have hm106 : m ≤ 106 := by omega
            obtain ⟨m2, hm2⟩ : ∃ z, z = m + 1 := ⟨_, rfl⟩
            rw [← hm2] at hct2
            have hm3 : (m : Int) + 1 = (m2 : Int) := by omega
            have HM2 := Lib.hid (And.intro hm2 hmn)
            clear hm2 hct hB2 hc2
            generalize S[m]'hml = sm at *
            generalize P0 ++ catL (S.take m) = t1 at *
            generalize htt : P0 ++ catL (S.take m2) = t2 at *
            have HTT := Lib.hid htt
            clear htt
            go_wp2
            go_roundg (N - (m + 1))
            case measure => have := HGM.out; have := HM2.out; omega
            case rel => exact ⟨m2, by have := HGM.out; have := HM2.out; omega, rfl, by rw [HTT.out], HM.out⟩
          · have d2 : decide ((m : Int) < (N : Int)) = false := decide_eq_false (by omega)
            have d3 : decide (m < N) = false := decide_eq_false hmn
            obtain rfl : m = N := by have := HGM.out; omega
            have hte : P0 ++ catL (S.take m) = catL (bigL a g 0 (l.take (k + 1))) := by
              rw [List.take_of_length_le (by rw [HSO.out.len]; exact Nat.le_refl _), HP0.out, HBT.out, catL_append]
            have HT6b : Hid (∀ s ∈ l.take (k + 1), s.size ≤ 4096) := Lib.hid (fun s hs => Nat.le_trans (HT6.out s hs) (by omega))
            have hts : (catL (bigL a g 0 (l.take (k + 1)))).size = eN a g l (k + 1) * a := catL_size a _ (bigL_size a g HA.out.1 _ HT6b.out 0)
            have hbr : eN a g l (k + 1) * a ≤ 11 * 1500 := Nat.le_trans HBR.out (Nat.mul_le_mul_right _ (by rw [List.length_take]; omega))
            have hq : ((catL (bigL a g 0 (l.take (k + 1)))).size : Int).tdiv (a : Int) = ((eN a g l (k + 1) : Nat) : Int) := by
              rw [hts, ← Int.ofNat_tdiv, Nat.mul_div_cancel _ (by have := HA.out.1; omega)]
            have hen : eN a g l (k + 1) ≤ 16500 := Nat.le_trans (Nat.le_mul_of_pos_right _ (by have := HA.out.1; omega)) hbr
            have za : ((a : Int) == 0) = false := by simp; omega
            have za' : (a == 0) = false := by simp; omega
            rw [hte]
            have HEC : Hid (ecells a g l (k + 1) = ecells a g l k ++ [Value.int .i64 ((eN a g l (k + 1) : Nat) : Int)]) := Lib.hid (by unfold ecells; rw [List.range_succ, List.map_append]; rfl)
            have hROW := fr_row_below H2.out.2.2 HM.out
            have HROW := Lib.hid hROW
            have hszT : (catL (bigL a g 0 (l.take (k + 1)))).size ≤ 16500 := by rw [hts]; exact hbr
            clear hte hts hbr hmn hROW
            generalize htk : catL (bigL a g 0 (l.take (k + 1))) = tk at *
            have HTK := Lib.hid htk
            generalize eN a g l (k + 1) = E at *
            clear htk
            go_wp2_with (at_builtin; refine Kq.wpList_append_any _ rfl (.tmp 103) (.tmp 108) 36 36 rfl W.heap.size 3 i0 (.int .i64 0) 1 8 Try.underlying36 hi hz0 hz1 hz2 rfl (by decide) (.slice EA em ecap) k (ecells a g l k) rfl (HROW.out.alloc _) (.slice (some ⟨wr.heap.size, 0, none⟩) 1 1) 1 [Value.int .i64 (E : Int)] rfl ?hs ?h1 ?h2 ?h3 ?_)
            case hs => exact src_int wr (E : Int) 1 _
            case h1 => unfold maxLen; omega
            case h2 => omega
            case h3 => have := H2.out.2.1.size; have := HM.out.size; simp; omega
            intro v' w9 hown hgrow hfresh
            have hkk := Kq.Keeps.grown (S := fun j => W.heap.size ≤ j) hgrow (fun j _ hj => own_ge HB.out.1 hj)
            have hb9 := H2.out.2.1.trans (HM.out.mono H2.out.2.1.size)
            have HF := Lib.hid (And.intro hown ((hb9.trans ((Kq.below_alloc wr (.cells #[.int .i64 (E : Int)] 3)).mono hb9.size)).trans (hkk.below (by have := hb9.size; simp; omega) (fun j _ e => e))))
            obtain ⟨A', m', cap', hv'⟩ := Kq.own_shape hown
            clear hown hgrow hfresh hkk hb9
            rw [hv'] at HF ⊢
            clear hv' hq za za'
            obtain ⟨k2, hk2⟩ : ∃ z, z = k + 1 := ⟨_, rfl⟩
            have hk3 : (k : Int) + 1 = (k2 : Int) := by omega
            have HK2 := Lib.hid hk2
            clear hk2
            go_wp2
            go_roundg (l.length - (k + 1))
            case measure => have := HGK.out; omega
            case rel =>
              refine ⟨k2, by have := HGK.out; have := HK2.out; omega, rfl, by rw [HK2.out, HTK.out], ?_, by rw [HK2.out]; exact HT6.out, HF.out.2⟩
              rw [HK2.out, HEC.out]
              exact HF.out.1
    · have d0 : decide ((k : Int) < (l.length : Int)) = false := decide_eq_false (by omega)
      have d1 : decide (k < l.length) = false := decide_eq_false hk
      obtain rfl : k = l.length := by have := HGK.out; omega
      rw [List.take_length] at HB
      rw [List.take_length]
      have H600 := Lib.hid HB.out.2.1
      have HL4 : Hid (∀ s ∈ l, s.size ≤ 4096) := Lib.hid (fun s hs => Nat.le_trans (HB.out.2.1 s hs) (by omega))
      have HBW := Lib.hid (back_whole HA.out.1 HA.out.2.1 HA.out.2.2.2.2.1 l HL4.out (by omega))
      obtain ⟨M, u2, hbm, hge⟩ := back_more HA.out.1 HA.out.2.1 HA.out.2.2.2.2.1 l HL4.out (by omega) more
      have HBM := Lib.hid (And.intro hbm hge)
      have HBD := Lib.hid (fun bad w => back_bad HA.out.1 HA.out.2.1 HA.out.2.2.2.2.1 l HL4.out (by omega) bad y w HA.out.2.2.2.2.2)
      have hts : (catL (bigL a g 0 l)).size = (bigL a g 0 l).length * a := catL_size a _ (bigL_size a g HA.out.1 _ HL4.out 0)
      have hbr : (bigL a g 0 l).length * a ≤ 15000 := Nat.le_trans (big_room a g HA.out.1 HA.out.2.1 l H600.out 0) (by omega)
      have hen : (bigL a g 0 l).length ≤ 15000 := Nat.le_trans (Nat.le_mul_of_pos_right _ (by have := HA.out.1; omega)) hbr
      have HEN : Hid (∀ k, eN a g l k = (bigL a g 0 (l.take k)).length) := Lib.hid (fun _ => rfl)
      have HEN0 : Hid (eN a g l l.length = (bigL a g 0 l).length) := Lib.hid (by unfold eN; rw [List.take_length])
      have KS2 := Lib.hid (fun T w (h : T.size ≤ 30000) => fr_scan a g T w h HA.out.2.2.2.2.1)
      clear hbm hge
      generalize catL (bigL a g 0 l) = T at *
      generalize (bigL a g 0 l).length = U at *
      have hUa : (U : Int) * (a : Int) = (T.size : Int) := by rw [hts, Int.natCast_mul]
      have hTz : T.size ≤ 15000 := by omega
      have hz3 : ¬ 9223372036854775807 < T.size + more.size := by omega
      have HTS := Lib.hid hts
      have KO1 := Lib.hid (fun w e w' (h : ScanPost a g T w e w') => scan_open_cap HBW.out h)
      have KO2 := Lib.hid (fun w e w' (h : ScanPost a g (T ++ more) w e w') => scan_open_cap HBM.out.1 h)
      have HTM : Hid ((T ++ more).size ≤ 30000) := Lib.hid (by rw [ByteArray.size_append]; omega)
      clear hts hbr hk
      go_wp2_with fail
      refine (KS2.out T _ (by omega)).mono ?_
      intro e w2 hp
      obtain ⟨A2, cap2, rfl, hA2, hc2, hc2', hb2⟩ := KO1.out _ _ _ hp
      have H2 := Lib.hid (And.intro (HB.out.2.2.trans (hb2.mono HB.out.2.2.size)) (And.intro hA2 (fr_row_below HB.out.1 hb2)))
      clear hp hA2 hb2 KO1 hc2 hc2' d0 d1
      go_wp2_with fail
      refine (rf_texts A2 A cap2 cap l l _ (by omega) (by omega) H2.out.2.1 (HL.out.2.1.below (H2.out.1))).mono ?_
      rw [decide_eq_true (rfl : l = l)]
      rintro e w3 ⟨rfl, hb3⟩
      have H3 := Lib.hid (And.intro (H2.out.1.trans (hb3.mono H2.out.1.size)) (fr_row_below H2.out.2.2 hb3))
      clear hb3 H2
      go_wp2_with fail
      refine (KS2.out (T ++ more) _ HTM.out).mono ?_
      intro e w4 hp
      obtain ⟨A3, cap3, rfl, hA3, hc3, hc3', hb4⟩ := KO2.out _ _ _ hp
      have H4 := Lib.hid (And.intro (H3.out.1.trans (hb4.mono H3.out.1.size)) (And.intro hA3 (fr_row_below H3.out.2 hb4)))
      have hlm : (l ++ M).length = l.length + M.length := List.length_append
      have hcl : l.length ≤ cap3 := by omega
      have hlt : decide (((l ++ M).length : Int) < (l.length : Int)) = false := decide_eq_false (by omega)
      have hlt' : decide ((l ++ M).length < l.length) = false := decide_eq_false (by omega)
      have hu2 : decide ((u2 : Int) < (U : Int)) = false := decide_eq_false (by have := HBM.out.2; omega)
      have hu2' : decide (u2 < U) = false := decide_eq_false (by have := HBM.out.2; omega)
      have hTK : Hid (StrsAt w4 A3 l) := Lib.hid (by
        have := hA3.take l.length
        rwa [List.take_left'] at this
        rfl)
      have hsl := sub_pre A3 (l ++ M).length cap3 l.length hcl
      clear hp hA3 hb4 KO2 H3 hlm hc3
      go_wp2_with fail
      refine (rf_texts A3 A cap3 cap l l _ (by omega) (by omega) hTK.out (HL.out.2.1.below H4.out.1)).mono ?_
      rw [decide_eq_true (rfl : l = l)]
      rintro e w5 ⟨rfl, hb5⟩
      have H5 := Lib.hid (And.intro (H4.out.1.trans (hb5.mono H4.out.1.size)) (fr_row_below H4.out.2.2 hb5))
      clear hb5 H4 hTK hsl hlt hlt'
      by_cases hb0 : bad < 0
      · have t0 : decide (bad < 0) = true := decide_eq_true hb0
        clear hb0
        go_wp2
        go_ret
        exact ⟨rfl, H5.out.1⟩
      have t0 : decide (bad < 0) = false := decide_eq_false hb0
      by_cases hb1 : (U : Int) ≤ bad
      · have t1 : decide ((U : Int) ≤ bad) = true := decide_eq_true hb1
        clear hb0 hb1
        go_wp2
        go_ret
        exact ⟨rfl, H5.out.1⟩
      obtain ⟨bd, rfl⟩ := Int.eq_ofNat_of_zero_le (show 0 ≤ bad by omega)
      have t1 : decide ((U : Int) ≤ (bd : Int)) = false := decide_eq_false hb1
      have t1' : decide (U ≤ bd) = false := decide_eq_false (by omega)
      by_cases hy0 : y = 0
      · have t2 : ((y : Int) == 0) = true := by rw [hy0]; rfl
        have t2' : (y == 0) = true := by rw [hy0]; rfl
        clear hb0 hb1 hy0
        go_wp2
        go_ret
        exact ⟨rfl, H5.out.1⟩
      have t2 : ((y : Int) == 0) = false := by simp; omega
      have t2' : (y == 0) = false := by simp; omega
      have HBU := Lib.hid (show bd < U by omega)
      have HY0 := Lib.hid hy0
      clear hb0 hb1 hy0
      obtain ⟨EA', ec', hEv, hEc⟩ := row_ints H5.out.2
      cases hEv
      have HEC := Lib.hid hEc
      clear hEc
      have hcv := run_bytes_of_string (P := Try.prog) w5 9 37 5 T Try.underlying9 Try.underlying37 Try.underlying5
      have hrow := Kq.row_bytes w5.drew T (grownCap w5 T.size 0 5) 5 (bytesRow T (grownCap w5 T.size 0 5)).size (by simp [bytesRow])
      generalize grownCap w5 T.size 0 5 = bc at hcv hrow
      have hrs : w5.drew.heap.size = w5.heap.size := rfl
      rw [hrs] at hrow
      have HROW := Lib.hid hrow
      clear hrow hrs
      go_wp2
      clear hcv
      obtain ⟨wy, hwy⟩ : ∃ wy, wy = (w5.alloc (Obj.cells (bytesRow T bc) 5 ((bytesRow T bc).size, (bytesRow T bc).size + 1))).drew := ⟨_, rfl⟩
      rw [← hwy]
      have HR0 : Hid (Kq.Row wy w5.heap.size (nl T) ∧ Below w5.heap.size w5 wy) := Lib.hid ⟨by rw [hwy]; exact HROW.out, by rw [hwy]; exact (Kq.below_alloc _ _).drew⟩
      clear hwy HROW
      have hpu : bd * a + a ≤ T.size := by
        have h1 : (bd + 1) * a ≤ U * a := Nat.mul_le_mul_right _ HBU.out
        rw [Nat.add_mul, Nat.one_mul] at h1
        have := HTS.out
        omega
      have hbm : (bd : Int) * (a : Int) = ((bd * a : Nat) : Int) := by rw [Int.natCast_mul]
      have HBD2 := Lib.hid (HBD.out bd)
      generalize hp0 : bd * a = p at *
      have HP0 := Lib.hid hp0
      have HPU := Lib.hid hpu
      have hp1 : p ≤ 15000 := by omega
      clear hp0 HBD
      generalize hBB : w5.heap.size = BB at *
      have HBB := Lib.hid hBB
      clear hBB
      go_loopg [24] 4 (fun gi i wr => ∃ k : Nat, k + gi = 4 ∧ i = .int .i64 (k : Int) ∧ Kq.Row wr BB (fl (nl T) p y k) ∧ Below BB w5 wr)
      case atStart => exact ⟨0, by omega, rfl, HR0.out.1, HR0.out.2⟩
      case round =>
        obtain ⟨k, hgk, rfl, hR, hbw⟩ := hrel
        have HM := Lib.hid (And.intro hR hbw)
        have HGI := Lib.hid hgk
        clear hR hbw hgk
        by_cases hk4 : k < 4
        · have d0 : decide ((k : Int) < 4) = true := decide_eq_true (by omega)
          have hi' : p + k < (fl (nl T) p y k).length := by rw [fl_length, nl_length]; have := HA.out.1; omega
          have hcell := HM.out.1.cell (p + k) hi'
          have hfree := HM.out.1.free (p + k) hi'
          have HST := Lib.hid (row_fl HM.out.1 (nl_lt T) hi')
          have hd : ((p : Int) + (k : Int)) < (T.size : Int) := by have := HA.out.1; omega
          have wm : IntKind.i64.wrap ((bd : Int) * (a : Int)) = (p : Int) := by rw [hbm]; exact IntWalk.i64_in _ (by omega)
          have wp : IntKind.i64.wrap (p : Int) = (p : Int) := IntWalk.i64_in _ (by omega)
          have w0 : IntKind.i64.wrap ((p : Int) + (k : Int)) = (p : Int) + (k : Int) := IntWalk.i64_in _ (by omega)
          have w1 : IntKind.i64.wrap (8 * (k : Int)) = 8 * (k : Int) := IntWalk.i64_in _ (by omega)
          have w2 : (0 : Int) ≤ (p : Int) + (k : Int) := by omega
          have w3 : ((p : Int) + (k : Int)).toNat = p + k := by omega
          have w4' : (8 * (k : Int)).toNat = 8 * k := by omega
          have w5' : (0 : Int) ≤ 8 * (k : Int) := by omega
          have HK4 := Lib.hid hk4
          clear hk4
          go_wp2
          go_still_tail 20, (by kernel_rfl)
          change wpList _ _ _ _ _ wr.drew
          clear w0 w1 w2 w3 w4' w5' wm wp
          go_wp2
          go_roundg (3 - k)
          case measure => have := HGI.out; have := HK4.out; omega
          case rel => exact ⟨k + 1, by have := HGI.out; have := HK4.out; omega, by go_num, by rw [show min (8 * k) 32 = 8 * k by have := HK4.out; omega]; exact HST.out, (HM.out.2.setCell (by show BB ≤ BB; exact Nat.le_refl _) _).drew⟩
        · obtain rfl : k = 4 := by have := HGI.out; omega
          have d0 : decide (((4 : Nat) : Int) < 4) = false := by decide
          have HU1 : Hid (1 ≤ l.length) := Lib.hid (by
            rcases Nat.eq_zero_or_pos l.length with h | h
            · have e0 := HEN0.out
              rw [h] at e0
              have : eN a g l 0 = 0 := by unfold eN; rw [List.take_zero]; rfl
              have := HBU.out
              omega
            · exact h)
          clear hk4
          go_wp2
          go_loopg [25] l.length (fun gj i wr2 => ∃ v : Nat, v + gj = l.length ∧ i = .int .i64 (v : Int) ∧ (∀ j, j < v → eN a g l (j + 1) ≤ bd) ∧ Kq.Row wr2 BB (fl (nl T) p y 4) ∧ Below BB w5 wr2)
          case atStart => exact ⟨0, by omega, rfl, fun j hj => absurd hj (Nat.not_lt_zero _), HM.out.1, HM.out.2⟩
          case round =>
            obtain ⟨v, hgv, rfl, hle, hR, hbw⟩ := hrel
            have HV := Lib.hid (And.intro hle (And.intro hR hbw))
            have HGV := Lib.hid hgv
            clear hle hR hbw hgv
            have hvl : v < l.length := by
              rcases Nat.lt_or_ge v l.length with h | h
              · exact h
              · exfalso
                have h1 := HV.out.1 (l.length - 1) (by have := HU1.out; omega)
                have h2 := HEN0.out
                have h3 := HBU.out
                have h4 := HU1.out
                rw [show l.length - 1 + 1 = l.length by omega] at h1
                omega
            have d1 : decide ((v : Int) < (l.length : Int)) = true := decide_eq_true (by omega)
            have d1' : decide (v < l.length) = true := decide_eq_true hvl
            obtain ⟨g9, rfl, hg9, hc9⟩ := HEC.out v hvl
            have c9 := (HV.out.2.2.cell (p := ⟨g9, v, none⟩) hg9).trans hc9
            have hvi : (v : Int) < (l.length : Int) := by omega
            clear hc9 hg9
            obtain ⟨E, hE⟩ : ∃ E, E = eN a g l (v + 1) := ⟨_, rfl⟩
            rw [← hE] at c9
            have HEE := Lib.hid hE
            have HVL := Lib.hid hvl
            have hv10 : v ≤ 10 := by omega
            clear hE
            by_cases hEb : E ≤ bd
            · have t3 : decide ((E : Int) ≤ (bd : Int)) = true := decide_eq_true (by omega)
              have t3' : decide (E ≤ bd) = true := decide_eq_true hEb
              have HEB := Lib.hid hEb
              clear hEb hvl
              go_wp2
              go_roundg (l.length - (v + 1))
              case measure => have := HGV.out; have := HVL.out; omega
              case rel => exact ⟨v + 1, by have := HVL.out; omega, by go_num, fun j hj => by
                rcases Nat.lt_or_ge j v with h | h
                · exact HV.out.1 j h
                · obtain rfl : j = v := by omega
                  rw [← HEE.out]; exact HEB.out, HV.out.2.1, HV.out.2.2⟩
            · have t3 : decide ((E : Int) ≤ (bd : Int)) = false := decide_eq_false (by omega)
              have t3' : decide (E ≤ bd) = false := decide_eq_false hEb
              have HRES : Hid ((scanAll a g (txt (fl (nl T) p y 4))).1 = l.take v) := Lib.hid (by
                have h := HBD2.out v
                refine h HY0.out hvl ?_ ?_
                · cases v with
                  | zero => rw [List.take_zero]; exact Nat.zero_le _
                  | succ v => have := HV.out.1 v (by omega); rw [HEN.out] at this; exact this
                · rw [← HEN.out, ← HEE.out]; omega)
              clear hEb
              have hl4 : (fl (nl T) p y 4).length = T.size := by rw [fl_length, nl_length]
              have hcv2 := Kq.Row.text (P := Try.prog) HV.out.2.1 (fl_lt _ (nl_lt T) p y 4) (src := 37) (dst := 9) bc Try.underlying37 Try.underlying5 Try.underlying9
              rw [hl4] at hcv2
              have hcv3 : (convert 37 9 (.slice (some ⟨BB, 0, none⟩) T.size bc)).run Try.prog wr = .ok (.string (txt (fl (nl T) p y 4))) wr := hcv2
              have hzt : (txt (fl (nl T) p y 4)).size ≤ 30000 := by rw [txt_size, hl4]; omega
              have HZT := Lib.hid hzt
              clear hcv2 hl4 hzt
              generalize txt (fl (nl T) p y 4) = T4 at *
              obtain ⟨r, hr⟩ : ∃ r, r = scanAll a g T4 := ⟨_, rfl⟩
              have HR := Lib.hid hr
              rw [← hr] at HRES
              clear hr
              obtain ⟨r1, r2⟩ := r
              have hr1 : r1 = l.take v := HRES.out
              subst hr1
              have hsl := sub_pre (some ⟨g9, 0, none⟩) 0 0 0 (Nat.le_refl _)
              have hsl2 := sub_pre A l.length cap v (by have := HL.out.2.2.1; omega)
              clear hsl
              have hlv : (l.take v).length = v := by rw [List.length_take]; omega
              have KT := Lib.hid (fun w A4 cap4 (h1 : StrsAt w A4 (l.take v)) (h2 : StrsAt w A (l.take v)) => rf_texts A4 A cap4 cap (l.take v) (l.take v) w (by rw [hlv]; omega) (by rw [hlv]; omega) h1 h2)
              rw [hlv, decide_eq_true (rfl : l.take v = l.take v)] at KT
              go_wp2_with fail
              refine (KS2.out T4 _ HZT.out).mono ?_
              intro e w9 hp
              obtain ⟨A4, cap4, rfl, hA4, -, -, hb9⟩ := scan_open_cap HR.out.symm hp
              rw [hlv]
              have hbW : Below W.heap.size W wr := H5.out.1.trans (HV.out.2.2.mono (by rw [← HBB.out]; exact H5.out.1.size))
              have H9 := Lib.hid (hbW.trans (hb9.mono hbW.size))
              have HA4 := Lib.hid hA4
              clear hp hb9 hA4 hcv3 hbW hlv
              go_wp2_with fail
              refine (KT.out _ A4 cap4 HA4.out ((HL.out.2.1.below H9.out).take v)).mono ?_
              rintro e w10 ⟨rfl, hb10⟩
              have H10 := Lib.hid (H9.out.trans (hb10.mono H9.out.size))
              clear hb10
              go_wp2
              go_ret
              exact ⟨rfl, H10.out⟩
set_option maxRecDepth 100000 in
set_option maxHeartbeats 1000000 in
theorem early (a : Int) (g : Nat) (A : Option Addr) (cap : Nat) (l : List ByteArray) (bad y : Int) (more : ByteArray) (W : World) (hl : l.length ≤ maxLen) (hm : more.size ≤ maxLen) (h : ¬ (64 ≤ a ∧ a ≤ 512 ∧ l.length ≤ 10 ∧ more.size ≤ 1000)) :
    Calls Try.prog 5 #[.int .i64 a, .int .u64 (g : Int), .slice A l.length cap, .int .i64 bad, .int .u32 y, .string more] W fun e w' => e = .returned (.bool true) ∧ Below W.heap.size W w' := by
  unfold maxLen at hl hm
  by_cases h0 : a < 64
  · have d00 : decide (a < 64) = true := decide_eq_true (by omega)
    clear h h0
    go_enter Try.func5, Try.ntmps5
    go_wp2_with fail
    refine (fr_awake _).mono ?_
    rintro e w1 ⟨rfl, rfl⟩
    go_wp2
    go_ret
    exact ⟨rfl, Below.refl _ _⟩
  have d00 : decide (a < 64) = false := decide_eq_false (by omega)
  by_cases h1 : 512 < a
  · have d10 : decide (512 < a) = true := decide_eq_true (by omega)
    clear h h0 h1
    go_enter Try.func5, Try.ntmps5
    go_wp2_with fail
    refine (fr_awake _).mono ?_
    rintro e w1 ⟨rfl, rfl⟩
    go_wp2
    go_ret
    exact ⟨rfl, Below.refl _ _⟩
  have d10 : decide (512 < a) = false := decide_eq_false (by omega)
  by_cases h2 : 10 < l.length
  · have d20 : decide ((10 : Int) < (l.length : Int)) = true := decide_eq_true (by omega)
    have d21 : decide (10 < l.length) = true := decide_eq_true (by omega)
    clear h h0 h1 h2
    go_enter Try.func5, Try.ntmps5
    go_wp2_with fail
    refine (fr_awake _).mono ?_
    rintro e w1 ⟨rfl, rfl⟩
    go_wp2
    go_ret
    exact ⟨rfl, Below.refl _ _⟩
  have d20 : decide ((10 : Int) < (l.length : Int)) = false := decide_eq_false (by omega)
  have d21 : decide (10 < l.length) = false := decide_eq_false (by omega)
  by_cases h3 : 1000 < more.size
  · have d30 : decide ((1000 : Int) < (more.size : Int)) = true := decide_eq_true (by omega)
    have d31 : decide (1000 < more.size) = true := decide_eq_true (by omega)
    clear h h0 h1 h2 h3
    go_enter Try.func5, Try.ntmps5
    go_wp2_with fail
    refine (fr_awake _).mono ?_
    rintro e w1 ⟨rfl, rfl⟩
    go_wp2
    go_ret
    exact ⟨rfl, Below.refl _ _⟩
  have d30 : decide ((1000 : Int) < (more.size : Int)) = false := decide_eq_false (by omega)
  have d31 : decide (1000 < more.size) = false := decide_eq_false (by omega)
  exact absurd ⟨by omega, by omega, by omega, by omega⟩ h
theorem frameBack_walk (a g : Int) (v : Value) (bad y : Int) (more : ByteArray) {W : World} (ha : (Lit.int .i64 a).wf = true) (hg : (Lit.int .u64 g).wf = true)
    (hd : ∃ A cap l, v = .slice A l.length cap ∧ l.length ≤ maxLen ∧ (∀ s ∈ l, s.size ≤ maxLen) ∧ StrsAt W A l ∧ l.length ≤ cap ∧ cap ≤ maxLen) (hb : (Lit.int .i64 bad).wf = true) (hy : (Lit.int .u32 y).wf = true) (hm : more.size ≤ maxLen) :
    Calls Try.prog 5 #[.int .i64 a, .int .u64 g, v, .int .i64 bad, .int .u32 y, .string more] W fun e w' => e = .returned (.bool true) ∧ Below W.heap.size W w' := by
  obtain ⟨g, rfl, hg'⟩ := u64_nat' hg
  obtain ⟨A, cap, l, rfl, hl, hs, hA, hc⟩ := hd
  by_cases h : 64 ≤ a ∧ a ≤ 512 ∧ l.length ≤ 10 ∧ more.size ≤ 1000
  · obtain ⟨n, rfl⟩ := Int.eq_ofNat_of_zero_le (show 0 ≤ a by omega)
    simp [Lit.wf, IntKind.min, IntKind.max, IntKind.signed, IntKind.bits] at hy
    obtain ⟨z, rfl⟩ := Int.eq_ofNat_of_zero_le hy.1
    exact main n g A cap l bad z more W (by omega) (by omega) h.2.2.1 h.2.2.2 hg' (by unfold CrcM.M; omega) hs hA hc
  · exact early a g A cap l bad y more W hl hm h
end Go.Proofs.Ytfbjfleagilikaa.frameBack
