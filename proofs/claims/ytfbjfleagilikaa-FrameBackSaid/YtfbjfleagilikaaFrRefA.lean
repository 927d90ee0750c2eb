/- Contracts of carrackref05.Right, Parts, sector. No condition but that numbers fit. -/
import Derived.WalkSpells
import Derived.Deep.RegionHeld
import Derived.Laws.MakeOwn
import Derived.Test.YtfbjfleagilikaaHdRPut
import Derived.Test.YtfbjfleagilikaaFrMay
namespace Go.Proofs.Ytfbjfleagilikaa
open Go.RowKit
set_option linter.unusedVariables false
theorem nParts_more (a b : Nat) (ha : 64 ≤ a) (h : a - 25 < b) : nParts a b = nParts a (b - (a - 25)) + 1 := by
  obtain ⟨r, hr⟩ : ∃ r, r = a - 25 := ⟨_, rfl⟩
  unfold nParts
  rw [← hr] at h ⊢
  have e : b + r - 1 = (b - r + r - 1) + r := by omega
  rw [e, Nat.add_div_right _ (by omega)]
  have : 1 ≤ (b - r + r - 1) / r := (Nat.le_div_iff_mul_le (by omega)).2 (by omega)
  omega
theorem nParts_one (a b : Nat) (ha : 64 ≤ a) (h : b ≤ a - 25) : nParts a b = 1 := by
  have := nParts_at a 0 b ha
  rw [Nat.zero_mul, Nat.zero_add] at this
  exact this.2 ⟨h, fun h => absurd h (Nat.lt_irrefl _)⟩
theorem nParts_le (a b : Nat) (ha : 64 ≤ a) (hb : b ≤ 4096) : 1 ≤ nParts a b ∧ nParts a b ≤ 106 := by
  refine ⟨by unfold nParts; omega, ?_⟩
  obtain ⟨r, hr⟩ : ∃ r, r = a - 25 := ⟨_, rfl⟩
  unfold nParts
  rw [← hr]
  have h1 : (b + r - 1) / r < 107 := Nat.div_lt_of_lt_mul (by omega)
  omega
set_option maxRecDepth 100000 in
set_option maxHeartbeats 1000000 in
theorem rf_parts (a b : Int) (w : World) : Calls Try.prog 13 #[.int .i64 a, .int .i64 b] w fun x w' => x = .returned (.int .i64 (frParts a b)) ∧ w = w' := by
  unfold frParts
  by_cases h0 : FrSz a
  · have D0 := Lib.hid (show decide (64 ≤ a ∧ a ≤ 512) = true from decide_eq_true h0)
    obtain ⟨n, rfl⟩ := Int.eq_ofNat_of_zero_le (show 0 ≤ a by have := h0.1; omega)
    have hn : 64 ≤ n ∧ n ≤ 512 := by unfold FrSz at h0; omega
    by_cases h1 : b < 0
    · have d1 : decide (b < 0) = true := decide_eq_true h1
      rw [if_neg (by omega)]
      clear h0 h1
      go_enter Try.func13, Try.ntmps13
      go_wp2_with fail
      refine (rf_fits _ _).mono ?_
      rw [D0.out]
      rintro x w1 ⟨rfl, rfl⟩
      go_wp2
      go_ret
      exact ⟨rfl, rfl⟩
    have d1 : decide (b < 0) = false := decide_eq_false h1
    by_cases h2 : 4096 < b
    · have d2 : decide (4096 < b) = true := decide_eq_true h2
      rw [if_neg (by omega)]
      clear h0 h1 h2
      go_enter Try.func13, Try.ntmps13
      go_wp2_with fail
      refine (rf_fits _ _).mono ?_
      rw [D0.out]
      rintro x w1 ⟨rfl, rfl⟩
      go_wp2
      go_ret
      exact ⟨rfl, rfl⟩
    have d2 : decide (4096 < b) = false := decide_eq_false h2
    rw [if_pos ⟨h0, by omega, by omega⟩]
    obtain ⟨m, rfl⟩ := Int.eq_ofNat_of_zero_le (show 0 ≤ b by omega)
    have hm : m ≤ 4096 := by omega
    have HM := Lib.hid (And.intro hn hm)
    rw [Int.toNat_natCast, Int.toNat_natCast]
    have e1 : decide ((m : Int) < 0) = false := d1
    have e2 : decide (4096 < m) = false := decide_eq_false (by omega)
    have a1 : (64 : Int) ≤ (n : Int) := by omega
    have a2 : (n : Int) ≤ 512 := by omega
    clear h0 h1 h2 hn hm
    go_enter Try.func13, Try.ntmps13
    go_wp2_with fail
    refine (rf_fits _ _).mono ?_
    rw [D0.out]
    rintro x w1 ⟨rfl, rfl⟩
    clear D0
    go_wp2
    clear d1 d2 e1 e2
    go_loop [1, 5] (fun b k => ∃ (bn kn : Nat), b = .int .i64 (bn : Int) ∧ k = .int .i64 (kn : Int) ∧ bn ≤ m ∧ 1 ≤ kn ∧ nParts n m + 1 = kn + nParts n bn) (fun b _ => (intOf b).toNat)
    case atStart => exact ⟨m, 1, rfl, rfl, Nat.le_refl _, Nat.le_refl _, by omega⟩
    case round =>
      obtain ⟨bn, kn, rfl, rfl, hbm, hk1, hrel⟩ := hrel
      have hle := (nParts_le n m HM.out.1.1 HM.out.2).2
      have hbl := HM.out.2
      have hkl : kn ≤ 106 := by have := (nParts_le n bn HM.out.1.1 (by omega)).1; omega
      by_cases hlt : n - 25 < bn
      · have g1 : decide ((n : Int) - 25 < (bn : Int)) = true := decide_eq_true (by omega)
        have hmo := nParts_more n bn HM.out.1.1 hlt
        have hsub : (bn : Int) - ((n : Int) - 25) = ((bn - (n - 25) : Nat) : Int) := by omega
        have hbl2 : bn ≤ 4096 := by omega
        have HR := Lib.hid (And.intro hmo (And.intro hrel (And.intro hbm hlt)))
        have hlt2 : bn - (n - 25) ≤ 4096 := by omega
        have hlt3 : bn - (n - 25) < bn := by have := HM.out.1.1; omega
        have HL := Lib.hid hlt3
        clear hmo hrel hbm hlt hle hbl hlt3
        generalize bn - (n - 25) = b2 at *
        go_wp2
        go_round
        case rel => exact ⟨b2, kn + 1, rfl, by go_num, by have := HL.out; have := HR.out; omega, by omega, by have := HR.out; omega⟩
        case measure => have := HL.out; simp [intOf]; omega
      · have g1 : decide ((n : Int) - 25 < (bn : Int)) = false := decide_eq_false (by omega)
        have hon := nParts_one n bn HM.out.1.1 (by omega)
        obtain rfl : kn = nParts n m := by omega
        clear hlt hrel
        go_wp2
        go_ret
        exact ⟨rfl, rfl⟩
  · have D0 := Lib.hid (show decide (64 ≤ a ∧ a ≤ 512) = false from decide_eq_false h0)
    rw [if_neg (fun h => h0 h.1)]
    clear h0
    go_enter Try.func13, Try.ntmps13
    go_wp2_with fail
    refine (rf_fits _ _).mono ?_
    rw [D0.out]
    rintro x w1 ⟨rfl, rfl⟩
    go_wp2
    go_ret
    exact ⟨rfl, rfl⟩
theorem num_2 (g : Nat) (hg : g < 65536) (w : World) : Calls Try.prog 36 #[.int .u64 (g : Int), .int .i64 2] w fun x w' => x = .returned (.string (txt (hi2 g))) ∧ Below w.heap.size w w' := by
  have := ref_num g 2 w (by unfold M64; omega) (by decide)
  rwa [be2 g hg] at this
theorem sec_text (a : Nat) (p : FrP) (hi : p.i < 256) (hn : p.n < 256) (hd : p.d.size < 65536) :
    ((((((⟨#[82]⟩ ++ txt (num8 p.g)) ++ txt (num8 p.x)) ++ txt [p.i]) ++ txt [p.n]) ++ txt (hi2 p.d.size)) ++ p.d) ++ txt (List.replicate (a - 25 - p.d.size) 0) = txt (frBody a p) := by
  apply nl_inj
  rw [nl_append, nl_append, nl_append, nl_append, nl_append, nl_append, nl_append, nl_txt _ (num8_lt _), nl_txt _ (num8_lt _), nl_txt [p.i] (by simpa using hi), nl_txt [p.n] (by simpa using hn), nl_txt _ (hi2_lt _ hd), nl_txt (List.replicate (a - 25 - p.d.size) 0) (by intro b hb; rw [List.eq_of_mem_replicate hb]; decide), nl_txt _ (frBody_lt a p hi hn hd)]
  unfold frBody
  simp only [List.append_assoc, List.nil_append]
  rfl
set_option maxRecDepth 100000 in
set_option maxHeartbeats 2000000 in
theorem rf_sector (a : Nat) (p : FrP) (w : World) (ha : 64 ≤ a) (h5 : a ≤ 512) (hg : p.g < M64) (hx : p.x < M64) (hi : p.i ≤ 255) (hn : p.n ≤ 255) (hd : p.d.size ≤ a - 25) :
    Calls Try.prog 20 #[.int .i64 (a : Int), .int .u64 (p.g : Int), .int .u64 (p.x : Int), .int .i64 (p.i : Int), .int .i64 (p.n : Int), .string p.d] w fun x w' => x = .returned (.string (frSec a p)) ∧ Below w.heap.size w w' := by
  have HST := Lib.hid (sec_text a p (by omega) (by omega) (by omega))
  have HPU : Hid (sealT (txt (frBody a p)) = frSec a p) := Lib.hid rfl
  have HBZ : Hid ((txt (frBody a p)).size = a - 4) := Lib.hid (by rw [txt_size, frBody_length a p (by omega) hd])
  generalize txt (frBody a p) = FB at *
  generalize frSec a p = FS at *
  obtain ⟨g, x, i, n, d⟩ := p
  simp only at hi hn hd hg hx HST ⊢
  have K1 := Lib.hid (fun w => num_8 g hg w)
  have K2 := Lib.hid (fun w => num_8 x hx w)
  have K3 := Lib.hid (fun w => num_1 i (by omega) w)
  have K4 := Lib.hid (fun w => num_1 n (by omega) w)
  have K5 := Lib.hid (fun w => num_2 d.size (by omega) w)
  have z1 : (txt (num8 g)).size = 8 := by rw [txt_size]; rfl
  have z2 : (txt (num8 x)).size = 8 := by rw [txt_size]; rfl
  have z3 : (txt [i]).size = 1 := by rw [txt_size]; rfl
  have z4 : (txt [n]).size = 1 := by rw [txt_size]; rfl
  have z5 : (txt (hi2 d.size)).size = 2 := by rw [txt_size]; rfl
  have a0 : (64 : Int) ≤ (a : Int) := by omega
  have a1 : (a : Int) ≤ 512 := by omega
  have w3 : IntKind.u64.wrap (i : Int) = (i : Int) := IntWalk.u64_in _ (by omega)
  have w4 : IntKind.u64.wrap (n : Int) = (n : Int) := IntWalk.u64_in _ (by omega)
  have w5 : IntKind.u64.wrap (d.size : Int) = (d.size : Int) := IntWalk.u64_in _ (by omega)
  have HN := Lib.hid (And.intro ha (And.intro h5 hd))
  clear hg hx hi hn ha h5
  generalize txt (num8 g) = T1 at *
  generalize txt (num8 x) = T2 at *
  generalize txt [i] = T3 at *
  generalize txt [n] = T4 at *
  generalize txt (hi2 d.size) = T5 at *
  have HZ := Lib.hid (And.intro z1 (And.intro z2 (And.intro z3 (And.intro z4 z5))))
  have y1 : T1.size ≤ 8 := by omega
  have y2 : T2.size ≤ 8 := by omega
  have y3 : T3.size ≤ 1 := by omega
  have y4 : T4.size ≤ 1 := by omega
  have y5 : T5.size ≤ 2 := by omega
  have y6 : d.size ≤ 487 := by omega
  clear z1 z2 z3 z4 z5 hd
  go_enter Try.func20, Try.ntmps20
  go_wp2_with fail
  refine (K1.out _).mono ?_
  rintro e w1 ⟨rfl, b1⟩
  have B1 := Lib.hid b1
  clear b1 K1
  go_wp2_with fail
  refine (K2.out _).mono ?_
  rintro e w2 ⟨rfl, b2⟩
  have B2 := Lib.hid (B1.out.trans (b2.mono B1.out.size))
  clear b2 K2 B1
  go_wp2_with fail
  refine (K3.out _).mono ?_
  rintro e w3 ⟨rfl, b3⟩
  have B3 := Lib.hid (B2.out.trans (b3.mono B2.out.size))
  clear b3 K3 B2
  go_wp2_with fail
  refine (K4.out _).mono ?_
  rintro e w4 ⟨rfl, b4⟩
  have B4 := Lib.hid (B3.out.trans (b4.mono B3.out.size))
  clear b4 K4 B3
  go_wp2_with fail
  refine (K5.out _).mono ?_
  rintro e w5 ⟨rfl, b5⟩
  have B5 := Lib.hid (B4.out.trans (b5.mono B4.out.size))
  clear b5 K5 B4
  have HB1 : Hid ((⟨#[82]⟩ ++ T1 ++ T2 ++ T3 ++ T4 ++ T5 ++ d : ByteArray).size = 21 + d.size) := Lib.hid (by
    have h := HZ.out
    simp only [ByteArray.size_append]
    rw [h.1, h.2.1, h.2.2.1, h.2.2.2.1, h.2.2.2.2, show (⟨#[82]⟩ : ByteArray).size = 1 from rfl])
  obtain ⟨b4, hb4⟩ : ∃ b, b = (⟨#[82]⟩ ++ T1 ++ T2 ++ T3 ++ T4 : ByteArray) := ⟨_, rfl⟩
  have hz4 : b4.size ≤ 19 := by
    have h := HZ.out
    rw [hb4]
    simp only [ByteArray.size_append]
    rw [h.1, h.2.1, h.2.2.1, h.2.2.2.1, show (⟨#[82]⟩ : ByteArray).size = 1 from rfl]
    decide
  rw [← hb4] at HB1 HST ⊢
  clear hb4
  obtain ⟨b5, hb5⟩ : ∃ b, b4 ++ T5 = b := ⟨_, rfl⟩
  have hz5 : b5.size ≤ 21 := by rw [← hb5, ByteArray.size_append]; omega
  rw [hb5] at HB1 HST
  obtain ⟨bb, hbb⟩ : ∃ b, b5 ++ d = b := ⟨_, rfl⟩
  rw [hbb] at HB1 HST
  have s1 : (bb.size : Int) = 21 + (d.size : Int) := by rw [HB1.out]; omega
  have y7 : (d.size : Int) ≤ (a : Int) - 25 := by have := HN.out; omega
  have hmk : ∀ w, (Instr.makeSlice 37 (.int .i64 ((a : Int) - 4 - (bb.size : Int))) (.int .i64 ((a : Int) - 4 - (bb.size : Int)))).run Try.prog w = .ok (.slice (some ⟨w.heap.size, 0, none⟩) (a - 25 - d.size) (a - 25 - d.size)) (w.alloc (.cells (zrow (a - 25 - d.size)) 5)) := fun w => mk_bytes w _ (a - 25 - d.size) (by omega) (by omega)
  have hcv := fun w => cv_zeros (a - 25 - d.size) w
  have hzs : (txt (List.replicate (a - 25 - d.size) 0)).size ≤ 512 := by rw [txt_size, List.length_replicate]; omega
  have HD2 := Lib.hid (And.intro s1 y7)
  have s2 : 21 ≤ (bb.size : Int) := by omega
  have s3 : (bb.size : Int) ≤ 508 := by omega
  generalize txt (List.replicate (a - 25 - d.size) 0) = ZZ at *
  have HSZ : Hid ((bb ++ ZZ).size + 4 ≤ maxLen) := Lib.hid (by rw [ByteArray.size_append]; unfold maxLen; omega)
  have s4 : (bb.size : Int) ≤ (a : Int) - 4 := by omega
  clear s1 y7
  go_wp2_with fail
  refine (ref_seal (bb ++ ZZ) _ HSZ.out).mono ?_
  rw [HST.out, HPU.out]
  rintro e w8 ⟨rfl, b8⟩
  have HF := Lib.hid ((B5.out.trans ((Kq.below_alloc w5 (.cells (zrow (a - 25 - d.size)) 5)).mono B5.out.size)).trans (b8.mono (Nat.le_trans B5.out.size (Kq.below_alloc w5 _).size)))
  clear b8
  go_wp2
  go_ret
  exact ⟨rfl, HF.out⟩
end Go.Proofs.Ytfbjfleagilikaa
