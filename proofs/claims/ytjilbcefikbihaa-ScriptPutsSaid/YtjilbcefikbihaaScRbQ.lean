/- carrackref23's Bytes of replies. Condition: at most 40 replies, of at most 600 codes each. -/
import Derived.WalkSpells
import Derived.Outline
import Derived.Deep.RegionHeld
import Derived.Test.YtjilbcefikbihaaHeldLastQ
import Derived.Test.YtjilbcefikbihaaScByQ
import Derived.Test.YtjilbcefikbihaaScNumQ
namespace Go.Proofs.Ytjilbcefikbihaa
open Go.RowKit
set_option linter.unusedVariables false
set_option linter.unusedSimpArgs false
theorem b256_one (x : Int) : b256 [(x % 256).toNat] := fun y hy => by have := List.mem_singleton.1 hy; omega
theorem b256_codes (l : List Int) : b256 (l.map (fun x => (x % 256).toNat)) := fun y hy => by
  obtain ⟨x, _, h⟩ := List.mem_map.1 hy
  omega
set_option maxRecDepth 100000 in
set_option maxHeartbeats 4000000 in
theorem rb_bytes (A : Option Addr) (cap0 : Nat) (rs : List RpV) (w : World) (hA : RpsAt w A rs) (hok : ∀ r ∈ rs, RpOk r) (hl : rs.length ≤ 40) :
    Calls Try.prog 13 #[.slice A rs.length cap0] w fun x w' => x = .returned (.string (txt (encRp rs))) ∧ Below w.heap.size w w' := by
  have HA := Lib.hid (And.intro hA hok)
  have HL := Lib.hid hl
  clear hA hok
  go_enter Try.func13, Try.ntmps13
  go_wp2
  go_loopw [3, 4] (fun t u wr => ∃ j : Nat, j ≤ rs.length ∧ u = .int .i64 (j : Int) ∧ t = .string (txt (encRp (rs.take j))) ∧ Below w.heap.size w wr) (fun _ u _ => rs.length - (intOf u).toNat)
  case atStart => exact ⟨0, Nat.zero_le _, rfl, rfl, Below.refl _ _⟩
  case round =>
    obtain ⟨j, hj, rfl, rfl, hbel⟩ := hrel
    by_cases hlt : j < rs.length
    · obtain ⟨r, hr⟩ : ∃ r, r = rs[j]'hlt := ⟨_, rfl⟩
      have hj6 : j ≤ 40 := by omega
      have HTK : Hid (encRp (rs.take (j + 1)) = encRp (rs.take j) ++ r.enc ∧ RpOk r ∧ (encRp (rs.take j)).length ≤ 10680) := Lib.hid (by
        refine ⟨by rw [List.take_succ_eq_append_getElem hlt, encRp_snoc, ← hr], HA.out.2 r (by rw [hr]; exact List.getElem_mem _), ?_⟩
        have h1 := encRp_len (rs.take j)
        have h2 : (rs.take j).length ≤ 40 := by rw [List.length_take]; have := HL.out; omega
        omega)
      obtain ⟨b, o, CA, cap, rfl, hb, c0, c1, c2, c3, hcap, hcw⟩ := HA.out.1 j hlt
      rw [← hr] at c0 c1 c2 c3 hcap hcw
      obtain ⟨acc, hacc⟩ : ∃ z, z = encRp (rs.take j) := ⟨_, rfl⟩
      have HAC : Hid (b256 acc) := Lib.hid (by rw [hacc]; exact encRp_lt _)
      rw [← hacc] at HTK ⊢
      obtain ⟨re, rq, rn, cs⟩ := r
      simp only at c0 c1 c2 c3 hcap hcw
      obtain ⟨m, hm⟩ : ∃ z, z = min cs.length 255 := ⟨_, rfl⟩
      have HM := Lib.hid (And.intro hm hcap)
      have HCW := Lib.hid hcw
      have HBL := Lib.hid hb
      have HC3 : Hid (∀ wz : World, Below w.heap.size w wz → wz.cell? ⟨b, o + j * 4 + 3, none⟩ = some (.slice CA cs.length cap)) := Lib.hid (fun wz h => (h.cell (p := ⟨b, _, none⟩) hb).trans c3)
      have HLT := Lib.hid hlt
      have HB := Lib.hid hbel
      have hS : wr.drew.cell? ⟨b, o + j * 4, none⟩ = some (.int .i64 re) ∧ wr.drew.cell? ⟨b, o + j * 4 + 1, none⟩ = some (.int .u64 rq) ∧ wr.drew.cell? ⟨b, o + j * 4 + 2, none⟩ = some (.int .i64 rn) := ⟨(hbel.cell (p := ⟨b, _, none⟩) hb).trans c0, (hbel.cell (p := ⟨b, _, none⟩) hb).trans c1, (hbel.cell (p := ⟨b, _, none⟩) hb).trans c2⟩
      have d3 : wr.cell? ⟨b, o + j * 4 + 3, none⟩ = some (.slice CA cs.length cap) := HC3.out wr hbel
      have t1 : decide ((j : Int) < (rs.length : Int)) = true := decide_eq_true (by omega)
      have t2 : decide (j < rs.length) = true := decide_eq_true hlt
      have hi0 : (j : Int) < (rs.length : Int) := by omega
      clear hr hlt hj hbel hcap hcw hacc hb c0 c1 c2 c3
      have HGT : Hid ((255 < cs.length → m = 255) ∧ (¬ 255 < cs.length → m = cs.length)) := Lib.hid (by omega)
      by_cases h255 : 255 < cs.length
      case' pos =>
        have u0 : decide ((255 : Int) < (cs.length : Int)) = true := decide_eq_true (by omega)
        have u1 : decide (255 < cs.length) = true := decide_eq_true h255
        have u2 : (255 : Int) < (cs.length : Int) := by omega
        have HME := Lib.hid (HGT.out.1 h255)
        clear hm h255
        go_wp2
        clear u0 u1 u2
        rw [show (Value.int IntKind.i64 255) = Value.int .i64 ((m : Nat) : Int) by rw [HME.out]; rfl]
      case' neg =>
        have u0 : decide ((255 : Int) < (cs.length : Int)) = false := decide_eq_false (by omega)
        have u1 : decide (255 < cs.length) = false := decide_eq_false h255
        have u2 : ¬ (255 : Int) < (cs.length : Int) := by omega
        have HME := Lib.hid (HGT.out.2 h255)
        clear hm h255
        go_wp2
        clear u0 u1 u2
        rw [← HME.out]
      all_goals
        refine wp_region_held_drew (S := fun cur => cur.cell? ⟨b, o + j * 4, none⟩ = some (.int .i64 re) ∧ cur.cell? ⟨b, o + j * 4 + 1, none⟩ = some (.int .u64 rq) ∧ cur.cell? ⟨b, o + j * 4 + 2, none⟩ = some (.int .i64 rn)) (by kernel_rfl) hS (fun hS0 => ?_)
        obtain ⟨v0, hv0⟩ : ∃ z, z = wr.drew := ⟨_, rfl⟩
        have HDv0 : Hid (Below w.heap.size w v0) := Lib.hid (by rw [hv0]; exact HB.out.drew)
        rw [← hv0] at hS0 ⊢
        clear hv0 hS
        obtain ⟨T0, hT0⟩ : ∃ z, z = txt acc := ⟨_, rfl⟩
        obtain ⟨T1, hT1⟩ : ∃ z, z = txt (be (u64 re) 1) := ⟨_, rfl⟩
        obtain ⟨T2, hT2⟩ : ∃ z, z = txt (num8 rq.toNat) := ⟨_, rfl⟩
        obtain ⟨T3, hT3⟩ : ∃ z, z = txt (be (u64 rn) 2) := ⟨_, rfl⟩
        obtain ⟨T4, hT4⟩ : ∃ z, z = txt (be (u64 (m : Int)) 1) := ⟨_, rfl⟩
        have hz0 : T0.size ≤ 10680 := by rw [hT0, txt_size]; exact HTK.out.2.2
        have hz1 : T1.size = 1 := by rw [hT1, txt_size, be_len]
        have hz2 : T2.size = 8 := by rw [hT2, txt_size]; rfl
        have hz3 : T3.size = 2 := by rw [hT3, txt_size, be_len]
        have hz4 : T4.size = 1 := by rw [hT4, txt_size, be_len]
        have g1 : ¬ 9223372036854775807 < T0.size + T1.size := by omega
        have g2 : ¬ 9223372036854775807 < T0.size + T1.size + T2.size := by omega
        have g3 : ¬ 9223372036854775807 < T0.size + T1.size + T2.size + T3.size := by omega
        have g4 : ¬ 9223372036854775807 < T0.size + T1.size + T2.size + T3.size + T4.size := by omega
        have g2' : ¬ 9223372036854775807 < (T0 ++ T1).size + T2.size := by rw [ByteArray.size_append]; omega
        have g3' : ¬ 9223372036854775807 < (T0 ++ T1 ++ T2).size + T3.size := by rw [ByteArray.size_append, ByteArray.size_append]; omega
        have g4' : ¬ 9223372036854775807 < (T0 ++ T1 ++ T2 ++ T3).size + T4.size := by rw [ByteArray.size_append, ByteArray.size_append, ByteArray.size_append]; omega
        have HALL : Hid (T0 ++ T1 ++ T2 ++ T3 ++ T4 = txt (acc ++ [(re % 256).toNat] ++ num8 rq.toNat ++ [(rn / 256 % 256).toNat] ++ [(rn % 256).toNat] ++ [m])) := Lib.hid (by
          rw [hT0, hT1, hT2, hT3, hT4, be1_u64, be2_u64, be1_u64]
          have hm : ((m : Int) % 256).toNat = m := by have := HM.out.1; omega
          rw [hm]
          have b0 := HAC.out
          have b1 := b256_one re
          have b2 : b256 (num8 rq.toNat) := b256_num8 _
          have b3 : b256 [(rn / 256 % 256).toNat, (rn % 256).toNat] := (b256_one (rn / 256)).app (b256_one rn)
          have b4 : b256 [m] := fun y hy => by have := List.mem_singleton.1 hy; have := HM.out.1; omega
          rw [txt_appS _ _ b0 b1, txt_appS _ _ (b0.app b1) b2, txt_appS _ _ ((b0.app b1).app b2) b3, txt_appS _ _ (((b0.app b1).app b2).app b3) b4]
          simp only [List.append_assoc, List.cons_append, List.nil_append])
        have HQ : Hid (rq = ((rq.toNat : Nat) : Int) ∧ rq.toNat < M64) := Lib.hid (by have := HTK.out.2.1.1; simp only at this; unfold M64; omega)
        have HNB := Lib.hid (fun wz => ref_num rq.toNat 8 wz HQ.out.2 (by decide))
        have hq8 : be rq.toNat 8 = num8 rq.toNat := be8 _
        have HT := Lib.hid (And.intro hT0 (And.intro hT1 (And.intro hT2 (And.intro hT3 hT4))))
        have HN1 : Hid (∀ wz, Calls Try.prog 24 #[.int .i64 re, .int .i64 1] wz fun x w' => x = .returned (.string T1) ∧ Below wz.heap.size wz w') := Lib.hid (fun wz => by rw [hT1]; exact rf_num re 1 (by decide) wz)
        have HN2 : Hid (∀ wz, Calls Try.prog 26 #[.int .u64 rq, .int .i64 8] wz fun x w' => x = .returned (.string T2) ∧ Below wz.heap.size wz w') := Lib.hid (fun wz => by
          have h := HNB.out wz
          rw [← HQ.out.1, hq8, ← hT2] at h
          exact h)
        have HN3 : Hid (∀ wz, Calls Try.prog 24 #[.int .i64 rn, .int .i64 2] wz fun x w' => x = .returned (.string T3) ∧ Below wz.heap.size wz w') := Lib.hid (fun wz => by rw [hT3]; exact rf_num rn 2 (by decide) wz)
        have HN4 : Hid (∀ wz, Calls Try.prog 24 #[.int .i64 (m : Int), .int .i64 1] wz fun x w' => x = .returned (.string T4) ∧ Below wz.heap.size wz w') := Lib.hid (fun wz => by rw [hT4]; exact rf_num (m : Int) 1 (by decide) wz)
        rw [← hT0]
        clear hT0 hT1 hT2 hT3 hT4 hz0 hz1 hz2 hz3 hz4 hq8
        refine wpAnyH_take (i := 0) (v := ?_) rfl (by kernel_rfl) (by kernel_rfl) (by kernel_rfl) (fun _ _ _ h => h) (Or.inl ⟨by kernel_rfl, ?_⟩) (by assumption) ?_
        rotate_left
        · intro w hSw; (try dsimp only at hSw); go_simp; (try with_reducible rfl)
        refine wpAnyH_take (i := 1) (v := ?_) rfl (by kernel_rfl) (by kernel_rfl) (by kernel_rfl) (fun _ _ _ h => h) (Or.inl ⟨by kernel_rfl, ?_⟩) (by assumption) ?_
        rotate_left
        · intro w hSw; (try dsimp only at hSw); go_simp; (try with_reducible rfl)
        refine wpAnyH_take (i := 2) (v := ?_) rfl (by kernel_rfl) (by kernel_rfl) (by kernel_rfl) (fun _ _ _ h => h) (Or.inl ⟨by kernel_rfl, ?_⟩) (by assumption) ?_
        rotate_left
        · intro w hSw; (try dsimp only at hSw); go_simp; (try with_reducible rfl)
        refine wpAnyH_take (i := 3) (v := ?_) rfl (by kernel_rfl) (by kernel_rfl) (by kernel_rfl) (fun _ _ _ h => h) (Or.inl ⟨by kernel_rfl, ?_⟩) (by assumption) ?_
        rotate_left
        · intro w hSw; (try dsimp only at hSw); go_simp; (try with_reducible rfl)
        refine wpAnyH_take (i := 4) (v := ?_) rfl (by kernel_rfl) (by kernel_rfl) (by kernel_rfl) (fun _ _ _ h => h) (Or.inl ⟨by kernel_rfl, ?_⟩) (by assumption) ?_
        rotate_left
        · intro w hSw; (try dsimp only at hSw); go_simp; (try with_reducible rfl)
        refine wpAnyH_take (i := 5) (v := ?_) rfl (by kernel_rfl) (by kernel_rfl) (by kernel_rfl) (fun _ _ _ h => h) (Or.inl ⟨by kernel_rfl, ?_⟩) (by assumption) ?_
        rotate_left
        · intro w hSw; (try dsimp only at hSw); go_simp; (try with_reducible rfl)
        refine wpAnyH_take (i := 8) (v := ?_) rfl (by kernel_rfl) (by kernel_rfl) (by kernel_rfl) (fun _ _ _ h => h) (Or.inl ⟨by kernel_rfl, ?_⟩) (by assumption) ?_
        rotate_left
        · intro w hSw; (try dsimp only at hSw); go_simp; (try with_reducible rfl)
        refine wpAnyH_take (i := 9) (v := ?_) rfl (by kernel_rfl) (by kernel_rfl) (by kernel_rfl) (fun _ _ _ h => h) (Or.inl ⟨by kernel_rfl, ?_⟩) (by assumption) ?_
        rotate_left
        · intro w hSw; (try dsimp only at hSw); go_simp; (try with_reducible rfl)
        refine wpAnyH_take (i := 10) (v := ?_) rfl (by kernel_rfl) (by kernel_rfl) (by kernel_rfl) (fun _ _ _ h => h) (Or.inl ⟨by kernel_rfl, ?_⟩) (by assumption) ?_
        rotate_left
        · intro w hSw; (try dsimp only at hSw); go_simp; (try with_reducible rfl)
        refine wpAnyH_take (i := 11) (v := ?_) rfl (by kernel_rfl) (by kernel_rfl) (by kernel_rfl) (fun _ _ _ h => h) (Or.inl ⟨by kernel_rfl, ?_⟩) (by assumption) ?_
        rotate_left
        · intro w hSw; (try dsimp only at hSw); go_simp; (try with_reducible rfl)
        refine wpAnyH_take (i := 12) (v := ?_) rfl (by kernel_rfl) (by kernel_rfl) (by kernel_rfl) (fun _ _ _ h => h) (Or.inl ⟨by kernel_rfl, ?_⟩) (by assumption) ?_
        rotate_left
        · intro w hSw; (try dsimp only at hSw); go_simp; (try with_reducible rfl)
        refine wpAnyH_take (i := 15) (v := ?_) rfl (by kernel_rfl) (by kernel_rfl) (by kernel_rfl) (fun _ _ _ h => h) (Or.inl ⟨by kernel_rfl, ?_⟩) (by assumption) ?_
        rotate_left
        · intro w hSw; (try dsimp only at hSw); go_simp; (try with_reducible rfl)
        refine wpAnyH_take (i := 16) (v := ?_) rfl (by kernel_rfl) (by kernel_rfl) (by kernel_rfl) (fun _ _ _ h => h) (Or.inl ⟨by kernel_rfl, ?_⟩) (by assumption) ?_
        rotate_left
        · intro w hSw; (try dsimp only at hSw); go_simp; (try with_reducible rfl)
        refine wpAnyH_take (i := 17) (v := ?_) rfl (by kernel_rfl) (by kernel_rfl) (by kernel_rfl) (fun _ _ _ h => h) (Or.inl ⟨by kernel_rfl, ?_⟩) (by assumption) ?_
        rotate_left
        · intro w hSw; (try dsimp only at hSw); go_simp; (try with_reducible rfl)
        refine wpAnyH_take (i := 18) (v := ?_) rfl (by kernel_rfl) (by kernel_rfl) (by kernel_rfl) (fun _ _ _ h => h) (Or.inl ⟨by kernel_rfl, ?_⟩) (by assumption) ?_
        rotate_left
        · intro w hSw; (try dsimp only at hSw); go_simp; (try with_reducible rfl)
        refine wpAnyH_take (i := 19) (v := ?_) rfl (by kernel_rfl) (by kernel_rfl) (by kernel_rfl) (fun _ _ _ h => h) (Or.inl ⟨by kernel_rfl, ?_⟩) (by assumption) ?_
        rotate_left
        · intro w hSw; (try dsimp only at hSw); go_simp; (try with_reducible rfl)
        refine wpAnyH_take (i := 22) (v := ?_) rfl (by kernel_rfl) (by kernel_rfl) (by kernel_rfl) (fun _ _ _ h => h) (Or.inl ⟨by kernel_rfl, ?_⟩) (by assumption) ?_
        rotate_left
        · intro w hSw; (try dsimp only at hSw); go_simp; (try with_reducible rfl)
        refine wpAnyH_ready (rs := [6]) (by kernel_rfl) (by simp) ?_
        refine AllReadyH.cons rfl (fun K hK => ?_) AllReadyH.nil
        go_simp
        refine (HN1.out v0).mono ?_
        rintro x v1 ⟨rfl, b2⟩
        have hS2 : v1.cell? ⟨b, o + j * 4, none⟩ = some (.int .i64 re) ∧ v1.cell? ⟨b, o + j * 4 + 1, none⟩ = some (.int .u64 rq) ∧ v1.cell? ⟨b, o + j * 4 + 2, none⟩ = some (.int .i64 rn) := by
          obtain ⟨s0, s1, s2⟩ := hS0
          exact ⟨(b2.cell (p := ⟨b, _, none⟩) (Nat.lt_of_lt_of_le HBL.out HDv0.out.size)).trans s0, (b2.cell (p := ⟨b, _, none⟩) (Nat.lt_of_lt_of_le HBL.out HDv0.out.size)).trans s1, (b2.cell (p := ⟨b, _, none⟩) (Nat.lt_of_lt_of_le HBL.out HDv0.out.size)).trans s2⟩
        have HDv1 : Hid (Below w.heap.size w v1) := Lib.hid (HDv0.out.trans (b2.mono HDv0.out.size))
        clear b2 hS0
        refine hK.out _ _ hS2 (fun hS0 => ?_)
        clear hK K hS2
        refine wpAnyH_take (i := 7) (v := ?_) rfl (by kernel_rfl) (by kernel_rfl) (by kernel_rfl) (fun _ _ _ h => h) (Or.inl ⟨by kernel_rfl, ?_⟩) (by assumption) ?_
        rotate_left
        · intro w hSw; (try dsimp only at hSw); go_simp; (try with_reducible rfl)
        refine wpAnyH_ready (rs := [13]) (by kernel_rfl) (by simp) ?_
        refine AllReadyH.cons rfl (fun K hK => ?_) AllReadyH.nil
        go_simp
        refine (HN2.out v1).mono ?_
        rintro x v2 ⟨rfl, b2⟩
        have hS2 : v2.cell? ⟨b, o + j * 4, none⟩ = some (.int .i64 re) ∧ v2.cell? ⟨b, o + j * 4 + 1, none⟩ = some (.int .u64 rq) ∧ v2.cell? ⟨b, o + j * 4 + 2, none⟩ = some (.int .i64 rn) := by
          obtain ⟨s0, s1, s2⟩ := hS0
          exact ⟨(b2.cell (p := ⟨b, _, none⟩) (Nat.lt_of_lt_of_le HBL.out HDv1.out.size)).trans s0, (b2.cell (p := ⟨b, _, none⟩) (Nat.lt_of_lt_of_le HBL.out HDv1.out.size)).trans s1, (b2.cell (p := ⟨b, _, none⟩) (Nat.lt_of_lt_of_le HBL.out HDv1.out.size)).trans s2⟩
        have HDv2 : Hid (Below w.heap.size w v2) := Lib.hid (HDv1.out.trans (b2.mono HDv1.out.size))
        clear b2 hS0
        refine hK.out _ _ hS2 (fun hS0 => ?_)
        clear hK K hS2
        refine wpAnyH_take (i := 14) (v := ?_) rfl (by kernel_rfl) (by kernel_rfl) (by kernel_rfl) (fun _ _ _ h => h) (Or.inl ⟨by kernel_rfl, ?_⟩) (by assumption) ?_
        rotate_left
        · intro w hSw; (try dsimp only at hSw); go_simp; (try with_reducible rfl)
        refine wpAnyH_ready (rs := [20]) (by kernel_rfl) (by simp) ?_
        refine AllReadyH.cons rfl (fun K hK => ?_) AllReadyH.nil
        go_simp
        refine (HN3.out v2).mono ?_
        rintro x v3 ⟨rfl, b2⟩
        have hS2 : v3.cell? ⟨b, o + j * 4, none⟩ = some (.int .i64 re) ∧ v3.cell? ⟨b, o + j * 4 + 1, none⟩ = some (.int .u64 rq) ∧ v3.cell? ⟨b, o + j * 4 + 2, none⟩ = some (.int .i64 rn) := by
          obtain ⟨s0, s1, s2⟩ := hS0
          exact ⟨(b2.cell (p := ⟨b, _, none⟩) (Nat.lt_of_lt_of_le HBL.out HDv2.out.size)).trans s0, (b2.cell (p := ⟨b, _, none⟩) (Nat.lt_of_lt_of_le HBL.out HDv2.out.size)).trans s1, (b2.cell (p := ⟨b, _, none⟩) (Nat.lt_of_lt_of_le HBL.out HDv2.out.size)).trans s2⟩
        have HDv3 : Hid (Below w.heap.size w v3) := Lib.hid (HDv2.out.trans (b2.mono HDv2.out.size))
        clear b2 hS0
        refine hK.out _ _ hS2 (fun hS0 => ?_)
        clear hK K hS2
        refine wpAnyH_take (i := 21) (v := ?_) rfl (by kernel_rfl) (by kernel_rfl) (by kernel_rfl) (fun _ _ _ h => h) (Or.inl ⟨by kernel_rfl, ?_⟩) (by assumption) ?_
        rotate_left
        · intro w hSw; (try dsimp only at hSw); go_simp; (try with_reducible rfl)
        refine wpAnyH_ready (rs := [23]) (by kernel_rfl) (by simp) ?_
        refine AllReadyH.cons rfl (fun K hK => ?_) AllReadyH.nil
        go_simp
        refine (HN4.out v3).mono ?_
        rintro x v4 ⟨rfl, b2⟩
        have hS2 : v4.cell? ⟨b, o + j * 4, none⟩ = some (.int .i64 re) ∧ v4.cell? ⟨b, o + j * 4 + 1, none⟩ = some (.int .u64 rq) ∧ v4.cell? ⟨b, o + j * 4 + 2, none⟩ = some (.int .i64 rn) := by
          obtain ⟨s0, s1, s2⟩ := hS0
          exact ⟨(b2.cell (p := ⟨b, _, none⟩) (Nat.lt_of_lt_of_le HBL.out HDv3.out.size)).trans s0, (b2.cell (p := ⟨b, _, none⟩) (Nat.lt_of_lt_of_le HBL.out HDv3.out.size)).trans s1, (b2.cell (p := ⟨b, _, none⟩) (Nat.lt_of_lt_of_le HBL.out HDv3.out.size)).trans s2⟩
        have HDv4 : Hid (Below w.heap.size w v4) := Lib.hid (HDv3.out.trans (b2.mono HDv3.out.size))
        clear b2 hS0
        refine hK.out _ _ hS2 (fun hS0 => ?_)
        clear hK K hS2
        refine wpAnyH_take (i := 24) (v := ?_) rfl (by kernel_rfl) (by kernel_rfl) (by kernel_rfl) (fun _ _ _ h => h) (Or.inl ⟨by kernel_rfl, ?_⟩) (by assumption) ?_
        rotate_left
        · intro w hSw; (try dsimp only at hSw); go_simp; (try with_reducible rfl)
        refine wpAnyH_take (i := 25) (v := ?_) rfl (by kernel_rfl) (by kernel_rfl) (by kernel_rfl) (fun _ _ _ h => h) (Or.inl ⟨by kernel_rfl, ?_⟩) (by assumption) ?_
        rotate_left
        · intro w hSw; (try dsimp only at hSw); go_simp; (try with_reducible rfl)
        clear hS0
        refine wpAnyH_done (by kernel_rfl) ?_ _
        go_simp
        rw [HALL.out]
        obtain ⟨a5, ha5⟩ : ∃ z, z = acc ++ [(re % 256).toNat] ++ num8 rq.toNat ++ [(rn / 256 % 256).toNat] ++ [(rn % 256).toNat] ++ [m] := ⟨_, rfl⟩
        have HA5 : Hid (b256 a5 ∧ a5.length ≤ 10700 ∧ acc ++ RpV.enc ⟨re, rq, rn, cs⟩ = a5 ++ (cs.take m).map (fun x => (x % 256).toNat)) := Lib.hid (by
          have b4 : b256 [m] := fun y hy => by have := List.mem_singleton.1 hy; have := HM.out.1; omega
          refine ⟨by rw [ha5]; exact ((((HAC.out.app (b256_one re)).app (b256_num8 _)).app (b256_one (rn / 256))).app (b256_one rn)).app b4, ?_, ?_⟩
          · rw [ha5]
            have := HTK.out.2.2
            simp only [List.length_append, num8, List.length_cons, List.length_nil]
            omega
          · have hm := HM.out.1
            have hm2 : cs.take m = cs.take 255 := by
              rcases Nat.le_total cs.length 255 with h2 | h2
              · rw [List.take_of_length_le (by omega), List.take_of_length_le h2]
              · rw [show m = 255 by omega]
            rw [hm2, ha5]
            simp only [RpV.enc, ← hm, List.append_assoc])
        rw [← ha5]
        clear ha5 HALL HN1 HN2 HN3 HN4 g1 g2 g3 g4 HNB HT
        have d3 : v4.cell? ⟨b, o + j * 4 + 3, none⟩ = some (.slice CA cs.length cap) := HC3.out v4 HDv4.out
        clear d3
        go_wp2
        go_loopw [3, 6] (fun t u wr => ∃ k : Nat, k ≤ m ∧ u = .int .i64 (k : Int) ∧ t = .string (txt (a5 ++ (cs.take k).map (fun x => (x % 256).toNat))) ∧ Below w.heap.size w wr) (fun _ u _ => m - (intOf u).toNat)
        case atStart => exact ⟨0, Nat.zero_le _, rfl, by rw [List.take_zero, List.map_nil, List.append_nil], HDv4.out⟩
        case round =>
          obtain ⟨k, hk, rfl, rfl, hb2⟩ := hrel
          have hk6 : k ≤ 1000 := by have := HM.out.1; omega
          by_cases hlt : k < m
          · have hkc : k < cs.length := by have := HM.out.1; omega
            obtain ⟨g, u, hCA, hg, hc⟩ := HCW.out k hkc
            subst hCA
            obtain ⟨z, hz⟩ : ∃ z, z = cs[k]'hkc := ⟨_, rfl⟩
            rw [← hz] at hc
            have cz := (hb2.cell (p := ⟨g, u + k, none⟩) hg).trans hc
            have d3 := HC3.out _ hb2
            have HB2 := Lib.hid hb2
            have HTK2 : Hid (cs.take (k + 1) = cs.take k ++ [z]) := Lib.hid (by rw [hz]; exact List.take_succ_eq_append_getElem hkc)
            have q1 : decide ((k : Int) < (m : Int)) = true := decide_eq_true (by omega)
            have q2 : decide (k < m) = true := decide_eq_true hlt
            have q3 : (k : Int) < (cs.length : Int) := by omega
            have HLT2 := Lib.hid hlt
            obtain ⟨a6, ha6⟩ : ∃ z, z = a5 ++ (cs.take k).map (fun x => (x % 256).toNat) := ⟨_, rfl⟩
            have HA6 : Hid (b256 a6 ∧ a6.length ≤ 11000 ∧ a6 = a5 ++ (cs.take k).map (fun x => (x % 256).toNat)) := Lib.hid ⟨by rw [ha6]; exact HA5.out.1.app (b256_codes _), by
              rw [ha6, List.length_append, List.length_map, List.length_take]
              have := HA5.out.2.1
              have := HM.out.1
              omega, ha6⟩
            have hss : (txt a6).size + (txt (be (u64 z) 1)).size ≤ 9223372036854775807 := by rw [txt_size, txt_size, be_len]; have := HA6.out.2.1; omega
            have HJ : Hid (txt a6 ++ txt (be (u64 z) 1) = txt (a6 ++ [(z % 256).toNat])) := Lib.hid (by rw [be1_u64]; exact txt_appS _ _ HA6.out.1 (b256_one z))
            rw [← ha6]
            clear hz hg hc hkc hk hlt hb2 ha6
            go_wp2_with fail
            refine (rf_num z 1 (by decide) _).mono ?_
            rintro x wz ⟨rfl, b3⟩
            have HB3 : Hid (Below w.heap.size w wz) := Lib.hid (HB2.out.trans (b3.mono HB2.out.size))
            clear b3 cz d3 q1 q2 q3
            go_wp2
            rw [HJ.out]
            go_roundw
            case rel =>
              have hrr : Value.string (txt (a6 ++ [(z % 256).toNat])) = Value.string (txt (a5 ++ (cs.take (k + 1)).map (fun x => (x % 256).toNat))) := by
                rw [HTK2.out, List.map_append, List.map_singleton, ← List.append_assoc, ← HA6.out.2.2]
              exact ⟨k + 1, HLT2.out, by go_num, hrr, HB3.out⟩
            case measure => have := HLT2.out; simp [intOf]; omega
          · obtain rfl : k = m := by omega
            have q1 : decide ((k : Int) < (k : Int)) = false := decide_eq_false (by omega)
            have q2 : decide (k < k) = false := decide_eq_false hlt
            have HB2 := Lib.hid hb2
            clear hlt hk hb2
            go_wp2
            go_roundw
            case rel => exact ⟨j + 1, HLT.out, by go_num, by rw [HTK.out.1, HA5.out.2.2], HB2.out⟩
            case measure => have := HLT.out; simp [intOf]; omega
    · obtain rfl : j = rs.length := by omega
      rw [List.take_length]
      have HB := Lib.hid hbel
      have t1 : decide ((rs.length : Int) < (rs.length : Int)) = false := decide_eq_false (by omega)
      have t2 : decide (rs.length < rs.length) = false := decide_eq_false hlt
      clear hlt hj hbel
      go_wp2
      go_ret
      exact ⟨rfl, HB.out⟩
end Go.Proofs.Ytjilbcefikbihaa
