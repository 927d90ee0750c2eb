/- carracklaw03.WireBack walked. No condition. -/
import Derived.WalkSpells
import Derived.Deep.RegionHeld
import Derived.Test.YtiokelnnimoljaaWireGot
import Derived.Test.YtiokelnnimoljaaRefWrite
namespace Go.Proofs.Ytiokelnnimoljaa.wireBack
open Go.RowKit
set_option linter.unusedVariables false
/-- the reader ahead of call number k -/
structure Bk (W : World) (M : Nat) (L : List Nat) (n p : Nat) (e : Int) (r : ByteArray) (w : World) : Prop where
  rd : Rd w M e r
  sz : r.size ≤ maxLen
  mid : Mid L n p e r
  bel : Below W.heap.size W w
  lo : W.heap.size ≤ M
theorem Bk.step {W w w' : World} {M : Nat} {L : List Nat} {n p q : Nat} {e e' : Int} {r r' : ByteArray} (h : Bk W M L n p e r w) (hr : Rd w' M e' r') (hz : r'.size ≤ maxLen) (hm : Mid L n q e' r') (hk : Kq.Keeps (· = M) w w') : Bk W M L n q e' r' w' :=
  ⟨hr, hz, hm, h.bel.trans (hk.below h.bel.size (fun k _ e => by subst e; exact h.lo)), h.lo⟩
theorem Bk.drewN {W w : World} {M : Nat} {L : List Nat} {n p : Nat} {e : Int} {r : ByteArray} (h : Bk W M L n p e r w) (j : Nat) : Bk W M L n p e r (w.drewN j) :=
  ⟨h.rd, h.sz, h.mid, ⟨h.bel.os, h.bel.tape, h.bel.output, h.bel.size, h.bel.block⟩, h.lo⟩
theorem between_whole {s : ByteArray} {L : List Nat} (h : nl s = L) : Between L s.size 0 s := by
  unfold Between
  rw [← h, List.drop_zero, List.take_of_length_le (by rw [nl_length]; exact Nat.le_refl _)]
theorem between_cut {s : ByteArray} {L : List Nat} (h : nl s = L) (n : Nat) : Between L n 0 (s.extract 0 n) := by
  unfold Between
  rw [← h, nl_extract, List.drop_zero, List.drop_zero, Nat.sub_zero]
theorem Bk.end0 {W w : World} {M : Nat} {L : List Nat} {e : Int} {r : ByteArray} (h : Bk W M L L.length L.length e r w) : endOf e r = 0 := by
  rcases h.mid with ⟨rfl, h1, h2⟩ | ⟨_, h2⟩
  · have := between_size h2 (Nat.le_refl _)
    unfold endOf
    rw [if_pos rfl, if_pos (by omega)]
  · omega
theorem Bk.end6 {W w : World} {M : Nat} {L : List Nat} {n : Nat} {e : Int} {r : ByteArray} (h : Bk W M L n L.length e r w) (hn : n < L.length) : endOf e r = 6 := by
  rcases h.mid with ⟨rfl, h1, h2⟩ | ⟨rfl, h2⟩
  · omega
  · rfl
set_option maxRecDepth 100000 in
set_option maxHeartbeats 4000000 in
theorem early (a : Option Addr) (cap : Nat) (l : List CallV) (cut : Int) (W : World) (hl : l.length ≤ maxLen) (hc : CallsAt W a l) (hf : ¬ fewOk l) :
    Calls Try.prog 5 #[.slice a l.length cap, .int .i64 cut] W fun x w' => x = .returned (.bool true) ∧ Below W.heap.size W w' := by
  have HC := Lib.hid hc
  clear hc
  go_enter Try.func5, Try.ntmps5
  go_wp2_with fail
  refine (awake _).mono ?_
  rintro x w1 ⟨rfl, hb⟩
  go_wp2_with fail
  refine (few_no a cap l _ hl (HC.out.later hb) hf).mono ?_
  rintro x w2 ⟨rfl, rfl⟩
  go_wp2
  go_ret
  exact ⟨rfl, hb⟩
set_option maxRecDepth 100000 in
set_option maxHeartbeats 3000000 in
theorem bad (a : Option Addr) (cap : Nat) (l : List CallV) (cut : Int) (W : World) (hl : l.length ≤ maxLen) (hc : CallsAt W a l) (hf : fewOk l) (he : (putAll (0, []) l).1 = 1) :
    Calls Try.prog 5 #[.slice a l.length cap, .int .i64 cut] W fun x w' => x = .returned (.bool true) ∧ Below W.heap.size W w' := by
  have HC := Lib.hid hc
  have HM := Lib.hid hl
  have HF := Lib.hid hf
  have HX := trivial
  unfold maxLen at hl
  clear hc hf
  go_enter Try.func5, Try.ntmps5
  go_wp2_with fail
  refine (awake _).mono ?_
  rintro x w1 ⟨rfl, hb⟩
  have HB := Lib.hid hb
  clear hb
  go_wp2_with fail
  refine (few_ok a cap l _ HM.out (HC.out.later HB.out) HF.out).mono ?_
  rintro x w2 ⟨rfl, rfl⟩
  go_wp2_with fail
  refine (put_fresh w1.heap.size w1.heap.size a cap l W _ HM.out HC.out (HB.out.trans ((Kq.below_alloc _ _).mono HB.out.size)) HB.out.size HF.out (wr_new w1)).mono ?_
  rintro x w4 ⟨rfl, va, A4, K4, oa⟩
  have H4 := Lib.hid ((HB.out.trans ((Kq.below_alloc _ _).mono HB.out.size)).trans (K4.below (Nat.le_trans HB.out.size (Kq.below_alloc _ _).size) (fun k _ e => by subst e; exact HB.out.size)))
  have HA := Lib.hid A4
  clear A4 K4 oa HB
  go_wp2_with fail
  refine (wr_bytes w1.heap.size w1.heap.size _ va _ _ HA.out (putAll_lt _ l (by simp))).mono ?_
  rintro x w5 ⟨rfl, rfl⟩
  clear HA
  have hE1 : bytesOf (putAll (0, []) l).1 (putAll (0, []) l).2 = ⟨#[]⟩ := by rw [he]; rfl
  rw [hE1, he]
  go_wp2
  go_ret
  exact ⟨rfl, H4.out⟩
set_option maxRecDepth 100000 in
set_option maxHeartbeats 3000000 in
theorem low (a : Option Addr) (cap : Nat) (l : List CallV) (cut : Int) (W : World) (hl : l.length ≤ maxLen) (hc : CallsAt W a l) (hf : fewOk l) (he : (putAll (0, []) l).1 = 0) (hcut : cut < 0) :
    Calls Try.prog 5 #[.slice a l.length cap, .int .i64 cut] W fun x w' => x = .returned (.bool true) ∧ Below W.heap.size W w' := by
  have HC := Lib.hid hc
  have HM := Lib.hid hl
  have HF := Lib.hid hf
  have HX := trivial
  unfold maxLen at hl
  clear hc hf
  go_enter Try.func5, Try.ntmps5
  go_wp2_with fail
  refine (awake _).mono ?_
  rintro x w1 ⟨rfl, hb⟩
  have HB := Lib.hid hb
  clear hb
  go_wp2_with fail
  refine (few_ok a cap l _ HM.out (HC.out.later HB.out) HF.out).mono ?_
  rintro x w2 ⟨rfl, rfl⟩
  go_wp2_with fail
  refine (put_fresh w1.heap.size w1.heap.size a cap l W _ HM.out HC.out (HB.out.trans ((Kq.below_alloc _ _).mono HB.out.size)) HB.out.size HF.out (wr_new w1)).mono ?_
  rintro x w4 ⟨rfl, va, A4, K4, oa⟩
  have H4 := Lib.hid ((HB.out.trans ((Kq.below_alloc _ _).mono HB.out.size)).trans (K4.below (Nat.le_trans HB.out.size (Kq.below_alloc _ _).size) (fun k _ e => by subst e; exact HB.out.size)))
  have HA := Lib.hid A4
  clear A4 K4 oa HB
  go_wp2_with fail
  refine (wr_bytes w1.heap.size w1.heap.size _ va _ _ HA.out (putAll_lt _ l (by simp))).mono ?_
  rintro x w5 ⟨rfl, rfl⟩
  clear HA
  have HE := Lib.hid he
  clear he
  have hL : Hid (nl (txt (putAll (0, []) l).2) = (putAll (0, []) l).2) := Lib.hid (nl_txt _ (putAll_lt _ l (by simp)))
  have hz : (txt (putAll (0, []) l).2).size ≤ 80000 := by
    have h1 := putAll_len (0, []) l
    obtain ⟨h2, h3⟩ := HF.out
    simp only [List.length_nil] at h1
    rw [txt_size]; omega
  have hE0 : bytesOf (putAll (0, []) l).1 (putAll (0, []) l).2 = txt (putAll (0, []) l).2 := by rw [HE.out]; rfl
  have HONE : Hid (∀ k (hk : k < l.length), (putOne (0, []) l[k]).1 = 0) := Lib.hid (fun k hk => one_zero l k hk HE.out)
  have HPRE : Hid (∀ k (hk : k < l.length), encOf l[k] <+: (putAll (0, []) l).2.drop (upTo l k)) := Lib.hid (fun k hk => enc_prefix l k hk)
  have HALL := Lib.hid (upTo_all l)
  rw [hE0, HE.out]
  clear hE0 HE
  generalize txt (putAll (0, []) l).2 = s at *
  generalize (putAll (0, []) l).2 = L at *
  have HSL : Hid (s.size = L.length) := Lib.hid (by rw [← hL.out, nl_length])

  go_wp2_with fail
  refine (rd_new s _).mono ?_
  rintro x w9 ⟨rfl, R9, b9⟩
  have H9 : Hid (Bk W w4.heap.size L s.size (upTo l 0) 0 s w9) := Lib.hid ⟨R9, by unfold maxLen; simp; omega, Or.inl ⟨rfl, by rw [upTo_zero]; exact Nat.zero_le _, by rw [upTo_zero]; exact between_whole hL.out⟩, H4.out.trans (b9.mono H4.out.size), H4.out.size⟩
  have HNL : Hid (s.size ≤ L.length) := Lib.hid (by have := HSL.out; omega)
  clear R9 b9 H4
  generalize w4.heap.size = M at *
  go_wp2
  go_loopw [9] (fun i wr => ∃ k : Nat, k ≤ l.length ∧ i = .int .i64 k ∧ ∃ e r, Bk W M L s.size (upTo l k) e r wr) (fun i _ => l.length - (intOf i).toNat)
  case atStart => exact ⟨0, by omega, rfl, 0, _, H9.out⟩
  case round =>
    obtain ⟨k, hk, rfl, e, r, hS⟩ := hrel
    have HR := Lib.hid hS
    clear hS H9
    by_cases hlt : k < l.length
    · obtain ⟨b, off, rfl, hb0, hcW⟩ := HC.out k hlt
      have hone := HONE.out k hlt
      have hpre := HPRE.out k hlt
      have hup := upTo_succ l k hlt
      obtain ⟨c, hcW, hone, hpre, hup⟩ : ∃ c, IsCall W b (off + k * 4) c ∧ (putOne (0, []) c).1 = 0 ∧ encOf c <+: L.drop (upTo l k) ∧ upTo l (k + 1) = upTo l k + (encOf c).length := ⟨_, hcW, hone, hpre, hup⟩
      have HONE1 := Lib.hid hone
      have HPRE1 := Lib.hid hpre
      have HUP := Lib.hid hup
      have HL := Lib.hid hlt
      have HW := Lib.hid (And.intro hb0 hcW)
      have hbB : ¬ (b = M) := by have := HR.out.lo; omega
      have HBW : Hid (b < wr.heap.size) := Lib.hid (Nat.lt_of_lt_of_le hb0 HR.out.bel.size)
      have hcell := hcW.later HR.out.bel hb0
      have HCL := Lib.hid hcell
      have c0 := hcell.c0
      have c1 := hcell.c1
      have c2 := hcell.c2
      have c3 := hcell.c3
      have HC1 := Lib.hid c1
      have HC2 := Lib.hid c2
      have HC3 := Lib.hid c3
      clear hone hpre hup hb0 hcW hcell
      by_cases q0 : c.kind = 0
      · rw [q0] at c0
        obtain ⟨hr, henc⟩ := enc0 c q0 HONE1.out
        have HP := Lib.hid (show [c.k.toNat] <+: L.drop (upTo l k) by rw [← henc]; exact HPRE1.out)
        have HQ : Hid (upTo l (k + 1) = upTo l k + 1) := Lib.hid (by rw [HUP.out, henc]; rfl)
        have HRG := Lib.hid hr
        clear hr henc HONE1 HPRE1 HUP q0
        go_wp2
        go_region_held (fun w' => w'.cell? ⟨b, off + k * 4 + 1, none⟩ = some (.int .i64 c.k)) (first | go_keep | (exact (World.cell?_of_block (K6.block b HBW.out hbB)).trans HC1.out))
          (first | (go_at_call 14; refine (got_byte L s.size HNL.out M e r (upTo l k) _ (HR.out.drewN 1).rd HR.out.sz HR.out.mid c.k HRG.out HP.out).mono ?_; rintro x w6 ⟨u, e6, r6, rfl, R6, z6, M6, K6, v6⟩))
        have S6 := Lib.hid ((HR.out.drewN 1).step R6 z6 M6 K6)
        have V6 := Lib.hid v6
        clear R6 z6 M6 K6 v6 c0 c1 c2 c3 hbB HBW HC1 HC2 HC3
        by_cases hu : u = c.k
        · subst hu
          go_wp2
          go_round
          case rel => exact ⟨k + 1, by have := HL.out; omega, by go_num, e6, r6, by rw [HQ.out]; exact S6.out⟩
          case measure => have := HL.out; simp [intOf]; omega
        · have he6 : e6 = 6 := (S6.out.mid.err).resolve_left (fun h0 => hu (V6.out h0))
          subst he6
          have hbu : (u == c.k) = false := by simpa using hu
          clear hu
          go_wp2_with fail
          refine (mem_err M 6 _ S6.out.rd.c0).mono ?_
          rintro x w7 ⟨rfl, rfl⟩
          go_wp2
          go_round
          case rel => exact ⟨k + 1, by have := HL.out; omega, by go_num, 6, r6, by rw [HQ.out]; exact S6.out⟩
          case measure => have := HL.out; simp [intOf]; omega
      by_cases q1 : c.kind = 1
      · rw [q1] at c0
        have henc := enc1 c q1
        have HP := Lib.hid (show num8 c.n.toNat <+: L.drop (upTo l k) by rw [← henc]; exact HPRE1.out)
        have HQ : Hid (upTo l (k + 1) = upTo l k + 8) := Lib.hid (by rw [HUP.out, henc]; rfl)
        have HRG : Hid (0 ≤ c.n ∧ c.n < 18446744073709551616) := Lib.hid (by have := HCL.out.w2; simp [Lit.wf, IntKind.min, IntKind.max, IntKind.signed, IntKind.bits] at this; omega)
        have hr := True.intro
        clear hr henc HONE1 HPRE1 HUP q0 q1
        go_wp2
        go_region_held (fun w' => w'.cell? ⟨b, off + k * 4 + 2, none⟩ = some (.int .u64 c.n)) (first | go_keep | (exact (World.cell?_of_block (K6.block b HBW.out hbB)).trans HC2.out))
          (first | (go_at_call 15; refine (got_number L s.size HNL.out M e r (upTo l k) _ (HR.out.drewN 1).rd HR.out.sz HR.out.mid c.n HRG.out HP.out).mono ?_; rintro x w6 ⟨u, e6, r6, rfl, R6, z6, M6, K6, v6⟩))
        have S6 := Lib.hid ((HR.out.drewN 1).step R6 z6 M6 K6)
        have V6 := Lib.hid v6
        clear R6 z6 M6 K6 v6 c0 c1 c2 c3 hbB HBW HC1 HC2 HC3
        by_cases hu : u = c.n
        · subst hu
          go_wp2
          go_round
          case rel => exact ⟨k + 1, by have := HL.out; omega, by go_num, e6, r6, by rw [HQ.out]; exact S6.out⟩
          case measure => have := HL.out; simp [intOf]; omega
        · have he6 : e6 = 6 := (S6.out.mid.err).resolve_left (fun h0 => hu (V6.out h0))
          subst he6
          have hbu : (u == c.n) = false := by simpa using hu
          clear hu
          go_wp2_with fail
          refine (mem_err M 6 _ S6.out.rd.c0).mono ?_
          rintro x w7 ⟨rfl, rfl⟩
          go_wp2
          go_round
          case rel => exact ⟨k + 1, by have := HL.out; omega, by go_num, 6, r6, by rw [HQ.out]; exact S6.out⟩
          case measure => have := HL.out; simp [intOf]; omega
      by_cases q2 : c.kind = 2
      · rw [q2] at c0
        obtain ⟨hr, henc⟩ := enc2 c q2 HONE1.out
        have HP := Lib.hid (show hi2 c.s.size ++ nl c.s <+: L.drop (upTo l k) by rw [← henc]; exact HPRE1.out)
        have HQ : Hid (upTo l (k + 1) = upTo l k + (2 + c.s.size)) := Lib.hid (by rw [HUP.out, henc, List.length_append, nl_length]; rfl)
        clear hr henc HONE1 HPRE1 HUP q0 q1 q2
        go_wp2
        go_region_held (fun w' => w'.cell? ⟨b, off + k * 4 + 3, none⟩ = some (.string c.s)) (first | go_keep | (exact (World.cell?_of_block (K6.block b HBW.out hbB)).trans HC3.out))
          (first | (go_at_call 16; refine (got_text L s.size HNL.out M e r (upTo l k) _ (HR.out.drewN 1).rd HR.out.sz HR.out.mid c.s HP.out).mono ?_; rintro x w6 ⟨u, e6, r6, rfl, R6, z6, M6, K6, v6⟩))
        have S6 := Lib.hid ((HR.out.drewN 1).step R6 z6 M6 K6)
        have V6 := Lib.hid v6
        clear R6 z6 M6 K6 v6 c0 c1 c2 c3 hbB HBW HC1 HC2 HC3
        by_cases hu : u = c.s
        · subst hu
          go_wp2
          go_round
          case rel => exact ⟨k + 1, by have := HL.out; omega, by go_num, e6, r6, by rw [HQ.out]; exact S6.out⟩
          case measure => have := HL.out; simp [intOf]; omega
        · have he6 : e6 = 6 := (S6.out.mid.err).resolve_left (fun h0 => hu (V6.out h0))
          subst he6
          have hbu : (u.toList == c.s.toList) = false := by rw [eq_text]; exact decide_eq_false (fun h => hu (nl_inj h))
          clear hu
          go_wp2_with fail
          refine (mem_err M 6 _ S6.out.rd.c0).mono ?_
          rintro x w7 ⟨rfl, rfl⟩
          go_wp2
          go_round
          case rel => exact ⟨k + 1, by have := HL.out; omega, by go_num, 6, r6, by rw [HQ.out]; exact S6.out⟩
          case measure => have := HL.out; simp [intOf]; omega
      by_cases q3 : c.kind = 3
      · rw [q3] at c0
        have henc := enc3 c q3
        have HP := Lib.hid (show nl c.s <+: L.drop (upTo l k) by rw [← henc]; exact HPRE1.out)
        have HQ : Hid (upTo l (k + 1) = upTo l k + c.s.size) := Lib.hid (by rw [HUP.out, henc, nl_length])
        have hr := True.intro
        clear hr henc HONE1 HPRE1 HUP q0 q1 q2 q3
        go_wp2
        go_region_held (fun w' => w'.cell? ⟨b, off + k * 4 + 3, none⟩ = some (.string c.s)) (first | go_keep | (exact (World.cell?_of_block (K6.block b HBW.out hbB)).trans HC3.out))
          (first | (go_at_call 17; refine (got_raw L s.size HNL.out M e r (upTo l k) _ (HR.out.drewN 1).rd HR.out.sz HR.out.mid c.s HP.out).mono ?_; rintro x w6 ⟨u, e6, r6, rfl, R6, z6, M6, K6, v6⟩))
        have S6 := Lib.hid ((HR.out.drewN 1).step R6 z6 M6 K6)
        have V6 := Lib.hid v6
        clear R6 z6 M6 K6 v6 c0 c1 c2 c3 hbB HBW HC1 HC2 HC3
        by_cases hu : u = c.s
        · subst hu
          go_wp2
          go_round
          case rel => exact ⟨k + 1, by have := HL.out; omega, by go_num, e6, r6, by rw [HQ.out]; exact S6.out⟩
          case measure => have := HL.out; simp [intOf]; omega
        · have he6 : e6 = 6 := (S6.out.mid.err).resolve_left (fun h0 => hu (V6.out h0))
          subst he6
          have hbu : (u.toList == c.s.toList) = false := by rw [eq_text]; exact decide_eq_false (fun h => hu (nl_inj h))
          clear hu
          go_wp2_with fail
          refine (mem_err M 6 _ S6.out.rd.c0).mono ?_
          rintro x w7 ⟨rfl, rfl⟩
          go_wp2
          go_round
          case rel => exact ⟨k + 1, by have := HL.out; omega, by go_num, 6, r6, by rw [HQ.out]; exact S6.out⟩
          case measure => have := HL.out; simp [intOf]; omega
      have r0 : (c.kind == 0) = false := by simpa using q0
      have r1 : (c.kind == 1) = false := by simpa using q1
      have r2 : (c.kind == 2) = false := by simpa using q2
      have r3 : (c.kind == 3) = false := by simpa using q3
      have HQ : Hid (upTo l (k + 1) = upTo l k) := Lib.hid (by rw [HUP.out, enc4 c q0 q1 q2 q3]; rfl)
      clear q0 q1 q2 q3
      go_wp2
      go_round
      case rel => exact ⟨k + 1, by have := HL.out; omega, by go_num, e, r, by rw [HQ.out]; exact HR.out⟩
      case measure => have := HL.out; simp [intOf]; omega
    · have hk' : k = l.length := Nat.le_antisymm hk (Nat.not_lt.1 hlt)
      subst hk'
      have HR2 := HR.out
      rw [HALL.out] at HR2
      have HRR := Lib.hid HR2
      clear HR2 HR
      have hend := HRR.out
      rw [HSL.out] at hend
      have he0 := Bk.end0 hend
      have HX := Lib.hid he0
      clear hend he0
      have hq := (rd_end M e r _ HRR.out.rd)
      rw [HX.out] at hq
      have HQ := Lib.hid hq
      clear hq
      go_wp2_with fail
      refine HQ.out.mono ?_
      rintro x w6 ⟨rfl, rfl⟩
      go_wp2
      go_ret
      exact ⟨rfl, HRR.out.bel⟩
set_option maxRecDepth 100000 in
set_option maxHeartbeats 3000000 in
theorem high (a : Option Addr) (cap : Nat) (l : List CallV) (cut : Int) (W : World) (hl : l.length ≤ maxLen) (hc : CallsAt W a l) (hf : fewOk l) (he : (putAll (0, []) l).1 = 0) (hcut : ((txt (putAll (0, []) l).2).size : Int) < cut) :
    Calls Try.prog 5 #[.slice a l.length cap, .int .i64 cut] W fun x w' => x = .returned (.bool true) ∧ Below W.heap.size W w' := by
  have HC := Lib.hid hc
  have HM := Lib.hid hl
  have HF := Lib.hid hf
  have HX := trivial
  unfold maxLen at hl
  clear hc hf
  go_enter Try.func5, Try.ntmps5
  go_wp2_with fail
  refine (awake _).mono ?_
  rintro x w1 ⟨rfl, hb⟩
  have HB := Lib.hid hb
  clear hb
  go_wp2_with fail
  refine (few_ok a cap l _ HM.out (HC.out.later HB.out) HF.out).mono ?_
  rintro x w2 ⟨rfl, rfl⟩
  go_wp2_with fail
  refine (put_fresh w1.heap.size w1.heap.size a cap l W _ HM.out HC.out (HB.out.trans ((Kq.below_alloc _ _).mono HB.out.size)) HB.out.size HF.out (wr_new w1)).mono ?_
  rintro x w4 ⟨rfl, va, A4, K4, oa⟩
  have H4 := Lib.hid ((HB.out.trans ((Kq.below_alloc _ _).mono HB.out.size)).trans (K4.below (Nat.le_trans HB.out.size (Kq.below_alloc _ _).size) (fun k _ e => by subst e; exact HB.out.size)))
  have HA := Lib.hid A4
  clear A4 K4 oa HB
  go_wp2_with fail
  refine (wr_bytes w1.heap.size w1.heap.size _ va _ _ HA.out (putAll_lt _ l (by simp))).mono ?_
  rintro x w5 ⟨rfl, rfl⟩
  clear HA
  have HE := Lib.hid he
  clear he
  have hL : Hid (nl (txt (putAll (0, []) l).2) = (putAll (0, []) l).2) := Lib.hid (nl_txt _ (putAll_lt _ l (by simp)))
  have hz : (txt (putAll (0, []) l).2).size ≤ 80000 := by
    have h1 := putAll_len (0, []) l
    obtain ⟨h2, h3⟩ := HF.out
    simp only [List.length_nil] at h1
    rw [txt_size]; omega
  have hE0 : bytesOf (putAll (0, []) l).1 (putAll (0, []) l).2 = txt (putAll (0, []) l).2 := by rw [HE.out]; rfl
  have HONE : Hid (∀ k (hk : k < l.length), (putOne (0, []) l[k]).1 = 0) := Lib.hid (fun k hk => one_zero l k hk HE.out)
  have HPRE : Hid (∀ k (hk : k < l.length), encOf l[k] <+: (putAll (0, []) l).2.drop (upTo l k)) := Lib.hid (fun k hk => enc_prefix l k hk)
  have HALL := Lib.hid (upTo_all l)
  rw [hE0, HE.out]
  clear hE0 HE
  generalize txt (putAll (0, []) l).2 = s at *
  generalize (putAll (0, []) l).2 = L at *
  have HSL : Hid (s.size = L.length) := Lib.hid (by rw [← hL.out, nl_length])
  have hcut0 : ¬ cut < 0 := by omega
  go_wp2_with fail
  refine (rd_new s _).mono ?_
  rintro x w9 ⟨rfl, R9, b9⟩
  have H9 : Hid (Bk W w4.heap.size L s.size (upTo l 0) 0 s w9) := Lib.hid ⟨R9, by unfold maxLen; simp; omega, Or.inl ⟨rfl, by rw [upTo_zero]; exact Nat.zero_le _, by rw [upTo_zero]; exact between_whole hL.out⟩, H4.out.trans (b9.mono H4.out.size), H4.out.size⟩
  have HNL : Hid (s.size ≤ L.length) := Lib.hid (by have := HSL.out; omega)
  clear R9 b9 H4
  generalize w4.heap.size = M at *
  go_wp2
  go_loopw [9] (fun i wr => ∃ k : Nat, k ≤ l.length ∧ i = .int .i64 k ∧ ∃ e r, Bk W M L s.size (upTo l k) e r wr) (fun i _ => l.length - (intOf i).toNat)
  case atStart => exact ⟨0, by omega, rfl, 0, _, H9.out⟩
  case round =>
    obtain ⟨k, hk, rfl, e, r, hS⟩ := hrel
    have HR := Lib.hid hS
    clear hS H9
    by_cases hlt : k < l.length
    · obtain ⟨b, off, rfl, hb0, hcW⟩ := HC.out k hlt
      have hone := HONE.out k hlt
      have hpre := HPRE.out k hlt
      have hup := upTo_succ l k hlt
      obtain ⟨c, hcW, hone, hpre, hup⟩ : ∃ c, IsCall W b (off + k * 4) c ∧ (putOne (0, []) c).1 = 0 ∧ encOf c <+: L.drop (upTo l k) ∧ upTo l (k + 1) = upTo l k + (encOf c).length := ⟨_, hcW, hone, hpre, hup⟩
      have HONE1 := Lib.hid hone
      have HPRE1 := Lib.hid hpre
      have HUP := Lib.hid hup
      have HL := Lib.hid hlt
      have HW := Lib.hid (And.intro hb0 hcW)
      have hbB : ¬ (b = M) := by have := HR.out.lo; omega
      have HBW : Hid (b < wr.heap.size) := Lib.hid (Nat.lt_of_lt_of_le hb0 HR.out.bel.size)
      have hcell := hcW.later HR.out.bel hb0
      have HCL := Lib.hid hcell
      have c0 := hcell.c0
      have c1 := hcell.c1
      have c2 := hcell.c2
      have c3 := hcell.c3
      have HC1 := Lib.hid c1
      have HC2 := Lib.hid c2
      have HC3 := Lib.hid c3
      clear hone hpre hup hb0 hcW hcell
      by_cases q0 : c.kind = 0
      · rw [q0] at c0
        obtain ⟨hr, henc⟩ := enc0 c q0 HONE1.out
        have HP := Lib.hid (show [c.k.toNat] <+: L.drop (upTo l k) by rw [← henc]; exact HPRE1.out)
        have HQ : Hid (upTo l (k + 1) = upTo l k + 1) := Lib.hid (by rw [HUP.out, henc]; rfl)
        have HRG := Lib.hid hr
        clear hr henc HONE1 HPRE1 HUP q0
        go_wp2
        go_region_held (fun w' => w'.cell? ⟨b, off + k * 4 + 1, none⟩ = some (.int .i64 c.k)) (first | go_keep | (exact (World.cell?_of_block (K6.block b HBW.out hbB)).trans HC1.out))
          (first | (go_at_call 14; refine (got_byte L s.size HNL.out M e r (upTo l k) _ (HR.out.drewN 1).rd HR.out.sz HR.out.mid c.k HRG.out HP.out).mono ?_; rintro x w6 ⟨u, e6, r6, rfl, R6, z6, M6, K6, v6⟩))
        have S6 := Lib.hid ((HR.out.drewN 1).step R6 z6 M6 K6)
        have V6 := Lib.hid v6
        clear R6 z6 M6 K6 v6 c0 c1 c2 c3 hbB HBW HC1 HC2 HC3
        by_cases hu : u = c.k
        · subst hu
          go_wp2
          go_round
          case rel => exact ⟨k + 1, by have := HL.out; omega, by go_num, e6, r6, by rw [HQ.out]; exact S6.out⟩
          case measure => have := HL.out; simp [intOf]; omega
        · have he6 : e6 = 6 := (S6.out.mid.err).resolve_left (fun h0 => hu (V6.out h0))
          subst he6
          have hbu : (u == c.k) = false := by simpa using hu
          clear hu
          go_wp2_with fail
          refine (mem_err M 6 _ S6.out.rd.c0).mono ?_
          rintro x w7 ⟨rfl, rfl⟩
          go_wp2
          go_round
          case rel => exact ⟨k + 1, by have := HL.out; omega, by go_num, 6, r6, by rw [HQ.out]; exact S6.out⟩
          case measure => have := HL.out; simp [intOf]; omega
      by_cases q1 : c.kind = 1
      · rw [q1] at c0
        have henc := enc1 c q1
        have HP := Lib.hid (show num8 c.n.toNat <+: L.drop (upTo l k) by rw [← henc]; exact HPRE1.out)
        have HQ : Hid (upTo l (k + 1) = upTo l k + 8) := Lib.hid (by rw [HUP.out, henc]; rfl)
        have HRG : Hid (0 ≤ c.n ∧ c.n < 18446744073709551616) := Lib.hid (by have := HCL.out.w2; simp [Lit.wf, IntKind.min, IntKind.max, IntKind.signed, IntKind.bits] at this; omega)
        have hr := True.intro
        clear hr henc HONE1 HPRE1 HUP q0 q1
        go_wp2
        go_region_held (fun w' => w'.cell? ⟨b, off + k * 4 + 2, none⟩ = some (.int .u64 c.n)) (first | go_keep | (exact (World.cell?_of_block (K6.block b HBW.out hbB)).trans HC2.out))
          (first | (go_at_call 15; refine (got_number L s.size HNL.out M e r (upTo l k) _ (HR.out.drewN 1).rd HR.out.sz HR.out.mid c.n HRG.out HP.out).mono ?_; rintro x w6 ⟨u, e6, r6, rfl, R6, z6, M6, K6, v6⟩))
        have S6 := Lib.hid ((HR.out.drewN 1).step R6 z6 M6 K6)
        have V6 := Lib.hid v6
        clear R6 z6 M6 K6 v6 c0 c1 c2 c3 hbB HBW HC1 HC2 HC3
        by_cases hu : u = c.n
        · subst hu
          go_wp2
          go_round
          case rel => exact ⟨k + 1, by have := HL.out; omega, by go_num, e6, r6, by rw [HQ.out]; exact S6.out⟩
          case measure => have := HL.out; simp [intOf]; omega
        · have he6 : e6 = 6 := (S6.out.mid.err).resolve_left (fun h0 => hu (V6.out h0))
          subst he6
          have hbu : (u == c.n) = false := by simpa using hu
          clear hu
          go_wp2_with fail
          refine (mem_err M 6 _ S6.out.rd.c0).mono ?_
          rintro x w7 ⟨rfl, rfl⟩
          go_wp2
          go_round
          case rel => exact ⟨k + 1, by have := HL.out; omega, by go_num, 6, r6, by rw [HQ.out]; exact S6.out⟩
          case measure => have := HL.out; simp [intOf]; omega
      by_cases q2 : c.kind = 2
      · rw [q2] at c0
        obtain ⟨hr, henc⟩ := enc2 c q2 HONE1.out
        have HP := Lib.hid (show hi2 c.s.size ++ nl c.s <+: L.drop (upTo l k) by rw [← henc]; exact HPRE1.out)
        have HQ : Hid (upTo l (k + 1) = upTo l k + (2 + c.s.size)) := Lib.hid (by rw [HUP.out, henc, List.length_append, nl_length]; rfl)
        clear hr henc HONE1 HPRE1 HUP q0 q1 q2
        go_wp2
        go_region_held (fun w' => w'.cell? ⟨b, off + k * 4 + 3, none⟩ = some (.string c.s)) (first | go_keep | (exact (World.cell?_of_block (K6.block b HBW.out hbB)).trans HC3.out))
          (first | (go_at_call 16; refine (got_text L s.size HNL.out M e r (upTo l k) _ (HR.out.drewN 1).rd HR.out.sz HR.out.mid c.s HP.out).mono ?_; rintro x w6 ⟨u, e6, r6, rfl, R6, z6, M6, K6, v6⟩))
        have S6 := Lib.hid ((HR.out.drewN 1).step R6 z6 M6 K6)
        have V6 := Lib.hid v6
        clear R6 z6 M6 K6 v6 c0 c1 c2 c3 hbB HBW HC1 HC2 HC3
        by_cases hu : u = c.s
        · subst hu
          go_wp2
          go_round
          case rel => exact ⟨k + 1, by have := HL.out; omega, by go_num, e6, r6, by rw [HQ.out]; exact S6.out⟩
          case measure => have := HL.out; simp [intOf]; omega
        · have he6 : e6 = 6 := (S6.out.mid.err).resolve_left (fun h0 => hu (V6.out h0))
          subst he6
          have hbu : (u.toList == c.s.toList) = false := by rw [eq_text]; exact decide_eq_false (fun h => hu (nl_inj h))
          clear hu
          go_wp2_with fail
          refine (mem_err M 6 _ S6.out.rd.c0).mono ?_
          rintro x w7 ⟨rfl, rfl⟩
          go_wp2
          go_round
          case rel => exact ⟨k + 1, by have := HL.out; omega, by go_num, 6, r6, by rw [HQ.out]; exact S6.out⟩
          case measure => have := HL.out; simp [intOf]; omega
      by_cases q3 : c.kind = 3
      · rw [q3] at c0
        have henc := enc3 c q3
        have HP := Lib.hid (show nl c.s <+: L.drop (upTo l k) by rw [← henc]; exact HPRE1.out)
        have HQ : Hid (upTo l (k + 1) = upTo l k + c.s.size) := Lib.hid (by rw [HUP.out, henc, nl_length])
        have hr := True.intro
        clear hr henc HONE1 HPRE1 HUP q0 q1 q2 q3
        go_wp2
        go_region_held (fun w' => w'.cell? ⟨b, off + k * 4 + 3, none⟩ = some (.string c.s)) (first | go_keep | (exact (World.cell?_of_block (K6.block b HBW.out hbB)).trans HC3.out))
          (first | (go_at_call 17; refine (got_raw L s.size HNL.out M e r (upTo l k) _ (HR.out.drewN 1).rd HR.out.sz HR.out.mid c.s HP.out).mono ?_; rintro x w6 ⟨u, e6, r6, rfl, R6, z6, M6, K6, v6⟩))
        have S6 := Lib.hid ((HR.out.drewN 1).step R6 z6 M6 K6)
        have V6 := Lib.hid v6
        clear R6 z6 M6 K6 v6 c0 c1 c2 c3 hbB HBW HC1 HC2 HC3
        by_cases hu : u = c.s
        · subst hu
          go_wp2
          go_round
          case rel => exact ⟨k + 1, by have := HL.out; omega, by go_num, e6, r6, by rw [HQ.out]; exact S6.out⟩
          case measure => have := HL.out; simp [intOf]; omega
        · have he6 : e6 = 6 := (S6.out.mid.err).resolve_left (fun h0 => hu (V6.out h0))
          subst he6
          have hbu : (u.toList == c.s.toList) = false := by rw [eq_text]; exact decide_eq_false (fun h => hu (nl_inj h))
          clear hu
          go_wp2_with fail
          refine (mem_err M 6 _ S6.out.rd.c0).mono ?_
          rintro x w7 ⟨rfl, rfl⟩
          go_wp2
          go_round
          case rel => exact ⟨k + 1, by have := HL.out; omega, by go_num, 6, r6, by rw [HQ.out]; exact S6.out⟩
          case measure => have := HL.out; simp [intOf]; omega
      have r0 : (c.kind == 0) = false := by simpa using q0
      have r1 : (c.kind == 1) = false := by simpa using q1
      have r2 : (c.kind == 2) = false := by simpa using q2
      have r3 : (c.kind == 3) = false := by simpa using q3
      have HQ : Hid (upTo l (k + 1) = upTo l k) := Lib.hid (by rw [HUP.out, enc4 c q0 q1 q2 q3]; rfl)
      clear q0 q1 q2 q3
      go_wp2
      go_round
      case rel => exact ⟨k + 1, by have := HL.out; omega, by go_num, e, r, by rw [HQ.out]; exact HR.out⟩
      case measure => have := HL.out; simp [intOf]; omega
    · have hk' : k = l.length := Nat.le_antisymm hk (Nat.not_lt.1 hlt)
      subst hk'
      have HR2 := HR.out
      rw [HALL.out] at HR2
      have HRR := Lib.hid HR2
      clear HR2 HR
      have hend := HRR.out
      rw [HSL.out] at hend
      have he0 := Bk.end0 hend
      have HX := Lib.hid he0
      clear hend he0
      have hq := (rd_end M e r _ HRR.out.rd)
      rw [HX.out] at hq
      have HQ := Lib.hid hq
      clear hq
      go_wp2_with fail
      refine HQ.out.mono ?_
      rintro x w6 ⟨rfl, rfl⟩
      go_wp2
      go_ret
      exact ⟨rfl, HRR.out.bel⟩
set_option maxRecDepth 100000 in
set_option maxHeartbeats 3000000 in
theorem mid (a : Option Addr) (cap : Nat) (l : List CallV) (n : Nat) (W : World) (hl : l.length ≤ maxLen) (hc : CallsAt W a l) (hf : fewOk l) (he : (putAll (0, []) l).1 = 0) (hcut : n ≤ (txt (putAll (0, []) l).2).size) :
    Calls Try.prog 5 #[.slice a l.length cap, .int .i64 (n : Int)] W fun x w' => x = .returned (.bool true) ∧ Below W.heap.size W w' := by
  have HC := Lib.hid hc
  have HM := Lib.hid hl
  have HF := Lib.hid hf
  have HX := trivial
  unfold maxLen at hl
  clear hc hf
  go_enter Try.func5, Try.ntmps5
  go_wp2_with fail
  refine (awake _).mono ?_
  rintro x w1 ⟨rfl, hb⟩
  have HB := Lib.hid hb
  clear hb
  go_wp2_with fail
  refine (few_ok a cap l _ HM.out (HC.out.later HB.out) HF.out).mono ?_
  rintro x w2 ⟨rfl, rfl⟩
  go_wp2_with fail
  refine (put_fresh w1.heap.size w1.heap.size a cap l W _ HM.out HC.out (HB.out.trans ((Kq.below_alloc _ _).mono HB.out.size)) HB.out.size HF.out (wr_new w1)).mono ?_
  rintro x w4 ⟨rfl, va, A4, K4, oa⟩
  have H4 := Lib.hid ((HB.out.trans ((Kq.below_alloc _ _).mono HB.out.size)).trans (K4.below (Nat.le_trans HB.out.size (Kq.below_alloc _ _).size) (fun k _ e => by subst e; exact HB.out.size)))
  have HA := Lib.hid A4
  clear A4 K4 oa HB
  go_wp2_with fail
  refine (wr_bytes w1.heap.size w1.heap.size _ va _ _ HA.out (putAll_lt _ l (by simp))).mono ?_
  rintro x w5 ⟨rfl, rfl⟩
  clear HA
  have HE := Lib.hid he
  clear he
  have hL : Hid (nl (txt (putAll (0, []) l).2) = (putAll (0, []) l).2) := Lib.hid (nl_txt _ (putAll_lt _ l (by simp)))
  have hz : (txt (putAll (0, []) l).2).size ≤ 80000 := by
    have h1 := putAll_len (0, []) l
    obtain ⟨h2, h3⟩ := HF.out
    simp only [List.length_nil] at h1
    rw [txt_size]; omega
  have hE0 : bytesOf (putAll (0, []) l).1 (putAll (0, []) l).2 = txt (putAll (0, []) l).2 := by rw [HE.out]; rfl
  have HONE : Hid (∀ k (hk : k < l.length), (putOne (0, []) l[k]).1 = 0) := Lib.hid (fun k hk => one_zero l k hk HE.out)
  have HPRE : Hid (∀ k (hk : k < l.length), encOf l[k] <+: (putAll (0, []) l).2.drop (upTo l k)) := Lib.hid (fun k hk => enc_prefix l k hk)
  have HALL := Lib.hid (upTo_all l)
  rw [hE0, HE.out]
  clear hE0 HE
  generalize txt (putAll (0, []) l).2 = s at *
  generalize (putAll (0, []) l).2 = L at *
  have HSL : Hid (s.size = L.length) := Lib.hid (by rw [← hL.out, nl_length])

  go_wp2_with fail
  refine (rd_new (s.extract 0 n) _).mono ?_
  rintro x w9 ⟨rfl, R9, b9⟩
  have H9 : Hid (Bk W w4.heap.size L n (upTo l 0) 0 (s.extract 0 n) w9) := Lib.hid ⟨R9, by unfold maxLen; simp; omega, Or.inl ⟨rfl, by rw [upTo_zero]; exact Nat.zero_le _, by rw [upTo_zero]; exact between_cut hL.out n⟩, H4.out.trans (b9.mono H4.out.size), H4.out.size⟩
  have HNL : Hid (n ≤ L.length) := Lib.hid (by have := HSL.out; omega)
  clear R9 b9 H4
  generalize w4.heap.size = M at *
  go_wp2
  go_loopw [9] (fun i wr => ∃ k : Nat, k ≤ l.length ∧ i = .int .i64 k ∧ ∃ e r, Bk W M L n (upTo l k) e r wr) (fun i _ => l.length - (intOf i).toNat)
  case atStart => exact ⟨0, by omega, rfl, 0, _, H9.out⟩
  case round =>
    obtain ⟨k, hk, rfl, e, r, hS⟩ := hrel
    have HR := Lib.hid hS
    clear hS H9
    by_cases hlt : k < l.length
    · obtain ⟨b, off, rfl, hb0, hcW⟩ := HC.out k hlt
      have hone := HONE.out k hlt
      have hpre := HPRE.out k hlt
      have hup := upTo_succ l k hlt
      obtain ⟨c, hcW, hone, hpre, hup⟩ : ∃ c, IsCall W b (off + k * 4) c ∧ (putOne (0, []) c).1 = 0 ∧ encOf c <+: L.drop (upTo l k) ∧ upTo l (k + 1) = upTo l k + (encOf c).length := ⟨_, hcW, hone, hpre, hup⟩
      have HONE1 := Lib.hid hone
      have HPRE1 := Lib.hid hpre
      have HUP := Lib.hid hup
      have HL := Lib.hid hlt
      have HW := Lib.hid (And.intro hb0 hcW)
      have hbB : ¬ (b = M) := by have := HR.out.lo; omega
      have HBW : Hid (b < wr.heap.size) := Lib.hid (Nat.lt_of_lt_of_le hb0 HR.out.bel.size)
      have hcell := hcW.later HR.out.bel hb0
      have HCL := Lib.hid hcell
      have c0 := hcell.c0
      have c1 := hcell.c1
      have c2 := hcell.c2
      have c3 := hcell.c3
      have HC1 := Lib.hid c1
      have HC2 := Lib.hid c2
      have HC3 := Lib.hid c3
      clear hone hpre hup hb0 hcW hcell
      by_cases q0 : c.kind = 0
      · rw [q0] at c0
        obtain ⟨hr, henc⟩ := enc0 c q0 HONE1.out
        have HP := Lib.hid (show [c.k.toNat] <+: L.drop (upTo l k) by rw [← henc]; exact HPRE1.out)
        have HQ : Hid (upTo l (k + 1) = upTo l k + 1) := Lib.hid (by rw [HUP.out, henc]; rfl)
        have HRG := Lib.hid hr
        clear hr henc HONE1 HPRE1 HUP q0
        go_wp2
        go_region_held (fun w' => w'.cell? ⟨b, off + k * 4 + 1, none⟩ = some (.int .i64 c.k)) (first | go_keep | (exact (World.cell?_of_block (K6.block b HBW.out hbB)).trans HC1.out))
          (first | (go_at_call 14; refine (got_byte L n HNL.out M e r (upTo l k) _ (HR.out.drewN 1).rd HR.out.sz HR.out.mid c.k HRG.out HP.out).mono ?_; rintro x w6 ⟨u, e6, r6, rfl, R6, z6, M6, K6, v6⟩))
        have S6 := Lib.hid ((HR.out.drewN 1).step R6 z6 M6 K6)
        have V6 := Lib.hid v6
        clear R6 z6 M6 K6 v6 c0 c1 c2 c3 hbB HBW HC1 HC2 HC3
        by_cases hu : u = c.k
        · subst hu
          go_wp2
          go_round
          case rel => exact ⟨k + 1, by have := HL.out; omega, by go_num, e6, r6, by rw [HQ.out]; exact S6.out⟩
          case measure => have := HL.out; simp [intOf]; omega
        · have he6 : e6 = 6 := (S6.out.mid.err).resolve_left (fun h0 => hu (V6.out h0))
          subst he6
          have hbu : (u == c.k) = false := by simpa using hu
          clear hu
          go_wp2_with fail
          refine (mem_err M 6 _ S6.out.rd.c0).mono ?_
          rintro x w7 ⟨rfl, rfl⟩
          go_wp2
          go_round
          case rel => exact ⟨k + 1, by have := HL.out; omega, by go_num, 6, r6, by rw [HQ.out]; exact S6.out⟩
          case measure => have := HL.out; simp [intOf]; omega
      by_cases q1 : c.kind = 1
      · rw [q1] at c0
        have henc := enc1 c q1
        have HP := Lib.hid (show num8 c.n.toNat <+: L.drop (upTo l k) by rw [← henc]; exact HPRE1.out)
        have HQ : Hid (upTo l (k + 1) = upTo l k + 8) := Lib.hid (by rw [HUP.out, henc]; rfl)
        have HRG : Hid (0 ≤ c.n ∧ c.n < 18446744073709551616) := Lib.hid (by have := HCL.out.w2; simp [Lit.wf, IntKind.min, IntKind.max, IntKind.signed, IntKind.bits] at this; omega)
        have hr := True.intro
        clear hr henc HONE1 HPRE1 HUP q0 q1
        go_wp2
        go_region_held (fun w' => w'.cell? ⟨b, off + k * 4 + 2, none⟩ = some (.int .u64 c.n)) (first | go_keep | (exact (World.cell?_of_block (K6.block b HBW.out hbB)).trans HC2.out))
          (first | (go_at_call 15; refine (got_number L n HNL.out M e r (upTo l k) _ (HR.out.drewN 1).rd HR.out.sz HR.out.mid c.n HRG.out HP.out).mono ?_; rintro x w6 ⟨u, e6, r6, rfl, R6, z6, M6, K6, v6⟩))
        have S6 := Lib.hid ((HR.out.drewN 1).step R6 z6 M6 K6)
        have V6 := Lib.hid v6
        clear R6 z6 M6 K6 v6 c0 c1 c2 c3 hbB HBW HC1 HC2 HC3
        by_cases hu : u = c.n
        · subst hu
          go_wp2
          go_round
          case rel => exact ⟨k + 1, by have := HL.out; omega, by go_num, e6, r6, by rw [HQ.out]; exact S6.out⟩
          case measure => have := HL.out; simp [intOf]; omega
        · have he6 : e6 = 6 := (S6.out.mid.err).resolve_left (fun h0 => hu (V6.out h0))
          subst he6
          have hbu : (u == c.n) = false := by simpa using hu
          clear hu
          go_wp2_with fail
          refine (mem_err M 6 _ S6.out.rd.c0).mono ?_
          rintro x w7 ⟨rfl, rfl⟩
          go_wp2
          go_round
          case rel => exact ⟨k + 1, by have := HL.out; omega, by go_num, 6, r6, by rw [HQ.out]; exact S6.out⟩
          case measure => have := HL.out; simp [intOf]; omega
      by_cases q2 : c.kind = 2
      · rw [q2] at c0
        obtain ⟨hr, henc⟩ := enc2 c q2 HONE1.out
        have HP := Lib.hid (show hi2 c.s.size ++ nl c.s <+: L.drop (upTo l k) by rw [← henc]; exact HPRE1.out)
        have HQ : Hid (upTo l (k + 1) = upTo l k + (2 + c.s.size)) := Lib.hid (by rw [HUP.out, henc, List.length_append, nl_length]; rfl)
        clear hr henc HONE1 HPRE1 HUP q0 q1 q2
        go_wp2
        go_region_held (fun w' => w'.cell? ⟨b, off + k * 4 + 3, none⟩ = some (.string c.s)) (first | go_keep | (exact (World.cell?_of_block (K6.block b HBW.out hbB)).trans HC3.out))
          (first | (go_at_call 16; refine (got_text L n HNL.out M e r (upTo l k) _ (HR.out.drewN 1).rd HR.out.sz HR.out.mid c.s HP.out).mono ?_; rintro x w6 ⟨u, e6, r6, rfl, R6, z6, M6, K6, v6⟩))
        have S6 := Lib.hid ((HR.out.drewN 1).step R6 z6 M6 K6)
        have V6 := Lib.hid v6
        clear R6 z6 M6 K6 v6 c0 c1 c2 c3 hbB HBW HC1 HC2 HC3
        by_cases hu : u = c.s
        · subst hu
          go_wp2
          go_round
          case rel => exact ⟨k + 1, by have := HL.out; omega, by go_num, e6, r6, by rw [HQ.out]; exact S6.out⟩
          case measure => have := HL.out; simp [intOf]; omega
        · have he6 : e6 = 6 := (S6.out.mid.err).resolve_left (fun h0 => hu (V6.out h0))
          subst he6
          have hbu : (u.toList == c.s.toList) = false := by rw [eq_text]; exact decide_eq_false (fun h => hu (nl_inj h))
          clear hu
          go_wp2_with fail
          refine (mem_err M 6 _ S6.out.rd.c0).mono ?_
          rintro x w7 ⟨rfl, rfl⟩
          go_wp2
          go_round
          case rel => exact ⟨k + 1, by have := HL.out; omega, by go_num, 6, r6, by rw [HQ.out]; exact S6.out⟩
          case measure => have := HL.out; simp [intOf]; omega
      by_cases q3 : c.kind = 3
      · rw [q3] at c0
        have henc := enc3 c q3
        have HP := Lib.hid (show nl c.s <+: L.drop (upTo l k) by rw [← henc]; exact HPRE1.out)
        have HQ : Hid (upTo l (k + 1) = upTo l k + c.s.size) := Lib.hid (by rw [HUP.out, henc, nl_length])
        have hr := True.intro
        clear hr henc HONE1 HPRE1 HUP q0 q1 q2 q3
        go_wp2
        go_region_held (fun w' => w'.cell? ⟨b, off + k * 4 + 3, none⟩ = some (.string c.s)) (first | go_keep | (exact (World.cell?_of_block (K6.block b HBW.out hbB)).trans HC3.out))
          (first | (go_at_call 17; refine (got_raw L n HNL.out M e r (upTo l k) _ (HR.out.drewN 1).rd HR.out.sz HR.out.mid c.s HP.out).mono ?_; rintro x w6 ⟨u, e6, r6, rfl, R6, z6, M6, K6, v6⟩))
        have S6 := Lib.hid ((HR.out.drewN 1).step R6 z6 M6 K6)
        have V6 := Lib.hid v6
        clear R6 z6 M6 K6 v6 c0 c1 c2 c3 hbB HBW HC1 HC2 HC3
        by_cases hu : u = c.s
        · subst hu
          go_wp2
          go_round
          case rel => exact ⟨k + 1, by have := HL.out; omega, by go_num, e6, r6, by rw [HQ.out]; exact S6.out⟩
          case measure => have := HL.out; simp [intOf]; omega
        · have he6 : e6 = 6 := (S6.out.mid.err).resolve_left (fun h0 => hu (V6.out h0))
          subst he6
          have hbu : (u.toList == c.s.toList) = false := by rw [eq_text]; exact decide_eq_false (fun h => hu (nl_inj h))
          clear hu
          go_wp2_with fail
          refine (mem_err M 6 _ S6.out.rd.c0).mono ?_
          rintro x w7 ⟨rfl, rfl⟩
          go_wp2
          go_round
          case rel => exact ⟨k + 1, by have := HL.out; omega, by go_num, 6, r6, by rw [HQ.out]; exact S6.out⟩
          case measure => have := HL.out; simp [intOf]; omega
      have r0 : (c.kind == 0) = false := by simpa using q0
      have r1 : (c.kind == 1) = false := by simpa using q1
      have r2 : (c.kind == 2) = false := by simpa using q2
      have r3 : (c.kind == 3) = false := by simpa using q3
      have HQ : Hid (upTo l (k + 1) = upTo l k) := Lib.hid (by rw [HUP.out, enc4 c q0 q1 q2 q3]; rfl)
      clear q0 q1 q2 q3
      go_wp2
      go_round
      case rel => exact ⟨k + 1, by have := HL.out; omega, by go_num, e, r, by rw [HQ.out]; exact HR.out⟩
      case measure => have := HL.out; simp [intOf]; omega
    · have hk' : k = l.length := Nat.le_antisymm hk (Nat.not_lt.1 hlt)
      subst hk'
      have HR2 := HR.out
      rw [HALL.out] at HR2
      have HRR := Lib.hid HR2
      clear HR2 HR
      by_cases hns : n = s.size
      · skip
        have hend := HRR.out
        rw [show n = L.length by rw [hns, HSL.out]] at hend
        have he0 := Bk.end0 hend
        have HX := Lib.hid he0
        clear hend he0
        have hq := (rd_end M e r _ HRR.out.rd)
        rw [HX.out] at hq
        have HQ := Lib.hid hq
        clear hq
        have t1 : ((n : Int) == (s.size : Int)) = true := by simp [hns]
        clear hns
        go_wp2_with fail
        refine HQ.out.mono ?_
        rintro x w6 ⟨rfl, rfl⟩
        go_wp2
        go_ret
        exact ⟨rfl, HRR.out.bel⟩

      · skip
        have he6 := HRR.out.end6 (by have := HSL.out; omega)
        have hq := (rd_end M e r _ HRR.out.rd)
        rw [he6] at hq
        have HQ := Lib.hid hq
        clear hq he6
        have t1 : ((n : Int) == (s.size : Int)) = false := by simp; omega
        clear hns
        go_wp2_with fail
        refine HQ.out.mono ?_
        rintro x w6 ⟨rfl, rfl⟩
        go_wp2_with fail
        refine HQ.out.mono ?_
        rintro x w6 ⟨rfl, rfl⟩
        go_wp2
        go_ret
        exact ⟨rfl, HRR.out.bel⟩
theorem wireBack_walk (v : Value) (cut : Int) {W : World} (hd : ∃ a len cap l, v = .slice a len cap ∧ l.length = len ∧ len ≤ maxLen ∧ CallsAt W a l) (wc : (Lit.int .i64 cut).wf = true) :
    Calls Try.prog 5 #[v, .int .i64 cut] W fun x w' => x = .returned (.bool true) ∧ Below W.heap.size W w' := by
  obtain ⟨a, len, cap, l, rfl, rfl, hl, hc⟩ := hd
  by_cases hf : fewOk l
  · rcases putAll_err (0, []) l (Or.inl rfl) with he | he
    · by_cases h0 : cut < 0
      · exact low a cap l cut W hl hc hf he h0
      · obtain ⟨n, rfl⟩ := Int.eq_ofNat_of_zero_le (show 0 ≤ cut by omega)
        by_cases h1 : n ≤ (txt (putAll (0, []) l).2).size
        · exact mid a cap l n W hl hc hf he h1
        · exact high a cap l n W hl hc hf he (by omega)
    · exact bad a cap l cut W hl hc hf he
  · exact early a cap l cut W hl hc hf
end Go.Proofs.Ytiokelnnimoljaa.wireBack
