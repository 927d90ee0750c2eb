/- Merged: ShRPad, ShRDig. Contract of carrackref01.Pad: a text and what ends it. Condition: sizes. Contract of the reference's Digest, and of New. Condition: sizes; the book holds the constants. -/
import Derived.Test.YtcknhnbckbocjaaDoorShPadQ
import Derived.Test.YtcknhnbckbocjaaDoorShBlkQ
namespace Go.Proofs.YtcknhnbckbocjaaDoor
open Go.RowKit
set_option linter.unusedVariables false
theorem conv_one (w : World) (b : Nat) (hb : b < 256) : (convert 97 9 (.slice (some ⟨w.heap.size, 0, none⟩) 1 1)).run Tryd.prog (w.alloc (.cells #[.int .u8 (b : Int)] 5)) = .ok (.string (txt [b])) (w.alloc (.cells #[.int .u8 (b : Int)] 5)) := by
  have := Kq.conv_bytes (P := Tryd.prog) (w.alloc (.cells #[.int .u8 (b : Int)] 5)) (src := 97) (dst := 9) ⟨w.heap.size, 0, none⟩ ([b].map UInt8.ofNat) 1 Tryd.underlying97 Tryd.underlying5 Tryd.underlying9 (fun j u hj => Kq.cell_new _ _ _ (by
    rw [← hj, ← List.getElem?_toArray]
    congr 1
    simp [Nat.mod_eq_of_lt hb]))
  exact this
theorem txt_append (l m : List Nat) (hl : ∀ b ∈ l, b < 256) (hm : ∀ b ∈ m, b < 256) : txt l ++ txt m = txt (l ++ m) := by
  apply nl_inj
  rw [nl_append, nl_txt _ hl, nl_txt _ hm, nl_txt _ (fun b hb => (List.mem_append.1 hb).elim (hl b) (hm b))]
/-- eight bytes of a number, the last ones -/
def lastB (n k : Nat) : List Nat := List.replicate (8 - k) 0 ++ (Sh.be8 n).drop (8 - k)
def zrow8 (n k : Nat) : Array Value := (shcells (lastB n k)).toArray
theorem lastB_zero (n : Nat) : lastB n 0 = List.replicate 8 0 := by simp [lastB, Sh.be8, Sh.be4]
theorem lastB_eight (n : Nat) : lastB n 8 = Sh.be8 n := by simp [lastB]
theorem lastB_len (n k : Nat) (h : k ≤ 8) : (lastB n k).length = 8 := by simp [lastB, Sh.be8, Sh.be4] <;> omega
theorem lastB_lt (n k : Nat) : ∀ b ∈ lastB n k, b < 256 := by
  intro b hb
  rcases List.mem_append.1 hb with h | h
  · rw [List.eq_of_mem_replicate h]; decide
  · have := List.mem_of_mem_drop h
    simp only [Sh.be8, List.mem_append] at this
    rcases this with h | h
    · exact be4_lt _ b h
    · exact be4_lt _ b h
theorem be8_nat (n : Nat) : Sh.be8 n = [n / 72057594037927936 % 256, n / 281474976710656 % 256, n / 1099511627776 % 256, n / 4294967296 % 256, n / 16777216 % 256, n / 65536 % 256, n / 256 % 256, n % 256] := by
  unfold Sh.be8 Sh.be4 Sh.M32
  simp only [List.cons_append, List.nil_append, List.cons.injEq, and_true]
  refine ⟨by omega, by omega, by omega, by omega, by omega, by omega, by omega, by omega⟩
theorem lastB_set (n k : Nat) (h : k < 8) : (zrow8 n k).setIfInBounds (7 - k) (.int .u8 ((n / 256 ^ k % 256 : Nat) : Int)) = zrow8 n (k + 1) := by
  unfold zrow8 lastB
  rw [be8_nat]
  rcases k with _ | _ | _ | _ | _ | _ | _ | _ | k
  all_goals first | rfl | (simp [shcells]; done) | omega
theorem row8 (w : World) (G n : Nat) (h : w.heap[G]? = some (.cells (zrow8 n 8) 5 (0, 0))) : w.ownsRow G 5 1 (.slice (some ⟨G, 0, none⟩) 8 8) 8 (shcells (Sh.be8 n)) := by
  have e : zrow8 n 8 = (shcells (Sh.be8 n)).toArray := by rw [zrow8, lastB_eight]
  have h8 : (Sh.be8 n).length = 8 := by simp [Sh.be8, Sh.be4]
  refine ⟨by simp [shcells, h8], .inr ⟨G, 8, _, rfl, Nat.le_refl _, h, Nat.le_refl _, by unfold maxLen; omega, ?_, ?_⟩⟩
  · rw [e]; simp [shcells, h8]
  · rw [e, List.toList_toArray, List.take_of_length_le (by simp [shcells, h8])]
theorem zrow8_at (n k i : Nat) (h : k ≤ 8) (hi : i < 8) : ∃ v, (zrow8 n k)[i]? = some v := ⟨_, Array.getElem?_eq_getElem (by rw [zrow8, List.size_toArray, shcells, List.length_map, lastB_len n k h]; exact hi)⟩
theorem made8 (n : Nat) : madeCells (Value.int IntKind.u8 0).cells 8 = zrow8 n 0 := by
  rw [made_zeros, zrow8, lastB_zero]; rfl
theorem byte_step (n k : Nat) : ((n / 256 ^ k : Nat) : Int) % 256 = ((n / 256 ^ k % 256 : Nat) : Int) ∧ ((n / 256 ^ k : Nat) : Int) / 256 = ((n / 256 ^ (k + 1) : Nat) : Int) := by
  refine ⟨by omega, ?_⟩
  rw [Nat.pow_succ, ← Nat.div_div_eq_div_mul]
  omega
set_option maxRecDepth 100000 in
set_option maxHeartbeats 2000000 in
theorem r_pad (s : ByteArray) (w : World) (hs : s.size ≤ 1000000000) :
    Calls Tryd.prog 85 #[.string s] w fun e w' => e = .returned (.string (txt (nl s ++ Sh.padding s.size))) ∧ Below w.heap.size w w' := by
  obtain ⟨n, hn⟩ : ∃ n, n = s.size := ⟨_, rfl⟩
  have HNS := Lib.hid hn
  obtain ⟨L, hL⟩ : ∃ L, L = n * 8 := ⟨_, rfl⟩
  have HL := Lib.hid hL
  have hu1 : IntKind.u64.wrap (s.size : Int) = (s.size : Int) := by rw [IntWalk.u64_in _ (by omega)]
  have hu2 : IntKind.u64.wrap ((s.size : Int) * 8) = (L : Int) := by rw [IntWalk.u64_in _ (by omega)]; omega
  obtain ⟨z, hz⟩ : ∃ z, z = (64 + 55 - n % 64) % 64 := ⟨_, rfl⟩
  have HZ := Lib.hid hz
  have hnl : (nl s).length = n := by rw [hn]; simp [nl]
  have HNL := Lib.hid hnl
  have cv128 : ∀ w : World, (convert 97 9 (.slice (some ⟨w.heap.size, 0, none⟩) 1 1)).run Tryd.prog (w.alloc (.cells #[.int .u8 128] 5)) = .ok (.string (txt [128])) (w.alloc (.cells #[.int .u8 128] 5)) := fun w => conv_one w 128 (by decide)
  have cv0 : Hid (∀ w : World, (convert 97 9 (.slice (some ⟨w.heap.size, 0, none⟩) 1 1)).run Tryd.prog (w.alloc (.cells #[.int .u8 0] 5)) = .ok (.string (txt [0])) (w.alloc (.cells #[.int .u8 0] 5))) := Lib.hid (fun w => conv_one w 0 (by decide))
  have s128 : (txt [128]).size = 1 := by rw [txt_size]; rfl
  have S0 : Hid ((txt [0]).size = 1) := Lib.hid (by rw [txt_size]; rfl)
  have HT0 : Hid (s ++ txt [128] = txt (nl s ++ 128 :: List.replicate 0 0)) := Lib.hid (by
    apply nl_inj
    rw [nl_append, nl_txt [128] (by simp), nl_txt _ (by
      intro b hb
      rcases List.mem_append.1 hb with h | h
      · exact nl_lt s b h
      · rw [List.mem_singleton.1 h]; decide)]
    rfl)
  have l128 : ¬ 9223372036854775807 < s.size + (txt [128]).size := by rw [s128]; omega
  have HTS : Hid (∀ j, txt (nl s ++ 128 :: List.replicate j 0) ++ txt [0] = txt (nl s ++ 128 :: List.replicate (j + 1) 0)) := Lib.hid (fun j => by
    have hall : ∀ b ∈ nl s ++ 128 :: List.replicate j 0, b < 256 := fun b hb => by
      rcases List.mem_append.1 hb with h | h
      · exact nl_lt s b h
      · rcases List.mem_cons.1 h with rfl | h
        · decide
        · rw [List.eq_of_mem_replicate h]; decide
    rw [txt_append _ _ hall (by simp)]
    congr 1
    rw [List.append_assoc, List.cons_append, ← List.replicate_succ'])
  have HSZ : Hid (∀ j, (txt (nl s ++ 128 :: List.replicate j 0)).size = n + 1 + j) := Lib.hid (fun j => by
    rw [txt_size, List.length_append, hnl, List.length_cons, List.length_replicate]; omega)
  have HEND : Hid (txt (nl s ++ 128 :: List.replicate z 0) ++ txt (Sh.be8 L) = txt (nl s ++ Sh.padding s.size)) := Lib.hid (by
    rw [txt_append _ _ (by
      intro b hb
      rcases List.mem_append.1 hb with h | h
      · exact nl_lt s b h
      · rcases List.mem_cons.1 h with rfl | h
        · decide
        · rw [List.eq_of_mem_replicate h]; decide) (by rw [← lastB_eight]; exact lastB_lt L 8)]
    congr 1
    unfold Sh.padding
    rw [← hn, ← hz, show n * 8 % 18446744073709551616 = L by omega, List.append_assoc, List.cons_append])
  have hnb : n ≤ 1000000000 := by omega
  generalize txt [128] = T128 at *
  generalize txt [0] = T0 at *
  clear hz hnl hL hn s128
  go_enter Tryd.func85, Tryd.ntmps85
  go_wp2
  rw [HT0.out]
  have HB1 := Lib.hid (Kq.below_alloc w (.cells #[.int .u8 128] 5))
  generalize w.alloc _ = w1 at *
  clear cv128 l128 hu1 hu2
  go_loopw [0] (fun p wr => ∃ j : Nat, j ≤ z ∧ p = .string (txt (nl s ++ 128 :: List.replicate j 0)) ∧ Below w.heap.size w wr) (fun p _ => match p with | .string q => n + 200 - q.size | _ => 0)
  case atStart => exact ⟨0, Nat.zero_le _, rfl, HB1.out⟩
  case round =>
    obtain ⟨j, hj, rfl, hb⟩ := hrel
    have HB := Lib.hid hb
    clear hb
    have hsz := HSZ.out j
    have hts := HTS.out j
    obtain ⟨S, hS⟩ : ∃ S, S = txt (nl s ++ 128 :: List.replicate j 0) := ⟨_, rfl⟩
    rw [← hS] at hsz hts ⊢
    have HSS := Lib.hid hS
    clear hS
    by_cases hlt : j < z
    · have HSE := Lib.hid hsz
      have HTE := Lib.hid hts
      have hz119 := HZ.out
      have e1 : ¬ (S.size : Int) % 64 = 56 := by omega
      have e2 : ((S.size : Int) % 64 != 56) = true := by simp [e1]
      have hc := fun w => cv0.out w
      have l0 : ¬ 9223372036854775807 < S.size + T0.size := by rw [S0.out]; omega
      have hm : S.size < n + 200 := by omega
      have HM := Lib.hid hm
      clear hts hz119 hsz hm
      go_wp2
      go_roundw
      case rel => exact ⟨j + 1, by omega, by rw [HTE.out], HB.out.trans ((Kq.below_alloc _ _).mono HB.out.size)⟩
      case measure => have := HM.out; have := S0.out; simp; omega
    · have hjz : j = z := by omega
      have hz119 := HZ.out
      have e1 : (S.size : Int) % 64 = 56 := by omega
      have hEnd := HEND.out
      rw [← hjz, ← HSS.out] at hEnd
      have HE := Lib.hid hEnd
      have HSE := Lib.hid hsz
      clear hEnd hts hz119 hsz hjz hlt
      have hmk := fun w => mk_len w 8 8 8 8 rfl rfl (Nat.le_refl _) (by omega)
      go_wp2_with fail
      have hm8 : madeCells #[Value.int IntKind.u8 0] 8 = zrow8 L 0 := made8 L
      rw [hm8]
      clear hm8 hmk e1
      have H0 : Hid ((wr.alloc (.cells (zrow8 L 0) 5)).heap[wr.heap.size]? = some (.cells (zrow8 L 0) 5 (0, 0)) ∧ Below w.heap.size w (wr.alloc (.cells (zrow8 L 0) 5))) := Lib.hid ⟨Kq.blk_new wr _ _ _, HB.out.trans ((Kq.below_alloc _ _).mono HB.out.size)⟩
      have HGS : Hid (w.heap.size ≤ wr.heap.size) := Lib.hid HB.out.size
      generalize wr.alloc _ = w2 at *
      obtain ⟨G, hG⟩ : ∃ G, G = wr.heap.size := ⟨_, rfl⟩
      rw [← hG] at H0 HGS ⊢
      clear hG
      go_loopw [3, 5] (fun p i wr => ∃ (k : Nat) (q : Int), k ≤ 8 ∧ q = 7 - (k : Int) ∧ i = .int .i64 q ∧ p = .int .u64 ((L / 256 ^ k : Nat) : Int) ∧ wr.heap[G]? = some (.cells (zrow8 L k) 5 (0, 0)) ∧ Below w.heap.size w wr) (fun _ i _ => (intOf i + 1).toNat)
      case atStart => exact ⟨0, 7, by omega, by omega, rfl, by rw [Nat.pow_zero, Nat.div_one], H0.out⟩
      case round =>
        obtain ⟨k, q, hk, hq, rfl, rfl, hI⟩ := hrel
        have HI := Lib.hid hI
        clear hI
        by_cases hlt : k < 8
        · obtain ⟨σ, hσ⟩ : ∃ σ : Nat, σ = 7 - k := ⟨_, rfl⟩
          obtain rfl : q = (σ : Int) := by omega
          have l0 : (0 : Int) ≤ (σ : Int) := by omega
          have l1 : (σ : Int) < 8 := by omega
          obtain ⟨b1, b2⟩ := byte_step L k
          have HSET := Lib.hid (lastB_set L k hlt)
          rw [← hσ] at HSET
          have HB2 := Lib.hid b2
          have hLb : L / 256 ^ k < 18446744073709551616 := Nat.lt_of_le_of_lt (Nat.div_le_self _ _) (by have := HL.out; omega)
          have hx : L / 256 ^ k % 256 < 256 := Nat.mod_lt _ (by decide)
          obtain ⟨v9, hcell⟩ : ∃ v, wr.cell? ⟨G, σ, none⟩ = some v := by
            obtain ⟨v, hv⟩ := zrow8_at L k σ hk (by omega)
            exact ⟨v, (Kq.blk_cell HI.out.1 σ).trans hv⟩
          have hfz : wr.frozen? ⟨G, σ, none⟩ = false := Kq.blk_free HI.out.1 σ
          have HSG := Lib.hid hσ
          generalize L / 256 ^ k % 256 = x at *
          obtain ⟨yn, hyn⟩ : ∃ yn, yn = L / 256 ^ (k + 1) := ⟨_, rfl⟩
          rw [← hyn] at b2
          have HYN := Lib.hid hyn
          clear hyn
          generalize L / 256 ^ k = y at *
          have hu8 : IntKind.u8.wrap (x : Int) = (x : Int) := by rw [IntKind.wrap_u8]; omega
          have hu8' : IntKind.u8.wrap ((y : Int) % 256) = (x : Int) := by rw [b1, hu8]
          have hq64 : IntKind.u64.wrap (yn : Int) = (yn : Int) := by rw [IntKind.wrap_u64]; omega
          have HN : Hid ((wr.setCell ⟨G, σ, none⟩ (.int .u8 (x : Int))).heap[G]? = some (.cells (zrow8 L (k + 1)) 5 (0, 0)) ∧ Below w.heap.size w (wr.setCell ⟨G, σ, none⟩ (.int .u8 (x : Int)))) := Lib.hid ⟨by rw [Kq.blk_set HI.out.1, HSET.out], HI.out.2.setCell HGS.out _⟩
          clear hq hσ
          go_wp2
          go_roundw
          case rel => exact ⟨k + 1, _, by omega, by have := HSG.out; omega, rfl, by rw [HYN.out], HN.out⟩
          case measure => simp [intOf] <;> omega
        · have hk8 : k = 8 := by omega
          obtain rfl : q = -1 := by omega
          rw [hk8] at HI
          have hcv := conv_own (row8 wr G L HI.out.1) (by simp [Sh.be8, Sh.be4]) (by rw [← lastB_eight]; exact lastB_lt L 8)
          have hz8 : (txt (Sh.be8 L)).size = 8 := by rw [txt_size]; simp [Sh.be8, Sh.be4]
          have HE2 := Lib.hid HE.out
          generalize txt (Sh.be8 L) = E at *
          have lE : ¬ 9223372036854775807 < S.size + E.size := by have := HSE.out; have := HZ.out; omega
          clear hk8 hq hk hlt
          go_wp2
          go_ret
          exact ⟨by rw [HE2.out]; rfl, HI.out.2⟩
end Go.Proofs.YtcknhnbckbocjaaDoor
namespace Go.Proofs.YtcknhnbckbocjaaDoor
open Go.RowKit
set_option linter.unusedVariables false
/-- a book: the constants lie where its slices lead -/
structure BookAt (w : World) (P : Nat) : Prop where
  ex : ∃ A ca B cb, w.cell? ⟨P, 0, none⟩ = some (.slice (some ⟨A, 0, none⟩) 64 ca) ∧ w.cell? ⟨P, 1, none⟩ = some (.slice (some ⟨B, 0, none⟩) 8 cb) ∧ WordsAt w A Sh.K ∧ WordsAt w B (toL Sh.H0)
  lt : P < w.heap.size
theorem BookAt.below {w w' : World} {P : Nat} (h : BookAt w P) (hb : Below w.heap.size w w') : BookAt w' P := by
  obtain ⟨A, ca, B, cb, h1, h2, h3, h4⟩ := h.ex
  exact ⟨⟨A, ca, B, cb, (hb.cell (p := ⟨P, 0, none⟩) h.lt).trans h1, (hb.cell (p := ⟨P, 1, none⟩) h.lt).trans h2, h3.below hb, h4.below hb⟩, Nat.lt_of_lt_of_le h.lt hb.size⟩
def stK (l : List Nat) (k : Nat) : Sh.S8 := Sh.blocks k Sh.H0 l
theorem stK_succ (l : List Nat) (k : Nat) : stK l (k + 1) = Sh.mix (stK l k) ((l.drop (64 * k)).take 64) := by
  unfold stK; rw [Sh.blocks_add]; rfl
theorem H0_ok : Ok8 Sh.H0 := ⟨by decide, by decide, by decide, by decide, by decide, by decide, by decide, by decide⟩
theorem stK_ok (l : List Nat) : ∀ k, Ok8 (stK l k)
  | 0 => H0_ok
  | k + 1 => by rw [stK_succ]; exact add8_ok _ _
theorem toL_lt {s : Sh.S8} (h : Ok8 s) : ∀ x ∈ toL s, x < 4294967296 := by
  intro x hx
  simp only [toL, List.mem_cons, List.not_mem_nil, or_false] at hx
  rcases hx with rfl | rfl | rfl | rfl | rfl | rfl | rfl | rfl
  · exact h.a
  · exact h.b
  · exact h.c
  · exact h.d
  · exact h.e
  · exact h.f
  · exact h.g
  · exact h.h
set_option maxRecDepth 100000 in
set_option maxHeartbeats 4000000 in
theorem r_digest (P : Nat) (s : ByteArray) (w : World) (h : BookAt w P) (hs : s.size ≤ 900000000) :
    Calls Tryd.prog 74 #[.pointer (some ⟨P, 0, none⟩), .string s] w fun e w' => e = .returned (.string (txt (Sh.digest (nl s)))) ∧ Below w.heap.size w w' := by
  obtain ⟨i0, hi, hz0, hz1, hz2⟩ := info_partsH infoU8H
  have H := Lib.hid h
  obtain ⟨A, ca, B, cb, c0, c1, hA, hB⟩ := h.ex
  have HC := Lib.hid (And.intro c0 (And.intro c1 (And.intro hA hB)))
  clear h c0 c1 hA hB
  have HPD := Lib.hid (fun w => r_pad s w (by omega))
  obtain ⟨l, hl⟩ : ∃ l, l = nl s ++ Sh.padding s.size := ⟨_, rfl⟩
  have hsn : (nl s).length = s.size := by simp [nl]
  have hplen : l.length % 64 = 0 := by rw [hl, List.length_append, hsn]; exact padding_len s.size
  have hlen : l.length ≤ s.size + 200 := by
    rw [hl, List.length_append, hsn]
    have : (Sh.padding s.size).length = 1 + (64 + 55 - s.size % 64) % 64 + 8 := by simp [Sh.padding, Sh.be8, Sh.be4]; omega
    omega
  have hlb : ∀ b ∈ l, b < 256 := by
    intro b hb
    rw [hl] at hb
    rcases List.mem_append.1 hb with h | h
    · exact nl_lt s b h
    · exact padding_lt _ b h
  have HDG : Hid (Sh.digest (nl s) = outL (toL (stK l (l.length / 64))) 8) := Lib.hid (by
    rw [outL_all, hl]
    unfold Sh.digest stK
    rw [hsn])
  rw [← hl] at HPD
  clear hl hsn
  have hTz : (txt l).size = l.length := by rw [txt_size]
  have HTN : Hid (nl (txt l) = l) := Lib.hid (nl_txt l hlb)
  obtain ⟨T, hT⟩ : ∃ T, T = txt l := ⟨_, rfl⟩
  rw [← hT] at hTz HTN HPD
  clear hT
  obtain ⟨N, hN⟩ : ∃ N, N = l.length / 64 := ⟨_, rfl⟩
  have hTN : T.size = 64 * N := by omega
  rw [← hN] at HDG
  have HTZ := Lib.hid hTN
  have hNb : N ≤ 100000000 := by omega
  clear hN hTz hlen hplen hTN
  go_enter Tryd.func74, Tryd.ntmps74
  go_wp2_with fail
  refine (HPD.out w).mono ?_
  rintro e w1 ⟨rfl, hb1⟩
  have HB1 := Lib.hid hb1
  have c1 := (hb1.cell (p := ⟨P, 1, none⟩) H.out.lt).trans HC.out.2.1
  clear hb1 HPD
  go_wp2
  clear c1
  go_loopw [6, 7] (fun p i wr => ∃ (k G c : Nat), k ≤ N ∧ i = .int .i64 ((64 * k : Nat) : Int) ∧ p = .slice (some ⟨G, 0, none⟩) 8 c ∧ WordsAt wr G (toL (stK l k)) ∧ Below w.heap.size w wr) (fun _ i _ => 64 * N - (intOf i).toNat)
  case atStart => exact ⟨0, B, cb, Nat.zero_le _, rfl, rfl, HC.out.2.2.2.below HB1.out, HB1.out⟩
  case round =>
    obtain ⟨k, G, c, hk, rfl, rfl, hI⟩ := hrel
    have HI := Lib.hid hI
    clear hI
    obtain ⟨m, hm⟩ : ∃ m, m = 64 * k := ⟨_, rfl⟩
    rw [← hm]
    by_cases hlt : k < N
    · have hmT : m + 64 ≤ T.size := by rw [HTZ.out]; omega
      have d0 : decide ((m : Int) < (T.size : Int)) = true := decide_eq_true (by omega)
      have d1 : (m : Int) < (T.size : Int) := by omega
      obtain ⟨m2, hm2⟩ : ∃ m2, m2 = m + 64 := ⟨_, rfl⟩
      have e1 : (m : Int) + 64 = (m2 : Int) := by omega
      have e2 : IntKind.i64.wrap ((m : Int) + 64) = (m2 : Int) := by rw [e1, IntWalk.i64_in _ (by omega)]
      have e3 : IntKind.i64.wrap (m2 : Int) = (m2 : Int) := IntWalk.i64_in _ (by omega)
      have d2 : (m2 : Int) ≤ (T.size : Int) := by omega
      have d3 : (m : Int) ≤ (m2 : Int) := by omega
      have hx64 : (T.extract m m2).size = 64 := by simp; omega
      have HNX : Hid (nl (T.extract m m2) = (l.drop (64 * k)).take 64) := Lib.hid (by rw [nl_extract, HTN.out, hm2, hm, show 64 * k + 64 - 64 * k = 64 by omega])
      have HM2 := Lib.hid hm2
      have HST := Lib.hid (stK_succ l k)
      have HBLK := Lib.hid (fun w' (hb : Below wr.heap.size wr w') => r_block (T.extract m m2) A ca G c (toL (stK l k)) w' hx64 ((HC.out.2.2.1.below HI.out.2).below hb) (HI.out.1.below hb) rfl (toL_lt (stK_ok l k)))
      rw [HNX.out] at HBLK
      have c0 : wr.cell? ⟨P, 0, none⟩ = some (.slice (some ⟨A, 0, none⟩) 64 ca) := (HI.out.2.cell (p := ⟨P, 0, none⟩) H.out.lt).trans HC.out.1
      have HMK := Lib.hid hm
      clear hx64 hm hm2
      go_wp2_with fail
      refine wp_region_held_drew (S := fun w' => w'.cell? ⟨P, 0, none⟩ = some (.slice (some ⟨A, 0, none⟩) 64 ca)) (by kernel_rfl) c0 (fun hS0 => ?_)
      refine wpAnyH_take (i := 0) (v := ?_) rfl (by kernel_rfl) (by kernel_rfl) (by kernel_rfl) (fun _ _ _ h => h) (Or.inl ⟨by kernel_rfl, ?_⟩) (by assumption) ?_
      rotate_left
      · intro w hSw; (try dsimp only at hSw); go_simp; (try with_reducible rfl)
      refine wpAnyH_take (i := 1) (v := ?_) rfl (by kernel_rfl) (by kernel_rfl) (by kernel_rfl) (fun _ _ _ h => h) (Or.inl ⟨by kernel_rfl, ?_⟩) (by assumption) ?_
      rotate_left
      · intro w hSw; (try dsimp only at hSw); go_simp; (try with_reducible rfl)
      refine wpAnyH_take (i := 2) (v := ?_) rfl (by kernel_rfl) (by kernel_rfl) (by kernel_rfl) (fun _ _ _ h => h) (Or.inl ⟨by kernel_rfl, ?_⟩) (by assumption) ?_
      rotate_left
      · intro w hSw; (try dsimp only at hSw); go_simp; (try with_reducible rfl)
      refine wpAnyH_take (i := 3) (v := ?_) rfl (by kernel_rfl) (by kernel_rfl) (by kernel_rfl) (fun _ _ _ h => h) (Or.inl ⟨by kernel_rfl, ?_⟩) (by assumption) ?_
      rotate_left
      · intro w hSw; (try dsimp only at hSw); go_simp; (try with_reducible rfl)
      refine wpAnyH_take (i := 4) (v := ?_) rfl (by kernel_rfl) (by kernel_rfl) (by kernel_rfl) (fun _ _ _ h => h) (Or.inl ⟨by kernel_rfl, ?_⟩) (by assumption) ?_
      rotate_left
      · intro w hSw; (try dsimp only at hSw); go_simp; (try with_reducible rfl)
      refine wpAnyH_take (i := 5) (v := ?_) rfl (by kernel_rfl) (by kernel_rfl) (by kernel_rfl) (fun _ _ _ h => h) (Or.inl ⟨by kernel_rfl, ?_⟩) (by assumption) ?_
      rotate_left
      · intro w hSw; (try dsimp only at hSw); go_simp; (try with_reducible rfl)
      refine wpAnyH_take (i := 6) (v := ?_) rfl (by kernel_rfl) (by kernel_rfl) (by kernel_rfl) (fun _ _ _ h => h) (Or.inl ⟨by kernel_rfl, ?_⟩) (by assumption) ?_
      rotate_left
      · intro w hSw; (try dsimp only at hSw); go_simp; (try with_reducible rfl)
      refine wpAnyH_take (i := 7) (v := ?_) rfl (by kernel_rfl) (by kernel_rfl) (by kernel_rfl) (fun _ _ _ h => h) (Or.inl ⟨by kernel_rfl, ?_⟩) (by assumption) ?_
      rotate_left
      · intro w hSw; (try dsimp only at hSw); go_simp; (try with_reducible rfl)
      refine wpAnyH_take (i := 8) (v := ?_) rfl (by kernel_rfl) (by kernel_rfl) (by kernel_rfl) (fun _ _ _ h => h) (Or.inl ⟨by kernel_rfl, ?_⟩) (by assumption) ?_
      rotate_left
      · intro w hSw; (try dsimp only at hSw); go_simp; (try with_reducible rfl)
      refine wpAnyH_take (i := 9) (v := ?_) rfl (by kernel_rfl) (by kernel_rfl) (by kernel_rfl) (fun _ _ _ h => h) (Or.inl ⟨by kernel_rfl, ?_⟩) (by assumption) ?_
      rotate_left
      · intro w hSw; (try dsimp only at hSw); go_simp; (try with_reducible rfl)
      refine wpAnyH_ready (rs := [10]) (by kernel_rfl) (by simp) ?_
      refine AllReadyH.cons rfl (fun K hK => ?_) AllReadyH.nil
      go_simp
      with_reducible refine (HBLK.out _ (Below.refl _ _).drew).mono ?_
      rintro e w2 ⟨G2, c2, rfl, hw2, hb2⟩
      rw [ofL_toL, ← HST.out] at hw2
      have hb2' : Below wr.heap.size wr w2 := ⟨hb2.os, hb2.tape, hb2.output, hb2.size, hb2.block⟩
      have H2 : Hid (WordsAt w2 G2 (toL (stK l (k + 1))) ∧ Below w.heap.size w w2) := Lib.hid ⟨hw2, HI.out.2.trans (hb2'.mono HI.out.2.size)⟩
      refine hK.out _ _ ((hb2'.cell (p := ⟨P, 0, none⟩) (Nat.lt_of_lt_of_le H.out.lt HI.out.2.size)).trans c0) (fun hS1 => ?_)
      clear hK K hS0 hw2 hb2 hb2' c0
      refine wpAnyH_take (i := 11) (v := ?_) rfl (by kernel_rfl) (by kernel_rfl) (by kernel_rfl) (fun _ _ _ h => h) (Or.inl ⟨by kernel_rfl, ?_⟩) (by assumption) ?_
      rotate_left
      · intro w hSw; (try dsimp only at hSw); go_simp; (try with_reducible rfl)
      refine wpAnyH_done (by kernel_rfl) ?_ _
      clear hS1
      go_wp2
      go_roundw
      case rel => exact ⟨k + 1, G2, c2, by omega, by rw [show 64 * (k + 1) = m2 by have := HMK.out; have := HM2.out; omega], rfl, H2.out⟩
      case measure => have := HMK.out; have := HM2.out; simp [intOf]; omega
    · have hkN : k = N := by omega
      have d0 : decide ((m : Int) < (T.size : Int)) = false := decide_eq_false (by rw [HTZ.out]; omega)
      have d1 : ¬ (m : Int) < (T.size : Int) := by rw [HTZ.out]; omega
      rw [hkN] at HI
      have HWS : Hid ((toL (stK l N)).length = 8 ∧ ∀ x ∈ toL (stK l N), x < 4294967296) := Lib.hid ⟨rfl, toL_lt (stK_ok l N)⟩
      obtain ⟨ws, hws⟩ : ∃ ws, ws = toL (stK l N) := ⟨_, rfl⟩
      rw [← hws] at HWS HI HDG
      clear hws hkN hm
      go_wp2_with fail
      obtain ⟨w9, hw9⟩ : ∃ w9, w9 = wr := ⟨_, rfl⟩
      have HB9 : Hid (WordsAt w9 G ws ∧ Below w.heap.size w w9) := Lib.hid (by rw [hw9]; exact HI.out)
      rw [← hw9]
      clear hw9 HI d0 d1
      go_loopw [8, 9] (fun o i wr => ∃ (k : Nat) (v : Value), k ≤ 8 ∧ i = .int .i64 (k : Int) ∧ o = v ∧ wr.ownsRow w9.heap.size 5 1 v (4 * k) (shcells (outL ws k)) ∧ Below w9.heap.size w9 wr) (fun _ i _ => 8 - (intOf i).toNat)
      case atStart => exact ⟨0, _, by omega, rfl, rfl, World.ownsRow_nil _ _ _ _, Below.refl _ _⟩
      case round =>
        obtain ⟨k, v, hk, rfl, hov, hrow, hbel⟩ := hrel
        have hov := hov.symm
        subst hov
        have HR := Lib.hid (And.intro hrow hbel)
        clear hrow hbel
        by_cases hlt : k < 8
        · have l1 : (k : Int) < 8 := by omega
          have dk : decide ((k : Int) < 8) = true := decide_eq_true l1
          have hc : wr.cell? ⟨G, k, none⟩ = some (.int .u32 ((ws.getD k 0 : Nat) : Int)) := (HB9.out.1.below HR.out.2).2 k (by rw [HWS.out.1]; exact hlt)
          have HT := Lib.hid (outL_succ ws k (by rw [HWS.out.1]; exact hlt))
          have hx : ws.getD k 0 < 4294967296 := getD_lt ws HWS.out.2 k
          generalize ws.getD k 0 = x at *
          obtain ⟨y3, y2, y1, y0, hbe, b3, b2, b1, b0⟩ := be4_facts x
          have HBE := Lib.hid hbe
          have HG9 : Hid (G < w9.heap.size) := Lib.hid HB9.out.1.1
          clear hbe
          go_wp2_with fail
          refine wp_region_held_drew (S := fun w' => w'.cell? ⟨G, k, none⟩ = some (Value.int .u32 (x : Int))) (by kernel_rfl) hc (fun hS0 => ?_)
          refine wpAnyH_take (i := 0) (v := ?_) rfl (by kernel_rfl) (by kernel_rfl) (by kernel_rfl) (fun _ _ _ h => h) (Or.inl ⟨by kernel_rfl, ?_⟩) (by assumption) ?_
          rotate_left
          · intro w hSw; (try dsimp only at hSw); go_simp; (try with_reducible rfl)
          refine wpAnyH_take (i := 1) (v := ?_) rfl (by kernel_rfl) (by kernel_rfl) (by kernel_rfl) (fun _ _ _ h => h) (Or.inl ⟨by kernel_rfl, ?_⟩) (by assumption) ?_
          rotate_left
          · intro w hSw; (try dsimp only at hSw); go_simp; (try with_reducible rfl)
          refine wpAnyH_take (i := 2) (v := ?_) rfl (by kernel_rfl) (by kernel_rfl) (by kernel_rfl) (fun _ _ _ h => h) (Or.inl ⟨by kernel_rfl, ?_⟩) (by assumption) ?_
          rotate_left
          · intro w hSw; (try dsimp only at hSw); go_simp; (try with_reducible rfl)
          refine wpAnyH_take (i := 3) (v := ?_) rfl (by kernel_rfl) (by kernel_rfl) (by kernel_rfl) (fun _ _ _ h => h) (Or.inl ⟨by kernel_rfl, ?_⟩) (by assumption) ?_
          rotate_left
          · intro w hSw; (try dsimp only at hSw); go_simp; (try with_reducible rfl)
          refine wpAnyH_take (i := 4) (v := ?_) rfl (by kernel_rfl) (by kernel_rfl) (by kernel_rfl) (fun _ _ _ h => h) (Or.inl ⟨by kernel_rfl, ?_⟩) (by assumption) ?_
          rotate_left
          · intro w hSw; (try dsimp only at hSw); go_simp; (try with_reducible rfl)
          refine wpAnyH_take (i := 5) (v := ?_) rfl (by kernel_rfl) (by kernel_rfl) (by kernel_rfl) (fun _ _ _ h => h) (Or.inl ⟨by kernel_rfl, ?_⟩) (by assumption) ?_
          rotate_left
          · intro w hSw; (try dsimp only at hSw); go_simp; (try with_reducible rfl)
          refine wpAnyH_take (i := 6) (v := ?_) rfl (by kernel_rfl) (by kernel_rfl) (by kernel_rfl) (fun _ _ _ h => h) (Or.inl ⟨by kernel_rfl, ?_⟩) (by assumption) ?_
          rotate_left
          · intro w hSw; (try dsimp only at hSw); go_simp; (try with_reducible rfl)
          refine wpAnyH_take (i := 7) (v := ?_) rfl (by kernel_rfl) (by kernel_rfl) (by kernel_rfl) (fun _ _ _ h => h) (Or.inl ⟨by kernel_rfl, ?_⟩) (by assumption) ?_
          rotate_left
          · intro w hSw; (try dsimp only at hSw); go_simp; (try with_reducible rfl)
          refine wpAnyH_take (i := 8) (v := ?_) rfl (by kernel_rfl) (by kernel_rfl) (by kernel_rfl) (fun _ _ _ h => h) (Or.inl ⟨by kernel_rfl, ?_⟩) (by assumption) ?_
          rotate_left
          · intro w hSw; (try dsimp only at hSw); go_simp; (try with_reducible rfl)
          refine wpAnyH_take (i := 9) (v := ?_) rfl (by kernel_rfl) (by kernel_rfl) (by kernel_rfl) (fun _ _ _ h => h) (Or.inl ⟨by kernel_rfl, ?_⟩) (by assumption) ?_
          rotate_left
          · intro w hSw; (try dsimp only at hSw); go_simp; (try with_reducible rfl)
          refine wpAnyH_take (i := 10) (v := ?_) rfl (by kernel_rfl) (by kernel_rfl) (by kernel_rfl) (fun _ _ _ h => h) (Or.inl ⟨by kernel_rfl, ?_⟩) (by assumption) ?_
          rotate_left
          · intro w hSw; (try dsimp only at hSw); go_simp; (try with_reducible rfl)
          refine wpAnyH_take (i := 11) (v := ?_) rfl (by kernel_rfl) (by kernel_rfl) (by kernel_rfl) (fun _ _ _ h => h) (Or.inl ⟨by kernel_rfl, ?_⟩) (by assumption) ?_
          rotate_left
          · intro w hSw; (try dsimp only at hSw); go_simp; (try with_reducible rfl)
          refine wpAnyH_take (i := 12) (v := ?_) rfl (by kernel_rfl) (by kernel_rfl) (by kernel_rfl) (fun _ _ _ h => h) (Or.inl ⟨by kernel_rfl, ?_⟩) (by assumption) ?_
          rotate_left
          · intro w hSw; (try dsimp only at hSw); go_simp; (try with_reducible rfl)
          refine wpAnyH_take (i := 13) (v := ?_) rfl (by kernel_rfl) (by kernel_rfl) (by kernel_rfl) (fun _ _ _ h => h) (Or.inl ⟨by kernel_rfl, ?_⟩) (by assumption) ?_
          rotate_left
          · intro w hSw; (try dsimp only at hSw); go_simp; (try with_reducible rfl)
          refine wpAnyH_take (i := 14) (v := ?_) rfl (by kernel_rfl) (by kernel_rfl) (by kernel_rfl) (fun _ _ _ h => h) (Or.inl ⟨by kernel_rfl, ?_⟩) (by assumption) ?_
          rotate_left
          · intro w hSw; (try dsimp only at hSw); go_simp; (try with_reducible rfl)
          refine wpAnyH_take (i := 15) (v := ?_) rfl (by kernel_rfl) (by kernel_rfl) (by kernel_rfl) (fun _ _ _ h => h) (Or.inl ⟨by kernel_rfl, ?_⟩) (by assumption) ?_
          rotate_left
          · intro w hSw; (try dsimp only at hSw); go_simp; (try with_reducible rfl)
          refine wpAnyH_take (i := 16) (v := ?_) rfl (by kernel_rfl) (by kernel_rfl) (by kernel_rfl) (fun _ _ _ h => h) (Or.inl ⟨by kernel_rfl, ?_⟩) (by assumption) ?_
          rotate_left
          · intro w hSw; (try dsimp only at hSw); go_simp; (try with_reducible rfl)
          refine wpAnyH_take (i := 17) (v := ?_) rfl (by kernel_rfl) (by kernel_rfl) (by kernel_rfl) (fun _ _ _ h => h) (Or.inl ⟨by kernel_rfl, ?_⟩) (by assumption) ?_
          rotate_left
          · intro w hSw; (try dsimp only at hSw); go_simp; (try with_reducible rfl)
          refine wpAnyH_take (i := 18) (v := ?_) rfl (by kernel_rfl) (by kernel_rfl) (by kernel_rfl) (fun _ _ _ h => h) (Or.inl ⟨by kernel_rfl, ?_⟩) (by assumption) ?_
          rotate_left
          · intro w hSw; (try dsimp only at hSw); go_simp; (try with_reducible rfl)
          refine wpAnyH_take (i := 19) (v := ?_) rfl (by kernel_rfl) (by kernel_rfl) (by kernel_rfl) (fun _ _ _ h => h) (Or.inl ⟨by kernel_rfl, ?_⟩) (by assumption) ?_
          rotate_left
          · intro w hSw; (try dsimp only at hSw); go_simp; (try with_reducible rfl)
          refine wpAnyH_take (i := 20) (v := ?_) rfl (by kernel_rfl) (by kernel_rfl) (by kernel_rfl) (fun _ _ _ h => h) (Or.inl ⟨by kernel_rfl, ?_⟩) (by assumption) ?_
          rotate_left
          · intro w hSw; (try dsimp only at hSw); go_simp; (try with_reducible rfl)
          refine wpAnyH_take (i := 21) (v := ?_) rfl (by kernel_rfl) (by kernel_rfl) (by kernel_rfl) (fun _ _ _ h => h) (Or.inl ⟨by kernel_rfl, ?_⟩) (by assumption) ?_
          rotate_left
          · intro w hSw; (try dsimp only at hSw); go_simp; (try with_reducible rfl)
          refine wpAnyH_take (i := 22) (v := ?_) rfl (by kernel_rfl) (by kernel_rfl) (by kernel_rfl) (fun _ _ _ h => h) (Or.inl ⟨by kernel_rfl, ?_⟩) (by assumption) ?_
          rotate_left
          · intro w hSw; (try dsimp only at hSw); go_simp; (try with_reducible rfl)
          refine wpAnyH_take (i := 23) (v := ?_) rfl (by kernel_rfl) (by kernel_rfl) (by kernel_rfl) (fun _ _ _ h => h) (Or.inl ⟨by kernel_rfl, ?_⟩) (by assumption) ?_
          rotate_left
          · intro w hSw; (try dsimp only at hSw); go_simp; (try with_reducible rfl)
          refine wpAnyH_ready (rs := [24]) (by kernel_rfl) (by simp) ?_
          refine AllReadyH.cons rfl (fun K hK => ?_) AllReadyH.nil
          go_simp
          have hb1 := Kq.below_alloc wr (.cells #[.int .u8 (y3 : Int), .int .u8 (y2 : Int), .int .u8 (y1 : Int), .int .u8 (y0 : Int)] 5)
          have hlG : G < wr.heap.size := Nat.lt_of_lt_of_le HG9.out HR.out.2.size
          refine hK.out _ _ ((hb1.cell (p := ⟨G, k, none⟩) hlG).trans hc) (fun hS1 => ?_)
          clear hK K hS0
          obtain ⟨wq, hwq⟩ : ∃ z, z = (wr.alloc (Obj.cells #[Value.int IntKind.u8 (y3 : Int), Value.int IntKind.u8 (y2 : Int), Value.int IntKind.u8 (y1 : Int), Value.int IntKind.u8 (y0 : Int)] 5)).drew := ⟨_, rfl⟩
          rw [← hwq]
          have hsrc : Src Tryd.prog 1 97 (.slice (some ⟨wr.heap.size, 0, none⟩) 4 4) 4 (shcells [y3, y2, y1, y0]) wq := by
            rw [hwq]
            exact Src.ofSlice _ Tryd.underlying97 ⟨wr.heap.size, 0, none⟩ 4 4 _ rfl (fun j u hj => Kq.cell_new _ _ _ (by
              rw [← List.getElem?_toArray] at hj
              exact hj)) (fun u hu => by
              simp only [shcells, List.mem_map] at hu
              obtain ⟨y, _, rfl⟩ := hu
              rfl)
          have hbq : Below wr.heap.size wr wq := by rw [hwq]; exact hb1.drew
          have hrow : wq.ownsRow w9.heap.size 5 1 v (4 * k) (shcells (outL ws k)) := by rw [hwq]; exact HR.out.1.alloc _
          refine wpAnyH_ready (rs := [25]) (by kernel_rfl) (by simp) ?_
          refine AllReadyH.cons rfl (fun K hK => ?_) AllReadyH.nil
          rw [if_pos (by rfl)]
          refine Kq.wp_append_any _ (.tmp 37) (.tmp 61) 97 97 rfl w9.heap.size 5 i0 (.int .u8 0) 1 1 Tryd.underlying97 hi hz0 hz1 hz2 rfl (by decide) _ (4 * k) _ rfl hrow (.slice (some ⟨wr.heap.size, 0, none⟩) 4 4) 4 _ rfl hsrc ?e1 ?e2 (Nat.le_trans HR.out.2.size hbq.size) ?_
          case e1 => unfold maxLen; omega
          case e2 => omega
          intro v' w' hown hgrow hfresh
          have hgk := Kq.Keeps.grown (S := fun j => w9.heap.size ≤ j) hgrow (fun j _ hj => (own_lt hrow hj).1)
          have hc1 : w'.cell? ⟨G, k, none⟩ = some (.int .u32 (x : Int)) := by
            rw [World.cell?_of_block (hgk.block G (Nat.lt_of_lt_of_le hlG hbq.size) (Nat.not_le.2 HG9.out))]
            exact (hbq.cell (p := ⟨G, k, none⟩) hlG).trans hc
          have HO : Hid (w'.ownsRow w9.heap.size 5 1 v' (4 * (k + 1)) (shcells (outL ws (k + 1))) ∧ Below w9.heap.size w9 w') := by
            rw [HT.out, HBE.out]
            have e : shcells (outL ws k ++ [y3, y2, y1, y0]) = shcells (outL ws k) ++ shcells [y3, y2, y1, y0] := by simp [shcells]
            rw [e, show 4 * (k + 1) = 4 * k + 4 by omega]
            exact Lib.hid ⟨hown, (HR.out.2.trans (hbq.mono HR.out.2.size)).trans (hgk.below (Nat.le_trans HR.out.2.size hbq.size) (fun j _ hj => hj))⟩
          refine hK.out _ _ hc1 (fun hS2 => ?_)
          clear hK K hS1 hown hgrow hfresh hgk hc1 hrow hbq hsrc hwq hb1 hlG hc b3 b2 b1 b0
          refine wpAnyH_take (i := 26) (v := ?_) rfl (by kernel_rfl) (by kernel_rfl) (by kernel_rfl) (fun _ _ _ h => h) (Or.inl ⟨by kernel_rfl, ?_⟩) (by assumption) ?_
          rotate_left
          · intro w hSw; (try dsimp only at hSw); go_simp; (try with_reducible rfl)
          refine wpAnyH_done (by kernel_rfl) ?_ _
          clear hS2
          go_wp2
          go_roundw
          case rel => exact ⟨k + 1, _, by omega, by go_num, rfl, HO.out.1, HO.out.2⟩
          case measure => simp [intOf]; omega
        · have h8 : k = 8 := by omega
          have dk : decide ((k : Int) < 8) = false := decide_eq_false (by omega)
          have dk2 : ¬ (k : Int) < 8 := by omega
          rw [h8] at HR
          have hcv := conv_own HR.out.1 (by rw [outL_len ws 8 (by rw [HWS.out.1]; exact Nat.le_refl _)]) (outL_lt ws 8)
          rw [← HDG.out] at hcv
          clear h8
          go_wp2
          go_ret
          exact ⟨rfl, HB9.out.2.trans (HR.out.2.mono HB9.out.2.size)⟩
end Go.Proofs.YtcknhnbckbocjaaDoor
