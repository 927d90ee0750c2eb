/- Contract of carrackref01.Pad: a text and what ends it. Condition: sizes. -/
import Derived.Test.YtnbapiddbcaolaaDoorShPad
namespace Go.Proofs.YtnbapiddbcaolaaDoor
open Go.RowKit
set_option linter.unusedVariables false
theorem conv_one (w : World) (b : Nat) (hb : b < 256) : (convert 61 9 (.slice (some ⟨w.heap.size, 0, none⟩) 1 1)).run Tryd.prog (w.alloc (.cells #[.int .u8 (b : Int)] 5)) = .ok (.string (txt [b])) (w.alloc (.cells #[.int .u8 (b : Int)] 5)) := by
  have := Kq.conv_bytes (P := Tryd.prog) (w.alloc (.cells #[.int .u8 (b : Int)] 5)) (src := 61) (dst := 9) ⟨w.heap.size, 0, none⟩ ([b].map UInt8.ofNat) 1 Tryd.underlying61 Tryd.underlying5 Tryd.underlying9 (fun j u hj => Kq.cell_new _ _ _ (by
    rw [← hj, ← List.getElem?_toArray]
    congr 1
    simp [Nat.mod_eq_of_lt hb]))
  exact this
theorem txt_append (l m : List Nat) (hl : ∀ b ∈ l, b < 256) (hm : ∀ b ∈ m, b < 256) : txt l ++ txt m = txt (l ++ m) := by
  apply nl_inj
  rw [nl_append, nl_txt _ hl, nl_txt _ hm, nl_txt _ (fun b hb => (List.mem_append.1 hb).elim (hl b) (hm b))]
/-- eight bytes of a number, the last ones -/
def lastB (n k : Nat) : List Nat := List.replicate (8 - k) 0 ++ (Sh.be8 n).drop (8 - k)
def zrow8 (n k : Nat) : Array Value := (shcells (lastB n k)).toArray
theorem lastB_zero (n : Nat) : lastB n 0 = List.replicate 8 0 := by simp [lastB, Sh.be8, Sh.be4]
theorem lastB_eight (n : Nat) : lastB n 8 = Sh.be8 n := by simp [lastB]
theorem lastB_len (n k : Nat) (h : k ≤ 8) : (lastB n k).length = 8 := by simp [lastB, Sh.be8, Sh.be4] <;> omega
theorem lastB_lt (n k : Nat) : ∀ b ∈ lastB n k, b < 256 := by
  intro b hb
  rcases List.mem_append.1 hb with h | h
  · rw [List.eq_of_mem_replicate h]; decide
  · have := List.mem_of_mem_drop h
    simp only [Sh.be8, List.mem_append] at this
    rcases this with h | h
    · exact be4_lt _ b h
    · exact be4_lt _ b h
theorem be8_nat (n : Nat) : Sh.be8 n = [n / 72057594037927936 % 256, n / 281474976710656 % 256, n / 1099511627776 % 256, n / 4294967296 % 256, n / 16777216 % 256, n / 65536 % 256, n / 256 % 256, n % 256] := by
  unfold Sh.be8 Sh.be4 Sh.M32
  simp only [List.cons_append, List.nil_append, List.cons.injEq, and_true]
  refine ⟨by omega, by omega, by omega, by omega, by omega, by omega, by omega, by omega⟩
theorem lastB_set (n k : Nat) (h : k < 8) : (zrow8 n k).setIfInBounds (7 - k) (.int .u8 ((n / 256 ^ k % 256 : Nat) : Int)) = zrow8 n (k + 1) := by
  unfold zrow8 lastB
  rw [be8_nat]
  rcases k with _ | _ | _ | _ | _ | _ | _ | _ | k
  all_goals first | rfl | (simp [shcells]; done) | omega
theorem row8 (w : World) (G n : Nat) (h : w.heap[G]? = some (.cells (zrow8 n 8) 5 (0, 0))) : w.ownsRow G 5 1 (.slice (some ⟨G, 0, none⟩) 8 8) 8 (shcells (Sh.be8 n)) := by
  have e : zrow8 n 8 = (shcells (Sh.be8 n)).toArray := by rw [zrow8, lastB_eight]
  have h8 : (Sh.be8 n).length = 8 := by simp [Sh.be8, Sh.be4]
  refine ⟨by simp [shcells, h8], .inr ⟨G, 8, _, rfl, Nat.le_refl _, h, Nat.le_refl _, by unfold maxLen; omega, ?_, ?_⟩⟩
  · rw [e]; simp [shcells, h8]
  · rw [e, List.toList_toArray, List.take_of_length_le (by simp [shcells, h8])]
theorem zrow8_at (n k i : Nat) (h : k ≤ 8) (hi : i < 8) : ∃ v, (zrow8 n k)[i]? = some v := ⟨_, Array.getElem?_eq_getElem (by rw [zrow8, List.size_toArray, shcells, List.length_map, lastB_len n k h]; exact hi)⟩
theorem made8 (n : Nat) : madeCells (Value.int IntKind.u8 0).cells 8 = zrow8 n 0 := by
  rw [made_zeros, zrow8, lastB_zero]; rfl
theorem byte_step (n k : Nat) : ((n / 256 ^ k : Nat) : Int) % 256 = ((n / 256 ^ k % 256 : Nat) : Int) ∧ ((n / 256 ^ k : Nat) : Int) / 256 = ((n / 256 ^ (k + 1) : Nat) : Int) := by
  refine ⟨by omega, ?_⟩
  rw [Nat.pow_succ, ← Nat.div_div_eq_div_mul]
  omega
set_option maxRecDepth 100000 in
set_option maxHeartbeats 2000000 in
theorem r_pad (s : ByteArray) (w : World) (hs : s.size ≤ 1000000000) :
    Calls Tryd.prog 51 #[.string s] w fun e w' => e = .returned (.string (txt (nl s ++ Sh.padding s.size))) ∧ Below w.heap.size w w' := by
  obtain ⟨n, hn⟩ : ∃ n, n = s.size := ⟨_, rfl⟩
  have HNS := Lib.hid hn
  obtain ⟨L, hL⟩ : ∃ L, L = n * 8 := ⟨_, rfl⟩
  have HL := Lib.hid hL
  have hu1 : IntKind.u64.wrap (s.size : Int) = (s.size : Int) := by rw [IntWalk.u64_in _ (by omega)]
  have hu2 : IntKind.u64.wrap ((s.size : Int) * 8) = (L : Int) := by rw [IntWalk.u64_in _ (by omega)]; omega
  obtain ⟨z, hz⟩ : ∃ z, z = (64 + 55 - n % 64) % 64 := ⟨_, rfl⟩
  have HZ := Lib.hid hz
  have hnl : (nl s).length = n := by rw [hn]; simp [nl]
  have HNL := Lib.hid hnl
  have cv128 : ∀ w : World, (convert 61 9 (.slice (some ⟨w.heap.size, 0, none⟩) 1 1)).run Tryd.prog (w.alloc (.cells #[.int .u8 128] 5)) = .ok (.string (txt [128])) (w.alloc (.cells #[.int .u8 128] 5)) := fun w => conv_one w 128 (by decide)
  have cv0 : Hid (∀ w : World, (convert 61 9 (.slice (some ⟨w.heap.size, 0, none⟩) 1 1)).run Tryd.prog (w.alloc (.cells #[.int .u8 0] 5)) = .ok (.string (txt [0])) (w.alloc (.cells #[.int .u8 0] 5))) := Lib.hid (fun w => conv_one w 0 (by decide))
  have s128 : (txt [128]).size = 1 := by rw [txt_size]; rfl
  have S0 : Hid ((txt [0]).size = 1) := Lib.hid (by rw [txt_size]; rfl)
  have HT0 : Hid (s ++ txt [128] = txt (nl s ++ 128 :: List.replicate 0 0)) := Lib.hid (by
    apply nl_inj
    rw [nl_append, nl_txt [128] (by simp), nl_txt _ (by
      intro b hb
      rcases List.mem_append.1 hb with h | h
      · exact nl_lt s b h
      · rw [List.mem_singleton.1 h]; decide)]
    rfl)
  have l128 : ¬ 9223372036854775807 < s.size + (txt [128]).size := by rw [s128]; omega
  have HTS : Hid (∀ j, txt (nl s ++ 128 :: List.replicate j 0) ++ txt [0] = txt (nl s ++ 128 :: List.replicate (j + 1) 0)) := Lib.hid (fun j => by
    have hall : ∀ b ∈ nl s ++ 128 :: List.replicate j 0, b < 256 := fun b hb => by
      rcases List.mem_append.1 hb with h | h
      · exact nl_lt s b h
      · rcases List.mem_cons.1 h with rfl | h
        · decide
        · rw [List.eq_of_mem_replicate h]; decide
    rw [txt_append _ _ hall (by simp)]
    congr 1
    rw [List.append_assoc, List.cons_append, ← List.replicate_succ'])
  have HSZ : Hid (∀ j, (txt (nl s ++ 128 :: List.replicate j 0)).size = n + 1 + j) := Lib.hid (fun j => by
    rw [txt_size, List.length_append, hnl, List.length_cons, List.length_replicate]; omega)
  have HEND : Hid (txt (nl s ++ 128 :: List.replicate z 0) ++ txt (Sh.be8 L) = txt (nl s ++ Sh.padding s.size)) := Lib.hid (by
    rw [txt_append _ _ (by
      intro b hb
      rcases List.mem_append.1 hb with h | h
      · exact nl_lt s b h
      · rcases List.mem_cons.1 h with rfl | h
        · decide
        · rw [List.eq_of_mem_replicate h]; decide) (by rw [← lastB_eight]; exact lastB_lt L 8)]
    congr 1
    unfold Sh.padding
    rw [← hn, ← hz, show n * 8 % 18446744073709551616 = L by omega, List.append_assoc, List.cons_append])
  have hnb : n ≤ 1000000000 := by omega
  generalize txt [128] = T128 at *
  generalize txt [0] = T0 at *
  clear hz hnl hL hn s128
  go_enter Tryd.func51, Tryd.ntmps51
  go_wp2
  rw [HT0.out]
  have HB1 := Lib.hid (Kq.below_alloc w (.cells #[.int .u8 128] 5))
  generalize w.alloc _ = w1 at *
  clear cv128 l128 hu1 hu2
  go_loopw [0] (fun p wr => ∃ j : Nat, j ≤ z ∧ p = .string (txt (nl s ++ 128 :: List.replicate j 0)) ∧ Below w.heap.size w wr) (fun p _ => match p with | .string q => n + 200 - q.size | _ => 0)
  case atStart => exact ⟨0, Nat.zero_le _, rfl, HB1.out⟩
  case round =>
    obtain ⟨j, hj, rfl, hb⟩ := hrel
    have HB := Lib.hid hb
    clear hb
    have hsz := HSZ.out j
    have hts := HTS.out j
    obtain ⟨S, hS⟩ : ∃ S, S = txt (nl s ++ 128 :: List.replicate j 0) := ⟨_, rfl⟩
    rw [← hS] at hsz hts ⊢
    have HSS := Lib.hid hS
    clear hS
    by_cases hlt : j < z
    · have HSE := Lib.hid hsz
      have HTE := Lib.hid hts
      have hz119 := HZ.out
      have e1 : ¬ (S.size : Int) % 64 = 56 := by omega
      have e2 : ((S.size : Int) % 64 != 56) = true := by simp [e1]
      have hc := fun w => cv0.out w
      have l0 : ¬ 9223372036854775807 < S.size + T0.size := by rw [S0.out]; omega
      have hm : S.size < n + 200 := by omega
      have HM := Lib.hid hm
      clear hts hz119 hsz hm
      go_wp2
      go_roundw
      case rel => exact ⟨j + 1, by omega, by rw [HTE.out], HB.out.trans ((Kq.below_alloc _ _).mono HB.out.size)⟩
      case measure => have := HM.out; have := S0.out; simp; omega
    · have hjz : j = z := by omega
      have hz119 := HZ.out
      have e1 : (S.size : Int) % 64 = 56 := by omega
      have hEnd := HEND.out
      rw [← hjz, ← HSS.out] at hEnd
      have HE := Lib.hid hEnd
      have HSE := Lib.hid hsz
      clear hEnd hts hz119 hsz hjz hlt
      have hmk := fun w => mk_len w 8 8 8 8 rfl rfl (Nat.le_refl _) (by omega)
      go_wp2_with fail
      have hm8 : madeCells #[Value.int IntKind.u8 0] 8 = zrow8 L 0 := made8 L
      rw [hm8]
      clear hm8 hmk e1
      have H0 : Hid ((wr.alloc (.cells (zrow8 L 0) 5)).heap[wr.heap.size]? = some (.cells (zrow8 L 0) 5 (0, 0)) ∧ Below w.heap.size w (wr.alloc (.cells (zrow8 L 0) 5))) := Lib.hid ⟨Kq.blk_new wr _ _ _, HB.out.trans ((Kq.below_alloc _ _).mono HB.out.size)⟩
      have HGS : Hid (w.heap.size ≤ wr.heap.size) := Lib.hid HB.out.size
      generalize wr.alloc _ = w2 at *
      obtain ⟨G, hG⟩ : ∃ G, G = wr.heap.size := ⟨_, rfl⟩
      rw [← hG] at H0 HGS ⊢
      clear hG
      go_loopw [3, 5] (fun p i wr => ∃ (k : Nat) (q : Int), k ≤ 8 ∧ q = 7 - (k : Int) ∧ i = .int .i64 q ∧ p = .int .u64 ((L / 256 ^ k : Nat) : Int) ∧ wr.heap[G]? = some (.cells (zrow8 L k) 5 (0, 0)) ∧ Below w.heap.size w wr) (fun _ i _ => (intOf i + 1).toNat)
      case atStart => exact ⟨0, 7, by omega, by omega, rfl, by rw [Nat.pow_zero, Nat.div_one], H0.out⟩
      case round =>
        obtain ⟨k, q, hk, hq, rfl, rfl, hI⟩ := hrel
        have HI := Lib.hid hI
        clear hI
        by_cases hlt : k < 8
        · obtain ⟨σ, hσ⟩ : ∃ σ : Nat, σ = 7 - k := ⟨_, rfl⟩
          obtain rfl : q = (σ : Int) := by omega
          have l0 : (0 : Int) ≤ (σ : Int) := by omega
          have l1 : (σ : Int) < 8 := by omega
          obtain ⟨b1, b2⟩ := byte_step L k
          have HSET := Lib.hid (lastB_set L k hlt)
          rw [← hσ] at HSET
          have HB2 := Lib.hid b2
          have hLb : L / 256 ^ k < 18446744073709551616 := Nat.lt_of_le_of_lt (Nat.div_le_self _ _) (by have := HL.out; omega)
          have hx : L / 256 ^ k % 256 < 256 := Nat.mod_lt _ (by decide)
          obtain ⟨v9, hcell⟩ : ∃ v, wr.cell? ⟨G, σ, none⟩ = some v := by
            obtain ⟨v, hv⟩ := zrow8_at L k σ hk (by omega)
            exact ⟨v, (Kq.blk_cell HI.out.1 σ).trans hv⟩
          have hfz : wr.frozen? ⟨G, σ, none⟩ = false := Kq.blk_free HI.out.1 σ
          have HSG := Lib.hid hσ
          generalize L / 256 ^ k % 256 = x at *
          obtain ⟨yn, hyn⟩ : ∃ yn, yn = L / 256 ^ (k + 1) := ⟨_, rfl⟩
          rw [← hyn] at b2
          have HYN := Lib.hid hyn
          clear hyn
          generalize L / 256 ^ k = y at *
          have hu8 : IntKind.u8.wrap (x : Int) = (x : Int) := by rw [IntKind.wrap_u8]; omega
          have hu8' : IntKind.u8.wrap ((y : Int) % 256) = (x : Int) := by rw [b1, hu8]
          have hq64 : IntKind.u64.wrap (yn : Int) = (yn : Int) := by rw [IntKind.wrap_u64]; omega
          have HN : Hid ((wr.setCell ⟨G, σ, none⟩ (.int .u8 (x : Int))).heap[G]? = some (.cells (zrow8 L (k + 1)) 5 (0, 0)) ∧ Below w.heap.size w (wr.setCell ⟨G, σ, none⟩ (.int .u8 (x : Int)))) := Lib.hid ⟨by rw [Kq.blk_set HI.out.1, HSET.out], HI.out.2.setCell HGS.out _⟩
          clear hq hσ
          go_wp2
          go_roundw
          case rel => exact ⟨k + 1, _, by omega, by have := HSG.out; omega, rfl, by rw [HYN.out], HN.out⟩
          case measure => simp [intOf] <;> omega
        · have hk8 : k = 8 := by omega
          obtain rfl : q = -1 := by omega
          rw [hk8] at HI
          have hcv := conv_own (row8 wr G L HI.out.1) (by simp [Sh.be8, Sh.be4]) (by rw [← lastB_eight]; exact lastB_lt L 8)
          have hz8 : (txt (Sh.be8 L)).size = 8 := by rw [txt_size]; simp [Sh.be8, Sh.be4]
          have HE2 := Lib.hid HE.out
          generalize txt (Sh.be8 L) = E at *
          have lE : ¬ 9223372036854775807 < S.size + E.size := by have := HSE.out; have := HZ.out; omega
          clear hk8 hq hk hlt
          go_wp2
          go_ret
          exact ⟨by rw [HE2.out]; rfl, HI.out.2⟩
end Go.Proofs.YtnbapiddbcaolaaDoor
