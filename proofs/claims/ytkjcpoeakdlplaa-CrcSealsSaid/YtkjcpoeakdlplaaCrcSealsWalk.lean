/- The walk of carracklaw02.CrcSeals. No condition but that lengths are ints. -/
import Derived.Deep.DeepCutAuto
import Derived.Test.YtkjcpoeakdlplaaCrcRef
namespace Go.Proofs.Ytkjcpoeakdlplaa
open Go.RowKit
set_option linter.unusedVariables false
theorem seal_head (s : ByteArray) : (sealT s).extract 0 s.size = s := by
  apply nl_inj
  rw [nl_extract, nl_seal, Nat.sub_zero, List.drop_zero, ← nl_length s, List.take_left]
theorem seal_tail (s : ByteArray) : (sealT s).extract s.size (sealT s).size = txt (CrcM.bytes (CrcM.upd 0 (nl s))) := by
  apply nl_inj
  rw [nl_extract, nl_seal, nl_bytes, seal_size]
  have h : (nl s ++ CrcM.bytes (CrcM.upd 0 (nl s))).drop s.size = CrcM.bytes (CrcM.upd 0 (nl s)) := by rw [← nl_length s, List.drop_left]
  rw [h, List.take_of_length_le (by rw [CrcM.bytes_length]; omega)]
theorem one_seal (a b : ByteArray) (h4 : b.size = 4) : rightB (a ++ b) = ((a ++ b).toList == (sealT a).toList) := by
  have hs : (a ++ b).size = a.size + 4 := by rw [ByteArray.size_append, h4]
  have h := right_same (a ++ b) (by omega)
  rw [hs, Nat.add_sub_cancel] at h
  have he : (a ++ b).extract 0 a.size = a := by
    apply nl_inj
    rw [nl_extract, nl_append, Nat.sub_zero, List.drop_zero, ← nl_length a, List.take_left]
  rw [he] at h
  exact h.symm
set_option maxRecDepth 100000 in
set_option maxHeartbeats 16000000 in
theorem crcSeals_walk (a b : ByteArray) (ha : a.size ≤ maxLen) (hb : b.size ≤ maxLen) (w : World) :
    Calls Try.prog 4 #[.string a, .string b] w fun e w' => e = .returned (.bool true) ∧ Below w.heap.size w w' := by
  by_cases k0 : 2000 < a.size
  · go_enter Try.func4, Try.ntmps4
    go_wp2_with fail
    refine (crc_awake _).mono ?_
    rintro e w1 ⟨rfl, hb1⟩
    go_wp2
    go_ret
    exact ⟨rfl, hb1⟩
  by_cases k1 : 2000 < b.size
  · go_enter Try.func4, Try.ntmps4
    go_wp2_with fail
    refine (crc_awake _).mono ?_
    rintro e w1 ⟨rfl, hb1⟩
    go_wp2
    go_ret
    exact ⟨rfl, hb1⟩
  have ka : a.size ≤ 2000 := by omega
  have kb : b.size ≤ 2000 := by omega
  have hab : (a ++ b).size ≤ maxLen := by rw [ByteArray.size_append]; unfold maxLen; omega
  have hz : (sealT a).size ≤ maxLen := seal_max a ka
  have hz4 : 4 ≤ (sealT a).size := by rw [seal_size]; omega
  have E1 : Hid (CrcM.upd 0 (nl (a ++ b)) = CrcM.upd (CrcM.upd 0 (nl a)) (nl b)) := Lib.hid (by rw [nl_append, CrcM.upd_append _ _ _ (nl_lt a)])
  have ER := Lib.hid (right_seal a)
  have E2 := Lib.hid (seal_tail a)
  have E3 := seal_head a
  have hsz : ((sealT a).size : Int) = (a.size : Int) + 4 := by rw [seal_size]; rfl
  have hle : (a.size : Int) ≤ ((sealT a).size : Int) := by omega
  have hle2 : (a.size : Int) ≤ (a.size : Int) + 4 := by omega
  have hab' : ¬ 9223372036854775807 < a.size + b.size := by omega
  go_enter Try.func4, Try.ntmps4
  go_wp2_with fail
  refine (crc_awake _).mono ?_
  rintro e w1 ⟨rfl, hb1⟩
  go_wp2_with fail
  refine (crc_seal a _ (small_max a ka)).mono ?_
  rintro e w2 ⟨rfl, hb2⟩
  go_wp2_with fail
  refine (crc_right (sealT a) _ hz hz4).mono ?_
  rintro e w3 ⟨rfl, hb3⟩
  rw [ER.out]
  have Bc : Below w.heap.size w w3 := (hb1.trans (hb2.mono hb1.size)).trans (hb3.mono (Nat.le_trans hb1.size hb2.size))
  clear hb1 hb2 hb3
  go_upto_region 8 with (fail)
  go_cut [51] (fun v wr => v = .bool false ∧ Below w.heap.size w wr)
  case first =>
    by_cases h4 : b.size = 4
    · have E4 := Lib.hid (one_seal a b h4)
      have h4' : ((b.size : Int) == 4) = true := by rw [h4]; rfl
      have hab4 : 4 ≤ (a ++ b).size := by rw [ByteArray.size_append]; omega
      clear h4
      go_wp2_with fail
      refine (crc_right (a ++ b) _ hab hab4).mono ?_
      rintro e w4 ⟨rfl, hb4⟩
      rw [E4.out]
      replace Bc := Bc.trans (hb4.mono Bc.size)
      clear hb4
      go_wp2
      go_meet
      case rel => exact ⟨rfl, Bc⟩
    · have h4' : ((b.size : Int) == 4) = false := by simp; omega
      clear h4
      go_wp2
      go_meet
      case rel => exact ⟨rfl, Bc⟩
  case rest =>
    clear Bc
    obtain ⟨rfl, Bc⟩ := hcut
    go_upto_region 10 with (fail)
    refine wp_region_any (by kernel_rfl) ?_
    (try (change wpAny _ _ _ _ _ _ _ (World.drew _)))
    obtain ⟨z0, hz0⟩ : ∃ x, x = World.drew wc := ⟨_, rfl⟩
    rw [← hz0]
    replace Bc : Below w.heap.size w z0 := by rw [hz0]; exact Bc.drew
    clear hz0
    refine wpAny_take (i := 0) (v := ?_) rfl (by kernel_rfl) (by kernel_rfl) (by kernel_rfl) (fun _ _ _ h => h) (Or.inl ⟨by kernel_rfl, ?_⟩) ?_
    rotate_left
    · intro w; go_simp; with_reducible rfl
    refine wpAny_take (i := 3) (v := ?_) rfl (by kernel_rfl) (by kernel_rfl) (by kernel_rfl) (fun _ _ _ h => h) (Or.inl ⟨by kernel_rfl, ?_⟩) ?_
    rotate_left
    · intro w; go_simp; with_reducible rfl
    refine wpAny_take (i := 5) (v := ?_) rfl (by kernel_rfl) (by kernel_rfl) (by kernel_rfl) (fun _ _ _ h => h) (Or.inl ⟨by kernel_rfl, ?_⟩) ?_
    rotate_left
    · intro w; go_simp; with_reducible rfl
    refine wpAny_take (i := 6) (v := ?_) rfl (by kernel_rfl) (by kernel_rfl) (by kernel_rfl) (fun _ _ _ h => h) (Or.inl ⟨by kernel_rfl, ?_⟩) ?_
    rotate_left
    · intro w; go_simp; with_reducible rfl
    refine wpAny_ready (rs := [1, 7]) (by kernel_rfl) (by simp) ?_
    refine (AllReady.cons rfl (fun K hK => ?_) (AllReady.cons rfl (fun K hK => ?_) AllReady.nil))
    · skip
      go_simp
      (first | (refine hK _ _ ?_; clear hK K) | skip)
      obtain ⟨z1, hz⟩ : ∃ x, x = z0.alloc (Obj.cells #[Value.string a] 9) := ⟨_, rfl⟩
      rw [← hz]
      have hb : Below z0.heap.size z0 z1 := by rw [hz]; exact Kq.below_alloc _ _
      replace Bc := Bc.trans (hb.mono Bc.size)
      have N1 : z0.heap.size < z1.heap.size := by rw [hz]; simp
      have C1_0 : z1.cell? ⟨z0.heap.size, 0, none⟩ = some (Value.string a) := by rw [hz]; simp
      clear hb hz
      refine wpAny_ready (rs := [2, 7]) (by kernel_rfl) (by simp) ?_
      refine (AllReady.cons rfl (fun K hK => ?_) (AllReady.cons rfl (fun K hK => ?_) AllReady.nil))
      · skip
        go_simp
        go_wp2_with (go_at_call 28; refine (crc_sum1 _ a _ N1 ha C1_0).mono ?_; rintro e z2 ⟨rfl, hb⟩)
        (first | (refine hK _ _ ?_; clear hK K) | skip)
        replace C1_0 := (hb.cell (p := ⟨z0.heap.size, 0, none⟩) N1).trans C1_0
        replace N1 := Nat.lt_of_lt_of_le N1 hb.size
        replace Bc := Bc.trans (hb.mono Bc.size)
        clear hb
        refine wpAny_ready (rs := [4, 7]) (by kernel_rfl) (by simp) ?_
        refine (AllReady.cons rfl (fun K hK => ?_) (AllReady.cons rfl (fun K hK => ?_) AllReady.nil))
        · skip
          go_simp
          go_wp2_with (go_at_call 30; refine (crc_update _ b _ (CrcM.upd_lt _ _) hb).mono ?_; rintro e z3 ⟨rfl, hb⟩)
          (first | (refine hK _ _ ?_; clear hK K) | skip)
          replace C1_0 := (hb.cell (p := ⟨z0.heap.size, 0, none⟩) N1).trans C1_0
          replace N1 := Nat.lt_of_lt_of_le N1 hb.size
          replace Bc := Bc.trans (hb.mono Bc.size)
          clear hb
          refine wpAny_ready (rs := [7]) (by kernel_rfl) (by simp) ?_
          refine AllReady.cons rfl (fun K hK => ?_) AllReady.nil
          go_simp
          (first | (refine hK _ _ ?_; clear hK K) | skip)
          obtain ⟨z4, hz⟩ : ∃ x, x = z3.alloc (Obj.cells #[Value.string a, Value.string b] 9) := ⟨_, rfl⟩
          rw [← hz]
          have hb : Below z3.heap.size z3 z4 := by rw [hz]; exact Kq.below_alloc _ _
          replace C1_0 := (hb.cell (p := ⟨z0.heap.size, 0, none⟩) N1).trans C1_0
          replace N1 := Nat.lt_of_lt_of_le N1 hb.size
          replace Bc := Bc.trans (hb.mono Bc.size)
          have N7 : z3.heap.size < z4.heap.size := by rw [hz]; simp
          have C7_0 : z4.cell? ⟨z3.heap.size, 0, none⟩ = some (Value.string a) := by rw [hz]; simp
          have C7_1 : z4.cell? ⟨z3.heap.size, 1, none⟩ = some (Value.string b) := by rw [hz]; simp
          clear hb hz
          refine wpAny_ready (rs := [8]) (by kernel_rfl) (by simp) ?_
          refine AllReady.cons rfl (fun K hK => ?_) AllReady.nil
          go_simp
          go_wp2_with (go_at_call 28; refine (crc_sum2 _ a b _ N7 ha hb C7_0 C7_1).mono ?_; rintro e z5 ⟨rfl, hb⟩)
          (first | (refine hK _ _ ?_; clear hK K) | skip)
          replace C1_0 := (hb.cell (p := ⟨z0.heap.size, 0, none⟩) N1).trans C1_0
          replace N1 := Nat.lt_of_lt_of_le N1 hb.size
          replace C7_0 := (hb.cell (p := ⟨z3.heap.size, 0, none⟩) N7).trans C7_0
          replace C7_1 := (hb.cell (p := ⟨z3.heap.size, 1, none⟩) N7).trans C7_1
          replace N7 := Nat.lt_of_lt_of_le N7 hb.size
          replace Bc := Bc.trans (hb.mono Bc.size)
          clear hb
          generalize CrcM.upd (CrcM.upd 0 (nl a)) (nl b) = X
          refine wpAny_take (i := 9) (v := ?_) rfl (by kernel_rfl) (by kernel_rfl) (by kernel_rfl) (fun _ _ _ h => h) (Or.inl ⟨by kernel_rfl, ?_⟩) ?_
          rotate_left
          · intro w; go_simp; with_reducible rfl
          refine wpAny_take (i := 10) (v := ?_) rfl (by kernel_rfl) (by kernel_rfl) (by kernel_rfl) (fun _ _ _ h => h) (Or.inl ⟨by kernel_rfl, ?_⟩) ?_
          rotate_left
          · intro w; go_simp; with_reducible rfl
          refine wpAny_take (i := 11) (v := ?_) rfl (by kernel_rfl) (by kernel_rfl) (by kernel_rfl) (fun _ _ _ h => h) (Or.inl ⟨by kernel_rfl, ?_⟩) ?_
          rotate_left
          · intro w; go_simp; with_reducible rfl
          refine wpAny_take (i := 12) (v := ?_) rfl (by kernel_rfl) (by kernel_rfl) (by kernel_rfl) (fun _ _ _ h => h) (Or.inl ⟨by kernel_rfl, ?_⟩) ?_
          rotate_left
          · intro w; go_simp; with_reducible rfl
          refine wpAny_take (i := 15) (v := ?_) rfl (by kernel_rfl) (by kernel_rfl) (by kernel_rfl) (fun _ _ _ h => h) (Or.inl ⟨by kernel_rfl, ?_⟩) ?_
          rotate_left
          · intro w; go_simp; with_reducible rfl
          refine wpAny_take (i := 16) (v := ?_) rfl (by kernel_rfl) (by kernel_rfl) (by kernel_rfl) (fun _ _ _ h => h) (Or.inl ⟨by kernel_rfl, ?_⟩) ?_
          rotate_left
          · intro w; go_simp; with_reducible rfl
          refine wpAny_take (i := 17) (v := ?_) rfl (by kernel_rfl) (by kernel_rfl) (by kernel_rfl) (fun _ _ _ h => h) (Or.inl ⟨by kernel_rfl, ?_⟩) ?_
          rotate_left
          · intro w; go_simp; with_reducible rfl
          refine wpAny_ready (rs := [13, 18]) (by kernel_rfl) (by simp) ?_
          refine (AllReady.cons rfl (fun K hK => ?_) (AllReady.cons rfl (fun K hK => ?_) AllReady.nil))
          · skip
            go_simp
            (first | (refine hK _ _ ?_; clear hK K) | skip)
            obtain ⟨z6, hz⟩ : ∃ x, x = z5.alloc (Obj.cells #[Value.string a, Value.string b] 9) := ⟨_, rfl⟩
            rw [← hz]
            have hb : Below z5.heap.size z5 z6 := by rw [hz]; exact Kq.below_alloc _ _
            replace C1_0 := (hb.cell (p := ⟨z0.heap.size, 0, none⟩) N1).trans C1_0
            replace N1 := Nat.lt_of_lt_of_le N1 hb.size
            replace C7_0 := (hb.cell (p := ⟨z3.heap.size, 0, none⟩) N7).trans C7_0
            replace C7_1 := (hb.cell (p := ⟨z3.heap.size, 1, none⟩) N7).trans C7_1
            replace N7 := Nat.lt_of_lt_of_le N7 hb.size
            replace Bc := Bc.trans (hb.mono Bc.size)
            have N13 : z5.heap.size < z6.heap.size := by rw [hz]; simp
            have C13_0 : z6.cell? ⟨z5.heap.size, 0, none⟩ = some (Value.string a) := by rw [hz]; simp
            have C13_1 : z6.cell? ⟨z5.heap.size, 1, none⟩ = some (Value.string b) := by rw [hz]; simp
            clear hb hz
            refine wpAny_ready (rs := [14, 18]) (by kernel_rfl) (by simp) ?_
            refine (AllReady.cons rfl (fun K hK => ?_) (AllReady.cons rfl (fun K hK => ?_) AllReady.nil))
            · skip
              go_simp
              go_wp2_with (go_at_call 28; refine (crc_sum2 _ a b _ N13 ha hb C13_0 C13_1).mono ?_; rintro e z7 ⟨rfl, hb⟩)
              (first | (refine hK _ _ ?_; clear hK K) | skip)
              replace C1_0 := (hb.cell (p := ⟨z0.heap.size, 0, none⟩) N1).trans C1_0
              replace N1 := Nat.lt_of_lt_of_le N1 hb.size
              replace C7_0 := (hb.cell (p := ⟨z3.heap.size, 0, none⟩) N7).trans C7_0
              replace C7_1 := (hb.cell (p := ⟨z3.heap.size, 1, none⟩) N7).trans C7_1
              replace N7 := Nat.lt_of_lt_of_le N7 hb.size
              replace C13_0 := (hb.cell (p := ⟨z5.heap.size, 0, none⟩) N13).trans C13_0
              replace C13_1 := (hb.cell (p := ⟨z5.heap.size, 1, none⟩) N13).trans C13_1
              replace N13 := Nat.lt_of_lt_of_le N13 hb.size
              replace Bc := Bc.trans (hb.mono Bc.size)
              clear hb
              refine wpAny_ready (rs := [18]) (by kernel_rfl) (by simp) ?_
              refine AllReady.cons rfl (fun K hK => ?_) AllReady.nil
              go_simp
              (first | (refine hK _ _ ?_; clear hK K) | skip)
              obtain ⟨z8, hz⟩ : ∃ x, x = z7.alloc (Obj.cells #[Value.string (a ++ b)] 9) := ⟨_, rfl⟩
              rw [← hz]
              have hb : Below z7.heap.size z7 z8 := by rw [hz]; exact Kq.below_alloc _ _
              replace C1_0 := (hb.cell (p := ⟨z0.heap.size, 0, none⟩) N1).trans C1_0
              replace N1 := Nat.lt_of_lt_of_le N1 hb.size
              replace C7_0 := (hb.cell (p := ⟨z3.heap.size, 0, none⟩) N7).trans C7_0
              replace C7_1 := (hb.cell (p := ⟨z3.heap.size, 1, none⟩) N7).trans C7_1
              replace N7 := Nat.lt_of_lt_of_le N7 hb.size
              replace C13_0 := (hb.cell (p := ⟨z5.heap.size, 0, none⟩) N13).trans C13_0
              replace C13_1 := (hb.cell (p := ⟨z5.heap.size, 1, none⟩) N13).trans C13_1
              replace N13 := Nat.lt_of_lt_of_le N13 hb.size
              replace Bc := Bc.trans (hb.mono Bc.size)
              have N18 : z7.heap.size < z8.heap.size := by rw [hz]; simp
              have C18_0 : z8.cell? ⟨z7.heap.size, 0, none⟩ = some (Value.string (a ++ b)) := by rw [hz]; simp
              clear hb hz
              refine wpAny_ready (rs := [19]) (by kernel_rfl) (by simp) ?_
              refine AllReady.cons rfl (fun K hK => ?_) AllReady.nil
              go_simp
              go_wp2_with (go_at_call 28; refine (crc_sum1 _ (a ++ b) _ N18 hab C18_0).mono ?_; rintro e z9 ⟨rfl, hb⟩)
              (first | (refine hK _ _ ?_; clear hK K) | skip)
              replace C1_0 := (hb.cell (p := ⟨z0.heap.size, 0, none⟩) N1).trans C1_0
              replace N1 := Nat.lt_of_lt_of_le N1 hb.size
              replace C7_0 := (hb.cell (p := ⟨z3.heap.size, 0, none⟩) N7).trans C7_0
              replace C7_1 := (hb.cell (p := ⟨z3.heap.size, 1, none⟩) N7).trans C7_1
              replace N7 := Nat.lt_of_lt_of_le N7 hb.size
              replace C13_0 := (hb.cell (p := ⟨z5.heap.size, 0, none⟩) N13).trans C13_0
              replace C13_1 := (hb.cell (p := ⟨z5.heap.size, 1, none⟩) N13).trans C13_1
              replace N13 := Nat.lt_of_lt_of_le N13 hb.size
              replace C18_0 := (hb.cell (p := ⟨z7.heap.size, 0, none⟩) N18).trans C18_0
              replace N18 := Nat.lt_of_lt_of_le N18 hb.size
              replace Bc := Bc.trans (hb.mono Bc.size)
              clear hb
              rw [E1.out]
              generalize CrcM.upd (CrcM.upd 0 (nl a)) (nl b) = X2
              refine wpAny_take (i := 20) (v := ?_) rfl (by kernel_rfl) (by kernel_rfl) (by kernel_rfl) (fun _ _ _ h => h) (Or.inl ⟨by kernel_rfl, ?_⟩) ?_
              rotate_left
              · intro w; go_simp; with_reducible rfl
              refine wpAny_take (i := 21) (v := ?_) rfl (by kernel_rfl) (by kernel_rfl) (by kernel_rfl) (fun _ _ _ h => h) (Or.inl ⟨by kernel_rfl, ?_⟩) ?_
              rotate_left
              · intro w; go_simp; with_reducible rfl
              refine wpAny_take (i := 22) (v := ?_) rfl (by kernel_rfl) (by kernel_rfl) (by kernel_rfl) (fun _ _ _ h => h) (Or.inl ⟨by kernel_rfl, ?_⟩) ?_
              rotate_left
              · intro w; go_simp; with_reducible rfl
              refine wpAny_take (i := 23) (v := ?_) rfl (by kernel_rfl) (by kernel_rfl) (by kernel_rfl) (fun _ _ _ h => h) (Or.inl ⟨by kernel_rfl, ?_⟩) ?_
              rotate_left
              · intro w; go_simp; with_reducible rfl
              refine wpAny_take (i := 27) (v := ?_) rfl (by kernel_rfl) (by kernel_rfl) (by kernel_rfl) (fun _ _ _ h => h) (Or.inl ⟨by kernel_rfl, ?_⟩) ?_
              rotate_left
              · intro w; go_simp; with_reducible rfl
              refine wpAny_take (i := 28) (v := ?_) rfl (by kernel_rfl) (by kernel_rfl) (by kernel_rfl) (fun _ _ _ h => h) (Or.inl ⟨by kernel_rfl, ?_⟩) ?_
              rotate_left
              · intro w; go_simp; with_reducible rfl
              refine wpAny_take (i := 29) (v := ?_) rfl (by kernel_rfl) (by kernel_rfl) (by kernel_rfl) (fun _ _ _ h => h) (Or.inl ⟨by kernel_rfl, ?_⟩) ?_
              rotate_left
              · intro w; go_simp; with_reducible rfl
              refine wpAny_take (i := 30) (v := ?_) rfl (by kernel_rfl) (by kernel_rfl) (by kernel_rfl) (fun _ _ _ h => h) (Or.inl ⟨by kernel_rfl, ?_⟩) ?_
              rotate_left
              · intro w; go_simp; with_reducible rfl
              refine wpAny_ready (rs := [24]) (by kernel_rfl) (by simp) ?_
              refine AllReady.cons rfl (fun K hK => ?_) AllReady.nil
              go_simp
              (first | (refine hK _ _ ?_; clear hK K) | skip)
              obtain ⟨z10, hz⟩ : ∃ x, x = z9.alloc (Obj.cells #[Value.string a] 9) := ⟨_, rfl⟩
              rw [← hz]
              have hb : Below z9.heap.size z9 z10 := by rw [hz]; exact Kq.below_alloc _ _
              replace C1_0 := (hb.cell (p := ⟨z0.heap.size, 0, none⟩) N1).trans C1_0
              replace N1 := Nat.lt_of_lt_of_le N1 hb.size
              replace C7_0 := (hb.cell (p := ⟨z3.heap.size, 0, none⟩) N7).trans C7_0
              replace C7_1 := (hb.cell (p := ⟨z3.heap.size, 1, none⟩) N7).trans C7_1
              replace N7 := Nat.lt_of_lt_of_le N7 hb.size
              replace C13_0 := (hb.cell (p := ⟨z5.heap.size, 0, none⟩) N13).trans C13_0
              replace C13_1 := (hb.cell (p := ⟨z5.heap.size, 1, none⟩) N13).trans C13_1
              replace N13 := Nat.lt_of_lt_of_le N13 hb.size
              replace C18_0 := (hb.cell (p := ⟨z7.heap.size, 0, none⟩) N18).trans C18_0
              replace N18 := Nat.lt_of_lt_of_le N18 hb.size
              replace Bc := Bc.trans (hb.mono Bc.size)
              have N24 : z9.heap.size < z10.heap.size := by rw [hz]; simp
              have C24_0 : z10.cell? ⟨z9.heap.size, 0, none⟩ = some (Value.string a) := by rw [hz]; simp
              clear hb hz
              refine wpAny_ready (rs := [25]) (by kernel_rfl) (by simp) ?_
              refine AllReady.cons rfl (fun K hK => ?_) AllReady.nil
              go_simp
              go_wp2_with (go_at_call 28; refine (crc_sum1 _ a _ N24 ha C24_0).mono ?_; rintro e z11 ⟨rfl, hb⟩)
              (first | (refine hK _ _ ?_; clear hK K) | skip)
              replace C1_0 := (hb.cell (p := ⟨z0.heap.size, 0, none⟩) N1).trans C1_0
              replace N1 := Nat.lt_of_lt_of_le N1 hb.size
              replace C7_0 := (hb.cell (p := ⟨z3.heap.size, 0, none⟩) N7).trans C7_0
              replace C7_1 := (hb.cell (p := ⟨z3.heap.size, 1, none⟩) N7).trans C7_1
              replace N7 := Nat.lt_of_lt_of_le N7 hb.size
              replace C13_0 := (hb.cell (p := ⟨z5.heap.size, 0, none⟩) N13).trans C13_0
              replace C13_1 := (hb.cell (p := ⟨z5.heap.size, 1, none⟩) N13).trans C13_1
              replace N13 := Nat.lt_of_lt_of_le N13 hb.size
              replace C18_0 := (hb.cell (p := ⟨z7.heap.size, 0, none⟩) N18).trans C18_0
              replace N18 := Nat.lt_of_lt_of_le N18 hb.size
              replace C24_0 := (hb.cell (p := ⟨z9.heap.size, 0, none⟩) N24).trans C24_0
              replace N24 := Nat.lt_of_lt_of_le N24 hb.size
              replace Bc := Bc.trans (hb.mono Bc.size)
              clear hb
              refine wpAny_ready (rs := [26]) (by kernel_rfl) (by simp) ?_
              refine AllReady.cons rfl (fun K hK => ?_) AllReady.nil
              go_simp
              go_wp2_with (go_at_call 32; refine (crc_bytes _ _).mono ?_; rintro e z12 ⟨rfl, hb⟩)
              (first | (refine hK _ _ ?_; clear hK K) | skip)
              replace C1_0 := (hb.cell (p := ⟨z0.heap.size, 0, none⟩) N1).trans C1_0
              replace N1 := Nat.lt_of_lt_of_le N1 hb.size
              replace C7_0 := (hb.cell (p := ⟨z3.heap.size, 0, none⟩) N7).trans C7_0
              replace C7_1 := (hb.cell (p := ⟨z3.heap.size, 1, none⟩) N7).trans C7_1
              replace N7 := Nat.lt_of_lt_of_le N7 hb.size
              replace C13_0 := (hb.cell (p := ⟨z5.heap.size, 0, none⟩) N13).trans C13_0
              replace C13_1 := (hb.cell (p := ⟨z5.heap.size, 1, none⟩) N13).trans C13_1
              replace N13 := Nat.lt_of_lt_of_le N13 hb.size
              replace C18_0 := (hb.cell (p := ⟨z7.heap.size, 0, none⟩) N18).trans C18_0
              replace N18 := Nat.lt_of_lt_of_le N18 hb.size
              replace C24_0 := (hb.cell (p := ⟨z9.heap.size, 0, none⟩) N24).trans C24_0
              replace N24 := Nat.lt_of_lt_of_le N24 hb.size
              replace Bc := Bc.trans (hb.mono Bc.size)
              clear hb
              rw [← E2.out]
              refine wpAny_take (i := 31) (v := ?_) rfl (by kernel_rfl) (by kernel_rfl) (by kernel_rfl) (fun _ _ _ h => h) (Or.inl ⟨by kernel_rfl, ?_⟩) ?_
              rotate_left
              · intro w; go_simp; with_reducible rfl
              refine wpAny_take (i := 32) (v := ?_) rfl (by kernel_rfl) (by kernel_rfl) (by kernel_rfl) (fun _ _ _ h => h) (Or.inl ⟨by kernel_rfl, ?_⟩) ?_
              rotate_left
              · intro w; go_simp; with_reducible rfl
              refine wpAny_take (i := 33) (v := ?_) rfl (by kernel_rfl) (by kernel_rfl) (by kernel_rfl) (fun _ _ _ h => h) (Or.inl ⟨by kernel_rfl, ?_⟩) ?_
              rotate_left
              · intro w; go_simp; with_reducible rfl
              refine wpAny_done (by kernel_rfl) ?_ _
              go_wp2
              go_ret
              exact ⟨rfl, Bc⟩
            · skip
              go_simp
              (first | (refine hK _ _ ?_; clear hK K) | skip)
              obtain ⟨z13, hz⟩ : ∃ x, x = z6.alloc (Obj.cells #[Value.string (a ++ b)] 9) := ⟨_, rfl⟩
              rw [← hz]
              have hb : Below z6.heap.size z6 z13 := by rw [hz]; exact Kq.below_alloc _ _
              replace C1_0 := (hb.cell (p := ⟨z0.heap.size, 0, none⟩) N1).trans C1_0
              replace N1 := Nat.lt_of_lt_of_le N1 hb.size
              replace C7_0 := (hb.cell (p := ⟨z3.heap.size, 0, none⟩) N7).trans C7_0
              replace C7_1 := (hb.cell (p := ⟨z3.heap.size, 1, none⟩) N7).trans C7_1
              replace N7 := Nat.lt_of_lt_of_le N7 hb.size
              replace C13_0 := (hb.cell (p := ⟨z5.heap.size, 0, none⟩) N13).trans C13_0
              replace C13_1 := (hb.cell (p := ⟨z5.heap.size, 1, none⟩) N13).trans C13_1
              replace N13 := Nat.lt_of_lt_of_le N13 hb.size
              replace Bc := Bc.trans (hb.mono Bc.size)
              have N18 : z6.heap.size < z13.heap.size := by rw [hz]; simp
              have C18_0 : z13.cell? ⟨z6.heap.size, 0, none⟩ = some (Value.string (a ++ b)) := by rw [hz]; simp
              clear hb hz
              refine wpAny_ready (rs := [14]) (by kernel_rfl) (by simp) ?_
              refine AllReady.cons rfl (fun K hK => ?_) AllReady.nil
              go_simp
              go_wp2_with (go_at_call 28; refine (crc_sum2 _ a b _ N13 ha hb C13_0 C13_1).mono ?_; rintro e z14 ⟨rfl, hb⟩)
              (first | (refine hK _ _ ?_; clear hK K) | skip)
              replace C1_0 := (hb.cell (p := ⟨z0.heap.size, 0, none⟩) N1).trans C1_0
              replace N1 := Nat.lt_of_lt_of_le N1 hb.size
              replace C7_0 := (hb.cell (p := ⟨z3.heap.size, 0, none⟩) N7).trans C7_0
              replace C7_1 := (hb.cell (p := ⟨z3.heap.size, 1, none⟩) N7).trans C7_1
              replace N7 := Nat.lt_of_lt_of_le N7 hb.size
              replace C13_0 := (hb.cell (p := ⟨z5.heap.size, 0, none⟩) N13).trans C13_0
              replace C13_1 := (hb.cell (p := ⟨z5.heap.size, 1, none⟩) N13).trans C13_1
              replace N13 := Nat.lt_of_lt_of_le N13 hb.size
              replace C18_0 := (hb.cell (p := ⟨z6.heap.size, 0, none⟩) N18).trans C18_0
              replace N18 := Nat.lt_of_lt_of_le N18 hb.size
              replace Bc := Bc.trans (hb.mono Bc.size)
              clear hb
              refine wpAny_ready (rs := [19]) (by kernel_rfl) (by simp) ?_
              refine AllReady.cons rfl (fun K hK => ?_) AllReady.nil
              go_simp
              go_wp2_with (go_at_call 28; refine (crc_sum1 _ (a ++ b) _ N18 hab C18_0).mono ?_; rintro e z15 ⟨rfl, hb⟩)
              (first | (refine hK _ _ ?_; clear hK K) | skip)
              replace C1_0 := (hb.cell (p := ⟨z0.heap.size, 0, none⟩) N1).trans C1_0
              replace N1 := Nat.lt_of_lt_of_le N1 hb.size
              replace C7_0 := (hb.cell (p := ⟨z3.heap.size, 0, none⟩) N7).trans C7_0
              replace C7_1 := (hb.cell (p := ⟨z3.heap.size, 1, none⟩) N7).trans C7_1
              replace N7 := Nat.lt_of_lt_of_le N7 hb.size
              replace C13_0 := (hb.cell (p := ⟨z5.heap.size, 0, none⟩) N13).trans C13_0
              replace C13_1 := (hb.cell (p := ⟨z5.heap.size, 1, none⟩) N13).trans C13_1
              replace N13 := Nat.lt_of_lt_of_le N13 hb.size
              replace C18_0 := (hb.cell (p := ⟨z6.heap.size, 0, none⟩) N18).trans C18_0
              replace N18 := Nat.lt_of_lt_of_le N18 hb.size
              replace Bc := Bc.trans (hb.mono Bc.size)
              clear hb
              rw [E1.out]
              generalize CrcM.upd (CrcM.upd 0 (nl a)) (nl b) = X2
              refine wpAny_take (i := 20) (v := ?_) rfl (by kernel_rfl) (by kernel_rfl) (by kernel_rfl) (fun _ _ _ h => h) (Or.inl ⟨by kernel_rfl, ?_⟩) ?_
              rotate_left
              · intro w; go_simp; with_reducible rfl
              refine wpAny_take (i := 21) (v := ?_) rfl (by kernel_rfl) (by kernel_rfl) (by kernel_rfl) (fun _ _ _ h => h) (Or.inl ⟨by kernel_rfl, ?_⟩) ?_
              rotate_left
              · intro w; go_simp; with_reducible rfl
              refine wpAny_take (i := 22) (v := ?_) rfl (by kernel_rfl) (by kernel_rfl) (by kernel_rfl) (fun _ _ _ h => h) (Or.inl ⟨by kernel_rfl, ?_⟩) ?_
              rotate_left
              · intro w; go_simp; with_reducible rfl
              refine wpAny_take (i := 23) (v := ?_) rfl (by kernel_rfl) (by kernel_rfl) (by kernel_rfl) (fun _ _ _ h => h) (Or.inl ⟨by kernel_rfl, ?_⟩) ?_
              rotate_left
              · intro w; go_simp; with_reducible rfl
              refine wpAny_take (i := 27) (v := ?_) rfl (by kernel_rfl) (by kernel_rfl) (by kernel_rfl) (fun _ _ _ h => h) (Or.inl ⟨by kernel_rfl, ?_⟩) ?_
              rotate_left
              · intro w; go_simp; with_reducible rfl
              refine wpAny_take (i := 28) (v := ?_) rfl (by kernel_rfl) (by kernel_rfl) (by kernel_rfl) (fun _ _ _ h => h) (Or.inl ⟨by kernel_rfl, ?_⟩) ?_
              rotate_left
              · intro w; go_simp; with_reducible rfl
              refine wpAny_take (i := 29) (v := ?_) rfl (by kernel_rfl) (by kernel_rfl) (by kernel_rfl) (fun _ _ _ h => h) (Or.inl ⟨by kernel_rfl, ?_⟩) ?_
              rotate_left
              · intro w; go_simp; with_reducible rfl
              refine wpAny_take (i := 30) (v := ?_) rfl (by kernel_rfl) (by kernel_rfl) (by kernel_rfl) (fun _ _ _ h => h) (Or.inl ⟨by kernel_rfl, ?_⟩) ?_
              rotate_left
              · intro w; go_simp; with_reducible rfl
              refine wpAny_ready (rs := [24]) (by kernel_rfl) (by simp) ?_
              refine AllReady.cons rfl (fun K hK => ?_) AllReady.nil
              go_simp
              (first | (refine hK _ _ ?_; clear hK K) | skip)
              obtain ⟨z16, hz⟩ : ∃ x, x = z15.alloc (Obj.cells #[Value.string a] 9) := ⟨_, rfl⟩
              rw [← hz]
              have hb : Below z15.heap.size z15 z16 := by rw [hz]; exact Kq.below_alloc _ _
              replace C1_0 := (hb.cell (p := ⟨z0.heap.size, 0, none⟩) N1).trans C1_0
              replace N1 := Nat.lt_of_lt_of_le N1 hb.size
              replace C7_0 := (hb.cell (p := ⟨z3.heap.size, 0, none⟩) N7).trans C7_0
              replace C7_1 := (hb.cell (p := ⟨z3.heap.size, 1, none⟩) N7).trans C7_1
              replace N7 := Nat.lt_of_lt_of_le N7 hb.size
              replace C13_0 := (hb.cell (p := ⟨z5.heap.size, 0, none⟩) N13).trans C13_0
              replace C13_1 := (hb.cell (p := ⟨z5.heap.size, 1, none⟩) N13).trans C13_1
              replace N13 := Nat.lt_of_lt_of_le N13 hb.size
              replace C18_0 := (hb.cell (p := ⟨z6.heap.size, 0, none⟩) N18).trans C18_0
              replace N18 := Nat.lt_of_lt_of_le N18 hb.size
              replace Bc := Bc.trans (hb.mono Bc.size)
              have N24 : z15.heap.size < z16.heap.size := by rw [hz]; simp
              have C24_0 : z16.cell? ⟨z15.heap.size, 0, none⟩ = some (Value.string a) := by rw [hz]; simp
              clear hb hz
              refine wpAny_ready (rs := [25]) (by kernel_rfl) (by simp) ?_
              refine AllReady.cons rfl (fun K hK => ?_) AllReady.nil
              go_simp
              go_wp2_with (go_at_call 28; refine (crc_sum1 _ a _ N24 ha C24_0).mono ?_; rintro e z17 ⟨rfl, hb⟩)
              (first | (refine hK _ _ ?_; clear hK K) | skip)
              replace C1_0 := (hb.cell (p := ⟨z0.heap.size, 0, none⟩) N1).trans C1_0
              replace N1 := Nat.lt_of_lt_of_le N1 hb.size
              replace C7_0 := (hb.cell (p := ⟨z3.heap.size, 0, none⟩) N7).trans C7_0
              replace C7_1 := (hb.cell (p := ⟨z3.heap.size, 1, none⟩) N7).trans C7_1
              replace N7 := Nat.lt_of_lt_of_le N7 hb.size
              replace C13_0 := (hb.cell (p := ⟨z5.heap.size, 0, none⟩) N13).trans C13_0
              replace C13_1 := (hb.cell (p := ⟨z5.heap.size, 1, none⟩) N13).trans C13_1
              replace N13 := Nat.lt_of_lt_of_le N13 hb.size
              replace C18_0 := (hb.cell (p := ⟨z6.heap.size, 0, none⟩) N18).trans C18_0
              replace N18 := Nat.lt_of_lt_of_le N18 hb.size
              replace C24_0 := (hb.cell (p := ⟨z15.heap.size, 0, none⟩) N24).trans C24_0
              replace N24 := Nat.lt_of_lt_of_le N24 hb.size
              replace Bc := Bc.trans (hb.mono Bc.size)
              clear hb
              refine wpAny_ready (rs := [26]) (by kernel_rfl) (by simp) ?_
              refine AllReady.cons rfl (fun K hK => ?_) AllReady.nil
              go_simp
              go_wp2_with (go_at_call 32; refine (crc_bytes _ _).mono ?_; rintro e z18 ⟨rfl, hb⟩)
              (first | (refine hK _ _ ?_; clear hK K) | skip)
              replace C1_0 := (hb.cell (p := ⟨z0.heap.size, 0, none⟩) N1).trans C1_0
              replace N1 := Nat.lt_of_lt_of_le N1 hb.size
              replace C7_0 := (hb.cell (p := ⟨z3.heap.size, 0, none⟩) N7).trans C7_0
              replace C7_1 := (hb.cell (p := ⟨z3.heap.size, 1, none⟩) N7).trans C7_1
              replace N7 := Nat.lt_of_lt_of_le N7 hb.size
              replace C13_0 := (hb.cell (p := ⟨z5.heap.size, 0, none⟩) N13).trans C13_0
              replace C13_1 := (hb.cell (p := ⟨z5.heap.size, 1, none⟩) N13).trans C13_1
              replace N13 := Nat.lt_of_lt_of_le N13 hb.size
              replace C18_0 := (hb.cell (p := ⟨z6.heap.size, 0, none⟩) N18).trans C18_0
              replace N18 := Nat.lt_of_lt_of_le N18 hb.size
              replace C24_0 := (hb.cell (p := ⟨z15.heap.size, 0, none⟩) N24).trans C24_0
              replace N24 := Nat.lt_of_lt_of_le N24 hb.size
              replace Bc := Bc.trans (hb.mono Bc.size)
              clear hb
              rw [← E2.out]
              refine wpAny_take (i := 31) (v := ?_) rfl (by kernel_rfl) (by kernel_rfl) (by kernel_rfl) (fun _ _ _ h => h) (Or.inl ⟨by kernel_rfl, ?_⟩) ?_
              rotate_left
              · intro w; go_simp; with_reducible rfl
              refine wpAny_take (i := 32) (v := ?_) rfl (by kernel_rfl) (by kernel_rfl) (by kernel_rfl) (fun _ _ _ h => h) (Or.inl ⟨by kernel_rfl, ?_⟩) ?_
              rotate_left
              · intro w; go_simp; with_reducible rfl
              refine wpAny_take (i := 33) (v := ?_) rfl (by kernel_rfl) (by kernel_rfl) (by kernel_rfl) (fun _ _ _ h => h) (Or.inl ⟨by kernel_rfl, ?_⟩) ?_
              rotate_left
              · intro w; go_simp; with_reducible rfl
              refine wpAny_done (by kernel_rfl) ?_ _
              go_wp2
              go_ret
              exact ⟨rfl, Bc⟩
          · skip
            go_simp
            (first | (refine hK _ _ ?_; clear hK K) | skip)
            obtain ⟨z19, hz⟩ : ∃ x, x = z5.alloc (Obj.cells #[Value.string (a ++ b)] 9) := ⟨_, rfl⟩
            rw [← hz]
            have hb : Below z5.heap.size z5 z19 := by rw [hz]; exact Kq.below_alloc _ _
            replace C1_0 := (hb.cell (p := ⟨z0.heap.size, 0, none⟩) N1).trans C1_0
            replace N1 := Nat.lt_of_lt_of_le N1 hb.size
            replace C7_0 := (hb.cell (p := ⟨z3.heap.size, 0, none⟩) N7).trans C7_0
            replace C7_1 := (hb.cell (p := ⟨z3.heap.size, 1, none⟩) N7).trans C7_1
            replace N7 := Nat.lt_of_lt_of_le N7 hb.size
            replace Bc := Bc.trans (hb.mono Bc.size)
            have N18 : z5.heap.size < z19.heap.size := by rw [hz]; simp
            have C18_0 : z19.cell? ⟨z5.heap.size, 0, none⟩ = some (Value.string (a ++ b)) := by rw [hz]; simp
            clear hb hz
            refine wpAny_ready (rs := [13]) (by kernel_rfl) (by simp) ?_
            refine AllReady.cons rfl (fun K hK => ?_) AllReady.nil
            go_simp
            (first | (refine hK _ _ ?_; clear hK K) | skip)
            obtain ⟨z20, hz⟩ : ∃ x, x = z19.alloc (Obj.cells #[Value.string a, Value.string b] 9) := ⟨_, rfl⟩
            rw [← hz]
            have hb : Below z19.heap.size z19 z20 := by rw [hz]; exact Kq.below_alloc _ _
            replace C1_0 := (hb.cell (p := ⟨z0.heap.size, 0, none⟩) N1).trans C1_0
            replace N1 := Nat.lt_of_lt_of_le N1 hb.size
            replace C7_0 := (hb.cell (p := ⟨z3.heap.size, 0, none⟩) N7).trans C7_0
            replace C7_1 := (hb.cell (p := ⟨z3.heap.size, 1, none⟩) N7).trans C7_1
            replace N7 := Nat.lt_of_lt_of_le N7 hb.size
            replace C18_0 := (hb.cell (p := ⟨z5.heap.size, 0, none⟩) N18).trans C18_0
            replace N18 := Nat.lt_of_lt_of_le N18 hb.size
            replace Bc := Bc.trans (hb.mono Bc.size)
            have N13 : z19.heap.size < z20.heap.size := by rw [hz]; simp
            have C13_0 : z20.cell? ⟨z19.heap.size, 0, none⟩ = some (Value.string a) := by rw [hz]; simp
            have C13_1 : z20.cell? ⟨z19.heap.size, 1, none⟩ = some (Value.string b) := by rw [hz]; simp
            clear hb hz
            refine wpAny_ready (rs := [14]) (by kernel_rfl) (by simp) ?_
            refine AllReady.cons rfl (fun K hK => ?_) AllReady.nil
            go_simp
            go_wp2_with (go_at_call 28; refine (crc_sum2 _ a b _ N13 ha hb C13_0 C13_1).mono ?_; rintro e z21 ⟨rfl, hb⟩)
            (first | (refine hK _ _ ?_; clear hK K) | skip)
            replace C1_0 := (hb.cell (p := ⟨z0.heap.size, 0, none⟩) N1).trans C1_0
            replace N1 := Nat.lt_of_lt_of_le N1 hb.size
            replace C7_0 := (hb.cell (p := ⟨z3.heap.size, 0, none⟩) N7).trans C7_0
            replace C7_1 := (hb.cell (p := ⟨z3.heap.size, 1, none⟩) N7).trans C7_1
            replace N7 := Nat.lt_of_lt_of_le N7 hb.size
            replace C18_0 := (hb.cell (p := ⟨z5.heap.size, 0, none⟩) N18).trans C18_0
            replace N18 := Nat.lt_of_lt_of_le N18 hb.size
            replace C13_0 := (hb.cell (p := ⟨z19.heap.size, 0, none⟩) N13).trans C13_0
            replace C13_1 := (hb.cell (p := ⟨z19.heap.size, 1, none⟩) N13).trans C13_1
            replace N13 := Nat.lt_of_lt_of_le N13 hb.size
            replace Bc := Bc.trans (hb.mono Bc.size)
            clear hb
            refine wpAny_ready (rs := [19]) (by kernel_rfl) (by simp) ?_
            refine AllReady.cons rfl (fun K hK => ?_) AllReady.nil
            go_simp
            go_wp2_with (go_at_call 28; refine (crc_sum1 _ (a ++ b) _ N18 hab C18_0).mono ?_; rintro e z22 ⟨rfl, hb⟩)
            (first | (refine hK _ _ ?_; clear hK K) | skip)
            replace C1_0 := (hb.cell (p := ⟨z0.heap.size, 0, none⟩) N1).trans C1_0
            replace N1 := Nat.lt_of_lt_of_le N1 hb.size
            replace C7_0 := (hb.cell (p := ⟨z3.heap.size, 0, none⟩) N7).trans C7_0
            replace C7_1 := (hb.cell (p := ⟨z3.heap.size, 1, none⟩) N7).trans C7_1
            replace N7 := Nat.lt_of_lt_of_le N7 hb.size
            replace C18_0 := (hb.cell (p := ⟨z5.heap.size, 0, none⟩) N18).trans C18_0
            replace N18 := Nat.lt_of_lt_of_le N18 hb.size
            replace C13_0 := (hb.cell (p := ⟨z19.heap.size, 0, none⟩) N13).trans C13_0
            replace C13_1 := (hb.cell (p := ⟨z19.heap.size, 1, none⟩) N13).trans C13_1
            replace N13 := Nat.lt_of_lt_of_le N13 hb.size
            replace Bc := Bc.trans (hb.mono Bc.size)
            clear hb
            rw [E1.out]
            generalize CrcM.upd (CrcM.upd 0 (nl a)) (nl b) = X2
            refine wpAny_take (i := 20) (v := ?_) rfl (by kernel_rfl) (by kernel_rfl) (by kernel_rfl) (fun _ _ _ h => h) (Or.inl ⟨by kernel_rfl, ?_⟩) ?_
            rotate_left
            · intro w; go_simp; with_reducible rfl
            refine wpAny_take (i := 21) (v := ?_) rfl (by kernel_rfl) (by kernel_rfl) (by kernel_rfl) (fun _ _ _ h => h) (Or.inl ⟨by kernel_rfl, ?_⟩) ?_
            rotate_left
            · intro w; go_simp; with_reducible rfl
            refine wpAny_take (i := 22) (v := ?_) rfl (by kernel_rfl) (by kernel_rfl) (by kernel_rfl) (fun _ _ _ h => h) (Or.inl ⟨by kernel_rfl, ?_⟩) ?_
            rotate_left
            · intro w; go_simp; with_reducible rfl
            refine wpAny_take (i := 23) (v := ?_) rfl (by kernel_rfl) (by kernel_rfl) (by kernel_rfl) (fun _ _ _ h => h) (Or.inl ⟨by kernel_rfl, ?_⟩) ?_
            rotate_left
            · intro w; go_simp; with_reducible rfl
            refine wpAny_take (i := 27) (v := ?_) rfl (by kernel_rfl) (by kernel_rfl) (by kernel_rfl) (fun _ _ _ h => h) (Or.inl ⟨by kernel_rfl, ?_⟩) ?_
            rotate_left
            · intro w; go_simp; with_reducible rfl
            refine wpAny_take (i := 28) (v := ?_) rfl (by kernel_rfl) (by kernel_rfl) (by kernel_rfl) (fun _ _ _ h => h) (Or.inl ⟨by kernel_rfl, ?_⟩) ?_
            rotate_left
            · intro w; go_simp; with_reducible rfl
            refine wpAny_take (i := 29) (v := ?_) rfl (by kernel_rfl) (by kernel_rfl) (by kernel_rfl) (fun _ _ _ h => h) (Or.inl ⟨by kernel_rfl, ?_⟩) ?_
            rotate_left
            · intro w; go_simp; with_reducible rfl
            refine wpAny_take (i := 30) (v := ?_) rfl (by kernel_rfl) (by kernel_rfl) (by kernel_rfl) (fun _ _ _ h => h) (Or.inl ⟨by kernel_rfl, ?_⟩) ?_
            rotate_left
            · intro w; go_simp; with_reducible rfl
            refine wpAny_ready (rs := [24]) (by kernel_rfl) (by simp) ?_
            refine AllReady.cons rfl (fun K hK => ?_) AllReady.nil
            go_simp
            (first | (refine hK _ _ ?_; clear hK K) | skip)
            obtain ⟨z23, hz⟩ : ∃ x, x = z22.alloc (Obj.cells #[Value.string a] 9) := ⟨_, rfl⟩
            rw [← hz]
            have hb : Below z22.heap.size z22 z23 := by rw [hz]; exact Kq.below_alloc _ _
            replace C1_0 := (hb.cell (p := ⟨z0.heap.size, 0, none⟩) N1).trans C1_0
            replace N1 := Nat.lt_of_lt_of_le N1 hb.size
            replace C7_0 := (hb.cell (p := ⟨z3.heap.size, 0, none⟩) N7).trans C7_0
            replace C7_1 := (hb.cell (p := ⟨z3.heap.size, 1, none⟩) N7).trans C7_1
            replace N7 := Nat.lt_of_lt_of_le N7 hb.size
            replace C18_0 := (hb.cell (p := ⟨z5.heap.size, 0, none⟩) N18).trans C18_0
            replace N18 := Nat.lt_of_lt_of_le N18 hb.size
            replace C13_0 := (hb.cell (p := ⟨z19.heap.size, 0, none⟩) N13).trans C13_0
            replace C13_1 := (hb.cell (p := ⟨z19.heap.size, 1, none⟩) N13).trans C13_1
            replace N13 := Nat.lt_of_lt_of_le N13 hb.size
            replace Bc := Bc.trans (hb.mono Bc.size)
            have N24 : z22.heap.size < z23.heap.size := by rw [hz]; simp
            have C24_0 : z23.cell? ⟨z22.heap.size, 0, none⟩ = some (Value.string a) := by rw [hz]; simp
            clear hb hz
            refine wpAny_ready (rs := [25]) (by kernel_rfl) (by simp) ?_
            refine AllReady.cons rfl (fun K hK => ?_) AllReady.nil
            go_simp
            go_wp2_with (go_at_call 28; refine (crc_sum1 _ a _ N24 ha C24_0).mono ?_; rintro e z24 ⟨rfl, hb⟩)
            (first | (refine hK _ _ ?_; clear hK K) | skip)
            replace C1_0 := (hb.cell (p := ⟨z0.heap.size, 0, none⟩) N1).trans C1_0
            replace N1 := Nat.lt_of_lt_of_le N1 hb.size
            replace C7_0 := (hb.cell (p := ⟨z3.heap.size, 0, none⟩) N7).trans C7_0
            replace C7_1 := (hb.cell (p := ⟨z3.heap.size, 1, none⟩) N7).trans C7_1
            replace N7 := Nat.lt_of_lt_of_le N7 hb.size
            replace C18_0 := (hb.cell (p := ⟨z5.heap.size, 0, none⟩) N18).trans C18_0
            replace N18 := Nat.lt_of_lt_of_le N18 hb.size
            replace C13_0 := (hb.cell (p := ⟨z19.heap.size, 0, none⟩) N13).trans C13_0
            replace C13_1 := (hb.cell (p := ⟨z19.heap.size, 1, none⟩) N13).trans C13_1
            replace N13 := Nat.lt_of_lt_of_le N13 hb.size
            replace C24_0 := (hb.cell (p := ⟨z22.heap.size, 0, none⟩) N24).trans C24_0
            replace N24 := Nat.lt_of_lt_of_le N24 hb.size
            replace Bc := Bc.trans (hb.mono Bc.size)
            clear hb
            refine wpAny_ready (rs := [26]) (by kernel_rfl) (by simp) ?_
            refine AllReady.cons rfl (fun K hK => ?_) AllReady.nil
            go_simp
            go_wp2_with (go_at_call 32; refine (crc_bytes _ _).mono ?_; rintro e z25 ⟨rfl, hb⟩)
            (first | (refine hK _ _ ?_; clear hK K) | skip)
            replace C1_0 := (hb.cell (p := ⟨z0.heap.size, 0, none⟩) N1).trans C1_0
            replace N1 := Nat.lt_of_lt_of_le N1 hb.size
            replace C7_0 := (hb.cell (p := ⟨z3.heap.size, 0, none⟩) N7).trans C7_0
            replace C7_1 := (hb.cell (p := ⟨z3.heap.size, 1, none⟩) N7).trans C7_1
            replace N7 := Nat.lt_of_lt_of_le N7 hb.size
            replace C18_0 := (hb.cell (p := ⟨z5.heap.size, 0, none⟩) N18).trans C18_0
            replace N18 := Nat.lt_of_lt_of_le N18 hb.size
            replace C13_0 := (hb.cell (p := ⟨z19.heap.size, 0, none⟩) N13).trans C13_0
            replace C13_1 := (hb.cell (p := ⟨z19.heap.size, 1, none⟩) N13).trans C13_1
            replace N13 := Nat.lt_of_lt_of_le N13 hb.size
            replace C24_0 := (hb.cell (p := ⟨z22.heap.size, 0, none⟩) N24).trans C24_0
            replace N24 := Nat.lt_of_lt_of_le N24 hb.size
            replace Bc := Bc.trans (hb.mono Bc.size)
            clear hb
            rw [← E2.out]
            refine wpAny_take (i := 31) (v := ?_) rfl (by kernel_rfl) (by kernel_rfl) (by kernel_rfl) (fun _ _ _ h => h) (Or.inl ⟨by kernel_rfl, ?_⟩) ?_
            rotate_left
            · intro w; go_simp; with_reducible rfl
            refine wpAny_take (i := 32) (v := ?_) rfl (by kernel_rfl) (by kernel_rfl) (by kernel_rfl) (fun _ _ _ h => h) (Or.inl ⟨by kernel_rfl, ?_⟩) ?_
            rotate_left
            · intro w; go_simp; with_reducible rfl
            refine wpAny_take (i := 33) (v := ?_) rfl (by kernel_rfl) (by kernel_rfl) (by kernel_rfl) (fun _ _ _ h => h) (Or.inl ⟨by kernel_rfl, ?_⟩) ?_
            rotate_left
            · intro w; go_simp; with_reducible rfl
            refine wpAny_done (by kernel_rfl) ?_ _
            go_wp2
            go_ret
            exact ⟨rfl, Bc⟩
        · skip
          go_simp
          (first | (refine hK _ _ ?_; clear hK K) | skip)
          obtain ⟨z26, hz⟩ : ∃ x, x = z2.alloc (Obj.cells #[Value.string a, Value.string b] 9) := ⟨_, rfl⟩
          rw [← hz]
          have hb : Below z2.heap.size z2 z26 := by rw [hz]; exact Kq.below_alloc _ _
          replace C1_0 := (hb.cell (p := ⟨z0.heap.size, 0, none⟩) N1).trans C1_0
          replace N1 := Nat.lt_of_lt_of_le N1 hb.size
          replace Bc := Bc.trans (hb.mono Bc.size)
          have N7 : z2.heap.size < z26.heap.size := by rw [hz]; simp
          have C7_0 : z26.cell? ⟨z2.heap.size, 0, none⟩ = some (Value.string a) := by rw [hz]; simp
          have C7_1 : z26.cell? ⟨z2.heap.size, 1, none⟩ = some (Value.string b) := by rw [hz]; simp
          clear hb hz
          refine wpAny_ready (rs := [4]) (by kernel_rfl) (by simp) ?_
          refine AllReady.cons rfl (fun K hK => ?_) AllReady.nil
          go_simp
          go_wp2_with (go_at_call 30; refine (crc_update _ b _ (CrcM.upd_lt _ _) hb).mono ?_; rintro e z27 ⟨rfl, hb⟩)
          (first | (refine hK _ _ ?_; clear hK K) | skip)
          replace C1_0 := (hb.cell (p := ⟨z0.heap.size, 0, none⟩) N1).trans C1_0
          replace N1 := Nat.lt_of_lt_of_le N1 hb.size
          replace C7_0 := (hb.cell (p := ⟨z2.heap.size, 0, none⟩) N7).trans C7_0
          replace C7_1 := (hb.cell (p := ⟨z2.heap.size, 1, none⟩) N7).trans C7_1
          replace N7 := Nat.lt_of_lt_of_le N7 hb.size
          replace Bc := Bc.trans (hb.mono Bc.size)
          clear hb
          refine wpAny_ready (rs := [8]) (by kernel_rfl) (by simp) ?_
          refine AllReady.cons rfl (fun K hK => ?_) AllReady.nil
          go_simp
          go_wp2_with (go_at_call 28; refine (crc_sum2 _ a b _ N7 ha hb C7_0 C7_1).mono ?_; rintro e z28 ⟨rfl, hb⟩)
          (first | (refine hK _ _ ?_; clear hK K) | skip)
          replace C1_0 := (hb.cell (p := ⟨z0.heap.size, 0, none⟩) N1).trans C1_0
          replace N1 := Nat.lt_of_lt_of_le N1 hb.size
          replace C7_0 := (hb.cell (p := ⟨z2.heap.size, 0, none⟩) N7).trans C7_0
          replace C7_1 := (hb.cell (p := ⟨z2.heap.size, 1, none⟩) N7).trans C7_1
          replace N7 := Nat.lt_of_lt_of_le N7 hb.size
          replace Bc := Bc.trans (hb.mono Bc.size)
          clear hb
          generalize CrcM.upd (CrcM.upd 0 (nl a)) (nl b) = X
          refine wpAny_take (i := 9) (v := ?_) rfl (by kernel_rfl) (by kernel_rfl) (by kernel_rfl) (fun _ _ _ h => h) (Or.inl ⟨by kernel_rfl, ?_⟩) ?_
          rotate_left
          · intro w; go_simp; with_reducible rfl
          refine wpAny_take (i := 10) (v := ?_) rfl (by kernel_rfl) (by kernel_rfl) (by kernel_rfl) (fun _ _ _ h => h) (Or.inl ⟨by kernel_rfl, ?_⟩) ?_
          rotate_left
          · intro w; go_simp; with_reducible rfl
          refine wpAny_take (i := 11) (v := ?_) rfl (by kernel_rfl) (by kernel_rfl) (by kernel_rfl) (fun _ _ _ h => h) (Or.inl ⟨by kernel_rfl, ?_⟩) ?_
          rotate_left
          · intro w; go_simp; with_reducible rfl
          refine wpAny_take (i := 12) (v := ?_) rfl (by kernel_rfl) (by kernel_rfl) (by kernel_rfl) (fun _ _ _ h => h) (Or.inl ⟨by kernel_rfl, ?_⟩) ?_
          rotate_left
          · intro w; go_simp; with_reducible rfl
          refine wpAny_take (i := 15) (v := ?_) rfl (by kernel_rfl) (by kernel_rfl) (by kernel_rfl) (fun _ _ _ h => h) (Or.inl ⟨by kernel_rfl, ?_⟩) ?_
          rotate_left
          · intro w; go_simp; with_reducible rfl
          refine wpAny_take (i := 16) (v := ?_) rfl (by kernel_rfl) (by kernel_rfl) (by kernel_rfl) (fun _ _ _ h => h) (Or.inl ⟨by kernel_rfl, ?_⟩) ?_
          rotate_left
          · intro w; go_simp; with_reducible rfl
          refine wpAny_take (i := 17) (v := ?_) rfl (by kernel_rfl) (by kernel_rfl) (by kernel_rfl) (fun _ _ _ h => h) (Or.inl ⟨by kernel_rfl, ?_⟩) ?_
          rotate_left
          · intro w; go_simp; with_reducible rfl
          refine wpAny_ready (rs := [13, 18]) (by kernel_rfl) (by simp) ?_
          refine (AllReady.cons rfl (fun K hK => ?_) (AllReady.cons rfl (fun K hK => ?_) AllReady.nil))
          · skip
            go_simp
            (first | (refine hK _ _ ?_; clear hK K) | skip)
            obtain ⟨z29, hz⟩ : ∃ x, x = z28.alloc (Obj.cells #[Value.string a, Value.string b] 9) := ⟨_, rfl⟩
            rw [← hz]
            have hb : Below z28.heap.size z28 z29 := by rw [hz]; exact Kq.below_alloc _ _
            replace C1_0 := (hb.cell (p := ⟨z0.heap.size, 0, none⟩) N1).trans C1_0
            replace N1 := Nat.lt_of_lt_of_le N1 hb.size
            replace C7_0 := (hb.cell (p := ⟨z2.heap.size, 0, none⟩) N7).trans C7_0
            replace C7_1 := (hb.cell (p := ⟨z2.heap.size, 1, none⟩) N7).trans C7_1
            replace N7 := Nat.lt_of_lt_of_le N7 hb.size
            replace Bc := Bc.trans (hb.mono Bc.size)
            have N13 : z28.heap.size < z29.heap.size := by rw [hz]; simp
            have C13_0 : z29.cell? ⟨z28.heap.size, 0, none⟩ = some (Value.string a) := by rw [hz]; simp
            have C13_1 : z29.cell? ⟨z28.heap.size, 1, none⟩ = some (Value.string b) := by rw [hz]; simp
            clear hb hz
            refine wpAny_ready (rs := [14, 18]) (by kernel_rfl) (by simp) ?_
            refine (AllReady.cons rfl (fun K hK => ?_) (AllReady.cons rfl (fun K hK => ?_) AllReady.nil))
            · skip
              go_simp
              go_wp2_with (go_at_call 28; refine (crc_sum2 _ a b _ N13 ha hb C13_0 C13_1).mono ?_; rintro e z30 ⟨rfl, hb⟩)
              (first | (refine hK _ _ ?_; clear hK K) | skip)
              replace C1_0 := (hb.cell (p := ⟨z0.heap.size, 0, none⟩) N1).trans C1_0
              replace N1 := Nat.lt_of_lt_of_le N1 hb.size
              replace C7_0 := (hb.cell (p := ⟨z2.heap.size, 0, none⟩) N7).trans C7_0
              replace C7_1 := (hb.cell (p := ⟨z2.heap.size, 1, none⟩) N7).trans C7_1
              replace N7 := Nat.lt_of_lt_of_le N7 hb.size
              replace C13_0 := (hb.cell (p := ⟨z28.heap.size, 0, none⟩) N13).trans C13_0
              replace C13_1 := (hb.cell (p := ⟨z28.heap.size, 1, none⟩) N13).trans C13_1
              replace N13 := Nat.lt_of_lt_of_le N13 hb.size
              replace Bc := Bc.trans (hb.mono Bc.size)
              clear hb
              refine wpAny_ready (rs := [18]) (by kernel_rfl) (by simp) ?_
              refine AllReady.cons rfl (fun K hK => ?_) AllReady.nil
              go_simp
              (first | (refine hK _ _ ?_; clear hK K) | skip)
              obtain ⟨z31, hz⟩ : ∃ x, x = z30.alloc (Obj.cells #[Value.string (a ++ b)] 9) := ⟨_, rfl⟩
              rw [← hz]
              have hb : Below z30.heap.size z30 z31 := by rw [hz]; exact Kq.below_alloc _ _
              replace C1_0 := (hb.cell (p := ⟨z0.heap.size, 0, none⟩) N1).trans C1_0
              replace N1 := Nat.lt_of_lt_of_le N1 hb.size
              replace C7_0 := (hb.cell (p := ⟨z2.heap.size, 0, none⟩) N7).trans C7_0
              replace C7_1 := (hb.cell (p := ⟨z2.heap.size, 1, none⟩) N7).trans C7_1
              replace N7 := Nat.lt_of_lt_of_le N7 hb.size
              replace C13_0 := (hb.cell (p := ⟨z28.heap.size, 0, none⟩) N13).trans C13_0
              replace C13_1 := (hb.cell (p := ⟨z28.heap.size, 1, none⟩) N13).trans C13_1
              replace N13 := Nat.lt_of_lt_of_le N13 hb.size
              replace Bc := Bc.trans (hb.mono Bc.size)
              have N18 : z30.heap.size < z31.heap.size := by rw [hz]; simp
              have C18_0 : z31.cell? ⟨z30.heap.size, 0, none⟩ = some (Value.string (a ++ b)) := by rw [hz]; simp
              clear hb hz
              refine wpAny_ready (rs := [19]) (by kernel_rfl) (by simp) ?_
              refine AllReady.cons rfl (fun K hK => ?_) AllReady.nil
              go_simp
              go_wp2_with (go_at_call 28; refine (crc_sum1 _ (a ++ b) _ N18 hab C18_0).mono ?_; rintro e z32 ⟨rfl, hb⟩)
              (first | (refine hK _ _ ?_; clear hK K) | skip)
              replace C1_0 := (hb.cell (p := ⟨z0.heap.size, 0, none⟩) N1).trans C1_0
              replace N1 := Nat.lt_of_lt_of_le N1 hb.size
              replace C7_0 := (hb.cell (p := ⟨z2.heap.size, 0, none⟩) N7).trans C7_0
              replace C7_1 := (hb.cell (p := ⟨z2.heap.size, 1, none⟩) N7).trans C7_1
              replace N7 := Nat.lt_of_lt_of_le N7 hb.size
              replace C13_0 := (hb.cell (p := ⟨z28.heap.size, 0, none⟩) N13).trans C13_0
              replace C13_1 := (hb.cell (p := ⟨z28.heap.size, 1, none⟩) N13).trans C13_1
              replace N13 := Nat.lt_of_lt_of_le N13 hb.size
              replace C18_0 := (hb.cell (p := ⟨z30.heap.size, 0, none⟩) N18).trans C18_0
              replace N18 := Nat.lt_of_lt_of_le N18 hb.size
              replace Bc := Bc.trans (hb.mono Bc.size)
              clear hb
              rw [E1.out]
              generalize CrcM.upd (CrcM.upd 0 (nl a)) (nl b) = X2
              refine wpAny_take (i := 20) (v := ?_) rfl (by kernel_rfl) (by kernel_rfl) (by kernel_rfl) (fun _ _ _ h => h) (Or.inl ⟨by kernel_rfl, ?_⟩) ?_
              rotate_left
              · intro w; go_simp; with_reducible rfl
              refine wpAny_take (i := 21) (v := ?_) rfl (by kernel_rfl) (by kernel_rfl) (by kernel_rfl) (fun _ _ _ h => h) (Or.inl ⟨by kernel_rfl, ?_⟩) ?_
              rotate_left
              · intro w; go_simp; with_reducible rfl
              refine wpAny_take (i := 22) (v := ?_) rfl (by kernel_rfl) (by kernel_rfl) (by kernel_rfl) (fun _ _ _ h => h) (Or.inl ⟨by kernel_rfl, ?_⟩) ?_
              rotate_left
              · intro w; go_simp; with_reducible rfl
              refine wpAny_take (i := 23) (v := ?_) rfl (by kernel_rfl) (by kernel_rfl) (by kernel_rfl) (fun _ _ _ h => h) (Or.inl ⟨by kernel_rfl, ?_⟩) ?_
              rotate_left
              · intro w; go_simp; with_reducible rfl
              refine wpAny_take (i := 27) (v := ?_) rfl (by kernel_rfl) (by kernel_rfl) (by kernel_rfl) (fun _ _ _ h => h) (Or.inl ⟨by kernel_rfl, ?_⟩) ?_
              rotate_left
              · intro w; go_simp; with_reducible rfl
              refine wpAny_take (i := 28) (v := ?_) rfl (by kernel_rfl) (by kernel_rfl) (by kernel_rfl) (fun _ _ _ h => h) (Or.inl ⟨by kernel_rfl, ?_⟩) ?_
              rotate_left
              · intro w; go_simp; with_reducible rfl
              refine wpAny_take (i := 29) (v := ?_) rfl (by kernel_rfl) (by kernel_rfl) (by kernel_rfl) (fun _ _ _ h => h) (Or.inl ⟨by kernel_rfl, ?_⟩) ?_
              rotate_left
              · intro w; go_simp; with_reducible rfl
              refine wpAny_take (i := 30) (v := ?_) rfl (by kernel_rfl) (by kernel_rfl) (by kernel_rfl) (fun _ _ _ h => h) (Or.inl ⟨by kernel_rfl, ?_⟩) ?_
              rotate_left
              · intro w; go_simp; with_reducible rfl
              refine wpAny_ready (rs := [24]) (by kernel_rfl) (by simp) ?_
              refine AllReady.cons rfl (fun K hK => ?_) AllReady.nil
              go_simp
              (first | (refine hK _ _ ?_; clear hK K) | skip)
              obtain ⟨z33, hz⟩ : ∃ x, x = z32.alloc (Obj.cells #[Value.string a] 9) := ⟨_, rfl⟩
              rw [← hz]
              have hb : Below z32.heap.size z32 z33 := by rw [hz]; exact Kq.below_alloc _ _
              replace C1_0 := (hb.cell (p := ⟨z0.heap.size, 0, none⟩) N1).trans C1_0
              replace N1 := Nat.lt_of_lt_of_le N1 hb.size
              replace C7_0 := (hb.cell (p := ⟨z2.heap.size, 0, none⟩) N7).trans C7_0
              replace C7_1 := (hb.cell (p := ⟨z2.heap.size, 1, none⟩) N7).trans C7_1
              replace N7 := Nat.lt_of_lt_of_le N7 hb.size
              replace C13_0 := (hb.cell (p := ⟨z28.heap.size, 0, none⟩) N13).trans C13_0
              replace C13_1 := (hb.cell (p := ⟨z28.heap.size, 1, none⟩) N13).trans C13_1
              replace N13 := Nat.lt_of_lt_of_le N13 hb.size
              replace C18_0 := (hb.cell (p := ⟨z30.heap.size, 0, none⟩) N18).trans C18_0
              replace N18 := Nat.lt_of_lt_of_le N18 hb.size
              replace Bc := Bc.trans (hb.mono Bc.size)
              have N24 : z32.heap.size < z33.heap.size := by rw [hz]; simp
              have C24_0 : z33.cell? ⟨z32.heap.size, 0, none⟩ = some (Value.string a) := by rw [hz]; simp
              clear hb hz
              refine wpAny_ready (rs := [25]) (by kernel_rfl) (by simp) ?_
              refine AllReady.cons rfl (fun K hK => ?_) AllReady.nil
              go_simp
              go_wp2_with (go_at_call 28; refine (crc_sum1 _ a _ N24 ha C24_0).mono ?_; rintro e z34 ⟨rfl, hb⟩)
              (first | (refine hK _ _ ?_; clear hK K) | skip)
              replace C1_0 := (hb.cell (p := ⟨z0.heap.size, 0, none⟩) N1).trans C1_0
              replace N1 := Nat.lt_of_lt_of_le N1 hb.size
              replace C7_0 := (hb.cell (p := ⟨z2.heap.size, 0, none⟩) N7).trans C7_0
              replace C7_1 := (hb.cell (p := ⟨z2.heap.size, 1, none⟩) N7).trans C7_1
              replace N7 := Nat.lt_of_lt_of_le N7 hb.size
              replace C13_0 := (hb.cell (p := ⟨z28.heap.size, 0, none⟩) N13).trans C13_0
              replace C13_1 := (hb.cell (p := ⟨z28.heap.size, 1, none⟩) N13).trans C13_1
              replace N13 := Nat.lt_of_lt_of_le N13 hb.size
              replace C18_0 := (hb.cell (p := ⟨z30.heap.size, 0, none⟩) N18).trans C18_0
              replace N18 := Nat.lt_of_lt_of_le N18 hb.size
              replace C24_0 := (hb.cell (p := ⟨z32.heap.size, 0, none⟩) N24).trans C24_0
              replace N24 := Nat.lt_of_lt_of_le N24 hb.size
              replace Bc := Bc.trans (hb.mono Bc.size)
              clear hb
              refine wpAny_ready (rs := [26]) (by kernel_rfl) (by simp) ?_
              refine AllReady.cons rfl (fun K hK => ?_) AllReady.nil
              go_simp
              go_wp2_with (go_at_call 32; refine (crc_bytes _ _).mono ?_; rintro e z35 ⟨rfl, hb⟩)
              (first | (refine hK _ _ ?_; clear hK K) | skip)
              replace C1_0 := (hb.cell (p := ⟨z0.heap.size, 0, none⟩) N1).trans C1_0
              replace N1 := Nat.lt_of_lt_of_le N1 hb.size
              replace C7_0 := (hb.cell (p := ⟨z2.heap.size, 0, none⟩) N7).trans C7_0
              replace C7_1 := (hb.cell (p := ⟨z2.heap.size, 1, none⟩) N7).trans C7_1
              replace N7 := Nat.lt_of_lt_of_le N7 hb.size
              replace C13_0 := (hb.cell (p := ⟨z28.heap.size, 0, none⟩) N13).trans C13_0
              replace C13_1 := (hb.cell (p := ⟨z28.heap.size, 1, none⟩) N13).trans C13_1
              replace N13 := Nat.lt_of_lt_of_le N13 hb.size
              replace C18_0 := (hb.cell (p := ⟨z30.heap.size, 0, none⟩) N18).trans C18_0
              replace N18 := Nat.lt_of_lt_of_le N18 hb.size
              replace C24_0 := (hb.cell (p := ⟨z32.heap.size, 0, none⟩) N24).trans C24_0
              replace N24 := Nat.lt_of_lt_of_le N24 hb.size
              replace Bc := Bc.trans (hb.mono Bc.size)
              clear hb
              rw [← E2.out]
              refine wpAny_take (i := 31) (v := ?_) rfl (by kernel_rfl) (by kernel_rfl) (by kernel_rfl) (fun _ _ _ h => h) (Or.inl ⟨by kernel_rfl, ?_⟩) ?_
              rotate_left
              · intro w; go_simp; with_reducible rfl
              refine wpAny_take (i := 32) (v := ?_) rfl (by kernel_rfl) (by kernel_rfl) (by kernel_rfl) (fun _ _ _ h => h) (Or.inl ⟨by kernel_rfl, ?_⟩) ?_
              rotate_left
              · intro w; go_simp; with_reducible rfl
              refine wpAny_take (i := 33) (v := ?_) rfl (by kernel_rfl) (by kernel_rfl) (by kernel_rfl) (fun _ _ _ h => h) (Or.inl ⟨by kernel_rfl, ?_⟩) ?_
              rotate_left
              · intro w; go_simp; with_reducible rfl
              refine wpAny_done (by kernel_rfl) ?_ _
              go_wp2
              go_ret
              exact ⟨rfl, Bc⟩
            · skip
              go_simp
              (first | (refine hK _ _ ?_; clear hK K) | skip)
              obtain ⟨z36, hz⟩ : ∃ x, x = z29.alloc (Obj.cells #[Value.string (a ++ b)] 9) := ⟨_, rfl⟩
              rw [← hz]
              have hb : Below z29.heap.size z29 z36 := by rw [hz]; exact Kq.below_alloc _ _
              replace C1_0 := (hb.cell (p := ⟨z0.heap.size, 0, none⟩) N1).trans C1_0
              replace N1 := Nat.lt_of_lt_of_le N1 hb.size
              replace C7_0 := (hb.cell (p := ⟨z2.heap.size, 0, none⟩) N7).trans C7_0
              replace C7_1 := (hb.cell (p := ⟨z2.heap.size, 1, none⟩) N7).trans C7_1
              replace N7 := Nat.lt_of_lt_of_le N7 hb.size
              replace C13_0 := (hb.cell (p := ⟨z28.heap.size, 0, none⟩) N13).trans C13_0
              replace C13_1 := (hb.cell (p := ⟨z28.heap.size, 1, none⟩) N13).trans C13_1
              replace N13 := Nat.lt_of_lt_of_le N13 hb.size
              replace Bc := Bc.trans (hb.mono Bc.size)
              have N18 : z29.heap.size < z36.heap.size := by rw [hz]; simp
              have C18_0 : z36.cell? ⟨z29.heap.size, 0, none⟩ = some (Value.string (a ++ b)) := by rw [hz]; simp
              clear hb hz
              refine wpAny_ready (rs := [14]) (by kernel_rfl) (by simp) ?_
              refine AllReady.cons rfl (fun K hK => ?_) AllReady.nil
              go_simp
              go_wp2_with (go_at_call 28; refine (crc_sum2 _ a b _ N13 ha hb C13_0 C13_1).mono ?_; rintro e z37 ⟨rfl, hb⟩)
              (first | (refine hK _ _ ?_; clear hK K) | skip)
              replace C1_0 := (hb.cell (p := ⟨z0.heap.size, 0, none⟩) N1).trans C1_0
              replace N1 := Nat.lt_of_lt_of_le N1 hb.size
              replace C7_0 := (hb.cell (p := ⟨z2.heap.size, 0, none⟩) N7).trans C7_0
              replace C7_1 := (hb.cell (p := ⟨z2.heap.size, 1, none⟩) N7).trans C7_1
              replace N7 := Nat.lt_of_lt_of_le N7 hb.size
              replace C13_0 := (hb.cell (p := ⟨z28.heap.size, 0, none⟩) N13).trans C13_0
              replace C13_1 := (hb.cell (p := ⟨z28.heap.size, 1, none⟩) N13).trans C13_1
              replace N13 := Nat.lt_of_lt_of_le N13 hb.size
              replace C18_0 := (hb.cell (p := ⟨z29.heap.size, 0, none⟩) N18).trans C18_0
              replace N18 := Nat.lt_of_lt_of_le N18 hb.size
              replace Bc := Bc.trans (hb.mono Bc.size)
              clear hb
              refine wpAny_ready (rs := [19]) (by kernel_rfl) (by simp) ?_
              refine AllReady.cons rfl (fun K hK => ?_) AllReady.nil
              go_simp
              go_wp2_with (go_at_call 28; refine (crc_sum1 _ (a ++ b) _ N18 hab C18_0).mono ?_; rintro e z38 ⟨rfl, hb⟩)
              (first | (refine hK _ _ ?_; clear hK K) | skip)
              replace C1_0 := (hb.cell (p := ⟨z0.heap.size, 0, none⟩) N1).trans C1_0
              replace N1 := Nat.lt_of_lt_of_le N1 hb.size
              replace C7_0 := (hb.cell (p := ⟨z2.heap.size, 0, none⟩) N7).trans C7_0
              replace C7_1 := (hb.cell (p := ⟨z2.heap.size, 1, none⟩) N7).trans C7_1
              replace N7 := Nat.lt_of_lt_of_le N7 hb.size
              replace C13_0 := (hb.cell (p := ⟨z28.heap.size, 0, none⟩) N13).trans C13_0
              replace C13_1 := (hb.cell (p := ⟨z28.heap.size, 1, none⟩) N13).trans C13_1
              replace N13 := Nat.lt_of_lt_of_le N13 hb.size
              replace C18_0 := (hb.cell (p := ⟨z29.heap.size, 0, none⟩) N18).trans C18_0
              replace N18 := Nat.lt_of_lt_of_le N18 hb.size
              replace Bc := Bc.trans (hb.mono Bc.size)
              clear hb
              rw [E1.out]
              generalize CrcM.upd (CrcM.upd 0 (nl a)) (nl b) = X2
              refine wpAny_take (i := 20) (v := ?_) rfl (by kernel_rfl) (by kernel_rfl) (by kernel_rfl) (fun _ _ _ h => h) (Or.inl ⟨by kernel_rfl, ?_⟩) ?_
              rotate_left
              · intro w; go_simp; with_reducible rfl
              refine wpAny_take (i := 21) (v := ?_) rfl (by kernel_rfl) (by kernel_rfl) (by kernel_rfl) (fun _ _ _ h => h) (Or.inl ⟨by kernel_rfl, ?_⟩) ?_
              rotate_left
              · intro w; go_simp; with_reducible rfl
              refine wpAny_take (i := 22) (v := ?_) rfl (by kernel_rfl) (by kernel_rfl) (by kernel_rfl) (fun _ _ _ h => h) (Or.inl ⟨by kernel_rfl, ?_⟩) ?_
              rotate_left
              · intro w; go_simp; with_reducible rfl
              refine wpAny_take (i := 23) (v := ?_) rfl (by kernel_rfl) (by kernel_rfl) (by kernel_rfl) (fun _ _ _ h => h) (Or.inl ⟨by kernel_rfl, ?_⟩) ?_
              rotate_left
              · intro w; go_simp; with_reducible rfl
              refine wpAny_take (i := 27) (v := ?_) rfl (by kernel_rfl) (by kernel_rfl) (by kernel_rfl) (fun _ _ _ h => h) (Or.inl ⟨by kernel_rfl, ?_⟩) ?_
              rotate_left
              · intro w; go_simp; with_reducible rfl
              refine wpAny_take (i := 28) (v := ?_) rfl (by kernel_rfl) (by kernel_rfl) (by kernel_rfl) (fun _ _ _ h => h) (Or.inl ⟨by kernel_rfl, ?_⟩) ?_
              rotate_left
              · intro w; go_simp; with_reducible rfl
              refine wpAny_take (i := 29) (v := ?_) rfl (by kernel_rfl) (by kernel_rfl) (by kernel_rfl) (fun _ _ _ h => h) (Or.inl ⟨by kernel_rfl, ?_⟩) ?_
              rotate_left
              · intro w; go_simp; with_reducible rfl
              refine wpAny_take (i := 30) (v := ?_) rfl (by kernel_rfl) (by kernel_rfl) (by kernel_rfl) (fun _ _ _ h => h) (Or.inl ⟨by kernel_rfl, ?_⟩) ?_
              rotate_left
              · intro w; go_simp; with_reducible rfl
              refine wpAny_ready (rs := [24]) (by kernel_rfl) (by simp) ?_
              refine AllReady.cons rfl (fun K hK => ?_) AllReady.nil
              go_simp
              (first | (refine hK _ _ ?_; clear hK K) | skip)
              obtain ⟨z39, hz⟩ : ∃ x, x = z38.alloc (Obj.cells #[Value.string a] 9) := ⟨_, rfl⟩
              rw [← hz]
              have hb : Below z38.heap.size z38 z39 := by rw [hz]; exact Kq.below_alloc _ _
              replace C1_0 := (hb.cell (p := ⟨z0.heap.size, 0, none⟩) N1).trans C1_0
              replace N1 := Nat.lt_of_lt_of_le N1 hb.size
              replace C7_0 := (hb.cell (p := ⟨z2.heap.size, 0, none⟩) N7).trans C7_0
              replace C7_1 := (hb.cell (p := ⟨z2.heap.size, 1, none⟩) N7).trans C7_1
              replace N7 := Nat.lt_of_lt_of_le N7 hb.size
              replace C13_0 := (hb.cell (p := ⟨z28.heap.size, 0, none⟩) N13).trans C13_0
              replace C13_1 := (hb.cell (p := ⟨z28.heap.size, 1, none⟩) N13).trans C13_1
              replace N13 := Nat.lt_of_lt_of_le N13 hb.size
              replace C18_0 := (hb.cell (p := ⟨z29.heap.size, 0, none⟩) N18).trans C18_0
              replace N18 := Nat.lt_of_lt_of_le N18 hb.size
              replace Bc := Bc.trans (hb.mono Bc.size)
              have N24 : z38.heap.size < z39.heap.size := by rw [hz]; simp
              have C24_0 : z39.cell? ⟨z38.heap.size, 0, none⟩ = some (Value.string a) := by rw [hz]; simp
              clear hb hz
              refine wpAny_ready (rs := [25]) (by kernel_rfl) (by simp) ?_
              refine AllReady.cons rfl (fun K hK => ?_) AllReady.nil
              go_simp
              go_wp2_with (go_at_call 28; refine (crc_sum1 _ a _ N24 ha C24_0).mono ?_; rintro e z40 ⟨rfl, hb⟩)
              (first | (refine hK _ _ ?_; clear hK K) | skip)
              replace C1_0 := (hb.cell (p := ⟨z0.heap.size, 0, none⟩) N1).trans C1_0
              replace N1 := Nat.lt_of_lt_of_le N1 hb.size
              replace C7_0 := (hb.cell (p := ⟨z2.heap.size, 0, none⟩) N7).trans C7_0
              replace C7_1 := (hb.cell (p := ⟨z2.heap.size, 1, none⟩) N7).trans C7_1
              replace N7 := Nat.lt_of_lt_of_le N7 hb.size
              replace C13_0 := (hb.cell (p := ⟨z28.heap.size, 0, none⟩) N13).trans C13_0
              replace C13_1 := (hb.cell (p := ⟨z28.heap.size, 1, none⟩) N13).trans C13_1
              replace N13 := Nat.lt_of_lt_of_le N13 hb.size
              replace C18_0 := (hb.cell (p := ⟨z29.heap.size, 0, none⟩) N18).trans C18_0
              replace N18 := Nat.lt_of_lt_of_le N18 hb.size
              replace C24_0 := (hb.cell (p := ⟨z38.heap.size, 0, none⟩) N24).trans C24_0
              replace N24 := Nat.lt_of_lt_of_le N24 hb.size
              replace Bc := Bc.trans (hb.mono Bc.size)
              clear hb
              refine wpAny_ready (rs := [26]) (by kernel_rfl) (by simp) ?_
              refine AllReady.cons rfl (fun K hK => ?_) AllReady.nil
              go_simp
              go_wp2_with (go_at_call 32; refine (crc_bytes _ _).mono ?_; rintro e z41 ⟨rfl, hb⟩)
              (first | (refine hK _ _ ?_; clear hK K) | skip)
              replace C1_0 := (hb.cell (p := ⟨z0.heap.size, 0, none⟩) N1).trans C1_0
              replace N1 := Nat.lt_of_lt_of_le N1 hb.size
              replace C7_0 := (hb.cell (p := ⟨z2.heap.size, 0, none⟩) N7).trans C7_0
              replace C7_1 := (hb.cell (p := ⟨z2.heap.size, 1, none⟩) N7).trans C7_1
              replace N7 := Nat.lt_of_lt_of_le N7 hb.size
              replace C13_0 := (hb.cell (p := ⟨z28.heap.size, 0, none⟩) N13).trans C13_0
              replace C13_1 := (hb.cell (p := ⟨z28.heap.size, 1, none⟩) N13).trans C13_1
              replace N13 := Nat.lt_of_lt_of_le N13 hb.size
              replace C18_0 := (hb.cell (p := ⟨z29.heap.size, 0, none⟩) N18).trans C18_0
              replace N18 := Nat.lt_of_lt_of_le N18 hb.size
              replace C24_0 := (hb.cell (p := ⟨z38.heap.size, 0, none⟩) N24).trans C24_0
              replace N24 := Nat.lt_of_lt_of_le N24 hb.size
              replace Bc := Bc.trans (hb.mono Bc.size)
              clear hb
              rw [← E2.out]
              refine wpAny_take (i := 31) (v := ?_) rfl (by kernel_rfl) (by kernel_rfl) (by kernel_rfl) (fun _ _ _ h => h) (Or.inl ⟨by kernel_rfl, ?_⟩) ?_
              rotate_left
              · intro w; go_simp; with_reducible rfl
              refine wpAny_take (i := 32) (v := ?_) rfl (by kernel_rfl) (by kernel_rfl) (by kernel_rfl) (fun _ _ _ h => h) (Or.inl ⟨by kernel_rfl, ?_⟩) ?_
              rotate_left
              · intro w; go_simp; with_reducible rfl
              refine wpAny_take (i := 33) (v := ?_) rfl (by kernel_rfl) (by kernel_rfl) (by kernel_rfl) (fun _ _ _ h => h) (Or.inl ⟨by kernel_rfl, ?_⟩) ?_
              rotate_left
              · intro w; go_simp; with_reducible rfl
              refine wpAny_done (by kernel_rfl) ?_ _
              go_wp2
              go_ret
              exact ⟨rfl, Bc⟩
          · skip
            go_simp
            (first | (refine hK _ _ ?_; clear hK K) | skip)
            obtain ⟨z42, hz⟩ : ∃ x, x = z28.alloc (Obj.cells #[Value.string (a ++ b)] 9) := ⟨_, rfl⟩
            rw [← hz]
            have hb : Below z28.heap.size z28 z42 := by rw [hz]; exact Kq.below_alloc _ _
            replace C1_0 := (hb.cell (p := ⟨z0.heap.size, 0, none⟩) N1).trans C1_0
            replace N1 := Nat.lt_of_lt_of_le N1 hb.size
            replace C7_0 := (hb.cell (p := ⟨z2.heap.size, 0, none⟩) N7).trans C7_0
            replace C7_1 := (hb.cell (p := ⟨z2.heap.size, 1, none⟩) N7).trans C7_1
            replace N7 := Nat.lt_of_lt_of_le N7 hb.size
            replace Bc := Bc.trans (hb.mono Bc.size)
            have N18 : z28.heap.size < z42.heap.size := by rw [hz]; simp
            have C18_0 : z42.cell? ⟨z28.heap.size, 0, none⟩ = some (Value.string (a ++ b)) := by rw [hz]; simp
            clear hb hz
            refine wpAny_ready (rs := [13]) (by kernel_rfl) (by simp) ?_
            refine AllReady.cons rfl (fun K hK => ?_) AllReady.nil
            go_simp
            (first | (refine hK _ _ ?_; clear hK K) | skip)
            obtain ⟨z43, hz⟩ : ∃ x, x = z42.alloc (Obj.cells #[Value.string a, Value.string b] 9) := ⟨_, rfl⟩
            rw [← hz]
            have hb : Below z42.heap.size z42 z43 := by rw [hz]; exact Kq.below_alloc _ _
            replace C1_0 := (hb.cell (p := ⟨z0.heap.size, 0, none⟩) N1).trans C1_0
            replace N1 := Nat.lt_of_lt_of_le N1 hb.size
            replace C7_0 := (hb.cell (p := ⟨z2.heap.size, 0, none⟩) N7).trans C7_0
            replace C7_1 := (hb.cell (p := ⟨z2.heap.size, 1, none⟩) N7).trans C7_1
            replace N7 := Nat.lt_of_lt_of_le N7 hb.size
            replace C18_0 := (hb.cell (p := ⟨z28.heap.size, 0, none⟩) N18).trans C18_0
            replace N18 := Nat.lt_of_lt_of_le N18 hb.size
            replace Bc := Bc.trans (hb.mono Bc.size)
            have N13 : z42.heap.size < z43.heap.size := by rw [hz]; simp
            have C13_0 : z43.cell? ⟨z42.heap.size, 0, none⟩ = some (Value.string a) := by rw [hz]; simp
            have C13_1 : z43.cell? ⟨z42.heap.size, 1, none⟩ = some (Value.string b) := by rw [hz]; simp
            clear hb hz
            refine wpAny_ready (rs := [14]) (by kernel_rfl) (by simp) ?_
            refine AllReady.cons rfl (fun K hK => ?_) AllReady.nil
            go_simp
            go_wp2_with (go_at_call 28; refine (crc_sum2 _ a b _ N13 ha hb C13_0 C13_1).mono ?_; rintro e z44 ⟨rfl, hb⟩)
            (first | (refine hK _ _ ?_; clear hK K) | skip)
            replace C1_0 := (hb.cell (p := ⟨z0.heap.size, 0, none⟩) N1).trans C1_0
            replace N1 := Nat.lt_of_lt_of_le N1 hb.size
            replace C7_0 := (hb.cell (p := ⟨z2.heap.size, 0, none⟩) N7).trans C7_0
            replace C7_1 := (hb.cell (p := ⟨z2.heap.size, 1, none⟩) N7).trans C7_1
            replace N7 := Nat.lt_of_lt_of_le N7 hb.size
            replace C18_0 := (hb.cell (p := ⟨z28.heap.size, 0, none⟩) N18).trans C18_0
            replace N18 := Nat.lt_of_lt_of_le N18 hb.size
            replace C13_0 := (hb.cell (p := ⟨z42.heap.size, 0, none⟩) N13).trans C13_0
            replace C13_1 := (hb.cell (p := ⟨z42.heap.size, 1, none⟩) N13).trans C13_1
            replace N13 := Nat.lt_of_lt_of_le N13 hb.size
            replace Bc := Bc.trans (hb.mono Bc.size)
            clear hb
            refine wpAny_ready (rs := [19]) (by kernel_rfl) (by simp) ?_
            refine AllReady.cons rfl (fun K hK => ?_) AllReady.nil
            go_simp
            go_wp2_with (go_at_call 28; refine (crc_sum1 _ (a ++ b) _ N18 hab C18_0).mono ?_; rintro e z45 ⟨rfl, hb⟩)
            (first | (refine hK _ _ ?_; clear hK K) | skip)
            replace C1_0 := (hb.cell (p := ⟨z0.heap.size, 0, none⟩) N1).trans C1_0
            replace N1 := Nat.lt_of_lt_of_le N1 hb.size
            replace C7_0 := (hb.cell (p := ⟨z2.heap.size, 0, none⟩) N7).trans C7_0
            replace C7_1 := (hb.cell (p := ⟨z2.heap.size, 1, none⟩) N7).trans C7_1
            replace N7 := Nat.lt_of_lt_of_le N7 hb.size
            replace C18_0 := (hb.cell (p := ⟨z28.heap.size, 0, none⟩) N18).trans C18_0
            replace N18 := Nat.lt_of_lt_of_le N18 hb.size
            replace C13_0 := (hb.cell (p := ⟨z42.heap.size, 0, none⟩) N13).trans C13_0
            replace C13_1 := (hb.cell (p := ⟨z42.heap.size, 1, none⟩) N13).trans C13_1
            replace N13 := Nat.lt_of_lt_of_le N13 hb.size
            replace Bc := Bc.trans (hb.mono Bc.size)
            clear hb
            rw [E1.out]
            generalize CrcM.upd (CrcM.upd 0 (nl a)) (nl b) = X2
            refine wpAny_take (i := 20) (v := ?_) rfl (by kernel_rfl) (by kernel_rfl) (by kernel_rfl) (fun _ _ _ h => h) (Or.inl ⟨by kernel_rfl, ?_⟩) ?_
            rotate_left
            · intro w; go_simp; with_reducible rfl
            refine wpAny_take (i := 21) (v := ?_) rfl (by kernel_rfl) (by kernel_rfl) (by kernel_rfl) (fun _ _ _ h => h) (Or.inl ⟨by kernel_rfl, ?_⟩) ?_
            rotate_left
            · intro w; go_simp; with_reducible rfl
            refine wpAny_take (i := 22) (v := ?_) rfl (by kernel_rfl) (by kernel_rfl) (by kernel_rfl) (fun _ _ _ h => h) (Or.inl ⟨by kernel_rfl, ?_⟩) ?_
            rotate_left
            · intro w; go_simp; with_reducible rfl
            refine wpAny_take (i := 23) (v := ?_) rfl (by kernel_rfl) (by kernel_rfl) (by kernel_rfl) (fun _ _ _ h => h) (Or.inl ⟨by kernel_rfl, ?_⟩) ?_
            rotate_left
            · intro w; go_simp; with_reducible rfl
            refine wpAny_take (i := 27) (v := ?_) rfl (by kernel_rfl) (by kernel_rfl) (by kernel_rfl) (fun _ _ _ h => h) (Or.inl ⟨by kernel_rfl, ?_⟩) ?_
            rotate_left
            · intro w; go_simp; with_reducible rfl
            refine wpAny_take (i := 28) (v := ?_) rfl (by kernel_rfl) (by kernel_rfl) (by kernel_rfl) (fun _ _ _ h => h) (Or.inl ⟨by kernel_rfl, ?_⟩) ?_
            rotate_left
            · intro w; go_simp; with_reducible rfl
            refine wpAny_take (i := 29) (v := ?_) rfl (by kernel_rfl) (by kernel_rfl) (by kernel_rfl) (fun _ _ _ h => h) (Or.inl ⟨by kernel_rfl, ?_⟩) ?_
            rotate_left
            · intro w; go_simp; with_reducible rfl
            refine wpAny_take (i := 30) (v := ?_) rfl (by kernel_rfl) (by kernel_rfl) (by kernel_rfl) (fun _ _ _ h => h) (Or.inl ⟨by kernel_rfl, ?_⟩) ?_
            rotate_left
            · intro w; go_simp; with_reducible rfl
            refine wpAny_ready (rs := [24]) (by kernel_rfl) (by simp) ?_
            refine AllReady.cons rfl (fun K hK => ?_) AllReady.nil
            go_simp
            (first | (refine hK _ _ ?_; clear hK K) | skip)
            obtain ⟨z46, hz⟩ : ∃ x, x = z45.alloc (Obj.cells #[Value.string a] 9) := ⟨_, rfl⟩
            rw [← hz]
            have hb : Below z45.heap.size z45 z46 := by rw [hz]; exact Kq.below_alloc _ _
            replace C1_0 := (hb.cell (p := ⟨z0.heap.size, 0, none⟩) N1).trans C1_0
            replace N1 := Nat.lt_of_lt_of_le N1 hb.size
            replace C7_0 := (hb.cell (p := ⟨z2.heap.size, 0, none⟩) N7).trans C7_0
            replace C7_1 := (hb.cell (p := ⟨z2.heap.size, 1, none⟩) N7).trans C7_1
            replace N7 := Nat.lt_of_lt_of_le N7 hb.size
            replace C18_0 := (hb.cell (p := ⟨z28.heap.size, 0, none⟩) N18).trans C18_0
            replace N18 := Nat.lt_of_lt_of_le N18 hb.size
            replace C13_0 := (hb.cell (p := ⟨z42.heap.size, 0, none⟩) N13).trans C13_0
            replace C13_1 := (hb.cell (p := ⟨z42.heap.size, 1, none⟩) N13).trans C13_1
            replace N13 := Nat.lt_of_lt_of_le N13 hb.size
            replace Bc := Bc.trans (hb.mono Bc.size)
            have N24 : z45.heap.size < z46.heap.size := by rw [hz]; simp
            have C24_0 : z46.cell? ⟨z45.heap.size, 0, none⟩ = some (Value.string a) := by rw [hz]; simp
            clear hb hz
            refine wpAny_ready (rs := [25]) (by kernel_rfl) (by simp) ?_
            refine AllReady.cons rfl (fun K hK => ?_) AllReady.nil
            go_simp
            go_wp2_with (go_at_call 28; refine (crc_sum1 _ a _ N24 ha C24_0).mono ?_; rintro e z47 ⟨rfl, hb⟩)
            (first | (refine hK _ _ ?_; clear hK K) | skip)
            replace C1_0 := (hb.cell (p := ⟨z0.heap.size, 0, none⟩) N1).trans C1_0
            replace N1 := Nat.lt_of_lt_of_le N1 hb.size
            replace C7_0 := (hb.cell (p := ⟨z2.heap.size, 0, none⟩) N7).trans C7_0
            replace C7_1 := (hb.cell (p := ⟨z2.heap.size, 1, none⟩) N7).trans C7_1
            replace N7 := Nat.lt_of_lt_of_le N7 hb.size
            replace C18_0 := (hb.cell (p := ⟨z28.heap.size, 0, none⟩) N18).trans C18_0
            replace N18 := Nat.lt_of_lt_of_le N18 hb.size
            replace C13_0 := (hb.cell (p := ⟨z42.heap.size, 0, none⟩) N13).trans C13_0
            replace C13_1 := (hb.cell (p := ⟨z42.heap.size, 1, none⟩) N13).trans C13_1
            replace N13 := Nat.lt_of_lt_of_le N13 hb.size
            replace C24_0 := (hb.cell (p := ⟨z45.heap.size, 0, none⟩) N24).trans C24_0
            replace N24 := Nat.lt_of_lt_of_le N24 hb.size
            replace Bc := Bc.trans (hb.mono Bc.size)
            clear hb
            refine wpAny_ready (rs := [26]) (by kernel_rfl) (by simp) ?_
            refine AllReady.cons rfl (fun K hK => ?_) AllReady.nil
            go_simp
            go_wp2_with (go_at_call 32; refine (crc_bytes _ _).mono ?_; rintro e z48 ⟨rfl, hb⟩)
            (first | (refine hK _ _ ?_; clear hK K) | skip)
            replace C1_0 := (hb.cell (p := ⟨z0.heap.size, 0, none⟩) N1).trans C1_0
            replace N1 := Nat.lt_of_lt_of_le N1 hb.size
            replace C7_0 := (hb.cell (p := ⟨z2.heap.size, 0, none⟩) N7).trans C7_0
            replace C7_1 := (hb.cell (p := ⟨z2.heap.size, 1, none⟩) N7).trans C7_1
            replace N7 := Nat.lt_of_lt_of_le N7 hb.size
            replace C18_0 := (hb.cell (p := ⟨z28.heap.size, 0, none⟩) N18).trans C18_0
            replace N18 := Nat.lt_of_lt_of_le N18 hb.size
            replace C13_0 := (hb.cell (p := ⟨z42.heap.size, 0, none⟩) N13).trans C13_0
            replace C13_1 := (hb.cell (p := ⟨z42.heap.size, 1, none⟩) N13).trans C13_1
            replace N13 := Nat.lt_of_lt_of_le N13 hb.size
            replace C24_0 := (hb.cell (p := ⟨z45.heap.size, 0, none⟩) N24).trans C24_0
            replace N24 := Nat.lt_of_lt_of_le N24 hb.size
            replace Bc := Bc.trans (hb.mono Bc.size)
            clear hb
            rw [← E2.out]
            refine wpAny_take (i := 31) (v := ?_) rfl (by kernel_rfl) (by kernel_rfl) (by kernel_rfl) (fun _ _ _ h => h) (Or.inl ⟨by kernel_rfl, ?_⟩) ?_
            rotate_left
            · intro w; go_simp; with_reducible rfl
            refine wpAny_take (i := 32) (v := ?_) rfl (by kernel_rfl) (by kernel_rfl) (by kernel_rfl) (fun _ _ _ h => h) (Or.inl ⟨by kernel_rfl, ?_⟩) ?_
            rotate_left
            · intro w; go_simp; with_reducible rfl
            refine wpAny_take (i := 33) (v := ?_) rfl (by kernel_rfl) (by kernel_rfl) (by kernel_rfl) (fun _ _ _ h => h) (Or.inl ⟨by kernel_rfl, ?_⟩) ?_
            rotate_left
            · intro w; go_simp; with_reducible rfl
            refine wpAny_done (by kernel_rfl) ?_ _
            go_wp2
            go_ret
            exact ⟨rfl, Bc⟩
      · skip
        go_simp
        (first | (refine hK _ _ ?_; clear hK K) | skip)
        obtain ⟨z49, hz⟩ : ∃ x, x = z1.alloc (Obj.cells #[Value.string a, Value.string b] 9) := ⟨_, rfl⟩
        rw [← hz]
        have hb : Below z1.heap.size z1 z49 := by rw [hz]; exact Kq.below_alloc _ _
        replace C1_0 := (hb.cell (p := ⟨z0.heap.size, 0, none⟩) N1).trans C1_0
        replace N1 := Nat.lt_of_lt_of_le N1 hb.size
        replace Bc := Bc.trans (hb.mono Bc.size)
        have N7 : z1.heap.size < z49.heap.size := by rw [hz]; simp
        have C7_0 : z49.cell? ⟨z1.heap.size, 0, none⟩ = some (Value.string a) := by rw [hz]; simp
        have C7_1 : z49.cell? ⟨z1.heap.size, 1, none⟩ = some (Value.string b) := by rw [hz]; simp
        clear hb hz
        refine wpAny_ready (rs := [2]) (by kernel_rfl) (by simp) ?_
        refine AllReady.cons rfl (fun K hK => ?_) AllReady.nil
        go_simp
        go_wp2_with (go_at_call 28; refine (crc_sum1 _ a _ N1 ha C1_0).mono ?_; rintro e z50 ⟨rfl, hb⟩)
        (first | (refine hK _ _ ?_; clear hK K) | skip)
        replace C1_0 := (hb.cell (p := ⟨z0.heap.size, 0, none⟩) N1).trans C1_0
        replace N1 := Nat.lt_of_lt_of_le N1 hb.size
        replace C7_0 := (hb.cell (p := ⟨z1.heap.size, 0, none⟩) N7).trans C7_0
        replace C7_1 := (hb.cell (p := ⟨z1.heap.size, 1, none⟩) N7).trans C7_1
        replace N7 := Nat.lt_of_lt_of_le N7 hb.size
        replace Bc := Bc.trans (hb.mono Bc.size)
        clear hb
        refine wpAny_ready (rs := [4]) (by kernel_rfl) (by simp) ?_
        refine AllReady.cons rfl (fun K hK => ?_) AllReady.nil
        go_simp
        go_wp2_with (go_at_call 30; refine (crc_update _ b _ (CrcM.upd_lt _ _) hb).mono ?_; rintro e z51 ⟨rfl, hb⟩)
        (first | (refine hK _ _ ?_; clear hK K) | skip)
        replace C1_0 := (hb.cell (p := ⟨z0.heap.size, 0, none⟩) N1).trans C1_0
        replace N1 := Nat.lt_of_lt_of_le N1 hb.size
        replace C7_0 := (hb.cell (p := ⟨z1.heap.size, 0, none⟩) N7).trans C7_0
        replace C7_1 := (hb.cell (p := ⟨z1.heap.size, 1, none⟩) N7).trans C7_1
        replace N7 := Nat.lt_of_lt_of_le N7 hb.size
        replace Bc := Bc.trans (hb.mono Bc.size)
        clear hb
        refine wpAny_ready (rs := [8]) (by kernel_rfl) (by simp) ?_
        refine AllReady.cons rfl (fun K hK => ?_) AllReady.nil
        go_simp
        go_wp2_with (go_at_call 28; refine (crc_sum2 _ a b _ N7 ha hb C7_0 C7_1).mono ?_; rintro e z52 ⟨rfl, hb⟩)
        (first | (refine hK _ _ ?_; clear hK K) | skip)
        replace C1_0 := (hb.cell (p := ⟨z0.heap.size, 0, none⟩) N1).trans C1_0
        replace N1 := Nat.lt_of_lt_of_le N1 hb.size
        replace C7_0 := (hb.cell (p := ⟨z1.heap.size, 0, none⟩) N7).trans C7_0
        replace C7_1 := (hb.cell (p := ⟨z1.heap.size, 1, none⟩) N7).trans C7_1
        replace N7 := Nat.lt_of_lt_of_le N7 hb.size
        replace Bc := Bc.trans (hb.mono Bc.size)
        clear hb
        generalize CrcM.upd (CrcM.upd 0 (nl a)) (nl b) = X
        refine wpAny_take (i := 9) (v := ?_) rfl (by kernel_rfl) (by kernel_rfl) (by kernel_rfl) (fun _ _ _ h => h) (Or.inl ⟨by kernel_rfl, ?_⟩) ?_
        rotate_left
        · intro w; go_simp; with_reducible rfl
        refine wpAny_take (i := 10) (v := ?_) rfl (by kernel_rfl) (by kernel_rfl) (by kernel_rfl) (fun _ _ _ h => h) (Or.inl ⟨by kernel_rfl, ?_⟩) ?_
        rotate_left
        · intro w; go_simp; with_reducible rfl
        refine wpAny_take (i := 11) (v := ?_) rfl (by kernel_rfl) (by kernel_rfl) (by kernel_rfl) (fun _ _ _ h => h) (Or.inl ⟨by kernel_rfl, ?_⟩) ?_
        rotate_left
        · intro w; go_simp; with_reducible rfl
        refine wpAny_take (i := 12) (v := ?_) rfl (by kernel_rfl) (by kernel_rfl) (by kernel_rfl) (fun _ _ _ h => h) (Or.inl ⟨by kernel_rfl, ?_⟩) ?_
        rotate_left
        · intro w; go_simp; with_reducible rfl
        refine wpAny_take (i := 15) (v := ?_) rfl (by kernel_rfl) (by kernel_rfl) (by kernel_rfl) (fun _ _ _ h => h) (Or.inl ⟨by kernel_rfl, ?_⟩) ?_
        rotate_left
        · intro w; go_simp; with_reducible rfl
        refine wpAny_take (i := 16) (v := ?_) rfl (by kernel_rfl) (by kernel_rfl) (by kernel_rfl) (fun _ _ _ h => h) (Or.inl ⟨by kernel_rfl, ?_⟩) ?_
        rotate_left
        · intro w; go_simp; with_reducible rfl
        refine wpAny_take (i := 17) (v := ?_) rfl (by kernel_rfl) (by kernel_rfl) (by kernel_rfl) (fun _ _ _ h => h) (Or.inl ⟨by kernel_rfl, ?_⟩) ?_
        rotate_left
        · intro w; go_simp; with_reducible rfl
        refine wpAny_ready (rs := [13, 18]) (by kernel_rfl) (by simp) ?_
        refine (AllReady.cons rfl (fun K hK => ?_) (AllReady.cons rfl (fun K hK => ?_) AllReady.nil))
        · skip
          go_simp
          (first | (refine hK _ _ ?_; clear hK K) | skip)
          obtain ⟨z53, hz⟩ : ∃ x, x = z52.alloc (Obj.cells #[Value.string a, Value.string b] 9) := ⟨_, rfl⟩
          rw [← hz]
          have hb : Below z52.heap.size z52 z53 := by rw [hz]; exact Kq.below_alloc _ _
          replace C1_0 := (hb.cell (p := ⟨z0.heap.size, 0, none⟩) N1).trans C1_0
          replace N1 := Nat.lt_of_lt_of_le N1 hb.size
          replace C7_0 := (hb.cell (p := ⟨z1.heap.size, 0, none⟩) N7).trans C7_0
          replace C7_1 := (hb.cell (p := ⟨z1.heap.size, 1, none⟩) N7).trans C7_1
          replace N7 := Nat.lt_of_lt_of_le N7 hb.size
          replace Bc := Bc.trans (hb.mono Bc.size)
          have N13 : z52.heap.size < z53.heap.size := by rw [hz]; simp
          have C13_0 : z53.cell? ⟨z52.heap.size, 0, none⟩ = some (Value.string a) := by rw [hz]; simp
          have C13_1 : z53.cell? ⟨z52.heap.size, 1, none⟩ = some (Value.string b) := by rw [hz]; simp
          clear hb hz
          refine wpAny_ready (rs := [14, 18]) (by kernel_rfl) (by simp) ?_
          refine (AllReady.cons rfl (fun K hK => ?_) (AllReady.cons rfl (fun K hK => ?_) AllReady.nil))
          · skip
            go_simp
            go_wp2_with (go_at_call 28; refine (crc_sum2 _ a b _ N13 ha hb C13_0 C13_1).mono ?_; rintro e z54 ⟨rfl, hb⟩)
            (first | (refine hK _ _ ?_; clear hK K) | skip)
            replace C1_0 := (hb.cell (p := ⟨z0.heap.size, 0, none⟩) N1).trans C1_0
            replace N1 := Nat.lt_of_lt_of_le N1 hb.size
            replace C7_0 := (hb.cell (p := ⟨z1.heap.size, 0, none⟩) N7).trans C7_0
            replace C7_1 := (hb.cell (p := ⟨z1.heap.size, 1, none⟩) N7).trans C7_1
            replace N7 := Nat.lt_of_lt_of_le N7 hb.size
            replace C13_0 := (hb.cell (p := ⟨z52.heap.size, 0, none⟩) N13).trans C13_0
            replace C13_1 := (hb.cell (p := ⟨z52.heap.size, 1, none⟩) N13).trans C13_1
            replace N13 := Nat.lt_of_lt_of_le N13 hb.size
            replace Bc := Bc.trans (hb.mono Bc.size)
            clear hb
            refine wpAny_ready (rs := [18]) (by kernel_rfl) (by simp) ?_
            refine AllReady.cons rfl (fun K hK => ?_) AllReady.nil
            go_simp
            (first | (refine hK _ _ ?_; clear hK K) | skip)
            obtain ⟨z55, hz⟩ : ∃ x, x = z54.alloc (Obj.cells #[Value.string (a ++ b)] 9) := ⟨_, rfl⟩
            rw [← hz]
            have hb : Below z54.heap.size z54 z55 := by rw [hz]; exact Kq.below_alloc _ _
            replace C1_0 := (hb.cell (p := ⟨z0.heap.size, 0, none⟩) N1).trans C1_0
            replace N1 := Nat.lt_of_lt_of_le N1 hb.size
            replace C7_0 := (hb.cell (p := ⟨z1.heap.size, 0, none⟩) N7).trans C7_0
            replace C7_1 := (hb.cell (p := ⟨z1.heap.size, 1, none⟩) N7).trans C7_1
            replace N7 := Nat.lt_of_lt_of_le N7 hb.size
            replace C13_0 := (hb.cell (p := ⟨z52.heap.size, 0, none⟩) N13).trans C13_0
            replace C13_1 := (hb.cell (p := ⟨z52.heap.size, 1, none⟩) N13).trans C13_1
            replace N13 := Nat.lt_of_lt_of_le N13 hb.size
            replace Bc := Bc.trans (hb.mono Bc.size)
            have N18 : z54.heap.size < z55.heap.size := by rw [hz]; simp
            have C18_0 : z55.cell? ⟨z54.heap.size, 0, none⟩ = some (Value.string (a ++ b)) := by rw [hz]; simp
            clear hb hz
            refine wpAny_ready (rs := [19]) (by kernel_rfl) (by simp) ?_
            refine AllReady.cons rfl (fun K hK => ?_) AllReady.nil
            go_simp
            go_wp2_with (go_at_call 28; refine (crc_sum1 _ (a ++ b) _ N18 hab C18_0).mono ?_; rintro e z56 ⟨rfl, hb⟩)
            (first | (refine hK _ _ ?_; clear hK K) | skip)
            replace C1_0 := (hb.cell (p := ⟨z0.heap.size, 0, none⟩) N1).trans C1_0
            replace N1 := Nat.lt_of_lt_of_le N1 hb.size
            replace C7_0 := (hb.cell (p := ⟨z1.heap.size, 0, none⟩) N7).trans C7_0
            replace C7_1 := (hb.cell (p := ⟨z1.heap.size, 1, none⟩) N7).trans C7_1
            replace N7 := Nat.lt_of_lt_of_le N7 hb.size
            replace C13_0 := (hb.cell (p := ⟨z52.heap.size, 0, none⟩) N13).trans C13_0
            replace C13_1 := (hb.cell (p := ⟨z52.heap.size, 1, none⟩) N13).trans C13_1
            replace N13 := Nat.lt_of_lt_of_le N13 hb.size
            replace C18_0 := (hb.cell (p := ⟨z54.heap.size, 0, none⟩) N18).trans C18_0
            replace N18 := Nat.lt_of_lt_of_le N18 hb.size
            replace Bc := Bc.trans (hb.mono Bc.size)
            clear hb
            rw [E1.out]
            generalize CrcM.upd (CrcM.upd 0 (nl a)) (nl b) = X2
            refine wpAny_take (i := 20) (v := ?_) rfl (by kernel_rfl) (by kernel_rfl) (by kernel_rfl) (fun _ _ _ h => h) (Or.inl ⟨by kernel_rfl, ?_⟩) ?_
            rotate_left
            · intro w; go_simp; with_reducible rfl
            refine wpAny_take (i := 21) (v := ?_) rfl (by kernel_rfl) (by kernel_rfl) (by kernel_rfl) (fun _ _ _ h => h) (Or.inl ⟨by kernel_rfl, ?_⟩) ?_
            rotate_left
            · intro w; go_simp; with_reducible rfl
            refine wpAny_take (i := 22) (v := ?_) rfl (by kernel_rfl) (by kernel_rfl) (by kernel_rfl) (fun _ _ _ h => h) (Or.inl ⟨by kernel_rfl, ?_⟩) ?_
            rotate_left
            · intro w; go_simp; with_reducible rfl
            refine wpAny_take (i := 23) (v := ?_) rfl (by kernel_rfl) (by kernel_rfl) (by kernel_rfl) (fun _ _ _ h => h) (Or.inl ⟨by kernel_rfl, ?_⟩) ?_
            rotate_left
            · intro w; go_simp; with_reducible rfl
            refine wpAny_take (i := 27) (v := ?_) rfl (by kernel_rfl) (by kernel_rfl) (by kernel_rfl) (fun _ _ _ h => h) (Or.inl ⟨by kernel_rfl, ?_⟩) ?_
            rotate_left
            · intro w; go_simp; with_reducible rfl
            refine wpAny_take (i := 28) (v := ?_) rfl (by kernel_rfl) (by kernel_rfl) (by kernel_rfl) (fun _ _ _ h => h) (Or.inl ⟨by kernel_rfl, ?_⟩) ?_
            rotate_left
            · intro w; go_simp; with_reducible rfl
            refine wpAny_take (i := 29) (v := ?_) rfl (by kernel_rfl) (by kernel_rfl) (by kernel_rfl) (fun _ _ _ h => h) (Or.inl ⟨by kernel_rfl, ?_⟩) ?_
            rotate_left
            · intro w; go_simp; with_reducible rfl
            refine wpAny_take (i := 30) (v := ?_) rfl (by kernel_rfl) (by kernel_rfl) (by kernel_rfl) (fun _ _ _ h => h) (Or.inl ⟨by kernel_rfl, ?_⟩) ?_
            rotate_left
            · intro w; go_simp; with_reducible rfl
            refine wpAny_ready (rs := [24]) (by kernel_rfl) (by simp) ?_
            refine AllReady.cons rfl (fun K hK => ?_) AllReady.nil
            go_simp
            (first | (refine hK _ _ ?_; clear hK K) | skip)
            obtain ⟨z57, hz⟩ : ∃ x, x = z56.alloc (Obj.cells #[Value.string a] 9) := ⟨_, rfl⟩
            rw [← hz]
            have hb : Below z56.heap.size z56 z57 := by rw [hz]; exact Kq.below_alloc _ _
            replace C1_0 := (hb.cell (p := ⟨z0.heap.size, 0, none⟩) N1).trans C1_0
            replace N1 := Nat.lt_of_lt_of_le N1 hb.size
            replace C7_0 := (hb.cell (p := ⟨z1.heap.size, 0, none⟩) N7).trans C7_0
            replace C7_1 := (hb.cell (p := ⟨z1.heap.size, 1, none⟩) N7).trans C7_1
            replace N7 := Nat.lt_of_lt_of_le N7 hb.size
            replace C13_0 := (hb.cell (p := ⟨z52.heap.size, 0, none⟩) N13).trans C13_0
            replace C13_1 := (hb.cell (p := ⟨z52.heap.size, 1, none⟩) N13).trans C13_1
            replace N13 := Nat.lt_of_lt_of_le N13 hb.size
            replace C18_0 := (hb.cell (p := ⟨z54.heap.size, 0, none⟩) N18).trans C18_0
            replace N18 := Nat.lt_of_lt_of_le N18 hb.size
            replace Bc := Bc.trans (hb.mono Bc.size)
            have N24 : z56.heap.size < z57.heap.size := by rw [hz]; simp
            have C24_0 : z57.cell? ⟨z56.heap.size, 0, none⟩ = some (Value.string a) := by rw [hz]; simp
            clear hb hz
            refine wpAny_ready (rs := [25]) (by kernel_rfl) (by simp) ?_
            refine AllReady.cons rfl (fun K hK => ?_) AllReady.nil
            go_simp
            go_wp2_with (go_at_call 28; refine (crc_sum1 _ a _ N24 ha C24_0).mono ?_; rintro e z58 ⟨rfl, hb⟩)
            (first | (refine hK _ _ ?_; clear hK K) | skip)
            replace C1_0 := (hb.cell (p := ⟨z0.heap.size, 0, none⟩) N1).trans C1_0
            replace N1 := Nat.lt_of_lt_of_le N1 hb.size
            replace C7_0 := (hb.cell (p := ⟨z1.heap.size, 0, none⟩) N7).trans C7_0
            replace C7_1 := (hb.cell (p := ⟨z1.heap.size, 1, none⟩) N7).trans C7_1
            replace N7 := Nat.lt_of_lt_of_le N7 hb.size
            replace C13_0 := (hb.cell (p := ⟨z52.heap.size, 0, none⟩) N13).trans C13_0
            replace C13_1 := (hb.cell (p := ⟨z52.heap.size, 1, none⟩) N13).trans C13_1
            replace N13 := Nat.lt_of_lt_of_le N13 hb.size
            replace C18_0 := (hb.cell (p := ⟨z54.heap.size, 0, none⟩) N18).trans C18_0
            replace N18 := Nat.lt_of_lt_of_le N18 hb.size
            replace C24_0 := (hb.cell (p := ⟨z56.heap.size, 0, none⟩) N24).trans C24_0
            replace N24 := Nat.lt_of_lt_of_le N24 hb.size
            replace Bc := Bc.trans (hb.mono Bc.size)
            clear hb
            refine wpAny_ready (rs := [26]) (by kernel_rfl) (by simp) ?_
            refine AllReady.cons rfl (fun K hK => ?_) AllReady.nil
            go_simp
            go_wp2_with (go_at_call 32; refine (crc_bytes _ _).mono ?_; rintro e z59 ⟨rfl, hb⟩)
            (first | (refine hK _ _ ?_; clear hK K) | skip)
            replace C1_0 := (hb.cell (p := ⟨z0.heap.size, 0, none⟩) N1).trans C1_0
            replace N1 := Nat.lt_of_lt_of_le N1 hb.size
            replace C7_0 := (hb.cell (p := ⟨z1.heap.size, 0, none⟩) N7).trans C7_0
            replace C7_1 := (hb.cell (p := ⟨z1.heap.size, 1, none⟩) N7).trans C7_1
            replace N7 := Nat.lt_of_lt_of_le N7 hb.size
            replace C13_0 := (hb.cell (p := ⟨z52.heap.size, 0, none⟩) N13).trans C13_0
            replace C13_1 := (hb.cell (p := ⟨z52.heap.size, 1, none⟩) N13).trans C13_1
            replace N13 := Nat.lt_of_lt_of_le N13 hb.size
            replace C18_0 := (hb.cell (p := ⟨z54.heap.size, 0, none⟩) N18).trans C18_0
            replace N18 := Nat.lt_of_lt_of_le N18 hb.size
            replace C24_0 := (hb.cell (p := ⟨z56.heap.size, 0, none⟩) N24).trans C24_0
            replace N24 := Nat.lt_of_lt_of_le N24 hb.size
            replace Bc := Bc.trans (hb.mono Bc.size)
            clear hb
            rw [← E2.out]
            refine wpAny_take (i := 31) (v := ?_) rfl (by kernel_rfl) (by kernel_rfl) (by kernel_rfl) (fun _ _ _ h => h) (Or.inl ⟨by kernel_rfl, ?_⟩) ?_
            rotate_left
            · intro w; go_simp; with_reducible rfl
            refine wpAny_take (i := 32) (v := ?_) rfl (by kernel_rfl) (by kernel_rfl) (by kernel_rfl) (fun _ _ _ h => h) (Or.inl ⟨by kernel_rfl, ?_⟩) ?_
            rotate_left
            · intro w; go_simp; with_reducible rfl
            refine wpAny_take (i := 33) (v := ?_) rfl (by kernel_rfl) (by kernel_rfl) (by kernel_rfl) (fun _ _ _ h => h) (Or.inl ⟨by kernel_rfl, ?_⟩) ?_
            rotate_left
            · intro w; go_simp; with_reducible rfl
            refine wpAny_done (by kernel_rfl) ?_ _
            go_wp2
            go_ret
            exact ⟨rfl, Bc⟩
          · skip
            go_simp
            (first | (refine hK _ _ ?_; clear hK K) | skip)
            obtain ⟨z60, hz⟩ : ∃ x, x = z53.alloc (Obj.cells #[Value.string (a ++ b)] 9) := ⟨_, rfl⟩
            rw [← hz]
            have hb : Below z53.heap.size z53 z60 := by rw [hz]; exact Kq.below_alloc _ _
            replace C1_0 := (hb.cell (p := ⟨z0.heap.size, 0, none⟩) N1).trans C1_0
            replace N1 := Nat.lt_of_lt_of_le N1 hb.size
            replace C7_0 := (hb.cell (p := ⟨z1.heap.size, 0, none⟩) N7).trans C7_0
            replace C7_1 := (hb.cell (p := ⟨z1.heap.size, 1, none⟩) N7).trans C7_1
            replace N7 := Nat.lt_of_lt_of_le N7 hb.size
            replace C13_0 := (hb.cell (p := ⟨z52.heap.size, 0, none⟩) N13).trans C13_0
            replace C13_1 := (hb.cell (p := ⟨z52.heap.size, 1, none⟩) N13).trans C13_1
            replace N13 := Nat.lt_of_lt_of_le N13 hb.size
            replace Bc := Bc.trans (hb.mono Bc.size)
            have N18 : z53.heap.size < z60.heap.size := by rw [hz]; simp
            have C18_0 : z60.cell? ⟨z53.heap.size, 0, none⟩ = some (Value.string (a ++ b)) := by rw [hz]; simp
            clear hb hz
            refine wpAny_ready (rs := [14]) (by kernel_rfl) (by simp) ?_
            refine AllReady.cons rfl (fun K hK => ?_) AllReady.nil
            go_simp
            go_wp2_with (go_at_call 28; refine (crc_sum2 _ a b _ N13 ha hb C13_0 C13_1).mono ?_; rintro e z61 ⟨rfl, hb⟩)
            (first | (refine hK _ _ ?_; clear hK K) | skip)
            replace C1_0 := (hb.cell (p := ⟨z0.heap.size, 0, none⟩) N1).trans C1_0
            replace N1 := Nat.lt_of_lt_of_le N1 hb.size
            replace C7_0 := (hb.cell (p := ⟨z1.heap.size, 0, none⟩) N7).trans C7_0
            replace C7_1 := (hb.cell (p := ⟨z1.heap.size, 1, none⟩) N7).trans C7_1
            replace N7 := Nat.lt_of_lt_of_le N7 hb.size
            replace C13_0 := (hb.cell (p := ⟨z52.heap.size, 0, none⟩) N13).trans C13_0
            replace C13_1 := (hb.cell (p := ⟨z52.heap.size, 1, none⟩) N13).trans C13_1
            replace N13 := Nat.lt_of_lt_of_le N13 hb.size
            replace C18_0 := (hb.cell (p := ⟨z53.heap.size, 0, none⟩) N18).trans C18_0
            replace N18 := Nat.lt_of_lt_of_le N18 hb.size
            replace Bc := Bc.trans (hb.mono Bc.size)
            clear hb
            refine wpAny_ready (rs := [19]) (by kernel_rfl) (by simp) ?_
            refine AllReady.cons rfl (fun K hK => ?_) AllReady.nil
            go_simp
            go_wp2_with (go_at_call 28; refine (crc_sum1 _ (a ++ b) _ N18 hab C18_0).mono ?_; rintro e z62 ⟨rfl, hb⟩)
            (first | (refine hK _ _ ?_; clear hK K) | skip)
            replace C1_0 := (hb.cell (p := ⟨z0.heap.size, 0, none⟩) N1).trans C1_0
            replace N1 := Nat.lt_of_lt_of_le N1 hb.size
            replace C7_0 := (hb.cell (p := ⟨z1.heap.size, 0, none⟩) N7).trans C7_0
            replace C7_1 := (hb.cell (p := ⟨z1.heap.size, 1, none⟩) N7).trans C7_1
            replace N7 := Nat.lt_of_lt_of_le N7 hb.size
            replace C13_0 := (hb.cell (p := ⟨z52.heap.size, 0, none⟩) N13).trans C13_0
            replace C13_1 := (hb.cell (p := ⟨z52.heap.size, 1, none⟩) N13).trans C13_1
            replace N13 := Nat.lt_of_lt_of_le N13 hb.size
            replace C18_0 := (hb.cell (p := ⟨z53.heap.size, 0, none⟩) N18).trans C18_0
            replace N18 := Nat.lt_of_lt_of_le N18 hb.size
            replace Bc := Bc.trans (hb.mono Bc.size)
            clear hb
            rw [E1.out]
            generalize CrcM.upd (CrcM.upd 0 (nl a)) (nl b) = X2
            refine wpAny_take (i := 20) (v := ?_) rfl (by kernel_rfl) (by kernel_rfl) (by kernel_rfl) (fun _ _ _ h => h) (Or.inl ⟨by kernel_rfl, ?_⟩) ?_
            rotate_left
            · intro w; go_simp; with_reducible rfl
            refine wpAny_take (i := 21) (v := ?_) rfl (by kernel_rfl) (by kernel_rfl) (by kernel_rfl) (fun _ _ _ h => h) (Or.inl ⟨by kernel_rfl, ?_⟩) ?_
            rotate_left
            · intro w; go_simp; with_reducible rfl
            refine wpAny_take (i := 22) (v := ?_) rfl (by kernel_rfl) (by kernel_rfl) (by kernel_rfl) (fun _ _ _ h => h) (Or.inl ⟨by kernel_rfl, ?_⟩) ?_
            rotate_left
            · intro w; go_simp; with_reducible rfl
            refine wpAny_take (i := 23) (v := ?_) rfl (by kernel_rfl) (by kernel_rfl) (by kernel_rfl) (fun _ _ _ h => h) (Or.inl ⟨by kernel_rfl, ?_⟩) ?_
            rotate_left
            · intro w; go_simp; with_reducible rfl
            refine wpAny_take (i := 27) (v := ?_) rfl (by kernel_rfl) (by kernel_rfl) (by kernel_rfl) (fun _ _ _ h => h) (Or.inl ⟨by kernel_rfl, ?_⟩) ?_
            rotate_left
            · intro w; go_simp; with_reducible rfl
            refine wpAny_take (i := 28) (v := ?_) rfl (by kernel_rfl) (by kernel_rfl) (by kernel_rfl) (fun _ _ _ h => h) (Or.inl ⟨by kernel_rfl, ?_⟩) ?_
            rotate_left
            · intro w; go_simp; with_reducible rfl
            refine wpAny_take (i := 29) (v := ?_) rfl (by kernel_rfl) (by kernel_rfl) (by kernel_rfl) (fun _ _ _ h => h) (Or.inl ⟨by kernel_rfl, ?_⟩) ?_
            rotate_left
            · intro w; go_simp; with_reducible rfl
            refine wpAny_take (i := 30) (v := ?_) rfl (by kernel_rfl) (by kernel_rfl) (by kernel_rfl) (fun _ _ _ h => h) (Or.inl ⟨by kernel_rfl, ?_⟩) ?_
            rotate_left
            · intro w; go_simp; with_reducible rfl
            refine wpAny_ready (rs := [24]) (by kernel_rfl) (by simp) ?_
            refine AllReady.cons rfl (fun K hK => ?_) AllReady.nil
            go_simp
            (first | (refine hK _ _ ?_; clear hK K) | skip)
            obtain ⟨z63, hz⟩ : ∃ x, x = z62.alloc (Obj.cells #[Value.string a] 9) := ⟨_, rfl⟩
            rw [← hz]
            have hb : Below z62.heap.size z62 z63 := by rw [hz]; exact Kq.below_alloc _ _
            replace C1_0 := (hb.cell (p := ⟨z0.heap.size, 0, none⟩) N1).trans C1_0
            replace N1 := Nat.lt_of_lt_of_le N1 hb.size
            replace C7_0 := (hb.cell (p := ⟨z1.heap.size, 0, none⟩) N7).trans C7_0
            replace C7_1 := (hb.cell (p := ⟨z1.heap.size, 1, none⟩) N7).trans C7_1
            replace N7 := Nat.lt_of_lt_of_le N7 hb.size
            replace C13_0 := (hb.cell (p := ⟨z52.heap.size, 0, none⟩) N13).trans C13_0
            replace C13_1 := (hb.cell (p := ⟨z52.heap.size, 1, none⟩) N13).trans C13_1
            replace N13 := Nat.lt_of_lt_of_le N13 hb.size
            replace C18_0 := (hb.cell (p := ⟨z53.heap.size, 0, none⟩) N18).trans C18_0
            replace N18 := Nat.lt_of_lt_of_le N18 hb.size
            replace Bc := Bc.trans (hb.mono Bc.size)
            have N24 : z62.heap.size < z63.heap.size := by rw [hz]; simp
            have C24_0 : z63.cell? ⟨z62.heap.size, 0, none⟩ = some (Value.string a) := by rw [hz]; simp
            clear hb hz
            refine wpAny_ready (rs := [25]) (by kernel_rfl) (by simp) ?_
            refine AllReady.cons rfl (fun K hK => ?_) AllReady.nil
            go_simp
            go_wp2_with (go_at_call 28; refine (crc_sum1 _ a _ N24 ha C24_0).mono ?_; rintro e z64 ⟨rfl, hb⟩)
            (first | (refine hK _ _ ?_; clear hK K) | skip)
            replace C1_0 := (hb.cell (p := ⟨z0.heap.size, 0, none⟩) N1).trans C1_0
            replace N1 := Nat.lt_of_lt_of_le N1 hb.size
            replace C7_0 := (hb.cell (p := ⟨z1.heap.size, 0, none⟩) N7).trans C7_0
            replace C7_1 := (hb.cell (p := ⟨z1.heap.size, 1, none⟩) N7).trans C7_1
            replace N7 := Nat.lt_of_lt_of_le N7 hb.size
            replace C13_0 := (hb.cell (p := ⟨z52.heap.size, 0, none⟩) N13).trans C13_0
            replace C13_1 := (hb.cell (p := ⟨z52.heap.size, 1, none⟩) N13).trans C13_1
            replace N13 := Nat.lt_of_lt_of_le N13 hb.size
            replace C18_0 := (hb.cell (p := ⟨z53.heap.size, 0, none⟩) N18).trans C18_0
            replace N18 := Nat.lt_of_lt_of_le N18 hb.size
            replace C24_0 := (hb.cell (p := ⟨z62.heap.size, 0, none⟩) N24).trans C24_0
            replace N24 := Nat.lt_of_lt_of_le N24 hb.size
            replace Bc := Bc.trans (hb.mono Bc.size)
            clear hb
            refine wpAny_ready (rs := [26]) (by kernel_rfl) (by simp) ?_
            refine AllReady.cons rfl (fun K hK => ?_) AllReady.nil
            go_simp
            go_wp2_with (go_at_call 32; refine (crc_bytes _ _).mono ?_; rintro e z65 ⟨rfl, hb⟩)
            (first | (refine hK _ _ ?_; clear hK K) | skip)
            replace C1_0 := (hb.cell (p := ⟨z0.heap.size, 0, none⟩) N1).trans C1_0
            replace N1 := Nat.lt_of_lt_of_le N1 hb.size
            replace C7_0 := (hb.cell (p := ⟨z1.heap.size, 0, none⟩) N7).trans C7_0
            replace C7_1 := (hb.cell (p := ⟨z1.heap.size, 1, none⟩) N7).trans C7_1
            replace N7 := Nat.lt_of_lt_of_le N7 hb.size
            replace C13_0 := (hb.cell (p := ⟨z52.heap.size, 0, none⟩) N13).trans C13_0
            replace C13_1 := (hb.cell (p := ⟨z52.heap.size, 1, none⟩) N13).trans C13_1
            replace N13 := Nat.lt_of_lt_of_le N13 hb.size
            replace C18_0 := (hb.cell (p := ⟨z53.heap.size, 0, none⟩) N18).trans C18_0
            replace N18 := Nat.lt_of_lt_of_le N18 hb.size
            replace C24_0 := (hb.cell (p := ⟨z62.heap.size, 0, none⟩) N24).trans C24_0
            replace N24 := Nat.lt_of_lt_of_le N24 hb.size
            replace Bc := Bc.trans (hb.mono Bc.size)
            clear hb
            rw [← E2.out]
            refine wpAny_take (i := 31) (v := ?_) rfl (by kernel_rfl) (by kernel_rfl) (by kernel_rfl) (fun _ _ _ h => h) (Or.inl ⟨by kernel_rfl, ?_⟩) ?_
            rotate_left
            · intro w; go_simp; with_reducible rfl
            refine wpAny_take (i := 32) (v := ?_) rfl (by kernel_rfl) (by kernel_rfl) (by kernel_rfl) (fun _ _ _ h => h) (Or.inl ⟨by kernel_rfl, ?_⟩) ?_
            rotate_left
            · intro w; go_simp; with_reducible rfl
            refine wpAny_take (i := 33) (v := ?_) rfl (by kernel_rfl) (by kernel_rfl) (by kernel_rfl) (fun _ _ _ h => h) (Or.inl ⟨by kernel_rfl, ?_⟩) ?_
            rotate_left
            · intro w; go_simp; with_reducible rfl
            refine wpAny_done (by kernel_rfl) ?_ _
            go_wp2
            go_ret
            exact ⟨rfl, Bc⟩
        · skip
          go_simp
          (first | (refine hK _ _ ?_; clear hK K) | skip)
          obtain ⟨z66, hz⟩ : ∃ x, x = z52.alloc (Obj.cells #[Value.string (a ++ b)] 9) := ⟨_, rfl⟩
          rw [← hz]
          have hb : Below z52.heap.size z52 z66 := by rw [hz]; exact Kq.below_alloc _ _
          replace C1_0 := (hb.cell (p := ⟨z0.heap.size, 0, none⟩) N1).trans C1_0
          replace N1 := Nat.lt_of_lt_of_le N1 hb.size
          replace C7_0 := (hb.cell (p := ⟨z1.heap.size, 0, none⟩) N7).trans C7_0
          replace C7_1 := (hb.cell (p := ⟨z1.heap.size, 1, none⟩) N7).trans C7_1
          replace N7 := Nat.lt_of_lt_of_le N7 hb.size
          replace Bc := Bc.trans (hb.mono Bc.size)
          have N18 : z52.heap.size < z66.heap.size := by rw [hz]; simp
          have C18_0 : z66.cell? ⟨z52.heap.size, 0, none⟩ = some (Value.string (a ++ b)) := by rw [hz]; simp
          clear hb hz
          refine wpAny_ready (rs := [13]) (by kernel_rfl) (by simp) ?_
          refine AllReady.cons rfl (fun K hK => ?_) AllReady.nil
          go_simp
          (first | (refine hK _ _ ?_; clear hK K) | skip)
          obtain ⟨z67, hz⟩ : ∃ x, x = z66.alloc (Obj.cells #[Value.string a, Value.string b] 9) := ⟨_, rfl⟩
          rw [← hz]
          have hb : Below z66.heap.size z66 z67 := by rw [hz]; exact Kq.below_alloc _ _
          replace C1_0 := (hb.cell (p := ⟨z0.heap.size, 0, none⟩) N1).trans C1_0
          replace N1 := Nat.lt_of_lt_of_le N1 hb.size
          replace C7_0 := (hb.cell (p := ⟨z1.heap.size, 0, none⟩) N7).trans C7_0
          replace C7_1 := (hb.cell (p := ⟨z1.heap.size, 1, none⟩) N7).trans C7_1
          replace N7 := Nat.lt_of_lt_of_le N7 hb.size
          replace C18_0 := (hb.cell (p := ⟨z52.heap.size, 0, none⟩) N18).trans C18_0
          replace N18 := Nat.lt_of_lt_of_le N18 hb.size
          replace Bc := Bc.trans (hb.mono Bc.size)
          have N13 : z66.heap.size < z67.heap.size := by rw [hz]; simp
          have C13_0 : z67.cell? ⟨z66.heap.size, 0, none⟩ = some (Value.string a) := by rw [hz]; simp
          have C13_1 : z67.cell? ⟨z66.heap.size, 1, none⟩ = some (Value.string b) := by rw [hz]; simp
          clear hb hz
          refine wpAny_ready (rs := [14]) (by kernel_rfl) (by simp) ?_
          refine AllReady.cons rfl (fun K hK => ?_) AllReady.nil
          go_simp
          go_wp2_with (go_at_call 28; refine (crc_sum2 _ a b _ N13 ha hb C13_0 C13_1).mono ?_; rintro e z68 ⟨rfl, hb⟩)
          (first | (refine hK _ _ ?_; clear hK K) | skip)
          replace C1_0 := (hb.cell (p := ⟨z0.heap.size, 0, none⟩) N1).trans C1_0
          replace N1 := Nat.lt_of_lt_of_le N1 hb.size
          replace C7_0 := (hb.cell (p := ⟨z1.heap.size, 0, none⟩) N7).trans C7_0
          replace C7_1 := (hb.cell (p := ⟨z1.heap.size, 1, none⟩) N7).trans C7_1
          replace N7 := Nat.lt_of_lt_of_le N7 hb.size
          replace C18_0 := (hb.cell (p := ⟨z52.heap.size, 0, none⟩) N18).trans C18_0
          replace N18 := Nat.lt_of_lt_of_le N18 hb.size
          replace C13_0 := (hb.cell (p := ⟨z66.heap.size, 0, none⟩) N13).trans C13_0
          replace C13_1 := (hb.cell (p := ⟨z66.heap.size, 1, none⟩) N13).trans C13_1
          replace N13 := Nat.lt_of_lt_of_le N13 hb.size
          replace Bc := Bc.trans (hb.mono Bc.size)
          clear hb
          refine wpAny_ready (rs := [19]) (by kernel_rfl) (by simp) ?_
          refine AllReady.cons rfl (fun K hK => ?_) AllReady.nil
          go_simp
          go_wp2_with (go_at_call 28; refine (crc_sum1 _ (a ++ b) _ N18 hab C18_0).mono ?_; rintro e z69 ⟨rfl, hb⟩)
          (first | (refine hK _ _ ?_; clear hK K) | skip)
          replace C1_0 := (hb.cell (p := ⟨z0.heap.size, 0, none⟩) N1).trans C1_0
          replace N1 := Nat.lt_of_lt_of_le N1 hb.size
          replace C7_0 := (hb.cell (p := ⟨z1.heap.size, 0, none⟩) N7).trans C7_0
          replace C7_1 := (hb.cell (p := ⟨z1.heap.size, 1, none⟩) N7).trans C7_1
          replace N7 := Nat.lt_of_lt_of_le N7 hb.size
          replace C18_0 := (hb.cell (p := ⟨z52.heap.size, 0, none⟩) N18).trans C18_0
          replace N18 := Nat.lt_of_lt_of_le N18 hb.size
          replace C13_0 := (hb.cell (p := ⟨z66.heap.size, 0, none⟩) N13).trans C13_0
          replace C13_1 := (hb.cell (p := ⟨z66.heap.size, 1, none⟩) N13).trans C13_1
          replace N13 := Nat.lt_of_lt_of_le N13 hb.size
          replace Bc := Bc.trans (hb.mono Bc.size)
          clear hb
          rw [E1.out]
          generalize CrcM.upd (CrcM.upd 0 (nl a)) (nl b) = X2
          refine wpAny_take (i := 20) (v := ?_) rfl (by kernel_rfl) (by kernel_rfl) (by kernel_rfl) (fun _ _ _ h => h) (Or.inl ⟨by kernel_rfl, ?_⟩) ?_
          rotate_left
          · intro w; go_simp; with_reducible rfl
          refine wpAny_take (i := 21) (v := ?_) rfl (by kernel_rfl) (by kernel_rfl) (by kernel_rfl) (fun _ _ _ h => h) (Or.inl ⟨by kernel_rfl, ?_⟩) ?_
          rotate_left
          · intro w; go_simp; with_reducible rfl
          refine wpAny_take (i := 22) (v := ?_) rfl (by kernel_rfl) (by kernel_rfl) (by kernel_rfl) (fun _ _ _ h => h) (Or.inl ⟨by kernel_rfl, ?_⟩) ?_
          rotate_left
          · intro w; go_simp; with_reducible rfl
          refine wpAny_take (i := 23) (v := ?_) rfl (by kernel_rfl) (by kernel_rfl) (by kernel_rfl) (fun _ _ _ h => h) (Or.inl ⟨by kernel_rfl, ?_⟩) ?_
          rotate_left
          · intro w; go_simp; with_reducible rfl
          refine wpAny_take (i := 27) (v := ?_) rfl (by kernel_rfl) (by kernel_rfl) (by kernel_rfl) (fun _ _ _ h => h) (Or.inl ⟨by kernel_rfl, ?_⟩) ?_
          rotate_left
          · intro w; go_simp; with_reducible rfl
          refine wpAny_take (i := 28) (v := ?_) rfl (by kernel_rfl) (by kernel_rfl) (by kernel_rfl) (fun _ _ _ h => h) (Or.inl ⟨by kernel_rfl, ?_⟩) ?_
          rotate_left
          · intro w; go_simp; with_reducible rfl
          refine wpAny_take (i := 29) (v := ?_) rfl (by kernel_rfl) (by kernel_rfl) (by kernel_rfl) (fun _ _ _ h => h) (Or.inl ⟨by kernel_rfl, ?_⟩) ?_
          rotate_left
          · intro w; go_simp; with_reducible rfl
          refine wpAny_take (i := 30) (v := ?_) rfl (by kernel_rfl) (by kernel_rfl) (by kernel_rfl) (fun _ _ _ h => h) (Or.inl ⟨by kernel_rfl, ?_⟩) ?_
          rotate_left
          · intro w; go_simp; with_reducible rfl
          refine wpAny_ready (rs := [24]) (by kernel_rfl) (by simp) ?_
          refine AllReady.cons rfl (fun K hK => ?_) AllReady.nil
          go_simp
          (first | (refine hK _ _ ?_; clear hK K) | skip)
          obtain ⟨z70, hz⟩ : ∃ x, x = z69.alloc (Obj.cells #[Value.string a] 9) := ⟨_, rfl⟩
          rw [← hz]
          have hb : Below z69.heap.size z69 z70 := by rw [hz]; exact Kq.below_alloc _ _
          replace C1_0 := (hb.cell (p := ⟨z0.heap.size, 0, none⟩) N1).trans C1_0
          replace N1 := Nat.lt_of_lt_of_le N1 hb.size
          replace C7_0 := (hb.cell (p := ⟨z1.heap.size, 0, none⟩) N7).trans C7_0
          replace C7_1 := (hb.cell (p := ⟨z1.heap.size, 1, none⟩) N7).trans C7_1
          replace N7 := Nat.lt_of_lt_of_le N7 hb.size
          replace C18_0 := (hb.cell (p := ⟨z52.heap.size, 0, none⟩) N18).trans C18_0
          replace N18 := Nat.lt_of_lt_of_le N18 hb.size
          replace C13_0 := (hb.cell (p := ⟨z66.heap.size, 0, none⟩) N13).trans C13_0
          replace C13_1 := (hb.cell (p := ⟨z66.heap.size, 1, none⟩) N13).trans C13_1
          replace N13 := Nat.lt_of_lt_of_le N13 hb.size
          replace Bc := Bc.trans (hb.mono Bc.size)
          have N24 : z69.heap.size < z70.heap.size := by rw [hz]; simp
          have C24_0 : z70.cell? ⟨z69.heap.size, 0, none⟩ = some (Value.string a) := by rw [hz]; simp
          clear hb hz
          refine wpAny_ready (rs := [25]) (by kernel_rfl) (by simp) ?_
          refine AllReady.cons rfl (fun K hK => ?_) AllReady.nil
          go_simp
          go_wp2_with (go_at_call 28; refine (crc_sum1 _ a _ N24 ha C24_0).mono ?_; rintro e z71 ⟨rfl, hb⟩)
          (first | (refine hK _ _ ?_; clear hK K) | skip)
          replace C1_0 := (hb.cell (p := ⟨z0.heap.size, 0, none⟩) N1).trans C1_0
          replace N1 := Nat.lt_of_lt_of_le N1 hb.size
          replace C7_0 := (hb.cell (p := ⟨z1.heap.size, 0, none⟩) N7).trans C7_0
          replace C7_1 := (hb.cell (p := ⟨z1.heap.size, 1, none⟩) N7).trans C7_1
          replace N7 := Nat.lt_of_lt_of_le N7 hb.size
          replace C18_0 := (hb.cell (p := ⟨z52.heap.size, 0, none⟩) N18).trans C18_0
          replace N18 := Nat.lt_of_lt_of_le N18 hb.size
          replace C13_0 := (hb.cell (p := ⟨z66.heap.size, 0, none⟩) N13).trans C13_0
          replace C13_1 := (hb.cell (p := ⟨z66.heap.size, 1, none⟩) N13).trans C13_1
          replace N13 := Nat.lt_of_lt_of_le N13 hb.size
          replace C24_0 := (hb.cell (p := ⟨z69.heap.size, 0, none⟩) N24).trans C24_0
          replace N24 := Nat.lt_of_lt_of_le N24 hb.size
          replace Bc := Bc.trans (hb.mono Bc.size)
          clear hb
          refine wpAny_ready (rs := [26]) (by kernel_rfl) (by simp) ?_
          refine AllReady.cons rfl (fun K hK => ?_) AllReady.nil
          go_simp
          go_wp2_with (go_at_call 32; refine (crc_bytes _ _).mono ?_; rintro e z72 ⟨rfl, hb⟩)
          (first | (refine hK _ _ ?_; clear hK K) | skip)
          replace C1_0 := (hb.cell (p := ⟨z0.heap.size, 0, none⟩) N1).trans C1_0
          replace N1 := Nat.lt_of_lt_of_le N1 hb.size
          replace C7_0 := (hb.cell (p := ⟨z1.heap.size, 0, none⟩) N7).trans C7_0
          replace C7_1 := (hb.cell (p := ⟨z1.heap.size, 1, none⟩) N7).trans C7_1
          replace N7 := Nat.lt_of_lt_of_le N7 hb.size
          replace C18_0 := (hb.cell (p := ⟨z52.heap.size, 0, none⟩) N18).trans C18_0
          replace N18 := Nat.lt_of_lt_of_le N18 hb.size
          replace C13_0 := (hb.cell (p := ⟨z66.heap.size, 0, none⟩) N13).trans C13_0
          replace C13_1 := (hb.cell (p := ⟨z66.heap.size, 1, none⟩) N13).trans C13_1
          replace N13 := Nat.lt_of_lt_of_le N13 hb.size
          replace C24_0 := (hb.cell (p := ⟨z69.heap.size, 0, none⟩) N24).trans C24_0
          replace N24 := Nat.lt_of_lt_of_le N24 hb.size
          replace Bc := Bc.trans (hb.mono Bc.size)
          clear hb
          rw [← E2.out]
          refine wpAny_take (i := 31) (v := ?_) rfl (by kernel_rfl) (by kernel_rfl) (by kernel_rfl) (fun _ _ _ h => h) (Or.inl ⟨by kernel_rfl, ?_⟩) ?_
          rotate_left
          · intro w; go_simp; with_reducible rfl
          refine wpAny_take (i := 32) (v := ?_) rfl (by kernel_rfl) (by kernel_rfl) (by kernel_rfl) (fun _ _ _ h => h) (Or.inl ⟨by kernel_rfl, ?_⟩) ?_
          rotate_left
          · intro w; go_simp; with_reducible rfl
          refine wpAny_take (i := 33) (v := ?_) rfl (by kernel_rfl) (by kernel_rfl) (by kernel_rfl) (fun _ _ _ h => h) (Or.inl ⟨by kernel_rfl, ?_⟩) ?_
          rotate_left
          · intro w; go_simp; with_reducible rfl
          refine wpAny_done (by kernel_rfl) ?_ _
          go_wp2
          go_ret
          exact ⟨rfl, Bc⟩
    · skip
      go_simp
      (first | (refine hK _ _ ?_; clear hK K) | skip)
      obtain ⟨z73, hz⟩ : ∃ x, x = z0.alloc (Obj.cells #[Value.string a, Value.string b] 9) := ⟨_, rfl⟩
      rw [← hz]
      have hb : Below z0.heap.size z0 z73 := by rw [hz]; exact Kq.below_alloc _ _
      replace Bc := Bc.trans (hb.mono Bc.size)
      have N7 : z0.heap.size < z73.heap.size := by rw [hz]; simp
      have C7_0 : z73.cell? ⟨z0.heap.size, 0, none⟩ = some (Value.string a) := by rw [hz]; simp
      have C7_1 : z73.cell? ⟨z0.heap.size, 1, none⟩ = some (Value.string b) := by rw [hz]; simp
      clear hb hz
      refine wpAny_ready (rs := [1]) (by kernel_rfl) (by simp) ?_
      refine AllReady.cons rfl (fun K hK => ?_) AllReady.nil
      go_simp
      (first | (refine hK _ _ ?_; clear hK K) | skip)
      obtain ⟨z74, hz⟩ : ∃ x, x = z73.alloc (Obj.cells #[Value.string a] 9) := ⟨_, rfl⟩
      rw [← hz]
      have hb : Below z73.heap.size z73 z74 := by rw [hz]; exact Kq.below_alloc _ _
      replace C7_0 := (hb.cell (p := ⟨z0.heap.size, 0, none⟩) N7).trans C7_0
      replace C7_1 := (hb.cell (p := ⟨z0.heap.size, 1, none⟩) N7).trans C7_1
      replace N7 := Nat.lt_of_lt_of_le N7 hb.size
      replace Bc := Bc.trans (hb.mono Bc.size)
      have N1 : z73.heap.size < z74.heap.size := by rw [hz]; simp
      have C1_0 : z74.cell? ⟨z73.heap.size, 0, none⟩ = some (Value.string a) := by rw [hz]; simp
      clear hb hz
      refine wpAny_ready (rs := [2]) (by kernel_rfl) (by simp) ?_
      refine AllReady.cons rfl (fun K hK => ?_) AllReady.nil
      go_simp
      go_wp2_with (go_at_call 28; refine (crc_sum1 _ a _ N1 ha C1_0).mono ?_; rintro e z75 ⟨rfl, hb⟩)
      (first | (refine hK _ _ ?_; clear hK K) | skip)
      replace C7_0 := (hb.cell (p := ⟨z0.heap.size, 0, none⟩) N7).trans C7_0
      replace C7_1 := (hb.cell (p := ⟨z0.heap.size, 1, none⟩) N7).trans C7_1
      replace N7 := Nat.lt_of_lt_of_le N7 hb.size
      replace C1_0 := (hb.cell (p := ⟨z73.heap.size, 0, none⟩) N1).trans C1_0
      replace N1 := Nat.lt_of_lt_of_le N1 hb.size
      replace Bc := Bc.trans (hb.mono Bc.size)
      clear hb
      refine wpAny_ready (rs := [4]) (by kernel_rfl) (by simp) ?_
      refine AllReady.cons rfl (fun K hK => ?_) AllReady.nil
      go_simp
      go_wp2_with (go_at_call 30; refine (crc_update _ b _ (CrcM.upd_lt _ _) hb).mono ?_; rintro e z76 ⟨rfl, hb⟩)
      (first | (refine hK _ _ ?_; clear hK K) | skip)
      replace C7_0 := (hb.cell (p := ⟨z0.heap.size, 0, none⟩) N7).trans C7_0
      replace C7_1 := (hb.cell (p := ⟨z0.heap.size, 1, none⟩) N7).trans C7_1
      replace N7 := Nat.lt_of_lt_of_le N7 hb.size
      replace C1_0 := (hb.cell (p := ⟨z73.heap.size, 0, none⟩) N1).trans C1_0
      replace N1 := Nat.lt_of_lt_of_le N1 hb.size
      replace Bc := Bc.trans (hb.mono Bc.size)
      clear hb
      refine wpAny_ready (rs := [8]) (by kernel_rfl) (by simp) ?_
      refine AllReady.cons rfl (fun K hK => ?_) AllReady.nil
      go_simp
      go_wp2_with (go_at_call 28; refine (crc_sum2 _ a b _ N7 ha hb C7_0 C7_1).mono ?_; rintro e z77 ⟨rfl, hb⟩)
      (first | (refine hK _ _ ?_; clear hK K) | skip)
      replace C7_0 := (hb.cell (p := ⟨z0.heap.size, 0, none⟩) N7).trans C7_0
      replace C7_1 := (hb.cell (p := ⟨z0.heap.size, 1, none⟩) N7).trans C7_1
      replace N7 := Nat.lt_of_lt_of_le N7 hb.size
      replace C1_0 := (hb.cell (p := ⟨z73.heap.size, 0, none⟩) N1).trans C1_0
      replace N1 := Nat.lt_of_lt_of_le N1 hb.size
      replace Bc := Bc.trans (hb.mono Bc.size)
      clear hb
      generalize CrcM.upd (CrcM.upd 0 (nl a)) (nl b) = X
      refine wpAny_take (i := 9) (v := ?_) rfl (by kernel_rfl) (by kernel_rfl) (by kernel_rfl) (fun _ _ _ h => h) (Or.inl ⟨by kernel_rfl, ?_⟩) ?_
      rotate_left
      · intro w; go_simp; with_reducible rfl
      refine wpAny_take (i := 10) (v := ?_) rfl (by kernel_rfl) (by kernel_rfl) (by kernel_rfl) (fun _ _ _ h => h) (Or.inl ⟨by kernel_rfl, ?_⟩) ?_
      rotate_left
      · intro w; go_simp; with_reducible rfl
      refine wpAny_take (i := 11) (v := ?_) rfl (by kernel_rfl) (by kernel_rfl) (by kernel_rfl) (fun _ _ _ h => h) (Or.inl ⟨by kernel_rfl, ?_⟩) ?_
      rotate_left
      · intro w; go_simp; with_reducible rfl
      refine wpAny_take (i := 12) (v := ?_) rfl (by kernel_rfl) (by kernel_rfl) (by kernel_rfl) (fun _ _ _ h => h) (Or.inl ⟨by kernel_rfl, ?_⟩) ?_
      rotate_left
      · intro w; go_simp; with_reducible rfl
      refine wpAny_take (i := 15) (v := ?_) rfl (by kernel_rfl) (by kernel_rfl) (by kernel_rfl) (fun _ _ _ h => h) (Or.inl ⟨by kernel_rfl, ?_⟩) ?_
      rotate_left
      · intro w; go_simp; with_reducible rfl
      refine wpAny_take (i := 16) (v := ?_) rfl (by kernel_rfl) (by kernel_rfl) (by kernel_rfl) (fun _ _ _ h => h) (Or.inl ⟨by kernel_rfl, ?_⟩) ?_
      rotate_left
      · intro w; go_simp; with_reducible rfl
      refine wpAny_take (i := 17) (v := ?_) rfl (by kernel_rfl) (by kernel_rfl) (by kernel_rfl) (fun _ _ _ h => h) (Or.inl ⟨by kernel_rfl, ?_⟩) ?_
      rotate_left
      · intro w; go_simp; with_reducible rfl
      refine wpAny_ready (rs := [13, 18]) (by kernel_rfl) (by simp) ?_
      refine (AllReady.cons rfl (fun K hK => ?_) (AllReady.cons rfl (fun K hK => ?_) AllReady.nil))
      · skip
        go_simp
        (first | (refine hK _ _ ?_; clear hK K) | skip)
        obtain ⟨z78, hz⟩ : ∃ x, x = z77.alloc (Obj.cells #[Value.string a, Value.string b] 9) := ⟨_, rfl⟩
        rw [← hz]
        have hb : Below z77.heap.size z77 z78 := by rw [hz]; exact Kq.below_alloc _ _
        replace C7_0 := (hb.cell (p := ⟨z0.heap.size, 0, none⟩) N7).trans C7_0
        replace C7_1 := (hb.cell (p := ⟨z0.heap.size, 1, none⟩) N7).trans C7_1
        replace N7 := Nat.lt_of_lt_of_le N7 hb.size
        replace C1_0 := (hb.cell (p := ⟨z73.heap.size, 0, none⟩) N1).trans C1_0
        replace N1 := Nat.lt_of_lt_of_le N1 hb.size
        replace Bc := Bc.trans (hb.mono Bc.size)
        have N13 : z77.heap.size < z78.heap.size := by rw [hz]; simp
        have C13_0 : z78.cell? ⟨z77.heap.size, 0, none⟩ = some (Value.string a) := by rw [hz]; simp
        have C13_1 : z78.cell? ⟨z77.heap.size, 1, none⟩ = some (Value.string b) := by rw [hz]; simp
        clear hb hz
        refine wpAny_ready (rs := [14, 18]) (by kernel_rfl) (by simp) ?_
        refine (AllReady.cons rfl (fun K hK => ?_) (AllReady.cons rfl (fun K hK => ?_) AllReady.nil))
        · skip
          go_simp
          go_wp2_with (go_at_call 28; refine (crc_sum2 _ a b _ N13 ha hb C13_0 C13_1).mono ?_; rintro e z79 ⟨rfl, hb⟩)
          (first | (refine hK _ _ ?_; clear hK K) | skip)
          replace C7_0 := (hb.cell (p := ⟨z0.heap.size, 0, none⟩) N7).trans C7_0
          replace C7_1 := (hb.cell (p := ⟨z0.heap.size, 1, none⟩) N7).trans C7_1
          replace N7 := Nat.lt_of_lt_of_le N7 hb.size
          replace C1_0 := (hb.cell (p := ⟨z73.heap.size, 0, none⟩) N1).trans C1_0
          replace N1 := Nat.lt_of_lt_of_le N1 hb.size
          replace C13_0 := (hb.cell (p := ⟨z77.heap.size, 0, none⟩) N13).trans C13_0
          replace C13_1 := (hb.cell (p := ⟨z77.heap.size, 1, none⟩) N13).trans C13_1
          replace N13 := Nat.lt_of_lt_of_le N13 hb.size
          replace Bc := Bc.trans (hb.mono Bc.size)
          clear hb
          refine wpAny_ready (rs := [18]) (by kernel_rfl) (by simp) ?_
          refine AllReady.cons rfl (fun K hK => ?_) AllReady.nil
          go_simp
          (first | (refine hK _ _ ?_; clear hK K) | skip)
          obtain ⟨z80, hz⟩ : ∃ x, x = z79.alloc (Obj.cells #[Value.string (a ++ b)] 9) := ⟨_, rfl⟩
          rw [← hz]
          have hb : Below z79.heap.size z79 z80 := by rw [hz]; exact Kq.below_alloc _ _
          replace C7_0 := (hb.cell (p := ⟨z0.heap.size, 0, none⟩) N7).trans C7_0
          replace C7_1 := (hb.cell (p := ⟨z0.heap.size, 1, none⟩) N7).trans C7_1
          replace N7 := Nat.lt_of_lt_of_le N7 hb.size
          replace C1_0 := (hb.cell (p := ⟨z73.heap.size, 0, none⟩) N1).trans C1_0
          replace N1 := Nat.lt_of_lt_of_le N1 hb.size
          replace C13_0 := (hb.cell (p := ⟨z77.heap.size, 0, none⟩) N13).trans C13_0
          replace C13_1 := (hb.cell (p := ⟨z77.heap.size, 1, none⟩) N13).trans C13_1
          replace N13 := Nat.lt_of_lt_of_le N13 hb.size
          replace Bc := Bc.trans (hb.mono Bc.size)
          have N18 : z79.heap.size < z80.heap.size := by rw [hz]; simp
          have C18_0 : z80.cell? ⟨z79.heap.size, 0, none⟩ = some (Value.string (a ++ b)) := by rw [hz]; simp
          clear hb hz
          refine wpAny_ready (rs := [19]) (by kernel_rfl) (by simp) ?_
          refine AllReady.cons rfl (fun K hK => ?_) AllReady.nil
          go_simp
          go_wp2_with (go_at_call 28; refine (crc_sum1 _ (a ++ b) _ N18 hab C18_0).mono ?_; rintro e z81 ⟨rfl, hb⟩)
          (first | (refine hK _ _ ?_; clear hK K) | skip)
          replace C7_0 := (hb.cell (p := ⟨z0.heap.size, 0, none⟩) N7).trans C7_0
          replace C7_1 := (hb.cell (p := ⟨z0.heap.size, 1, none⟩) N7).trans C7_1
          replace N7 := Nat.lt_of_lt_of_le N7 hb.size
          replace C1_0 := (hb.cell (p := ⟨z73.heap.size, 0, none⟩) N1).trans C1_0
          replace N1 := Nat.lt_of_lt_of_le N1 hb.size
          replace C13_0 := (hb.cell (p := ⟨z77.heap.size, 0, none⟩) N13).trans C13_0
          replace C13_1 := (hb.cell (p := ⟨z77.heap.size, 1, none⟩) N13).trans C13_1
          replace N13 := Nat.lt_of_lt_of_le N13 hb.size
          replace C18_0 := (hb.cell (p := ⟨z79.heap.size, 0, none⟩) N18).trans C18_0
          replace N18 := Nat.lt_of_lt_of_le N18 hb.size
          replace Bc := Bc.trans (hb.mono Bc.size)
          clear hb
          rw [E1.out]
          generalize CrcM.upd (CrcM.upd 0 (nl a)) (nl b) = X2
          refine wpAny_take (i := 20) (v := ?_) rfl (by kernel_rfl) (by kernel_rfl) (by kernel_rfl) (fun _ _ _ h => h) (Or.inl ⟨by kernel_rfl, ?_⟩) ?_
          rotate_left
          · intro w; go_simp; with_reducible rfl
          refine wpAny_take (i := 21) (v := ?_) rfl (by kernel_rfl) (by kernel_rfl) (by kernel_rfl) (fun _ _ _ h => h) (Or.inl ⟨by kernel_rfl, ?_⟩) ?_
          rotate_left
          · intro w; go_simp; with_reducible rfl
          refine wpAny_take (i := 22) (v := ?_) rfl (by kernel_rfl) (by kernel_rfl) (by kernel_rfl) (fun _ _ _ h => h) (Or.inl ⟨by kernel_rfl, ?_⟩) ?_
          rotate_left
          · intro w; go_simp; with_reducible rfl
          refine wpAny_take (i := 23) (v := ?_) rfl (by kernel_rfl) (by kernel_rfl) (by kernel_rfl) (fun _ _ _ h => h) (Or.inl ⟨by kernel_rfl, ?_⟩) ?_
          rotate_left
          · intro w; go_simp; with_reducible rfl
          refine wpAny_take (i := 27) (v := ?_) rfl (by kernel_rfl) (by kernel_rfl) (by kernel_rfl) (fun _ _ _ h => h) (Or.inl ⟨by kernel_rfl, ?_⟩) ?_
          rotate_left
          · intro w; go_simp; with_reducible rfl
          refine wpAny_take (i := 28) (v := ?_) rfl (by kernel_rfl) (by kernel_rfl) (by kernel_rfl) (fun _ _ _ h => h) (Or.inl ⟨by kernel_rfl, ?_⟩) ?_
          rotate_left
          · intro w; go_simp; with_reducible rfl
          refine wpAny_take (i := 29) (v := ?_) rfl (by kernel_rfl) (by kernel_rfl) (by kernel_rfl) (fun _ _ _ h => h) (Or.inl ⟨by kernel_rfl, ?_⟩) ?_
          rotate_left
          · intro w; go_simp; with_reducible rfl
          refine wpAny_take (i := 30) (v := ?_) rfl (by kernel_rfl) (by kernel_rfl) (by kernel_rfl) (fun _ _ _ h => h) (Or.inl ⟨by kernel_rfl, ?_⟩) ?_
          rotate_left
          · intro w; go_simp; with_reducible rfl
          refine wpAny_ready (rs := [24]) (by kernel_rfl) (by simp) ?_
          refine AllReady.cons rfl (fun K hK => ?_) AllReady.nil
          go_simp
          (first | (refine hK _ _ ?_; clear hK K) | skip)
          obtain ⟨z82, hz⟩ : ∃ x, x = z81.alloc (Obj.cells #[Value.string a] 9) := ⟨_, rfl⟩
          rw [← hz]
          have hb : Below z81.heap.size z81 z82 := by rw [hz]; exact Kq.below_alloc _ _
          replace C7_0 := (hb.cell (p := ⟨z0.heap.size, 0, none⟩) N7).trans C7_0
          replace C7_1 := (hb.cell (p := ⟨z0.heap.size, 1, none⟩) N7).trans C7_1
          replace N7 := Nat.lt_of_lt_of_le N7 hb.size
          replace C1_0 := (hb.cell (p := ⟨z73.heap.size, 0, none⟩) N1).trans C1_0
          replace N1 := Nat.lt_of_lt_of_le N1 hb.size
          replace C13_0 := (hb.cell (p := ⟨z77.heap.size, 0, none⟩) N13).trans C13_0
          replace C13_1 := (hb.cell (p := ⟨z77.heap.size, 1, none⟩) N13).trans C13_1
          replace N13 := Nat.lt_of_lt_of_le N13 hb.size
          replace C18_0 := (hb.cell (p := ⟨z79.heap.size, 0, none⟩) N18).trans C18_0
          replace N18 := Nat.lt_of_lt_of_le N18 hb.size
          replace Bc := Bc.trans (hb.mono Bc.size)
          have N24 : z81.heap.size < z82.heap.size := by rw [hz]; simp
          have C24_0 : z82.cell? ⟨z81.heap.size, 0, none⟩ = some (Value.string a) := by rw [hz]; simp
          clear hb hz
          refine wpAny_ready (rs := [25]) (by kernel_rfl) (by simp) ?_
          refine AllReady.cons rfl (fun K hK => ?_) AllReady.nil
          go_simp
          go_wp2_with (go_at_call 28; refine (crc_sum1 _ a _ N24 ha C24_0).mono ?_; rintro e z83 ⟨rfl, hb⟩)
          (first | (refine hK _ _ ?_; clear hK K) | skip)
          replace C7_0 := (hb.cell (p := ⟨z0.heap.size, 0, none⟩) N7).trans C7_0
          replace C7_1 := (hb.cell (p := ⟨z0.heap.size, 1, none⟩) N7).trans C7_1
          replace N7 := Nat.lt_of_lt_of_le N7 hb.size
          replace C1_0 := (hb.cell (p := ⟨z73.heap.size, 0, none⟩) N1).trans C1_0
          replace N1 := Nat.lt_of_lt_of_le N1 hb.size
          replace C13_0 := (hb.cell (p := ⟨z77.heap.size, 0, none⟩) N13).trans C13_0
          replace C13_1 := (hb.cell (p := ⟨z77.heap.size, 1, none⟩) N13).trans C13_1
          replace N13 := Nat.lt_of_lt_of_le N13 hb.size
          replace C18_0 := (hb.cell (p := ⟨z79.heap.size, 0, none⟩) N18).trans C18_0
          replace N18 := Nat.lt_of_lt_of_le N18 hb.size
          replace C24_0 := (hb.cell (p := ⟨z81.heap.size, 0, none⟩) N24).trans C24_0
          replace N24 := Nat.lt_of_lt_of_le N24 hb.size
          replace Bc := Bc.trans (hb.mono Bc.size)
          clear hb
          refine wpAny_ready (rs := [26]) (by kernel_rfl) (by simp) ?_
          refine AllReady.cons rfl (fun K hK => ?_) AllReady.nil
          go_simp
          go_wp2_with (go_at_call 32; refine (crc_bytes _ _).mono ?_; rintro e z84 ⟨rfl, hb⟩)
          (first | (refine hK _ _ ?_; clear hK K) | skip)
          replace C7_0 := (hb.cell (p := ⟨z0.heap.size, 0, none⟩) N7).trans C7_0
          replace C7_1 := (hb.cell (p := ⟨z0.heap.size, 1, none⟩) N7).trans C7_1
          replace N7 := Nat.lt_of_lt_of_le N7 hb.size
          replace C1_0 := (hb.cell (p := ⟨z73.heap.size, 0, none⟩) N1).trans C1_0
          replace N1 := Nat.lt_of_lt_of_le N1 hb.size
          replace C13_0 := (hb.cell (p := ⟨z77.heap.size, 0, none⟩) N13).trans C13_0
          replace C13_1 := (hb.cell (p := ⟨z77.heap.size, 1, none⟩) N13).trans C13_1
          replace N13 := Nat.lt_of_lt_of_le N13 hb.size
          replace C18_0 := (hb.cell (p := ⟨z79.heap.size, 0, none⟩) N18).trans C18_0
          replace N18 := Nat.lt_of_lt_of_le N18 hb.size
          replace C24_0 := (hb.cell (p := ⟨z81.heap.size, 0, none⟩) N24).trans C24_0
          replace N24 := Nat.lt_of_lt_of_le N24 hb.size
          replace Bc := Bc.trans (hb.mono Bc.size)
          clear hb
          rw [← E2.out]
          refine wpAny_take (i := 31) (v := ?_) rfl (by kernel_rfl) (by kernel_rfl) (by kernel_rfl) (fun _ _ _ h => h) (Or.inl ⟨by kernel_rfl, ?_⟩) ?_
          rotate_left
          · intro w; go_simp; with_reducible rfl
          refine wpAny_take (i := 32) (v := ?_) rfl (by kernel_rfl) (by kernel_rfl) (by kernel_rfl) (fun _ _ _ h => h) (Or.inl ⟨by kernel_rfl, ?_⟩) ?_
          rotate_left
          · intro w; go_simp; with_reducible rfl
          refine wpAny_take (i := 33) (v := ?_) rfl (by kernel_rfl) (by kernel_rfl) (by kernel_rfl) (fun _ _ _ h => h) (Or.inl ⟨by kernel_rfl, ?_⟩) ?_
          rotate_left
          · intro w; go_simp; with_reducible rfl
          refine wpAny_done (by kernel_rfl) ?_ _
          go_wp2
          go_ret
          exact ⟨rfl, Bc⟩
        · skip
          go_simp
          (first | (refine hK _ _ ?_; clear hK K) | skip)
          obtain ⟨z85, hz⟩ : ∃ x, x = z78.alloc (Obj.cells #[Value.string (a ++ b)] 9) := ⟨_, rfl⟩
          rw [← hz]
          have hb : Below z78.heap.size z78 z85 := by rw [hz]; exact Kq.below_alloc _ _
          replace C7_0 := (hb.cell (p := ⟨z0.heap.size, 0, none⟩) N7).trans C7_0
          replace C7_1 := (hb.cell (p := ⟨z0.heap.size, 1, none⟩) N7).trans C7_1
          replace N7 := Nat.lt_of_lt_of_le N7 hb.size
          replace C1_0 := (hb.cell (p := ⟨z73.heap.size, 0, none⟩) N1).trans C1_0
          replace N1 := Nat.lt_of_lt_of_le N1 hb.size
          replace C13_0 := (hb.cell (p := ⟨z77.heap.size, 0, none⟩) N13).trans C13_0
          replace C13_1 := (hb.cell (p := ⟨z77.heap.size, 1, none⟩) N13).trans C13_1
          replace N13 := Nat.lt_of_lt_of_le N13 hb.size
          replace Bc := Bc.trans (hb.mono Bc.size)
          have N18 : z78.heap.size < z85.heap.size := by rw [hz]; simp
          have C18_0 : z85.cell? ⟨z78.heap.size, 0, none⟩ = some (Value.string (a ++ b)) := by rw [hz]; simp
          clear hb hz
          refine wpAny_ready (rs := [14]) (by kernel_rfl) (by simp) ?_
          refine AllReady.cons rfl (fun K hK => ?_) AllReady.nil
          go_simp
          go_wp2_with (go_at_call 28; refine (crc_sum2 _ a b _ N13 ha hb C13_0 C13_1).mono ?_; rintro e z86 ⟨rfl, hb⟩)
          (first | (refine hK _ _ ?_; clear hK K) | skip)
          replace C7_0 := (hb.cell (p := ⟨z0.heap.size, 0, none⟩) N7).trans C7_0
          replace C7_1 := (hb.cell (p := ⟨z0.heap.size, 1, none⟩) N7).trans C7_1
          replace N7 := Nat.lt_of_lt_of_le N7 hb.size
          replace C1_0 := (hb.cell (p := ⟨z73.heap.size, 0, none⟩) N1).trans C1_0
          replace N1 := Nat.lt_of_lt_of_le N1 hb.size
          replace C13_0 := (hb.cell (p := ⟨z77.heap.size, 0, none⟩) N13).trans C13_0
          replace C13_1 := (hb.cell (p := ⟨z77.heap.size, 1, none⟩) N13).trans C13_1
          replace N13 := Nat.lt_of_lt_of_le N13 hb.size
          replace C18_0 := (hb.cell (p := ⟨z78.heap.size, 0, none⟩) N18).trans C18_0
          replace N18 := Nat.lt_of_lt_of_le N18 hb.size
          replace Bc := Bc.trans (hb.mono Bc.size)
          clear hb
          refine wpAny_ready (rs := [19]) (by kernel_rfl) (by simp) ?_
          refine AllReady.cons rfl (fun K hK => ?_) AllReady.nil
          go_simp
          go_wp2_with (go_at_call 28; refine (crc_sum1 _ (a ++ b) _ N18 hab C18_0).mono ?_; rintro e z87 ⟨rfl, hb⟩)
          (first | (refine hK _ _ ?_; clear hK K) | skip)
          replace C7_0 := (hb.cell (p := ⟨z0.heap.size, 0, none⟩) N7).trans C7_0
          replace C7_1 := (hb.cell (p := ⟨z0.heap.size, 1, none⟩) N7).trans C7_1
          replace N7 := Nat.lt_of_lt_of_le N7 hb.size
          replace C1_0 := (hb.cell (p := ⟨z73.heap.size, 0, none⟩) N1).trans C1_0
          replace N1 := Nat.lt_of_lt_of_le N1 hb.size
          replace C13_0 := (hb.cell (p := ⟨z77.heap.size, 0, none⟩) N13).trans C13_0
          replace C13_1 := (hb.cell (p := ⟨z77.heap.size, 1, none⟩) N13).trans C13_1
          replace N13 := Nat.lt_of_lt_of_le N13 hb.size
          replace C18_0 := (hb.cell (p := ⟨z78.heap.size, 0, none⟩) N18).trans C18_0
          replace N18 := Nat.lt_of_lt_of_le N18 hb.size
          replace Bc := Bc.trans (hb.mono Bc.size)
          clear hb
          rw [E1.out]
          generalize CrcM.upd (CrcM.upd 0 (nl a)) (nl b) = X2
          refine wpAny_take (i := 20) (v := ?_) rfl (by kernel_rfl) (by kernel_rfl) (by kernel_rfl) (fun _ _ _ h => h) (Or.inl ⟨by kernel_rfl, ?_⟩) ?_
          rotate_left
          · intro w; go_simp; with_reducible rfl
          refine wpAny_take (i := 21) (v := ?_) rfl (by kernel_rfl) (by kernel_rfl) (by kernel_rfl) (fun _ _ _ h => h) (Or.inl ⟨by kernel_rfl, ?_⟩) ?_
          rotate_left
          · intro w; go_simp; with_reducible rfl
          refine wpAny_take (i := 22) (v := ?_) rfl (by kernel_rfl) (by kernel_rfl) (by kernel_rfl) (fun _ _ _ h => h) (Or.inl ⟨by kernel_rfl, ?_⟩) ?_
          rotate_left
          · intro w; go_simp; with_reducible rfl
          refine wpAny_take (i := 23) (v := ?_) rfl (by kernel_rfl) (by kernel_rfl) (by kernel_rfl) (fun _ _ _ h => h) (Or.inl ⟨by kernel_rfl, ?_⟩) ?_
          rotate_left
          · intro w; go_simp; with_reducible rfl
          refine wpAny_take (i := 27) (v := ?_) rfl (by kernel_rfl) (by kernel_rfl) (by kernel_rfl) (fun _ _ _ h => h) (Or.inl ⟨by kernel_rfl, ?_⟩) ?_
          rotate_left
          · intro w; go_simp; with_reducible rfl
          refine wpAny_take (i := 28) (v := ?_) rfl (by kernel_rfl) (by kernel_rfl) (by kernel_rfl) (fun _ _ _ h => h) (Or.inl ⟨by kernel_rfl, ?_⟩) ?_
          rotate_left
          · intro w; go_simp; with_reducible rfl
          refine wpAny_take (i := 29) (v := ?_) rfl (by kernel_rfl) (by kernel_rfl) (by kernel_rfl) (fun _ _ _ h => h) (Or.inl ⟨by kernel_rfl, ?_⟩) ?_
          rotate_left
          · intro w; go_simp; with_reducible rfl
          refine wpAny_take (i := 30) (v := ?_) rfl (by kernel_rfl) (by kernel_rfl) (by kernel_rfl) (fun _ _ _ h => h) (Or.inl ⟨by kernel_rfl, ?_⟩) ?_
          rotate_left
          · intro w; go_simp; with_reducible rfl
          refine wpAny_ready (rs := [24]) (by kernel_rfl) (by simp) ?_
          refine AllReady.cons rfl (fun K hK => ?_) AllReady.nil
          go_simp
          (first | (refine hK _ _ ?_; clear hK K) | skip)
          obtain ⟨z88, hz⟩ : ∃ x, x = z87.alloc (Obj.cells #[Value.string a] 9) := ⟨_, rfl⟩
          rw [← hz]
          have hb : Below z87.heap.size z87 z88 := by rw [hz]; exact Kq.below_alloc _ _
          replace C7_0 := (hb.cell (p := ⟨z0.heap.size, 0, none⟩) N7).trans C7_0
          replace C7_1 := (hb.cell (p := ⟨z0.heap.size, 1, none⟩) N7).trans C7_1
          replace N7 := Nat.lt_of_lt_of_le N7 hb.size
          replace C1_0 := (hb.cell (p := ⟨z73.heap.size, 0, none⟩) N1).trans C1_0
          replace N1 := Nat.lt_of_lt_of_le N1 hb.size
          replace C13_0 := (hb.cell (p := ⟨z77.heap.size, 0, none⟩) N13).trans C13_0
          replace C13_1 := (hb.cell (p := ⟨z77.heap.size, 1, none⟩) N13).trans C13_1
          replace N13 := Nat.lt_of_lt_of_le N13 hb.size
          replace C18_0 := (hb.cell (p := ⟨z78.heap.size, 0, none⟩) N18).trans C18_0
          replace N18 := Nat.lt_of_lt_of_le N18 hb.size
          replace Bc := Bc.trans (hb.mono Bc.size)
          have N24 : z87.heap.size < z88.heap.size := by rw [hz]; simp
          have C24_0 : z88.cell? ⟨z87.heap.size, 0, none⟩ = some (Value.string a) := by rw [hz]; simp
          clear hb hz
          refine wpAny_ready (rs := [25]) (by kernel_rfl) (by simp) ?_
          refine AllReady.cons rfl (fun K hK => ?_) AllReady.nil
          go_simp
          go_wp2_with (go_at_call 28; refine (crc_sum1 _ a _ N24 ha C24_0).mono ?_; rintro e z89 ⟨rfl, hb⟩)
          (first | (refine hK _ _ ?_; clear hK K) | skip)
          replace C7_0 := (hb.cell (p := ⟨z0.heap.size, 0, none⟩) N7).trans C7_0
          replace C7_1 := (hb.cell (p := ⟨z0.heap.size, 1, none⟩) N7).trans C7_1
          replace N7 := Nat.lt_of_lt_of_le N7 hb.size
          replace C1_0 := (hb.cell (p := ⟨z73.heap.size, 0, none⟩) N1).trans C1_0
          replace N1 := Nat.lt_of_lt_of_le N1 hb.size
          replace C13_0 := (hb.cell (p := ⟨z77.heap.size, 0, none⟩) N13).trans C13_0
          replace C13_1 := (hb.cell (p := ⟨z77.heap.size, 1, none⟩) N13).trans C13_1
          replace N13 := Nat.lt_of_lt_of_le N13 hb.size
          replace C18_0 := (hb.cell (p := ⟨z78.heap.size, 0, none⟩) N18).trans C18_0
          replace N18 := Nat.lt_of_lt_of_le N18 hb.size
          replace C24_0 := (hb.cell (p := ⟨z87.heap.size, 0, none⟩) N24).trans C24_0
          replace N24 := Nat.lt_of_lt_of_le N24 hb.size
          replace Bc := Bc.trans (hb.mono Bc.size)
          clear hb
          refine wpAny_ready (rs := [26]) (by kernel_rfl) (by simp) ?_
          refine AllReady.cons rfl (fun K hK => ?_) AllReady.nil
          go_simp
          go_wp2_with (go_at_call 32; refine (crc_bytes _ _).mono ?_; rintro e z90 ⟨rfl, hb⟩)
          (first | (refine hK _ _ ?_; clear hK K) | skip)
          replace C7_0 := (hb.cell (p := ⟨z0.heap.size, 0, none⟩) N7).trans C7_0
          replace C7_1 := (hb.cell (p := ⟨z0.heap.size, 1, none⟩) N7).trans C7_1
          replace N7 := Nat.lt_of_lt_of_le N7 hb.size
          replace C1_0 := (hb.cell (p := ⟨z73.heap.size, 0, none⟩) N1).trans C1_0
          replace N1 := Nat.lt_of_lt_of_le N1 hb.size
          replace C13_0 := (hb.cell (p := ⟨z77.heap.size, 0, none⟩) N13).trans C13_0
          replace C13_1 := (hb.cell (p := ⟨z77.heap.size, 1, none⟩) N13).trans C13_1
          replace N13 := Nat.lt_of_lt_of_le N13 hb.size
          replace C18_0 := (hb.cell (p := ⟨z78.heap.size, 0, none⟩) N18).trans C18_0
          replace N18 := Nat.lt_of_lt_of_le N18 hb.size
          replace C24_0 := (hb.cell (p := ⟨z87.heap.size, 0, none⟩) N24).trans C24_0
          replace N24 := Nat.lt_of_lt_of_le N24 hb.size
          replace Bc := Bc.trans (hb.mono Bc.size)
          clear hb
          rw [← E2.out]
          refine wpAny_take (i := 31) (v := ?_) rfl (by kernel_rfl) (by kernel_rfl) (by kernel_rfl) (fun _ _ _ h => h) (Or.inl ⟨by kernel_rfl, ?_⟩) ?_
          rotate_left
          · intro w; go_simp; with_reducible rfl
          refine wpAny_take (i := 32) (v := ?_) rfl (by kernel_rfl) (by kernel_rfl) (by kernel_rfl) (fun _ _ _ h => h) (Or.inl ⟨by kernel_rfl, ?_⟩) ?_
          rotate_left
          · intro w; go_simp; with_reducible rfl
          refine wpAny_take (i := 33) (v := ?_) rfl (by kernel_rfl) (by kernel_rfl) (by kernel_rfl) (fun _ _ _ h => h) (Or.inl ⟨by kernel_rfl, ?_⟩) ?_
          rotate_left
          · intro w; go_simp; with_reducible rfl
          refine wpAny_done (by kernel_rfl) ?_ _
          go_wp2
          go_ret
          exact ⟨rfl, Bc⟩
      · skip
        go_simp
        (first | (refine hK _ _ ?_; clear hK K) | skip)
        obtain ⟨z91, hz⟩ : ∃ x, x = z77.alloc (Obj.cells #[Value.string (a ++ b)] 9) := ⟨_, rfl⟩
        rw [← hz]
        have hb : Below z77.heap.size z77 z91 := by rw [hz]; exact Kq.below_alloc _ _
        replace C7_0 := (hb.cell (p := ⟨z0.heap.size, 0, none⟩) N7).trans C7_0
        replace C7_1 := (hb.cell (p := ⟨z0.heap.size, 1, none⟩) N7).trans C7_1
        replace N7 := Nat.lt_of_lt_of_le N7 hb.size
        replace C1_0 := (hb.cell (p := ⟨z73.heap.size, 0, none⟩) N1).trans C1_0
        replace N1 := Nat.lt_of_lt_of_le N1 hb.size
        replace Bc := Bc.trans (hb.mono Bc.size)
        have N18 : z77.heap.size < z91.heap.size := by rw [hz]; simp
        have C18_0 : z91.cell? ⟨z77.heap.size, 0, none⟩ = some (Value.string (a ++ b)) := by rw [hz]; simp
        clear hb hz
        refine wpAny_ready (rs := [13]) (by kernel_rfl) (by simp) ?_
        refine AllReady.cons rfl (fun K hK => ?_) AllReady.nil
        go_simp
        (first | (refine hK _ _ ?_; clear hK K) | skip)
        obtain ⟨z92, hz⟩ : ∃ x, x = z91.alloc (Obj.cells #[Value.string a, Value.string b] 9) := ⟨_, rfl⟩
        rw [← hz]
        have hb : Below z91.heap.size z91 z92 := by rw [hz]; exact Kq.below_alloc _ _
        replace C7_0 := (hb.cell (p := ⟨z0.heap.size, 0, none⟩) N7).trans C7_0
        replace C7_1 := (hb.cell (p := ⟨z0.heap.size, 1, none⟩) N7).trans C7_1
        replace N7 := Nat.lt_of_lt_of_le N7 hb.size
        replace C1_0 := (hb.cell (p := ⟨z73.heap.size, 0, none⟩) N1).trans C1_0
        replace N1 := Nat.lt_of_lt_of_le N1 hb.size
        replace C18_0 := (hb.cell (p := ⟨z77.heap.size, 0, none⟩) N18).trans C18_0
        replace N18 := Nat.lt_of_lt_of_le N18 hb.size
        replace Bc := Bc.trans (hb.mono Bc.size)
        have N13 : z91.heap.size < z92.heap.size := by rw [hz]; simp
        have C13_0 : z92.cell? ⟨z91.heap.size, 0, none⟩ = some (Value.string a) := by rw [hz]; simp
        have C13_1 : z92.cell? ⟨z91.heap.size, 1, none⟩ = some (Value.string b) := by rw [hz]; simp
        clear hb hz
        refine wpAny_ready (rs := [14]) (by kernel_rfl) (by simp) ?_
        refine AllReady.cons rfl (fun K hK => ?_) AllReady.nil
        go_simp
        go_wp2_with (go_at_call 28; refine (crc_sum2 _ a b _ N13 ha hb C13_0 C13_1).mono ?_; rintro e z93 ⟨rfl, hb⟩)
        (first | (refine hK _ _ ?_; clear hK K) | skip)
        replace C7_0 := (hb.cell (p := ⟨z0.heap.size, 0, none⟩) N7).trans C7_0
        replace C7_1 := (hb.cell (p := ⟨z0.heap.size, 1, none⟩) N7).trans C7_1
        replace N7 := Nat.lt_of_lt_of_le N7 hb.size
        replace C1_0 := (hb.cell (p := ⟨z73.heap.size, 0, none⟩) N1).trans C1_0
        replace N1 := Nat.lt_of_lt_of_le N1 hb.size
        replace C18_0 := (hb.cell (p := ⟨z77.heap.size, 0, none⟩) N18).trans C18_0
        replace N18 := Nat.lt_of_lt_of_le N18 hb.size
        replace C13_0 := (hb.cell (p := ⟨z91.heap.size, 0, none⟩) N13).trans C13_0
        replace C13_1 := (hb.cell (p := ⟨z91.heap.size, 1, none⟩) N13).trans C13_1
        replace N13 := Nat.lt_of_lt_of_le N13 hb.size
        replace Bc := Bc.trans (hb.mono Bc.size)
        clear hb
        refine wpAny_ready (rs := [19]) (by kernel_rfl) (by simp) ?_
        refine AllReady.cons rfl (fun K hK => ?_) AllReady.nil
        go_simp
        go_wp2_with (go_at_call 28; refine (crc_sum1 _ (a ++ b) _ N18 hab C18_0).mono ?_; rintro e z94 ⟨rfl, hb⟩)
        (first | (refine hK _ _ ?_; clear hK K) | skip)
        replace C7_0 := (hb.cell (p := ⟨z0.heap.size, 0, none⟩) N7).trans C7_0
        replace C7_1 := (hb.cell (p := ⟨z0.heap.size, 1, none⟩) N7).trans C7_1
        replace N7 := Nat.lt_of_lt_of_le N7 hb.size
        replace C1_0 := (hb.cell (p := ⟨z73.heap.size, 0, none⟩) N1).trans C1_0
        replace N1 := Nat.lt_of_lt_of_le N1 hb.size
        replace C18_0 := (hb.cell (p := ⟨z77.heap.size, 0, none⟩) N18).trans C18_0
        replace N18 := Nat.lt_of_lt_of_le N18 hb.size
        replace C13_0 := (hb.cell (p := ⟨z91.heap.size, 0, none⟩) N13).trans C13_0
        replace C13_1 := (hb.cell (p := ⟨z91.heap.size, 1, none⟩) N13).trans C13_1
        replace N13 := Nat.lt_of_lt_of_le N13 hb.size
        replace Bc := Bc.trans (hb.mono Bc.size)
        clear hb
        rw [E1.out]
        generalize CrcM.upd (CrcM.upd 0 (nl a)) (nl b) = X2
        refine wpAny_take (i := 20) (v := ?_) rfl (by kernel_rfl) (by kernel_rfl) (by kernel_rfl) (fun _ _ _ h => h) (Or.inl ⟨by kernel_rfl, ?_⟩) ?_
        rotate_left
        · intro w; go_simp; with_reducible rfl
        refine wpAny_take (i := 21) (v := ?_) rfl (by kernel_rfl) (by kernel_rfl) (by kernel_rfl) (fun _ _ _ h => h) (Or.inl ⟨by kernel_rfl, ?_⟩) ?_
        rotate_left
        · intro w; go_simp; with_reducible rfl
        refine wpAny_take (i := 22) (v := ?_) rfl (by kernel_rfl) (by kernel_rfl) (by kernel_rfl) (fun _ _ _ h => h) (Or.inl ⟨by kernel_rfl, ?_⟩) ?_
        rotate_left
        · intro w; go_simp; with_reducible rfl
        refine wpAny_take (i := 23) (v := ?_) rfl (by kernel_rfl) (by kernel_rfl) (by kernel_rfl) (fun _ _ _ h => h) (Or.inl ⟨by kernel_rfl, ?_⟩) ?_
        rotate_left
        · intro w; go_simp; with_reducible rfl
        refine wpAny_take (i := 27) (v := ?_) rfl (by kernel_rfl) (by kernel_rfl) (by kernel_rfl) (fun _ _ _ h => h) (Or.inl ⟨by kernel_rfl, ?_⟩) ?_
        rotate_left
        · intro w; go_simp; with_reducible rfl
        refine wpAny_take (i := 28) (v := ?_) rfl (by kernel_rfl) (by kernel_rfl) (by kernel_rfl) (fun _ _ _ h => h) (Or.inl ⟨by kernel_rfl, ?_⟩) ?_
        rotate_left
        · intro w; go_simp; with_reducible rfl
        refine wpAny_take (i := 29) (v := ?_) rfl (by kernel_rfl) (by kernel_rfl) (by kernel_rfl) (fun _ _ _ h => h) (Or.inl ⟨by kernel_rfl, ?_⟩) ?_
        rotate_left
        · intro w; go_simp; with_reducible rfl
        refine wpAny_take (i := 30) (v := ?_) rfl (by kernel_rfl) (by kernel_rfl) (by kernel_rfl) (fun _ _ _ h => h) (Or.inl ⟨by kernel_rfl, ?_⟩) ?_
        rotate_left
        · intro w; go_simp; with_reducible rfl
        refine wpAny_ready (rs := [24]) (by kernel_rfl) (by simp) ?_
        refine AllReady.cons rfl (fun K hK => ?_) AllReady.nil
        go_simp
        (first | (refine hK _ _ ?_; clear hK K) | skip)
        obtain ⟨z95, hz⟩ : ∃ x, x = z94.alloc (Obj.cells #[Value.string a] 9) := ⟨_, rfl⟩
        rw [← hz]
        have hb : Below z94.heap.size z94 z95 := by rw [hz]; exact Kq.below_alloc _ _
        replace C7_0 := (hb.cell (p := ⟨z0.heap.size, 0, none⟩) N7).trans C7_0
        replace C7_1 := (hb.cell (p := ⟨z0.heap.size, 1, none⟩) N7).trans C7_1
        replace N7 := Nat.lt_of_lt_of_le N7 hb.size
        replace C1_0 := (hb.cell (p := ⟨z73.heap.size, 0, none⟩) N1).trans C1_0
        replace N1 := Nat.lt_of_lt_of_le N1 hb.size
        replace C18_0 := (hb.cell (p := ⟨z77.heap.size, 0, none⟩) N18).trans C18_0
        replace N18 := Nat.lt_of_lt_of_le N18 hb.size
        replace C13_0 := (hb.cell (p := ⟨z91.heap.size, 0, none⟩) N13).trans C13_0
        replace C13_1 := (hb.cell (p := ⟨z91.heap.size, 1, none⟩) N13).trans C13_1
        replace N13 := Nat.lt_of_lt_of_le N13 hb.size
        replace Bc := Bc.trans (hb.mono Bc.size)
        have N24 : z94.heap.size < z95.heap.size := by rw [hz]; simp
        have C24_0 : z95.cell? ⟨z94.heap.size, 0, none⟩ = some (Value.string a) := by rw [hz]; simp
        clear hb hz
        refine wpAny_ready (rs := [25]) (by kernel_rfl) (by simp) ?_
        refine AllReady.cons rfl (fun K hK => ?_) AllReady.nil
        go_simp
        go_wp2_with (go_at_call 28; refine (crc_sum1 _ a _ N24 ha C24_0).mono ?_; rintro e z96 ⟨rfl, hb⟩)
        (first | (refine hK _ _ ?_; clear hK K) | skip)
        replace C7_0 := (hb.cell (p := ⟨z0.heap.size, 0, none⟩) N7).trans C7_0
        replace C7_1 := (hb.cell (p := ⟨z0.heap.size, 1, none⟩) N7).trans C7_1
        replace N7 := Nat.lt_of_lt_of_le N7 hb.size
        replace C1_0 := (hb.cell (p := ⟨z73.heap.size, 0, none⟩) N1).trans C1_0
        replace N1 := Nat.lt_of_lt_of_le N1 hb.size
        replace C18_0 := (hb.cell (p := ⟨z77.heap.size, 0, none⟩) N18).trans C18_0
        replace N18 := Nat.lt_of_lt_of_le N18 hb.size
        replace C13_0 := (hb.cell (p := ⟨z91.heap.size, 0, none⟩) N13).trans C13_0
        replace C13_1 := (hb.cell (p := ⟨z91.heap.size, 1, none⟩) N13).trans C13_1
        replace N13 := Nat.lt_of_lt_of_le N13 hb.size
        replace C24_0 := (hb.cell (p := ⟨z94.heap.size, 0, none⟩) N24).trans C24_0
        replace N24 := Nat.lt_of_lt_of_le N24 hb.size
        replace Bc := Bc.trans (hb.mono Bc.size)
        clear hb
        refine wpAny_ready (rs := [26]) (by kernel_rfl) (by simp) ?_
        refine AllReady.cons rfl (fun K hK => ?_) AllReady.nil
        go_simp
        go_wp2_with (go_at_call 32; refine (crc_bytes _ _).mono ?_; rintro e z97 ⟨rfl, hb⟩)
        (first | (refine hK _ _ ?_; clear hK K) | skip)
        replace C7_0 := (hb.cell (p := ⟨z0.heap.size, 0, none⟩) N7).trans C7_0
        replace C7_1 := (hb.cell (p := ⟨z0.heap.size, 1, none⟩) N7).trans C7_1
        replace N7 := Nat.lt_of_lt_of_le N7 hb.size
        replace C1_0 := (hb.cell (p := ⟨z73.heap.size, 0, none⟩) N1).trans C1_0
        replace N1 := Nat.lt_of_lt_of_le N1 hb.size
        replace C18_0 := (hb.cell (p := ⟨z77.heap.size, 0, none⟩) N18).trans C18_0
        replace N18 := Nat.lt_of_lt_of_le N18 hb.size
        replace C13_0 := (hb.cell (p := ⟨z91.heap.size, 0, none⟩) N13).trans C13_0
        replace C13_1 := (hb.cell (p := ⟨z91.heap.size, 1, none⟩) N13).trans C13_1
        replace N13 := Nat.lt_of_lt_of_le N13 hb.size
        replace C24_0 := (hb.cell (p := ⟨z94.heap.size, 0, none⟩) N24).trans C24_0
        replace N24 := Nat.lt_of_lt_of_le N24 hb.size
        replace Bc := Bc.trans (hb.mono Bc.size)
        clear hb
        rw [← E2.out]
        refine wpAny_take (i := 31) (v := ?_) rfl (by kernel_rfl) (by kernel_rfl) (by kernel_rfl) (fun _ _ _ h => h) (Or.inl ⟨by kernel_rfl, ?_⟩) ?_
        rotate_left
        · intro w; go_simp; with_reducible rfl
        refine wpAny_take (i := 32) (v := ?_) rfl (by kernel_rfl) (by kernel_rfl) (by kernel_rfl) (fun _ _ _ h => h) (Or.inl ⟨by kernel_rfl, ?_⟩) ?_
        rotate_left
        · intro w; go_simp; with_reducible rfl
        refine wpAny_take (i := 33) (v := ?_) rfl (by kernel_rfl) (by kernel_rfl) (by kernel_rfl) (fun _ _ _ h => h) (Or.inl ⟨by kernel_rfl, ?_⟩) ?_
        rotate_left
        · intro w; go_simp; with_reducible rfl
        refine wpAny_done (by kernel_rfl) ?_ _
        go_wp2
        go_ret
        exact ⟨rfl, Bc⟩
end Go.Proofs.Ytkjcpoeakdlplaa
