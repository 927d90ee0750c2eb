/- Contracts of carrackref04.Act.Text, carracklaw04.few. Condition: the act's text is short. -/
import Derived.WalkSpells
import Derived.Outline
import Derived.Deep.RegionHeld
import Derived.Test.YtcnoakngnjbkiaaActsOpen
namespace Go.Proofs.Ytcnoakngnjbkiaa
open Go.RowKit
set_option linter.unusedVariables false
def actLen (x : Int) : Nat := if x < 0 then 0 else if 600 < x then 600 else x.toNat
theorem actLen_le (x : Int) : actLen x ≤ 600 := by unfold actLen; split; omega; split <;> omega
def actText (s : ByteArray) (long : Int) : ByteArray := (s ++ txt (List.replicate (actLen long) 0)).extract 0 (actLen long)
theorem actText_size (s : ByteArray) (long : Int) : (actText s long).size = actLen long := by
  unfold actText
  rw [ByteArray.size_extract, ByteArray.size_append, txt_size, List.length_replicate]
  omega
theorem keep3 {z0 : World} {b : Nat} {x y u : Value} {s : ByteArray} {v : Value} {t : TypeId} {o : Obj} (h : z0.heap[b]? = some (.cells #[x, y, u, .string s, v] t (0, 0))) : (z0.alloc o).drew.cell? ⟨b, 3, none⟩ = some (.string s) :=
  Kq.blk_cell (Kq.below_blk (Kq.below_alloc z0 o) h (Kq.blk_lt h)) 3
set_option maxRecDepth 100000 in
set_option maxHeartbeats 2000000 in
theorem text_low (kind n : Int) (long : Int) (s : ByteArray) (v : Value) (w : World) (hs : s.size ≤ 1000) (h0 : long < 0) :
    Calls Try.prog 26 #[.agg #[.int .i64 kind, .int .i64 n, .int .i64 long, .string s, v]] w fun x w' => x = .returned (.string ByteArray.empty) ∧ Below w.heap.size w w' := by
  have hmk : ∀ w, (Instr.makeSlice 31 (.int .i64 0) (.int .i64 0)).run Try.prog w = .ok (.slice (some ⟨w.heap.size, 0, none⟩) 0 0) (w.alloc (.cells (zrow 0) 5)) := fun w => mk_bytes w 0 0 (by omega) (by omega)
  have hcv := fun w => cv_zeros 0 w
  have HZ : Hid ((txt (List.replicate 0 0)).size = 0) := Lib.hid (by rw [txt_size, List.length_replicate])
  have hz1 : (txt (List.replicate 0 0)).size ≤ 600 := by rw [HZ.out]; omega
  have hz2 : (0 : Int) ≤ ((txt (List.replicate 0 0)).size : Int) := by rw [HZ.out]; omega
  have HX := Lib.hid (Kq.blk_new w #[.int .i64 kind, .int .i64 n, .int .i64 long, .string s, v] 43 (0, 0))
  have d0 : decide (long < 0) = true := decide_eq_true h0
  clear h0
  generalize txt (List.replicate 0 0) = Z at *
  have hz3 : (0 : Int) ≤ ((s ++ Z).size : Int) := by rw [ByteArray.size_append]; omega
  have hz4 : (0 : Int) ≤ (s.size : Int) + (Z.size : Int) := by omega
  have hlen : ¬ 9223372036854775807 < s.size + Z.size := by omega
  go_enter Try.func26, Try.ntmps26
  go_wp2
  refine wp_region_any (by kernel_rfl) ?_
  (try (change wpAny _ _ _ _ _ _ _ (World.drew _)))
  obtain ⟨zd, hzd⟩ : ∃ z, z = World.drew (w.alloc (.cells #[.int .i64 kind, .int .i64 n, .int .i64 long, .string s, v] 43)) := ⟨_, rfl⟩
  rw [← hzd]
  have HB : Hid (Below w.heap.size w zd) := Lib.hid (by rw [hzd]; exact (Kq.below_alloc _ _).drew)
  have c3 : zd.cell? ⟨w.heap.size, 3, none⟩ = some (.string s) := by rw [hzd]; exact Kq.blk_cell HX.out 3
  have hlt : w.heap.size < zd.heap.size := by rw [hzd]; exact Kq.blk_lt HX.out
  have c3' : (zd.alloc (.cells (zrow 0) 5)).cell? ⟨w.heap.size, 3, none⟩ = some (.string s) := ((Kq.below_alloc zd _).cell (p := ⟨w.heap.size, 3, none⟩) hlt).trans c3
  clear hzd HX
  refine wpAny_take (i := 0) (v := ?_) rfl (by kernel_rfl) (by kernel_rfl) (by kernel_rfl) (fun _ _ _ h => h) (Or.inl ⟨by kernel_rfl, ?_⟩) ?_
  rotate_left
  · intro w; go_simp; with_reducible rfl
  refine wpAny_take (i := 2) (v := ?_) rfl (by kernel_rfl) (by kernel_rfl) (by kernel_rfl) (fun _ _ _ h => h) (Or.inl ⟨by kernel_rfl, ?_⟩) ?_
  rotate_left
  · intro w; go_simp; with_reducible rfl
  refine wpAny_ready (rs := [1, 3]) (by kernel_rfl) (by simp) ?_
  refine (AllReady.cons rfl (fun K hK => ?_) (AllReady.cons rfl (fun K hK => ?_) AllReady.nil))
  · skip
    go_simp
    (first | (refine hK _ _ ?_; clear hK K) | skip)
    refine wpAny_ready (rs := [3]) (by kernel_rfl) (by simp) ?_
    refine AllReady.cons rfl (fun K hK => ?_) AllReady.nil
    go_simp
    (first | (refine hK _ _ ?_; clear hK K) | skip)
    refine wpAny_ready (rs := [4]) (by kernel_rfl) (by simp) ?_
    refine AllReady.cons rfl (fun K hK => ?_) AllReady.nil
    go_simp
    (first | (refine hK _ _ ?_; clear hK K) | skip)
    refine wpAny_take (i := 5) (v := ?_) rfl (by kernel_rfl) (by kernel_rfl) (by kernel_rfl) (fun _ _ _ h => h) (Or.inl ⟨by kernel_rfl, ?_⟩) ?_
    rotate_left
    · intro w; go_simp; with_reducible rfl
    refine wpAny_take (i := 6) (v := ?_) rfl (by kernel_rfl) (by kernel_rfl) (by kernel_rfl) (fun _ _ _ h => h) (Or.inl ⟨by kernel_rfl, ?_⟩) ?_
    rotate_left
    · intro w; go_simp; with_reducible rfl
    refine wpAny_done (by kernel_rfl) ?_ _
    go_wp2
    go_ret
    exact ⟨rfl, HB.out.trans ((Kq.below_alloc _ _).mono HB.out.size)⟩
  · skip
    go_simp
    (first | (refine hK _ _ ?_; clear hK K) | skip)
    refine wpAny_ready (rs := [1, 4]) (by kernel_rfl) (by simp) ?_
    refine (AllReady.cons rfl (fun K hK => ?_) (AllReady.cons rfl (fun K hK => ?_) AllReady.nil))
    · skip
      go_simp
      (first | (refine hK _ _ ?_; clear hK K) | skip)
      refine wpAny_ready (rs := [4]) (by kernel_rfl) (by simp) ?_
      refine AllReady.cons rfl (fun K hK => ?_) AllReady.nil
      go_simp
      (first | (refine hK _ _ ?_; clear hK K) | skip)
      refine wpAny_take (i := 5) (v := ?_) rfl (by kernel_rfl) (by kernel_rfl) (by kernel_rfl) (fun _ _ _ h => h) (Or.inl ⟨by kernel_rfl, ?_⟩) ?_
      rotate_left
      · intro w; go_simp; with_reducible rfl
      refine wpAny_take (i := 6) (v := ?_) rfl (by kernel_rfl) (by kernel_rfl) (by kernel_rfl) (fun _ _ _ h => h) (Or.inl ⟨by kernel_rfl, ?_⟩) ?_
      rotate_left
      · intro w; go_simp; with_reducible rfl
      refine wpAny_done (by kernel_rfl) ?_ _
      go_wp2
      go_ret
      exact ⟨rfl, HB.out.trans ((Kq.below_alloc _ _).mono HB.out.size)⟩
    · skip
      go_simp
      (first | (refine hK _ _ ?_; clear hK K) | skip)
      refine wpAny_ready (rs := [1]) (by kernel_rfl) (by simp) ?_
      refine AllReady.cons rfl (fun K hK => ?_) AllReady.nil
      go_simp
      (first | (refine hK _ _ ?_; clear hK K) | skip)
      refine wpAny_take (i := 5) (v := ?_) rfl (by kernel_rfl) (by kernel_rfl) (by kernel_rfl) (fun _ _ _ h => h) (Or.inl ⟨by kernel_rfl, ?_⟩) ?_
      rotate_left
      · intro w; go_simp; with_reducible rfl
      refine wpAny_take (i := 6) (v := ?_) rfl (by kernel_rfl) (by kernel_rfl) (by kernel_rfl) (fun _ _ _ h => h) (Or.inl ⟨by kernel_rfl, ?_⟩) ?_
      rotate_left
      · intro w; go_simp; with_reducible rfl
      refine wpAny_done (by kernel_rfl) ?_ _
      go_wp2
      go_ret
      exact ⟨rfl, HB.out.trans ((Kq.below_alloc _ _).mono HB.out.size)⟩
set_option maxRecDepth 100000 in
set_option maxHeartbeats 2000000 in
theorem text_high (kind n : Int) (long : Int) (s : ByteArray) (v : Value) (w : World) (hs : s.size ≤ 1000) (h0 : 600 < long) :
    Calls Try.prog 26 #[.agg #[.int .i64 kind, .int .i64 n, .int .i64 long, .string s, v]] w fun x w' => x = .returned (.string ((s ++ txt (List.replicate 600 0)).extract 0 600)) ∧ Below w.heap.size w w' := by
  have hmk : ∀ w, (Instr.makeSlice 31 (.int .i64 600) (.int .i64 600)).run Try.prog w = .ok (.slice (some ⟨w.heap.size, 0, none⟩) 600 600) (w.alloc (.cells (zrow 600) 5)) := fun w => mk_bytes w 600 600 (by omega) (by omega)
  have hcv := fun w => cv_zeros 600 w
  have HZ : Hid ((txt (List.replicate 600 0)).size = 600) := Lib.hid (by rw [txt_size, List.length_replicate])
  have hz1 : (txt (List.replicate 600 0)).size ≤ 600 := by rw [HZ.out]; omega
  have hz2 : (600 : Int) ≤ ((txt (List.replicate 600 0)).size : Int) := by rw [HZ.out]; omega
  have HX := Lib.hid (Kq.blk_new w #[.int .i64 kind, .int .i64 n, .int .i64 long, .string s, v] 43 (0, 0))
  have d0 : decide (long < 0) = false := decide_eq_false (by omega)
  have d1 : decide ((600 : Int) < long) = true := decide_eq_true h0
  clear h0
  generalize txt (List.replicate 600 0) = Z at *
  have hz3 : (600 : Int) ≤ ((s ++ Z).size : Int) := by rw [ByteArray.size_append]; omega
  have hz4 : (600 : Int) ≤ (s.size : Int) + (Z.size : Int) := by omega
  have hlen : ¬ 9223372036854775807 < s.size + Z.size := by omega
  go_enter Try.func26, Try.ntmps26
  go_wp2
  refine wp_region_any (by kernel_rfl) ?_
  (try (change wpAny _ _ _ _ _ _ _ (World.drew _)))
  obtain ⟨zd, hzd⟩ : ∃ z, z = World.drew (w.alloc (.cells #[.int .i64 kind, .int .i64 n, .int .i64 long, .string s, v] 43)) := ⟨_, rfl⟩
  rw [← hzd]
  have HB : Hid (Below w.heap.size w zd) := Lib.hid (by rw [hzd]; exact (Kq.below_alloc _ _).drew)
  have c3 : zd.cell? ⟨w.heap.size, 3, none⟩ = some (.string s) := by rw [hzd]; exact Kq.blk_cell HX.out 3
  have hlt : w.heap.size < zd.heap.size := by rw [hzd]; exact Kq.blk_lt HX.out
  have c3' : (zd.alloc (.cells (zrow 600) 5)).cell? ⟨w.heap.size, 3, none⟩ = some (.string s) := ((Kq.below_alloc zd _).cell (p := ⟨w.heap.size, 3, none⟩) hlt).trans c3
  clear hzd HX
  refine wpAny_take (i := 0) (v := ?_) rfl (by kernel_rfl) (by kernel_rfl) (by kernel_rfl) (fun _ _ _ h => h) (Or.inl ⟨by kernel_rfl, ?_⟩) ?_
  rotate_left
  · intro w; go_simp; with_reducible rfl
  refine wpAny_take (i := 2) (v := ?_) rfl (by kernel_rfl) (by kernel_rfl) (by kernel_rfl) (fun _ _ _ h => h) (Or.inl ⟨by kernel_rfl, ?_⟩) ?_
  rotate_left
  · intro w; go_simp; with_reducible rfl
  refine wpAny_ready (rs := [1, 3]) (by kernel_rfl) (by simp) ?_
  refine (AllReady.cons rfl (fun K hK => ?_) (AllReady.cons rfl (fun K hK => ?_) AllReady.nil))
  · skip
    go_simp
    (first | (refine hK _ _ ?_; clear hK K) | skip)
    refine wpAny_ready (rs := [3]) (by kernel_rfl) (by simp) ?_
    refine AllReady.cons rfl (fun K hK => ?_) AllReady.nil
    go_simp
    (first | (refine hK _ _ ?_; clear hK K) | skip)
    refine wpAny_ready (rs := [4]) (by kernel_rfl) (by simp) ?_
    refine AllReady.cons rfl (fun K hK => ?_) AllReady.nil
    go_simp
    (first | (refine hK _ _ ?_; clear hK K) | skip)
    refine wpAny_take (i := 5) (v := ?_) rfl (by kernel_rfl) (by kernel_rfl) (by kernel_rfl) (fun _ _ _ h => h) (Or.inl ⟨by kernel_rfl, ?_⟩) ?_
    rotate_left
    · intro w; go_simp; with_reducible rfl
    refine wpAny_take (i := 6) (v := ?_) rfl (by kernel_rfl) (by kernel_rfl) (by kernel_rfl) (fun _ _ _ h => h) (Or.inl ⟨by kernel_rfl, ?_⟩) ?_
    rotate_left
    · intro w; go_simp; with_reducible rfl
    refine wpAny_done (by kernel_rfl) ?_ _
    go_wp2
    go_ret
    exact ⟨rfl, HB.out.trans ((Kq.below_alloc _ _).mono HB.out.size)⟩
  · skip
    go_simp
    (first | (refine hK _ _ ?_; clear hK K) | skip)
    refine wpAny_ready (rs := [1, 4]) (by kernel_rfl) (by simp) ?_
    refine (AllReady.cons rfl (fun K hK => ?_) (AllReady.cons rfl (fun K hK => ?_) AllReady.nil))
    · skip
      go_simp
      (first | (refine hK _ _ ?_; clear hK K) | skip)
      refine wpAny_ready (rs := [4]) (by kernel_rfl) (by simp) ?_
      refine AllReady.cons rfl (fun K hK => ?_) AllReady.nil
      go_simp
      (first | (refine hK _ _ ?_; clear hK K) | skip)
      refine wpAny_take (i := 5) (v := ?_) rfl (by kernel_rfl) (by kernel_rfl) (by kernel_rfl) (fun _ _ _ h => h) (Or.inl ⟨by kernel_rfl, ?_⟩) ?_
      rotate_left
      · intro w; go_simp; with_reducible rfl
      refine wpAny_take (i := 6) (v := ?_) rfl (by kernel_rfl) (by kernel_rfl) (by kernel_rfl) (fun _ _ _ h => h) (Or.inl ⟨by kernel_rfl, ?_⟩) ?_
      rotate_left
      · intro w; go_simp; with_reducible rfl
      refine wpAny_done (by kernel_rfl) ?_ _
      go_wp2
      go_ret
      exact ⟨rfl, HB.out.trans ((Kq.below_alloc _ _).mono HB.out.size)⟩
    · skip
      go_simp
      (first | (refine hK _ _ ?_; clear hK K) | skip)
      refine wpAny_ready (rs := [1]) (by kernel_rfl) (by simp) ?_
      refine AllReady.cons rfl (fun K hK => ?_) AllReady.nil
      go_simp
      (first | (refine hK _ _ ?_; clear hK K) | skip)
      refine wpAny_take (i := 5) (v := ?_) rfl (by kernel_rfl) (by kernel_rfl) (by kernel_rfl) (fun _ _ _ h => h) (Or.inl ⟨by kernel_rfl, ?_⟩) ?_
      rotate_left
      · intro w; go_simp; with_reducible rfl
      refine wpAny_take (i := 6) (v := ?_) rfl (by kernel_rfl) (by kernel_rfl) (by kernel_rfl) (fun _ _ _ h => h) (Or.inl ⟨by kernel_rfl, ?_⟩) ?_
      rotate_left
      · intro w; go_simp; with_reducible rfl
      refine wpAny_done (by kernel_rfl) ?_ _
      go_wp2
      go_ret
      exact ⟨rfl, HB.out.trans ((Kq.below_alloc _ _).mono HB.out.size)⟩
set_option maxRecDepth 100000 in
set_option maxHeartbeats 2000000 in
theorem text_mid (kind n : Int) (m : Nat) (s : ByteArray) (v : Value) (w : World) (hs : s.size ≤ 1000) (h0 : m ≤ 600) :
    Calls Try.prog 26 #[.agg #[.int .i64 kind, .int .i64 n, .int .i64 (m : Int), .string s, v]] w fun x w' => x = .returned (.string ((s ++ txt (List.replicate m 0)).extract 0 m)) ∧ Below w.heap.size w w' := by
  have hmk : ∀ w, (Instr.makeSlice 31 (.int .i64 (m : Int)) (.int .i64 (m : Int))).run Try.prog w = .ok (.slice (some ⟨w.heap.size, 0, none⟩) m m) (w.alloc (.cells (zrow m) 5)) := fun w => mk_bytes w (m : Int) m (by omega) (by omega)
  have hcv := fun w => cv_zeros m w
  have HZ : Hid ((txt (List.replicate m 0)).size = m) := Lib.hid (by rw [txt_size, List.length_replicate])
  have hz1 : (txt (List.replicate m 0)).size ≤ 600 := by rw [HZ.out]; omega
  have hz2 : ((m : Int) : Int) ≤ ((txt (List.replicate m 0)).size : Int) := by rw [HZ.out]; omega
  have HX := Lib.hid (Kq.blk_new w #[.int .i64 kind, .int .i64 n, .int .i64 (m : Int), .string s, v] 43 (0, 0))
  have d1 : decide ((600 : Int) < (m : Int)) = false := decide_eq_false (by omega)
  have d2 : decide (600 < m) = false := decide_eq_false (by omega)
  generalize txt (List.replicate m 0) = Z at *
  have hz3 : ((m : Int) : Int) ≤ ((s ++ Z).size : Int) := by rw [ByteArray.size_append]; omega
  have hz4 : ((m : Int) : Int) ≤ (s.size : Int) + (Z.size : Int) := by omega
  have hlen : ¬ 9223372036854775807 < s.size + Z.size := by omega
  go_enter Try.func26, Try.ntmps26
  go_wp2
  refine wp_region_any (by kernel_rfl) ?_
  (try (change wpAny _ _ _ _ _ _ _ (World.drew _)))
  obtain ⟨zd, hzd⟩ : ∃ z, z = World.drew (w.alloc (.cells #[.int .i64 kind, .int .i64 n, .int .i64 (m : Int), .string s, v] 43)) := ⟨_, rfl⟩
  rw [← hzd]
  have HB : Hid (Below w.heap.size w zd) := Lib.hid (by rw [hzd]; exact (Kq.below_alloc _ _).drew)
  have c3 : zd.cell? ⟨w.heap.size, 3, none⟩ = some (.string s) := by rw [hzd]; exact Kq.blk_cell HX.out 3
  have hlt : w.heap.size < zd.heap.size := by rw [hzd]; exact Kq.blk_lt HX.out
  have c3' : (zd.alloc (.cells (zrow m) 5)).cell? ⟨w.heap.size, 3, none⟩ = some (.string s) := ((Kq.below_alloc zd _).cell (p := ⟨w.heap.size, 3, none⟩) hlt).trans c3
  clear hzd HX
  refine wpAny_take (i := 0) (v := ?_) rfl (by kernel_rfl) (by kernel_rfl) (by kernel_rfl) (fun _ _ _ h => h) (Or.inl ⟨by kernel_rfl, ?_⟩) ?_
  rotate_left
  · intro w; go_simp; with_reducible rfl
  refine wpAny_take (i := 2) (v := ?_) rfl (by kernel_rfl) (by kernel_rfl) (by kernel_rfl) (fun _ _ _ h => h) (Or.inl ⟨by kernel_rfl, ?_⟩) ?_
  rotate_left
  · intro w; go_simp; with_reducible rfl
  refine wpAny_ready (rs := [1, 3]) (by kernel_rfl) (by simp) ?_
  refine (AllReady.cons rfl (fun K hK => ?_) (AllReady.cons rfl (fun K hK => ?_) AllReady.nil))
  · skip
    go_simp
    (first | (refine hK _ _ ?_; clear hK K) | skip)
    refine wpAny_ready (rs := [3]) (by kernel_rfl) (by simp) ?_
    refine AllReady.cons rfl (fun K hK => ?_) AllReady.nil
    go_simp
    (first | (refine hK _ _ ?_; clear hK K) | skip)
    refine wpAny_ready (rs := [4]) (by kernel_rfl) (by simp) ?_
    refine AllReady.cons rfl (fun K hK => ?_) AllReady.nil
    go_simp
    (first | (refine hK _ _ ?_; clear hK K) | skip)
    refine wpAny_take (i := 5) (v := ?_) rfl (by kernel_rfl) (by kernel_rfl) (by kernel_rfl) (fun _ _ _ h => h) (Or.inl ⟨by kernel_rfl, ?_⟩) ?_
    rotate_left
    · intro w; go_simp; with_reducible rfl
    refine wpAny_take (i := 6) (v := ?_) rfl (by kernel_rfl) (by kernel_rfl) (by kernel_rfl) (fun _ _ _ h => h) (Or.inl ⟨by kernel_rfl, ?_⟩) ?_
    rotate_left
    · intro w; go_simp; with_reducible rfl
    refine wpAny_done (by kernel_rfl) ?_ _
    go_wp2
    go_ret
    exact ⟨rfl, HB.out.trans ((Kq.below_alloc _ _).mono HB.out.size)⟩
  · skip
    go_simp
    (first | (refine hK _ _ ?_; clear hK K) | skip)
    refine wpAny_ready (rs := [1, 4]) (by kernel_rfl) (by simp) ?_
    refine (AllReady.cons rfl (fun K hK => ?_) (AllReady.cons rfl (fun K hK => ?_) AllReady.nil))
    · skip
      go_simp
      (first | (refine hK _ _ ?_; clear hK K) | skip)
      refine wpAny_ready (rs := [4]) (by kernel_rfl) (by simp) ?_
      refine AllReady.cons rfl (fun K hK => ?_) AllReady.nil
      go_simp
      (first | (refine hK _ _ ?_; clear hK K) | skip)
      refine wpAny_take (i := 5) (v := ?_) rfl (by kernel_rfl) (by kernel_rfl) (by kernel_rfl) (fun _ _ _ h => h) (Or.inl ⟨by kernel_rfl, ?_⟩) ?_
      rotate_left
      · intro w; go_simp; with_reducible rfl
      refine wpAny_take (i := 6) (v := ?_) rfl (by kernel_rfl) (by kernel_rfl) (by kernel_rfl) (fun _ _ _ h => h) (Or.inl ⟨by kernel_rfl, ?_⟩) ?_
      rotate_left
      · intro w; go_simp; with_reducible rfl
      refine wpAny_done (by kernel_rfl) ?_ _
      go_wp2
      go_ret
      exact ⟨rfl, HB.out.trans ((Kq.below_alloc _ _).mono HB.out.size)⟩
    · skip
      go_simp
      (first | (refine hK _ _ ?_; clear hK K) | skip)
      refine wpAny_ready (rs := [1]) (by kernel_rfl) (by simp) ?_
      refine AllReady.cons rfl (fun K hK => ?_) AllReady.nil
      go_simp
      (first | (refine hK _ _ ?_; clear hK K) | skip)
      refine wpAny_take (i := 5) (v := ?_) rfl (by kernel_rfl) (by kernel_rfl) (by kernel_rfl) (fun _ _ _ h => h) (Or.inl ⟨by kernel_rfl, ?_⟩) ?_
      rotate_left
      · intro w; go_simp; with_reducible rfl
      refine wpAny_take (i := 6) (v := ?_) rfl (by kernel_rfl) (by kernel_rfl) (by kernel_rfl) (fun _ _ _ h => h) (Or.inl ⟨by kernel_rfl, ?_⟩) ?_
      rotate_left
      · intro w; go_simp; with_reducible rfl
      refine wpAny_done (by kernel_rfl) ?_ _
      go_wp2
      go_ret
      exact ⟨rfl, HB.out.trans ((Kq.below_alloc _ _).mono HB.out.size)⟩
theorem act_text (kind n long : Int) (s : ByteArray) (v : Value) (w : World) (hs : s.size ≤ 1000) :
    Calls Try.prog 26 #[.agg #[.int .i64 kind, .int .i64 n, .int .i64 long, .string s, v]] w fun x w' => x = .returned (.string (actText s long)) ∧ Below w.heap.size w w' := by
  by_cases h0 : long < 0
  · have e : actLen long = 0 := by rw [actLen, if_pos h0]
    unfold actText
    rw [e, show (s ++ txt (List.replicate 0 0)).extract 0 0 = ByteArray.empty from nl_inj (by rw [nl_extract]; simp; rfl)]
    exact text_low kind n long s v w hs h0
  · by_cases h1 : 600 < long
    · have e : actLen long = 600 := by rw [actLen, if_neg h0, if_pos h1]
      unfold actText
      rw [e]
      exact text_high kind n long s v w hs h1
    · obtain ⟨m, rfl⟩ := Int.eq_ofNat_of_zero_le (Int.not_lt.1 h0)
      have e : actLen (m : Int) = m := by rw [actLen, if_neg h0, if_neg h1]; rfl
      unfold actText
      rw [e]
      exact text_mid kind n m s v w hs (by omega)
/-- are calls few, and a disk small? -/
def fewOk (a b : Int) (l : List ActV) : Prop := DkRight a b ∧ b ≤ 64 ∧ l.length ≤ 60 ∧ ∀ c ∈ l, c.s.size ≤ 1000 ∧ c.l.length ≤ 100
set_option maxRecDepth 100000 in
set_option maxHeartbeats 2000000 in
theorem few_ok (a b : Int) (A : Option Addr) (cap : Nat) (l : List ActV) (w : World) (hc : ActsAt w A l) (hf : fewOk a b l) :
    Calls Try.prog 16 #[.int .i64 a, .int .i64 b, .slice A l.length cap] w fun x w' => x = .returned (.bool true) ∧ w = w' := by
  have d0 : decide ((64 : Int) < b) = false := decide_eq_false (by have := hf.2.1; omega)
  have hl : l.length ≤ 60 := hf.2.2.1
  have d1 : decide ((60 : Int) < (l.length : Int)) = false := decide_eq_false (by omega)
  have d2 : decide (60 < l.length) = false := decide_eq_false (by omega)
  have HF := Lib.hid hf
  have HC := Lib.hid hc
  clear hf hc
  go_enter Try.func16, Try.ntmps16
  go_wp2_with fail
  refine (dk_right_ok a b _ HF.out.1).mono ?_
  rintro x w1 ⟨rfl, rfl⟩
  go_wp2
  go_loop [7] (fun i => ∃ j : Nat, j ≤ l.length ∧ i = .int .i64 (j : Int)) (fun i => l.length - (intOf i).toNat)
  case atStart => exact ⟨0, by omega, rfl⟩
  case round =>
    obtain ⟨j, hj, rfl⟩ := hrel
    by_cases hlt : j < l.length
    · obtain ⟨g, o, rfl, hg, hact⟩ := HC.out j hlt
      obtain ⟨f1, f2⟩ := HF.out.2.2.2 l[j] (List.getElem_mem _)
      have c3 := hact.c3
      have c4 := hact.c4
      generalize l[j] = c at *
      have t0 : decide ((1000 : Int) < (c.s.size : Int)) = false := decide_eq_false (by omega)
      have t1 : decide (1000 < c.s.size) = false := decide_eq_false (by omega)
      have t2 : decide ((100 : Int) < (c.l.length : Int)) = false := decide_eq_false (by omega)
      have t3 : decide (100 < c.l.length) = false := decide_eq_false (by omega)
      clear hact f1 f2 hg
      go_wp2
      go_round
      case rel => exact ⟨j + 1, by omega, by go_num⟩
      case measure => simp [intOf]; omega
    · go_wp2
      go_ret
      exact ⟨rfl, rfl⟩
end Go.Proofs.Ytcnoakngnjbkiaa
