/- carracklaw04.DiskTears walked. No condition. -/
import Derived.WalkSpells
import Derived.Test.YtcnoakngnjbkiaaDkInv
namespace Go.Proofs.Ytcnoakngnjbkiaa.diskTears
open Go.RowKit
set_option linter.unusedVariables false
theorem small_tests (a : Int) (o f : ByteArray) (t : Int) (lasts : Bool) (W : World) (h : ¬ (64 ≤ a ∧ a ≤ 512 ∧ (o.size : Int) ≤ a ∧ (f.size : Int) ≤ a)) :
    Calls Try.prog 6 #[.int .i64 a, .string o, .string f, .int .i64 t, .bool lasts] W fun x w' => x = .returned (.bool true) ∧ Below W.heap.size W w' := by
  have H := Lib.hid h
  clear h
  by_cases h1 : 64 ≤ a
  · have d1 : decide (a < 64) = false := decide_eq_false (by omega)
    by_cases h2 : a ≤ 512
    · have d2 : decide ((512 : Int) < a) = false := decide_eq_false (by omega)
      obtain ⟨n, rfl⟩ := Int.eq_ofNat_of_zero_le (show 0 ≤ a by omega)
      have d2 : decide ((512 : Int) < (n : Int)) = false := decide_eq_false (by omega)
      have m1 : decide (n < 64) = false := decide_eq_false (by omega)
      have m2 : decide (512 < n) = false := decide_eq_false (by omega)
      by_cases h3 : (o.size : Int) ≤ n
      · have d3 : decide (n < o.size) = false := decide_eq_false (by omega)
        have d4 : decide (n < f.size) = true := decide_eq_true (by have := H.out; omega)
        have e3 : decide ((n : Int) < (o.size : Int)) = false := decide_eq_false (by omega)
        have e4 : decide ((n : Int) < (f.size : Int)) = true := decide_eq_true (by have := H.out; omega)
        clear h1 h2 h3
        go_enter Try.func6, Try.ntmps6
        go_wp2_with fail
        refine (awake _).mono ?_
        rintro x w1 ⟨rfl, b1⟩
        have H1 := Lib.hid b1
        clear b1
        go_wp2
        go_ret
        exact ⟨rfl, H1.out⟩
      · have d3 : decide (n < o.size) = true := decide_eq_true (by omega)
        have e3 : decide ((n : Int) < (o.size : Int)) = true := decide_eq_true (by omega)
        clear h1 h2 h3
        go_enter Try.func6, Try.ntmps6
        go_wp2_with fail
        refine (awake _).mono ?_
        rintro x w1 ⟨rfl, b1⟩
        have H1 := Lib.hid b1
        clear b1
        go_wp2
        go_ret
        exact ⟨rfl, H1.out⟩
    · have d2 : decide ((512 : Int) < a) = true := decide_eq_true (by omega)
      clear h1 h2
      go_enter Try.func6, Try.ntmps6
      go_wp2_with fail
      refine (awake _).mono ?_
      rintro x w1 ⟨rfl, b1⟩
      have H1 := Lib.hid b1
      clear b1
      go_wp2
      go_ret
      exact ⟨rfl, H1.out⟩
  · have d1 : decide (a < 64) = true := decide_eq_true (by omega)
    clear h1
    go_enter Try.func6, Try.ntmps6
    go_wp2_with fail
    refine (awake _).mono ?_
    rintro x w1 ⟨rfl, b1⟩
    have H1 := Lib.hid b1
    clear b1
    go_wp2
    go_ret
    exact ⟨rfl, H1.out⟩
theorem putB_mid (p : Nat) (x R t y : List Nat) (h : x.length = p) (hR : R.length = t.length) : putB p t (x ++ (R ++ y)) = x ++ (t ++ y) := by
  rw [putB_at' p x _ t h, ← hR, List.drop_left]
/-- what is stable behind the flush, and behind the crash -/
theorem flushed (a : Nat) (A : ByteArray) (hA : A.size = a) : flushB a [(0, A), (1, A), (2, A)] (List.replicate (a * 3) 0) = nl A ++ (nl A ++ nl A) := by
  have h3 : List.replicate (a * 3) 0 = List.replicate a 0 ++ (List.replicate a 0 ++ List.replicate a 0) := by
    rw [List.replicate_append_replicate, List.replicate_append_replicate]; congr 1; omega
  have hl : (nl A).length = a := by rw [nl_length, hA]
  have hr : (List.replicate a 0).length = (nl A).length := by rw [hl, List.length_replicate]
  show putB (2 * a) (nl A) (putB (1 * a) (nl A) (putB (0 * a) (nl A) (List.replicate (a * 3) 0))) = _
  generalize List.replicate a 0 = R at *
  rw [h3]
  have s0 := putB_mid (0 * a) [] R (nl A) (R ++ R) (by simp) hr
  simp only [List.nil_append] at s0
  have s1 := putB_mid (1 * a) (nl A) R (nl A) R (by rw [hl]; omega) hr
  have s2 := putB_mid (2 * a) (nl A ++ nl A) R (nl A) [] (by rw [List.length_append, hl]; omega) hr
  simp only [List.append_nil, List.append_assoc] at s2
  rw [s0, s1, s2]
theorem txt_nl (s : ByteArray) : txt (nl s) = s := nl_inj (nl_txt _ (nl_lt s))
theorem crashed_no (a : Nat) (A B : ByteArray) (t : Int) : txt (crashB a [(1, B)] [(false, t)] false (nl A ++ (nl A ++ nl A))) = (A ++ A) ++ A := by
  rw [← txt_nl ((A ++ A) ++ A), nl_append, nl_append, List.append_assoc]
  rfl
theorem crashed_torn (a m : Nat) (A B : ByteArray) (hA : A.size = a) (hB : B.size = a) (h0 : 0 < m) (h1 : m < a) :
    txt (crashB a [(1, B)] [(true, (m : Int))] false (nl A ++ (nl A ++ nl A))) = (A ++ (B.extract 0 m ++ A.extract m A.size)) ++ A := by
  rw [← txt_nl ((A ++ (B.extract 0 m ++ A.extract m A.size)) ++ A), nl_append, nl_append, nl_append, nl_extract, nl_extract, crashB, if_pos rfl, if_pos ⟨by omega, by omega, rfl⟩]
  congr 1
  show putB (1 * a) ((nl B).take (m : Int).toNat) _ = _
  have hl : (nl A).length = a := by rw [nl_length, hA]
  have hm : ((nl B).take m).length = m := by rw [List.length_take, nl_length, hB]; omega
  rw [Int.toNat_natCast, putB_at' (1 * a) (nl A) _ _ (by rw [hl]; omega), hm, List.drop_append_of_le_length (by omega), List.drop_zero, Nat.sub_zero, List.take_of_length_le (l := (nl A).drop m) (by rw [List.length_drop, nl_length]; exact Nat.le_refl _)]
  simp only [List.append_assoc]
theorem crashed_whole (a : Nat) (A B : ByteArray) (t : Int) (hA : A.size = a) (hB : B.size = a) (h : ¬ (0 < t ∧ t < (a : Int))) :
    txt (crashB a [(1, B)] [(true, t)] false (nl A ++ (nl A ++ nl A))) = (A ++ B) ++ A := by
  rw [← txt_nl ((A ++ B) ++ A), nl_append, nl_append, crashB, if_pos rfl, if_neg (fun x => h ⟨x.1, x.2.1⟩)]
  congr 1
  have hl : (nl A).length = a := by rw [nl_length, hA]
  show putB (1 * a) (nl B) _ = _
  rw [putB_mid (1 * a) (nl A) (nl A) (nl B) (nl A) (by rw [hl]; omega) (by rw [nl_length, nl_length, hA, hB]), List.append_assoc]
set_option maxRecDepth 100000 in
set_option maxHeartbeats 1000000 in
theorem no (a : Nat) (o f : ByteArray) (t : Int) (W : World) (h64 : 64 ≤ a) (h512 : a ≤ 512) (ho : o.size ≤ a) (hf : f.size ≤ a) :
    Calls Try.prog 6 #[.int .i64 (a : Int), .string o, .string f, .int .i64 (t), .bool false] W fun x w' => x = .returned (.bool true) ∧ Below W.heap.size W w' := by
  have d1 : decide (a < 64) = false := decide_eq_false (by omega)
  have d2 : decide (512 < a) = false := decide_eq_false (by omega)
  have d3 : decide (a < o.size) = false := decide_eq_false (by omega)
  have d4 : decide (a < f.size) = false := decide_eq_false (by omega)
  have e1 : decide ((a : Int) < 64) = false := decide_eq_false (by omega)
  have e2 : decide ((512 : Int) < (a : Int)) = false := decide_eq_false (by omega)
  have e3 : decide ((a : Int) < (o.size : Int)) = false := decide_eq_false (by omega)
  have e4 : decide ((a : Int) < (f.size : Int)) = false := decide_eq_false (by omega)
  have R0 : DkRight (a : Int) 3 := ⟨by omega, by omega, by decide, by decide⟩
  have HR0 := Lib.hid R0
  have HN : Hid ((a : Int) * 3 = ((a * 3 : Nat) : Int)) := Lib.hid (by omega)
  have hmk1 : ∀ w, (Instr.makeSlice 31 (.int .i64 ((a : Int) - (o.size : Int))) (.int .i64 ((a : Int) - (o.size : Int)))).run Try.prog w = .ok (.slice (some ⟨w.heap.size, 0, none⟩) (a - o.size) (a - o.size)) (w.alloc (.cells (zrow (a - o.size)) 5)) := fun w => mk_bytes w _ (a - o.size) (by omega) (by omega)
  have hmk2 : ∀ w, (Instr.makeSlice 31 (.int .i64 ((a : Int) - (f.size : Int))) (.int .i64 ((a : Int) - (f.size : Int)))).run Try.prog w = .ok (.slice (some ⟨w.heap.size, 0, none⟩) (a - f.size) (a - f.size)) (w.alloc (.cells (zrow (a - f.size)) 5)) := fun w => mk_bytes w _ (a - f.size) (by omega) (by omega)
  have hcv1 := fun w => cv_zeros (a - o.size) w
  have hcv2 : ∀ (w : World) (ob : Obj), (convert 31 9 (.slice (some ⟨w.heap.size + 1, 0, none⟩) (a - f.size) (a - f.size))).run Try.prog ((w.alloc ob).alloc (.cells (zrow (a - f.size)) 5)) = .ok (.string (txt (List.replicate (a - f.size) 0))) ((w.alloc ob).alloc (.cells (zrow (a - f.size)) 5)) := fun w ob => by have := cv_zeros (a - f.size) (w.alloc ob); rwa [World.size_alloc] at this
  have HZ1 : Hid ((txt (List.replicate (a - o.size) 0)).size = a - o.size) := Lib.hid (by rw [txt_size, List.length_replicate])
  have HZ2 : Hid ((txt (List.replicate (a - f.size) 0)).size = a - f.size) := Lib.hid (by rw [txt_size, List.length_replicate])
  have hs1 : (txt (List.replicate (a - o.size) 0)).size ≤ 512 := by rw [HZ1.out]; omega
  have hs2 : (txt (List.replicate (a - f.size) 0)).size ≤ 512 := by rw [HZ2.out]; omega
  generalize txt (List.replicate (a - o.size) 0) = z1 at *
  generalize txt (List.replicate (a - f.size) 0) = z2 at *
  obtain ⟨A, hA⟩ : ∃ A, A = o ++ z1 := ⟨_, rfl⟩
  obtain ⟨B, hB⟩ : ∃ B, B = f ++ z2 := ⟨_, rfl⟩
  have HA : Hid (A = o ++ z1) := Lib.hid hA
  have HB : Hid (B = f ++ z2) := Lib.hid hB
  have HAS : Hid (A.size = a) := Lib.hid (by rw [hA, ByteArray.size_append, HZ1.out]; omega)
  have HBS : Hid (B.size = a) := Lib.hid (by rw [hB, ByteArray.size_append, HZ2.out]; omega)
  clear hA hB
  go_enter Try.func6, Try.ntmps6
  go_wp2_with fail
  refine (awake _).mono ?_
  rintro x w1 ⟨rfl, b1⟩
  have HB1 := Lib.hid b1
  clear b1
  go_wp2_with fail
  refine (dk_new_ok (a : Int) 3 (a * 3) _ HR0.out HN.out).mono ?_
  intro x w2 hp
  have I2 := Lib.hid (DkI.made (a := a) (b := 3) HB1.out rfl hp)
  obtain ⟨rfl, -⟩ := hp
  generalize w1.heap.size + 1 = D at *
  generalize w1.heap.size = Sx at *
  clear d1 d2 d3 d4 e1 e2 e3 e4 R0
  go_wp2_with fail
  rw [← HA.out, ← HB.out]
  have I3 := Lib.hid ((I2.out.below (Kq.below_alloc w2 (.cells (zrow (a - o.size)) 5))).below (Kq.below_alloc (w2.alloc (.cells (zrow (a - o.size)) 5)) (.cells (zrow (a - f.size)) 5)))
  clear hmk1 hmk2 hcv1 hcv2 I2
  have FL := Lib.hid (flushed a A HAS.out)
  generalize HZR : List.replicate (a * 3) 0 = Z0 at *
  have hwr := dk_write Sx D Sx a 3 _ _ 0 _ 0 A _ I3.out.s (by omega) (by omega) HAS.out (by simp) (by decide) (by decide)
  refine hwr.mono ?_
  clear hwr
  rintro x w4 ⟨rfl, buf4, D4, K4, -⟩
  have I4 := Lib.hid (I3.out.step D4 K4)
  clear D4 K4 I3
  go_wp2_with fail
  have hwr := dk_write Sx D Sx a 3 _ _ 0 _ 1 A _ I4.out.s (by omega) (by omega) HAS.out (by simp) (by decide) (by decide)
  refine hwr.mono ?_
  clear hwr
  rintro x w5 ⟨rfl, buf5, D5, K5, -⟩
  have I5 := Lib.hid (I4.out.step D5 K5)
  clear D5 K5 I4
  go_wp2_with fail
  have hwr := dk_write Sx D Sx a 3 _ _ 0 _ 2 A _ I5.out.s (by omega) (by omega) HAS.out (by simp) (by decide) (by decide)
  refine hwr.mono ?_
  clear hwr
  rintro x w6 ⟨rfl, buf6, D6, K6, -⟩
  have I6 := Lib.hid (I5.out.step D6 K6)
  clear D6 K6 I5
  go_wp2_with fail
  have hfl := dk_flush_ok Sx D Sx a 3 _ _ 0 _ _ I6.out.s (((((WsOk.nil a 3).snoc (k := 0) (s := A) (by omega) (by omega) HAS.out).snoc (k := 1) (s := A) (by omega) (by omega) HAS.out).snoc (k := 2) (s := A) (by omega) (by omega) HAS.out)) (by rw [← HZR, List.length_replicate]) (by omega) (by omega) (by omega) (by simp) (by decide) (by decide) (by rw [← HZR]; exact zeros_lt _)
  refine hfl.mono ?_
  clear hfl
  rintro x w7 ⟨rfl, D7, K7⟩
  rw [show flushB a ([] ++ [(0, A)] ++ [(1, A)] ++ [(2, A)]) Z0 = nl A ++ (nl A ++ nl A) from FL.out] at D7
  have I7 := Lib.hid (I6.out.stepBS D7 K7)
  clear D7 K7 I6 FL HZR
  go_wp2_with fail
  have hwr := dk_write Sx D Sx a 3 _ _ 0 _ 1 B _ I7.out.s (by omega) (by omega) HBS.out (by simp) (by decide) (by decide)
  refine hwr.mono ?_
  clear hwr
  rintro x w8 ⟨rfl, buf8, D8, K8, -⟩
  have I8 := Lib.hid (I7.out.step D8 K8)
  clear D8 K8 I7
  go_wp2_with fail
  have I9 := Lib.hid (I8.out.below (Kq.below_alloc w8 (.cells #[.bool false, .int .i64 (t)] 57)))
  have CA : Hid (CwAt (w8.alloc (.cells #[.bool false, .int .i64 (t)] 57)) (some ⟨w8.heap.size, 0, none⟩) [(false, t)]) := Lib.hid ⟨fun j hj => by
    have : j = 0 := by simpa using hj
    subst this
    exact ⟨w8.heap.size, 0, rfl, by simp, Kq.blk_cell (Kq.blk_new _ _ _ _) 0, Kq.blk_cell (Kq.blk_new _ _ _ _) 1⟩⟩
  have LT : Hid (∀ x ∈ nl A ++ (nl A ++ nl A), x < 256) := Lib.hid (fun x hx => by
    rcases List.mem_append.1 hx with h | h
    · exact nl_lt A x h
    · rcases List.mem_append.1 h with h | h <;> exact nl_lt A x h)
  have LE : Hid ((nl A ++ (nl A ++ nl A)).length = a * 3) := Lib.hid (by simp only [List.length_append, nl_length, HAS.out]; omega)
  have WB := Lib.hid ((WsOk.nil a 3).snoc (k := 1) (s := B) (by omega) (by omega) HBS.out)
  have hcr := dk_crash Sx D Sx a 3 _ _ _ _ (some ⟨w8.heap.size, 0, none⟩) 1 [(false, t)] _ I9.out.s WB.out LE.out (by omega) (by omega) (by omega) (by simp) LT.out CA.out (fun g o h => by cases h; have := I8.out.s.d.sl; omega) (by simp)
  refine hcr.mono ?_
  clear hcr
  rintro x w9 ⟨rfl, D9, K9⟩
  have I10 := Lib.hid (I9.out.stepBS D9 K9)
  have OK := Lib.hid (crashB_ok a 3 ([] ++ [(1, B)]) [(false, t)] false _ WB.out LE.out LT.out)
  clear D9 K9 I9 I8 CA
  have HE : Hid (txt (crashB a ([] ++ [(1, B)]) [(false, t)] false (nl A ++ (nl A ++ nl A))) = (A ++ A) ++ A) := Lib.hid (crashed_no a A B t)
  generalize crashB a ([] ++ [(1, B)]) [(false, t)] false (nl A ++ (nl A ++ nl A)) = Z9 at *
  have hAs : A.size ≤ 512 := by rw [HAS.out]; exact h512
  have hBs : B.size ≤ 512 := by rw [HBS.out]; exact h512
  skip
  clear h64 h512 ho hf
  go_wp2_with fail
  have hst := dk_stable D Sx Z9 _ I10.out.s.d.c2 I10.out.s.s OK.out.2
  rw [HE.out] at hst
  refine hst.mono ?_
  clear hst
  rintro x w10 ⟨rfl, rfl⟩
  go_wp2
  go_ret
  exact ⟨rfl, I10.out.bel⟩
set_option maxRecDepth 100000 in
set_option maxHeartbeats 1000000 in
theorem low (a : Nat) (o f : ByteArray) (t : Int) (W : World) (h64 : 64 ≤ a) (h512 : a ≤ 512) (ho : o.size ≤ a) (hf : f.size ≤ a) (h0 : ¬ 0 < t) :
    Calls Try.prog 6 #[.int .i64 (a : Int), .string o, .string f, .int .i64 (t), .bool true] W fun x w' => x = .returned (.bool true) ∧ Below W.heap.size W w' := by
  have d1 : decide (a < 64) = false := decide_eq_false (by omega)
  have d2 : decide (512 < a) = false := decide_eq_false (by omega)
  have d3 : decide (a < o.size) = false := decide_eq_false (by omega)
  have d4 : decide (a < f.size) = false := decide_eq_false (by omega)
  have e1 : decide ((a : Int) < 64) = false := decide_eq_false (by omega)
  have e2 : decide ((512 : Int) < (a : Int)) = false := decide_eq_false (by omega)
  have e3 : decide ((a : Int) < (o.size : Int)) = false := decide_eq_false (by omega)
  have e4 : decide ((a : Int) < (f.size : Int)) = false := decide_eq_false (by omega)
  have R0 : DkRight (a : Int) 3 := ⟨by omega, by omega, by decide, by decide⟩
  have HR0 := Lib.hid R0
  have HN : Hid ((a : Int) * 3 = ((a * 3 : Nat) : Int)) := Lib.hid (by omega)
  have hmk1 : ∀ w, (Instr.makeSlice 31 (.int .i64 ((a : Int) - (o.size : Int))) (.int .i64 ((a : Int) - (o.size : Int)))).run Try.prog w = .ok (.slice (some ⟨w.heap.size, 0, none⟩) (a - o.size) (a - o.size)) (w.alloc (.cells (zrow (a - o.size)) 5)) := fun w => mk_bytes w _ (a - o.size) (by omega) (by omega)
  have hmk2 : ∀ w, (Instr.makeSlice 31 (.int .i64 ((a : Int) - (f.size : Int))) (.int .i64 ((a : Int) - (f.size : Int)))).run Try.prog w = .ok (.slice (some ⟨w.heap.size, 0, none⟩) (a - f.size) (a - f.size)) (w.alloc (.cells (zrow (a - f.size)) 5)) := fun w => mk_bytes w _ (a - f.size) (by omega) (by omega)
  have hcv1 := fun w => cv_zeros (a - o.size) w
  have hcv2 : ∀ (w : World) (ob : Obj), (convert 31 9 (.slice (some ⟨w.heap.size + 1, 0, none⟩) (a - f.size) (a - f.size))).run Try.prog ((w.alloc ob).alloc (.cells (zrow (a - f.size)) 5)) = .ok (.string (txt (List.replicate (a - f.size) 0))) ((w.alloc ob).alloc (.cells (zrow (a - f.size)) 5)) := fun w ob => by have := cv_zeros (a - f.size) (w.alloc ob); rwa [World.size_alloc] at this
  have HZ1 : Hid ((txt (List.replicate (a - o.size) 0)).size = a - o.size) := Lib.hid (by rw [txt_size, List.length_replicate])
  have HZ2 : Hid ((txt (List.replicate (a - f.size) 0)).size = a - f.size) := Lib.hid (by rw [txt_size, List.length_replicate])
  have hs1 : (txt (List.replicate (a - o.size) 0)).size ≤ 512 := by rw [HZ1.out]; omega
  have hs2 : (txt (List.replicate (a - f.size) 0)).size ≤ 512 := by rw [HZ2.out]; omega
  generalize txt (List.replicate (a - o.size) 0) = z1 at *
  generalize txt (List.replicate (a - f.size) 0) = z2 at *
  obtain ⟨A, hA⟩ : ∃ A, A = o ++ z1 := ⟨_, rfl⟩
  obtain ⟨B, hB⟩ : ∃ B, B = f ++ z2 := ⟨_, rfl⟩
  have HA : Hid (A = o ++ z1) := Lib.hid hA
  have HB : Hid (B = f ++ z2) := Lib.hid hB
  have HAS : Hid (A.size = a) := Lib.hid (by rw [hA, ByteArray.size_append, HZ1.out]; omega)
  have HBS : Hid (B.size = a) := Lib.hid (by rw [hB, ByteArray.size_append, HZ2.out]; omega)
  clear hA hB
  go_enter Try.func6, Try.ntmps6
  go_wp2_with fail
  refine (awake _).mono ?_
  rintro x w1 ⟨rfl, b1⟩
  have HB1 := Lib.hid b1
  clear b1
  go_wp2_with fail
  refine (dk_new_ok (a : Int) 3 (a * 3) _ HR0.out HN.out).mono ?_
  intro x w2 hp
  have I2 := Lib.hid (DkI.made (a := a) (b := 3) HB1.out rfl hp)
  obtain ⟨rfl, -⟩ := hp
  generalize w1.heap.size + 1 = D at *
  generalize w1.heap.size = Sx at *
  clear d1 d2 d3 d4 e1 e2 e3 e4 R0
  go_wp2_with fail
  rw [← HA.out, ← HB.out]
  have I3 := Lib.hid ((I2.out.below (Kq.below_alloc w2 (.cells (zrow (a - o.size)) 5))).below (Kq.below_alloc (w2.alloc (.cells (zrow (a - o.size)) 5)) (.cells (zrow (a - f.size)) 5)))
  clear hmk1 hmk2 hcv1 hcv2 I2
  have FL := Lib.hid (flushed a A HAS.out)
  generalize HZR : List.replicate (a * 3) 0 = Z0 at *
  have hwr := dk_write Sx D Sx a 3 _ _ 0 _ 0 A _ I3.out.s (by omega) (by omega) HAS.out (by simp) (by decide) (by decide)
  refine hwr.mono ?_
  clear hwr
  rintro x w4 ⟨rfl, buf4, D4, K4, -⟩
  have I4 := Lib.hid (I3.out.step D4 K4)
  clear D4 K4 I3
  go_wp2_with fail
  have hwr := dk_write Sx D Sx a 3 _ _ 0 _ 1 A _ I4.out.s (by omega) (by omega) HAS.out (by simp) (by decide) (by decide)
  refine hwr.mono ?_
  clear hwr
  rintro x w5 ⟨rfl, buf5, D5, K5, -⟩
  have I5 := Lib.hid (I4.out.step D5 K5)
  clear D5 K5 I4
  go_wp2_with fail
  have hwr := dk_write Sx D Sx a 3 _ _ 0 _ 2 A _ I5.out.s (by omega) (by omega) HAS.out (by simp) (by decide) (by decide)
  refine hwr.mono ?_
  clear hwr
  rintro x w6 ⟨rfl, buf6, D6, K6, -⟩
  have I6 := Lib.hid (I5.out.step D6 K6)
  clear D6 K6 I5
  go_wp2_with fail
  have hfl := dk_flush_ok Sx D Sx a 3 _ _ 0 _ _ I6.out.s (((((WsOk.nil a 3).snoc (k := 0) (s := A) (by omega) (by omega) HAS.out).snoc (k := 1) (s := A) (by omega) (by omega) HAS.out).snoc (k := 2) (s := A) (by omega) (by omega) HAS.out)) (by rw [← HZR, List.length_replicate]) (by omega) (by omega) (by omega) (by simp) (by decide) (by decide) (by rw [← HZR]; exact zeros_lt _)
  refine hfl.mono ?_
  clear hfl
  rintro x w7 ⟨rfl, D7, K7⟩
  rw [show flushB a ([] ++ [(0, A)] ++ [(1, A)] ++ [(2, A)]) Z0 = nl A ++ (nl A ++ nl A) from FL.out] at D7
  have I7 := Lib.hid (I6.out.stepBS D7 K7)
  clear D7 K7 I6 FL HZR
  go_wp2_with fail
  have hwr := dk_write Sx D Sx a 3 _ _ 0 _ 1 B _ I7.out.s (by omega) (by omega) HBS.out (by simp) (by decide) (by decide)
  refine hwr.mono ?_
  clear hwr
  rintro x w8 ⟨rfl, buf8, D8, K8, -⟩
  have I8 := Lib.hid (I7.out.step D8 K8)
  clear D8 K8 I7
  go_wp2_with fail
  have I9 := Lib.hid (I8.out.below (Kq.below_alloc w8 (.cells #[.bool true, .int .i64 (t)] 57)))
  have CA : Hid (CwAt (w8.alloc (.cells #[.bool true, .int .i64 (t)] 57)) (some ⟨w8.heap.size, 0, none⟩) [(true, t)]) := Lib.hid ⟨fun j hj => by
    have : j = 0 := by simpa using hj
    subst this
    exact ⟨w8.heap.size, 0, rfl, by simp, Kq.blk_cell (Kq.blk_new _ _ _ _) 0, Kq.blk_cell (Kq.blk_new _ _ _ _) 1⟩⟩
  have LT : Hid (∀ x ∈ nl A ++ (nl A ++ nl A), x < 256) := Lib.hid (fun x hx => by
    rcases List.mem_append.1 hx with h | h
    · exact nl_lt A x h
    · rcases List.mem_append.1 h with h | h <;> exact nl_lt A x h)
  have LE : Hid ((nl A ++ (nl A ++ nl A)).length = a * 3) := Lib.hid (by simp only [List.length_append, nl_length, HAS.out]; omega)
  have WB := Lib.hid ((WsOk.nil a 3).snoc (k := 1) (s := B) (by omega) (by omega) HBS.out)
  have hcr := dk_crash Sx D Sx a 3 _ _ _ _ (some ⟨w8.heap.size, 0, none⟩) 1 [(true, t)] _ I9.out.s WB.out LE.out (by omega) (by omega) (by omega) (by simp) LT.out CA.out (fun g o h => by cases h; have := I8.out.s.d.sl; omega) (by simp)
  refine hcr.mono ?_
  clear hcr
  rintro x w9 ⟨rfl, D9, K9⟩
  have I10 := Lib.hid (I9.out.stepBS D9 K9)
  have OK := Lib.hid (crashB_ok a 3 ([] ++ [(1, B)]) [(true, t)] false _ WB.out LE.out LT.out)
  clear D9 K9 I9 I8 CA
  have HE : Hid (txt (crashB a ([] ++ [(1, B)]) [(true, t)] false (nl A ++ (nl A ++ nl A))) = (A ++ B) ++ A) := Lib.hid (crashed_whole a A B t HAS.out HBS.out (fun h => by have := h.1; omega))
  generalize crashB a ([] ++ [(1, B)]) [(true, t)] false (nl A ++ (nl A ++ nl A)) = Z9 at *
  have hAs : A.size ≤ 512 := by rw [HAS.out]; exact h512
  have hBs : B.size ≤ 512 := by rw [HBS.out]; exact h512
  have t0 : decide ((0 : Int) < t) = false := decide_eq_false (by omega)
  clear h0
  clear h64 h512 ho hf
  go_wp2_with fail
  have hst := dk_stable D Sx Z9 _ I10.out.s.d.c2 I10.out.s.s OK.out.2
  rw [HE.out] at hst
  refine hst.mono ?_
  clear hst
  rintro x w10 ⟨rfl, rfl⟩
  go_wp2
  go_ret
  exact ⟨rfl, I10.out.bel⟩
set_option maxRecDepth 100000 in
set_option maxHeartbeats 1000000 in
theorem high (a : Nat) (o f : ByteArray) (t : Int) (W : World) (h64 : 64 ≤ a) (h512 : a ≤ 512) (ho : o.size ≤ a) (hf : f.size ≤ a) (h0 : 0 < t) (h1 : ¬ t < (a : Int)) :
    Calls Try.prog 6 #[.int .i64 (a : Int), .string o, .string f, .int .i64 (t), .bool true] W fun x w' => x = .returned (.bool true) ∧ Below W.heap.size W w' := by
  have d1 : decide (a < 64) = false := decide_eq_false (by omega)
  have d2 : decide (512 < a) = false := decide_eq_false (by omega)
  have d3 : decide (a < o.size) = false := decide_eq_false (by omega)
  have d4 : decide (a < f.size) = false := decide_eq_false (by omega)
  have e1 : decide ((a : Int) < 64) = false := decide_eq_false (by omega)
  have e2 : decide ((512 : Int) < (a : Int)) = false := decide_eq_false (by omega)
  have e3 : decide ((a : Int) < (o.size : Int)) = false := decide_eq_false (by omega)
  have e4 : decide ((a : Int) < (f.size : Int)) = false := decide_eq_false (by omega)
  have R0 : DkRight (a : Int) 3 := ⟨by omega, by omega, by decide, by decide⟩
  have HR0 := Lib.hid R0
  have HN : Hid ((a : Int) * 3 = ((a * 3 : Nat) : Int)) := Lib.hid (by omega)
  have hmk1 : ∀ w, (Instr.makeSlice 31 (.int .i64 ((a : Int) - (o.size : Int))) (.int .i64 ((a : Int) - (o.size : Int)))).run Try.prog w = .ok (.slice (some ⟨w.heap.size, 0, none⟩) (a - o.size) (a - o.size)) (w.alloc (.cells (zrow (a - o.size)) 5)) := fun w => mk_bytes w _ (a - o.size) (by omega) (by omega)
  have hmk2 : ∀ w, (Instr.makeSlice 31 (.int .i64 ((a : Int) - (f.size : Int))) (.int .i64 ((a : Int) - (f.size : Int)))).run Try.prog w = .ok (.slice (some ⟨w.heap.size, 0, none⟩) (a - f.size) (a - f.size)) (w.alloc (.cells (zrow (a - f.size)) 5)) := fun w => mk_bytes w _ (a - f.size) (by omega) (by omega)
  have hcv1 := fun w => cv_zeros (a - o.size) w
  have hcv2 : ∀ (w : World) (ob : Obj), (convert 31 9 (.slice (some ⟨w.heap.size + 1, 0, none⟩) (a - f.size) (a - f.size))).run Try.prog ((w.alloc ob).alloc (.cells (zrow (a - f.size)) 5)) = .ok (.string (txt (List.replicate (a - f.size) 0))) ((w.alloc ob).alloc (.cells (zrow (a - f.size)) 5)) := fun w ob => by have := cv_zeros (a - f.size) (w.alloc ob); rwa [World.size_alloc] at this
  have HZ1 : Hid ((txt (List.replicate (a - o.size) 0)).size = a - o.size) := Lib.hid (by rw [txt_size, List.length_replicate])
  have HZ2 : Hid ((txt (List.replicate (a - f.size) 0)).size = a - f.size) := Lib.hid (by rw [txt_size, List.length_replicate])
  have hs1 : (txt (List.replicate (a - o.size) 0)).size ≤ 512 := by rw [HZ1.out]; omega
  have hs2 : (txt (List.replicate (a - f.size) 0)).size ≤ 512 := by rw [HZ2.out]; omega
  generalize txt (List.replicate (a - o.size) 0) = z1 at *
  generalize txt (List.replicate (a - f.size) 0) = z2 at *
  obtain ⟨A, hA⟩ : ∃ A, A = o ++ z1 := ⟨_, rfl⟩
  obtain ⟨B, hB⟩ : ∃ B, B = f ++ z2 := ⟨_, rfl⟩
  have HA : Hid (A = o ++ z1) := Lib.hid hA
  have HB : Hid (B = f ++ z2) := Lib.hid hB
  have HAS : Hid (A.size = a) := Lib.hid (by rw [hA, ByteArray.size_append, HZ1.out]; omega)
  have HBS : Hid (B.size = a) := Lib.hid (by rw [hB, ByteArray.size_append, HZ2.out]; omega)
  clear hA hB
  go_enter Try.func6, Try.ntmps6
  go_wp2_with fail
  refine (awake _).mono ?_
  rintro x w1 ⟨rfl, b1⟩
  have HB1 := Lib.hid b1
  clear b1
  go_wp2_with fail
  refine (dk_new_ok (a : Int) 3 (a * 3) _ HR0.out HN.out).mono ?_
  intro x w2 hp
  have I2 := Lib.hid (DkI.made (a := a) (b := 3) HB1.out rfl hp)
  obtain ⟨rfl, -⟩ := hp
  generalize w1.heap.size + 1 = D at *
  generalize w1.heap.size = Sx at *
  clear d1 d2 d3 d4 e1 e2 e3 e4 R0
  go_wp2_with fail
  rw [← HA.out, ← HB.out]
  have I3 := Lib.hid ((I2.out.below (Kq.below_alloc w2 (.cells (zrow (a - o.size)) 5))).below (Kq.below_alloc (w2.alloc (.cells (zrow (a - o.size)) 5)) (.cells (zrow (a - f.size)) 5)))
  clear hmk1 hmk2 hcv1 hcv2 I2
  have FL := Lib.hid (flushed a A HAS.out)
  generalize HZR : List.replicate (a * 3) 0 = Z0 at *
  have hwr := dk_write Sx D Sx a 3 _ _ 0 _ 0 A _ I3.out.s (by omega) (by omega) HAS.out (by simp) (by decide) (by decide)
  refine hwr.mono ?_
  clear hwr
  rintro x w4 ⟨rfl, buf4, D4, K4, -⟩
  have I4 := Lib.hid (I3.out.step D4 K4)
  clear D4 K4 I3
  go_wp2_with fail
  have hwr := dk_write Sx D Sx a 3 _ _ 0 _ 1 A _ I4.out.s (by omega) (by omega) HAS.out (by simp) (by decide) (by decide)
  refine hwr.mono ?_
  clear hwr
  rintro x w5 ⟨rfl, buf5, D5, K5, -⟩
  have I5 := Lib.hid (I4.out.step D5 K5)
  clear D5 K5 I4
  go_wp2_with fail
  have hwr := dk_write Sx D Sx a 3 _ _ 0 _ 2 A _ I5.out.s (by omega) (by omega) HAS.out (by simp) (by decide) (by decide)
  refine hwr.mono ?_
  clear hwr
  rintro x w6 ⟨rfl, buf6, D6, K6, -⟩
  have I6 := Lib.hid (I5.out.step D6 K6)
  clear D6 K6 I5
  go_wp2_with fail
  have hfl := dk_flush_ok Sx D Sx a 3 _ _ 0 _ _ I6.out.s (((((WsOk.nil a 3).snoc (k := 0) (s := A) (by omega) (by omega) HAS.out).snoc (k := 1) (s := A) (by omega) (by omega) HAS.out).snoc (k := 2) (s := A) (by omega) (by omega) HAS.out)) (by rw [← HZR, List.length_replicate]) (by omega) (by omega) (by omega) (by simp) (by decide) (by decide) (by rw [← HZR]; exact zeros_lt _)
  refine hfl.mono ?_
  clear hfl
  rintro x w7 ⟨rfl, D7, K7⟩
  rw [show flushB a ([] ++ [(0, A)] ++ [(1, A)] ++ [(2, A)]) Z0 = nl A ++ (nl A ++ nl A) from FL.out] at D7
  have I7 := Lib.hid (I6.out.stepBS D7 K7)
  clear D7 K7 I6 FL HZR
  go_wp2_with fail
  have hwr := dk_write Sx D Sx a 3 _ _ 0 _ 1 B _ I7.out.s (by omega) (by omega) HBS.out (by simp) (by decide) (by decide)
  refine hwr.mono ?_
  clear hwr
  rintro x w8 ⟨rfl, buf8, D8, K8, -⟩
  have I8 := Lib.hid (I7.out.step D8 K8)
  clear D8 K8 I7
  go_wp2_with fail
  have I9 := Lib.hid (I8.out.below (Kq.below_alloc w8 (.cells #[.bool true, .int .i64 (t)] 57)))
  have CA : Hid (CwAt (w8.alloc (.cells #[.bool true, .int .i64 (t)] 57)) (some ⟨w8.heap.size, 0, none⟩) [(true, t)]) := Lib.hid ⟨fun j hj => by
    have : j = 0 := by simpa using hj
    subst this
    exact ⟨w8.heap.size, 0, rfl, by simp, Kq.blk_cell (Kq.blk_new _ _ _ _) 0, Kq.blk_cell (Kq.blk_new _ _ _ _) 1⟩⟩
  have LT : Hid (∀ x ∈ nl A ++ (nl A ++ nl A), x < 256) := Lib.hid (fun x hx => by
    rcases List.mem_append.1 hx with h | h
    · exact nl_lt A x h
    · rcases List.mem_append.1 h with h | h <;> exact nl_lt A x h)
  have LE : Hid ((nl A ++ (nl A ++ nl A)).length = a * 3) := Lib.hid (by simp only [List.length_append, nl_length, HAS.out]; omega)
  have WB := Lib.hid ((WsOk.nil a 3).snoc (k := 1) (s := B) (by omega) (by omega) HBS.out)
  have hcr := dk_crash Sx D Sx a 3 _ _ _ _ (some ⟨w8.heap.size, 0, none⟩) 1 [(true, t)] _ I9.out.s WB.out LE.out (by omega) (by omega) (by omega) (by simp) LT.out CA.out (fun g o h => by cases h; have := I8.out.s.d.sl; omega) (by simp)
  refine hcr.mono ?_
  clear hcr
  rintro x w9 ⟨rfl, D9, K9⟩
  have I10 := Lib.hid (I9.out.stepBS D9 K9)
  have OK := Lib.hid (crashB_ok a 3 ([] ++ [(1, B)]) [(true, t)] false _ WB.out LE.out LT.out)
  clear D9 K9 I9 I8 CA
  have HE : Hid (txt (crashB a ([] ++ [(1, B)]) [(true, t)] false (nl A ++ (nl A ++ nl A))) = (A ++ B) ++ A) := Lib.hid (crashed_whole a A B t HAS.out HBS.out (fun h => by have := h.2; omega))
  generalize crashB a ([] ++ [(1, B)]) [(true, t)] false (nl A ++ (nl A ++ nl A)) = Z9 at *
  have hAs : A.size ≤ 512 := by rw [HAS.out]; exact h512
  have hBs : B.size ≤ 512 := by rw [HBS.out]; exact h512
  have t0 : decide ((0 : Int) < t) = true := decide_eq_true h0
  have t1 : decide (t < (a : Int)) = false := decide_eq_false (by omega)
  clear h0 h1
  clear h64 h512 ho hf
  go_wp2_with fail
  have hst := dk_stable D Sx Z9 _ I10.out.s.d.c2 I10.out.s.s OK.out.2
  rw [HE.out] at hst
  refine hst.mono ?_
  clear hst
  rintro x w10 ⟨rfl, rfl⟩
  go_wp2
  go_ret
  exact ⟨rfl, I10.out.bel⟩
set_option maxRecDepth 100000 in
set_option maxHeartbeats 1000000 in
theorem torn (a : Nat) (o f : ByteArray) (m : Nat) (W : World) (h64 : 64 ≤ a) (h512 : a ≤ 512) (ho : o.size ≤ a) (hf : f.size ≤ a) (h0 : 0 < m) (h1 : m < a) :
    Calls Try.prog 6 #[.int .i64 (a : Int), .string o, .string f, .int .i64 ((m : Int)), .bool true] W fun x w' => x = .returned (.bool true) ∧ Below W.heap.size W w' := by
  have d1 : decide (a < 64) = false := decide_eq_false (by omega)
  have d2 : decide (512 < a) = false := decide_eq_false (by omega)
  have d3 : decide (a < o.size) = false := decide_eq_false (by omega)
  have d4 : decide (a < f.size) = false := decide_eq_false (by omega)
  have e1 : decide ((a : Int) < 64) = false := decide_eq_false (by omega)
  have e2 : decide ((512 : Int) < (a : Int)) = false := decide_eq_false (by omega)
  have e3 : decide ((a : Int) < (o.size : Int)) = false := decide_eq_false (by omega)
  have e4 : decide ((a : Int) < (f.size : Int)) = false := decide_eq_false (by omega)
  have R0 : DkRight (a : Int) 3 := ⟨by omega, by omega, by decide, by decide⟩
  have HR0 := Lib.hid R0
  have HN : Hid ((a : Int) * 3 = ((a * 3 : Nat) : Int)) := Lib.hid (by omega)
  have hmk1 : ∀ w, (Instr.makeSlice 31 (.int .i64 ((a : Int) - (o.size : Int))) (.int .i64 ((a : Int) - (o.size : Int)))).run Try.prog w = .ok (.slice (some ⟨w.heap.size, 0, none⟩) (a - o.size) (a - o.size)) (w.alloc (.cells (zrow (a - o.size)) 5)) := fun w => mk_bytes w _ (a - o.size) (by omega) (by omega)
  have hmk2 : ∀ w, (Instr.makeSlice 31 (.int .i64 ((a : Int) - (f.size : Int))) (.int .i64 ((a : Int) - (f.size : Int)))).run Try.prog w = .ok (.slice (some ⟨w.heap.size, 0, none⟩) (a - f.size) (a - f.size)) (w.alloc (.cells (zrow (a - f.size)) 5)) := fun w => mk_bytes w _ (a - f.size) (by omega) (by omega)
  have hcv1 := fun w => cv_zeros (a - o.size) w
  have hcv2 : ∀ (w : World) (ob : Obj), (convert 31 9 (.slice (some ⟨w.heap.size + 1, 0, none⟩) (a - f.size) (a - f.size))).run Try.prog ((w.alloc ob).alloc (.cells (zrow (a - f.size)) 5)) = .ok (.string (txt (List.replicate (a - f.size) 0))) ((w.alloc ob).alloc (.cells (zrow (a - f.size)) 5)) := fun w ob => by have := cv_zeros (a - f.size) (w.alloc ob); rwa [World.size_alloc] at this
  have HZ1 : Hid ((txt (List.replicate (a - o.size) 0)).size = a - o.size) := Lib.hid (by rw [txt_size, List.length_replicate])
  have HZ2 : Hid ((txt (List.replicate (a - f.size) 0)).size = a - f.size) := Lib.hid (by rw [txt_size, List.length_replicate])
  have hs1 : (txt (List.replicate (a - o.size) 0)).size ≤ 512 := by rw [HZ1.out]; omega
  have hs2 : (txt (List.replicate (a - f.size) 0)).size ≤ 512 := by rw [HZ2.out]; omega
  generalize txt (List.replicate (a - o.size) 0) = z1 at *
  generalize txt (List.replicate (a - f.size) 0) = z2 at *
  obtain ⟨A, hA⟩ : ∃ A, A = o ++ z1 := ⟨_, rfl⟩
  obtain ⟨B, hB⟩ : ∃ B, B = f ++ z2 := ⟨_, rfl⟩
  have HA : Hid (A = o ++ z1) := Lib.hid hA
  have HB : Hid (B = f ++ z2) := Lib.hid hB
  have HAS : Hid (A.size = a) := Lib.hid (by rw [hA, ByteArray.size_append, HZ1.out]; omega)
  have HBS : Hid (B.size = a) := Lib.hid (by rw [hB, ByteArray.size_append, HZ2.out]; omega)
  clear hA hB
  go_enter Try.func6, Try.ntmps6
  go_wp2_with fail
  refine (awake _).mono ?_
  rintro x w1 ⟨rfl, b1⟩
  have HB1 := Lib.hid b1
  clear b1
  go_wp2_with fail
  refine (dk_new_ok (a : Int) 3 (a * 3) _ HR0.out HN.out).mono ?_
  intro x w2 hp
  have I2 := Lib.hid (DkI.made (a := a) (b := 3) HB1.out rfl hp)
  obtain ⟨rfl, -⟩ := hp
  generalize w1.heap.size + 1 = D at *
  generalize w1.heap.size = Sx at *
  clear d1 d2 d3 d4 e1 e2 e3 e4 R0
  go_wp2_with fail
  rw [← HA.out, ← HB.out]
  have I3 := Lib.hid ((I2.out.below (Kq.below_alloc w2 (.cells (zrow (a - o.size)) 5))).below (Kq.below_alloc (w2.alloc (.cells (zrow (a - o.size)) 5)) (.cells (zrow (a - f.size)) 5)))
  clear hmk1 hmk2 hcv1 hcv2 I2
  have FL := Lib.hid (flushed a A HAS.out)
  generalize HZR : List.replicate (a * 3) 0 = Z0 at *
  have hwr := dk_write Sx D Sx a 3 _ _ 0 _ 0 A _ I3.out.s (by omega) (by omega) HAS.out (by simp) (by decide) (by decide)
  refine hwr.mono ?_
  clear hwr
  rintro x w4 ⟨rfl, buf4, D4, K4, -⟩
  have I4 := Lib.hid (I3.out.step D4 K4)
  clear D4 K4 I3
  go_wp2_with fail
  have hwr := dk_write Sx D Sx a 3 _ _ 0 _ 1 A _ I4.out.s (by omega) (by omega) HAS.out (by simp) (by decide) (by decide)
  refine hwr.mono ?_
  clear hwr
  rintro x w5 ⟨rfl, buf5, D5, K5, -⟩
  have I5 := Lib.hid (I4.out.step D5 K5)
  clear D5 K5 I4
  go_wp2_with fail
  have hwr := dk_write Sx D Sx a 3 _ _ 0 _ 2 A _ I5.out.s (by omega) (by omega) HAS.out (by simp) (by decide) (by decide)
  refine hwr.mono ?_
  clear hwr
  rintro x w6 ⟨rfl, buf6, D6, K6, -⟩
  have I6 := Lib.hid (I5.out.step D6 K6)
  clear D6 K6 I5
  go_wp2_with fail
  have hfl := dk_flush_ok Sx D Sx a 3 _ _ 0 _ _ I6.out.s (((((WsOk.nil a 3).snoc (k := 0) (s := A) (by omega) (by omega) HAS.out).snoc (k := 1) (s := A) (by omega) (by omega) HAS.out).snoc (k := 2) (s := A) (by omega) (by omega) HAS.out)) (by rw [← HZR, List.length_replicate]) (by omega) (by omega) (by omega) (by simp) (by decide) (by decide) (by rw [← HZR]; exact zeros_lt _)
  refine hfl.mono ?_
  clear hfl
  rintro x w7 ⟨rfl, D7, K7⟩
  rw [show flushB a ([] ++ [(0, A)] ++ [(1, A)] ++ [(2, A)]) Z0 = nl A ++ (nl A ++ nl A) from FL.out] at D7
  have I7 := Lib.hid (I6.out.stepBS D7 K7)
  clear D7 K7 I6 FL HZR
  go_wp2_with fail
  have hwr := dk_write Sx D Sx a 3 _ _ 0 _ 1 B _ I7.out.s (by omega) (by omega) HBS.out (by simp) (by decide) (by decide)
  refine hwr.mono ?_
  clear hwr
  rintro x w8 ⟨rfl, buf8, D8, K8, -⟩
  have I8 := Lib.hid (I7.out.step D8 K8)
  clear D8 K8 I7
  go_wp2_with fail
  have I9 := Lib.hid (I8.out.below (Kq.below_alloc w8 (.cells #[.bool true, .int .i64 ((m : Int))] 57)))
  have CA : Hid (CwAt (w8.alloc (.cells #[.bool true, .int .i64 ((m : Int))] 57)) (some ⟨w8.heap.size, 0, none⟩) [(true, (m : Int))]) := Lib.hid ⟨fun j hj => by
    have : j = 0 := by simpa using hj
    subst this
    exact ⟨w8.heap.size, 0, rfl, by simp, Kq.blk_cell (Kq.blk_new _ _ _ _) 0, Kq.blk_cell (Kq.blk_new _ _ _ _) 1⟩⟩
  have LT : Hid (∀ x ∈ nl A ++ (nl A ++ nl A), x < 256) := Lib.hid (fun x hx => by
    rcases List.mem_append.1 hx with h | h
    · exact nl_lt A x h
    · rcases List.mem_append.1 h with h | h <;> exact nl_lt A x h)
  have LE : Hid ((nl A ++ (nl A ++ nl A)).length = a * 3) := Lib.hid (by simp only [List.length_append, nl_length, HAS.out]; omega)
  have WB := Lib.hid ((WsOk.nil a 3).snoc (k := 1) (s := B) (by omega) (by omega) HBS.out)
  have hcr := dk_crash Sx D Sx a 3 _ _ _ _ (some ⟨w8.heap.size, 0, none⟩) 1 [(true, (m : Int))] _ I9.out.s WB.out LE.out (by omega) (by omega) (by omega) (by simp) LT.out CA.out (fun g o h => by cases h; have := I8.out.s.d.sl; omega) (by simp)
  refine hcr.mono ?_
  clear hcr
  rintro x w9 ⟨rfl, D9, K9⟩
  have I10 := Lib.hid (I9.out.stepBS D9 K9)
  have OK := Lib.hid (crashB_ok a 3 ([] ++ [(1, B)]) [(true, (m : Int))] false _ WB.out LE.out LT.out)
  clear D9 K9 I9 I8 CA
  have HE : Hid (txt (crashB a ([] ++ [(1, B)]) [(true, (m : Int))] false (nl A ++ (nl A ++ nl A))) = (A ++ (B.extract 0 m ++ A.extract m A.size)) ++ A) := Lib.hid (crashed_torn a m A B HAS.out HBS.out h0 h1)
  generalize crashB a ([] ++ [(1, B)]) [(true, (m : Int))] false (nl A ++ (nl A ++ nl A)) = Z9 at *
  have hAs : A.size ≤ 512 := by rw [HAS.out]; exact h512
  have hBs : B.size ≤ 512 := by rw [HBS.out]; exact h512
  have t0 : decide ((0 : Int) < (m : Int)) = true := decide_eq_true (by omega)
  have t1 : decide ((m : Int) < (a : Int)) = true := decide_eq_true (by omega)
  have s0 : decide (0 < m) = true := decide_eq_true h0
  have s1 : decide (m < a) = true := decide_eq_true h1
  have mA : (m : Int) ≤ (A.size : Int) := by rw [HAS.out]; omega
  have mB : (m : Int) ≤ (B.size : Int) := by rw [HBS.out]; omega
  clear h0 h1
  clear h64 h512 ho hf
  go_wp2_with fail
  go_quiet (fail)
  go_wp2_with fail
  have hst := fun q => dk_stable D Sx Z9 (w9.drewN q) (I10.out.below (below_drewN (Below.refl _ _) q)).s.d.c2 (I10.out.below (below_drewN (Below.refl _ _) q)).s.s OK.out.2
  simp only [HE.out] at hst
  refine (hst _).mono ?_
  clear hst
  rintro x w10 ⟨rfl, rfl⟩
  go_wp2
  go_ret
  exact ⟨rfl, below_drewN I10.out.bel _⟩
theorem diskTears_walk (a : Int) (o f : ByteArray) (t : Int) (lasts : Bool) (wa : (Lit.int .i64 a).wf = true) (ho : o.size ≤ maxLen) (hf : f.size ≤ maxLen) (wt : (Lit.int .i64 t).wf = true) (W : World) :
    Calls Try.prog 6 #[.int .i64 a, .string o, .string f, .int .i64 t, .bool lasts] W fun x w' => x = .returned (.bool true) ∧ Below W.heap.size W w' := by
  by_cases h : 64 ≤ a ∧ a ≤ 512 ∧ (o.size : Int) ≤ a ∧ (f.size : Int) ≤ a
  · obtain ⟨h1, h2, h3, h4⟩ := h
    obtain ⟨n, rfl⟩ := Int.eq_ofNat_of_zero_le (show 0 ≤ a by omega)
    cases lasts with
    | false => exact no n o f t W (by omega) (by omega) (by omega) (by omega)
    | true =>
      by_cases h0 : 0 < t
      · by_cases h5 : t < (n : Int)
        · obtain ⟨m, rfl⟩ := Int.eq_ofNat_of_zero_le (show 0 ≤ t by omega)
          exact torn n o f m W (by omega) (by omega) (by omega) (by omega) (by omega) (by omega)
        · exact high n o f t W (by omega) (by omega) (by omega) (by omega) h0 h5
      · exact low n o f t W (by omega) (by omega) (by omega) (by omega) h0
  · exact small_tests a o f t lasts W h
end Go.Proofs.Ytcnoakngnjbkiaa.diskTears
