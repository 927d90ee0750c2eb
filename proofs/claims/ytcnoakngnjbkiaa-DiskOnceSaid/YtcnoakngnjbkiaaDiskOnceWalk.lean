/- carracklaw04.DiskOnce walked. No condition. -/
import Derived.WalkSpells
import Derived.Outline
import Derived.Test.YtcnoakngnjbkiaaDkDo
import Derived.Test.YtcnoakngnjbkiaaFewNo
import Derived.Test.YtcnoakngnjbkiaaDkAwake
namespace Go.Proofs.Ytcnoakngnjbkiaa.diskOnce
open Go.RowKit
set_option linter.unusedVariables false
set_option maxRecDepth 100000 in
set_option maxHeartbeats 1000000 in
theorem many (a b : Int) (A : Option Addr) (cap : Nat) (l : List ActV) (CA : Option Addr) (ccap : Nat) (cl : List (Bool × Int)) (W : World) (hc : ActsAt W A l) (hf : ¬ fewOk a b l) :
    Calls Try.prog 8 #[.int .i64 a, .int .i64 b, .slice A l.length cap, .slice CA cl.length ccap] W fun x w' => x = .returned (.bool true) ∧ Below W.heap.size W w' := by
  have H := Lib.hid (And.intro hc hf)
  clear hc hf
  go_enter Try.func8, Try.ntmps8
  go_wp2_with fail
  refine (awake _).mono ?_
  rintro x w1 ⟨rfl, b1⟩
  have H1 := Lib.hid b1
  clear b1
  go_wp2_with fail
  refine (few_no a b A cap l _ (H.out.1.later H1.out) H.out.2).mono ?_
  rintro x w2 ⟨rfl, rfl⟩
  go_wp2
  go_ret
  exact ⟨rfl, H1.out⟩
set_option maxRecDepth 100000 in
set_option maxHeartbeats 1000000 in
theorem long (a b : Int) (A : Option Addr) (cap : Nat) (l : List ActV) (CA : Option Addr) (ccap : Nat) (cl : List (Bool × Int)) (W : World) (hc : ActsAt W A l) (hf : fewOk a b l) (hl : 100 < cl.length) :
    Calls Try.prog 8 #[.int .i64 a, .int .i64 b, .slice A l.length cap, .slice CA cl.length ccap] W fun x w' => x = .returned (.bool true) ∧ Below W.heap.size W w' := by
  have H := Lib.hid (And.intro hc hf)
  have d0 : decide ((100 : Int) < (cl.length : Int)) = true := decide_eq_true (by omega)
  have d1 : decide (100 < cl.length) = true := decide_eq_true hl
  clear hc hf hl
  go_enter Try.func8, Try.ntmps8
  go_wp2_with fail
  refine (awake _).mono ?_
  rintro x w1 ⟨rfl, b1⟩
  have H1 := Lib.hid b1
  clear b1
  go_wp2_with fail
  refine (few_ok a b A cap l _ (H.out.1.later H1.out) H.out.2).mono ?_
  rintro x w2 ⟨rfl, rfl⟩
  go_wp2
  go_ret
  exact ⟨rfl, H1.out⟩
theorem apart {W : World} {la : Option Addr} {l : List (Bool × Int)} (h : CwAt W la l) {S : Nat} (hS : W.heap.size ≤ S) : 0 < l.length → ∀ g o, la = some ⟨g, o, none⟩ → g ≠ S := by
  intro h0 g o hla
  obtain ⟨g', o', e, hlt, _⟩ := h.at_ 0 h0
  rw [hla] at e
  injection e with e
  injection e with e1
  omega
theorem StOk.up {a b N M : Nat} {ws : List (Int × ByteArray)} {armed : Nat} {st : List Nat} (h : StOk a b N ws armed st) (hN : N ≤ M) : StOk a b M ws armed st := ⟨h.w, h.len, h.lt, Nat.le_trans h.nw hN, h.ar⟩
theorem read_text (a b k : Nat) (st : List Nat) : txt (st.take (k * a)) ++ readB a [] st (k : Int) = txt (st.take ((k + 1) * a)) := by
  show txt (st.take (k * a)) ++ txt (sec a (k : Int).toNat st) = _
  rw [Int.toNat_natCast]
  unfold sec
  have e : txt (st.take (k * a)) ++ txt ((st.drop (k * a)).take a) = txt (st.take (k * a) ++ (st.drop (k * a)).take a) := by
    unfold txt
    apply ByteArray.ext
    simp [ByteArray.data_append]
  rw [e, Nat.succ_mul, List.take_add]
/-- behind the last crash -/
def Rest (W wr : World) (base B S a b : Nat) (st : List Nat) : Prop := DkI W wr base B S a b (.slice none 0 0) [] ((0 : Nat) : Int) st
set_option maxRecDepth 100000 in
set_option maxHeartbeats 4000000 in
theorem few_ (a b : Nat) (A : Option Addr) (cap : Nat) (l : List ActV) (CA : Option Addr) (ccap : Nat) (cl : List (Bool × Int)) (W : World) (hc : ActsAt W A l) (hf : fewOk a b l) (hl : ¬ 100 < cl.length) (hcw : CwAt W CA cl) :
    Calls Try.prog 8 #[.int .i64 (a : Int), .int .i64 (b : Int), .slice A l.length cap, .slice CA cl.length ccap] W fun x w' => x = .returned (.bool true) ∧ Below W.heap.size W w' := by
  have H := Lib.hid (And.intro hc hf)
  have d0 : decide ((100 : Int) < (cl.length : Int)) = false := decide_eq_false (by omega)
  have d1 : decide (100 < cl.length) = false := decide_eq_false hl
  have HCW := Lib.hid (And.intro hcw (Nat.not_lt.1 hl))
  have HR : Hid (DkRight (a : Int) (b : Int)) := Lib.hid hf.1
  have hA : 64 ≤ a ∧ a ≤ 512 := ⟨by have := hf.1.1; omega, by have := hf.1.2.1; omega⟩
  have hB : 1 ≤ b ∧ b ≤ 64 := ⟨by have := hf.1.2.2.1; omega, by have := hf.2.1; omega⟩
  have hab : a * b ≤ 32768 := Nat.le_trans (Nat.mul_le_mul hA.2 hB.2) (by decide)
  have HN := Lib.hid (And.intro hA (And.intro hB hab))
  have HL : Hid (l.length ≤ 60) := Lib.hid hf.2.2.1
  clear hc hf hl hcw hA hB hab
  go_enter Try.func8, Try.ntmps8
  go_wp2_with fail
  refine (awake _).mono ?_
  rintro x w1 ⟨rfl, b1⟩
  have H1 := Lib.hid b1
  clear b1
  go_wp2_with fail
  refine (few_ok _ _ A cap l _ (H.out.1.later H1.out) H.out.2).mono ?_
  rintro x w2 ⟨rfl, rfl⟩
  go_wp2_with fail
  refine (dk_new_ok (a : Int) (b : Int) (a * b) _ HR.out (by simp)).mono ?_
  intro x w2 hp
  have I2 := Lib.hid (DkI.made (a := a) (b := b) H1.out rfl hp)
  obtain ⟨rfl, -⟩ := hp
  generalize w1.heap.size + 1 = D at *
  generalize w1.heap.size = Sx at *
  clear d0 d1
  go_wp2
  go_loopw [11] (fun i wr => ∃ j : Nat, ∃ buf : Value, ∃ ws : List (Int × ByteArray), ∃ armed : Nat, ∃ st : List Nat, j ≤ l.length ∧ i = .int .i64 (j : Int) ∧ StOk a b j ws armed st ∧ DkI W wr Sx D Sx a b buf ws (armed : Int) st) (fun i _ => l.length - (intOf i).toNat)
  case atStart => exact ⟨0, _, [], 0, _, by omega, rfl, ⟨WsOk.nil a b, List.length_replicate .., zeros_lt _, Nat.le_refl _, Nat.zero_le _⟩, I2.out⟩
  case round =>
    obtain ⟨j, buf, ws, armed, st, hj, rfl, ho, hd⟩ := hrel
    have HD := Lib.hid (And.intro hd ho)
    clear hd ho I2
    by_cases hlt : j < l.length
    · obtain ⟨g, o, rfl, hg, hact⟩ := (H.out.1.later HD.out.1.bel) j hlt
      obtain ⟨g0, o0, hA0, hg0, hact0⟩ := H.out.1 j hlt
      obtain ⟨f1, f2⟩ := H.out.2.2.2.2 l[j] (List.getElem_mem _)
      have hl60 := HL.out
      generalize l[j] = c at *
      have HF := Lib.hid (And.intro f1 (And.intro f2 (And.intro hact.cw (And.intro (apart hact0.cw HD.out.1.hS) hact.w1))))
      have c0 := hact.c0
      have c1 := hact.c1
      have c2 := hact.c2
      have c3 := hact.c3
      have c4 := hact.c4
      clear hact hact0 f1 f2 hg hg0 hA0
      go_wp2_with fail
      refine (dk_do Sx D Sx a b buf ws armed st c _ HD.out.1.s (StOk.up HD.out.2 (by omega)) (by have := HN.out; omega) (by have := HN.out; omega) (by have := HN.out; omega) HF.out.1 HF.out.2.1 HF.out.2.2.1 HF.out.2.2.2.1).mono ?_
      rintro x w5 ⟨rfl, buf5, D5, K5, -⟩
      have H5 := Lib.hid (And.intro (doF_ok HD.out.2 c HF.out.2.2.2.2) (HD.out.1.step D5 K5))
      clear D5 K5
      clear c0 c1 c2 c3 c4
      go_wp2
      go_roundw
      case rel => exact ⟨j + 1, buf5, _, _, _, by omega, by go_num, H5.out.1, H5.out.2⟩
      case measure => simp [intOf]; omega
    · go_wp2_with fail
      have OK := Lib.hid (crashB_ok a b ws cl false st HD.out.2.w HD.out.2.len HD.out.2.lt)
      refine (dk_crash Sx D Sx a b buf ws _ st CA ccap cl _ HD.out.1.s HD.out.2.w HD.out.2.len (by have := HN.out; omega) (by have := HN.out; omega) (by have := HN.out; omega) (by have := HD.out.2.nw; have := HL.out; omega) HD.out.2.lt (HCW.out.1.below HD.out.1.bel) (apart HCW.out.1 HD.out.1.hS) (by have := HCW.out.2; omega)).mono ?_
      rintro x w6 ⟨rfl, D6, K6⟩
      have I6 : Hid (Rest W w6 Sx D Sx a b (crashB a ws cl false st)) := Lib.hid (HD.out.1.stepBS D6 K6)
      clear D6 K6 HD
      generalize crashB a ws cl false st = Z at *
      clear hlt hj
      go_wp2_with fail
      refine (dk_stable D Sx Z _ I6.out.s.d.c2 I6.out.s.s OK.out.2).mono ?_
      rintro x w7 ⟨rfl, rfl⟩
      obtain ⟨T, hT⟩ : ∃ T, T = txt Z := ⟨_, rfl⟩
      have HT := Lib.hid hT
      rw [← hT]
      clear hT
      go_wp2
      go_loopw [13] (fun i wr => ∃ k : Nat, k ≤ 3 ∧ i = .int .i64 (k : Int) ∧ Rest W wr Sx D Sx a b Z) (fun i _ => 3 - (intOf i).toNat)
      case atStart => exact ⟨0, by omega, rfl, I6.out⟩
      case round =>
        obtain ⟨k, hk, rfl, hR⟩ := hrel
        have I := Lib.hid hR
        clear hR I6
        by_cases hlt : k < 3
        · go_wp2_with fail
          refine (dk_crash Sx D Sx a b _ [] _ Z CA ccap cl _ I.out.s (WsOk.nil a b) OK.out.1 (by have := HN.out; omega) (by have := HN.out; omega) (by have := HN.out; omega) (Nat.zero_le _) OK.out.2 (HCW.out.1.below I.out.bel) (apart HCW.out.1 I.out.hS) (by have := HCW.out.2; omega)).mono ?_
          rintro x w8 ⟨rfl, D8, K8⟩
          have I8 : Hid (Rest W w8 Sx D Sx a b Z) := Lib.hid (I.out.stepBS D8 K8)
          clear D8 K8 I
          go_wp2_with fail
          refine (dk_flush_ok Sx D Sx a b _ [] 0 Z _ I8.out.s (WsOk.nil a b) OK.out.1 (by have := HN.out; omega) (by have := HN.out; omega) (by have := HN.out; omega) (Nat.zero_le _) (by decide) (by decide) OK.out.2).mono ?_
          rintro x w9 ⟨rfl, D9, K9⟩
          have I9 : Hid (Rest W w9 Sx D Sx a b Z) := Lib.hid (I8.out.stepBS D9 K9)
          clear D9 K9 I8
          go_wp2_with fail
          have hst := dk_stable D Sx Z _ I9.out.s.d.c2 I9.out.s.s OK.out.2
          rw [← HT.out] at hst
          refine hst.mono ?_
          clear hst
          rintro x w10 ⟨rfl, rfl⟩
          go_wp2_with fail
          refine (dk_buffered0 D _ I9.out.s.d.c3).mono ?_
          rintro x w11 ⟨rfl, rfl⟩
          go_wp2
          go_roundw
          case rel => exact ⟨k + 1, by omega, by go_num, I9.out⟩
          case measure => simp [intOf]; omega
        · obtain rfl : k = 3 := by omega
          clear hlt hk
          go_wp2
          go_loopw [14, 15] (fun tv i wr => ∃ n : Nat, n ≤ b ∧ i = .int .i64 (n : Int) ∧ tv = .string (txt (Z.take (n * a))) ∧ Rest W wr Sx D Sx a b Z) (fun _ i _ => b - (intOf i).toNat)
          case atStart => exact ⟨0, Nat.zero_le _, rfl, by rw [Nat.zero_mul]; rfl, I.out⟩
          case round =>
            obtain ⟨n, hn, rfl, rfl, hR⟩ := hrel
            have I := Lib.hid hR
            clear hR
            by_cases hlt : n < b
            · have hb64 := HN.out.2.1.2
              go_wp2_with fail
              refine (dk_read Sx D Sx a b n _ [] _ Z _ I.out.s OK.out.2 hlt OK.out.1 (by have := HN.out; omega) (by have := HN.out; omega) (Nat.zero_le _)).mono ?_
              rintro x w12 ⟨rfl, b12⟩
              have I12 : Hid (Rest W w12 Sx D Sx a b Z) := Lib.hid (I.out.below b12)
              clear b12 I
              have RT := Lib.hid (read_text a b n Z)
              have s1 : (txt (Z.take (n * a))).size ≤ 32768 := by rw [txt_size, List.length_take, OK.out.1]; have := HN.out.2.2; omega
              have s2 : (readB a [] Z (n : Int)).size ≤ 32768 := by
                show (txt (sec a (n : Int).toNat Z)).size ≤ _
                rw [txt_size]; unfold sec; rw [List.length_take]; have := HN.out; omega
              generalize txt (Z.take (n * a)) = X at *
              generalize readB a [] Z (n : Int) = Y at *
              have hlen : ¬ 9223372036854775807 < X.size + Y.size := by omega
              clear s1 s2
              go_wp2
              go_roundw
              case rel => (repeat apply Exists.intro); exact ⟨⟨n + 1, by omega, by go_num, by rw [← RT.out], I12.out⟩, rfl⟩
              case measure => simp [intOf]; omega
            · have hn' : n = b := by omega
              have e : txt (Z.take (n * a)) = T := by
                rw [HT.out, List.take_of_length_le]
                rw [OK.out.1, hn', Nat.mul_comm]
                exact Nat.le_refl _
              rw [e]
              clear e hn'
              go_wp2
              go_ret
              exact ⟨by simp, I.out.bel⟩
end Go.Proofs.Ytcnoakngnjbkiaa.diskOnce
namespace Go.Proofs.Ytcnoakngnjbkiaa
open Go.RowKit
theorem diskOnce_walk (a b : Int) (v u : Value) {W : World} (wa : (Lit.int .i64 a).wf = true) (wb : (Lit.int .i64 b).wf = true) (h2 : ∃ A cap l, v = .slice A l.length cap ∧ l.length ≤ maxLen ∧ ActsAt W A l) (h3 : ∃ A cap l, u = .slice A l.length cap ∧ l.length ≤ maxLen ∧ CwAt W A l) :
    Calls Try.prog 8 #[.int .i64 a, .int .i64 b, v, u] W fun x w' => x = .returned (.bool true) ∧ Below W.heap.size W w' := by
  obtain ⟨A, cap, l, rfl, _, hc⟩ := h2
  obtain ⟨CA, ccap, cl, rfl, _, hcw⟩ := h3
  by_cases hf : fewOk a b l
  · by_cases hl : 100 < cl.length
    · exact diskOnce.long a b A cap l CA ccap cl W hc hf hl
    · obtain ⟨n, rfl⟩ := Int.eq_ofNat_of_zero_le (show 0 ≤ a by have := hf.1.1; omega)
      obtain ⟨m, rfl⟩ := Int.eq_ofNat_of_zero_le (show 0 ≤ b by have := hf.1.2.2.1; omega)
      exact diskOnce.few_ n m A cap l CA ccap cl W hc hf hl hcw
  · exact diskOnce.many a b A cap l CA ccap cl W hc hf
end Go.Proofs.Ytcnoakngnjbkiaa
