/- carracklaw03.WireJoins walked. No condition. -/
import Derived.WalkSpells
import Derived.Test.YtkjcpoeakdlplaaPuts
namespace Go.Proofs.Ytkjcpoeakdlplaa.wireJoins
open Go.RowKit
set_option linter.unusedVariables false
theorem three (w : World) : ∃ N, N = w.heap.size ∧ (((w.alloc (.cells #[.int .i64 0, .slice none 0 0] 41 (0, 0))).alloc (.cells #[.int .i64 0, .slice none 0 0] 41 (0, 0))).alloc (.cells #[.int .i64 0, .slice none 0 0] 41 (0, 0))).heap.size = N + 3 ∧ Below N w (((w.alloc (.cells #[.int .i64 0, .slice none 0 0] 41 (0, 0))).alloc (.cells #[.int .i64 0, .slice none 0 0] 41 (0, 0))).alloc (.cells #[.int .i64 0, .slice none 0 0] 41 (0, 0))) ∧
    Wr (((w.alloc (.cells #[.int .i64 0, .slice none 0 0] 41 (0, 0))).alloc (.cells #[.int .i64 0, .slice none 0 0] 41 (0, 0))).alloc (.cells #[.int .i64 0, .slice none 0 0] 41 (0, 0))) N N 0 (.slice none 0 0) [] ∧ Wr (((w.alloc (.cells #[.int .i64 0, .slice none 0 0] 41 (0, 0))).alloc (.cells #[.int .i64 0, .slice none 0 0] 41 (0, 0))).alloc (.cells #[.int .i64 0, .slice none 0 0] 41 (0, 0))) N (N + 1) 0 (.slice none 0 0) [] ∧ Wr (((w.alloc (.cells #[.int .i64 0, .slice none 0 0] 41 (0, 0))).alloc (.cells #[.int .i64 0, .slice none 0 0] 41 (0, 0))).alloc (.cells #[.int .i64 0, .slice none 0 0] 41 (0, 0))) N (N + 1 + 1) 0 (.slice none 0 0) [] := by
  have e1 : (w.alloc (.cells #[.int .i64 0, .slice none 0 0] 41 (0, 0))).heap.size = w.heap.size + 1 := by simp
  have e2 : ((w.alloc (.cells #[.int .i64 0, .slice none 0 0] 41 (0, 0))).alloc (.cells #[.int .i64 0, .slice none 0 0] 41 (0, 0))).heap.size = w.heap.size + 2 := by simp
  have e3 : (((w.alloc (.cells #[.int .i64 0, .slice none 0 0] 41 (0, 0))).alloc (.cells #[.int .i64 0, .slice none 0 0] 41 (0, 0))).alloc (.cells #[.int .i64 0, .slice none 0 0] 41 (0, 0))).heap.size = w.heap.size + 3 := by simp
  refine ⟨_, rfl, e3, ?_, ⟨?_, World.ownsRow_nil _ _ _ _, (fun k hk => by cases hk), ?_⟩, ⟨?_, World.ownsRow_nil _ _ _ _, (fun k hk => by cases hk), ?_⟩, ⟨?_, World.ownsRow_nil _ _ _ _, (fun k hk => by cases hk), ?_⟩⟩
  · exact ((Kq.below_alloc w _).alloc (Nat.le_of_lt (by omega)) _).alloc (by omega) _
  · rw [Below.heap_alloc _ _ _ (by omega), Below.heap_alloc _ _ _ (by omega)]
    exact Kq.blk_new w _ _ _
  · omega
  · rw [Below.heap_alloc _ _ _ (by omega), ← e1]
    exact Kq.blk_new _ _ _ _
  · omega
  · rw [← e2]
    exact Kq.blk_new _ _ _ _
  · omega
theorem ext_l (a b : ByteArray) : (a ++ b).extract 0 a.size = a := by
  apply nl_inj
  rw [nl_extract, nl_append, Nat.sub_zero, List.drop_zero, ← nl_length a, List.take_left]
theorem ext_r (a b : ByteArray) : (a ++ b).extract a.size (a ++ b).size = b := by
  apply nl_inj
  have h : (a ++ b).size = a.size + b.size := by rw [← nl_length, nl_append, List.length_append, nl_length, nl_length]
  rw [nl_extract, nl_append, h, ← nl_length a, List.drop_left, ← nl_length b]
  rw [show (nl a).length + (nl b).length - (nl a).length = (nl b).length by omega, List.take_length]
theorem txt_app (l m : List Nat) (hl : ∀ b ∈ l, b < 256) (hm : ∀ b ∈ m, b < 256) : txt (l ++ m) = txt l ++ txt m := by
  apply nl_inj
  rw [nl_append, nl_txt _ hl, nl_txt _ hm, nl_txt _ (fun b hb => (List.mem_append.1 hb).elim (hl b) (hm b))]
theorem raw_first (B : Nat) (a b : ByteArray) (w : World) (h : Rd w B 0 (a ++ b)) (hs : (a ++ b).size ≤ maxLen) :
    Calls Try.prog 47 #[.pointer (some ⟨B, 0, none⟩), .int .i64 (a.size : Int)] w fun x w' => x = .returned (.string a) ∧ Rd w' B 0 b ∧ Kq.Keeps (· = B) w w' :=
  (rd_raw B 0 (a ++ b) (a.size : Int) w h hs).mono fun x w' hp => by
    have h : (a ++ b).size = a.size + b.size := by rw [← nl_length, nl_append, List.length_append, nl_length, nl_length]
    unfold RawPost at hp
    rw [WireM.raw_ok (a ++ b) a.size (by omega), ext_l, ext_r] at hp
    exact hp
theorem raw_whole (B : Nat) (b : ByteArray) (w : World) (h : Rd w B 0 b) (hs : b.size ≤ maxLen) :
    Calls Try.prog 47 #[.pointer (some ⟨B, 0, none⟩), .int .i64 (b.size : Int)] w fun x w' => x = .returned (.string b) ∧ Rd w' B 0 ⟨#[]⟩ ∧ Kq.Keeps (· = B) w w' :=
  (rd_raw B 0 b (b.size : Int) w h hs).mono fun x w' hp => by
    unfold RawPost at hp
    have e1 : b.extract 0 b.size = b := by apply nl_inj; rw [nl_extract, Nat.sub_zero, List.drop_zero, ← nl_length b, List.take_length]
    have e2 : b.extract b.size b.size = ⟨#[]⟩ := by apply nl_inj; rw [nl_extract, Nat.sub_self, List.take_zero]; rfl
    rw [WireM.raw_ok b b.size (Nat.le_refl _), e1, e2] at hp
    exact hp
theorem left_ok (B : Nat) (s : ByteArray) (w : World) (h : Rd w B 0 s) : Calls Try.prog 50 #[.pointer (some ⟨B, 0, none⟩)] w fun x w' => x = .returned (.int .i64 ((s.size : Nat) : Int)) ∧ w = w' := rd_left B 0 s w h
theorem end_ok (B : Nat) (w : World) (h : Rd w B 0 ⟨#[]⟩) : Calls Try.prog 53 #[.pointer (some ⟨B, 0, none⟩)] w fun x w' => x = .returned (.int .i64 0) ∧ w = w' := rd_end B 0 ⟨#[]⟩ w h
set_option maxRecDepth 100000 in
set_option maxHeartbeats 4000000 in
theorem early (a a' : Option Addr) (cap cap' : Nat) (l m : List CallV) (W : World) (hl : l.length ≤ maxLen) (hc : CallsAt W a l) (hm : m.length ≤ maxLen) (hc' : CallsAt W a' m) (hk : ¬ fewOk l ∨ ¬ fewOk m) :
    Calls Try.prog 12 #[.slice a l.length cap, .slice a' m.length cap'] W fun x w' => x = .returned (.bool true) ∧ Below W.heap.size W w' := by
  have HC := Lib.hid hc
  have HC' := Lib.hid hc'
  clear hc hc'
  by_cases hf : fewOk l
  · have hg := hk.resolve_left (fun h => h hf)
    clear hk
    go_enter Try.func12, Try.ntmps12
    go_wp2_with fail
    refine (awake _).mono ?_
    rintro x w1 ⟨rfl, hb⟩
    go_wp2_with fail
    refine (few_ok a cap l _ hl (HC.out.later hb) hf).mono ?_
    rintro x w2 ⟨rfl, rfl⟩
    go_wp2_with fail
    refine (few_no a' cap' m _ hm (HC'.out.later hb) hg).mono ?_
    rintro x w2 ⟨rfl, rfl⟩
    go_wp2
    go_ret
    exact ⟨rfl, hb⟩
  · clear hk
    go_enter Try.func12, Try.ntmps12
    go_wp2_with fail
    refine (awake _).mono ?_
    rintro x w1 ⟨rfl, hb⟩
    go_wp2_with fail
    refine (few_no a cap l _ hl (HC.out.later hb) hf).mono ?_
    rintro x w2 ⟨rfl, rfl⟩
    go_wp2
    go_ret
    exact ⟨rfl, hb⟩
set_option maxRecDepth 100000 in
set_option maxHeartbeats 4000000 in
theorem main (a a' : Option Addr) (cap cap' : Nat) (l m : List CallV) (W : World) (hl : l.length ≤ maxLen) (hc : CallsAt W a l) (hm : m.length ≤ maxLen) (hc' : CallsAt W a' m) (hf : fewOk l) (hg : fewOk m) :
    Calls Try.prog 12 #[.slice a l.length cap, .slice a' m.length cap'] W fun x w' => x = .returned (.bool true) ∧ Below W.heap.size W w' := by
  have HC := Lib.hid hc
  have HC' := Lib.hid hc'
  have HF := Lib.hid hf
  have HG := Lib.hid hg
  clear hc hc' hf hg
  go_enter Try.func12, Try.ntmps12
  go_wp2_with fail
  refine (awake _).mono ?_
  rintro x w1 ⟨rfl, hb⟩
  go_wp2_with fail
  refine (few_ok a cap l _ hl (HC.out.later hb) HF.out).mono ?_
  rintro x w2 ⟨rfl, rfl⟩
  go_wp2_with fail
  refine (few_ok a' cap' m _ hm (HC'.out.later hb) HG.out).mono ?_
  rintro x w2 ⟨rfl, rfl⟩
  go_wp2_with fail
  obtain ⟨N, hN, hs3, b3, A3, B3, C3⟩ := three w1
  have hWN : W.heap.size ≤ N := by rw [hN]; exact hb.size
  have hb3 := hb.trans (b3.mono hWN)
  clear hb b3
  rw [← hN]
  clear hN
  generalize (((w1.alloc (.cells #[.int .i64 0, .slice none 0 0] 41 (0, 0))).alloc (.cells #[.int .i64 0, .slice none 0 0] 41 (0, 0))).alloc (.cells #[.int .i64 0, .slice none 0 0] 41 (0, 0))) = w3 at *
  have P1 : Hid (∀ b ∈ (putAll (0, []) l).2, b < 256) := Lib.hid (putAll_lt _ l (by simp))
  have P2 : Hid (∀ b ∈ (putAll (0, []) m).2, b < 256) := Lib.hid (putAll_lt _ m (by simp))
  have Q1 : Hid ((putAll (0, []) l).2.length ≤ 80000) := Lib.hid (by
    have h1 := putAll_len (0, []) l
    obtain ⟨h2, h3⟩ := HF.out
    simp only [List.length_nil] at h1
    omega)
  have Q2 : Hid ((putAll (0, []) m).2.length ≤ 80000) := Lib.hid (by
    have h1 := putAll_len (0, []) m
    obtain ⟨h2, h3⟩ := HG.out
    simp only [List.length_nil] at h1
    omega)
  have E1 : Hid ((putAll (0, []) l).1 = 0 ∨ (putAll (0, []) l).1 = 1) := Lib.hid (putAll_err _ l (Or.inl rfl))
  have E2 : Hid ((putAll (0, []) m).1 = 0 ∨ (putAll (0, []) m).1 = 1) := Lib.hid (putAll_err _ m (Or.inl rfl))
  refine (put_fresh N N a cap l W w3 hl HC.out hb3 hWN HF.out A3).mono ?_
  rintro x w4 ⟨rfl, va, A4, K4, oa⟩
  have hb4 := hb3.trans (K4.below hb3.size (fun k _ e => by subst e; exact hWN))
  have B4 := B3.later K4 (by omega) (fun k hk => by cases hk)
  have C4 := C3.later K4 (by omega) (fun k hk => by cases hk)
  have s4 := K4.size
  rw [hs3] at oa s4
  clear A3 B3 C3 K4 hb3 hs3
  have R : Hid _ := Lib.hid (And.intro A4 (And.intro oa (And.intro hb4 (And.intro B4 (And.intro C4 s4)))))
  clear A4 oa hb4 B4 C4 s4
  go_wp2_with fail
  obtain ⟨A4, oa, hb4, B4, C4, s4⟩ := R.out
  clear R
  refine (put_fresh N (N + 1) a' cap' m W w4 hm HC'.out hb4 (by omega) HG.out B4).mono ?_
  rintro x w5 ⟨rfl, vb, B5, K5, ob⟩
  have hb5 := hb4.trans (K5.below hb4.size (fun k _ e => by subst e; omega))
  have A5 := A4.later K5 (by omega) (fun k hk e => by have := oa k hk; omega)
  have C5 := C4.later K5 (by omega) (fun k hk => by cases hk)
  have s5 := K5.size
  have oa2 : ∀ k, va.ownBlock = some k → k < w5.heap.size := fun k hk => Nat.lt_of_lt_of_le (A4.own.lt k hk).2 s5
  have ob2 : ∀ k, vb.ownBlock = some k → k < w5.heap.size ∧ N + 3 ≤ k := fun k hk => ⟨(B5.own.lt k hk).2, Nat.le_trans s4 (ob k hk)⟩
  have s5' : N + 3 ≤ w5.heap.size := Nat.le_trans s4 s5
  clear A4 B4 C4 K5 hb4 s4 s5 ob
  have R : Hid _ := Lib.hid (And.intro A5 (And.intro oa (And.intro hb5 (And.intro B5 (And.intro C5 (And.intro oa2 (And.intro ob2 s5')))))))
  clear A5 oa hb5 B5 C5 oa2 ob2 s5'
  go_wp2_with fail
  obtain ⟨A5, oa, hb5, B5, C5, oa2, ob2, s5⟩ := R.out
  clear R
  refine (put_fresh N (N + 1 + 1) a cap l W w5 hl HC.out hb5 (by omega) HF.out C5).mono ?_
  rintro x w6 ⟨rfl, vc, C6, K6, oc⟩
  have hb6 := hb5.trans (K6.below hb5.size (fun k _ e => by subst e; omega))
  have A6 := A5.later K6 (by omega) (fun k hk e => by have := oa k hk; omega)
  have B6 := B5.later K6 (by omega) (fun k hk e => by have := (ob2 k hk).2; omega)
  have h5 := hb5.size
  clear A5 B5 C5 K6 hb5
  have R : Hid _ := Lib.hid (And.intro A6 (And.intro oa (And.intro hb6 (And.intro B6 (And.intro C6 (And.intro oa2 (And.intro ob2 (And.intro s5 (And.intro oc h5)))))))))
  clear A6 oa hb6 B6 C6 oa2 ob2 s5 oc h5
  go_wp2_with fail
  obtain ⟨A6, oa, hb6, B6, C6, oa2, ob2, s5, oc, h5⟩ := R.out
  clear R
  refine (put_calls N (N + 1 + 1) (putAll (0, []) l) vc a' cap' m W w6 hm HC'.out hb6 (by omega) (fun k hk => by have := oc k hk; omega) HG.out (by have := Q1.out; omega) C6).mono ?_
  rintro x w7 ⟨rfl, vd, D7, K7, od⟩
  have hb7 := hb6.trans (K7.below hb6.size (fun k _ e => by
    rcases e with e | e
    · omega
    · have := oc k e.symm; omega))
  have A7 := A6.later K7 (by rintro (e | e); · omega
                             · have := oc _ e.symm; omega) (fun k hk e => by
    have h1 := oa k hk
    have h2 := oa2 k hk
    rcases e with e | e
    · omega
    · have := oc k e.symm; omega)
  have B7 := B6.later K7 (by rintro (e | e); · omega
                             · have := oc _ e.symm; omega) (fun k hk e => by
    have h1 := ob2 k hk
    rcases e with e | e
    · omega
    · have := oc k e.symm; omega)
  rw [putAll_split] at D7
  clear A6 B6 C6 K7 hb6 oa oa2 ob2 s5 oc h5 od
  generalize (putAll (0, []) l).1 = ea at *
  generalize (putAll (0, []) l).2 = la at *
  generalize (putAll (0, []) m).1 = eb at *
  generalize (putAll (0, []) m).2 = lb at *
  simp only [] at D7
  have R : Hid _ := Lib.hid (And.intro A7 (And.intro B7 (And.intro D7 hb7)))
  clear A7 B7 D7 hb7
  go_wp2_with fail
  refine (wr_bytes N N ea va la _ R.out.1 P1.out).mono ?_
  rintro x w8 ⟨rfl, rfl⟩
  go_wp2_with fail
  refine (wr_bytes N (N + 1) eb vb lb _ R.out.2.1 P2.out).mono ?_
  rintro x w8 ⟨rfl, rfl⟩
  go_wp2_with fail
  refine (wr_bytes N (N + 1 + 1) (keepE ea eb) vd (la ++ lb) _ R.out.2.2.1 (fun b hb => (List.mem_append.1 hb).elim (P1.out b) (P2.out b))).mono ?_
  rintro x w8 ⟨rfl, rfl⟩
  rcases E1.out with rfl | rfl
  · rcases E2.out with rfl | rfl
    · have hb7 := R.out.2.2.2
      have HB := Lib.hid hb7
      clear hb7 R E1 E2
      rw [show bytesOf (keepE 0 0) (la ++ lb) = txt la ++ txt lb from txt_app la lb P1.out P2.out, show keepE 0 0 = 0 from rfl, show bytesOf 0 la = txt la from rfl, show bytesOf 0 lb = txt lb from rfl]
      have z1 : (txt la).size ≤ 80000 := by rw [txt_size]; exact Q1.out
      have z2 : (txt lb).size ≤ 80000 := by rw [txt_size]; exact Q2.out
      clear P1 P2 Q1 Q2
      generalize txt la = s at *
      generalize txt lb = t at *
      have hlen : ¬ 9223372036854775807 < s.size + t.size := by omega
      have hst : (s ++ t).size = s.size + t.size := by rw [← nl_length, nl_append, List.length_append, nl_length, nl_length]
      have HX : Hid ((s ++ t).size ≤ maxLen) := Lib.hid (by unfold maxLen; omega)
      have HT : Hid (t.size ≤ maxLen) := Lib.hid (by unfold maxLen; omega)
      clear hst
      go_wp2_with fail
      refine (rd_new (s ++ t) _).mono ?_
      rintro x w9 ⟨rfl, R9, b9⟩
      have H9 := Lib.hid (HB.out.trans (b9.mono HB.out.size))
      have L9 := Lib.hid HB.out.size
      have T9 := Lib.hid R9
      clear b9 R9 HB
      generalize w7.heap.size = M at *
      go_wp2_with fail
      refine (raw_first M s t _ T9.out HX.out).mono ?_
      rintro x w10 ⟨rfl, R10, K10⟩
      have H10 := Lib.hid (H9.out.trans (K10.below H9.out.size (fun k _ e => by subst e; exact L9.out)))
      have T10 := Lib.hid R10
      clear R10 K10 H9 T9
      go_wp2_with fail
      refine (left_ok M t _ T10.out).mono ?_
      rintro x w11 ⟨rfl, rfl⟩
      go_wp2_with fail
      refine (raw_whole M t _ T10.out HT.out).mono ?_
      rintro x w11 ⟨rfl, R11, K11⟩
      have H11 := Lib.hid (H10.out.trans (K11.below H10.out.size (fun k _ e => by subst e; exact L9.out)))
      have T11 := Lib.hid R11
      clear R11 K11 H10 T10
      go_wp2_with fail
      refine (end_ok M _ T11.out).mono ?_
      rintro x w12 ⟨rfl, rfl⟩
      go_wp2
      go_ret
      exact ⟨rfl, H11.out⟩
    · rw [show bytesOf (keepE 0 1) (la ++ lb) = ⟨#[]⟩ from rfl, show keepE 0 1 = 1 from rfl]
      go_wp2
      go_ret
      exact ⟨rfl, R.out.2.2.2⟩
  · rw [show bytesOf (keepE 1 eb) (la ++ lb) = ⟨#[]⟩ from rfl, show keepE 1 eb = 1 from rfl]
    go_wp2
    go_ret
    exact ⟨rfl, R.out.2.2.2⟩
theorem wireJoins_walk (v v' : Value) {W : World}
    (hd : ∃ a len cap l, v = .slice a len cap ∧ l.length = len ∧ len ≤ maxLen ∧ CallsAt W a l) (hd' : ∃ a len cap l, v' = .slice a len cap ∧ l.length = len ∧ len ≤ maxLen ∧ CallsAt W a l) :
    Calls Try.prog 12 #[v, v'] W fun x w' => x = .returned (.bool true) ∧ Below W.heap.size W w' := by
  obtain ⟨a, len, cap, l, rfl, rfl, hl, hc⟩ := hd
  obtain ⟨a', len', cap', m, rfl, rfl, hm, hc'⟩ := hd'
  by_cases hf : fewOk l
  · by_cases hg : fewOk m
    · exact main a a' cap cap' l m W hl hc hm hc' hf hg
    · exact early a a' cap cap' l m W hl hc hm hc' (Or.inr hg)
  · exact early a a' cap cap' l m W hl hc hm hc' (Or.inl hf)
end Go.Proofs.Ytkjcpoeakdlplaa.wireJoins
