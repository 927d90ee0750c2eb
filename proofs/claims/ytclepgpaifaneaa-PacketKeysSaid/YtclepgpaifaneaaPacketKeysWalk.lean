/- carracklaw10.PacketKeys walked. No condition. -/
import Derived.WalkSpells
import Derived.Test.YtclepgpaifaneaaRefVal
import Derived.Test.YtclepgpaifaneaaPkCheck
namespace Go.Proofs.Ytclepgpaifaneaa.packetKeys
open Go.RowKit
set_option linter.unusedVariables false
set_option maxRecDepth 100000 in
set_option maxHeartbeats 2000000 in
theorem early (n : Nat) (s : ByteArray) (W : World) (hs : s.size ≤ maxLen) (h3 : 300 < s.size) :
    Calls Try.prog 3 #[.int .u64 (n : Int), .string s] W fun x w' => x = .returned (.bool true) ∧ Below W.heap.size W w' := by
  unfold maxLen at hs
  go_enter Try.func3, Try.ntmps3
  go_wp2_with fail
  refine (awake _).mono ?_
  rintro x w1 ⟨rfl, b1⟩
  go_wp2
  go_ret
  exact ⟨rfl, b1⟩
set_option maxRecDepth 100000 in
set_option maxHeartbeats 4000000 in
theorem letter99 (n : Nat) (s : ByteArray) (W : World) (hn : n < M64) (h3 : ¬ 300 < s.size) (h9 : s.size = 9) (hb : (s[0]'(by omega)).toNat = 99) :
    Calls Try.prog 3 #[.int .u64 (n : Int), .string s] W fun x w' => x = .returned (.bool true) ∧ Below W.heap.size W w' := by
  have HN := Lib.hid hn
  have HS3 : Hid (s.size ≤ maxLen) := Lib.hid (by unfold maxLen; omega)
  clear hn
  have hl : letterB ((nl s).headD 0) = true := by rw [head_one s (by omega), hb]; rfl
  have HQ : Hid (seqOf s = some (WireM.val ((nl s).drop 1))) := Lib.hid (by unfold seqOf; rw [if_pos ⟨h9, hl⟩])
  have HV : Hid (∀ w : World, Calls Try.prog 13 #[.string (s.extract 1 9)] w fun x w' => x = .returned (.int .u64 ((WireM.val ((nl s).drop 1) : Nat) : Int)) ∧ w = w') := Lib.hid (fun w => by
    have h := ref_value (s.extract 1 9) w (by simp; omega)
    have e : nl (s.extract 1 9) = (nl s).drop 1 := by
      rw [nl_extract, List.take_of_length_le (by rw [List.length_drop, nl_length]; omega)]
    rw [e] at h
    exact h)
  have hp0 : (0 : Nat) < s.size := by omega
  have b99 : ((s[0].toNat : Int) == 99) = true := by rw [hb]; rfl
  have b114 : ((s[0].toNat : Int) == 114) = false := by rw [hb]; rfl
  have b97 : ((s[0].toNat : Int) == 97) = false := by rw [hb]; rfl
  clear hl hb
  go_enter Try.func3, Try.ntmps3
  go_wp2_with fail
  refine (awake _).mono ?_
  rintro x w1 ⟨rfl, b1⟩
  have H1 := Lib.hid b1
  clear b1
  go_wp2_with fail
  refine (pk_sent n _ HN.out).mono ?_
  rintro x w2 ⟨rfl, b2⟩
  have H2 := Lib.hid (H1.out.trans (b2.mono H1.out.size))
  clear b2 H1
  go_wp2_with fail
  refine (ref_key 99 n _ (by decide) HN.out).mono ?_
  rintro x w3 ⟨rfl, b3⟩
  have H3 := Lib.hid (H2.out.trans (b3.mono H2.out.size))
  clear b3 H2
  go_wp2_with fail
  refine (pk_received n _ HN.out).mono ?_
  rintro x w4 ⟨rfl, b4⟩
  have H4 := Lib.hid (H3.out.trans (b4.mono H3.out.size))
  clear b4 H3
  go_wp2_with fail
  refine (ref_key 114 n _ (by decide) HN.out).mono ?_
  rintro x w5 ⟨rfl, b5⟩
  have H5 := Lib.hid (H4.out.trans (b5.mono H4.out.size))
  clear b5 H4
  go_wp2_with fail
  refine (pk_answered n _ HN.out).mono ?_
  rintro x w6 ⟨rfl, b6⟩
  have H6 := Lib.hid (H5.out.trans (b6.mono H5.out.size))
  clear b6 H5
  go_wp2_with fail
  refine (ref_key 97 n _ (by decide) HN.out).mono ?_
  rintro x w7 ⟨rfl, b7⟩
  have H7 := Lib.hid (H6.out.trans (b7.mono H6.out.size))
  clear b7 H6
  go_wp2_with fail
  refine (pk_sequence s _ HS3.out).mono ?_
  intro x w8 hp
  unfold SeqPost at hp
  rw [HQ.out] at hp
  obtain ⟨rfl, b8⟩ := hp
  have H8 := Lib.hid (H7.out.trans (b8.mono H7.out.size))
  clear b8 H7
  go_wp2_with fail
  refine (HV.out _).mono ?_
  rintro x w9 ⟨rfl, rfl⟩
  go_wp2
  go_ret
  exact ⟨rfl, H8.out⟩
set_option maxRecDepth 100000 in
set_option maxHeartbeats 4000000 in
theorem letter114 (n : Nat) (s : ByteArray) (W : World) (hn : n < M64) (h3 : ¬ 300 < s.size) (h9 : s.size = 9) (hb : (s[0]'(by omega)).toNat = 114) :
    Calls Try.prog 3 #[.int .u64 (n : Int), .string s] W fun x w' => x = .returned (.bool true) ∧ Below W.heap.size W w' := by
  have HN := Lib.hid hn
  have HS3 : Hid (s.size ≤ maxLen) := Lib.hid (by unfold maxLen; omega)
  clear hn
  have hl : letterB ((nl s).headD 0) = true := by rw [head_one s (by omega), hb]; rfl
  have HQ : Hid (seqOf s = some (WireM.val ((nl s).drop 1))) := Lib.hid (by unfold seqOf; rw [if_pos ⟨h9, hl⟩])
  have HV : Hid (∀ w : World, Calls Try.prog 13 #[.string (s.extract 1 9)] w fun x w' => x = .returned (.int .u64 ((WireM.val ((nl s).drop 1) : Nat) : Int)) ∧ w = w') := Lib.hid (fun w => by
    have h := ref_value (s.extract 1 9) w (by simp; omega)
    have e : nl (s.extract 1 9) = (nl s).drop 1 := by
      rw [nl_extract, List.take_of_length_le (by rw [List.length_drop, nl_length]; omega)]
    rw [e] at h
    exact h)
  have hp0 : (0 : Nat) < s.size := by omega
  have b99 : ((s[0].toNat : Int) == 99) = false := by rw [hb]; rfl
  have b114 : ((s[0].toNat : Int) == 114) = true := by rw [hb]; rfl
  have b97 : ((s[0].toNat : Int) == 97) = false := by rw [hb]; rfl
  clear hl hb
  go_enter Try.func3, Try.ntmps3
  go_wp2_with fail
  refine (awake _).mono ?_
  rintro x w1 ⟨rfl, b1⟩
  have H1 := Lib.hid b1
  clear b1
  go_wp2_with fail
  refine (pk_sent n _ HN.out).mono ?_
  rintro x w2 ⟨rfl, b2⟩
  have H2 := Lib.hid (H1.out.trans (b2.mono H1.out.size))
  clear b2 H1
  go_wp2_with fail
  refine (ref_key 99 n _ (by decide) HN.out).mono ?_
  rintro x w3 ⟨rfl, b3⟩
  have H3 := Lib.hid (H2.out.trans (b3.mono H2.out.size))
  clear b3 H2
  go_wp2_with fail
  refine (pk_received n _ HN.out).mono ?_
  rintro x w4 ⟨rfl, b4⟩
  have H4 := Lib.hid (H3.out.trans (b4.mono H3.out.size))
  clear b4 H3
  go_wp2_with fail
  refine (ref_key 114 n _ (by decide) HN.out).mono ?_
  rintro x w5 ⟨rfl, b5⟩
  have H5 := Lib.hid (H4.out.trans (b5.mono H4.out.size))
  clear b5 H4
  go_wp2_with fail
  refine (pk_answered n _ HN.out).mono ?_
  rintro x w6 ⟨rfl, b6⟩
  have H6 := Lib.hid (H5.out.trans (b6.mono H5.out.size))
  clear b6 H5
  go_wp2_with fail
  refine (ref_key 97 n _ (by decide) HN.out).mono ?_
  rintro x w7 ⟨rfl, b7⟩
  have H7 := Lib.hid (H6.out.trans (b7.mono H6.out.size))
  clear b7 H6
  go_wp2_with fail
  refine (pk_sequence s _ HS3.out).mono ?_
  intro x w8 hp
  unfold SeqPost at hp
  rw [HQ.out] at hp
  obtain ⟨rfl, b8⟩ := hp
  have H8 := Lib.hid (H7.out.trans (b8.mono H7.out.size))
  clear b8 H7
  go_wp2_with fail
  refine (HV.out _).mono ?_
  rintro x w9 ⟨rfl, rfl⟩
  go_wp2
  go_ret
  exact ⟨rfl, H8.out⟩
set_option maxRecDepth 100000 in
set_option maxHeartbeats 4000000 in
theorem letter97 (n : Nat) (s : ByteArray) (W : World) (hn : n < M64) (h3 : ¬ 300 < s.size) (h9 : s.size = 9) (hb : (s[0]'(by omega)).toNat = 97) :
    Calls Try.prog 3 #[.int .u64 (n : Int), .string s] W fun x w' => x = .returned (.bool true) ∧ Below W.heap.size W w' := by
  have HN := Lib.hid hn
  have HS3 : Hid (s.size ≤ maxLen) := Lib.hid (by unfold maxLen; omega)
  clear hn
  have hl : letterB ((nl s).headD 0) = true := by rw [head_one s (by omega), hb]; rfl
  have HQ : Hid (seqOf s = some (WireM.val ((nl s).drop 1))) := Lib.hid (by unfold seqOf; rw [if_pos ⟨h9, hl⟩])
  have HV : Hid (∀ w : World, Calls Try.prog 13 #[.string (s.extract 1 9)] w fun x w' => x = .returned (.int .u64 ((WireM.val ((nl s).drop 1) : Nat) : Int)) ∧ w = w') := Lib.hid (fun w => by
    have h := ref_value (s.extract 1 9) w (by simp; omega)
    have e : nl (s.extract 1 9) = (nl s).drop 1 := by
      rw [nl_extract, List.take_of_length_le (by rw [List.length_drop, nl_length]; omega)]
    rw [e] at h
    exact h)
  have hp0 : (0 : Nat) < s.size := by omega
  have b99 : ((s[0].toNat : Int) == 99) = false := by rw [hb]; rfl
  have b114 : ((s[0].toNat : Int) == 114) = false := by rw [hb]; rfl
  have b97 : ((s[0].toNat : Int) == 97) = true := by rw [hb]; rfl
  clear hl hb
  go_enter Try.func3, Try.ntmps3
  go_wp2_with fail
  refine (awake _).mono ?_
  rintro x w1 ⟨rfl, b1⟩
  have H1 := Lib.hid b1
  clear b1
  go_wp2_with fail
  refine (pk_sent n _ HN.out).mono ?_
  rintro x w2 ⟨rfl, b2⟩
  have H2 := Lib.hid (H1.out.trans (b2.mono H1.out.size))
  clear b2 H1
  go_wp2_with fail
  refine (ref_key 99 n _ (by decide) HN.out).mono ?_
  rintro x w3 ⟨rfl, b3⟩
  have H3 := Lib.hid (H2.out.trans (b3.mono H2.out.size))
  clear b3 H2
  go_wp2_with fail
  refine (pk_received n _ HN.out).mono ?_
  rintro x w4 ⟨rfl, b4⟩
  have H4 := Lib.hid (H3.out.trans (b4.mono H3.out.size))
  clear b4 H3
  go_wp2_with fail
  refine (ref_key 114 n _ (by decide) HN.out).mono ?_
  rintro x w5 ⟨rfl, b5⟩
  have H5 := Lib.hid (H4.out.trans (b5.mono H4.out.size))
  clear b5 H4
  go_wp2_with fail
  refine (pk_answered n _ HN.out).mono ?_
  rintro x w6 ⟨rfl, b6⟩
  have H6 := Lib.hid (H5.out.trans (b6.mono H5.out.size))
  clear b6 H5
  go_wp2_with fail
  refine (ref_key 97 n _ (by decide) HN.out).mono ?_
  rintro x w7 ⟨rfl, b7⟩
  have H7 := Lib.hid (H6.out.trans (b7.mono H6.out.size))
  clear b7 H6
  go_wp2_with fail
  refine (pk_sequence s _ HS3.out).mono ?_
  intro x w8 hp
  unfold SeqPost at hp
  rw [HQ.out] at hp
  obtain ⟨rfl, b8⟩ := hp
  have H8 := Lib.hid (H7.out.trans (b8.mono H7.out.size))
  clear b8 H7
  go_wp2_with fail
  refine (HV.out _).mono ?_
  rintro x w9 ⟨rfl, rfl⟩
  go_wp2
  go_ret
  exact ⟨rfl, H8.out⟩
set_option maxRecDepth 100000 in
set_option maxHeartbeats 4000000 in
theorem other (n : Nat) (s : ByteArray) (W : World) (hn : n < M64) (h3 : ¬ 300 < s.size) (h9 : s.size = 9) (hb : ¬ ((s[0]'(by omega)).toNat = 99 ∨ (s[0]'(by omega)).toNat = 114 ∨ (s[0]'(by omega)).toNat = 97)) :
    Calls Try.prog 3 #[.int .u64 (n : Int), .string s] W fun x w' => x = .returned (.bool true) ∧ Below W.heap.size W w' := by
  have HN := Lib.hid hn
  have HS3 : Hid (s.size ≤ maxLen) := Lib.hid (by unfold maxLen; omega)
  clear hn
  have hl : letterB ((nl s).headD 0) = false := by rw [head_one s (by omega)]; unfold letterB; exact decide_eq_false (by omega)
  have HQ : Hid (seqOf s = none) := Lib.hid (by unfold seqOf; rw [if_neg (by rw [hl]; simp)])
  have hp0 : (0 : Nat) < s.size := by omega
  have b99 : ((s[0].toNat : Int) == 99) = false := by simp; omega
  have b114 : ((s[0].toNat : Int) == 114) = false := by simp; omega
  have b97 : ((s[0].toNat : Int) == 97) = false := by simp; omega
  clear hl hb
  go_enter Try.func3, Try.ntmps3
  go_wp2_with fail
  refine (awake _).mono ?_
  rintro x w1 ⟨rfl, b1⟩
  have H1 := Lib.hid b1
  clear b1
  go_wp2_with fail
  refine (pk_sent n _ HN.out).mono ?_
  rintro x w2 ⟨rfl, b2⟩
  have H2 := Lib.hid (H1.out.trans (b2.mono H1.out.size))
  clear b2 H1
  go_wp2_with fail
  refine (ref_key 99 n _ (by decide) HN.out).mono ?_
  rintro x w3 ⟨rfl, b3⟩
  have H3 := Lib.hid (H2.out.trans (b3.mono H2.out.size))
  clear b3 H2
  go_wp2_with fail
  refine (pk_received n _ HN.out).mono ?_
  rintro x w4 ⟨rfl, b4⟩
  have H4 := Lib.hid (H3.out.trans (b4.mono H3.out.size))
  clear b4 H3
  go_wp2_with fail
  refine (ref_key 114 n _ (by decide) HN.out).mono ?_
  rintro x w5 ⟨rfl, b5⟩
  have H5 := Lib.hid (H4.out.trans (b5.mono H4.out.size))
  clear b5 H4
  go_wp2_with fail
  refine (pk_answered n _ HN.out).mono ?_
  rintro x w6 ⟨rfl, b6⟩
  have H6 := Lib.hid (H5.out.trans (b6.mono H5.out.size))
  clear b6 H5
  go_wp2_with fail
  refine (ref_key 97 n _ (by decide) HN.out).mono ?_
  rintro x w7 ⟨rfl, b7⟩
  have H7 := Lib.hid (H6.out.trans (b7.mono H6.out.size))
  clear b7 H6
  go_wp2_with fail
  refine (pk_sequence s _ HS3.out).mono ?_
  intro x w8 hp
  unfold SeqPost at hp
  rw [HQ.out] at hp
  obtain ⟨rfl, b8⟩ := hp
  have H8 := Lib.hid (H7.out.trans (b8.mono H7.out.size))
  clear b8 H7
  go_wp2
  go_ret
  exact ⟨rfl, H8.out⟩
set_option maxRecDepth 100000 in
set_option maxHeartbeats 4000000 in
theorem long (n : Nat) (s : ByteArray) (W : World) (hn : n < M64) (h3 : ¬ 300 < s.size) (h9 : ¬ s.size = 9) :
    Calls Try.prog 3 #[.int .u64 (n : Int), .string s] W fun x w' => x = .returned (.bool true) ∧ Below W.heap.size W w' := by
  have HN := Lib.hid hn
  have HS3 : Hid (s.size ≤ maxLen) := Lib.hid (by unfold maxLen; omega)
  clear hn
  have HQ : Hid (seqOf s = none) := Lib.hid (by unfold seqOf; rw [if_neg (by omega)])
  have hb9 : ((s.size : Int) == 9) = false := by simp; omega
  go_enter Try.func3, Try.ntmps3
  go_wp2_with fail
  refine (awake _).mono ?_
  rintro x w1 ⟨rfl, b1⟩
  have H1 := Lib.hid b1
  clear b1
  go_wp2_with fail
  refine (pk_sent n _ HN.out).mono ?_
  rintro x w2 ⟨rfl, b2⟩
  have H2 := Lib.hid (H1.out.trans (b2.mono H1.out.size))
  clear b2 H1
  go_wp2_with fail
  refine (ref_key 99 n _ (by decide) HN.out).mono ?_
  rintro x w3 ⟨rfl, b3⟩
  have H3 := Lib.hid (H2.out.trans (b3.mono H2.out.size))
  clear b3 H2
  go_wp2_with fail
  refine (pk_received n _ HN.out).mono ?_
  rintro x w4 ⟨rfl, b4⟩
  have H4 := Lib.hid (H3.out.trans (b4.mono H3.out.size))
  clear b4 H3
  go_wp2_with fail
  refine (ref_key 114 n _ (by decide) HN.out).mono ?_
  rintro x w5 ⟨rfl, b5⟩
  have H5 := Lib.hid (H4.out.trans (b5.mono H4.out.size))
  clear b5 H4
  go_wp2_with fail
  refine (pk_answered n _ HN.out).mono ?_
  rintro x w6 ⟨rfl, b6⟩
  have H6 := Lib.hid (H5.out.trans (b6.mono H5.out.size))
  clear b6 H5
  go_wp2_with fail
  refine (ref_key 97 n _ (by decide) HN.out).mono ?_
  rintro x w7 ⟨rfl, b7⟩
  have H7 := Lib.hid (H6.out.trans (b7.mono H6.out.size))
  clear b7 H6
  go_wp2_with fail
  refine (pk_sequence s _ HS3.out).mono ?_
  intro x w8 hp
  unfold SeqPost at hp
  rw [HQ.out] at hp
  obtain ⟨rfl, b8⟩ := hp
  have H8 := Lib.hid (H7.out.trans (b8.mono H7.out.size))
  clear b8 H7
  go_wp2
  go_ret
  exact ⟨rfl, H8.out⟩
theorem packetKeys_walk (x : Int) (s : ByteArray) (wx : (Lit.int .u64 x).wf = true) (hs : s.size ≤ maxLen) (W : World) :
    Calls Try.prog 3 #[.int .u64 x, .string s] W fun x w' => x = .returned (.bool true) ∧ Below W.heap.size W w' := by
  have hx : 0 ≤ x ∧ x < 18446744073709551616 := by simp [Lit.wf, IntKind.min, IntKind.max, IntKind.signed, IntKind.bits] at wx; omega
  obtain ⟨n, rfl⟩ := Int.eq_ofNat_of_zero_le hx.1
  have hn : n < M64 := by unfold M64; omega
  by_cases h3 : 300 < s.size
  · exact early n s W hs h3
  by_cases h9 : s.size = 9
  · by_cases h1 : (s[0]'(by omega)).toNat = 99
    · exact letter99 n s W hn h3 h9 h1
    by_cases h2 : (s[0]'(by omega)).toNat = 114
    · exact letter114 n s W hn h3 h9 h2
    by_cases h4 : (s[0]'(by omega)).toNat = 97
    · exact letter97 n s W hn h3 h9 h4
    exact other n s W hn h3 h9 (by omega)
  · exact long n s W hn h3 h9
end Go.Proofs.Ytclepgpaifaneaa.packetKeys
