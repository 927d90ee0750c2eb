/- Contract of carrackref03.Write: what calls write, and an error. Condition: not too many calls. -/
import Derived.WalkSpells
import Derived.Deep.RegionHeld
import Derived.Deep.DrawnRows
import Derived.Test.YtiokelnnimoljaaRefNum
namespace Go.Proofs.Ytiokelnnimoljaa
open Go.RowKit
set_option linter.unusedVariables false
theorem txt_app2 (l m : List Nat) (hl : ∀ b ∈ l, b < 256) (hm : ∀ b ∈ m, b < 256) : txt (l ++ m) = txt l ++ txt m := by
  apply nl_inj
  rw [nl_append, nl_txt _ hl, nl_txt _ hm, nl_txt _ (fun b hb => (List.mem_append.1 hb).elim (hl b) (hm b))]
theorem txt_nl (s : ByteArray) : txt (nl s) = s := by apply nl_inj; rw [nl_txt _ (nl_lt s)]
theorem num_one (z : Int) (h : 0 ≤ z ∧ z ≤ 255) (w : World) : Calls Try.prog 29 #[.int .u64 z, .int .i64 1] w fun x w' => x = .returned (.string (txt [z.toNat])) ∧ Below w.heap.size w w' := by
  have e : z = ((z.toNat : Nat) : Int) := by omega
  have := ref_num z.toNat 1 w (by unfold M64; omega) (by omega)
  rw [← e, be1 _ (by omega)] at this
  exact this
theorem num_two (n : Nat) (h : n ≤ 65535) (w : World) : Calls Try.prog 29 #[.int .u64 (n : Int), .int .i64 2] w fun x w' => x = .returned (.string (txt (hi2 n))) ∧ Below w.heap.size w w' := by
  have := ref_num n 2 w (by unfold M64; omega) (by omega)
  rw [be2 _ (by omega)] at this
  exact this
theorem num_eight (z : Int) (h : (Lit.int .u64 z).wf = true) (w : World) : Calls Try.prog 29 #[.int .u64 z, .int .i64 8] w fun x w' => x = .returned (.string (txt (num8 z.toNat))) ∧ Below w.heap.size w w' := by
  have hr : 0 ≤ z ∧ z < 18446744073709551616 := by
    simp [Lit.wf, IntKind.min, IntKind.max, IntKind.signed, IntKind.bits] at h
    omega
  have e : z = ((z.toNat : Nat) : Int) := by omega
  have := ref_num z.toNat 8 w (by unfold M64; omega) (by omega)
  rw [← e, be8] at this
  exact this
theorem num8_lt (n : Nat) : ∀ b ∈ num8 n, b < 256 := by rw [← be8]; exact be_lt n 8
theorem hi2_lt (n : Nat) (h : n ≤ 65535) : ∀ b ∈ hi2 n, b < 256 := by rw [← be2 n (by omega)]; exact be_lt n 2
theorem one_bad (x : Int × List Nat) (c : CallV) (hx : x.1 = 0 ∨ x.1 = 1) (hk : c.kind = 0) (h : c.k < 0 ∨ 255 < c.k) : putOne x c = (1, x.2) := by
  unfold putOne keepE; rw [if_pos hk, if_pos h]; rcases hx with h | h <;> simp [h]
theorem two_bad (x : Int × List Nat) (c : CallV) (hx : x.1 = 0 ∨ x.1 = 1) (hk : c.kind = 2) (h : 65535 < c.s.size) : putOne x c = (1, x.2) := by
  unfold putOne keepE; rw [if_neg (by omega), if_neg (by omega), if_pos hk, if_pos h]; rcases hx with h | h <;> simp [h]
theorem p_byte (x : Int × List Nat) (c : CallV) (hk : c.kind = 0) (h : 0 ≤ c.k ∧ c.k ≤ 255) (hx : ∀ b ∈ x.2, b < 256) : (putOne x c).1 = x.1 ∧ txt (putOne x c).2 = txt x.2 ++ txt [c.k.toNat] := by
  unfold putOne; rw [if_pos hk, if_neg (by omega)]
  exact ⟨rfl, txt_app2 _ _ hx (by intro b hb; rw [List.mem_singleton] at hb; omega)⟩
theorem p_num (x : Int × List Nat) (c : CallV) (hk : c.kind = 1) (hx : ∀ b ∈ x.2, b < 256) : (putOne x c).1 = x.1 ∧ txt (putOne x c).2 = txt x.2 ++ txt (num8 c.n.toNat) := by
  unfold putOne; rw [if_neg (by omega), if_pos hk]
  exact ⟨rfl, txt_app2 _ _ hx (num8_lt _)⟩
theorem p_text (x : Int × List Nat) (c : CallV) (hk : c.kind = 2) (h : ¬ 65535 < c.s.size) (hx : ∀ b ∈ x.2, b < 256) : (putOne x c).1 = x.1 ∧ txt (putOne x c).2 = (txt x.2 ++ txt (hi2 c.s.size)) ++ c.s := by
  unfold putOne; rw [if_neg (by omega), if_neg (by omega), if_pos hk, if_neg h]
  have h2 := hi2_lt c.s.size (by omega)
  refine ⟨rfl, ?_⟩
  show txt (x.2 ++ hi2 c.s.size ++ nl c.s) = _
  rw [txt_app2 _ _ (fun b hb => (List.mem_append.1 hb).elim (hx b) (h2 b)) (nl_lt _), txt_app2 _ _ hx h2, txt_nl]
theorem p_raw (x : Int × List Nat) (c : CallV) (hk : c.kind = 3) (hx : ∀ b ∈ x.2, b < 256) : (putOne x c).1 = x.1 ∧ txt (putOne x c).2 = txt x.2 ++ c.s := by
  unfold putOne; rw [if_neg (by omega), if_neg (by omega), if_neg (by omega), if_pos hk]
  refine ⟨rfl, ?_⟩
  show txt (x.2 ++ nl c.s) = _
  rw [txt_app2 _ _ hx (nl_lt _), txt_nl]
attribute [local go_sem ↓] Go.wp_at_zero Go.wp_at_succ
set_option maxRecDepth 100000 in
set_option maxHeartbeats 4000000 in
theorem ref_write (a : Option Addr) (cap : Nat) (l : List CallV) (w : World) (hl : l.length ≤ maxLen) (hc : CallsAt w a l) (hf : fewOk l) :
    Calls Try.prog 12 #[.slice a l.length cap] w fun x w' => x = .returned (.tuple #[.string (bytesOf (putAll (0, []) l).1 (putAll (0, []) l).2), .int .i64 (putAll (0, []) l).1]) ∧ Below w.heap.size w w' := by
  have HL := Lib.hid hl
  unfold maxLen at hl
  have HC := Lib.hid hc
  have HF := Lib.hid hf
  clear hc hf
  go_enter Try.func12, Try.ntmps12
  go_wp2
  go_loopw [4, 5, 6] (fun s e i wr => ∃ k : Nat, k ≤ l.length ∧ i = .int .i64 k ∧ s = .string (txt (putAll (0, []) (l.take k)).2) ∧ e = .int .i64 (putAll (0, []) (l.take k)).1 ∧ Below w.heap.size w wr) (fun _ _ i _ => l.length - (intOf i).toNat)
  case atStart => exact ⟨0, by omega, rfl, rfl, rfl, Below.refl _ _⟩
  case round =>
    obtain ⟨k, hk, rfl, rfl, rfl, hb⟩ := hrel
    by_cases hlt : k < l.length
    · obtain ⟨b, off, rfl, hblt, hcell0⟩ := HC.out.later hb k hlt
      have hG := Lib.hid (putAll_succ (0, []) l k hlt)
      have hT := putAll_len (0, []) (l.take k)
      have hT2 := total_succ l k hlt
      have hT3 := total_le l (k + 1)
      have hT4 := HF.out.1
      have hT5 : (putAll (0, []) (l.take k)).2.length + l[k].s.size ≤ 1000000 := by
        have := HF.out.2
        rw [List.length_take] at hT
        simp only [List.length_nil] at hT
        omega
      have hP := Lib.hid (putAll_lt (0, []) (l.take k) (by simp))
      have hE := Lib.hid (putAll_err (0, []) (l.take k) (Or.inl rfl))
      clear hT hT2 hT3 hT4
      have HLT := Lib.hid hlt
      obtain ⟨c, hcell1, hG, hT5⟩ : ∃ c : CallV, IsCall wr b (off + k * 4) c ∧ Hid (putAll (0, []) (l.take (k + 1)) = putOne (putAll (0, []) (l.take k)) c) ∧ (putAll (0, []) (l.take k)).2.length + c.s.size ≤ 1000000 := ⟨l[k], hcell0, hG, hT5⟩
      have HT5 := Lib.hid hT5
      have HB := Lib.hid hb
      clear hT5 hb hcell0
      have c0 := hcell1.c0
      have c1 := hcell1.c1
      have c2 := hcell1.c2
      have c3 := hcell1.c3
      have W2 := Lib.hid hcell1.w2
      clear hcell1
      generalize putAll (0, []) (l.take k) = x at *
      have hxs : (txt x.2).size ≤ 1000000 := by rw [txt_size]; have := HT5.out; omega
      have hcs : c.s.size ≤ 1000000 := by have := HT5.out; omega
      obtain ⟨s, hs⟩ : ∃ s, s = txt x.2 := ⟨_, rfl⟩
      rw [← hs] at hxs ⊢
      have HSX := Lib.hid hs
      clear hs
      by_cases q0 : c.kind = 0
      · rw [q0] at c0
        by_cases n0 : c.k < 0
        · have HN := Lib.hid (one_bad x c hE.out q0 (Or.inl n0))
          clear q0
          go_wp2
          go_round
          case rel => exact ⟨k + 1, by have := HLT.out; omega, by go_num, by rw [hG.out, HN.out, HSX.out], by rw [hG.out, HN.out], HB.out.trans ((Kq.below_alloc _ _).mono HB.out.size)⟩
          case measure => have := HLT.out; simp [intOf]; omega
        · by_cases n1 : 255 < c.k
          · have HN := Lib.hid (one_bad x c hE.out q0 (Or.inr n1))
            clear q0
            go_wp2
            go_round
            case rel => exact ⟨k + 1, by have := HLT.out; omega, by go_num, by rw [hG.out, HN.out, HSX.out], by rw [hG.out, HN.out], HB.out.trans ((Kq.below_alloc _ _).mono HB.out.size)⟩
            case measure => have := HLT.out; simp [intOf]; omega
          · have HN := Lib.hid (p_byte x c q0 (by omega) hP.out)
            have HR : Hid (0 ≤ c.k ∧ c.k ≤ 255) := Lib.hid (by omega)
            clear q0
            go_wp2_with fail
            refine (num_one c.k HR.out _).mono ?_
            rintro y w6 ⟨rfl, b6⟩
            have H6 := Lib.hid ((HB.out.trans ((Kq.below_alloc _ _).mono HB.out.size)).trans (b6.mono (Nat.le_trans HB.out.size (Kq.below_alloc _ _).size)))
            clear b6
            have htz : (txt [c.k.toNat]).size = 1 := by rw [txt_size]; rfl
            obtain ⟨t, ht⟩ : ∃ t, t = txt [c.k.toNat] := ⟨_, rfl⟩
            rw [← ht] at htz ⊢
            have HTX := Lib.hid ht
            clear ht
            go_wp2
            go_round
            case rel => exact ⟨k + 1, by have := HLT.out; omega, by go_num, by rw [hG.out, HN.out.2, HSX.out, HTX.out], by rw [hG.out, HN.out.1], H6.out⟩
            case measure => have := HLT.out; simp [intOf]; omega
      by_cases q1 : c.kind = 1
      · rw [q1] at c0
        have HN := Lib.hid (p_num x c q1 hP.out)
        clear q0 q1
        go_wp2_with fail
        refine (num_eight c.n W2.out _).mono ?_
        rintro y w6 ⟨rfl, b6⟩
        have H6 := Lib.hid ((HB.out.trans ((Kq.below_alloc _ _).mono HB.out.size)).trans (b6.mono (Nat.le_trans HB.out.size (Kq.below_alloc _ _).size)))
        clear b6
        have htz : (txt (num8 c.n.toNat)).size = 8 := by rw [txt_size]; rfl
        obtain ⟨t, ht⟩ : ∃ t, t = txt (num8 c.n.toNat) := ⟨_, rfl⟩
        rw [← ht] at htz ⊢
        have HTX := Lib.hid ht
        clear ht
        go_wp2
        go_round
        case rel => exact ⟨k + 1, by have := HLT.out; omega, by go_num, by rw [hG.out, HN.out.2, HSX.out, HTX.out], by rw [hG.out, HN.out.1], H6.out⟩
        case measure => have := HLT.out; simp [intOf]; omega
      by_cases q2 : c.kind = 2
      · rw [q2] at c0
        by_cases n2 : 65535 < c.s.size
        · have HN := Lib.hid (two_bad x c hE.out q2 n2)
          clear q0 q1 q2
          go_wp2
          go_round
          case rel => exact ⟨k + 1, by have := HLT.out; omega, by go_num, by rw [hG.out, HN.out, HSX.out], by rw [hG.out, HN.out], HB.out.trans ((Kq.below_alloc _ _).mono HB.out.size)⟩
          case measure => have := HLT.out; simp [intOf]; omega
        · have HN := Lib.hid (p_text x c q2 n2 hP.out)
          have HR : Hid (c.s.size ≤ 65535) := Lib.hid (by omega)
          clear q0 q1 q2
          go_wp2
          obtain ⟨t, ht, htz, hnum⟩ : ∃ t, Hid (t = txt (hi2 c.s.size)) ∧ t.size = 2 ∧ Hid (∀ w : World, Calls Try.prog 29 #[.int .u64 ((c.s.size : Nat) : Int), .int .i64 2] w fun x w' => x = .returned (.string t) ∧ Below w.heap.size w w') := ⟨_, Lib.hid rfl, by rw [txt_size]; rfl, Lib.hid (fun w => num_two c.s.size HR.out w)⟩
          have hl1 : ¬ 9223372036854775807 < s.size + t.size := by omega
          have hl3 : ¬ 9223372036854775807 < s.size + t.size + c.s.size := by omega
          have hl2 : ¬ 9223372036854775807 < (s ++ t).size + c.s.size := by rw [ByteArray.size_append]; omega
          have hw : IntKind.u64.wrap ((c.s.size : Nat) : Int) = ((c.s.size : Nat) : Int) := IntWalk.u64_in _ (by omega)
          have HZ := Lib.hid (HB.out.trans ((Kq.below_alloc wr (Obj.cells #[Value.int IntKind.i64 2, Value.int IntKind.i64 c.k, Value.int IntKind.u64 c.n, Value.string c.s] 44)).mono HB.out.size)).drew
          clear c0 c1 c2 c3 HB
          go_region_held (fun w' => w'.cell? ⟨wr.heap.size, 3, none⟩ = some (.string c.s)) (first | go_keep | (exact (hb1.cell (p := ⟨wr.heap.size, 3, none⟩) (by simp)).trans (by simp)))
            (first | (go_at_call 29; refine (hnum.out _).mono ?_; rintro e z1 ⟨rfl, hb1⟩))
          have H6 := Lib.hid (HZ.out.trans (hb1.mono HZ.out.size))
          clear hl1 hl2 hl3 hw hb1 HZ
          go_wp2
          go_roundw
          case rel => exact ⟨k + 1, by have := HLT.out; omega, by go_num, by rw [hG.out, HN.out.2, HSX.out, ht.out], by rw [hG.out, HN.out.1], H6.out⟩
          case measure => have := HLT.out; simp [intOf]; omega
      by_cases q3 : c.kind = 3
      · rw [q3] at c0
        have HN := Lib.hid (p_raw x c q3 hP.out)
        clear q0 q1 q2 q3
        go_wp2
        go_round
        case rel => exact ⟨k + 1, by have := HLT.out; omega, by go_num, by rw [hG.out, HN.out.2, HSX.out], by rw [hG.out, HN.out.1], HB.out.trans ((Kq.below_alloc _ _).mono HB.out.size)⟩
        case measure => have := HLT.out; simp [intOf]; omega
      have r0 : (c.kind == 0) = false := by simpa using q0
      have r1 : (c.kind == 1) = false := by simpa using q1
      have r2 : (c.kind == 2) = false := by simpa using q2
      have r3 : (c.kind == 3) = false := by simpa using q3
      have HN := Lib.hid (one_none x c q0 q1 q2 q3)
      go_wp2
      go_round
      case rel => exact ⟨k + 1, by have := HLT.out; omega, by go_num, by rw [hG.out, HN.out, HSX.out], by rw [hG.out, HN.out], HB.out.trans ((Kq.below_alloc _ _).mono HB.out.size)⟩
      case measure => have := HLT.out; simp [intOf]; omega
    · have hk' : k = l.length := Nat.le_antisymm hk (Nat.not_lt.1 hlt)
      subst hk'
      rw [List.take_length]
      have HB := Lib.hid hb
      clear hb
      have hE := putAll_err (0, []) l (Or.inl rfl)
      rcases hE with hE | hE
      · have hb0 : bytesOf (putAll (0, []) l).1 (putAll (0, []) l).2 = txt (putAll (0, []) l).2 := by rw [hE]; rfl
        have hne : ((putAll (0, []) l).1 != 0) = false := by rw [hE]; rfl
        have HX := Lib.hid (And.intro hE hb0)
        clear hE hb0
        go_wp2
        go_ret2
        exact ⟨by rw [HX.out.2, HX.out.1]; rfl, HB.out⟩
      · have hb0 : bytesOf (putAll (0, []) l).1 (putAll (0, []) l).2 = ⟨#[]⟩ := by rw [hE]; rfl
        have hne : ((putAll (0, []) l).1 != 0) = true := by rw [hE]; rfl
        have HX := Lib.hid hb0
        clear hE hb0
        go_wp2
        go_ret2
        exact ⟨by rw [HX.out]; rfl, HB.out⟩
end Go.Proofs.Ytiokelnnimoljaa
