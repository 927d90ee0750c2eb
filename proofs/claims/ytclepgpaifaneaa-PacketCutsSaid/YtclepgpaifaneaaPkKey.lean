/- Contracts of packet's keys. No condition. -/
import Derived.WalkSpells
import Derived.Outline
import Derived.Test.YtclepgpaifaneaaWrNew
import Derived.Test.YtclepgpaifaneaaRefNum
namespace Go.Proofs.Ytclepgpaifaneaa
open Go.RowKit
set_option linter.unusedVariables false
/-- a key: a letter, a number -/
def keyT (c n : Nat) : ByteArray := txt (c :: num8 n)
theorem keyT_size (c n : Nat) : (keyT c n).size = 9 := by unfold keyT; rw [txt_size]; rfl
theorem num8_lt (n : Nat) : ∀ b ∈ num8 n, b < 256 := by rw [← be8]; exact be_lt n 8
theorem keyT_nl (c n : Nat) (hc : c < 256) : nl (keyT c n) = c :: num8 n :=
  nl_txt _ (by intro b hb; rcases List.mem_cons.1 hb with rfl | h; exact hc; exact num8_lt n b h)
theorem WrMid.fresh_own {w wr : World} {base B : Nat} {v : Value} {e : Int} {l : List Nat} (h : WrMid w base B (.slice none 0 0) e v l wr) : True := trivial
set_option maxRecDepth 100000 in
set_option maxHeartbeats 2000000 in
theorem pk_key (b c n : Nat) (w : World) (hb : b < w.heap.size) (hc : c < 256) (hn : n < M64) (hcell : w.cell? ⟨b, 0, none⟩ = some (.int .u64 (n : Int))) :
    Calls Try.prog 23 #[.string (txt [c]), .slice (some ⟨b, 0, none⟩) 1 1] w fun x w' => x = .returned (.string (keyT c n)) ∧ Below w.heap.size w w' := by
  have HC := Lib.hid hcell
  have HN := Lib.hid hn
  have hnl : nl (txt [c]) = [c] := nl_txt _ (by simpa using hc)
  have HL := Lib.hid hnl
  have HCC := Lib.hid hc
  have HBB := Lib.hid hb
  clear hcell hn hc hnl
  have hsz : (txt [c]).size = 1 := by rw [txt_size]; rfl
  go_enter Try.func23, Try.ntmps23
  go_wp2_with fail
  refine (wr_raw _ _ _ _ _ (txt [c]) _ (wr_new w) (by rw [hsz]; decide)).mono ?_
  rintro x w2 hp
  obtain ⟨v2, M2⟩ := (WrMid.start (wr_new w)).step hp.any
  obtain ⟨rfl, -⟩ := hp
  rw [HL.out] at M2
  have H2 := Lib.hid M2
  clear M2
  go_wp2
  go_loopw [14] (fun i wr => (i = .int .i64 0 ∧ ∃ v, WrMid (w.alloc (.cells #[.int .i64 0, .slice none 0 0] 63 (0, 0))) w.heap.size w.heap.size (.slice none 0 0) 0 v [c] wr) ∨ (i = .int .i64 1 ∧ ∃ v, WrMid (w.alloc (.cells #[.int .i64 0, .slice none 0 0] 63 (0, 0))) w.heap.size w.heap.size (.slice none 0 0) 0 v (c :: num8 n) wr)) (fun i _ => 1 - (intOf i).toNat)
  case atStart => exact Or.inl ⟨rfl, v2, H2.out⟩
  case round =>
    clear H2
    rcases hrel with ⟨rfl, v, hM⟩ | ⟨rfl, v, hM⟩
    · have HM := Lib.hid hM
      have hc := (hM.below.cell (p := ⟨b, 0, none⟩) HBB.out).trans HC.out
      clear hM
      go_wp2_with fail
      refine (wr_number _ _ _ _ _ n _ HM.out.it HN.out (by simp)).mono ?_
      rintro x w4 hp
      obtain ⟨v4, M4⟩ := HM.out.step hp
      obtain ⟨rfl, -⟩ := hp
      have H4 := Lib.hid M4
      clear M4 hc
      go_wp2
      go_round
      case rel => exact Or.inr ⟨rfl, v4, H4.out⟩
      case measure => simp [intOf]
    · have HM := Lib.hid hM
      clear hM
      go_wp2_with fail
      refine (wr_bytes_ok _ _ _ (c :: num8 n) _ HM.out.it (by intro x hx; rcases List.mem_cons.1 hx with rfl | h; exact HCC.out; exact num8_lt n x h)).mono ?_
      rintro x w5 ⟨rfl, rfl⟩
      have HB := Lib.hid HM.out.below
      clear HM
      go_wp2
      go_ret
      exact ⟨rfl, HB.out⟩
/-- packet.Sent, Received, Answered -/
theorem one_num (w : World) (n : Nat) : (w.alloc (.cells #[.int .u64 (n : Int)] 22)).cell? ⟨w.heap.size, 0, none⟩ = some (.int .u64 (n : Int)) := by simp
set_option maxRecDepth 100000 in
theorem pk_sent (n : Nat) (w : World) (hn : n < M64) :
    Calls Try.prog 8 #[.int .u64 (n : Int)] w fun x w' => x = .returned (.string (keyT 99 n)) ∧ Below w.heap.size w w' := by
  have HN := Lib.hid hn
  clear hn
  go_enter Try.func8, Try.ntmps8
  go_wp2_with fail
  refine (pk_key w.heap.size 99 n _ (by simp) (by decide) HN.out (one_num w n)).mono ?_
  rintro x w2 ⟨rfl, b2⟩
  have HB := Lib.hid ((Kq.below_alloc w _).trans (b2.mono (Kq.below_alloc w _).size))
  clear b2
  go_wp2
  go_ret
  exact ⟨rfl, HB.out⟩
set_option maxRecDepth 100000 in
theorem pk_received (n : Nat) (w : World) (hn : n < M64) :
    Calls Try.prog 10 #[.int .u64 (n : Int)] w fun x w' => x = .returned (.string (keyT 114 n)) ∧ Below w.heap.size w w' := by
  have HN := Lib.hid hn
  clear hn
  go_enter Try.func10, Try.ntmps10
  go_wp2_with fail
  refine (pk_key w.heap.size 114 n _ (by simp) (by decide) HN.out (one_num w n)).mono ?_
  rintro x w2 ⟨rfl, b2⟩
  have HB := Lib.hid ((Kq.below_alloc w _).trans (b2.mono (Kq.below_alloc w _).size))
  clear b2
  go_wp2
  go_ret
  exact ⟨rfl, HB.out⟩
set_option maxRecDepth 100000 in
theorem pk_answered (n : Nat) (w : World) (hn : n < M64) :
    Calls Try.prog 11 #[.int .u64 (n : Int)] w fun x w' => x = .returned (.string (keyT 97 n)) ∧ Below w.heap.size w w' := by
  have HN := Lib.hid hn
  clear hn
  go_enter Try.func11, Try.ntmps11
  go_wp2_with fail
  refine (pk_key w.heap.size 97 n _ (by simp) (by decide) HN.out (one_num w n)).mono ?_
  rintro x w2 ⟨rfl, b2⟩
  have HB := Lib.hid ((Kq.below_alloc w _).trans (b2.mono (Kq.below_alloc w _).size))
  clear b2
  go_wp2
  go_ret
  exact ⟨rfl, HB.out⟩
theorem ref_key (c n : Nat) (w : World) (hc : c < 256) (hn : n < M64) :
    Calls Try.prog 9 #[.string (txt [c]), .int .u64 (n : Int)] w fun x w' => x = .returned (.string (keyT c n)) ∧ Below w.heap.size w w' := by
  have HN := Lib.hid hn
  have HJ := Lib.hid (txt_cons c (num8 n) hc (num8_lt n))
  have h1 : (txt [c]).size = 1 := by rw [txt_size]; rfl
  have h2 : (txt (num8 n)).size = 8 := by rw [txt_size]; rfl
  clear hn hc
  go_enter Try.func9, Try.ntmps9
  go_wp2_with fail
  refine (ref_num n 8 _ HN.out (by decide)).mono ?_
  rw [be8]
  rintro x w2 ⟨rfl, b2⟩
  have HB := Lib.hid b2
  clear b2
  generalize txt [c] = s at *
  generalize txt (num8 n) = t at *
  go_wp2
  go_ret
  exact ⟨by rw [HJ.out]; rfl, HB.out⟩
end Go.Proofs.Ytclepgpaifaneaa
