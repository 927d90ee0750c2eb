/- The document's example of layer 20. No condition. -/
import Derived.WalkSpells
import Derived.Outline
import Derived.Test.YtahijpfmpdjceaaNtAwakeM
namespace Go.Proofs.Ytahijpfmpdjceaa
open Go.RowKit
set_option linter.unusedVariables false
set_option maxRecDepth 100000 in
set_option maxHeartbeats 1000000 in
theorem awake (w : World) : Calls Try.prog 7 #[] w fun e w' => e = .returned (.bool true) ∧ Below w.heap.size w w' := by
  go_enter Try.func7, Try.ntmps7
  go_wp2_with fail
  refine (nt_new _).mono ?_
  rintro e w1 ⟨rfl, hs, hb⟩
  have H1 := Lib.hid (NtI.made (W := w) (Below.refl _ _) hs hb)
  clear hs hb
  go_wp2_with fail
  refine (nt_one 1 _).mono ?_
  rintro e w2 ⟨rfl, b2⟩
  have H2 := Lib.hid (H1.out.below b2)
  clear b2 H1
  go_wp2_with fail
  refine (nt_one 2 _).mono ?_
  rintro e w3 ⟨rfl, b3⟩
  have H3 := Lib.hid (H2.out.below b3)
  clear b3 H2
  go_wp2_with fail
  obtain ⟨wy, hwy⟩ : ∃ z, z = w3.alloc (.cells #[.int .i64 1, .int .i64 0, .int .u64 1, .int .i64 0, .int .u64 0, .int .u64 0, .string ⟨#[]⟩, .string ⟨#[]⟩, .int .i64 1, .int .i64 0, .int .u64 2, .int .i64 0, .int .u64 0, .int .u64 0, .string ⟨#[]⟩, .string ⟨#[]⟩] 39) := ⟨_, rfl⟩
  rw [← hwy]
  have hm : MsAt wy (some ⟨w3.heap.size, 0, none⟩) [oneM 1, oneM 2] := by rw [hwy]; exact made_ms w3 [oneM 1, oneM 2] 39
  have H4 := H3.out.below (show Below w3.heap.size w3 wy by rw [hwy]; exact Kq.below_alloc _ _)
  clear hwy
  have hsend := aw4 w.heap.size _ w3.heap.size wy H4.s hm
  refine hsend.mono ?_
  clear hsend hm
  rintro e w5 ⟨rfl, hd⟩
  obtain ⟨v5, hi5⟩ := H4.step hd
  have H5 := Lib.hid hi5
  clear hd hi5 H4 H3
  go_wp2_with fail
  have htw := aw5 w.heap.size v5 _ H5.out.s
  refine htw.mono ?_
  clear htw
  rintro e w6 ⟨rfl, hd⟩
  obtain ⟨v6, hi6⟩ := H5.out.step hd
  have H6 := Lib.hid hi6
  clear hd hi6 H5
  go_wp2_with fail
  have hmv := aw6 w.heap.size v6 _ H6.out.s
  refine hmv.mono ?_
  clear hmv
  rintro e w7 ⟨rfl, hd⟩
  obtain ⟨v7, hi7⟩ := H6.out.step hd
  have H7 := Lib.hid hi7
  clear hd hi7 H6
  go_wp2_with fail
  refine (aw8 w.heap.size v7 _ H7.out.s).mono ?_
  rintro e w8 ⟨A8, cap8, rfl, hat, b8⟩
  have H8 := Lib.hid (And.intro (H7.out.below b8) hat)
  clear b8 hat H7
  go_wp2_with fail
  refine (nt_one 1 _).mono ?_
  rintro e w9 ⟨rfl, b9⟩
  have H9 := Lib.hid (And.intro (H8.out.1.below b9) (H8.out.2.below b9))
  clear b9 H8
  go_wp2_with fail
  refine (nt_one 1 _).mono ?_
  rintro e w10 ⟨rfl, b10⟩
  have H10 := Lib.hid (And.intro (H9.out.1.below b10) (H9.out.2.below b10))
  clear b10 H9
  go_wp2_with fail
  refine (nt_one 2 _).mono ?_
  rintro e w11 ⟨rfl, b11⟩
  have H11 := Lib.hid (And.intro (H10.out.1.below b11) (H10.out.2.below b11))
  clear b11 H10
  go_wp2_with fail
  obtain ⟨wz, hwz⟩ : ∃ z, z = w11.alloc (.cells #[.int .i64 1, .int .i64 0, .int .u64 1, .int .i64 0, .int .u64 0, .int .u64 0, .string ⟨#[]⟩, .string ⟨#[]⟩, .int .i64 1, .int .i64 0, .int .u64 1, .int .i64 0, .int .u64 0, .int .u64 0, .string ⟨#[]⟩, .string ⟨#[]⟩, .int .i64 1, .int .i64 0, .int .u64 2, .int .i64 0, .int .u64 0, .int .u64 0, .string ⟨#[]⟩, .string ⟨#[]⟩] 39) := ⟨_, rfl⟩
  rw [← hwz]
  have hbz : Below w11.heap.size w11 wz := by rw [hwz]; exact Kq.below_alloc _ _
  have hmz : MsAt wz (some ⟨w11.heap.size, 0, none⟩) [oneM 1, oneM 1, oneM 2] := by rw [hwz]; exact made_ms w11 [oneM 1, oneM 1, oneM 2] 39
  have HZ := Lib.hid (H11.out.1.below hbz)
  refine (aw7 A8 cap8 w11.heap.size wz (H11.out.2.below hbz) hmz).mono ?_
  rintro e w12 ⟨rfl, r, rfl⟩
  clear hbz hmz hwz
  go_wp2
  go_ret
  exact ⟨rfl, HZ.out.bel.trans ⟨rfl, rfl, rfl, Nat.le_refl _, fun _ _ => rfl⟩⟩
end Go.Proofs.Ytahijpfmpdjceaa
