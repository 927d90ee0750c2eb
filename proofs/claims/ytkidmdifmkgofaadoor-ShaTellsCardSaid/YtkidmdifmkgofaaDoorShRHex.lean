/- Contract of carrackref01.Hex: the digits of sha.Hex. Condition: sizes. -/
import Derived.WalkSpells
import Derived.Outline
import Derived.Deep.QuietTactic
import Derived.BigQuiet
import Derived.Test.YtkidmdifmkgofaaDoorChecked
import Derived.Test.YtkidmdifmkgofaaDoorShHex2
namespace Go.Proofs.YtkidmdifmkgofaaDoor
open Go.RowKit
set_option linter.unusedVariables false
theorem dext_all : ∀ q : Fin 16, (⟨#[48, 49, 50, 51, 52, 53, 54, 55, 56, 57, 97, 98, 99, 100, 101, 102]⟩ : ByteArray).extract q.val (q.val + 1) = txt [hexd q.val] := by decide
theorem dslice (wx : World) (q r : Nat) (hq : q < 16) (hr : r = q + 1) : (Instr.slice 9 (.string ⟨#[48, 49, 50, 51, 52, 53, 54, 55, 56, 57, 97, 98, 99, 100, 101, 102]⟩) (some (.int .u8 (q : Int))) (some (.int .u8 (r : Int))) none).run Tryd.prog wx = .ok (.string (txt [hexd q])) wx := by
  subst hr
  have h := run_slice_string (P := Tryd.prog) wx 9 ⟨#[48, 49, 50, 51, 52, 53, 54, 55, 56, 57, 97, 98, 99, 100, 101, 102]⟩ .u8 .u8 (q : Int) ((q + 1 : Nat) : Int) Tryd.underlying9 (by omega) (by omega) (by show ((q + 1 : Nat) : Int) ≤ ((16 : Nat) : Int); omega)
  rw [h]
  simp only [Int.toNat_natCast]
  rw [dext_all ⟨q, hq⟩]
theorem txt_two (l : List Nat) (a b : Nat) : txt l ++ txt [a] ++ txt [b] = txt (l ++ [a, b]) := by
  apply ByteArray.ext
  simp [txt]
set_option maxRecDepth 100000 in
set_option maxHeartbeats 1000000 in
theorem sr_hex (s : ByteArray) (w : World) (hs : s.size ≤ 100000) :
    Calls Tryd.prog 14 #[.string s] w fun e w' => e = .returned (.string (txt (hexl (nl s)))) ∧ ∃ m, w' = w.drewN m := by
  have hnl : (nl s).length = s.size := by simp [nl]
  have HNL := Lib.hid hnl
  clear hnl
  go_enter Tryd.func14, Tryd.ntmps14
  go_wp2
  go_loopw [3, 4] (fun o i wr => ∃ k m : Nat, k ≤ s.size ∧ i = .int .i64 (k : Int) ∧ o = .string (txt (hexl ((nl s).take k))) ∧ wr = w.drewN m) (fun o i _ => s.size - (intOf i).toNat)
  case atStart => exact ⟨0, 0, Nat.zero_le _, rfl, rfl, rfl⟩
  case round =>
    obtain ⟨k, m, hk, rfl, rfl, rfl⟩ := hrel
    by_cases hlt : k < s.size
    · have l1 : (k : Int) < (s.size : Int) := by omega
      have HT := Lib.hid (nl_at s k hlt)
      have hx : s[k].toNat < 256 := s[k].toNat_lt
      obtain ⟨q, hq⟩ : ∃ q, q = s[k].toNat / 16 := ⟨_, rfl⟩
      obtain ⟨r, hr⟩ : ∃ r, r = s[k].toNat % 16 := ⟨_, rfl⟩
      obtain ⟨q1, hq1⟩ : ∃ z, z = q + 1 := ⟨_, rfl⟩
      obtain ⟨r1, hr1⟩ : ∃ z, z = r + 1 := ⟨_, rfl⟩
      have hq6 : q < 16 := by omega
      have hr6 : r < 16 := by omega
      have w1 : IntKind.u8.wrap ((s[k].toNat : Int) / 16) = (q : Int) := by rw [IntWalk.u8_in _ (by omega)]; omega
      have w2 : IntKind.u8.wrap ((s[k].toNat : Int) % 16) = (r : Int) := by rw [IntWalk.u8_in _ (by omega)]; omega
      have w5 : (s[k].toNat : Int) % 16 = (r : Int) := by omega
      have w3 : IntKind.u8.wrap ((q : Int) + 1) = (q1 : Int) := by rw [IntWalk.u8_in _ (by omega)]; omega
      have w4 : IntKind.u8.wrap ((r : Int) + 1) = (r1 : Int) := by rw [IntWalk.u8_in _ (by omega)]; omega
      have sl1 := fun wx => dslice wx q q1 hq6 hq1
      have sl2 := fun wx => dslice wx r r1 hr6 hr1
      have hsz : (txt (hexl ((nl s).take k))).size ≤ 200000 := by
        have : (txt (hexl ((nl s).take k))).size = (hexl ((nl s).take k)).length := by simp [txt, ByteArray.size]
        rw [this, hexl_length, List.length_take]; omega
      have hs1 : (txt [hexd q]).size = 1 := rfl
      have hs2 : (txt [hexd r]).size = 1 := rfl
      have l8 : ¬ 9223372036854775807 < (txt (hexl ((nl s).take k))).size + 1 := by omega
      have l9 : ¬ 9223372036854775807 < (txt (hexl ((nl s).take k))).size + 1 + 1 := by omega
      have HE : Hid (txt (hexl ((nl s).take k)) ++ txt [hexd q] ++ txt [hexd r] = txt (hexl ((nl s).take (k + 1)))) := Lib.hid (by
        rw [HT.out, hexl_append, txt_two, hq, hr]; rfl)
      generalize txt (hexl ((nl s).take k)) = T at *
      generalize txt [hexd q] = T1 at *
      generalize txt [hexd r] = T2 at *
      clear hq hr hq1 hr1 hsz HT
      go_wp2
      go_quiet (fail)
      go_wp2
      go_roundw
      case rel => exact ⟨k + 1, m + nq, by omega, by go_num, by rw [HE.out], rfl⟩
      case measure => simp [intOf]; omega
    · obtain rfl : k = s.size := by omega
      have ht : (nl s).take s.size = nl s := List.take_of_length_le (by rw [HNL.out]; exact Nat.le_refl _)
      go_wp2
      go_ret
      exact ⟨by rw [ht]; rfl, m, rfl⟩
end Go.Proofs.YtkidmdifmkgofaaDoor
