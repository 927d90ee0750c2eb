/- Contract of carracklaw01.awake: the document's examples. Condition: the constants lie where they lie. -/
import Derived.Test.YtkidmdifmkgofaaDoorShSum
namespace Go.Proofs.YtkidmdifmkgofaaDoor
open Go.RowKit
set_option linter.unusedVariables false
theorem out_lt (s : Sh.S8) : ∀ b ∈ Sh.out s, b < 256 := by rw [← outL_all]; exact outL_lt _ 8
theorem digest_lt (l : List Nat) : ∀ b ∈ Sh.digest l, b < 256 := out_lt _
theorem nl_digest (l : List Nat) : nl (txt (Sh.digest l)) = Sh.digest l := nl_txt _ (digest_lt l)
theorem hex_empty : txt (hexl (nl (txt (Sh.digest (nls []))))) = ⟨#[101, 51, 98, 48, 99, 52, 52, 50, 57, 56, 102, 99, 49, 99, 49, 52, 57, 97, 102, 98, 102, 52, 99, 56, 57, 57, 54, 102, 98, 57, 50, 52, 50, 55, 97, 101, 52, 49, 101, 52, 54, 52, 57, 98, 57, 51, 52, 99, 97, 52, 57, 53, 57, 57, 49, 98, 55, 56, 53, 50, 98, 56, 53, 53]⟩ := by
  rw [nl_digest, show nls [] = [] from rfl, Sh.digest_empty]
  kernel_rfl
theorem hex_abc : txt (hexl (nl (txt (Sh.digest (nls [⟨#[97]⟩, ⟨#[98, 99]⟩]))))) = ⟨#[98, 97, 55, 56, 49, 54, 98, 102, 56, 102, 48, 49, 99, 102, 101, 97, 52, 49, 52, 49, 52, 48, 100, 101, 53, 100, 97, 101, 50, 50, 50, 51, 98, 48, 48, 51, 54, 49, 97, 51, 57, 54, 49, 55, 55, 97, 57, 99, 98, 52, 49, 48, 102, 102, 54, 49, 102, 50, 48, 48, 49, 53, 97, 100]⟩ := by
  rw [nl_digest, show nls [⟨#[97]⟩, ⟨#[98, 99]⟩] = [97, 98, 99] from by decide, Sh.digest_abc]
  kernel_rfl
theorem digest_length (l : List Nat) : (Sh.digest l).length = 32 := by
  unfold Sh.digest
  show (Sh.out _).length = 32
  simp [Sh.out, Sh.be4]
theorem two_parts (w : World) (a b : ByteArray) : PartsAt (w.alloc (.cells #[.string a, .string b] 9)) (some ⟨w.heap.size, 0, none⟩) [a, b] := fun i hi => by
  refine ⟨w.heap.size, 0, rfl, by simp, ?_⟩
  rw [Kq.blk_cell (Kq.blk_new w _ _ _) (0 + i)]
  rcases i with _ | _ | i
  · rfl
  · rfl
  · simp at hi; omega
set_option maxRecDepth 100000 in
set_option maxHeartbeats 1000000 in
theorem sh_awake (w : World) (h : LaidOk w) : Calls Tryd.prog 7 #[] w fun x w' => x = .returned (.bool true) ∧ Below w.heap.size w w' := by
  have HL := Lib.hid h
  clear h
  go_enter Tryd.func7, Tryd.ntmps7
  go_wp2_with fail
  refine (sh_sum none 0 [] w (PartsAt.none w) HL.out (by simp) (by simp [nls])).mono ?_
  rintro x w1 ⟨rfl, hb1⟩
  have HB1 := Lib.hid hb1
  clear hb1
  have HH := Lib.hid (fun w => sh_hex (txt (Sh.digest (nls []))) w (by rw [txt_size, digest_length]; decide))
  rw [hex_empty] at HH
  go_wp2_with fail
  refine (HH.out _).mono ?_
  rintro x w2 ⟨rfl, hb2⟩
  have HB2 := Lib.hid (HB1.out.trans (hb2.mono HB1.out.size))
  clear hb2 HH
  go_wp2_with fail
  have HB3 := Lib.hid (HB2.out.trans ((Kq.below_alloc w2 (.cells #[.string ⟨#[97]⟩, .string ⟨#[98, 99]⟩] 9)).mono HB2.out.size))
  refine (sh_sum (some ⟨w2.heap.size, 0, none⟩) 2 [⟨#[97]⟩, ⟨#[98, 99]⟩] _ (two_parts w2 _ _) (HL.out.later HB3.out) (by decide) (by decide)).mono ?_
  rintro x w4 ⟨rfl, hb4⟩
  have HB4 := Lib.hid (HB3.out.trans (hb4.mono HB3.out.size))
  clear hb4
  have HH := Lib.hid (fun w => sh_hex (txt (Sh.digest (nls [⟨#[97]⟩, ⟨#[98, 99]⟩]))) w (by rw [txt_size, digest_length]; decide))
  rw [hex_abc] at HH
  go_wp2_with fail
  refine (HH.out _).mono ?_
  rintro x w5 ⟨rfl, hb5⟩
  have HB5 := Lib.hid (HB4.out.trans (hb5.mono HB4.out.size))
  clear hb5 HH
  go_wp2
  go_ret
  exact ⟨rfl, HB5.out⟩
end Go.Proofs.YtkidmdifmkgofaaDoor
