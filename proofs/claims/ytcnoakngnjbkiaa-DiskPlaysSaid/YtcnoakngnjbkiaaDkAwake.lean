/- The document's example of disk. No condition. -/
import Derived.WalkSpells
import Derived.Test.YtcnoakngnjbkiaaDkRead2
import Derived.Test.YtcnoakngnjbkiaaDkCrash
namespace Go.Proofs.Ytcnoakngnjbkiaa
open Go.RowKit
set_option linter.unusedVariables false
theorem zrow_cells (n : Nat) : zrow n = scells (List.replicate n 0) := by
  unfold zrow scells
  apply Array.toList_inj.1
  rw [show (Value.int IntKind.u8 0).cells = #[Value.int IntKind.u8 0] from rfl, toList_madeCells_one]
  simp
theorem zeros_lt (n : Nat) : ∀ b ∈ List.replicate n 0, b < 256 := by
  intro b hb
  rw [List.eq_of_mem_replicate hb]; decide
/-- string(make([]byte, n)) -/
theorem cv_zeros (n : Nat) (w : World) : (convert 31 9 (.slice (some ⟨w.heap.size, 0, none⟩) n n)).run Try.prog (w.alloc (.cells (zrow n) 5)) = .ok (.string (txt (List.replicate n 0))) (w.alloc (.cells (zrow n) 5)) := by
  have h : StB (w.alloc (.cells (zrow n) 5)) w.heap.size (List.replicate n 0) := by
    unfold StB
    rw [← zrow_cells]
    exact Kq.blk_new _ _ _ _
  have := stb_text _ w.heap.size 0 n n (List.replicate n 0) h (zeros_lt n) (by simp)
  rw [List.drop_zero, List.take_of_length_le (by simp)] at this
  exact this
theorem StB.later {P : Nat → Prop} {w w' : World} {S : Nat} {st : List Nat} (h : StB w S st) (hk : Kq.Keeps P w w') (hS : ¬ P S) : StB w' S st := hk.blk h hS
set_option maxRecDepth 100000 in
set_option maxHeartbeats 1000000 in
theorem awake (w : World) : Calls Try.prog 9 #[] w fun x w' => x = .returned (.bool true) ∧ Below w.heap.size w w' := by
  have hmk := fun w => mk_bytes w 63 63 rfl (by decide)
  have hmk2 := fun w => mk_bytes w 64 64 rfl (by decide)
  have hcv := fun w => cv_zeros 63 w
  have hcv2 := fun w => cv_zeros 64 w
  have hz : (txt (List.replicate 63 0)).size = 63 := by rw [txt_size]; rfl
  have HE : Hid (((List.replicate 128 0).drop 64).take 64 = List.replicate 64 0) := Lib.hid (by decide)
  obtain ⟨z, hzz⟩ : ∃ z, z = txt (List.replicate 63 0) := ⟨_, rfl⟩
  rw [← hzz] at hz hcv
  clear hzz
  have HZ : Hid ((z ++ ⟨#[120]⟩).size = 64) := Lib.hid (by rw [ByteArray.size_append, hz]; rfl)
  go_enter Try.func9, Try.ntmps9
  go_wp2_with fail
  refine (dk_new_ok 64 2 128 _ ⟨by decide, by decide, by decide, by decide⟩ rfl).mono ?_
  rintro x w2 ⟨rfl, D2, S2, b2⟩
  have H2 : Hid (DkB (w2.alloc (.cells (zrow 63) 5)) w.heap.size (w.heap.size + 1) w.heap.size 64 2 128 (.slice none 0 0) [] 0 ∧ StB (w2.alloc (.cells (zrow 63) 5)) w.heap.size (List.replicate 128 0) ∧ Below w.heap.size w (w2.alloc (.cells (zrow 63) 5))) :=
    Lib.hid ⟨(DkB.mk D2.blk (World.ownsRow_nil _ _ _ _) (fun k hk => by cases hk) b2.size (by omega) (Kq.blk_lt S2)).belowD (Kq.below_alloc w2 _), StB.below (by unfold StB; rw [← zrow_cells]; exact S2) (Kq.below_alloc w2 _), b2.trans ((Kq.below_alloc w2 _).mono b2.size)⟩
  clear D2 S2 b2
  go_wp2_with fail
  have hwr := dk_write_ok w.heap.size (w.heap.size + 1) w.heap.size 64 2 128 (.slice none 0 0) [] 1 (z ++ ⟨#[120]⟩) _ H2.out.1 (by omega) (by omega) (by rw [HZ.out]; rfl) (Nat.zero_le _)
  refine hwr.mono ?_
  clear hwr
  rintro x w3 ⟨rfl, buf3, D3, K3⟩
  have H3 := Lib.hid (And.intro D3 (And.intro (H2.out.2.1.later K3 (by rintro (h | h); · omega
                                                                       · cases h)) (H2.out.2.2.trans (K3.below H2.out.2.2.size (fun k _ hk => by
    rcases hk with hk | hk
    · omega
    · cases hk)))))
  clear D3 K3 H2
  go_wp2_with fail
  have hrh := dk_read_hit w.heap.size (w.heap.size + 1) w.heap.size 64 2 128 buf3 [(1, z ++ ⟨#[120]⟩)] 0 1 (z ++ ⟨#[120]⟩) _ H3.out.1 (by omega) (by omega) (by simp) (by simp [lastW])
  refine hrh.mono ?_
  clear hrh
  rintro x w4 ⟨rfl, b4⟩
  have H4 := Lib.hid (And.intro (H3.out.1.belowD b4) (And.intro (H3.out.2.1.below b4) (H3.out.2.2.trans (b4.mono H3.out.2.2.size))))
  clear b4 H3
  go_wp2_with fail
  have hcr := dk_crash_none w.heap.size (w.heap.size + 1) w.heap.size 64 2 128 buf3 [(1, z ++ ⟨#[120]⟩)] 0 _ H4.out.1 (by simp) (by simp)
  refine hcr.mono ?_
  clear hcr
  rintro x w5 ⟨rfl, D5, K5⟩
  have H5 := Lib.hid (And.intro D5 (And.intro (H4.out.2.1.later K5 (by omega)) (H4.out.2.2.trans (K5.below H4.out.2.2.size (fun k _ hk => by omega)))))
  clear D5 K5 H4
  go_wp2_with fail
  have hrd := dk_read_none w.heap.size (w.heap.size + 1) w.heap.size 64 1 64 2 (List.replicate 128 0) 0 w5 (by rw [List.length_replicate]; exact H5.out.1) H5.out.2.1 (zeros_lt 128) (by omega) (by omega) (by rw [List.length_replicate]; omega) (by omega) (by rw [List.length_replicate]; omega)
  rw [HE.out] at hrd
  have HRD := Lib.hid hrd
  clear hrd
  refine HRD.out.mono ?_
  rintro x w6 ⟨rfl, b6⟩
  have H6 := Lib.hid (H5.out.2.2.trans (b6.mono H5.out.2.2.size))
  have H7 := Lib.hid (H6.out.trans ((Kq.below_alloc w6 (.cells (zrow 64) 5)).mono H6.out.size))
  clear b6 H5
  generalize txt (List.replicate 64 0) = y at *
  go_wp2
  go_ret
  exact ⟨rfl, H7.out⟩
end Go.Proofs.Ytcnoakngnjbkiaa
