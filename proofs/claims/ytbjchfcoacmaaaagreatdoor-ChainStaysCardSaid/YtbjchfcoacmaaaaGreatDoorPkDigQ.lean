/- Contracts of packet.Commitment, packet.Answer, of a packet that may be. Condition: the constants lie where they lie. -/
import Derived.Test.YtbjchfcoacmaaaaGreatDoorPkBytesQ
import Derived.Test.YtbjchfcoacmaaaaGreatDoorPkCutQ
import Derived.Test.YtbjchfcoacmaaaaGreatDoorShOneQ
namespace Go.Proofs.YtbjchfcoacmaaaaGreatDoor
open Go.RowKit
set_option linter.unusedVariables false
def ackT : ByteArray := ⟨#[97, 99, 107]⟩
def comT (p : PkV) : ByteArray := txt (encP p)
def ansT (p : PkV) : ByteArray := ackT ++ txt (encP p)
theorem comT_size (p : PkV) (h : PkOk p) : (comT p).size ≤ 83 := by
  unfold comT; rw [txt_size, encP_len]; have := h.2.2.2.2; omega
set_option maxRecDepth 100000 in
set_option maxHeartbeats 1000000 in
theorem pk_commit (f q t : Int) (d : ByteArray) (w : World) (hL : LaidOk w) (hok : PkOk ⟨f, q, t, d⟩) (hq : 0 ≤ q ∧ q < 18446744073709551616) (ht : 0 ≤ t ∧ t < 18446744073709551616) :
    Calls Tryz.prog 68 #[.agg #[.int .i64 f, .int .u64 q, .int .u64 t, .string d]] w fun x w' => x = .returned (.string (dgT (comT ⟨f, q, t, d⟩))) ∧ Below w.heap.size w w' := by
  have HOK := Lib.hid (And.intro hok (And.intro hq (And.intro ht hL)))
  clear hok hq ht hL
  go_enter Tryz.func68, Tryz.ntmps68
  go_wp2_with fail
  refine (pk_bytes_ok f q t d _ HOK.out.1 HOK.out.2.1 HOK.out.2.2.1).mono ?_
  rintro x w2 ⟨rfl, b2⟩
  have H2 := Lib.hid ((Kq.below_alloc w _).trans (b2.mono (Kq.below_alloc w _).size))
  have HL2 := Lib.hid (HOK.out.2.2.2.later H2.out)
  have HZ := Lib.hid (comT_size ⟨f, q, t, d⟩ HOK.out.1)
  obtain ⟨s, hs⟩ : ∃ s, s = comT ⟨f, q, t, d⟩ := ⟨_, rfl⟩
  have hs' : txt (encP ⟨f, q, t, d⟩) = s := hs.symm
  rw [← hs] at HZ
  have HS := Lib.hid hs
  rw [hs']
  clear hs hs'
  clear b2
  go_wp2_with fail
  refine (sum_text s _ HL2.out (by have := HZ.out; omega)).mono ?_
  rintro x w3 ⟨rfl, b3⟩
  have H3 := Lib.hid (H2.out.trans (b3.mono H2.out.size))
  clear b3
  go_wp2
  go_ret
  have hse := HS.out
  subst hse
  exact ⟨rfl, H3.out⟩
set_option maxRecDepth 100000 in
set_option maxHeartbeats 1000000 in
theorem pk_answer (f q t : Int) (d : ByteArray) (w : World) (hL : LaidOk w) (hok : PkOk ⟨f, q, t, d⟩) (hq : 0 ≤ q ∧ q < 18446744073709551616) (ht : 0 ≤ t ∧ t < 18446744073709551616) :
    Calls Tryz.prog 83 #[.agg #[.int .i64 f, .int .u64 q, .int .u64 t, .string d]] w fun x w' => x = .returned (.string (dgT (ansT ⟨f, q, t, d⟩))) ∧ Below w.heap.size w w' := by
  have HOK := Lib.hid (And.intro hok (And.intro hq (And.intro ht hL)))
  clear hok hq ht hL
  go_enter Tryz.func83, Tryz.ntmps83
  go_wp2_with fail
  refine (pk_bytes_ok f q t d _ HOK.out.1 HOK.out.2.1 HOK.out.2.2.1).mono ?_
  rintro x w2 ⟨rfl, b2⟩
  have H2 := Lib.hid ((Kq.below_alloc w _).trans (b2.mono (Kq.below_alloc w _).size))
  have HL2 := Lib.hid (HOK.out.2.2.2.later H2.out)
  have HZ := Lib.hid (comT_size ⟨f, q, t, d⟩ HOK.out.1)
  obtain ⟨s, hs⟩ : ∃ s, s = comT ⟨f, q, t, d⟩ := ⟨_, rfl⟩
  have hs' : txt (encP ⟨f, q, t, d⟩) = s := hs.symm
  rw [← hs] at HZ
  have HS := Lib.hid hs
  rw [hs']
  clear hs hs'
  clear b2
  go_wp2_with fail
  refine (sum_texts ackT s _ HL2.out (by have := HZ.out; have : ackT.size = 3 := rfl; omega)).mono ?_
  rintro x w3 ⟨rfl, b3⟩
  have H3 := Lib.hid (H2.out.trans (b3.mono H2.out.size))
  clear b3
  go_wp2
  go_ret
  have hse := HS.out
  subst hse
  exact ⟨rfl, H3.out⟩
end Go.Proofs.YtbjchfcoacmaaaaGreatDoor
