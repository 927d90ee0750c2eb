/- Merged: RefGet, PkBytes. Contract of carrackref10.Get. Condition: a text of at most 1000 bytes. Contracts of packet.Bytes, packet.Parse. Condition: lengths are ints. -/
import Derived.WalkSpells
import Derived.Deep.RegionHeld
import Derived.Deep.DrawnRows
import Derived.Test.YtbjchfcoacmaaaaGreatDoorNtValQ
import Derived.Test.YtbjchfcoacmaaaaGreatDoorPkCutQ
import Derived.Outline
namespace Go.Proofs.YtbjchfcoacmaaaaGreatDoor
open Go.RowKit
set_option linter.unusedVariables false
theorem PB.below {w w' : World} {H : Nat} {f q t : Int} {d : ByteArray} (h : PB w H f q t d) (hb : Below w.heap.size w w') : PB w' H f q t d := ⟨Kq.below_blk hb h.blk (Kq.blk_lt h.blk)⟩
attribute [local go_sem ↓] Go.wp_at_zero Go.wp_at_succ
end Go.Proofs.YtbjchfcoacmaaaaGreatDoor
namespace Go.Proofs.YtbjchfcoacmaaaaGreatDoor
open Go.RowKit
set_option linter.unusedVariables false
theorem wr_second (w : World) (o : Obj) : Wr ((w.alloc o).alloc (.cells #[.int .i64 0, .slice none 0 0] 159 (0, 0))) (w.heap.size + 1) (w.heap.size + 1) 0 (.slice none 0 0) [] := by
  have := wr_new (w.alloc o)
  rwa [World.size_alloc] at this
theorem encP_lt (p : PkV) (h : PkOk p) : ∀ b ∈ encP p, b < 256 := by
  intro b hb
  unfold encP at hb
  have h1 := h.1
  have h2 := h.2.1
  have h5 := h.2.2.2.2
  simp only [List.mem_append, List.mem_singleton] at hb
  rcases hb with ((rfl | hb) | hb) | (hb | hb)
  · omega
  · exact num8_lt _ b hb
  · exact num8_lt _ b hb
  · simp only [hi2, List.mem_cons, List.not_mem_nil, or_false] at hb; omega
  · exact nl_lt _ b hb
theorem below_put {w w' : World} {o o' : Obj} {v : Value} (hv : v.ownBlock = none) (h : Kq.Keeps (fun k => k = w.heap.size + 1 ∨ some k = v.ownBlock) ((w.alloc o).alloc o') w') : Below w.heap.size w w' := by
  have hb : Below w.heap.size w ((w.alloc o).alloc o') := (Kq.below_alloc w o).trans ((Kq.below_alloc _ o').mono (Kq.below_alloc w o).size)
  exact hb.trans (h.below hb.size (fun k _ hk => by
    rcases hk with hk | hk
    · omega
    · rw [hv] at hk; cases hk))
set_option maxRecDepth 100000 in
set_option maxHeartbeats 2000000 in
theorem pk_bytes_ok (f q t : Int) (d : ByteArray) (w : World) (hok : PkOk ⟨f, q, t, d⟩) (hq : 0 ≤ q ∧ q < 18446744073709551616) (ht : 0 ≤ t ∧ t < 18446744073709551616) :
    Calls Tryz.prog 109 #[.agg #[.int .i64 f, .int .u64 q, .int .u64 t, .string d]] w fun x w' => x = .returned (.tuple #[.string (txt (encP ⟨f, q, t, d⟩)), .int .i64 0]) ∧ Below w.heap.size w w' := by
  have HOK := Lib.hid (And.intro hok (And.intro hq ht))
  clear hok hq ht
  go_enter Tryz.func109, Tryz.ntmps109
  go_wp2_with fail
  refine (pk_put_ok (w.heap.size + 1) (w.heap.size + 1) (.slice none 0 0) [] f q t d _ (wr_second w _) HOK.out.1 HOK.out.2.1 HOK.out.2.2 (by simp)).mono ?_
  rintro x w2 ⟨rfl, v2, W2, K2, -⟩
  rw [List.nil_append] at W2
  have H2 := Lib.hid (And.intro W2 (below_put rfl K2))
  clear W2 K2
  go_wp2_with fail
  refine (wr_bytes_ok (w.heap.size + 1) (w.heap.size + 1) v2 _ _ H2.out.1 (encP_lt _ HOK.out.1)).mono ?_
  rintro x w3 ⟨rfl, rfl⟩
  go_wp2
  go_ret2
  exact ⟨rfl, H2.out.2⟩
end Go.Proofs.YtbjchfcoacmaaaaGreatDoor
