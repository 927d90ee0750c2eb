/- Merged: RefGet, PkBytes, PkRB. Contract of carrackref10.Get. Condition: a text of at most 1000 bytes. Contracts of packet.Bytes, packet.Parse. Condition: lengths are ints. Contract of carrackref10.Bytes, of a packet that may be. Condition: sizes. -/
import Derived.WalkSpells
import Derived.Deep.RegionHeld
import Derived.Deep.DrawnRows
import Derived.Test.YtkbiolhcpghmkaaTbMQ
import Derived.Test.YtkbiolhcpghmkaaPkCutQ
import Derived.Outline
import Derived.Test.YtkbiolhcpghmkaaBetwQ
namespace Go.Proofs.Ytkbiolhcpghmkaa
open Go.RowKit
set_option linter.unusedVariables false
def RGet (p : PkV) (n e : Int) (w : World) (x : Ending) (w' : World) : Prop := x = .returned (.tuple #[p.val, .int .i64 n, .int .i64 e]) ∧ Below w.heap.size w w'
theorem PB.below {w w' : World} {H : Nat} {f q t : Int} {d : ByteArray} (h : PB w H f q t d) (hb : Below w.heap.size w w') : PB w' H f q t d := ⟨Kq.below_blk hb h.blk (Kq.blk_lt h.blk)⟩
theorem two_packets (w : World) (f q t : Int) (d : ByteArray) : PB (((w.alloc (Obj.cells #[Value.int IntKind.i64 0, Value.int IntKind.u64 0, Value.int IntKind.u64 0, Value.string ⟨#[]⟩] 51)).alloc (Obj.cells #[Value.int IntKind.i64 f, Value.int IntKind.u64 q, Value.int IntKind.u64 t, Value.string d] 51)).drew) (w.heap.size + 1) f q t d ∧
    PB (((w.alloc (Obj.cells #[Value.int IntKind.i64 0, Value.int IntKind.u64 0, Value.int IntKind.u64 0, Value.string ⟨#[]⟩] 51)).alloc (Obj.cells #[Value.int IntKind.i64 f, Value.int IntKind.u64 q, Value.int IntKind.u64 t, Value.string d] 51)).drew) w.heap.size 0 0 0 ⟨#[]⟩ ∧
    Below w.heap.size w (((w.alloc (Obj.cells #[Value.int IntKind.i64 0, Value.int IntKind.u64 0, Value.int IntKind.u64 0, Value.string ⟨#[]⟩] 51)).alloc (Obj.cells #[Value.int IntKind.i64 f, Value.int IntKind.u64 q, Value.int IntKind.u64 t, Value.string d] 51)).drew) := by
  refine ⟨⟨?_⟩, ⟨?_⟩, ?_⟩
  · have := Kq.blk_new (w.alloc (Obj.cells #[Value.int IntKind.i64 0, Value.int IntKind.u64 0, Value.int IntKind.u64 0, Value.string ⟨#[]⟩] 51)) #[Value.int IntKind.i64 f, Value.int IntKind.u64 q, Value.int IntKind.u64 t, Value.string d] 51 (0, 0)
    rw [World.size_alloc] at this
    exact this
  · show ((w.alloc _).alloc _).heap[w.heap.size]? = _
    rw [Below.heap_alloc _ _ _ (by simp)]
    exact Kq.blk_new _ _ _ _
  · exact ((Kq.below_alloc w _).trans ((Kq.below_alloc _ _).mono (Kq.below_alloc w _).size)).drew
def LongPost (p : PkV) (n : Nat) (w : World) (x : Ending) (w' : World) : Prop := if PkOk p then RGet p ((19 + n : Nat) : Int) 0 w x w' else RGet PkV.zero 0 5 w x w'
attribute [local go_sem ↓] Go.wp_at_zero Go.wp_at_succ
end Go.Proofs.Ytkbiolhcpghmkaa
namespace Go.Proofs.Ytkbiolhcpghmkaa
open Go.RowKit
set_option linter.unusedVariables false
theorem wr_second (w : World) (o : Obj) : Wr ((w.alloc o).alloc (.cells #[.int .i64 0, .slice none 0 0] 60 (0, 0))) (w.heap.size + 1) (w.heap.size + 1) 0 (.slice none 0 0) [] := by
  have := wr_new (w.alloc o)
  rwa [World.size_alloc] at this
theorem encP_lt (p : PkV) (h : PkOk p) : ∀ b ∈ encP p, b < 256 := by
  intro b hb
  unfold encP at hb
  have h1 := h.1
  have h2 := h.2.1
  have h5 := h.2.2.2.2
  simp only [List.mem_append, List.mem_singleton] at hb
  rcases hb with ((rfl | hb) | hb) | (hb | hb)
  · omega
  · exact num8_lt _ b hb
  · exact num8_lt _ b hb
  · simp only [hi2, List.mem_cons, List.not_mem_nil, or_false] at hb; omega
  · exact nl_lt _ b hb
theorem below_put {w w' : World} {o o' : Obj} {v : Value} (hv : v.ownBlock = none) (h : Kq.Keeps (fun k => k = w.heap.size + 1 ∨ some k = v.ownBlock) ((w.alloc o).alloc o') w') : Below w.heap.size w w' := by
  have hb : Below w.heap.size w ((w.alloc o).alloc o') := (Kq.below_alloc w o).trans ((Kq.below_alloc _ o').mono (Kq.below_alloc w o).size)
  exact hb.trans (h.below hb.size (fun k _ hk => by
    rcases hk with hk | hk
    · omega
    · rw [hv] at hk; cases hk))
end Go.Proofs.Ytkbiolhcpghmkaa
namespace Go.Proofs.Ytkbiolhcpghmkaa
open Go.RowKit
set_option linter.unusedVariables false
theorem PB.rbW {w w' : World} {H : Nat} {f q t : Int} {d : ByteArray} (h : PB w H f q t d) (hb : Below w.heap.size w w') : PB w' H f q t d := ⟨Kq.below_blk hb h.blk (Kq.blk_lt h.blk)⟩
theorem rb_parts (fn qn tn : Nat) (d : ByteArray) (hf : fn ≤ 1) (hd : d.size ≤ 64) : (((txt (be fn 1) ++ txt (be qn 8)) ++ txt (be tn 8)) ++ txt (be d.size 2)) ++ d = txt (encP ⟨(fn : Int), (qn : Int), (tn : Int), d⟩) := by
  apply nl_inj
  have h2 : ∀ b ∈ hi2 d.size, b < 256 := by rw [← be2 d.size (by omega)]; exact be_lt _ _
  rw [be8, be8, be1 fn (by omega), be2 d.size (by omega), nl_append, nl_append, nl_append, nl_append, nl_txt [fn] (by simp; omega), nl_txt _ (num8_lt qn), nl_txt _ (num8_lt tn), nl_txt _ h2, nl_txt]
  · simp [encP]
  · intro b hb
    simp only [encP, Int.toNat_natCast, List.mem_append, List.mem_singleton] at hb
    rcases hb with ((rfl | hb) | hb) | (hb | hb)
    · omega
    · exact num8_lt _ b hb
    · exact num8_lt _ b hb
    · exact h2 b hb
    · exact nl_lt _ b hb
def RbBox (w' : World) (X : Nat) (f q t : Int) (d : ByteArray) : Prop := w'.cell? ⟨X, 0, none⟩ = some (.int .i64 f) ∧ w'.cell? ⟨X, 1, none⟩ = some (.int .u64 q) ∧ w'.cell? ⟨X, 2, none⟩ = some (.int .u64 t) ∧ w'.cell? ⟨X, 3, none⟩ = some (.string d)
theorem PB.rbox {w' : World} {X : Nat} {f q t : Int} {d : ByteArray} (h : PB w' X f q t d) : RbBox w' X f q t d := ⟨h.c0, h.c1, h.c2, h.c3⟩
end Go.Proofs.Ytkbiolhcpghmkaa
