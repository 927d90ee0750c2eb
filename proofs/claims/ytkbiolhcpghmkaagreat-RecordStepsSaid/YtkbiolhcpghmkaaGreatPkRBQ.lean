/- Merged: RefGet, PkBytes, PkRB. Contract of carrackref10.Get. Condition: a text of at most 1000 bytes. Contracts of packet.Bytes, packet.Parse. Condition: lengths are ints. Contract of carrackref10.Bytes, of a packet that may be. Condition: sizes. -/
import Derived.WalkSpells
import Derived.Deep.RegionHeld
import Derived.Deep.DrawnRows
import Derived.Test.YtkbiolhcpghmkaaGreatRefValQ
import Derived.Test.YtkbiolhcpghmkaaGreatPkCutQ
import Derived.Outline
import Derived.Test.YtkbiolhcpghmkaaGreatBetwQ
namespace Go.Proofs.YtkbiolhcpghmkaaGreat
open Go.RowKit
set_option linter.unusedVariables false
def RGet (p : PkV) (n e : Int) (w : World) (x : Ending) (w' : World) : Prop := x = .returned (.tuple #[p.val, .int .i64 n, .int .i64 e]) ∧ Below w.heap.size w w'
theorem PB.below {w w' : World} {H : Nat} {f q t : Int} {d : ByteArray} (h : PB w H f q t d) (hb : Below w.heap.size w w') : PB w' H f q t d := ⟨Kq.below_blk hb h.blk (Kq.blk_lt h.blk)⟩
theorem two_packets (w : World) (f q t : Int) (d : ByteArray) : PB (((w.alloc (Obj.cells #[Value.int IntKind.i64 0, Value.int IntKind.u64 0, Value.int IntKind.u64 0, Value.string ⟨#[]⟩] 44)).alloc (Obj.cells #[Value.int IntKind.i64 f, Value.int IntKind.u64 q, Value.int IntKind.u64 t, Value.string d] 44)).drew) (w.heap.size + 1) f q t d ∧
    PB (((w.alloc (Obj.cells #[Value.int IntKind.i64 0, Value.int IntKind.u64 0, Value.int IntKind.u64 0, Value.string ⟨#[]⟩] 44)).alloc (Obj.cells #[Value.int IntKind.i64 f, Value.int IntKind.u64 q, Value.int IntKind.u64 t, Value.string d] 44)).drew) w.heap.size 0 0 0 ⟨#[]⟩ ∧
    Below w.heap.size w (((w.alloc (Obj.cells #[Value.int IntKind.i64 0, Value.int IntKind.u64 0, Value.int IntKind.u64 0, Value.string ⟨#[]⟩] 44)).alloc (Obj.cells #[Value.int IntKind.i64 f, Value.int IntKind.u64 q, Value.int IntKind.u64 t, Value.string d] 44)).drew) := by
  refine ⟨⟨?_⟩, ⟨?_⟩, ?_⟩
  · have := Kq.blk_new (w.alloc (Obj.cells #[Value.int IntKind.i64 0, Value.int IntKind.u64 0, Value.int IntKind.u64 0, Value.string ⟨#[]⟩] 44)) #[Value.int IntKind.i64 f, Value.int IntKind.u64 q, Value.int IntKind.u64 t, Value.string d] 44 (0, 0)
    rw [World.size_alloc] at this
    exact this
  · show ((w.alloc _).alloc _).heap[w.heap.size]? = _
    rw [Below.heap_alloc _ _ _ (by simp)]
    exact Kq.blk_new _ _ _ _
  · exact ((Kq.below_alloc w _).trans ((Kq.below_alloc _ _).mono (Kq.below_alloc w _).size)).drew
def LongPost (p : PkV) (n : Nat) (w : World) (x : Ending) (w' : World) : Prop := if PkOk p then RGet p ((19 + n : Nat) : Int) 0 w x w' else RGet PkV.zero 0 5 w x w'
attribute [local go_sem ↓] Go.wp_at_zero Go.wp_at_succ
end Go.Proofs.YtkbiolhcpghmkaaGreat
namespace Go.Proofs.YtkbiolhcpghmkaaGreat
open Go.RowKit
set_option linter.unusedVariables false
theorem wr_second (w : World) (o : Obj) : Wr ((w.alloc o).alloc (.cells #[.int .i64 0, .slice none 0 0] 73 (0, 0))) (w.heap.size + 1) (w.heap.size + 1) 0 (.slice none 0 0) [] := by
  have := wr_new (w.alloc o)
  rwa [World.size_alloc] at this
theorem encP_lt (p : PkV) (h : PkOk p) : ∀ b ∈ encP p, b < 256 := by
  intro b hb
  unfold encP at hb
  have h1 := h.1
  have h2 := h.2.1
  have h5 := h.2.2.2.2
  simp only [List.mem_append, List.mem_singleton] at hb
  rcases hb with ((rfl | hb) | hb) | (hb | hb)
  · omega
  · exact num8_lt _ b hb
  · exact num8_lt _ b hb
  · simp only [hi2, List.mem_cons, List.not_mem_nil, or_false] at hb; omega
  · exact nl_lt _ b hb
theorem below_put {w w' : World} {o o' : Obj} {v : Value} (hv : v.ownBlock = none) (h : Kq.Keeps (fun k => k = w.heap.size + 1 ∨ some k = v.ownBlock) ((w.alloc o).alloc o') w') : Below w.heap.size w w' := by
  have hb : Below w.heap.size w ((w.alloc o).alloc o') := (Kq.below_alloc w o).trans ((Kq.below_alloc _ o').mono (Kq.below_alloc w o).size)
  exact hb.trans (h.below hb.size (fun k _ hk => by
    rcases hk with hk | hk
    · omega
    · rw [hv] at hk; cases hk))
end Go.Proofs.YtkbiolhcpghmkaaGreat
namespace Go.Proofs.YtkbiolhcpghmkaaGreat
open Go.RowKit
set_option linter.unusedVariables false
theorem PB.rbW {w w' : World} {H : Nat} {f q t : Int} {d : ByteArray} (h : PB w H f q t d) (hb : Below w.heap.size w w') : PB w' H f q t d := ⟨Kq.below_blk hb h.blk (Kq.blk_lt h.blk)⟩
theorem rb_parts (fn qn tn : Nat) (d : ByteArray) (hf : fn ≤ 1) (hd : d.size ≤ 64) : (((txt (be fn 1) ++ txt (be qn 8)) ++ txt (be tn 8)) ++ txt (be d.size 2)) ++ d = txt (encP ⟨(fn : Int), (qn : Int), (tn : Int), d⟩) := by
  apply nl_inj
  have h2 : ∀ b ∈ hi2 d.size, b < 256 := by rw [← be2 d.size (by omega)]; exact be_lt _ _
  rw [be8, be8, be1 fn (by omega), be2 d.size (by omega), nl_append, nl_append, nl_append, nl_append, nl_txt [fn] (by simp; omega), nl_txt _ (num8_lt qn), nl_txt _ (num8_lt tn), nl_txt _ h2, nl_txt]
  · simp [encP]
  · intro b hb
    simp only [encP, Int.toNat_natCast, List.mem_append, List.mem_singleton] at hb
    rcases hb with ((rfl | hb) | hb) | (hb | hb)
    · omega
    · exact num8_lt _ b hb
    · exact num8_lt _ b hb
    · exact h2 b hb
    · exact nl_lt _ b hb
def RbBox (w' : World) (X : Nat) (f q t : Int) (d : ByteArray) : Prop := w'.cell? ⟨X, 0, none⟩ = some (.int .i64 f) ∧ w'.cell? ⟨X, 1, none⟩ = some (.int .u64 q) ∧ w'.cell? ⟨X, 2, none⟩ = some (.int .u64 t) ∧ w'.cell? ⟨X, 3, none⟩ = some (.string d)
theorem PB.rbox {w' : World} {X : Nat} {f q t : Int} {d : ByteArray} (h : PB w' X f q t d) : RbBox w' X f q t d := ⟨h.c0, h.c1, h.c2, h.c3⟩
set_option maxRecDepth 100000 in
set_option maxHeartbeats 1000000 in
theorem rb_bytes (fn qn tn : Nat) (d : ByteArray) (w : World) (hok : PkOk ⟨(fn : Int), (qn : Int), (tn : Int), d⟩) (hq : qn < M64) (ht : tn < M64) :
    Calls Tryz.prog 69 #[.agg #[.int .i64 (fn : Int), .int .u64 (qn : Int), .int .u64 (tn : Int), .string d]] w fun x w' => x = .returned (.string (txt (encP ⟨(fn : Int), (qn : Int), (tn : Int), d⟩))) ∧ Below w.heap.size w w' := by
  have hf : fn ≤ 1 := by have := hok.2.1; simp only at this; omega
  have hd : d.size ≤ 64 := hok.2.2.2.2
  have HN1 := Lib.hid (fun w => ref_num fn 1 w (by unfold M64; omega) (by decide))
  have HN2 := Lib.hid (fun w => ref_num qn 8 w hq (by decide))
  have HN3 := Lib.hid (fun w => ref_num tn 8 w ht (by decide))
  have HN4 := Lib.hid (fun w => ref_num d.size 2 w (by unfold M64; omega) (by decide))
  have HFV := Lib.hid (rb_parts fn qn tn d hf hd)
  have s1 : (txt (be fn 1)).size = 1 := by rw [txt_size, be_len]
  have s2 : (txt (be qn 8)).size = 8 := by rw [txt_size, be_len]
  have s3 : (txt (be tn 8)).size = 8 := by rw [txt_size, be_len]
  have s4 : (txt (be d.size 2)).size = 2 := by rw [txt_size, be_len]
  have P0 : Hid (PB (w.alloc (Obj.cells #[Value.int IntKind.i64 (fn : Int), Value.int IntKind.u64 (qn : Int), Value.int IntKind.u64 (tn : Int), Value.string d] 44)) w.heap.size fn qn tn d ∧ Below w.heap.size w (w.alloc (Obj.cells #[Value.int IntKind.i64 (fn : Int), Value.int IntKind.u64 (qn : Int), Value.int IntKind.u64 (tn : Int), Value.string d] 44))) := Lib.hid ⟨⟨Kq.blk_new _ _ _ _⟩, Kq.below_alloc _ _⟩
  have hlen : ¬ 9223372036854775807 < 19 + d.size := by omega
  have w1 : IntKind.u64.wrap (fn : Int) = (fn : Int) := IntWalk.u64_in _ (by omega)
  have w2 : IntKind.u64.wrap (d.size : Int) = (d.size : Int) := IntWalk.u64_in _ (by omega)
  clear hok hq ht
  generalize txt (be fn 1) = T1 at *
  generalize txt (be qn 8) = T2 at *
  generalize txt (be tn 8) = T3 at *
  generalize txt (be d.size 2) = T4 at *
  go_enter Tryz.func69, Tryz.ntmps69
  go_wp2
  refine wp_region_held_drew (S := fun w' => RbBox w' w.heap.size fn qn tn d) (by kernel_rfl) (PB.rbox ⟨P0.out.1.blk⟩) (fun hS0 => ?_)
  have PD : Hid (PB (w.alloc (Obj.cells #[Value.int IntKind.i64 (fn : Int), Value.int IntKind.u64 (qn : Int), Value.int IntKind.u64 (tn : Int), Value.string d] 44)).drew w.heap.size fn qn tn d ∧ Below w.heap.size w (w.alloc (Obj.cells #[Value.int IntKind.i64 (fn : Int), Value.int IntKind.u64 (qn : Int), Value.int IntKind.u64 (tn : Int), Value.string d] 44)).drew) := Lib.hid ⟨⟨P0.out.1.blk⟩, P0.out.2.drew⟩
  clear P0
  generalize (w.alloc (Obj.cells #[Value.int IntKind.i64 (fn : Int), Value.int IntKind.u64 (qn : Int), Value.int IntKind.u64 (tn : Int), Value.string d] 44)).drew = z0 at *
  unfold RbBox at hS0
  dsimp only [RbBox]
  refine wpAnyH_take (i := 0) (v := ?_) rfl (by kernel_rfl) (by kernel_rfl) (by kernel_rfl) (fun _ _ _ h => h) (Or.inl ⟨by kernel_rfl, ?_⟩) (by assumption) ?_
  rotate_left
  · intro w hSw; (try dsimp only at hSw); go_simp; (try with_reducible rfl)
  refine wpAnyH_take (i := 1) (v := ?_) rfl (by kernel_rfl) (by kernel_rfl) (by kernel_rfl) (fun _ _ _ h => h) (Or.inl ⟨by kernel_rfl, ?_⟩) (by assumption) ?_
  rotate_left
  · intro w hSw; (try dsimp only at hSw); go_simp; (try with_reducible rfl)
  refine wpAnyH_take (i := 2) (v := ?_) rfl (by kernel_rfl) (by kernel_rfl) (by kernel_rfl) (fun _ _ _ h => h) (Or.inl ⟨by kernel_rfl, ?_⟩) (by assumption) ?_
  rotate_left
  · intro w hSw; (try dsimp only at hSw); go_simp; (try with_reducible rfl)
  refine wpAnyH_take (i := 4) (v := ?_) rfl (by kernel_rfl) (by kernel_rfl) (by kernel_rfl) (fun _ _ _ h => h) (Or.inl ⟨by kernel_rfl, ?_⟩) (by assumption) ?_
  rotate_left
  · intro w hSw; (try dsimp only at hSw); go_simp; (try with_reducible rfl)
  refine wpAnyH_take (i := 5) (v := ?_) rfl (by kernel_rfl) (by kernel_rfl) (by kernel_rfl) (fun _ _ _ h => h) (Or.inl ⟨by kernel_rfl, ?_⟩) (by assumption) ?_
  rotate_left
  · intro w hSw; (try dsimp only at hSw); go_simp; (try with_reducible rfl)
  refine wpAnyH_take (i := 8) (v := ?_) rfl (by kernel_rfl) (by kernel_rfl) (by kernel_rfl) (fun _ _ _ h => h) (Or.inl ⟨by kernel_rfl, ?_⟩) (by assumption) ?_
  rotate_left
  · intro w hSw; (try dsimp only at hSw); go_simp; (try with_reducible rfl)
  refine wpAnyH_take (i := 9) (v := ?_) rfl (by kernel_rfl) (by kernel_rfl) (by kernel_rfl) (fun _ _ _ h => h) (Or.inl ⟨by kernel_rfl, ?_⟩) (by assumption) ?_
  rotate_left
  · intro w hSw; (try dsimp only at hSw); go_simp; (try with_reducible rfl)
  refine wpAnyH_take (i := 12) (v := ?_) rfl (by kernel_rfl) (by kernel_rfl) (by kernel_rfl) (fun _ _ _ h => h) (Or.inl ⟨by kernel_rfl, ?_⟩) (by assumption) ?_
  rotate_left
  · intro w hSw; (try dsimp only at hSw); go_simp; (try with_reducible rfl)
  refine wpAnyH_take (i := 13) (v := ?_) rfl (by kernel_rfl) (by kernel_rfl) (by kernel_rfl) (fun _ _ _ h => h) (Or.inl ⟨by kernel_rfl, ?_⟩) (by assumption) ?_
  rotate_left
  · intro w hSw; (try dsimp only at hSw); go_simp; (try with_reducible rfl)
  refine wpAnyH_take (i := 14) (v := ?_) rfl (by kernel_rfl) (by kernel_rfl) (by kernel_rfl) (fun _ _ _ h => h) (Or.inl ⟨by kernel_rfl, ?_⟩) (by assumption) ?_
  rotate_left
  · intro w hSw; (try dsimp only at hSw); go_simp; (try with_reducible rfl)
  refine wpAnyH_take (i := 15) (v := ?_) rfl (by kernel_rfl) (by kernel_rfl) (by kernel_rfl) (fun _ _ _ h => h) (Or.inl ⟨by kernel_rfl, ?_⟩) (by assumption) ?_
  rotate_left
  · intro w hSw; (try dsimp only at hSw); go_simp; (try with_reducible rfl)
  refine wpAnyH_take (i := 18) (v := ?_) rfl (by kernel_rfl) (by kernel_rfl) (by kernel_rfl) (fun _ _ _ h => h) (Or.inl ⟨by kernel_rfl, ?_⟩) (by assumption) ?_
  rotate_left
  · intro w hSw; (try dsimp only at hSw); go_simp; (try with_reducible rfl)
  refine wpAnyH_take (i := 19) (v := ?_) rfl (by kernel_rfl) (by kernel_rfl) (by kernel_rfl) (fun _ _ _ h => h) (Or.inl ⟨by kernel_rfl, ?_⟩) (by assumption) ?_
  rotate_left
  · intro w hSw; (try dsimp only at hSw); go_simp; (try with_reducible rfl)
  refine wpAnyH_ready (rs := [3]) (by kernel_rfl) (by simp) ?_
  refine AllReadyH.cons rfl (fun K hK => ?_) AllReadyH.nil
  go_simp
  refine (HN1.out _).mono ?_
  rintro e z1 ⟨rfl, hb1⟩
  have P1 : Hid (PB z1 w.heap.size fn qn tn d ∧ Below w.heap.size w z1) := Lib.hid ⟨PD.out.1.rbW hb1, PD.out.2.trans (hb1.mono PD.out.2.size)⟩
  clear hb1 PD hS0
  refine hK.out _ _ P1.out.1.rbox (fun hS0 => ?_)
  clear hK K
  unfold RbBox at hS0
  refine wpAnyH_ready (rs := [6]) (by kernel_rfl) (by simp) ?_
  refine AllReadyH.cons rfl (fun K hK => ?_) AllReadyH.nil
  go_simp
  refine (HN2.out _).mono ?_
  rintro e z2 ⟨rfl, hb2⟩
  have P2 : Hid (PB z2 w.heap.size fn qn tn d ∧ Below w.heap.size w z2) := Lib.hid ⟨P1.out.1.rbW hb2, P1.out.2.trans (hb2.mono P1.out.2.size)⟩
  clear hb2 P1 hS0
  refine hK.out _ _ P2.out.1.rbox (fun hS0 => ?_)
  clear hK K
  unfold RbBox at hS0
  refine wpAnyH_take (i := 7) (v := ?_) rfl (by kernel_rfl) (by kernel_rfl) (by kernel_rfl) (fun _ _ _ h => h) (Or.inl ⟨by kernel_rfl, ?_⟩) (by assumption) ?_
  rotate_left
  · intro w hSw; (try dsimp only at hSw); go_simp; (try with_reducible rfl)
  refine wpAnyH_ready (rs := [10]) (by kernel_rfl) (by simp) ?_
  refine AllReadyH.cons rfl (fun K hK => ?_) AllReadyH.nil
  go_simp
  refine (HN3.out _).mono ?_
  rintro e z3 ⟨rfl, hb3⟩
  have P3 : Hid (PB z3 w.heap.size fn qn tn d ∧ Below w.heap.size w z3) := Lib.hid ⟨P2.out.1.rbW hb3, P2.out.2.trans (hb3.mono P2.out.2.size)⟩
  clear hb3 P2 hS0
  refine hK.out _ _ P3.out.1.rbox (fun hS0 => ?_)
  clear hK K
  unfold RbBox at hS0
  refine wpAnyH_take (i := 11) (v := ?_) rfl (by kernel_rfl) (by kernel_rfl) (by kernel_rfl) (fun _ _ _ h => h) (Or.inl ⟨by kernel_rfl, ?_⟩) (by assumption) ?_
  rotate_left
  · intro w hSw; (try dsimp only at hSw); go_simp; (try with_reducible rfl)
  refine wpAnyH_ready (rs := [16]) (by kernel_rfl) (by simp) ?_
  refine AllReadyH.cons rfl (fun K hK => ?_) AllReadyH.nil
  go_simp
  refine (HN4.out _).mono ?_
  rintro e z4 ⟨rfl, hb4⟩
  have P4 : Hid (PB z4 w.heap.size fn qn tn d ∧ Below w.heap.size w z4) := Lib.hid ⟨P3.out.1.rbW hb4, P3.out.2.trans (hb4.mono P3.out.2.size)⟩
  clear hb4 P3 hS0
  refine hK.out _ _ P4.out.1.rbox (fun hS0 => ?_)
  clear hK K
  unfold RbBox at hS0
  refine wpAnyH_take (i := 17) (v := ?_) rfl (by kernel_rfl) (by kernel_rfl) (by kernel_rfl) (fun _ _ _ h => h) (Or.inl ⟨by kernel_rfl, ?_⟩) (by assumption) ?_
  rotate_left
  · intro w hSw; (try dsimp only at hSw); go_simp; (try with_reducible rfl)
  refine wpAnyH_take (i := 20) (v := ?_) rfl (by kernel_rfl) (by kernel_rfl) (by kernel_rfl) (fun _ _ _ h => h) (Or.inl ⟨by kernel_rfl, ?_⟩) (by assumption) ?_
  rotate_left
  · intro w hSw; (try dsimp only at hSw); go_simp; (try with_reducible rfl)
  refine wpAnyH_take (i := 21) (v := ?_) rfl (by kernel_rfl) (by kernel_rfl) (by kernel_rfl) (fun _ _ _ h => h) (Or.inl ⟨by kernel_rfl, ?_⟩) (by assumption) ?_
  rotate_left
  · intro w hSw; (try dsimp only at hSw); go_simp; (try with_reducible rfl)
  refine wpAnyH_done (by kernel_rfl) ?_ _
  go_wp2
  go_ret
  exact ⟨by rw [HFV.out]; rfl, P4.out.2⟩
end Go.Proofs.YtkbiolhcpghmkaaGreat
