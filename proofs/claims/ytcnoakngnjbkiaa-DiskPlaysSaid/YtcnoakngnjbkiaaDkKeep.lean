/- Contract of a disk's keep. Condition: the bytes fit. -/
import Derived.WalkSpells
import Derived.Outline
import Derived.StillTailTactics
import Derived.Lib.BufferWrite
import Derived.Test.YtcnoakngnjbkiaaDkM
namespace Go.Proofs.Ytcnoakngnjbkiaa
open Go.RowKit
set_option linter.unusedVariables false
theorem putB_cells (p : Nat) (s : ByteArray) (st : List Nat) : ((scells st).toList.take p ++ Lib.byteCells s.data.toList ++ (scells st).toList.drop (p + s.size)).toArray = scells (putB p (nl s) st) := by
  unfold scells putB
  rw [nl_length]
  simp only [List.map_append, List.map_take, List.map_drop]
  simp [Lib.byteCells, nl]
/-- a disk, its bytes, and what is not turned -/
structure DkS (w : World) (base B S : Nat) (a b : Nat) (buf : Value) (ws : List (Int × ByteArray)) (armed : Int) (st : List Nat) : Prop where
  d : DkB w base B S a b st.length buf ws armed
  s : StB w S st
theorem DkS.below {w w' : World} {base B S a b : Nat} {buf : Value} {ws : List (Int × ByteArray)} {armed : Int} {st : List Nat} (h : DkS w base B S a b buf ws armed st) (hb : Below w.heap.size w w') : DkS w' base B S a b buf ws armed st := ⟨h.d.belowD hb, h.s.below hb⟩
theorem DkS.drew {w : World} {base B S a b : Nat} {buf : Value} {ws : List (Int × ByteArray)} {armed : Int} {st : List Nat} (h : DkS w base B S a b buf ws armed st) : DkS w.drew base B S a b buf ws armed st := h.below (Below.refl _ _).drew
theorem DkS.put {w : World} {base B S a b : Nat} {buf : Value} {ws : List (Int × ByteArray)} {armed : Int} {st : List Nat} (h : DkS w base B S a b buf ws armed st) (p : Nat) (s : ByteArray) (hp : p + s.size ≤ st.length) :
    DkS (w.setRow S (scells (putB p (nl s) st))) base B S a b buf ws armed (putB p (nl s) st) ∧ Kq.Keeps (· = S) w (w.setRow S (scells (putB p (nl s) st))) := by
  have hl : (putB p (nl s) st).length = st.length := putB_length _ _ _ (by rw [nl_length]; exact hp)
  refine ⟨⟨⟨?_, ?_, h.d.ne, by simpa using h.d.base, h.d.sb, by simpa using h.d.sl⟩, setRow_heap w S _ _ _ _ h.s⟩, ⟨rfl, rfl, rfl, by simp, fun k _ hn => setRow_other w S k _ hn⟩⟩
  · rw [setRow_other _ _ _ _ (Ne.symm h.d.sb), hl]; exact h.d.blk
  · obtain ⟨h1, h2⟩ := h.d.own
    refine ⟨h1, h2.imp id ?_⟩
    rintro ⟨g, cap, cur, rfl, h3, h4, h5⟩
    exact ⟨g, cap, cur, rfl, h3, by rw [setRow_other _ _ _ _ (h.d.ne g rfl).2]; exact h4, h5⟩
def KeepPost (w : World) (base B S a b : Nat) (buf : Value) (ws : List (Int × ByteArray)) (armed : Int) (st : List Nat) (x : Ending) (w' : World) : Prop :=
  x = .returned (.tuple #[]) ∧ DkS w' base B S a b buf ws armed st ∧ Kq.Keeps (· = S) w w'
set_option maxRecDepth 100000 in
set_option maxHeartbeats 1000000 in
theorem dk_keep (base B S a b k p m : Nat) (s : ByteArray) (buf : Value) (ws : List (Int × ByteArray)) (armed : Int) (st : List Nat) (w : World) (h : DkS w base B S a b buf ws armed st)
    (hp : k * a = p) (hm : 0 < m) (hms : m ≤ s.size) (hfit : p + m ≤ st.length) (hs : st.length ≤ 3000000) (hss : s.size ≤ 1000000) :
    Calls Try.prog 33 #[.pointer (some ⟨B, 0, none⟩), .agg #[.int .i64 (k : Int), .string s], .int .i64 (m : Int)] w (KeepPost w base B S a b buf ws armed (putB p ((nl s).take m) st)) := by
  have hmul : wrap64 ((k : Int) * (a : Int)) = (p : Int) := by
    rw [← Int.natCast_mul, hp]; exact IntWalk.wrap64_in _ (by omega)
  have hmul2 : IntKind.i64.wrap ((k : Int) * (a : Int)) = (p : Int) := by rw [IntWalk.i64_left]; exact hmul
  have e1 : ¬ st.length = p := by omega
  have hple : (p : Int) ≤ (st.length : Int) := by omega
  have hxs : (s.extract 0 m).size = m := by simp; omega
  have hnl : nl (s.extract 0 m) = (nl s).take m := by rw [nl_extract, List.drop_zero, Nat.sub_zero]
  obtain ⟨w0, hw0⟩ : ∃ z, z = w.alloc (.cells #[.int .i64 (k : Int), .string s] 68) := ⟨_, rfl⟩
  have hbw : Below w.heap.size w w0 := by rw [hw0]; exact Kq.below_alloc _ _
  have q0 : w0.cell? ⟨w.heap.size, 0, none⟩ = some (.int .i64 (k : Int)) := by rw [hw0]; exact Kq.blk_cell (Kq.blk_new _ _ _ _) 0
  have q1 : w0.cell? ⟨w.heap.size, 1, none⟩ = some (.string s) := by rw [hw0]; exact Kq.blk_cell (Kq.blk_new _ _ _ _) 1
  have h0 : DkS w0 base B S a b buf ws armed st := h.below hbw
  have hput := h0.drew.put p (s.extract 0 m) (by rw [hxs]; exact hfit)
  rw [hnl] at hput
  have HP : Hid (KeepPost w base B S a b buf ws armed (putB p ((nl s).take m) st) (.returned (.tuple #[])) (w0.drew.setRow S (scells (putB p ((nl s).take m) st)))) :=
    Lib.hid ⟨rfl, hput.1, (Kq.Keeps.of_below (S := (· = S)) hbw (fun j h1 h2 => absurd h1 (Nat.not_le.2 h2))).drew.trans hput.2⟩
  have hcp : (Builtin.copy_ #[31, 9] 3 #[.slice (some ⟨S, p, none⟩) (st.length - p) (st.length - p), .string (s.extract 0 m)]).run Try.prog w0.drew = .ok (goInt m) (w0.drew.setRow S (scells (putB p ((nl s).take m) st))) := by
    have := Lib.run_copy_row_string (P := Try.prog) w0.drew 31 9 3 5 S p (st.length - p) (st.length - p) (s.extract 0 m) (scells st) 5 Try.underlying31 (by kernel_rfl) h0.drew.s (by rw [hxs]; omega) (by rw [hxs, show (scells st).size = st.length by simp [scells]]; exact hfit)
    rw [putB_cells, hxs, hnl] at this
    exact this
  have c0 : w0.cell? ⟨B, 0, none⟩ = some (.int .i64 a) := h0.d.c0
  have c2 : w0.cell? ⟨B, 2, none⟩ = some (.slice (some ⟨S, 0, none⟩) st.length st.length) := h0.d.c2
  clear hput h0 hp hnl hxs h hbw
  have HW0 := Lib.hid hw0
  clear hw0
  generalize hz : putB p ((nl s).take m) st = z at *
  clear hz
  have hle1 : (m : Int) ≤ (s.size : Int) := by omega
  go_enter Try.func33, Try.ntmps33
  go_wp2
  rw [← HW0.out]
  go_still_tail 17, (by kernel_rfl)
  change wpList _ _ _ _ _ w0.drew
  clear c0 c2 q0 q1
  go_wp2
  go_end0
  exact HP.out
end Go.Proofs.Ytcnoakngnjbkiaa
