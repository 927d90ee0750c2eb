/- Contracts of the reference's disk: put, Flush. Condition: sizes. -/
import Derived.WalkSpells
import Derived.Outline
import Derived.StillTailTactics
import Derived.Test.YtcnoakngnjbkiaaRfNew
namespace Go.Proofs.Ytcnoakngnjbkiaa
open Go.RowKit
set_option linter.unusedVariables false
theorem txt_put (st : List Nat) (p : Nat) (s : ByteArray) (hlt : ∀ x ∈ st, x < 256) (h : p + s.size ≤ st.length) : (txt st).extract 0 p ++ s ++ (txt st).extract (p + s.size) st.length = txt (putB p (nl s) st) := by
  apply nl_inj
  rw [nl_append, nl_append, nl_extract, nl_extract, nl_txt _ hlt, nl_txt _ (putB_lt _ _ _ (nl_lt s) hlt)]
  unfold putB
  rw [nl_length, List.drop_zero, Nat.sub_zero, List.take_of_length_le (l := st.drop _) (by rw [List.length_drop]; omega)]
theorem RfS.setStable {w : World} {base R a b : Nat} {buf : Value} {ws : List (Int × ByteArray)} {armed : Int} {st : List Nat} (h : RfS w base R a b buf ws armed st) (st' : List Nat) : RfS (w.setCell ⟨R, 2, none⟩ (.string (txt st'))) base R a b buf ws armed st' ∧ Kq.Keeps (· = R) w (w.setCell ⟨R, 2, none⟩ (.string (txt st'))) := by
  refine ⟨⟨Kq.blk_set h.blk 2 _, ?_, h.ne, by simpa [World.setCell] using h.base⟩, Kq.Keeps.setCell _ _ _ rfl⟩
  obtain ⟨h1, h2⟩ := h.own
  refine ⟨h1, h2.imp id ?_⟩
  rintro ⟨g, cap, cur, hv, h3, h4, h5⟩
  exact ⟨g, cap, cur, hv, h3, by rw [Below.heap_setCell _ _ _ _ (h.ne g (by rw [hv]; rfl))]; exact h4, h5⟩
theorem RfS.drew {w : World} {base R a b : Nat} {buf : Value} {ws : List (Int × ByteArray)} {armed : Int} {st : List Nat} (h : RfS w base R a b buf ws armed st) : RfS w.drew base R a b buf ws armed st := h.below (Below.refl _ _).drew
def RputP (w : World) (base R a b : Nat) (buf : Value) (ws : List (Int × ByteArray)) (armed : Int) (st : List Nat) (x : Ending) (w' : World) : Prop :=
  x = .returned (.tuple #[]) ∧ RfS w' base R a b buf ws armed st ∧ Kq.Keeps (· = R) w w'
set_option maxRecDepth 100000 in
set_option maxHeartbeats 1000000 in
theorem rf_put (base R a b k p : Nat) (s : ByteArray) (buf : Value) (ws : List (Int × ByteArray)) (armed : Int) (st : List Nat) (w : World) (h : RfS w base R a b buf ws armed st)
    (hp : k * a = p) (hfit : p + s.size ≤ st.length) (hs : st.length ≤ 3000000) (hlt : ∀ x ∈ st, x < 256) :
    Calls Try.prog 35 #[.pointer (some ⟨R, 0, none⟩), .int .i64 (k : Int), .string s] w (RputP w base R a b buf ws armed (putB p (nl s) st)) := by
  have hmul : wrap64 ((k : Int) * (a : Int)) = (p : Int) := by
    rw [← Int.natCast_mul, hp]; exact IntWalk.wrap64_in _ (by omega)
  have hadd : wrap64 ((p : Int) + (s.size : Int)) = ((p + s.size : Nat) : Int) := by rw [IntWalk.wrap64_in _ (by omega)]; omega
  have htx := txt_put st p s hlt hfit
  have H1 := Lib.hid (h.drew.setStable (putB p (nl s) st))
  have HB := Lib.hid ((Kq.Keeps.refl (· = R) w).drew)
  have c0 := h.c0
  have c2 := h.c2
  have f2 := h.drew.fz 2
  have hsz : (txt st).size = st.length := txt_size st
  rw [← hsz] at htx
  have hle1 : (p : Int) ≤ ((txt st).size : Int) := by omega
  have hle2 : ((p + s.size : Nat) : Int) ≤ ((txt st).size : Int) := by omega
  have hle3 : p ≤ (txt st).size := by omega
  have hle4 : p + s.size ≤ (txt st).size := by omega
  have hb1 : ¬ 9223372036854775807 < ((txt st).extract 0 p).size + s.size := by simp; omega
  have hb2 : ¬ 9223372036854775807 < ((txt st).extract 0 p ++ s).size + ((txt st).extract (p + s.size) (txt st).size).size := by simp; omega
  have hw1 : IntKind.i64.wrap ((p : Int) + (s.size : Int)) = ((p + s.size : Nat) : Int) := by rw [IntWalk.i64_in _ (by omega)]; omega
  clear h hp hfit hsz hlt hs hadd
  generalize txt st = T at *
  generalize p + s.size = m at *
  generalize hX1 : T.extract 0 p = X1 at *
  generalize hX2 : T.extract m T.size = X2 at *
  have hb3 : ¬ 9223372036854775807 < X1.size + s.size + X2.size := by rw [ByteArray.size_append] at hb2; exact hb2
  generalize hZ : txt (putB p (nl s) st) = Z at *
  clear hZ
  go_enter Try.func35, Try.ntmps35
  go_wp2
  go_still_tail 21, (by kernel_rfl)
  change wpList _ _ _ _ _ w.drew
  go_wp2
  go_end0
  exact ⟨rfl, H1.out.1, HB.out.trans H1.out.2⟩
end Go.Proofs.Ytcnoakngnjbkiaa
