/- A disk and the reference's disk side by side; what a Read tells of both. No condition. -/
import Derived.WalkSpells
import Derived.Outline
import Derived.Test.YtcnoakngnjbkiaaRfDo
import Derived.Test.YtcnoakngnjbkiaaDkTwo
namespace Go.Proofs.Ytcnoakngnjbkiaa
open Go.RowKit
set_option linter.unusedVariables false
structure Duo (W w : World) (bD D S bR R a b : Nat) (bufD : Value) (wsD : List (Int × ByteArray)) (armD : Nat) (stD : List Nat) (bufR : Value) (wsR : List (Int × ByteArray)) (armR : Nat) (stR : List Nat) : Prop where
  A : DkI W w bD D S a b bufD wsD (armD : Int) stD
  B : RfS w bR R a b bufR wsR (armR : Int) stR
  hR : W.heap.size ≤ R
  hbR : W.heap.size ≤ bR
  sep : ∀ j, Own D S bufD j → j ≠ R ∧ bufR.ownBlock ≠ some j
section
variable {W w w' : World} {bD D S bR R a b : Nat} {bufD bufR buf' : Value} {wsD wsR ws' : List (Int × ByteArray)} {armD armR arm' : Nat} {stD stR st' : List Nat}
theorem Duo.below (h : Duo W w bD D S bR R a b bufD wsD armD stD bufR wsR armR stR) (hb : Below w.heap.size w w') : Duo W w' bD D S bR R a b bufD wsD armD stD bufR wsR armR stR :=
  ⟨h.A.below hb, h.B.below hb, h.hR, h.hbR, h.sep⟩
theorem Duo.drew (h : Duo W w bD D S bR R a b bufD wsD armD stD bufR wsR armR stR) : Duo W w.drew bD D S bR R a b bufD wsD armD stD bufR wsR armR stR := h.below (Below.refl _ _).drew
theorem Duo.stepA (h : Duo W w bD D S bR R a b bufD wsD armD stD bufR wsR armR stR) (hd : DoP w bD D S a b bufD ws' arm' st' w') :
    ∃ buf', Duo W w' bD D S bR R a b buf' ws' arm' st' bufR wsR armR stR ∧ Kq.Keeps (Own D S bufD) w w' := by
  obtain ⟨buf', h1, h2, h3⟩ := hd
  refine ⟨buf', ⟨h.A.step h1 h2, h.B.keeps h2 (fun ho => (h.sep R ho).1 rfl) (fun k hk ho => (h.sep k ho).2 hk), h.hR, h.hbR, fun j hj => ?_⟩, h2⟩
  rcases hj with e | e | e
  · exact h.sep j (Or.inl e)
  · exact h.sep j (Or.inr (Or.inl e))
  · rcases h3 j e with e | e
    · exact h.sep j (Or.inr (Or.inr e))
    · refine ⟨fun e2 => ?_, fun e2 => ?_⟩
      · have := Kq.blk_lt h.B.blk; omega
      · have := (h.B.own.lt j e2).2; omega
theorem Duo.stepB (h : Duo W w bD D S bR R a b bufD wsD armD stD bufR wsR armR stR) (hd : RoP w bR R a b bufR ws' arm' st' w') :
    ∃ buf', Duo W w' bD D S bR R a b bufD wsD armD stD buf' ws' arm' st' ∧ Kq.Keeps (· = R) w w' := by
  obtain ⟨buf', h1, h2, h3⟩ := hd
  refine ⟨buf', ⟨⟨h.A.s.keeps h2 (fun j hj e => (h.sep j hj).1 e), h.A.bel.trans (h2.below h.A.bel.size (fun j _ hj => by have := h.hR; omega)), h.A.hB, h.A.hS, h.A.hbase⟩, h1, h.hR, h.hbR, fun j hj => ⟨(h.sep j hj).1, fun e => ?_⟩⟩, h2⟩
  rcases h3 j e with e | e
  · exact (h.sep j hj).2 e
  · have := h.A.s.own_lt hj; omega
end
/-- what a Read tells -/
def rdF (a b : Nat) (ws : List (Int × ByteArray)) (st : List Nat) (n : Int) : ByteArray × Int := if 0 ≤ n ∧ n < (b : Int) then (readB a ws st n, 0) else (⟨#[]⟩, 1)
theorem dk_read_all (base B S a b : Nat) (buf : Value) (ws : List (Int × ByteArray)) (armed : Int) (st : List Nat) (n : Int) (w : World) (h : DkS w base B S a b buf ws armed st) (hlt : ∀ x ∈ st, x < 256)
    (hl : st.length = a * b) (hn : a * b ≤ 3000000) (ha : 0 < a) (hws : ws.length ≤ 1000000) :
    Calls Try.prog 20 #[.pointer (some ⟨B, 0, none⟩), .int .i64 n] w fun x w' => x = .returned (.tuple #[.string (rdF a b ws st n).1, .int .i64 (rdF a b ws st n).2]) ∧ Below w.heap.size w w' := by
  unfold rdF
  by_cases h0 : 0 ≤ n ∧ n < (b : Int)
  · rw [if_pos h0]
    obtain ⟨m, rfl⟩ := Int.eq_ofNat_of_zero_le h0.1
    exact dk_read base B S a b m buf ws armed st w h hlt (by omega) hl hn ha hws
  · rw [if_neg h0]
    exact dk_read_range base B S a b buf ws armed n st w h h0
theorem rf_read_all (base R a b : Nat) (buf : Value) (ws : List (Int × ByteArray)) (armed : Int) (st : List Nat) (n : Int) (w : World) (h : RfS w base R a b buf ws armed st) (hlt : ∀ x ∈ st, x < 256)
    (hl : st.length = a * b) (hn : a * b ≤ 3000000) (hb : b ≤ 3000000) (hws : ws.length ≤ 1000000) :
    Calls Try.prog 21 #[.pointer (some ⟨R, 0, none⟩), .int .i64 n] w fun x w' => x = .returned (.tuple #[.string (rdF a b ws st n).1, .int .i64 (rdF a b ws st n).2]) ∧ Below w.heap.size w w' := by
  unfold rdF
  by_cases h0 : 0 ≤ n ∧ n < (b : Int)
  · rw [if_pos h0]
    obtain ⟨m, rfl⟩ := Int.eq_ofNat_of_zero_le h0.1
    exact rf_read base R a b m buf ws armed st w h hlt (by omega) hl hn hb hws
  · rw [if_neg h0]
    exact rf_read_range base R a b buf ws armed n st w h h0
/-- an act's cells -/
def ActC (w : World) (g o : Nat) (c : ActV) : Prop := w.cell? ⟨g, o, none⟩ = some (.int .i64 c.kind) ∧ w.cell? ⟨g, o + 1, none⟩ = some (.int .i64 c.n) ∧ w.cell? ⟨g, o + 2, none⟩ = some (.int .i64 c.long) ∧ w.cell? ⟨g, o + 3, none⟩ = some (.string c.s) ∧ w.cell? ⟨g, o + 4, none⟩ = some (.slice c.la c.l.length c.lcap)
theorem IsAct.cells {w : World} {g o : Nat} {c : ActV} (h : IsAct w g o c) : ActC w g o c := ⟨h.c0, h.c1, h.c2, h.c3, h.c4⟩
end Go.Proofs.Ytcnoakngnjbkiaa
