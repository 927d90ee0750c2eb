/- Contract of a disk's Read, of what is stable. Condition: a sector that is there. -/
import Derived.WalkSpells
import Derived.Deep.QuietTactic
import Derived.BigQuiet
import Derived.Test.YtcnoakngnjbkiaaDkRead
namespace Go.Proofs.Ytcnoakngnjbkiaa
open Go.RowKit
set_option linter.unusedVariables false
/-- the disk's bytes -/
def StB (w : World) (S : Nat) (st : List Nat) : Prop := w.heap[S]? = some (.cells (scells st) 5 (0, 0))
theorem StB.below {w w' : World} {S : Nat} {st : List Nat} (h : StB w S st) (hb : Below w.heap.size w w') : StB w' S st := Kq.below_blk hb h (Kq.blk_lt h)
theorem scells_get (st : List Nat) (i : Nat) (h : i < st.length) : (scells st)[i]? = some (.int .u8 ((st[i] : Nat) : Int)) := by
  unfold scells
  simp [h]
/-- some bytes of it, as a text -/
theorem stb_text (w : World) (S p m c : Nat) (st : List Nat) (h : StB w S st) (hl : ∀ b ∈ st, b < 256) (hm : p + m ≤ st.length) :
    (convert 31 9 (.slice (some ⟨S, p, none⟩) m c)).run Try.prog w = .ok (.string (txt ((st.drop p).take m))) w := by
  have hlen : (((st.drop p).take m).map UInt8.ofNat).length = m := by rw [List.length_map, List.length_take, List.length_drop]; omega
  have := Kq.conv_bytes (P := Try.prog) w (src := 31) (dst := 9) (e := 5) ⟨S, p, none⟩ (((st.drop p).take m).map UInt8.ofNat) c Try.underlying31 Try.underlying5 Try.underlying9 (fun j v hj => by
    have hj' : j < m := by
      rcases Nat.lt_or_ge j m with h' | h'
      · exact h'
      · rw [List.map_map, List.getElem?_eq_none (by rw [List.length_map, List.length_take, List.length_drop]; omega)] at hj
        cases hj
    have hadd : (⟨S, p, none⟩ : Addr).add j = ⟨S, p + j, none⟩ := by unfold Addr.add; split <;> simp_all
    have hlt : p + j < st.length := by omega
    rw [hadd, Kq.blk_cell h, scells_get st (p + j) hlt, ← hj]
    have hb := hl st[p + j] (List.getElem_mem _)
    simp [hj', hlt, Nat.mod_eq_of_lt hb])
  rw [hlen] at this
  exact this
set_option maxRecDepth 100000 in
set_option maxHeartbeats 1000000 in
theorem dk_read_none (base B S : Nat) (a k p : Nat) (b : Int) (st : List Nat) (armed : Int) (w : World) (h : DkB w base B S a b st.length (.slice none 0 0) [] armed) (hst : StB w S st) (hlt : ∀ x ∈ st, x < 256)
    (h1 : (k : Int) < b) (hp : k * a = p) (hpa : p + a ≤ st.length) (ha : 0 < a) (hs : st.length ≤ 3000000) :
    Calls Try.prog 20 #[.pointer (some ⟨B, 0, none⟩), .int .i64 (k : Int)] w fun x w' => x = .returned (.tuple #[.string (txt ((st.drop p).take a)), .int .i64 0]) ∧ Below w.heap.size w w' := by
  have H := Lib.hid h
  have HK := Lib.hid h1
  have HST := Lib.hid (And.intro hst hlt)
  have c0 := h.c0
  have c1 := h.c1
  have hmul : wrap64 ((k : Int) * (a : Int)) = (p : Int) := by
    rw [← Int.natCast_mul, hp]; exact IntWalk.wrap64_in _ (by omega)
  clear h h1 hst hlt hp
  go_enter Try.func20, Try.ntmps20
  go_wp2_with fail
  refine (dk_has_yes a b k _ (by omega) HK.out).mono ?_
  rintro x w2 ⟨rfl, b2⟩
  have H2 := Lib.hid (H.out.belowD b2)
  have HT2 := Lib.hid (HST.out.1.below b2)
  have HB2 := Lib.hid b2
  clear b2 c0 c1 H
  have c3 := H2.out.c3
  go_wp2
  go_loop [6] (fun i => i = .int .i64 (-1)) (fun _ => 0)
  case atStart => rfl
  case round =>
    subst hrel
    have c0 := H2.out.c0
    have c2 := H2.out.c2
    go_wp2
    have e1 : IntKind.i64.wrap ((p : Int) + (a : Int)) = (p : Int) + (a : Int) := IntWalk.i64_in _ (by omega)
    have e2 : (0 : Int) ≤ (p : Int) + (a : Int) := by omega
    have e3 : ((p : Int) + (a : Int)).toNat = p + a := by omega
    have e4 : (p : Int) + (a : Int) ≤ (st.length : Int) := by omega
    have e5 : (p : Int) ≤ (p : Int) + (a : Int) := by omega
    have e6 : ∀ q c, (convert 31 9 (.slice (some ⟨S, p, none⟩) a c)).run Try.prog (w2.drewN q) = .ok (.string (txt ((st.drop p).take a))) (w2.drewN q) := fun q c => stb_text _ S p a c st HT2.out HST.out.2 hpa
    have e7 : ¬ st.length = p := by omega
    go_quiet (fail)
    go_wp2
    go_ret2
    exact ⟨rfl, ⟨HB2.out.os, HB2.out.tape, HB2.out.output, HB2.out.size, HB2.out.block⟩⟩
end Go.Proofs.Ytcnoakngnjbkiaa
