/- A hash that is fed: what the words and the block come to. No condition. -/
import Derived.Lib.BufferWrite
import Derived.Test.YtbjchfcoacmaaaaGreatDoorShMixQ
import Derived.Test.YtbjchfcoacmaaaaGreatDoorWireMQ
namespace Go.Proofs.YtbjchfcoacmaaaaGreatDoor
open Go.RowKit
set_option linter.unusedVariables false
/-- the words and the block of a text -/
structure Of (l ws b : List Nat) : Prop where
  words : ws = toL (Sh.blocks (l.length / 64) Sh.H0 l)
  rest : b.take (l.length % 64) = l.drop (64 * (l.length / 64))
theorem ofL_toL (s : Sh.S8) : ofL (toL s) = s := rfl
theorem rest_front {l b r : List Nat} (h : b.take (l.length % 64) = l.drop (64 * (l.length / 64))) (hb : b.length = 64) (hr : l.length % 64 + r.length ≤ 64) :
    (b.take (l.length % 64) ++ r ++ b.drop (l.length % 64 + r.length)).take (l.length % 64 + r.length) = (l ++ r).drop (64 * (l.length / 64)) := by
  have h1 : (b.take (l.length % 64) ++ r).length = l.length % 64 + r.length := by rw [List.length_append, List.length_take]; omega
  rw [List.take_append_of_le_length (by omega), List.take_of_length_le (by omega), h, List.drop_append_of_le_length (by omega)]
theorem Of.less {l ws b : List Nat} (h : Of l ws b) (hb : b.length = 64) (r : List Nat) (hr : l.length % 64 + r.length < 64) :
    Of (l ++ r) ws (b.take (l.length % 64) ++ r ++ b.drop (l.length % 64 + r.length)) := by
  have hl : (l ++ r).length = l.length + r.length := List.length_append
  have hq : (l ++ r).length / 64 = l.length / 64 := by omega
  have hm : (l ++ r).length % 64 = l.length % 64 + r.length := by omega
  refine ⟨?_, ?_⟩
  · rw [hq, Sh.blocks_front _ _ _ _ (by omega), h.words]
  · rw [hq, hm, rest_front h.rest hb (by omega)]
theorem Of.full {l ws b : List Nat} (h : Of l ws b) (hb : b.length = 64) (r : List Nat) (hr : l.length % 64 + r.length = 64) :
    Of (l ++ r) (toL (Sh.mix (ofL ws) (b.take (l.length % 64) ++ r ++ b.drop (l.length % 64 + r.length)))) (b.take (l.length % 64) ++ r ++ b.drop (l.length % 64 + r.length)) := by
  have hl : (l ++ r).length = l.length + r.length := List.length_append
  have hq : (l ++ r).length / 64 = l.length / 64 + 1 := by omega
  have hm : (l ++ r).length % 64 = 0 := by omega
  have hf := rest_front h.rest hb (by omega : l.length % 64 + r.length ≤ 64)
  refine ⟨?_, ?_⟩
  · rw [hq, Sh.blocks_add, Sh.blocks_front _ _ _ _ (by omega), Sh.blocks, Sh.blocks, h.words, ofL_toL]
    have h1 : (b.take (l.length % 64) ++ r ++ b.drop (l.length % 64 + r.length)).length = 64 := by simp [hb]; omega
    have h2 : ((l ++ r).drop (64 * (l.length / 64))).take 64 = b.take (l.length % 64) ++ r ++ b.drop (l.length % 64 + r.length) := by
      rw [← hf, List.take_take, List.take_of_length_le (by rw [h1]; omega)]
    rw [h2]
  · have h3 : 64 * ((l ++ r).length / 64) = (l ++ r).length := by omega
    rw [hm, List.take_zero, h3, List.drop_of_length_le (Nat.le_refl _)]
/-- what a state of 73 cells is, with some bytes anew -/
theorem stc_put (ws b r : List Nat) (n p : Nat) (h8 : ws.length = 8) (hb : b.length = 64) (hr : p + r.length ≤ 64) :
    ((stc ws b n).toList.take (8 + p) ++ bcl r ++ (stc ws b n).toList.drop (8 + p + r.length)).toArray = stc ws (b.take p ++ r ++ b.drop (p + r.length)) n := by
  unfold stc
  congr 1
  rw [List.toList_toArray]
  have h1 : (wcl ws).length = 8 := by simp [wcl, h8]
  have h2 : (bcl b).length = 64 := by simp [bcl, hb]
  rw [List.take_append, List.drop_append, h1, List.take_of_length_le (by omega), List.drop_of_length_le (by omega), show 8 + p - 8 = p by omega, show 8 + p + r.length - 8 = p + r.length by omega]
  rw [List.take_append_of_le_length (by omega), List.drop_append_of_le_length (by omega)]
  simp [bcl, List.map_take, List.map_drop]
theorem stc_set_len (ws b : List Nat) (n m : Nat) (h8 : ws.length = 8) (hb : b.length = 64) : (stc ws b n).setIfInBounds 72 (.int .i64 (m : Int)) = stc ws b m := by
  apply Array.toList_inj.1
  rw [Array.toList_setIfInBounds]
  unfold stc
  rw [List.toList_toArray, List.toList_toArray, List.set_append_right _ _ (by simp [wcl, h8]), List.set_append_right _ _ (by simp [wcl, bcl, h8, hb])]
  simp [wcl, bcl, h8, hb]
/-- copy of a text into a row from a place on: so many bytes as there is room -/
theorem copy_min {P : Program} (w : World) (dT sT ty elem : TypeId) (g o dLen dCap m : Nat) (s : ByteArray) (cur : Array Value) (t : TypeId)
    (hu : P.underlying dT = some (.slice elem)) (hs : (P.info? elem).map (·.size) = some 1) (hg : w.heap[g]? = some (.cells cur t (0, 0))) (hm : m = Nat.min s.size dLen) (hfit : o + m ≤ cur.size) :
    (Builtin.copy_ #[dT, sT] ty #[.slice (some ⟨g, o, none⟩) dLen dCap, .string s]).run P w =
      .ok (goInt m) (w.setRow g (cur.toList.take o ++ bcl ((nl s).take m) ++ cur.toList.drop (o + m)).toArray) := by
  have hms : m ≤ s.size := by rw [hm]; exact Nat.min_le_left _ _
  have hlen : (bcl ((nl s).take m)).length = m := by rw [bcl, List.length_map, List.length_take, nl, List.length_map, Array.length_toList]; exact Nat.min_eq_left hms
  have hst := run_storeCells_at P g o t (bcl ((nl s).take m)) 0 cur w hg (by rw [hlen]; simpa using hfit) (fun v hv => by
    simp only [bcl, List.mem_map] at hv
    obtain ⟨x, _, rfl⟩ := hv
    rfl)
  have htk : List.take m (List.map (fun b : UInt8 => Value.int IntKind.u8 (b.toNat : Int)) s.data.toList) = bcl ((nl s).take m) := by
    unfold bcl nl
    simp [List.map_take, List.map_map, Function.comp_def]
  rw [hlen] at hst
  simp only [Nat.add_zero] at hst
  cases hq : P.info? elem with
  | none => simp [hq] at hs
  | some i =>
    simp [Builtin.copy_, run_underlying hu, Builtin.lenOf, Builtin.firstCells, sizeOf, typeInfo, hq, ← hm]
    rw [htk, hst]
    simp [Result.andThen]
end Go.Proofs.YtbjchfcoacmaaaaGreatDoor
