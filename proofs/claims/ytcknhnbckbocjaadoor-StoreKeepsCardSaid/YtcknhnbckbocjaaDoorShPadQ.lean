/- Merged: ShFeed, ShAdd, ShDig, ShPad. A hash that is fed: what the words and the block come to. No condition. Contract of (*sha.state).add: a hash is fed. Condition: sizes. Contract of (*sha.state).digest: the words by their bytes. Condition: a state lies there. Contract of (*sha.state).padding: what ends a text of a length. Condition: a state lies there. -/
import Derived.Lib.BufferWrite
import Derived.Test.YtcknhnbckbocjaaDoorShMixQ
import Derived.Test.YtcknhnbckbocjaaDoorCommonQ
import Derived.StillTailTactics
import Derived.Deep.MidRow
import Derived.Test.YtcknhnbckbocjaaDoorShHex2Q
namespace Go.Proofs.YtcknhnbckbocjaaDoor
open Go.RowKit
set_option linter.unusedVariables false
/-- the words and the block of a text -/
structure Of (l ws b : List Nat) : Prop where
  words : ws = toL (Sh.blocks (l.length / 64) Sh.H0 l)
  rest : b.take (l.length % 64) = l.drop (64 * (l.length / 64))
theorem ofL_toL (s : Sh.S8) : ofL (toL s) = s := rfl
theorem rest_front {l b r : List Nat} (h : b.take (l.length % 64) = l.drop (64 * (l.length / 64))) (hb : b.length = 64) (hr : l.length % 64 + r.length ≤ 64) :
    (b.take (l.length % 64) ++ r ++ b.drop (l.length % 64 + r.length)).take (l.length % 64 + r.length) = (l ++ r).drop (64 * (l.length / 64)) := by
  have h1 : (b.take (l.length % 64) ++ r).length = l.length % 64 + r.length := by rw [List.length_append, List.length_take]; omega
  rw [List.take_append_of_le_length (by omega), List.take_of_length_le (by omega), h, List.drop_append_of_le_length (by omega)]
theorem Of.less {l ws b : List Nat} (h : Of l ws b) (hb : b.length = 64) (r : List Nat) (hr : l.length % 64 + r.length < 64) :
    Of (l ++ r) ws (b.take (l.length % 64) ++ r ++ b.drop (l.length % 64 + r.length)) := by
  have hl : (l ++ r).length = l.length + r.length := List.length_append
  have hq : (l ++ r).length / 64 = l.length / 64 := by omega
  have hm : (l ++ r).length % 64 = l.length % 64 + r.length := by omega
  refine ⟨?_, ?_⟩
  · rw [hq, Sh.blocks_front _ _ _ _ (by omega), h.words]
  · rw [hq, hm, rest_front h.rest hb (by omega)]
theorem Of.full {l ws b : List Nat} (h : Of l ws b) (hb : b.length = 64) (r : List Nat) (hr : l.length % 64 + r.length = 64) :
    Of (l ++ r) (toL (Sh.mix (ofL ws) (b.take (l.length % 64) ++ r ++ b.drop (l.length % 64 + r.length)))) (b.take (l.length % 64) ++ r ++ b.drop (l.length % 64 + r.length)) := by
  have hl : (l ++ r).length = l.length + r.length := List.length_append
  have hq : (l ++ r).length / 64 = l.length / 64 + 1 := by omega
  have hm : (l ++ r).length % 64 = 0 := by omega
  have hf := rest_front h.rest hb (by omega : l.length % 64 + r.length ≤ 64)
  refine ⟨?_, ?_⟩
  · rw [hq, Sh.blocks_add, Sh.blocks_front _ _ _ _ (by omega), Sh.blocks, Sh.blocks, h.words, ofL_toL]
    have h1 : (b.take (l.length % 64) ++ r ++ b.drop (l.length % 64 + r.length)).length = 64 := by simp [hb]; omega
    have h2 : ((l ++ r).drop (64 * (l.length / 64))).take 64 = b.take (l.length % 64) ++ r ++ b.drop (l.length % 64 + r.length) := by
      rw [← hf, List.take_take, List.take_of_length_le (by rw [h1]; omega)]
    rw [h2]
  · have h3 : 64 * ((l ++ r).length / 64) = (l ++ r).length := by omega
    rw [hm, List.take_zero, h3, List.drop_of_length_le (Nat.le_refl _)]
theorem padding_len (n : Nat) : (n + (Sh.padding n).length) % 64 = 0 := by
  have : (Sh.padding n).length = 1 + (64 + 55 - n % 64) % 64 + 8 := by simp [Sh.padding, Sh.be8, Sh.be4]; omega
  rw [this]; omega
/-- what a state of 73 cells is, with some bytes anew -/
theorem stc_put (ws b r : List Nat) (n p : Nat) (h8 : ws.length = 8) (hb : b.length = 64) (hr : p + r.length ≤ 64) :
    ((stc ws b n).toList.take (8 + p) ++ bcl r ++ (stc ws b n).toList.drop (8 + p + r.length)).toArray = stc ws (b.take p ++ r ++ b.drop (p + r.length)) n := by
  unfold stc
  congr 1
  rw [List.toList_toArray]
  have h1 : (wcl ws).length = 8 := by simp [wcl, h8]
  have h2 : (bcl b).length = 64 := by simp [bcl, hb]
  rw [List.take_append, List.drop_append, h1, List.take_of_length_le (by omega), List.drop_of_length_le (by omega), show 8 + p - 8 = p by omega, show 8 + p + r.length - 8 = p + r.length by omega]
  rw [List.take_append_of_le_length (by omega), List.drop_append_of_le_length (by omega)]
  simp [bcl, List.map_take, List.map_drop]
theorem stc_set_len (ws b : List Nat) (n m : Nat) (h8 : ws.length = 8) (hb : b.length = 64) : (stc ws b n).setIfInBounds 72 (.int .i64 (m : Int)) = stc ws b m := by
  apply Array.toList_inj.1
  rw [Array.toList_setIfInBounds]
  unfold stc
  rw [List.toList_toArray, List.toList_toArray, List.set_append_right _ _ (by simp [wcl, h8]), List.set_append_right _ _ (by simp [wcl, bcl, h8, hb])]
  simp [wcl, bcl, h8, hb]
theorem bytes_bcl (s : ByteArray) : Lib.byteCells s.data.toList = bcl (nl s) := by
  unfold bcl nl Lib.byteCells
  simp [List.map_map, Function.comp_def]
/-- copy of a text into a row from a place on: so many bytes as there is room -/
theorem copy_min {P : Program} (w : World) (dT sT ty elem : TypeId) (g o dLen dCap m : Nat) (s : ByteArray) (cur : Array Value) (t : TypeId)
    (hu : P.underlying dT = some (.slice elem)) (hs : (P.info? elem).map (·.size) = some 1) (hg : w.heap[g]? = some (.cells cur t (0, 0))) (hm : m = Nat.min s.size dLen) (hfit : o + m ≤ cur.size) :
    (Builtin.copy_ #[dT, sT] ty #[.slice (some ⟨g, o, none⟩) dLen dCap, .string s]).run P w =
      .ok (goInt m) (w.setRow g (cur.toList.take o ++ bcl ((nl s).take m) ++ cur.toList.drop (o + m)).toArray) := by
  have hms : m ≤ s.size := by rw [hm]; exact Nat.min_le_left _ _
  have hlen : (bcl ((nl s).take m)).length = m := by rw [bcl, List.length_map, List.length_take, nl, List.length_map, Array.length_toList]; exact Nat.min_eq_left hms
  have hst := run_storeCells_at P g o t (bcl ((nl s).take m)) 0 cur w hg (by rw [hlen]; simpa using hfit) (fun v hv => by
    simp only [bcl, List.mem_map] at hv
    obtain ⟨x, _, rfl⟩ := hv
    rfl)
  have htk : List.take m (List.map (fun b : UInt8 => Value.int IntKind.u8 (b.toNat : Int)) s.data.toList) = bcl ((nl s).take m) := by
    unfold bcl nl
    simp [List.map_take, List.map_map, Function.comp_def]
  rw [hlen] at hst
  simp only [Nat.add_zero] at hst
  cases hq : P.info? elem with
  | none => simp [hq] at hs
  | some i =>
    simp [Builtin.copy_, run_underlying hu, Builtin.lenOf, Builtin.firstCells, sizeOf, typeInfo, hq, ← hm]
    rw [htk, hst]
    simp [Result.andThen]
end Go.Proofs.YtcknhnbckbocjaaDoor
namespace Go.Proofs.YtcknhnbckbocjaaDoor
open Go.RowKit
set_option linter.unusedVariables false
/-- block B holds a hash of the text l -/
structure Fed (w : World) (B : Nat) (t : TypeId) (l : List Nat) : Prop where
  ex : ∃ ws b, StS w B t ws b l.length ∧ Of l ws b
theorem Fed.below {w w' : World} {B : Nat} {t : TypeId} {l : List Nat} (h : Fed w B t l) (hb : Below w.heap.size w w') : Fed w' B t l := by
  obtain ⟨ws, b, h1, h2⟩ := h.ex
  exact ⟨ws, b, h1.below hb, h2⟩
theorem StS.put {w : World} {B : Nat} {t : TypeId} {ws b : List Nat} {n : Nat} (h : StS w B t ws b n) (p : Nat) (r : List Nat) (hr : p + r.length ≤ 64) (hlt : ∀ x ∈ r, x < 256) :
    StS (w.setRow B ((stc ws b n).toList.take (8 + p) ++ bcl r ++ (stc ws b n).toList.drop (8 + p + r.length)).toArray) B t ws (b.take p ++ r ++ b.drop (p + r.length)) n ∧
    Kq.Keeps (· = B) w (w.setRow B ((stc ws b n).toList.take (8 + p) ++ bcl r ++ (stc ws b n).toList.drop (8 + p + r.length)).toArray) := by
  generalize hc : ((stc ws b n).toList.take (8 + p) ++ bcl r ++ (stc ws b n).toList.drop (8 + p + r.length)).toArray = c
  have hk : Kq.Keeps (· = B) w (w.setRow B c) := ⟨rfl, rfl, rfl, by simp [World.setRow], fun k _ hn => by
    rw [World.setRow, Array.getElem?_modify, if_neg (fun e => hn e.symm)]⟩
  refine ⟨⟨?_, h.w8, ?_, h.wlt, ?_, h.roots.keeps hk (fun e => by have := h.far; omega) h.low, h.far, Nat.lt_of_lt_of_le h.low hk.size⟩, hk⟩
  · rw [set_row w B _ c t (0, 0) h.blk, ← hc, stc_put ws b r n p h.w8 h.b64 hr]
  · simp [h.b64]; omega
  · intro x hx
    simp only [List.mem_append] at hx
    rcases hx with (hx | hx) | hx
    · exact h.blt x (List.mem_of_mem_take hx)
    · exact hlt x hx
    · exact h.blt x (List.mem_of_mem_drop hx)
theorem StS.setLen {w : World} {B : Nat} {t : TypeId} {ws b : List Nat} {n : Nat} (h : StS w B t ws b n) (m : Nat) :
    StS (w.setCell ⟨B, 72, none⟩ (.int .i64 (m : Int))) B t ws b m ∧ Kq.Keeps (· = B) w (w.setCell ⟨B, 72, none⟩ (.int .i64 (m : Int))) := by
  have hk : Kq.Keeps (· = B) w (w.setCell ⟨B, 72, none⟩ (.int .i64 (m : Int))) := Kq.Keeps.setCell _ _ _ rfl
  refine ⟨⟨?_, h.w8, h.b64, h.wlt, h.blt, h.roots.keeps hk (fun e => by have := h.far; omega) h.low, h.far, Nat.lt_of_lt_of_le h.low hk.size⟩, hk⟩
  rw [Kq.blk_set h.blk, stc_set_len ws b n m h.w8 h.b64]
theorem slice_from (w : World) (B p : Nat) (hp : p < 64) : (Instr.sliceAt 126 (.pointer (some ⟨B, 8, none⟩)) (some (.int .i64 (p : Int))) none none).run Tryd.prog w = .ok (.slice (some ⟨B, 8 + p, none⟩) (64 - p) (64 - p)) w := by
  have h1 : Tryd.prog.arrayLen 126 = 64 := by kernel_rfl
  have h2 : Tryd.prog.elem 126 = 5 := by kernel_rfl
  have hu : Tryd.prog.underlying 126 = some (.array (Tryd.prog.arrayLen 126) (Tryd.prog.elem 126)) := by rw [h1, h2]; exact Tryd.underlying126
  have := run_sliceAt_array_l w 126 ⟨B, 8, none⟩ hu .i64 (p : Int) (by omega) (by rw [h1]; omega)
  rw [this, h1, h2, Tryd.sizeOf5]
  simp only [Result.andThen, slicedAt]
  rw [Int.toNat_natCast, if_neg (by omega)]
  have e3 : (⟨B, 8, none⟩ : Addr).add (p * 1) = ⟨B, 8 + p, none⟩ := by unfold Addr.add; split <;> simp_all
  rw [e3]
structure AddI (w : World) (B : Nat) (t : TypeId) (all : List Nat) (r : ByteArray) (wr : World) : Prop where
  ex : ∃ p, p ++ nl r = all ∧ Fed wr B t p
  keep : Kq.Keeps (· = B) w wr
set_option maxRecDepth 100000 in
set_option maxHeartbeats 4000000 in
theorem sh_add (B : Nat) (t : TypeId) (l : List Nat) (s : ByteArray) (w : World) (h : Fed w B t l) (hs : l.length + s.size ≤ 1000000000) :
    Calls Tryd.prog 77 #[.pointer (some ⟨B, 0, none⟩), .string s] w fun x w' => x = .returned (.tuple #[]) ∧ Fed w' B t (l ++ nl s) ∧ Kq.Keeps (· = B) w w' := by
  have H := Lib.hid h
  have HL : Hid ((l ++ nl s).length ≤ 1000000000) := Lib.hid (by rw [List.length_append]; simpa [nl] using hs)
  clear h hs
  go_enter Tryd.func77, Tryd.ntmps77
  go_wp2
  go_loopw [1] (fun v wr => ∃ r : ByteArray, v = .string r ∧ AddI w B t (l ++ nl s) r wr) (fun v _ => match v with | .string r => r.size | _ => 0)
  case atStart => exact ⟨s, rfl, ⟨l, rfl, H.out⟩, Kq.Keeps.refl _ _⟩
  case round =>
    obtain ⟨r, rfl, hI⟩ := hrel
    have HI := Lib.hid hI
    obtain ⟨p, hp, hF⟩ := hI.ex
    obtain ⟨ws, b, hS, hO⟩ := hF.ex
    have HS := Lib.hid hS
    have HO := Lib.hid hO
    have HP := Lib.hid hp
    have hnr : (nl r).length = r.size := by simp [nl]
    have hpl : p.length + r.size ≤ 1000000000 := by have := HL.out; rw [← hp, List.length_append, hnr] at this; exact this
    clear hI hF hS hO hp
    by_cases h0 : 0 < r.size
    · obtain ⟨n, hn⟩ : ∃ n, n = p.length := ⟨_, rfl⟩
      rw [← hn] at hpl HS
      have HN := Lib.hid hn
      clear hn
      obtain ⟨q, hq⟩ : ∃ q, q = n % 64 := ⟨_, rfl⟩
      have hq64 : q < 64 := by omega
      obtain ⟨m, hm⟩ : ∃ m, m = Nat.min r.size (64 - q) := ⟨_, rfl⟩
      have hm1 : m ≤ r.size := by rw [hm]; exact Nat.min_le_left _ _
      have hm2 : m ≤ 64 - q := by rw [hm]; exact Nat.min_le_right _ _
      have hm3 : 0 < m := by rw [hm]; exact Nat.lt_min.2 ⟨h0, by omega⟩
      have d0 : (0 : Int) < (r.size : Int) := by omega
      have c72 := HS.out.len
      have e1 : (n : Int) % 64 = (q : Int) := by omega
      have e2 : (n : Int).tmod 64 = (q : Int) := by rw [Int.tmod_eq_emod_of_nonneg (by omega)]; omega
      have hsl := fun w => slice_from w B q hq64
      have hst : StS wr.drew B t ws b n := HS.out.below ⟨rfl, rfl, rfl, Nat.le_refl _, fun _ _ => rfl⟩
      have hlt : ∀ x ∈ (nl r).take m, x < 256 := fun x hx => nl_lt r x (List.mem_of_mem_take hx)
      have hml : ((nl r).take m).length = m := by rw [List.length_take, hnr]; exact Nat.min_eq_left hm1
      have hput := hst.put q ((nl r).take m) (by rw [hml]; omega) hlt
      rw [hml] at hput
      obtain ⟨w5, hw5⟩ : ∃ z, z = wr.drew.setRow B ((stc ws b n).toList.take (8 + q) ++ bcl ((nl r).take m) ++ (stc ws b n).toList.drop (8 + q + m)).toArray := ⟨_, rfl⟩
      have hcp : (Builtin.copy_ #[97, 9] 3 #[.slice (some ⟨B, 8 + q, none⟩) (64 - q) (64 - q), .string r]).run Tryd.prog wr.drew = .ok (goInt m) w5 := by
        rw [hw5]
        exact copy_min wr.drew 97 9 3 5 B (8 + q) (64 - q) (64 - q) m r (stc ws b n) t Tryd.underlying97 (by kernel_rfl) HS.out.blk hm (by rw [stc_size ws b n HS.out.w8 HS.out.b64]; omega)
      have H5 : Hid (StS w5 B t ws (b.take q ++ (nl r).take m ++ b.drop (q + m)) n ∧ Kq.Keeps (· = B) wr w5) := Lib.hid (by
        rw [hw5]
        exact ⟨hput.1, (Kq.Keeps.refl (· = B) wr).drew.trans hput.2⟩)
      have HM := Lib.hid (And.intro hq (And.intro hq64 (And.intro hm1 (And.intro hm2 hm3))))
      have HLT := Lib.hid (And.intro hlt hml)
      clear hput hw5 hst hlt hml hm hq
      go_wp2
      go_still_tail 10, (by kernel_rfl)
      change wpList _ _ _ _ _ wr.drew
      clear hsl c72
      have c72 := H5.out.1.len
      have f72 : w5.frozen? ⟨B, 72, none⟩ = false := Kq.blk_free H5.out.1.blk 72
      have g0 : (m : Int) ≤ (r.size : Int) := by have := HM.out.2.2.1; omega
      have g1 : IntKind.i64.wrap ((n : Int) + (m : Int)) = ((n + m : Nat) : Int) := by rw [IntWalk.i64_in _ (by omega)]; omega
      have g2 : (((n + m : Nat) : Int)) % 64 = (((n + m) % 64 : Nat) : Int) := by omega
      have g3 : (((n + m : Nat) : Int)).tmod 64 = (((n + m) % 64 : Nat) : Int) := by rw [Int.tmod_eq_emod_of_nonneg (by omega)]; omega
      have g4 : (n : Int) + (m : Int) = ((n + m : Nat) : Int) := by omega
      have H6 := Lib.hid (H5.out.1.setLen (n + m))
      have HZ : Hid ((q + m = 64 ∧ (n + m) % 64 = 0) ∨ (q + m < 64 ∧ (n + m) % 64 = q + m)) := Lib.hid (by have := HM.out.1; have := HM.out.2; omega)
      obtain ⟨z, hz⟩ : ∃ z, z = (n + m) % 64 := ⟨_, rfl⟩
      rw [← hz] at g2 g3 HZ
      clear hz
      obtain ⟨nm, hnm⟩ : ∃ nm, nm = n + m := ⟨_, rfl⟩
      rw [← hnm] at g1 g2 g3 g4 H6
      have HNM := Lib.hid hnm
      have hnb : nm ≤ 1000000000 := by have := HM.out.2.2.1; omega
      clear hnm
      obtain ⟨w6, hw6⟩ : ∃ x, x = w5.setCell ⟨B, 72, none⟩ (.int .i64 (nm : Int)) := ⟨_, rfl⟩
      rw [← hw6] at H6
      have c6 := H6.out.1.len
      have hrz : (r.extract m r.size).size = r.size - m := by simp
      have HRZ := Lib.hid hrz
      have HNR : Hid (nl (r.extract m r.size) = (nl r).drop m) := Lib.hid (by rw [nl_extract, List.take_of_length_le (by rw [List.length_drop, hnr]; exact Nat.le_refl _)])
      have HNL := Lib.hid hnr
      have HW6 := Lib.hid hw6
      clear hw6 hrz hnr e1 e2
      rcases HZ.out with hzz | hzz
      · rw [hzz.2] at g2 g3
        have HZ1 := Lib.hid hzz.1
        clear hzz HZ
        go_wp2_with fail
        rw [← HW6.out]
        refine (sh_mix B t ws _ nm w6 H6.out.1).mono ?_
        rintro x w7 ⟨rfl, h7, k7⟩
        have HN : Hid (AddI w B t (l ++ nl s) (r.extract m r.size) w7) := Lib.hid (by
          have hpl2 : (p ++ (nl r).take m).length = nm := by rw [List.length_append, HLT.out.2, ← HN.out, HNM.out]
          have ho := HO.out.full HS.out.b64 ((nl r).take m) (by rw [HLT.out.2, ← HN.out, ← HM.out.1]; exact HZ1.out)
          rw [HLT.out.2, ← HN.out, ← HM.out.1] at ho
          refine ⟨⟨p ++ (nl r).take m, by rw [HNR.out, List.append_assoc, List.take_append_drop]; exact HP.out, ⟨_, _, by rw [hpl2]; exact h7, ho⟩⟩, ?_⟩
          exact ((HI.out.keep.trans H5.out.2).trans H6.out.2).trans k7)
        clear h7 k7 c72 f72 g0 g1 g2 g3 g4 c6
        go_wp2
        go_roundw
        case rel => exact ⟨_, rfl, HN.out⟩
        case measure => have := HM.out.2.2.1; have := HM.out.2.2.2.2; simp; omega
      · have zz : ¬ ((z : Int) = 0) := by have := HM.out.2.2.2.2; omega
        have zz2 : ¬ z = 0 := by have := HM.out.2.2.2.2; omega
        have HZ1 := Lib.hid hzz
        have HN : Hid (AddI w B t (l ++ nl s) (r.extract m r.size) w6) := Lib.hid (by
          have hpl2 : (p ++ (nl r).take m).length = nm := by rw [List.length_append, HLT.out.2, ← HN.out, HNM.out]
          have ho := HO.out.less HS.out.b64 ((nl r).take m) (by rw [HLT.out.2, ← HN.out, ← HM.out.1]; exact hzz.1)
          rw [HLT.out.2, ← HN.out, ← HM.out.1] at ho
          refine ⟨⟨p ++ (nl r).take m, by rw [HNR.out, List.append_assoc, List.take_append_drop]; exact HP.out, ⟨_, _, by rw [hpl2]; exact H6.out.1, ho⟩⟩, ?_⟩
          exact (HI.out.keep.trans H5.out.2).trans H6.out.2)
        rw [HW6.out] at HN
        clear hzz HZ
        go_wp2
        clear c72 f72 g0 g1 g2 g3 g4 c6 zz zz2
        go_roundw
        case rel => exact ⟨_, rfl, HN.out⟩
        case measure => have := HM.out.2.2.1; have := HM.out.2.2.2.2; simp; omega
    · have d0 : ¬ ((0 : Int) < (r.size : Int)) := by omega
      have hnil : nl r = [] := List.eq_nil_of_length_eq_zero (by rw [hnr]; omega)
      rw [hnil, List.append_nil] at HP
      have HF : Hid (Fed wr B t (l ++ nl s)) := Lib.hid (by rw [← HP.out]; exact ⟨_, _, HS.out, HO.out⟩)
      clear hnil hnr hpl
      go_wp2
      go_end0
      exact ⟨rfl, HF.out, HI.out.keep⟩
end Go.Proofs.YtcknhnbckbocjaaDoor
namespace Go.Proofs.YtcknhnbckbocjaaDoor
open Go.RowKit
set_option linter.unusedVariables false
def outL (ws : List Nat) (k : Nat) : List Nat := (ws.take k).flatMap Sh.be4
theorem outL_succ (ws : List Nat) (k : Nat) (h : k < ws.length) : outL ws (k + 1) = outL ws k ++ Sh.be4 (ws.getD k 0) := by
  unfold outL
  rw [List.take_succ_eq_append_getElem h, List.flatMap_append]
  simp [h]
theorem outL_len (ws : List Nat) (k : Nat) (h : k ≤ ws.length) : (outL ws k).length = 4 * k := by
  induction k with
  | zero => simp [outL]
  | succ k ih =>
    rw [outL_succ ws k (by omega), List.length_append, ih (by omega)]
    simp [Sh.be4]
    omega
theorem be4_lt (x : Nat) : ∀ b ∈ Sh.be4 x, b < 256 := by
  intro b hb
  simp only [Sh.be4, List.mem_cons, List.not_mem_nil, or_false] at hb
  rcases hb with rfl | rfl | rfl | rfl <;> exact Nat.mod_lt _ (by decide)
theorem outL_lt (ws : List Nat) (k : Nat) : ∀ b ∈ outL ws k, b < 256 := by
  intro b hb
  simp only [outL, List.mem_flatMap] at hb
  obtain ⟨x, _, hb⟩ := hb
  exact be4_lt x b hb
theorem outL_all (s : Sh.S8) : outL (toL s) 8 = Sh.out s := by simp [outL, toL, Sh.out]
theorem be4_facts (x : Nat) : ∃ a b c d : Nat, Sh.be4 x = [a, b, c, d] ∧ IntKind.u8.wrap ((x : Int) / 16777216) = (a : Int) ∧ IntKind.u8.wrap ((x : Int) / 65536) = (b : Int) ∧ IntKind.u8.wrap ((x : Int) / 256) = (c : Int) ∧ IntKind.u8.wrap (x : Int) = (d : Int) := by
  refine ⟨_, _, _, _, rfl, ?_, ?_, ?_, ?_⟩ <;> rw [IntKind.wrap_u8] <;> omega
theorem src_bytes (w : World) (l : List Nat) (n : Nat) (hn : n = l.length) : Src Tryd.prog 1 97 (.slice (some ⟨w.heap.size, 0, none⟩) n n) n (shcells l) (w.alloc (.cells (shcells l).toArray 5)) := by
  subst hn
  refine Src.ofSlice _ Tryd.underlying97 ⟨w.heap.size, 0, none⟩ l.length l.length (shcells l) (by simp [shcells]) (fun j u hj => Kq.cell_new _ _ _ (by
    rw [List.getElem?_toArray]; exact hj)) (fun u hu => by
    simp only [shcells, List.mem_map] at hu
    obtain ⟨x, _, rfl⟩ := hu
    rfl)
theorem info46 : (Tryd.prog.info? 125).map (·.size) = some 8 := by kernel_rfl
set_option maxRecDepth 100000 in
set_option maxHeartbeats 2000000 in
theorem sh_digest (B : Nat) (t : TypeId) (ws b : List Nat) (n0 : Nat) (w : World) (h : StS w B t ws b n0) :
    Calls Tryd.prog 79 #[.pointer (some ⟨B, 0, none⟩)] w fun x w' => x = .returned (.string (txt (outL ws 8))) ∧ Below w.heap.size w w' := by
  obtain ⟨i0, hi, hz0, hz1, hz2⟩ := info_partsH infoU8H
  have H := Lib.hid h
  clear h
  obtain ⟨n, hn⟩ : ∃ n, n = 32 := ⟨_, rfl⟩
  have hmk := fun w => mk_cap w 32 n (by omega) (by omega)
  have HROW := Lib.hid (made_row w n (by omega))
  clear hn
  have hrg : (w.alloc (.cells (madeCells (Value.int IntKind.u8 0).cells n) 5)).rangeAt B 0 (wcl ws) := fun j v hj => by
    have hj8 : j < 8 := by
      have := (List.getElem?_eq_some_iff.1 hj).1
      simpa [wcl, H.out.w8] using this
    have h1 := (H.out.below (Kq.below_alloc w _)).word (w := w.alloc (.cells (madeCells (Value.int IntKind.u8 0).cells n) 5)) j hj8
    rw [Nat.zero_add, h1, ← hj]
    have := wcl_at ws j (by rw [H.out.w8]; exact hj8)
    rw [List.getElem?_toArray] at this
    exact this.symm
  have hii : (Tryd.prog.info? 125).map (·.size) = some (wcl ws).length := by
    have : (wcl ws).length = 8 := by simp [wcl, H.out.w8]
    rw [this]; exact info46
  have HLD := Lib.hid (And.intro hrg hii)
  clear hrg hii
  go_enter Tryd.func79, Tryd.ntmps79
  go_wp2_with (refine wpList_load_mid (by rfl) 125 (.tmp 9) (by rfl) B 0 (by rfl) (wcl ws) _ HLD.out.1 Tryd.underlying125 rfl HLD.out.2 ?_)
  have HIX : Hid (∀ (k : Nat) (w : World), k < 8 → (Instr.index 125 (.agg (wcl ws).toArray) (.int .i64 (k : Int))).run Tryd.prog w = .ok (.int .u32 ((ws.getD k 0 : Nat) : Int)) w) := Lib.hid (fun k w hk => index8 ws H.out.w8 k hk w)
  generalize (wcl ws).toArray = vs at *
  clear hmk
  have HB0 := Lib.hid (Kq.below_alloc w (.cells (madeCells (Value.int IntKind.u8 0).cells n) 5))
  obtain ⟨w1, hw1⟩ : ∃ z, z = w.alloc (.cells (madeCells (Value.int IntKind.u8 0).cells n) 5) := ⟨_, rfl⟩
  have hw1' : w.alloc (.cells (madeCells #[Value.int IntKind.u8 0] n) 5) = w1 := hw1.symm
  rw [hw1']
  rw [← hw1] at HROW HB0
  clear hw1 hw1'
  clear HLD
  go_loopw [3, 11] (fun o i wr => ∃ k : Nat, ∃ v : Value, k ≤ 8 ∧ i = .int .i64 (k : Int) ∧ o = v ∧ wr.ownsRow w.heap.size 5 1 v (4 * k) (shcells (outL ws k)) ∧ Below w.heap.size w wr) (fun _ i _ => 8 - (intOf i).toNat)
  case atStart => exact ⟨0, _, Nat.zero_le _, rfl, rfl, HROW.out, HB0.out⟩
  case round =>
    obtain ⟨k, v, hk, rfl, hov, hrow, hbel⟩ := hrel
    have hov := hov.symm
    subst hov
    have HR := Lib.hid (And.intro hrow hbel)
    clear hrow hbel
    by_cases hlt : k < 8
    · have l1 : (k : Int) < 8 := by omega
      have hix := fun w => HIX.out k w hlt
      have HT := Lib.hid (outL_succ ws k (by rw [H.out.w8]; exact hlt))
      have hx : ws.getD k 0 < 4294967296 := getD_lt ws H.out.wlt k
      generalize ws.getD k 0 = x at *
      obtain ⟨y3, y2, y1, y0, hbe, b3, b2, b1, b0⟩ := be4_facts x
      have HBE := Lib.hid hbe
      clear hbe
      go_wp2_with (at_builtin; refine Kq.wpList_append_any _ rfl (.tmp 14) (.tmp 26) 97 97 rfl w.heap.size 5 i0 (.int .u8 0) 1 1 Tryd.underlying97 hi hz0 hz1 hz2 rfl (by decide) _ (4 * k) (shcells (outL ws k)) rfl (HR.out.1.alloc _) (.slice (some ⟨wr.heap.size, 0, none⟩) 4 4) 4 (shcells [y3, y2, y1, y0]) rfl ?hs ?h1 ?h2 ?h3 ?_)
      case hs => exact src_bytes wr [y3, y2, y1, y0] 4 rfl
      case h1 => unfold maxLen; omega
      case h2 => omega
      case h3 => have := HR.out.2.size; simp; omega
      intro v' w' hown hgrow hfresh
      have HO : Hid (w'.ownsRow w.heap.size 5 1 v' (4 * (k + 1)) (shcells (outL ws (k + 1))) ∧ Below w.heap.size w w') := by
        rw [HT.out, HBE.out]
        have e : shcells (outL ws k ++ [y3, y2, y1, y0]) = shcells (outL ws k) ++ shcells [y3, y2, y1, y0] := by simp [shcells]
        rw [e, show 4 * (k + 1) = 4 * k + 4 by omega]
        have hbq := HR.out.2.trans ((Kq.below_alloc wr (.cells (shcells [y3, y2, y1, y0]).toArray 5)).mono HR.out.2.size)
        have k1 : Kq.Keeps (fun j => w.heap.size ≤ j) w (wr.alloc (.cells (shcells [y3, y2, y1, y0]).toArray 5)) := Kq.Keeps.of_below hbq (fun j h1 h2 => h1)
        have k2 : Kq.Keeps (fun j => w.heap.size ≤ j) (wr.alloc (.cells (shcells [y3, y2, y1, y0]).toArray 5)) w' := Kq.Keeps.grown hgrow (fun j _ hj => (HR.out.1.lt j hj).1)
        exact Lib.hid ⟨hown, (k1.trans k2).below (Nat.le_refl _) (fun j _ hj => hj)⟩
      clear hown hgrow hfresh hix b3 b2 b1 b0 hx
      go_wp2
      go_roundw
      case rel => exact ⟨k + 1, _, by omega, by go_num, rfl, HO.out.1, HO.out.2⟩
      case measure => simp [intOf]; omega
    · have h8 : k = 8 := by omega
      rw [h8] at HR
      have hcv := conv_own HR.out.1 (by rw [outL_len ws 8 (by rw [H.out.w8]; exact Nat.le_refl _)]) (outL_lt ws 8)
      clear h8
      go_wp2
      go_ret
      exact ⟨rfl, HR.out.2⟩
end Go.Proofs.YtcknhnbckbocjaaDoor
namespace Go.Proofs.YtcknhnbckbocjaaDoor
open Go.RowKit
set_option linter.unusedVariables false
theorem mk_len (w : World) (z c : Int) (n m : Nat) (hz : z = (n : Int)) (hc : c = (m : Int)) (hnm : n ≤ m) (hn : m ≤ 3000000) :
    (Instr.makeSlice 97 (.int .i64 z) (.int .i64 c)).run Tryd.prog w = .ok (.slice (some ⟨w.heap.size, 0, none⟩) n m) (w.alloc (.cells (madeCells (Value.int IntKind.u8 0).cells m) 5)) := by
  obtain ⟨i0, hi, hz0, hz1, hz2⟩ := info_partsH infoU8H
  subst hz hc
  have := run_makeSlice (P := Tryd.prog) w 97 5 i0 (.int .u8 0) Tryd.underlying97 hi hz0 .i64 .i64 (n : Int) (m : Int) (by omega) (by omega) (by rw [hz1]; simp; omega) (by rw [hz2]; omega) (by omega)
  rw [hz1] at this
  simpa using this
theorem made_zeros (m : Nat) : (madeCells (Value.int IntKind.u8 0).cells m) = ((List.replicate m 0).map fun (b : Nat) => Value.int .u8 (b : Int)).toArray := by
  apply Array.toList_inj.1
  rw [show (Value.int IntKind.u8 0).cells = #[Value.int IntKind.u8 0] from rfl, toList_madeCells_one]
  simp
/-- 128 and zeros, with room for eight more -/
theorem pad_row (w : World) (z : Nat) (hz : z ≤ 1000) :
    (w.alloc (.cells ((madeCells (Value.int IntKind.u8 0).cells (1 + z + 8)).setIfInBounds 0 (.int .u8 128)) 5)).ownsRow w.heap.size 5 1 (.slice (some ⟨w.heap.size, 0, none⟩) (1 + z) (1 + z + 8)) (1 + z) (shcells (128 :: List.replicate z 0)) := by
  refine ⟨by simp [shcells]; omega, .inr ⟨w.heap.size, 1 + z + 8, _, rfl, Nat.le_refl _, heap_alloc_new w _, by omega, by unfold maxLen; omega, ?_, ?_⟩⟩
  · rw [Array.size_setIfInBounds, size_madeCells]; simp
  · rw [Array.toList_setIfInBounds, made_zeros, List.toList_toArray]
    have e : List.replicate (1 + z + 8) 0 = 0 :: (List.replicate z 0 ++ List.replicate 8 0) := by
      rw [List.replicate_append_replicate, show 1 + z + 8 = (z + 8) + 1 by omega, List.replicate_succ]
    rw [e]
    simp only [List.map_cons, List.set_cons_zero, Nat.mul_one]
    rw [show 1 + z = z + 1 by omega, List.take_succ_cons, List.map_append, List.take_append_of_le_length (by simp), List.take_of_length_le (by simp)]
    simp [shcells]
/-- the first bytes of eight -/
def padL (n k : Nat) : List Nat := 128 :: (List.replicate ((64 + 55 - n % 64) % 64) 0 ++ (Sh.be8 (n * 8 % 18446744073709551616)).take k)
theorem padL_lt (n k : Nat) : ∀ b ∈ padL n k, b < 256 := by
  intro b hb
  simp only [padL, List.mem_cons, List.mem_append] at hb
  rcases hb with rfl | hb | hb
  · decide
  · rw [List.eq_of_mem_replicate hb]; decide
  · have := List.mem_of_mem_take hb
    simp only [Sh.be8, List.mem_append] at this
    rcases this with h | h
    · exact be4_lt _ b h
    · exact be4_lt _ b h
theorem padL_eight (n : Nat) : padL n 8 = Sh.padding n := by
  unfold padL Sh.padding
  rw [List.take_of_length_le (by simp [Sh.be8, Sh.be4])]
theorem padL_succ (n k s : Nat) (hk : k < 8) (hs : s = 56 - 8 * k) (hn : n ≤ 1000000000) : padL n (k + 1) = padL n k ++ [n * 8 / 2 ^ s % 256] := by
  have e : n * 8 % 18446744073709551616 = n * 8 := by omega
  unfold padL
  rw [e, List.cons_append, List.append_assoc]
  congr 2
  have h8 : Sh.be8 (n * 8) = [0, 0, 0, n * 8 / 4294967296 % 256, n * 8 / 16777216 % 256, n * 8 / 65536 % 256, n * 8 / 256 % 256, n * 8 % 256] := by
    unfold Sh.be8 Sh.be4 Sh.M32
    simp only [List.cons_append, List.nil_append, List.cons.injEq, and_true]
    omega
  rw [h8]
  rcases k with _ | _ | _ | _ | _ | _ | _ | _ | k
  all_goals first | (subst hs; simp only [List.take_succ_cons, List.take_zero, List.cons_append, List.nil_append, List.cons.injEq, and_true, true_and]; (try omega)) | omega
theorem shr_byte (x s : Nat) : IntKind.u8.wrap ((x : Int) / 2 ^ s) = ((x / 2 ^ s % 256 : Nat) : Int) := by
  have : ((x : Int) / 2 ^ s) = ((x / 2 ^ s : Nat) : Int) := by norm_cast
  rw [this, IntKind.wrap_u8]
  omega
set_option maxRecDepth 100000 in
set_option maxHeartbeats 2000000 in
theorem sh_padding (B : Nat) (t : TypeId) (ws b : List Nat) (n : Nat) (w : World) (h : StS w B t ws b n) (hn : n ≤ 1000000000) :
    Calls Tryd.prog 78 #[.pointer (some ⟨B, 0, none⟩)] w fun x w' => x = .returned (.string (txt (Sh.padding n))) ∧ Below w.heap.size w w' := by
  obtain ⟨i0, hi, hz0, hz1, hz2⟩ := info_partsH infoU8H
  have c72 := h.len
  have H := Lib.hid h
  clear h
  obtain ⟨q, hq⟩ : ∃ q, q = n % 64 := ⟨_, rfl⟩
  obtain ⟨y, hy⟩ : ∃ y, y = 119 - q := ⟨_, rfl⟩
  obtain ⟨z, hz⟩ : ∃ z, z = (64 + 55 - n % 64) % 64 := ⟨_, rfl⟩
  have e1 : (n : Int) % 64 = (q : Int) := by omega
  have e2 : (119 : Int) - (q : Int) = (y : Int) := by omega
  have e2' : IntKind.i64.wrap ((119 : Int) - (q : Int)) = (y : Int) := by rw [e2, IntWalk.i64_in _ (by omega)]
  have e2'' : IntKind.i64.wrap (y : Int) = (y : Int) := IntWalk.i64_in _ (by omega)
  have e3 : (y : Int) % 64 = (z : Int) := by omega
  have hz63 : z ≤ 63 := by omega
  have hz64 : (z : Int) ≤ 63 := by omega
  have hmk := fun w => mk_len w (1 + (z : Int)) (1 + (z : Int) + 8) (1 + z) (1 + z + 8) (by omega) (by omega) (by omega) (by omega)
  have HROW := Lib.hid (pad_row w z (by omega))
  have hP0 : Hid (128 :: List.replicate z 0 = padL n 0) := Lib.hid (by unfold padL; rw [← hz]; simp)
  have g0 : (0 : Int) < ((1 + z : Nat) : Int) := by omega
  have hu1 : IntKind.u64.wrap (n : Int) = (n : Int) := by rw [IntWalk.u64_in _ (by omega)]
  have hu2 : IntKind.u64.wrap ((n : Int) * 8) = ((n * 8 : Nat) : Int) := by rw [IntWalk.u64_in _ (by omega)]; omega
  have hu3 : (n : Int) * 8 = ((n * 8 : Nat) : Int) := by omega
  have HZ := Lib.hid hz
  clear hz hy hq
  obtain ⟨L, hL⟩ : ∃ L, L = n * 8 := ⟨_, rfl⟩
  rw [← hL] at hu2 hu3
  have HL := Lib.hid hL
  clear hL
  have hc0 : (w.alloc (.cells (madeCells #[Value.int IntKind.u8 0] (1 + z + 8)) 5)).cell? ⟨w.heap.size, 0, none⟩ = some (.int .u8 0) := by
    rw [Kq.blk_cell (heap_alloc_new w _) 0]
    have := made_zeros (1 + z + 8)
    rw [show (Value.int IntKind.u8 0).cells = #[Value.int IntKind.u8 0] from rfl] at this
    rw [this, show 1 + z + 8 = (z + 8) + 1 by omega, List.replicate_succ]
    simp
  have hf0 : (w.alloc (.cells (madeCells #[Value.int IntKind.u8 0] (1 + z + 8)) 5)).frozen? ⟨w.heap.size, 0, none⟩ = false := Kq.blk_free (heap_alloc_new w _) 0
  have c72' : (w.alloc (.cells (madeCells #[Value.int IntKind.u8 0] (1 + z + 8)) 5)).cell? ⟨B, 72, none⟩ = some (.int .i64 (n : Int)) := ((Kq.below_alloc w _).cell (p := ⟨B, 72, none⟩) H.out.lt).trans c72
  have hBne : B < w.heap.size := H.out.lt
  go_enter Tryd.func78, Tryd.ntmps78
  go_wp2
  generalize hw1 : w.alloc _ = w1
  have HB1 : Hid (Below w.heap.size w w1) := Lib.hid (by rw [← hw1]; exact Kq.below_alloc w _)
  have HROW : Hid (w1.ownsRow w.heap.size 5 1 (.slice (some ⟨w.heap.size, 0, none⟩) (1 + z) (1 + z + 8)) (1 + z) (shcells (padL n 0))) := Lib.hid (by rw [← hw1, ← hP0.out]; exact HROW.out)
  clear hw1 hc0 hf0 c72 c72' hmk e1 e2 e2' e2'' e3 g0 hu1 hu2 hu3
  go_loopw [4, 6] (fun o i wr => ∃ (k : Nat) (s : Int) (v : Value), k ≤ 8 ∧ s = 56 - 8 * (k : Int) ∧ i = .int .i64 s ∧ o = v ∧ wr.ownsRow w.heap.size 5 1 v (1 + z + k) (shcells (padL n k)) ∧ Below w.heap.size w wr) (fun _ i _ => (intOf i + 8).toNat)
  case atStart => exact ⟨0, 56, _, Nat.zero_le _, by omega, rfl, rfl, HROW.out, HB1.out⟩
  case round =>
    obtain ⟨k, s, v, hk, hs, rfl, hov, hrow, hbel⟩ := hrel
    have hov := hov.symm
    subst hov
    have HR := Lib.hid (And.intro hrow hbel)
    clear hrow hbel
    by_cases hlt : k < 8
    · obtain ⟨σ, hσ⟩ : ∃ σ : Nat, s = (σ : Int) := ⟨56 - 8 * k, by omega⟩
      subst hσ
      have hs8 : σ = 56 - 8 * k := by omega
      have HSG := Lib.hid hs8
      have l1 : (0 : Int) ≤ (σ : Int) := by omega
      have l2 : (σ : Int) ≤ 56 := by omega
      have HT := Lib.hid (padL_succ n k σ hlt hs8 hn)
      rw [← HL.out] at HT
      have hsb := shr_byte L σ
      obtain ⟨y0, hy0⟩ : ∃ y0, y0 = L / 2 ^ σ % 256 := ⟨_, rfl⟩
      rw [← hy0] at hsb HT
      clear hy0 hs hs8
      go_wp2_with (at_builtin; refine Kq.wpList_append_any _ rfl (.tmp 32) (.tmp 37) 97 97 rfl w.heap.size 5 i0 (.int .u8 0) 1 1 Tryd.underlying97 hi hz0 hz1 hz2 rfl (by decide) _ (1 + z + k) (shcells (padL n k)) rfl (HR.out.1.alloc _) (.slice (some ⟨wr.heap.size, 0, none⟩) 1 1) 1 (shcells [y0]) rfl ?hs ?h1 ?h2 ?h3 ?_)
      case hs => exact src_bytes wr [y0] 1 rfl
      case h1 => unfold maxLen; omega
      case h2 => omega
      case h3 => have := HR.out.2.size; simp; omega
      intro v' w' hown hgrow hfresh
      have HO : Hid (w'.ownsRow w.heap.size 5 1 v' (1 + z + (k + 1)) (shcells (padL n (k + 1))) ∧ Below w.heap.size w w') := by
        rw [HT.out]
        have e : shcells (padL n k ++ [y0]) = shcells (padL n k) ++ shcells [y0] := by simp [shcells]
        rw [e, show 1 + z + (k + 1) = 1 + z + k + 1 by omega]
        have hbq := HR.out.2.trans ((Kq.below_alloc wr (.cells (shcells [y0]).toArray 5)).mono HR.out.2.size)
        have k1 : Kq.Keeps (fun j => w.heap.size ≤ j) w (wr.alloc (.cells (shcells [y0]).toArray 5)) := Kq.Keeps.of_below hbq (fun j h1 h2 => h1)
        have k2 : Kq.Keeps (fun j => w.heap.size ≤ j) (wr.alloc (.cells (shcells [y0]).toArray 5)) w' := Kq.Keeps.grown hgrow (fun j _ hj => (HR.out.1.lt j hj).1)
        exact Lib.hid ⟨hown, (k1.trans k2).below (Nat.le_refl _) (fun j _ hj => hj)⟩
      clear hown hgrow hfresh hsb
      go_wp2
      go_roundw
      case rel => exact ⟨k + 1, _, _, by omega, by have := HSG.out; omega, rfl, rfl, HO.out.1, HO.out.2⟩
      case measure => simp [intOf]; omega
    · have h8 : k = 8 := by omega
      obtain rfl : s = -8 := by omega
      rw [h8] at HR
      have hcv := conv_own HR.out.1 (by unfold padL; rw [← HZ.out]; simp [Sh.be8, Sh.be4]; omega) (padL_lt n 8)
      rw [padL_eight] at hcv
      clear h8 hs hk hlt
      go_wp2
      go_ret
      exact ⟨rfl, HR.out.2⟩
end Go.Proofs.YtcknhnbckbocjaaDoor
