/- Contract of (*sha.state).mix: a full block is mixed into the words. Condition: the state's block and the constants are there. -/
import Derived.Test.YtnbapiddbcaolaaDoorShRound
import Derived.Test.YtnbapiddbcaolaaDoorHeldLast
namespace Go.Proofs.YtnbapiddbcaolaaDoor
open Go.RowKit
set_option linter.unusedVariables false
def bcl (l : List Nat) : List Value := l.map fun (x : Nat) => Value.int .u8 (x : Int)
/-- a state's cells -/
def stc (ws b : List Nat) (n : Nat) : Array Value := (wcl ws ++ (bcl b ++ [Value.int .i64 (n : Int)])).toArray
theorem stc_size (ws b : List Nat) (n : Nat) (h1 : ws.length = 8) (h2 : b.length = 64) : (stc ws b n).size = 73 := by simp [stc, wcl, bcl, h1, h2]
theorem stc_word (ws b : List Nat) (n i : Nat) (h : i < ws.length) : (stc ws b n)[i]? = some (.int .u32 ((ws.getD i 0 : Nat) : Int)) := by
  unfold stc wcl
  rw [List.getElem?_toArray, List.getElem?_append_left (by simpa using h), List.getElem?_map, List.getElem?_eq_getElem h]
  simp [h]
theorem stc_byte (ws b : List Nat) (n i : Nat) (h8 : ws.length = 8) (h : i < b.length) : (stc ws b n)[8 + i]? = some (.int .u8 ((b.getD i 0 : Nat) : Int)) := by
  unfold stc
  rw [List.getElem?_toArray, List.getElem?_append_right (by simp [wcl, h8])]
  simp only [wcl, List.length_map, h8, Nat.add_sub_cancel_left]
  rw [List.getElem?_append_left (by simpa [bcl] using h)]
  simp [bcl, h]
theorem stc_len (ws b : List Nat) (n : Nat) (h8 : ws.length = 8) (h : b.length = 64) : (stc ws b n)[72]? = some (.int .i64 (n : Int)) := by
  unfold stc
  rw [List.getElem?_toArray, List.getElem?_append_right (by simp [wcl, h8])]
  simp only [wcl, List.length_map, h8]
  rw [List.getElem?_append_right (by simp [bcl, h])]
  simp [bcl, h]
theorem stc_set_word (ws b : List Nat) (n i x : Nat) (h : i < ws.length) : (stc ws b n).setIfInBounds i (.int .u32 (x : Int)) = stc (ws.set i x) b n := by
  apply Array.toList_inj.1
  rw [Array.toList_setIfInBounds]
  unfold stc wcl
  rw [List.toList_toArray, List.toList_toArray, List.set_append_left _ _ (by simpa using h), List.map_set]
/-- the constants lie where they lie -/
def RootsAt (w : World) : Prop := ∀ t, t < 64 → w.cell? ⟨1, t, none⟩ = some (.int .u32 ((Sh.K.getD t 0 : Nat) : Int))
theorem RootsAt.keeps {S : Nat → Prop} {w w' : World} (h : RootsAt w) (hk : Kq.Keeps S w w') (hs : ¬ S 1) (hw : 1 < w.heap.size) : RootsAt w' := fun t ht => by
  rw [World.cell?_of_block (hk.block _ hw hs)]
  exact h t ht
/-- a state in block B -/
structure StS (w : World) (B : Nat) (t : TypeId) (ws b : List Nat) (n : Nat) : Prop where
  blk : w.heap[B]? = some (.cells (stc ws b n) t (0, 0))
  w8 : ws.length = 8
  b64 : b.length = 64
  wlt : ∀ x ∈ ws, x < 4294967296
  blt : ∀ x ∈ b, x < 256
  roots : RootsAt w
  far : 1 < B
  low : 1 < w.heap.size
theorem StS.keeps {S : Nat → Prop} {w w' : World} {B : Nat} {t : TypeId} {ws b : List Nat} {n : Nat} (h : StS w B t ws b n) (hk : Kq.Keeps S w w') (hB : ¬ S B) (hs : ¬ S 1) : StS w' B t ws b n :=
  ⟨hk.blk h.blk hB, h.w8, h.b64, h.wlt, h.blt, h.roots.keeps hk hs h.low, h.far, Nat.lt_of_lt_of_le h.low hk.size⟩
theorem StS.lt {w : World} {B : Nat} {t : TypeId} {ws b : List Nat} {n : Nat} (h : StS w B t ws b n) : B < w.heap.size := Kq.blk_lt h.blk
theorem StS.below {w w' : World} {B : Nat} {t : TypeId} {ws b : List Nat} {n : Nat} (h : StS w B t ws b n) (hb : Below w.heap.size w w') : StS w' B t ws b n :=
  h.keeps (Kq.Keeps.of_below (S := fun _ => False) hb (fun k h1 h2 => absurd h1 (Nat.not_le.2 h2))) (fun h => h) (fun h => h)
theorem StS.word {w : World} {B : Nat} {t : TypeId} {ws b : List Nat} {n : Nat} (h : StS w B t ws b n) (i : Nat) (hi : i < 8) : w.cell? ⟨B, i, none⟩ = some (.int .u32 ((ws.getD i 0 : Nat) : Int)) :=
  (Kq.blk_cell h.blk i).trans (stc_word ws b n i (by rw [h.w8]; exact hi))
theorem StS.byte {w : World} {B : Nat} {t : TypeId} {ws b : List Nat} {n : Nat} (h : StS w B t ws b n) (i : Nat) (hi : i < 64) : w.cell? ⟨B, 8 + i, none⟩ = some (.int .u8 ((b.getD i 0 : Nat) : Int)) :=
  (Kq.blk_cell h.blk (8 + i)).trans (stc_byte ws b n i h.w8 (by rw [h.b64]; exact hi))
theorem StS.len {w : World} {B : Nat} {t : TypeId} {ws b : List Nat} {n : Nat} (h : StS w B t ws b n) : w.cell? ⟨B, 72, none⟩ = some (.int .i64 (n : Int)) :=
  (Kq.blk_cell h.blk 72).trans (stc_len ws b n h.w8 h.b64)
theorem StS.setWord {w : World} {B : Nat} {t : TypeId} {ws b : List Nat} {n : Nat} (h : StS w B t ws b n) (i x : Nat) (hi : i < 8) (hx : x < 4294967296) : StS (w.setCell ⟨B, i, none⟩ (.int .u32 (x : Int))) B t (ws.set i x) b n := by
  have hk : Kq.Keeps (· = B) w (w.setCell ⟨B, i, none⟩ (.int .u32 (x : Int))) := Kq.Keeps.setCell _ _ _ rfl
  refine ⟨?_, by simp [h.w8], h.b64, fun y hy => ?_, h.blt, h.roots.keeps hk (fun e => by have := h.far; omega) h.low, h.far, Nat.lt_of_lt_of_le h.low hk.size⟩
  · rw [Kq.blk_set h.blk, stc_set_word ws b n i x (by rw [h.w8]; exact hi)]
  · rcases List.mem_or_eq_of_mem_set hy with hy | rfl
    · exact h.wlt y hy
    · exact hx
/-- the words of a list of eight -/
def ofL (ws : List Nat) : Sh.S8 := ⟨ws.getD 0 0, ws.getD 1 0, ws.getD 2 0, ws.getD 3 0, ws.getD 4 0, ws.getD 5 0, ws.getD 6 0, ws.getD 7 0⟩
theorem ofL_ok {ws : List Nat} (h : ∀ x ∈ ws, x < 4294967296) : Ok8 (ofL ws) := ⟨getD_lt ws h 0, getD_lt ws h 1, getD_lt ws h 2, getD_lt ws h 3, getD_lt ws h 4, getD_lt ws h 5, getD_lt ws h 6, getD_lt ws h 7⟩
theorem toL_ofL {ws : List Nat} (h : ws.length = 8) : toL (ofL ws) = ws := by
  match ws, h with
  | [a, b, c, d, e, f, g, i], _ => rfl
theorem drewN_add (w : World) (a b : Nat) : (w.drewN a).drewN b = w.drewN (a + b) := by simp [World.drewN, Nat.add_assoc]
structure MixS (w : World) (B : Nat) (t : TypeId) (ws b : List Nat) (n : Nat) (C : Nat) (W : List Nat) (wr : World) : Prop where
  st : StS wr B t ws b n
  arr : wr.heap[C]? = some (.cells (wcl W).toArray 94 (0, 0))
  keep : Kq.Keeps (· = B) w wr
  ne : w.heap.size ≤ C
theorem MixS.drewN {w : World} {B : Nat} {t : TypeId} {ws b : List Nat} {n C : Nat} {W : List Nat} {wr : World} (h : MixS w B t ws b n C W wr) (m : Nat) : MixS w B t ws b n C W (wr.drewN m) :=
  ⟨h.st.below ⟨rfl, rfl, rfl, Nat.le_refl _, fun _ _ => rfl⟩, h.arr, ⟨h.keep.os, h.keep.tape, h.keep.output, h.keep.size, h.keep.block⟩, h.ne⟩
theorem wcl_at (l : List Nat) (i : Nat) (h : i < l.length) : (wcl l).toArray[i]? = some (Value.int .u32 ((l.getD i 0 : Nat) : Int)) := by
  unfold wcl
  rw [List.getElem?_toArray, List.getElem?_map, List.getElem?_eq_getElem h]
  simp [h]
/-- the words behind k of eight sums -/
def partW (ws : List Nat) (s : Sh.S8) (k : Nat) : List Nat := (toL (Sh.add8 (ofL ws) s)).take k ++ ws.drop k
theorem partW_all (ws : List Nat) (s : Sh.S8) (h : ws.length = 8) (k : Nat) (hk : k < 8) : (partW ws s k).getD k 0 = ws.getD k 0 ∧ (partW ws s k).set k ((ws.getD k 0 + (toL s).getD k 0) % 4294967296) = partW ws s (k + 1) := by
  match ws, h with
  | [a, b, c, d, e, f, g, i], _ =>
    rcases k with _ | _ | _ | _ | _ | _ | _ | _ | k
    · exact ⟨rfl, rfl⟩
    · exact ⟨rfl, rfl⟩
    · exact ⟨rfl, rfl⟩
    · exact ⟨rfl, rfl⟩
    · exact ⟨rfl, rfl⟩
    · exact ⟨rfl, rfl⟩
    · exact ⟨rfl, rfl⟩
    · exact ⟨rfl, rfl⟩
    · omega
theorem partW_zero (ws : List Nat) (s : Sh.S8) : partW ws s 0 = ws := by simp [partW]
theorem partW_eight (ws : List Nat) (s : Sh.S8) (h : ws.length = 8) : partW ws s 8 = toL (Sh.add8 (ofL ws) s) := by
  unfold partW
  rw [List.take_of_length_le (by simp [toL]), List.drop_of_length_le (by omega), List.append_nil]
theorem index8 (l : List Nat) (h : l.length = 8) (k : Nat) (hk : k < 8) (w : World) : (Instr.index 80 (.agg (wcl l).toArray) (.int .i64 (k : Int))).run Tryd.prog w = .ok (.int .u32 ((l.getD k 0 : Nat) : Int)) w := by
  have hc := wcl_at l k (by omega)
  generalize (wcl l).toArray = vs at *
  simp [Instr.index, run_underlying Tryd.underlying80, asIntOf, go_sem, Tryd.sizeOf76, hk, hc, part]
set_option maxRecDepth 100000 in
set_option maxHeartbeats 4000000 in
theorem sh_mix (B : Nat) (t : TypeId) (ws b : List Nat) (n : Nat) (w : World) (h : StS w B t ws b n) :
    Calls Tryd.prog 55 #[.pointer (some ⟨B, 0, none⟩)] w fun x w' => x = .returned (.tuple #[]) ∧ StS w' B t (toL (Sh.mix (ofL ws) b)) b n ∧ Kq.Keeps (· = B) w w' := by
  have H := Lib.hid h
  clear h
  go_enter Tryd.func55, Tryd.ntmps55
  go_wp2_with fail
  refine (sh_schedule B b _ H.out.lt H.out.b64 H.out.blt (fun j hj => H.out.byte j hj)).mono ?_
  rintro x w1 ⟨rfl, hb1⟩
  have H1 := Lib.hid (H.out.below hb1)
  have HB1 := Lib.hid hb1
  have HW := Lib.hid (Sh.sched_length b H.out.b64)
  have HWB : Hid (∀ i, (Sh.sched b).getD i 0 < 4294967296) := Lib.hid (fun i => getD_lt _ (iter_mem_lt 48 _ (words_lt b H.out.blt)) i)
  clear hb1
  have HMX : Hid (Sh.mix (ofL ws) b = Sh.add8 (ofL ws) (Sh.rounds (ofL ws) Sh.K (Sh.sched b))) := Lib.hid rfl
  obtain ⟨W, hW⟩ : ∃ W, W = Sh.sched b := ⟨_, rfl⟩
  rw [← hW] at HW HWB HMX
  have hsz : (wcl W).toArray.size = 64 := by simp [wcl, HW.out]
  have hi : (Tryd.prog.info? 94).map (·.size) = some (wcl W).toArray.size := by rw [hsz]; kernel_rfl
  have HST := Lib.hid (And.intro hi (And.intro hsz (wcl_one W)))
  obtain ⟨C, hC⟩ : ∃ C, C = (wcl W).toArray := ⟨_, rfl⟩
  have HC := Lib.hid hC
  rw [← hC] at HST
  rw [← hW, ← hC]
  clear hW hC hi hsz
  go_wp2_with (refine wpList_store_row (by rfl) 94 (.tmp 2) (.tmp 21) (by rfl) w1.heap.size C (by rfl) (by rfl) 94 _ (Kq.blk_new w1 _ _ _) HST.out.1 (by rw [HST.out.2.1]; rfl) HST.out.2.2 ?_)
  generalize hw2 : World.setRow _ _ _ = w2
  have HM : Hid (MixS w B t ws b n w1.heap.size W w2) := Lib.hid (by
    have hbb : Below w1.heap.size w1 w2 := by rw [← hw2]; exact below_setRow (Kq.below_alloc w1 _) _ C (Nat.le_refl _)
    refine ⟨H1.out.below hbb, ?_, ?_, HB1.out.size⟩
    · rw [← hw2, ← HC.out]; exact set_row _ _ _ _ _ _ (Kq.blk_new w1 _ _ _)
    · exact Kq.Keeps.of_below (HB1.out.trans (hbb.mono HB1.out.size)) (fun k h1 h2 => absurd h1 (Nat.not_le.2 h2)))
  clear hw2
  have HO := Lib.hid (ofL_ok H.out.wlt)
  have HSO : Hid (ofL ws = ⟨ws.getD 0 0, ws.getD 1 0, ws.getD 2 0, ws.getD 3 0, ws.getD 4 0, ws.getD 5 0, ws.getD 6 0, ws.getD 7 0⟩) := Lib.hid rfl
  have d0 := HM.out.st.word 0 (by decide)
  have d1 := HM.out.st.word 1 (by decide)
  have d2 := HM.out.st.word 2 (by decide)
  have d3 := HM.out.st.word 3 (by decide)
  have d4 := HM.out.st.word 4 (by decide)
  have d5 := HM.out.st.word 5 (by decide)
  have d6 := HM.out.st.word 6 (by decide)
  have d7 := HM.out.st.word 7 (by decide)
  generalize ws.getD 0 0 = v0 at *
  generalize ws.getD 1 0 = v1 at *
  generalize ws.getD 2 0 = v2 at *
  generalize ws.getD 3 0 = v3 at *
  generalize ws.getD 4 0 = v4 at *
  generalize ws.getD 5 0 = v5 at *
  generalize ws.getD 6 0 = v6 at *
  generalize ws.getD 7 0 = v7 at *
  go_quiet (fail)
  go_wp2
  go_quiet (fail)
  go_wp2
  clear d0 d1 d2 d3 d4 d5 d6 d7
  go_loopw [3, 4, 5, 6, 7, 8, 9, 10, 62] (fun a b' c d e f g l i wr => ∃ (k m : Nat) (s : Sh.S8), k ≤ 64 ∧ s = Sh.rounds (ofL ws) (Sh.K.take k) (W.take k) ∧ a = .int .u32 (s.a : Int) ∧ b' = .int .u32 (s.b : Int) ∧ c = .int .u32 (s.c : Int) ∧ d = .int .u32 (s.d : Int) ∧ e = .int .u32 (s.e : Int) ∧ f = .int .u32 (s.f : Int) ∧ g = .int .u32 (s.g : Int) ∧ l = .int .u32 (s.h : Int) ∧ i = .int .i64 (k : Int) ∧ wr = w2.drewN m) (fun _ _ _ _ _ _ _ _ i _ => 64 - (intOf i).toNat)
  case atStart => exact ⟨0, _, ofL ws, by omega, by simp [Sh.rounds], by rw [HSO.out], by rw [HSO.out], by rw [HSO.out], by rw [HSO.out], by rw [HSO.out], by rw [HSO.out], by rw [HSO.out], by rw [HSO.out], rfl, drewN_add w2 _ _⟩
  case round =>
    obtain ⟨k, m, s, hk, hs, rfl, rfl, rfl, rfl, rfl, rfl, rfl, rfl, rfl, rfl⟩ := hrel
    have HS := Lib.hid hs
    have HOK : Hid (Ok8 s) := Lib.hid (by rw [hs]; exact rounds_ok _ _ _ HO.out)
    clear hs
    by_cases hlt : k < 64
    · have HST := Lib.hid (rounds_take Sh.K W k (ofL ws) (by rw [K_length]; exact hlt) (by rw [HW.out]; exact hlt))
      rw [← HS.out] at HST
      have hl : (k : Int) < 64 := by omega
      have r0 : w2.cell? ⟨1, k, none⟩ = some (.int .u32 ((Sh.K.getD k 0 : Nat) : Int)) := HM.out.st.roots k hlt
      have r1 : w2.cell? ⟨w1.heap.size, k, none⟩ = some (.int .u32 ((W.getD k 0 : Nat) : Int)) := (Kq.blk_cell HM.out.arr k).trans (wcl_at W k (by rw [HW.out]; exact hlt))
      generalize Sh.K.getD k 0 = kk at *
      generalize W.getD k 0 = wk at *
      have T6 := Lib.hid (fun w => sh_turn s.e 6 w HOK.out.e (by decide) (by decide))
      have T11 := Lib.hid (fun w => sh_turn s.e 11 w HOK.out.e (by decide) (by decide))
      have T25 := Lib.hid (fun w => sh_turn s.e 25 w HOK.out.e (by decide) (by decide))
      have T2 := Lib.hid (fun w => sh_turn s.a 2 w HOK.out.a (by decide) (by decide))
      have T13 := Lib.hid (fun w => sh_turn s.a 13 w HOK.out.a (by decide) (by decide))
      have T22 := Lib.hid (fun w => sh_turn s.a 22 w HOK.out.a (by decide) (by decide))
      obtain ⟨z1, f1, f2⟩ := xor3 (Sh.rot s.e 6) (Sh.rot s.e 11) (Sh.rot s.e 25) (rot_lt _ _ HOK.out.e) (rot_lt _ _ HOK.out.e) (rot_lt _ _ HOK.out.e)
      obtain ⟨z2, f3, f4⟩ := xor3 (Sh.rot s.a 2) (Sh.rot s.a 13) (Sh.rot s.a 22) (rot_lt _ _ HOK.out.a) (rot_lt _ _ HOK.out.a) (rot_lt _ _ HOK.out.a)
      obtain ⟨n1, cp, n2, f5, f6, f7, f8, f9⟩ := ch_facts s.e s.f s.g HOK.out.e HOK.out.f HOK.out.g
      obtain ⟨m1, m2, m3, m4, f10, f11, f12, f13, f14⟩ := maj_facts s.a s.b s.c HOK.out.a HOK.out.b HOK.out.c
      obtain ⟨x1, x2, x3, t1, t2, e', a', f15, f16, f17, f18, f19, f20, f21, HSF, q1, q2⟩ := step_facts s _ _ _ _ kk wk rfl rfl rfl rfl
      have HSF := Lib.hid HSF
      have HOK2 : Hid (Ok8 ⟨a', s.a, s.b, s.c, e', s.e, s.f, s.g⟩) := Lib.hid ⟨q2, HOK.out.a, HOK.out.b, HOK.out.c, q1, HOK.out.e, HOK.out.f, HOK.out.g⟩
      clear q1 q2 f7
      have e1 : ((Sh.rot s.e 6 ^^^ Sh.rot s.e 11) ^^^ Sh.rot s.e 25) = Sh.ep1 s.e := rfl
      have e0 : ((Sh.rot s.a 2 ^^^ Sh.rot s.a 13) ^^^ Sh.rot s.a 22) = Sh.ep0 s.a := rfl
      rw [e1] at f2
      rw [e0] at f4
      clear e1 e0
      generalize Sh.rot s.e 6 = ra at *
      generalize Sh.rot s.e 11 = rb at *
      generalize Sh.rot s.e 25 = rc at *
      generalize Sh.rot s.a 2 = rd at *
      generalize Sh.rot s.a 13 = re at *
      generalize Sh.rot s.a 22 = rf at *
      generalize Sh.ep1 s.e = u1 at *
      generalize Sh.ep0 s.a = u0 at *
      generalize Sh.ch s.e s.f s.g = c1 at *
      generalize Sh.maj s.a s.b s.c = mj at *
      have F6 := Lib.hid (And.intro f1 f2)
      have F8 := Lib.hid (And.intro f3 f4)
      clear f1 f2 f3 f4
      go_wp2_with fail
      refine (T6.out _).mono ?_
      rintro e wa ⟨rfl, n6, rfl⟩
      go_wp2_with fail
      refine (T11.out _).mono ?_
      rintro e wa ⟨rfl, n7, rfl⟩
      have f1 := F6.out.1
      go_wp2_with fail
      refine (T25.out _).mono ?_
      rintro e wa ⟨rfl, n8, rfl⟩
      have f2 := F6.out.2
      go_wp2
      clear f1 f2 T6 T11 T25 F6
      have f6' : bits .xor .u32 (if IntKind.u32.signed = true then -1 else IntKind.u32.max) (s.e : Int) = (cp : Int) := f6
      go_quiet (fail)
      clear f6' r0 r1 f5 f6 f8 f9 f15 f16 f17 f18
      go_wp2_with fail
      refine (T2.out _).mono ?_
      rintro e wa ⟨rfl, n9, rfl⟩
      go_wp2_with fail
      refine (T13.out _).mono ?_
      rintro e wa ⟨rfl, n10, rfl⟩
      have f3 := F8.out.1
      go_wp2_with fail
      refine (T22.out _).mono ?_
      rintro e wa ⟨rfl, n11, rfl⟩
      have f4 := F8.out.2
      clear T2 T13 T22 F8
      go_wp2
      go_roundw
      case rel => exact ⟨k + 1, _, _, by omega, HST.out.symm, by rw [HSF.out], by rw [HSF.out], by rw [HSF.out], by rw [HSF.out], by rw [HSF.out], by rw [HSF.out], by rw [HSF.out], by rw [HSF.out], by go_num, rfl⟩
      case measure => simp [intOf]; omega
    · have hk64 : k = 64 := by omega
      have HF : Hid (s = Sh.rounds (ofL ws) Sh.K W) := Lib.hid (by rw [HS.out, hk64, List.take_of_length_le (by rw [K_length]; exact Nat.le_refl _), List.take_of_length_le (by rw [HW.out]; exact Nat.le_refl _)])
      clear hk64
      have HSM := Lib.hid (And.intro HM.out (And.intro HOK.out HF.out))
      go_wp2
      clear hk hlt
      obtain ⟨vs, hvs⟩ : ∃ vs, vs = (wcl (toL s)).toArray := ⟨_, rfl⟩
      have HIX : Hid (∀ (k : Nat) (w : World), k < 8 → (Instr.index 80 (.agg vs) (.int .i64 (k : Int))).run Tryd.prog w = .ok (.int .u32 (((toL s).getD k 0 : Nat) : Int)) w) := Lib.hid (fun k w hk => by rw [hvs]; exact index8 (toL s) rfl k hk w)
      have hvs' : #[Value.int .u32 (s.a : Int), .int .u32 (s.b : Int), .int .u32 (s.c : Int), .int .u32 (s.d : Int), .int .u32 (s.e : Int), .int .u32 (s.f : Int), .int .u32 (s.g : Int), .int .u32 (s.h : Int)] = vs := hvs.symm
      rw [hvs']
      have HP0 : Hid (MixS w B t (partW ws s 0) b n w1.heap.size W (w2.drewN m)) := Lib.hid (by rw [partW_zero]; exact HSM.out.1.drewN m)
      generalize w2.drewN m = w3 at *
      clear hvs hvs'
      go_loopw [136] (fun i wr => ∃ k : Nat, k ≤ 8 ∧ i = .int .i64 (k : Int) ∧ MixS w B t (partW ws s k) b n w1.heap.size W wr) (fun i _ => 8 - (intOf i).toNat)
      case atStart => exact ⟨0, by omega, rfl, HP0.out⟩
      case round =>
        obtain ⟨j, hj, rfl, hS⟩ := hrel
        have HJ := Lib.hid hS
        clear hS
        by_cases hlt : j < 8
        · have hl : (j : Int) < 8 := by omega
          have hix := fun w => HIX.out j w hlt
          have HPA := Lib.hid (partW_all ws s H.out.w8 j hlt)
          have c0 := HJ.out.st.word j hlt
          rw [HPA.out.1] at c0
          have ha := add32 (ws.getD j 0) ((toL s).getD j 0)
          obtain ⟨x, hx, HX⟩ : ∃ x, x = (ws.getD j 0 + (toL s).getD j 0) % 4294967296 ∧ Hid (x < 4294967296) := ⟨_, rfl, Lib.hid (Nat.mod_lt _ (by decide))⟩
          rw [← hx] at ha HPA
          clear hx
          generalize ws.getD j 0 = y0 at *
          generalize (toL s).getD j 0 = y1 at *
          have hfz : Hid (wr.frozen? ⟨B, j, none⟩ = false) := Lib.hid (Kq.blk_free HJ.out.st.blk j)
          go_wp2
          clear hix
          refine Kq.wp_region_T (last := 11) (S := fun w' => w'.cell? ⟨B, j, none⟩ = some (Value.int .u32 (y0 : Int))) (by kernel_rfl) c0 (fun hS0 => ?_)
          clear c0
          refine Kq.wpAnyT_take (i := 0) (v := ?_) rfl rfl (by kernel_rfl) (by kernel_rfl) (by kernel_rfl) (by kernel_rfl) (fun _ _ _ h => h) (Or.inl ⟨by kernel_rfl, ?_⟩) (by assumption) ?_
          rotate_left
          · intro w hSw; (try dsimp only at hSw); go_simp; (try with_reducible rfl)
          refine Kq.wpAnyT_take (i := 1) (v := ?_) rfl rfl (by kernel_rfl) (by kernel_rfl) (by kernel_rfl) (by kernel_rfl) (fun _ _ _ h => h) (Or.inl ⟨by kernel_rfl, ?_⟩) (by assumption) ?_
          rotate_left
          · intro w hSw; (try dsimp only at hSw); go_simp; (try with_reducible rfl)
          refine Kq.wpAnyT_take (i := 2) (v := ?_) rfl rfl (by kernel_rfl) (by kernel_rfl) (by kernel_rfl) (by kernel_rfl) (fun _ _ _ h => h) (Or.inl ⟨by kernel_rfl, ?_⟩) (by assumption) ?_
          rotate_left
          · intro w hSw; (try dsimp only at hSw); go_simp; (try with_reducible rfl)
          refine Kq.wpAnyT_take (i := 3) (v := ?_) rfl rfl (by kernel_rfl) (by kernel_rfl) (by kernel_rfl) (by kernel_rfl) (fun _ _ _ h => h) (Or.inl ⟨by kernel_rfl, ?_⟩) (by assumption) ?_
          rotate_left
          · intro w hSw; (try dsimp only at hSw); go_simp; (try with_reducible rfl)
          refine Kq.wpAnyT_take (i := 4) (v := ?_) rfl rfl (by kernel_rfl) (by kernel_rfl) (by kernel_rfl) (by kernel_rfl) (fun _ _ _ h => h) (Or.inl ⟨by kernel_rfl, ?_⟩) (by assumption) ?_
          rotate_left
          · intro w hSw; (try dsimp only at hSw); go_simp; (try with_reducible rfl)
          refine Kq.wpAnyT_take (i := 5) (v := ?_) rfl rfl (by kernel_rfl) (by kernel_rfl) (by kernel_rfl) (by kernel_rfl) (fun _ _ _ h => h) (Or.inl ⟨by kernel_rfl, ?_⟩) (by assumption) ?_
          rotate_left
          · intro w hSw; (try dsimp only at hSw); go_simp; (try with_reducible rfl)
          refine Kq.wpAnyT_take (i := 6) (v := ?_) rfl rfl (by kernel_rfl) (by kernel_rfl) (by kernel_rfl) (by kernel_rfl) (fun _ _ _ h => h) (Or.inl ⟨by kernel_rfl, ?_⟩) (by assumption) ?_
          rotate_left
          · intro w hSw; (try dsimp only at hSw); go_simp; (try with_reducible rfl)
          refine Kq.wpAnyT_take (i := 7) (v := ?_) rfl rfl (by kernel_rfl) (by kernel_rfl) (by kernel_rfl) (by kernel_rfl) (fun _ _ _ h => h) (Or.inl ⟨by kernel_rfl, ?_⟩) (by assumption) ?_
          rotate_left
          · intro w hSw; (try dsimp only at hSw); go_simp; (try with_reducible rfl)
          refine Kq.wpAnyT_one (i := 8) (by kernel_rfl) rfl (fun K hK => ?_)
          go_simp
          refine hK.out _ _ hS0 (fun hS1 => ?_)
          clear hK K hS1
          refine Kq.wpAnyT_one (i := 9) (by kernel_rfl) rfl (fun K hK => ?_)
          go_simp
          refine hK.out _ _ hS0 (fun hS1 => ?_)
          clear hK K hS1
          refine Kq.wpAnyT_take (i := 10) (v := ?_) rfl rfl (by kernel_rfl) (by kernel_rfl) (by kernel_rfl) (by kernel_rfl) (fun _ _ _ h => h) (Or.inl ⟨by kernel_rfl, ?_⟩) (by assumption) ?_
          rotate_left
          · intro w hSw; (try dsimp only at hSw); go_simp; (try with_reducible rfl)
          have hfz := hfz.out
          have hS0 : wr.cell? ⟨B, j, none⟩ = some (Value.int .u32 (y0 : Int)) := hS0
          refine Kq.wpAnyT_last (by kernel_rfl) rfl (fun K hK => ?_)
          go_simp
          refine hK.out _ _ ?_
          clear hK K hS0
          refine Kq.wpAnyT_done (by kernel_rfl) ?_ _
          have HN : Hid (MixS w B t (partW ws s (j + 1)) b n w1.heap.size W (wr.setCell ⟨B, j, none⟩ (.int .u32 (x : Int))).drew) := Lib.hid (by
            have h1 := HJ.out.st.setWord j x hlt HX.out
            rw [HPA.out.2] at h1
            refine MixS.drewN (m := 1) ⟨h1, ?_, HJ.out.keep.trans (Kq.Keeps.setCell _ _ _ rfl), HJ.out.ne⟩
            rw [Below.heap_setCell _ _ _ _ (show w1.heap.size ≠ B by have := H1.out.lt; omega)]
            exact HJ.out.arr)
          clear hfz ha
          go_wp2
          go_roundw
          case rel => exact ⟨j + 1, by omega, by go_num, HN.out⟩
          case measure => simp [intOf]; omega
        · have h8 : j = 8 := by omega
          rw [h8, partW_eight ws s H.out.w8, HF.out, ← HMX.out] at HJ
          clear h8
          go_wp2
          go_end0
          exact ⟨rfl, HJ.out.st, HJ.out.keep⟩
end Go.Proofs.YtnbapiddbcaolaaDoor
