/- Merged: CnMap, ChainMadeWalk. Contract of chain's Map. Condition: the keys are the last block's, and those that the notes tell of. carracklaw13.ChainMade walked. Condition: the constants lie where they lie. -/
import Derived.WalkSpells
import Derived.Outline
import Derived.ProofKit
import Derived.Deep.QuietTactic
import Derived.Deep.RegionHeld
import Derived.Test.YtbjchfcoacmaaaaGreatDoorCnNoQ
import Derived.Test.YtbjchfcoacmaaaaGreatDoorStAtQ
import Derived.Test.YtbjchfcoacmaaaaGreatDoorPkCutQ
import Derived.Test.YtbjchfcoacmaaaaGreatDoorCnStMQ
import Derived.Test.YtbjchfcoacmaaaaGreatDoorCnSortSQ
import Derived.Test.YtbjchfcoacmaaaaGreatDoorCnLogQ
import Derived.Test.YtbjchfcoacmaaaaGreatDoorCnPrvQ
namespace Go.Proofs.YtbjchfcoacmaaaaGreatDoor
open Go.RowKit
set_option linter.unusedVariables false
def strE : Kq.Elt ByteArray := ⟨1, fun k => [.string k], fun _ => rfl, fun x u hu => by
  simp only [List.mem_cons, List.not_mem_nil, or_false] at hu
  rcases hu with rfl; rfl, by decide⟩
theorem infoSt : (Tryz.prog.info? 9).map (fun i => (i.zero, i.size, i.bytes)) = some (some (.string ⟨#[]⟩), 1, 16) := by kernel_rfl
theorem infoPrM : (Tryz.prog.info? 90).map (fun i => (i.zero, i.size, i.bytes)) = some (some (.agg #[.string ⟨#[]⟩, .string ⟨#[]⟩]), 2, 32) := by kernel_rfl
theorem own_lowM {w w' : World} {base size : Nat} {e : TypeId} {v : Value} {n : Nat} {xs : List Value} (h : w.ownsRow base e size v n xs) (hb : Below w.heap.size w w') : w'.ownsRow base e size v n xs := own_keepsS h (Kq.Keeps.of_below (S := fun _ => False) hb (fun k h1 h2 => absurd h1 (Nat.not_le.2 h2))) (fun _ h => h.elim)
/-- a row of keys, as the library's sort has it -/
theorem row_holds {w : World} {base g cap : Nat} {ks : List ByteArray} (h : w.ownsRow base 9 1 (.slice (some ⟨g, 0, none⟩) ks.length cap) ks.length (strE.flat ks)) : Sort.Holds encStr w g 0 (ks.map kL).toArray ∧ g < w.heap.size ∧ ks.length ≤ cap ∧ base ≤ g := by
  rcases h.2 with ⟨e, _⟩ | ⟨g', cap', cur, e, hge, hb, hc, hcm, hsz, ht⟩
  · cases e
  · injection e with e1 e2 e3
    injection e1 with e1
    injection e1 with e1
    subst e1
    refine ⟨fun j hj => ⟨?_, Kq.blk_free hb _⟩, Kq.blk_lt hb, by omega, hge⟩
    have hj' : j < ks.length := by simpa using hj
    have h4 := strE.flat_at ks j hj' 0 (by decide)
    rw [show strE.n = 1 from rfl, Nat.mul_one, Nat.add_zero, ← ht, List.getElem?_take, if_pos (by omega), Array.getElem?_toList] at h4
    rw [Nat.zero_add, Kq.blk_cell hb, h4, getElem!_pos (ks.map kL).toArray j hj]
    simp only [List.getElem_toArray, List.getElem_map]
    show some (Value.string ks[j]) = some (.string (kB (kL ks[j])))
    rw [kB_kL]
theorem flat_take {n : NtV} {l : List NtV} {j : Nat} (h : j < l.length) (hn : l[j] = n) : (l.take (j + 1)).flatMap ntKeys = (l.take j).flatMap ntKeys ++ ntKeys n := by
  rw [List.take_succ_eq_append_getElem h, List.flatMap_append, hn]; simp
theorem map_take {l : List PairV} {j : Nat} (h : j < l.length) : (l.take (j + 1)).map (·.1) = (l.take j).map (·.1) ++ [l[j].1] := by
  rw [List.take_succ_eq_append_getElem h, List.map_append]; rfl
theorem kys_len (l : List NtV) : (l.flatMap ntKeys).length = 3 * l.length := by
  induction l with
  | nil => rfl
  | cons a l ih => rw [List.flatMap_cons, List.length_append, ih, List.length_cons]; show 3 + 3 * l.length = _; omega
theorem en_ofM {w : World} {base n c : Nat} {A : Option Addr} {l : List NtV} (h : w.ownsRow base 58 5 (.slice A n c) l.length (ntE.flat l)) : EnAt NtV.nc w A l := by
  obtain ⟨A', c', h1, -, h2, -⟩ := Kq.Elt.own_at (E := ntE) h
  injection h1 with h1
  subst h1
  exact h2
theorem newL_of {w : World} {base : Nat} {v : Value} {l : List PairV} (h : w.ownsRow base 90 2 v l.length (PrE.flat l)) {W : Nat} (hW : W ≤ base) : NewL W l v w := by
  obtain ⟨A, cap, rfl, hc, hat, hb, -⟩ := Kq.Elt.own_at (E := PrE) h
  refine ⟨A, cap, rfl, hc, fun j hj => ?_, fun b off e => ⟨Nat.le_trans hW (hb b off e), ?_⟩⟩
  · obtain ⟨b, off, e, h1, h2⟩ := hat j hj
    exact ⟨b, off, e, h1, h2 0 (by decide), h2 1 (by decide)⟩
  · exact own_ltK h (by rw [e]; rfl)
/-- Get of a key of whatever size -/
theorem st_getM (w : World) (O : Nat → Prop) (S : Nat) (s : StV) (k : ByteArray) (h : StP w O S s) (hk : ∀ p ∈ s.now, p.1.size ≤ 16) (hs : k.size ≤ maxLen) : Calls Tryz.prog 39 #[.pointer (some ⟨S, 0, none⟩), .string k] w fun x w' => x = .returned (.tuple #[.string ((lk s.now k).getD ⟨#[]⟩), .bool (lk s.now k).isSome]) ∧ w' = w := st_get w O S s k hs h
/-- the pairs of the keys that were asked -/
structure M3 (W5 : Nat) (wc : World) (now : List PairV) (cs : List (List UInt8)) (j : Nat) (v : Value) (w : World) : Prop where
  le : j ≤ cs.length
  own : w.ownsRow W5 90 2 v (pairsOf now (cs.take j)).length (PrE.flat (pairsOf now (cs.take j)))
  bel : Below W5 wc w
theorem take_snoc {α : Type} {l : List α} {j : Nat} (h : j < l.length) : l.take (j + 1) = l.take j ++ [l[j]] := List.take_succ_eq_append_getElem h
theorem pairs_len (now : List PairV) (ks : List (List UInt8)) : (pairsOf now ks).length ≤ ks.length := List.length_filterMap_le _ _
section
variable {w : World} {O : Nat → Prop} {B : Nat} {c : ChV}
set_option maxRecDepth 100000 in
set_option maxHeartbeats 4000000 in
theorem cn_map (h : ChP w O B c) (hc : ChOk c) (hm : MpK c) : Calls Tryz.prog 13 #[.pointer (some ⟨B, 0, none⟩)] w fun x w' => ∃ v, x = .returned v ∧ NewL w.heap.size c.st.now v w' ∧ Below w.heap.size w w' := by
  obtain ⟨i0, hi0, hz0, hz1, hz2⟩ := info_partsB infoSt
  obtain ⟨p0, pi0, pz0, pz1, pz2⟩ := info_partsB infoPrM
  have HCP := Lib.hid h
  obtain ⟨S, C, Os, Oc, On, vb, vn, Vs, h⟩ := h
  have c1 := h.c1
  obtain ⟨nA, nn, ncap, hvn⟩ := Kq.own_shape h.ns.now
  have hvn2 : nn = c.built.length := by
    obtain ⟨A', c', h1, -⟩ := Kq.Elt.own_at (E := ntE) h.ns.now
    rw [hvn] at h1
    injection h1
  subst hvn2
  subst hvn
  have HST := Lib.hid (And.intro h.st (And.intro hc.st h.ns.now))
  have HC1 : Hid (∀ z, Below w.heap.size w z → z.cell? ⟨B, 1, none⟩ = some (.pointer (some ⟨S, 0, none⟩)) ∧ z.cell? ⟨B, 6, none⟩ = some (.slice nA c.built.length ncap) ∧ StP z Os S c.st ∧ z.ownsRow 0 58 5 (.slice nA c.built.length ncap) c.built.length (ntE.flat c.built)) := Lib.hid (fun z hb => ⟨(h.below hb).c1, (h.below hb).c6, h.st.below hb, own_lowM h.ns.now hb⟩)
  have HM := Lib.hid hm
  have HL : Hid ((lastB c).length ≤ 4096 ∧ c.built.length ≤ 1000 ∧ SortL c.st.now ∧ (∀ p ∈ c.st.now, p.1.size ≤ 16)) := Lib.hid ⟨(atV_small hc.st c.st.height).1, hc.built, hc.st.now.2.1, fun p hp => (hc.st.now.2.2 p hp).2.1⟩
  have HLZ : Hid (∀ p ∈ lastB c, p.1.size ≤ 16) := Lib.hid (fun p hp => ((atV_small hc.st c.st.height).2.2 p hp).2.1)
  have HHT : Hid (c.st.height < 18446744073709551616) := Lib.hid (by have h1 := hc.st.top; have h2 := hc.st.one; unfold StV.height; omega)
  clear h hm hc
  go_enter Tryz.func13, Tryz.ntmps13
  go_wp2
  refine wp_region_held_drew (S := fun w' => w'.cell? ⟨B, 1, none⟩ = some (.pointer (some ⟨S, 0, none⟩))) (by kernel_rfl) c1 (fun hS0 => ?_)
  have H0 : Hid (Below w.heap.size w w.drew) := Lib.hid (Below.refl _ _).drew
  generalize w.drew = z0 at *
  clear c1
  refine wpAnyH_take (i := 0) (v := ?_) rfl (by kernel_rfl) (by kernel_rfl) (by kernel_rfl) (fun _ _ _ h => h) (Or.inl ⟨by kernel_rfl, ?_⟩) (by assumption) ?_
  rotate_left
  · intro w hSw; (try dsimp only at hSw); go_simp; (try with_reducible rfl)
  refine wpAnyH_take (i := 1) (v := ?_) rfl (by kernel_rfl) (by kernel_rfl) (by kernel_rfl) (fun _ _ _ h => h) (Or.inl ⟨by kernel_rfl, ?_⟩) (by assumption) ?_
  rotate_left
  · intro w hSw; (try dsimp only at hSw); go_simp; (try with_reducible rfl)
  refine wpAnyH_take (i := 2) (v := ?_) rfl (by kernel_rfl) (by kernel_rfl) (by kernel_rfl) (fun _ _ _ h => h) (Or.inl ⟨by kernel_rfl, ?_⟩) (by assumption) ?_
  rotate_left
  · intro w hSw; (try dsimp only at hSw); go_simp; (try with_reducible rfl)
  refine wpAnyH_take (i := 3) (v := ?_) rfl (by kernel_rfl) (by kernel_rfl) (by kernel_rfl) (fun _ _ _ h => h) (Or.inl ⟨by kernel_rfl, ?_⟩) (by assumption) ?_
  rotate_left
  · intro w hSw; (try dsimp only at hSw); go_simp; (try with_reducible rfl)
  refine wpAnyH_take (i := 4) (v := ?_) rfl (by kernel_rfl) (by kernel_rfl) (by kernel_rfl) (fun _ _ _ h => h) (Or.inl ⟨by kernel_rfl, ?_⟩) (by assumption) ?_
  rotate_left
  · intro w hSw; (try dsimp only at hSw); go_simp; (try with_reducible rfl)
  refine wpAnyH_take (i := 5) (v := ?_) rfl (by kernel_rfl) (by kernel_rfl) (by kernel_rfl) (fun _ _ _ h => h) (Or.inl ⟨by kernel_rfl, ?_⟩) (by assumption) ?_
  rotate_left
  · intro w hSw; (try dsimp only at hSw); go_simp; (try with_reducible rfl)
  refine wpAnyH_ready (rs := [6]) (by kernel_rfl) (by simp) ?_
  refine AllReadyH.cons rfl (fun K hK => ?_) AllReadyH.nil
  go_simp
  refine (cn_height (HCP.out.below H0.out)).mono ?_
  rintro x z1 ⟨rfl, rfl⟩
  clear hS0
  refine hK.out _ _ (HC1.out _ H0.out).1 (fun hS0 => ?_)
  clear hK K
  refine wpAnyH_ready (rs := [7]) (by kernel_rfl) (by simp) ?_
  refine AllReadyH.cons rfl (fun K hK => ?_) AllReadyH.nil
  go_simp
  refine (st_at z1 Os S c.st c.st.height HHT.out (HC1.out _ H0.out).2.2.1 HST.out.2.1).mono ?_
  rintro x z2 ⟨v, rfl, ⟨A, cap, rfl, hcap, hps, hnew⟩, hb⟩
  have H2 : Hid (Below w.heap.size w z2) := Lib.hid (H0.out.trans (hb.mono H0.out.size))
  obtain ⟨ls, hls⟩ : ∃ ls, ls = lastB c := ⟨_, rfl⟩
  have hps : PsAt z2 A ls := by rw [hls]; exact hps
  have HLS := Lib.hid (And.intro hls hps)
  rw [show (atV c.st c.st.height).1 = ls from hls.symm]
  generalize (atV c.st c.st.height).2 = er
  clear hls hps hcap hnew hb H0 hS0
  refine hK.out _ _ (HC1.out _ H2.out).1 (fun hS0 => ?_)
  clear hK K
  refine wpAnyH_take (i := 8) (v := ?_) rfl (by kernel_rfl) (by kernel_rfl) (by kernel_rfl) (fun _ _ _ h => h) (Or.inl ⟨by kernel_rfl, ?_⟩) (by assumption) ?_
  rotate_left
  · intro w hSw; (try dsimp only at hSw); go_simp; (try with_reducible rfl)
  refine wpAnyH_take (i := 9) (v := ?_) rfl (by kernel_rfl) (by kernel_rfl) (by kernel_rfl) (fun _ _ _ h => h) (Or.inl ⟨by kernel_rfl, ?_⟩) (by assumption) ?_
  rotate_left
  · intro w hSw; (try dsimp only at hSw); go_simp; (try with_reducible rfl)
  refine wpAnyH_take (i := 10) (v := ?_) rfl (by kernel_rfl) (by kernel_rfl) (by kernel_rfl) (fun _ _ _ h => h) (Or.inl ⟨by kernel_rfl, ?_⟩) (by assumption) ?_
  rotate_left
  · intro w hSw; (try dsimp only at hSw); go_simp; (try with_reducible rfl)
  refine wpAnyH_take (i := 11) (v := ?_) rfl (by kernel_rfl) (by kernel_rfl) (by kernel_rfl) (fun _ _ _ h => h) (Or.inl ⟨by kernel_rfl, ?_⟩) (by assumption) ?_
  rotate_left
  · intro w hSw; (try dsimp only at hSw); go_simp; (try with_reducible rfl)
  refine wpAnyH_take (i := 12) (v := ?_) rfl (by kernel_rfl) (by kernel_rfl) (by kernel_rfl) (fun _ _ _ h => h) (Or.inl ⟨by kernel_rfl, ?_⟩) (by assumption) ?_
  rotate_left
  · intro w hSw; (try dsimp only at hSw); go_simp; (try with_reducible rfl)
  refine wpAnyH_done (by kernel_rfl) ?_ _
  clear hS0
  have hl4 : ls.length ≤ 4096 := by rw [HLS.out.1]; exact HL.out.1
  have HL4 := Lib.hid hl4
  obtain ⟨W1, hW1⟩ : ∃ W1, W1 = z2.heap.size := ⟨_, rfl⟩
  have HW1 := Lib.hid hW1
  clear hW1
  go_wp2
  go_loopw [29, 5] (fun u v wr => ∃ j : Nat, u = .int .i64 (j : Int) ∧ j ≤ ls.length ∧ wr.ownsRow W1 9 1 v ((ls.take j).map (·.1)).length (strE.flat ((ls.take j).map (·.1))) ∧ Below W1 z2 wr) (fun u _ _ => ls.length - (intOf u).toNat)
  case atStart => exact ⟨0, rfl, Nat.zero_le _, ⟨rfl, Or.inl ⟨rfl, rfl⟩⟩, Below.refl _ _⟩
  case round =>
    obtain ⟨j, rfl, hj, hown, hbel⟩ := hrel
    have HB := Lib.hid hbel
    by_cases hlt : j < ls.length
    · have hsz : W1 ≤ wr.heap.size := by rw [HW1.out]; exact hbel.size
      obtain ⟨b, off, rfl, hb, q0, q1⟩ := (HLS.out.2.below (by rw [← HW1.out]; exact hbel)) j hlt
      obtain ⟨kk, hkk⟩ : ∃ kk, kk = ls[j].1 := ⟨_, rfl⟩
      obtain ⟨vv, hvv⟩ : ∃ vv, vv = ls[j].2 := ⟨_, rfl⟩
      rw [← hkk] at q0
      rw [← hvv] at q1
      obtain ⟨ks, hks⟩ : ∃ ks, ks = (ls.take j).map (·.1) := ⟨_, rfl⟩
      have HKS : Hid ((ls.take (j + 1)).map (·.1) = ks ++ [kk]) := Lib.hid (by rw [map_take hlt, hks, hkk])
      have HKL : Hid (ks.length ≤ 4096) := Lib.hid (by rw [hks, List.length_map, List.length_take]; omega)
      rw [← hks] at hown
      obtain ⟨gA, gc, rfl, -⟩ := Kq.Elt.own_at (E := strE) hown
      have hb1 := Kq.below_alloc wr (.cells #[.string kk, .string vv] 90)
      have hb2 := Kq.below_alloc (wr.alloc (.cells #[.string kk, .string vv] 90)) (.cells #[.string kk] 9)
      have hb3 := hb1.trans (hb2.mono (by simp))
      have HR : Hid (((wr.alloc (.cells #[.string kk, .string vv] 90)).alloc (.cells #[.string kk] 9)).ownsRow W1 9 1 (.slice gA ks.length gc) ks.length (strE.flat ks) ∧ Below W1 z2 ((wr.alloc (.cells #[.string kk, .string vv] 90)).alloc (.cells #[.string kk] 9)) ∧ W1 ≤ ((wr.alloc (.cells #[.string kk, .string vv] 90)).alloc (.cells #[.string kk] 9)).heap.size) := Lib.hid ⟨own_lowM hown hb3, hbel.trans (hb3.mono hsz), by have := hb3.size; omega⟩
      have HSRC : Hid (Src Tryz.prog 1 88 (.slice (some ⟨wr.heap.size + 1, 0, none⟩) 1 1) 1 (strE.flat [kk]) ((wr.alloc (.cells #[.string kk, .string vv] 90)).alloc (.cells #[.string kk] 9))) := Lib.hid (by
        have := (Kq.Elt.made_one (E := strE) kk (wr.alloc (.cells #[.string kk, .string vv] 90)) 9).src Tryz.underlying88 1
        rw [show (wr.alloc (.cells #[.string kk, .string vv] 90)).heap.size = wr.heap.size + 1 by simp] at this
        exact this)
      have HLT := Lib.hid hlt
      have i1 : (j : Int) < (ls.length : Int) := by omega
      clear hkk hvv hks hown hbel hb hb1 hb2 hb3 hlt hsz
      go_wp2_with (at_builtin; refine Kq.wpList_append_any _ rfl (.tmp 33) (.tmp 36) 88 88 rfl W1 9 i0 (.string ⟨#[]⟩) 1 16 Tryz.underlying88 hi0 hz0 hz1 hz2 rfl (by decide) (.slice gA ks.length gc) ks.length (strE.flat ks) rfl HR.out.1 (.slice (some ⟨wr.heap.size + 1, 0, none⟩) 1 1) 1 (strE.flat [kk]) rfl HSRC.out ?h1 ?h2 ?h3 ?_)
      case h1 => have := HKL.out; unfold maxLen; omega
      case h2 => have := HKL.out; omega
      case h3 => exact HR.out.2.2
      intro v' z3 hown3 hgrow hfresh
      have HE : Hid (z3.ownsRow W1 9 1 v' (ks ++ [kk]).length (strE.flat (ks ++ [kk])) ∧ Below W1 z2 z3) := Lib.hid ⟨by rw [List.length_append, Kq.Elt.flat_append]; exact hown3, HR.out.2.1.trans ((Kq.Keeps.grown (S := fun k => W1 ≤ k) hgrow (fun k _ hk => own_geF HR.out.1 hk)).below HR.out.2.2 (fun k _ e => e))⟩
      clear hown3 hgrow hfresh HR HSRC
      go_wp2
      go_roundw
      case rel => exact ⟨j + 1, by go_num, HLT.out, by rw [HKS.out]; exact HE.out.1, HE.out.2⟩
      case measure => have := HLT.out; simp [intOf]; omega
    · obtain rfl : j = ls.length := by omega
      rw [List.take_length] at hown
      have HO := Lib.hid hown
      clear hlt hown hbel
      have HBW : Hid (Below w.heap.size w wr) := Lib.hid (H2.out.trans (HB.out.mono (by rw [HW1.out]; exact H2.out.size)))
      have c6 := (HC1.out _ HBW.out).2.1
      go_wp2
      clear c6
      obtain ⟨wl, hwl⟩ : ∃ wl, wl = wr := ⟨_, rfl⟩
      rw [← hwl] at HO HBW HB ⊢
      clear hwl
      have hn4 : c.built.length ≤ 1000 := HL.out.2.1
      go_loopw [45, 5] (fun u v wr => ∃ j : Nat, u = .int .i64 (j : Int) ∧ j ≤ c.built.length ∧ wr.ownsRow W1 9 1 v (ls.map (·.1) ++ (c.built.take j).flatMap ntKeys).length (strE.flat (ls.map (·.1) ++ (c.built.take j).flatMap ntKeys)) ∧ Below W1 z2 wr) (fun u _ _ => c.built.length - (intOf u).toNat)
      case atStart => exact ⟨0, rfl, Nat.zero_le _, by simpa using HO.out, HB.out⟩
      case round =>
        obtain ⟨j, rfl, hj, hown, hbel⟩ := hrel
        have HB2 := Lib.hid hbel
        have HBW2 : Hid (Below w.heap.size w wr) := Lib.hid (H2.out.trans (hbel.mono (by rw [HW1.out]; exact H2.out.size)))
        by_cases hlt : j < c.built.length
        · have hsz : W1 ≤ wr.heap.size := by rw [HW1.out]; exact hbel.size
          obtain ⟨b, off, rfl, hb, hc⟩ := en_ofM (HC1.out _ HBW2.out).2.2.2 j hlt
          obtain ⟨nt, hnt⟩ : ∃ nt, nt = c.built[j] := ⟨_, rfl⟩
          rw [← hnt] at hc
          have hq := HM.out.num nt (by rw [hnt]; exact List.getElem_mem hlt)
          obtain ⟨ks, hks⟩ : ∃ ks, ks = ls.map (·.1) ++ (c.built.take j).flatMap ntKeys := ⟨_, rfl⟩
          have HKS : Hid (ls.map (·.1) ++ (c.built.take (j + 1)).flatMap ntKeys = ks ++ ntKeys nt) := Lib.hid (by rw [flat_take hlt hnt.symm, hks, List.append_assoc])
          have HKL : Hid (ks.length ≤ 10000) := Lib.hid (by rw [hks, List.length_append, List.length_map, kys_len, List.length_take]; omega)
          rw [← hks] at hown
          obtain ⟨gA, gc, rfl, -⟩ := Kq.Elt.own_at (E := strE) hown
          obtain ⟨kd, f, sqi, t, d⟩ := nt
          obtain ⟨sq, rfl, hsq⟩ : ∃ sq : Nat, sqi = (sq : Int) ∧ sq < 18446744073709551616 := ⟨sqi.toNat, by have := hq.1; simp only at this; omega, by have := hq.1; have := hq.2; simp only at *; omega⟩
          have k0 : wr.cell? ⟨b, off + j * 5 + 0, none⟩ = some (.int .i64 kd) := hc 0 (by decide)
          have k1 : wr.cell? ⟨b, off + j * 5 + 1, none⟩ = some (.int .i64 f) := hc 1 (by decide)
          have k2 : wr.cell? ⟨b, off + j * 5 + 2, none⟩ = some (.int .u64 (sq : Int)) := hc 2 (by decide)
          have k3 : wr.cell? ⟨b, off + j * 5 + 3, none⟩ = some (.int .u64 t) := hc 3 (by decide)
          have k4 : wr.cell? ⟨b, off + j * 5 + 4, none⟩ = some (.string d) := hc 4 (by decide)
          rw [Nat.add_zero] at k0
          have HNK : Hid (ntKeys ⟨kd, f, (sq : Int), t, d⟩ = [keyT 99 sq, keyT 114 sq, keyT 97 sq]) := Lib.hid (by unfold ntKeys; rw [Int.toNat_natCast])
          rw [HNK.out] at HKS
          have HLT := Lib.hid hlt
          have HOW := Lib.hid hown
          have HSZ := Lib.hid hsz
          have i1 : (j : Int) < (c.built.length : Int) := by omega
          obtain ⟨wa, hwa⟩ : ∃ z, z = wr.alloc (.cells #[.int .i64 kd, .int .i64 f, .int .u64 (sq : Int), .int .u64 t, .string d] 58) := ⟨_, rfl⟩
          have HWA : Hid (Below wr.heap.size wr wa) := Lib.hid (by rw [hwa]; exact Kq.below_alloc _ _)
          have HSQ := Lib.hid hsq
          clear hnt hc hb hq hks hown hlt hsz hbel hsq
          go_wp2_with fail
          rw [← hwa]
          clear hwa k0 k1 k2 k3 k4
          refine (pk_sent sq wa HSQ.out).mono ?_
          rintro x w3 ⟨rfl, b3⟩
          have H3 := Lib.hid (HWA.out.trans (b3.mono HWA.out.size))
          clear b3
          go_wp2_with fail
          refine (pk_received sq w3 HSQ.out).mono ?_
          rintro x w4 ⟨rfl, b4⟩
          have H4 := Lib.hid (H3.out.trans (b4.mono H3.out.size))
          clear b4
          go_wp2_with fail
          refine (pk_answered sq w4 HSQ.out).mono ?_
          rintro x w5 ⟨rfl, b5⟩
          have H5 := Lib.hid (H4.out.trans (b5.mono H4.out.size))
          clear b5 H3 H4 HWA
          generalize keyT 99 sq = ka at *
          generalize keyT 114 sq = kb at *
          generalize keyT 97 sq = kc at *
          have hb1 := Kq.below_alloc w5 (.cells #[.string ka, .string kb, .string kc] 9)
          have HR : Hid ((w5.alloc (.cells #[.string ka, .string kb, .string kc] 9)).ownsRow W1 9 1 (.slice gA ks.length gc) ks.length (strE.flat ks) ∧ Below W1 z2 (w5.alloc (.cells #[.string ka, .string kb, .string kc] 9)) ∧ W1 ≤ (w5.alloc (.cells #[.string ka, .string kb, .string kc] 9)).heap.size) := Lib.hid (by
            have h5 := H5.out.trans (hb1.mono H5.out.size)
            exact ⟨own_lowM HOW.out h5, HB2.out.trans (h5.mono HSZ.out), by have := h5.size; have := HSZ.out; omega⟩)
          have HSRC : Hid (Src Tryz.prog 1 88 (.slice (some ⟨w5.heap.size, 0, none⟩) 3 3) 3 (strE.flat [ka, kb, kc]) (w5.alloc (.cells #[.string ka, .string kb, .string kc] 9))) := Lib.hid (by
            have hat : strE.At (w5.alloc (.cells #[.string ka, .string kb, .string kc] 9)) (some ⟨w5.heap.size, 0, none⟩) [ka, kb, kc] := fun i hi => by
              have hn := Kq.blk_new w5 #[.string ka, .string kb, .string kc] 9 (0, 0)
              refine ⟨_, 0, rfl, by simp, fun jj hjj => ?_⟩
              have hjj : jj < 1 := hjj
              obtain rfl : jj = 0 := by omega
              have hi : i < 3 := hi
              obtain rfl | rfl | rfl : i = 0 ∨ i = 1 ∨ i = 2 := by omega
              · exact Kq.blk_cell hn 0
              · exact Kq.blk_cell hn 1
              · exact Kq.blk_cell hn 2
            exact hat.src Tryz.underlying88 3)
          clear hb1
          go_wp2_with (at_builtin; refine Kq.wpList_append_any _ rfl (.tmp 52) (.tmp 59) 88 88 rfl W1 9 i0 (.string ⟨#[]⟩) 1 16 Tryz.underlying88 hi0 hz0 hz1 hz2 rfl (by decide) (.slice gA ks.length gc) ks.length (strE.flat ks) rfl HR.out.1 (.slice (some ⟨w5.heap.size, 0, none⟩) 3 3) 3 (strE.flat [ka, kb, kc]) rfl HSRC.out ?h1 ?h2 ?h3 ?_)
          case h1 => have := HKL.out; unfold maxLen; omega
          case h2 => have := HKL.out; omega
          case h3 => exact HR.out.2.2
          intro v' z3 hown3 hgrow hfresh
          have HE : Hid (z3.ownsRow W1 9 1 v' (ks ++ [ka, kb, kc]).length (strE.flat (ks ++ [ka, kb, kc])) ∧ Below W1 z2 z3) := Lib.hid ⟨by rw [List.length_append, Kq.Elt.flat_append]; exact hown3, HR.out.2.1.trans ((Kq.Keeps.grown (S := fun k => W1 ≤ k) hgrow (fun k _ hk => own_geF HR.out.1 hk)).below HR.out.2.2 (fun k _ e => e))⟩
          clear hown3 hgrow hfresh HR HSRC
          go_wp2
          go_roundw
          case rel => first | exact ⟨j + 1, by go_num, HLT.out, by rw [HKS.out]; exact HE.out.1, HE.out.2⟩ | ((repeat apply Exists.intro); refine ⟨⟨j + 1, ?_, HLT.out, by rw [HKS.out]; exact HE.out.1, HE.out.2⟩, rfl⟩; go_num)
          case measure => have := HLT.out; simp [intOf]; omega
        · obtain rfl : j = c.built.length := by omega
          rw [List.take_length] at hown
          obtain ⟨ks, hks⟩ : ∃ ks, ks = ls.map (·.1) ++ c.built.flatMap ntKeys := ⟨_, rfl⟩
          rw [← hks] at hown
          have HKL : Hid (ks.length ≤ 10000) := Lib.hid (by rw [hks, List.length_append, List.length_map, kys_len]; omega)
          obtain ⟨cs, hcs⟩ : ∃ cs, cs = Lib.compact (sortK (ks.map kL)) := ⟨_, rfl⟩
          have HPA : Hid (pairsOf c.st.now cs = c.st.now) := Lib.hid (by
            rw [hcs]
            refine pairsOf_all HL.out.2.2.1 (fun k hk => List.mem_map.2 ⟨k, ?_, rfl⟩)
            rw [hks]
            rcases HM.out.keys k hk with ⟨p, hp, rfl⟩ | ⟨n, hn, h⟩
            · exact List.mem_append_left _ (List.mem_map.2 ⟨p, by rw [HLS.out.1]; exact hp, rfl⟩)
            · exact List.mem_append_right _ (List.mem_flatMap.2 ⟨n, hn, h⟩))
          have HKZ : Hid (∀ kl ∈ cs, (kB kl).size ≤ maxLen) := Lib.hid (fun kl hkl => by
            rw [hcs] at hkl
            obtain ⟨k, hk, rfl⟩ := List.mem_map.1 ((sortK_mem _ _).1 ((compK_mem _).1 hkl))
            rw [kB_kL]
            have h16 : k.size ≤ 16 := by
              rw [hks] at hk
              rcases List.mem_append.1 hk with hk | hk
              · obtain ⟨p, hp, rfl⟩ := List.mem_map.1 hk
                rw [HLS.out.1] at hp
                exact (HLZ.out p hp)
              · obtain ⟨n, _, hn⟩ := List.mem_flatMap.1 hk
                unfold ntKeys at hn
                simp only [List.mem_cons, List.not_mem_nil, or_false] at hn
                rcases hn with rfl | rfl | rfl <;> rw [keyT_size] <;> omega
            unfold maxLen; omega)
          have HCS := Lib.hid hcs
          obtain ⟨gA, gc, rfl, -, -, -, hgn⟩ := Kq.Elt.own_at (E := strE) hown
          have HOW := Lib.hid hown
          have HGN := Lib.hid hgn
          clear hlt hown hbel hks hgn hcs
          rcases Nat.eq_zero_or_pos ks.length with hk0 | hk0
          · have HCN : Hid (c.st.now = []) := Lib.hid (by
              have e1 : ks = [] := List.eq_nil_of_length_eq_zero hk0
              have h1 := HPA.out
              rw [HCS.out, e1] at h1
              rw [← h1]
              unfold pairsOf Lib.compact Lib.compactUpTo sortK
              simp)
            rw [hk0]
            clear hk0
            go_wp2_with fail
            refine (sort_none gA gc wr).mono ?_
            rintro x w3 ⟨rfl, rfl⟩
            go_wp2_with fail
            refine (comp_none gA gc w3).mono ?_
            rintro x w4 ⟨rfl, rfl⟩
            go_wp2
            go_loopw [67, 11] (fun u v wz => u = .int .i64 0 ∧ v = .slice none 0 0 ∧ wz = w4) (fun _ _ _ => 0)
            case atStart => exact ⟨rfl, rfl, rfl⟩
            case round =>
              obtain ⟨rfl, rfl, rfl⟩ := hrel
              go_wp2
              go_ret
              exact ⟨_, rfl, by rw [HCN.out]; exact newL_nil _ _, HBW2.out⟩
          · obtain ⟨g, rfl⟩ : ∃ g, gA = some ⟨g, 0, none⟩ := by
              rcases HOW.out.2 with ⟨e, h0⟩ | ⟨g, cp, cur, e, _⟩
              · omega
              · injection e with e
                exact ⟨g, e⟩
            obtain ⟨hH, hg, hcap, hge⟩ := row_holds HOW.out
            have HSS := Lib.hid (sort_strs g gc (ks.map kL) wr hH hg (by rw [List.length_map]; have := HKL.out; omega))
            rw [List.length_map] at HSS
            have HGG := Lib.hid (And.intro hg (And.intro hcap hge))
            have HSL : Hid ((sortK (ks.map kL)).length = ks.length) := Lib.hid (by unfold sortK; rw [List.length_mergeSort, List.length_map])
            clear hH hg hcap hge hk0
            go_wp2_with fail
            refine HSS.out.mono ?_
            rintro x w3 ⟨rfl, hH3, k3⟩
            have HC4 := Lib.hid (comp_strs g gc (sortK (ks.map kL)) w3 hH3 (by rw [HSL.out]; have := HKL.out; omega) (by rw [HSL.out]; exact HGG.out.2.1))
            rw [HSL.out, ← HCS.out] at HC4
            have HK3 := Lib.hid k3
            clear hH3 k3 HSS
            go_wp2_with fail
            refine HC4.out.mono ?_
            rintro x w4 ⟨rfl, hcell, k4, hcl⟩
            have HW4 : Hid (Below W1 z2 w4 ∧ Below w.heap.size w w4 ∧ g < w4.heap.size ∧ cs.length ≤ 10000) := Lib.hid (by
              have k34 := HK3.out.trans k4
              have hb := below_past HB2.out k34 (by rw [HW1.out]; exact Nat.le_refl _) (fun k _ e => by have e : k = g := e; have := HGG.out.2.2; omega)
              exact ⟨hb, H2.out.trans (hb.mono (by rw [HW1.out]; exact H2.out.size)), Nat.lt_of_lt_of_le HGG.out.1 k34.size, by have := HKL.out; omega⟩)
            have HCE := Lib.hid hcell
            have hcl4 : cs.length ≤ 10000 := HW4.out.2.2.2
            clear hcell k4 hcl HC4 HK3
            obtain ⟨W5, hW5⟩ : ∃ W5, W5 = w4.heap.size := ⟨_, rfl⟩
            have HW5 := Lib.hid hW5
            clear hW5
            go_wp2
            go_loopw [67, 11] (fun u v wz => ∃ j : Nat, u = .int .i64 (j : Int) ∧ M3 W5 w4 c.st.now cs j v wz) (fun u _ _ => cs.length - (intOf u).toNat)
            case atStart => exact ⟨0, rfl, Nat.zero_le _, ⟨rfl, Or.inl ⟨rfl, rfl⟩⟩, Below.refl _ _⟩
            case round =>
              obtain ⟨j, rfl, h3⟩ := hrel
              have H3 := Lib.hid h3
              generalize wr = wz at *
              have hj := h3.le
              obtain ⟨gA2, gc2, rfl, -⟩ := Kq.Elt.own_at (E := PrE) h3.own
              clear h3
              have HBZ : Hid (Below w.heap.size w wz) := Lib.hid (HW4.out.2.1.trans (H3.out.bel.mono (by rw [HW5.out]; exact HW4.out.2.1.size)))
              by_cases hlt : j < cs.length
              · have hcj := (H3.out.bel.cell (p := ⟨g, j, none⟩) (by rw [HW5.out]; exact HW4.out.2.2.1)).trans (HCE.out j hlt)
                obtain ⟨kl, hkl⟩ : ∃ kl, kl = cs[j] := ⟨_, rfl⟩
                rw [← hkl] at hcj
                have HKE : Hid (cs.take (j + 1) = cs.take j ++ [kl]) := Lib.hid (by rw [take_snoc hlt, hkl])
                have hc1 := (HC1.out _ HBZ.out).1
                obtain ⟨kk, hkk⟩ : ∃ kk, kk = kB kl := ⟨_, rfl⟩
                rw [← hkk] at hcj
                have HKK := Lib.hid hkk
                obtain ⟨ps, hps⟩ : ∃ ps, ps = pairsOf c.st.now (cs.take j) := ⟨_, rfl⟩
                have HPS := Lib.hid hps
                have HPL : Hid (ps.length ≤ 10000) := Lib.hid (by rw [hps]; have := pairs_len c.st.now (cs.take j); rw [List.length_take] at this; omega)
                have HOW3 : Hid (wz.ownsRow W5 90 2 (.slice gA2 ps.length gc2) ps.length (PrE.flat ps)) := Lib.hid (by rw [hps]; exact H3.out.own)
                rw [← hps]
                have HLT := Lib.hid hlt
                have i1 : (j : Int) < (cs.length : Int) := by omega
                have HSZ : Hid (W5 ≤ wz.heap.size) := Lib.hid (by rw [HW5.out]; exact H3.out.bel.size)
                have HKS9 : Hid (kk.size ≤ maxLen) := Lib.hid (by rw [hkk, hkl]; exact HKZ.out _ (List.getElem_mem hlt))
                cases hlk : lk c.st.now kk with
                | none =>
                  have HG := Lib.hid (st_getM wz Os S c.st kk (HC1.out _ HBZ.out).2.2.1 HL.out.2.2.2 HKS9.out)
                  rw [hlk] at HG
                  have HPN : Hid (pairsOf c.st.now (cs.take (j + 1)) = ps) := Lib.hid (by rw [HKE.out, pairsOf_none (by rw [← HKK.out]; exact hlk), HPS.out])
                  clear hlt hkl hkk hps hlk hj
                  go_wp2_with fail
                  refine HG.out.mono ?_
                  rintro x wz ⟨rfl, rfl⟩
                  clear hc1 hcj
                  go_wp2
                  go_roundw
                  case rel => first | exact ⟨j + 1, by go_num, HLT.out, by rw [HPN.out]; exact HOW3.out, H3.out.bel⟩ | ((repeat apply Exists.intro); refine ⟨⟨j + 1, ?_, HLT.out, by rw [HPN.out]; exact HOW3.out, H3.out.bel⟩, rfl⟩; go_num)
                  case measure => have := HLT.out; simp [intOf]; omega
                | some vv =>
                  have HG := Lib.hid (st_getM wz Os S c.st kk (HC1.out _ HBZ.out).2.2.1 HL.out.2.2.2 HKS9.out)
                  rw [hlk] at HG
                  have HPN : Hid (pairsOf c.st.now (cs.take (j + 1)) = ps ++ [(kk, vv)]) := Lib.hid (by rw [HKE.out, pairsOf_some (by rw [← HKK.out]; exact hlk), HPS.out, HKK.out])
                  clear hlt hkl hkk hps hlk hj
                  go_wp2_with fail
                  refine HG.out.mono ?_
                  rintro x wz ⟨rfl, rfl⟩
                  clear hc1 hcj
                  have hb1 := Kq.below_alloc wz (.cells #[.string kk, .string vv] 90)
                  have HR : Hid ((wz.alloc (.cells #[.string kk, .string vv] 90)).ownsRow W5 90 2 (.slice gA2 ps.length gc2) ps.length (PrE.flat ps) ∧ Below W5 w4 (wz.alloc (.cells #[.string kk, .string vv] 90)) ∧ W5 ≤ (wz.alloc (.cells #[.string kk, .string vv] 90)).heap.size) := Lib.hid ⟨own_lowM HOW3.out hb1, H3.out.bel.trans (hb1.mono HSZ.out), by have := hb1.size; have := HSZ.out; omega⟩
                  have HSRC : Hid (Src Tryz.prog 2 35 (.slice (some ⟨wz.heap.size, 0, none⟩) 1 1) 1 (PrE.flat [(kk, vv)]) (wz.alloc (.cells #[.string kk, .string vv] 90))) := Lib.hid ((Kq.Elt.made_one (E := PrE) (kk, vv) wz 90).src Tryz.underlying35 1)
                  clear hb1
                  go_wp2_with (at_builtin; refine Kq.wpList_append_any _ rfl (.tmp 82) (.tmp 86) 35 35 rfl W5 90 p0 (.agg #[.string ⟨#[]⟩, .string ⟨#[]⟩]) 2 32 Tryz.underlying35 pi0 pz0 pz1 pz2 rfl (by decide) (.slice gA2 ps.length gc2) ps.length (PrE.flat ps) rfl HR.out.1 (.slice (some ⟨wz.heap.size, 0, none⟩) 1 1) 1 (PrE.flat [(kk, vv)]) rfl HSRC.out ?h1 ?h2 ?h3 ?_)
                  case h1 => have := HPL.out; unfold maxLen; omega
                  case h2 => have := HPL.out; omega
                  case h3 => exact HR.out.2.2
                  intro v' z3 hown3 hgrow hfresh
                  have HE : Hid (z3.ownsRow W5 90 2 v' (ps ++ [(kk, vv)]).length (PrE.flat (ps ++ [(kk, vv)])) ∧ Below W5 w4 z3) := Lib.hid ⟨by rw [List.length_append, Kq.Elt.flat_append]; exact hown3, HR.out.2.1.trans ((Kq.Keeps.grown (S := fun k => W5 ≤ k) hgrow (fun k _ hk => own_geF HR.out.1 hk)).below HR.out.2.2 (fun k _ e => e))⟩
                  clear hown3 hgrow hfresh HR HSRC
                  go_wp2
                  go_roundw
                  case rel => first | exact ⟨j + 1, by go_num, HLT.out, by rw [HPN.out]; exact HE.out.1, HE.out.2⟩ | ((repeat apply Exists.intro); refine ⟨⟨j + 1, ?_, HLT.out, by rw [HPN.out]; exact HE.out.1, HE.out.2⟩, rfl⟩; go_num)
                  case measure => have := HLT.out; simp [intOf]; omega
              · obtain rfl : j = cs.length := by omega
                have HE : Hid (NewL w.heap.size c.st.now (.slice gA2 (pairsOf c.st.now (cs.take cs.length)).length gc2) wz) := Lib.hid (by
                  have h1 := newL_of H3.out.own (W := w.heap.size) (by rw [HW5.out]; exact HW4.out.2.1.size)
                  rw [List.take_length, HPA.out] at h1 ⊢
                  exact h1)
                obtain ⟨vz, hvz⟩ : ∃ vz, vz = (pairsOf c.st.now (cs.take cs.length)).length := ⟨_, rfl⟩
                rw [← hvz] at HE ⊢
                clear hlt hj hvz
                go_wp2
                go_ret
                exact ⟨_, rfl, HE.out, HBZ.out⟩
end
end Go.Proofs.YtbjchfcoacmaaaaGreatDoor
namespace Go.Proofs.YtbjchfcoacmaaaaGreatDoor
open Go.RowKit
set_option linter.unusedVariables false
namespace chainMade
set_option maxRecDepth 100000 in
set_option maxHeartbeats 1000000 in
theorem bad (id h s : Int) (W : World) (hL : LaidOk W) (hb : id < 0 ∨ 1 < id ∨ s = 0) :
    Calls Tryz.prog 3 #[.int .i64 id, .int .u64 h, .int .u64 s] W fun x w' => x = .returned (.bool true) ∧ Below W.heap.size W w' := by
  have HA := Lib.hid (awake13 W hL)
  have HN := Lib.hid (fun z => cn_new_bad id h s z hb)
  have HC : Hid (id < 0 ∨ (¬ id < 0 ∧ 1 < id) ∨ (¬ id < 0 ∧ ¬ 1 < id ∧ s = 0)) := Lib.hid (by omega)
  clear hL hb
  go_enter Tryz.func3, Tryz.ntmps3
  go_wp2_with fail
  refine HA.out.mono ?_
  rintro x w1 ⟨rfl, b1⟩
  have H1 := Lib.hid b1
  clear b1 HA
  go_wp2_with fail
  refine (HN.out w1).mono ?_
  rintro x w1 ⟨rfl, rfl⟩
  clear HN
  rcases HC.out with h1 | ⟨h1, h2⟩ | ⟨h1, h2, rfl⟩
  · have d1 : decide (id < 0) = true := decide_eq_true h1
    clear HC h1
    go_wp2
    go_ret
    exact ⟨rfl, H1.out⟩
  · have d1 : decide (id < 0) = false := decide_eq_false (by omega)
    have d2 : decide (1 < id) = true := decide_eq_true h2
    clear HC h1 h2
    go_wp2
    go_ret
    exact ⟨rfl, H1.out⟩
  · have d1 : decide (id < 0) = false := decide_eq_false (by omega)
    have d2 : decide (1 < id) = false := decide_eq_false (by omega)
    clear HC h1 h2
    go_wp2
    go_ret
    exact ⟨rfl, H1.out⟩
/-- what stands behind the chain's making -/
structure Mk (W wn : World) (O : Nat → Prop) (B E h : Nat) (c : ChV) (w : World) : Prop where
  ch : ChP wn O B c
  en : w.heap[E]? = some (.cells #[.int .u64 (h : Int), .int .i64 0] 30 (0, 0))
  bel : Below wn.heap.size wn w
  bw : Below W.heap.size W wn
theorem Mk.below {W wn w w' : World} {O : Nat → Prop} {B E h : Nat} {c : ChV} (m : Mk W wn O B E h c w) (hb : Below w.heap.size w w') : Mk W wn O B E h c w' :=
  ⟨m.ch, Kq.below_blk hb m.en (Kq.blk_lt m.en), m.bel.trans (hb.mono m.bel.size), m.bw⟩
theorem Mk.cur {W wn w : World} {O : Nat → Prop} {B E h : Nat} {c : ChV} (m : Mk W wn O B E h c w) : ChP w O B c := m.ch.below m.bel
set_option maxRecDepth 100000 in
set_option maxHeartbeats 4000000 in
theorem good (id h s : Nat) (W : World) (hL : LaidOk W) (hid : id ≤ 1) (hs : s ≠ 0) (hs2 : s < 18446744073709551616) (hh : h < 18446744073709551616) :
    Calls Tryz.prog 3 #[.int .i64 (id : Int), .int .u64 (h : Int), .int .u64 (s : Int)] W fun x w' => x = .returned (.bool true) ∧ Below W.heap.size W w' := by
  have HA := Lib.hid (awake13 W hL)
  have HN := Lib.hid (fun z => cn_new id h s z hid hs)
  have HK := Lib.hid (newCh_k id h s hid hs hs2 hh)
  have HM := Lib.hid (MpK.new id h s)
  have d1 : decide ((id : Int) < 0) = false := decide_eq_false (by omega)
  have d2 : decide ((1 : Int) < (id : Int)) = false := decide_eq_false (by omega)
  have d2' : decide (1 < id) = false := decide_eq_false (by omega)
  have d3 : ((s : Int) == 0) = false := by rw [beq_eq_false_iff_ne]; omega
  have d3' : (s == 0) = false := by rw [beq_eq_false_iff_ne]; omega
  obtain ⟨c, hc⟩ : ∃ c, c = newCh id h s := ⟨_, rfl⟩
  rw [← hc] at HK HM
  have HCC : Hid (c.first = h ∧ c.st.height = h ∧ c.next = s ∧ c.blks = [[]] ∧ c.hs = [] ∧ c.st.now = []) := Lib.hid (by rw [hc]; exact ⟨rfl, rfl, rfl, rfl, rfl, rfl⟩)
  have HHH := Lib.hid hh
  rw [← hc] at HN
  clear hL hid hs hs2 hh hc
  go_enter Tryz.func3, Tryz.ntmps3
  go_wp2_with fail
  refine HA.out.mono ?_
  rintro x w1 ⟨rfl, b1⟩
  have H1 := Lib.hid b1
  clear b1 HA
  go_wp2_with fail
  refine (HN.out w1).mono ?_
  rintro x wn ⟨B, rfl, hch, b2⟩
  have H2 := Lib.hid (And.intro hch (H1.out.trans (b2.mono H1.out.size)))
  obtain ⟨O, hO⟩ : ∃ O, O = fun k => w1.heap.size ≤ k ∧ k < wn.heap.size := ⟨_, rfl⟩
  rw [← hO] at H2
  have HFP := Lib.hid (fun z (hb : Below wn.heap.size wn z) => cn_firstp (H2.out.1.below hb))
  have HLG := Lib.hid (fun z (hb : Below wn.heap.size wn z) => cn_log (w := z) (c := c) h 0 9 (H2.out.1.below hb) HK.out.ok ⟨by rw [HCC.out.1]; exact Nat.le_refl _, by rw [HCC.out.2.1]; exact Nat.le_refl _⟩ (fun _ => Nat.zero_le _) (by omega) (by omega) (by rw [HCC.out.2.2.2.1]; simp) (by rw [HCC.out.2.2.2.1]; simp))
  rw [HCC.out.1] at HFP
  rw [HCC.out.1, HCC.out.2.2.2.1, Nat.sub_self, show ((0 : Nat) : Int) = 0 from rfl, show ((9 : Nat) : Int) = 9 from rfl] at HLG
  clear hch b2 hO HN H1
  go_wp2_with fail
  refine (HFP.out wn (Below.refl _ _)).mono ?_
  rintro x w5 ⟨rfl, b5⟩
  have H5 := Lib.hid b5
  clear b5
  go_wp2_with fail
  refine (HLG.out w5 H5.out).mono ?_
  rintro x w6 ⟨va, rfl, hown, b6⟩
  have H6 := Lib.hid (H5.out.trans (b6.mono H5.out.size))
  have hlg : logG ([[]].drop 0) 0 9 = (([] : List NtV), 0, 0) := rfl
  rw [hlg] at hown ⊢
  obtain ⟨vA, vc, rfl, -⟩ := Kq.Elt.own_at (E := ntE) hown
  rw [show (h + ((([] : List NtV), 0, 0) : List NtV × Nat × Nat).2.1) = h from rfl, show (((([] : List NtV), 0, 0) : List NtV × Nat × Nat).2.2 : Int) = 0 from rfl, show (((([] : List NtV), 0, 0) : List NtV × Nat × Nat).1.length) = 0 from rfl]
  clear hown b6 hlg HLG
  obtain ⟨w7, hw7⟩ : ∃ z, z = w6.alloc (.cells #[.int .u64 (h : Int), .int .i64 0] 30) := ⟨_, rfl⟩
  obtain ⟨E, hE⟩ : ∃ E, E = w6.heap.size := ⟨_, rfl⟩
  have H7 : Hid (Mk W wn O B E h c w7) := Lib.hid (by
    have hb := Kq.below_alloc w6 (.cells #[.int .u64 (h : Int), .int .i64 0] 30)
    rw [hw7, hE]
    exact ⟨H2.out.1, Kq.blk_new _ _ _ _, H6.out.trans (hb.mono H6.out.size), H2.out.2⟩)
  go_wp2
  rw [← hw7, ← hE]
  clear hw7 hE H6 H5 H2
  have HES : Hid (∀ z, Mk W wn O B E h c z → (z.cell? ⟨E, 0, none⟩ = some (.int .u64 (h : Int)) ∧ z.cell? ⟨E, 1, none⟩ = some (.int .i64 0))) := Lib.hid (fun z m => ⟨Kq.blk_cell m.en 0, Kq.blk_cell m.en 1⟩)
  refine wp_region_held_drew (S := fun w' => w'.cell? ⟨E, 0, none⟩ = some (.int .u64 (h : Int)) ∧ w'.cell? ⟨E, 1, none⟩ = some (.int .i64 0)) (by kernel_rfl) (HES.out _ (H7.out.below (Below.refl _ _).drew)) (fun hS0 => ?_)
  have H8 : Hid (Mk W wn O B E h c w7.drew) := Lib.hid (H7.out.below (Below.refl _ _).drew)
  generalize w7.drew = z0 at *
  clear H7
  have q1 : ((h : Int) == (h : Int)) = true := beq_self_eq_true _
  have q2 : ((s : Int) == (s : Int)) = true := beq_self_eq_true _
  refine wpAnyH_take (i := 0) (v := ?_) rfl (by kernel_rfl) (by kernel_rfl) (by kernel_rfl) (fun _ _ _ h => h) (Or.inl ⟨by kernel_rfl, ?_⟩) (by assumption) ?_
  rotate_left
  · intro w hSw; (try dsimp only at hSw); go_simp; (try with_reducible rfl)
  refine wpAnyH_take (i := 2) (v := ?_) rfl (by kernel_rfl) (by kernel_rfl) (by kernel_rfl) (fun _ _ _ h => h) (Or.inl ⟨by kernel_rfl, ?_⟩) (by assumption) ?_
  rotate_left
  · intro w hSw; (try dsimp only at hSw); go_simp; (try with_reducible rfl)
  refine wpAnyH_ready (rs := [1]) (by kernel_rfl) (by simp) ?_
  refine AllReadyH.cons rfl (fun K hK => ?_) AllReadyH.nil
  go_simp
  have HH := cn_height H8.out.cur
  rw [HCC.out.2.1] at HH
  refine HH.mono ?_
  rintro x z0 ⟨rfl, rfl⟩
  clear hS0 HH
  refine hK.out _ _ (HES.out _ H8.out) (fun hS0 => ?_)
  clear hK K
  refine wpAnyH_take (i := 3) (v := ?_) rfl (by kernel_rfl) (by kernel_rfl) (by kernel_rfl) (fun _ _ _ h => h) (Or.inl ⟨by kernel_rfl, ?_⟩) (by assumption) ?_
  rotate_left
  · intro w hSw; (try dsimp only at hSw); go_simp; (try with_reducible rfl)
  refine wpAnyH_take (i := 4) (v := ?_) rfl (by kernel_rfl) (by kernel_rfl) (by kernel_rfl) (fun _ _ _ h => h) (Or.inl ⟨by kernel_rfl, ?_⟩) (by assumption) ?_
  rotate_left
  · intro w hSw; (try dsimp only at hSw); go_simp; (try with_reducible rfl)
  refine wpAnyH_take (i := 5) (v := ?_) rfl (by kernel_rfl) (by kernel_rfl) (by kernel_rfl) (fun _ _ _ h => h) (Or.inl ⟨by kernel_rfl, ?_⟩) (by assumption) ?_
  rotate_left
  · intro w hSw; (try dsimp only at hSw); go_simp; (try with_reducible rfl)
  refine wpAnyH_take (i := 7) (v := ?_) rfl (by kernel_rfl) (by kernel_rfl) (by kernel_rfl) (fun _ _ _ h => h) (Or.inl ⟨by kernel_rfl, ?_⟩) (by assumption) ?_
  rotate_left
  · intro w hSw; (try dsimp only at hSw); go_simp; (try with_reducible rfl)
  refine wpAnyH_ready (rs := [6]) (by kernel_rfl) (by simp) ?_
  refine AllReadyH.cons rfl (fun K hK => ?_) AllReadyH.nil
  go_simp
  have HH := cn_next H8.out.cur
  rw [HCC.out.2.2.1] at HH
  refine HH.mono ?_
  rintro x z0 ⟨rfl, rfl⟩
  clear hS0 HH
  refine hK.out _ _ (HES.out _ H8.out) (fun hS0 => ?_)
  clear hK K
  refine wpAnyH_take (i := 8) (v := ?_) rfl (by kernel_rfl) (by kernel_rfl) (by kernel_rfl) (fun _ _ _ h => h) (Or.inl ⟨by kernel_rfl, ?_⟩) (by assumption) ?_
  rotate_left
  · intro w hSw; (try dsimp only at hSw); go_simp; (try with_reducible rfl)
  refine wpAnyH_take (i := 9) (v := ?_) rfl (by kernel_rfl) (by kernel_rfl) (by kernel_rfl) (fun _ _ _ h => h) (Or.inl ⟨by kernel_rfl, ?_⟩) (by assumption) ?_
  rotate_left
  · intro w hSw; (try dsimp only at hSw); go_simp; (try with_reducible rfl)
  refine wpAnyH_take (i := 10) (v := ?_) rfl (by kernel_rfl) (by kernel_rfl) (by kernel_rfl) (fun _ _ _ h => h) (Or.inl ⟨by kernel_rfl, ?_⟩) (by assumption) ?_
  rotate_left
  · intro w hSw; (try dsimp only at hSw); go_simp; (try with_reducible rfl)
  refine wpAnyH_take (i := 11) (v := ?_) rfl (by kernel_rfl) (by kernel_rfl) (by kernel_rfl) (fun _ _ _ h => h) (Or.inl ⟨by kernel_rfl, ?_⟩) (by assumption) ?_
  rotate_left
  · intro w hSw; (try dsimp only at hSw); go_simp; (try with_reducible rfl)
  refine wpAnyH_ready (rs := [12]) (by kernel_rfl) (by simp) ?_
  refine AllReadyH.cons rfl (fun K hK => ?_) AllReadyH.nil
  go_simp
  refine (cn_map H8.out.cur HK.out.ok HM.out).mono ?_
  rintro x z1 ⟨v, rfl, ⟨mA, mc, rfl, -⟩, b1⟩
  have H9 : Hid (Mk W wn O B E h c z1) := Lib.hid (H8.out.below b1)
  rw [HCC.out.2.2.2.2.2, show ([] : List PairV).length = 0 from rfl]
  clear hS0 b1 H8
  refine hK.out _ _ (HES.out _ H9.out) (fun hS0 => ?_)
  clear hK K
  refine wpAnyH_take (i := 13) (v := ?_) rfl (by kernel_rfl) (by kernel_rfl) (by kernel_rfl) (fun _ _ _ h => h) (Or.inl ⟨by kernel_rfl, ?_⟩) (by assumption) ?_
  rotate_left
  · intro w hSw; (try dsimp only at hSw); go_simp; (try with_reducible rfl)
  refine wpAnyH_take (i := 14) (v := ?_) rfl (by kernel_rfl) (by kernel_rfl) (by kernel_rfl) (fun _ _ _ h => h) (Or.inl ⟨by kernel_rfl, ?_⟩) (by assumption) ?_
  rotate_left
  · intro w hSw; (try dsimp only at hSw); go_simp; (try with_reducible rfl)
  refine wpAnyH_take (i := 15) (v := ?_) rfl (by kernel_rfl) (by kernel_rfl) (by kernel_rfl) (fun _ _ _ h => h) (Or.inl ⟨by kernel_rfl, ?_⟩) (by assumption) ?_
  rotate_left
  · intro w hSw; (try dsimp only at hSw); go_simp; (try with_reducible rfl)
  refine wpAnyH_take (i := 16) (v := ?_) rfl (by kernel_rfl) (by kernel_rfl) (by kernel_rfl) (fun _ _ _ h => h) (Or.inl ⟨by kernel_rfl, ?_⟩) (by assumption) ?_
  rotate_left
  · intro w hSw; (try dsimp only at hSw); go_simp; (try with_reducible rfl)
  refine wpAnyH_take (i := 17) (v := ?_) rfl (by kernel_rfl) (by kernel_rfl) (by kernel_rfl) (fun _ _ _ h => h) (Or.inl ⟨by kernel_rfl, ?_⟩) (by assumption) ?_
  rotate_left
  · intro w hSw; (try dsimp only at hSw); go_simp; (try with_reducible rfl)
  refine wpAnyH_ready (rs := [18]) (by kernel_rfl) (by simp) ?_
  refine AllReadyH.cons rfl (fun K hK => ?_) AllReadyH.nil
  go_simp
  refine (cn_known H9.out.cur HK.out.ok).mono ?_
  rintro x z2 ⟨v', rfl, hkn, b2⟩
  have H10 : Hid (Mk W wn O B E h c z2) := Lib.hid (H9.out.below b2)
  rw [HCC.out.2.2.2.2.1, show ([] : List Nat).length = 0 from rfl] at hkn
  obtain ⟨kA, kc, rfl⟩ : ∃ kA kc, v' = .slice kA 0 kc := by
    rcases hkn.2 with ⟨e, _⟩ | ⟨g, cp, cur, e, _⟩
    · exact ⟨_, _, e⟩
    · exact ⟨_, _, e⟩
  clear hS0 b2 H9 hkn
  refine hK.out _ _ (HES.out _ H10.out) (fun hS0 => ?_)
  clear hK K
  refine wpAnyH_take (i := 19) (v := ?_) rfl (by kernel_rfl) (by kernel_rfl) (by kernel_rfl) (fun _ _ _ h => h) (Or.inl ⟨by kernel_rfl, ?_⟩) (by assumption) ?_
  rotate_left
  · intro w hSw; (try dsimp only at hSw); go_simp; (try with_reducible rfl)
  refine wpAnyH_take (i := 20) (v := ?_) rfl (by kernel_rfl) (by kernel_rfl) (by kernel_rfl) (fun _ _ _ h => h) (Or.inl ⟨by kernel_rfl, ?_⟩) (by assumption) ?_
  rotate_left
  · intro w hSw; (try dsimp only at hSw); go_simp; (try with_reducible rfl)
  refine wpAnyH_take (i := 21) (v := ?_) rfl (by kernel_rfl) (by kernel_rfl) (by kernel_rfl) (fun _ _ _ h => h) (Or.inl ⟨by kernel_rfl, ?_⟩) (by assumption) ?_
  rotate_left
  · intro w hSw; (try dsimp only at hSw); go_simp; (try with_reducible rfl)
  refine wpAnyH_take (i := 22) (v := ?_) rfl (by kernel_rfl) (by kernel_rfl) (by kernel_rfl) (fun _ _ _ h => h) (Or.inl ⟨by kernel_rfl, ?_⟩) (by assumption) ?_
  rotate_left
  · intro w hSw; (try dsimp only at hSw); go_simp; (try with_reducible rfl)
  refine wpAnyH_take (i := 23) (v := ?_) rfl (by kernel_rfl) (by kernel_rfl) (by kernel_rfl) (fun _ _ _ h => h) (Or.inl ⟨by kernel_rfl, ?_⟩) (by assumption) ?_
  rotate_left
  · intro w hSw; (try dsimp only at hSw); go_simp; (try with_reducible rfl)
  refine wpAnyH_take (i := 24) (v := ?_) rfl (by kernel_rfl) (by kernel_rfl) (by kernel_rfl) (fun _ _ _ h => h) (Or.inl ⟨by kernel_rfl, ?_⟩) (by assumption) ?_
  rotate_left
  · intro w hSw; (try dsimp only at hSw); go_simp; (try with_reducible rfl)
  refine wpAnyH_take (i := 25) (v := ?_) rfl (by kernel_rfl) (by kernel_rfl) (by kernel_rfl) (fun _ _ _ h => h) (Or.inl ⟨by kernel_rfl, ?_⟩) (by assumption) ?_
  rotate_left
  · intro w hSw; (try dsimp only at hSw); go_simp; (try with_reducible rfl)
  refine wpAnyH_take (i := 26) (v := ?_) rfl (by kernel_rfl) (by kernel_rfl) (by kernel_rfl) (fun _ _ _ h => h) (Or.inl ⟨by kernel_rfl, ?_⟩) (by assumption) ?_
  rotate_left
  · intro w hSw; (try dsimp only at hSw); go_simp; (try with_reducible rfl)
  refine wpAnyH_take (i := 27) (v := ?_) rfl (by kernel_rfl) (by kernel_rfl) (by kernel_rfl) (fun _ _ _ h => h) (Or.inl ⟨by kernel_rfl, ?_⟩) (by assumption) ?_
  rotate_left
  · intro w hSw; (try dsimp only at hSw); go_simp; (try with_reducible rfl)
  refine wpAnyH_take (i := 28) (v := ?_) rfl (by kernel_rfl) (by kernel_rfl) (by kernel_rfl) (fun _ _ _ h => h) (Or.inl ⟨by kernel_rfl, ?_⟩) (by assumption) ?_
  rotate_left
  · intro w hSw; (try dsimp only at hSw); go_simp; (try with_reducible rfl)
  refine wpAnyH_take (i := 29) (v := ?_) rfl (by kernel_rfl) (by kernel_rfl) (by kernel_rfl) (fun _ _ _ h => h) (Or.inl ⟨by kernel_rfl, ?_⟩) (by assumption) ?_
  rotate_left
  · intro w hSw; (try dsimp only at hSw); go_simp; (try with_reducible rfl)
  refine wpAnyH_ready (rs := [30]) (by kernel_rfl) (by simp) ?_
  refine AllReadyH.cons rfl (fun K hK => ?_) AllReadyH.nil
  go_simp
  have HH := cn_firstp H10.out.cur
  rw [HCC.out.1] at HH
  refine HH.mono ?_
  rintro x z3 ⟨rfl, b3⟩
  have H11 : Hid (Mk W wn O B E h c z3) := Lib.hid (H10.out.below b3)
  clear hS0 b3 H10 HH
  refine hK.out _ _ (HES.out _ H11.out) (fun hS0 => ?_)
  clear hK K
  refine wpAnyH_take (i := 31) (v := ?_) rfl (by kernel_rfl) (by kernel_rfl) (by kernel_rfl) (fun _ _ _ h => h) (Or.inl ⟨by kernel_rfl, ?_⟩) (by assumption) ?_
  rotate_left
  · intro w hSw; (try dsimp only at hSw); go_simp; (try with_reducible rfl)
  refine wpAnyH_take (i := 32) (v := ?_) rfl (by kernel_rfl) (by kernel_rfl) (by kernel_rfl) (fun _ _ _ h => h) (Or.inl ⟨by kernel_rfl, ?_⟩) (by assumption) ?_
  rotate_left
  · intro w hSw; (try dsimp only at hSw); go_simp; (try with_reducible rfl)
  refine wpAnyH_take (i := 33) (v := ?_) rfl (by kernel_rfl) (by kernel_rfl) (by kernel_rfl) (fun _ _ _ h => h) (Or.inl ⟨by kernel_rfl, ?_⟩) (by assumption) ?_
  rotate_left
  · intro w hSw; (try dsimp only at hSw); go_simp; (try with_reducible rfl)
  refine wpAnyH_take (i := 34) (v := ?_) rfl (by kernel_rfl) (by kernel_rfl) (by kernel_rfl) (fun _ _ _ h => h) (Or.inl ⟨by kernel_rfl, ?_⟩) (by assumption) ?_
  rotate_left
  · intro w hSw; (try dsimp only at hSw); go_simp; (try with_reducible rfl)
  refine wpAnyH_take (i := 35) (v := ?_) rfl (by kernel_rfl) (by kernel_rfl) (by kernel_rfl) (fun _ _ _ h => h) (Or.inl ⟨by kernel_rfl, ?_⟩) (by assumption) ?_
  rotate_left
  · intro w hSw; (try dsimp only at hSw); go_simp; (try with_reducible rfl)
  refine wpAnyH_take (i := 36) (v := ?_) rfl (by kernel_rfl) (by kernel_rfl) (by kernel_rfl) (fun _ _ _ h => h) (Or.inl ⟨by kernel_rfl, ?_⟩) (by assumption) ?_
  rotate_left
  · intro w hSw; (try dsimp only at hSw); go_simp; (try with_reducible rfl)
  refine wpAnyH_take (i := 37) (v := ?_) rfl (by kernel_rfl) (by kernel_rfl) (by kernel_rfl) (fun _ _ _ h => h) (Or.inl ⟨by kernel_rfl, ?_⟩) (by assumption) ?_
  rotate_left
  · intro w hSw; (try dsimp only at hSw); go_simp; (try with_reducible rfl)
  refine wpAnyH_take (i := 38) (v := ?_) rfl (by kernel_rfl) (by kernel_rfl) (by kernel_rfl) (fun _ _ _ h => h) (Or.inl ⟨by kernel_rfl, ?_⟩) (by assumption) ?_
  rotate_left
  · intro w hSw; (try dsimp only at hSw); go_simp; (try with_reducible rfl)
  refine wpAnyH_take (i := 39) (v := ?_) rfl (by kernel_rfl) (by kernel_rfl) (by kernel_rfl) (fun _ _ _ h => h) (Or.inl ⟨by kernel_rfl, ?_⟩) (by assumption) ?_
  rotate_left
  · intro w hSw; (try dsimp only at hSw); go_simp; (try with_reducible rfl)
  refine wpAnyH_done (by kernel_rfl) ?_ _
  go_simp
  clear hS0
  have HB := Lib.hid (H11.out.bw.trans (H11.out.bel.mono H11.out.bw.size))
  go_wp2
  go_ret
  exact ⟨rfl, HB.out⟩
end chainMade
theorem chainMade_walk (a0 a1 a2 : Int) (k0 : (Lit.int .i64 a0).wf = true) (k1 : (Lit.int .u64 a1).wf = true) (k2 : (Lit.int .u64 a2).wf = true) (w : World) (hL : LaidOk w) :
    Calls Tryz.prog 3 #[.int .i64 a0, .int .u64 a1, .int .u64 a2] w fun x w' => x = .returned (.bool true) ∧ Below w.heap.size w w' := by
  by_cases hb : a0 < 0 ∨ 1 < a0 ∨ a2 = 0
  · exact chainMade.bad a0 a1 a2 w hL hb
  · obtain ⟨h, rfl, hh⟩ : ∃ h : Nat, a1 = (h : Int) ∧ h < 18446744073709551616 := by
      simp [Lit.wf, IntKind.min, IntKind.max, IntKind.signed, IntKind.bits] at k1
      exact ⟨a1.toNat, by omega, by omega⟩
    obtain ⟨s, rfl, hs⟩ : ∃ h : Nat, a2 = (h : Int) ∧ h < 18446744073709551616 := by
      simp [Lit.wf, IntKind.min, IntKind.max, IntKind.signed, IntKind.bits] at k2
      exact ⟨a2.toNat, by omega, by omega⟩
    obtain ⟨i, rfl, hi⟩ : ∃ i : Nat, a0 = (i : Int) ∧ i ≤ 1 := ⟨a0.toNat, by omega, by omega⟩
    exact chainMade.good i h s w hL hi (by omega) hs hh
end Go.Proofs.YtbjchfcoacmaaaaGreatDoor
