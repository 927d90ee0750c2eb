/- Merged: ShPrim, ShPrim2, ShConst. Contracts of carrackref01's primes, at 64, and Constants. No condition. Contract of carrackref01.primes, at 64. No condition. Contracts of carrackref01.Constants and New. No condition. -/
import Derived.Test.YtbjchfcoacmaaaaGreatDoorAppViewQ
import Derived.Test.YtbjchfcoacmaaaaGreatDoorShNums4Q
import Derived.Test.YtbjchfcoacmaaaaGreatDoorShMixQ
namespace Go.Proofs.YtbjchfcoacmaaaaGreatDoor
open Go.RowKit
set_option linter.unusedVariables false
theorem primesN_le (k j : Nat) : (Sh.primesN k).length ≤ (Sh.primesN (k + j)).length := by
  induction j with
  | zero => exact Nat.le_refl _
  | succ j ih =>
    rw [show k + (j + 1) = (k + j) + 1 by omega, Sh.primesN]
    split
    · rw [List.length_append]; omega
    · exact ih
theorem primes64_len : (Sh.primesN 310).length = 64 := by rw [Sh.primes_all]; rfl
theorem primesN_max (k : Nat) (h : (Sh.primesN k).length < 64) : k < 310 := by
  rcases Nat.lt_or_ge k 310 with h1 | h1
  · exact h1
  · have := primesN_le 310 (k - 310)
    rw [show 310 + (k - 310) = k by omega, primes64_len] at this
    omega
theorem primesN_mem : ∀ (k : Nat), ∀ p ∈ Sh.primesN k, 2 ≤ p ∧ p < k + 2
  | 0, p, h => by cases h
  | k + 1, p, h => by
    rw [Sh.primesN] at h
    split at h
    · rcases List.mem_append.1 h with h | h
      · have := primesN_mem k p h; omega
      · rw [List.mem_singleton.1 h]; omega
    · have := primesN_mem k p h; omega
/-- the list stops growing at 64 only where it has its 64th -/
theorem primesN_stop (k : Nat) (h : (Sh.primesN k).length < 64) (h2 : ¬ (Sh.primesN (k + 1)).length < 64) : k + 1 = 310 := by
  have h3 := primesN_max k h
  rcases Nat.lt_or_ge (k + 1) 310 with h1 | h1
  · exfalso
    have h4 : (Sh.primesN 309).length = 63 := by
      have e := primes64_len
      have e2 : (Sh.primesN 310).length = (if (Sh.primesN 309).all (fun p => (309 + 2) % p != 0) then Sh.primesN 309 ++ [309 + 2] else Sh.primesN 309).length := by rw [show (310 : Nat) = 309 + 1 from rfl, Sh.primesN]
      rw [e2] at e
      split at e
      · rw [List.length_append, List.length_singleton] at e; omega
      · rename_i hn
        exfalso
        have hp : Sh.primesN 309 = Sh.primes64 := by
          have := Sh.primes_all
          rw [show (310 : Nat) = 309 + 1 from rfl, Sh.primesN, if_neg hn] at this
          exact this
        have := (primesN_mem 309 311 (by rw [hp]; decide)).2
        omega
    have := primesN_le (k + 1) (309 - (k + 1))
    rw [show k + 1 + (309 - (k + 1)) = 309 by omega] at this
    omega
  · omega
theorem src_u64 (w : World) (x : Nat) : Src Tryz.prog 1 37 (.slice (some ⟨w.heap.size, 0, none⟩) 1 1) 1 (dcl [x]) (w.alloc (.cells #[.int .u64 (x : Int)] 22)) := by
  refine Src.ofSlice _ Tryz.underlying37 ⟨w.heap.size, 0, none⟩ 1 1 (dcl [x]) (by simp [dcl]) (fun j u hj => Kq.cell_new _ _ _ (by
    rw [← List.getElem?_toArray] at hj
    exact hj)) (fun u hu => by
    simp only [dcl, List.map_cons, List.map_nil, List.mem_singleton] at hu
    rw [hu]; rfl)
theorem row_u64 {w : World} {base : Nat} {v : Value} {n : Nat} {l : List Nat} (h : w.ownsRow base 22 1 v n (dcl l)) (hn : n = l.length) (h0 : 0 < n) :
    ∃ G c, v = .slice (some ⟨G, 0, none⟩) n c ∧ base ≤ G ∧ G < w.heap.size ∧ ∀ i, i < l.length → w.cell? ⟨G, i, none⟩ = some (.int .u64 ((l.getD i 0 : Nat) : Int)) := by
  rcases h.2 with ⟨_, e⟩ | ⟨g, cap, cur, rfl, hb, hg, h1, h2, h3, h4⟩
  · omega
  · refine ⟨g, cap, rfl, hb, Kq.blk_lt hg, fun i hi => ?_⟩
    rw [Kq.blk_cell hg i, ← Array.getElem?_toList, ← dcl_at l i hi, List.getElem?_toArray, ← h4, List.getElem?_take, if_pos (by omega)]
end Go.Proofs.YtbjchfcoacmaaaaGreatDoor
namespace Go.Proofs.YtbjchfcoacmaaaaGreatDoor
open Go.RowKit
set_option linter.unusedVariables false
def okAll (L : List Nat) (x i : Nat) : Bool := (L.take i).all (fun p => x % p != 0)
theorem okAll_succ (L : List Nat) (x i : Nat) (h : i < L.length) : okAll L x (i + 1) = (okAll L x i && (x % L.getD i 0 != 0)) := by
  unfold okAll
  rw [List.take_succ_eq_append_getElem h, List.all_append]
  simp [h]
theorem primesN_next (k : Nat) : Sh.primesN (k + 1) = if okAll (Sh.primesN k) (k + 2) (Sh.primesN k).length then Sh.primesN k ++ [k + 2] else Sh.primesN k := by
  rw [okAll, List.take_length, Sh.primesN]
theorem mod_cast0 (x p : Nat) : (x : Int) % (p : Int) = ((x % p : Nat) : Int) := by norm_cast
structure PrI (w : World) (k n : Nat) (v : Value) (wr : World) : Prop where
  len : n = (Sh.primesN k).length
  own : wr.ownsRow w.heap.size 22 1 v n (dcl (Sh.primesN k))
  bel : Below w.heap.size w wr
def PrPost (w : World) (e : Ending) (w' : World) : Prop := ∃ G c, e = .returned (.slice (some ⟨G, 0, none⟩) 64 c) ∧ w.heap.size ≤ G ∧ G < w'.heap.size ∧ (∀ i, i < 64 → w'.cell? ⟨G, i, none⟩ = some (.int .u64 ((Sh.primes64.getD i 0 : Nat) : Int))) ∧ Below w.heap.size w w'
set_option maxRecDepth 100000 in
set_option maxHeartbeats 2000000 in
theorem r_primes (w : World) : Calls Tryz.prog 126 #[.int .i64 64] w (PrPost w) := by
  obtain ⟨i0, hi, hz0, hz1, hz2⟩ := info_partsH infoU64H
  go_enter Tryz.func126, Tryz.ntmps126
  go_wp2
  go_loopw [3, 4] (fun o q wr => ∃ k n a c, o = .slice a n c ∧ q = .int .u64 ((k + 2 : Nat) : Int) ∧ k ≤ 310 ∧ n ≤ 64 ∧ (n = 64 → k = 310) ∧ PrI w k n (.slice a n c) wr) (fun _ q _ => 400 - (intOf q).toNat)
  case atStart => exact ⟨0, 0, none, 0, rfl, rfl, by omega, by omega, (by omega), rfl, World.ownsRow_nil _ _ _ _, Below.refl _ _⟩
  case round =>
    obtain ⟨k, n, a, c, rfl, rfl, hk, hn, hn64, hI⟩ := hrel
    have HI := Lib.hid hI
    have HK := Lib.hid (And.intro hk (And.intro hn hn64))
    clear hI hn64
    by_cases hlt : n < 64
    · have d0 : (n : Int) < 64 := by omega
      have hk310 : k < 310 := primesN_max k (by rw [← HI.out.len]; exact hlt)
      have HNX := Lib.hid (primesN_next k)
      have HMEM := Lib.hid (primesN_mem k)
      have hcell : ∀ i, i < n → ∃ G o, a = some ⟨G, o, none⟩ ∧ wr.cell? ⟨G, o + i, none⟩ = some (.int .u64 (((Sh.primesN k).getD i 0 : Nat) : Int)) := fun i hi => by
        obtain ⟨G, c', hv, _, _, hc⟩ := row_u64 HI.out.own HI.out.len (by omega)
        cases hv
        exact ⟨G, 0, rfl, by rw [Nat.zero_add]; exact hc i (by rw [← HI.out.len]; exact hi)⟩
      have HC := Lib.hid hcell
      clear hcell
      obtain ⟨L, hL⟩ : ∃ L, L = Sh.primesN k := ⟨_, rfl⟩
      rw [← hL] at HNX HMEM HC
      have HLE := Lib.hid hL
      have HLN : Hid (n = L.length) := Lib.hid (by rw [hL]; exact HI.out.len)
      rw [← HLN.out] at HNX
      clear hL
      obtain ⟨x, hx⟩ : ∃ x, x = k + 2 := ⟨_, rfl⟩
      have HX := Lib.hid hx
      rw [← hx] at HNX ⊢
      have hx4 : x < 400 := by omega
      clear hx hk310
      go_wp2
      go_loopw [5, 6] (fun o j wq => ∃ i : Nat, i ≤ n ∧ j = .int .i64 (i : Int) ∧ o = .bool (okAll L x i) ∧ wq = wr) (fun _ j _ => n - (intOf j).toNat)
      case atStart => exact ⟨0, Nat.zero_le _, rfl, rfl, rfl⟩
      case round =>
        obtain ⟨i, hi2, rfl, rfl, rfl⟩ := hrel
        by_cases hl2 : i < n
        · have d1 : (i : Int) < (n : Int) := by omega
          obtain ⟨G, o, rfl, hc⟩ := HC.out i hl2
          have hsu := okAll_succ L x i (by rw [← HLN.out]; exact hl2)
          have hp : 2 ≤ L.getD i 0 := (HMEM.out _ (by
            rw [List.getD_eq_getElem?_getD, List.getElem?_eq_getElem (by rw [← HLN.out]; exact hl2)]
            exact List.getElem_mem _)).1
          generalize L.getD i 0 = p at *
          have p0 : ¬ (p : Int) = 0 := by omega
          have p1 : ¬ p = 0 := by omega
          by_cases hz : x % p = 0
          · have HS : Hid (okAll L x (i + 1) = false) := Lib.hid (by rw [hsu, hz]; simp)
            have e1 : (x : Int) % (p : Int) = 0 := by rw [mod_cast0, hz]; rfl
            clear hsu
            go_wp2
            go_roundw
            case rel => exact ⟨i + 1, by omega, by go_num, by rw [HS.out], trivial⟩
            case measure => simp [intOf]; omega
          · have HS : Hid (okAll L x (i + 1) = okAll L x i) := Lib.hid (by rw [hsu]; simp [hz])
            have e1 : ¬ (x : Int) % (p : Int) = 0 := fun e => hz (by rw [mod_cast0] at e; omega)
            clear hsu
            go_wp2
            go_roundw
            case rel => exact ⟨i + 1, by omega, by go_num, by rw [HS.out], trivial⟩
            case measure => simp [intOf]; omega
        · have hin : i = n := by omega
          rw [hin]
          have HR : Hid (Sh.primesN (k + 1) = if okAll L x n = true then L ++ [x] else L) := Lib.hid HNX.out
          have hxk : x + 1 = k + 1 + 2 := by have := HX.out; omega
          have HXK := Lib.hid hxk
          have d1 : ¬ (i : Int) < (n : Int) := by omega
          clear hxk hin
          cases hok : okAll L x n with
          | false =>
            have HN : Hid (Sh.primesN (k + 1) = L) := Lib.hid (by rw [HR.out, hok]; rfl)
            have HP : Hid (PrI w (k + 1) n (.slice a n c) wr) := Lib.hid ⟨by rw [HN.out]; exact HLN.out, by rw [HN.out, HLE.out]; exact HI.out.own, HI.out.bel⟩
            go_wp2
            go_roundw
            case rel => exact ⟨k + 1, n, a, c, rfl, by rw [← HXK.out]; go_num, by have := HX.out; have := primesN_max k (by rw [← HI.out.len]; exact hlt); omega, by omega, (by omega), HP.out⟩
            case measure => simp [intOf]; omega
          | true =>
            have HN : Hid (Sh.primesN (k + 1) = L ++ [x]) := Lib.hid (by rw [HR.out, hok]; rfl)
            go_wp2_with (at_builtin; refine Kq.wpList_append_any _ rfl (.tmp 27) (.tmp 29) 37 37 rfl w.heap.size 22 i0 (.int .u64 0) 1 8 Tryz.underlying37 hi hz0 hz1 hz2 rfl (by decide) _ n (dcl (Sh.primesN k)) rfl (HI.out.own.alloc _) (.slice (some ⟨wr.heap.size, 0, none⟩) 1 1) 1 (dcl [x]) rfl ?hs ?h1 ?h2 ?h3 ?_)
            case hs => exact src_u64 wr x
            case h1 => unfold maxLen; omega
            case h2 => omega
            case h3 => have := HI.out.bel.size; simp; omega
            intro v' w' hown hgrow hfresh
            obtain ⟨a', n', c', hv⟩ := Kq.own_shape hown
            have hn' : n' = n + 1 := by
              rcases hown.2 with ⟨rfl, h0⟩ | ⟨g, cap, cur, rfl, _⟩
              · omega
              · cases hv; rfl
            subst hv hn'
            have HP : Hid (PrI w (k + 1) (n + 1) (.slice a' (n + 1) c') w') := Lib.hid (by
              refine ⟨by rw [HN.out, List.length_append, List.length_singleton, ← HLN.out], ?_, ?_⟩
              · rw [HN.out]
                have e : dcl (L ++ [x]) = dcl L ++ dcl [x] := by simp [dcl]
                rw [e, HLE.out]
                exact hown
              · have hbq := HI.out.bel.trans ((Kq.below_alloc wr (.cells #[.int .u64 (x : Int)] 22)).mono HI.out.bel.size)
                have k1 : Kq.Keeps (fun j => w.heap.size ≤ j) w (wr.alloc (.cells #[.int .u64 (x : Int)] 22)) := Kq.Keeps.of_below hbq (fun j h1 h2 => h1)
                have k2 : Kq.Keeps (fun j => w.heap.size ≤ j) (wr.alloc (.cells #[.int .u64 (x : Int)] 22)) w' := Kq.Keeps.grown hgrow (fun j _ hj => (HI.out.own.lt j hj).1)
                exact (k1.trans k2).below (Nat.le_refl _) (fun j _ hj => hj))
            clear hown hgrow hfresh
            go_wp2
            go_roundw
            case rel => exact ⟨k + 1, n + 1, a', c', rfl, by rw [← HXK.out]; go_num, by have := primesN_max k (by rw [← HI.out.len]; exact hlt); omega, by omega, (fun e => by
              refine primesN_stop k (by rw [← HI.out.len]; exact hlt) ?_
              rw [← HP.out.len]; omega), HP.out⟩
            case measure => simp [intOf]; omega
    · have hn64 : n = 64 := by omega
      have HK310 := Lib.hid (HK.out.2.2 hn64)
      subst hn64
      have HF : Hid (∃ G, a = some ⟨G, 0, none⟩ ∧ w.heap.size ≤ G ∧ G < wr.heap.size ∧ ∀ i, i < 64 → wr.cell? ⟨G, i, none⟩ = some (.int .u64 ((Sh.primes64.getD i 0 : Nat) : Int))) := Lib.hid (by
        obtain ⟨G, c', hv, h1, h2, hc⟩ := row_u64 HI.out.own HI.out.len (by omega)
        cases hv
        refine ⟨G, rfl, h1, h2, fun i hi => ?_⟩
        have := hc i (by rw [← HI.out.len]; exact hi)
        rw [HK310.out, Sh.primes_all] at this
        exact this)
      go_wp2
      go_ret
      obtain ⟨G, rfl, h1, h2, h3⟩ := HF.out
      exact ⟨G, c, rfl, h1, h2, h3, HI.out.bel⟩
end Go.Proofs.YtbjchfcoacmaaaaGreatDoor
namespace Go.Proofs.YtbjchfcoacmaaaaGreatDoor
open Go.RowKit
set_option linter.unusedVariables false
theorem infoU32H : (Tryz.prog.info? 187).map (fun i => (i.zero, i.size, i.bytes)) = some (some (.int .u32 0), 1, 4) := by kernel_rfl
theorem row_keep {w w' : World} {base : Nat} {e : TypeId} {s : Nat} {v : Value} {n : Nat} {xs : List Value} {S : Nat → Prop} (h : w.ownsRow base e s v n xs) (hk : Kq.Keeps S w w') (hs : ∀ k, v.ownBlock = some k → ¬ S k) : w'.ownsRow base e s v n xs := by
  refine ⟨h.1, h.2.imp id ?_⟩
  rintro ⟨g, cap, cur, rfl, h3, h4, h5⟩
  exact ⟨g, cap, cur, rfl, h3, hk.blk h4 (hs g rfl), h5⟩
theorem src_u32 (w : World) (x : Nat) : Src Tryz.prog 1 142 (.slice (some ⟨w.heap.size, 0, none⟩) 1 1) 1 (wcl [x]) (w.alloc (.cells #[.int .u32 (x : Int)] 187)) := by
  refine Src.ofSlice _ Tryz.underlying142 ⟨w.heap.size, 0, none⟩ 1 1 (wcl [x]) (by simp [wcl]) (fun j u hj => Kq.cell_new _ _ _ (by
    rw [← List.getElem?_toArray] at hj
    exact hj)) (fun u hu => by
    simp only [wcl, List.map_cons, List.map_nil, List.mem_singleton] at hu
    rw [hu]; rfl)
theorem row_u32 {w : World} {base : Nat} {v : Value} {n : Nat} {l : List Nat} (h : w.ownsRow base 187 1 v n (wcl l)) (hn : n = l.length) (h0 : 0 < n) :
    ∃ G c, v = .slice (some ⟨G, 0, none⟩) n c ∧ base ≤ G ∧ G < w.heap.size ∧ ∀ i, i < l.length → w.cell? ⟨G, i, none⟩ = some (.int .u32 ((l.getD i 0 : Nat) : Int)) := by
  rcases h.2 with ⟨_, e⟩ | ⟨g, cap, cur, rfl, hb, hg, h1, h2, h3, h4⟩
  · omega
  · refine ⟨g, cap, rfl, hb, Kq.blk_lt hg, fun i hi => ?_⟩
    rw [Kq.blk_cell hg i, ← Array.getElem?_toList, ← wcl_at l i hi, List.getElem?_toArray, ← h4, List.getElem?_take, if_pos (by omega)]
theorem k_at (i : Nat) (h : i < 64) : rootB (Sh.primes64.getD i 0) 2 % Sh.M32 = Sh.K.getD i 0 := by
  have h1 : (Sh.primes64.map Sh.root3)[i]? = Sh.K[i]? := by rw [Sh.k_all]
  have h2 : i < Sh.primes64.length := h
  rw [List.getElem?_map, List.getElem?_eq_getElem h2] at h1
  rw [List.getD_eq_getElem?_getD, List.getElem?_eq_getElem h2, List.getD_eq_getElem?_getD, ← h1]
  rfl
theorem h_at (i : Nat) (h : i < 8) : rootB (Sh.primes64.getD i 0) 1 % Sh.M32 = (toL Sh.H0).getD i 0 := by
  have h1 : ((Sh.primes64.take 8).map Sh.root2)[i]? = (toL Sh.H0)[i]? := by rw [Sh.h_all]; rfl
  have h2 : i < Sh.primes64.length := Nat.lt_trans h (by decide)
  rw [List.getElem?_map, List.getElem?_take, if_pos h, List.getElem?_eq_getElem h2] at h1
  rw [List.getD_eq_getElem?_getD, List.getElem?_eq_getElem h2, List.getD_eq_getElem?_getD, ← h1]
  rfl
theorem take_getD (l : List Nat) (i : Nat) (h : i < l.length) : l.take (i + 1) = l.take i ++ [l.getD i 0] := by
  rw [List.take_succ_eq_append_getElem h]; simp [h]
/-- two rows of words, apart -/
structure CoI (w : World) (base : Nat) (v u : Value) (n m : Nat) (wr : World) : Prop where
  k : wr.ownsRow base 187 1 v n (wcl (Sh.K.take n))
  h : wr.ownsRow base 187 1 u m (wcl ((toL Sh.H0).take m))
  ap : ∀ j, v.ownBlock = some j → u.ownBlock ≠ some j
  bel : Below base w wr
theorem CoI.alloc {w : World} {base : Nat} {v u : Value} {n m : Nat} {wr : World} (h : CoI w base v u n m wr) (hb : base ≤ wr.heap.size) (o : Obj) : CoI w base v u n m (wr.alloc o) :=
  ⟨h.k.alloc _, h.h.alloc _, h.ap, h.bel.trans ((Kq.below_alloc wr o).mono hb)⟩
theorem CoI.below {w : World} {base : Nat} {v u : Value} {n m : Nat} {wr w' : World} (h : CoI w base v u n m wr) (hs : base ≤ wr.heap.size) (hb : Below wr.heap.size wr w') : CoI w base v u n m w' := by
  have hk : Kq.Keeps (fun _ => False) wr w' := Kq.Keeps.of_below hb (fun k h1 h2 => absurd h1 (Nat.not_le.2 h2))
  exact ⟨row_keep h.k hk (fun _ _ h => h), row_keep h.h hk (fun _ _ h => h), h.ap, h.bel.trans (hb.mono hs)⟩
theorem own_lt {w : World} {base : Nat} {e : TypeId} {s : Nat} {v : Value} {n : Nat} {xs : List Value} (h : w.ownsRow base e s v n xs) {k : Nat} (hk : v.ownBlock = some k) : base ≤ k ∧ k < w.heap.size := h.lt k hk
theorem CoI.putK {w : World} {base : Nat} {v u v' : Value} {n m x : Nat} {wr w' : World} {o : Obj} (h : CoI w base v u n m wr) (hb : base ≤ wr.heap.size) (hn : n < 64) (hx : x = Sh.K.getD n 0)
    (hown : w'.ownsRow base 187 1 v' (n + 1) (wcl (Sh.K.take n) ++ wcl [x])) (hg : (wr.alloc o).grownBy w' v.ownBlock) (hf : ∀ k, v'.ownBlock = some k → some k = v.ownBlock ∨ wr.heap.size + 1 ≤ k) : CoI w base v' u (n + 1) m w' := by
  have h1 := h.alloc hb o
  have hk := Kq.Keeps.grown (S := fun j => some j = v.ownBlock) hg (fun j _ hj => hj.symm)
  refine ⟨?_, row_keep h1.h hk (fun k hu hv => h.ap k hv.symm hu), fun j hj hu => ?_, ?_⟩
  · rw [take_getD Sh.K n hn, ← hx]
    have e : wcl (Sh.K.take n ++ [x]) = wcl (Sh.K.take n) ++ wcl [x] := by simp [wcl]
    rw [e]; exact hown
  · rcases hf j hj with h2 | h2
    · exact h.ap j h2.symm hu
    · have := (own_lt h.h hu).2; omega
  · exact h1.bel.trans (hk.below (by simp; omega) (fun j _ e => (own_lt h.k e.symm).1))
theorem CoI.putH {w : World} {base : Nat} {v u u' : Value} {n m x : Nat} {wr w' : World} {o : Obj} (h : CoI w base v u n m wr) (hb : base ≤ wr.heap.size) (hm : m < 8) (hx : x = (toL Sh.H0).getD m 0)
    (hown : w'.ownsRow base 187 1 u' (m + 1) (wcl ((toL Sh.H0).take m) ++ wcl [x])) (hg : (wr.alloc o).grownBy w' u.ownBlock) (hf : ∀ k, u'.ownBlock = some k → some k = u.ownBlock ∨ wr.heap.size + 1 ≤ k) : CoI w base v u' n (m + 1) w' := by
  have h1 := h.alloc hb o
  have hk := Kq.Keeps.grown (S := fun j => some j = u.ownBlock) hg (fun j _ hj => hj.symm)
  refine ⟨row_keep h1.k hk (fun k hv hu => h.ap k hv hu.symm), ?_, fun j hj hu => ?_, ?_⟩
  · rw [take_getD (toL Sh.H0) m hm, ← hx]
    have e : wcl ((toL Sh.H0).take m ++ [x]) = wcl ((toL Sh.H0).take m) ++ wcl [x] := by simp [wcl]
    rw [e]; exact hown
  · rcases hf j hu with h2 | h2
    · exact h.ap j hj h2.symm
    · have := (own_lt h.k hj).2; omega
  · exact h1.bel.trans (hk.below (by simp; omega) (fun j _ e => (own_lt h.h e.symm).1))
def ConstPost (w : World) (e : Ending) (w' : World) : Prop := ∃ A ca B cb, e = .returned (.tuple #[.slice (some ⟨A, 0, none⟩) 64 ca, .slice (some ⟨B, 0, none⟩) 8 cb]) ∧ w.heap.size ≤ A ∧ A < w'.heap.size ∧ w.heap.size ≤ B ∧ B < w'.heap.size ∧
  (∀ i, i < 64 → w'.cell? ⟨A, i, none⟩ = some (.int .u32 ((Sh.K.getD i 0 : Nat) : Int))) ∧ (∀ i, i < 8 → w'.cell? ⟨B, i, none⟩ = some (.int .u32 (((toL Sh.H0).getD i 0 : Nat) : Int))) ∧ Below w.heap.size w w'
set_option maxRecDepth 100000 in
set_option maxHeartbeats 2000000 in
theorem r_constants (w : World) : Calls Tryz.prog 75 #[] w (ConstPost w) := by
  obtain ⟨i0, hi, hz0, hz1, hz2⟩ := info_partsH infoU32H
  go_enter Tryz.func75, Tryz.ntmps75
  go_wp2_with fail
  refine (r_primes w).mono ?_
  rintro x w1 ⟨G, c, rfl, hG, hG1, hcell, hb1⟩
  have H1 := Lib.hid (And.intro hG (And.intro hG1 (And.intro hcell hb1)))
  clear hG hG1 hcell hb1
  go_wp2
  go_loopw [2, 3, 5] (fun p q i wr => ∃ k m a ca b cb, p = .slice a k ca ∧ q = .slice b m cb ∧ i = .int .i64 (k : Int) ∧ k ≤ 64 ∧ m = min k 8 ∧ CoI w1 w1.heap.size (.slice a k ca) (.slice b m cb) k m wr) (fun _ _ i _ => 64 - (intOf i).toNat)
  case atStart => exact ⟨0, 0, none, 0, none, 0, rfl, rfl, rfl, by omega, rfl, World.ownsRow_nil _ _ _ _, World.ownsRow_nil _ _ _ _, (fun j hj => by cases hj), Below.refl _ _⟩
  case round =>
    obtain ⟨k, m, a, ca, b, cb, rfl, rfl, rfl, hk, hm, hI⟩ := hrel
    have HI := Lib.hid hI
    have HM := Lib.hid hm
    clear hI hm
    by_cases hlt : k < 64
    · have l1 : (k : Int) < 64 := by omega
      have c0 : wr.cell? ⟨G, k, none⟩ = some (.int .u64 ((Sh.primes64.getD k 0 : Nat) : Int)) := (HI.out.bel.cell (p := ⟨G, k, none⟩) H1.out.2.1).trans (H1.out.2.2.1 k hlt)
      have hp : Sh.primes64.getD k 0 < 18446744073709551616 := getD64 _ (by decide) k
      have HKA := Lib.hid (k_at k hlt)
      have HHA : Hid (k < 8 → rootB (Sh.primes64.getD k 0) 1 % Sh.M32 = (toL Sh.H0).getD k 0) := Lib.hid (fun h => h_at k h)
      have KR3 := Lib.hid (fun w => r_root (Sh.primes64.getD k 0) true 2 rfl w hp)
      have KR2 := Lib.hid (fun w => r_root (Sh.primes64.getD k 0) false 1 rfl w hp)
      rw [HKA.out] at KR3
      generalize Sh.primes64.getD k 0 = p at *
      have HC0 := Lib.hid (show ∀ w', Below wr.heap.size wr w' → w'.cell? ⟨G, k, none⟩ = some (.int .u64 (p : Int)) from fun w' hb => (hb.cell (p := ⟨G, k, none⟩) (Nat.lt_of_lt_of_le H1.out.2.1 HI.out.bel.size)).trans c0)
      obtain ⟨x, hx⟩ : ∃ x, x = Sh.K.getD k 0 := ⟨_, rfl⟩
      rw [← hx] at KR3
      have HX := Lib.hid hx
      clear hp hx
      go_wp2_with fail
      refine (KR3.out wr).mono ?_
      rintro e w2 ⟨rfl, hb2⟩
      have HI2 := Lib.hid (HI.out.below HI.out.bel.size hb2)
      have HG2 := Lib.hid (show w2.cell? ⟨G, k, none⟩ = some (.int .u64 (p : Int)) from HC0.out w2 hb2)
      clear hb2 KR3 c0
      go_wp2_with (at_builtin; refine Kq.wpList_append_any _ rfl (.tmp 11) (.tmp 17) 142 142 rfl w1.heap.size 187 i0 (.int .u32 0) 1 4 Tryz.underlying142 hi hz0 hz1 hz2 rfl (by decide) _ k (wcl (Sh.K.take k)) rfl (HI2.out.k.alloc _) (.slice (some ⟨w2.heap.size, 0, none⟩) 1 1) 1 (wcl [x]) rfl ?hs ?h1 ?h2 ?h3 ?_)
      case hs => exact src_u32 w2 x
      case h1 => unfold maxLen; omega
      case h2 => omega
      case h3 => have := HI2.out.bel.size; simp; omega
      intro v' w3 hown hgrow hfresh
      obtain ⟨a', n', c', hv⟩ := Kq.own_shape hown
      have hn' : n' = k + 1 := by
        rcases hown.2 with ⟨rfl, h0⟩ | ⟨g, cap, cur, rfl, _⟩
        · omega
        · cases hv; rfl
      subst hv hn'
      have HI3 := Lib.hid (HI2.out.putK HI2.out.bel.size hlt HX.out hown hgrow hfresh)
      have c3 : w3.cell? ⟨G, k, none⟩ = some (.int .u64 (p : Int)) := by
        have h1 := HI3.out.bel.cell (p := ⟨G, k, none⟩) H1.out.2.1
        have h2 := HI2.out.bel.cell (p := ⟨G, k, none⟩) H1.out.2.1
        rw [h1, ← h2]; exact HG2.out
      clear hown hgrow hfresh
      by_cases h8 : k < 8
      · have hmk : m = k := by have := HM.out; omega
        subst hmk
        have l2 : (m : Int) < 8 := by omega
        have HHX : Hid ((toL Sh.H0).getD m 0 = rootB p 1 % Sh.M32) := Lib.hid (HHA.out h8).symm
        obtain ⟨y, hy⟩ : ∃ y, y = rootB p 1 % Sh.M32 := ⟨_, rfl⟩
        rw [← hy] at KR2 HHX
        clear hy
        go_wp2_with fail
        refine (KR2.out w3).mono ?_
        rintro e w4 ⟨rfl, hb4⟩
        have HI4 := Lib.hid (HI3.out.below HI3.out.bel.size hb4)
        clear hb4 KR2 c3
        go_wp2_with (at_builtin; refine Kq.wpList_append_any _ rfl (.tmp 21) (.tmp 27) 142 142 rfl w1.heap.size 187 i0 (.int .u32 0) 1 4 Tryz.underlying142 hi hz0 hz1 hz2 rfl (by decide) _ m (wcl ((toL Sh.H0).take m)) rfl (HI4.out.h.alloc _) (.slice (some ⟨w4.heap.size, 0, none⟩) 1 1) 1 (wcl [y]) rfl ?hs ?h1 ?h2 ?h3 ?_)
        case hs => exact src_u32 w4 y
        case h1 => unfold maxLen; omega
        case h2 => omega
        case h3 => have := HI4.out.bel.size; simp; omega
        intro v' w5 hown hgrow hfresh
        obtain ⟨a5, n5, c5, hv⟩ := Kq.own_shape hown
        have hn5 : n5 = m + 1 := by
          rcases hown.2 with ⟨rfl, h0⟩ | ⟨g, cap, cur, rfl, _⟩
          · omega
          · cases hv; rfl
        subst hv hn5
        have HI5 := Lib.hid (HI4.out.putH HI4.out.bel.size h8 HHX.out.symm hown hgrow hfresh)
        clear hown hgrow hfresh
        go_wp2
        go_roundw
        case rel => exact ⟨m + 1, m + 1, a', c', a5, c5, rfl, rfl, by go_num, by omega, by omega, HI5.out⟩
        case measure => simp [intOf]; omega
      · have l2 : ¬ (k : Int) < 8 := by omega
        have HM2 : Hid (m = min (k + 1) 8) := Lib.hid (by have := HM.out; omega)
        clear c3 KR2 HHA
        go_wp2
        go_roundw
        case rel => exact ⟨k + 1, m, a', c', b, cb, rfl, rfl, by go_num, by omega, HM2.out, HI3.out⟩
        case measure => simp [intOf]; omega
    · have hk64 : k = 64 := by omega
      have hm8 : m = 8 := by have := HM.out; omega
      subst hk64 hm8
      have HF : Hid (∃ A B, a = some ⟨A, 0, none⟩ ∧ b = some ⟨B, 0, none⟩ ∧ w1.heap.size ≤ A ∧ A < wr.heap.size ∧ w1.heap.size ≤ B ∧ B < wr.heap.size ∧ (∀ i, i < 64 → wr.cell? ⟨A, i, none⟩ = some (.int .u32 ((Sh.K.getD i 0 : Nat) : Int))) ∧ (∀ i, i < 8 → wr.cell? ⟨B, i, none⟩ = some (.int .u32 (((toL Sh.H0).getD i 0 : Nat) : Int)))) := Lib.hid (by
        have hk := HI.out.k
        have hh := HI.out.h
        rw [List.take_of_length_le (by rw [K_length]; exact Nat.le_refl _)] at hk
        rw [List.take_of_length_le (by simp [toL])] at hh
        obtain ⟨A, c', hv, h1, h2, h3⟩ := row_u32 hk (by rw [K_length]) (by omega)
        obtain ⟨B, c'', hv2, h4, h5, h6⟩ := row_u32 hh (by simp [toL]) (by omega)
        cases hv
        cases hv2
        exact ⟨A, B, rfl, rfl, h1, h2, h4, h5, (fun i hi => h3 i (by rw [K_length]; exact hi)), (fun i hi => h6 i (by simpa [toL] using hi))⟩)
      go_wp2
      go_ret2
      obtain ⟨A, B, rfl, rfl, h1, h2, h3, h4, h5, h6⟩ := HF.out
      have hs := H1.out.2.2.2.size
      exact ⟨A, ca, B, cb, rfl, Nat.le_trans hs h1, h2, Nat.le_trans hs h3, h4, h5, h6, H1.out.2.2.2.trans (HI.out.bel.mono hs)⟩
end Go.Proofs.YtbjchfcoacmaaaaGreatDoor
