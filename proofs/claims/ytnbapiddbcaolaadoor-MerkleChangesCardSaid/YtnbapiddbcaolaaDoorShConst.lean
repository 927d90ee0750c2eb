/- Contracts of carrackref01.Constants and New. No condition. -/
import Derived.Test.YtnbapiddbcaolaaDoorShPrim2
import Derived.Test.YtnbapiddbcaolaaDoorShMix
namespace Go.Proofs.YtnbapiddbcaolaaDoor
open Go.RowKit
set_option linter.unusedVariables false
theorem infoU32H : (Tryd.prog.info? 76).map (fun i => (i.zero, i.size, i.bytes)) = some (some (.int .u32 0), 1, 4) := by kernel_rfl
theorem row_keep {w w' : World} {base : Nat} {e : TypeId} {s : Nat} {v : Value} {n : Nat} {xs : List Value} {S : Nat → Prop} (h : w.ownsRow base e s v n xs) (hk : Kq.Keeps S w w') (hs : ∀ k, v.ownBlock = some k → ¬ S k) : w'.ownsRow base e s v n xs := by
  refine ⟨h.1, h.2.imp id ?_⟩
  rintro ⟨g, cap, cur, rfl, h3, h4, h5⟩
  exact ⟨g, cap, cur, rfl, h3, hk.blk h4 (hs g rfl), h5⟩
theorem src_u32 (w : World) (x : Nat) : Src Tryd.prog 1 49 (.slice (some ⟨w.heap.size, 0, none⟩) 1 1) 1 (wcl [x]) (w.alloc (.cells #[.int .u32 (x : Int)] 76)) := by
  refine Src.ofSlice _ Tryd.underlying49 ⟨w.heap.size, 0, none⟩ 1 1 (wcl [x]) (by simp [wcl]) (fun j u hj => Kq.cell_new _ _ _ (by
    rw [← List.getElem?_toArray] at hj
    exact hj)) (fun u hu => by
    simp only [wcl, List.map_cons, List.map_nil, List.mem_singleton] at hu
    rw [hu]; rfl)
theorem row_u32 {w : World} {base : Nat} {v : Value} {n : Nat} {l : List Nat} (h : w.ownsRow base 76 1 v n (wcl l)) (hn : n = l.length) (h0 : 0 < n) :
    ∃ G c, v = .slice (some ⟨G, 0, none⟩) n c ∧ base ≤ G ∧ G < w.heap.size ∧ ∀ i, i < l.length → w.cell? ⟨G, i, none⟩ = some (.int .u32 ((l.getD i 0 : Nat) : Int)) := by
  rcases h.2 with ⟨_, e⟩ | ⟨g, cap, cur, rfl, hb, hg, h1, h2, h3, h4⟩
  · omega
  · refine ⟨g, cap, rfl, hb, Kq.blk_lt hg, fun i hi => ?_⟩
    rw [Kq.blk_cell hg i, ← Array.getElem?_toList, ← wcl_at l i hi, List.getElem?_toArray, ← h4, List.getElem?_take, if_pos (by omega)]
theorem k_at (i : Nat) (h : i < 64) : rootB (Sh.primes64.getD i 0) 2 % Sh.M32 = Sh.K.getD i 0 := by
  have h1 : (Sh.primes64.map Sh.root3)[i]? = Sh.K[i]? := by rw [Sh.k_all]
  have h2 : i < Sh.primes64.length := h
  rw [List.getElem?_map, List.getElem?_eq_getElem h2] at h1
  rw [List.getD_eq_getElem?_getD, List.getElem?_eq_getElem h2, List.getD_eq_getElem?_getD, ← h1]
  rfl
theorem h_at (i : Nat) (h : i < 8) : rootB (Sh.primes64.getD i 0) 1 % Sh.M32 = (toL Sh.H0).getD i 0 := by
  have h1 : ((Sh.primes64.take 8).map Sh.root2)[i]? = (toL Sh.H0)[i]? := by rw [Sh.h_all]; rfl
  have h2 : i < Sh.primes64.length := Nat.lt_trans h (by decide)
  rw [List.getElem?_map, List.getElem?_take, if_pos h, List.getElem?_eq_getElem h2] at h1
  rw [List.getD_eq_getElem?_getD, List.getElem?_eq_getElem h2, List.getD_eq_getElem?_getD, ← h1]
  rfl
theorem take_getD (l : List Nat) (i : Nat) (h : i < l.length) : l.take (i + 1) = l.take i ++ [l.getD i 0] := by
  rw [List.take_succ_eq_append_getElem h]; simp [h]
/-- two rows of words, apart -/
structure CoI (w : World) (base : Nat) (v u : Value) (n m : Nat) (wr : World) : Prop where
  k : wr.ownsRow base 76 1 v n (wcl (Sh.K.take n))
  h : wr.ownsRow base 76 1 u m (wcl ((toL Sh.H0).take m))
  ap : ∀ j, v.ownBlock = some j → u.ownBlock ≠ some j
  bel : Below base w wr
theorem CoI.alloc {w : World} {base : Nat} {v u : Value} {n m : Nat} {wr : World} (h : CoI w base v u n m wr) (hb : base ≤ wr.heap.size) (o : Obj) : CoI w base v u n m (wr.alloc o) :=
  ⟨h.k.alloc _, h.h.alloc _, h.ap, h.bel.trans ((Kq.below_alloc wr o).mono hb)⟩
theorem CoI.below {w : World} {base : Nat} {v u : Value} {n m : Nat} {wr w' : World} (h : CoI w base v u n m wr) (hs : base ≤ wr.heap.size) (hb : Below wr.heap.size wr w') : CoI w base v u n m w' := by
  have hk : Kq.Keeps (fun _ => False) wr w' := Kq.Keeps.of_below hb (fun k h1 h2 => absurd h1 (Nat.not_le.2 h2))
  exact ⟨row_keep h.k hk (fun _ _ h => h), row_keep h.h hk (fun _ _ h => h), h.ap, h.bel.trans (hb.mono hs)⟩
theorem own_lt {w : World} {base : Nat} {e : TypeId} {s : Nat} {v : Value} {n : Nat} {xs : List Value} (h : w.ownsRow base e s v n xs) {k : Nat} (hk : v.ownBlock = some k) : base ≤ k ∧ k < w.heap.size := h.lt k hk
theorem CoI.putK {w : World} {base : Nat} {v u v' : Value} {n m x : Nat} {wr w' : World} {o : Obj} (h : CoI w base v u n m wr) (hb : base ≤ wr.heap.size) (hn : n < 64) (hx : x = Sh.K.getD n 0)
    (hown : w'.ownsRow base 76 1 v' (n + 1) (wcl (Sh.K.take n) ++ wcl [x])) (hg : (wr.alloc o).grownBy w' v.ownBlock) (hf : ∀ k, v'.ownBlock = some k → some k = v.ownBlock ∨ wr.heap.size + 1 ≤ k) : CoI w base v' u (n + 1) m w' := by
  have h1 := h.alloc hb o
  have hk := Kq.Keeps.grown (S := fun j => some j = v.ownBlock) hg (fun j _ hj => hj.symm)
  refine ⟨?_, row_keep h1.h hk (fun k hu hv => h.ap k hv.symm hu), fun j hj hu => ?_, ?_⟩
  · rw [take_getD Sh.K n hn, ← hx]
    have e : wcl (Sh.K.take n ++ [x]) = wcl (Sh.K.take n) ++ wcl [x] := by simp [wcl]
    rw [e]; exact hown
  · rcases hf j hj with h2 | h2
    · exact h.ap j h2.symm hu
    · have := (own_lt h.h hu).2; omega
  · exact h1.bel.trans (hk.below (by simp; omega) (fun j _ e => (own_lt h.k e.symm).1))
theorem CoI.putH {w : World} {base : Nat} {v u u' : Value} {n m x : Nat} {wr w' : World} {o : Obj} (h : CoI w base v u n m wr) (hb : base ≤ wr.heap.size) (hm : m < 8) (hx : x = (toL Sh.H0).getD m 0)
    (hown : w'.ownsRow base 76 1 u' (m + 1) (wcl ((toL Sh.H0).take m) ++ wcl [x])) (hg : (wr.alloc o).grownBy w' u.ownBlock) (hf : ∀ k, u'.ownBlock = some k → some k = u.ownBlock ∨ wr.heap.size + 1 ≤ k) : CoI w base v u' n (m + 1) w' := by
  have h1 := h.alloc hb o
  have hk := Kq.Keeps.grown (S := fun j => some j = u.ownBlock) hg (fun j _ hj => hj.symm)
  refine ⟨row_keep h1.k hk (fun k hv hu => h.ap k hv hu.symm), ?_, fun j hj hu => ?_, ?_⟩
  · rw [take_getD (toL Sh.H0) m hm, ← hx]
    have e : wcl ((toL Sh.H0).take m ++ [x]) = wcl ((toL Sh.H0).take m) ++ wcl [x] := by simp [wcl]
    rw [e]; exact hown
  · rcases hf j hu with h2 | h2
    · exact h.ap j hj h2.symm
    · have := (own_lt h.k hj).2; omega
  · exact h1.bel.trans (hk.below (by simp; omega) (fun j _ e => (own_lt h.h e.symm).1))
def ConstPost (w : World) (e : Ending) (w' : World) : Prop := ∃ A ca B cb, e = .returned (.tuple #[.slice (some ⟨A, 0, none⟩) 64 ca, .slice (some ⟨B, 0, none⟩) 8 cb]) ∧ w.heap.size ≤ A ∧ A < w'.heap.size ∧ w.heap.size ≤ B ∧ B < w'.heap.size ∧
  (∀ i, i < 64 → w'.cell? ⟨A, i, none⟩ = some (.int .u32 ((Sh.K.getD i 0 : Nat) : Int))) ∧ (∀ i, i < 8 → w'.cell? ⟨B, i, none⟩ = some (.int .u32 (((toL Sh.H0).getD i 0 : Nat) : Int))) ∧ Below w.heap.size w w'
set_option maxRecDepth 100000 in
set_option maxHeartbeats 2000000 in
theorem r_constants (w : World) : Calls Tryd.prog 27 #[] w (ConstPost w) := by
  obtain ⟨i0, hi, hz0, hz1, hz2⟩ := info_partsH infoU32H
  go_enter Tryd.func27, Tryd.ntmps27
  go_wp2_with fail
  refine (r_primes w).mono ?_
  rintro x w1 ⟨G, c, rfl, hG, hG1, hcell, hb1⟩
  have H1 := Lib.hid (And.intro hG (And.intro hG1 (And.intro hcell hb1)))
  clear hG hG1 hcell hb1
  go_wp2
  go_loopw [2, 3, 5] (fun p q i wr => ∃ k m a ca b cb, p = .slice a k ca ∧ q = .slice b m cb ∧ i = .int .i64 (k : Int) ∧ k ≤ 64 ∧ m = min k 8 ∧ CoI w1 w1.heap.size (.slice a k ca) (.slice b m cb) k m wr) (fun _ _ i _ => 64 - (intOf i).toNat)
  case atStart => exact ⟨0, 0, none, 0, none, 0, rfl, rfl, rfl, by omega, rfl, World.ownsRow_nil _ _ _ _, World.ownsRow_nil _ _ _ _, (fun j hj => by cases hj), Below.refl _ _⟩
  case round =>
    obtain ⟨k, m, a, ca, b, cb, rfl, rfl, rfl, hk, hm, hI⟩ := hrel
    have HI := Lib.hid hI
    have HM := Lib.hid hm
    clear hI hm
    by_cases hlt : k < 64
    · have l1 : (k : Int) < 64 := by omega
      have c0 : wr.cell? ⟨G, k, none⟩ = some (.int .u64 ((Sh.primes64.getD k 0 : Nat) : Int)) := (HI.out.bel.cell (p := ⟨G, k, none⟩) H1.out.2.1).trans (H1.out.2.2.1 k hlt)
      have hp : Sh.primes64.getD k 0 < 18446744073709551616 := getD64 _ (by decide) k
      have HKA := Lib.hid (k_at k hlt)
      have HHA : Hid (k < 8 → rootB (Sh.primes64.getD k 0) 1 % Sh.M32 = (toL Sh.H0).getD k 0) := Lib.hid (fun h => h_at k h)
      have KR3 := Lib.hid (fun w => r_root (Sh.primes64.getD k 0) true 2 rfl w hp)
      have KR2 := Lib.hid (fun w => r_root (Sh.primes64.getD k 0) false 1 rfl w hp)
      rw [HKA.out] at KR3
      generalize Sh.primes64.getD k 0 = p at *
      have HC0 := Lib.hid (show ∀ w', Below wr.heap.size wr w' → w'.cell? ⟨G, k, none⟩ = some (.int .u64 (p : Int)) from fun w' hb => (hb.cell (p := ⟨G, k, none⟩) (Nat.lt_of_lt_of_le H1.out.2.1 HI.out.bel.size)).trans c0)
      obtain ⟨x, hx⟩ : ∃ x, x = Sh.K.getD k 0 := ⟨_, rfl⟩
      rw [← hx] at KR3
      have HX := Lib.hid hx
      clear hp hx
      go_wp2_with fail
      refine (KR3.out wr).mono ?_
      rintro e w2 ⟨rfl, hb2⟩
      have HI2 := Lib.hid (HI.out.below HI.out.bel.size hb2)
      have HG2 := Lib.hid (show w2.cell? ⟨G, k, none⟩ = some (.int .u64 (p : Int)) from HC0.out w2 hb2)
      clear hb2 KR3 c0
      go_wp2_with (at_builtin; refine Kq.wpList_append_any _ rfl (.tmp 11) (.tmp 17) 49 49 rfl w1.heap.size 76 i0 (.int .u32 0) 1 4 Tryd.underlying49 hi hz0 hz1 hz2 rfl (by decide) _ k (wcl (Sh.K.take k)) rfl (HI2.out.k.alloc _) (.slice (some ⟨w2.heap.size, 0, none⟩) 1 1) 1 (wcl [x]) rfl ?hs ?h1 ?h2 ?h3 ?_)
      case hs => exact src_u32 w2 x
      case h1 => unfold maxLen; omega
      case h2 => omega
      case h3 => have := HI2.out.bel.size; simp; omega
      intro v' w3 hown hgrow hfresh
      obtain ⟨a', n', c', hv⟩ := Kq.own_shape hown
      have hn' : n' = k + 1 := by
        rcases hown.2 with ⟨rfl, h0⟩ | ⟨g, cap, cur, rfl, _⟩
        · omega
        · cases hv; rfl
      subst hv hn'
      have HI3 := Lib.hid (HI2.out.putK HI2.out.bel.size hlt HX.out hown hgrow hfresh)
      have c3 : w3.cell? ⟨G, k, none⟩ = some (.int .u64 (p : Int)) := by
        have h1 := HI3.out.bel.cell (p := ⟨G, k, none⟩) H1.out.2.1
        have h2 := HI2.out.bel.cell (p := ⟨G, k, none⟩) H1.out.2.1
        rw [h1, ← h2]; exact HG2.out
      clear hown hgrow hfresh
      by_cases h8 : k < 8
      · have hmk : m = k := by have := HM.out; omega
        subst hmk
        have l2 : (m : Int) < 8 := by omega
        have HHX : Hid ((toL Sh.H0).getD m 0 = rootB p 1 % Sh.M32) := Lib.hid (HHA.out h8).symm
        obtain ⟨y, hy⟩ : ∃ y, y = rootB p 1 % Sh.M32 := ⟨_, rfl⟩
        rw [← hy] at KR2 HHX
        clear hy
        go_wp2_with fail
        refine (KR2.out w3).mono ?_
        rintro e w4 ⟨rfl, hb4⟩
        have HI4 := Lib.hid (HI3.out.below HI3.out.bel.size hb4)
        clear hb4 KR2 c3
        go_wp2_with (at_builtin; refine Kq.wpList_append_any _ rfl (.tmp 21) (.tmp 27) 49 49 rfl w1.heap.size 76 i0 (.int .u32 0) 1 4 Tryd.underlying49 hi hz0 hz1 hz2 rfl (by decide) _ m (wcl ((toL Sh.H0).take m)) rfl (HI4.out.h.alloc _) (.slice (some ⟨w4.heap.size, 0, none⟩) 1 1) 1 (wcl [y]) rfl ?hs ?h1 ?h2 ?h3 ?_)
        case hs => exact src_u32 w4 y
        case h1 => unfold maxLen; omega
        case h2 => omega
        case h3 => have := HI4.out.bel.size; simp; omega
        intro v' w5 hown hgrow hfresh
        obtain ⟨a5, n5, c5, hv⟩ := Kq.own_shape hown
        have hn5 : n5 = m + 1 := by
          rcases hown.2 with ⟨rfl, h0⟩ | ⟨g, cap, cur, rfl, _⟩
          · omega
          · cases hv; rfl
        subst hv hn5
        have HI5 := Lib.hid (HI4.out.putH HI4.out.bel.size h8 HHX.out.symm hown hgrow hfresh)
        clear hown hgrow hfresh
        go_wp2
        go_roundw
        case rel => exact ⟨m + 1, m + 1, a', c', a5, c5, rfl, rfl, by go_num, by omega, by omega, HI5.out⟩
        case measure => simp [intOf]; omega
      · have l2 : ¬ (k : Int) < 8 := by omega
        have HM2 : Hid (m = min (k + 1) 8) := Lib.hid (by have := HM.out; omega)
        clear c3 KR2 HHA
        go_wp2
        go_roundw
        case rel => exact ⟨k + 1, m, a', c', b, cb, rfl, rfl, by go_num, by omega, HM2.out, HI3.out⟩
        case measure => simp [intOf]; omega
    · have hk64 : k = 64 := by omega
      have hm8 : m = 8 := by have := HM.out; omega
      subst hk64 hm8
      have HF : Hid (∃ A B, a = some ⟨A, 0, none⟩ ∧ b = some ⟨B, 0, none⟩ ∧ w1.heap.size ≤ A ∧ A < wr.heap.size ∧ w1.heap.size ≤ B ∧ B < wr.heap.size ∧ (∀ i, i < 64 → wr.cell? ⟨A, i, none⟩ = some (.int .u32 ((Sh.K.getD i 0 : Nat) : Int))) ∧ (∀ i, i < 8 → wr.cell? ⟨B, i, none⟩ = some (.int .u32 (((toL Sh.H0).getD i 0 : Nat) : Int)))) := Lib.hid (by
        have hk := HI.out.k
        have hh := HI.out.h
        rw [List.take_of_length_le (by rw [K_length]; exact Nat.le_refl _)] at hk
        rw [List.take_of_length_le (by simp [toL])] at hh
        obtain ⟨A, c', hv, h1, h2, h3⟩ := row_u32 hk (by rw [K_length]) (by omega)
        obtain ⟨B, c'', hv2, h4, h5, h6⟩ := row_u32 hh (by simp [toL]) (by omega)
        cases hv
        cases hv2
        exact ⟨A, B, rfl, rfl, h1, h2, h4, h5, (fun i hi => h3 i (by rw [K_length]; exact hi)), (fun i hi => h6 i (by simpa [toL] using hi))⟩)
      go_wp2
      go_ret2
      obtain ⟨A, B, rfl, rfl, h1, h2, h3, h4, h5, h6⟩ := HF.out
      have hs := H1.out.2.2.2.size
      exact ⟨A, ca, B, cb, rfl, Nat.le_trans hs h1, h2, Nat.le_trans hs h3, h4, h5, h6, H1.out.2.2.2.trans (HI.out.bel.mono hs)⟩
end Go.Proofs.YtnbapiddbcaolaaDoor
