/- Contract of carrackref01.primes, at 64. No condition. -/
import Derived.Test.YtnbapiddbcaolaaDoorShPrim
namespace Go.Proofs.YtnbapiddbcaolaaDoor
open Go.RowKit
set_option linter.unusedVariables false
def okAll (L : List Nat) (x i : Nat) : Bool := (L.take i).all (fun p => x % p != 0)
theorem okAll_succ (L : List Nat) (x i : Nat) (h : i < L.length) : okAll L x (i + 1) = (okAll L x i && (x % L.getD i 0 != 0)) := by
  unfold okAll
  rw [List.take_succ_eq_append_getElem h, List.all_append]
  simp [h]
theorem primesN_next (k : Nat) : Sh.primesN (k + 1) = if okAll (Sh.primesN k) (k + 2) (Sh.primesN k).length then Sh.primesN k ++ [k + 2] else Sh.primesN k := by
  rw [okAll, List.take_length, Sh.primesN]
theorem mod_cast0 (x p : Nat) : (x : Int) % (p : Int) = ((x % p : Nat) : Int) := by norm_cast
structure PrI (w : World) (k n : Nat) (v : Value) (wr : World) : Prop where
  len : n = (Sh.primesN k).length
  own : wr.ownsRow w.heap.size 59 1 v n (dcl (Sh.primesN k))
  bel : Below w.heap.size w wr
def PrPost (w : World) (e : Ending) (w' : World) : Prop := ∃ G c, e = .returned (.slice (some ⟨G, 0, none⟩) 64 c) ∧ w.heap.size ≤ G ∧ G < w'.heap.size ∧ (∀ i, i < 64 → w'.cell? ⟨G, i, none⟩ = some (.int .u64 ((Sh.primes64.getD i 0 : Nat) : Int))) ∧ Below w.heap.size w w'
set_option maxRecDepth 100000 in
set_option maxHeartbeats 2000000 in
theorem r_primes (w : World) : Calls Tryd.prog 43 #[.int .i64 64] w (PrPost w) := by
  obtain ⟨i0, hi, hz0, hz1, hz2⟩ := info_partsH infoU64H
  go_enter Tryd.func43, Tryd.ntmps43
  go_wp2
  go_loopw [3, 4] (fun o q wr => ∃ k n a c, o = .slice a n c ∧ q = .int .u64 ((k + 2 : Nat) : Int) ∧ k ≤ 310 ∧ n ≤ 64 ∧ (n = 64 → k = 310) ∧ PrI w k n (.slice a n c) wr) (fun _ q _ => 400 - (intOf q).toNat)
  case atStart => exact ⟨0, 0, none, 0, rfl, rfl, by omega, by omega, (by omega), rfl, World.ownsRow_nil _ _ _ _, Below.refl _ _⟩
  case round =>
    obtain ⟨k, n, a, c, rfl, rfl, hk, hn, hn64, hI⟩ := hrel
    have HI := Lib.hid hI
    have HK := Lib.hid (And.intro hk (And.intro hn hn64))
    clear hI hn64
    by_cases hlt : n < 64
    · have d0 : (n : Int) < 64 := by omega
      have hk310 : k < 310 := primesN_max k (by rw [← HI.out.len]; exact hlt)
      have HNX := Lib.hid (primesN_next k)
      have HMEM := Lib.hid (primesN_mem k)
      have hcell : ∀ i, i < n → ∃ G o, a = some ⟨G, o, none⟩ ∧ wr.cell? ⟨G, o + i, none⟩ = some (.int .u64 (((Sh.primesN k).getD i 0 : Nat) : Int)) := fun i hi => by
        obtain ⟨G, c', hv, _, _, hc⟩ := row_u64 HI.out.own HI.out.len (by omega)
        cases hv
        exact ⟨G, 0, rfl, by rw [Nat.zero_add]; exact hc i (by rw [← HI.out.len]; exact hi)⟩
      have HC := Lib.hid hcell
      clear hcell
      obtain ⟨L, hL⟩ : ∃ L, L = Sh.primesN k := ⟨_, rfl⟩
      rw [← hL] at HNX HMEM HC
      have HLE := Lib.hid hL
      have HLN : Hid (n = L.length) := Lib.hid (by rw [hL]; exact HI.out.len)
      rw [← HLN.out] at HNX
      clear hL
      obtain ⟨x, hx⟩ : ∃ x, x = k + 2 := ⟨_, rfl⟩
      have HX := Lib.hid hx
      rw [← hx] at HNX ⊢
      have hx4 : x < 400 := by omega
      clear hx hk310
      go_wp2
      go_loopw [5, 6] (fun o j wq => ∃ i : Nat, i ≤ n ∧ j = .int .i64 (i : Int) ∧ o = .bool (okAll L x i) ∧ wq = wr) (fun _ j _ => n - (intOf j).toNat)
      case atStart => exact ⟨0, Nat.zero_le _, rfl, rfl, rfl⟩
      case round =>
        obtain ⟨i, hi2, rfl, rfl, rfl⟩ := hrel
        by_cases hl2 : i < n
        · have d1 : (i : Int) < (n : Int) := by omega
          obtain ⟨G, o, rfl, hc⟩ := HC.out i hl2
          have hsu := okAll_succ L x i (by rw [← HLN.out]; exact hl2)
          have hp : 2 ≤ L.getD i 0 := (HMEM.out _ (by
            rw [List.getD_eq_getElem?_getD, List.getElem?_eq_getElem (by rw [← HLN.out]; exact hl2)]
            exact List.getElem_mem _)).1
          generalize L.getD i 0 = p at *
          have p0 : ¬ (p : Int) = 0 := by omega
          have p1 : ¬ p = 0 := by omega
          by_cases hz : x % p = 0
          · have HS : Hid (okAll L x (i + 1) = false) := Lib.hid (by rw [hsu, hz]; simp)
            have e1 : (x : Int) % (p : Int) = 0 := by rw [mod_cast0, hz]; rfl
            clear hsu
            go_wp2
            go_roundw
            case rel => exact ⟨i + 1, by omega, by go_num, by rw [HS.out], trivial⟩
            case measure => simp [intOf]; omega
          · have HS : Hid (okAll L x (i + 1) = okAll L x i) := Lib.hid (by rw [hsu]; simp [hz])
            have e1 : ¬ (x : Int) % (p : Int) = 0 := fun e => hz (by rw [mod_cast0] at e; omega)
            clear hsu
            go_wp2
            go_roundw
            case rel => exact ⟨i + 1, by omega, by go_num, by rw [HS.out], trivial⟩
            case measure => simp [intOf]; omega
        · have hin : i = n := by omega
          rw [hin]
          have HR : Hid (Sh.primesN (k + 1) = if okAll L x n = true then L ++ [x] else L) := Lib.hid HNX.out
          have hxk : x + 1 = k + 1 + 2 := by have := HX.out; omega
          have HXK := Lib.hid hxk
          have d1 : ¬ (i : Int) < (n : Int) := by omega
          clear hxk hin
          cases hok : okAll L x n with
          | false =>
            have HN : Hid (Sh.primesN (k + 1) = L) := Lib.hid (by rw [HR.out, hok]; rfl)
            have HP : Hid (PrI w (k + 1) n (.slice a n c) wr) := Lib.hid ⟨by rw [HN.out]; exact HLN.out, by rw [HN.out, HLE.out]; exact HI.out.own, HI.out.bel⟩
            go_wp2
            go_roundw
            case rel => exact ⟨k + 1, n, a, c, rfl, by rw [← HXK.out]; go_num, by have := HX.out; have := primesN_max k (by rw [← HI.out.len]; exact hlt); omega, by omega, (by omega), HP.out⟩
            case measure => simp [intOf]; omega
          | true =>
            have HN : Hid (Sh.primesN (k + 1) = L ++ [x]) := Lib.hid (by rw [HR.out, hok]; rfl)
            go_wp2_with (at_builtin; refine Kq.wpList_append_any _ rfl (.tmp 27) (.tmp 29) 74 74 rfl w.heap.size 59 i0 (.int .u64 0) 1 8 Tryd.underlying74 hi hz0 hz1 hz2 rfl (by decide) _ n (dcl (Sh.primesN k)) rfl (HI.out.own.alloc _) (.slice (some ⟨wr.heap.size, 0, none⟩) 1 1) 1 (dcl [x]) rfl ?hs ?h1 ?h2 ?h3 ?_)
            case hs => exact src_u64 wr x
            case h1 => unfold maxLen; omega
            case h2 => omega
            case h3 => have := HI.out.bel.size; simp; omega
            intro v' w' hown hgrow hfresh
            obtain ⟨a', n', c', hv⟩ := Kq.own_shape hown
            have hn' : n' = n + 1 := by
              rcases hown.2 with ⟨rfl, h0⟩ | ⟨g, cap, cur, rfl, _⟩
              · omega
              · cases hv; rfl
            subst hv hn'
            have HP : Hid (PrI w (k + 1) (n + 1) (.slice a' (n + 1) c') w') := Lib.hid (by
              refine ⟨by rw [HN.out, List.length_append, List.length_singleton, ← HLN.out], ?_, ?_⟩
              · rw [HN.out]
                have e : dcl (L ++ [x]) = dcl L ++ dcl [x] := by simp [dcl]
                rw [e, HLE.out]
                exact hown
              · have hbq := HI.out.bel.trans ((Kq.below_alloc wr (.cells #[.int .u64 (x : Int)] 59)).mono HI.out.bel.size)
                have k1 : Kq.Keeps (fun j => w.heap.size ≤ j) w (wr.alloc (.cells #[.int .u64 (x : Int)] 59)) := Kq.Keeps.of_below hbq (fun j h1 h2 => h1)
                have k2 : Kq.Keeps (fun j => w.heap.size ≤ j) (wr.alloc (.cells #[.int .u64 (x : Int)] 59)) w' := Kq.Keeps.grown hgrow (fun j _ hj => (HI.out.own.lt j hj).1)
                exact (k1.trans k2).below (Nat.le_refl _) (fun j _ hj => hj))
            clear hown hgrow hfresh
            go_wp2
            go_roundw
            case rel => exact ⟨k + 1, n + 1, a', c', rfl, by rw [← HXK.out]; go_num, by have := primesN_max k (by rw [← HI.out.len]; exact hlt); omega, by omega, (fun e => by
              refine primesN_stop k (by rw [← HI.out.len]; exact hlt) ?_
              rw [← HP.out.len]; omega), HP.out⟩
            case measure => simp [intOf]; omega
    · have hn64 : n = 64 := by omega
      have HK310 := Lib.hid (HK.out.2.2 hn64)
      subst hn64
      have HF : Hid (∃ G, a = some ⟨G, 0, none⟩ ∧ w.heap.size ≤ G ∧ G < wr.heap.size ∧ ∀ i, i < 64 → wr.cell? ⟨G, i, none⟩ = some (.int .u64 ((Sh.primes64.getD i 0 : Nat) : Int))) := Lib.hid (by
        obtain ⟨G, c', hv, h1, h2, hc⟩ := row_u64 HI.out.own HI.out.len (by omega)
        cases hv
        refine ⟨G, rfl, h1, h2, fun i hi => ?_⟩
        have := hc i (by rw [← HI.out.len]; exact hi)
        rw [HK310.out, Sh.primes_all] at this
        exact this)
      go_wp2
      go_ret
      obtain ⟨G, rfl, h1, h2, h3⟩ := HF.out
      exact ⟨G, c, rfl, h1, h2, h3, HI.out.bel⟩
end Go.Proofs.YtnbapiddbcaolaaDoor
