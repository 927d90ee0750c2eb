/- Contract of the reference's client: Heights. Condition: what is known fits. -/
import Derived.WalkSpells
import Derived.Outline
import Derived.Test.YtdonoilcegaleaaRcLooks
namespace Go.Proofs.Ytdonoilcegaleaa
open Go.RowKit Go.Cl
set_option linter.unusedVariables false
def slLen : Value → Nat
  | .slice _ n _ => n
  | _ => 0
theorem row_shape {w : World} {base n : Nat} {v : Value} {xs : List Value} (h : w.ownsRow base 23 1 v n xs) : ∃ A cap, v = .slice A n cap := by
  rcases h.2 with ⟨rfl, h0⟩ | ⟨g, cap, cur, rfl, _⟩
  · exact ⟨none, 0, by rw [h0]⟩
  · exact ⟨_, cap, rfl⟩
theorem low_zero (hs : List Nat) : lowC 0 hs = 0 := by cases hs <;> simp [lowC]
theorem low_next {hs : List Nat} (h : hs.Pairwise (· < ·)) (n : Nat) (hn : n < hs.length) : lowC (hs[n] + 1) hs = n + 1 := by
  have h1 := low_iff (x := hs[n] + 1) h n hn
  have h2 := low_le (hs[n] + 1) hs
  rcases Nat.lt_or_ge (n + 1) (lowC (hs[n] + 1) hs) with h3 | h3
  · have h4 := low_iff (x := hs[n] + 1) h (n + 1) (by omega)
    have h5 := sorted_at h (show n < n + 1 by omega) (show n + 1 < hs.length by omega)
    omega
  · omega
theorem row_later {w w' : World} {base n : Nat} {v : Value} {xs : List Value} (h : w.ownsRow base 23 1 v n xs) (hb : Below w.heap.size w w') : w'.ownsRow base 23 1 v n xs := by
  refine ⟨h.1, h.2.imp id ?_⟩
  rintro ⟨g, cap, cur, hv, h3, h4, h5⟩
  exact ⟨g, cap, cur, hv, h3, Kq.below_blk hb h4 (Kq.blk_lt h4), h5⟩
theorem hcells_succ (hs : List Nat) (n : Nat) (hn : n < hs.length) : hcells (hs.take (n + 1)) = hcells (hs.take n) ++ [Value.int .u64 ((hs[n] : Nat) : Int)] := by
  rw [List.take_succ_eq_append_getElem hn]
  unfold hcells
  rw [List.map_append]
  rfl
set_option maxRecDepth 100000 in
set_option maxHeartbeats 2000000 in
theorem rc_heights (base R : Nat) (u : Value) (L : List (Nat × ByteArray)) (hs : List Nat) (f : Int → Option ByteArray) (w : World) (h : RcS w base R u L) (hk : Lk L hs f) (hn : L.length ≤ 1000000) (hh : hs.length ≤ 1000000) :
    Calls Try.prog 19 #[.pointer (some ⟨R, 0, none⟩)] w fun e w' => ∃ v', e = .returned v' ∧ w'.ownsRow w.heap.size 23 1 v' hs.length (hcells hs) ∧ Below w.heap.size w w' := by
  obtain ⟨i0, hi, hz0, hz1, hz2⟩ := info_parts infoU
  have HK := Lib.hid (And.intro h hk)
  clear h hk
  go_enter Try.func19, Try.ntmps19
  go_wp2
  go_loopw [3, 4] (fun o a wr => ∃ n b : Nat, n ≤ hs.length ∧ a = .int .u64 (b : Int) ∧ lowC b hs = n ∧ b < 18446744073709551616 ∧ wr.ownsRow w.heap.size 23 1 o n (hcells (hs.take n)) ∧ Below w.heap.size w wr) (fun o _ _ => hs.length + 1 - slLen o)
  case atStart => exact ⟨0, 0, Nat.zero_le _, rfl, low_zero hs, by decide, World.ownsRow_nil _ _ _ _, Below.refl _ _⟩
  case round =>
    obtain ⟨n, b, hnn, rfl, hlow, hb64, hown, hbw⟩ := hrel
    obtain ⟨A, cap, rfl⟩ := row_shape hown
    have HO := Lib.hid (And.intro hown (And.intro hbw (And.intro hb64 hlow)))
    clear hown hbw
    have hfr := rc_from base R u L hs f b wr (HK.out.1.below HO.out.2.1) HK.out.2 hn
    by_cases hlt : n < hs.length
    · have e : fromF b hs = (hs[n], true) := by
        unfold fromF
        rw [dif_pos (by omega)]
        simp [hlow]
      rw [e] at hfr
      have HY : Hid (lowC (hs[n] + 1) hs = n + 1 ∧ hs[n] < 18446744073709551616 ∧ hcells (hs.take (n + 1)) = hcells (hs.take n) ++ [Value.int .u64 ((hs[n] : Nat) : Int)] ∧ (hs[n] + 1 = 18446744073709551616 → n + 1 = hs.length)) := Lib.hid ⟨low_next HK.out.2.ok.srt n hlt, HK.out.2.ok.lt _ (List.getElem_mem _), hcells_succ hs n hlt, fun hm => by
        rcases Nat.lt_or_ge (n + 1) hs.length with h1 | h1
        · have h2 := sorted_at HK.out.2.ok.srt (show n < n + 1 by omega) h1
          have h3 := HK.out.2.ok.lt _ (List.getElem_mem (h := h1))
          omega
        · omega⟩
      generalize hs[n] = y at *
      clear e hlow hb64
      go_wp2_with fail
      refine hfr.mono ?_
      clear hfr
      rintro e w3 ⟨rfl, rfl⟩
      go_wp2_with (at_builtin; go_loud (refine Kq.wpList_append_any _ rfl (.tmp 16) (.tmp 18) 41 41 rfl w.heap.size 23 i0 (.int .u64 0) 1 8 Try.underlying41 hi hz0 hz1 hz2 rfl (by decide) (.slice A n cap) n (hcells (hs.take n)) rfl (HO.out.1.alloc _) (.slice (some ⟨wr.heap.size, 0, none⟩) 1 1) 1 [Value.int .u64 (y : Int)] rfl ?g1 ?g2 ?g3 ?g4 ?_))
      case g1 => exact src_one wr y 1 _
      case g2 => unfold maxLen; omega
      case g3 => omega
      case g4 => have := HO.out.2.1.size; simp; omega
      intro v' w4 hown4 hgrow hfresh
      have HO4 : Hid (w4.ownsRow w.heap.size 23 1 v' (n + 1) (hcells (hs.take (n + 1))) ∧ Below w.heap.size w w4) := by
        have kb := (Kq.Keeps.grown (S := fun j => w.heap.size ≤ j) hgrow (fun j _ hj => (HO.out.1.lt j hj).1)).below (B := w.heap.size) (by have := HO.out.2.1.size; simp; omega) (fun k _ h => h)
        exact Lib.hid ⟨by rw [HY.out.2.2.1]; exact hown4, (HO.out.2.1.trans ((Kq.below_alloc wr _).mono HO.out.2.1.size)).trans kb⟩
      obtain ⟨A4, cap4, rfl⟩ := row_shape hown4
      clear hown4 hgrow hfresh HO
      by_cases hm : y + 1 = 18446744073709551616
      · have hw0 : IntKind.u64.wrap ((y : Int) + 1) = 0 := by
          rw [show ((y : Int) + 1) = 18446744073709551616 by omega]; rfl
        have hnl := HY.out.2.2.2 hm
        have HNL := Lib.hid hnl
        clear hm hnl
        go_wp2
        go_ret
        have t := HO4.out.1
        have e2 : hs.take (n + 1) = hs := by rw [HNL.out, List.take_length]
        rw [e2] at t
        exact ⟨_, rfl, by rw [← HNL.out]; exact t, HO4.out.2⟩
      · obtain ⟨b', hb'⟩ : ∃ b', b' = y + 1 := ⟨_, rfl⟩
        have hb64' : b' < 18446744073709551616 := by have := HY.out.2.1; omega
        have hw0 : IntKind.u64.wrap ((y : Int) + 1) = (b' : Int) := by rw [IntWalk.u64_in _ (by have := HY.out.2.1; omega)]; omega
        have t0 : ((b' : Int) == 0) = false := beq_eq_false_iff_ne.2 (by omega)
        have t1 : (b' == 0) = false := beq_eq_false_iff_ne.2 (by omega)
        have HB' := Lib.hid (And.intro hb' hb64')
        clear hb' hb64' hm
        go_wp2
        go_roundw
        case rel => exact ⟨n + 1, b', by omega, rfl, by rw [HB'.out.1]; exact HY.out.1, HB'.out.2, HO4.out.1, HO4.out.2⟩
        case measure => simp [slLen]; omega
    · have e : fromF b hs = (0, false) := by
        unfold fromF
        rw [dif_neg (by omega)]
      rw [e] at hfr
      have hnl : n = hs.length := by omega
      clear e
      go_wp2_with fail
      refine hfr.mono ?_
      clear hfr
      rintro e w3 ⟨rfl, rfl⟩
      go_wp2
      go_ret
      have := HO.out.1
      rw [hnl, List.take_length] at this
      exact ⟨_, rfl, this, HO.out.2.1⟩
end Go.Proofs.Ytdonoilcegaleaa
