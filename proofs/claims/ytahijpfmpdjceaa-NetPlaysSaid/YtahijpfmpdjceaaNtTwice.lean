/- Contracts of a net's Move in one, Twice; of carrackref19.Same on equal rows. Condition: never more than 256 messages. -/
import Derived.WalkSpells
import Derived.Outline
import Derived.Deep.QuietTactic
import Derived.BigQuiet
import Derived.Test.YtahijpfmpdjceaaNtMove4
namespace Go.Proofs.Ytahijpfmpdjceaa
open Go.RowKit
set_option linter.unusedVariables false
theorem hasF_true {k : Int} {n : Nat} (h : hasF k n = true) : 0 ≤ k ∧ k < (n : Int) := of_decide_eq_true h
/-- what a Move makes of a net, its code -/
def moveF (k t : Int) (ms : List MsgV) : List MsgV × Int := if hasF k ms.length = true ∧ hasF t ms.length = true then (moveL k.toNat t.toNat ms[k.toNat]! ms, 0) else (ms, 3)
theorem moveL_self (k : Nat) (m : MsgV) (ms : List MsgV) : moveL k k m ms = ms.take k ++ [m] ++ (ms.drop k).take (k - k) ++ ms.drop (k + 1) := by unfold moveL; rw [if_neg (Nat.lt_irrefl k)]
theorem nt_move (base N : Nat) (v : Value) (ms : List MsgV) (k t : Int) (w : World) (h : NtS w base N v ms) (hm : ms.length ≤ 256) :
    Calls Try.prog 16 #[.pointer (some ⟨N, 0, none⟩), .int .i64 k, .int .i64 t] w fun e w' => e = .returned (.int .i64 (moveF k t ms).2) ∧ NtP w base N v (moveF k t ms).1 w' := by
  unfold moveF
  by_cases hb : hasF k ms.length = true ∧ hasF t ms.length = true
  · rw [if_pos hb]
    obtain ⟨k0, k1⟩ := hasF_true hb.1
    obtain ⟨t0, t1⟩ := hasF_true hb.2
    obtain ⟨k, rfl⟩ := Int.eq_ofNat_of_zero_le k0
    obtain ⟨t, rfl⟩ := Int.eq_ofNat_of_zero_le t0
    have hk : k < ms.length := by omega
    have ht : t < ms.length := by omega
    have hge : ms[(k : Int).toNat]! = ms[k] := by rw [Int.toNat_natCast]; exact getElem!_pos ms k hk
    rw [hge, Int.toNat_natCast, Int.toNat_natCast]
    rcases h.own.2 with ⟨rfl, h0⟩ | ⟨g, cap, cur, rfl, _, hbk, hc, _, hcs, hpre⟩
    · omega
    · rcases Nat.lt_trichotomy k t with hkt | hkt | hkt
      · exact nt_move_up base N g cap ms cur k t w h hbk hc hcs hpre hk ht hkt hm
      · subst hkt
        by_cases hca : cap = k + 1
        · exact nt_move_same_a base N g cap ms cur k w h hbk hc hcs hpre hk hk hca hm
        · exact nt_move_same_b base N g cap ms cur k w h hbk hc hcs hpre hk hk hca hm
      · exact nt_move_down base N g cap ms cur k t w h hbk hc hcs hpre hk ht hkt hm
  · rw [if_neg hb]
    refine (nt_move_bad base N v ms k t w h ?_).mono ?_
    · cases h1 : hasF k ms.length with
      | false => exact Or.inl rfl
      | true =>
        cases h2 : hasF t ms.length with
        | false => exact Or.inr rfl
        | true => exact absurd ⟨h1, h2⟩ hb
    · rintro e w' ⟨rfl, rfl⟩
      exact ⟨rfl, v, h, Kq.Keeps.refl _ _, fun j hj => Or.inl hj⟩
def twF (k : Int) (ms : List MsgV) : List MsgV × Int := if hasF k ms.length = true then (if ms.length < 256 then (ms ++ [ms[k.toNat]!], 0) else (ms, 2)) else (ms, 3)
set_option maxRecDepth 100000 in
set_option maxHeartbeats 1000000 in
theorem nt_twice (base N : Nat) (v : Value) (ms : List MsgV) (k : Int) (w : World) (h : NtS w base N v ms) (hm : ms.length ≤ 256) :
    Calls Try.prog 14 #[.pointer (some ⟨N, 0, none⟩), .int .i64 k] w fun e w' => e = .returned (.int .i64 (twF k ms).2) ∧ NtP w base N v (twF k ms).1 w' := by
  have HH1 := Lib.hid (nt_has base N v ms k w h)
  unfold twF
  cases hb : hasF k ms.length with
  | false =>
    rw [if_neg (by decide)]
    rw [hb] at HH1
    have H := Lib.hid h
    clear h hb
    go_enter Try.func14, Try.ntmps14
    go_wp2_with fail
    refine HH1.out.mono ?_
    rintro e w1 ⟨rfl, rfl⟩
    go_wp2
    go_ret
    exact ⟨rfl, v, H.out, Kq.Keeps.refl _ _, fun j hj => Or.inl hj⟩
  | true =>
    rw [if_pos rfl]
    rw [hb] at HH1
    obtain ⟨k0, k1⟩ := hasF_true hb
    obtain ⟨k, rfl⟩ := Int.eq_ofNat_of_zero_le k0
    have hk : k < ms.length := by omega
    have hge : ms[(k : Int).toNat]! = ms[k] := by rw [Int.toNat_natCast]; exact getElem!_pos ms k hk
    rw [hge]
    have c0 := h.c0
    obtain ⟨A, cap, rfl, -, -, hat⟩ := h.at
    obtain ⟨g, o, rfl, hg, hc⟩ := hat k hk
    have ho : o = 0 := by
      rcases h.own.2 with ⟨hv, _⟩ | ⟨g', cap', cur, hv, _⟩
      · cases hv
      · injection hv with e1 _ _; injection e1 with e1; injection e1
    subst ho
    generalize ms[k] = m at *
    simp only [Nat.zero_add] at hc
    have x0 := hc 0 (by omega)
    have x1 := hc 1 (by omega)
    have x2 := hc 2 (by omega)
    have x3 := hc 3 (by omega)
    have x4 := hc 4 (by omega)
    have x5 := hc 5 (by omega)
    have x6 := hc 6 (by omega)
    have x7 := hc 7 (by omega)
    simp only [Nat.add_zero, MsgV.cells, List.getElem?_cons_zero, List.getElem?_cons_succ] at x0 x1 x2 x3 x4 x5 x6 x7
    obtain ⟨wb, hwb⟩ : ∃ z, z = w.alloc (.cells #[.int .i64 m.kind, .int .i64 m.to, .int .u64 m.ht, .int .i64 m.fr, .int .u64 m.sq, .int .u64 m.tm, .string m.d, .string m.p] 39) := ⟨_, rfl⟩
    have hbw : Below w.heap.size w wb := by rw [hwb]; exact Kq.below_alloc _ _
    have hms : MsAt wb (some ⟨w.heap.size, 0, none⟩) [m] := fun j hj => by
      have : j = 0 := by simpa using hj
      subst this
      refine ⟨w.heap.size, 0, rfl, by rw [hwb]; simp, fun i hi => ?_⟩
      rw [hwb, Kq.blk_cell (Kq.blk_new _ _ _ _)]
      simp [MsgV.cells]
    have HS := Lib.hid (nt_send base N _ ms (some ⟨w.heap.size, 0, none⟩) 1 [m] wb (h.below hbw) hm (by simp) (by simp) hms (fun e => by cases e))
    have HB := Lib.hid hbw
    have HWB := Lib.hid hwb
    have e1 : (k : Int) < (ms.length : Int) := k1
    by_cases hfull : ms.length < 256
    · rw [if_pos hfull]
      have hsn : sendN [m].length ms.length = 1 := by unfold sendN; simp; omega
      rw [hsn] at HS
      clear h hb hat hc hwb hbw hms hfull hsn k0 k1 hge
      go_enter Try.func14, Try.ntmps14
      go_wp2_with fail
      refine HH1.out.mono ?_
      rintro e w1 ⟨rfl, rfl⟩
      go_wp2_with fail
      rw [← HWB.out]
      refine HS.out.mono ?_
      rintro e w2 ⟨rfl, v2, D2, K2, F2⟩
      have HP : Hid (NtP w base N (.slice (some ⟨g, 0, none⟩) ms.length cap) (ms ++ [m]) w2) := Lib.hid ⟨v2, D2, (Kq.Keeps.of_below HB.out (fun j h1 h2 => absurd h2 (Nat.not_lt.2 h1))).trans K2, fun j hj => (F2 j hj).imp id (Nat.le_trans HB.out.size)⟩
      clear D2 K2 F2
      go_wp2
      go_ret
      exact ⟨rfl, HP.out⟩
    · rw [if_neg hfull]
      have hsn : sendN [m].length ms.length = 0 := by unfold sendN; simp; omega
      rw [hsn] at HS
      clear h hb hat hc hwb hbw hms hfull hsn k0 k1 hge
      go_enter Try.func14, Try.ntmps14
      go_wp2_with fail
      refine HH1.out.mono ?_
      rintro e w1 ⟨rfl, rfl⟩
      go_wp2_with fail
      rw [← HWB.out]
      refine HS.out.mono ?_
      rintro e w2 ⟨rfl, v2, D2, K2, F2⟩
      have HP : Hid (NtP w base N (.slice (some ⟨g, 0, none⟩) ms.length cap) ms w2) := Lib.hid ⟨v2, by simpa using D2, (Kq.Keeps.of_below HB.out (fun j h1 h2 => absurd h2 (Nat.not_lt.2 h1))).trans K2, fun j hj => (F2 j hj).imp id (Nat.le_trans HB.out.size)⟩
      clear D2 K2 F2
      go_wp2
      go_ret
      exact ⟨rfl, HP.out⟩
set_option maxRecDepth 100000 in
set_option maxHeartbeats 1000000 in
theorem same_self (ms : List MsgV) (A B : Option Addr) (ca cb : Nat) (w : World) (hn : ms.length ≤ 1000000) (ha : MsAt w A ms) (hb : MsAt w B ms) :
    Calls Try.prog 18 #[.slice A ms.length ca, .slice B ms.length cb] w fun e w' => e = .returned (.bool true) ∧ ∃ r, w' = w.drewN r := by
  have HA := Lib.hid ha
  have HB := Lib.hid hb
  clear ha hb
  go_enter Try.func18, Try.ntmps18
  go_wp2
  go_loopw [5] (fun i wr => ∃ k r : Nat, k ≤ ms.length ∧ i = .int .i64 (k : Int) ∧ wr = w.drewN r) (fun i _ => ms.length - (intOf i).toNat)
  case atStart => exact ⟨0, 0, Nat.zero_le _, rfl, rfl⟩
  case round =>
    obtain ⟨k, r, hk, rfl, rfl⟩ := hrel
    by_cases hlk : k < ms.length
    · obtain ⟨g1, o1, rfl, -, hc⟩ := HA.out k hlk
      obtain ⟨g2, o2, rfl, -, hd⟩ := HB.out k hlk
      generalize ms[k] = m at *
      have x0 := hc 0 (by omega)
      have x1 := hc 1 (by omega)
      have x2 := hc 2 (by omega)
      have x3 := hc 3 (by omega)
      have x4 := hc 4 (by omega)
      have x5 := hc 5 (by omega)
      have x6 := hc 6 (by omega)
      have x7 := hc 7 (by omega)
      have y0 := hd 0 (by omega)
      have y1 := hd 1 (by omega)
      have y2 := hd 2 (by omega)
      have y3 := hd 3 (by omega)
      have y4 := hd 4 (by omega)
      have y5 := hd 5 (by omega)
      have y6 := hd 6 (by omega)
      have y7 := hd 7 (by omega)
      simp only [Nat.add_zero, MsgV.cells, List.getElem?_cons_zero, List.getElem?_cons_succ] at x0 x1 x2 x3 x4 x5 x6 x7 y0 y1 y2 y3 y4 y5 y6 y7
      clear hc hd
      go_wp2
      go_quiet (fail)
      go_wp2
      go_roundw
      case rel => exact ⟨k + 1, r + nq, by omega, by go_num, rfl⟩
      case measure => simp [intOf]; omega
    · go_wp2
      go_ret
      exact ⟨rfl, r, rfl⟩
end Go.Proofs.Ytahijpfmpdjceaa
