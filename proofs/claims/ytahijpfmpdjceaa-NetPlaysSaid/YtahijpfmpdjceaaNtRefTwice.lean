/- Contract of the reference's net: Twice. Condition: sizes. -/
import Derived.WalkSpells
import Derived.Outline
import Derived.Deep.QuietTactic
import Derived.Test.YtahijpfmpdjceaaNtRefTake2
namespace Go.Proofs.Ytahijpfmpdjceaa
open Go.RowKit
set_option linter.unusedVariables false
set_option maxRecDepth 100000 in
set_option maxHeartbeats 1000000 in
theorem rt_twice_neg (base R : Nat) (v : Value) (ms : List MsgV) (k : Int) (w : World) (h : RtS w base R v ms) (hk : k < 0) :
    Calls Try.prog 15 #[.pointer (some ⟨R, 0, none⟩), .int .i64 k] w fun e w' => e = .returned (.int .i64 3) ∧ w' = w := by
  obtain ⟨LA, lcap, rfl, -, -, -⟩ := h.at
  have c0 := h.c0
  have d1 : decide (k < 0) = true := decide_eq_true hk
  clear h hk
  go_enter Try.func15, Try.ntmps15
  go_wp2
  go_ret
  exact ⟨rfl, rfl⟩
set_option maxRecDepth 100000 in
set_option maxHeartbeats 1000000 in
theorem rt_twice_far (base R : Nat) (v : Value) (ms : List MsgV) (k : Int) (w : World) (h : RtS w base R v ms) (hk : 0 ≤ k ∧ (ms.length : Int) ≤ k) :
    Calls Try.prog 15 #[.pointer (some ⟨R, 0, none⟩), .int .i64 k] w fun e w' => e = .returned (.int .i64 3) ∧ w' = w := by
  obtain ⟨LA, lcap, rfl, -, -, -⟩ := h.at
  have c0 := h.c0
  have d1 : decide (k < 0) = false := decide_eq_false (by omega)
  have d2 : decide ((ms.length : Int) ≤ k) = true := decide_eq_true hk.2
  clear h hk
  go_enter Try.func15, Try.ntmps15
  go_wp2
  go_ret
  exact ⟨rfl, rfl⟩
set_option maxRecDepth 100000 in
set_option maxHeartbeats 1000000 in
theorem rt_twice_go (base R : Nat) (v : Value) (ms : List MsgV) (k : Nat) (w : World) (h : RtS w base R v ms) (hm : ms.length ≤ 256) (hk : k < ms.length) :
    Calls Try.prog 15 #[.pointer (some ⟨R, 0, none⟩), .int .i64 (k : Int)] w fun e w' => e = .returned (.int .i64 (if ms.length < 256 then 0 else 2)) ∧ RtP w base R v (if ms.length < 256 then ms ++ [ms[k]] else ms) w' := by
  have H := Lib.hid h
  obtain ⟨LA, lcap, hv', hLc, -, hLat⟩ := h.at
  subst hv'
  have c0 := h.c0
  obtain ⟨g, o, rfl, hg, hc⟩ := hLat k hk
  have hgR : g ≠ R := h.ne g rfl
  have hone : MsAt w (some ⟨g, o + k * 8, none⟩) [ms[k]] := fun j hj => by
    have : j = 0 := by simpa using hj
    subst this
    exact ⟨g, o + k * 8, rfl, hg, fun i hi => by simpa using hc i hi⟩
  obtain ⟨a1, ha1⟩ : ∃ a1, a1 = k + 1 := ⟨_, rfl⟩
  obtain ⟨m3, m4⟩ := wrap_succ k a1 ha1 (by omega)
  obtain ⟨n, hn⟩ : ∃ n, n = ms.length := ⟨_, rfl⟩
  have HS := Lib.hid (rt_send base R _ ms (some ⟨g, o + k * 8, none⟩) (lcap - k) [ms[k]] w h hm (by simp) (by simp; omega) hone (fun _ g' o' e => by injection e with e; injection e with e1 e2; subst e1; exact hgR))
  have e1 : (k : Int) < (n : Int) := by omega
  have d1 : decide ((k : Int) < 0) = false := decide_eq_false (by omega)
  have d2 : decide ((n : Int) ≤ (k : Int)) = false := decide_eq_false (by omega)
  have d3 : decide (n ≤ k) = false := decide_eq_false (by omega)
  have s1 : (k : Int) ≤ (a1 : Int) := by omega
  have s2 : (a1 : Int) ≤ (lcap : Int) := by omega
  have s5 : ¬ lcap = k := by omega
  have s7 : a1 - k = 1 := by omega
  generalize ms[k] = m at *
  by_cases hf : ms.length < 256
  · rw [if_pos hf, if_pos hf]
    rw [show sendN [m].length ms.length = 1 by unfold sendN; simp; omega, List.take_of_length_le (by simp)] at HS
    rw [← hn] at c0
    clear h hc hg hLat hLc hone hk ha1 hn hm hf hgR
    go_enter Try.func15, Try.ntmps15
    go_wp2_with fail
    refine HS.out.mono ?_
    rintro e w1 ⟨rfl, hp⟩
    have HP := Lib.hid hp
    clear hp HS
    go_wp2
    go_ret
    exact ⟨rfl, HP.out⟩
  · rw [if_neg hf, if_neg hf]
    rw [show sendN [m].length ms.length = 0 by unfold sendN; simp; omega, List.take_zero, List.append_nil] at HS
    rw [← hn] at c0
    clear h hc hg hLat hLc hone hk ha1 hn hm hf hgR
    go_enter Try.func15, Try.ntmps15
    go_wp2_with fail
    refine HS.out.mono ?_
    rintro e w1 ⟨rfl, hp⟩
    have HP := Lib.hid hp
    clear hp HS
    go_wp2
    go_ret
    exact ⟨rfl, HP.out⟩
theorem rt_twice (base R : Nat) (v : Value) (ms : List MsgV) (k : Int) (w : World) (h : RtS w base R v ms) (hm : ms.length ≤ 256) :
    Calls Try.prog 15 #[.pointer (some ⟨R, 0, none⟩), .int .i64 k] w fun e w' => e = .returned (.int .i64 (twF k ms).2) ∧ RtP w base R v (twF k ms).1 w' := by
  unfold twF
  by_cases hb : hasF k ms.length = true
  · rw [if_pos hb]
    obtain ⟨k0, k1⟩ := hasF_true hb
    obtain ⟨k, rfl⟩ := Int.eq_ofNat_of_zero_le k0
    have hk : k < ms.length := by omega
    have hge : ms[(k : Int).toNat]! = ms[k] := by rw [Int.toNat_natCast]; exact getElem!_pos ms k hk
    rw [hge]
    have := rt_twice_go base R v ms k w h hm hk
    by_cases hf : ms.length < 256
    · rw [if_pos hf, if_pos hf] at this
      rw [if_pos hf]; exact this
    · rw [if_neg hf, if_neg hf] at this
      rw [if_neg hf]; exact this
  · rw [if_neg hb]
    have hs : ∀ e w', e = Ending.returned (.int .i64 3) ∧ w' = w → e = Ending.returned (.int .i64 (ms, (3 : Int)).2) ∧ RtP w base R v (ms, (3 : Int)).1 w' := fun e w' hh => ⟨hh.1, by rw [hh.2]; exact RtP.same h (Below.refl _ _)⟩
    by_cases h0 : k < 0
    · exact (rt_twice_neg base R v ms k w h h0).mono hs
    · refine (rt_twice_far base R v ms k w h ⟨by omega, ?_⟩).mono hs
      unfold hasF at hb
      simp only [decide_eq_true_eq] at hb
      omega
end Go.Proofs.Ytahijpfmpdjceaa
