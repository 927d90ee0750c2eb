/- Plain mathematics: a packet got of a text, place by place. No condition. -/
import Derived.Test.YtkdommljaciahaaBetw
import Derived.Test.YtkdommljaciahaaPkGet
namespace Go.Proofs.Ytkdommljaciahaa
open Go.RowKit
set_option linter.unusedVariables false
theorem raw_step {L : List Nat} {p n : Nat} {r : ByteArray} (h : Between L L.length p r) (hn : p + n ≤ L.length) :
    ∃ t r', WireM.raw 0 r (n : Nat) = (t, 0, r') ∧ nl t = (L.drop p).take n ∧ Between L L.length (p + n) r' := by
  have hl : ((L.drop p).take n).length = n := by rw [List.length_take, List.length_drop]; omega
  have := read_ok h (Nat.le_refl _) ((L.drop p).take n) (List.take_prefix _ _) (by rw [hl]; exact hn)
  rw [hl] at this
  obtain ⟨h1, h2, h3⟩ := this
  exact ⟨_, _, Prod.ext rfl (Prod.ext h2 rfl), h1, h3⟩
theorem raw_fall {L : List Nat} {p n : Nat} {r : ByteArray} (h : Between L L.length p r) (hn : L.length < p + n) (hp : p ≤ L.length) : WireM.raw 0 r (n : Nat) = (⟨#[]⟩, 6, r) :=
  read_no h (Nat.le_refl _) n hn hp
theorem raw_six (r : ByteArray) (n : Int) : WireM.raw 6 r n = (⟨#[]⟩, 6, r) := WireM.raw_stuck 6 r n (by decide)
theorem between_self (s : ByteArray) : Between (nl s) (nl s).length 0 s := by
  unfold Between
  rw [List.take_length, List.drop_zero]
/-- how far a text goes -/
theorem get_six (s : ByteArray) (h : (nl s).length < 19 ∨ (nl s).length < 19 + WireM.val (((nl s).drop 17).take 2)) : (gX 0 s).2.1 = 6 := by
  have h0 := between_self s
  generalize nl s = L at *
  by_cases k1 : L.length < 1
  · have e1 := raw_fall (n := 1) h0 (by omega) (by omega)
    unfold gX gD gC gB gA
    simp only [e1, raw_six]
  obtain ⟨t1, r1, e1, _, h1⟩ := raw_step (n := 1) h0 (by omega)
  rw [Nat.zero_add] at h1
  by_cases k2 : L.length < 9
  · have e2 := raw_fall (n := 8) h1 (by omega) (by omega)
    unfold gX gD gC gB gA
    simp only [e1, e2, raw_six]
  obtain ⟨t2, r2, e2, _, h2⟩ := raw_step (n := 8) h1 (by omega)
  by_cases k3 : L.length < 17
  · have e3 := raw_fall (n := 8) h2 (by omega) (by omega)
    unfold gX gD gC gB gA
    simp only [e1, e2, e3, raw_six]
  obtain ⟨t3, r3, e3, _, h3⟩ := raw_step (n := 8) h2 (by omega)
  by_cases k4 : L.length < 19
  · have e4 := raw_fall (n := 2) h3 (by omega) (by omega)
    unfold gX gD gC gB gA
    simp only [e1, e2, e3, e4, raw_six]
  obtain ⟨t4, r4, e4, v4, h4⟩ := raw_step (n := 2) h3 (by omega)
  have h5 : L.length < 19 + WireM.val (nl t4) := by rw [v4]; exact h.resolve_left k4
  have e5 := raw_fall (n := WireM.val (nl t4)) h4 (by omega) (by omega)
  unfold gX gD gC gB gA
  simp only [e1, e2, e3, e4, e5]
theorem get_all (s : ByteArray) (h : 19 + WireM.val (((nl s).drop 17).take 2) ≤ (nl s).length) :
    (gX 0 s).2.1 = 0 ∧ gP 0 s = ⟨(WireM.val ((nl s).take 1) : Nat), (WireM.val (((nl s).drop 1).take 8) : Nat), (WireM.val (((nl s).drop 9).take 8) : Nat), (gX 0 s).1⟩ ∧
      nl (gX 0 s).1 = ((nl s).drop 19).take (WireM.val (((nl s).drop 17).take 2)) ∧ Between (nl s) (nl s).length (19 + WireM.val (((nl s).drop 17).take 2)) (gX 0 s).2.2 := by
  have h0 := between_self s
  generalize nl s = L at *
  obtain ⟨t1, r1, e1, v1, h1⟩ := raw_step (n := 1) h0 (by omega)
  rw [Nat.zero_add] at h1
  rw [List.drop_zero] at v1
  obtain ⟨t2, r2, e2, v2, h2⟩ := raw_step (n := 8) h1 (by omega)
  obtain ⟨t3, r3, e3, v3, h3⟩ := raw_step (n := 8) h2 (by omega)
  obtain ⟨t4, r4, e4, v4, h4⟩ := raw_step (n := 2) h3 (by omega)
  have v4' : nl t4 = (L.drop 17).take 2 := v4
  obtain ⟨t5, r5, e5, v5, h5⟩ := raw_step (n := WireM.val (nl t4)) h4 (by rw [v4']; omega)
  have hA : gA 0 s = (t1, 0, r1) := e1
  have hB : gB 0 s = (t2, 0, r2) := by unfold gB; rw [hA]; exact e2
  have hC : gC 0 s = (t3, 0, r3) := by unfold gC; rw [hB]; exact e3
  have hD : gD 0 s = (t4, 0, r4) := by unfold gD; rw [hC]; exact e4
  have hX : gX 0 s = (t5, 0, r5) := by unfold gX; rw [hD]; exact e5
  unfold gP
  rw [hX, hA, hB, hC]
  refine ⟨rfl, ?_, ?_, ?_⟩
  · show PkV.mk (WireM.val (nl t1) : Nat) (WireM.val (nl t2) : Nat) (WireM.val (nl t3) : Nat) t5 = _
    rw [v1, v2, v3]
  · show nl t5 = _
    rw [v5, v4']
  · show Between L L.length _ r5
    rw [v4'] at h5
    exact h5
theorem nl_head (s : ByteArray) (h : 0 < s.size) : WireM.val ((nl s).take 1) = s[0].toNat := by
  have := take_succ_nl s 0 h
  rw [List.take_zero] at this
  rw [this]
  simp [WireM.val]
end Go.Proofs.Ytkdommljaciahaa
