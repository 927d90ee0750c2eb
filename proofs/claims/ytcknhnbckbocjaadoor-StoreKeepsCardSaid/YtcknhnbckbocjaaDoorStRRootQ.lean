/- Merged: StRAt, StRRoot. Contracts of the document's At, Root. Condition: sizes. Contract of the document's Root. Condition: sizes. -/
import Derived.WalkSpells
import Derived.Outline
import Derived.Deep.QuietTactic
import Derived.BigQuiet
import Derived.Test.YtcknhnbckbocjaaDoorStRNowQ
import Derived.Test.YtcknhnbckbocjaaDoorStAtQ
import Derived.Test.YtcknhnbckbocjaaDoorRkAQ
namespace Go.Proofs.YtcknhnbckbocjaaDoor
open Go.RowKit
set_option linter.unusedVariables false
section
variable (w : World) (O : Nat → Prop) (B : Nat) (s : StV)
set_option maxRecDepth 100000 in
set_option maxHeartbeats 2000000 in
theorem sr_at (H : Nat) (hH : H < 18446744073709551616) (h : RefP w O B s) (hs : StOk s) : Calls Tryd.prog 20 #[.pointer (some ⟨B, 0, none⟩), .int .u64 (H : Int)] w fun x w' => (∃ A c, x = .returned (.tuple #[.slice A (atV s H).1.length c, .int .i64 (atV s H).2]) ∧ PsO w O A (atV s H).1 ∧ (atV s H).1.length ≤ c) ∧ ∃ n, w' = w.drewN n := by
  have hno : ¬ (s.first ≤ H ∧ H ≤ s.height) → atV s H = ([], 3) := fun h => if_neg h
  have HNIL : Hid (PsO w O none [] ∧ ([] : List PairV).length ≤ 0) := Lib.hid ⟨PsO.nil, Nat.le_refl _⟩
  have HHT := Lib.hid (sr_height w O B s h hs)
  obtain ⟨An, cn, Ab, cb, h⟩ := h
  have c1 := h.c1
  obtain ⟨f, hf⟩ : ∃ f, f = s.first := ⟨_, rfl⟩
  obtain ⟨t, ht⟩ : ∃ t, t = s.height := ⟨_, rfl⟩
  rw [← hf] at c1
  rw [← ht] at HHT
  by_cases f0 : H < f
  · have HE := Lib.hid (hno (by omega))
    have e0 : decide ((H : Int) < (f : Int)) = true := decide_eq_true (by omega)
    have e0' : decide (H < f) = true := decide_eq_true f0
    clear h hs hf ht hno hH f0
    go_enter Tryd.func20, Tryd.ntmps20
    go_wp2
    go_ret2
    rw [HE.out]
    exact ⟨⟨none, 0, rfl, HNIL.out⟩, 0, rfl⟩
  have e0 : decide ((H : Int) < (f : Int)) = false := decide_eq_false (by omega)
  have e0' : decide (H < f) = false := decide_eq_false f0
  by_cases t0 : t < H
  · have HE := Lib.hid (hno (by omega))
    have e1 : decide ((t : Int) < (H : Int)) = true := decide_eq_true (by omega)
    have e1' : decide (t < H) = true := decide_eq_true t0
    clear h hs hf ht hno hH f0 t0
    go_enter Tryd.func20, Tryd.ntmps20
    go_wp2_with fail
    refine HHT.out.mono ?_
    rintro x w1 ⟨rfl, n1, hw1⟩
    have HW := Lib.hid hw1
    clear hw1
    go_wp2
    go_ret2
    rw [HE.out]
    exact ⟨⟨none, 0, rfl, HNIL.out⟩, n1, HW.out⟩
  have e1 : decide ((t : Int) < (H : Int)) = false := decide_eq_false (by omega)
  have e1' : decide (t < H) = false := decide_eq_false t0
  have htop := hs.top
  have hone := hs.one
  have hfew := hs.few
  obtain ⟨i, hi⟩ : ∃ i, i = H - f := ⟨_, rfl⟩
  have hiB : i < s.blks.length := by
    have : t = s.first + (s.blks.length - 1) := ht
    omega
  have HE : Hid (atV s H = (s.blks[i], 0)) := Lib.hid (by
    unfold atV
    rw [if_pos ⟨by omega, by rw [← ht]; omega⟩, ← hf, ← hi, List.getD_eq_getElem?_getD, List.getElem?_eq_getElem hiB]; rfl)
  obtain ⟨g, o, A, c, rfl, hg, hcell, hcap, hps⟩ := h.row i hiB
  obtain ⟨L, hL⟩ : ∃ L, L = s.blks[i] := ⟨_, rfl⟩
  rw [← hL] at HE hcell hcap hps
  have c2 := h.c2
  obtain ⟨q, hq⟩ : ∃ q, q = s.blks.length := ⟨_, rfl⟩
  rw [← hq] at c2 hiB hfew
  have hi0 : (i : Int) < (q : Int) := by omega
  have hi1 : (0 : Int) ≤ (i : Int) := by omega
  have hw1 : IntKind.u64.wrap ((H : Int) - (f : Int)) = (i : Int) := by rw [IntWalk.u64_in _ (by omega)]; omega
  have HC : Hid (∀ n, (w.drewN n).cell? ⟨B, 1, none⟩ = some (.int .u64 (f : Int)) ∧ (w.drewN n).cell? ⟨B, 2, none⟩ = some (.slice (some ⟨g, o, none⟩) q cb) ∧ (w.drewN n).cell? ⟨g, o + i, none⟩ = some (.slice A L.length c)) := Lib.hid (fun n => ⟨c1, c2, hcell⟩)
  have HP := Lib.hid (And.intro hps hcap)
  obtain ⟨m, hm⟩ : ∃ m, m = L.length := ⟨_, rfl⟩
  rw [← hm] at HC
  have HM := Lib.hid hm
  clear h hs hf ht hno hH f0 t0 htop hone hi hL hq hps hcap hg hcell c2 hm
  go_enter Tryd.func20, Tryd.ntmps20
  go_wp2_with fail
  refine HHT.out.mono ?_
  rintro x w1 ⟨rfl, n1, hw1'⟩
  have HW := Lib.hid hw1'
  have d1 := (HC.out n1).1
  have d2 := (HC.out n1).2.1
  have d3 := (HC.out n1).2.2
  rw [← hw1'] at d1 d2 d3
  clear hw1' c1 e0 e0'
  go_wp2
  go_quiet (fail)
  go_wp2
  go_ret2
  rw [HE.out]
  exact ⟨⟨A, c, by rw [← HM.out]; rfl, HP.out⟩, n1 + _, by rw [HW.out]; simp [World.drewN, Nat.add_assoc]; rfl⟩
end
end Go.Proofs.YtcknhnbckbocjaaDoor
namespace Go.Proofs.YtcknhnbckbocjaaDoor
open Go.RowKit
set_option linter.unusedVariables false
section
variable (w : World) (O : Nat → Prop) (B : Nat) (s : StV)
set_option maxRecDepth 100000 in
set_option maxHeartbeats 2000000 in
theorem sr_root (H lo hi P : Nat) (T : List ByteArray) (hH : H < 18446744073709551616) (h : RefP w O B s) (hs : StOk s) (hB : BookW w lo hi P T) (hhi : hi ≤ w.heap.size) (hlo : lo ≤ w.heap.size) (hO : ∀ k, O k → k < lo) (hT : T.length + 2 * (atV s H).1.length < 1000) :
    Calls Tryd.prog 23 #[.pointer (some ⟨B, 0, none⟩), .pointer (some ⟨P, 0, none⟩), .int .u64 (H : Int)] w fun x w' => x = .returned (.tuple #[.string (rootV s H).1, .int .i64 (rootV s H).2]) ∧ Kq.Keeps (fun k => lo ≤ k ∧ k < hi) w w' := by
  have HA := Lib.hid (sr_at w O B s H hH h hs)
  have HS := Lib.hid (atV_small hs H)
  have HC := Lib.hid (atV_cases s H)
  have HB := Lib.hid (And.intro hB (And.intro hhi (And.intro hlo (And.intro hO hT))))
  obtain ⟨r, hr⟩ : ∃ r, r = rootV s H := ⟨_, rfl⟩
  rw [← hr]
  have HR := Lib.hid hr
  clear h hs hr hH hB hhi hlo hO hT
  go_enter Tryd.func23, Tryd.ntmps23
  go_wp2_with fail
  refine HA.out.mono ?_
  rintro x w1 ⟨⟨A, c, rfl, hps, hcap⟩, n1, hw1⟩
  have hb : Below w.heap.size w w1 := by rw [hw1]; exact below_drewN (Below.refl _ _) n1
  obtain ⟨l, hl⟩ : ∃ l, l = (atV s H).1 := ⟨_, rfl⟩
  rw [← hl] at hcap hps ⊢
  have HP := Lib.hid (And.intro hb (And.intro hcap (And.intro hps hl)))
  have HK : Hid (Kq.Keeps (fun k => lo ≤ k ∧ k < hi) w w1) := Lib.hid (Kq.Keeps.of_below hb (fun k h1 h2 => absurd h2 (Nat.not_lt.2 h1)))
  rcases HC.out with ⟨e, -⟩ | e
  · have HE : Hid (r = (rootP l, 0)) := Lib.hid (by rw [HR.out]; unfold rootV; rw [if_pos e, hl])
    have HLO : Hid (PsLo w1 lo A l) := Lib.hid (fun j hj => by
      obtain ⟨b, off, e1, h1, h2, h3⟩ := hps.at_ j hj
      have h4 := HB.out.2.2.2.1 b (hps.o b off e1).1
      exact ⟨b, off, e1, h4, Nat.lt_of_lt_of_le h1 hb.size, (hb.cell (p := ⟨b, off + j * 2, none⟩) h1).trans h2, (hb.cell (p := ⟨b, off + j * 2 + 1, none⟩) h1).trans h3⟩)
    rw [e]
    clear e hl hcap hps hb hw1 HA HC
    go_wp2_with fail
    refine (rk_root lo hi P T l A c w1 (by have := HS.out.1; rw [← HP.out.2.2.2] at this; omega) (by have := HS.out.fit; rw [← HP.out.2.2.2] at this; exact this) HLO.out (HB.out.1.below HP.out.1) (Nat.le_trans HB.out.2.1 HP.out.1.size) (Nat.le_trans HB.out.2.2.1 HP.out.1.size) HP.out.2.1 (by have := HB.out.2.2.2.2; rw [← HP.out.2.2.2] at this; exact this)).mono ?_
    rintro x w2 ⟨rfl, hbk, hkp⟩
    have HF := Lib.hid (HK.out.trans hkp)
    clear hbk hkp
    go_wp2
    go_ret2
    exact ⟨by rw [HE.out]; rfl, HF.out⟩
  · have HE : Hid (r = (⟨#[]⟩, 3)) := Lib.hid (by rw [HR.out]; unfold rootV; rw [e]; rfl)
    rw [e]
    clear e hl hcap hps hb hw1 HA HC
    go_wp2
    go_ret2
    exact ⟨by rw [HE.out]; rfl, HK.out⟩
end
end Go.Proofs.YtcknhnbckbocjaaDoor
