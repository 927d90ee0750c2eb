/- carracklaw07.WalPlays walked. No condition. -/
import Derived.WalkSpells
import Derived.Outline
import Derived.Deep.QuietTactic
import Derived.Deep.RegionHeld
import Derived.Test.YtbpgfhcecanikaaGreatWrGQ
import Derived.Test.YtbpgfhcecanikaaGreatWlIQ
import Derived.Test.YtbpgfhcecanikaaGreatHeldMonoQ
namespace Go.Proofs.YtbpgfhcecanikaaGreat.walPlays
open Go.RowKit
set_option linter.unusedVariables false
set_option maxRecDepth 100000 in
set_option maxHeartbeats 1000000 in
theorem many (a b : Int) (A : Option Addr) (cap : Nat) (l : List ActW) (n : Int) (W : World) (hc : ActsAtW W A l) (hf : ¬ fewW a b l) :
    Calls Tryz.prog 3 #[.int .i64 a, .int .i64 b, .slice A l.length cap, .int .i64 n] W fun x w' => x = .returned (.bool true) ∧ Below W.heap.size W w' := by
  have H := Lib.hid (And.intro hc hf)
  clear hc hf
  go_enter Tryz.func3, Tryz.ntmps3
  go_wp2_with fail
  refine (lw_awake _).mono ?_
  rintro x w1 ⟨rfl, b1⟩
  have H1 := Lib.hid b1
  clear b1
  go_wp2_with fail
  refine (lw_few a b A cap l _ (H.out.1.later H1.out) false (by simpa using H.out.2)).mono ?_
  rintro x w2 ⟨rfl, rfl⟩
  go_wp2
  go_ret
  exact ⟨rfl, H1.out⟩
theorem PrG.up {W w : World} {A : PairA} {a b N K N' K' : Nat} (h : PrG W w A a b N K) (hN : N ≤ N') (hK : K ≤ K') : PrG W w A a b N' K' := by
  obtain ⟨ws, ar, st, o, e, rl, h1, h2, h3⟩ := h
  exact ⟨ws, ar, st, o, e, rl, h1.up hN, h2.up hK, h3⟩
/-- an act's cells, the pair's two disks -/
def P11 (w : World) (g o : Nat) (c : ActW) (A : PairA) : Prop := w.cell? ⟨g, o, none⟩ = some (.int .i64 c.kind) ∧ w.cell? ⟨g, o + 1, none⟩ = some (.int .i64 c.n) ∧ w.cell? ⟨g, o + 2, none⟩ = some (.string c.s) ∧ w.cell? ⟨g, o + 3, none⟩ = some (.slice c.la c.l.length c.lcap) ∧ w.cell? ⟨g, o + 4, none⟩ = some (.slice c.ta c.t.length c.tcap) ∧ w.cell? ⟨A.P, 0, none⟩ = some (.pointer (some ⟨A.D, 0, none⟩)) ∧ w.cell? ⟨A.P, 4, none⟩ = some (.pointer (some ⟨A.R, 0, none⟩))
theorem p11 {W w : World} {A : PairA} {a b N K g o : Nat} {c : ActW} (h : PrG W w A a b N K) (hc : IsActW W g o c) (hg : g < W.heap.size) : P11 w g o c A := by
  obtain ⟨ws, ar, st, o', e, rl, ⟨bufD, bufR, vl, vq, LA, cap, hp, _, _⟩, h2, h3⟩ := h
  have hc' := hc.later hp.bel hg
  exact ⟨hc'.c0, hc'.c1, hc'.c2, hc'.c3, hc'.c4, hp.c0, hp.c4⟩
theorem PrG.bel {W w : World} {A : PairA} {a b N K : Nat} (h : PrG W w A a b N K) : Below W.heap.size W w := by
  obtain ⟨ws, ar, st, o', e, rl, ⟨bufD, bufR, vl, vq, LA, cap, hp, _, _⟩, h2, h3⟩ := h
  exact hp.bel
theorem PrG.drew {W w : World} {A : PairA} {a b N K : Nat} (h : PrG W w A a b N K) : PrG W w.drew A a b N K := by
  obtain ⟨ws, ar, st, o', e, rl, h1, h2, h3⟩ := h
  exact ⟨ws, ar, st, o', e, rl, h1.below (Below.refl _ _).drew, h2, h3⟩
set_option maxRecDepth 100000 in
set_option maxHeartbeats 8000000 in
theorem few_ (a b : Nat) (A0 : Option Addr) (cap : Nat) (l : List ActW) (n : Int) (W : World) (hc : ActsAtW W A0 l) (hf : fewW a b l) :
    Calls Tryz.prog 3 #[.int .i64 (a : Int), .int .i64 (b : Int), .slice A0 l.length cap, .int .i64 n] W fun x w' => x = .returned (.bool true) ∧ Below W.heap.size W w' := by
  have H := Lib.hid (And.intro hc hf)
  have hA : 64 ≤ a ∧ a ≤ 128 := ⟨by have := hf.1; omega, by have := hf.2.1; omega⟩
  have hB : 1 ≤ b ∧ b ≤ 40 := ⟨by have := hf.2.2.1; omega, by have := hf.2.2.2.1; omega⟩
  have hab : a * b ≤ 128 * 40 := Nat.mul_le_mul hA.2 hB.2
  have hsg : segN b * a ≤ 20 * 128 := Nat.mul_le_mul (by unfold segN; omega) hA.2
  have HZ : Hid (Siz a b ∧ b ≤ 40) := Lib.hid ⟨⟨hA.1, by omega, hB.1, by omega, by omega, by omega⟩, hB.2⟩
  have HL : Hid (l.length ≤ 40) := Lib.hid hf.2.2.2.2.1
  clear hc hf hA hB hab hsg
  go_enter Tryz.func3, Tryz.ntmps3
  go_wp2_with fail
  refine (lw_awake _).mono ?_
  rintro x w1 ⟨rfl, b1⟩
  have H1 := Lib.hid b1
  clear b1
  go_wp2_with fail
  refine (lw_few a b A0 cap l _ (H.out.1.later H1.out) true (by simpa using H.out.2)).mono ?_
  rintro x w2 ⟨rfl, rfl⟩
  go_wp2_with fail
  refine (pr_made a b w1 HZ.out.1 (by have := HZ.out.2; omega)).mono ?_
  rintro x w2 ⟨A, rfl, hI⟩
  have hZ0 : StOk a b 0 [] 0 (List.replicate (a * b) 0) := ⟨WsOk.nil a b, List.length_replicate .., fun x hx => by rw [List.eq_of_mem_replicate hx]; decide, Nat.zero_le _, Nat.zero_le _⟩
  have HG : Hid (PrG w1 w2 A a b 1 1) := Lib.hid (PrG.of hI hZ0 HZ.out.1 (by omega))
  have HC := Lib.hid (H.out.1.later H1.out)
  have HFF := Lib.hid H.out.2
  clear hI hZ0 H
  go_wp2
  go_loopw [10] (fun i wr => ∃ j : Nat, j ≤ l.length ∧ i = .int .i64 (j : Int) ∧ PrG w1 wr A a b (1 + 12400 * j) (1 + 300 * j)) (fun i _ => l.length - (intOf i).toNat)
  case atStart => exact ⟨0, Nat.zero_le _, rfl, HG.out⟩
  case round =>
    obtain ⟨j, hj, rfl, hg⟩ := hrel
    have HP := Lib.hid hg
    clear hg
    have hl40 := HL.out
    by_cases hlt : j < l.length
    · have hi0 : (j : Int) < (l.length : Int) := by omega
      have hd : decide ((j : Int) < (l.length : Int)) = true := decide_eq_true hi0
      have hd' : decide (j < l.length) = true := decide_eq_true hlt
      have hww : wrap64 ((j : Int) + 1) = ((j + 1 : Nat) : Int) := by rw [IntWalk.wrap64_in _ (by omega)]; omega
      obtain ⟨g, o, rfl, hgl, hact⟩ := HC.out j hlt
      obtain ⟨f1, f2, f3⟩ := HFF.out.2.2.2.2.2 j hlt
      obtain ⟨c, hcc⟩ : ∃ c, c = l[j] := ⟨_, rfl⟩
      rw [← hcc] at hact f1 f2 f3
      have HA := Lib.hid (And.intro hact (And.intro hgl (And.intro f1 (And.intro f2 f3))))
      have HLT := Lib.hid hlt
      have HPd := Lib.hid (PrG.drew HP.out)
      clear hact hgl f1 f2 f3 hcc hlt
      go_wp2_with fail
      refine wp_region_held_drew (S := fun w' => P11 w' g (o + j * 5) c A) (by kernel_rfl) (p11 HPd.out HA.out.1 HA.out.2.1) (fun hS0 => ?_)
      generalize wr.drew = wd at *
      unfold P11 at hS0
      dsimp only [P11]
      refine wpAnyH_take (i := 0) (v := ?_) rfl (by kernel_rfl) (by kernel_rfl) (by kernel_rfl) (fun _ _ _ h => h) (Or.inl ⟨by kernel_rfl, ?_⟩) (by assumption) ?_
      rotate_left
      · intro w hSw; (try dsimp only at hSw); go_simp; (try with_reducible rfl)
      refine wpAnyH_take (i := 1) (v := ?_) rfl (by kernel_rfl) (by kernel_rfl) (by kernel_rfl) (fun _ _ _ h => h) (Or.inl ⟨by kernel_rfl, ?_⟩) (by assumption) ?_
      rotate_left
      · intro w hSw; (try dsimp only at hSw); go_simp; (try with_reducible rfl)
      refine wpAnyH_take (i := 2) (v := ?_) rfl (by kernel_rfl) (by kernel_rfl) (by kernel_rfl) (fun _ _ _ h => h) (Or.inl ⟨by kernel_rfl, ?_⟩) (by assumption) ?_
      rotate_left
      · intro w hSw; (try dsimp only at hSw); go_simp; (try with_reducible rfl)
      refine wpAnyH_take (i := 3) (v := ?_) rfl (by kernel_rfl) (by kernel_rfl) (by kernel_rfl) (fun _ _ _ h => h) (Or.inl ⟨by kernel_rfl, ?_⟩) (by assumption) ?_
      rotate_left
      · intro w hSw; (try dsimp only at hSw); go_simp; (try with_reducible rfl)
      refine wpAnyH_take (i := 4) (v := ?_) rfl (by kernel_rfl) (by kernel_rfl) (by kernel_rfl) (fun _ _ _ h => h) (Or.inl ⟨by kernel_rfl, ?_⟩) (by assumption) ?_
      rotate_left
      · intro w hSw; (try dsimp only at hSw); go_simp; (try with_reducible rfl)
      refine wpAnyH_ready (rs := [5]) (by kernel_rfl) (by simp) ?_
      refine AllReadyH.cons rfl (fun K hK => ?_) AllReadyH.nil
      go_simp
      refine (pr_do HPd.out HZ.out.1 (by omega) (by omega) c HA.out.2.2.1 HA.out.2.2.2.1 HA.out.2.2.2.2 HA.out.1.w1 HA.out.1.bo HA.out.1.ti).mono ?_
      rintro x w3 ⟨rfl, hg3⟩
      have HG3 : Hid (PrG w1 w3 A a b (1 + 12400 * (j + 1)) (1 + 300 * (j + 1))) := Lib.hid (PrG.up hg3 (by omega) (by omega))
      have hcc := p11 HG3.out HA.out.1 HA.out.2.1
      clear hS0 hg3
      refine hK.out _ _ hcc (fun hS0 => ?_)
      clear hK K hS0
      obtain ⟨ws, ar, st, ov, e, rl, ⟨bufD, bufR, vl, vq, LA, lcap, hp, hv1, hv2⟩, hst, hvo⟩ := HG3.out
      obtain ⟨A6, cap6, hb6⟩ := hp.r.shape
      subst hb6
      have HPS := Lib.hid hp
      have HS := Lib.hid (And.intro hst hvo)
      have HV := Lib.hid (And.intro hv1 hv2)
      obtain ⟨T, hT⟩ : ∃ T, T = txt st := ⟨_, rfl⟩
      have HT := Lib.hid hT
      refine Kq.wpAnyH_mono (S' := fun w' => P11 w' g (o + j * 5) c A ∧ w'.cell? ⟨A.R, 2, none⟩ = some (.string T) ∧ w'.cell? ⟨A.R, 3, none⟩ = some (.slice A6 ws.length cap6)) (fun _ h => h.1) _ _ _ _ ?_
      have hS1 : P11 w3 g (o + j * 5) c A ∧ w3.cell? ⟨A.R, 2, none⟩ = some (.string T) ∧ w3.cell? ⟨A.R, 3, none⟩ = some (.slice A6 ws.length cap6) := ⟨hcc, by rw [hT]; exact hp.r.c2, hp.r.c3⟩
      have HS1 := Lib.hid hS1
      clear hcc hp hst hvo hv1 hv2 hT
      unfold P11 at hS1
      dsimp only [P11]
      refine wpAnyH_take (i := 6) (v := ?_) rfl (by kernel_rfl) (by kernel_rfl) (by kernel_rfl) (fun _ _ _ h => h) (Or.inl ⟨by kernel_rfl, ?_⟩) (by assumption) ?_
      rotate_left
      · intro w hSw; (try dsimp only at hSw); go_simp; (try with_reducible rfl)
      refine wpAnyH_take (i := 7) (v := ?_) rfl (by kernel_rfl) (by kernel_rfl) (by kernel_rfl) (fun _ _ _ h => h) (Or.inl ⟨by kernel_rfl, ?_⟩) (by assumption) ?_
      rotate_left
      · intro w hSw; (try dsimp only at hSw); go_simp; (try with_reducible rfl)
      refine wpAnyH_take (i := 8) (v := ?_) rfl (by kernel_rfl) (by kernel_rfl) (by kernel_rfl) (fun _ _ _ h => h) (Or.inl ⟨by kernel_rfl, ?_⟩) (by assumption) ?_
      rotate_left
      · intro w hSw; (try dsimp only at hSw); go_simp; (try with_reducible rfl)
      refine wpAnyH_take (i := 9) (v := ?_) rfl (by kernel_rfl) (by kernel_rfl) (by kernel_rfl) (fun _ _ _ h => h) (Or.inl ⟨by kernel_rfl, ?_⟩) (by assumption) ?_
      rotate_left
      · intro w hSw; (try dsimp only at hSw); go_simp; (try with_reducible rfl)
      refine wpAnyH_take (i := 10) (v := ?_) rfl (by kernel_rfl) (by kernel_rfl) (by kernel_rfl) (fun _ _ _ h => h) (Or.inl ⟨by kernel_rfl, ?_⟩) (by assumption) ?_
      rotate_left
      · intro w hSw; (try dsimp only at hSw); go_simp; (try with_reducible rfl)
      refine wpAnyH_take (i := 11) (v := ?_) rfl (by kernel_rfl) (by kernel_rfl) (by kernel_rfl) (fun _ _ _ h => h) (Or.inl ⟨by kernel_rfl, ?_⟩) (by assumption) ?_
      rotate_left
      · intro w hSw; (try dsimp only at hSw); go_simp; (try with_reducible rfl)
      refine wpAnyH_take (i := 13) (v := ?_) rfl (by kernel_rfl) (by kernel_rfl) (by kernel_rfl) (fun _ _ _ h => h) (Or.inl ⟨by kernel_rfl, ?_⟩) (by assumption) ?_
      rotate_left
      · intro w hSw; (try dsimp only at hSw); go_simp; (try with_reducible rfl)
      refine wpAnyH_take (i := 14) (v := ?_) rfl (by kernel_rfl) (by kernel_rfl) (by kernel_rfl) (fun _ _ _ h => h) (Or.inl ⟨by kernel_rfl, ?_⟩) (by assumption) ?_
      rotate_left
      · intro w hSw; (try dsimp only at hSw); go_simp; (try with_reducible rfl)
      refine wpAnyH_take (i := 15) (v := ?_) rfl (by kernel_rfl) (by kernel_rfl) (by kernel_rfl) (fun _ _ _ h => h) (Or.inl ⟨by kernel_rfl, ?_⟩) (by assumption) ?_
      rotate_left
      · intro w hSw; (try dsimp only at hSw); go_simp; (try with_reducible rfl)
      refine wpAnyH_take (i := 16) (v := ?_) rfl (by kernel_rfl) (by kernel_rfl) (by kernel_rfl) (fun _ _ _ h => h) (Or.inl ⟨by kernel_rfl, ?_⟩) (by assumption) ?_
      rotate_left
      · intro w hSw; (try dsimp only at hSw); go_simp; (try with_reducible rfl)
      refine wpAnyH_take (i := 17) (v := ?_) rfl (by kernel_rfl) (by kernel_rfl) (by kernel_rfl) (fun _ _ _ h => h) (Or.inl ⟨by kernel_rfl, ?_⟩) (by assumption) ?_
      rotate_left
      · intro w hSw; (try dsimp only at hSw); go_simp; (try with_reducible rfl)
      refine wpAnyH_take (i := 18) (v := ?_) rfl (by kernel_rfl) (by kernel_rfl) (by kernel_rfl) (fun _ _ _ h => h) (Or.inl ⟨by kernel_rfl, ?_⟩) (by assumption) ?_
      rotate_left
      · intro w hSw; (try dsimp only at hSw); go_simp; (try with_reducible rfl)
      refine wpAnyH_take (i := 19) (v := ?_) rfl (by kernel_rfl) (by kernel_rfl) (by kernel_rfl) (fun _ _ _ h => h) (Or.inl ⟨by kernel_rfl, ?_⟩) (by assumption) ?_
      rotate_left
      · intro w hSw; (try dsimp only at hSw); go_simp; (try with_reducible rfl)
      refine wpAnyH_ready (rs := [12]) (by kernel_rfl) (by simp) ?_
      refine AllReadyH.cons rfl (fun K hK => ?_) AllReadyH.nil
      go_simp
      have hst := dk_stable A.D A.S st w3 HPS.out.d.d.c2 HPS.out.d.s HS.out.1.lt
      rw [← HT.out] at hst
      refine hst.mono ?_
      clear hst
      rintro x w7 ⟨rfl, rfl⟩
      refine hK.out _ _ HS1.out (fun hS2 => ?_)
      clear hK K hS2
      refine wpAnyH_take (i := 20) (v := ?_) rfl (by kernel_rfl) (by kernel_rfl) (by kernel_rfl) (fun _ _ _ h => h) (Or.inl ⟨by kernel_rfl, ?_⟩) (by assumption) ?_
      rotate_left
      · intro w hSw; (try dsimp only at hSw); go_simp; (try with_reducible rfl)
      refine wpAnyH_take (i := 21) (v := ?_) rfl (by kernel_rfl) (by kernel_rfl) (by kernel_rfl) (fun _ _ _ h => h) (Or.inl ⟨by kernel_rfl, ?_⟩) (by assumption) ?_
      rotate_left
      · intro w hSw; (try dsimp only at hSw); go_simp; (try with_reducible rfl)
      refine wpAnyH_take (i := 22) (v := ?_) rfl (by kernel_rfl) (by kernel_rfl) (by kernel_rfl) (fun _ _ _ h => h) (Or.inl ⟨by kernel_rfl, ?_⟩) (by assumption) ?_
      rotate_left
      · intro w hSw; (try dsimp only at hSw); go_simp; (try with_reducible rfl)
      refine wpAnyH_take (i := 23) (v := ?_) rfl (by kernel_rfl) (by kernel_rfl) (by kernel_rfl) (fun _ _ _ h => h) (Or.inl ⟨by kernel_rfl, ?_⟩) (by assumption) ?_
      rotate_left
      · intro w hSw; (try dsimp only at hSw); go_simp; (try with_reducible rfl)
      refine wpAnyH_take (i := 24) (v := ?_) rfl (by kernel_rfl) (by kernel_rfl) (by kernel_rfl) (fun _ _ _ h => h) (Or.inl ⟨by kernel_rfl, ?_⟩) (by assumption) ?_
      rotate_left
      · intro w hSw; (try dsimp only at hSw); go_simp; (try with_reducible rfl)
      refine wpAnyH_take (i := 25) (v := ?_) rfl (by kernel_rfl) (by kernel_rfl) (by kernel_rfl) (fun _ _ _ h => h) (Or.inl ⟨by kernel_rfl, ?_⟩) (by assumption) ?_
      rotate_left
      · intro w hSw; (try dsimp only at hSw); go_simp; (try with_reducible rfl)
      refine wpAnyH_take (i := 26) (v := ?_) rfl (by kernel_rfl) (by kernel_rfl) (by kernel_rfl) (fun _ _ _ h => h) (Or.inl ⟨by kernel_rfl, ?_⟩) (by assumption) ?_
      rotate_left
      · intro w hSw; (try dsimp only at hSw); go_simp; (try with_reducible rfl)
      refine wpAnyH_take (i := 28) (v := ?_) rfl (by kernel_rfl) (by kernel_rfl) (by kernel_rfl) (fun _ _ _ h => h) (Or.inl ⟨by kernel_rfl, ?_⟩) (by assumption) ?_
      rotate_left
      · intro w hSw; (try dsimp only at hSw); go_simp; (try with_reducible rfl)
      refine wpAnyH_take (i := 29) (v := ?_) rfl (by kernel_rfl) (by kernel_rfl) (by kernel_rfl) (fun _ _ _ h => h) (Or.inl ⟨by kernel_rfl, ?_⟩) (by assumption) ?_
      rotate_left
      · intro w hSw; (try dsimp only at hSw); go_simp; (try with_reducible rfl)
      refine wpAnyH_take (i := 30) (v := ?_) rfl (by kernel_rfl) (by kernel_rfl) (by kernel_rfl) (fun _ _ _ h => h) (Or.inl ⟨by kernel_rfl, ?_⟩) (by assumption) ?_
      rotate_left
      · intro w hSw; (try dsimp only at hSw); go_simp; (try with_reducible rfl)
      refine wpAnyH_take (i := 31) (v := ?_) rfl (by kernel_rfl) (by kernel_rfl) (by kernel_rfl) (fun _ _ _ h => h) (Or.inl ⟨by kernel_rfl, ?_⟩) (by assumption) ?_
      rotate_left
      · intro w hSw; (try dsimp only at hSw); go_simp; (try with_reducible rfl)
      refine wpAnyH_take (i := 32) (v := ?_) rfl (by kernel_rfl) (by kernel_rfl) (by kernel_rfl) (fun _ _ _ h => h) (Or.inl ⟨by kernel_rfl, ?_⟩) (by assumption) ?_
      rotate_left
      · intro w hSw; (try dsimp only at hSw); go_simp; (try with_reducible rfl)
      refine wpAnyH_take (i := 33) (v := ?_) rfl (by kernel_rfl) (by kernel_rfl) (by kernel_rfl) (fun _ _ _ h => h) (Or.inl ⟨by kernel_rfl, ?_⟩) (by assumption) ?_
      rotate_left
      · intro w hSw; (try dsimp only at hSw); go_simp; (try with_reducible rfl)
      refine wpAnyH_take (i := 34) (v := ?_) rfl (by kernel_rfl) (by kernel_rfl) (by kernel_rfl) (fun _ _ _ h => h) (Or.inl ⟨by kernel_rfl, ?_⟩) (by assumption) ?_
      rotate_left
      · intro w hSw; (try dsimp only at hSw); go_simp; (try with_reducible rfl)
      refine wpAnyH_take (i := 35) (v := ?_) rfl (by kernel_rfl) (by kernel_rfl) (by kernel_rfl) (fun _ _ _ h => h) (Or.inl ⟨by kernel_rfl, ?_⟩) (by assumption) ?_
      rotate_left
      · intro w hSw; (try dsimp only at hSw); go_simp; (try with_reducible rfl)
      refine wpAnyH_ready (rs := [27]) (by kernel_rfl) (by simp) ?_
      refine AllReadyH.cons rfl (fun K hK => ?_) AllReadyH.nil
      go_simp
      obtain ⟨AD, capD, hbD⟩ := HPS.out.d.d.shape
      refine (dk_buffered A.D AD ws.length capD w3 (by have := HPS.out.d.d.c3; rw [hbD] at this; exact this)).mono ?_
      clear hbD
      rintro x w7 ⟨rfl, rfl⟩
      refine hK.out _ _ HS1.out (fun hS2 => ?_)
      clear hK K hS2
      refine wpAnyH_take (i := 36) (v := ?_) rfl (by kernel_rfl) (by kernel_rfl) (by kernel_rfl) (fun _ _ _ h => h) (Or.inl ⟨by kernel_rfl, ?_⟩) (by assumption) ?_
      rotate_left
      · intro w hSw; (try dsimp only at hSw); go_simp; (try with_reducible rfl)
      refine wpAnyH_take (i := 37) (v := ?_) rfl (by kernel_rfl) (by kernel_rfl) (by kernel_rfl) (fun _ _ _ h => h) (Or.inl ⟨by kernel_rfl, ?_⟩) (by assumption) ?_
      rotate_left
      · intro w hSw; (try dsimp only at hSw); go_simp; (try with_reducible rfl)
      refine wpAnyH_done (by kernel_rfl) ?_ _
      clear hS1
      go_simp
      have p1 := HPS.out.c1
      have p5 := HPS.out.c5
      cases ov with
      | none =>
        obtain rfl : vl = none := by simpa using HV.out.1
        obtain rfl : vq = none := by simpa using HV.out.2
        unfold ptrO at p1 p5
        simp only at p1 p5
        go_wp2
        rw [hww] at *
        go_roundw
        case rel => exact ⟨j + 1, HLT.out, rfl, HG3.out⟩
        case measure => have := HLT.out; simp [intOf]; omega
      | some v =>
        obtain ⟨⟨L, v1⟩, rfl, he1⟩ : ∃ x, vl = some x ∧ x.2 = v := by
          cases vl with
          | none => cases HV.out.1
          | some x => exact ⟨x, rfl, by simpa using HV.out.1⟩
        obtain ⟨⟨Q, v2⟩, rfl, he2⟩ : ∃ x, vq = some x ∧ x.2 = v := by
          cases vq with
          | none => cases HV.out.2
          | some x => exact ⟨x, rfl, by simpa using HV.out.2⟩
        simp only at he1 he2
        subst he1 he2
        have HVO := Lib.hid (HS.out.2 _ rfl)
        have hu : v2.used ≤ 3000 := by
          have h1 := HVO.out.1.used
          have h2 := HZ.out.2
          unfold segN at h1
          omega
        have HU := Lib.hid hu
        clear hu HV
        unfold ptrO at p1 p5
        simp only at p1 p5
        have HPd4 : Hid (PrS w1 w3.drew A a b (1 + 12400 * (j + 1)) bufD ws ar st (some (L, v2)) (.slice A6 ws.length cap6) ws ar st (some (Q, v2)) (pcells A (.pointer (some ⟨L, 0, none⟩)) e (.slice LA rl.length lcap) (.pointer (some ⟨Q, 0, none⟩))) LA rl) := Lib.hid HPS.out.drew
        go_wp2_with fail
        refine wp_region_held_drew (S := fun w' => w'.cell? ⟨A.P, 1, none⟩ = some (.pointer (some ⟨L, 0, none⟩)) ∧ w'.cell? ⟨A.P, 5, none⟩ = some (.pointer (some ⟨Q, 0, none⟩))) (by kernel_rfl) ⟨HPd4.out.c1, HPd4.out.c5⟩ (fun hS0 => ?_)
        generalize w3.drew = w4 at *
        refine wpAnyH_take (i := 0) (v := ?_) rfl (by kernel_rfl) (by kernel_rfl) (by kernel_rfl) (fun _ _ _ h => h) (Or.inl ⟨by kernel_rfl, ?_⟩) (by assumption) ?_
        rotate_left
        · intro w hSw; (try dsimp only at hSw); go_simp; (try with_reducible rfl)
        refine wpAnyH_take (i := 1) (v := ?_) rfl (by kernel_rfl) (by kernel_rfl) (by kernel_rfl) (fun _ _ _ h => h) (Or.inl ⟨by kernel_rfl, ?_⟩) (by assumption) ?_
        rotate_left
        · intro w hSw; (try dsimp only at hSw); go_simp; (try with_reducible rfl)
        refine wpAnyH_take (i := 2) (v := ?_) rfl (by kernel_rfl) (by kernel_rfl) (by kernel_rfl) (fun _ _ _ h => h) (Or.inl ⟨by kernel_rfl, ?_⟩) (by assumption) ?_
        rotate_left
        · intro w hSw; (try dsimp only at hSw); go_simp; (try with_reducible rfl)
        refine wpAnyH_take (i := 3) (v := ?_) rfl (by kernel_rfl) (by kernel_rfl) (by kernel_rfl) (fun _ _ _ h => h) (Or.inl ⟨by kernel_rfl, ?_⟩) (by assumption) ?_
        rotate_left
        · intro w hSw; (try dsimp only at hSw); go_simp; (try with_reducible rfl)
        refine wpAnyH_take (i := 4) (v := ?_) rfl (by kernel_rfl) (by kernel_rfl) (by kernel_rfl) (fun _ _ _ h => h) (Or.inl ⟨by kernel_rfl, ?_⟩) (by assumption) ?_
        rotate_left
        · intro w hSw; (try dsimp only at hSw); go_simp; (try with_reducible rfl)
        refine wpAnyH_take (i := 5) (v := ?_) rfl (by kernel_rfl) (by kernel_rfl) (by kernel_rfl) (fun _ _ _ h => h) (Or.inl ⟨by kernel_rfl, ?_⟩) (by assumption) ?_
        rotate_left
        · intro w hSw; (try dsimp only at hSw); go_simp; (try with_reducible rfl)
        refine wpAnyH_take (i := 6) (v := ?_) rfl (by kernel_rfl) (by kernel_rfl) (by kernel_rfl) (fun _ _ _ h => h) (Or.inl ⟨by kernel_rfl, ?_⟩) (by assumption) ?_
        rotate_left
        · intro w hSw; (try dsimp only at hSw); go_simp; (try with_reducible rfl)
        refine wpAnyH_take (i := 7) (v := ?_) rfl (by kernel_rfl) (by kernel_rfl) (by kernel_rfl) (fun _ _ _ h => h) (Or.inl ⟨by kernel_rfl, ?_⟩) (by assumption) ?_
        rotate_left
        · intro w hSw; (try dsimp only at hSw); go_simp; (try with_reducible rfl)
        refine wpAnyH_take (i := 8) (v := ?_) rfl (by kernel_rfl) (by kernel_rfl) (by kernel_rfl) (fun _ _ _ h => h) (Or.inl ⟨by kernel_rfl, ?_⟩) (by assumption) ?_
        rotate_left
        · intro w hSw; (try dsimp only at hSw); go_simp; (try with_reducible rfl)
        refine wpAnyH_take (i := 9) (v := ?_) rfl (by kernel_rfl) (by kernel_rfl) (by kernel_rfl) (fun _ _ _ h => h) (Or.inl ⟨by kernel_rfl, ?_⟩) (by assumption) ?_
        rotate_left
        · intro w hSw; (try dsimp only at hSw); go_simp; (try with_reducible rfl)
        refine wpAnyH_done (by kernel_rfl) ?_ _
        clear hS0 p1 p5
        go_simp
        have HP5 := Lib.hid HPd4.out.drew
        have hq : w4.drew.cell? ⟨Q, 7, none⟩ = some (.bool v2.broken) ∧ w4.drew.cell? ⟨Q, 6, none⟩ = some (.bool v2.ready) ∧ w4.drew.cell? ⟨Q, 1, none⟩ = some (.int .u64 v2.g) ∧ w4.drew.cell? ⟨Q, 4, none⟩ = some (.int .i64 v2.used) ∧ w4.drew.cell? ⟨A.P, 4, none⟩ = some (.pointer (some ⟨A.R, 0, none⟩)) := ⟨HP5.out.rv.c7, HP5.out.rv.c6, HP5.out.rv.c1, HP5.out.rv.c4, HP5.out.c4⟩
        go_wp2_with fail
        refine wp_region_held_drew (S := fun w' => w'.cell? ⟨Q, 7, none⟩ = some (.bool v2.broken) ∧ w'.cell? ⟨Q, 6, none⟩ = some (.bool v2.ready) ∧ w'.cell? ⟨Q, 1, none⟩ = some (.int .u64 v2.g) ∧ w'.cell? ⟨Q, 4, none⟩ = some (.int .i64 v2.used) ∧ w'.cell? ⟨A.P, 4, none⟩ = some (.pointer (some ⟨A.R, 0, none⟩))) (by kernel_rfl) hq (fun hS0 => ?_)
        clear hq
        generalize w4.drew = w5 at *
        have HS0 := Lib.hid hS0
        refine wpAnyH_take (i := 0) (v := ?_) rfl (by kernel_rfl) (by kernel_rfl) (by kernel_rfl) (fun _ _ _ h => h) (Or.inl ⟨by kernel_rfl, ?_⟩) (by assumption) ?_
        rotate_left
        · intro w hSw; (try dsimp only at hSw); go_simp; (try with_reducible rfl)
        refine wpAnyH_take (i := 2) (v := ?_) rfl (by kernel_rfl) (by kernel_rfl) (by kernel_rfl) (fun _ _ _ h => h) (Or.inl ⟨by kernel_rfl, ?_⟩) (by assumption) ?_
        rotate_left
        · intro w hSw; (try dsimp only at hSw); go_simp; (try with_reducible rfl)
        refine wpAnyH_take (i := 3) (v := ?_) rfl (by kernel_rfl) (by kernel_rfl) (by kernel_rfl) (fun _ _ _ h => h) (Or.inl ⟨by kernel_rfl, ?_⟩) (by assumption) ?_
        rotate_left
        · intro w hSw; (try dsimp only at hSw); go_simp; (try with_reducible rfl)
        refine wpAnyH_take (i := 4) (v := ?_) rfl (by kernel_rfl) (by kernel_rfl) (by kernel_rfl) (fun _ _ _ h => h) (Or.inl ⟨by kernel_rfl, ?_⟩) (by assumption) ?_
        rotate_left
        · intro w hSw; (try dsimp only at hSw); go_simp; (try with_reducible rfl)
        refine wpAnyH_take (i := 5) (v := ?_) rfl (by kernel_rfl) (by kernel_rfl) (by kernel_rfl) (fun _ _ _ h => h) (Or.inl ⟨by kernel_rfl, ?_⟩) (by assumption) ?_
        rotate_left
        · intro w hSw; (try dsimp only at hSw); go_simp; (try with_reducible rfl)
        refine wpAnyH_ready (rs := [1]) (by kernel_rfl) (by simp) ?_
        refine AllReadyH.cons rfl (fun K hK => ?_) AllReadyH.nil
        go_simp
        refine (wl_broken HP5.out.wl).mono ?_
        rintro x w6 ⟨rfl, rfl⟩
        refine hK.out _ _ HS0.out (fun hS2 => ?_)
        clear hK K hS2
        refine wpAnyH_take (i := 6) (v := ?_) rfl (by kernel_rfl) (by kernel_rfl) (by kernel_rfl) (fun _ _ _ h => h) (Or.inl ⟨by kernel_rfl, ?_⟩) (by assumption) ?_
        rotate_left
        · intro w hSw; (try dsimp only at hSw); go_simp; (try with_reducible rfl)
        refine wpAnyH_take (i := 7) (v := ?_) rfl (by kernel_rfl) (by kernel_rfl) (by kernel_rfl) (fun _ _ _ h => h) (Or.inl ⟨by kernel_rfl, ?_⟩) (by assumption) ?_
        rotate_left
        · intro w hSw; (try dsimp only at hSw); go_simp; (try with_reducible rfl)
        refine wpAnyH_take (i := 8) (v := ?_) rfl (by kernel_rfl) (by kernel_rfl) (by kernel_rfl) (fun _ _ _ h => h) (Or.inl ⟨by kernel_rfl, ?_⟩) (by assumption) ?_
        rotate_left
        · intro w hSw; (try dsimp only at hSw); go_simp; (try with_reducible rfl)
        refine wpAnyH_take (i := 10) (v := ?_) rfl (by kernel_rfl) (by kernel_rfl) (by kernel_rfl) (fun _ _ _ h => h) (Or.inl ⟨by kernel_rfl, ?_⟩) (by assumption) ?_
        rotate_left
        · intro w hSw; (try dsimp only at hSw); go_simp; (try with_reducible rfl)
        refine wpAnyH_take (i := 11) (v := ?_) rfl (by kernel_rfl) (by kernel_rfl) (by kernel_rfl) (fun _ _ _ h => h) (Or.inl ⟨by kernel_rfl, ?_⟩) (by assumption) ?_
        rotate_left
        · intro w hSw; (try dsimp only at hSw); go_simp; (try with_reducible rfl)
        refine wpAnyH_take (i := 12) (v := ?_) rfl (by kernel_rfl) (by kernel_rfl) (by kernel_rfl) (fun _ _ _ h => h) (Or.inl ⟨by kernel_rfl, ?_⟩) (by assumption) ?_
        rotate_left
        · intro w hSw; (try dsimp only at hSw); go_simp; (try with_reducible rfl)
        refine wpAnyH_take (i := 13) (v := ?_) rfl (by kernel_rfl) (by kernel_rfl) (by kernel_rfl) (fun _ _ _ h => h) (Or.inl ⟨by kernel_rfl, ?_⟩) (by assumption) ?_
        rotate_left
        · intro w hSw; (try dsimp only at hSw); go_simp; (try with_reducible rfl)
        refine wpAnyH_ready (rs := [9]) (by kernel_rfl) (by simp) ?_
        refine AllReadyH.cons rfl (fun K hK => ?_) AllReadyH.nil
        go_simp
        refine (wl_ready HP5.out.wl).mono ?_
        rintro x w6 ⟨rfl, rfl⟩
        refine hK.out _ _ HS0.out (fun hS2 => ?_)
        clear hK K hS2
        refine wpAnyH_take (i := 14) (v := ?_) rfl (by kernel_rfl) (by kernel_rfl) (by kernel_rfl) (fun _ _ _ h => h) (Or.inl ⟨by kernel_rfl, ?_⟩) (by assumption) ?_
        rotate_left
        · intro w hSw; (try dsimp only at hSw); go_simp; (try with_reducible rfl)
        refine wpAnyH_take (i := 15) (v := ?_) rfl (by kernel_rfl) (by kernel_rfl) (by kernel_rfl) (fun _ _ _ h => h) (Or.inl ⟨by kernel_rfl, ?_⟩) (by assumption) ?_
        rotate_left
        · intro w hSw; (try dsimp only at hSw); go_simp; (try with_reducible rfl)
        refine wpAnyH_take (i := 16) (v := ?_) rfl (by kernel_rfl) (by kernel_rfl) (by kernel_rfl) (fun _ _ _ h => h) (Or.inl ⟨by kernel_rfl, ?_⟩) (by assumption) ?_
        rotate_left
        · intro w hSw; (try dsimp only at hSw); go_simp; (try with_reducible rfl)
        refine wpAnyH_take (i := 17) (v := ?_) rfl (by kernel_rfl) (by kernel_rfl) (by kernel_rfl) (fun _ _ _ h => h) (Or.inl ⟨by kernel_rfl, ?_⟩) (by assumption) ?_
        rotate_left
        · intro w hSw; (try dsimp only at hSw); go_simp; (try with_reducible rfl)
        refine wpAnyH_take (i := 19) (v := ?_) rfl (by kernel_rfl) (by kernel_rfl) (by kernel_rfl) (fun _ _ _ h => h) (Or.inl ⟨by kernel_rfl, ?_⟩) (by assumption) ?_
        rotate_left
        · intro w hSw; (try dsimp only at hSw); go_simp; (try with_reducible rfl)
        refine wpAnyH_take (i := 20) (v := ?_) rfl (by kernel_rfl) (by kernel_rfl) (by kernel_rfl) (fun _ _ _ h => h) (Or.inl ⟨by kernel_rfl, ?_⟩) (by assumption) ?_
        rotate_left
        · intro w hSw; (try dsimp only at hSw); go_simp; (try with_reducible rfl)
        refine wpAnyH_take (i := 21) (v := ?_) rfl (by kernel_rfl) (by kernel_rfl) (by kernel_rfl) (fun _ _ _ h => h) (Or.inl ⟨by kernel_rfl, ?_⟩) (by assumption) ?_
        rotate_left
        · intro w hSw; (try dsimp only at hSw); go_simp; (try with_reducible rfl)
        refine wpAnyH_take (i := 22) (v := ?_) rfl (by kernel_rfl) (by kernel_rfl) (by kernel_rfl) (fun _ _ _ h => h) (Or.inl ⟨by kernel_rfl, ?_⟩) (by assumption) ?_
        rotate_left
        · intro w hSw; (try dsimp only at hSw); go_simp; (try with_reducible rfl)
        refine wpAnyH_take (i := 23) (v := ?_) rfl (by kernel_rfl) (by kernel_rfl) (by kernel_rfl) (fun _ _ _ h => h) (Or.inl ⟨by kernel_rfl, ?_⟩) (by assumption) ?_
        rotate_left
        · intro w hSw; (try dsimp only at hSw); go_simp; (try with_reducible rfl)
        refine wpAnyH_ready (rs := [18]) (by kernel_rfl) (by simp) ?_
        refine AllReadyH.cons rfl (fun K hK => ?_) AllReadyH.nil
        go_simp
        refine (wl_gen HP5.out.wl).mono ?_
        rintro x w6 ⟨rfl, rfl⟩
        refine hK.out _ _ HS0.out (fun hS2 => ?_)
        clear hK K hS2
        refine wpAnyH_take (i := 24) (v := ?_) rfl (by kernel_rfl) (by kernel_rfl) (by kernel_rfl) (fun _ _ _ h => h) (Or.inl ⟨by kernel_rfl, ?_⟩) (by assumption) ?_
        rotate_left
        · intro w hSw; (try dsimp only at hSw); go_simp; (try with_reducible rfl)
        refine wpAnyH_take (i := 25) (v := ?_) rfl (by kernel_rfl) (by kernel_rfl) (by kernel_rfl) (fun _ _ _ h => h) (Or.inl ⟨by kernel_rfl, ?_⟩) (by assumption) ?_
        rotate_left
        · intro w hSw; (try dsimp only at hSw); go_simp; (try with_reducible rfl)
        refine wpAnyH_take (i := 26) (v := ?_) rfl (by kernel_rfl) (by kernel_rfl) (by kernel_rfl) (fun _ _ _ h => h) (Or.inl ⟨by kernel_rfl, ?_⟩) (by assumption) ?_
        rotate_left
        · intro w hSw; (try dsimp only at hSw); go_simp; (try with_reducible rfl)
        refine wpAnyH_take (i := 27) (v := ?_) rfl (by kernel_rfl) (by kernel_rfl) (by kernel_rfl) (fun _ _ _ h => h) (Or.inl ⟨by kernel_rfl, ?_⟩) (by assumption) ?_
        rotate_left
        · intro w hSw; (try dsimp only at hSw); go_simp; (try with_reducible rfl)
        refine wpAnyH_take (i := 29) (v := ?_) rfl (by kernel_rfl) (by kernel_rfl) (by kernel_rfl) (fun _ _ _ h => h) (Or.inl ⟨by kernel_rfl, ?_⟩) (by assumption) ?_
        rotate_left
        · intro w hSw; (try dsimp only at hSw); go_simp; (try with_reducible rfl)
        refine wpAnyH_take (i := 30) (v := ?_) rfl (by kernel_rfl) (by kernel_rfl) (by kernel_rfl) (fun _ _ _ h => h) (Or.inl ⟨by kernel_rfl, ?_⟩) (by assumption) ?_
        rotate_left
        · intro w hSw; (try dsimp only at hSw); go_simp; (try with_reducible rfl)
        refine wpAnyH_take (i := 31) (v := ?_) rfl (by kernel_rfl) (by kernel_rfl) (by kernel_rfl) (fun _ _ _ h => h) (Or.inl ⟨by kernel_rfl, ?_⟩) (by assumption) ?_
        rotate_left
        · intro w hSw; (try dsimp only at hSw); go_simp; (try with_reducible rfl)
        refine wpAnyH_take (i := 32) (v := ?_) rfl (by kernel_rfl) (by kernel_rfl) (by kernel_rfl) (fun _ _ _ h => h) (Or.inl ⟨by kernel_rfl, ?_⟩) (by assumption) ?_
        rotate_left
        · intro w hSw; (try dsimp only at hSw); go_simp; (try with_reducible rfl)
        refine wpAnyH_ready (rs := [28]) (by kernel_rfl) (by simp) ?_
        refine AllReadyH.cons rfl (fun K hK => ?_) AllReadyH.nil
        go_simp
        refine (wl_used HP5.out.wl).mono ?_
        rintro x w6 ⟨rfl, rfl⟩
        refine hK.out _ _ HS0.out (fun hS2 => ?_)
        clear hK K hS2
        refine wpAnyH_take (i := 33) (v := ?_) rfl (by kernel_rfl) (by kernel_rfl) (by kernel_rfl) (fun _ _ _ h => h) (Or.inl ⟨by kernel_rfl, ?_⟩) (by assumption) ?_
        rotate_left
        · intro w hSw; (try dsimp only at hSw); go_simp; (try with_reducible rfl)
        refine wpAnyH_take (i := 34) (v := ?_) rfl (by kernel_rfl) (by kernel_rfl) (by kernel_rfl) (fun _ _ _ h => h) (Or.inl ⟨by kernel_rfl, ?_⟩) (by assumption) ?_
        rotate_left
        · intro w hSw; (try dsimp only at hSw); go_simp; (try with_reducible rfl)
        refine wpAnyH_take (i := 35) (v := ?_) rfl (by kernel_rfl) (by kernel_rfl) (by kernel_rfl) (fun _ _ _ h => h) (Or.inl ⟨by kernel_rfl, ?_⟩) (by assumption) ?_
        rotate_left
        · intro w hSw; (try dsimp only at hSw); go_simp; (try with_reducible rfl)
        refine wpAnyH_take (i := 36) (v := ?_) rfl (by kernel_rfl) (by kernel_rfl) (by kernel_rfl) (fun _ _ _ h => h) (Or.inl ⟨by kernel_rfl, ?_⟩) (by assumption) ?_
        rotate_left
        · intro w hSw; (try dsimp only at hSw); go_simp; (try with_reducible rfl)
        refine wpAnyH_take (i := 38) (v := ?_) rfl (by kernel_rfl) (by kernel_rfl) (by kernel_rfl) (fun _ _ _ h => h) (Or.inl ⟨by kernel_rfl, ?_⟩) (by assumption) ?_
        rotate_left
        · intro w hSw; (try dsimp only at hSw); go_simp; (try with_reducible rfl)
        refine wpAnyH_take (i := 39) (v := ?_) rfl (by kernel_rfl) (by kernel_rfl) (by kernel_rfl) (fun _ _ _ h => h) (Or.inl ⟨by kernel_rfl, ?_⟩) (by assumption) ?_
        rotate_left
        · intro w hSw; (try dsimp only at hSw); go_simp; (try with_reducible rfl)
        refine wpAnyH_take (i := 40) (v := ?_) rfl (by kernel_rfl) (by kernel_rfl) (by kernel_rfl) (fun _ _ _ h => h) (Or.inl ⟨by kernel_rfl, ?_⟩) (by assumption) ?_
        rotate_left
        · intro w hSw; (try dsimp only at hSw); go_simp; (try with_reducible rfl)
        refine wpAnyH_take (i := 41) (v := ?_) rfl (by kernel_rfl) (by kernel_rfl) (by kernel_rfl) (fun _ _ _ h => h) (Or.inl ⟨by kernel_rfl, ?_⟩) (by assumption) ?_
        rotate_left
        · intro w hSw; (try dsimp only at hSw); go_simp; (try with_reducible rfl)
        refine wpAnyH_ready (rs := [37]) (by kernel_rfl) (by simp) ?_
        refine AllReadyH.cons rfl (fun K hK => ?_) AllReadyH.nil
        go_simp
        refine (wl_segment HP5.out.wl HVO.out.2 (by have := HZ.out.2; omega)).mono ?_
        rintro x w6 ⟨rfl, hb6⟩
        have HP6 := Lib.hid (HP5.out.below hb6)
        have hq : w6.cell? ⟨Q, 7, none⟩ = some (.bool v2.broken) ∧ w6.cell? ⟨Q, 6, none⟩ = some (.bool v2.ready) ∧ w6.cell? ⟨Q, 1, none⟩ = some (.int .u64 v2.g) ∧ w6.cell? ⟨Q, 4, none⟩ = some (.int .i64 v2.used) ∧ w6.cell? ⟨A.P, 4, none⟩ = some (.pointer (some ⟨A.R, 0, none⟩)) := ⟨HP6.out.rv.c7, HP6.out.rv.c6, HP6.out.rv.c1, HP6.out.rv.c4, HP6.out.c4⟩
        clear hS0 hb6
        refine hK.out _ _ hq (fun hS0 => ?_)
        clear hK K
        refine wpAnyH_ready (rs := [42]) (by kernel_rfl) (by simp) ?_
        refine AllReadyH.cons rfl (fun K hK => ?_) AllReadyH.nil
        go_simp
        refine (rv_segment HP6.out.r HVO.out.2 (by have := HZ.out.2; omega)).mono ?_
        rintro x w7 ⟨rfl, rfl⟩
        refine hK.out _ _ hq (fun hS2 => ?_)
        clear hK K hS2
        generalize segN b = sgn at *
        refine wpAnyH_take (i := 43) (v := ?_) rfl (by kernel_rfl) (by kernel_rfl) (by kernel_rfl) (fun _ _ _ h => h) (Or.inl ⟨by kernel_rfl, ?_⟩) (by assumption) ?_
        rotate_left
        · intro w hSw; (try dsimp only at hSw); go_simp; (try with_reducible rfl)
        refine wpAnyH_take (i := 44) (v := ?_) rfl (by kernel_rfl) (by kernel_rfl) (by kernel_rfl) (fun _ _ _ h => h) (Or.inl ⟨by kernel_rfl, ?_⟩) (by assumption) ?_
        rotate_left
        · intro w hSw; (try dsimp only at hSw); go_simp; (try with_reducible rfl)
        refine wpAnyH_take (i := 45) (v := ?_) rfl (by kernel_rfl) (by kernel_rfl) (by kernel_rfl) (fun _ _ _ h => h) (Or.inl ⟨by kernel_rfl, ?_⟩) (by assumption) ?_
        rotate_left
        · intro w hSw; (try dsimp only at hSw); go_simp; (try with_reducible rfl)
        refine wpAnyH_take (i := 46) (v := ?_) rfl (by kernel_rfl) (by kernel_rfl) (by kernel_rfl) (fun _ _ _ h => h) (Or.inl ⟨by kernel_rfl, ?_⟩) (by assumption) ?_
        rotate_left
        · intro w hSw; (try dsimp only at hSw); go_simp; (try with_reducible rfl)
        refine wpAnyH_take (i := 47) (v := ?_) rfl (by kernel_rfl) (by kernel_rfl) (by kernel_rfl) (fun _ _ _ h => h) (Or.inl ⟨by kernel_rfl, ?_⟩) (by assumption) ?_
        rotate_left
        · intro w hSw; (try dsimp only at hSw); go_simp; (try with_reducible rfl)
        refine wpAnyH_take (i := 49) (v := ?_) rfl (by kernel_rfl) (by kernel_rfl) (by kernel_rfl) (fun _ _ _ h => h) (Or.inl ⟨by kernel_rfl, ?_⟩) (by assumption) ?_
        rotate_left
        · intro w hSw; (try dsimp only at hSw); go_simp; (try with_reducible rfl)
        refine wpAnyH_take (i := 50) (v := ?_) rfl (by kernel_rfl) (by kernel_rfl) (by kernel_rfl) (fun _ _ _ h => h) (Or.inl ⟨by kernel_rfl, ?_⟩) (by assumption) ?_
        rotate_left
        · intro w hSw; (try dsimp only at hSw); go_simp; (try with_reducible rfl)
        refine wpAnyH_ready (rs := [48]) (by kernel_rfl) (by simp) ?_
        refine AllReadyH.cons rfl (fun K hK => ?_) AllReadyH.nil
        go_simp
        refine (wl_fits HP6.out.wl HZ.out.1.a0 HVO.out.2 HZ.out.1.b1 HU.out n).mono ?_
        rintro x w7 ⟨rfl, hb7⟩
        have HP7 := Lib.hid (HP6.out.below hb7)
        have hq7 : w7.cell? ⟨Q, 7, none⟩ = some (.bool v2.broken) ∧ w7.cell? ⟨Q, 6, none⟩ = some (.bool v2.ready) ∧ w7.cell? ⟨Q, 1, none⟩ = some (.int .u64 v2.g) ∧ w7.cell? ⟨Q, 4, none⟩ = some (.int .i64 v2.used) ∧ w7.cell? ⟨A.P, 4, none⟩ = some (.pointer (some ⟨A.R, 0, none⟩)) := ⟨HP7.out.rv.c7, HP7.out.rv.c6, HP7.out.rv.c1, HP7.out.rv.c4, HP7.out.c4⟩
        clear hS0 hb7 hq
        refine hK.out _ _ hq7 (fun hS0 => ?_)
        clear hK K
        refine wpAnyH_ready (rs := [51]) (by kernel_rfl) (by simp) ?_
        refine AllReadyH.cons rfl (fun K hK => ?_) AllReadyH.nil
        go_simp
        refine (rv_fits HP7.out.rv HZ.out.1.a0 HVO.out.2 HZ.out.1.b1 HU.out n).mono ?_
        rintro x w8 ⟨rfl, hb8⟩
        have HP8 := Lib.hid (HP7.out.below hb8)
        have hq8 : w8.cell? ⟨Q, 7, none⟩ = some (.bool v2.broken) ∧ w8.cell? ⟨Q, 6, none⟩ = some (.bool v2.ready) ∧ w8.cell? ⟨Q, 1, none⟩ = some (.int .u64 v2.g) ∧ w8.cell? ⟨Q, 4, none⟩ = some (.int .i64 v2.used) ∧ w8.cell? ⟨A.P, 4, none⟩ = some (.pointer (some ⟨A.R, 0, none⟩)) := ⟨HP8.out.rv.c7, HP8.out.rv.c6, HP8.out.rv.c1, HP8.out.rv.c4, HP8.out.c4⟩
        clear hS0 hb8 hq7
        refine hK.out _ _ hq8 (fun hS0 => ?_)
        clear hK K
        generalize fitB a b v2.used n = fb at *
        refine wpAnyH_take (i := 52) (v := ?_) rfl (by kernel_rfl) (by kernel_rfl) (by kernel_rfl) (fun _ _ _ h => h) (Or.inl ⟨by kernel_rfl, ?_⟩) (by assumption) ?_
        rotate_left
        · intro w hSw; (try dsimp only at hSw); go_simp; (try with_reducible rfl)
        refine wpAnyH_take (i := 53) (v := ?_) rfl (by kernel_rfl) (by kernel_rfl) (by kernel_rfl) (fun _ _ _ h => h) (Or.inl ⟨by kernel_rfl, ?_⟩) (by assumption) ?_
        rotate_left
        · intro w hSw; (try dsimp only at hSw); go_simp; (try with_reducible rfl)
        refine wpAnyH_done (by kernel_rfl) ?_ _
        clear hS0 hq8
        have HG8 : Hid (PrG w1 w8 A a b (1 + 12400 * (j + 1)) (1 + 300 * (j + 1))) := Lib.hid ⟨ws, ar, st, some v2, e, rl, ⟨bufD, _, some (L, v2), some (Q, v2), LA, lcap, HP8.out, rfl, rfl⟩, HS.out.1, HS.out.2⟩
        go_simp
        go_wp2
        rw [hww] at *
        go_roundw
        case rel => exact ⟨j + 1, HLT.out, rfl, HG8.out⟩
        case measure => have := HLT.out; simp [intOf]; omega
    · obtain rfl : j = l.length := by omega
      have hd : decide ((l.length : Int) < (l.length : Int)) = false := decide_eq_false (by omega)
      have hd' : decide (l.length < l.length) = false := decide_eq_false (by omega)
      have HB := Lib.hid (H1.out.trans ((PrG.bel HP.out).mono H1.out.size))
      clear hlt
      go_wp2
      go_ret
      exact ⟨rfl, HB.out⟩
end Go.Proofs.YtbpgfhcecanikaaGreat.walPlays
namespace Go.Proofs.YtbpgfhcecanikaaGreat
open Go.RowKit
theorem walPlays_walk (a b : Int) (v : Value) (n : Int) {W : World} (wa : (Lit.int .i64 a).wf = true) (wb : (Lit.int .i64 b).wf = true) (h2 : ∃ A cap l, v = .slice A l.length cap ∧ l.length ≤ maxLen ∧ ActsAtW W A l) (_ : (Lit.int .i64 n).wf = true) :
    Calls Tryz.prog 3 #[.int .i64 a, .int .i64 b, v, .int .i64 n] W fun x w' => x = .returned (.bool true) ∧ Below W.heap.size W w' := by
  obtain ⟨A, cap, l, rfl, _, hc⟩ := h2
  by_cases hf : fewW a b l
  · obtain ⟨p, rfl⟩ := Int.eq_ofNat_of_zero_le (show 0 ≤ a by have := hf.1; omega)
    obtain ⟨m, rfl⟩ := Int.eq_ofNat_of_zero_le (show 0 ≤ b by have := hf.2.2.1; omega)
    exact walPlays.few_ p m A cap l n W hc hf
  · exact walPlays.many a b A cap l n W hc hf
end Go.Proofs.YtbpgfhcecanikaaGreat
