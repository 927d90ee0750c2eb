/- carracklaw04.DiskPlays walked. No condition. -/
import Derived.WalkSpells
import Derived.Outline
import Derived.Deep.RegionHeld
import Derived.Test.YtcnoakngnjbkiaaDiskDuo
import Derived.Test.YtcnoakngnjbkiaaFewNo
import Derived.Test.YtcnoakngnjbkiaaHeldMono
namespace Go.Proofs.Ytcnoakngnjbkiaa.diskPlays
open Go.RowKit
set_option linter.unusedVariables false
set_option maxRecDepth 100000 in
set_option maxHeartbeats 1000000 in
theorem many (a b : Int) (A : Option Addr) (cap : Nat) (l : List ActV) (n : Int) (W : World) (hc : ActsAt W A l) (hf : ¬ fewOk a b l) :
    Calls Try.prog 4 #[.int .i64 a, .int .i64 b, .slice A l.length cap, .int .i64 n] W fun x w' => x = .returned (.bool true) ∧ Below W.heap.size W w' := by
  have H := Lib.hid (And.intro hc hf)
  clear hc hf
  go_enter Try.func4, Try.ntmps4
  go_wp2_with fail
  refine (awake _).mono ?_
  rintro x w1 ⟨rfl, b1⟩
  have H1 := Lib.hid b1
  clear b1
  go_wp2_with fail
  refine (few_no a b A cap l _ (H.out.1.later H1.out) H.out.2).mono ?_
  rintro x w2 ⟨rfl, rfl⟩
  go_wp2
  go_ret
  exact ⟨rfl, H1.out⟩
theorem apart {W : World} {la : Option Addr} {l : List (Bool × Int)} (h : CwAt W la l) {S : Nat} (hS : W.heap.size ≤ S) : 0 < l.length → ∀ g o, la = some ⟨g, o, none⟩ → g ≠ S := by
  intro h0 g o hla
  obtain ⟨g', o', e, hlt, _⟩ := h.at_ 0 h0
  rw [hla] at e
  injection e with e
  injection e with e1
  omega
theorem StOk.up {a b N M : Nat} {ws : List (Int × ByteArray)} {armed : Nat} {st : List Nat} (h : StOk a b N ws armed st) (hN : N ≤ M) : StOk a b M ws armed st := ⟨h.w, h.len, h.lt, Nat.le_trans h.nw hN, h.ar⟩
set_option maxRecDepth 100000 in
set_option maxHeartbeats 8000000 in
theorem few_ (a b : Nat) (A : Option Addr) (cap : Nat) (l : List ActV) (n : Int) (W : World) (hc : ActsAt W A l) (hf : fewOk a b l) :
    Calls Try.prog 4 #[.int .i64 (a : Int), .int .i64 (b : Int), .slice A l.length cap, .int .i64 n] W fun x w' => x = .returned (.bool true) ∧ Below W.heap.size W w' := by
  have H := Lib.hid (And.intro hc hf)
  have HR : Hid (DkRight (a : Int) (b : Int)) := Lib.hid hf.1
  have hA : 64 ≤ a ∧ a ≤ 512 := ⟨by have := hf.1.1; omega, by have := hf.1.2.1; omega⟩
  have hB : 1 ≤ b ∧ b ≤ 64 := ⟨by have := hf.1.2.2.1; omega, by have := hf.2.1; omega⟩
  have hab : a * b ≤ 32768 := Nat.le_trans (Nat.mul_le_mul hA.2 hB.2) (by decide)
  have HN := Lib.hid (And.intro hA (And.intro hB hab))
  have HL : Hid (l.length ≤ 60) := Lib.hid hf.2.2.1
  clear hc hf hA hB hab
  go_enter Try.func4, Try.ntmps4
  go_wp2_with fail
  refine (awake _).mono ?_
  rintro x w1 ⟨rfl, b1⟩
  have H1 := Lib.hid b1
  clear b1
  go_wp2_with fail
  refine (few_ok _ _ A cap l _ (H.out.1.later H1.out) H.out.2).mono ?_
  rintro x w2 ⟨rfl, rfl⟩
  go_wp2_with fail
  refine (dk_new_ok (a : Int) (b : Int) (a * b) _ HR.out (by simp)).mono ?_
  intro x w2 hp
  have I2 := Lib.hid (DkI.made (a := a) (b := b) H1.out rfl hp)
  obtain ⟨rfl, -⟩ := hp
  generalize w1.heap.size + 1 = D at *
  generalize w1.heap.size = Sx at *
  go_wp2_with fail
  refine (rf_new a b _ HR.out).mono ?_
  rintro x w3 ⟨rfl, R3, b3⟩
  have U3 : Hid (Duo W w3 Sx D Sx w2.heap.size (w2.heap.size + 1) a b (.slice none 0 0) [] 0 (List.replicate (a * b) 0) (.slice none 0 0) [] 0 (List.replicate (a * b) 0)) :=
    Lib.hid ⟨I2.out.below b3, R3, Nat.le_trans I2.out.bel.size (Nat.le_succ _), I2.out.bel.size, fun j hj => ⟨by have := I2.out.s.own_lt hj; omega, fun e => by cases e⟩⟩
  clear R3 b3 I2
  generalize w2.heap.size + 1 = R at *
  generalize w2.heap.size = bR at *
  go_wp2
  go_loopw [12] (fun i wr => ∃ j : Nat, ∃ bufD bufR : Value, ∃ ws : List (Int × ByteArray), ∃ armed : Nat, ∃ st : List Nat, j ≤ l.length ∧ i = .int .i64 (j : Int) ∧ StOk a b j ws armed st ∧ Duo W wr Sx D Sx bR R a b bufD ws armed st bufR ws armed st) (fun i _ => l.length - (intOf i).toNat)
  case atStart => exact ⟨0, _, _, [], 0, _, by omega, rfl, ⟨WsOk.nil a b, List.length_replicate .., zeros_lt _, Nat.le_refl _, Nat.zero_le _⟩, U3.out⟩
  case round =>
    obtain ⟨j, bufD, bufR, ws, armed, st, hj, rfl, ho, hd⟩ := hrel
    have HD := Lib.hid (And.intro hd ho)
    clear hd ho U3
    by_cases hlt : j < l.length
    · obtain ⟨g, o, rfl, hg, hact0⟩ := H.out.1 j hlt
      obtain ⟨f1, f2⟩ := H.out.2.2.2.2 l[j] (List.getElem_mem _)
      have hl60 := HL.out
      have hok := doF_ok HD.out.2 l[j] hact0.w1
      generalize l[j] = c at *
      obtain ⟨ws', arm', st', cd, hq⟩ : ∃ ws' arm' st' cd, doF a b c ws armed st = (ws', arm', st', cd) := ⟨_, _, _, _, rfl⟩
      have HF := Lib.hid (And.intro hact0 hg)
      have KA : Hid (∀ w, Duo W w Sx D Sx bR R a b bufD ws armed st bufR ws armed st → Calls Try.prog 18 #[.pointer (some ⟨D, 0, none⟩), .agg #[.int .i64 c.kind, .int .i64 c.n, .int .i64 c.long, .string c.s, .slice c.la c.l.length c.lcap]] w fun x w' => x = .returned (.int .i64 cd) ∧ DoP w Sx D Sx a b bufD ws' arm' st' w') := Lib.hid (fun w hU => by
        have := dk_do Sx D Sx a b bufD ws armed st c w hU.A.s (StOk.up HD.out.2 (by omega)) (by have := HN.out; omega) (by have := HN.out; omega) (by have := HN.out; omega) f1 f2 (hact0.cw.below hU.A.bel) (apart hact0.cw hU.A.hS)
        rw [hq] at this
        exact this)
      have KR : Hid (∀ w bufD' wsD' armD' stD', Duo W w Sx D Sx bR R a b bufD' wsD' armD' stD' bufR ws armed st → Calls Try.prog 19 #[.pointer (some ⟨R, 0, none⟩), .agg #[.int .i64 c.kind, .int .i64 c.n, .int .i64 c.long, .string c.s, .slice c.la c.l.length c.lcap]] w fun x w' => x = .returned (.int .i64 cd) ∧ RoP w bR R a b bufR ws' arm' st' w') := Lib.hid (fun w _ _ _ _ hU => by
        have := rf_doo bR R a b bufR ws armed st c w hU.B (StOk.up HD.out.2 (by omega)) (by have := HN.out; omega) (by have := HN.out; omega) (by have := HN.out; omega) f1 f2 (hact0.cw.below hU.A.bel) (apart hact0.cw hU.hR)
        rw [hq] at this
        exact this)
      rw [hq] at hok
      have HOK : Hid (StOk a b (j + 1) ws' arm' st') := Lib.hid hok
      have U0 := Lib.hid HD.out.1.drew
      have hact := hact0.later HD.out.1.A.bel hg
      have c0 := hact.c0
      have c1 := hact.c1
      have c2 := hact.c2
      have c3 := hact.c3
      have c4 := hact.c4
      clear hact hact0 f1 f2 hg hq hok
      go_wp2
      refine wp_region_held_drew (S := fun w' => ActC w' g (o + j * 5) c) (by kernel_rfl) ((HF.out.1.later U0.out.A.bel HF.out.2).cells) (fun hS0 => ?_)
      generalize wr.drew = wd at *
      unfold ActC at hS0
      dsimp only [ActC]
      clear c0 c1 c2 c3 c4
      refine wpAnyH_take (i := 0) (v := ?_) rfl (by kernel_rfl) (by kernel_rfl) (by kernel_rfl) (fun _ _ _ h => h) (Or.inl ⟨by kernel_rfl, ?_⟩) (by assumption) ?_
      rotate_left
      · intro w hSw; (try dsimp only at hSw); go_simp; (try with_reducible rfl)
      refine wpAnyH_take (i := 1) (v := ?_) rfl (by kernel_rfl) (by kernel_rfl) (by kernel_rfl) (fun _ _ _ h => h) (Or.inl ⟨by kernel_rfl, ?_⟩) (by assumption) ?_
      rotate_left
      · intro w hSw; (try dsimp only at hSw); go_simp; (try with_reducible rfl)
      refine wpAnyH_take (i := 2) (v := ?_) rfl (by kernel_rfl) (by kernel_rfl) (by kernel_rfl) (fun _ _ _ h => h) (Or.inl ⟨by kernel_rfl, ?_⟩) (by assumption) ?_
      rotate_left
      · intro w hSw; (try dsimp only at hSw); go_simp; (try with_reducible rfl)
      refine wpAnyH_take (i := 3) (v := ?_) rfl (by kernel_rfl) (by kernel_rfl) (by kernel_rfl) (fun _ _ _ h => h) (Or.inl ⟨by kernel_rfl, ?_⟩) (by assumption) ?_
      rotate_left
      · intro w hSw; (try dsimp only at hSw); go_simp; (try with_reducible rfl)
      refine wpAnyH_take (i := 4) (v := ?_) rfl (by kernel_rfl) (by kernel_rfl) (by kernel_rfl) (fun _ _ _ h => h) (Or.inl ⟨by kernel_rfl, ?_⟩) (by assumption) ?_
      rotate_left
      · intro w hSw; (try dsimp only at hSw); go_simp; (try with_reducible rfl)
      refine wpAnyH_take (i := 6) (v := ?_) rfl (by kernel_rfl) (by kernel_rfl) (by kernel_rfl) (fun _ _ _ h => h) (Or.inl ⟨by kernel_rfl, ?_⟩) (by assumption) ?_
      rotate_left
      · intro w hSw; (try dsimp only at hSw); go_simp; (try with_reducible rfl)
      refine wpAnyH_take (i := 7) (v := ?_) rfl (by kernel_rfl) (by kernel_rfl) (by kernel_rfl) (fun _ _ _ h => h) (Or.inl ⟨by kernel_rfl, ?_⟩) (by assumption) ?_
      rotate_left
      · intro w hSw; (try dsimp only at hSw); go_simp; (try with_reducible rfl)
      refine wpAnyH_take (i := 8) (v := ?_) rfl (by kernel_rfl) (by kernel_rfl) (by kernel_rfl) (fun _ _ _ h => h) (Or.inl ⟨by kernel_rfl, ?_⟩) (by assumption) ?_
      rotate_left
      · intro w hSw; (try dsimp only at hSw); go_simp; (try with_reducible rfl)
      refine wpAnyH_take (i := 9) (v := ?_) rfl (by kernel_rfl) (by kernel_rfl) (by kernel_rfl) (fun _ _ _ h => h) (Or.inl ⟨by kernel_rfl, ?_⟩) (by assumption) ?_
      rotate_left
      · intro w hSw; (try dsimp only at hSw); go_simp; (try with_reducible rfl)
      refine wpAnyH_take (i := 10) (v := ?_) rfl (by kernel_rfl) (by kernel_rfl) (by kernel_rfl) (fun _ _ _ h => h) (Or.inl ⟨by kernel_rfl, ?_⟩) (by assumption) ?_
      rotate_left
      · intro w hSw; (try dsimp only at hSw); go_simp; (try with_reducible rfl)
      refine wpAnyH_ready (rs := [5]) (by kernel_rfl) (by simp) ?_
      refine AllReadyH.cons rfl (fun K hK => ?_) AllReadyH.nil
      go_simp
      refine (KA.out _ U0.out).mono ?_
      rintro x w5 ⟨rfl, hd5⟩
      obtain ⟨buf5, hu5, -⟩ := U0.out.stepA hd5
      have U5 := Lib.hid hu5
      clear hd5 hu5 hS0 U0
      refine hK.out _ _ ((HF.out.1.later U5.out.A.bel HF.out.2).cells) (fun hS0 => ?_)
      clear hK K
      refine wpAnyH_ready (rs := [11]) (by kernel_rfl) (by simp) ?_
      refine AllReadyH.cons rfl (fun K hK => ?_) AllReadyH.nil
      go_simp
      refine (KR.out _ _ _ _ _ U5.out).mono ?_
      rintro x w6 ⟨rfl, hd6⟩
      obtain ⟨buf6, hu6, -⟩ := U5.out.stepB hd6
      have U6 := Lib.hid hu6
      clear hd6 hu6 hS0 U5
      have hc6 := (HF.out.1.later U6.out.A.bel HF.out.2).cells
      refine hK.out _ _ hc6 (fun hS0 => ?_)
      clear hK K hS0
      obtain ⟨A6, cap6, hb6⟩ := U6.out.B.shape
      subst hb6
      refine Kq.wpAnyH_mono (S' := fun w' => ActC w' g (o + j * 5) c ∧ w'.cell? ⟨R, 2, none⟩ = some (.string (txt st')) ∧ w'.cell? ⟨R, 3, none⟩ = some (.slice A6 ws'.length cap6)) (fun _ h => h.1) _ _ _ _ ?_
      have hS1 : ActC w6 g (o + j * 5) c ∧ w6.cell? ⟨R, 2, none⟩ = some (.string (txt st')) ∧ w6.cell? ⟨R, 3, none⟩ = some (.slice A6 ws'.length cap6) := ⟨hc6, U6.out.B.c2, U6.out.B.c3⟩
      clear hc6
      obtain ⟨T, hT⟩ : ∃ T, T = txt st' := ⟨_, rfl⟩
      have HT := Lib.hid hT
      rw [← hT] at hS1 ⊢
      clear hT
      refine wpAnyH_take (i := 12) (v := ?_) rfl (by kernel_rfl) (by kernel_rfl) (by kernel_rfl) (fun _ _ _ h => h) (Or.inl ⟨by kernel_rfl, ?_⟩) (by assumption) ?_
      rotate_left
      · intro w hSw; (try dsimp only at hSw); go_simp; (try with_reducible rfl)
      refine wpAnyH_take (i := 13) (v := ?_) rfl (by kernel_rfl) (by kernel_rfl) (by kernel_rfl) (fun _ _ _ h => h) (Or.inl ⟨by kernel_rfl, ?_⟩) (by assumption) ?_
      rotate_left
      · intro w hSw; (try dsimp only at hSw); go_simp; (try with_reducible rfl)
      refine wpAnyH_take (i := 14) (v := ?_) rfl (by kernel_rfl) (by kernel_rfl) (by kernel_rfl) (fun _ _ _ h => h) (Or.inl ⟨by kernel_rfl, ?_⟩) (by assumption) ?_
      rotate_left
      · intro w hSw; (try dsimp only at hSw); go_simp; (try with_reducible rfl)
      refine wpAnyH_take (i := 16) (v := ?_) rfl (by kernel_rfl) (by kernel_rfl) (by kernel_rfl) (fun _ _ _ h => h) (Or.inl ⟨by kernel_rfl, ?_⟩) (by assumption) ?_
      rotate_left
      · intro w hSw; (try dsimp only at hSw); go_simp; (try with_reducible rfl)
      refine wpAnyH_take (i := 17) (v := ?_) rfl (by kernel_rfl) (by kernel_rfl) (by kernel_rfl) (fun _ _ _ h => h) (Or.inl ⟨by kernel_rfl, ?_⟩) (by assumption) ?_
      rotate_left
      · intro w hSw; (try dsimp only at hSw); go_simp; (try with_reducible rfl)
      refine wpAnyH_take (i := 18) (v := ?_) rfl (by kernel_rfl) (by kernel_rfl) (by kernel_rfl) (fun _ _ _ h => h) (Or.inl ⟨by kernel_rfl, ?_⟩) (by assumption) ?_
      rotate_left
      · intro w hSw; (try dsimp only at hSw); go_simp; (try with_reducible rfl)
      refine wpAnyH_take (i := 19) (v := ?_) rfl (by kernel_rfl) (by kernel_rfl) (by kernel_rfl) (fun _ _ _ h => h) (Or.inl ⟨by kernel_rfl, ?_⟩) (by assumption) ?_
      rotate_left
      · intro w hSw; (try dsimp only at hSw); go_simp; (try with_reducible rfl)
      refine wpAnyH_ready (rs := [15]) (by kernel_rfl) (by simp) ?_
      refine AllReadyH.cons rfl (fun K hK => ?_) AllReadyH.nil
      go_simp
      have hst := dk_stable D Sx st' _ U6.out.A.s.d.c2 U6.out.A.s.s HOK.out.lt
      rw [← HT.out] at hst
      refine hst.mono ?_
      clear hst
      rintro x w7 ⟨rfl, rfl⟩
      refine hK.out _ _ hS1 (fun hS0 => ?_)
      clear hK K hS0
      refine wpAnyH_take (i := 20) (v := ?_) rfl (by kernel_rfl) (by kernel_rfl) (by kernel_rfl) (fun _ _ _ h => h) (Or.inl ⟨by kernel_rfl, ?_⟩) (by assumption) ?_
      rotate_left
      · intro w hSw; (try dsimp only at hSw); go_simp; (try with_reducible rfl)
      refine wpAnyH_take (i := 21) (v := ?_) rfl (by kernel_rfl) (by kernel_rfl) (by kernel_rfl) (fun _ _ _ h => h) (Or.inl ⟨by kernel_rfl, ?_⟩) (by assumption) ?_
      rotate_left
      · intro w hSw; (try dsimp only at hSw); go_simp; (try with_reducible rfl)
      refine wpAnyH_take (i := 22) (v := ?_) rfl (by kernel_rfl) (by kernel_rfl) (by kernel_rfl) (fun _ _ _ h => h) (Or.inl ⟨by kernel_rfl, ?_⟩) (by assumption) ?_
      rotate_left
      · intro w hSw; (try dsimp only at hSw); go_simp; (try with_reducible rfl)
      refine wpAnyH_take (i := 23) (v := ?_) rfl (by kernel_rfl) (by kernel_rfl) (by kernel_rfl) (fun _ _ _ h => h) (Or.inl ⟨by kernel_rfl, ?_⟩) (by assumption) ?_
      rotate_left
      · intro w hSw; (try dsimp only at hSw); go_simp; (try with_reducible rfl)
      refine wpAnyH_take (i := 25) (v := ?_) rfl (by kernel_rfl) (by kernel_rfl) (by kernel_rfl) (fun _ _ _ h => h) (Or.inl ⟨by kernel_rfl, ?_⟩) (by assumption) ?_
      rotate_left
      · intro w hSw; (try dsimp only at hSw); go_simp; (try with_reducible rfl)
      refine wpAnyH_take (i := 26) (v := ?_) rfl (by kernel_rfl) (by kernel_rfl) (by kernel_rfl) (fun _ _ _ h => h) (Or.inl ⟨by kernel_rfl, ?_⟩) (by assumption) ?_
      rotate_left
      · intro w hSw; (try dsimp only at hSw); go_simp; (try with_reducible rfl)
      refine wpAnyH_take (i := 27) (v := ?_) rfl (by kernel_rfl) (by kernel_rfl) (by kernel_rfl) (fun _ _ _ h => h) (Or.inl ⟨by kernel_rfl, ?_⟩) (by assumption) ?_
      rotate_left
      · intro w hSw; (try dsimp only at hSw); go_simp; (try with_reducible rfl)
      refine wpAnyH_take (i := 28) (v := ?_) rfl (by kernel_rfl) (by kernel_rfl) (by kernel_rfl) (fun _ _ _ h => h) (Or.inl ⟨by kernel_rfl, ?_⟩) (by assumption) ?_
      rotate_left
      · intro w hSw; (try dsimp only at hSw); go_simp; (try with_reducible rfl)
      refine wpAnyH_take (i := 29) (v := ?_) rfl (by kernel_rfl) (by kernel_rfl) (by kernel_rfl) (fun _ _ _ h => h) (Or.inl ⟨by kernel_rfl, ?_⟩) (by assumption) ?_
      rotate_left
      · intro w hSw; (try dsimp only at hSw); go_simp; (try with_reducible rfl)
      refine wpAnyH_ready (rs := [24]) (by kernel_rfl) (by simp) ?_
      refine AllReadyH.cons rfl (fun K hK => ?_) AllReadyH.nil
      go_simp
      obtain ⟨A7, cap7, hb7⟩ := U6.out.A.s.d.shape
      refine (dk_buffered D A7 ws'.length cap7 _ (by rw [← hb7]; exact U6.out.A.s.d.c3)).mono ?_
      clear hb7
      rintro x w8 ⟨rfl, rfl⟩
      refine hK.out _ _ hS1 (fun hS0 => ?_)
      clear hK K hS0
      refine wpAnyH_take (i := 30) (v := ?_) rfl (by kernel_rfl) (by kernel_rfl) (by kernel_rfl) (fun _ _ _ h => h) (Or.inl ⟨by kernel_rfl, ?_⟩) (by assumption) ?_
      rotate_left
      · intro w hSw; (try dsimp only at hSw); go_simp; (try with_reducible rfl)
      refine wpAnyH_take (i := 31) (v := ?_) rfl (by kernel_rfl) (by kernel_rfl) (by kernel_rfl) (fun _ _ _ h => h) (Or.inl ⟨by kernel_rfl, ?_⟩) (by assumption) ?_
      rotate_left
      · intro w hSw; (try dsimp only at hSw); go_simp; (try with_reducible rfl)
      refine wpAnyH_done (by kernel_rfl) ?_ _
      clear hS1
      go_wp2_with fail
      refine (dk_read_all Sx D Sx a b buf5 ws' _ st' n _ U6.out.A.s HOK.out.lt HOK.out.len (by have := HN.out; omega) (by have := HN.out; omega) (by have := HOK.out.nw; omega)).mono ?_
      rintro x w9 ⟨rfl, b9⟩
      have U9 := Lib.hid (U6.out.below b9)
      clear b9 U6
      go_wp2_with fail
      refine (rf_read_all bR R a b _ ws' _ st' n _ U9.out.B HOK.out.lt HOK.out.len (by have := HN.out; omega) (by have := HN.out; omega) (by have := HOK.out.nw; omega)).mono ?_
      rintro x w10 ⟨rfl, b10⟩
      have U10 := Lib.hid (U9.out.below b10)
      clear b10 U9
      go_wp2
      go_roundw
      case rel => exact ⟨j + 1, _, _, ws', arm', st', by omega, by go_num, HOK.out, U10.out⟩
      case measure => simp [intOf]; omega
    · obtain rfl : j = l.length := by omega
      clear hlt hj
      have e2 := HD.out.1.B.c2
      obtain ⟨T, hT⟩ : ∃ T, T = txt st := ⟨_, rfl⟩
      have HT := Lib.hid hT
      rw [← hT] at e2
      clear hT
      go_wp2
      refine wp_region_held_drew (S := fun w' => w'.cell? ⟨R, 2, none⟩ = some (.string T)) (by kernel_rfl) e2 (fun hS0 => ?_)
      refine wpAnyH_take (i := 0) (v := ?_) rfl (by kernel_rfl) (by kernel_rfl) (by kernel_rfl) (fun _ _ _ h => h) (Or.inl ⟨by kernel_rfl, ?_⟩) (by assumption) ?_
      rotate_left
      · intro w hSw; (try dsimp only at hSw); go_simp; (try with_reducible rfl)
      refine wpAnyH_take (i := 2) (v := ?_) rfl (by kernel_rfl) (by kernel_rfl) (by kernel_rfl) (fun _ _ _ h => h) (Or.inl ⟨by kernel_rfl, ?_⟩) (by assumption) ?_
      rotate_left
      · intro w hSw; (try dsimp only at hSw); go_simp; (try with_reducible rfl)
      refine wpAnyH_take (i := 3) (v := ?_) rfl (by kernel_rfl) (by kernel_rfl) (by kernel_rfl) (fun _ _ _ h => h) (Or.inl ⟨by kernel_rfl, ?_⟩) (by assumption) ?_
      rotate_left
      · intro w hSw; (try dsimp only at hSw); go_simp; (try with_reducible rfl)
      refine wpAnyH_take (i := 4) (v := ?_) rfl (by kernel_rfl) (by kernel_rfl) (by kernel_rfl) (fun _ _ _ h => h) (Or.inl ⟨by kernel_rfl, ?_⟩) (by assumption) ?_
      rotate_left
      · intro w hSw; (try dsimp only at hSw); go_simp; (try with_reducible rfl)
      refine wpAnyH_take (i := 5) (v := ?_) rfl (by kernel_rfl) (by kernel_rfl) (by kernel_rfl) (fun _ _ _ h => h) (Or.inl ⟨by kernel_rfl, ?_⟩) (by assumption) ?_
      rotate_left
      · intro w hSw; (try dsimp only at hSw); go_simp; (try with_reducible rfl)
      refine wpAnyH_ready (rs := [1]) (by kernel_rfl) (by simp) ?_
      refine AllReadyH.cons rfl (fun K hK => ?_) AllReadyH.nil
      go_simp
      have hst := dk_stable D Sx st _ HD.out.1.drew.A.s.d.c2 HD.out.1.drew.A.s.s HD.out.2.lt
      rw [← HT.out] at hst
      refine hst.mono ?_
      clear hst
      rintro x w7 ⟨rfl, rfl⟩
      refine hK.out _ _ hS0 (fun hS1 => ?_)
      clear hK K hS1
      refine wpAnyH_take (i := 6) (v := ?_) rfl (by kernel_rfl) (by kernel_rfl) (by kernel_rfl) (fun _ _ _ h => h) (Or.inl ⟨by kernel_rfl, ?_⟩) (by assumption) ?_
      rotate_left
      · intro w hSw; (try dsimp only at hSw); go_simp; (try with_reducible rfl)
      refine wpAnyH_take (i := 7) (v := ?_) rfl (by kernel_rfl) (by kernel_rfl) (by kernel_rfl) (fun _ _ _ h => h) (Or.inl ⟨by kernel_rfl, ?_⟩) (by assumption) ?_
      rotate_left
      · intro w hSw; (try dsimp only at hSw); go_simp; (try with_reducible rfl)
      refine wpAnyH_done (by kernel_rfl) ?_ _
      go_wp2
      go_ret
      exact ⟨rfl, HD.out.1.drew.A.bel⟩
end Go.Proofs.Ytcnoakngnjbkiaa.diskPlays
namespace Go.Proofs.Ytcnoakngnjbkiaa
open Go.RowKit
theorem diskPlays_walk (a b : Int) (v : Value) (n : Int) {W : World} (wa : (Lit.int .i64 a).wf = true) (wb : (Lit.int .i64 b).wf = true) (h2 : ∃ A cap l, v = .slice A l.length cap ∧ l.length ≤ maxLen ∧ ActsAt W A l) (_ : (Lit.int .i64 n).wf = true) :
    Calls Try.prog 4 #[.int .i64 a, .int .i64 b, v, .int .i64 n] W fun x w' => x = .returned (.bool true) ∧ Below W.heap.size W w' := by
  obtain ⟨A, cap, l, rfl, _, hc⟩ := h2
  by_cases hf : fewOk a b l
  · obtain ⟨p, rfl⟩ := Int.eq_ofNat_of_zero_le (show 0 ≤ a by have := hf.1.1; omega)
    obtain ⟨m, rfl⟩ := Int.eq_ofNat_of_zero_le (show 0 ≤ b by have := hf.1.2.2.1; omega)
    exact diskPlays.few_ p m A cap l n W hc hf
  · exact diskPlays.many a b A cap l n W hc hf
end Go.Proofs.Ytcnoakngnjbkiaa
