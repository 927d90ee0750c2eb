/- carracklaw12.ClientPlays walked. No condition. -/
import Derived.WalkSpells
import Derived.Outline
import Derived.Deep.RegionHeld
import Derived.Test.YtdonoilcegaleaaRcHeights
import Derived.Test.YtdonoilcegaleaaClNum
import Derived.Test.YtdonoilcegaleaaHeldMono
namespace Go.Proofs.Ytdonoilcegaleaa.clientPlays
open Go.RowKit Go.Cl
set_option linter.unusedVariables false
set_option maxRecDepth 100000 in
set_option maxHeartbeats 1000000 in
theorem long (A : Option Addr) (cap : Nat) (l : List (Nat × ByteArray)) (x : Int) (W : World) (hl : 100 < l.length) :
    Calls Try.prog 3 #[.slice A l.length cap, .int .u64 x] W fun e w' => e = .returned (.bool true) ∧ Below W.heap.size W w' := by
  have d0 : decide ((100 : Int) < (l.length : Int)) = true := decide_eq_true (by omega)
  have d1 : decide (100 < l.length) = true := decide_eq_true hl
  clear hl
  go_enter Try.func3, Try.ntmps3
  go_wp2_with fail
  refine (awake _).mono ?_
  rintro x w1 ⟨rfl, b1⟩
  have H1 := Lib.hid b1
  clear b1
  go_wp2
  go_ret
  exact ⟨rfl, H1.out⟩
/-- a client and the reference's, side by side -/
structure Pl (W w : World) (C M bR R N : Nat) (v : Value) (hs : List Nat) (f : Int → Option ByteArray) (u : Value) (L : List (Nat × ByteArray)) : Prop where
  c : CliI W w M C M N v hs f
  r : RcS w bR R u L
  hR : W.heap.size ≤ R
  hbR : W.heap.size ≤ bR
  sep : ∀ j, OwnC C M v j → j ≠ R ∧ u.ownBlock ≠ some j
section
variable {W w w' : World} {C M bR R N : Nat} {v u : Value} {hs hs' : List Nat} {f f' : Int → Option ByteArray} {L L' : List (Nat × ByteArray)}
theorem Pl.below (h : Pl W w C M bR R N v hs f u L) (hb : Below w.heap.size w w') : Pl W w' C M bR R N v hs f u L := ⟨h.c.below hb, h.r.below hb, h.hR, h.hbR, h.sep⟩
theorem Pl.setC (h : Pl W w C M bR R N v hs f u L) (hd : SetP w M C M (N + 1) v hs' f' w') : ∃ v', Pl W w' C M bR R (N + 1) v' hs' f' u L := by
  obtain ⟨v', h1, h2, h3⟩ := h.c.step hd
  refine ⟨v', h1, h.r.keeps h2 (fun ho => (h.sep R ho).1 rfl) (fun k hk ho => (h.sep k ho).2 hk), h.hR, h.hbR, fun j hj => ?_⟩
  rcases hj with e | e | e
  · exact h.sep j (Or.inl e)
  · exact h.sep j (Or.inr (Or.inl e))
  · rcases h3 j e with e | e
    · exact h.sep j (Or.inr (Or.inr e))
    · refine ⟨fun e2 => ?_, fun e2 => ?_⟩
      · have := Kq.blk_lt h.r.blk; omega
      · have := (h.r.own.lt j e2).2; omega
theorem Pl.setR (h : Pl W w C M bR R N v hs f u L) (hd : RcP w bR R u L' w') : ∃ u', Pl W w' C M bR R N v hs f u' L' := by
  obtain ⟨u', h1, h2, h3⟩ := hd
  refine ⟨u', ⟨h.c.s.keeps h2 (fun e => (h.sep C (Or.inl rfl)).1 e) (fun e => (h.sep M (Or.inr (Or.inl rfl))).1 e) (fun k hk e => (h.sep k (Or.inr (Or.inr hk))).1 e), h.c.bel.trans (h2.below h.c.bel.size (fun j _ hj => by have := h.hR; omega)), h.c.hC, h.c.hM, h.c.hbase⟩, h1, h.hR, h.hbR, fun j hj => ⟨(h.sep j hj).1, fun e => ?_⟩⟩
  rcases h3 j e with e | e
  · exact (h.sep j hj).2 e
  · have := h.c.s.ownlt hj; omega
end
set_option maxRecDepth 100000 in
set_option maxHeartbeats 8000000 in
theorem few_ (A : Option Addr) (cap : Nat) (l : List (Nat × ByteArray)) (x : Nat) (hx : x < 18446744073709551616) (W : World) (hc : KnAt W A l) (hl : ¬ 100 < l.length) :
    Calls Try.prog 3 #[.slice A l.length cap, .int .u64 (x : Int)] W fun e w' => e = .returned (.bool true) ∧ Below W.heap.size W w' := by
  have d0 : decide ((100 : Int) < (l.length : Int)) = false := decide_eq_false (by omega)
  have d1 : decide (100 < l.length) = false := decide_eq_false hl
  have H := Lib.hid (And.intro hc (And.intro (Nat.not_lt.1 hl) hx))
  clear hc hl hx
  go_enter Try.func3, Try.ntmps3
  go_wp2_with fail
  refine (awake _).mono ?_
  rintro e w1 ⟨rfl, b1⟩
  have H1 := Lib.hid b1
  clear b1
  go_wp2_with fail
  refine (cl_new _).mono ?_
  rintro e w2 ⟨rfl, hc, hb⟩
  have I2 := CliI.made H1.out hc hb
  have K3 : Hid (Pl W (w2.alloc (.cells #[.slice none 0 0] 29)) (w1.heap.size + 1) w1.heap.size w2.heap.size w2.heap.size 0 (.slice none 0 0) [] (fun _ => none) (.slice none 0 0) []) := Lib.hid
    ⟨I2.below (Kq.below_alloc _ _), ⟨Kq.blk_new _ _ _ _, World.ownsRow_nil _ _ _ _, (fun k hk => by cases hk), by simp⟩, I2.bel.size, I2.bel.size, fun j hj => ⟨by have := I2.s.ownlt hj; omega, fun e => by cases e⟩⟩
  clear hc hb I2
  go_wp2
  generalize w2.alloc (.cells #[.slice none 0 0] 29) = w3 at *
  generalize w1.heap.size + 1 = C at *
  generalize w1.heap.size = M at *
  generalize w2.heap.size = R at *
  clear d0 d1
  go_loopw [7] (fun i wr => ∃ j : Nat, ∃ v u : Value, ∃ hs : List Nat, ∃ f : Int → Option ByteArray, ∃ L : List (Nat × ByteArray), j ≤ l.length ∧ i = .int .i64 (j : Int) ∧ hs.length ≤ j ∧ L.length ≤ j ∧ Pl W wr C M R R j v hs f u L ∧ Lk L hs f) (fun i _ => l.length - (intOf i).toNat)
  case atStart => exact ⟨0, _, _, [], _, [], by omega, rfl, Nat.le_refl _, Nat.le_refl _, K3.out, ⟨fun k s => by simp, ClOk.nil⟩⟩
  case round =>
    obtain ⟨j, v, u, hs, f, L, hj, rfl, hhj, hLj, hd, hlk⟩ := hrel
    have HD := Lib.hid (And.intro hd (And.intro hhj (And.intro hLj hlk)))
    clear hd K3 hlk
    by_cases hlt : j < l.length
    · obtain ⟨g, o, rfl, hg0, q00, q01, hb0, hb1⟩ := H.out.1 j hlt
      have h100 := H.out.2.1
      obtain ⟨y, hy⟩ : ∃ y, y = l[j].1 := ⟨_, rfl⟩
      obtain ⟨s, hs'⟩ : ∃ s, s = l[j].2 := ⟨_, rfl⟩
      rw [← hy] at q00 hb0
      rw [← hs'] at q01 hb1
      have HB := Lib.hid (And.intro hb0 hb1)
      have KN : Hid (∀ w', Below W.heap.size W w' → w'.cell? ⟨g, o + j * 2, none⟩ = some (.int .u64 (y : Int)) ∧ w'.cell? ⟨g, o + j * 2 + 1, none⟩ = some (.string s)) := Lib.hid (fun w' hb => ⟨(hb.cell (p := ⟨g, o + j * 2, none⟩) hg0).trans q00, (hb.cell (p := ⟨g, o + j * 2 + 1, none⟩) hg0).trans q01⟩)
      clear hy hs' hb0 hb1 q00 q01 hg0
      have LK2 : Hid (Lk (setL y s f L) (setF y s hs f).1 (setF y s hs f).2.1) := Lib.hid (HD.out.2.2.2.step y HB.out.1 s)
      have hl3 : (setF y s hs f).1.length ≤ j + 1 := by
        unfold setF
        split
        · split
          · show hs.length ≤ _; omega
          · show (ins y hs).length ≤ _; rw [ins_length]; omega
        · show hs.length ≤ _; omega
      have hl4 : (setL y s f L).length ≤ j + 1 := by
        unfold setL
        split
        · split
          · omega
          · rw [List.length_append, List.length_singleton]; omega
        · omega
      have KS : Hid (∀ w', Pl W w' C M R R j v hs f u L → Calls Try.prog 9 #[.pointer (some ⟨C, 0, none⟩), .int .u64 (y : Int), .string s] w' fun e w'' => e = .returned (.int .i64 (setF y s hs f).2.2) ∧ SetP w' M C M (j + 1) v (setF y s hs f).1 (setF y s hs f).2.1 w'') := Lib.hid (fun w' hp => cl_set M C M j v hs f y HB.out.1 s HB.out.2 w' hp.c.s (by omega) (by omega))
      have KR : Hid (∀ w' v' hs' f' N', Pl W w' C M R R N' v' hs' f' u L → Calls Try.prog 10 #[.pointer (some ⟨R, 0, none⟩), .int .u64 (y : Int), .string s] w' fun e w'' => e = .returned (.int .i64 (setF y s hs f).2.2) ∧ RcP w' R R u (setL y s f L) w'') := Lib.hid (fun w' _ _ _ _ hp => rc_set R R u L hs f y s HB.out.2 w' hp.r HD.out.2.2.2 (by omega))
      have U0 := Lib.hid (HD.out.1.below (Below.refl _ _).drew)
      generalize (setF y s hs f).2.2 = cd at *
      generalize (setF y s hs f).1 = hs2 at *
      generalize (setF y s hs f).2.1 = f2 at *
      generalize setL y s f L = L2 at *
      have hq0 := KN.out _ U0.out.c.bel
      clear HD
      go_wp2
      refine wp_region_held_drew (S := fun w' => w'.cell? ⟨g, o + j * 2, none⟩ = some (.int .u64 (y : Int)) ∧ w'.cell? ⟨g, o + j * 2 + 1, none⟩ = some (.string s)) (by kernel_rfl) hq0 (fun hS0 => ?_)
      generalize wr.drew = wd at *
      clear hq0
      refine wpAnyH_take (i := 0) (v := ?_) rfl (by kernel_rfl) (by kernel_rfl) (by kernel_rfl) (fun _ _ _ h => h) (Or.inl ⟨by kernel_rfl, ?_⟩) (by assumption) ?_
      rotate_left
      · intro w hSw; (try dsimp only at hSw); go_simp; (try with_reducible rfl)
      refine wpAnyH_take (i := 1) (v := ?_) rfl (by kernel_rfl) (by kernel_rfl) (by kernel_rfl) (fun _ _ _ h => h) (Or.inl ⟨by kernel_rfl, ?_⟩) (by assumption) ?_
      rotate_left
      · intro w hSw; (try dsimp only at hSw); go_simp; (try with_reducible rfl)
      refine wpAnyH_take (i := 2) (v := ?_) rfl (by kernel_rfl) (by kernel_rfl) (by kernel_rfl) (fun _ _ _ h => h) (Or.inl ⟨by kernel_rfl, ?_⟩) (by assumption) ?_
      rotate_left
      · intro w hSw; (try dsimp only at hSw); go_simp; (try with_reducible rfl)
      refine wpAnyH_take (i := 3) (v := ?_) rfl (by kernel_rfl) (by kernel_rfl) (by kernel_rfl) (fun _ _ _ h => h) (Or.inl ⟨by kernel_rfl, ?_⟩) (by assumption) ?_
      rotate_left
      · intro w hSw; (try dsimp only at hSw); go_simp; (try with_reducible rfl)
      refine wpAnyH_take (i := 4) (v := ?_) rfl (by kernel_rfl) (by kernel_rfl) (by kernel_rfl) (fun _ _ _ h => h) (Or.inl ⟨by kernel_rfl, ?_⟩) (by assumption) ?_
      rotate_left
      · intro w hSw; (try dsimp only at hSw); go_simp; (try with_reducible rfl)
      refine wpAnyH_take (i := 5) (v := ?_) rfl (by kernel_rfl) (by kernel_rfl) (by kernel_rfl) (fun _ _ _ h => h) (Or.inl ⟨by kernel_rfl, ?_⟩) (by assumption) ?_
      rotate_left
      · intro w hSw; (try dsimp only at hSw); go_simp; (try with_reducible rfl)
      refine wpAnyH_take (i := 6) (v := ?_) rfl (by kernel_rfl) (by kernel_rfl) (by kernel_rfl) (fun _ _ _ h => h) (Or.inl ⟨by kernel_rfl, ?_⟩) (by assumption) ?_
      rotate_left
      · intro w hSw; (try dsimp only at hSw); go_simp; (try with_reducible rfl)
      refine wpAnyH_take (i := 7) (v := ?_) rfl (by kernel_rfl) (by kernel_rfl) (by kernel_rfl) (fun _ _ _ h => h) (Or.inl ⟨by kernel_rfl, ?_⟩) (by assumption) ?_
      rotate_left
      · intro w hSw; (try dsimp only at hSw); go_simp; (try with_reducible rfl)
      refine wpAnyH_take (i := 8) (v := ?_) rfl (by kernel_rfl) (by kernel_rfl) (by kernel_rfl) (fun _ _ _ h => h) (Or.inl ⟨by kernel_rfl, ?_⟩) (by assumption) ?_
      rotate_left
      · intro w hSw; (try dsimp only at hSw); go_simp; (try with_reducible rfl)
      refine wpAnyH_take (i := 9) (v := ?_) rfl (by kernel_rfl) (by kernel_rfl) (by kernel_rfl) (fun _ _ _ h => h) (Or.inl ⟨by kernel_rfl, ?_⟩) (by assumption) ?_
      rotate_left
      · intro w hSw; (try dsimp only at hSw); go_simp; (try with_reducible rfl)
      refine wpAnyH_take (i := 10) (v := ?_) rfl (by kernel_rfl) (by kernel_rfl) (by kernel_rfl) (fun _ _ _ h => h) (Or.inl ⟨by kernel_rfl, ?_⟩) (by assumption) ?_
      rotate_left
      · intro w hSw; (try dsimp only at hSw); go_simp; (try with_reducible rfl)
      refine wpAnyH_take (i := 12) (v := ?_) rfl (by kernel_rfl) (by kernel_rfl) (by kernel_rfl) (fun _ _ _ h => h) (Or.inl ⟨by kernel_rfl, ?_⟩) (by assumption) ?_
      rotate_left
      · intro w hSw; (try dsimp only at hSw); go_simp; (try with_reducible rfl)
      refine wpAnyH_take (i := 13) (v := ?_) rfl (by kernel_rfl) (by kernel_rfl) (by kernel_rfl) (fun _ _ _ h => h) (Or.inl ⟨by kernel_rfl, ?_⟩) (by assumption) ?_
      rotate_left
      · intro w hSw; (try dsimp only at hSw); go_simp; (try with_reducible rfl)
      refine wpAnyH_take (i := 14) (v := ?_) rfl (by kernel_rfl) (by kernel_rfl) (by kernel_rfl) (fun _ _ _ h => h) (Or.inl ⟨by kernel_rfl, ?_⟩) (by assumption) ?_
      rotate_left
      · intro w hSw; (try dsimp only at hSw); go_simp; (try with_reducible rfl)
      refine wpAnyH_take (i := 15) (v := ?_) rfl (by kernel_rfl) (by kernel_rfl) (by kernel_rfl) (fun _ _ _ h => h) (Or.inl ⟨by kernel_rfl, ?_⟩) (by assumption) ?_
      rotate_left
      · intro w hSw; (try dsimp only at hSw); go_simp; (try with_reducible rfl)
      refine wpAnyH_take (i := 16) (v := ?_) rfl (by kernel_rfl) (by kernel_rfl) (by kernel_rfl) (fun _ _ _ h => h) (Or.inl ⟨by kernel_rfl, ?_⟩) (by assumption) ?_
      rotate_left
      · intro w hSw; (try dsimp only at hSw); go_simp; (try with_reducible rfl)
      refine wpAnyH_take (i := 17) (v := ?_) rfl (by kernel_rfl) (by kernel_rfl) (by kernel_rfl) (fun _ _ _ h => h) (Or.inl ⟨by kernel_rfl, ?_⟩) (by assumption) ?_
      rotate_left
      · intro w hSw; (try dsimp only at hSw); go_simp; (try with_reducible rfl)
      refine wpAnyH_take (i := 18) (v := ?_) rfl (by kernel_rfl) (by kernel_rfl) (by kernel_rfl) (fun _ _ _ h => h) (Or.inl ⟨by kernel_rfl, ?_⟩) (by assumption) ?_
      rotate_left
      · intro w hSw; (try dsimp only at hSw); go_simp; (try with_reducible rfl)
      refine wpAnyH_take (i := 19) (v := ?_) rfl (by kernel_rfl) (by kernel_rfl) (by kernel_rfl) (fun _ _ _ h => h) (Or.inl ⟨by kernel_rfl, ?_⟩) (by assumption) ?_
      rotate_left
      · intro w hSw; (try dsimp only at hSw); go_simp; (try with_reducible rfl)
      refine wpAnyH_take (i := 20) (v := ?_) rfl (by kernel_rfl) (by kernel_rfl) (by kernel_rfl) (fun _ _ _ h => h) (Or.inl ⟨by kernel_rfl, ?_⟩) (by assumption) ?_
      rotate_left
      · intro w hSw; (try dsimp only at hSw); go_simp; (try with_reducible rfl)
      refine wpAnyH_take (i := 21) (v := ?_) rfl (by kernel_rfl) (by kernel_rfl) (by kernel_rfl) (fun _ _ _ h => h) (Or.inl ⟨by kernel_rfl, ?_⟩) (by assumption) ?_
      rotate_left
      · intro w hSw; (try dsimp only at hSw); go_simp; (try with_reducible rfl)
      refine wpAnyH_take (i := 22) (v := ?_) rfl (by kernel_rfl) (by kernel_rfl) (by kernel_rfl) (fun _ _ _ h => h) (Or.inl ⟨by kernel_rfl, ?_⟩) (by assumption) ?_
      rotate_left
      · intro w hSw; (try dsimp only at hSw); go_simp; (try with_reducible rfl)
      refine wpAnyH_ready (rs := [11]) (by kernel_rfl) (by simp) ?_
      refine AllReadyH.cons rfl (fun K hK => ?_) AllReadyH.nil
      go_simp
      refine (KS.out _ U0.out).mono ?_
      rintro e w5 ⟨rfl, hd5⟩
      obtain ⟨v5, hu5⟩ := U0.out.setC hd5
      have U5 := Lib.hid hu5
      clear hd5 hu5 hS0 U0 KS
      refine hK.out _ _ (KN.out _ U5.out.c.bel) (fun hS0 => ?_)
      clear hK K
      refine wpAnyH_ready (rs := [23]) (by kernel_rfl) (by simp) ?_
      refine AllReadyH.cons rfl (fun K hK => ?_) AllReadyH.nil
      go_simp
      refine (KR.out _ _ _ _ _ U5.out).mono ?_
      rintro e w6 ⟨rfl, hd6⟩
      obtain ⟨u6, hu6⟩ := U5.out.setR hd6
      have U6 := Lib.hid hu6
      clear hd6 hu6 hS0 U5 KR
      refine hK.out _ _ (KN.out _ U6.out.c.bel) (fun hS0 => ?_)
      clear hK K
      refine wpAnyH_take (i := 24) (v := ?_) rfl (by kernel_rfl) (by kernel_rfl) (by kernel_rfl) (fun _ _ _ h => h) (Or.inl ⟨by kernel_rfl, ?_⟩) (by assumption) ?_
      rotate_left
      · intro w hSw; (try dsimp only at hSw); go_simp; (try with_reducible rfl)
      refine wpAnyH_done (by kernel_rfl) ?_ _
      clear hS0
      have hr1 := cl_root M C M (j + 1) v5 hs2 f2 x H.out.2.2 _ U6.out.c.s
      have hr2 := rc_root R R u6 L2 hs2 f2 x _ U6.out.r LK2.out (by omega)
      generalize (f2 (x : Int)).getD ⟨#[]⟩ = rr at *
      generalize (f2 (x : Int)).isSome = rq at *
      have HR1 := Lib.hid hr1
      have HR2 := Lib.hid hr2
      clear hr1 hr2
      go_wp2_with fail
      refine HR1.out.mono ?_
      clear HR1
      rintro e w7 ⟨rfl, rfl⟩
      go_wp2_with fail
      refine HR2.out.mono ?_
      clear HR2
      rintro e w7 ⟨rfl, rfl⟩
      obtain ⟨yy, ok, hF⟩ : ∃ yy ok, fromF x hs2 = (yy, ok) := ⟨_, _, rfl⟩
      go_wp2_with fail
      have hfr := cl_from M C M (j + 1) v5 hs2 f2 x _ U6.out.c.s (by omega)
      rw [hF] at hfr
      refine hfr.mono ?_
      clear hfr
      rintro e w8 ⟨rfl, b8⟩
      have U8 := Lib.hid (U6.out.below b8)
      clear b8 U6
      go_wp2_with fail
      have hfr := rc_from R R u6 L2 hs2 f2 x _ U8.out.r LK2.out (by omega)
      rw [hF] at hfr
      refine hfr.mono ?_
      clear hfr hF
      rintro e w9 ⟨rfl, rfl⟩
      go_wp2_with fail
      refine (cl_latest M C M (j + 1) v5 hs2 f2 _ U8.out.c.s (by omega)).mono ?_
      rintro e w9 ⟨rfl, b9⟩
      have U9 := Lib.hid (U8.out.below b9)
      clear b9 U8
      go_wp2_with fail
      refine (rc_latest R R u6 L2 hs2 f2 _ U9.out.r LK2.out (by omega)).mono ?_
      rintro e w10 ⟨rfl, rfl⟩
      go_wp2_with fail
      refine (cl_heights M C M (j + 1) v5 hs2 f2 _ U9.out.c.s (by omega)).mono ?_
      rintro e w11 ⟨v11, rfl, hown, b11⟩
      have K11 := Lib.hid (And.intro (U9.out.below b11) hown)
      clear b11 hown U9
      obtain ⟨A11, cap11, rfl, -, hat⟩ := row_at K11.out.2
      have HAT := Lib.hid hat
      clear hat
      go_wp2_with fail
      refine (rc_heights R R u6 L2 hs2 f2 _ K11.out.1.r LK2.out (by omega) (by omega)).mono ?_
      rintro e w12 ⟨v12, rfl, hown, b12⟩
      have K12 := Lib.hid (And.intro (K11.out.1.below b12) hown)
      have HAT2 : Hid (∀ j (hj : j < hs2.length), ∃ g, A11 = some ⟨g, 0, none⟩ ∧ w12.cell? ⟨g, j, none⟩ = some (.int .u64 (hs2[j] : Int))) := Lib.hid (fun j hj => by
        obtain ⟨g, e, hg, hc⟩ := HAT.out j hj
        exact ⟨g, e, (b12.cell (p := ⟨g, j, none⟩) hg).trans hc⟩)
      clear b12 hown K11 HAT
      obtain ⟨A12, cap12, rfl, -, hat⟩ := row_at K12.out.2
      have HAT3 : Hid (∀ j (hj : j < hs2.length), ∃ g, A12 = some ⟨g, 0, none⟩ ∧ w12.cell? ⟨g, j, none⟩ = some (.int .u64 (hs2[j] : Int))) := Lib.hid (fun j hj => by
        obtain ⟨g, e, hg, hc⟩ := hat j hj
        exact ⟨g, e, hc⟩)
      clear hat
      go_wp2_with fail
      refine (num_same hs2 A11 A12 cap11 cap12 _ (by omega) HAT2.out HAT3.out).mono ?_
      rintro e w13 ⟨rfl, r13, rfl⟩
      have K13 := Lib.hid (K12.out.1.below (below_drewN (Below.refl _ _) r13))
      clear K12 HAT2 HAT3
      generalize w12.drewN r13 = w13 at *
      go_wp2
      go_roundw
      case rel => exact ⟨j + 1, v5, u6, hs2, f2, L2, by omega, by go_num, hl3, hl4, K13.out, LK2.out⟩
      case measure => simp [intOf]; omega
    · go_wp2
      go_ret
      exact ⟨rfl, HD.out.1.c.bel⟩
end Go.Proofs.Ytdonoilcegaleaa.clientPlays
namespace Go.Proofs.Ytdonoilcegaleaa
open Go.RowKit
theorem clientPlays_walk (v : Value) (x : Int) {W : World} (h0 : ∃ A cap l, v = .slice A l.length cap ∧ l.length ≤ maxLen ∧ KnAt W A l) (wx : (Lit.int .u64 x).wf = true) :
    Calls Try.prog 3 #[v, .int .u64 x] W fun e w' => e = .returned (.bool true) ∧ Below W.heap.size W w' := by
  obtain ⟨A, cap, l, rfl, _, hc⟩ := h0
  have w0 : 0 ≤ x ∧ x < 18446744073709551616 := by simp [Lit.wf, IntKind.min, IntKind.max, IntKind.signed, IntKind.bits] at wx; omega
  obtain ⟨m, rfl⟩ := Int.eq_ofNat_of_zero_le w0.1
  by_cases hl : 100 < l.length
  · exact clientPlays.long A cap l _ W hl
  · exact clientPlays.few_ A cap l m (by omega) W hc hl
end Go.Proofs.Ytdonoilcegaleaa
