/- Merged: WlF, WrE. Contracts of a log's attempt, Append's closure. Condition: sizes. Contract of the reference's Append. Condition: sizes. -/
import Derived.WalkSpells
import Derived.Outline
import Derived.Deep.QuietTactic
import Derived.Deep.RegionHeld
import Derived.Test.YtbpgfhcecanikaaGreatWlEQ
import Derived.Test.YtbpgfhcecanikaaGreatHeldLastQ
import Derived.Test.YtbpgfhcecanikaaGreatWrCQ
import Derived.Test.YtbpgfhcecanikaaGreatFrRSplitQ
namespace Go.Proofs.YtbpgfhcecanikaaGreat
open Go.RowKit
set_option linter.unusedVariables false
theorem cell_ltW {w : World} {b o : Nat} {v : Value} (h : w.cell? ⟨b, o, none⟩ = some v) : b < w.heap.size := by
  rcases Nat.lt_or_ge b w.heap.size with h' | h'
  · exact h'
  · simp [World.cell?, Array.getElem?_eq_none h'] at h
def brokenV (v : WalV) (c : Int) : WalV := { v with broken := c != 0 }
set_option maxRecDepth 100000 in
set_option maxHeartbeats 1000000 in
theorem wl_attempt_a {w : World} {base B S a b R : Nat} {buf : Value} {ws ws' : List (Int × ByteArray)} {ar ar' : Nat} {st st' : List Nat} {v v1 : WalV} (h : WlS w base B S a b R buf ws ar st v) (P2 P5 : Nat) (c : Int) (hc : Calls Tryz.prog 53 #[.pointer (some ⟨P2, 0, none⟩), .pointer (some ⟨P5, 0, none⟩)] w fun x w' => x = .returned (.int .i64 c) ∧ WoP w base B S a b R buf ws' ar' st' v1 w') :
    Calls Tryz.prog 48 #[.pointer (some ⟨R, 0, none⟩), .func (.func 53) #[] #[.pointer (some ⟨P2, 0, none⟩), .pointer (some ⟨P5, 0, none⟩)]] w fun x w' => x = .returned (.int .i64 c) ∧ WoP w base B S a b R buf ws' ar' st' (brokenV v1 c) w' := by
  have HC := Lib.hid hc
  have HR := Lib.hid h.lt
  clear hc h
  go_enter Tryz.func48, Tryz.ntmps48
  go_wp2_with fail
  refine HC.out.mono ?_
  rintro x w2 ⟨rfl, hwo⟩
  obtain ⟨buf2, W2, K2, F2⟩ := hwo
  have f7 := W2.fz 7
  have k7 := W2.c7
  obtain ⟨w3, hw3⟩ : ∃ z, z = w2.setCell ⟨R, 7, none⟩ (.bool (c != 0)) := ⟨_, rfl⟩
  have hk : Kq.Keeps (· = R) w2 w3 := by rw [hw3]; exact Kq.Keeps.setCell _ _ _ rfl
  have hb : w3.heap[R]? = some (.cells ((brokenV v1 c).cells B) 86 (0, 0)) := by
    rw [hw3]
    exact Kq.blk_set W2.blk 7 _
  have HP : Hid (WoP w base B S a b R buf ws' ar' st' (brokenV v1 c) w3) := Lib.hid (WoP.comp HR.out K2 F2 ⟨buf2, W2.set hk hb, hk.mono (fun _ _ e => Or.inr e), fun j hj => Or.inl hj⟩)
  have HW := Lib.hid hw3
  clear W2 K2 F2 hk hb hw3
  by_cases hc0 : c = 0
  · subst hc0
    go_wp2
    have e : ((0 : Int) != 0) = false := by decide
    rw [e] at HW
    rw [← HW.out]
    go_ret
    exact ⟨rfl, HP.out⟩
  · have hcb : (c == 0) = false := beq_eq_false_iff_ne.2 hc0
    have hcn : (c != 0) = true := by rw [bne_iff_ne]; exact hc0
    rw [hcn] at HW
    go_wp2
    rw [← HW.out]
    go_ret
    exact ⟨rfl, HP.out⟩
/-- what Append's closure makes of a disk -/
def apF (a b g sg used cnt : Nat) (s : ByteArray) (ws : List (Int × ByteArray)) (ar : Nat) (st : List Nat) : List (Int × ByteArray) × Nat × List Nat × Int := layF a b (2 + sg * segN b + used) (frSplit (a : Int) g cnt s).1 ws ar st
/-- the log behind it -/
def apV (v : WalV) (n : Nat) (c : Int) : WalV := if c = 0 then { v with used := v.used + n, cnt := v.cnt + 1 } else v
/-- the boxes of Append, and the log -/
def ApC (w : World) (P2 P5 R g sg used n cap : Nat) (LA : Option Addr) : Prop := w.cell? ⟨P2, 0, none⟩ = some (.pointer (some ⟨R, 0, none⟩)) ∧ w.cell? ⟨P5, 0, none⟩ = some (.slice LA n cap) ∧ w.cell? ⟨R, 1, none⟩ = some (.int .u64 (g : Int)) ∧ w.cell? ⟨R, 2, none⟩ = some (.int .i64 (sg : Int)) ∧ w.cell? ⟨R, 4, none⟩ = some (.int .i64 (used : Int))
set_option maxRecDepth 100000 in
set_option maxHeartbeats 4000000 in
theorem wl_append_in {w : World} {base B S a b R N : Nat} {buf : Value} {ws : List (Int × ByteArray)} {ar : Nat} {st : List Nat} {v : WalV} (h : WlS w base B S a b R buf ws ar st v) (ho : StOk a b N ws ar st) (hN : N + 220 ≤ 1000000) (hn : a * b ≤ 3000000) (ha : 64 ≤ a) (ha2 : a ≤ 512) (hb : 4 ≤ b) (hb2 : b ≤ 5000) (hsg : v.sg ≤ 1) (hu : v.used ≤ 3000) (hcn : v.cnt ≤ 1000000)
    (P2 P5 cap : Nat) (LA : Option Addr) (T : List ByteArray) (hT1 : T.length ≤ 200) (hT2 : ∀ t ∈ T, t.size ≤ 1000) (hc2 : w.cell? ⟨P2, 0, none⟩ = some (.pointer (some ⟨R, 0, none⟩))) (hc5 : w.cell? ⟨P5, 0, none⟩ = some (.slice LA T.length cap)) (h2 : ¬ (Own B S buf P2 ∨ P2 = R)) (h5 : ¬ (Own B S buf P5 ∨ P5 = R)) (hl2 : P2 < w.heap.size) (hl5 : P5 < w.heap.size) (hLA : StrsAt w LA T) (hLo : ∀ g o, LA = some ⟨g, o, none⟩ → ¬ (Own B S buf g ∨ g = R)) :
    Calls Tryz.prog 53 #[.pointer (some ⟨P2, 0, none⟩), .pointer (some ⟨P5, 0, none⟩)] w fun x w' => x = .returned (.int .i64 (layF a b (2 + v.sg * segN b + v.used) T ws ar st).2.2.2) ∧ WoP w base B S a b R buf (layF a b (2 + v.sg * segN b + v.used) T ws ar st).1 (layF a b (2 + v.sg * segN b + v.used) T ws ar st).2.1 (layF a b (2 + v.sg * segN b + v.used) T ws ar st).2.2.1 (apV v T.length (layF a b (2 + v.sg * segN b + v.used) T ws ar st).2.2.2) w' := by
  have hap : ∀ wx : World, WlS wx base B S a b R buf ws ar st v → wx.cell? ⟨P2, 0, none⟩ = some (.pointer (some ⟨R, 0, none⟩)) → wx.cell? ⟨P5, 0, none⟩ = some (.slice LA T.length cap) → ApC wx P2 P5 R v.g v.sg v.used T.length cap LA := fun wx hx e1 e2 => ⟨e1, e2, hx.c1, hx.c2, hx.c4⟩
  have HD : Hid (ApC w.drew P2 P5 R v.g v.sg v.used T.length cap LA ∧ WlS w.drew base B S a b R buf ws ar st v ∧ StrsAt w.drew LA T ∧ Below w.heap.size w w.drew) := Lib.hid ⟨hap _ h.drew hc2 hc5, h.drew, hLA.below (Below.refl _ _).drew, (Below.refl _ _).drew⟩
  have HH := Lib.hid (And.intro h (And.intro ho (And.intro hN (And.intro hn (And.intro ha (And.intro ha2 (And.intro hb (And.intro hb2 (And.intro hsg (And.intro hu hcn))))))))))
  have HB := Lib.hid (And.intro h2 (And.intro h5 (And.intro hl2 (And.intro hl5 hLo))))
  have HT := Lib.hid (And.intro hT1 hT2)
  obtain ⟨fr, hfr⟩ : ∃ f, f = 2 + v.sg * segN b := ⟨_, rfl⟩
  have hfr2 : fr ≤ 3000 := by
    have h3 : segN b ≤ 2500 := by unfold segN; omega
    have h01 : v.sg = 0 ∨ v.sg = 1 := by omega
    rcases h01 with e | e <;> rw [hfr, e] <;> omega
  obtain ⟨k, hk⟩ : ∃ k, k = fr + v.used := ⟨_, rfl⟩
  have hwk : IntKind.i64.wrap ((fr : Int) + (v.used : Int)) = (k : Int) := by rw [IntWalk.i64_in _ (by omega)]; omega
  have HK := Lib.hid (And.intro hfr (And.intro hk hfr2))
  rw [← hfr, ← hk]
  clear hap h ho hN hn ha ha2 hb hb2 hsg hcn h2 h5 hl2 hl5 hLo hT1 hT2 hc2 hc5 hLA hfr hk hfr2
  go_enter Tryz.func53, Tryz.ntmps53
  go_wp2_with fail
  refine wp_region_held_drew (S := fun w' => ApC w' P2 P5 R v.g v.sg v.used T.length cap LA) (by kernel_rfl) HD.out.1 (fun hS0 => ?_)
  generalize w.drew = wd at *
  unfold ApC at hS0
  dsimp only [ApC]
  refine wpAnyH_take (i := 0) (v := ?_) rfl (by kernel_rfl) (by kernel_rfl) (by kernel_rfl) (fun _ _ _ h => h) (Or.inl ⟨by kernel_rfl, ?_⟩) (by assumption) ?_
  rotate_left
  · intro w hSw; (try dsimp only at hSw); go_simp; (try with_reducible rfl)
  refine wpAnyH_take (i := 1) (v := ?_) rfl (by kernel_rfl) (by kernel_rfl) (by kernel_rfl) (fun _ _ _ h => h) (Or.inl ⟨by kernel_rfl, ?_⟩) (by assumption) ?_
  rotate_left
  · intro w hSw; (try dsimp only at hSw); go_simp; (try with_reducible rfl)
  refine wpAnyH_take (i := 2) (v := ?_) rfl (by kernel_rfl) (by kernel_rfl) (by kernel_rfl) (fun _ _ _ h => h) (Or.inl ⟨by kernel_rfl, ?_⟩) (by assumption) ?_
  rotate_left
  · intro w hSw; (try dsimp only at hSw); go_simp; (try with_reducible rfl)
  refine wpAnyH_take (i := 3) (v := ?_) rfl (by kernel_rfl) (by kernel_rfl) (by kernel_rfl) (fun _ _ _ h => h) (Or.inl ⟨by kernel_rfl, ?_⟩) (by assumption) ?_
  rotate_left
  · intro w hSw; (try dsimp only at hSw); go_simp; (try with_reducible rfl)
  refine wpAnyH_take (i := 4) (v := ?_) rfl (by kernel_rfl) (by kernel_rfl) (by kernel_rfl) (fun _ _ _ h => h) (Or.inl ⟨by kernel_rfl, ?_⟩) (by assumption) ?_
  rotate_left
  · intro w hSw; (try dsimp only at hSw); go_simp; (try with_reducible rfl)
  refine wpAnyH_take (i := 5) (v := ?_) rfl (by kernel_rfl) (by kernel_rfl) (by kernel_rfl) (fun _ _ _ h => h) (Or.inl ⟨by kernel_rfl, ?_⟩) (by assumption) ?_
  rotate_left
  · intro w hSw; (try dsimp only at hSw); go_simp; (try with_reducible rfl)
  refine wpAnyH_take (i := 7) (v := ?_) rfl (by kernel_rfl) (by kernel_rfl) (by kernel_rfl) (fun _ _ _ h => h) (Or.inl ⟨by kernel_rfl, ?_⟩) (by assumption) ?_
  rotate_left
  · intro w hSw; (try dsimp only at hSw); go_simp; (try with_reducible rfl)
  refine wpAnyH_take (i := 8) (v := ?_) rfl (by kernel_rfl) (by kernel_rfl) (by kernel_rfl) (fun _ _ _ h => h) (Or.inl ⟨by kernel_rfl, ?_⟩) (by assumption) ?_
  rotate_left
  · intro w hSw; (try dsimp only at hSw); go_simp; (try with_reducible rfl)
  refine wpAnyH_take (i := 9) (v := ?_) rfl (by kernel_rfl) (by kernel_rfl) (by kernel_rfl) (fun _ _ _ h => h) (Or.inl ⟨by kernel_rfl, ?_⟩) (by assumption) ?_
  rotate_left
  · intro w hSw; (try dsimp only at hSw); go_simp; (try with_reducible rfl)
  refine wpAnyH_take (i := 10) (v := ?_) rfl (by kernel_rfl) (by kernel_rfl) (by kernel_rfl) (fun _ _ _ h => h) (Or.inl ⟨by kernel_rfl, ?_⟩) (by assumption) ?_
  rotate_left
  · intro w hSw; (try dsimp only at hSw); go_simp; (try with_reducible rfl)
  refine wpAnyH_take (i := 12) (v := ?_) rfl (by kernel_rfl) (by kernel_rfl) (by kernel_rfl) (fun _ _ _ h => h) (Or.inl ⟨by kernel_rfl, ?_⟩) (by assumption) ?_
  rotate_left
  · intro w hSw; (try dsimp only at hSw); go_simp; (try with_reducible rfl)
  refine wpAnyH_ready (rs := [6]) (by kernel_rfl) (by simp) ?_
  refine AllReadyH.cons rfl (fun K hK => ?_) AllReadyH.nil
  go_simp
  refine (wl_front HD.out.2.1 HH.out.2.2.2.2.2.2.1 (by have := HH.out.2.2.2.2.2.2.2.1; omega) (v.g : Int) v.sg HH.out.2.2.2.2.2.2.2.2.1).mono ?_
  rintro x w2 ⟨rfl, hb2⟩
  rw [← HK.out.1]
  have HD2 : Hid (ApC w2 P2 P5 R v.g v.sg v.used T.length cap LA ∧ WlS w2 base B S a b R buf ws ar st v ∧ StrsAt w2 LA T ∧ Below w.heap.size w w2) := Lib.hid (by
    have hW := HD.out.2.1.below hb2
    have q2 : P2 < wd.heap.size := Nat.lt_of_lt_of_le HB.out.2.2.1 HD.out.2.2.2.size
    have q5 : P5 < wd.heap.size := Nat.lt_of_lt_of_le HB.out.2.2.2.1 HD.out.2.2.2.size
    exact ⟨⟨(hb2.cell (p := ⟨P2, 0, none⟩) q2).trans HD.out.1.1, (hb2.cell (p := ⟨P5, 0, none⟩) q5).trans HD.out.1.2.1, hW.c1, hW.c2, hW.c4⟩, hW, HD.out.2.2.1.below hb2, HD.out.2.2.2.trans (hb2.mono HD.out.2.2.2.size)⟩)
  clear hS0 hb2 HD
  refine hK.out _ _ HD2.out.1 (fun hS0 => ?_)
  clear hK K
  refine wpAnyH_take (i := 11) (v := ?_) rfl (by kernel_rfl) (by kernel_rfl) (by kernel_rfl) (fun _ _ _ h => h) (Or.inl ⟨by kernel_rfl, ?_⟩) (by assumption) ?_
  rotate_left
  · intro w hSw; (try dsimp only at hSw); go_simp; (try with_reducible rfl)
  refine wpAnyH_ready (rs := [13]) (by kernel_rfl) (by simp) ?_
  refine AllReadyH.cons rfl (fun K hK => ?_) AllReadyH.nil
  go_simp
  refine (wl_lay HD2.out.2.1 HH.out.2.1 LA cap T (by have := HH.out.2.2.1; have := HT.out.1; omega) HH.out.2.2.2.1 (by have := HH.out.2.2.2.2.1; omega) HH.out.2.2.2.2.2.1 k (by have := HK.out.2; have := HH.out.2.2.2.2.2.2.2.2.2.1; omega) HD2.out.2.2.1 (fun g o _ e => HB.out.2.2.2.2 g o e) (by have := HT.out.1; omega) HT.out.2).mono ?_
  rintro x w3 ⟨rfl, hwo⟩
  obtain ⟨y, hy⟩ : ∃ y, y = layF a b k T ws ar st := ⟨_, rfl⟩
  rw [← hy] at hwo ⊢
  have HY := Lib.hid hy
  clear hy
  obtain ⟨ws3, ar3, st3, c⟩ := y
  simp only at hwo ⊢
  obtain ⟨buf3, W3, K3, F3⟩ := hwo
  have hcells : ApC w3 P2 P5 R v.g v.sg v.used T.length cap LA := by
    have q2 : P2 < w2.heap.size := Nat.lt_of_lt_of_le HB.out.2.2.1 HD2.out.2.2.2.size
    have q5 : P5 < w2.heap.size := Nat.lt_of_lt_of_le HB.out.2.2.2.1 HD2.out.2.2.2.size
    have b2 := K3.block P2 q2 HB.out.1
    have b5 := K3.block P5 q5 HB.out.2.1
    exact ⟨by rw [World.cell?_of_block b2]; exact HD2.out.1.1, by rw [World.cell?_of_block b5]; exact HD2.out.1.2.1, W3.c1, W3.c2, W3.c4⟩
  have HD3 := Lib.hid (And.intro hcells (And.intro W3 (And.intro K3 F3)))
  clear hcells W3 K3 F3 hS0
  refine hK.out _ _ HD3.out.1 (fun hS0 => ?_)
  clear hK K
  refine wpAnyH_take (i := 14) (v := ?_) rfl (by kernel_rfl) (by kernel_rfl) (by kernel_rfl) (fun _ _ _ h => h) (Or.inl ⟨by kernel_rfl, ?_⟩) (by assumption) ?_
  rotate_left
  · intro w hSw; (try dsimp only at hSw); go_simp; (try with_reducible rfl)
  refine wpAnyH_done (by kernel_rfl) ?_ _
  clear hS0 hwk
  go_simp
  by_cases hc0 : c = 0
  · subst hc0
    obtain ⟨u1, hu1⟩ : ∃ z, z = v.used + T.length := ⟨_, rfl⟩
    obtain ⟨n1, hn1⟩ : ∃ z, z = v.cnt + 1 := ⟨_, rfl⟩
    have hwu : IntKind.i64.wrap ((v.used : Int) + (T.length : Int)) = (u1 : Int) := by rw [IntWalk.i64_in _ (by have := HT.out.1; omega)]; omega
    have hwn : IntKind.i64.wrap ((v.cnt : Int) + 1) = (n1 : Int) := by rw [IntWalk.i64_in _ (by have := HH.out.2.2.2.2.2.2.2.2.2.2; omega)]; omega
    have HD4 : Hid (ApC w3.drew P2 P5 R v.g v.sg v.used T.length cap LA ∧ WlS w3.drew base B S a b R buf3 ws3 ar3 st3 v ∧ Below w3.heap.size w3 w3.drew) := Lib.hid ⟨HD3.out.1, HD3.out.2.1.drew, (Below.refl _ _).drew⟩
    have HU := Lib.hid (And.intro hu1 hn1)
    clear hu1 hn1
    go_wp2_with fail
    refine Kq.wp_region_T 9 (fun w' => ApC w' P2 P5 R v.g v.sg v.used T.length cap LA) (by kernel_rfl) HD4.out.1 (fun hS0 => ?_)
    generalize w3.drew = wd3 at *
    unfold ApC at hS0
    dsimp only [ApC]
    refine Kq.wpAnyT_take (i := 0) (v := ?_) rfl rfl (by kernel_rfl) (by kernel_rfl) (by kernel_rfl) (by kernel_rfl) (fun _ _ _ h => h) (Or.inl ⟨by kernel_rfl, ?_⟩) (by assumption) ?_
    rotate_left
    · intro w hSw; (try dsimp only at hSw); go_simp; (try with_reducible rfl)
    refine Kq.wpAnyT_take (i := 1) (v := ?_) rfl rfl (by kernel_rfl) (by kernel_rfl) (by kernel_rfl) (by kernel_rfl) (fun _ _ _ h => h) (Or.inl ⟨by kernel_rfl, ?_⟩) (by assumption) ?_
    rotate_left
    · intro w hSw; (try dsimp only at hSw); go_simp; (try with_reducible rfl)
    refine Kq.wpAnyT_take (i := 2) (v := ?_) rfl rfl (by kernel_rfl) (by kernel_rfl) (by kernel_rfl) (by kernel_rfl) (fun _ _ _ h => h) (Or.inl ⟨by kernel_rfl, ?_⟩) (by assumption) ?_
    rotate_left
    · intro w hSw; (try dsimp only at hSw); go_simp; (try with_reducible rfl)
    refine Kq.wpAnyT_take (i := 3) (v := ?_) rfl rfl (by kernel_rfl) (by kernel_rfl) (by kernel_rfl) (by kernel_rfl) (fun _ _ _ h => h) (Or.inl ⟨by kernel_rfl, ?_⟩) (by assumption) ?_
    rotate_left
    · intro w hSw; (try dsimp only at hSw); go_simp; (try with_reducible rfl)
    refine Kq.wpAnyT_take (i := 4) (v := ?_) rfl rfl (by kernel_rfl) (by kernel_rfl) (by kernel_rfl) (by kernel_rfl) (fun _ _ _ h => h) (Or.inl ⟨by kernel_rfl, ?_⟩) (by assumption) ?_
    rotate_left
    · intro w hSw; (try dsimp only at hSw); go_simp; (try with_reducible rfl)
    refine Kq.wpAnyT_take (i := 5) (v := ?_) rfl rfl (by kernel_rfl) (by kernel_rfl) (by kernel_rfl) (by kernel_rfl) (fun _ _ _ h => h) (Or.inl ⟨by kernel_rfl, ?_⟩) (by assumption) ?_
    rotate_left
    · intro w hSw; (try dsimp only at hSw); go_simp; (try with_reducible rfl)
    refine Kq.wpAnyT_take (i := 6) (v := ?_) rfl rfl (by kernel_rfl) (by kernel_rfl) (by kernel_rfl) (by kernel_rfl) (fun _ _ _ h => h) (Or.inl ⟨by kernel_rfl, ?_⟩) (by assumption) ?_
    rotate_left
    · intro w hSw; (try dsimp only at hSw); go_simp; (try with_reducible rfl)
    refine Kq.wpAnyT_one (i := 7) (by kernel_rfl) rfl (fun K hK => ?_)
    go_simp
    refine hK.out _ _ HD4.out.1 (fun hS1 => ?_)
    clear hK K hS0
    have hS0 := hS1
    clear hS1
    unfold ApC at hS0
    refine Kq.wpAnyT_take (i := 8) (v := ?_) rfl rfl (by kernel_rfl) (by kernel_rfl) (by kernel_rfl) (by kernel_rfl) (fun _ _ _ h => h) (Or.inl ⟨by kernel_rfl, ?_⟩) (by assumption) ?_
    rotate_left
    · intro w hSw; (try dsimp only at hSw); go_simp; (try with_reducible rfl)
    have f4 := HD4.out.2.1.fz 4
    refine Kq.wpAnyT_last (by kernel_rfl) rfl (fun K hK => ?_)
    go_simp
    refine hK.out _ _ ?_
    clear hK K
    refine Kq.wpAnyT_done (by kernel_rfl) ?_ _
    obtain ⟨w4, hw4⟩ : ∃ z, z = wd3.setCell ⟨R, 4, none⟩ (.int .i64 (u1 : Int)) := ⟨_, rfl⟩
    have hk4 : Kq.Keeps (· = R) wd3 w4 := by rw [hw4]; exact Kq.Keeps.setCell _ _ _ rfl
    have hb4 : w4.heap[R]? = some (.cells (({ v with used := u1 } : WalV).cells B) 86 (0, 0)) := by rw [hw4]; exact Kq.blk_set HD4.out.2.1.blk 4 _
    have W4 := HD4.out.2.1.set hk4 hb4
    have p2 : w4.cell? ⟨P2, 0, none⟩ = some (.pointer (some ⟨R, 0, none⟩)) := by
      have q2 : P2 < wd3.heap.size := cell_ltW HD4.out.1.1
      rw [World.cell?_of_block (hk4.block P2 q2 (fun e => HB.out.1 (Or.inr e)))]; exact HD4.out.1.1
    have f5 := W4.fz 5
    have k5 := W4.c5
    obtain ⟨w5, hw5⟩ : ∃ z, z = w4.setCell ⟨R, 5, none⟩ (.int .i64 (n1 : Int)) := ⟨_, rfl⟩
    have hk5 : Kq.Keeps (· = R) w4 w5 := by rw [hw5]; exact Kq.Keeps.setCell _ _ _ rfl
    have hb5 : w5.heap[R]? = some (.cells (({ v with used := u1, cnt := n1 } : WalV).cells B) 86 (0, 0)) := by rw [hw5]; exact Kq.blk_set W4.blk 5 _
    have HP : Hid (WoP w base B S a b R buf ws3 ar3 st3 { v with used := u1, cnt := n1 } w5) := Lib.hid (by
      have h1 : WoP w3 base B S a b R buf3 ws3 ar3 st3 { v with used := u1, cnt := n1 } w5 := WoP.from HD4.out.2.2 ⟨buf3, W4.set hk5 hb5, (hk4.trans hk5).mono (fun _ _ e => Or.inr e), fun j hj => Or.inl hj⟩
      exact WoP.from HD2.out.2.2.2 (WoP.comp HD2.out.2.1.lt HD3.out.2.2.1 HD3.out.2.2.2 h1))
    have HW := Lib.hid (And.intro hw4 hw5)
    clear hS0 hk4 hb4 W4 hk5 hb5 hw5 f4
    go_simp
    rw [← hw4]
    clear hw4
    simp only at k5
    go_wp2
    rw [← HW.out.2]
    go_ret
    exact ⟨by rw [← HY.out]; rfl, by rw [← HY.out]; unfold apV; rw [if_pos rfl, ← HU.out.1, ← HU.out.2]; exact HP.out⟩
  · have hcb : (c == 0) = false := beq_eq_false_iff_ne.2 hc0
    have hcn : (c != 0) = true := by rw [bne_iff_ne]; exact hc0
    have HP : Hid (WoP w base B S a b R buf ws3 ar3 st3 v w3) := Lib.hid (WoP.from HD2.out.2.2.2 (WoP.comp HD2.out.2.1.lt HD3.out.2.2.1 HD3.out.2.2.2 (WoP.here HD3.out.2.1)))
    have HC := Lib.hid hc0
    clear hc0
    go_wp2
    go_ret
    exact ⟨by rw [← HY.out]; rfl, by rw [← HY.out]; unfold apV; rw [if_neg HC.out]; exact HP.out⟩
end Go.Proofs.YtbpgfhcecanikaaGreat
namespace Go.Proofs.YtbpgfhcecanikaaGreat
open Go.RowKit
set_option linter.unusedVariables false
/-- what Append makes of a log and its disk, whatever stands; its code -/
def apAll (a b : Nat) (s : ByteArray) (ws : List (Int × ByteArray)) (ar : Nat) (st : List Nat) (v : WalV) : (List (Int × ByteArray) × Nat × List Nat × Int) × WalV :=
  if v.broken = true then ((ws, ar, st, 14), v) else if v.ready = false then ((ws, ar, st, 15), v) else if ¬ s.size ≤ 4096 then ((ws, ar, st, 1), v) else if segN b < v.used + (frSplit (a : Int) v.g v.cnt s).1.length then ((ws, ar, st, 2), v)
  else (apF a b v.g v.sg v.used v.cnt s ws ar st, brokenV (apV v (frSplit (a : Int) v.g v.cnt s).1.length (apF a b v.g v.sg v.used v.cnt s ws ar st).2.2.2) (apF a b v.g v.sg v.used v.cnt s ws ar st).2.2.2)
def AvC (w : World) (Q R a g cnt : Nat) : Prop := w.cell? ⟨Q, 0, none⟩ = some (.pointer (some ⟨R, 0, none⟩)) ∧ w.cell? ⟨R, 0, none⟩ = some (.int .i64 (a : Int)) ∧ w.cell? ⟨Q, 1, none⟩ = some (.int .u64 (g : Int)) ∧ w.cell? ⟨Q, 5, none⟩ = some (.int .i64 (cnt : Int))
def AuC (w : World) (Q R g sg used : Nat) : Prop := w.cell? ⟨Q, 0, none⟩ = some (.pointer (some ⟨R, 0, none⟩)) ∧ w.cell? ⟨Q, 1, none⟩ = some (.int .u64 (g : Int)) ∧ w.cell? ⟨Q, 2, none⟩ = some (.int .i64 (sg : Int)) ∧ w.cell? ⟨Q, 4, none⟩ = some (.int .i64 (used : Int))
section
variable {w : World} {base R a b Q : Nat} {buf : Value} {ws : List (Int × ByteArray)} {ar : Nat} {st : List Nat} {v : WalV}
theorem RvS.avc (h : RvS w base R a b Q buf ws ar st v) : AvC w Q R a v.g v.cnt := ⟨h.c0, h.d.c0, h.c1, h.c5⟩
theorem RvS.auc (h : RvS w base R a b Q buf ws ar st v) : AuC w Q R v.g v.sg v.used := ⟨h.c0, h.c1, h.c2, h.c4⟩
end
set_option maxRecDepth 100000 in
set_option maxHeartbeats 1000000 in
theorem rv_append_broken {w : World} {base R a b Q : Nat} {buf : Value} {ws : List (Int × ByteArray)} {ar : Nat} {st : List Nat} {v : WalV} (h : RvS w base R a b Q buf ws ar st v) (s : ByteArray) (hbr : v.broken = true) :
    Calls Tryz.prog 30 #[.pointer (some ⟨Q, 0, none⟩), .string s] w fun x w' => x = .returned (.int .i64 14) ∧ w = w' := by
  have c7 := h.c7
  rw [hbr] at c7
  clear h hbr
  go_enter Tryz.func30, Tryz.ntmps30
  go_wp2
  go_ret
  exact ⟨rfl, rfl⟩
set_option maxRecDepth 100000 in
set_option maxHeartbeats 1000000 in
theorem rv_append_order {w : World} {base R a b Q : Nat} {buf : Value} {ws : List (Int × ByteArray)} {ar : Nat} {st : List Nat} {v : WalV} (h : RvS w base R a b Q buf ws ar st v) (s : ByteArray) (hbr : v.broken = false) (hrd : v.ready = false) :
    Calls Tryz.prog 30 #[.pointer (some ⟨Q, 0, none⟩), .string s] w fun x w' => x = .returned (.int .i64 15) ∧ w = w' := by
  have c7 := h.c7
  have c6 := h.c6
  rw [hbr] at c7
  rw [hrd] at c6
  clear h hbr hrd
  go_enter Tryz.func30, Tryz.ntmps30
  go_wp2
  go_ret
  exact ⟨rfl, rfl⟩
set_option maxRecDepth 100000 in
set_option maxHeartbeats 1000000 in
theorem rv_append_range {w : World} {base R a b Q : Nat} {buf : Value} {ws : List (Int × ByteArray)} {ar : Nat} {st : List Nat} {v : WalV} (h : RvS w base R a b Q buf ws ar st v) (s : ByteArray) (hbr : v.broken = false) (hrd : v.ready = true) (hs : ¬ s.size ≤ 4096) :
    Calls Tryz.prog 30 #[.pointer (some ⟨Q, 0, none⟩), .string s] w fun x w' => x = .returned (.int .i64 1) ∧ w = w' := by
  have c7 := h.c7
  have c6 := h.c6
  rw [hbr] at c7
  rw [hrd] at c6
  have hd : decide (4096 < (s.size : Int)) = true := decide_eq_true (by omega)
  have hd' : decide (4096 < s.size) = true := decide_eq_true (by omega)
  clear h hbr hrd hs
  go_enter Tryz.func30, Tryz.ntmps30
  go_wp2
  go_ret
  exact ⟨rfl, rfl⟩
set_option maxRecDepth 100000 in
set_option maxHeartbeats 4000000 in
theorem rv_append_on {w : World} {base R a b Q N : Nat} {buf : Value} {ws : List (Int × ByteArray)} {ar : Nat} {st : List Nat} {v : WalV} (h : RvS w base R a b Q buf ws ar st v) (ho : StOk a b N ws ar st) (hN : N + 220 ≤ 1000000) (hn : a * b ≤ 3000000) (ha : 64 ≤ a) (ha2 : a ≤ 512) (hb : 4 ≤ b) (hb2 : b ≤ 5000) (hsg : v.sg ≤ 1) (hg : v.g < M64) (hu : v.used ≤ 3000) (hcn : v.cnt ≤ 1000000) (s : ByteArray) (hbr : v.broken = false) (hrd : v.ready = true) (hs : s.size ≤ 4096) :
    Calls Tryz.prog 30 #[.pointer (some ⟨Q, 0, none⟩), .string s] w fun x w' => x = .returned (.int .i64 (apAll a b s ws ar st v).1.2.2.2) ∧ RvP w base R a b Q buf (apAll a b s ws ar st v).1.1 (apAll a b s ws ar st v).1.2.1 (apAll a b s ws ar st v).1.2.2.1 (apAll a b s ws ar st v).2 w' := by
  have HF1 : Hid (segN b < v.used + (frSplit (a : Int) v.g v.cnt s).1.length → apAll a b s ws ar st v = ((ws, ar, st, 2), v)) := Lib.hid (fun hc => by unfold apAll; rw [if_neg (by rw [hbr]; decide), if_neg (by rw [hrd]; decide), if_neg (by omega), if_pos hc])
  have HF2 : Hid (¬ segN b < v.used + (frSplit (a : Int) v.g v.cnt s).1.length → apAll a b s ws ar st v = (layF a b (2 + v.sg * segN b + v.used) (frSplit (a : Int) v.g v.cnt s).1 ws ar st, brokenV (apV v (frSplit (a : Int) v.g v.cnt s).1.length (layF a b (2 + v.sg * segN b + v.used) (frSplit (a : Int) v.g v.cnt s).1 ws ar st).2.2.2) (layF a b (2 + v.sg * segN b + v.used) (frSplit (a : Int) v.g v.cnt s).1 ws ar st).2.2.2)) := Lib.hid (fun hc => by unfold apAll; rw [if_neg (by rw [hbr]; decide), if_neg (by rw [hrd]; decide), if_neg (by omega), if_neg hc]; rfl)
  have HSC : Hid ((frSplit (a : Int) v.g v.cnt s).2 = 0) := Lib.hid (by unfold frSplit; rw [if_pos ⟨⟨by omega, by omega⟩, hs⟩])
  have HLS := Lib.hid (split_sizes a v.g v.cnt s ha)
  have c7 := h.c7
  have c6 := h.c6
  rw [hbr] at c7
  rw [hrd] at c6
  have hd : decide (4096 < (s.size : Int)) = false := decide_eq_false (by omega)
  have hd' : decide (4096 < s.size) = false := decide_eq_false (by omega)
  have hcv : IntKind.u64.wrap (v.cnt : Int) = (v.cnt : Int) := IntWalk.u64_in _ (by omega)
  have HH := Lib.hid (And.intro h (And.intro ho (And.intro hN (And.intro hn (And.intro ha (And.intro ha2 (And.intro hb (And.intro hb2 (And.intro hsg (And.intro hg (And.intro hu (And.intro hcn (And.intro hbr hs)))))))))))))
  have HD : Hid (AvC w.drew Q R a v.g v.cnt ∧ RvS w.drew base R a b Q buf ws ar st v ∧ Below w.heap.size w w.drew) := Lib.hid ⟨h.drew.avc, h.drew, (Below.refl _ _).drew⟩
  clear h ho hN hn ha ha2 hb hb2 hsg hg hcn hs hrd hbr
  go_enter Tryz.func30, Tryz.ntmps30
  go_wp2_with fail
  clear c6 c7
  refine wp_region_held_drew (S := fun w' => AvC w' Q R a v.g v.cnt) (by kernel_rfl) HD.out.1 (fun hS0 => ?_)
  generalize w.drew = wd at *
  unfold AvC at hS0
  dsimp only [AvC]
  refine wpAnyH_take (i := 0) (v := ?_) rfl (by kernel_rfl) (by kernel_rfl) (by kernel_rfl) (fun _ _ _ h => h) (Or.inl ⟨by kernel_rfl, ?_⟩) (by assumption) ?_
  rotate_left
  · intro w hSw; (try dsimp only at hSw); go_simp; (try with_reducible rfl)
  refine wpAnyH_take (i := 1) (v := ?_) rfl (by kernel_rfl) (by kernel_rfl) (by kernel_rfl) (fun _ _ _ h => h) (Or.inl ⟨by kernel_rfl, ?_⟩) (by assumption) ?_
  rotate_left
  · intro w hSw; (try dsimp only at hSw); go_simp; (try with_reducible rfl)
  refine wpAnyH_take (i := 2) (v := ?_) rfl (by kernel_rfl) (by kernel_rfl) (by kernel_rfl) (fun _ _ _ h => h) (Or.inl ⟨by kernel_rfl, ?_⟩) (by assumption) ?_
  rotate_left
  · intro w hSw; (try dsimp only at hSw); go_simp; (try with_reducible rfl)
  refine wpAnyH_take (i := 3) (v := ?_) rfl (by kernel_rfl) (by kernel_rfl) (by kernel_rfl) (fun _ _ _ h => h) (Or.inl ⟨by kernel_rfl, ?_⟩) (by assumption) ?_
  rotate_left
  · intro w hSw; (try dsimp only at hSw); go_simp; (try with_reducible rfl)
  refine wpAnyH_take (i := 4) (v := ?_) rfl (by kernel_rfl) (by kernel_rfl) (by kernel_rfl) (fun _ _ _ h => h) (Or.inl ⟨by kernel_rfl, ?_⟩) (by assumption) ?_
  rotate_left
  · intro w hSw; (try dsimp only at hSw); go_simp; (try with_reducible rfl)
  refine wpAnyH_take (i := 5) (v := ?_) rfl (by kernel_rfl) (by kernel_rfl) (by kernel_rfl) (fun _ _ _ h => h) (Or.inl ⟨by kernel_rfl, ?_⟩) (by assumption) ?_
  rotate_left
  · intro w hSw; (try dsimp only at hSw); go_simp; (try with_reducible rfl)
  refine wpAnyH_take (i := 6) (v := ?_) rfl (by kernel_rfl) (by kernel_rfl) (by kernel_rfl) (fun _ _ _ h => h) (Or.inl ⟨by kernel_rfl, ?_⟩) (by assumption) ?_
  rotate_left
  · intro w hSw; (try dsimp only at hSw); go_simp; (try with_reducible rfl)
  refine wpAnyH_take (i := 7) (v := ?_) rfl (by kernel_rfl) (by kernel_rfl) (by kernel_rfl) (fun _ _ _ h => h) (Or.inl ⟨by kernel_rfl, ?_⟩) (by assumption) ?_
  rotate_left
  · intro w hSw; (try dsimp only at hSw); go_simp; (try with_reducible rfl)
  refine wpAnyH_take (i := 8) (v := ?_) rfl (by kernel_rfl) (by kernel_rfl) (by kernel_rfl) (fun _ _ _ h => h) (Or.inl ⟨by kernel_rfl, ?_⟩) (by assumption) ?_
  rotate_left
  · intro w hSw; (try dsimp only at hSw); go_simp; (try with_reducible rfl)
  refine wpAnyH_take (i := 9) (v := ?_) rfl (by kernel_rfl) (by kernel_rfl) (by kernel_rfl) (fun _ _ _ h => h) (Or.inl ⟨by kernel_rfl, ?_⟩) (by assumption) ?_
  rotate_left
  · intro w hSw; (try dsimp only at hSw); go_simp; (try with_reducible rfl)
  refine wpAnyH_take (i := 10) (v := ?_) rfl (by kernel_rfl) (by kernel_rfl) (by kernel_rfl) (fun _ _ _ h => h) (Or.inl ⟨by kernel_rfl, ?_⟩) (by assumption) ?_
  rotate_left
  · intro w hSw; (try dsimp only at hSw); go_simp; (try with_reducible rfl)
  refine wpAnyH_take (i := 11) (v := ?_) rfl (by kernel_rfl) (by kernel_rfl) (by kernel_rfl) (fun _ _ _ h => h) (Or.inl ⟨by kernel_rfl, ?_⟩) (by assumption) ?_
  rotate_left
  · intro w hSw; (try dsimp only at hSw); go_simp; (try with_reducible rfl)
  refine wpAnyH_take (i := 12) (v := ?_) rfl (by kernel_rfl) (by kernel_rfl) (by kernel_rfl) (fun _ _ _ h => h) (Or.inl ⟨by kernel_rfl, ?_⟩) (by assumption) ?_
  rotate_left
  · intro w hSw; (try dsimp only at hSw); go_simp; (try with_reducible rfl)
  refine wpAnyH_take (i := 13) (v := ?_) rfl (by kernel_rfl) (by kernel_rfl) (by kernel_rfl) (fun _ _ _ h => h) (Or.inl ⟨by kernel_rfl, ?_⟩) (by assumption) ?_
  rotate_left
  · intro w hSw; (try dsimp only at hSw); go_simp; (try with_reducible rfl)
  refine wpAnyH_take (i := 14) (v := ?_) rfl (by kernel_rfl) (by kernel_rfl) (by kernel_rfl) (fun _ _ _ h => h) (Or.inl ⟨by kernel_rfl, ?_⟩) (by assumption) ?_
  rotate_left
  · intro w hSw; (try dsimp only at hSw); go_simp; (try with_reducible rfl)
  refine wpAnyH_take (i := 15) (v := ?_) rfl (by kernel_rfl) (by kernel_rfl) (by kernel_rfl) (fun _ _ _ h => h) (Or.inl ⟨by kernel_rfl, ?_⟩) (by assumption) ?_
  rotate_left
  · intro w hSw; (try dsimp only at hSw); go_simp; (try with_reducible rfl)
  refine wpAnyH_take (i := 16) (v := ?_) rfl (by kernel_rfl) (by kernel_rfl) (by kernel_rfl) (fun _ _ _ h => h) (Or.inl ⟨by kernel_rfl, ?_⟩) (by assumption) ?_
  rotate_left
  · intro w hSw; (try dsimp only at hSw); go_simp; (try with_reducible rfl)
  refine wpAnyH_take (i := 17) (v := ?_) rfl (by kernel_rfl) (by kernel_rfl) (by kernel_rfl) (fun _ _ _ h => h) (Or.inl ⟨by kernel_rfl, ?_⟩) (by assumption) ?_
  rotate_left
  · intro w hSw; (try dsimp only at hSw); go_simp; (try with_reducible rfl)
  refine wpAnyH_ready (rs := [18]) (by kernel_rfl) (by simp) ?_
  refine AllReadyH.cons rfl (fun K hK => ?_) AllReadyH.nil
  go_simp
  refine (rf_split (a : Int) v.g v.cnt s wd HH.out.2.2.2.2.2.2.2.2.2.1 (by have := HH.out.2.2.2.2.2.2.2.2.2.2.2.1; unfold M64; omega)).mono ?_
  rintro x w1 ⟨vs, rfl, hrow, hb1⟩
  rw [HSC.out]
  obtain ⟨LA, lcap, rfl, hLA, hge, -⟩ := row_strsW hrow
  have HD1 : Hid (RvS w1 base R a b Q buf ws ar st v ∧ Below w.heap.size w w1) := Lib.hid ⟨HD.out.2.1.below hb1, HD.out.2.2.trans (hb1.mono HD.out.2.2.size)⟩
  have HL : Hid (StrsAt w1 LA (frSplit (a : Int) v.g v.cnt s).1 ∧ ∀ g o, LA = some ⟨g, o, none⟩ → w.heap.size ≤ g) := Lib.hid ⟨hLA, fun g o e => by have h1 := hge g o e; have := HD.out.2.2.size; omega⟩
  clear hS0 hb1 hrow hLA hge HD
  refine hK.out _ _ HD1.out.1.avc (fun hS0 => ?_)
  clear hK K
  refine wpAnyH_take (i := 19) (v := ?_) rfl (by kernel_rfl) (by kernel_rfl) (by kernel_rfl) (fun _ _ _ h => h) (Or.inl ⟨by kernel_rfl, ?_⟩) (by assumption) ?_
  rotate_left
  · intro w hSw; (try dsimp only at hSw); go_simp; (try with_reducible rfl)
  refine wpAnyH_take (i := 20) (v := ?_) rfl (by kernel_rfl) (by kernel_rfl) (by kernel_rfl) (fun _ _ _ h => h) (Or.inl ⟨by kernel_rfl, ?_⟩) (by assumption) ?_
  rotate_left
  · intro w hSw; (try dsimp only at hSw); go_simp; (try with_reducible rfl)
  refine wpAnyH_take (i := 21) (v := ?_) rfl (by kernel_rfl) (by kernel_rfl) (by kernel_rfl) (fun _ _ _ h => h) (Or.inl ⟨by kernel_rfl, ?_⟩) (by assumption) ?_
  rotate_left
  · intro w hSw; (try dsimp only at hSw); go_simp; (try with_reducible rfl)
  refine wpAnyH_take (i := 22) (v := ?_) rfl (by kernel_rfl) (by kernel_rfl) (by kernel_rfl) (fun _ _ _ h => h) (Or.inl ⟨by kernel_rfl, ?_⟩) (by assumption) ?_
  rotate_left
  · intro w hSw; (try dsimp only at hSw); go_simp; (try with_reducible rfl)
  refine wpAnyH_take (i := 23) (v := ?_) rfl (by kernel_rfl) (by kernel_rfl) (by kernel_rfl) (fun _ _ _ h => h) (Or.inl ⟨by kernel_rfl, ?_⟩) (by assumption) ?_
  rotate_left
  · intro w hSw; (try dsimp only at hSw); go_simp; (try with_reducible rfl)
  refine wpAnyH_done (by kernel_rfl) ?_ _
  clear hS0 hcv
  obtain ⟨T, hT⟩ : ∃ z, z = (frSplit (a : Int) v.g v.cnt s).1 := ⟨_, rfl⟩
  rw [← hT] at HF1 HF2 HLS HL ⊢
  clear hT HSC
  obtain ⟨sl, hsl⟩ : ∃ z, z = segN b := ⟨_, rfl⟩
  have hsl2 : sl ≤ 2500 := by have := HH.out.2.2.2.2.2.2.2.1; rw [hsl]; unfold segN; omega
  rw [← hsl] at HF1 HF2
  have HSL := Lib.hid hsl
  clear hsl
  have hTl : T.length ≤ 200 := HLS.out.1
  obtain ⟨m, hm⟩ : ∃ m : Int, m = (sl : Int) - (v.used : Int) := ⟨_, rfl⟩
  have hwm : IntKind.i64.wrap ((sl : Int) - (v.used : Int)) = m := by rw [IntWalk.i64_in _ (by omega)]; omega
  have HM := Lib.hid hm
  have HD2 : Hid (AuC w1.drew Q R v.g v.sg v.used ∧ RvS w1.drew base R a b Q buf ws ar st v ∧ Below w.heap.size w w1.drew ∧ StrsAt w1.drew LA T) := Lib.hid ⟨HD1.out.1.drew.auc, HD1.out.1.drew, HD1.out.2.drew, HL.out.1.below (Below.refl _ _).drew⟩
  go_simp
  go_wp2_with fail
  refine wp_region_held_drew (S := fun w' => AuC w' Q R v.g v.sg v.used) (by kernel_rfl) HD2.out.1 (fun hS0 => ?_)
  generalize w1.drew = wd1 at *
  unfold AuC at hS0
  dsimp only [AuC]
  refine wpAnyH_take (i := 0) (v := ?_) rfl (by kernel_rfl) (by kernel_rfl) (by kernel_rfl) (fun _ _ _ h => h) (Or.inl ⟨by kernel_rfl, ?_⟩) (by assumption) ?_
  rotate_left
  · intro w hSw; (try dsimp only at hSw); go_simp; (try with_reducible rfl)
  refine wpAnyH_take (i := 1) (v := ?_) rfl (by kernel_rfl) (by kernel_rfl) (by kernel_rfl) (fun _ _ _ h => h) (Or.inl ⟨by kernel_rfl, ?_⟩) (by assumption) ?_
  rotate_left
  · intro w hSw; (try dsimp only at hSw); go_simp; (try with_reducible rfl)
  refine wpAnyH_take (i := 2) (v := ?_) rfl (by kernel_rfl) (by kernel_rfl) (by kernel_rfl) (fun _ _ _ h => h) (Or.inl ⟨by kernel_rfl, ?_⟩) (by assumption) ?_
  rotate_left
  · intro w hSw; (try dsimp only at hSw); go_simp; (try with_reducible rfl)
  refine wpAnyH_take (i := 3) (v := ?_) rfl (by kernel_rfl) (by kernel_rfl) (by kernel_rfl) (fun _ _ _ h => h) (Or.inl ⟨by kernel_rfl, ?_⟩) (by assumption) ?_
  rotate_left
  · intro w hSw; (try dsimp only at hSw); go_simp; (try with_reducible rfl)
  refine wpAnyH_take (i := 4) (v := ?_) rfl (by kernel_rfl) (by kernel_rfl) (by kernel_rfl) (fun _ _ _ h => h) (Or.inl ⟨by kernel_rfl, ?_⟩) (by assumption) ?_
  rotate_left
  · intro w hSw; (try dsimp only at hSw); go_simp; (try with_reducible rfl)
  refine wpAnyH_take (i := 5) (v := ?_) rfl (by kernel_rfl) (by kernel_rfl) (by kernel_rfl) (fun _ _ _ h => h) (Or.inl ⟨by kernel_rfl, ?_⟩) (by assumption) ?_
  rotate_left
  · intro w hSw; (try dsimp only at hSw); go_simp; (try with_reducible rfl)
  refine wpAnyH_take (i := 7) (v := ?_) rfl (by kernel_rfl) (by kernel_rfl) (by kernel_rfl) (fun _ _ _ h => h) (Or.inl ⟨by kernel_rfl, ?_⟩) (by assumption) ?_
  rotate_left
  · intro w hSw; (try dsimp only at hSw); go_simp; (try with_reducible rfl)
  refine wpAnyH_take (i := 8) (v := ?_) rfl (by kernel_rfl) (by kernel_rfl) (by kernel_rfl) (fun _ _ _ h => h) (Or.inl ⟨by kernel_rfl, ?_⟩) (by assumption) ?_
  rotate_left
  · intro w hSw; (try dsimp only at hSw); go_simp; (try with_reducible rfl)
  refine wpAnyH_take (i := 9) (v := ?_) rfl (by kernel_rfl) (by kernel_rfl) (by kernel_rfl) (fun _ _ _ h => h) (Or.inl ⟨by kernel_rfl, ?_⟩) (by assumption) ?_
  rotate_left
  · intro w hSw; (try dsimp only at hSw); go_simp; (try with_reducible rfl)
  refine wpAnyH_take (i := 10) (v := ?_) rfl (by kernel_rfl) (by kernel_rfl) (by kernel_rfl) (fun _ _ _ h => h) (Or.inl ⟨by kernel_rfl, ?_⟩) (by assumption) ?_
  rotate_left
  · intro w hSw; (try dsimp only at hSw); go_simp; (try with_reducible rfl)
  refine wpAnyH_ready (rs := [6]) (by kernel_rfl) (by simp) ?_
  refine AllReadyH.cons rfl (fun K hK => ?_) AllReadyH.nil
  go_simp
  refine (rv_segment HD2.out.2.1.d HH.out.2.2.2.2.2.2.1 (by have := HH.out.2.2.2.2.2.2.2.1; omega)).mono ?_
  rintro x w2 ⟨rfl, rfl⟩
  rw [← HSL.out]
  refine hK.out _ _ HD2.out.1 (fun hS0 => ?_)
  clear hK K
  by_cases hroom : sl < v.used + T.length
  · have t1 : decide (m < (T.length : Int)) = true := decide_eq_true (by omega)
    have HF := Lib.hid (HF1.out hroom)
    clear HF1 HF2 hm
    refine wpAnyH_take (i := 11) (v := ?_) rfl (by kernel_rfl) (by kernel_rfl) (by kernel_rfl) (fun _ _ _ h => h) (Or.inl ⟨by kernel_rfl, ?_⟩) (by assumption) ?_
    rotate_left
    · intro w hSw; (try dsimp only at hSw); go_simp; (try with_reducible rfl)
    refine wpAnyH_take (i := 12) (v := ?_) rfl (by kernel_rfl) (by kernel_rfl) (by kernel_rfl) (fun _ _ _ h => h) (Or.inl ⟨by kernel_rfl, ?_⟩) (by assumption) ?_
    rotate_left
    · intro w hSw; (try dsimp only at hSw); go_simp; (try with_reducible rfl)
    refine wpAnyH_done (by kernel_rfl) ?_ _
    clear hS0 hroom
    go_simp
    go_wp2
    go_ret
    exact ⟨by rw [HF.out]; rfl, by rw [HF.out]; exact RvP.from HD2.out.2.2.1 (RvP.here HD2.out.2.1)⟩
  · have t1 : decide (m < (T.length : Int)) = false := decide_eq_false (by omega)
    have HF := Lib.hid (HF2.out hroom)
    clear HF1 HF2 hm
    refine wpAnyH_take (i := 11) (v := ?_) rfl (by kernel_rfl) (by kernel_rfl) (by kernel_rfl) (fun _ _ _ h => h) (Or.inl ⟨by kernel_rfl, ?_⟩) (by assumption) ?_
    rotate_left
    · intro w hSw; (try dsimp only at hSw); go_simp; (try with_reducible rfl)
    refine wpAnyH_take (i := 12) (v := ?_) rfl (by kernel_rfl) (by kernel_rfl) (by kernel_rfl) (fun _ _ _ h => h) (Or.inl ⟨by kernel_rfl, ?_⟩) (by assumption) ?_
    rotate_left
    · intro w hSw; (try dsimp only at hSw); go_simp; (try with_reducible rfl)
    refine wpAnyH_done (by kernel_rfl) ?_ _
    clear hS0 hroom hwm HM t1
    obtain ⟨fr, hfr⟩ : ∃ f, f = 2 + v.sg * sl := ⟨_, rfl⟩
    have hfr2 : fr ≤ 3000 := by
      have h01 : v.sg = 0 ∨ v.sg = 1 := by have := HH.out.2.2.2.2.2.2.2.2.1; omega
      rcases h01 with e | e <;> rw [hfr, e] <;> omega
    obtain ⟨k, hk⟩ : ∃ k, k = fr + v.used := ⟨_, rfl⟩
    have hwk : IntKind.i64.wrap ((fr : Int) + (v.used : Int)) = (k : Int) := by rw [IntWalk.i64_in _ (by omega)]; omega
    have hkl : k ≤ 10000 := by omega
    rw [← hfr, ← hk] at HF
    have HFR := Lib.hid (And.intro hfr hkl)
    clear hfr hk
    have HD3 : Hid (AuC wd1.drew Q R v.g v.sg v.used ∧ RvS wd1.drew base R a b Q buf ws ar st v ∧ Below w.heap.size w wd1.drew ∧ StrsAt wd1.drew LA T) := Lib.hid ⟨HD2.out.2.1.drew.auc, HD2.out.2.1.drew, HD2.out.2.2.1.drew, HD2.out.2.2.2.below (Below.refl _ _).drew⟩
    go_simp
    go_wp2_with fail
    refine wp_region_held_drew (S := fun w' => AuC w' Q R v.g v.sg v.used) (by kernel_rfl) HD3.out.1 (fun hS0 => ?_)
    generalize wd1.drew = wd2 at *
    unfold AuC at hS0
    dsimp only [AuC]
    refine wpAnyH_take (i := 0) (v := ?_) rfl (by kernel_rfl) (by kernel_rfl) (by kernel_rfl) (fun _ _ _ h => h) (Or.inl ⟨by kernel_rfl, ?_⟩) (by assumption) ?_
    rotate_left
    · intro w hSw; (try dsimp only at hSw); go_simp; (try with_reducible rfl)
    refine wpAnyH_take (i := 1) (v := ?_) rfl (by kernel_rfl) (by kernel_rfl) (by kernel_rfl) (fun _ _ _ h => h) (Or.inl ⟨by kernel_rfl, ?_⟩) (by assumption) ?_
    rotate_left
    · intro w hSw; (try dsimp only at hSw); go_simp; (try with_reducible rfl)
    refine wpAnyH_take (i := 2) (v := ?_) rfl (by kernel_rfl) (by kernel_rfl) (by kernel_rfl) (fun _ _ _ h => h) (Or.inl ⟨by kernel_rfl, ?_⟩) (by assumption) ?_
    rotate_left
    · intro w hSw; (try dsimp only at hSw); go_simp; (try with_reducible rfl)
    refine wpAnyH_take (i := 3) (v := ?_) rfl (by kernel_rfl) (by kernel_rfl) (by kernel_rfl) (fun _ _ _ h => h) (Or.inl ⟨by kernel_rfl, ?_⟩) (by assumption) ?_
    rotate_left
    · intro w hSw; (try dsimp only at hSw); go_simp; (try with_reducible rfl)
    refine wpAnyH_take (i := 4) (v := ?_) rfl (by kernel_rfl) (by kernel_rfl) (by kernel_rfl) (fun _ _ _ h => h) (Or.inl ⟨by kernel_rfl, ?_⟩) (by assumption) ?_
    rotate_left
    · intro w hSw; (try dsimp only at hSw); go_simp; (try with_reducible rfl)
    refine wpAnyH_take (i := 5) (v := ?_) rfl (by kernel_rfl) (by kernel_rfl) (by kernel_rfl) (fun _ _ _ h => h) (Or.inl ⟨by kernel_rfl, ?_⟩) (by assumption) ?_
    rotate_left
    · intro w hSw; (try dsimp only at hSw); go_simp; (try with_reducible rfl)
    refine wpAnyH_take (i := 6) (v := ?_) rfl (by kernel_rfl) (by kernel_rfl) (by kernel_rfl) (fun _ _ _ h => h) (Or.inl ⟨by kernel_rfl, ?_⟩) (by assumption) ?_
    rotate_left
    · intro w hSw; (try dsimp only at hSw); go_simp; (try with_reducible rfl)
    refine wpAnyH_take (i := 7) (v := ?_) rfl (by kernel_rfl) (by kernel_rfl) (by kernel_rfl) (fun _ _ _ h => h) (Or.inl ⟨by kernel_rfl, ?_⟩) (by assumption) ?_
    rotate_left
    · intro w hSw; (try dsimp only at hSw); go_simp; (try with_reducible rfl)
    refine wpAnyH_take (i := 8) (v := ?_) rfl (by kernel_rfl) (by kernel_rfl) (by kernel_rfl) (fun _ _ _ h => h) (Or.inl ⟨by kernel_rfl, ?_⟩) (by assumption) ?_
    rotate_left
    · intro w hSw; (try dsimp only at hSw); go_simp; (try with_reducible rfl)
    refine wpAnyH_take (i := 9) (v := ?_) rfl (by kernel_rfl) (by kernel_rfl) (by kernel_rfl) (fun _ _ _ h => h) (Or.inl ⟨by kernel_rfl, ?_⟩) (by assumption) ?_
    rotate_left
    · intro w hSw; (try dsimp only at hSw); go_simp; (try with_reducible rfl)
    refine wpAnyH_take (i := 10) (v := ?_) rfl (by kernel_rfl) (by kernel_rfl) (by kernel_rfl) (fun _ _ _ h => h) (Or.inl ⟨by kernel_rfl, ?_⟩) (by assumption) ?_
    rotate_left
    · intro w hSw; (try dsimp only at hSw); go_simp; (try with_reducible rfl)
    refine wpAnyH_take (i := 11) (v := ?_) rfl (by kernel_rfl) (by kernel_rfl) (by kernel_rfl) (fun _ _ _ h => h) (Or.inl ⟨by kernel_rfl, ?_⟩) (by assumption) ?_
    rotate_left
    · intro w hSw; (try dsimp only at hSw); go_simp; (try with_reducible rfl)
    refine wpAnyH_take (i := 13) (v := ?_) rfl (by kernel_rfl) (by kernel_rfl) (by kernel_rfl) (fun _ _ _ h => h) (Or.inl ⟨by kernel_rfl, ?_⟩) (by assumption) ?_
    rotate_left
    · intro w hSw; (try dsimp only at hSw); go_simp; (try with_reducible rfl)
    refine wpAnyH_take (i := 14) (v := ?_) rfl (by kernel_rfl) (by kernel_rfl) (by kernel_rfl) (fun _ _ _ h => h) (Or.inl ⟨by kernel_rfl, ?_⟩) (by assumption) ?_
    rotate_left
    · intro w hSw; (try dsimp only at hSw); go_simp; (try with_reducible rfl)
    refine wpAnyH_take (i := 15) (v := ?_) rfl (by kernel_rfl) (by kernel_rfl) (by kernel_rfl) (fun _ _ _ h => h) (Or.inl ⟨by kernel_rfl, ?_⟩) (by assumption) ?_
    rotate_left
    · intro w hSw; (try dsimp only at hSw); go_simp; (try with_reducible rfl)
    refine wpAnyH_take (i := 16) (v := ?_) rfl (by kernel_rfl) (by kernel_rfl) (by kernel_rfl) (fun _ _ _ h => h) (Or.inl ⟨by kernel_rfl, ?_⟩) (by assumption) ?_
    rotate_left
    · intro w hSw; (try dsimp only at hSw); go_simp; (try with_reducible rfl)
    refine wpAnyH_take (i := 18) (v := ?_) rfl (by kernel_rfl) (by kernel_rfl) (by kernel_rfl) (fun _ _ _ h => h) (Or.inl ⟨by kernel_rfl, ?_⟩) (by assumption) ?_
    rotate_left
    · intro w hSw; (try dsimp only at hSw); go_simp; (try with_reducible rfl)
    refine wpAnyH_ready (rs := [12]) (by kernel_rfl) (by simp) ?_
    refine AllReadyH.cons rfl (fun K hK => ?_) AllReadyH.nil
    go_simp
    refine (rv_base HD3.out.2.1.d HH.out.2.2.2.2.2.2.1 (by have := HH.out.2.2.2.2.2.2.2.1; omega) (v.g : Int) v.sg HH.out.2.2.2.2.2.2.2.2.1).mono ?_
    rintro x w4 ⟨rfl, hb4⟩
    rw [← HSL.out, ← HFR.out.1]
    have HD4 : Hid (RvS w4 base R a b Q buf ws ar st v ∧ Below w.heap.size w w4 ∧ StrsAt w4 LA T) := Lib.hid ⟨HD3.out.2.1.below hb4, HD3.out.2.2.1.trans (hb4.mono HD3.out.2.2.1.size), HD3.out.2.2.2.below hb4⟩
    clear hS0 hb4 HD3
    refine hK.out _ _ HD4.out.1.auc (fun hS0 => ?_)
    clear hK K
    refine wpAnyH_take (i := 17) (v := ?_) rfl (by kernel_rfl) (by kernel_rfl) (by kernel_rfl) (fun _ _ _ h => h) (Or.inl ⟨by kernel_rfl, ?_⟩) (by assumption) ?_
    rotate_left
    · intro w hSw; (try dsimp only at hSw); go_simp; (try with_reducible rfl)
    refine wpAnyH_ready (rs := [19]) (by kernel_rfl) (by simp) ?_
    refine AllReadyH.cons rfl (fun K hK => ?_) AllReadyH.nil
    go_simp
    refine (rv_put HD4.out.1.d HH.out.2.1 LA lcap T (by have := HH.out.2.2.1; have := HLS.out.1; omega) HH.out.2.2.2.1 k HFR.out.2 HD4.out.2.2 (fun g o _ e hh => by have h1 := HL.out.2 g o e; have h2 := Kq.blk_lt HH.out.1.d.blk; omega) (by have := HLS.out.1; omega)).mono ?_
    rintro x w5 ⟨rfl, hro⟩
    have hro2 := RvS.step HD4.out.1 hro
    obtain ⟨y, hy⟩ : ∃ y, y = layF a b k T ws ar st := ⟨_, rfl⟩
    rw [← hy] at hro2 HF ⊢
    clear hy hro
    obtain ⟨ws3, ar3, st3, c⟩ := y
    simp only at hro2 HF ⊢
    obtain ⟨buf3, W5, K5, F5⟩ := hro2
    have HD5 := Lib.hid (And.intro W5 (And.intro K5 F5))
    clear W5 K5 F5 hS0
    refine hK.out _ _ HD5.out.1.auc (fun hS0 => ?_)
    clear hK K
    refine wpAnyH_take (i := 20) (v := ?_) rfl (by kernel_rfl) (by kernel_rfl) (by kernel_rfl) (fun _ _ _ h => h) (Or.inl ⟨by kernel_rfl, ?_⟩) (by assumption) ?_
    rotate_left
    · intro w hSw; (try dsimp only at hSw); go_simp; (try with_reducible rfl)
    refine wpAnyH_done (by kernel_rfl) ?_ _
    clear hS0 hwk
    have W5 := HD5.out.1
    by_cases hc0 : c = 0
    · subst hc0
      obtain ⟨u1, hu1⟩ : ∃ z, z = v.used + T.length := ⟨_, rfl⟩
      obtain ⟨n1, hn1⟩ : ∃ z, z = v.cnt + 1 := ⟨_, rfl⟩
      have hcn := HH.out.2.2.2.2.2.2.2.2.2.2.2.1
      have hwu : IntKind.i64.wrap ((v.used : Int) + (T.length : Int)) = (u1 : Int) := by rw [IntWalk.i64_in _ (by omega)]; omega
      have hwn : IntKind.i64.wrap ((v.cnt : Int) + 1) = (n1 : Int) := by rw [IntWalk.i64_in _ (by omega)]; omega
      have k4 := W5.c4
      have k5 := W5.c5
      have f4 := W5.fz 4
      have f5 := W5.fz 5
      obtain ⟨w6, hw6⟩ : ∃ z, z = (w5.setCell ⟨Q, 4, none⟩ (.int .i64 (u1 : Int))).setCell ⟨Q, 5, none⟩ (.int .i64 (n1 : Int)) := ⟨_, rfl⟩
      have hk6 : Kq.Keeps (· = Q) w5 w6 := by
        rw [hw6]
        exact (Kq.Keeps.setCell (S := (· = Q)) _ ⟨Q, 4, none⟩ _ rfl).trans (Kq.Keeps.setCell (S := (· = Q)) _ ⟨Q, 5, none⟩ _ rfl)
      have hb6 : w6.heap[Q]? = some (.cells (({ v with used := u1, cnt := n1 } : WalV).cells R) 50 (0, 0)) := by
        rw [hw6]
        exact Kq.blk_set (Kq.blk_set W5.blk 4 _) 5 _
      have HP : Hid (RvP w base R a b Q buf ws3 ar3 st3 { v with used := u1, cnt := n1 } w6) := Lib.hid (RvP.from HD4.out.2.1 (RvP.comp HD5.out.2.1 HD5.out.2.2 ⟨buf3, W5.set hk6 hb6, hk6.mono (fun _ _ e => Or.inr e), fun j hj => Or.inl hj⟩))
      have HE : Hid (brokenV (apV v T.length 0) 0 = { v with used := u1, cnt := n1 }) := Lib.hid (by
        unfold brokenV apV
        rw [if_pos rfl, ← hu1, ← hn1]
        have := HH.out.2.2.2.2.2.2.2.2.2.2.2.2.1
        obtain ⟨g, sg, sl, us, cn, rd, br⟩ := v
        simp only at this
        rw [this]
        rfl)
      have HW := Lib.hid hw6
      clear hu1 hn1 hk6 hb6 hw6 W5 hcn
      go_simp
      go_wp2
      rw [← HW.out]
      go_ret
      exact ⟨by rw [HF.out]; rfl, by rw [HF.out]; show RvP w base R a b Q buf ws3 ar3 st3 (brokenV (apV v T.length 0) 0) w6; rw [HE.out]; exact HP.out⟩
    · have hcb : (c == 0) = false := beq_eq_false_iff_ne.2 hc0
      have hcn : (c != 0) = true := by rw [bne_iff_ne]; exact hc0
      have f7 := W5.fz 7
      have k7 := W5.c7
      obtain ⟨w6, hw6⟩ : ∃ z, z = w5.setCell ⟨Q, 7, none⟩ (.bool true) := ⟨_, rfl⟩
      have hk6 : Kq.Keeps (· = Q) w5 w6 := by rw [hw6]; exact Kq.Keeps.setCell _ _ _ rfl
      have hb6 : w6.heap[Q]? = some (.cells (({ v with broken := true } : WalV).cells R) 50 (0, 0)) := by rw [hw6]; exact Kq.blk_set W5.blk 7 _
      have HP : Hid (RvP w base R a b Q buf ws3 ar3 st3 { v with broken := true } w6) := Lib.hid (RvP.from HD4.out.2.1 (RvP.comp HD5.out.2.1 HD5.out.2.2 ⟨buf3, W5.set hk6 hb6, hk6.mono (fun _ _ e => Or.inr e), fun j hj => Or.inl hj⟩))
      have HE : Hid (brokenV (apV v T.length c) c = { v with broken := true }) := Lib.hid (by unfold brokenV apV; rw [if_neg hc0, hcn])
      have HW := Lib.hid hw6
      clear hc0 hk6 hb6 hw6 W5
      go_simp
      go_wp2
      rw [← HW.out]
      go_ret
      exact ⟨by rw [HF.out]; rfl, by rw [HF.out]; show RvP w base R a b Q buf ws3 ar3 st3 (brokenV (apV v T.length c) c) w6; rw [HE.out]; exact HP.out⟩
/-- Append, whatever stands -/
theorem rv_append {w : World} {base R a b Q N : Nat} {buf : Value} {ws : List (Int × ByteArray)} {ar : Nat} {st : List Nat} {v : WalV} (h : RvS w base R a b Q buf ws ar st v) (ho : StOk a b N ws ar st) (hN : N + 220 ≤ 1000000) (hn : a * b ≤ 3000000) (ha : 64 ≤ a) (ha2 : a ≤ 512) (hb : 4 ≤ b) (hb2 : b ≤ 5000) (hsg : v.sg ≤ 1) (hg : v.g < M64) (hu : v.used ≤ 3000) (hcn : v.cnt ≤ 1000000) (s : ByteArray) :
    Calls Tryz.prog 30 #[.pointer (some ⟨Q, 0, none⟩), .string s] w fun x w' => x = .returned (.int .i64 (apAll a b s ws ar st v).1.2.2.2) ∧ RvP w base R a b Q buf (apAll a b s ws ar st v).1.1 (apAll a b s ws ar st v).1.2.1 (apAll a b s ws ar st v).1.2.2.1 (apAll a b s ws ar st v).2 w' := by
  by_cases h1 : v.broken = true
  · have e : apAll a b s ws ar st v = ((ws, ar, st, 14), v) := if_pos h1
    rw [e]
    exact (rv_append_broken h s h1).mono (by rintro x w' ⟨rfl, rfl⟩; exact ⟨rfl, RvP.here h⟩)
  · have h1' : v.broken = false := by simpa using h1
    by_cases h2 : v.ready = false
    · have e : apAll a b s ws ar st v = ((ws, ar, st, 15), v) := by unfold apAll; rw [if_neg h1, if_pos h2]
      rw [e]
      exact (rv_append_order h s h1' h2).mono (by rintro x w' ⟨rfl, rfl⟩; exact ⟨rfl, RvP.here h⟩)
    · have h2' : v.ready = true := by simpa using h2
      by_cases h3 : s.size ≤ 4096
      · exact rv_append_on h ho hN hn ha ha2 hb hb2 hsg hg hu hcn s h1' h2' h3
      · have e : apAll a b s ws ar st v = ((ws, ar, st, 1), v) := by unfold apAll; rw [if_neg h1, if_neg h2, if_pos h3]
        rw [e]
        exact (rv_append_range h s h1' h2' h3).mono (by rintro x w' ⟨rfl, rfl⟩; exact ⟨rfl, RvP.here h⟩)
end Go.Proofs.YtbpgfhcecanikaaGreat
