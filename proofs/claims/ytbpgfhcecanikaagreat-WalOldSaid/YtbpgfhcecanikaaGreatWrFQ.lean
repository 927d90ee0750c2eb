/- Contract of the reference's Checkpoint. Condition: sizes. -/
import Derived.WalkSpells
import Derived.Outline
import Derived.Deep.QuietTactic
import Derived.Deep.RegionHeld
import Derived.BigQuiet
import Derived.Test.YtbpgfhcecanikaaGreatWrCQ
import Derived.Test.YtbpgfhcecanikaaGreatWrEQ
import Derived.Test.YtbpgfhcecanikaaGreatWlJQ
import Derived.Test.YtbpgfhcecanikaaGreatStrsOpenQ
import Derived.Test.YtbpgfhcecanikaaGreatWlIQ
namespace Go.Proofs.YtbpgfhcecanikaaGreat
open Go.RowKit
set_option linter.unusedVariables false
/-- what Checkpoint makes of a log and its disk, whatever stands; its code -/
def ckAll (a b : Nat) (s : ByteArray) (ws : List (Int × ByteArray)) (ar : Nat) (st : List Nat) (v : WalV) : (List (Int × ByteArray) × Nat × List Nat × Int) × WalV :=
  if v.broken = true then ((ws, ar, st, 14), v) else if ¬ s.size ≤ 4096 then ((ws, ar, st, 1), v) else if segN b < nParts a s.size then ((ws, ar, st, 2), v) else if v.g + 1 = M64 then ((ws, ar, st, 12), v)
  else (ckF a b (v.g + 1) (1 - v.sg) v.slot s ws ar st, brokenV (ckV v (v.g + 1) (1 - v.sg) (nParts a s.size) (ckF a b (v.g + 1) (1 - v.sg) v.slot s ws ar st).2.2.2) (ckF a b (v.g + 1) (1 - v.sg) v.slot s ws ar st).2.2.2)
theorem split_len (a g x : Nat) (s : ByteArray) (ha : 64 ≤ a) (ha2 : a ≤ 512) (hs : s.size ≤ 4096) : (frSplit (a : Int) g x s).1.length = nParts a s.size := by
  unfold frSplit
  rw [if_pos ⟨⟨by omega, by omega⟩, hs⟩]
  show ((List.range (nParts (Int.toNat (a : Int)) s.size)).map _).length = _
  rw [List.length_map, List.length_range, Int.toNat_natCast]
/-- the cells that the two calls load -/
def CsC (w : World) (Q R X a g : Nat) : Prop := w.cell? ⟨Q, 0, none⟩ = some (.pointer (some ⟨R, 0, none⟩)) ∧ w.cell? ⟨R, 0, none⟩ = some (.int .i64 (a : Int)) ∧ w.cell? ⟨X, 0, none⟩ = some (.int .u64 (g : Int))
def CpC (w : World) (Q R X a g sg slot : Nat) : Prop := w.cell? ⟨Q, 0, none⟩ = some (.pointer (some ⟨R, 0, none⟩)) ∧ w.cell? ⟨R, 0, none⟩ = some (.int .i64 (a : Int)) ∧ w.cell? ⟨X, 0, none⟩ = some (.int .u64 (g : Int)) ∧ w.cell? ⟨X, 1, none⟩ = some (.int .i64 (sg : Int)) ∧ w.cell? ⟨Q, 3, none⟩ = some (.int .i64 (slot : Int))
/-- in the midst of Checkpoint -/
structure CkI (w z : World) (base R a b Q : Nat) (buf : Value) (ws : List (Int × ByteArray)) (ar : Nat) (st : List Nat) (v : WalV) (X g sg : Nat) : Prop where
  s : RvS z base R a b Q buf ws ar st v
  box : HxR z X g sg
  bel : Kq.Keeps (fun j => j = R ∨ j = Q) w z
  hX : w.heap.size ≤ X
  hQR : Q < w.heap.size ∧ R < w.heap.size
section
variable {w z z' : World} {base R a b Q X g sg : Nat} {buf : Value} {ws : List (Int × ByteArray)} {ar : Nat} {st : List Nat} {v : WalV}
theorem CkI.below (h : CkI w z base R a b Q buf ws ar st v X g sg) (hb : Below z.heap.size z z') : CkI w z' base R a b Q buf ws ar st v X g sg := ⟨h.s.below hb, Kq.below_blk hb h.box (Kq.blk_lt h.box), h.bel.belowC hb, h.hX, h.hQR⟩
theorem CkI.cpc (h : CkI w z base R a b Q buf ws ar st v X g sg) : CpC z Q R X a g sg v.slot := ⟨h.s.c0, h.s.d.c0, Kq.blk_cell h.box 0, Kq.blk_cell h.box 1, h.s.c3⟩
theorem CkI.keep {P : Nat → Prop} (h : CkI w z base R a b Q buf ws ar st v X g sg) (hk : Kq.Keeps P z z') (hP : ∀ j, P j → j = R ∨ j = Q) : HxR z' X g sg ∧ Kq.Keeps (fun j => j = R ∨ j = Q) w z' := ⟨hk.blk h.box (fun e => by have := hP X e; have := h.hX; have := h.hQR; omega), h.bel.trans (hk.mono (fun j _ e => hP j e))⟩
end
set_option maxRecDepth 100000 in
set_option maxHeartbeats 1000000 in
theorem rv_ckpt_broken {w : World} {base R a b Q : Nat} {buf : Value} {ws : List (Int × ByteArray)} {ar : Nat} {st : List Nat} {v : WalV} (h : RvS w base R a b Q buf ws ar st v) (s : ByteArray) (hbr : v.broken = true) :
    Calls Tryz.prog 31 #[.pointer (some ⟨Q, 0, none⟩), .string s] w fun x w' => x = .returned (.int .i64 14) ∧ w = w' := by
  have c7 := h.c7
  rw [hbr] at c7
  clear h hbr
  go_enter Tryz.func31, Tryz.ntmps31
  go_wp2
  go_ret
  exact ⟨rfl, rfl⟩
set_option maxRecDepth 100000 in
set_option maxHeartbeats 1000000 in
theorem rv_ckpt_range {w : World} {base R a b Q : Nat} {buf : Value} {ws : List (Int × ByteArray)} {ar : Nat} {st : List Nat} {v : WalV} (h : RvS w base R a b Q buf ws ar st v) (s : ByteArray) (hbr : v.broken = false) (hs : ¬ s.size ≤ 4096) :
    Calls Tryz.prog 31 #[.pointer (some ⟨Q, 0, none⟩), .string s] w fun x w' => x = .returned (.int .i64 1) ∧ w = w' := by
  have c7 := h.c7
  rw [hbr] at c7
  have hd : decide (4096 < (s.size : Int)) = true := decide_eq_true (by omega)
  have hd' : decide (4096 < s.size) = true := decide_eq_true (by omega)
  clear h hbr hs
  go_enter Tryz.func31, Tryz.ntmps31
  go_wp2
  go_ret
  exact ⟨rfl, rfl⟩
set_option maxRecDepth 100000 in
set_option maxHeartbeats 4000000 in
theorem rv_ckpt_on {w : World} {base R a b Q N : Nat} {buf : Value} {ws : List (Int × ByteArray)} {ar : Nat} {st : List Nat} {v : WalV} (h : RvS w base R a b Q buf ws ar st v) (ho : StOk a b N ws ar st) (hN : N + 420 ≤ 1000000) (hn : a * b ≤ 3000000) (ha : 64 ≤ a) (ha2 : a ≤ 512) (hb : 4 ≤ b) (hb2 : b ≤ 5000) (hsg : v.sg ≤ 1) (hsl : v.slot ≤ 1) (hg : v.g < M64) (s : ByteArray) (hbr : v.broken = false) (hs : s.size ≤ 4096) :
    Calls Tryz.prog 31 #[.pointer (some ⟨Q, 0, none⟩), .string s] w fun x w' => x = .returned (.int .i64 (ckAll a b s ws ar st v).1.2.2.2) ∧ RvP w base R a b Q buf (ckAll a b s ws ar st v).1.1 (ckAll a b s ws ar st v).1.2.1 (ckAll a b s ws ar st v).1.2.2.1 (ckAll a b s ws ar st v).2 w' := by
  have HF1 : Hid (segN b < nParts a s.size → ckAll a b s ws ar st v = ((ws, ar, st, 2), v)) := Lib.hid (fun hc => by unfold ckAll; rw [if_neg (by rw [hbr]; decide), if_neg (by omega), if_pos hc])
  have HF2 : Hid (¬ segN b < nParts a s.size → v.g + 1 = M64 → ckAll a b s ws ar st v = ((ws, ar, st, 12), v)) := Lib.hid (fun hc hg => by unfold ckAll; rw [if_neg (by rw [hbr]; decide), if_neg (by omega), if_neg hc, if_pos hg])
  have HF3 : Hid (¬ segN b < nParts a s.size → ¬ v.g + 1 = M64 → ckAll a b s ws ar st v = (ckF a b (v.g + 1) (1 - v.sg) v.slot s ws ar st, brokenV (ckV v (v.g + 1) (1 - v.sg) (nParts a s.size) (ckF a b (v.g + 1) (1 - v.sg) v.slot s ws ar st).2.2.2) (ckF a b (v.g + 1) (1 - v.sg) v.slot s ws ar st).2.2.2)) := Lib.hid (fun hc hg => by unfold ckAll; rw [if_neg (by rw [hbr]; decide), if_neg (by omega), if_neg hc, if_neg hg])
  obtain ⟨k, hk⟩ : ∃ z, z = nParts a s.size := ⟨_, rfl⟩
  have HNP : Hid (frParts (a : Int) (s.size : Int) = (k : Int)) := Lib.hid (by rw [hk]; unfold frParts; rw [if_pos ⟨⟨by omega, by omega⟩, by omega, by omega⟩]; rfl)
  have HSP : Hid (∀ g x, (frSplit (a : Int) g x s).1.length = k ∧ (frSplit (a : Int) g x s).2 = 0) := Lib.hid (fun g x => ⟨by rw [split_len a g x s ha ha2 hs, hk], by unfold frSplit; rw [if_pos ⟨⟨by omega, by omega⟩, hs⟩]⟩)
  rw [← hk] at HF1 HF2 HF3
  clear hk
  obtain ⟨sl, hsll⟩ : ∃ z, z = segN b := ⟨_, rfl⟩
  have hsl2 : sl ≤ 2500 := by rw [hsll]; unfold segN; omega
  rw [← hsll] at HF1 HF2 HF3
  have HSL := Lib.hid hsll
  have c7 := h.c7
  have q0 := h.c0
  have r0 := h.d.c0
  rw [hbr] at c7
  have hd : decide (4096 < (s.size : Int)) = false := decide_eq_false (by omega)
  have hd' : decide (4096 < s.size) = false := decide_eq_false (by omega)
  have HH := Lib.hid (And.intro h (And.intro ho (And.intro hN (And.intro hn (And.intro ha (And.intro ha2 (And.intro hb (And.intro hb2 (And.intro hsg (And.intro hsl (And.intro hg (And.intro hbr hs))))))))))))
  have HQP := Lib.hid (fun (n : Nat) => Calls.quiet_of_same ((rf_parts (a : Int) (s.size : Int) (w.drewN n)).mono fun _ _ hp => ⟨hp.1, hp.2.symm⟩))
  have HQS := Lib.hid (fun (n : Nat) => Calls.quiet_of_same ((rv_segment (h.d.below (below_drewN (Below.refl _ _) n)) hb (by omega)).mono fun _ _ hp => ⟨hp.1, hp.2.symm⟩))
  rw [HNP.out] at HQP
  rw [← hsll] at HQS
  clear h ho hN hn ha ha2 hb hb2 hsg hsl hg hs hbr hsll
  go_enter Tryz.func31, Tryz.ntmps31
  go_wp2_with fail
  by_cases hroom : sl < k
  · have t1 : decide ((sl : Int) < (k : Int)) = true := decide_eq_true (by omega)
    have t1' : decide (sl < k) = true := decide_eq_true hroom
    have HF := Lib.hid (HF1.out hroom)
    clear HF1 HF2 HF3 hroom
    go_quiet ((first | (go_at_call 24; exact HQP.out _) | (go_at_call 18; exact HQS.out _)))
    generalize hwq : w.drewN nq = wq
    have HQ : Hid (Below w.heap.size w wq) := Lib.hid (by rw [← hwq]; exact below_drewN (Below.refl _ _) nq)
    clear hwq
    go_wp2
    go_ret
    exact ⟨by rw [HF.out]; rfl, by rw [HF.out]; exact RvP.from HQ.out (RvP.here (HH.out.1.below HQ.out))⟩
  · have t1 : decide ((sl : Int) < (k : Int)) = false := decide_eq_false (by omega)
    have t1' : decide (sl < k) = false := decide_eq_false hroom
    have HG2 := Lib.hid (HF2.out hroom)
    have HG3 := Lib.hid (HF3.out hroom)
    clear HF1 HF2 HF3 hroom
    go_quiet ((first | (go_at_call 24; exact HQP.out _) | (go_at_call 18; exact HQS.out _)))
    generalize hwq : w.drewN nq = wq
    have HW1 : Hid (RvS wq base R a b Q buf ws ar st v ∧ Below w.heap.size w wq) := Lib.hid (by rw [← hwq]; exact ⟨HH.out.1.below (below_drewN (Below.refl _ _) nq), below_drewN (Below.refl _ _) nq⟩)
    have q1 := HW1.out.1.c1
    have q2 := HW1.out.1.c2
    clear hwq HQP HQS c7 q0 r0 hd hd' t1 t1'
    go_wp2_with fail
    refine (rf_next v.g (v.sg : Int) wq HH.out.2.2.2.2.2.2.2.2.2.2.1).mono ?_
    rintro x w2 ⟨rfl, hb2⟩
    have HW2 : Hid (RvS w2 base R a b Q buf ws ar st v ∧ Below w.heap.size w w2) := Lib.hid ⟨HW1.out.1.below hb2, HW1.out.2.trans (hb2.mono HW1.out.2.size)⟩
    clear hb2 HW1 q1 q2
    by_cases hgx : v.g + 1 = M64
    · have HE : Hid (nxE v.g = 12) := Lib.hid (if_pos hgx)
      have HF := Lib.hid (HG2.out hgx)
      obtain ⟨ng, hng⟩ : ∃ z, z = nxG v.g := ⟨_, rfl⟩
      obtain ⟨ns, hns⟩ : ∃ z, z = nxS v.g (v.sg : Int) := ⟨_, rfl⟩
      rw [← hng, ← hns, HE.out]
      obtain ⟨w3, hw3⟩ : ∃ z, z = w2.alloc (.cells #[.int .u64 (ng : Int), .int .i64 ns] 48) := ⟨_, rfl⟩
      have hbx : Below w2.heap.size w2 w3 := by
        rw [hw3]
        exact Kq.below_alloc w2 _
      have HP : Hid (RvP w base R a b Q buf ws ar st v w3) := Lib.hid (RvP.from HW2.out.2 (RvP.below (RvP.here HW2.out.1) hbx))
      have HW3 := Lib.hid hw3
      clear hng hns hw3 hbx hgx HG2 HG3
      go_wp2
      rw [← HW3.out]
      go_ret
      exact ⟨by rw [HF.out]; rfl, by rw [HF.out]; exact HP.out⟩
    · obtain ⟨G, hG⟩ : ∃ z, z = v.g + 1 := ⟨_, rfl⟩
      obtain ⟨t, ht⟩ : ∃ z, z = 1 - v.sg := ⟨_, rfl⟩
      have hsgo := HH.out.2.2.2.2.2.2.2.2.1
      have hgg := HH.out.2.2.2.2.2.2.2.2.2.2.1
      have HNX : nxE v.g = 0 ∧ nxG v.g = G ∧ nxS v.g (v.sg : Int) = (t : Int) := ⟨by unfold nxE; rw [if_neg hgx], by unfold nxG; rw [if_neg hgx, hG], by unfold nxS; rw [if_neg hgx]; split <;> omega⟩
      have HGT : Hid (G < M64 ∧ t ≤ 1 ∧ 0 < G) := Lib.hid ⟨by omega, by omega, by omega⟩
      have HF := Lib.hid (HG3.out hgx)
      rw [← hG, ← ht] at HF
      rw [HNX.1, HNX.2.1, HNX.2.2]
      obtain ⟨X, hX⟩ : ∃ z, z = w2.heap.size := ⟨_, rfl⟩
      obtain ⟨w3, hw3⟩ : ∃ z, z = w2.alloc (.cells #[.int .u64 (G : Int), .int .i64 (t : Int)] 48) := ⟨_, rfl⟩
      have hbx : Below w2.heap.size w2 w3 := by
        rw [hw3]
        exact Kq.below_alloc w2 _
      have hbb : HxR w3 X G t := by
        unfold HxR
        rw [hw3, hX]
        exact Kq.blk_new w2 _ _ _
      have I3 : Hid (CkI w w3 base R a b Q buf ws ar st v X G t) := Lib.hid ⟨HW2.out.1.below hbx, hbb, (Kq.Keeps.refl _ _).belowC (HW2.out.2.trans (hbx.mono HW2.out.2.size)), by rw [hX]; exact HW2.out.2.size, HH.out.1.lt, HH.out.1.ltR⟩
      have HW3 := Lib.hid (And.intro hw3 hX)
      clear hw3 hbx hgx HG2 HG3 hG ht HNX hbb hX hsgo hgg HW2
      go_wp2_with fail
      rw [← HW3.out.1, ← HW3.out.2]
      have I3d : Hid (CkI w w3.drew base R a b Q buf ws ar st v X G t) := Lib.hid (I3.out.below (Below.refl _ _).drew)
      refine wp_region_held_drew (S := fun w' => CpC w' Q R X a G t v.slot) (by kernel_rfl) I3d.out.cpc (fun hS0 => ?_)
      generalize w3.drew = z3 at *
      unfold CpC at hS0
      dsimp only [CpC]
      refine wpAnyH_take (i := 0) (v := ?_) rfl (by kernel_rfl) (by kernel_rfl) (by kernel_rfl) (fun _ _ _ h => h) (Or.inl ⟨by kernel_rfl, ?_⟩) (by assumption) ?_
      rotate_left
      · intro w hSw; (try dsimp only at hSw); go_simp; (try with_reducible rfl)
      refine wpAnyH_take (i := 1) (v := ?_) rfl (by kernel_rfl) (by kernel_rfl) (by kernel_rfl) (fun _ _ _ h => h) (Or.inl ⟨by kernel_rfl, ?_⟩) (by assumption) ?_
      rotate_left
      · intro w hSw; (try dsimp only at hSw); go_simp; (try with_reducible rfl)
      refine wpAnyH_take (i := 2) (v := ?_) rfl (by kernel_rfl) (by kernel_rfl) (by kernel_rfl) (fun _ _ _ h => h) (Or.inl ⟨by kernel_rfl, ?_⟩) (by assumption) ?_
      rotate_left
      · intro w hSw; (try dsimp only at hSw); go_simp; (try with_reducible rfl)
      refine wpAnyH_take (i := 3) (v := ?_) rfl (by kernel_rfl) (by kernel_rfl) (by kernel_rfl) (fun _ _ _ h => h) (Or.inl ⟨by kernel_rfl, ?_⟩) (by assumption) ?_
      rotate_left
      · intro w hSw; (try dsimp only at hSw); go_simp; (try with_reducible rfl)
      refine wpAnyH_take (i := 4) (v := ?_) rfl (by kernel_rfl) (by kernel_rfl) (by kernel_rfl) (fun _ _ _ h => h) (Or.inl ⟨by kernel_rfl, ?_⟩) (by assumption) ?_
      rotate_left
      · intro w hSw; (try dsimp only at hSw); go_simp; (try with_reducible rfl)
      refine wpAnyH_take (i := 5) (v := ?_) rfl (by kernel_rfl) (by kernel_rfl) (by kernel_rfl) (fun _ _ _ h => h) (Or.inl ⟨by kernel_rfl, ?_⟩) (by assumption) ?_
      rotate_left
      · intro w hSw; (try dsimp only at hSw); go_simp; (try with_reducible rfl)
      refine wpAnyH_take (i := 6) (v := ?_) rfl (by kernel_rfl) (by kernel_rfl) (by kernel_rfl) (fun _ _ _ h => h) (Or.inl ⟨by kernel_rfl, ?_⟩) (by assumption) ?_
      rotate_left
      · intro w hSw; (try dsimp only at hSw); go_simp; (try with_reducible rfl)
      refine wpAnyH_take (i := 7) (v := ?_) rfl (by kernel_rfl) (by kernel_rfl) (by kernel_rfl) (fun _ _ _ h => h) (Or.inl ⟨by kernel_rfl, ?_⟩) (by assumption) ?_
      rotate_left
      · intro w hSw; (try dsimp only at hSw); go_simp; (try with_reducible rfl)
      refine wpAnyH_take (i := 8) (v := ?_) rfl (by kernel_rfl) (by kernel_rfl) (by kernel_rfl) (fun _ _ _ h => h) (Or.inl ⟨by kernel_rfl, ?_⟩) (by assumption) ?_
      rotate_left
      · intro w hSw; (try dsimp only at hSw); go_simp; (try with_reducible rfl)
      refine wpAnyH_take (i := 9) (v := ?_) rfl (by kernel_rfl) (by kernel_rfl) (by kernel_rfl) (fun _ _ _ h => h) (Or.inl ⟨by kernel_rfl, ?_⟩) (by assumption) ?_
      rotate_left
      · intro w hSw; (try dsimp only at hSw); go_simp; (try with_reducible rfl)
      refine wpAnyH_ready (rs := [10]) (by kernel_rfl) (by simp) ?_
      refine AllReadyH.cons rfl (fun K hK => ?_) AllReadyH.nil
      go_simp
      refine (rf_split (a : Int) G 0 s z3 HGT.out.1 (by decide)).mono ?_
      rintro x z4 ⟨vs, rfl, hrow, hb⟩
      rw [(HSP.out G 0).2]
      obtain ⟨LA, lcap, rfl, hLA, hge, -⟩ := row_strsW hrow
      have I4 := Lib.hid (I3d.out.below hb)
      have HL : Hid (StrsAt z4 LA (frSplit (a : Int) G 0 s).1 ∧ ∀ g o, LA = some ⟨g, o, none⟩ → w.heap.size ≤ g) := Lib.hid ⟨hLA, fun g o e => by have h1 := hge g o e; have := I3d.out.bel.size; omega⟩
      clear hS0 hb hrow hLA hge
      refine hK.out _ _ I4.out.cpc (fun hS0 => ?_)
      clear hK K
      refine wpAnyH_take (i := 11) (v := ?_) rfl (by kernel_rfl) (by kernel_rfl) (by kernel_rfl) (fun _ _ _ h => h) (Or.inl ⟨by kernel_rfl, ?_⟩) (by assumption) ?_
      rotate_left
      · intro w hSw; (try dsimp only at hSw); go_simp; (try with_reducible rfl)
      refine wpAnyH_take (i := 12) (v := ?_) rfl (by kernel_rfl) (by kernel_rfl) (by kernel_rfl) (fun _ _ _ h => h) (Or.inl ⟨by kernel_rfl, ?_⟩) (by assumption) ?_
      rotate_left
      · intro w hSw; (try dsimp only at hSw); go_simp; (try with_reducible rfl)
      refine wpAnyH_take (i := 13) (v := ?_) rfl (by kernel_rfl) (by kernel_rfl) (by kernel_rfl) (fun _ _ _ h => h) (Or.inl ⟨by kernel_rfl, ?_⟩) (by assumption) ?_
      rotate_left
      · intro w hSw; (try dsimp only at hSw); go_simp; (try with_reducible rfl)
      refine wpAnyH_take (i := 14) (v := ?_) rfl (by kernel_rfl) (by kernel_rfl) (by kernel_rfl) (fun _ _ _ h => h) (Or.inl ⟨by kernel_rfl, ?_⟩) (by assumption) ?_
      rotate_left
      · intro w hSw; (try dsimp only at hSw); go_simp; (try with_reducible rfl)
      refine wpAnyH_take (i := 15) (v := ?_) rfl (by kernel_rfl) (by kernel_rfl) (by kernel_rfl) (fun _ _ _ h => h) (Or.inl ⟨by kernel_rfl, ?_⟩) (by assumption) ?_
      rotate_left
      · intro w hSw; (try dsimp only at hSw); go_simp; (try with_reducible rfl)
      refine wpAnyH_done (by kernel_rfl) ?_ _
      clear hS0
      have HLL := Lib.hid (split_sizes a G 0 s HH.out.2.2.2.2.1)
      have HCK : Hid (ckF a b G t v.slot s ws ar st = if (layF a b (2 + t * segN b) (frSplit (a : Int) G 0 s).1 ws ar st).2.2.2 = 0 then layF a b (1 - v.slot) [hdPut a G t] (layF a b (2 + t * segN b) (frSplit (a : Int) G 0 s).1 ws ar st).1 (layF a b (2 + t * segN b) (frSplit (a : Int) G 0 s).1 ws ar st).2.1 (layF a b (2 + t * segN b) (frSplit (a : Int) G 0 s).1 ws ar st).2.2.1 else layF a b (2 + t * segN b) (frSplit (a : Int) G 0 s).1 ws ar st) := Lib.hid rfl
      have HTK := Lib.hid (HSP.out G 0).1
      obtain ⟨T, hT⟩ : ∃ z, z = (frSplit (a : Int) G 0 s).1 := ⟨_, rfl⟩
      rw [← hT] at HL HLL HCK HTK ⊢
      clear hT HSP
      have I4d : Hid (CkI w z4.drew base R a b Q buf ws ar st v X G t ∧ StrsAt z4.drew LA T) := Lib.hid ⟨I4.out.below (Below.refl _ _).drew, HL.out.1.below (Below.refl _ _).drew⟩
      go_simp
      go_wp2_with fail
      refine wp_region_held_drew (S := fun w' => CpC w' Q R X a G t v.slot) (by kernel_rfl) I4d.out.1.cpc (fun hS0 => ?_)
      generalize z4.drew = z5 at *
      unfold CpC at hS0
      dsimp only [CpC]
      refine wpAnyH_take (i := 0) (v := ?_) rfl (by kernel_rfl) (by kernel_rfl) (by kernel_rfl) (fun _ _ _ h => h) (Or.inl ⟨by kernel_rfl, ?_⟩) (by assumption) ?_
      rotate_left
      · intro w hSw; (try dsimp only at hSw); go_simp; (try with_reducible rfl)
      refine wpAnyH_take (i := 1) (v := ?_) rfl (by kernel_rfl) (by kernel_rfl) (by kernel_rfl) (fun _ _ _ h => h) (Or.inl ⟨by kernel_rfl, ?_⟩) (by assumption) ?_
      rotate_left
      · intro w hSw; (try dsimp only at hSw); go_simp; (try with_reducible rfl)
      refine wpAnyH_take (i := 2) (v := ?_) rfl (by kernel_rfl) (by kernel_rfl) (by kernel_rfl) (fun _ _ _ h => h) (Or.inl ⟨by kernel_rfl, ?_⟩) (by assumption) ?_
      rotate_left
      · intro w hSw; (try dsimp only at hSw); go_simp; (try with_reducible rfl)
      refine wpAnyH_take (i := 3) (v := ?_) rfl (by kernel_rfl) (by kernel_rfl) (by kernel_rfl) (fun _ _ _ h => h) (Or.inl ⟨by kernel_rfl, ?_⟩) (by assumption) ?_
      rotate_left
      · intro w hSw; (try dsimp only at hSw); go_simp; (try with_reducible rfl)
      refine wpAnyH_take (i := 4) (v := ?_) rfl (by kernel_rfl) (by kernel_rfl) (by kernel_rfl) (fun _ _ _ h => h) (Or.inl ⟨by kernel_rfl, ?_⟩) (by assumption) ?_
      rotate_left
      · intro w hSw; (try dsimp only at hSw); go_simp; (try with_reducible rfl)
      refine wpAnyH_take (i := 5) (v := ?_) rfl (by kernel_rfl) (by kernel_rfl) (by kernel_rfl) (fun _ _ _ h => h) (Or.inl ⟨by kernel_rfl, ?_⟩) (by assumption) ?_
      rotate_left
      · intro w hSw; (try dsimp only at hSw); go_simp; (try with_reducible rfl)
      refine wpAnyH_take (i := 6) (v := ?_) rfl (by kernel_rfl) (by kernel_rfl) (by kernel_rfl) (fun _ _ _ h => h) (Or.inl ⟨by kernel_rfl, ?_⟩) (by assumption) ?_
      rotate_left
      · intro w hSw; (try dsimp only at hSw); go_simp; (try with_reducible rfl)
      refine wpAnyH_take (i := 7) (v := ?_) rfl (by kernel_rfl) (by kernel_rfl) (by kernel_rfl) (fun _ _ _ h => h) (Or.inl ⟨by kernel_rfl, ?_⟩) (by assumption) ?_
      rotate_left
      · intro w hSw; (try dsimp only at hSw); go_simp; (try with_reducible rfl)
      refine wpAnyH_ready (rs := [8]) (by kernel_rfl) (by simp) ?_
      refine AllReadyH.cons rfl (fun K hK => ?_) AllReadyH.nil
      go_simp
      refine (rf_put_ok a G t z5 ⟨by have := HH.out.2.2.2.2.1; omega, by have := HH.out.2.2.2.2.2.1; omega, HGT.out.2.2, by omega, by have := HGT.out.2.1; omega⟩ HGT.out.1).mono ?_
      rintro x z6 ⟨rfl, hb⟩
      have I6 : Hid (CkI w z6 base R a b Q buf ws ar st v X G t ∧ StrsAt z6 LA T) := Lib.hid ⟨I4d.out.1.below hb, I4d.out.2.below hb⟩
      clear hS0 hb I4d
      refine hK.out _ _ I6.out.1.cpc (fun hS0 => ?_)
      clear hK K
      refine wpAnyH_take (i := 9) (v := ?_) rfl (by kernel_rfl) (by kernel_rfl) (by kernel_rfl) (fun _ _ _ h => h) (Or.inl ⟨by kernel_rfl, ?_⟩) (by assumption) ?_
      rotate_left
      · intro w hSw; (try dsimp only at hSw); go_simp; (try with_reducible rfl)
      refine wpAnyH_take (i := 10) (v := ?_) rfl (by kernel_rfl) (by kernel_rfl) (by kernel_rfl) (fun _ _ _ h => h) (Or.inl ⟨by kernel_rfl, ?_⟩) (by assumption) ?_
      rotate_left
      · intro w hSw; (try dsimp only at hSw); go_simp; (try with_reducible rfl)
      refine wpAnyH_take (i := 11) (v := ?_) rfl (by kernel_rfl) (by kernel_rfl) (by kernel_rfl) (fun _ _ _ h => h) (Or.inl ⟨by kernel_rfl, ?_⟩) (by assumption) ?_
      rotate_left
      · intro w hSw; (try dsimp only at hSw); go_simp; (try with_reducible rfl)
      refine wpAnyH_take (i := 12) (v := ?_) rfl (by kernel_rfl) (by kernel_rfl) (by kernel_rfl) (fun _ _ _ h => h) (Or.inl ⟨by kernel_rfl, ?_⟩) (by assumption) ?_
      rotate_left
      · intro w hSw; (try dsimp only at hSw); go_simp; (try with_reducible rfl)
      refine wpAnyH_take (i := 13) (v := ?_) rfl (by kernel_rfl) (by kernel_rfl) (by kernel_rfl) (fun _ _ _ h => h) (Or.inl ⟨by kernel_rfl, ?_⟩) (by assumption) ?_
      rotate_left
      · intro w hSw; (try dsimp only at hSw); go_simp; (try with_reducible rfl)
      refine wpAnyH_done (by kernel_rfl) ?_ _
      clear hS0
      generalize hdPut a G t = hp at *
      obtain ⟨fr, hfr⟩ : ∃ f, f = 2 + t * sl := ⟨_, rfl⟩
      have hfr2 : fr ≤ 3000 := by
        have h01 : t = 0 ∨ t = 1 := by have := HGT.out.2.1; omega
        rcases h01 with e | e <;> rw [hfr, e] <;> omega
      rw [← HSL.out, ← hfr] at HCK
      have HFR := Lib.hid (And.intro hfr hfr2)
      clear hfr hfr2
      have I6d : Hid (CkI w z6.drew base R a b Q buf ws ar st v X G t ∧ StrsAt z6.drew LA T) := Lib.hid ⟨I6.out.1.below (Below.refl _ _).drew, I6.out.2.below (Below.refl _ _).drew⟩
      go_simp
      go_wp2_with fail
      refine wp_region_held_drew (S := fun w' => CpC w' Q R X a G t v.slot) (by kernel_rfl) I6d.out.1.cpc (fun hS0 => ?_)
      generalize z6.drew = z7 at *
      unfold CpC at hS0
      dsimp only [CpC]
      refine wpAnyH_take (i := 0) (v := ?_) rfl (by kernel_rfl) (by kernel_rfl) (by kernel_rfl) (fun _ _ _ h => h) (Or.inl ⟨by kernel_rfl, ?_⟩) (by assumption) ?_
      rotate_left
      · intro w hSw; (try dsimp only at hSw); go_simp; (try with_reducible rfl)
      refine wpAnyH_take (i := 1) (v := ?_) rfl (by kernel_rfl) (by kernel_rfl) (by kernel_rfl) (fun _ _ _ h => h) (Or.inl ⟨by kernel_rfl, ?_⟩) (by assumption) ?_
      rotate_left
      · intro w hSw; (try dsimp only at hSw); go_simp; (try with_reducible rfl)
      refine wpAnyH_take (i := 2) (v := ?_) rfl (by kernel_rfl) (by kernel_rfl) (by kernel_rfl) (fun _ _ _ h => h) (Or.inl ⟨by kernel_rfl, ?_⟩) (by assumption) ?_
      rotate_left
      · intro w hSw; (try dsimp only at hSw); go_simp; (try with_reducible rfl)
      refine wpAnyH_take (i := 3) (v := ?_) rfl (by kernel_rfl) (by kernel_rfl) (by kernel_rfl) (fun _ _ _ h => h) (Or.inl ⟨by kernel_rfl, ?_⟩) (by assumption) ?_
      rotate_left
      · intro w hSw; (try dsimp only at hSw); go_simp; (try with_reducible rfl)
      refine wpAnyH_take (i := 4) (v := ?_) rfl (by kernel_rfl) (by kernel_rfl) (by kernel_rfl) (fun _ _ _ h => h) (Or.inl ⟨by kernel_rfl, ?_⟩) (by assumption) ?_
      rotate_left
      · intro w hSw; (try dsimp only at hSw); go_simp; (try with_reducible rfl)
      refine wpAnyH_take (i := 5) (v := ?_) rfl (by kernel_rfl) (by kernel_rfl) (by kernel_rfl) (fun _ _ _ h => h) (Or.inl ⟨by kernel_rfl, ?_⟩) (by assumption) ?_
      rotate_left
      · intro w hSw; (try dsimp only at hSw); go_simp; (try with_reducible rfl)
      refine wpAnyH_take (i := 6) (v := ?_) rfl (by kernel_rfl) (by kernel_rfl) (by kernel_rfl) (fun _ _ _ h => h) (Or.inl ⟨by kernel_rfl, ?_⟩) (by assumption) ?_
      rotate_left
      · intro w hSw; (try dsimp only at hSw); go_simp; (try with_reducible rfl)
      refine wpAnyH_take (i := 7) (v := ?_) rfl (by kernel_rfl) (by kernel_rfl) (by kernel_rfl) (fun _ _ _ h => h) (Or.inl ⟨by kernel_rfl, ?_⟩) (by assumption) ?_
      rotate_left
      · intro w hSw; (try dsimp only at hSw); go_simp; (try with_reducible rfl)
      refine wpAnyH_take (i := 8) (v := ?_) rfl (by kernel_rfl) (by kernel_rfl) (by kernel_rfl) (fun _ _ _ h => h) (Or.inl ⟨by kernel_rfl, ?_⟩) (by assumption) ?_
      rotate_left
      · intro w hSw; (try dsimp only at hSw); go_simp; (try with_reducible rfl)
      refine wpAnyH_take (i := 10) (v := ?_) rfl (by kernel_rfl) (by kernel_rfl) (by kernel_rfl) (fun _ _ _ h => h) (Or.inl ⟨by kernel_rfl, ?_⟩) (by assumption) ?_
      rotate_left
      · intro w hSw; (try dsimp only at hSw); go_simp; (try with_reducible rfl)
      refine wpAnyH_ready (rs := [9]) (by kernel_rfl) (by simp) ?_
      refine AllReadyH.cons rfl (fun K hK => ?_) AllReadyH.nil
      go_simp
      refine (rv_base I6d.out.1.s.d HH.out.2.2.2.2.2.2.1 (by have := HH.out.2.2.2.2.2.2.2.1; omega) (G : Int) t HGT.out.2.1).mono ?_
      rintro x z8 ⟨rfl, hb⟩
      rw [← HSL.out, ← HFR.out.1]
      have I8 : Hid (CkI w z8 base R a b Q buf ws ar st v X G t ∧ StrsAt z8 LA T) := Lib.hid ⟨I6d.out.1.below hb, I6d.out.2.below hb⟩
      clear hS0 hb I6d
      refine hK.out _ _ I8.out.1.cpc (fun hS0 => ?_)
      clear hK K
      refine wpAnyH_ready (rs := [11]) (by kernel_rfl) (by simp) ?_
      refine AllReadyH.cons rfl (fun K hK => ?_) AllReadyH.nil
      go_simp
      refine (rv_put I8.out.1.s.d HH.out.2.1 LA lcap T (by have := HH.out.2.2.1; have := HLL.out.1; omega) HH.out.2.2.2.1 fr (by have := HFR.out.2; omega) I8.out.2 (fun g o _ e hh => by have h1 := HL.out.2 g o e; have h2 := I8.out.1.hQR; omega) (by have := HLL.out.1; omega)).mono ?_
      rintro x z9 ⟨rfl, hro⟩
      have hro2 := RvS.step I8.out.1.s hro
      have HLO := Lib.hid (layF_ok a b T fr _ _ _ _ HH.out.2.1)
      obtain ⟨y, hy⟩ : ∃ y, y = layF a b fr T ws ar st := ⟨_, rfl⟩
      rw [← hy] at hro2 HCK HLO ⊢
      clear hy hro
      obtain ⟨ws3, ar3, st3, c⟩ := y
      simp only at hro2 HCK HLO ⊢
      obtain ⟨buf3, W9, K9, F9⟩ := hro2
      have hkk := I8.out.1.keep K9 (fun j e => e)
      have I9 : Hid (CkI w z9 base R a b Q buf3 ws3 ar3 st3 v X G t) := Lib.hid ⟨W9, hkk.1, hkk.2, I8.out.1.hX, I8.out.1.hQR⟩
      have F9H : Hid (∀ j, buf3.ownBlock = some j → buf.ownBlock = some j ∨ w.heap.size ≤ j) := Lib.hid (fun j hj => (F9 j hj).imp id (fun h => Nat.le_trans I8.out.1.bel.size h))
      clear W9 K9 F9 hS0 hkk
      refine hK.out _ _ I9.out.cpc (fun hS0 => ?_)
      clear hK K
      refine wpAnyH_take (i := 12) (v := ?_) rfl (by kernel_rfl) (by kernel_rfl) (by kernel_rfl) (fun _ _ _ h => h) (Or.inl ⟨by kernel_rfl, ?_⟩) (by assumption) ?_
      rotate_left
      · intro w hSw; (try dsimp only at hSw); go_simp; (try with_reducible rfl)
      refine wpAnyH_done (by kernel_rfl) ?_ _
      clear hS0
      by_cases hc0 : c = 0
      · subst hc0
        rw [if_pos rfl] at HCK
        obtain ⟨ns, hns⟩ : ∃ z, z = 1 - v.slot := ⟨_, rfl⟩
        have hslo := HH.out.2.2.2.2.2.2.2.2.2.1
        have hws : IntKind.i64.wrap (1 - (v.slot : Int)) = (ns : Int) := by rw [IntWalk.i64_in _ (by omega)]; omega
        rw [← hns] at HCK
        have HNS : Hid (ns = 1 - v.slot ∧ ns ≤ 1) := Lib.hid ⟨hns, by omega⟩
        clear hns hslo
        have I9d : Hid (CkI w z9.drew base R a b Q buf3 ws3 ar3 st3 v X G t) := Lib.hid (I9.out.below (Below.refl _ _).drew)
        go_simp
        go_wp2_with fail
        refine wp_region_held_drew (S := fun w' => CpC w' Q R X a G t v.slot) (by kernel_rfl) I9d.out.cpc (fun hS0 => ?_)
        generalize z9.drew = z10 at *
        unfold CpC at hS0
        dsimp only [CpC]
        refine wpAnyH_take (i := 0) (v := ?_) rfl (by kernel_rfl) (by kernel_rfl) (by kernel_rfl) (fun _ _ _ h => h) (Or.inl ⟨by kernel_rfl, ?_⟩) (by assumption) ?_
        rotate_left
        · intro w hSw; (try dsimp only at hSw); go_simp; (try with_reducible rfl)
        refine wpAnyH_take (i := 1) (v := ?_) rfl (by kernel_rfl) (by kernel_rfl) (by kernel_rfl) (fun _ _ _ h => h) (Or.inl ⟨by kernel_rfl, ?_⟩) (by assumption) ?_
        rotate_left
        · intro w hSw; (try dsimp only at hSw); go_simp; (try with_reducible rfl)
        refine wpAnyH_take (i := 2) (v := ?_) rfl (by kernel_rfl) (by kernel_rfl) (by kernel_rfl) (fun _ _ _ h => h) (Or.inl ⟨by kernel_rfl, ?_⟩) (by assumption) ?_
        rotate_left
        · intro w hSw; (try dsimp only at hSw); go_simp; (try with_reducible rfl)
        refine wpAnyH_take (i := 3) (v := ?_) rfl (by kernel_rfl) (by kernel_rfl) (by kernel_rfl) (fun _ _ _ h => h) (Or.inl ⟨by kernel_rfl, ?_⟩) (by assumption) ?_
        rotate_left
        · intro w hSw; (try dsimp only at hSw); go_simp; (try with_reducible rfl)
        refine wpAnyH_take (i := 4) (v := ?_) rfl (by kernel_rfl) (by kernel_rfl) (by kernel_rfl) (fun _ _ _ h => h) (Or.inl ⟨by kernel_rfl, ?_⟩) (by assumption) ?_
        rotate_left
        · intro w hSw; (try dsimp only at hSw); go_simp; (try with_reducible rfl)
        refine wpAnyH_take (i := 5) (v := ?_) rfl (by kernel_rfl) (by kernel_rfl) (by kernel_rfl) (fun _ _ _ h => h) (Or.inl ⟨by kernel_rfl, ?_⟩) (by assumption) ?_
        rotate_left
        · intro w hSw; (try dsimp only at hSw); go_simp; (try with_reducible rfl)
        refine wpAnyH_take (i := 6) (v := ?_) rfl (by kernel_rfl) (by kernel_rfl) (by kernel_rfl) (fun _ _ _ h => h) (Or.inl ⟨by kernel_rfl, ?_⟩) (by assumption) ?_
        rotate_left
        · intro w hSw; (try dsimp only at hSw); go_simp; (try with_reducible rfl)
        refine wpAnyH_take (i := 7) (v := ?_) rfl (by kernel_rfl) (by kernel_rfl) (by kernel_rfl) (fun _ _ _ h => h) (Or.inl ⟨by kernel_rfl, ?_⟩) (by assumption) ?_
        rotate_left
        · intro w hSw; (try dsimp only at hSw); go_simp; (try with_reducible rfl)
        refine wpAnyH_take (i := 8) (v := ?_) rfl (by kernel_rfl) (by kernel_rfl) (by kernel_rfl) (fun _ _ _ h => h) (Or.inl ⟨by kernel_rfl, ?_⟩) (by assumption) ?_
        rotate_left
        · intro w hSw; (try dsimp only at hSw); go_simp; (try with_reducible rfl)
        refine wpAnyH_take (i := 9) (v := ?_) rfl (by kernel_rfl) (by kernel_rfl) (by kernel_rfl) (fun _ _ _ h => h) (Or.inl ⟨by kernel_rfl, ?_⟩) (by assumption) ?_
        rotate_left
        · intro w hSw; (try dsimp only at hSw); go_simp; (try with_reducible rfl)
        refine wpAnyH_ready (rs := [10]) (by kernel_rfl) (by simp) ?_
        refine AllReadyH.cons rfl (fun K hK => ?_) AllReadyH.nil
        go_simp
        have hb := Kq.below_alloc z10 (.cells #[.string hp] 9)
        have I11 : Hid (CkI w (z10.alloc (.cells #[.string hp] 9)) base R a b Q buf3 ws3 ar3 st3 v X G t ∧ StrsAt (z10.alloc (.cells #[.string hp] 9)) (some ⟨z10.heap.size, 0, none⟩) [hp] ∧ R < z10.heap.size) := Lib.hid ⟨I9d.out.below hb, made_str z10 hp, I9d.out.s.ltR⟩
        generalize z10.alloc (.cells #[.string hp] 9) = z11 at *
        generalize z10.heap.size = Y at *
        clear hS0 hb
        refine hK.out _ _ I11.out.1.cpc (fun hS0 => ?_)
        clear hK K
        refine wpAnyH_ready (rs := [11]) (by kernel_rfl) (by simp) ?_
        refine AllReadyH.cons rfl (fun K hK => ?_) AllReadyH.nil
        go_simp
        refine (rv_put I11.out.1.s.d HLO.out (some ⟨Y, 0, none⟩) 1 [hp] (by have := HH.out.2.2.1; have := HLL.out.1; simp; omega) HH.out.2.2.2.1 ns (by have := HNS.out.2; omega) I11.out.2.1 (fun g o _ e hh => by
          have h1 := I11.out.2.2
          simp only [Option.some.injEq, Addr.mk.injEq] at e
          omega) (by simp)).mono ?_
        rintro x z12 ⟨rfl, hro⟩
        have hro2 := RvS.step I11.out.1.s hro
        rw [← HCK.out] at hro2 ⊢
        obtain ⟨y, hy⟩ : ∃ y, y = ckF a b G t v.slot s ws ar st := ⟨_, rfl⟩
        rw [← hy] at hro2 HF ⊢
        clear hy hro
        obtain ⟨ws4, ar4, st4, c2⟩ := y
        simp only at hro2 HF ⊢
        obtain ⟨buf4, W12, K12, F12⟩ := hro2
        have hkk := I11.out.1.keep K12 (fun j e => e)
        have I12 : Hid (CkI w z12 base R a b Q buf4 ws4 ar4 st4 v X G t) := Lib.hid ⟨W12, hkk.1, hkk.2, I11.out.1.hX, I11.out.1.hQR⟩
        have F12H : Hid (∀ j, buf4.ownBlock = some j → buf.ownBlock = some j ∨ w.heap.size ≤ j) := Lib.hid (fun j hj => by
          rcases F12 j hj with e | e
          · exact F9H.out j e
          · exact Or.inr (Nat.le_trans I11.out.1.bel.size e))
        clear W12 K12 F12 hS0 hkk HCK
        refine hK.out _ _ I12.out.cpc (fun hS0 => ?_)
        clear hK K
        refine wpAnyH_take (i := 12) (v := ?_) rfl (by kernel_rfl) (by kernel_rfl) (by kernel_rfl) (fun _ _ _ h => h) (Or.inl ⟨by kernel_rfl, ?_⟩) (by assumption) ?_
        rotate_left
        · intro w hSw; (try dsimp only at hSw); go_simp; (try with_reducible rfl)
        refine wpAnyH_done (by kernel_rfl) ?_ _
        clear hS0
        have W := I12.out.s
        by_cases hc2 : c2 = 0
        · subst hc2
          have x0 := Kq.blk_cell I12.out.box 0
          have x1 := Kq.blk_cell I12.out.box 1
          simp only [List.getElem?_toArray, List.getElem?_cons_zero, List.getElem?_cons_succ] at x0 x1
          have k1 := W.c1
          have k2 := W.c2
          have k3 := W.c3
          have k4 := W.c4
          have k5 := W.c5
          have k6 := W.c6
          have f1 := W.fz 1
          have f2 := W.fz 2
          have f3 := W.fz 3
          have f4 := W.fz 4
          have f5 := W.fz 5
          have f6 := W.fz 6
          have hTk : (T.length : Int) = (k : Int) := by rw [HTK.out]
          obtain ⟨w6, hw6⟩ : ∃ z, z = (((((z12.setCell ⟨Q, 1, none⟩ (.int .u64 (G : Int))).setCell ⟨Q, 2, none⟩ (.int .i64 (t : Int))).setCell ⟨Q, 3, none⟩ (.int .i64 (ns : Int))).setCell ⟨Q, 4, none⟩ (.int .i64 (T.length : Int))).setCell ⟨Q, 5, none⟩ (.int .i64 1)).setCell ⟨Q, 6, none⟩ (.bool true) := ⟨_, rfl⟩
          have hk6 : Kq.Keeps (· = Q) z12 w6 := by
            rw [hw6]
            exact (((((Kq.Keeps.setCell (S := (· = Q)) _ ⟨Q, 1, none⟩ _ rfl).trans (Kq.Keeps.setCell (S := (· = Q)) _ ⟨Q, 2, none⟩ _ rfl)).trans (Kq.Keeps.setCell (S := (· = Q)) _ ⟨Q, 3, none⟩ _ rfl)).trans (Kq.Keeps.setCell (S := (· = Q)) _ ⟨Q, 4, none⟩ _ rfl)).trans (Kq.Keeps.setCell (S := (· = Q)) _ ⟨Q, 5, none⟩ _ rfl)).trans (Kq.Keeps.setCell (S := (· = Q)) _ ⟨Q, 6, none⟩ _ rfl)
          have hb6 : w6.heap[Q]? = some (.cells (({ v with g := G, sg := t, slot := ns, used := T.length, cnt := 1, ready := true } : WalV).cells R) 50 (0, 0)) := by
            rw [hw6]
            exact Kq.blk_set (Kq.blk_set (Kq.blk_set (Kq.blk_set (Kq.blk_set (Kq.blk_set W.blk 1 _) 2 _) 3 _) 4 _) 5 _) 6 _
          have hE : brokenV (ckV v G t k 0) 0 = { v with g := G, sg := t, slot := ns, used := T.length, cnt := 1, ready := true } := by
            unfold brokenV ckV
            rw [if_pos rfl, ← HNS.out.1, HTK.out]
            have := HH.out.2.2.2.2.2.2.2.2.2.2.2.1
            obtain ⟨g, sg, sl, us, cn, rd, br⟩ := v
            simp only at this
            rw [this]
            rfl
          have HP : Hid (RvP w base R a b Q buf ws4 ar4 st4 (brokenV (ckV v G t k 0) 0) w6) := Lib.hid (by
            rw [hE]
            exact ⟨buf4, W.set hk6 hb6, I12.out.bel.trans (hk6.mono (fun _ _ e => Or.inr e)), F12H.out⟩)
          have HW := Lib.hid hw6
          clear hk6 hb6 hw6 W hE hTk
          go_simp
          go_wp2
          rw [← HW.out]
          go_ret
          exact ⟨by rw [HF.out]; rfl, by rw [HF.out]; exact HP.out⟩
        · have hcb : (c2 == 0) = false := beq_eq_false_iff_ne.2 hc2
          have hcn : (c2 != 0) = true := by rw [bne_iff_ne]; exact hc2
          have f7 := W.fz 7
          have k7 := W.c7
          obtain ⟨w6, hw6⟩ : ∃ z, z = z12.setCell ⟨Q, 7, none⟩ (.bool true) := ⟨_, rfl⟩
          have hk6 : Kq.Keeps (· = Q) z12 w6 := by rw [hw6]; exact Kq.Keeps.setCell _ _ _ rfl
          have hb6 : w6.heap[Q]? = some (.cells (({ v with broken := true } : WalV).cells R) 50 (0, 0)) := by rw [hw6]; exact Kq.blk_set W.blk 7 _
          have hE : brokenV (ckV v G t k c2) c2 = { v with broken := true } := by unfold brokenV ckV; rw [if_neg hc2, hcn]
          have HP : Hid (RvP w base R a b Q buf ws4 ar4 st4 (brokenV (ckV v G t k c2) c2) w6) := Lib.hid (by
            rw [hE]
            exact ⟨buf4, W.set hk6 hb6, I12.out.bel.trans (hk6.mono (fun _ _ e => Or.inr e)), F12H.out⟩)
          have HW := Lib.hid hw6
          clear hc2 hk6 hb6 hw6 W hE
          go_simp
          go_wp2
          rw [← HW.out]
          go_ret
          exact ⟨by rw [HF.out]; rfl, by rw [HF.out]; exact HP.out⟩
      · have hcb : (c == 0) = false := beq_eq_false_iff_ne.2 hc0
        have hcn : (c != 0) = true := by rw [bne_iff_ne]; exact hc0
        rw [if_neg hc0] at HCK
        have W := I9.out.s
        have f7 := W.fz 7
        have k7 := W.c7
        obtain ⟨w6, hw6⟩ : ∃ z, z = z9.setCell ⟨Q, 7, none⟩ (.bool true) := ⟨_, rfl⟩
        have hk6 : Kq.Keeps (· = Q) z9 w6 := by rw [hw6]; exact Kq.Keeps.setCell _ _ _ rfl
        have hb6 : w6.heap[Q]? = some (.cells (({ v with broken := true } : WalV).cells R) 50 (0, 0)) := by rw [hw6]; exact Kq.blk_set W.blk 7 _
        have hE : brokenV (ckV v G t k c) c = { v with broken := true } := by unfold brokenV ckV; rw [if_neg hc0, hcn]
        have HP : Hid (RvP w base R a b Q buf ws3 ar3 st3 (brokenV (ckV v G t k c) c) w6) := Lib.hid (by
          rw [hE]
          exact ⟨buf3, W.set hk6 hb6, I9.out.bel.trans (hk6.mono (fun _ _ e => Or.inr e)), F9H.out⟩)
        have HW := Lib.hid hw6
        rw [HCK.out] at HF
        clear hc0 hk6 hb6 hw6 W hE
        go_simp
        go_wp2
        rw [← HW.out]
        go_ret
        exact ⟨by rw [HF.out]; rfl, by rw [HF.out]; exact HP.out⟩
/-- Checkpoint, whatever stands -/
theorem rv_ckpt {w : World} {base R a b Q N : Nat} {buf : Value} {ws : List (Int × ByteArray)} {ar : Nat} {st : List Nat} {v : WalV} (h : RvS w base R a b Q buf ws ar st v) (ho : StOk a b N ws ar st) (hN : N + 420 ≤ 1000000) (hn : a * b ≤ 3000000) (ha : 64 ≤ a) (ha2 : a ≤ 512) (hb : 4 ≤ b) (hb2 : b ≤ 5000) (hsg : v.sg ≤ 1) (hsl : v.slot ≤ 1) (hg : v.g < M64) (s : ByteArray) :
    Calls Tryz.prog 31 #[.pointer (some ⟨Q, 0, none⟩), .string s] w fun x w' => x = .returned (.int .i64 (ckAll a b s ws ar st v).1.2.2.2) ∧ RvP w base R a b Q buf (ckAll a b s ws ar st v).1.1 (ckAll a b s ws ar st v).1.2.1 (ckAll a b s ws ar st v).1.2.2.1 (ckAll a b s ws ar st v).2 w' := by
  by_cases h1 : v.broken = true
  · have e : ckAll a b s ws ar st v = ((ws, ar, st, 14), v) := if_pos h1
    rw [e]
    exact (rv_ckpt_broken h s h1).mono (by rintro x w' ⟨rfl, rfl⟩; exact ⟨rfl, RvP.here h⟩)
  · have h1' : v.broken = false := by simpa using h1
    by_cases h3 : s.size ≤ 4096
    · exact rv_ckpt_on h ho hN hn ha ha2 hb hb2 hsg hsl hg s h1' h3
    · have e : ckAll a b s ws ar st v = ((ws, ar, st, 1), v) := by unfold ckAll; rw [if_neg h1, if_pos h3]
      rw [e]
      exact (rv_ckpt_range h s h1' h3).mono (by rintro x w' ⟨rfl, rfl⟩; exact ⟨rfl, RvP.here h⟩)
end Go.Proofs.YtbpgfhcecanikaaGreat
