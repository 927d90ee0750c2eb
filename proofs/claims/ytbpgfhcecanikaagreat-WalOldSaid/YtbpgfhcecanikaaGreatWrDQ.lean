/- Contract of carrackref07.Open. Condition: sizes. -/
import Derived.WalkSpells
import Derived.Outline
import Derived.Deep.QuietTactic
import Derived.Deep.RegionHeld
import Derived.Test.YtbpgfhcecanikaaGreatWrCQ
import Derived.Test.YtbpgfhcecanikaaGreatHdRNewQ
import Derived.Test.YtbpgfhcecanikaaGreatStrsOpenQ
namespace Go.Proofs.YtbpgfhcecanikaaGreat
open Go.RowKit
set_option linter.unusedVariables false
/-- the cells that Put's call loads -/
def OpC (w : World) (R Q a g sg : Nat) : Prop := w.cell? ⟨R, 0, none⟩ = some (.int .i64 (a : Int)) ∧ w.cell? ⟨Q, 1, none⟩ = some (.int .u64 (g : Int)) ∧ w.cell? ⟨Q, 2, none⟩ = some (.int .i64 (sg : Int))
/-- the reference's Open went -/
def RvOk (w : World) (base R a b : Nat) (buf : Value) (ws : List (Int × ByteArray)) (ar : Nat) (st : List Nat) (x : Ending) (w' : World) : Prop :=
  ∃ Q L cap, x = .returned (.tuple #[.pointer (some ⟨Q, 0, none⟩), .slice L (opR a b ws ar st).1.length cap, .int .i64 0]) ∧ w.heap.size ≤ Q ∧ StrsAt w' L (opR a b ws ar st).1 ∧ (∀ g o, L = some ⟨g, o, none⟩ → w.heap.size ≤ g) ∧
    ∃ buf', RvS w' base R a b Q buf' (opF a b ws ar st).1 (opF a b ws ar st).2.1 (opF a b ws ar st).2.2.1 (opV a b ws ar st) ∧ Kq.Keeps (· = R) w w' ∧ (∀ j, buf'.ownBlock = some j → buf.ownBlock = some j ∨ w.heap.size ≤ j)
/-- it didn't -/
def RvNo (w : World) (base R a b : Nat) (buf : Value) (ws : List (Int × ByteArray)) (ar : Nat) (st : List Nat) (c : Int) (x : Ending) (w' : World) : Prop :=
  x = .returned (.tuple #[.pointer none, .slice none 0 0, .int .i64 c]) ∧ RoP w base R a b buf ws ar st w'
def RvPost (w : World) (base R a b : Nat) (buf : Value) (ws : List (Int × ByteArray)) (ar : Nat) (st : List Nat) (x : Ending) (w' : World) : Prop :=
  if b < 4 then RvNo w base R a b buf ws ar st 1 x w' else if (opF a b ws ar st).2.2.2 = 0 then RvOk w base R a b buf ws ar st x w' else RvNo w base R a b buf (opF a b ws ar st).1 (opF a b ws ar st).2.1 (opF a b ws ar st).2.2.1 (opF a b ws ar st).2.2.2 x w'
theorem textF_one {a b : Nat} {ws : List (Int × ByteArray)} {st : List Nat} (k : Nat) : txt (textF a b ws st k 1) = (rdF a b ws st (k : Int)).1 := by
  apply nl_inj
  rw [nl_txt _ (textF_lt k 1)]
  simp [textF]
theorem RoP.below {w w0 w' : World} {base R a b : Nat} {buf : Value} {ws : List (Int × ByteArray)} {ar : Nat} {st : List Nat} (h : RoP w base R a b buf ws ar st w0) (hb : Below w0.heap.size w0 w') : RoP w base R a b buf ws ar st w' := by
  obtain ⟨buf', h1, h2, h3⟩ := h
  exact ⟨buf', h1.below hb, h2.trans (Kq.Keeps.of_below hb (fun k h1 h2 => absurd h1 (Nat.not_le.2 h2))), h3⟩
set_option maxRecDepth 100000 in
set_option maxHeartbeats 1000000 in
theorem rv_open_few (base R a b : Nat) (buf : Value) (ws : List (Int × ByteArray)) (ar : Nat) (st : List Nat) (w : World) (h : RfS w base R a b buf ws (ar : Int) st) (hb : b < 4) :
    Calls Tryz.prog 55 #[.pointer (some ⟨R, 0, none⟩)] w (RvPost w base R a b buf ws ar st) := by
  have H := Lib.hid h
  have d1 := h.c1
  have hd : decide ((b : Int) < 4) = true := decide_eq_true (by omega)
  have hd' : decide (b < 4) = true := decide_eq_true hb
  have HP : Hid (∀ x w', RvNo w base R a b buf ws ar st 1 x w' → RvPost w base R a b buf ws ar st x w') := Lib.hid (fun x w' h => by unfold RvPost; rw [if_pos hb]; exact h)
  clear h hb
  go_enter Tryz.func55, Tryz.ntmps55
  go_wp2
  refine bodyPost_ret (v := .tuple #[.pointer none, .slice none 0 0, .int .i64 1]) (by simp [results, Tryz.results55, go_sem]) rfl ?_
  exact HP.out _ _ ⟨rfl, buf, H.out, Kq.Keeps.refl _ _, fun j hj => Or.inl hj⟩
set_option maxRecDepth 100000 in
set_option maxHeartbeats 4000000 in
theorem rv_open (base R a b N : Nat) (buf : Value) (ws : List (Int × ByteArray)) (ar : Nat) (st : List Nat) (w : World) (h : RfS w base R a b buf ws (ar : Int) st) (ho : StOk a b N ws ar st) (hN : N + 220 ≤ 1000000) (hn : a * b ≤ 3000000) (ha : 64 ≤ a) (ha2 : a ≤ 512) (hb : 4 ≤ b) (hb2 : b ≤ 5000) (hsz : segN b * a ≤ 30000) :
    Calls Tryz.prog 55 #[.pointer (some ⟨R, 0, none⟩)] w (RvPost w base R a b buf ws ar st) := by
  have H := Lib.hid (And.intro h (And.intro ho (And.intro hN (And.intro hn (And.intro ha (And.intro ha2 (And.intro hb (And.intro hb2 hsz))))))))
  have d1 := h.c1
  have hd : decide ((b : Int) < 4) = false := decide_eq_false (by omega)
  have hd' : decide (b < 4) = false := decide_eq_false (by omega)
  have HP1 : Hid (∀ x w', (opF a b ws ar st).2.2.2 ≠ 0 → RvNo w base R a b buf (opF a b ws ar st).1 (opF a b ws ar st).2.1 (opF a b ws ar st).2.2.1 (opF a b ws ar st).2.2.2 x w' → RvPost w base R a b buf ws ar st x w') := Lib.hid (fun x w' hc h => by unfold RvPost; rw [if_neg (by omega), if_neg hc]; exact h)
  have HP2 : Hid (∀ x w', (opF a b ws ar st).2.2.2 = 0 → RvOk w base R a b buf ws ar st x w' → RvPost w base R a b buf ws ar st x w') := Lib.hid (fun x w' hc h => by unfold RvPost; rw [if_neg (by omega), if_pos hc]; exact h)
  have HHD : Hid (HdOk (a : Int) 1 ((0 : Nat) : Int)) := Lib.hid ⟨by omega, by omega, by decide, by decide, by decide⟩
  clear h ho hN hn ha ha2 hb hb2 hsz
  go_enter Tryz.func55, Tryz.ntmps55
  go_wp2_with fail
  have hfl : (if ar = 1 then (ws, 0, st, (13 : Int)) else ([], ar - 1, flushB a ws st, 0)) = flF a ws ar st := rfl
  have HFL := rf_flush_all base R a b buf ws ar st w H.out.1 (H.out.2.1.up (by have := H.out.2.2.1; omega)) H.out.2.2.2.1
  rw [hfl] at HFL
  refine HFL.mono ?_
  rintro x w3 ⟨rfl, hd3⟩
  have hso := flF_ok H.out.2.1
  have HOP : Hid ((flF a ws ar st).2.2.2 ≠ 0 → opF a b ws ar st = flF a ws ar st) := Lib.hid (fun h => if_neg h)
  have HOQ : Hid ((flF a ws ar st).2.2.2 = 0 → opF a b ws ar st = fdF a b (flF a ws ar st).1 (flF a ws ar st).2.1 (flF a ws ar st).2.2.1) := Lib.hid (fun h => if_pos h)
  have HV0 : Hid (opV0 a b ws ar st = fdV a b (flF a ws ar st).1 (flF a ws ar st).2.1 (flF a ws ar st).2.2.1 wal0) := Lib.hid rfl
  have H3 := Lib.hid (And.intro hd3 hso)
  clear hd3 hso HFL hfl d1
  obtain ⟨y, hy⟩ : ∃ y, y = flF a ws ar st := ⟨_, rfl⟩
  rw [← hy] at HOP HOQ HV0 H3 ⊢
  clear hy
  obtain ⟨ws3, ar3, st3, c1⟩ := y
  simp only at HOP HOQ HV0 H3 ⊢
  by_cases hc1 : c1 = 0
  · subst hc1
    have HOQ2 := Lib.hid (HOQ.out rfl)
    clear HOP HOQ
    obtain ⟨⟨buf3, W3, K3, F3⟩, so3⟩ := H3.out
    have HW3 := Lib.hid (And.intro W3 (And.intro K3 (And.intro F3 so3)))
    clear W3 K3 F3 so3 H3
    have HRD := Lib.hid (fun (wx : World) (hx : RfS wx base R a b buf3 ws3 (ar3 : Int) st3) (n : Int) => rf_read_all base R a b buf3 ws3 (ar3 : Int) st3 n wx hx HW3.out.2.2.2.lt HW3.out.2.2.2.len H.out.2.2.2.1 (by have := H.out.2.2.2.2.2.2.2.1; omega) (Nat.le_trans HW3.out.2.2.2.nw (by have := H.out.2.2.1; omega)))
    go_wp2_with fail
    refine (HRD.out w3 HW3.out.1 0).mono ?_
    rintro x w4 ⟨rfl, hb4⟩
    have HW4 := Lib.hid (And.intro (HW3.out.1.below hb4) hb4)
    clear hb4
    go_wp2_with fail
    refine (HRD.out w4 HW4.out.1 1).mono ?_
    rintro x w5 ⟨rfl, hb5⟩
    have HW5 := Lib.hid (And.intro (HW4.out.1.below hb5) (HW4.out.2.trans (hb5.mono HW4.out.2.size)))
    have HTS : Hid (∀ k, (txt (textF a b ws3 st3 k 1)).size ≤ maxLen) := Lib.hid (fun k => by
      have h1 := textF_length HW3.out.2.2.2 k 1
      have h2 := H.out.2.2.2.2.2.1
      rw [← nl_length, nl_txt _ (textF_lt k 1)]
      unfold maxLen; omega)
    have HNW : Hid (nwF a b ws3 st3 = nw a [txt (textF a b ws3 st3 0 1), txt (textF a b ws3 st3 1 1)] 2) := Lib.hid rfl
    have hT0 : txt (textF a b ws3 st3 0 1) = (rdF a b ws3 st3 0).1 := textF_one 0
    have hT1 : txt (textF a b ws3 st3 1 1) = (rdF a b ws3 st3 1).1 := textF_one 1
    have HS0 : Hid ((rdF a b ws3 st3 0).1.size ≤ maxLen) := Lib.hid (by rw [← hT0]; exact HTS.out 0)
    have HS1 : Hid ((rdF a b ws3 st3 1).1.size ≤ maxLen) := Lib.hid (by rw [← hT1]; exact HTS.out 1)
    rw [hT0, hT1] at HNW
    have HFF : Hid ((nwF a b ws3 st3).2.2 < 0 → fdF a b ws3 ar3 st3 = phF a b 1 0 1 ws3 ar3 st3 ∧ fdV a b ws3 ar3 st3 wal0 = headV wal0 1 0 1 (phF a b 1 0 1 ws3 ar3 st3).2.2.2) := Lib.hid (fun h => ⟨if_pos h, if_pos h⟩)
    have HFG : Hid (¬ (nwF a b ws3 st3).2.2 < 0 → fdF a b ws3 ar3 st3 = (ws3, ar3, st3, 0) ∧ fdV a b ws3 ar3 st3 wal0 = { wal0 with g := (nwF a b ws3 st3).1, sg := (nwF a b ws3 st3).2.1, slot := (nwF a b ws3 st3).2.2.toNat }) := Lib.hid (fun h => ⟨if_neg h, if_neg h⟩)
    clear hb5 HTS hT0 hT1 HRD
    generalize (rdF a b ws3 st3 0).1 = T0 at *
    generalize (rdF a b ws3 st3 1).1 = T1 at *
    generalize (rdF a b ws3 st3 0).2 = e0 at *
    generalize (rdF a b ws3 st3 1).2 = e1 at *
    obtain ⟨Q, hQ⟩ : ∃ z, z = w5.heap.size := ⟨_, rfl⟩
    obtain ⟨w6, hw6⟩ : ∃ z, z = w5.alloc (.cells #[.pointer (some ⟨R, 0, none⟩), .int .u64 0, .int .i64 0, .int .i64 0, .int .i64 0, .int .i64 0, .bool false, .bool false] 50) := ⟨_, rfl⟩
    have hb6 : Below w5.heap.size w5 w6 := by rw [hw6]; exact Kq.below_alloc _ _
    have H6 : Hid (RvS w6 base R a b Q buf3 ws3 ar3 st3 wal0 ∧ Below w3.heap.size w3 w6) := Lib.hid ⟨⟨HW5.out.1.below hb6, by rw [hw6, hQ]; exact Kq.blk_new _ _ _ _, fun hh => by
      rw [hQ] at hh
      rcases hh with e | e
      · have := Kq.blk_lt HW5.out.1.blk; omega
      · have := (HW5.out.1.own.lt _ e).2; omega⟩, HW5.out.2.trans (hb6.mono HW5.out.2.size)⟩
    have HQ0 : Hid (w3.heap.size ≤ Q) := Lib.hid (by rw [hQ]; exact HW5.out.2.size)
    have HW6 := Lib.hid (And.intro hw6 hQ)
    have HZ6 : Hid (w6.heap.size = Q + 1) := Lib.hid (by rw [hw6, hQ]; exact Array.size_push _)
    have k0 := HW5.out.1.c0
    have hR5 : R < w5.heap.size := Kq.blk_lt HW5.out.1.blk
    have hR5n : R ≠ w5.heap.size := by omega
    clear hb6 hw6 HW4
    go_wp2_with fail
    rw [← HW6.out.1, ← HW6.out.2]
    clear hQ
    have hb7 := Kq.below_alloc w6 (.cells #[.string T0, .string T1] 9)
    have H7 := Lib.hid (And.intro (H6.out.1.below hb7) (H6.out.2.trans (hb7.mono H6.out.2.size)))
    have HST : Hid (StrsAt (w6.alloc (.cells #[.string T0, .string T1] 9)) (some ⟨Q + 1, 0, none⟩) [T0, T1]) := Lib.hid (by rw [← HZ6.out]; exact made_two w6 T0 T1)
    clear hb7
    refine (r6.rf_newest (a : Int) (some ⟨Q + 1, 0, none⟩) 2 [T0, T1] _ (by simp) (fun s hs => by
      simp only [List.mem_cons, List.not_mem_nil, or_false] at hs
      rcases hs with rfl | rfl
      · exact HS0.out
      · exact HS1.out) HST.out).mono ?_
    rintro x w8 ⟨rfl, hb8⟩
    have H8 := Lib.hid (And.intro (H7.out.1.below hb8) (H7.out.2.trans (hb8.mono H7.out.2.size)))
    clear hb8 H7 HST HS0 HS1 H6 HW5 k0 hR5 hR5n
    have hnn : nw (Int.toNat (a : Int)) [T0, T1] [T0, T1].length = nwF a b ws3 st3 := by rw [HNW.out]; rfl
    rw [hnn]
    clear hnn HNW
    obtain ⟨y, hy⟩ : ∃ y, y = nwF a b ws3 st3 := ⟨_, rfl⟩
    have HY := Lib.hid hy
    rw [← hy] at HFF HFG ⊢
    have HINV : Hid ((y.2.2 < 0 ∧ y = (0, 0, -1)) ∨ (0 ≤ y.2.2 ∧ 0 < y.1)) := Lib.hid (by rw [hy]; exact nw_inv a _ 2)
    clear hy
    obtain ⟨ng, ns, nk⟩ := y
    simp only at HFF HFG ⊢
    have W8 := H8.out.1
    have f1 := W8.fz 1
    have f2 := W8.fz 2
    have f3 := W8.fz 3
    have k1 := W8.c1
    have k2 := W8.c2
    have k3 := W8.c3
    by_cases hlt : nk < 0
    · have hd1 : decide (nk < 0) = true := decide_eq_true hlt
      obtain ⟨rfl, rfl, rfl⟩ : ng = 0 ∧ ns = 0 ∧ nk = -1 := by
        rcases HINV.out with h | h
        · have := h.2; simp only [Prod.mk.injEq] at this; exact this
        · exact absurd h.1 (by simp only; omega)
      have HF := Lib.hid (HFF.out hlt)
      clear hlt HFF HFG HINV
      obtain ⟨w9, hw9⟩ : ∃ z, z = ((((((w8.setCell ⟨Q, 1, none⟩ (.int .u64 0)).setCell ⟨Q, 2, none⟩ (.int .i64 0)).setCell ⟨Q, 3, none⟩ (.int .i64 (-1)))).setCell ⟨Q, 1, none⟩ (.int .u64 1)).setCell ⟨Q, 2, none⟩ (.int .i64 0)).setCell ⟨Q, 3, none⟩ (.int .i64 1) := ⟨_, rfl⟩
      have hk9 : Kq.Keeps (· = Q) w8 w9 := by
        rw [hw9]
        exact (((((Kq.Keeps.setCell (S := (· = Q)) _ ⟨Q, 1, none⟩ _ rfl).trans (Kq.Keeps.setCell (S := (· = Q)) _ ⟨Q, 2, none⟩ _ rfl)).trans (Kq.Keeps.setCell (S := (· = Q)) _ ⟨Q, 3, none⟩ _ rfl)).trans (Kq.Keeps.setCell (S := (· = Q)) _ ⟨Q, 1, none⟩ _ rfl)).trans (Kq.Keeps.setCell (S := (· = Q)) _ ⟨Q, 2, none⟩ _ rfl)).trans (Kq.Keeps.setCell (S := (· = Q)) _ ⟨Q, 3, none⟩ _ rfl)
      have hb9 : w9.heap[Q]? = some (.cells (({ wal0 with g := 1, sg := 0, slot := 1 } : WalV).cells R) 50 (0, 0)) := by
        rw [hw9]
        exact Kq.blk_set (Kq.blk_set (Kq.blk_set (Kq.blk_set (Kq.blk_set (Kq.blk_set W8.blk 1 _) 2 _) 3 _) 1 _) 2 _) 3 _
      have W9 := W8.set hk9 hb9
      obtain ⟨v9, hv9⟩ : ∃ v : WalV, v = { wal0 with g := 1, sg := 0, slot := 1 } := ⟨_, rfl⟩
      rw [← hv9] at W9
      have H9 : Hid (RvS w9 base R a b Q buf3 ws3 ar3 st3 v9 ∧ Kq.Keeps (fun j => w3.heap.size ≤ j) w3 w9 ∧ w3.heap.size ≤ w9.heap.size) := Lib.hid ⟨W9, (Kq.Keeps.of_below H8.out.2 (fun k h1 h2 => absurd h1 (Nat.not_le.2 h2))).trans (hk9.mono (fun j _ e => by rw [e]; exact HQ0.out)), Nat.le_trans H8.out.2.size hk9.size⟩
      have HW9 := Lib.hid hw9
      clear hk9 hb9 W9 hw9 W8
      go_wp2_with fail
      rw [← HW9.out]
      clear f1 f2 f3 k1 k2 k3
      have HD : Hid (OpC w9.drew R Q a 1 0 ∧ RvS w9.drew base R a b Q buf3 ws3 ar3 st3 v9 ∧ Below w9.heap.size w9 w9.drew) := Lib.hid (by
        have hW := H9.out.1.drew
        have q1 := hW.c1
        have q2 := hW.c2
        rw [hv9] at q1 q2
        exact ⟨⟨hW.d.c0, q1, q2⟩, hW, (Below.refl _ _).drew⟩)
      refine wp_region_held_drew (S := fun w' => OpC w' R Q a 1 0) (by kernel_rfl) HD.out.1 (fun hS0 => ?_)
      generalize w9.drew = wd at *
      unfold OpC at hS0
      dsimp only [OpC]
      refine wpAnyH_take (i := 0) (v := ?_) rfl (by kernel_rfl) (by kernel_rfl) (by kernel_rfl) (fun _ _ _ h => h) (Or.inl ⟨by kernel_rfl, ?_⟩) (by assumption) ?_
      rotate_left
      · intro w hSw; (try dsimp only at hSw); go_simp; (try with_reducible rfl)
      refine wpAnyH_take (i := 1) (v := ?_) rfl (by kernel_rfl) (by kernel_rfl) (by kernel_rfl) (fun _ _ _ h => h) (Or.inl ⟨by kernel_rfl, ?_⟩) (by assumption) ?_
      rotate_left
      · intro w hSw; (try dsimp only at hSw); go_simp; (try with_reducible rfl)
      refine wpAnyH_take (i := 2) (v := ?_) rfl (by kernel_rfl) (by kernel_rfl) (by kernel_rfl) (fun _ _ _ h => h) (Or.inl ⟨by kernel_rfl, ?_⟩) (by assumption) ?_
      rotate_left
      · intro w hSw; (try dsimp only at hSw); go_simp; (try with_reducible rfl)
      refine wpAnyH_take (i := 3) (v := ?_) rfl (by kernel_rfl) (by kernel_rfl) (by kernel_rfl) (fun _ _ _ h => h) (Or.inl ⟨by kernel_rfl, ?_⟩) (by assumption) ?_
      rotate_left
      · intro w hSw; (try dsimp only at hSw); go_simp; (try with_reducible rfl)
      refine wpAnyH_take (i := 4) (v := ?_) rfl (by kernel_rfl) (by kernel_rfl) (by kernel_rfl) (fun _ _ _ h => h) (Or.inl ⟨by kernel_rfl, ?_⟩) (by assumption) ?_
      rotate_left
      · intro w hSw; (try dsimp only at hSw); go_simp; (try with_reducible rfl)
      refine wpAnyH_take (i := 5) (v := ?_) rfl (by kernel_rfl) (by kernel_rfl) (by kernel_rfl) (fun _ _ _ h => h) (Or.inl ⟨by kernel_rfl, ?_⟩) (by assumption) ?_
      rotate_left
      · intro w hSw; (try dsimp only at hSw); go_simp; (try with_reducible rfl)
      refine wpAnyH_take (i := 6) (v := ?_) rfl (by kernel_rfl) (by kernel_rfl) (by kernel_rfl) (fun _ _ _ h => h) (Or.inl ⟨by kernel_rfl, ?_⟩) (by assumption) ?_
      rotate_left
      · intro w hSw; (try dsimp only at hSw); go_simp; (try with_reducible rfl)
      refine wpAnyH_take (i := 7) (v := ?_) rfl (by kernel_rfl) (by kernel_rfl) (by kernel_rfl) (fun _ _ _ h => h) (Or.inl ⟨by kernel_rfl, ?_⟩) (by assumption) ?_
      rotate_left
      · intro w hSw; (try dsimp only at hSw); go_simp; (try with_reducible rfl)
      refine wpAnyH_ready (rs := [8]) (by kernel_rfl) (by simp) ?_
      refine AllReadyH.cons rfl (fun K hK => ?_) AllReadyH.nil
      go_simp
      refine (rf_put_ok a 1 0 wd HHD.out (by decide)).mono ?_
      rintro x wp ⟨rfl, hbp⟩
      have HDp : Hid (RvS wp base R a b Q buf3 ws3 ar3 st3 v9 ∧ Below w9.heap.size w9 wp) := Lib.hid ⟨HD.out.2.1.below hbp, HD.out.2.2.trans (hbp.mono HD.out.2.2.size)⟩
      have hcc : OpC wp R Q a 1 0 := by
        have hW := HDp.out.1
        have q1 := hW.c1
        have q2 := hW.c2
        rw [hv9] at q1 q2
        exact ⟨hW.d.c0, q1, q2⟩
      clear hS0 hbp HD
      refine hK.out _ _ hcc (fun hS0 => ?_)
      clear hK K hcc
      refine wpAnyH_take (i := 9) (v := ?_) rfl (by kernel_rfl) (by kernel_rfl) (by kernel_rfl) (fun _ _ _ h => h) (Or.inl ⟨by kernel_rfl, ?_⟩) (by assumption) ?_
      rotate_left
      · intro w hSw; (try dsimp only at hSw); go_simp; (try with_reducible rfl)
      refine wpAnyH_take (i := 10) (v := ?_) rfl (by kernel_rfl) (by kernel_rfl) (by kernel_rfl) (fun _ _ _ h => h) (Or.inl ⟨by kernel_rfl, ?_⟩) (by assumption) ?_
      rotate_left
      · intro w hSw; (try dsimp only at hSw); go_simp; (try with_reducible rfl)
      refine wpAnyH_take (i := 11) (v := ?_) rfl (by kernel_rfl) (by kernel_rfl) (by kernel_rfl) (fun _ _ _ h => h) (Or.inl ⟨by kernel_rfl, ?_⟩) (by assumption) ?_
      rotate_left
      · intro w hSw; (try dsimp only at hSw); go_simp; (try with_reducible rfl)
      refine wpAnyH_take (i := 12) (v := ?_) rfl (by kernel_rfl) (by kernel_rfl) (by kernel_rfl) (fun _ _ _ h => h) (Or.inl ⟨by kernel_rfl, ?_⟩) (by assumption) ?_
      rotate_left
      · intro w hSw; (try dsimp only at hSw); go_simp; (try with_reducible rfl)
      refine wpAnyH_take (i := 13) (v := ?_) rfl (by kernel_rfl) (by kernel_rfl) (by kernel_rfl) (fun _ _ _ h => h) (Or.inl ⟨by kernel_rfl, ?_⟩) (by assumption) ?_
      rotate_left
      · intro w hSw; (try dsimp only at hSw); go_simp; (try with_reducible rfl)
      refine wpAnyH_done (by kernel_rfl) ?_ _
      clear hS0
      have HPH : Hid (phF a b 1 0 1 ws3 ar3 st3 = layF a b 1 [hdPut a 1 0] ws3 ar3 st3) := Lib.hid rfl
      generalize hdPut a 1 0 = hd0 at *
      go_simp
      go_wp2_with fail
      have hbq := Kq.below_alloc wp (.cells #[.string hd0] 9)
      have HDq : Hid (RvS (wp.alloc (.cells #[.string hd0] 9)) base R a b Q buf3 ws3 ar3 st3 v9 ∧ Below w9.heap.size w9 (wp.alloc (.cells #[.string hd0] 9))) := Lib.hid ⟨HDp.out.1.below hbq, HDp.out.2.trans (hbq.mono HDp.out.2.size)⟩
      clear hbq
      have KP := Lib.hid (rv_put HDq.out.1.d HW3.out.2.2.2 (some ⟨wp.heap.size, 0, none⟩) 1 [hd0] (by have := H.out.2.2.1; simp; omega) H.out.2.2.2.1 1 (by decide) (made_str wp hd0) (fun g o _ e hh => by
        have h1 := Kq.blk_lt HDp.out.1.d.blk
        simp only [Option.some.injEq, Addr.mk.injEq] at e
        omega) (by simp))
      rw [← HPH.out] at KP
      refine KP.out.mono ?_
      rintro x w10 ⟨rfl, hro⟩
      have hro2 := RvS.step HDq.out.1 hro
      rw [← HF.out.1, ← HOQ2.out] at hro2 ⊢
      have HHV : Hid (opV0 a b ws ar st = headV wal0 1 0 1 (opF a b ws ar st).2.2.2) := Lib.hid (by rw [HV0.out, HF.out.2, HOQ2.out, HF.out.1])
      have HLO := Lib.hid (layF_ok a b [hd0] 1 _ _ _ _ HW3.out.2.2.2)
      rw [← HPH.out, ← HF.out.1, ← HOQ2.out] at HLO
      clear hro KP
      have H10 := Lib.hid hro2
      clear hro2 HPH HF HOQ2
      obtain ⟨y, hy⟩ : ∃ y, y = opF a b ws ar st := ⟨_, rfl⟩
      have HYY := Lib.hid hy
      rw [← hy] at H10 HP1 HP2 HHV HLO ⊢
      clear hy
      obtain ⟨ws4, ar4, st4, c2⟩ := y
      simp only at H10 HP1 HP2 HHV HLO ⊢
      obtain ⟨buf4, W10, K10, F10⟩ := H10.out
      have HB10 : Hid (Kq.Keeps (· = R) w w10 ∧ (∀ j, buf4.ownBlock = some j → buf.ownBlock = some j ∨ w.heap.size ≤ j) ∧ RvS w10 base R a b Q buf4 ws4 ar4 st4 v9 ∧ w.heap.size ≤ Q) := Lib.hid ⟨(((HW3.out.2.1.chain (H9.out.2.1.mono (fun j _ h => Or.inr (Nat.le_trans HW3.out.2.1.size h)))).belowC HDq.out.2).chain (K10.mono (fun j _ e => e.elim Or.inl (fun e => Or.inr (by rw [e]; exact Nat.le_trans HW3.out.2.1.size HQ0.out))))), fun j hj => by
          rcases F10 j hj with e | e
          · exact HW3.out.2.2.1 j e
          · exact Or.inr (Nat.le_trans HW3.out.2.1.size (Nat.le_trans H9.out.2.2 (Nat.le_trans HDq.out.2.size e))), W10, Nat.le_trans HW3.out.2.1.size HQ0.out⟩
      clear W10 K10 F10 H10 HDq HDp H9
      by_cases hc2 : c2 = 0
      · subst hc2
        have hv9b : opV0 a b ws ar st = v9 := by rw [HHV.out, hv9]; rfl
        have HV9 : Hid (opV0 a b ws ar st = v9 ∧ StOk a b (N + 1) ws4 ar4 st4) := Lib.hid ⟨hv9b, HLO.out⟩
        clear hv9b hv9
        have hv : (opV0 a b ws ar st).g < M64 ∧ (opV0 a b ws ar st).sg ≤ 1 := by
          rw [HV0.out]
          exact fdV_fit a b ws3 ar3 st3 wal0 (by show 0 < M64; decide) (Nat.zero_le _)
        have HRR : Hid (opR a b ws ar st = scanAll (a : Int) (opV0 a b ws ar st).g (segT a b ws4 st4 (opV0 a b ws ar st).sg)) := Lib.hid (by unfold opR; rw [← HYY.out])
        have HVV : Hid (opV a b ws ar st = { opV0 a b ws ar st with used := (opR a b ws ar st).2, cnt := (opR a b ws ar st).1.length }) := Lib.hid rfl
        have HOK : Hid (∀ x w', RvOk w base R a b buf ws ar st x w' → RvPost w base R a b buf ws ar st x w') := Lib.hid (fun x w' h => HP2.out x w' rfl h)
        have HUN : Hid (∀ x w', (∃ Q L cap, x = .returned (.tuple #[.pointer (some ⟨Q, 0, none⟩), .slice L (opR a b ws ar st).1.length cap, .int .i64 0]) ∧ w.heap.size ≤ Q ∧ StrsAt w' L (opR a b ws ar st).1 ∧ (∀ g o, L = some ⟨g, o, none⟩ → w.heap.size ≤ g) ∧ ∃ buf', RvS w' base R a b Q buf' ws4 ar4 st4 (opV a b ws ar st) ∧ Kq.Keeps (· = R) w w' ∧ (∀ j, buf'.ownBlock = some j → buf.ownBlock = some j ∨ w.heap.size ≤ j)) → RvOk w base R a b buf ws ar st x w') := Lib.hid (fun x w' h => by unfold RvOk; rw [← HYY.out]; exact h)
        rw [HV9.out.1] at hv HRR HVV
        have HGV := Lib.hid hv
        obtain ⟨rr, hrr⟩ : ∃ r, r = opR a b ws ar st := ⟨_, rfl⟩
        rw [← hrr] at HRR HVV HUN
        obtain ⟨vv, hvv⟩ : ∃ v, v = opV a b ws ar st := ⟨_, rfl⟩
        rw [← hvv] at HVV HUN
        have x1 := HB10.out.2.2.1.c1
        have x2 := HB10.out.2.2.1.c2
        clear hrr hvv hv HP1 HP2
        go_wp2_with fail
        refine (rv_records HB10.out.2.2.1.d HV9.out.2 (by have := H.out.2.2.1; omega) H.out.2.2.2.1 H.out.2.2.2.2.1 H.out.2.2.2.2.2.1 H.out.2.2.2.2.2.2.1 H.out.2.2.2.2.2.2.2.1 H.out.2.2.2.2.2.2.2.2 v9.g v9.sg HGV.out.1 HGV.out.2).mono ?_
        rw [← HRR.out]
        rintro x w11 ⟨LA, lcap, rfl, hLA, hge, hb11⟩
        obtain ⟨rl, rn⟩ := rr
        simp only at hLA HVV HUN ⊢
        have W11 := HB10.out.2.2.1.below hb11
        have g3 := W11.fz 4
        have g4 := W11.fz 5
        have j3 := W11.c4
        have j4 := W11.c5
        obtain ⟨w12, hw12⟩ : ∃ z, z = (w11.setCell ⟨Q, 4, none⟩ (.int .i64 (rn : Int))).setCell ⟨Q, 5, none⟩ (.int .i64 (rl.length : Int)) := ⟨_, rfl⟩
        have hk12 : Kq.Keeps (· = Q) w11 w12 := by
          rw [hw12]
          exact (Kq.Keeps.setCell (S := (· = Q)) _ ⟨Q, 4, none⟩ _ rfl).trans (Kq.Keeps.setCell (S := (· = Q)) _ ⟨Q, 5, none⟩ _ rfl)
        have hb12 : w12.heap[Q]? = some (.cells (vv.cells R) 50 (0, 0)) := by
          rw [hw12, HVV.out]
          exact Kq.blk_set (Kq.blk_set W11.blk 4 _) 5 _
        have W12 : RvS w12 base R a b Q buf4 ws4 ar4 st4 vv := W11.set hk12 hb12
        have HFIN : Hid (RvOk w base R a b buf ws ar st (.returned (.tuple #[.pointer (some ⟨Q, 0, none⟩), .slice LA rl.length lcap, .int .i64 0])) w12) := Lib.hid (HUN.out _ _ ⟨Q, LA, lcap, rfl, HB10.out.2.2.2, hLA.keepsW hk12 (fun g o _ e hh => by have := hge g o e; have := HB10.out.2.2.1.lt; omega), fun g o e => Nat.le_trans HB10.out.1.size (hge g o e), buf4, W12, (HB10.out.1.belowC hb11).chain (hk12.mono (fun j _ e => Or.inr (by rw [e]; exact HB10.out.2.2.2))), HB10.out.2.1⟩)
        have HW := Lib.hid hw12
        clear hk12 hb12 W12 hw12 W11 hLA hge hb11
        go_wp2
        rw [← HW.out]
        refine bodyPost_ret (v := .tuple #[.pointer (some ⟨Q, 0, none⟩), .slice LA rl.length lcap, .int .i64 0]) (by simp [results, Tryz.results55, go_sem]) rfl ?_
        exact HOK.out _ _ HFIN.out
      · have hcb : (c2 == 0) = false := beq_eq_false_iff_ne.2 hc2
        have hcn : (c2 != 0) = true := by rw [bne_iff_ne]; exact hc2
        have HC := Lib.hid hc2
        go_wp2
        refine bodyPost_ret (v := .tuple #[.pointer none, .slice none 0 0, .int .i64 c2]) (by simp [results, Tryz.results55, go_sem]) rfl ?_
        exact HP1.out _ _ HC.out ⟨rfl, buf4, HB10.out.2.2.1.d, HB10.out.1, HB10.out.2.1⟩
    · have hd1 : decide (nk < 0) = false := decide_eq_false hlt
      have HF := Lib.hid (HFG.out (by omega))
      obtain ⟨k, rfl⟩ := Int.eq_ofNat_of_zero_le (show 0 ≤ nk by omega)
      have hd1' : decide (((k : Nat) : Int) < 0) = false := decide_eq_false (by omega)
      obtain ⟨w9, hw9⟩ : ∃ z, z = ((w8.setCell ⟨Q, 1, none⟩ (.int .u64 (ng : Int))).setCell ⟨Q, 2, none⟩ (.int .i64 (ns : Int))).setCell ⟨Q, 3, none⟩ (.int .i64 (k : Int)) := ⟨_, rfl⟩
      have hk9 : Kq.Keeps (· = Q) w8 w9 := by
        rw [hw9]
        exact ((Kq.Keeps.setCell (S := (· = Q)) _ ⟨Q, 1, none⟩ _ rfl).trans (Kq.Keeps.setCell (S := (· = Q)) _ ⟨Q, 2, none⟩ _ rfl)).trans (Kq.Keeps.setCell (S := (· = Q)) _ ⟨Q, 3, none⟩ _ rfl)
      have hb9 : w9.heap[Q]? = some (.cells (({ wal0 with g := ng, sg := ns, slot := k } : WalV).cells R) 50 (0, 0)) := by
        rw [hw9]
        exact Kq.blk_set (Kq.blk_set (Kq.blk_set W8.blk 1 _) 2 _) 3 _
      have W9 := W8.set hk9 hb9
      obtain ⟨v9, hv9⟩ : ∃ v : WalV, v = { wal0 with g := ng, sg := ns, slot := k } := ⟨_, rfl⟩
      rw [← hv9] at W9
      have HV9 : Hid (opV0 a b ws ar st = v9 ∧ StOk a b (N + 1) ws3 ar3 st3) := Lib.hid ⟨by rw [HV0.out, HF.out.2, hv9]; rfl, HW3.out.2.2.2.up (by omega)⟩
      have HOF : Hid (opF a b ws ar st = (ws3, ar3, st3, 0)) := Lib.hid (by rw [HOQ2.out, HF.out.1])
      have HB10 : Hid (Kq.Keeps (· = R) w w9 ∧ (∀ j, buf3.ownBlock = some j → buf.ownBlock = some j ∨ w.heap.size ≤ j) ∧ RvS w9 base R a b Q buf3 ws3 ar3 st3 v9 ∧ w.heap.size ≤ Q) := Lib.hid ⟨((HW3.out.2.1.belowC H8.out.2).chain (hk9.mono (fun j _ e => Or.inr (by rw [e]; exact Nat.le_trans HW3.out.2.1.size HQ0.out)))), HW3.out.2.2.1, W9, Nat.le_trans HW3.out.2.1.size HQ0.out⟩
      have HYY : Hid ((ws3, ar3, st3, (0 : Int)) = opF a b ws ar st) := Lib.hid HOF.out.symm
      have HW9 := Lib.hid hw9
      have HVQ : Hid ((ng : Int) = (v9.g : Int) ∧ (ns : Int) = (v9.sg : Int)) := Lib.hid (by rw [hv9]; exact ⟨rfl, rfl⟩)
      clear hk9 hb9 W9 hw9 W8 hlt HFF HFG HINV hv9
      rw [HOF.out] at HP1 HP2
      clear HOF HF HOQ2
      have hv : (opV0 a b ws ar st).g < M64 ∧ (opV0 a b ws ar st).sg ≤ 1 := by
        rw [HV0.out]
        exact fdV_fit a b ws3 ar3 st3 wal0 (by show 0 < M64; decide) (Nat.zero_le _)
      have HRR : Hid (opR a b ws ar st = scanAll (a : Int) (opV0 a b ws ar st).g (segT a b ws3 st3 (opV0 a b ws ar st).sg)) := Lib.hid (by unfold opR; rw [← HYY.out])
      have HVV : Hid (opV a b ws ar st = { opV0 a b ws ar st with used := (opR a b ws ar st).2, cnt := (opR a b ws ar st).1.length }) := Lib.hid rfl
      have HOK : Hid (∀ x w', RvOk w base R a b buf ws ar st x w' → RvPost w base R a b buf ws ar st x w') := Lib.hid (fun x w' h => HP2.out x w' rfl h)
      have HUN : Hid (∀ x w', (∃ Q L cap, x = .returned (.tuple #[.pointer (some ⟨Q, 0, none⟩), .slice L (opR a b ws ar st).1.length cap, .int .i64 0]) ∧ w.heap.size ≤ Q ∧ StrsAt w' L (opR a b ws ar st).1 ∧ (∀ g o, L = some ⟨g, o, none⟩ → w.heap.size ≤ g) ∧ ∃ buf', RvS w' base R a b Q buf' ws3 ar3 st3 (opV a b ws ar st) ∧ Kq.Keeps (· = R) w w' ∧ (∀ j, buf'.ownBlock = some j → buf.ownBlock = some j ∨ w.heap.size ≤ j)) → RvOk w base R a b buf ws ar st x w') := Lib.hid (fun x w' h => by unfold RvOk; rw [← HYY.out]; exact h)
      rw [HV9.out.1] at hv HRR HVV
      have HGV := Lib.hid hv
      obtain ⟨rr, hrr⟩ : ∃ r, r = opR a b ws ar st := ⟨_, rfl⟩
      rw [← hrr] at HRR HVV HUN
      obtain ⟨vv, hvv⟩ : ∃ v, v = opV a b ws ar st := ⟨_, rfl⟩
      rw [← hvv] at HVV HUN
      clear hrr hvv hv HP1 HP2
      go_wp2_with fail
      rw [← HW9.out, HVQ.out.1, HVQ.out.2]
      refine (rv_records HB10.out.2.2.1.d HV9.out.2 (by have := H.out.2.2.1; omega) H.out.2.2.2.1 H.out.2.2.2.2.1 H.out.2.2.2.2.2.1 H.out.2.2.2.2.2.2.1 H.out.2.2.2.2.2.2.2.1 H.out.2.2.2.2.2.2.2.2 v9.g v9.sg HGV.out.1 HGV.out.2).mono ?_
      rw [← HRR.out]
      rintro x w11 ⟨LA, lcap, rfl, hLA, hge, hb11⟩
      obtain ⟨rl, rn⟩ := rr
      simp only at hLA HVV HUN ⊢
      have W11 := HB10.out.2.2.1.below hb11
      have g3 := W11.fz 4
      have g4 := W11.fz 5
      have j3 := W11.c4
      have j4 := W11.c5
      obtain ⟨w12, hw12⟩ : ∃ z, z = (w11.setCell ⟨Q, 4, none⟩ (.int .i64 (rn : Int))).setCell ⟨Q, 5, none⟩ (.int .i64 (rl.length : Int)) := ⟨_, rfl⟩
      have hk12 : Kq.Keeps (· = Q) w11 w12 := by
        rw [hw12]
        exact (Kq.Keeps.setCell (S := (· = Q)) _ ⟨Q, 4, none⟩ _ rfl).trans (Kq.Keeps.setCell (S := (· = Q)) _ ⟨Q, 5, none⟩ _ rfl)
      have hb12 : w12.heap[Q]? = some (.cells (vv.cells R) 50 (0, 0)) := by
        rw [hw12, HVV.out]
        exact Kq.blk_set (Kq.blk_set W11.blk 4 _) 5 _
      have W12 : RvS w12 base R a b Q buf3 ws3 ar3 st3 vv := W11.set hk12 hb12
      have HFIN : Hid (RvOk w base R a b buf ws ar st (.returned (.tuple #[.pointer (some ⟨Q, 0, none⟩), .slice LA rl.length lcap, .int .i64 0])) w12) := Lib.hid (HUN.out _ _ ⟨Q, LA, lcap, rfl, HB10.out.2.2.2, hLA.keepsW hk12 (fun g o _ e hh => by have := hge g o e; have := HB10.out.2.2.1.lt; omega), fun g o e => Nat.le_trans HB10.out.1.size (hge g o e), buf3, W12, (HB10.out.1.belowC hb11).chain (hk12.mono (fun j _ e => Or.inr (by rw [e]; exact HB10.out.2.2.2))), HB10.out.2.1⟩)
      have HW := Lib.hid hw12
      clear hk12 hb12 W12 hw12 W11 hLA hge hb11
      go_wp2
      rw [← HW.out]
      refine bodyPost_ret (v := .tuple #[.pointer (some ⟨Q, 0, none⟩), .slice LA rl.length lcap, .int .i64 0]) (by simp [results, Tryz.results55, go_sem]) rfl ?_
      exact HOK.out _ _ HFIN.out
  · have hcb : (c1 == 0) = false := beq_eq_false_iff_ne.2 hc1
    have hcn : (c1 != 0) = true := by rw [bne_iff_ne]; exact hc1
    have HOP2 := Lib.hid (HOP.out hc1)
    have HC := Lib.hid hc1
    clear HOP HOQ
    go_wp2
    refine bodyPost_ret (v := .tuple #[.pointer none, .slice none 0 0, .int .i64 c1]) (by simp [results, Tryz.results55, go_sem]) rfl ?_
    exact HP1.out _ _ (by rw [HOP2.out]; exact HC.out) (by rw [HOP2.out]; exact ⟨rfl, H3.out.1⟩)
end Go.Proofs.YtbpgfhcecanikaaGreat
