/- Merged: MkU, MkV, PfU0, PfV0, PfA, PfR, PfG, PfB. Contracts of merkle's digests, Climb. Condition: the constants lie where they lie; sizes. Contract of merkle.Climb. Condition: the constants lie where they lie; sizes. Mathematics of leaves: what they climb to; made leaves. No condition. Mathematics of proofs: what they prove; made proofs. No condition. Leaves of proofs in memory. No condition. A reader of which is known what is left, if a condition holds; proof.get. Condition: lengths. Contract of proof.get. Condition: lengths. Contracts of proof.mayBe, proof.Bytes. Condition: sizes. -/
import Derived.WalkSpells
import Derived.Outline
import Derived.Laws.EntriesVeiled
import Derived.Test.YtbjchfcoacmaaaaGreatDoorStRPairsQ
import Derived.Test.YtbjchfcoacmaaaaGreatDoorNtValQ
import Derived.Test.YtbjchfcoacmaaaaGreatDoorCaMQ
import Derived.Test.YtbjchfcoacmaaaaGreatDoorCommonQ
import Derived.Test.YtbjchfcoacmaaaaGreatDoorWrLQ
import Derived.Test.YtbjchfcoacmaaaaGreatDoorHeldLastQ
namespace Go.Proofs.YtbjchfcoacmaaaaGreatDoor
open Go.RowKit
set_option linter.unusedVariables false
def All32 (ps : List ByteArray) : Prop := ∀ s ∈ ps, s.size = 32
instance (ps : List ByteArray) : Decidable (All32 ps) := by unfold All32; infer_instance
set_option maxRecDepth 100000 in
set_option maxHeartbeats 1000000 in
theorem mk_digests (A : Option Addr) (cap : Nat) (ps : List ByteArray) (w : World) (hA : PartsAt w A ps) (hn : ps.length ≤ 1000) :
    Calls Tryz.prog 144 #[.slice A ps.length cap] w fun x w' => x = .returned (.bool (decide (All32 ps))) ∧ w = w' := by
  have HA := Lib.hid hA
  have HN := Lib.hid hn
  clear hA hn
  go_enter Tryz.func144, Tryz.ntmps144
  go_wp2
  go_loop [7] (fun i => ∃ j : Nat, j ≤ ps.length ∧ i = .int .i64 (j : Int) ∧ (∀ i (hi : i < ps.length), i < j → ps[i].size = 32)) (fun i => ps.length - (intOf i).toNat)
  case atStart => exact ⟨0, by omega, rfl, fun i _ hi => absurd hi (Nat.not_lt_zero _)⟩
  case round =>
    obtain ⟨j, hj, rfl, hup⟩ := hrel
    have HUP := Lib.hid hup
    have hn' := HN.out
    by_cases hlt : j < ps.length
    · obtain ⟨g, o, rfl, hg, c0⟩ := HA.out j hlt
      obtain ⟨s, hs⟩ : ∃ s, s = ps[j] := ⟨_, rfl⟩
      rw [← hs] at c0
      have HSJ := Lib.hid hs
      have HLT := Lib.hid hlt
      have hi0 : (j : Int) < (ps.length : Int) := by omega
      clear hup hg hs
      by_cases h32 : s.size = 32
      · have q1 : ((s.size : Int) != 32) = false := by rw [bne_eq_false_iff_eq]; omega
        have HG : Hid ((ps[j]'HLT.out).size = 32) := Lib.hid (by rw [← HSJ.out]; exact h32)
        clear h32
        go_wp2
        go_round
        case rel =>
          refine ⟨j + 1, HLT.out, by go_num, fun i hi h => ?_⟩
          rcases Nat.lt_or_ge i j with h' | h'
          · exact HUP.out i hi h'
          · have : i = j := by omega
            subst this
            exact HG.out
        case measure => have := HLT.out; simp [intOf]; omega
      · have q1 : ((s.size : Int) != 32) = true := by rw [bne_iff_ne]; omega
        have HF : Hid (decide (All32 ps) = false) := Lib.hid (decide_eq_false (fun h => h32 (h s (by rw [HSJ.out]; exact List.getElem_mem _))))
        clear h32
        go_wp2
        go_ret
        exact ⟨by rw [HF.out]; rfl, rfl⟩
    · obtain rfl : j = ps.length := by omega
      have HF : Hid (decide (All32 ps) = true) := Lib.hid (decide_eq_true (fun s hs => by
        obtain ⟨i, hi, rfl⟩ := List.getElem_of_mem hs
        exact HUP.out i hi hi))
      clear HUP hup
      go_wp2
      go_ret
      exact ⟨by rw [HF.out]; rfl, rfl⟩
/-- the leaf's box and the closure's -/
structure UpAt (w : World) (X U : Nat) (idx cnt : Int) (p : PairV) (v : Value) : Prop where
  bx : w.heap[X]? = some (.cells #[.int .i64 idx, .int .i64 cnt, .string p.1, .string p.2, v] 108 (0, 0))
  bu : w.cell? ⟨U, 0, none⟩ = some (.func (.func 145) #[] #[.pointer (some ⟨X, 0, none⟩), .pointer (some ⟨U, 0, none⟩)])
  lt : U < w.heap.size
theorem UpAt.below {w w' : World} {X U : Nat} {idx cnt : Int} {p : PairV} {v : Value} (h : UpAt w X U idx cnt p v) (hb : Below w.heap.size w w') : UpAt w' X U idx cnt p v :=
  ⟨Kq.below_blk hb h.bx (Kq.blk_lt h.bx), (hb.cell (p := ⟨U, 0, none⟩) h.lt).trans h.bu, Nat.lt_of_lt_of_le h.lt hb.size⟩
theorem PartsAt.take {w : World} {A : Option Addr} {l : List ByteArray} (h : PartsAt w A l) (k : Nat) : PartsAt w A (l.take k) := fun j hj => by
  rw [List.length_take] at hj
  obtain ⟨g, o, rfl, h1, h2⟩ := h j (by omega)
  exact ⟨g, o, rfl, h1, by rw [List.getElem_take]; exact h2⟩
def UpOk (p : PairV) (n : Nat) : Prop := ∀ (i c : Nat) (ps : List ByteArray) (A : Option Addr) (cap X U : Nat) (idx cnt : Int) (pv : Value) (w : World), c ≤ n → 1 ≤ c → c ≤ 4096 → i < c → p.1.size + p.2.size ≤ 90000 → ps.length ≤ 1000 → All32 ps → UpAt w X U idx cnt p pv → PartsAt w A ps → ps.length ≤ cap → LaidOk w →
  Calls Tryz.prog 145 #[.int .i64 (i : Int), .int .i64 (c : Int), .slice A ps.length cap, .pointer (some ⟨X, 0, none⟩), .pointer (some ⟨U, 0, none⟩)] w fun x w' => x = .returned (.tuple #[.string (up p i c ps).1, .bool (up p i c ps).2]) ∧ Below w.heap.size w w'
set_option maxRecDepth 100000 in
set_option maxHeartbeats 1000000 in
theorem up_walk_one (p : PairV) (i : Nat) (ps : List ByteArray) (A : Option Addr) (cap X U : Nat) (idx cnt : Int) (pv : Value) (w : World) (hs : p.1.size + p.2.size ≤ 90000) (hn : ps.length ≤ 1000) (hU : UpAt w X U idx cnt p pv) (hL : LaidOk w) :
    Calls Tryz.prog 145 #[.int .i64 (i : Int), .int .i64 1, .slice A ps.length cap, .pointer (some ⟨X, 0, none⟩), .pointer (some ⟨U, 0, none⟩)] w fun x w' => x = .returned (.tuple #[.string (up p i 1 ps).1, .bool (up p i 1 ps).2]) ∧ Below w.heap.size w w' := by
  have HR : Hid ((up p i 1 ps).1 = dgT (leafT p) ∧ (up p i 1 ps).2 = decide (ps.length = 0)) := Lib.hid ⟨rfl, rfl⟩
  rw [HR.out.1, HR.out.2]
  have HX := Lib.hid (mk_leaf p w hL hs)
  have c2 := Kq.blk_cell hU.bx 2
  have c3 := Kq.blk_cell hU.bx 3
  simp only [List.getElem?_toArray, List.getElem?_cons_zero, List.getElem?_cons_succ] at c2 c3
  obtain ⟨k, v⟩ := p
  simp only at c2 c3 HX
  generalize dgT (leafT (k, v)) = D at *
  clear hs hU hL HR
  by_cases h0 : ps.length = 0
  · have HDEC : Hid (decide (ps.length = 0) = true) := Lib.hid (decide_eq_true h0)
    rw [HDEC.out]
    have hm1 : IntKind.i64.wrap ((ps.length : Int) - 1) = -1 := by rw [IntWalk.i64_in _ (by omega)]; omega
    have hm2 : wrap64 ((ps.length : Int) - 1) = -1 := by rw [IntWalk.wrap64_in _ (by omega)]; omega
    have hm4 : wrap64 (-1) = -1 := by rw [IntWalk.wrap64_in _ (by omega)]
    have hm3 : (ps.length : Int) - 1 = -1 := by omega
    clear h0 hn
    go_enter Tryz.func145, Tryz.ntmps145
    go_wp2_with fail
    refine HX.out.mono ?_
    rintro x w2 ⟨rfl, b2⟩
    have HB := Lib.hid b2
    clear b2
    go_wp2
    go_ret2
    exact ⟨rfl, HB.out⟩
  · have HDEC : Hid (decide (ps.length = 0) = false) := Lib.hid (decide_eq_false h0)
    rw [HDEC.out]
    obtain ⟨m, hm⟩ : ∃ m, m = ps.length - 1 := ⟨_, rfl⟩
    have hm1 : IntKind.i64.wrap ((ps.length : Int) - 1) = (m : Int) := by rw [IntWalk.i64_in _ (by omega)]; omega
    have hm2 : wrap64 ((ps.length : Int) - 1) = (m : Int) := by rw [IntWalk.wrap64_in _ (by omega)]; omega
    have hm3 : (ps.length : Int) - 1 = (m : Int) := by omega
    have d1 : decide ((m : Int) < 0) = false := decide_eq_false (by omega)
    have hmB : m ≤ 1000 := by omega
    clear h0 hn hm
    go_enter Tryz.func145, Tryz.ntmps145
    go_wp2_with fail
    refine HX.out.mono ?_
    rintro x w2 ⟨rfl, b2⟩
    have HB := Lib.hid b2
    clear b2
    go_wp2
    go_ret2
    exact ⟨rfl, HB.out⟩
set_option maxRecDepth 100000 in
set_option maxHeartbeats 1000000 in
theorem up_walk_none (p : PairV) (i c : Nat) (ps : List ByteArray) (A : Option Addr) (cap X U : Nat) (w : World) (h2 : 2 ≤ c) (hc : c ≤ 4096) (h0 : ps.length = 0) :
    Calls Tryz.prog 145 #[.int .i64 (i : Int), .int .i64 (c : Int), .slice A ps.length cap, .pointer (some ⟨X, 0, none⟩), .pointer (some ⟨U, 0, none⟩)] w fun x w' => x = .returned (.tuple #[.string (up p i c ps).1, .bool (up p i c ps).2]) ∧ Below w.heap.size w w' := by
  rw [up_none p i c ps h2 h0]
  have hm1 : IntKind.i64.wrap ((ps.length : Int) - 1) = -1 := by rw [IntWalk.i64_in _ (by omega)]; omega
  have hm2 : wrap64 ((ps.length : Int) - 1) = -1 := by rw [IntWalk.wrap64_in _ (by omega)]; omega
  have hm4 : wrap64 (-1) = -1 := by rw [IntWalk.wrap64_in _ (by omega)]
  have hm3 : (ps.length : Int) - 1 = -1 := by omega
  have e1 : ((c : Int) == 1) = false := by rw [beq_eq_false_iff_ne]; omega
  clear h0
  go_enter Tryz.func145, Tryz.ntmps145
  go_wp2
  go_ret2
  exact ⟨rfl, Below.refl _ _⟩
set_option maxRecDepth 100000 in
set_option maxHeartbeats 2000000 in
theorem up_walk_left (p : PairV) (n : Nat) (ih : UpOk p n) (i c : Nat) (ps : List ByteArray) (A : Option Addr) (cap X U : Nat) (idx cnt : Int) (pv : Value) (w : World) (hcn : c ≤ n + 1) (h2 : 2 ≤ c) (hc : c ≤ 4096) (hi : i < c) (hs : p.1.size + p.2.size ≤ 90000) (hn : ps.length ≤ 1000) (h32 : All32 ps) (hU : UpAt w X U idx cnt p pv) (hA : PartsAt w A ps) (hcap : ps.length ≤ cap) (hL : LaidOk w) (h0 : ps.length ≠ 0) (hik : i < leftN c) :
    Calls Tryz.prog 145 #[.int .i64 (i : Int), .int .i64 (c : Int), .slice A ps.length cap, .pointer (some ⟨X, 0, none⟩), .pointer (some ⟨U, 0, none⟩)] w fun x w' => x = .returned (.tuple #[.string (up p i c ps).1, .bool (up p i c ps).2]) ∧ Below w.heap.size w w' := by
  rw [(up_many p i c ps h2 h0).1 hik]
  obtain ⟨k, hk⟩ : ∃ k, k = leftN c := ⟨_, rfl⟩
  have hk1 : 1 ≤ k := by rw [hk]; exact leftN_pos _
  have hk2 : k < c := by rw [hk]; exact leftN_lt _ h2
  have HL := Lib.hid (fun w => mk_left c w h2 (by omega))
  rw [← hk] at HL hik ⊢
  clear hk
  obtain ⟨m, hm⟩ : ∃ m, m = ps.length - 1 := ⟨_, rfl⟩
  rw [← hm]
  have hmt : (ps.take m).length = m := by rw [List.length_take]; omega
  have hg : ps.getD m ⟨#[]⟩ = ps[m]'(by omega) := by rw [List.getD_eq_getElem?_getD, List.getElem?_eq_getElem (by omega)]; rfl
  obtain ⟨b, off, rfl, hlt, -⟩ := hA 0 (by omega)
  obtain ⟨b', off', he, hlt', cm⟩ := hA m (by omega)
  simp only [Option.some.injEq, Addr.mk.injEq] at he
  obtain ⟨rfl, rfl, -⟩ := he
  rw [← hg] at cm
  have hz : (ps.getD m ⟨#[]⟩).size = 32 := by rw [hg]; exact h32 _ (List.getElem_mem _)
  have HCM := Lib.hid (show ∀ w', Below w.heap.size w w' → w'.cell? ⟨b, off + m, none⟩ = some (.string (ps.getD m ⟨#[]⟩)) from fun w' hb => (hb.cell (p := ⟨b, off + m, none⟩) hlt).trans cm)
  have HIH : Hid (∀ w' cap', UpAt w' X U idx cnt p pv → PartsAt w' (some ⟨b, off, none⟩) ps → m ≤ cap' → LaidOk w' → Calls Tryz.prog 145 #[.int .i64 (i : Int), .int .i64 (k : Int), .slice (some ⟨b, off, none⟩) m cap', .pointer (some ⟨X, 0, none⟩), .pointer (some ⟨U, 0, none⟩)] w' fun x w'' => x = .returned (.tuple #[.string (up p i k (ps.take m)).1, .bool (up p i k (ps.take m)).2]) ∧ Below w'.heap.size w' w'') := Lib.hid (fun w' cap' h1 h2' h3 h4 => by
    have := ih i k (ps.take m) (some ⟨b, off, none⟩) cap' X U idx cnt pv w' (by omega) (by omega) (by omega) hik hs (by omega) (fun s hs => h32 s (List.mem_of_mem_take hs)) h1 (h2'.take m) (by omega) h4
    rwa [hmt] at this)
  have hsz := (up_size p k i k (ps.take m) (Nat.le_refl _) hk1).1
  obtain ⟨R, hR⟩ : ∃ R, R = up p i k (ps.take m) := ⟨_, rfl⟩
  rw [← hR] at HIH hsz
  rw [← hR]
  clear hR
  obtain ⟨D, ok⟩ := R
  simp only at HIH hsz ⊢
  have HSZ := Lib.hid hsz
  have HZ := Lib.hid hz
  have hm1 : IntKind.i64.wrap ((ps.length : Int) - 1) = (m : Int) := by rw [IntWalk.i64_in _ (by omega)]; omega
  have hm2 : wrap64 ((ps.length : Int) - 1) = (m : Int) := by rw [IntWalk.wrap64_in _ (by omega)]; omega
  have hm3 : (ps.length : Int) - 1 = (m : Int) := by omega
  have d1 : decide ((m : Int) < 0) = false := decide_eq_false (by omega)
  have e1 : ((c : Int) == 1) = false := by rw [beq_eq_false_iff_ne]; omega
  have d3 : decide ((i : Int) < (k : Int)) = true := decide_eq_true (by omega)
  have d4 : decide (i < k) = true := decide_eq_true hik
  have hc1 : (m : Int) ≤ (cap : Int) := by omega
  have hc3 : (m : Int) < (ps.length : Int) := by omega
  have HMC := Lib.hid (show m ≤ cap by omega)
  have H := Lib.hid (And.intro hU (And.intro hA hL))
  generalize ps.getD m ⟨#[]⟩ = E at *
  clear hsz hz h32 hU hA hcap hL h0 hik hmt hg hlt hlt' cm hm hs hi hcn
  go_enter Tryz.func145, Tryz.ntmps145
  go_wp2_with fail
  refine (HL.out w).mono ?_
  rintro x w1 ⟨rfl, rfl⟩
  go_wp2
  have HW : Hid (UpAt w.drew X U idx cnt p pv ∧ PartsAt w.drew (some ⟨b, off, none⟩) ps ∧ LaidOk w.drew ∧ Below w.heap.size w w.drew) := Lib.hid ⟨H.out.1.below (Below.refl _ _).drew, H.out.2.1.below (Below.refl _ _).drew, H.out.2.2.later (Below.refl _ _).drew, (Below.refl _ _).drew⟩
  refine wp_region_any (by kernel_rfl) ?_
  (try (change wpAny _ _ _ _ _ _ _ (World.drew _)))
  generalize w.drew = z0 at *
  have cu := HW.out.1.bu
  refine wpAny_take (i := 1) (v := ?_) rfl (by kernel_rfl) (by kernel_rfl) (by kernel_rfl) (fun _ _ _ h => h) (Or.inl ⟨by kernel_rfl, ?_⟩) ?_
  rotate_left
  · intro w; go_simp; with_reducible rfl
  refine wpAny_take (i := 2) (v := ?_) rfl (by kernel_rfl) (by kernel_rfl) (by kernel_rfl) (fun _ _ _ h => h) (Or.inl ⟨by kernel_rfl, ?_⟩) ?_
  rotate_left
  · intro w; go_simp; with_reducible rfl
  refine wpAny_take (i := 3) (v := ?_) rfl (by kernel_rfl) (by kernel_rfl) (by kernel_rfl) (fun _ _ _ h => h) (Or.inl ⟨by kernel_rfl, ?_⟩) ?_
  rotate_left
  · intro w; go_simp; with_reducible rfl
  refine wpAny_take (i := 4) (v := ?_) rfl (by kernel_rfl) (by kernel_rfl) (by kernel_rfl) (fun _ _ _ h => h) (Or.inl ⟨by kernel_rfl, ?_⟩) ?_
  rotate_left
  · intro w; go_simp; with_reducible rfl
  refine wpAny_take (i := 5) (v := ?_) rfl (by kernel_rfl) (by kernel_rfl) (by kernel_rfl) (fun _ _ _ h => h) (Or.inl ⟨by kernel_rfl, ?_⟩) ?_
  rotate_left
  · intro w; go_simp; with_reducible rfl
  refine wpAny_ready (rs := [0]) (by kernel_rfl) (by simp) ?_
  refine AllReady.cons rfl (fun K hK => ?_) AllReady.nil
  go_simp
  (first | (refine hK _ _ ?_; clear hK K) | skip)
  refine wpAny_ready (rs := [6]) (by kernel_rfl) (by simp) ?_
  refine AllReady.cons rfl (fun K hK => ?_) AllReady.nil
  go_simp
  refine (HIH.out _ _ HW.out.1 HW.out.2.1 HMC.out HW.out.2.2.1).mono ?_
  rintro x z1 ⟨rfl, hb1⟩
  have HW1 : Hid (Below w.heap.size w z1 ∧ LaidOk z1) := Lib.hid ⟨HW.out.2.2.2.trans (hb1.mono HW.out.2.2.2.size), HW.out.2.2.1.later hb1⟩
  clear hb1 HW cu
  (first | (refine hK _ _ ?_; clear hK K) | skip)
  refine wpAny_take (i := 7) (v := ?_) rfl (by kernel_rfl) (by kernel_rfl) (by kernel_rfl) (fun _ _ _ h => h) (Or.inl ⟨by kernel_rfl, ?_⟩) ?_
  rotate_left
  · intro w; go_simp; with_reducible rfl
  refine wpAny_take (i := 8) (v := ?_) rfl (by kernel_rfl) (by kernel_rfl) (by kernel_rfl) (fun _ _ _ h => h) (Or.inl ⟨by kernel_rfl, ?_⟩) ?_
  rotate_left
  · intro w; go_simp; with_reducible rfl
  refine wpAny_take (i := 9) (v := ?_) rfl (by kernel_rfl) (by kernel_rfl) (by kernel_rfl) (fun _ _ _ h => h) (Or.inl ⟨by kernel_rfl, ?_⟩) ?_
  rotate_left
  · intro w; go_simp; with_reducible rfl
  refine wpAny_take (i := 10) (v := ?_) rfl (by kernel_rfl) (by kernel_rfl) (by kernel_rfl) (fun _ _ _ h => h) (Or.inl ⟨by kernel_rfl, ?_⟩) ?_
  rotate_left
  · intro w; go_simp; with_reducible rfl
  refine wpAny_take (i := 11) (v := ?_) rfl (by kernel_rfl) (by kernel_rfl) (by kernel_rfl) (fun _ _ _ h => h) (Or.inl ⟨by kernel_rfl, ?_⟩) ?_
  rotate_left
  · intro w; go_simp; with_reducible rfl
  refine wpAny_done (by kernel_rfl) ?_ _
  have cm := HCM.out z1 HW1.out.1
  go_wp2_with fail
  refine (mk_node D E z1 HW1.out.2 (by have h1 := HSZ.out; have h2 := HZ.out; omega)).mono ?_
  rintro x z2 ⟨rfl, hb2⟩
  have HW2 : Hid (Below w.heap.size w z2) := Lib.hid (HW1.out.1.trans (hb2.mono HW1.out.1.size))
  clear hb2 HW1
  go_wp2
  go_ret2
  exact ⟨rfl, HW2.out⟩
set_option maxRecDepth 100000 in
set_option maxHeartbeats 2000000 in
theorem up_walk_right (p : PairV) (n : Nat) (ih : UpOk p n) (i c : Nat) (ps : List ByteArray) (A : Option Addr) (cap X U : Nat) (idx cnt : Int) (pv : Value) (w : World) (hcn : c ≤ n + 1) (h2 : 2 ≤ c) (hc : c ≤ 4096) (hi : i < c) (hs : p.1.size + p.2.size ≤ 90000) (hn : ps.length ≤ 1000) (h32 : All32 ps) (hU : UpAt w X U idx cnt p pv) (hA : PartsAt w A ps) (hcap : ps.length ≤ cap) (hL : LaidOk w) (h0 : ps.length ≠ 0) (hik : ¬ i < leftN c) :
    Calls Tryz.prog 145 #[.int .i64 (i : Int), .int .i64 (c : Int), .slice A ps.length cap, .pointer (some ⟨X, 0, none⟩), .pointer (some ⟨U, 0, none⟩)] w fun x w' => x = .returned (.tuple #[.string (up p i c ps).1, .bool (up p i c ps).2]) ∧ Below w.heap.size w w' := by
  rw [(up_many p i c ps h2 h0).2 hik]
  obtain ⟨k, hk⟩ : ∃ k, k = leftN c := ⟨_, rfl⟩
  have hk1 : 1 ≤ k := by rw [hk]; exact leftN_pos _
  have hk2 : k < c := by rw [hk]; exact leftN_lt _ h2
  have HL := Lib.hid (fun w => mk_left c w h2 (by omega))
  rw [← hk] at HL hik ⊢
  clear hk
  obtain ⟨m, hm⟩ : ∃ m, m = ps.length - 1 := ⟨_, rfl⟩
  rw [← hm]
  have hmt : (ps.take m).length = m := by rw [List.length_take]; omega
  have hg : ps.getD m ⟨#[]⟩ = ps[m]'(by omega) := by rw [List.getD_eq_getElem?_getD, List.getElem?_eq_getElem (by omega)]; rfl
  obtain ⟨b, off, rfl, hlt, -⟩ := hA 0 (by omega)
  obtain ⟨b', off', he, hlt', cm⟩ := hA m (by omega)
  simp only [Option.some.injEq, Addr.mk.injEq] at he
  obtain ⟨rfl, rfl, -⟩ := he
  rw [← hg] at cm
  have hz : (ps.getD m ⟨#[]⟩).size = 32 := by rw [hg]; exact h32 _ (List.getElem_mem _)
  have HCM := Lib.hid (show ∀ w', Below w.heap.size w w' → w'.cell? ⟨b, off + m, none⟩ = some (.string (ps.getD m ⟨#[]⟩)) from fun w' hb => (hb.cell (p := ⟨b, off + m, none⟩) hlt).trans cm)
  obtain ⟨i2, hi2⟩ : ∃ i2, i2 = i - k := ⟨_, rfl⟩
  obtain ⟨c2, hc2⟩ : ∃ c2, c2 = c - k := ⟨_, rfl⟩
  rw [← hi2, ← hc2]
  have hw1 : IntKind.i64.wrap ((i : Int) - (k : Int)) = (i2 : Int) := by rw [IntWalk.i64_in _ (by omega)]; omega
  have hw2 : IntKind.i64.wrap ((c : Int) - (k : Int)) = (c2 : Int) := by rw [IntWalk.i64_in _ (by omega)]; omega
  have HIH : Hid (∀ w' cap', UpAt w' X U idx cnt p pv → PartsAt w' (some ⟨b, off, none⟩) ps → m ≤ cap' → LaidOk w' → Calls Tryz.prog 145 #[.int .i64 (i2 : Int), .int .i64 (c2 : Int), .slice (some ⟨b, off, none⟩) m cap', .pointer (some ⟨X, 0, none⟩), .pointer (some ⟨U, 0, none⟩)] w' fun x w'' => x = .returned (.tuple #[.string (up p i2 c2 (ps.take m)).1, .bool (up p i2 c2 (ps.take m)).2]) ∧ Below w'.heap.size w' w'') := Lib.hid (fun w' cap' h1 h2' h3 h4 => by
    have := ih i2 c2 (ps.take m) (some ⟨b, off, none⟩) cap' X U idx cnt pv w' (by omega) (by omega) (by omega) (by omega) hs (by omega) (fun s hs => h32 s (List.mem_of_mem_take hs)) h1 (h2'.take m) (by omega) h4
    rwa [hmt] at this)
  have hsz := (up_size p c2 i2 c2 (ps.take m) (Nat.le_refl _) (by omega)).1
  obtain ⟨R, hR⟩ : ∃ R, R = up p i2 c2 (ps.take m) := ⟨_, rfl⟩
  rw [← hR] at HIH hsz
  rw [← hR]
  clear hR
  obtain ⟨D, ok⟩ := R
  simp only at HIH hsz ⊢
  have HSZ := Lib.hid hsz
  have HZ := Lib.hid hz
  have hm1 : IntKind.i64.wrap ((ps.length : Int) - 1) = (m : Int) := by rw [IntWalk.i64_in _ (by omega)]; omega
  have hm2 : wrap64 ((ps.length : Int) - 1) = (m : Int) := by rw [IntWalk.wrap64_in _ (by omega)]; omega
  have hm3 : (ps.length : Int) - 1 = (m : Int) := by omega
  have d1 : decide ((m : Int) < 0) = false := decide_eq_false (by omega)
  have e1 : ((c : Int) == 1) = false := by rw [beq_eq_false_iff_ne]; omega
  have d3 : decide ((i : Int) < (k : Int)) = false := decide_eq_false (by omega)
  have d4 : decide (i < k) = false := decide_eq_false hik
  have hc1 : (m : Int) ≤ (cap : Int) := by omega
  have hc3 : (m : Int) < (ps.length : Int) := by omega
  have HMC := Lib.hid (show m ≤ cap by omega)
  have H := Lib.hid (And.intro hU (And.intro hA hL))
  generalize ps.getD m ⟨#[]⟩ = E at *
  clear hsz hz h32 hU hA hcap hL h0 hik hmt hg hlt hlt' cm hm hs hi hcn hi2 hc2
  go_enter Tryz.func145, Tryz.ntmps145
  go_wp2_with fail
  refine (HL.out w).mono ?_
  rintro x w1 ⟨rfl, rfl⟩
  go_wp2
  have HW : Hid (UpAt w.drew X U idx cnt p pv ∧ PartsAt w.drew (some ⟨b, off, none⟩) ps ∧ LaidOk w.drew ∧ Below w.heap.size w w.drew) := Lib.hid ⟨H.out.1.below (Below.refl _ _).drew, H.out.2.1.below (Below.refl _ _).drew, H.out.2.2.later (Below.refl _ _).drew, (Below.refl _ _).drew⟩
  refine wp_region_any (by kernel_rfl) ?_
  (try (change wpAny _ _ _ _ _ _ _ (World.drew _)))
  generalize w.drew = z0 at *
  have cu := HW.out.1.bu
  refine wpAny_take (i := 1) (v := ?_) rfl (by kernel_rfl) (by kernel_rfl) (by kernel_rfl) (fun _ _ _ h => h) (Or.inl ⟨by kernel_rfl, ?_⟩) ?_
  rotate_left
  · intro w; go_simp; with_reducible rfl
  refine wpAny_take (i := 2) (v := ?_) rfl (by kernel_rfl) (by kernel_rfl) (by kernel_rfl) (fun _ _ _ h => h) (Or.inl ⟨by kernel_rfl, ?_⟩) ?_
  rotate_left
  · intro w; go_simp; with_reducible rfl
  refine wpAny_take (i := 3) (v := ?_) rfl (by kernel_rfl) (by kernel_rfl) (by kernel_rfl) (fun _ _ _ h => h) (Or.inl ⟨by kernel_rfl, ?_⟩) ?_
  rotate_left
  · intro w; go_simp; with_reducible rfl
  refine wpAny_take (i := 4) (v := ?_) rfl (by kernel_rfl) (by kernel_rfl) (by kernel_rfl) (fun _ _ _ h => h) (Or.inl ⟨by kernel_rfl, ?_⟩) ?_
  rotate_left
  · intro w; go_simp; with_reducible rfl
  refine wpAny_take (i := 5) (v := ?_) rfl (by kernel_rfl) (by kernel_rfl) (by kernel_rfl) (fun _ _ _ h => h) (Or.inl ⟨by kernel_rfl, ?_⟩) ?_
  rotate_left
  · intro w; go_simp; with_reducible rfl
  refine wpAny_take (i := 6) (v := ?_) rfl (by kernel_rfl) (by kernel_rfl) (by kernel_rfl) (fun _ _ _ h => h) (Or.inl ⟨by kernel_rfl, ?_⟩) ?_
  rotate_left
  · intro w; go_simp; with_reducible rfl
  refine wpAny_take (i := 7) (v := ?_) rfl (by kernel_rfl) (by kernel_rfl) (by kernel_rfl) (fun _ _ _ h => h) (Or.inl ⟨by kernel_rfl, ?_⟩) ?_
  rotate_left
  · intro w; go_simp; with_reducible rfl
  refine wpAny_take (i := 8) (v := ?_) rfl (by kernel_rfl) (by kernel_rfl) (by kernel_rfl) (fun _ _ _ h => h) (Or.inl ⟨by kernel_rfl, ?_⟩) ?_
  rotate_left
  · intro w; go_simp; with_reducible rfl
  refine wpAny_take (i := 9) (v := ?_) rfl (by kernel_rfl) (by kernel_rfl) (by kernel_rfl) (fun _ _ _ h => h) (Or.inl ⟨by kernel_rfl, ?_⟩) ?_
  rotate_left
  · intro w; go_simp; with_reducible rfl
  refine wpAny_ready (rs := [0]) (by kernel_rfl) (by simp) ?_
  refine AllReady.cons rfl (fun K hK => ?_) AllReady.nil
  go_simp
  (first | (refine hK _ _ ?_; clear hK K) | skip)
  refine wpAny_ready (rs := [10]) (by kernel_rfl) (by simp) ?_
  refine AllReady.cons rfl (fun K hK => ?_) AllReady.nil
  go_simp
  refine (HIH.out _ _ HW.out.1 HW.out.2.1 HMC.out HW.out.2.2.1).mono ?_
  rintro x z1 ⟨rfl, hb1⟩
  have HW1 : Hid (Below w.heap.size w z1 ∧ LaidOk z1) := Lib.hid ⟨HW.out.2.2.2.trans (hb1.mono HW.out.2.2.2.size), HW.out.2.2.1.later hb1⟩
  clear hb1 HW cu
  (first | (refine hK _ _ ?_; clear hK K) | skip)
  refine wpAny_take (i := 11) (v := ?_) rfl (by kernel_rfl) (by kernel_rfl) (by kernel_rfl) (fun _ _ _ h => h) (Or.inl ⟨by kernel_rfl, ?_⟩) ?_
  rotate_left
  · intro w; go_simp; with_reducible rfl
  refine wpAny_take (i := 12) (v := ?_) rfl (by kernel_rfl) (by kernel_rfl) (by kernel_rfl) (fun _ _ _ h => h) (Or.inl ⟨by kernel_rfl, ?_⟩) ?_
  rotate_left
  · intro w; go_simp; with_reducible rfl
  refine wpAny_take (i := 13) (v := ?_) rfl (by kernel_rfl) (by kernel_rfl) (by kernel_rfl) (fun _ _ _ h => h) (Or.inl ⟨by kernel_rfl, ?_⟩) ?_
  rotate_left
  · intro w; go_simp; with_reducible rfl
  refine wpAny_take (i := 14) (v := ?_) rfl (by kernel_rfl) (by kernel_rfl) (by kernel_rfl) (fun _ _ _ h => h) (Or.inl ⟨by kernel_rfl, ?_⟩) ?_
  rotate_left
  · intro w; go_simp; with_reducible rfl
  refine wpAny_take (i := 15) (v := ?_) rfl (by kernel_rfl) (by kernel_rfl) (by kernel_rfl) (fun _ _ _ h => h) (Or.inl ⟨by kernel_rfl, ?_⟩) ?_
  rotate_left
  · intro w; go_simp; with_reducible rfl
  refine wpAny_done (by kernel_rfl) ?_ _
  have cm := HCM.out z1 HW1.out.1
  go_wp2_with fail
  refine (mk_node E D z1 HW1.out.2 (by have h1 := HSZ.out; have h2 := HZ.out; omega)).mono ?_
  rintro x z2 ⟨rfl, hb2⟩
  have HW2 : Hid (Below w.heap.size w z2) := Lib.hid (HW1.out.1.trans (hb2.mono HW1.out.1.size))
  clear hb2 HW1
  go_wp2
  go_ret2
  exact ⟨rfl, HW2.out⟩
theorem up_walk (p : PairV) : ∀ n : Nat, UpOk p n := by
  intro n
  induction n with
  | zero => exact fun i c ps A cap X U idx cnt pv w h1 h2 => absurd h2 (by omega)
  | succ n ih =>
    intro i c ps A cap X U idx cnt pv w hcn h1 hc hi hs hn h32 hU hA hcap hL
    by_cases h2 : c = 1
    · subst h2
      exact up_walk_one p i ps A cap X U idx cnt pv w hs hn hU hL
    by_cases h0 : ps.length = 0
    · exact up_walk_none p i c ps A cap X U w (by omega) hc h0
    by_cases hik : i < leftN c
    · exact up_walk_left p n ih i c ps A cap X U idx cnt pv w hcn (by omega) hc hi hs hn h32 hU hA hcap hL h0 hik
    · exact up_walk_right p n ih i c ps A cap X U idx cnt pv w hcn (by omega) hc hi hs hn h32 hU hA hcap hL h0 hik
end Go.Proofs.YtbjchfcoacmaaaaGreatDoor
namespace Go.Proofs.YtbjchfcoacmaaaaGreatDoor
open Go.RowKit
set_option linter.unusedVariables false
def CliOk (idx cnt : Int) (ps : List ByteArray) : Prop := 1 ≤ cnt ∧ cnt ≤ 4096 ∧ 0 ≤ idx ∧ idx < cnt ∧ All32 ps
instance (idx cnt : Int) (ps : List ByteArray) : Decidable (CliOk idx cnt ps) := by unfold CliOk; infer_instance
/-- to what a leaf climbs -/
def climbV (idx cnt : Int) (p : PairV) (ps : List ByteArray) : ByteArray × Bool :=
  if CliOk idx cnt ps ∧ (up p idx.toNat cnt.toNat ps).2 = true then (dgT (topT cnt.toNat (up p idx.toNat cnt.toNat ps).1), true) else (⟨#[]⟩, false)
def ClPost (w : World) (r : ByteArray × Bool) (x : Ending) (w' : World) : Prop := x = .returned (.tuple #[.string r.1, .bool r.2]) ∧ Below w.heap.size w w'
set_option maxRecDepth 100000 in
set_option maxHeartbeats 2000000 in
theorem climb_bad (idx cnt : Int) (p : PairV) (ps : List ByteArray) (A : Option Addr) (cap : Nat) (w : World) (hA : PartsAt w A ps) (hn : ps.length ≤ 1000) (hno : ¬ CliOk idx cnt ps) :
    Calls Tryz.prog 101 #[.agg #[.int .i64 idx, .int .i64 cnt, .string p.1, .string p.2, .slice A ps.length cap]] w (ClPost w (climbV idx cnt p ps)) := by
  have HV : Hid (climbV idx cnt p ps = (⟨#[]⟩, false)) := Lib.hid (if_neg (fun h => hno h.1))
  rw [HV.out]
  obtain ⟨k, v⟩ := p
  have HB : Hid (∀ x, x = .returned (.tuple #[.string ⟨#[]⟩, .bool false]) → ClPost w (⟨#[]⟩, false) x (w.alloc (.cells #[.int .i64 idx, .int .i64 cnt, .string k, .string v, .slice A ps.length cap] 108))) := Lib.hid (fun x hx => ⟨hx, Kq.below_alloc _ _⟩)
  have HNO := Lib.hid hno
  have HAA := Lib.hid (hA.below (Kq.below_alloc w (.cells #[.int .i64 idx, .int .i64 cnt, .string k, .string v, .slice A ps.length cap] 108)))
  have HN := Lib.hid hn
  clear hno hA hn HV
  by_cases h1 : cnt < 1
  · have d1 : decide (cnt < 1) = true := decide_eq_true h1
    clear h1
    go_enter Tryz.func101, Tryz.ntmps101
    go_wp2
    go_ret2
    exact HB.out _ rfl
  have d1 : decide (cnt < 1) = false := decide_eq_false h1
  by_cases h2 : 4096 < cnt
  · have d2 : decide (4096 < cnt) = true := decide_eq_true h2
    clear h1 h2
    go_enter Tryz.func101, Tryz.ntmps101
    go_wp2
    go_ret2
    exact HB.out _ rfl
  have d2 : decide (4096 < cnt) = false := decide_eq_false h2
  by_cases h3 : idx < 0
  · have d3 : decide (idx < 0) = true := decide_eq_true h3
    clear h1 h2 h3
    go_enter Tryz.func101, Tryz.ntmps101
    go_wp2
    go_ret2
    exact HB.out _ rfl
  have d3 : decide (idx < 0) = false := decide_eq_false h3
  by_cases h4 : cnt ≤ idx
  · have d4 : decide (cnt ≤ idx) = true := decide_eq_true h4
    clear h1 h2 h3 h4
    go_enter Tryz.func101, Tryz.ntmps101
    go_wp2
    go_ret2
    exact HB.out _ rfl
  have d4 : decide (cnt ≤ idx) = false := decide_eq_false h4
  have HD : Hid (decide (All32 ps) = false) := Lib.hid (decide_eq_false (fun h => HNO.out ⟨by omega, by omega, by omega, by omega, h⟩))
  clear h1 h2 h3 h4
  go_enter Tryz.func101, Tryz.ntmps101
  go_wp2_with fail
  refine (mk_digests A cap ps _ HAA.out HN.out).mono ?_
  rintro x w2 ⟨rfl, rfl⟩
  rw [HD.out]
  go_wp2
  go_ret2
  exact HB.out _ rfl
theorem upat_new (w : World) (T : TypeId) (i c : Int) (p : PairV) (v : Value) :
    UpAt ((w.alloc (.cells #[.int .i64 i, .int .i64 c, .string p.1, .string p.2, v] 108)).alloc (.cells #[.func (.func 145) #[] #[.pointer (some ⟨w.heap.size, 0, none⟩), .pointer (some ⟨w.heap.size + 1, 0, none⟩)]] T)) w.heap.size (w.heap.size + 1) i c p v := by
  have n1 := Kq.blk_new w #[.int .i64 i, .int .i64 c, .string p.1, .string p.2, v] 108 (0, 0)
  have z1 : (w.alloc (.cells #[.int .i64 i, .int .i64 c, .string p.1, .string p.2, v] 108)).heap.size = w.heap.size + 1 := by simp
  generalize w.alloc (.cells #[.int .i64 i, .int .i64 c, .string p.1, .string p.2, v] 108) = w1 at *
  have n2 := Kq.blk_new w1 #[.func (.func 145) #[] #[.pointer (some ⟨w.heap.size, 0, none⟩), .pointer (some ⟨w.heap.size + 1, 0, none⟩)]] T (0, 0)
  rw [z1] at n2
  exact ⟨Kq.below_blk (Kq.below_alloc w1 _) n1 (by omega), Kq.blk_cell n2 0, by simp [z1]⟩
theorem upat_after (w : World) (T : TypeId) (i c : Int) (p : PairV) (v : Value) {w' : World} {f : Value} (hb : Below ((w.alloc (.cells #[.int .i64 i, .int .i64 c, .string p.1, .string p.2, v] 108)).alloc (.cells #[f] T)).heap.size ((w.alloc (.cells #[.int .i64 i, .int .i64 c, .string p.1, .string p.2, v] 108)).alloc (.cells #[f] T)) w') :
    w'.heap[w.heap.size]? = some (.cells #[.int .i64 i, .int .i64 c, .string p.1, .string p.2, v] 108 (0, 0)) ∧ Below w.heap.size w w' := by
  have n1 := Kq.blk_new w #[.int .i64 i, .int .i64 c, .string p.1, .string p.2, v] 108 (0, 0)
  have z1 : (w.alloc (.cells #[.int .i64 i, .int .i64 c, .string p.1, .string p.2, v] 108)).heap.size = w.heap.size + 1 := by simp
  have b1 := Kq.below_alloc w (.cells #[.int .i64 i, .int .i64 c, .string p.1, .string p.2, v] 108)
  generalize w.alloc (.cells #[.int .i64 i, .int .i64 c, .string p.1, .string p.2, v] 108) = w1 at *
  have b2 := Kq.below_alloc w1 (.cells #[f] T)
  have z2 : (w1.alloc (.cells #[f] T)).heap.size = w.heap.size + 2 := by simp [z1]
  exact ⟨Kq.below_blk hb (Kq.below_blk b2 n1 (by omega)) (by omega), b1.trans ((b2.mono (by omega)).trans (hb.mono (by omega)))⟩
set_option maxRecDepth 100000 in
set_option maxHeartbeats 2000000 in
theorem climb_good (i c : Nat) (p : PairV) (ps : List ByteArray) (A : Option Addr) (cap : Nat) (w : World) (hA : PartsAt w A ps) (hn : ps.length ≤ 1000) (hs : p.1.size + p.2.size ≤ 90000) (hcap : ps.length ≤ cap) (hL : LaidOk w) (hyes : CliOk i c ps) :
    Calls Tryz.prog 101 #[.agg #[.int .i64 (i : Int), .int .i64 (c : Int), .string p.1, .string p.2, .slice A ps.length cap]] w (ClPost w (climbV i c p ps)) := by
  obtain ⟨q1, q2, q3, q4, h32⟩ := hyes
  have HV : Hid (climbV i c p ps = if (up p i c ps).2 = true then (dgT (topT c (up p i c ps).1), true) else (⟨#[]⟩, false)) := Lib.hid (by
    unfold climbV
    rw [Int.toNat_natCast, Int.toNat_natCast]
    by_cases h : (up p i c ps).2 = true
    · rw [if_pos ⟨⟨q1, q2, q3, q4, h32⟩, h⟩, if_pos h]
    · rw [if_neg (fun x => h x.2), if_neg h])
  rw [HV.out]
  have HD : Hid (decide (All32 ps) = true) := Lib.hid (decide_eq_true h32)
  have HSZ := Lib.hid (up_size p c i c ps (Nat.le_refl _) (by omega)).1
  have HIH : Hid (∀ w' X U pv, UpAt w' X U i c p pv → PartsAt w' A ps → LaidOk w' → Calls Tryz.prog 145 #[.int .i64 (i : Int), .int .i64 (c : Int), .slice A ps.length cap, .pointer (some ⟨X, 0, none⟩), .pointer (some ⟨U, 0, none⟩)] w' fun x w'' => x = .returned (.tuple #[.string (up p i c ps).1, .bool (up p i c ps).2]) ∧ Below w'.heap.size w' w'') := Lib.hid (fun w' X U pv h1 h2 h3 =>
    up_walk p c i c ps A cap X U i c pv w' (Nat.le_refl _) (by omega) (by omega) (by omega) hs hn h32 h1 h2 hcap h3)
  have hcB : c ≤ 4096 := by omega
  obtain ⟨R, hR⟩ : ∃ R, R = up p i c ps := ⟨_, rfl⟩
  rw [← hR] at HIH HSZ
  rw [← hR]
  clear hR HV
  obtain ⟨D, ok⟩ := R
  simp only at HIH HSZ ⊢
  obtain ⟨k, v⟩ := p
  simp only at HIH ⊢
  have HAA := Lib.hid (And.intro (hA.below (Kq.below_alloc w (.cells #[.int .i64 (i : Int), .int .i64 (c : Int), .string k, .string v, .slice A ps.length cap] 108))) (hL.later (Kq.below_alloc w (.cells #[.int .i64 (i : Int), .int .i64 (c : Int), .string k, .string v, .slice A ps.length cap] 108))))
  have HN := Lib.hid hn
  have d1 : decide ((c : Int) < 1) = false := decide_eq_false (by omega)
  have d2 : decide ((4096 : Int) < (c : Int)) = false := decide_eq_false (by omega)
  have d2' : decide (4096 < c) = false := decide_eq_false (by omega)
  have d3 : decide ((i : Int) < 0) = false := decide_eq_false (by omega)
  have d4 : decide ((c : Int) ≤ (i : Int)) = false := decide_eq_false (by omega)
  have d4' : decide (c ≤ i) = false := decide_eq_false (by omega)
  clear q1 q2 q3 q4 h32 hs hcap hA hL hn
  cases ok with
  | true =>
    rw [if_pos rfl]
    go_enter Tryz.func101, Tryz.ntmps101
    go_wp2_with fail
    refine (mk_digests A cap ps _ HAA.out.1 HN.out).mono ?_
    rintro x w2 ⟨rfl, rfl⟩
    rw [HD.out]
    go_wp2_with fail
    refine (HIH.out _ w.heap.size (w.heap.size + 1) (.slice A ps.length cap) ?hu ?hp ?hl).mono ?_
    case hu => exact upat_new w _ i c (k, v) _
    case hp => exact HAA.out.1.below (Kq.below_alloc _ _)
    case hl => exact HAA.out.2.later (Kq.below_alloc _ _)
    rintro x w3 ⟨rfl, b3⟩
    have H3 := Lib.hid (upat_after w _ i c (k, v) _ b3)
    have H4 := Lib.hid (HAA.out.2.later ((Kq.below_alloc _ _).trans (b3.mono (by simp))))
    clear b3
    have c1 := Kq.blk_cell H3.out.1 1
    simp only [List.getElem?_toArray, List.getElem?_cons_zero, List.getElem?_cons_succ] at c1
    go_wp2_with fail
    refine (mk_top (c : Int) D w3 H4.out (by omega) (by have := HSZ.out; omega)).mono ?_
    rintro x w4 ⟨rfl, b4⟩
    rw [Int.toNat_natCast]
    have H5 : Hid (ClPost w (dgT (topT c D), true) (.returned (.tuple #[.string (dgT (topT c D)), .bool true])) w4) := Lib.hid ⟨rfl, H3.out.2.trans (b4.mono H3.out.2.size)⟩
    clear b4 H3 H4 c1
    go_wp2
    go_ret2
    exact H5.out
  | false =>
    rw [if_neg (by decide)]
    go_enter Tryz.func101, Tryz.ntmps101
    go_wp2_with fail
    refine (mk_digests A cap ps _ HAA.out.1 HN.out).mono ?_
    rintro x w2 ⟨rfl, rfl⟩
    rw [HD.out]
    go_wp2_with fail
    refine (HIH.out _ w.heap.size (w.heap.size + 1) (.slice A ps.length cap) ?hu ?hp ?hl).mono ?_
    case hu => exact upat_new w _ i c (k, v) _
    case hp => exact HAA.out.1.below (Kq.below_alloc _ _)
    case hl => exact HAA.out.2.later (Kq.below_alloc _ _)
    rintro x w3 ⟨rfl, b3⟩
    have H3 := Lib.hid (upat_after w _ i c (k, v) _ b3)
    have H4 := Lib.hid (HAA.out.2.later ((Kq.below_alloc _ _).trans (b3.mono (by simp))))
    clear b3
    have H5 : Hid (ClPost w (⟨#[]⟩, false) (.returned (.tuple #[.string ⟨#[]⟩, .bool false])) w3) := Lib.hid ⟨rfl, H3.out.2⟩
    clear H3 H4
    go_wp2
    go_ret2
    exact H5.out
theorem mk_climb (idx cnt : Int) (p : PairV) (ps : List ByteArray) (A : Option Addr) (cap : Nat) (w : World) (hA : PartsAt w A ps) (hn : ps.length ≤ 1000) (hs : p.1.size + p.2.size ≤ 90000) (hcap : ps.length ≤ cap) (hL : LaidOk w) :
    Calls Tryz.prog 101 #[.agg #[.int .i64 idx, .int .i64 cnt, .string p.1, .string p.2, .slice A ps.length cap]] w (ClPost w (climbV idx cnt p ps)) := by
  by_cases h : CliOk idx cnt ps
  · obtain ⟨i, rfl⟩ := Int.eq_ofNat_of_zero_le h.2.2.1
    obtain ⟨c, rfl⟩ := Int.eq_ofNat_of_zero_le (show 0 ≤ cnt by have := h.1; omega)
    exact climb_good i c p ps A cap w hA hn hs hcap hL h
  · exact climb_bad idx cnt p ps A cap w hA hn h
end Go.Proofs.YtbjchfcoacmaaaaGreatDoor
namespace Go.Proofs.YtbjchfcoacmaaaaGreatDoor
open Go.RowKit
set_option linter.unusedVariables false
/-- to what a leaf climbs -/
def lfClimb (L : LfV) : ByteArray × Bool := climbV L.i L.c (L.k, L.v) L.p
def rootL (l : List PairV) : ByteArray := dgT (topT l.length (digL l))
/-- a map's leaf -/
def mkLf (l : List PairV) (i : Nat) : LfV := ⟨(i : Int), (l.length : Int), (l.getD i (⟨#[]⟩, ⟨#[]⟩)).1, (l.getD i (⟨#[]⟩, ⟨#[]⟩)).2, pathL l i⟩
theorem mkLf_climb (l : List PairV) (i : Nat) (h : i < l.length) (hl : l.length ≤ 4096) : lfClimb (mkLf l i) = (rootL l, true) := by
  have hb := back l.length l i l[i] (Nat.le_refl _) (List.getElem?_eq_getElem h)
  unfold lfClimb climbV mkLf rootL
  simp only [Int.toNat_natCast]
  rw [getD_at h, show ((l[i].1, l[i].2) : PairV) = l[i] from rfl, hb, if_pos]
  exact ⟨⟨by omega, by omega, by omega, by omega, fun s hs => pathL_size _ l i (Nat.le_refl _) s hs⟩, rfl⟩
/-- a path's length -/
theorem pathL_dep : ∀ (n : Nat) (l : List PairV) (i : Nat), l.length ≤ n → (pathL l i).length = dep i l.length := by
  intro n
  induction n with
  | zero => intro l i h; rw [(pathL_one l i (by omega)).1, dep_one i _ (by omega)]; rfl
  | succ n ih =>
    intro l i h
    by_cases h1 : l.length ≤ 1
    · rw [(pathL_one l i h1).1, dep_one i _ h1]; rfl
    have k1 := leftN_pos l.length
    have k2 := leftN_lt l.length (by omega)
    have hm := pathL_many l i (by omega)
    have hd := dep_many i l.length (by omega)
    by_cases hi : i < leftN l.length
    · rw [(hm.1 hi).1, hd.1 hi, List.length_append, ih _ _ (by rw [List.length_take]; omega), List.length_take, Nat.min_eq_left (by omega)]; rfl
    · rw [(hm.2 hi).1, hd.2 hi, List.length_append, ih _ _ (by rw [List.length_drop]; omega), List.length_drop]; rfl
theorem dep_log : ∀ (k i c : Nat), c ≤ 2 ^ k → dep i c ≤ k := by
  intro k
  induction k with
  | zero => intro i c h; rw [dep_one i c (by simpa using h)]; exact Nat.zero_le _
  | succ k ih =>
    intro i c h
    by_cases h1 : c ≤ 1
    · rw [dep_one i c h1]; exact Nat.zero_le _
    have k1 := leftN_pos c
    have k2 := leftN_lt c (by omega)
    have k3 : leftN c ≤ 2 ^ k := by
      have : Nat.log2 (c - 1) < k + 1 := (Nat.log2_lt (by omega)).2 (by omega)
      exact Nat.pow_le_pow_right (by omega) (by omega)
    have k4 := leftN_ge c (by omega)
    have hd := dep_many i c (by omega)
    by_cases hi : i < leftN c
    · rw [hd.1 hi]; have := ih i (leftN c) k3; omega
    · rw [hd.2 hi]; have := ih (i - leftN c) (c - leftN c) (by omega); omega
end Go.Proofs.YtbjchfcoacmaaaaGreatDoor
namespace Go.Proofs.YtbjchfcoacmaaaaGreatDoor
open Go.RowKit
set_option linter.unusedVariables false
/-- do all leaves climb to a root? -/
def clB (root : ByteArray) (ls : List LfV) : Bool := ls.all fun L => decide (lfClimb L = (root, true))
def isKeyB (key : ByteArray) : Bool := decide (1 ≤ key.size ∧ key.size ≤ 16)
def outB (key : ByteArray) (L : LfV) : Bool := (ltT key L.k && decide (L.i = 0)) || (ltT L.k key && decide (L.i = L.c - 1))
def betB (key : ByteArray) (L H : LfV) : Bool := ((decide (L.c = H.c) && decide (L.i + 1 = H.i)) && ltT L.k key) && ltT key H.k
/-- does a proof prove that a pair is there? -/
def hasP (root key value : ByteArray) (p : PfV) : Bool :=
  match p.ab, p.ls with
  | false, [L] => decide (L.k = key ∧ L.v = value) && clB root [L]
  | _, _ => false
/-- .. that a key isn't? -/
def lacksP (root key : ByteArray) (p : PfV) : Bool :=
  match p.ab, p.ls with
  | true, [] => isKeyB key && decide (root = rootL [])
  | true, [L] => (isKeyB key && outB key L) && clB root [L]
  | true, [L, H] => (isKeyB key && betB key L H) && clB root [L, H]
  | _, _ => false
/-- the proof that a key is there; that it isn't -/
def pfHas (l : List PairV) (key : ByteArray) : PfV := ⟨false, [mkLf l (plc l key)]⟩
def pfNot (l : List PairV) (key : ByteArray) : PfV := ⟨true, (if plc l key = 0 then [] else [mkLf l (plc l key - 1)]) ++ (if plc l key < l.length then [mkLf l (plc l key)] else [])⟩
end Go.Proofs.YtbjchfcoacmaaaaGreatDoor
namespace Go.Proofs.YtbjchfcoacmaaaaGreatDoor
open Go.RowKit
set_option linter.unusedVariables false
/-- texts in memory, none of them in a block of S -/
def TxN (w : World) (S : Nat → Prop) (A : Option Addr) (l : List ByteArray) : Prop := ∀ i (h : i < l.length), ∃ g o, A = some ⟨g, o, none⟩ ∧ ¬ S g ∧ g < w.heap.size ∧ w.cell? ⟨g, o + i, none⟩ = some (.string l[i])
section
variable {w w' : World} {S T : Nat → Prop} {A : Option Addr} {l : List ByteArray}
theorem TxN.nil : TxN w S A [] := fun i h => absurd h (Nat.not_lt_zero _)
theorem TxN.parts (h : TxN w S A l) : PartsAt w A l := fun j hj => by
  obtain ⟨b, off, rfl, _, h1, h2⟩ := h j hj
  exact ⟨b, off, rfl, h1, h2⟩
theorem TxN.keeps (h : TxN w S A l) (hk : Kq.Keeps T w w') (hT : ∀ k, k < w.heap.size → T k → S k) : TxN w' S A l := fun j hj => by
  obtain ⟨b, off, rfl, h0, h1, h2⟩ := h j hj
  exact ⟨b, off, rfl, h0, Nat.lt_of_lt_of_le h1 hk.size, by rw [World.cell?_of_block (hk.block b h1 (fun hs => h0 (hT b h1 hs)))]; exact h2⟩
theorem TxN.below (h : TxN w S A l) (hb : Below w.heap.size w w') : TxN w' S A l :=
  h.keeps (Kq.Keeps.of_below (S := fun _ => False) hb (fun k h1 h2 => absurd h1 (Nat.not_le.2 h2))) (fun k _ hk => hk.elim)
theorem TxN.mono (h : TxN w S A l) (hT : ∀ k, k < w.heap.size → T k → S k) : TxN w T A l := fun j hj => by
  obtain ⟨b, off, rfl, h0, h1, h2⟩ := h j hj
  exact ⟨b, off, rfl, fun ht => h0 (hT b h1 ht), h1, h2⟩
end
/-- a leaf as it lies in memory: with its path's slice -/
structure LfW where
  l : LfV
  a : Option Addr
  cap : Nat
def LfW.cells (x : LfW) : List Value := [.int .i64 x.l.i, .int .i64 x.l.c, .string x.l.k, .string x.l.v, .slice x.a x.l.p.length x.cap]
def LfW.val (x : LfW) : Value := .agg #[.int .i64 x.l.i, .int .i64 x.l.c, .string x.l.k, .string x.l.v, .slice x.a x.l.p.length x.cap]
def LfE : Kq.Elt LfW := ⟨5, LfW.cells, fun _ => rfl, fun x u hu => by
  simp only [LfW.cells, List.mem_cons, List.not_mem_nil, or_false] at hu
  rcases hu with rfl | rfl | rfl | rfl | rfl <;> rfl, by decide⟩
structure IsLf (w : World) (b o : Nat) (x : LfW) : Prop where
  c0 : w.cell? ⟨b, o, none⟩ = some (.int .i64 x.l.i)
  c1 : w.cell? ⟨b, o + 1, none⟩ = some (.int .i64 x.l.c)
  c2 : w.cell? ⟨b, o + 2, none⟩ = some (.string x.l.k)
  c3 : w.cell? ⟨b, o + 3, none⟩ = some (.string x.l.v)
  c4 : w.cell? ⟨b, o + 4, none⟩ = some (.slice x.a x.l.p.length x.cap)
/-- leaves in memory, with their paths, none of them in a block of S -/
def LfsN (w : World) (S : Nat → Prop) (A : Option Addr) (ls : List LfW) : Prop := ∀ i (h : i < ls.length), ∃ b off, A = some ⟨b, off, none⟩ ∧ ¬ S b ∧ b < w.heap.size ∧ IsLf w b (off + i * 5) ls[i] ∧ TxN w S ls[i].a ls[i].l.p ∧ ls[i].l.p.length ≤ ls[i].cap
def vals (ls : List LfW) : List LfV := ls.map LfW.l
theorem vals_len (ls : List LfW) : (vals ls).length = ls.length := List.length_map _
section
variable {w w' : World} {S T : Nat → Prop} {A : Option Addr} {ls : List LfW} {x : LfW} {b o : Nat}
theorem IsLf.blk (h : IsLf w b o x) (hb : w'.heap[b]? = w.heap[b]?) : IsLf w' b o x :=
  ⟨by rw [World.cell?_of_block hb]; exact h.c0, by rw [World.cell?_of_block hb]; exact h.c1, by rw [World.cell?_of_block hb]; exact h.c2, by rw [World.cell?_of_block hb]; exact h.c3, by rw [World.cell?_of_block hb]; exact h.c4⟩
theorem LfsN.nil : LfsN w S A [] := fun i h => absurd h (Nat.not_lt_zero _)
theorem LfsN.keeps (h : LfsN w S A ls) (hk : Kq.Keeps T w w') (hT : ∀ k, k < w.heap.size → T k → S k) : LfsN w' S A ls := fun j hj => by
  obtain ⟨b, off, rfl, h0, h1, h2, h3, h4⟩ := h j hj
  exact ⟨b, off, rfl, h0, Nat.lt_of_lt_of_le h1 hk.size, h2.blk (hk.block b h1 (fun hs => h0 (hT b h1 hs))), h3.keeps hk hT, h4⟩
theorem LfsN.below (h : LfsN w S A ls) (hb : Below w.heap.size w w') : LfsN w' S A ls :=
  h.keeps (Kq.Keeps.of_below (S := fun _ => False) hb (fun k h1 h2 => absurd h1 (Nat.not_le.2 h2))) (fun k _ hk => hk.elim)
theorem LfsN.mono (h : LfsN w S A ls) (hT : ∀ k, k < w.heap.size → T k → S k) : LfsN w T A ls := fun j hj => by
  obtain ⟨b, off, rfl, h0, h1, h2, h3, h4⟩ := h j hj
  exact ⟨b, off, rfl, fun ht => h0 (hT b h1 ht), h1, h2, h3.mono hT, h4⟩
/-- out of a row of the call's own, and its paths -/
theorem LfsN.of (h : LfE.At w A ls) (hS : ∀ b off, A = some ⟨b, off, none⟩ → b < w.heap.size → ¬ S b) (hp : ∀ x ∈ ls, TxN w S x.a x.l.p ∧ x.l.p.length ≤ x.cap) : LfsN w S A ls := fun j hj => by
  obtain ⟨b, off, rfl, h1, h2⟩ := h j hj
  have hx := hp ls[j] (List.getElem_mem _)
  exact ⟨b, off, rfl, hS b off rfl h1, h1, ⟨h2 0 (by decide), h2 1 (by decide), h2 2 (by decide), h2 3 (by decide), h2 4 (by decide)⟩, hx.1, hx.2⟩
end
/-- what a call tells that tells a proof and a code -/
def PfPost (w : World) (r : PfV × Int) (x : Ending) (w' : World) : Prop :=
  ∃ A cap ls, x = .returned (.tuple #[.agg #[.bool r.1.ab, .slice A (List.length ls) cap], .int .i64 r.2]) ∧ vals ls = r.1.ls ∧ ls.length ≤ cap ∧ LfsN w' (fun k => k < w.heap.size) A ls ∧ Below w.heap.size w w'
end Go.Proofs.YtbjchfcoacmaaaaGreatDoor
namespace Go.Proofs.YtbjchfcoacmaaaaGreatDoor
open Go.RowKit
set_option linter.unusedVariables false
/-- a reader; if C, then it remembers nothing, and l is left -/
def RdC (C : Prop) (w : World) (B : Nat) (l : List Nat) : Prop := ∃ e s, Rd w B e s ∧ s.size ≤ 100000 ∧ (C → e = 0 ∧ nl s = l)
section
variable {C : Prop} {w w' : World} {B : Nat} {l l' : List Nat}
theorem RdC.cast (h : RdC C w B l) (hl : C → l = l') : RdC C w B l' := by
  obtain ⟨e, s, h1, h2, h3⟩ := h
  exact ⟨e, s, h1, h2, fun c => ⟨(h3 c).1, (h3 c).2.trans (hl c)⟩⟩
theorem RdC.keeps {S : Nat → Prop} (h : RdC C w B l) (hk : Kq.Keeps S w w') (hS : ¬ S B) : RdC C w' B l := by
  obtain ⟨e, s, h1, h2, h3⟩ := h
  exact ⟨e, s, hk.blk h1 hS, h2, h3⟩
theorem RdC.below (h : RdC C w B l) (hb : Below w.heap.size w w') : RdC C w' B l :=
  h.keeps (Kq.Keeps.of_below (S := fun _ => False) hb (fun k h1 h2 => absurd h1 (Nat.not_le.2 h2))) id
theorem RdC.lt (h : RdC C w B l) : B < w.heap.size := by
  obtain ⟨e, s, h1, _⟩ := h
  exact Kq.blk_lt h1
end
def RnPost (C : Prop) (w : World) (B : Nat) (k : IntKind) (lim n : Nat) (rest : List Nat) (x : Ending) (w' : World) : Prop := ∃ m : Nat, m < lim ∧ (C → m = n) ∧ x = .returned (.int k (m : Int)) ∧ RdC C w' B rest ∧ Kq.Keeps (· = B) w w'
def RtPost (C : Prop) (w : World) (B : Nat) (t : ByteArray) (rest : List Nat) (x : Ending) (w' : World) : Prop := ∃ s : ByteArray, (C → s = t) ∧ x = .returned (.string s) ∧ RdC C w' B rest ∧ Kq.Keeps (· = B) w w'
section
variable (C : Prop) (B : Nat) (w : World)
theorem rc_byte (b : Nat) (rest : List Nat) (h : RdC C w B ([b] ++ rest)) : Calls Tryz.prog 98 #[.pointer (some ⟨B, 0, none⟩)] w (RnPost C w B .i64 256 b rest) := by
  obtain ⟨e, s, h1, h2, h3⟩ := h
  refine (rd_byte B e s w h1 (by unfold maxLen; omega)).mono ?_
  rintro x w' ⟨rfl, R, K⟩
  refine ⟨_, by simpa using whole_lt e s 1, fun c => ?_, rfl, ⟨_, _, R, Nat.le_trans (raw_left_size _ _ _) h2, fun c => ?_⟩, K⟩
  · obtain ⟨rfl, hs⟩ := h3 c
    obtain ⟨g1, g2, g3⟩ := raw_list hs
    rw [show ((1 : Nat) : Int) = (([b].length : Nat) : Int) from rfl, g1, val_one]
  · obtain ⟨rfl, hs⟩ := h3 c
    obtain ⟨g1, g2, g3⟩ := raw_list hs
    exact ⟨g2, g3⟩
theorem rc_number (n : Nat) (rest : List Nat) (h : RdC C w B (num8 n ++ rest)) (hn : C → n < M64) : Calls Tryz.prog 141 #[.pointer (some ⟨B, 0, none⟩)] w (RnPost C w B .u64 M64 n rest) := by
  obtain ⟨e, s, h1, h2, h3⟩ := h
  refine (rd_number B e s w h1 (by unfold maxLen; omega)).mono ?_
  rintro x w' ⟨rfl, R, K⟩
  refine ⟨_, by have := whole_lt e s 8; unfold M64; simpa using this, fun c => ?_, rfl, ⟨_, _, R, Nat.le_trans (raw_left_size _ _ _) h2, fun c => ?_⟩, K⟩
  · obtain ⟨rfl, hs⟩ := h3 c
    obtain ⟨g1, g2, g3⟩ := raw_list hs
    rw [show ((8 : Nat) : Int) = (((num8 n).length : Nat) : Int) from rfl, g1, val_num8 n (hn c)]
  · obtain ⟨rfl, hs⟩ := h3 c
    obtain ⟨g1, g2, g3⟩ := raw_list hs
    exact ⟨g2, g3⟩
theorem rc_raw (n : Nat) (t : ByteArray) (rest : List Nat) (h : RdC C w B (nl t ++ rest)) (hn : C → t.size = n) : Calls Tryz.prog 143 #[.pointer (some ⟨B, 0, none⟩), .int .i64 (n : Int)] w (RtPost C w B t rest) := by
  obtain ⟨e, s, h1, h2, h3⟩ := h
  refine (rd_raw B e s (n : Int) w h1 (by unfold maxLen; omega)).mono ?_
  rintro x w' ⟨rfl, R, K⟩
  refine ⟨_, fun c => ?_, rfl, ⟨_, _, R, Nat.le_trans (raw_left_size _ _ _) h2, fun c => ?_⟩, K⟩
  · obtain ⟨rfl, hs⟩ := h3 c
    obtain ⟨g1, g2, g3⟩ := raw_list hs
    rw [nl_length, hn c] at g1
    exact nl_inj g1
  · obtain ⟨rfl, hs⟩ := h3 c
    obtain ⟨g1, g2, g3⟩ := raw_list hs
    rw [nl_length, hn c] at g2 g3
    exact ⟨g2, g3⟩
theorem rc_text (t : ByteArray) (rest : List Nat) (h : RdC C w B (tx2 t ++ rest)) : Calls Tryz.prog 142 #[.pointer (some ⟨B, 0, none⟩)] w (RtPost C w B t rest) := by
  obtain ⟨e, s, h1, h2, h3⟩ := h
  refine (rd_text B e s w h1 (by unfold maxLen; omega)).mono ?_
  rintro x w' ⟨rfl, R, K⟩
  have key : C → (WireM.raw (WireM.raw e s (2 : Nat)).2.1 (WireM.raw e s (2 : Nat)).2.2 ((WireM.val (nl (WireM.raw e s (2 : Nat)).1) : Nat) : Int)).1 = t ∧ (WireM.raw (WireM.raw e s (2 : Nat)).2.1 (WireM.raw e s (2 : Nat)).2.2 ((WireM.val (nl (WireM.raw e s (2 : Nat)).1) : Nat) : Int)).2.1 = 0 ∧ nl (WireM.raw (WireM.raw e s (2 : Nat)).2.1 (WireM.raw e s (2 : Nat)).2.2 ((WireM.val (nl (WireM.raw e s (2 : Nat)).1) : Nat) : Int)).2.2 = rest := fun c => by
    obtain ⟨rfl, hs⟩ := h3 c
    have hs2 : nl s = hi2 t.size ++ (nl t ++ rest) := by rw [hs]; unfold tx2 hi2; rw [List.append_assoc]
    obtain ⟨g1, g2, g3⟩ := raw_list hs2
    have hl2 : (hi2 t.size).length = 2 := rfl
    rw [hl2] at g1 g2 g3
    rw [g1, g2, val_hi2]
    obtain ⟨k1, k2, k3⟩ := raw_list g3
    rw [nl_length] at k1 k2 k3
    exact ⟨nl_inj k1, k2, k3⟩
  refine ⟨_, fun c => (key c).1, rfl, ⟨_, _, R, Nat.le_trans (raw_left_size _ _ _) (Nat.le_trans (raw_left_size _ _ _) h2), fun c => ⟨(key c).2.1, (key c).2.2⟩⟩, K⟩
theorem rc_err (l : List Nat) (h : RdC C w B l) : Calls Tryz.prog 99 #[.pointer (some ⟨B, 0, none⟩)] w fun x w' => (∃ e : Int, (C → e = 0) ∧ x = .returned (.int .i64 e)) ∧ w = w' := by
  obtain ⟨e, s, h1, h2, h3⟩ := h
  refine (mem_err B e w h1.c0).mono ?_
  rintro x w' ⟨rfl, rfl⟩
  exact ⟨⟨e, fun c => (h3 c).1, rfl⟩, rfl⟩
theorem rc_new (s : ByteArray) (hs : s.size ≤ 100000) (l : List Nat) (hl : C → nl s = l) : Calls Tryz.prog 97 #[.string s] w fun x w' => x = .returned (.pointer (some ⟨w.heap.size, 0, none⟩)) ∧ RdC C w' w.heap.size l ∧ Below w.heap.size w w' := by
  refine (rd_new s w).mono ?_
  rintro x w' ⟨rfl, R, hb⟩
  exact ⟨rfl, ⟨_, _, R, hs, fun c => ⟨rfl, hl c⟩⟩, hb⟩
end
/-- a leaf's block -/
structure LB (w : World) (X : Nat) (i c : Int) (k v : ByteArray) (P : Value) : Prop where
  blk : w.heap[X]? = some (.cells #[.int .i64 i, .int .i64 c, .string k, .string v, P] 108 (0, 0))
section
variable {w : World} {X : Nat} {i c : Int} {k v : ByteArray} {P : Value} (h : LB w X i c k v P)
include h
theorem LB.c0 : w.cell? ⟨X, 0, none⟩ = some (.int .i64 i) := Kq.blk_cell h.blk 0
theorem LB.c1 : w.cell? ⟨X, 1, none⟩ = some (.int .i64 c) := Kq.blk_cell h.blk 1
theorem LB.c2 : w.cell? ⟨X, 2, none⟩ = some (.string k) := Kq.blk_cell h.blk 2
theorem LB.c3 : w.cell? ⟨X, 3, none⟩ = some (.string v) := Kq.blk_cell h.blk 3
theorem LB.c4 : w.cell? ⟨X, 4, none⟩ = some P := Kq.blk_cell h.blk 4
theorem LB.fz (j : Nat) : w.frozen? ⟨X, j, none⟩ = false := Kq.blk_free h.blk j
theorem LB.s0 (x : Int) : LB (w.setCell ⟨X, 0, none⟩ (.int .i64 x)) X x c k v P := ⟨Kq.blk_set h.blk 0 _⟩
theorem LB.s1 (x : Int) : LB (w.setCell ⟨X, 1, none⟩ (.int .i64 x)) X i x k v P := ⟨Kq.blk_set h.blk 1 _⟩
theorem LB.s2 (x : ByteArray) : LB (w.setCell ⟨X, 2, none⟩ (.string x)) X i c x v P := ⟨Kq.blk_set h.blk 2 _⟩
theorem LB.s3 (x : ByteArray) : LB (w.setCell ⟨X, 3, none⟩ (.string x)) X i c k x P := ⟨Kq.blk_set h.blk 3 _⟩
theorem LB.s4 (x : Value) : LB (w.setCell ⟨X, 4, none⟩ x) X i c k v x := ⟨Kq.blk_set h.blk 4 _⟩
theorem LB.later {S : Nat → Prop} {w' : World} (hk : Kq.Keeps S w w') (hS : ¬ S X) : LB w' X i c k v P := ⟨hk.blk h.blk hS⟩
theorem LB.lt : X < w.heap.size := Kq.blk_lt h.blk
end
end Go.Proofs.YtbjchfcoacmaaaaGreatDoor
namespace Go.Proofs.YtbjchfcoacmaaaaGreatDoor
open Go.RowKit
set_option linter.unusedVariables false
theorem row_txn {w : World} {base : Nat} {v : Value} {ps : List ByteArray} {S : Nat → Prop} (h : w.ownsRow base 9 1 v ps.length (scells ps)) (hS : ∀ k, base ≤ k → ¬ S k) : ∃ A cap, v = .slice A ps.length cap ∧ ps.length ≤ cap ∧ TxN w S A ps := by
  rcases h.2 with ⟨rfl, h0⟩ | ⟨g, cap, cur, rfl, hg, hb, hc, _, _, ht⟩
  · exact ⟨none, 0, by rw [h0], by omega, fun j hj => by omega⟩
  · refine ⟨_, cap, rfl, hc, fun j hj => ⟨g, 0, rfl, hS g hg, Kq.blk_lt hb, ?_⟩⟩
    have h1 : (scells ps)[j]? = some (.string ps[j]) := by simp [scells, hj]
    rw [Nat.zero_add, Kq.blk_cell hb, ← h1, ← ht, List.getElem?_take, if_pos (by omega), Array.getElem?_toList]
/-- in the midst of get: from a world with W blocks on -/
structure Ge (C : Prop) (w : World) (B R X : Nat) (l : List Nat) (i c : Int) (k v : ByteArray) (P : Value) (w' : World) : Prop where
  rd : RdC C w' B l
  lb : LB w' X i c k v P
  rb : LB w' R 0 0 ⟨#[]⟩ ⟨#[]⟩ (.slice none 0 0)
  ne : B < w.heap.size
  ne2 : w.heap.size ≤ R
  ne3 : w.heap.size ≤ X
  ne4 : R ≠ X
  keeps : Kq.Keeps (· = B) w w'
section
variable {C : Prop} {w0 w w' : World} {B R X : Nat} {l l' : List Nat} {i c : Int} {k v : ByteArray} {P : Value}
theorem keeps_far {S T : Nat → Prop} {a b d : World} (h : Kq.Keeps S a b) (hk : Kq.Keeps T b d) (hT : ∀ k, T k → a.heap.size ≤ k) : Kq.Keeps S a d :=
  ⟨hk.os.trans h.os, hk.tape.trans h.tape, hk.output.trans h.output, Nat.le_trans h.size hk.size, fun k hk1 hn => by
    rw [hk.block k (Nat.lt_of_lt_of_le hk1 h.size) (fun ht => by have := hT k ht; omega), h.block k hk1 hn]⟩
theorem Ge.read (h : Ge C w0 B R X l i c k v P w) (hr : RdC C w' B l') (hk : Kq.Keeps (· = B) w w') : Ge C w0 B R X l' i c k v P w' :=
  ⟨hr, h.lb.later hk (fun e => by have := h.ne; have := h.ne3; omega), h.rb.later hk (fun e => by have := h.ne; have := h.ne2; omega), h.ne, h.ne2, h.ne3, h.ne4, h.keeps.trans hk⟩
theorem Ge.cast (h : Ge C w0 B R X l i c k v P w) (hl : C → l = l') : Ge C w0 B R X l' i c k v P w := ⟨h.rd.cast hl, h.lb, h.rb, h.ne, h.ne2, h.ne3, h.ne4, h.keeps⟩
theorem Ge.far {base : Nat} (h : Ge C w0 B R X l i c k v P w) (hk : Kq.Keeps (fun g => base ≤ g) w w') (hR : R < base) (hX : X < base) : Ge C w0 B R X l i c k v P w' :=
  ⟨h.rd.keeps hk (by have := h.ne; have := h.ne3; omega), h.lb.later hk (Nat.not_le.2 hX), h.rb.later hk (Nat.not_le.2 hR), h.ne, h.ne2, h.ne3, h.ne4, keeps_far h.keeps hk (fun g hg => by have := h.ne3; omega)⟩
theorem Ge.below (h : Ge C w0 B R X l i c k v P w) (hb : Below w.heap.size w w') : Ge C w0 B R X l i c k v P w' :=
  have hk : Kq.Keeps (fun _ => False) w w' := Kq.Keeps.of_below hb (fun k h1 h2 => absurd h1 (Nat.not_le.2 h2))
  ⟨h.rd.below hb, h.lb.later hk id, h.rb.later hk id, h.ne, h.ne2, h.ne3, h.ne4, keeps_far h.keeps hk (fun g hg => hg.elim)⟩
theorem Ge.set (h : Ge C w0 B R X l i c k v P w) (j : Nat) (x : Value) {i' c' : Int} {k' v' : ByteArray} {P' : Value} (hp : LB (w.setCell ⟨X, j, none⟩ x) X i' c' k' v' P') : Ge C w0 B R X l i' c' k' v' P' (w.setCell ⟨X, j, none⟩ x) :=
  have hk : Kq.Keeps (· = X) w (w.setCell ⟨X, j, none⟩ x) := Kq.Keeps.setCell _ _ _ rfl
  ⟨h.rd.keeps hk (by have := h.ne; have := h.ne3; omega), hp, h.rb.later hk h.ne4, h.ne, h.ne2, h.ne3, h.ne4, keeps_far h.keeps hk (fun g hg => by have := h.ne3; omega)⟩
end
/-- the result's block is filled -/
def filled5 (w : World) (R : Nat) (i c : Int) (k v : ByteArray) (P : Value) : World := ((((w.setCell ⟨R, 0, none⟩ (.int .i64 i)).setCell ⟨R, 1, none⟩ (.int .i64 c)).setCell ⟨R, 2, none⟩ (.string k)).setCell ⟨R, 3, none⟩ (.string v)).setCell ⟨R, 4, none⟩ P
theorem filled5_keeps (w : World) (R : Nat) (i c : Int) (k v : ByteArray) (P : Value) : Kq.Keeps (· = R) w (filled5 w R i c k v P) := by
  unfold filled5
  have k1 := Kq.Keeps.setCell (S := (· = R)) w ⟨R, 0, none⟩ (.int .i64 i) rfl
  have k2 := Kq.Keeps.setCell (S := (· = R)) (w.setCell ⟨R, 0, none⟩ (.int .i64 i)) ⟨R, 1, none⟩ (.int .i64 c) rfl
  have k3 := Kq.Keeps.setCell (S := (· = R)) ((w.setCell ⟨R, 0, none⟩ (.int .i64 i)).setCell ⟨R, 1, none⟩ (.int .i64 c)) ⟨R, 2, none⟩ (.string k) rfl
  have k4 := Kq.Keeps.setCell (S := (· = R)) (((w.setCell ⟨R, 0, none⟩ (.int .i64 i)).setCell ⟨R, 1, none⟩ (.int .i64 c)).setCell ⟨R, 2, none⟩ (.string k)) ⟨R, 3, none⟩ (.string v) rfl
  have k5 := Kq.Keeps.setCell (S := (· = R)) ((((w.setCell ⟨R, 0, none⟩ (.int .i64 i)).setCell ⟨R, 1, none⟩ (.int .i64 c)).setCell ⟨R, 2, none⟩ (.string k)).setCell ⟨R, 3, none⟩ (.string v)) ⟨R, 4, none⟩ P rfl
  exact (((k1.trans k2).trans k3).trans k4).trans k5
theorem LB.fill {w : World} {R : Nat} {i0 c0 : Int} {k0 v0 : ByteArray} {P0 : Value} (h : LB w R i0 c0 k0 v0 P0) (i c : Int) (k v : ByteArray) (P : Value) : LB (filled5 w R i c k v P) R i c k v P := ((((h.s0 i).s1 c).s2 k).s3 v).s4 P
/-- what get tells: a leaf, the next one if C -/
def LfPost (C : Prop) (w : World) (B : Nat) (L : LfV) (rest : List Nat) (x : Ending) (w' : World) : Prop :=
  ∃ z : LfW, (C → z.l = L) ∧ x = .returned z.val ∧ z.l.p.length ≤ 300 ∧ z.l.p.length ≤ z.cap ∧ TxN w' (fun k => k < w.heap.size) z.a z.l.p ∧ RdC C w' B rest ∧ Kq.Keeps (· = B) w w'
theorem LfPost.mk' {C : Prop} {w w' : World} {B : Nat} {L : LfV} {rest : List Nat} (z : LfW) (h1 : C → z.l = L) (h2 : z.l.p.length ≤ 300) (h3 : z.l.p.length ≤ z.cap) (h4 : TxN w' (fun k => k < w.heap.size) z.a z.l.p) (h5 : RdC C w' B rest) (h6 : Kq.Keeps (· = B) w w') {x : Ending} (hx : x = .returned z.val) : LfPost C w B L rest x w' := ⟨z, h1, hx, h2, h3, h4, h5, h6⟩
theorem rawL_drop {C : Prop} (p : List ByteArray) (m n : Nat) (rest : List Nat) (h : C → n = p.length) (hm : m < n) : C → rawL (p.drop m) ++ rest = nl (p.getD m ⟨#[]⟩) ++ (rawL (p.drop (m + 1)) ++ rest) := fun c => by
  have hl : m < p.length := by have := h c; omega
  rw [List.drop_eq_getElem_cons hl, List.getD_eq_getElem?_getD, List.getElem?_eq_getElem hl]
  simp [rawL, List.append_assoc]
theorem ge_start (C : Prop) (B : Nat) (l : List Nat) (w : World) (h : RdC C w B l) :
    Ge C w B w.heap.size (w.heap.size + 1) l 0 0 ⟨#[]⟩ ⟨#[]⟩ (.slice none 0 0) ((w.alloc (Obj.cells #[Value.int IntKind.i64 0, Value.int IntKind.i64 0, Value.string ⟨#[]⟩, Value.string ⟨#[]⟩, Value.slice none 0 0] 108)).alloc (Obj.cells #[Value.int IntKind.i64 0, Value.int IntKind.i64 0, Value.string ⟨#[]⟩, Value.string ⟨#[]⟩, Value.slice none 0 0] 108)) := by
  have n1 := Kq.blk_new w #[Value.int IntKind.i64 0, Value.int IntKind.i64 0, Value.string ⟨#[]⟩, Value.string ⟨#[]⟩, Value.slice none 0 0] 108 (0, 0)
  have b1 := Kq.below_alloc w (Obj.cells #[Value.int IntKind.i64 0, Value.int IntKind.i64 0, Value.string ⟨#[]⟩, Value.string ⟨#[]⟩, Value.slice none 0 0] 108)
  have z1 : (w.alloc (Obj.cells #[Value.int IntKind.i64 0, Value.int IntKind.i64 0, Value.string ⟨#[]⟩, Value.string ⟨#[]⟩, Value.slice none 0 0] 108)).heap.size = w.heap.size + 1 := by simp
  have hB := h.lt
  have h1 := h.below b1
  generalize w.alloc (Obj.cells #[Value.int IntKind.i64 0, Value.int IntKind.i64 0, Value.string ⟨#[]⟩, Value.string ⟨#[]⟩, Value.slice none 0 0] 108) = w1 at *
  have n2 := Kq.blk_new w1 #[Value.int IntKind.i64 0, Value.int IntKind.i64 0, Value.string ⟨#[]⟩, Value.string ⟨#[]⟩, Value.slice none 0 0] 108 (0, 0)
  have b2 := Kq.below_alloc w1 (Obj.cells #[Value.int IntKind.i64 0, Value.int IntKind.i64 0, Value.string ⟨#[]⟩, Value.string ⟨#[]⟩, Value.slice none 0 0] 108)
  rw [z1] at n2
  exact ⟨h1.below b2, ⟨n2⟩, ⟨Kq.below_blk b2 n1 (by omega)⟩, hB, Nat.le_refl _, by omega, by omega, Kq.Keeps.of_below (b1.trans (b2.mono (by omega))) (fun k h1 h2 => absurd h2 (by omega))⟩
set_option maxRecDepth 100000 in
set_option maxHeartbeats 4000000 in
theorem pf_get (C : Prop) (B : Nat) (L : LfV) (rest : List Nat) (w : World) (h : RdC C w B (lfB L ++ rest)) (hm : C → LfMay L) :
    Calls Tryz.prog 100 #[.pointer (some ⟨B, 0, none⟩)] w (LfPost C w B L rest) := by
  obtain ⟨i0, hi0, hz0, hz1, hz2⟩ := info_partsB infoStr
  have H0 := Lib.hid ((ge_start C B _ w h).cast (l' := num8 L.i.toNat ++ (num8 L.c.toNat ++ (tx2 L.k ++ (tx2 L.v ++ ([L.p.length] ++ (rawL L.p ++ rest)))))) (fun _ => by unfold lfB; simp only [List.append_assoc]))
  have HM := Lib.hid hm
  have HM64 : Hid ((C → L.i.toNat < M64) ∧ (C → L.c.toNat < M64)) := Lib.hid ⟨fun c => by have := (hm c).i1; unfold M64; omega, fun c => by have := (hm c).c1; unfold M64; omega⟩
  clear h hm
  go_enter Tryz.func100, Tryz.ntmps100
  go_wp2_with fail
  refine (rc_number C B _ L.i.toNat _ H0.out.rd HM64.out.1).mono ?_
  rintro x w1 ⟨m1, hl1, hc1, rfl, R1, K1⟩
  have H1 := Lib.hid (H0.out.read R1 K1)
  clear R1 K1 H0
  obtain ⟨I, hI⟩ : ∃ I, I = IntKind.i64.wrap (m1 : Int) := ⟨_, rfl⟩
  have HI : Hid (C → I = L.i) := Lib.hid (fun c => by
    have h1 := (HM.out c).i0
    have h2 := (HM.out c).i1
    rw [hI, hc1 c, IntWalk.i64_in _ (by omega)]; omega)
  have hw : IntKind.i64.wrap (m1 : Int) = I := hI.symm
  clear hI hl1 hc1
  have f0 := H1.out.lb.fz 0
  have c0 := H1.out.lb.c0
  go_wp2_with fail
  have H2 := Lib.hid (H1.out.set 0 _ (H1.out.lb.s0 I))
  clear f0 c0 H1 hw
  refine (rc_number C B _ L.c.toNat _ H2.out.rd HM64.out.2).mono ?_
  rintro x w2 ⟨m2, hl2, hc2, rfl, R2, K2⟩
  have H3 := Lib.hid (H2.out.read R2 K2)
  clear R2 K2 H2
  obtain ⟨J, hJ⟩ : ∃ J, J = IntKind.i64.wrap (m2 : Int) := ⟨_, rfl⟩
  have HJ : Hid (C → J = L.c) := Lib.hid (fun c => by
    have h1 := (HM.out c).c0
    have h2 := (HM.out c).c1
    rw [hJ, hc2 c, IntWalk.i64_in _ (by omega)]; omega)
  have hw : IntKind.i64.wrap (m2 : Int) = J := hJ.symm
  clear hJ hl2 hc2
  have f0 := H3.out.lb.fz 1
  have c0 := H3.out.lb.c1
  go_wp2_with fail
  have H4 := Lib.hid (H3.out.set 1 _ (H3.out.lb.s1 J))
  clear f0 c0 H3 hw
  refine (rc_text C B _ L.k _ H4.out.rd).mono ?_
  rintro x w3 ⟨sk, hsk, rfl, R3, K3⟩
  have H5 := Lib.hid (H4.out.read R3 K3)
  have HSK := Lib.hid hsk
  clear R3 K3 H4 hsk
  have f0 := H5.out.lb.fz 2
  have c0 := H5.out.lb.c2
  go_wp2_with fail
  have H6 := Lib.hid (H5.out.set 2 _ (H5.out.lb.s2 sk))
  clear f0 c0 H5
  refine (rc_text C B _ L.v _ H6.out.rd).mono ?_
  rintro x w4 ⟨sv, hsv, rfl, R4, K4⟩
  have H7 := Lib.hid (H6.out.read R4 K4)
  have HSV := Lib.hid hsv
  clear R4 K4 H6 hsv
  have f0 := H7.out.lb.fz 3
  have c0 := H7.out.lb.c3
  go_wp2_with fail
  have H8 := Lib.hid (H7.out.set 3 _ (H7.out.lb.s3 sv))
  clear f0 c0 H7
  refine (rc_byte C B _ L.p.length _ H8.out.rd).mono ?_
  rintro x w5 ⟨n, hn, hnc, rfl, R5, K5⟩
  have H9 := Lib.hid (H8.out.read R5 K5)
  have HN := Lib.hid (And.intro hn hnc)
  clear R5 K5 H8 hn hnc
  go_wp2
  go_loopw [22] (fun u wr => ∃ (m : Nat) (ps : List ByteArray) (a : Option Addr) (q cp : Nat), m ≤ n ∧ u = .int .i64 (m : Int) ∧ ps.length = m ∧ (C → ps = L.p.take m) ∧ wr.ownsRow (w.heap.size + 2) 9 1 (.slice a q cp) m (scells ps) ∧ w.heap.size + 2 ≤ wr.heap.size ∧ Ge C w B w.heap.size (w.heap.size + 1) (rawL (L.p.drop m) ++ rest) I J sk sv (.slice a q cp) wr) (fun u _ => n - (intOf u).toNat)
  case atStart => exact ⟨0, [], none, 0, 0, by omega, rfl, rfl, fun _ => by simp, ⟨rfl, Or.inl ⟨rfl, rfl⟩⟩, by have := H9.out.lb.lt; omega, by simpa using H9.out⟩
  case round =>
    obtain ⟨m, ps, a, q, cp, hmn, rfl, hpl, hpc, hown, hsz, hge⟩ := hrel
    have hn256 := HN.out.1
    by_cases hlt : m < n
    · obtain ⟨D, hD⟩ : ∃ D, D = L.p.getD m ⟨#[]⟩ := ⟨_, rfl⟩
      have hge2 := hge.cast (rawL_drop L.p m n rest HN.out.2 hlt)
      rw [← hD] at hge2
      have HDC : Hid ((C → D.size = 32) ∧ (C → ps ++ [D] = L.p.take (m + 1))) := Lib.hid (by
        refine ⟨fun c => ?_, fun c => ?_⟩
        · have hl : m < L.p.length := by have := HN.out.2 c; omega
          rw [hD, List.getD_eq_getElem?_getD, List.getElem?_eq_getElem hl]
          exact (HM.out c).d _ (List.getElem_mem _)
        · have hl : m < L.p.length := by have := HN.out.2 c; omega
          rw [hpc c, List.take_succ_eq_append_getElem hl, hD, List.getD_eq_getElem?_getD, List.getElem?_eq_getElem hl]; rfl)
      have HL := Lib.hid (And.intro hlt (And.intro hpl hsz))
      have hm256 : m ≤ 256 := by omega
      have HQ := Lib.hid (And.intro hge2 hown)
      have c4 := hge.lb.c4
      have hmn' : (m : Int) < (n : Int) := by omega
      clear hge hge2 hown hpl hpc hsz hD hlt
      go_wp2
      obtain ⟨wd, hwd⟩ : ∃ z, z = wr.drew := ⟨_, rfl⟩
      have HD0 : Hid (Ge C w B w.heap.size (w.heap.size + 1) (nl D ++ (rawL (L.p.drop (m + 1)) ++ rest)) I J sk sv (.slice a q cp) wd ∧ wd.ownsRow (w.heap.size + 2) 9 1 (.slice a q cp) m (scells ps) ∧ w.heap.size + 2 ≤ wd.heap.size) := Lib.hid (by
        rw [hwd]
        exact ⟨HQ.out.1.below (Below.refl _ _).drew, own_belowB HQ.out.2 (Below.refl _ _).drew, HL.out.2.2⟩)
      refine Kq.wp_region_T 7 (fun cur => cur.cell? ⟨w.heap.size + 1, 4, none⟩ = some (.slice a q cp)) (by kernel_rfl) (by rw [← hwd]; exact HD0.out.1.lb.c4) (fun hS0 => ?_)
      rw [← hwd] at hS0 ⊢
      clear hwd c4 HQ
      refine Kq.wpAnyT_take (i := 0) (v := ?_) rfl rfl (by kernel_rfl) (by kernel_rfl) (by kernel_rfl) (by kernel_rfl) (fun _ _ _ h => h) (Or.inl ⟨by kernel_rfl, ?_⟩) (by assumption) ?_
      rotate_left
      · intro w hSw; (try dsimp only at hSw); go_simp; (try with_reducible rfl)
      refine Kq.wpAnyT_take (i := 2) (v := ?_) rfl rfl (by kernel_rfl) (by kernel_rfl) (by kernel_rfl) (by kernel_rfl) (fun _ _ _ h => h) (Or.inl ⟨by kernel_rfl, ?_⟩) (by assumption) ?_
      rotate_left
      · intro w hSw; (try dsimp only at hSw); go_simp; (try with_reducible rfl)
      refine Kq.wpAnyT_take (i := 1) (v := ?_) rfl rfl (by kernel_rfl) (by kernel_rfl) (by kernel_rfl) (by kernel_rfl) (fun _ _ _ h => h) (Or.inl ⟨by kernel_rfl, ?_⟩) (by assumption) ?_
      rotate_left
      · intro w hSw; (try dsimp only at hSw); go_simp; (try with_reducible rfl)
      refine Kq.wpAnyT_one (i := 3) (by kernel_rfl) rfl (fun K hK => ?_)
      go_simp
      refine (rc_raw C B wd 32 D _ HD0.out.1.rd HDC.out.1).mono ?_
      rintro x z1 ⟨d, hd, rfl, R1, K1⟩
      have HD1 : Hid (Ge C w B w.heap.size (w.heap.size + 1) (rawL (L.p.drop (m + 1)) ++ rest) I J sk sv (.slice a q cp) z1 ∧ z1.ownsRow (w.heap.size + 2) 9 1 (.slice a q cp) m (scells ps) ∧ w.heap.size + 2 ≤ z1.heap.size) := Lib.hid ⟨HD0.out.1.read R1 K1, own_keeps HD0.out.2.1 K1 (fun k hk => by have := HD0.out.1.ne; omega), Nat.le_trans HD0.out.2.2 K1.size⟩
      have HDD := Lib.hid hd
      clear R1 K1 HD0 hd hS0
      refine hK.out _ _ HD1.out.1.lb.c4 (fun hS0 => ?_)
      clear hK K
      refine Kq.wpAnyT_one (i := 4) (by kernel_rfl) rfl (fun K hK => ?_)
      go_simp
      have HD2 : Hid (Ge C w B w.heap.size (w.heap.size + 1) (rawL (L.p.drop (m + 1)) ++ rest) I J sk sv (.slice a q cp) (z1.alloc (.cells #[.string d] 9)) ∧ (z1.alloc (.cells #[.string d] 9)).ownsRow (w.heap.size + 2) 9 1 (.slice a q cp) m (scells ps) ∧ w.heap.size + 2 ≤ (z1.alloc (.cells #[.string d] 9)).heap.size) := Lib.hid ⟨HD1.out.1.below (Kq.below_alloc _ _), own_belowB HD1.out.2.1 (Kq.below_alloc _ _), Nat.le_trans HD1.out.2.2 (Kq.below_alloc _ _).size⟩
      have HSRC := Lib.hid (str_src z1 d)
      clear hS0 HD1
      refine hK.out _ _ HD2.out.1.lb.c4 (fun hS0 => ?_)
      clear hK K
      refine Kq.wpAnyT_one (i := 5) (by kernel_rfl) rfl (fun K hK => ?_)
      rw [if_pos (by kernel_rfl)]
      refine Kq.wp_append_any _ (.tmp 25) (.tmp 28) 88 88 rfl (w.heap.size + 2) 9 i0 (.string ⟨#[]⟩) 1 16 Tryz.underlying88 hi0 hz0 hz1 hz2 rfl (by decide) (.slice a q cp) m (scells ps) (by kernel_rfl) HD2.out.2.1 (.slice (some ⟨z1.heap.size, 0, none⟩) 1 1) 1 (scells [d]) (by kernel_rfl) HSRC.out ?e1 ?e2 HD2.out.2.2 ?_
      case e1 => unfold maxLen; omega
      case e2 => omega
      intro v' z3 hown3 hgrow hfresh
      obtain ⟨a', q', cp', hv'⟩ := Kq.own_shape hown3
      subst hv'
      have hk3 : Kq.Keeps (fun g => w.heap.size + 2 ≤ g) (z1.alloc (.cells #[.string d] 9)) z3 := Kq.Keeps.grown hgrow (fun g _ hg => own_geB HD2.out.2.1 hg)
      have HD3 : Hid (Ge C w B w.heap.size (w.heap.size + 1) (rawL (L.p.drop (m + 1)) ++ rest) I J sk sv (.slice a q cp) z3 ∧ z3.ownsRow (w.heap.size + 2) 9 1 (.slice a' q' cp') (m + 1) (scells (ps ++ [d])) ∧ w.heap.size + 2 ≤ z3.heap.size) := Lib.hid ⟨HD2.out.1.far hk3 (by omega) (by omega), by rw [scells_snoc]; exact hown3, Nat.le_trans HD2.out.2.2 hk3.size⟩
      clear hown3 hgrow hfresh hk3 HD2 HSRC hS0
      refine hK.out _ _ HD3.out.1.lb.c4 (fun hS0 => ?_)
      clear hK K
      refine Kq.wpAnyT_take (i := 6) (v := ?_) rfl rfl (by kernel_rfl) (by kernel_rfl) (by kernel_rfl) (by kernel_rfl) (fun _ _ _ h => h) (Or.inl ⟨by kernel_rfl, ?_⟩) (by assumption) ?_
      rotate_left
      · intro w hSw; (try dsimp only at hSw); go_simp; (try with_reducible rfl)
      have f4 := HD3.out.1.lb.fz 4
      have c4 := HD3.out.1.lb.c4
      refine Kq.wpAnyT_last (by kernel_rfl) rfl (fun K hK => ?_)
      go_simp
      refine hK.out _ _ ?_
      clear hK K
      refine Kq.wpAnyT_done (by kernel_rfl) ?_ _
      have HD4 : Hid (Ge C w B w.heap.size (w.heap.size + 1) (rawL (L.p.drop (m + 1)) ++ rest) I J sk sv (.slice a' q' cp') (z3.setCell ⟨w.heap.size + 1, 4, none⟩ (.slice a' q' cp')) ∧ (z3.setCell ⟨w.heap.size + 1, 4, none⟩ (.slice a' q' cp')).ownsRow (w.heap.size + 2) 9 1 (.slice a' q' cp') (m + 1) (scells (ps ++ [d])) ∧ w.heap.size + 2 ≤ (z3.setCell ⟨w.heap.size + 1, 4, none⟩ (.slice a' q' cp')).heap.size) := Lib.hid ⟨HD3.out.1.set 4 _ (HD3.out.1.lb.s4 _), own_keeps HD3.out.2.1 (Kq.Keeps.setCell (S := (· = w.heap.size + 1)) _ _ _ rfl) (fun k hk => by omega), by have := HD3.out.2.2; simpa using this⟩
      obtain ⟨wz, hwz⟩ : ∃ z, z = z3.setCell ⟨w.heap.size + 1, 4, none⟩ (.slice a' q' cp') := ⟨_, rfl⟩
      rw [← hwz] at HD4
      (try rw [← hwz])
      clear hwz HD3 f4 c4 hS0
      go_wp2
      go_roundw
      case rel => exact ⟨m + 1, ps ++ [d], a', q', cp', HL.out.1, by go_num, by rw [List.length_append, HL.out.2.1]; rfl, fun c => by rw [HDD.out c]; exact HDC.out.2 c, HD4.out.2.1, HD4.out.2.2, HD4.out.1⟩
      case measure => have := HL.out.1; simp [intOf]; omega
    · obtain rfl : m = n := by omega
      have HEND : Hid (∃ A cap, Value.slice a q cp = .slice A ps.length cap ∧ ps.length ≤ cap ∧ TxN wr (fun k => k < w.heap.size + 2) A ps) := Lib.hid (by
        rw [← hpl] at hown
        exact row_txn hown (fun k hk => by omega))
      obtain ⟨A, cap, hs, hcap, htx⟩ := HEND.out
      injection hs with e1 e2 e3
      subst e1 e2 e3
      have HE := Lib.hid (And.intro htx (And.intro hcap (And.intro hpl (And.intro hpc hge))))
      have c0 := hge.lb.c0
      have c1 := hge.lb.c1
      have c2 := hge.lb.c2
      have c3 := hge.lb.c3
      have c4 := hge.lb.c4
      have r0 := hge.rb.c0
      have r1 := hge.rb.c1
      have r2 := hge.rb.c2
      have r3 := hge.rb.c3
      have r4 := hge.rb.c4
      have g0 := hge.rb.fz 0
      have g1 := hge.rb.fz 1
      have g2 := hge.rb.fz 2
      have g3 := hge.rb.fz 3
      have g4 := hge.rb.fz 4
      clear HEND hge hown hpl hpc hcap htx hmn
      go_wp2
      have p1 := HE.out.2.2.2.2.rb.fill I J sk sv (.slice a ps.length cp)
      have p2 := filled5_keeps wr w.heap.size I J sk sv (.slice a ps.length cp)
      obtain ⟨Wf, hWf⟩ : ∃ Wf, Wf = filled5 wr w.heap.size I J sk sv (.slice a ps.length cp) := ⟨_, rfl⟩
      change bodyPost _ _ _ _ _ (filled5 wr w.heap.size I J sk sv (.slice a ps.length cp))
      rw [← hWf] at p1 p2 ⊢
      have z0 := p1.c0
      have z1 := p1.c1
      have z2 := p1.c2
      have z3 := p1.c3
      have z4 := p1.c4
      refine bodyPost_ret (v := .agg #[.int .i64 I, .int .i64 J, .string sk, .string sv, .slice a ps.length cp]) (by simp [results, Tryz.results100, go_sem, z0, z1, z2, z3, z4]) rfl ?_
      refine LfPost.mk' ⟨⟨I, J, sk, sv, ps⟩, a, cp⟩ (fun c => ?_) ?_ HE.out.2.1 ?_ ?_ ?_ rfl
      · have e := HE.out.2.2.2.1 c
        have hnl := HN.out.2 c
        rw [hnl, List.take_length] at e
        rw [e, HI.out c, HJ.out c, HSK.out c, HSV.out c]
      · have := HE.out.2.2.1; show ps.length ≤ 300; omega
      · exact (HE.out.1.keeps p2 (fun k _ hk => by omega)).mono (fun k _ hk => by omega)
      · have := HE.out.2.2.2.2.rd.keeps p2 (by have := HE.out.2.2.2.2.ne; omega)
        exact this.cast (fun c => by rw [HN.out.2 c, List.drop_length]; rfl)
      · exact keeps_far HE.out.2.2.2.2.keeps p2 (fun k hk => by omega)
end Go.Proofs.YtbjchfcoacmaaaaGreatDoor
namespace Go.Proofs.YtbjchfcoacmaaaaGreatDoor
open Go.RowKit
set_option linter.unusedVariables false
open Classical in
/-- may such leaves have bytes? -/
noncomputable def mayB (ls : List LfV) : Bool := if ls.length ≤ 2 ∧ ∀ l ∈ ls, LfMay l then true else false
theorem mayB_yes {ls : List LfV} (h : ls.length ≤ 2 ∧ ∀ l ∈ ls, LfMay l) : mayB ls = true := if_pos h
theorem mayB_no {ls : List LfV} (h : ¬ (ls.length ≤ 2 ∧ ∀ l ∈ ls, LfMay l)) : mayB ls = false := if_neg h
theorem vals_mem {ls : List LfW} {j : Nat} (h : j < ls.length) : ls[j].l ∈ vals ls := List.mem_map_of_mem (List.getElem_mem _)
set_option maxRecDepth 100000 in
set_option maxHeartbeats 4000000 in
theorem pf_may (S : Nat → Prop) (A : Option Addr) (cap : Nat) (ls : List LfW) (w : World) (hA : LfsN w S A ls) (hn : ls.length ≤ 1000) (hp : ∀ x ∈ ls, x.l.p.length ≤ 1000) :
    Calls Tryz.prog 91 #[.slice A ls.length cap] w fun x w' => x = .returned (.bool (mayB (vals ls))) ∧ Below w.heap.size w w' := by
  have HA := Lib.hid hA
  have HP := Lib.hid hp
  have HN := Lib.hid hn
  clear hA hp
  by_cases h2 : 2 < ls.length
  · have d1 : decide ((2 : Int) < (ls.length : Int)) = true := decide_eq_true (by omega)
    have d2 : decide (2 < ls.length) = true := decide_eq_true h2
    have HE : Hid (mayB (vals ls) = false) := Lib.hid (mayB_no (fun h => by have := h.1; rw [vals_len] at this; omega))
    clear h2
    go_enter Tryz.func91, Tryz.ntmps91
    go_wp2
    go_ret
    exact ⟨by rw [HE.out]; rfl, Below.refl _ _⟩
  have d1 : decide ((2 : Int) < (ls.length : Int)) = false := decide_eq_false (by omega)
  have d2 : decide (2 < ls.length) = false := decide_eq_false h2
  have H2 := Lib.hid h2
  clear h2
  go_enter Tryz.func91, Tryz.ntmps91
  go_wp2
  go_loopw [12] (fun i wr => ∃ j : Nat, j ≤ ls.length ∧ i = .int .i64 (j : Int) ∧ (∀ i (hi : i < ls.length), i < j → LfMay ls[i].l) ∧ Below w.heap.size w wr) (fun i _ => ls.length - (intOf i).toNat)
  case atStart => exact ⟨0, by omega, rfl, fun i _ hi => absurd hi (Nat.not_lt_zero _), Below.refl _ _⟩
  case round =>
    obtain ⟨j, hj, rfl, hup, hbl⟩ := hrel
    have HUP := Lib.hid (And.intro hup hbl)
    have hn' := HN.out
    by_cases hlt : j < ls.length
    · obtain ⟨b, off, rfl, -, hb, hc, ht, -⟩ := (HA.out.below hbl) j hlt
      have hpl := HP.out ls[j] (List.getElem_mem _)
      have HV : Hid (∀ z : LfV, z = ls[j].l → ¬ LfMay z → mayB (vals ls) = false) := Lib.hid (fun z hz hno => mayB_no (fun h => hno (by rw [hz]; exact h.2 _ (vals_mem hlt))))
      obtain ⟨x, hx⟩ : ∃ x, x = ls[j] := ⟨_, rfl⟩
      rw [← hx] at hc ht hpl HV
      have HX := Lib.hid hx
      have HLT := Lib.hid hlt
      have hi0 : (j : Int) < (ls.length : Int) := by omega
      clear hup hbl hb hx
      obtain ⟨⟨i, c, k, v, p⟩, a, cp⟩ := x
      obtain ⟨c0, c1, c2, c3, c4⟩ := hc
      simp only at c0 c1 c2 c3 c4 ht hpl HV
      have HB : Hid (Below w.heap.size w (wr.alloc (.cells #[.int .i64 i, .int .i64 c, .string k, .string v, .slice a p.length cp] 108))) := Lib.hid (HUP.out.2.trans ((Kq.below_alloc _ _).mono HUP.out.2.size))
      by_cases t1 : i < 0 ∨ 4096 < i
      · have HE : Hid (mayB (vals ls) = false) := Lib.hid (HV.out _ rfl (fun h => by have := h.i0; have := h.i1; simp only at *; omega))
        clear ht
        by_cases u1 : i < 0
        · have e1 : decide (i < 0) = true := decide_eq_true u1
          clear t1 u1
          go_wp2
          go_ret
          exact ⟨by rw [HE.out]; rfl, HB.out⟩
        · have e1 : decide (i < 0) = false := decide_eq_false u1
          have e2 : decide (4096 < i) = true := decide_eq_true (t1.resolve_left u1)
          clear t1 u1
          go_wp2
          go_ret
          exact ⟨by rw [HE.out]; rfl, HB.out⟩
      have e1 : decide (i < 0) = false := decide_eq_false (fun h => t1 (Or.inl h))
      have e2 : decide (4096 < i) = false := decide_eq_false (fun h => t1 (Or.inr h))
      by_cases t2 : c < 0 ∨ 4096 < c
      · have HE : Hid (mayB (vals ls) = false) := Lib.hid (HV.out _ rfl (fun h => by have := h.c0; have := h.c1; simp only at *; omega))
        clear ht
        by_cases u1 : c < 0
        · have e3 : decide (c < 0) = true := decide_eq_true u1
          clear t1 t2 u1
          go_wp2
          go_ret
          exact ⟨by rw [HE.out]; rfl, HB.out⟩
        · have e3 : decide (c < 0) = false := decide_eq_false u1
          have e4 : decide (4096 < c) = true := decide_eq_true (t2.resolve_left u1)
          clear t1 t2 u1
          go_wp2
          go_ret
          exact ⟨by rw [HE.out]; rfl, HB.out⟩
      have e3 : decide (c < 0) = false := decide_eq_false (fun h => t2 (Or.inl h))
      have e4 : decide (4096 < c) = false := decide_eq_false (fun h => t2 (Or.inr h))
      by_cases t3 : 16 < k.size
      · have HE : Hid (mayB (vals ls) = false) := Lib.hid (HV.out _ rfl (fun h => by have := h.k; simp only at *; omega))
        have e5 : decide ((16 : Int) < (k.size : Int)) = true := decide_eq_true (by omega)
        have e5' : decide (16 < k.size) = true := decide_eq_true t3
        clear ht t1 t2 t3
        go_wp2
        go_ret
        exact ⟨by rw [HE.out]; rfl, HB.out⟩
      have e5 : decide ((16 : Int) < (k.size : Int)) = false := decide_eq_false (by omega)
      have e5' : decide (16 < k.size) = false := decide_eq_false t3
      by_cases t4 : 64 < v.size
      · have HE : Hid (mayB (vals ls) = false) := Lib.hid (HV.out _ rfl (fun h => by have := h.v; simp only at *; omega))
        have e6 : decide ((64 : Int) < (v.size : Int)) = true := decide_eq_true (by omega)
        have e6' : decide (64 < v.size) = true := decide_eq_true t4
        clear ht t1 t2 t3 t4
        go_wp2
        go_ret
        exact ⟨by rw [HE.out]; rfl, HB.out⟩
      have e6 : decide ((64 : Int) < (v.size : Int)) = false := decide_eq_false (by omega)
      have e6' : decide (64 < v.size) = false := decide_eq_false t4
      by_cases t5 : 16 < p.length
      · have HE : Hid (mayB (vals ls) = false) := Lib.hid (HV.out _ rfl (fun h => by have := h.n; simp only at *; omega))
        have e7 : decide ((16 : Int) < (p.length : Int)) = true := decide_eq_true (by omega)
        have e7' : decide (16 < p.length) = true := decide_eq_true t5
        clear ht t1 t2 t3 t4 t5
        go_wp2
        go_ret
        exact ⟨by rw [HE.out]; rfl, HB.out⟩
      have e7 : decide ((16 : Int) < (p.length : Int)) = false := decide_eq_false (by omega)
      have e7' : decide (16 < p.length) = false := decide_eq_false t5
      have HT := Lib.hid (ht.below (Kq.below_alloc wr (.cells #[.int .i64 i, .int .i64 c, .string k, .string v, .slice a p.length cp] 108)))
      have HG : Hid (0 ≤ i ∧ i ≤ 4096 ∧ 0 ≤ c ∧ c ≤ 4096 ∧ k.size ≤ 16 ∧ v.size ≤ 64 ∧ p.length ≤ 16) := Lib.hid (by omega)
      clear ht t1 t2 t3 t4 t5
      go_wp2
      go_loop [56] (fun u => ∃ m : Nat, m ≤ p.length ∧ u = .int .i64 (m : Int) ∧ (∀ q (hq : q < p.length), q < m → p[q].size = 32)) (fun u => p.length - (intOf u).toNat)
      case atStart => exact ⟨0, by omega, rfl, fun q _ hq => absurd hq (Nat.not_lt_zero _)⟩
      case round =>
        obtain ⟨m, hm, rfl, hup2⟩ := hrel
        have HUP2 := Lib.hid hup2
        by_cases hlt2 : m < p.length
        · obtain ⟨g, o, rfl, -, -, cm⟩ := HT.out m hlt2
          have HV2 : Hid (¬ p[m].size = 32 → mayB (vals ls) = false) := Lib.hid (fun hno => HV.out _ rfl (fun h => hno (h.d _ (List.getElem_mem _))))
          obtain ⟨d, hd⟩ : ∃ d, d = p[m] := ⟨_, rfl⟩
          rw [← hd] at cm HV2
          have HD := Lib.hid hd
          have HLT2 := Lib.hid hlt2
          have hi1 : (m : Int) < (p.length : Int) := by omega
          clear hup2 hd
          by_cases h32 : d.size = 32
          · have e8 : ((d.size : Int) != 32) = false := by rw [bne_eq_false_iff_eq]; omega
            have HS := Lib.hid h32
            clear h32
            go_wp2
            go_round
            case rel =>
              refine ⟨m + 1, HLT2.out, by go_num, fun q hq h => ?_⟩
              rcases Nat.lt_or_ge q m with h' | h'
              · exact HUP2.out q hq h'
              · obtain rfl : q = m := by omega
                rw [← HD.out]; exact HS.out
            case measure => have := HLT2.out; simp [intOf]; omega
          · have e8 : ((d.size : Int) != 32) = true := by rw [bne_iff_ne]; omega
            have HE := Lib.hid (HV2.out h32)
            clear h32
            go_wp2
            go_ret
            exact ⟨by rw [HE.out]; rfl, HB.out⟩
        · obtain rfl : m = p.length := by omega
          have HM : Hid (LfMay ⟨i, c, k, v, p⟩) := Lib.hid ⟨HG.out.1, HG.out.2.1, HG.out.2.2.1, HG.out.2.2.2.1, HG.out.2.2.2.2.1, HG.out.2.2.2.2.2.1, HG.out.2.2.2.2.2.2, fun d hd => by
            obtain ⟨q, hq, rfl⟩ := List.getElem_of_mem hd
            exact hup2 q hq hq⟩
          clear hup2
          go_wp2
          go_roundw
          case rel =>
            refine ⟨j + 1, HLT.out, by go_num, fun q hq h => ?_, HB.out⟩
            rcases Nat.lt_or_ge q j with h' | h'
            · exact HUP.out.1 q hq h'
            · obtain rfl : q = j := by omega
              rw [← HX.out]; exact HM.out
          case measure => have := HLT.out; simp [intOf]; omega
    · obtain rfl : j = ls.length := by omega
      have HE : Hid (mayB (vals ls) = true) := Lib.hid (mayB_yes ⟨by rw [vals_len]; have := H2.out; omega, fun l hl => by
        obtain ⟨x, hx, rfl⟩ := List.mem_map.1 hl
        obtain ⟨q, hq, rfl⟩ := List.getElem_of_mem hx
        exact HUP.out.1 q hq hq⟩)
      clear hup
      go_wp2
      go_ret
      exact ⟨by rw [HE.out]; rfl, hbl⟩
/-- a write that leaves a block as it was -/
theorem WrMid.stepX {w wr w' : World} {base B : Nat} {v0 v : Value} {e e' : Int} {l l' : List Nat} (h : WrMid w base B v0 e v l wr) {x : Ending} (hp : WrAny wr base B v e' l' x w') {X : Nat} {o : Obj} (hb : wr.heap[X]? = some o) (h1 : X ≠ B ∧ some X ≠ v.ownBlock) :
    ∃ v', WrMid w base B v0 e' v' l' w' ∧ w'.heap[X]? = some o ∧ (X ≠ B ∧ some X ≠ v'.ownBlock) := by
  obtain ⟨_, v', h2, h3, h4⟩ := hp
  refine ⟨v', h.stepV h2 h3 h4, h3.blk hb (fun hc => ?_), h1.1, fun hc => ?_⟩
  · rcases hc with hc | hc
    · exact h1.1 hc
    · exact h1.2 hc
  · rcases h4 X hc.symm with hc | hc
    · exact h1.2 hc
    · exact absurd (Kq.blk_lt hb) (Nat.not_lt.2 hc)
/-- what a call tells that tells bytes and a code -/
def BsPost (w : World) (r : ByteArray × Int) (x : Ending) (w' : World) : Prop := x = .returned (.tuple #[.string r.1, .int .i64 r.2]) ∧ Below w.heap.size w w'
theorem pfBytes_no {p : PfV} (h : ¬ (p.ls.length ≤ 2 ∧ ∀ l ∈ p.ls, LfMay l)) : pfBytes p = (⟨#[]⟩, 1) := if_neg h
theorem pfBytes_yes {p : PfV} (h : p.ls.length ≤ 2 ∧ ∀ l ∈ p.ls, LfMay l) : pfBytes p = (txt (pfB p), 0) := if_pos h
theorem lsB_take (ls : List LfV) (j : Nat) (h : j < ls.length) : lsB (ls.take (j + 1)) = lsB (ls.take j) ++ lfB ls[j] := by
  rw [List.take_succ_eq_append_getElem h, lsB_append]; simp [lsB]
theorem rawL_take (p : List ByteArray) (j : Nat) (h : j < p.length) : rawL (p.take (j + 1)) = rawL (p.take j) ++ nl p[j] := by
  rw [List.take_succ_eq_append_getElem h, rawL_append]; simp [rawL]
theorem rawL_len : ∀ (p : List ByteArray), (∀ d ∈ p, d.size = 32) → (rawL p).length = 32 * p.length
  | [], _ => rfl
  | d :: p, h => by
    have := rawL_len p (fun x hx => h x (List.mem_cons_of_mem _ hx))
    simp only [rawL, List.length_append, nl_length, h d List.mem_cons_self, List.length_cons]; omega
theorem num8_length (n : Nat) : (num8 n).length = 8 := rfl
theorem lfB_len {l : LfV} (h : LfMay l) : (lfB l).length ≤ 700 := by
  have h1 := h.k
  have h2 := h.v
  have h3 := h.n
  have h4 := rawL_len l.p h.d
  simp only [lfB, tx2, List.length_append, nl_length, List.length_cons, List.length_nil, num8_length]
  omega
theorem lsB_len : ∀ (ls : List LfV), (∀ l ∈ ls, LfMay l) → (lsB ls).length ≤ 700 * ls.length
  | [], _ => by simp [lsB]
  | l :: ls, h => by
    have h1 := lsB_len ls (fun x hx => h x (List.mem_cons_of_mem _ hx))
    have h2 := lfB_len (h l List.mem_cons_self)
    simp only [lsB, List.length_append, List.length_cons]; omega
end Go.Proofs.YtbjchfcoacmaaaaGreatDoor
