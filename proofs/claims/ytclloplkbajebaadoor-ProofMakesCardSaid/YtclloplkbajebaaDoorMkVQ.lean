/- Merged: MkU, MkV. Contracts of merkle's digests, Climb. Condition: the constants lie where they lie; sizes. Contract of merkle.Climb. Condition: the constants lie where they lie; sizes. -/
import Derived.WalkSpells
import Derived.Outline
import Derived.Laws.EntriesVeiled
import Derived.Test.YtclloplkbajebaaDoorMkBQ
namespace Go.Proofs.YtclloplkbajebaaDoor
open Go.RowKit
set_option linter.unusedVariables false
def All32 (ps : List ByteArray) : Prop := ∀ s ∈ ps, s.size = 32
instance (ps : List ByteArray) : Decidable (All32 ps) := by unfold All32; infer_instance
set_option maxRecDepth 100000 in
set_option maxHeartbeats 1000000 in
theorem mk_digests (A : Option Addr) (cap : Nat) (ps : List ByteArray) (w : World) (hA : PartsAt w A ps) (hn : ps.length ≤ 1000) :
    Calls Tryd.prog 83 #[.slice A ps.length cap] w fun x w' => x = .returned (.bool (decide (All32 ps))) ∧ w = w' := by
  have HA := Lib.hid hA
  have HN := Lib.hid hn
  clear hA hn
  go_enter Tryd.func83, Tryd.ntmps83
  go_wp2
  go_loop [7] (fun i => ∃ j : Nat, j ≤ ps.length ∧ i = .int .i64 (j : Int) ∧ (∀ i (hi : i < ps.length), i < j → ps[i].size = 32)) (fun i => ps.length - (intOf i).toNat)
  case atStart => exact ⟨0, by omega, rfl, fun i _ hi => absurd hi (Nat.not_lt_zero _)⟩
  case round =>
    obtain ⟨j, hj, rfl, hup⟩ := hrel
    have HUP := Lib.hid hup
    have hn' := HN.out
    by_cases hlt : j < ps.length
    · obtain ⟨g, o, rfl, hg, c0⟩ := HA.out j hlt
      obtain ⟨s, hs⟩ : ∃ s, s = ps[j] := ⟨_, rfl⟩
      rw [← hs] at c0
      have HSJ := Lib.hid hs
      have HLT := Lib.hid hlt
      have hi0 : (j : Int) < (ps.length : Int) := by omega
      clear hup hg hs
      by_cases h32 : s.size = 32
      · have q1 : ((s.size : Int) != 32) = false := by rw [bne_eq_false_iff_eq]; omega
        have HG : Hid ((ps[j]'HLT.out).size = 32) := Lib.hid (by rw [← HSJ.out]; exact h32)
        clear h32
        go_wp2
        go_round
        case rel =>
          refine ⟨j + 1, HLT.out, by go_num, fun i hi h => ?_⟩
          rcases Nat.lt_or_ge i j with h' | h'
          · exact HUP.out i hi h'
          · have : i = j := by omega
            subst this
            exact HG.out
        case measure => have := HLT.out; simp [intOf]; omega
      · have q1 : ((s.size : Int) != 32) = true := by rw [bne_iff_ne]; omega
        have HF : Hid (decide (All32 ps) = false) := Lib.hid (decide_eq_false (fun h => h32 (h s (by rw [HSJ.out]; exact List.getElem_mem _))))
        clear h32
        go_wp2
        go_ret
        exact ⟨by rw [HF.out]; rfl, rfl⟩
    · obtain rfl : j = ps.length := by omega
      have HF : Hid (decide (All32 ps) = true) := Lib.hid (decide_eq_true (fun s hs => by
        obtain ⟨i, hi, rfl⟩ := List.getElem_of_mem hs
        exact HUP.out i hi hi))
      clear HUP hup
      go_wp2
      go_ret
      exact ⟨by rw [HF.out]; rfl, rfl⟩
/-- the leaf's box and the closure's -/
structure UpAt (w : World) (X U : Nat) (idx cnt : Int) (p : PairV) (v : Value) : Prop where
  bx : w.heap[X]? = some (.cells #[.int .i64 idx, .int .i64 cnt, .string p.1, .string p.2, v] 30 (0, 0))
  bu : w.cell? ⟨U, 0, none⟩ = some (.func (.func 84) #[] #[.pointer (some ⟨X, 0, none⟩), .pointer (some ⟨U, 0, none⟩)])
  lt : U < w.heap.size
theorem UpAt.below {w w' : World} {X U : Nat} {idx cnt : Int} {p : PairV} {v : Value} (h : UpAt w X U idx cnt p v) (hb : Below w.heap.size w w') : UpAt w' X U idx cnt p v :=
  ⟨Kq.below_blk hb h.bx (Kq.blk_lt h.bx), (hb.cell (p := ⟨U, 0, none⟩) h.lt).trans h.bu, Nat.lt_of_lt_of_le h.lt hb.size⟩
theorem PartsAt.take {w : World} {A : Option Addr} {l : List ByteArray} (h : PartsAt w A l) (k : Nat) : PartsAt w A (l.take k) := fun j hj => by
  rw [List.length_take] at hj
  obtain ⟨g, o, rfl, h1, h2⟩ := h j (by omega)
  exact ⟨g, o, rfl, h1, by rw [List.getElem_take]; exact h2⟩
def UpOk (p : PairV) (n : Nat) : Prop := ∀ (i c : Nat) (ps : List ByteArray) (A : Option Addr) (cap X U : Nat) (idx cnt : Int) (pv : Value) (w : World), c ≤ n → 1 ≤ c → c ≤ 4096 → i < c → p.1.size + p.2.size ≤ 90000 → ps.length ≤ 1000 → All32 ps → UpAt w X U idx cnt p pv → PartsAt w A ps → ps.length ≤ cap → LaidOk w →
  Calls Tryd.prog 84 #[.int .i64 (i : Int), .int .i64 (c : Int), .slice A ps.length cap, .pointer (some ⟨X, 0, none⟩), .pointer (some ⟨U, 0, none⟩)] w fun x w' => x = .returned (.tuple #[.string (up p i c ps).1, .bool (up p i c ps).2]) ∧ Below w.heap.size w w'
set_option maxRecDepth 100000 in
set_option maxHeartbeats 1000000 in
theorem up_walk_one (p : PairV) (i : Nat) (ps : List ByteArray) (A : Option Addr) (cap X U : Nat) (idx cnt : Int) (pv : Value) (w : World) (hs : p.1.size + p.2.size ≤ 90000) (hn : ps.length ≤ 1000) (hU : UpAt w X U idx cnt p pv) (hL : LaidOk w) :
    Calls Tryd.prog 84 #[.int .i64 (i : Int), .int .i64 1, .slice A ps.length cap, .pointer (some ⟨X, 0, none⟩), .pointer (some ⟨U, 0, none⟩)] w fun x w' => x = .returned (.tuple #[.string (up p i 1 ps).1, .bool (up p i 1 ps).2]) ∧ Below w.heap.size w w' := by
  have HR : Hid ((up p i 1 ps).1 = dgT (leafT p) ∧ (up p i 1 ps).2 = decide (ps.length = 0)) := Lib.hid ⟨rfl, rfl⟩
  rw [HR.out.1, HR.out.2]
  have HX := Lib.hid (mk_leaf p w hL hs)
  have c2 := Kq.blk_cell hU.bx 2
  have c3 := Kq.blk_cell hU.bx 3
  simp only [List.getElem?_toArray, List.getElem?_cons_zero, List.getElem?_cons_succ] at c2 c3
  obtain ⟨k, v⟩ := p
  simp only at c2 c3 HX
  generalize dgT (leafT (k, v)) = D at *
  clear hs hU hL HR
  by_cases h0 : ps.length = 0
  · have HDEC : Hid (decide (ps.length = 0) = true) := Lib.hid (decide_eq_true h0)
    rw [HDEC.out]
    have hm1 : IntKind.i64.wrap ((ps.length : Int) - 1) = -1 := by rw [IntWalk.i64_in _ (by omega)]; omega
    have hm2 : wrap64 ((ps.length : Int) - 1) = -1 := by rw [IntWalk.wrap64_in _ (by omega)]; omega
    have hm4 : wrap64 (-1) = -1 := by rw [IntWalk.wrap64_in _ (by omega)]
    have hm3 : (ps.length : Int) - 1 = -1 := by omega
    clear h0 hn
    go_enter Tryd.func84, Tryd.ntmps84
    go_wp2_with fail
    refine HX.out.mono ?_
    rintro x w2 ⟨rfl, b2⟩
    have HB := Lib.hid b2
    clear b2
    go_wp2
    go_ret2
    exact ⟨rfl, HB.out⟩
  · have HDEC : Hid (decide (ps.length = 0) = false) := Lib.hid (decide_eq_false h0)
    rw [HDEC.out]
    obtain ⟨m, hm⟩ : ∃ m, m = ps.length - 1 := ⟨_, rfl⟩
    have hm1 : IntKind.i64.wrap ((ps.length : Int) - 1) = (m : Int) := by rw [IntWalk.i64_in _ (by omega)]; omega
    have hm2 : wrap64 ((ps.length : Int) - 1) = (m : Int) := by rw [IntWalk.wrap64_in _ (by omega)]; omega
    have hm3 : (ps.length : Int) - 1 = (m : Int) := by omega
    have d1 : decide ((m : Int) < 0) = false := decide_eq_false (by omega)
    have hmB : m ≤ 1000 := by omega
    clear h0 hn hm
    go_enter Tryd.func84, Tryd.ntmps84
    go_wp2_with fail
    refine HX.out.mono ?_
    rintro x w2 ⟨rfl, b2⟩
    have HB := Lib.hid b2
    clear b2
    go_wp2
    go_ret2
    exact ⟨rfl, HB.out⟩
set_option maxRecDepth 100000 in
set_option maxHeartbeats 1000000 in
theorem up_walk_none (p : PairV) (i c : Nat) (ps : List ByteArray) (A : Option Addr) (cap X U : Nat) (w : World) (h2 : 2 ≤ c) (hc : c ≤ 4096) (h0 : ps.length = 0) :
    Calls Tryd.prog 84 #[.int .i64 (i : Int), .int .i64 (c : Int), .slice A ps.length cap, .pointer (some ⟨X, 0, none⟩), .pointer (some ⟨U, 0, none⟩)] w fun x w' => x = .returned (.tuple #[.string (up p i c ps).1, .bool (up p i c ps).2]) ∧ Below w.heap.size w w' := by
  rw [up_none p i c ps h2 h0]
  have hm1 : IntKind.i64.wrap ((ps.length : Int) - 1) = -1 := by rw [IntWalk.i64_in _ (by omega)]; omega
  have hm2 : wrap64 ((ps.length : Int) - 1) = -1 := by rw [IntWalk.wrap64_in _ (by omega)]; omega
  have hm4 : wrap64 (-1) = -1 := by rw [IntWalk.wrap64_in _ (by omega)]
  have hm3 : (ps.length : Int) - 1 = -1 := by omega
  have e1 : ((c : Int) == 1) = false := by rw [beq_eq_false_iff_ne]; omega
  clear h0
  go_enter Tryd.func84, Tryd.ntmps84
  go_wp2
  go_ret2
  exact ⟨rfl, Below.refl _ _⟩
set_option maxRecDepth 100000 in
set_option maxHeartbeats 2000000 in
theorem up_walk_left (p : PairV) (n : Nat) (ih : UpOk p n) (i c : Nat) (ps : List ByteArray) (A : Option Addr) (cap X U : Nat) (idx cnt : Int) (pv : Value) (w : World) (hcn : c ≤ n + 1) (h2 : 2 ≤ c) (hc : c ≤ 4096) (hi : i < c) (hs : p.1.size + p.2.size ≤ 90000) (hn : ps.length ≤ 1000) (h32 : All32 ps) (hU : UpAt w X U idx cnt p pv) (hA : PartsAt w A ps) (hcap : ps.length ≤ cap) (hL : LaidOk w) (h0 : ps.length ≠ 0) (hik : i < leftN c) :
    Calls Tryd.prog 84 #[.int .i64 (i : Int), .int .i64 (c : Int), .slice A ps.length cap, .pointer (some ⟨X, 0, none⟩), .pointer (some ⟨U, 0, none⟩)] w fun x w' => x = .returned (.tuple #[.string (up p i c ps).1, .bool (up p i c ps).2]) ∧ Below w.heap.size w w' := by
  rw [(up_many p i c ps h2 h0).1 hik]
  obtain ⟨k, hk⟩ : ∃ k, k = leftN c := ⟨_, rfl⟩
  have hk1 : 1 ≤ k := by rw [hk]; exact leftN_pos _
  have hk2 : k < c := by rw [hk]; exact leftN_lt _ h2
  have HL := Lib.hid (fun w => mk_left c w h2 (by omega))
  rw [← hk] at HL hik ⊢
  clear hk
  obtain ⟨m, hm⟩ : ∃ m, m = ps.length - 1 := ⟨_, rfl⟩
  rw [← hm]
  have hmt : (ps.take m).length = m := by rw [List.length_take]; omega
  have hg : ps.getD m ⟨#[]⟩ = ps[m]'(by omega) := by rw [List.getD_eq_getElem?_getD, List.getElem?_eq_getElem (by omega)]; rfl
  obtain ⟨b, off, rfl, hlt, -⟩ := hA 0 (by omega)
  obtain ⟨b', off', he, hlt', cm⟩ := hA m (by omega)
  simp only [Option.some.injEq, Addr.mk.injEq] at he
  obtain ⟨rfl, rfl, -⟩ := he
  rw [← hg] at cm
  have hz : (ps.getD m ⟨#[]⟩).size = 32 := by rw [hg]; exact h32 _ (List.getElem_mem _)
  have HCM := Lib.hid (show ∀ w', Below w.heap.size w w' → w'.cell? ⟨b, off + m, none⟩ = some (.string (ps.getD m ⟨#[]⟩)) from fun w' hb => (hb.cell (p := ⟨b, off + m, none⟩) hlt).trans cm)
  have HIH : Hid (∀ w' cap', UpAt w' X U idx cnt p pv → PartsAt w' (some ⟨b, off, none⟩) ps → m ≤ cap' → LaidOk w' → Calls Tryd.prog 84 #[.int .i64 (i : Int), .int .i64 (k : Int), .slice (some ⟨b, off, none⟩) m cap', .pointer (some ⟨X, 0, none⟩), .pointer (some ⟨U, 0, none⟩)] w' fun x w'' => x = .returned (.tuple #[.string (up p i k (ps.take m)).1, .bool (up p i k (ps.take m)).2]) ∧ Below w'.heap.size w' w'') := Lib.hid (fun w' cap' h1 h2' h3 h4 => by
    have := ih i k (ps.take m) (some ⟨b, off, none⟩) cap' X U idx cnt pv w' (by omega) (by omega) (by omega) hik hs (by omega) (fun s hs => h32 s (List.mem_of_mem_take hs)) h1 (h2'.take m) (by omega) h4
    rwa [hmt] at this)
  have hsz := (up_size p k i k (ps.take m) (Nat.le_refl _) hk1).1
  obtain ⟨R, hR⟩ : ∃ R, R = up p i k (ps.take m) := ⟨_, rfl⟩
  rw [← hR] at HIH hsz
  rw [← hR]
  clear hR
  obtain ⟨D, ok⟩ := R
  simp only at HIH hsz ⊢
  have HSZ := Lib.hid hsz
  have HZ := Lib.hid hz
  have hm1 : IntKind.i64.wrap ((ps.length : Int) - 1) = (m : Int) := by rw [IntWalk.i64_in _ (by omega)]; omega
  have hm2 : wrap64 ((ps.length : Int) - 1) = (m : Int) := by rw [IntWalk.wrap64_in _ (by omega)]; omega
  have hm3 : (ps.length : Int) - 1 = (m : Int) := by omega
  have d1 : decide ((m : Int) < 0) = false := decide_eq_false (by omega)
  have e1 : ((c : Int) == 1) = false := by rw [beq_eq_false_iff_ne]; omega
  have d3 : decide ((i : Int) < (k : Int)) = true := decide_eq_true (by omega)
  have d4 : decide (i < k) = true := decide_eq_true hik
  have hc1 : (m : Int) ≤ (cap : Int) := by omega
  have hc3 : (m : Int) < (ps.length : Int) := by omega
  have HMC := Lib.hid (show m ≤ cap by omega)
  have H := Lib.hid (And.intro hU (And.intro hA hL))
  generalize ps.getD m ⟨#[]⟩ = E at *
  clear hsz hz h32 hU hA hcap hL h0 hik hmt hg hlt hlt' cm hm hs hi hcn
  go_enter Tryd.func84, Tryd.ntmps84
  go_wp2_with fail
  refine (HL.out w).mono ?_
  rintro x w1 ⟨rfl, rfl⟩
  go_wp2
  have HW : Hid (UpAt w.drew X U idx cnt p pv ∧ PartsAt w.drew (some ⟨b, off, none⟩) ps ∧ LaidOk w.drew ∧ Below w.heap.size w w.drew) := Lib.hid ⟨H.out.1.below (Below.refl _ _).drew, H.out.2.1.below (Below.refl _ _).drew, H.out.2.2.later (Below.refl _ _).drew, (Below.refl _ _).drew⟩
  refine wp_region_any (by kernel_rfl) ?_
  (try (change wpAny _ _ _ _ _ _ _ (World.drew _)))
  generalize w.drew = z0 at *
  have cu := HW.out.1.bu
  refine wpAny_take (i := 1) (v := ?_) rfl (by kernel_rfl) (by kernel_rfl) (by kernel_rfl) (fun _ _ _ h => h) (Or.inl ⟨by kernel_rfl, ?_⟩) ?_
  rotate_left
  · intro w; go_simp; with_reducible rfl
  refine wpAny_take (i := 2) (v := ?_) rfl (by kernel_rfl) (by kernel_rfl) (by kernel_rfl) (fun _ _ _ h => h) (Or.inl ⟨by kernel_rfl, ?_⟩) ?_
  rotate_left
  · intro w; go_simp; with_reducible rfl
  refine wpAny_take (i := 3) (v := ?_) rfl (by kernel_rfl) (by kernel_rfl) (by kernel_rfl) (fun _ _ _ h => h) (Or.inl ⟨by kernel_rfl, ?_⟩) ?_
  rotate_left
  · intro w; go_simp; with_reducible rfl
  refine wpAny_take (i := 4) (v := ?_) rfl (by kernel_rfl) (by kernel_rfl) (by kernel_rfl) (fun _ _ _ h => h) (Or.inl ⟨by kernel_rfl, ?_⟩) ?_
  rotate_left
  · intro w; go_simp; with_reducible rfl
  refine wpAny_take (i := 5) (v := ?_) rfl (by kernel_rfl) (by kernel_rfl) (by kernel_rfl) (fun _ _ _ h => h) (Or.inl ⟨by kernel_rfl, ?_⟩) ?_
  rotate_left
  · intro w; go_simp; with_reducible rfl
  refine wpAny_ready (rs := [0]) (by kernel_rfl) (by simp) ?_
  refine AllReady.cons rfl (fun K hK => ?_) AllReady.nil
  go_simp
  (first | (refine hK _ _ ?_; clear hK K) | skip)
  refine wpAny_ready (rs := [6]) (by kernel_rfl) (by simp) ?_
  refine AllReady.cons rfl (fun K hK => ?_) AllReady.nil
  go_simp
  refine (HIH.out _ _ HW.out.1 HW.out.2.1 HMC.out HW.out.2.2.1).mono ?_
  rintro x z1 ⟨rfl, hb1⟩
  have HW1 : Hid (Below w.heap.size w z1 ∧ LaidOk z1) := Lib.hid ⟨HW.out.2.2.2.trans (hb1.mono HW.out.2.2.2.size), HW.out.2.2.1.later hb1⟩
  clear hb1 HW cu
  (first | (refine hK _ _ ?_; clear hK K) | skip)
  refine wpAny_take (i := 7) (v := ?_) rfl (by kernel_rfl) (by kernel_rfl) (by kernel_rfl) (fun _ _ _ h => h) (Or.inl ⟨by kernel_rfl, ?_⟩) ?_
  rotate_left
  · intro w; go_simp; with_reducible rfl
  refine wpAny_take (i := 8) (v := ?_) rfl (by kernel_rfl) (by kernel_rfl) (by kernel_rfl) (fun _ _ _ h => h) (Or.inl ⟨by kernel_rfl, ?_⟩) ?_
  rotate_left
  · intro w; go_simp; with_reducible rfl
  refine wpAny_take (i := 9) (v := ?_) rfl (by kernel_rfl) (by kernel_rfl) (by kernel_rfl) (fun _ _ _ h => h) (Or.inl ⟨by kernel_rfl, ?_⟩) ?_
  rotate_left
  · intro w; go_simp; with_reducible rfl
  refine wpAny_take (i := 10) (v := ?_) rfl (by kernel_rfl) (by kernel_rfl) (by kernel_rfl) (fun _ _ _ h => h) (Or.inl ⟨by kernel_rfl, ?_⟩) ?_
  rotate_left
  · intro w; go_simp; with_reducible rfl
  refine wpAny_take (i := 11) (v := ?_) rfl (by kernel_rfl) (by kernel_rfl) (by kernel_rfl) (fun _ _ _ h => h) (Or.inl ⟨by kernel_rfl, ?_⟩) ?_
  rotate_left
  · intro w; go_simp; with_reducible rfl
  refine wpAny_done (by kernel_rfl) ?_ _
  have cm := HCM.out z1 HW1.out.1
  go_wp2_with fail
  refine (mk_node D E z1 HW1.out.2 (by have h1 := HSZ.out; have h2 := HZ.out; omega)).mono ?_
  rintro x z2 ⟨rfl, hb2⟩
  have HW2 : Hid (Below w.heap.size w z2) := Lib.hid (HW1.out.1.trans (hb2.mono HW1.out.1.size))
  clear hb2 HW1
  go_wp2
  go_ret2
  exact ⟨rfl, HW2.out⟩
set_option maxRecDepth 100000 in
set_option maxHeartbeats 2000000 in
theorem up_walk_right (p : PairV) (n : Nat) (ih : UpOk p n) (i c : Nat) (ps : List ByteArray) (A : Option Addr) (cap X U : Nat) (idx cnt : Int) (pv : Value) (w : World) (hcn : c ≤ n + 1) (h2 : 2 ≤ c) (hc : c ≤ 4096) (hi : i < c) (hs : p.1.size + p.2.size ≤ 90000) (hn : ps.length ≤ 1000) (h32 : All32 ps) (hU : UpAt w X U idx cnt p pv) (hA : PartsAt w A ps) (hcap : ps.length ≤ cap) (hL : LaidOk w) (h0 : ps.length ≠ 0) (hik : ¬ i < leftN c) :
    Calls Tryd.prog 84 #[.int .i64 (i : Int), .int .i64 (c : Int), .slice A ps.length cap, .pointer (some ⟨X, 0, none⟩), .pointer (some ⟨U, 0, none⟩)] w fun x w' => x = .returned (.tuple #[.string (up p i c ps).1, .bool (up p i c ps).2]) ∧ Below w.heap.size w w' := by
  rw [(up_many p i c ps h2 h0).2 hik]
  obtain ⟨k, hk⟩ : ∃ k, k = leftN c := ⟨_, rfl⟩
  have hk1 : 1 ≤ k := by rw [hk]; exact leftN_pos _
  have hk2 : k < c := by rw [hk]; exact leftN_lt _ h2
  have HL := Lib.hid (fun w => mk_left c w h2 (by omega))
  rw [← hk] at HL hik ⊢
  clear hk
  obtain ⟨m, hm⟩ : ∃ m, m = ps.length - 1 := ⟨_, rfl⟩
  rw [← hm]
  have hmt : (ps.take m).length = m := by rw [List.length_take]; omega
  have hg : ps.getD m ⟨#[]⟩ = ps[m]'(by omega) := by rw [List.getD_eq_getElem?_getD, List.getElem?_eq_getElem (by omega)]; rfl
  obtain ⟨b, off, rfl, hlt, -⟩ := hA 0 (by omega)
  obtain ⟨b', off', he, hlt', cm⟩ := hA m (by omega)
  simp only [Option.some.injEq, Addr.mk.injEq] at he
  obtain ⟨rfl, rfl, -⟩ := he
  rw [← hg] at cm
  have hz : (ps.getD m ⟨#[]⟩).size = 32 := by rw [hg]; exact h32 _ (List.getElem_mem _)
  have HCM := Lib.hid (show ∀ w', Below w.heap.size w w' → w'.cell? ⟨b, off + m, none⟩ = some (.string (ps.getD m ⟨#[]⟩)) from fun w' hb => (hb.cell (p := ⟨b, off + m, none⟩) hlt).trans cm)
  obtain ⟨i2, hi2⟩ : ∃ i2, i2 = i - k := ⟨_, rfl⟩
  obtain ⟨c2, hc2⟩ : ∃ c2, c2 = c - k := ⟨_, rfl⟩
  rw [← hi2, ← hc2]
  have hw1 : IntKind.i64.wrap ((i : Int) - (k : Int)) = (i2 : Int) := by rw [IntWalk.i64_in _ (by omega)]; omega
  have hw2 : IntKind.i64.wrap ((c : Int) - (k : Int)) = (c2 : Int) := by rw [IntWalk.i64_in _ (by omega)]; omega
  have HIH : Hid (∀ w' cap', UpAt w' X U idx cnt p pv → PartsAt w' (some ⟨b, off, none⟩) ps → m ≤ cap' → LaidOk w' → Calls Tryd.prog 84 #[.int .i64 (i2 : Int), .int .i64 (c2 : Int), .slice (some ⟨b, off, none⟩) m cap', .pointer (some ⟨X, 0, none⟩), .pointer (some ⟨U, 0, none⟩)] w' fun x w'' => x = .returned (.tuple #[.string (up p i2 c2 (ps.take m)).1, .bool (up p i2 c2 (ps.take m)).2]) ∧ Below w'.heap.size w' w'') := Lib.hid (fun w' cap' h1 h2' h3 h4 => by
    have := ih i2 c2 (ps.take m) (some ⟨b, off, none⟩) cap' X U idx cnt pv w' (by omega) (by omega) (by omega) (by omega) hs (by omega) (fun s hs => h32 s (List.mem_of_mem_take hs)) h1 (h2'.take m) (by omega) h4
    rwa [hmt] at this)
  have hsz := (up_size p c2 i2 c2 (ps.take m) (Nat.le_refl _) (by omega)).1
  obtain ⟨R, hR⟩ : ∃ R, R = up p i2 c2 (ps.take m) := ⟨_, rfl⟩
  rw [← hR] at HIH hsz
  rw [← hR]
  clear hR
  obtain ⟨D, ok⟩ := R
  simp only at HIH hsz ⊢
  have HSZ := Lib.hid hsz
  have HZ := Lib.hid hz
  have hm1 : IntKind.i64.wrap ((ps.length : Int) - 1) = (m : Int) := by rw [IntWalk.i64_in _ (by omega)]; omega
  have hm2 : wrap64 ((ps.length : Int) - 1) = (m : Int) := by rw [IntWalk.wrap64_in _ (by omega)]; omega
  have hm3 : (ps.length : Int) - 1 = (m : Int) := by omega
  have d1 : decide ((m : Int) < 0) = false := decide_eq_false (by omega)
  have e1 : ((c : Int) == 1) = false := by rw [beq_eq_false_iff_ne]; omega
  have d3 : decide ((i : Int) < (k : Int)) = false := decide_eq_false (by omega)
  have d4 : decide (i < k) = false := decide_eq_false hik
  have hc1 : (m : Int) ≤ (cap : Int) := by omega
  have hc3 : (m : Int) < (ps.length : Int) := by omega
  have HMC := Lib.hid (show m ≤ cap by omega)
  have H := Lib.hid (And.intro hU (And.intro hA hL))
  generalize ps.getD m ⟨#[]⟩ = E at *
  clear hsz hz h32 hU hA hcap hL h0 hik hmt hg hlt hlt' cm hm hs hi hcn hi2 hc2
  go_enter Tryd.func84, Tryd.ntmps84
  go_wp2_with fail
  refine (HL.out w).mono ?_
  rintro x w1 ⟨rfl, rfl⟩
  go_wp2
  have HW : Hid (UpAt w.drew X U idx cnt p pv ∧ PartsAt w.drew (some ⟨b, off, none⟩) ps ∧ LaidOk w.drew ∧ Below w.heap.size w w.drew) := Lib.hid ⟨H.out.1.below (Below.refl _ _).drew, H.out.2.1.below (Below.refl _ _).drew, H.out.2.2.later (Below.refl _ _).drew, (Below.refl _ _).drew⟩
  refine wp_region_any (by kernel_rfl) ?_
  (try (change wpAny _ _ _ _ _ _ _ (World.drew _)))
  generalize w.drew = z0 at *
  have cu := HW.out.1.bu
  refine wpAny_take (i := 1) (v := ?_) rfl (by kernel_rfl) (by kernel_rfl) (by kernel_rfl) (fun _ _ _ h => h) (Or.inl ⟨by kernel_rfl, ?_⟩) ?_
  rotate_left
  · intro w; go_simp; with_reducible rfl
  refine wpAny_take (i := 2) (v := ?_) rfl (by kernel_rfl) (by kernel_rfl) (by kernel_rfl) (fun _ _ _ h => h) (Or.inl ⟨by kernel_rfl, ?_⟩) ?_
  rotate_left
  · intro w; go_simp; with_reducible rfl
  refine wpAny_take (i := 3) (v := ?_) rfl (by kernel_rfl) (by kernel_rfl) (by kernel_rfl) (fun _ _ _ h => h) (Or.inl ⟨by kernel_rfl, ?_⟩) ?_
  rotate_left
  · intro w; go_simp; with_reducible rfl
  refine wpAny_take (i := 4) (v := ?_) rfl (by kernel_rfl) (by kernel_rfl) (by kernel_rfl) (fun _ _ _ h => h) (Or.inl ⟨by kernel_rfl, ?_⟩) ?_
  rotate_left
  · intro w; go_simp; with_reducible rfl
  refine wpAny_take (i := 5) (v := ?_) rfl (by kernel_rfl) (by kernel_rfl) (by kernel_rfl) (fun _ _ _ h => h) (Or.inl ⟨by kernel_rfl, ?_⟩) ?_
  rotate_left
  · intro w; go_simp; with_reducible rfl
  refine wpAny_take (i := 6) (v := ?_) rfl (by kernel_rfl) (by kernel_rfl) (by kernel_rfl) (fun _ _ _ h => h) (Or.inl ⟨by kernel_rfl, ?_⟩) ?_
  rotate_left
  · intro w; go_simp; with_reducible rfl
  refine wpAny_take (i := 7) (v := ?_) rfl (by kernel_rfl) (by kernel_rfl) (by kernel_rfl) (fun _ _ _ h => h) (Or.inl ⟨by kernel_rfl, ?_⟩) ?_
  rotate_left
  · intro w; go_simp; with_reducible rfl
  refine wpAny_take (i := 8) (v := ?_) rfl (by kernel_rfl) (by kernel_rfl) (by kernel_rfl) (fun _ _ _ h => h) (Or.inl ⟨by kernel_rfl, ?_⟩) ?_
  rotate_left
  · intro w; go_simp; with_reducible rfl
  refine wpAny_take (i := 9) (v := ?_) rfl (by kernel_rfl) (by kernel_rfl) (by kernel_rfl) (fun _ _ _ h => h) (Or.inl ⟨by kernel_rfl, ?_⟩) ?_
  rotate_left
  · intro w; go_simp; with_reducible rfl
  refine wpAny_ready (rs := [0]) (by kernel_rfl) (by simp) ?_
  refine AllReady.cons rfl (fun K hK => ?_) AllReady.nil
  go_simp
  (first | (refine hK _ _ ?_; clear hK K) | skip)
  refine wpAny_ready (rs := [10]) (by kernel_rfl) (by simp) ?_
  refine AllReady.cons rfl (fun K hK => ?_) AllReady.nil
  go_simp
  refine (HIH.out _ _ HW.out.1 HW.out.2.1 HMC.out HW.out.2.2.1).mono ?_
  rintro x z1 ⟨rfl, hb1⟩
  have HW1 : Hid (Below w.heap.size w z1 ∧ LaidOk z1) := Lib.hid ⟨HW.out.2.2.2.trans (hb1.mono HW.out.2.2.2.size), HW.out.2.2.1.later hb1⟩
  clear hb1 HW cu
  (first | (refine hK _ _ ?_; clear hK K) | skip)
  refine wpAny_take (i := 11) (v := ?_) rfl (by kernel_rfl) (by kernel_rfl) (by kernel_rfl) (fun _ _ _ h => h) (Or.inl ⟨by kernel_rfl, ?_⟩) ?_
  rotate_left
  · intro w; go_simp; with_reducible rfl
  refine wpAny_take (i := 12) (v := ?_) rfl (by kernel_rfl) (by kernel_rfl) (by kernel_rfl) (fun _ _ _ h => h) (Or.inl ⟨by kernel_rfl, ?_⟩) ?_
  rotate_left
  · intro w; go_simp; with_reducible rfl
  refine wpAny_take (i := 13) (v := ?_) rfl (by kernel_rfl) (by kernel_rfl) (by kernel_rfl) (fun _ _ _ h => h) (Or.inl ⟨by kernel_rfl, ?_⟩) ?_
  rotate_left
  · intro w; go_simp; with_reducible rfl
  refine wpAny_take (i := 14) (v := ?_) rfl (by kernel_rfl) (by kernel_rfl) (by kernel_rfl) (fun _ _ _ h => h) (Or.inl ⟨by kernel_rfl, ?_⟩) ?_
  rotate_left
  · intro w; go_simp; with_reducible rfl
  refine wpAny_take (i := 15) (v := ?_) rfl (by kernel_rfl) (by kernel_rfl) (by kernel_rfl) (fun _ _ _ h => h) (Or.inl ⟨by kernel_rfl, ?_⟩) ?_
  rotate_left
  · intro w; go_simp; with_reducible rfl
  refine wpAny_done (by kernel_rfl) ?_ _
  have cm := HCM.out z1 HW1.out.1
  go_wp2_with fail
  refine (mk_node E D z1 HW1.out.2 (by have h1 := HSZ.out; have h2 := HZ.out; omega)).mono ?_
  rintro x z2 ⟨rfl, hb2⟩
  have HW2 : Hid (Below w.heap.size w z2) := Lib.hid (HW1.out.1.trans (hb2.mono HW1.out.1.size))
  clear hb2 HW1
  go_wp2
  go_ret2
  exact ⟨rfl, HW2.out⟩
theorem up_walk (p : PairV) : ∀ n : Nat, UpOk p n := by
  intro n
  induction n with
  | zero => exact fun i c ps A cap X U idx cnt pv w h1 h2 => absurd h2 (by omega)
  | succ n ih =>
    intro i c ps A cap X U idx cnt pv w hcn h1 hc hi hs hn h32 hU hA hcap hL
    by_cases h2 : c = 1
    · subst h2
      exact up_walk_one p i ps A cap X U idx cnt pv w hs hn hU hL
    by_cases h0 : ps.length = 0
    · exact up_walk_none p i c ps A cap X U w (by omega) hc h0
    by_cases hik : i < leftN c
    · exact up_walk_left p n ih i c ps A cap X U idx cnt pv w hcn (by omega) hc hi hs hn h32 hU hA hcap hL h0 hik
    · exact up_walk_right p n ih i c ps A cap X U idx cnt pv w hcn (by omega) hc hi hs hn h32 hU hA hcap hL h0 hik
end Go.Proofs.YtclloplkbajebaaDoor
namespace Go.Proofs.YtclloplkbajebaaDoor
open Go.RowKit
set_option linter.unusedVariables false
def CliOk (idx cnt : Int) (ps : List ByteArray) : Prop := 1 ≤ cnt ∧ cnt ≤ 4096 ∧ 0 ≤ idx ∧ idx < cnt ∧ All32 ps
instance (idx cnt : Int) (ps : List ByteArray) : Decidable (CliOk idx cnt ps) := by unfold CliOk; infer_instance
/-- to what a leaf climbs -/
def climbV (idx cnt : Int) (p : PairV) (ps : List ByteArray) : ByteArray × Bool :=
  if CliOk idx cnt ps ∧ (up p idx.toNat cnt.toNat ps).2 = true then (dgT (topT cnt.toNat (up p idx.toNat cnt.toNat ps).1), true) else (⟨#[]⟩, false)
def ClPost (w : World) (r : ByteArray × Bool) (x : Ending) (w' : World) : Prop := x = .returned (.tuple #[.string r.1, .bool r.2]) ∧ Below w.heap.size w w'
set_option maxRecDepth 100000 in
set_option maxHeartbeats 2000000 in
theorem climb_bad (idx cnt : Int) (p : PairV) (ps : List ByteArray) (A : Option Addr) (cap : Nat) (w : World) (hA : PartsAt w A ps) (hn : ps.length ≤ 1000) (hno : ¬ CliOk idx cnt ps) :
    Calls Tryd.prog 73 #[.agg #[.int .i64 idx, .int .i64 cnt, .string p.1, .string p.2, .slice A ps.length cap]] w (ClPost w (climbV idx cnt p ps)) := by
  have HV : Hid (climbV idx cnt p ps = (⟨#[]⟩, false)) := Lib.hid (if_neg (fun h => hno h.1))
  rw [HV.out]
  obtain ⟨k, v⟩ := p
  have HB : Hid (∀ x, x = .returned (.tuple #[.string ⟨#[]⟩, .bool false]) → ClPost w (⟨#[]⟩, false) x (w.alloc (.cells #[.int .i64 idx, .int .i64 cnt, .string k, .string v, .slice A ps.length cap] 30))) := Lib.hid (fun x hx => ⟨hx, Kq.below_alloc _ _⟩)
  have HNO := Lib.hid hno
  have HAA := Lib.hid (hA.below (Kq.below_alloc w (.cells #[.int .i64 idx, .int .i64 cnt, .string k, .string v, .slice A ps.length cap] 30)))
  have HN := Lib.hid hn
  clear hno hA hn HV
  by_cases h1 : cnt < 1
  · have d1 : decide (cnt < 1) = true := decide_eq_true h1
    clear h1
    go_enter Tryd.func73, Tryd.ntmps73
    go_wp2
    go_ret2
    exact HB.out _ rfl
  have d1 : decide (cnt < 1) = false := decide_eq_false h1
  by_cases h2 : 4096 < cnt
  · have d2 : decide (4096 < cnt) = true := decide_eq_true h2
    clear h1 h2
    go_enter Tryd.func73, Tryd.ntmps73
    go_wp2
    go_ret2
    exact HB.out _ rfl
  have d2 : decide (4096 < cnt) = false := decide_eq_false h2
  by_cases h3 : idx < 0
  · have d3 : decide (idx < 0) = true := decide_eq_true h3
    clear h1 h2 h3
    go_enter Tryd.func73, Tryd.ntmps73
    go_wp2
    go_ret2
    exact HB.out _ rfl
  have d3 : decide (idx < 0) = false := decide_eq_false h3
  by_cases h4 : cnt ≤ idx
  · have d4 : decide (cnt ≤ idx) = true := decide_eq_true h4
    clear h1 h2 h3 h4
    go_enter Tryd.func73, Tryd.ntmps73
    go_wp2
    go_ret2
    exact HB.out _ rfl
  have d4 : decide (cnt ≤ idx) = false := decide_eq_false h4
  have HD : Hid (decide (All32 ps) = false) := Lib.hid (decide_eq_false (fun h => HNO.out ⟨by omega, by omega, by omega, by omega, h⟩))
  clear h1 h2 h3 h4
  go_enter Tryd.func73, Tryd.ntmps73
  go_wp2_with fail
  refine (mk_digests A cap ps _ HAA.out HN.out).mono ?_
  rintro x w2 ⟨rfl, rfl⟩
  rw [HD.out]
  go_wp2
  go_ret2
  exact HB.out _ rfl
theorem upat_new (w : World) (T : TypeId) (i c : Int) (p : PairV) (v : Value) :
    UpAt ((w.alloc (.cells #[.int .i64 i, .int .i64 c, .string p.1, .string p.2, v] 30)).alloc (.cells #[.func (.func 84) #[] #[.pointer (some ⟨w.heap.size, 0, none⟩), .pointer (some ⟨w.heap.size + 1, 0, none⟩)]] T)) w.heap.size (w.heap.size + 1) i c p v := by
  have n1 := Kq.blk_new w #[.int .i64 i, .int .i64 c, .string p.1, .string p.2, v] 30 (0, 0)
  have z1 : (w.alloc (.cells #[.int .i64 i, .int .i64 c, .string p.1, .string p.2, v] 30)).heap.size = w.heap.size + 1 := by simp
  generalize w.alloc (.cells #[.int .i64 i, .int .i64 c, .string p.1, .string p.2, v] 30) = w1 at *
  have n2 := Kq.blk_new w1 #[.func (.func 84) #[] #[.pointer (some ⟨w.heap.size, 0, none⟩), .pointer (some ⟨w.heap.size + 1, 0, none⟩)]] T (0, 0)
  rw [z1] at n2
  exact ⟨Kq.below_blk (Kq.below_alloc w1 _) n1 (by omega), Kq.blk_cell n2 0, by simp [z1]⟩
theorem upat_after (w : World) (T : TypeId) (i c : Int) (p : PairV) (v : Value) {w' : World} {f : Value} (hb : Below ((w.alloc (.cells #[.int .i64 i, .int .i64 c, .string p.1, .string p.2, v] 30)).alloc (.cells #[f] T)).heap.size ((w.alloc (.cells #[.int .i64 i, .int .i64 c, .string p.1, .string p.2, v] 30)).alloc (.cells #[f] T)) w') :
    w'.heap[w.heap.size]? = some (.cells #[.int .i64 i, .int .i64 c, .string p.1, .string p.2, v] 30 (0, 0)) ∧ Below w.heap.size w w' := by
  have n1 := Kq.blk_new w #[.int .i64 i, .int .i64 c, .string p.1, .string p.2, v] 30 (0, 0)
  have z1 : (w.alloc (.cells #[.int .i64 i, .int .i64 c, .string p.1, .string p.2, v] 30)).heap.size = w.heap.size + 1 := by simp
  have b1 := Kq.below_alloc w (.cells #[.int .i64 i, .int .i64 c, .string p.1, .string p.2, v] 30)
  generalize w.alloc (.cells #[.int .i64 i, .int .i64 c, .string p.1, .string p.2, v] 30) = w1 at *
  have b2 := Kq.below_alloc w1 (.cells #[f] T)
  have z2 : (w1.alloc (.cells #[f] T)).heap.size = w.heap.size + 2 := by simp [z1]
  exact ⟨Kq.below_blk hb (Kq.below_blk b2 n1 (by omega)) (by omega), b1.trans ((b2.mono (by omega)).trans (hb.mono (by omega)))⟩
set_option maxRecDepth 100000 in
set_option maxHeartbeats 2000000 in
theorem climb_good (i c : Nat) (p : PairV) (ps : List ByteArray) (A : Option Addr) (cap : Nat) (w : World) (hA : PartsAt w A ps) (hn : ps.length ≤ 1000) (hs : p.1.size + p.2.size ≤ 90000) (hcap : ps.length ≤ cap) (hL : LaidOk w) (hyes : CliOk i c ps) :
    Calls Tryd.prog 73 #[.agg #[.int .i64 (i : Int), .int .i64 (c : Int), .string p.1, .string p.2, .slice A ps.length cap]] w (ClPost w (climbV i c p ps)) := by
  obtain ⟨q1, q2, q3, q4, h32⟩ := hyes
  have HV : Hid (climbV i c p ps = if (up p i c ps).2 = true then (dgT (topT c (up p i c ps).1), true) else (⟨#[]⟩, false)) := Lib.hid (by
    unfold climbV
    rw [Int.toNat_natCast, Int.toNat_natCast]
    by_cases h : (up p i c ps).2 = true
    · rw [if_pos ⟨⟨q1, q2, q3, q4, h32⟩, h⟩, if_pos h]
    · rw [if_neg (fun x => h x.2), if_neg h])
  rw [HV.out]
  have HD : Hid (decide (All32 ps) = true) := Lib.hid (decide_eq_true h32)
  have HSZ := Lib.hid (up_size p c i c ps (Nat.le_refl _) (by omega)).1
  have HIH : Hid (∀ w' X U pv, UpAt w' X U i c p pv → PartsAt w' A ps → LaidOk w' → Calls Tryd.prog 84 #[.int .i64 (i : Int), .int .i64 (c : Int), .slice A ps.length cap, .pointer (some ⟨X, 0, none⟩), .pointer (some ⟨U, 0, none⟩)] w' fun x w'' => x = .returned (.tuple #[.string (up p i c ps).1, .bool (up p i c ps).2]) ∧ Below w'.heap.size w' w'') := Lib.hid (fun w' X U pv h1 h2 h3 =>
    up_walk p c i c ps A cap X U i c pv w' (Nat.le_refl _) (by omega) (by omega) (by omega) hs hn h32 h1 h2 hcap h3)
  have hcB : c ≤ 4096 := by omega
  obtain ⟨R, hR⟩ : ∃ R, R = up p i c ps := ⟨_, rfl⟩
  rw [← hR] at HIH HSZ
  rw [← hR]
  clear hR HV
  obtain ⟨D, ok⟩ := R
  simp only at HIH HSZ ⊢
  obtain ⟨k, v⟩ := p
  simp only at HIH ⊢
  have HAA := Lib.hid (And.intro (hA.below (Kq.below_alloc w (.cells #[.int .i64 (i : Int), .int .i64 (c : Int), .string k, .string v, .slice A ps.length cap] 30))) (hL.later (Kq.below_alloc w (.cells #[.int .i64 (i : Int), .int .i64 (c : Int), .string k, .string v, .slice A ps.length cap] 30))))
  have HN := Lib.hid hn
  have d1 : decide ((c : Int) < 1) = false := decide_eq_false (by omega)
  have d2 : decide ((4096 : Int) < (c : Int)) = false := decide_eq_false (by omega)
  have d2' : decide (4096 < c) = false := decide_eq_false (by omega)
  have d3 : decide ((i : Int) < 0) = false := decide_eq_false (by omega)
  have d4 : decide ((c : Int) ≤ (i : Int)) = false := decide_eq_false (by omega)
  have d4' : decide (c ≤ i) = false := decide_eq_false (by omega)
  clear q1 q2 q3 q4 h32 hs hcap hA hL hn
  cases ok with
  | true =>
    rw [if_pos rfl]
    go_enter Tryd.func73, Tryd.ntmps73
    go_wp2_with fail
    refine (mk_digests A cap ps _ HAA.out.1 HN.out).mono ?_
    rintro x w2 ⟨rfl, rfl⟩
    rw [HD.out]
    go_wp2_with fail
    refine (HIH.out _ w.heap.size (w.heap.size + 1) (.slice A ps.length cap) ?hu ?hp ?hl).mono ?_
    case hu => exact upat_new w _ i c (k, v) _
    case hp => exact HAA.out.1.below (Kq.below_alloc _ _)
    case hl => exact HAA.out.2.later (Kq.below_alloc _ _)
    rintro x w3 ⟨rfl, b3⟩
    have H3 := Lib.hid (upat_after w _ i c (k, v) _ b3)
    have H4 := Lib.hid (HAA.out.2.later ((Kq.below_alloc _ _).trans (b3.mono (by simp))))
    clear b3
    have c1 := Kq.blk_cell H3.out.1 1
    simp only [List.getElem?_toArray, List.getElem?_cons_zero, List.getElem?_cons_succ] at c1
    go_wp2_with fail
    refine (mk_top (c : Int) D w3 H4.out (by omega) (by have := HSZ.out; omega)).mono ?_
    rintro x w4 ⟨rfl, b4⟩
    rw [Int.toNat_natCast]
    have H5 : Hid (ClPost w (dgT (topT c D), true) (.returned (.tuple #[.string (dgT (topT c D)), .bool true])) w4) := Lib.hid ⟨rfl, H3.out.2.trans (b4.mono H3.out.2.size)⟩
    clear b4 H3 H4 c1
    go_wp2
    go_ret2
    exact H5.out
  | false =>
    rw [if_neg (by decide)]
    go_enter Tryd.func73, Tryd.ntmps73
    go_wp2_with fail
    refine (mk_digests A cap ps _ HAA.out.1 HN.out).mono ?_
    rintro x w2 ⟨rfl, rfl⟩
    rw [HD.out]
    go_wp2_with fail
    refine (HIH.out _ w.heap.size (w.heap.size + 1) (.slice A ps.length cap) ?hu ?hp ?hl).mono ?_
    case hu => exact upat_new w _ i c (k, v) _
    case hp => exact HAA.out.1.below (Kq.below_alloc _ _)
    case hl => exact HAA.out.2.later (Kq.below_alloc _ _)
    rintro x w3 ⟨rfl, b3⟩
    have H3 := Lib.hid (upat_after w _ i c (k, v) _ b3)
    have H4 := Lib.hid (HAA.out.2.later ((Kq.below_alloc _ _).trans (b3.mono (by simp))))
    clear b3
    have H5 : Hid (ClPost w (⟨#[]⟩, false) (.returned (.tuple #[.string ⟨#[]⟩, .bool false])) w3) := Lib.hid ⟨rfl, H3.out.2⟩
    clear H3 H4
    go_wp2
    go_ret2
    exact H5.out
theorem mk_climb (idx cnt : Int) (p : PairV) (ps : List ByteArray) (A : Option Addr) (cap : Nat) (w : World) (hA : PartsAt w A ps) (hn : ps.length ≤ 1000) (hs : p.1.size + p.2.size ≤ 90000) (hcap : ps.length ≤ cap) (hL : LaidOk w) :
    Calls Tryd.prog 73 #[.agg #[.int .i64 idx, .int .i64 cnt, .string p.1, .string p.2, .slice A ps.length cap]] w (ClPost w (climbV idx cnt p ps)) := by
  by_cases h : CliOk idx cnt ps
  · obtain ⟨i, rfl⟩ := Int.eq_ofNat_of_zero_le h.2.2.1
    obtain ⟨c, rfl⟩ := Int.eq_ofNat_of_zero_le (show 0 ≤ cnt by have := h.1; omega)
    exact climb_good i c p ps A cap w hA hn hs hcap hL h
  · exact climb_bad idx cnt p ps A cap w hA hn h
end Go.Proofs.YtclloplkbajebaaDoor
