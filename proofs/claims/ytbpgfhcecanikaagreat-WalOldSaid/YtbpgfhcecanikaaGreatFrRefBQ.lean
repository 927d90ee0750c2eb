/- Contract of carrackref05.Read. Condition: lengths are ints. -/
import Derived.WalkSpells
import Derived.Deep.RegionHeld
import Derived.Deep.QuietTactic
import Derived.BigQuiet
import Derived.Test.YtbpgfhcecanikaaGreatStrsOpenQ
import Derived.Test.YtbpgfhcecanikaaGreatFrReadQ
import Derived.Test.YtbpgfhcecanikaaGreatRefValQ
import Derived.Deep.CutRange
import Derived.Deep.CutBlock
import Derived.Deep.DeepCutAuto
namespace Go.Proofs.YtbpgfhcecanikaaGreat
open Go.RowKit
set_option linter.unusedVariables false
set_option linter.unusedSimpArgs false
theorem p5_blk {w : World} {R : Nat} {p : FrP} (h : w.heap[R]? = some (.cells #[.int .u64 (p.g : Int), .int .u64 (p.x : Int), .int .i64 (p.i : Int), .int .i64 (p.n : Int), .string p.d] 185 (0, 0))) : True := trivial
set_option maxRecDepth 100000 in
set_option maxHeartbeats 1000000 in
theorem rf_read_1 (a : Int) (s : ByteArray) (w : World) (h : ¬ FrSz a) :
    Calls Tryz.prog 124 #[.int .i64 a, .string s] w fun e w' => e = .returned (readVal (none, 1)) ∧ Below w.heap.size w w' := by
  have HD := Lib.hid (show decide (64 ≤ a ∧ a ≤ 512) = false from decide_eq_false h)
  clear h
  go_enter Tryz.func124, Tryz.ntmps124
  go_wp2_with fail
  refine (rf_fits a _).mono ?_
  rw [HD.out]
  rintro e w1 ⟨rfl, rfl⟩
  go_wp2
  refine bodyPost_ret (v := readVal (none, 1)) (by simp [results, Tryz.results124, go_sem, readVal, partOf, FrP.zero, FrP.val]) rfl ?_
  exact ⟨rfl, Kq.below_alloc _ _⟩
set_option maxRecDepth 100000 in
set_option maxHeartbeats 1000000 in
theorem rf_read_6 (a : Int) (s : ByteArray) (w : World) (h : FrSz a) (hs : (s.size : Int) ≠ a) :
    Calls Tryz.prog 124 #[.int .i64 a, .string s] w fun e w' => e = .returned (readVal (none, 6)) ∧ Below w.heap.size w w' := by
  have HD := Lib.hid (show decide (64 ≤ a ∧ a ≤ 512) = true from decide_eq_true h)
  have hne : ((s.size : Int) != a) = true := by simpa using hs
  clear h hs
  go_enter Tryz.func124, Tryz.ntmps124
  go_wp2_with fail
  refine (rf_fits a _).mono ?_
  rw [HD.out]
  rintro e w1 ⟨rfl, rfl⟩
  go_wp2
  refine bodyPost_ret (v := readVal (none, 6)) (by simp [results, Tryz.results124, go_sem, readVal, partOf, FrP.zero, FrP.val]) rfl ?_
  exact ⟨rfl, Kq.below_alloc _ _⟩
set_option maxRecDepth 100000 in
set_option maxHeartbeats 1000000 in
theorem rf_read_8 (a : Nat) (s : ByteArray) (w : World) (h : FrSz a) (hs : s.size = a) (hr : rightB s = false) :
    Calls Tryz.prog 124 #[.int .i64 (a : Int), .string s] w fun e w' => e = .returned (readVal (none, 8)) ∧ Below w.heap.size w w' := by
  have HD := Lib.hid (show decide (64 ≤ (a : Int) ∧ (a : Int) ≤ 512) = true from decide_eq_true h)
  have hne : ((s.size : Int) != (a : Int)) = false := by simp [hs]
  have hne2 : (s.size != a) = false := by simp [hs]
  have HS := Lib.hid (And.intro h hs)
  have HR := Lib.hid hr
  have HX := Lib.hid (Kq.blk_new w #[.int .u64 0, .int .u64 0, .int .i64 0, .int .i64 0, .string ⟨#[]⟩] 185 (0, 0))
  clear h hs hr
  go_enter Tryz.func124, Tryz.ntmps124
  go_wp2_with fail
  refine (rf_fits a _).mono ?_
  rw [HD.out]
  rintro e w1 ⟨rfl, rfl⟩
  go_wp2_with fail
  refine (ref_right s _ (by have := HS.out; unfold FrSz at this; unfold maxLen; omega) (by have := HS.out; unfold FrSz at this; omega)).mono ?_
  rw [HR.out]
  rintro e w2 ⟨rfl, b2⟩
  have R5 := Lib.hid (And.intro (Kq.below_blk b2 HX.out (Kq.blk_lt HX.out)) ((Kq.below_alloc w _).trans (b2.mono (Kq.below_alloc w _).size)))
  clear b2
  have r0 := Kq.blk_cell R5.out.1 0
  have r1 := Kq.blk_cell R5.out.1 1
  have r2 := Kq.blk_cell R5.out.1 2
  have r3 := Kq.blk_cell R5.out.1 3
  have r4 := Kq.blk_cell R5.out.1 4
  have q0 := Kq.blk_free R5.out.1 0
  have q1 := Kq.blk_free R5.out.1 1
  have q2 := Kq.blk_free R5.out.1 2
  have q3 := Kq.blk_free R5.out.1 3
  have q4 := Kq.blk_free R5.out.1 4
  go_wp2
  clear r0 r1 r2 r3 r4 q0 q1 q2 q3 q4
  change bodyPost _ _ _ _ _ (fill5 w2 w.heap.size 0 0 0 0 ⟨#[]⟩)
  have p1 := fill5_blk R5.out.1 0 0 0 0 ⟨#[]⟩
  have p2 := fill5_keeps w2 w.heap.size 0 0 0 0 ⟨#[]⟩
  generalize fill5 w2 w.heap.size 0 0 0 0 ⟨#[]⟩ = z at *
  have z0 := Kq.blk_cell p1 0
  have z1 := Kq.blk_cell p1 1
  have z2 := Kq.blk_cell p1 2
  have z3 := Kq.blk_cell p1 3
  have z4 := Kq.blk_cell p1 4
  refine bodyPost_ret (v := readVal (none, 8)) (by simp [results, Tryz.results124, go_sem, z0, z1, z2, z3, z4, readVal, partOf, FrP.zero, FrP.val]) rfl ?_
  exact ⟨by (first | rfl | rw [HRD.out]), R5.out.2.trans (p2.below R5.out.2.size (fun k _ e => (by subst e; exact Nat.le_refl _)))⟩
/-- a sector that is none -/
theorem ok_len (a : Nat) (s : ByteArray) (h64 : 64 ≤ a) (hs : s.size = a) (h : mayP a (pOf s)) : lenOf s ≤ a - 25 ∧ (pOf s).d.size = lenOf s := by
  have h1 := h.2.1
  have h2 : (pOf s).d.size = min (21 + lenOf s) s.size - 21 := by
    show (s.extract 21 (21 + lenOf s)).size = _
    simp
  omega
theorem d_len (a : Nat) (s : ByteArray) (h64 : 64 ≤ a) (hs : s.size = a) (h : lenOf s ≤ a - 25) : (pOf s).d.size = lenOf s := by
  have h2 : (pOf s).d.size = min (21 + lenOf s) s.size - 21 := by
    show (s.extract 21 (21 + lenOf s)).size = _
    simp
  omega
/-- the reference's second test -/
def badB (a i n l : Nat) : Bool := (decide (i + 1 < n) && !(decide (l = a - 25))) || (decide (0 < i) && decide (l = 0))
def leastP (a i n l : Nat) : Nat := if i + 1 = n then (n - 1) * (a - 25) + l else (n - 1) * (a - 25) + 1
theorem may_iff (a : Nat) (p : FrP) (l : Nat) (hl : p.d.size = l) (hl2 : l ≤ a - 25) (hi : p.i < p.n) : mayP a p ↔ (badB a p.i p.n l = false ∧ leastP a p.i p.n l ≤ 4096) := by
  unfold mayP badB leastP
  rw [hl, Bool.or_eq_false_iff, Bool.and_eq_false_iff, Bool.and_eq_false_iff]
  simp only [decide_eq_false_iff_not, Bool.not_eq_false', decide_eq_true_eq]
  constructor
  · rintro ⟨h1, h2, h3, h4, h5⟩
    refine ⟨⟨?_, ?_⟩, h5⟩
    · by_cases h : p.i + 1 < p.n
      · exact Or.inr (h3 h)
      · exact Or.inl h
    · by_cases h : 0 < p.i
      · exact Or.inr (by have := h4 h; omega)
      · exact Or.inl h
  · rintro ⟨⟨h3, h4⟩, h5⟩
    exact ⟨hi, hl2, fun h => h3.resolve_left (not_not_intro h), fun h => by have := h4.resolve_left (not_not_intro h); omega, h5⟩
theorem fr_at_nl (s : ByteArray) (i : Nat) (h : i < s.size) : (nl s).getD i 0 = s[i].toNat := by
  rw [List.getD_eq_getElem?_getD, List.getElem?_eq_getElem (by rw [nl_length]; exact h)]
  simp [nl]; rfl
/-- the result's block, the part's block -/
structure Rq (w : World) (R H : Nat) (p : FrP) (wr : World) : Prop where
  rb : wr.heap[R]? = some (.cells #[.int .u64 0, .int .u64 0, .int .i64 0, .int .i64 0, .string ⟨#[]⟩] 185 (0, 0))
  pb : wr.heap[H]? = some (.cells #[.int .u64 (p.g : Int), .int .u64 (p.x : Int), .int .i64 (p.i : Int), .int .i64 (p.n : Int), .string p.d] 185 (0, 0))
  ne : R ≠ H
  le : w.heap.size ≤ R ∧ w.heap.size ≤ H
  bel : Below w.heap.size w wr
theorem Rq.below {w wr w' : World} {R H : Nat} {p : FrP} (h : Rq w R H p wr) (hb : Below wr.heap.size wr w') : Rq w R H p w' :=
  ⟨Kq.below_blk hb h.rb (Kq.blk_lt h.rb), Kq.below_blk hb h.pb (Kq.blk_lt h.pb), h.ne, h.le, h.bel.trans (hb.mono h.bel.size)⟩
theorem Rq.drewN {w wr : World} {R H : Nat} {p : FrP} (h : Rq w R H p wr) (n : Nat) : Rq w R H p (wr.drewN n) := h.below (below_drewN (Below.refl _ _) n)
theorem Rq.set4 {w wr : World} {R H : Nat} {g x i n : Nat} {d : ByteArray} (h : Rq w R H ⟨g, x, i, n, d⟩ wr) (e : ByteArray) : Rq w R H ⟨g, x, i, n, e⟩ (wr.setCell ⟨H, 4, none⟩ (.string e)) :=
  have hk : Kq.Keeps (· = H) wr (wr.setCell ⟨H, 4, none⟩ (.string e)) := Kq.Keeps.setCell _ _ _ rfl
  ⟨hk.blk h.rb h.ne, Kq.blk_set h.pb 4 _, h.ne, h.le, h.bel.trans (hk.below h.bel.size (fun k _ e => by subst e; exact h.le.2))⟩
set_option maxRecDepth 100000 in
set_option maxHeartbeats 4000000 in
theorem rf_read_in (a : Nat) (s : ByteArray) (w : World) (h : FrSz a) (hs : s.size = a) (hr : rightB s = true) :
    Calls Tryz.prog 124 #[.int .i64 (a : Int), .string s] w fun e w' => e = .returned (readVal (frRead a s)) ∧ Below w.heap.size w w' := by
  have HD := Lib.hid (show decide (64 ≤ (a : Int) ∧ (a : Int) ≤ 512) = true from decide_eq_true h)
  have hne : ((s.size : Int) != (a : Int)) = false := by simp [hs]
  have hne2 : (s.size != a) = false := by simp [hs]
  have h' : 64 ≤ a ∧ a ≤ 512 := by unfold FrSz at h; omega
  have ha1 : 64 ≤ (a : Int) := h.1
  have ha2 : (a : Int) ≤ 512 := h.2
  have HNO := Lib.hid (read_no a s h'.1 h'.2 hs hr)
  have HYES := Lib.hid (read_yes a s h'.1 h'.2 hs hr)
  have HS := Lib.hid (And.intro h' hs)
  have HR := Lib.hid hr
  have HX := Lib.hid (Kq.blk_new w #[.int .u64 0, .int .u64 0, .int .i64 0, .int .i64 0, .string ⟨#[]⟩] 185 (0, 0))
  have i17 : 17 < s.size := by omega
  have i18 : 18 < s.size := by omega
  have i19 : 19 < s.size := by omega
  have i20 : 20 < s.size := by omega
  have b9 : (9 : Int) ≤ (s.size : Int) := by omega
  have b17 : (17 : Int) ≤ (s.size : Int) := by omega
  have b17' : (17 : Int) < (s.size : Int) := by omega
  have b18 : (18 : Int) < (s.size : Int) := by omega
  have b19 : (19 : Int) < (s.size : Int) := by omega
  have b20 : (20 : Int) < (s.size : Int) := by omega
  obtain ⟨g, hg⟩ : ∃ z, z = WireM.val (((nl s).drop 1).take 8) := ⟨_, rfl⟩
  obtain ⟨x, hx⟩ : ∃ z, z = WireM.val (((nl s).drop 9).take 8) := ⟨_, rfl⟩
  obtain ⟨i, hi⟩ : ∃ z, z = (nl s).getD 17 0 := ⟨_, rfl⟩
  obtain ⟨n, hn⟩ : ∃ z, z = (nl s).getD 18 0 := ⟨_, rfl⟩
  obtain ⟨l1, hl1⟩ : ∃ z, z = (nl s).getD 19 0 := ⟨_, rfl⟩
  obtain ⟨l2, hl2⟩ : ∃ z, z = (nl s).getD 20 0 := ⟨_, rfl⟩
  have HG1 := Lib.hid (And.intro (show g < M64 by rw [hg]; exact val8_lt s 1) (show x < M64 by rw [hx]; exact val8_lt s 9))
  have li : i < 256 := by rw [hi]; exact getD_lt s 17
  have ln : n < 256 := by rw [hn]; exact getD_lt s 18
  have ll1 : l1 < 256 := by rw [hl1]; exact getD_lt s 19
  have ll2 : l2 < 256 := by rw [hl2]; exact getD_lt s 20
  have HPO : Hid (pOf s = ⟨g, x, i, n, s.extract 21 (21 + (256 * l1 + l2))⟩ ∧ lenOf s = 256 * l1 + l2) := Lib.hid (by rw [hg, hx, hi, hn, hl1, hl2]; exact ⟨rfl, rfl⟩)
  have e17 : (s[17]'i17).toNat = i := by rw [hi]; exact (fr_at_nl s 17 i17).symm
  have e18 : (s[18]'i18).toNat = n := by rw [hn]; exact (fr_at_nl s 18 i18).symm
  have e19 : (s[19]'i19).toNat = l1 := by rw [hl1]; exact (fr_at_nl s 19 i19).symm
  have e20 : (s[20]'i20).toNat = l2 := by rw [hl2]; exact (fr_at_nl s 20 i20).symm
  have k17 : IntKind.i64.wrap (i : Int) = (i : Int) := IntWalk.i64_in _ (by omega)
  have k18 : IntKind.i64.wrap (n : Int) = (n : Int) := IntWalk.i64_in _ (by omega)
  have k19 : IntKind.i64.wrap (l1 : Int) = (l1 : Int) := IntWalk.i64_in _ (by omega)
  have k20 : IntKind.i64.wrap (l2 : Int) = (l2 : Int) := IntWalk.i64_in _ (by omega)
  have V1 := Lib.hid (fun (w : World) => ref_value (s.extract 1 9) w (by simp; omega))
  have V2 := Lib.hid (fun (w : World) => ref_value (s.extract 9 17) w (by simp; omega))
  have V1 : Hid (∀ w : World, Calls Tryz.prog 113 #[.string (s.extract 1 9)] w fun x w' => x = .returned (.int .u64 (g : Int)) ∧ w = w') := Lib.hid (by
    intro w
    have := V1.out w
    rw [nl_extract] at this
    rw [hg]; exact this)
  have V2 : Hid (∀ w : World, Calls Tryz.prog 113 #[.string (s.extract 9 17)] w fun e w' => e = .returned (.int .u64 (x : Int)) ∧ w = w') := Lib.hid (by
    intro w
    have := V2.out w
    rw [nl_extract] at this
    rw [hx]; exact this)
  clear hg hx hi hn hl1 hl2
  clear h hs hr h'
  go_enter Tryz.func124, Tryz.ntmps124
  go_wp2_with fail
  refine (rf_fits a _).mono ?_
  rw [HD.out]
  rintro e w1 ⟨rfl, rfl⟩
  go_wp2_with fail
  refine (ref_right s _ (by have := HS.out; unfold maxLen; omega) (by have := HS.out; omega)).mono ?_
  rw [HR.out]
  rintro e w2 ⟨rfl, b2⟩
  have R0 := Lib.hid (And.intro (Kq.below_blk b2 HX.out (Kq.blk_lt HX.out)) ((Kq.below_alloc w _).trans (b2.mono (Kq.below_alloc w _).size)))
  clear b2 HX
  go_upto_region 7 with fail
  go_cut [6] (fun v wr => v = .pointer (some ⟨w2.heap.size, 0, none⟩) ∧ wr = (w2.alloc (.cells #[.int .u64 (g : Int), .int .u64 (x : Int), .int .i64 (i : Int), .int .i64 (n : Int), .string ⟨#[]⟩] 185)).drew)
  case first =>
    go_wp2_with fail
    refine wp_region_any (by kernel_rfl) ?_
    (try (change wpAny _ _ _ _ _ _ _ (World.drew _)))
    refine wpAny_take (i := 0) (v := ?_) rfl (by kernel_rfl) (by kernel_rfl) (by kernel_rfl) (fun _ _ _ h => h) (Or.inl ⟨by kernel_rfl, ?_⟩) ?_
    rotate_left
    · intro w; go_simp; with_reducible rfl
    refine wpAny_take (i := 1) (v := ?_) rfl (by kernel_rfl) (by kernel_rfl) (by kernel_rfl) (fun _ _ _ h => h) (Or.inl ⟨by kernel_rfl, ?_⟩) ?_
    rotate_left
    · intro w; go_simp; with_reducible rfl
    refine wpAny_take (i := 3) (v := ?_) rfl (by kernel_rfl) (by kernel_rfl) (by kernel_rfl) (fun _ _ _ h => h) (Or.inl ⟨by kernel_rfl, ?_⟩) ?_
    rotate_left
    · intro w; go_simp; with_reducible rfl
    refine wpAny_take (i := 4) (v := ?_) rfl (by kernel_rfl) (by kernel_rfl) (by kernel_rfl) (fun _ _ _ h => h) (Or.inl ⟨by kernel_rfl, ?_⟩) ?_
    rotate_left
    · intro w; go_simp; with_reducible rfl
    refine wpAny_take (i := 6) (v := ?_) rfl (by kernel_rfl) (by kernel_rfl) (by kernel_rfl) (fun _ _ _ h => h) (Or.inl ⟨by kernel_rfl, ?_⟩) ?_
    rotate_left
    · intro w; go_simp; with_reducible rfl
    refine wpAny_take (i := 7) (v := ?_) rfl (by kernel_rfl) (by kernel_rfl) (by kernel_rfl) (fun _ _ _ h => h) (Or.inl ⟨by kernel_rfl, ?_⟩) ?_
    rotate_left
    · intro w; go_simp; with_reducible rfl
    refine wpAny_take (i := 8) (v := ?_) rfl (by kernel_rfl) (by kernel_rfl) (by kernel_rfl) (fun _ _ _ h => h) (Or.inl ⟨by kernel_rfl, ?_⟩) ?_
    rotate_left
    · intro w; go_simp; with_reducible rfl
    refine wpAny_take (i := 9) (v := ?_) rfl (by kernel_rfl) (by kernel_rfl) (by kernel_rfl) (fun _ _ _ h => h) (Or.inl ⟨by kernel_rfl, ?_⟩) ?_
    rotate_left
    · intro w; go_simp; with_reducible rfl
    refine wpAny_take (i := 10) (v := ?_) rfl (by kernel_rfl) (by kernel_rfl) (by kernel_rfl) (fun _ _ _ h => h) (Or.inl ⟨by kernel_rfl, ?_⟩) ?_
    rotate_left
    · intro w; go_simp; with_reducible rfl
    refine wpAny_take (i := 11) (v := ?_) rfl (by kernel_rfl) (by kernel_rfl) (by kernel_rfl) (fun _ _ _ h => h) (Or.inl ⟨by kernel_rfl, ?_⟩) ?_
    rotate_left
    · intro w; go_simp; with_reducible rfl
    refine wpAny_ready (rs := [2, 13]) (by kernel_rfl) (by simp) ?_
    refine (AllReady.cons rfl (fun K hK => ?_) (AllReady.cons rfl (fun K hK => ?_) AllReady.nil))
    · skip
      go_simp
      go_at_call 113; (with_reducible refine (V1.out _).mono ?_); rintro e z2 ⟨rfl, rfl⟩
      (first | (refine hK _ _ ?_; clear hK K) | skip)
      refine wpAny_ready (rs := [5, 13]) (by kernel_rfl) (by simp) ?_
      refine (AllReady.cons rfl (fun K hK => ?_) (AllReady.cons rfl (fun K hK => ?_) AllReady.nil))
      · skip
        go_simp
        go_at_call 113; (with_reducible refine (V2.out _).mono ?_); rintro e z5 ⟨rfl, rfl⟩
        (first | (refine hK _ _ ?_; clear hK K) | skip)
        refine wpAny_take (i := 12) (v := ?_) rfl (by kernel_rfl) (by kernel_rfl) (by kernel_rfl) (fun _ _ _ h => h) (Or.inl ⟨by kernel_rfl, ?_⟩) ?_
        rotate_left
        · intro w; go_simp; with_reducible rfl
        refine wpAny_ready (rs := [13]) (by kernel_rfl) (by simp) ?_
        refine AllReady.cons rfl (fun K hK => ?_) AllReady.nil
        go_simp
        (first | (refine hK _ _ ?_; clear hK K) | skip)
        refine wpAny_ready (rs := [14]) (by kernel_rfl) (by simp) ?_
        refine AllReady.cons rfl (fun K hK => ?_) AllReady.nil
        go_simp
        (first | (refine hK _ _ ?_; clear hK K) | skip)
        refine wpAny_done (by kernel_rfl) ?_ _
        go_wp2_with fail
        go_meet
        case rel => exact ⟨rfl, rfl⟩
      · skip
        go_simp
        (first | (refine hK _ _ ?_; clear hK K) | skip)
        refine wpAny_ready (rs := [5]) (by kernel_rfl) (by simp) ?_
        refine AllReady.cons rfl (fun K hK => ?_) AllReady.nil
        go_simp
        go_at_call 113; (with_reducible refine (V2.out _).mono ?_); rintro e z5 ⟨rfl, rfl⟩
        (first | (refine hK _ _ ?_; clear hK K) | skip)
        refine wpAny_take (i := 12) (v := ?_) rfl (by kernel_rfl) (by kernel_rfl) (by kernel_rfl) (fun _ _ _ h => h) (Or.inl ⟨by kernel_rfl, ?_⟩) ?_
        rotate_left
        · intro w; go_simp; with_reducible rfl
        refine wpAny_ready (rs := [14]) (by kernel_rfl) (by simp) ?_
        refine AllReady.cons rfl (fun K hK => ?_) AllReady.nil
        go_simp
        (first | (refine hK _ _ ?_; clear hK K) | skip)
        refine wpAny_done (by kernel_rfl) ?_ _
        go_wp2_with fail
        go_meet
        case rel => exact ⟨rfl, rfl⟩
    · skip
      go_simp
      (first | (refine hK _ _ ?_; clear hK K) | skip)
      refine wpAny_ready (rs := [2]) (by kernel_rfl) (by simp) ?_
      refine AllReady.cons rfl (fun K hK => ?_) AllReady.nil
      go_simp
      go_at_call 113; (with_reducible refine (V1.out _).mono ?_); rintro e z2 ⟨rfl, rfl⟩
      (first | (refine hK _ _ ?_; clear hK K) | skip)
      refine wpAny_ready (rs := [5]) (by kernel_rfl) (by simp) ?_
      refine AllReady.cons rfl (fun K hK => ?_) AllReady.nil
      go_simp
      go_at_call 113; (with_reducible refine (V2.out _).mono ?_); rintro e z5 ⟨rfl, rfl⟩
      (first | (refine hK _ _ ?_; clear hK K) | skip)
      refine wpAny_take (i := 12) (v := ?_) rfl (by kernel_rfl) (by kernel_rfl) (by kernel_rfl) (fun _ _ _ h => h) (Or.inl ⟨by kernel_rfl, ?_⟩) ?_
      rotate_left
      · intro w; go_simp; with_reducible rfl
      refine wpAny_ready (rs := [14]) (by kernel_rfl) (by simp) ?_
      refine AllReady.cons rfl (fun K hK => ?_) AllReady.nil
      go_simp
      (first | (refine hK _ _ ?_; clear hK K) | skip)
      refine wpAny_done (by kernel_rfl) ?_ _
      go_wp2_with fail
      go_meet
      case rel => exact ⟨rfl, rfl⟩
  case rest =>
    obtain ⟨rfl, rfl⟩ := hcut
    have Q1 : Hid (Rq w w.heap.size w2.heap.size ⟨g, x, i, n, ⟨#[]⟩⟩ (w2.alloc (.cells #[.int .u64 (g : Int), .int .u64 (x : Int), .int .i64 (i : Int), .int .i64 (n : Int), .string ⟨#[]⟩] 185)).drew) := Lib.hid ⟨Kq.below_blk (Kq.below_alloc w2 _).drew R0.out.1 (Kq.blk_lt R0.out.1), Kq.blk_new w2 _ _ _, Nat.ne_of_lt (Kq.blk_lt R0.out.1), ⟨Nat.le_refl _, R0.out.2.size⟩, R0.out.2.trans ((Kq.below_alloc w2 _).drew.mono R0.out.2.size)⟩
    generalize (w2.alloc (.cells #[.int .u64 (g : Int), .int .u64 (x : Int), .int .i64 (i : Int), .int .i64 (n : Int), .string ⟨#[]⟩] 185)).drew = w3 at *
    generalize w2.heap.size = H at *
    clear R0 V1 V2 e17 e18 k17 k18
    obtain ⟨l, hl⟩ : ∃ z, z = 256 * l1 + l2 := ⟨_, rfl⟩
    rw [← hl] at HPO
    have hl3 : (l1 : Int) * 256 + (l2 : Int) = (l : Int) := by omega
    have hl4 : l ≤ 65535 := by omega
    clear hl
    go_wp2_with fail
    go_quiet (fail)
    have Q2 := Lib.hid (Q1.out.drewN nq)
    generalize hwq : w3.drewN nq = w4 at *
    clear hwq nq Q1
    clear hl3 e19 e20 k19 k20 ll1 ll2
    have HOL := Lib.hid (And.intro (ok_len a s HS.out.1.1 HS.out.2) (d_len a s HS.out.1.1 HS.out.2))
    have HMI := Lib.hid (may_iff a (pOf s) l)
    rw [HPO.out.1, HPO.out.2] at HOL
    rw [HPO.out.1] at HMI
    have HOK : Hid (okSec a s ↔ (mayP a ⟨g, x, i, n, s.extract 21 (21 + l)⟩ ∧ frSec a ⟨g, x, i, n, s.extract 21 (21 + l)⟩ = s)) := Lib.hid (by unfold okSec; rw [HPO.out.1])
    obtain ⟨d, hd⟩ : ∃ z, z = s.extract 21 (21 + l) := ⟨_, rfl⟩
    rw [← hd] at HOL HMI HOK HPO
    have HDD := Lib.hid hd
    have hdr : s.extract 21 (21 + l) = d := hd.symm
    clear hd
    by_cases hla : a - 25 < l
    · have t0 : decide ((a : Int) - 25 < (l : Int)) = true := decide_eq_true (by omega)
      have HRD : Hid (frRead a s = (none, 5)) := Lib.hid (HNO.out (fun hh => by have := (HOL.out.1 (HOK.out.1 hh).1).1; omega))
      have r0 := Kq.blk_cell Q2.out.rb 0
      have r1 := Kq.blk_cell Q2.out.rb 1
      have r2 := Kq.blk_cell Q2.out.rb 2
      have r3 := Kq.blk_cell Q2.out.rb 3
      have r4 := Kq.blk_cell Q2.out.rb 4
      have q0 := Kq.blk_free Q2.out.rb 0
      have q1 := Kq.blk_free Q2.out.rb 1
      have q2 := Kq.blk_free Q2.out.rb 2
      have q3 := Kq.blk_free Q2.out.rb 3
      have q4 := Kq.blk_free Q2.out.rb 4
      have c0 := Kq.blk_cell Q2.out.pb 0
      have c1 := Kq.blk_cell Q2.out.pb 1
      have c2 := Kq.blk_cell Q2.out.pb 2
      have c3 := Kq.blk_cell Q2.out.pb 3
      have c4 := Kq.blk_cell Q2.out.pb 4
      go_wp2
      clear r0 q0 r1 q1 r2 q2 r3 q3 r4 q4 c0 c1 c2 c3 c4
      change bodyPost _ _ _ _ _ (fill5 w4 w.heap.size 0 0 0 0 ⟨#[]⟩)
      have p1 := fill5_blk Q2.out.rb 0 0 0 0 ⟨#[]⟩
      have p2 := fill5_keeps w4 w.heap.size 0 0 0 0 ⟨#[]⟩
      generalize fill5 w4 w.heap.size 0 0 0 0 ⟨#[]⟩ = z at *
      have z0 := Kq.blk_cell p1 0
      have z1 := Kq.blk_cell p1 1
      have z2 := Kq.blk_cell p1 2
      have z3 := Kq.blk_cell p1 3
      have z4 := Kq.blk_cell p1 4
      refine bodyPost_ret (v := readVal (none, 5)) (by simp [results, Tryz.results124, go_sem, z0, z1, z2, z3, z4, readVal, partOf, FrP.zero, FrP.val]) rfl ?_
      exact ⟨by rw [HRD.out], Q2.out.bel.trans (p2.below Q2.out.bel.size (fun k _ e => (by subst e; exact Nat.le_refl _)))⟩
    · have t0 : decide ((a : Int) - 25 < (l : Int)) = false := decide_eq_false (by omega)
      by_cases hni : n ≤ i
      · have t1 : decide ((n : Int) ≤ (i : Int)) = true := decide_eq_true (by omega)
        have t1' : decide (n ≤ i) = true := decide_eq_true hni
        have HRD : Hid (frRead a s = (none, 5)) := Lib.hid (HNO.out (fun hh => by have := (HOK.out.1 hh).1.1; simp only at this; omega))
        have r0 := Kq.blk_cell Q2.out.rb 0
        have r1 := Kq.blk_cell Q2.out.rb 1
        have r2 := Kq.blk_cell Q2.out.rb 2
        have r3 := Kq.blk_cell Q2.out.rb 3
        have r4 := Kq.blk_cell Q2.out.rb 4
        have q0 := Kq.blk_free Q2.out.rb 0
        have q1 := Kq.blk_free Q2.out.rb 1
        have q2 := Kq.blk_free Q2.out.rb 2
        have q3 := Kq.blk_free Q2.out.rb 3
        have q4 := Kq.blk_free Q2.out.rb 4
        have c0 := Kq.blk_cell Q2.out.pb 0
        have c1 := Kq.blk_cell Q2.out.pb 1
        have c2 := Kq.blk_cell Q2.out.pb 2
        have c3 := Kq.blk_cell Q2.out.pb 3
        have c4 := Kq.blk_cell Q2.out.pb 4
        go_wp2
        clear r0 q0 r1 q1 r2 q2 r3 q3 r4 q4 c0 c1 c2 c3 c4
        change bodyPost _ _ _ _ _ (fill5 w4 w.heap.size 0 0 0 0 ⟨#[]⟩)
        have p1 := fill5_blk Q2.out.rb 0 0 0 0 ⟨#[]⟩
        have p2 := fill5_keeps w4 w.heap.size 0 0 0 0 ⟨#[]⟩
        generalize fill5 w4 w.heap.size 0 0 0 0 ⟨#[]⟩ = z at *
        have z0 := Kq.blk_cell p1 0
        have z1 := Kq.blk_cell p1 1
        have z2 := Kq.blk_cell p1 2
        have z3 := Kq.blk_cell p1 3
        have z4 := Kq.blk_cell p1 4
        refine bodyPost_ret (v := readVal (none, 5)) (by simp [results, Tryz.results124, go_sem, z0, z1, z2, z3, z4, readVal, partOf, FrP.zero, FrP.val]) rfl ?_
        exact ⟨by rw [HRD.out], Q2.out.bel.trans (p2.below Q2.out.bel.size (fun k _ e => (by subst e; exact Nat.le_refl _)))⟩
      · have t1 : decide ((n : Int) ≤ (i : Int)) = false := decide_eq_false (by omega)
        have t1' : decide (n ≤ i) = false := decide_eq_false hni
        have hls : (21 : Int) + (l : Int) = ((21 + l : Nat) : Int) := by omega
        have hls2 : ((21 + l : Nat) : Int) ≤ (s.size : Int) := by have := HS.out; omega
        have hls3 : (21 : Int) ≤ ((21 + l : Nat) : Int) := by omega
        have hls4 : 21 + l ≤ 600 := by omega
        have hdl := HOL.out.2 (by omega)
        simp only at hdl
        have HDL := Lib.hid hdl
        have HLE := Lib.hid (show l ≤ a - 25 by omega)
        have HIN := Lib.hid (show i < n by omega)
        have HMI2 := Lib.hid (HMI.out HDL.out HLE.out HIN.out)
        simp only at HMI2
        clear hdl
        generalize hlz : 21 + l = lz at *
        have HLZ := Lib.hid hlz
        clear hlz
        have hM : ((n : Int) - 1) * ((a : Int) - 25) = (((n - 1) * (a - 25) : Nat) : Int) := by rw [Int.natCast_mul]; congr 1 <;> omega
        have hMl : (n - 1) * (a - 25) ≤ 254 * 487 := Nat.mul_le_mul (by omega) (by omega)
        have HLP : Hid (leastP a i n l = if i + 1 = n then (n - 1) * (a - 25) + l else (n - 1) * (a - 25) + 1) := Lib.hid rfl
        have HBP : Hid (badB a i n l = ((decide (i + 1 < n) && !(decide (l = a - 25))) || (decide (0 < i) && decide (l = 0)))) := Lib.hid rfl
        generalize (n - 1) * (a - 25) = M at *
        have c2 := Kq.blk_cell Q2.out.pb 2
        have c3 := Kq.blk_cell Q2.out.pb 3
        have c4 := Kq.blk_cell Q2.out.pb 4
        have f4 := Kq.blk_free Q2.out.pb 4
        have Q3 := Lib.hid (Q2.out.set4 d)
        have e0 := Kq.blk_cell Q3.out.pb 0
        have e1 := Kq.blk_cell Q3.out.pb 1
        have e2 := Kq.blk_cell Q3.out.pb 2
        have e3 := Kq.blk_cell Q3.out.pb 3
        have e4 := Kq.blk_cell Q3.out.pb 4
        have HMM : Hid (mayP a ⟨g, x, i, n, d⟩ ↔ (badB a i n l = false ∧ leastP a i n l ≤ 4096)) := HMI2
        clear HMI2 HMI
        have hnb : n ≤ 255 := by omega
        by_cases g1 : i + 1 < n
        · have t2 : decide ((i : Int) < (n : Int) - 1) = true := decide_eq_true (by omega)
          have t6 : ((i : Int) == (n : Int) - 1) = false := by simp; omega
          by_cases g2 : l = a - 25
          · have t3 : ((l : Int) != (a : Int) - 25) = false := by simp; omega
            have t4 : ((l : Int) == 0) = false := by simp; omega
            have t4' : (l == 0) = false := by simp; omega
            by_cases g3 : 0 < i
            · skip
              have t5 : decide ((0 : Int) < (i : Int)) = true := decide_eq_true (by omega)
              have t5' : decide (0 < i) = true := decide_eq_true (by omega)
              have HLE2 : Hid (leastP a i n l = M + 1) := Lib.hid (by rw [HLP.out]; exact if_neg (by omega))
              have HBF : Hid (badB a i n l = false) := Lib.hid (by rw [HBP.out]; simp; omega)
              have hMb : M ≤ 130000 := by omega
              have G2 := Lib.hid g2
              clear g2
              by_cases g5 : 4096 < M + 1
              · have t7 : decide ((4096 : Int) < (M : Int) + 1) = true := decide_eq_true (by omega)
                have HRD : Hid (frRead a s = (none, 5)) := Lib.hid (HNO.out (fun hh => by have h9 := (HMM.out.1 (HOK.out.1 hh).1).2; rw [HLE2.out] at h9; omega))
                have r0 := Kq.blk_cell Q3.out.rb 0
                have r1 := Kq.blk_cell Q3.out.rb 1
                have r2 := Kq.blk_cell Q3.out.rb 2
                have r3 := Kq.blk_cell Q3.out.rb 3
                have r4 := Kq.blk_cell Q3.out.rb 4
                have q0 := Kq.blk_free Q3.out.rb 0
                have q1 := Kq.blk_free Q3.out.rb 1
                have q2 := Kq.blk_free Q3.out.rb 2
                have q3 := Kq.blk_free Q3.out.rb 3
                have q4 := Kq.blk_free Q3.out.rb 4
                go_wp2
                clear r0 q0 e0 r1 q1 e1 r2 q2 e2 r3 q3 e3 r4 q4 e4 c2 c3 c4 f4
                change bodyPost _ _ _ _ _ (fill5 (w4.setCell ⟨H, 4, none⟩ (.string d)) w.heap.size 0 0 0 0 ⟨#[]⟩)
                have p1 := fill5_blk Q3.out.rb 0 0 0 0 ⟨#[]⟩
                have p2 := fill5_keeps (w4.setCell ⟨H, 4, none⟩ (.string d)) w.heap.size 0 0 0 0 ⟨#[]⟩
                generalize fill5 (w4.setCell ⟨H, 4, none⟩ (.string d)) w.heap.size 0 0 0 0 ⟨#[]⟩ = z at *
                have z0 := Kq.blk_cell p1 0
                have z1 := Kq.blk_cell p1 1
                have z2 := Kq.blk_cell p1 2
                have z3 := Kq.blk_cell p1 3
                have z4 := Kq.blk_cell p1 4
                refine bodyPost_ret (v := readVal (none, 5)) (by simp [results, Tryz.results124, go_sem, z0, z1, z2, z3, z4, readVal, partOf, FrP.zero, FrP.val]) rfl ?_
                exact ⟨by rw [HRD.out], Q3.out.bel.trans (p2.below Q3.out.bel.size (fun k _ e => (by subst e; exact Nat.le_refl _)))⟩
              · have t7 : decide ((4096 : Int) < (M : Int) + 1) = false := decide_eq_false (by omega)
                have HMY : Hid (mayP a ⟨g, x, i, n, d⟩) := Lib.hid (HMM.out.2 ⟨HBF.out, by rw [HLE2.out]; omega⟩)
                go_wp2_with fail
                refine (rf_sector a ⟨g, x, i, n, d⟩ _ HS.out.1.1 HS.out.1.2 HG1.out.1 HG1.out.2 (by show i ≤ 255; omega) (by show n ≤ 255; omega) HMY.out.2.1).mono ?_
                rintro ex w6 ⟨rfl, b6⟩
                have Q6 := Lib.hid (Q3.out.below b6)
                clear b6 e0 e1 e2 e3 e4 c2 c3 c4 f4
                obtain ⟨FS, hFS⟩ : ∃ z, z = frSec a ⟨g, x, i, n, d⟩ := ⟨_, rfl⟩
                rw [← hFS] at HOK ⊢
                clear hFS
                by_cases hq : FS = s
                · have hbb : (!(FS.toList == s.toList)) = false := by rw [hq]; simp
                  have HRD : Hid (frRead a s = (some ⟨g, x, i, n, d⟩, 0)) := Lib.hid (by rw [HYES.out (HOK.out.2 ⟨HMY.out, hq⟩), HPO.out.1])
                  clear hq
                  have r0 := Kq.blk_cell Q6.out.rb 0
                  have r1 := Kq.blk_cell Q6.out.rb 1
                  have r2 := Kq.blk_cell Q6.out.rb 2
                  have r3 := Kq.blk_cell Q6.out.rb 3
                  have r4 := Kq.blk_cell Q6.out.rb 4
                  have q0 := Kq.blk_free Q6.out.rb 0
                  have q1 := Kq.blk_free Q6.out.rb 1
                  have q2 := Kq.blk_free Q6.out.rb 2
                  have q3 := Kq.blk_free Q6.out.rb 3
                  have q4 := Kq.blk_free Q6.out.rb 4
                  have c0 := Kq.blk_cell Q6.out.pb 0
                  have c1 := Kq.blk_cell Q6.out.pb 1
                  have c2 := Kq.blk_cell Q6.out.pb 2
                  have c3 := Kq.blk_cell Q6.out.pb 3
                  have c4 := Kq.blk_cell Q6.out.pb 4
                  go_wp2
                  clear r0 q0 r1 q1 r2 q2 r3 q3 r4 q4 c0 c1 c2 c3 c4
                  change bodyPost _ _ _ _ _ (fill5 w6 w.heap.size (g : Int) (x : Int) (i : Int) (n : Int) d)
                  have p1 := fill5_blk Q6.out.rb (g : Int) (x : Int) (i : Int) (n : Int) d
                  have p2 := fill5_keeps w6 w.heap.size (g : Int) (x : Int) (i : Int) (n : Int) d
                  generalize fill5 w6 w.heap.size (g : Int) (x : Int) (i : Int) (n : Int) d = z at *
                  have z0 := Kq.blk_cell p1 0
                  have z1 := Kq.blk_cell p1 1
                  have z2 := Kq.blk_cell p1 2
                  have z3 := Kq.blk_cell p1 3
                  have z4 := Kq.blk_cell p1 4
                  refine bodyPost_ret (v := readVal (some ⟨g, x, i, n, d⟩, 0)) (by simp [results, Tryz.results124, go_sem, z0, z1, z2, z3, z4, readVal, partOf, FrP.zero, FrP.val]) rfl ?_
                  exact ⟨by rw [HRD.out], Q6.out.bel.trans (p2.below Q6.out.bel.size (fun k _ e => (by subst e; exact Nat.le_refl _)))⟩
                · have hbb : (!(FS.toList == s.toList)) = true := by rw [eq_text, decide_eq_false (fun e => hq (nl_inj e))]; rfl
                  have HRD : Hid (frRead a s = (none, 5)) := Lib.hid (HNO.out (fun hh => hq (HOK.out.1 hh).2))
                  clear hq
                  have r0 := Kq.blk_cell Q6.out.rb 0
                  have r1 := Kq.blk_cell Q6.out.rb 1
                  have r2 := Kq.blk_cell Q6.out.rb 2
                  have r3 := Kq.blk_cell Q6.out.rb 3
                  have r4 := Kq.blk_cell Q6.out.rb 4
                  have q0 := Kq.blk_free Q6.out.rb 0
                  have q1 := Kq.blk_free Q6.out.rb 1
                  have q2 := Kq.blk_free Q6.out.rb 2
                  have q3 := Kq.blk_free Q6.out.rb 3
                  have q4 := Kq.blk_free Q6.out.rb 4
                  have c0 := Kq.blk_cell Q6.out.pb 0
                  have c1 := Kq.blk_cell Q6.out.pb 1
                  have c2 := Kq.blk_cell Q6.out.pb 2
                  have c3 := Kq.blk_cell Q6.out.pb 3
                  have c4 := Kq.blk_cell Q6.out.pb 4
                  go_wp2
                  clear r0 q0 r1 q1 r2 q2 r3 q3 r4 q4 c0 c1 c2 c3 c4
                  change bodyPost _ _ _ _ _ (fill5 w6 w.heap.size 0 0 0 0 ⟨#[]⟩)
                  have p1 := fill5_blk Q6.out.rb 0 0 0 0 ⟨#[]⟩
                  have p2 := fill5_keeps w6 w.heap.size 0 0 0 0 ⟨#[]⟩
                  generalize fill5 w6 w.heap.size 0 0 0 0 ⟨#[]⟩ = z at *
                  have z0 := Kq.blk_cell p1 0
                  have z1 := Kq.blk_cell p1 1
                  have z2 := Kq.blk_cell p1 2
                  have z3 := Kq.blk_cell p1 3
                  have z4 := Kq.blk_cell p1 4
                  refine bodyPost_ret (v := readVal (none, 5)) (by simp [results, Tryz.results124, go_sem, z0, z1, z2, z3, z4, readVal, partOf, FrP.zero, FrP.val]) rfl ?_
                  exact ⟨by rw [HRD.out], Q6.out.bel.trans (p2.below Q6.out.bel.size (fun k _ e => (by subst e; exact Nat.le_refl _)))⟩
            · skip
              have t5 : decide ((0 : Int) < (i : Int)) = false := decide_eq_false (by omega)
              have t5' : decide (0 < i) = false := decide_eq_false (by omega)
              have HLE2 : Hid (leastP a i n l = M + 1) := Lib.hid (by rw [HLP.out]; exact if_neg (by omega))
              have HBF : Hid (badB a i n l = false) := Lib.hid (by rw [HBP.out]; simp; omega)
              have hMb : M ≤ 130000 := by omega
              have G2 := Lib.hid g2
              clear g2
              by_cases g5 : 4096 < M + 1
              · have t7 : decide ((4096 : Int) < (M : Int) + 1) = true := decide_eq_true (by omega)
                have HRD : Hid (frRead a s = (none, 5)) := Lib.hid (HNO.out (fun hh => by have h9 := (HMM.out.1 (HOK.out.1 hh).1).2; rw [HLE2.out] at h9; omega))
                have r0 := Kq.blk_cell Q3.out.rb 0
                have r1 := Kq.blk_cell Q3.out.rb 1
                have r2 := Kq.blk_cell Q3.out.rb 2
                have r3 := Kq.blk_cell Q3.out.rb 3
                have r4 := Kq.blk_cell Q3.out.rb 4
                have q0 := Kq.blk_free Q3.out.rb 0
                have q1 := Kq.blk_free Q3.out.rb 1
                have q2 := Kq.blk_free Q3.out.rb 2
                have q3 := Kq.blk_free Q3.out.rb 3
                have q4 := Kq.blk_free Q3.out.rb 4
                go_wp2
                clear r0 q0 e0 r1 q1 e1 r2 q2 e2 r3 q3 e3 r4 q4 e4 c2 c3 c4 f4
                change bodyPost _ _ _ _ _ (fill5 (w4.setCell ⟨H, 4, none⟩ (.string d)) w.heap.size 0 0 0 0 ⟨#[]⟩)
                have p1 := fill5_blk Q3.out.rb 0 0 0 0 ⟨#[]⟩
                have p2 := fill5_keeps (w4.setCell ⟨H, 4, none⟩ (.string d)) w.heap.size 0 0 0 0 ⟨#[]⟩
                generalize fill5 (w4.setCell ⟨H, 4, none⟩ (.string d)) w.heap.size 0 0 0 0 ⟨#[]⟩ = z at *
                have z0 := Kq.blk_cell p1 0
                have z1 := Kq.blk_cell p1 1
                have z2 := Kq.blk_cell p1 2
                have z3 := Kq.blk_cell p1 3
                have z4 := Kq.blk_cell p1 4
                refine bodyPost_ret (v := readVal (none, 5)) (by simp [results, Tryz.results124, go_sem, z0, z1, z2, z3, z4, readVal, partOf, FrP.zero, FrP.val]) rfl ?_
                exact ⟨by rw [HRD.out], Q3.out.bel.trans (p2.below Q3.out.bel.size (fun k _ e => (by subst e; exact Nat.le_refl _)))⟩
              · have t7 : decide ((4096 : Int) < (M : Int) + 1) = false := decide_eq_false (by omega)
                have HMY : Hid (mayP a ⟨g, x, i, n, d⟩) := Lib.hid (HMM.out.2 ⟨HBF.out, by rw [HLE2.out]; omega⟩)
                go_wp2_with fail
                refine (rf_sector a ⟨g, x, i, n, d⟩ _ HS.out.1.1 HS.out.1.2 HG1.out.1 HG1.out.2 (by show i ≤ 255; omega) (by show n ≤ 255; omega) HMY.out.2.1).mono ?_
                rintro ex w6 ⟨rfl, b6⟩
                have Q6 := Lib.hid (Q3.out.below b6)
                clear b6 e0 e1 e2 e3 e4 c2 c3 c4 f4
                obtain ⟨FS, hFS⟩ : ∃ z, z = frSec a ⟨g, x, i, n, d⟩ := ⟨_, rfl⟩
                rw [← hFS] at HOK ⊢
                clear hFS
                by_cases hq : FS = s
                · have hbb : (!(FS.toList == s.toList)) = false := by rw [hq]; simp
                  have HRD : Hid (frRead a s = (some ⟨g, x, i, n, d⟩, 0)) := Lib.hid (by rw [HYES.out (HOK.out.2 ⟨HMY.out, hq⟩), HPO.out.1])
                  clear hq
                  have r0 := Kq.blk_cell Q6.out.rb 0
                  have r1 := Kq.blk_cell Q6.out.rb 1
                  have r2 := Kq.blk_cell Q6.out.rb 2
                  have r3 := Kq.blk_cell Q6.out.rb 3
                  have r4 := Kq.blk_cell Q6.out.rb 4
                  have q0 := Kq.blk_free Q6.out.rb 0
                  have q1 := Kq.blk_free Q6.out.rb 1
                  have q2 := Kq.blk_free Q6.out.rb 2
                  have q3 := Kq.blk_free Q6.out.rb 3
                  have q4 := Kq.blk_free Q6.out.rb 4
                  have c0 := Kq.blk_cell Q6.out.pb 0
                  have c1 := Kq.blk_cell Q6.out.pb 1
                  have c2 := Kq.blk_cell Q6.out.pb 2
                  have c3 := Kq.blk_cell Q6.out.pb 3
                  have c4 := Kq.blk_cell Q6.out.pb 4
                  go_wp2
                  clear r0 q0 r1 q1 r2 q2 r3 q3 r4 q4 c0 c1 c2 c3 c4
                  change bodyPost _ _ _ _ _ (fill5 w6 w.heap.size (g : Int) (x : Int) (i : Int) (n : Int) d)
                  have p1 := fill5_blk Q6.out.rb (g : Int) (x : Int) (i : Int) (n : Int) d
                  have p2 := fill5_keeps w6 w.heap.size (g : Int) (x : Int) (i : Int) (n : Int) d
                  generalize fill5 w6 w.heap.size (g : Int) (x : Int) (i : Int) (n : Int) d = z at *
                  have z0 := Kq.blk_cell p1 0
                  have z1 := Kq.blk_cell p1 1
                  have z2 := Kq.blk_cell p1 2
                  have z3 := Kq.blk_cell p1 3
                  have z4 := Kq.blk_cell p1 4
                  refine bodyPost_ret (v := readVal (some ⟨g, x, i, n, d⟩, 0)) (by simp [results, Tryz.results124, go_sem, z0, z1, z2, z3, z4, readVal, partOf, FrP.zero, FrP.val]) rfl ?_
                  exact ⟨by rw [HRD.out], Q6.out.bel.trans (p2.below Q6.out.bel.size (fun k _ e => (by subst e; exact Nat.le_refl _)))⟩
                · have hbb : (!(FS.toList == s.toList)) = true := by rw [eq_text, decide_eq_false (fun e => hq (nl_inj e))]; rfl
                  have HRD : Hid (frRead a s = (none, 5)) := Lib.hid (HNO.out (fun hh => hq (HOK.out.1 hh).2))
                  clear hq
                  have r0 := Kq.blk_cell Q6.out.rb 0
                  have r1 := Kq.blk_cell Q6.out.rb 1
                  have r2 := Kq.blk_cell Q6.out.rb 2
                  have r3 := Kq.blk_cell Q6.out.rb 3
                  have r4 := Kq.blk_cell Q6.out.rb 4
                  have q0 := Kq.blk_free Q6.out.rb 0
                  have q1 := Kq.blk_free Q6.out.rb 1
                  have q2 := Kq.blk_free Q6.out.rb 2
                  have q3 := Kq.blk_free Q6.out.rb 3
                  have q4 := Kq.blk_free Q6.out.rb 4
                  have c0 := Kq.blk_cell Q6.out.pb 0
                  have c1 := Kq.blk_cell Q6.out.pb 1
                  have c2 := Kq.blk_cell Q6.out.pb 2
                  have c3 := Kq.blk_cell Q6.out.pb 3
                  have c4 := Kq.blk_cell Q6.out.pb 4
                  go_wp2
                  clear r0 q0 r1 q1 r2 q2 r3 q3 r4 q4 c0 c1 c2 c3 c4
                  change bodyPost _ _ _ _ _ (fill5 w6 w.heap.size 0 0 0 0 ⟨#[]⟩)
                  have p1 := fill5_blk Q6.out.rb 0 0 0 0 ⟨#[]⟩
                  have p2 := fill5_keeps w6 w.heap.size 0 0 0 0 ⟨#[]⟩
                  generalize fill5 w6 w.heap.size 0 0 0 0 ⟨#[]⟩ = z at *
                  have z0 := Kq.blk_cell p1 0
                  have z1 := Kq.blk_cell p1 1
                  have z2 := Kq.blk_cell p1 2
                  have z3 := Kq.blk_cell p1 3
                  have z4 := Kq.blk_cell p1 4
                  refine bodyPost_ret (v := readVal (none, 5)) (by simp [results, Tryz.results124, go_sem, z0, z1, z2, z3, z4, readVal, partOf, FrP.zero, FrP.val]) rfl ?_
                  exact ⟨by rw [HRD.out], Q6.out.bel.trans (p2.below Q6.out.bel.size (fun k _ e => (by subst e; exact Nat.le_refl _)))⟩
          · have t3 : ((l : Int) != (a : Int) - 25) = true := by simp; omega
            have HRD : Hid (frRead a s = (none, 5)) := Lib.hid (HNO.out (fun hh => by have h9 := (HMM.out.1 (HOK.out.1 hh).1).1; rw [HBP.out] at h9; simp at h9; omega))
            have r0 := Kq.blk_cell Q3.out.rb 0
            have r1 := Kq.blk_cell Q3.out.rb 1
            have r2 := Kq.blk_cell Q3.out.rb 2
            have r3 := Kq.blk_cell Q3.out.rb 3
            have r4 := Kq.blk_cell Q3.out.rb 4
            have q0 := Kq.blk_free Q3.out.rb 0
            have q1 := Kq.blk_free Q3.out.rb 1
            have q2 := Kq.blk_free Q3.out.rb 2
            have q3 := Kq.blk_free Q3.out.rb 3
            have q4 := Kq.blk_free Q3.out.rb 4
            go_wp2
            clear r0 q0 e0 r1 q1 e1 r2 q2 e2 r3 q3 e3 r4 q4 e4 c2 c3 c4 f4
            change bodyPost _ _ _ _ _ (fill5 (w4.setCell ⟨H, 4, none⟩ (.string d)) w.heap.size 0 0 0 0 ⟨#[]⟩)
            have p1 := fill5_blk Q3.out.rb 0 0 0 0 ⟨#[]⟩
            have p2 := fill5_keeps (w4.setCell ⟨H, 4, none⟩ (.string d)) w.heap.size 0 0 0 0 ⟨#[]⟩
            generalize fill5 (w4.setCell ⟨H, 4, none⟩ (.string d)) w.heap.size 0 0 0 0 ⟨#[]⟩ = z at *
            have z0 := Kq.blk_cell p1 0
            have z1 := Kq.blk_cell p1 1
            have z2 := Kq.blk_cell p1 2
            have z3 := Kq.blk_cell p1 3
            have z4 := Kq.blk_cell p1 4
            refine bodyPost_ret (v := readVal (none, 5)) (by simp [results, Tryz.results124, go_sem, z0, z1, z2, z3, z4, readVal, partOf, FrP.zero, FrP.val]) rfl ?_
            exact ⟨by rw [HRD.out], Q3.out.bel.trans (p2.below Q3.out.bel.size (fun k _ e => (by subst e; exact Nat.le_refl _)))⟩
        · have t2 : decide ((i : Int) < (n : Int) - 1) = false := decide_eq_false (by omega)
          have t6 : ((i : Int) == (n : Int) - 1) = true := by simp; omega
          by_cases g3 : 0 < i
          · skip
            have t5 : decide ((0 : Int) < (i : Int)) = true := decide_eq_true (by omega)
            have t5' : decide (0 < i) = true := decide_eq_true (by omega)
            by_cases g4 : l = 0
            · skip
              have t4 : ((l : Int) == 0) = true := by simp; omega
              have t4' : (l == 0) = true := by simp; omega
              have HRD : Hid (frRead a s = (none, 5)) := Lib.hid (HNO.out (fun hh => by have h9 := (HMM.out.1 (HOK.out.1 hh).1).1; rw [HBP.out] at h9; simp at h9; omega))
              have r0 := Kq.blk_cell Q3.out.rb 0
              have r1 := Kq.blk_cell Q3.out.rb 1
              have r2 := Kq.blk_cell Q3.out.rb 2
              have r3 := Kq.blk_cell Q3.out.rb 3
              have r4 := Kq.blk_cell Q3.out.rb 4
              have q0 := Kq.blk_free Q3.out.rb 0
              have q1 := Kq.blk_free Q3.out.rb 1
              have q2 := Kq.blk_free Q3.out.rb 2
              have q3 := Kq.blk_free Q3.out.rb 3
              have q4 := Kq.blk_free Q3.out.rb 4
              clear g4
              go_wp2
              clear r0 q0 e0 r1 q1 e1 r2 q2 e2 r3 q3 e3 r4 q4 e4 c2 c3 c4 f4
              change bodyPost _ _ _ _ _ (fill5 (w4.setCell ⟨H, 4, none⟩ (.string d)) w.heap.size 0 0 0 0 ⟨#[]⟩)
              have p1 := fill5_blk Q3.out.rb 0 0 0 0 ⟨#[]⟩
              have p2 := fill5_keeps (w4.setCell ⟨H, 4, none⟩ (.string d)) w.heap.size 0 0 0 0 ⟨#[]⟩
              generalize fill5 (w4.setCell ⟨H, 4, none⟩ (.string d)) w.heap.size 0 0 0 0 ⟨#[]⟩ = z at *
              have z0 := Kq.blk_cell p1 0
              have z1 := Kq.blk_cell p1 1
              have z2 := Kq.blk_cell p1 2
              have z3 := Kq.blk_cell p1 3
              have z4 := Kq.blk_cell p1 4
              refine bodyPost_ret (v := readVal (none, 5)) (by simp [results, Tryz.results124, go_sem, z0, z1, z2, z3, z4, readVal, partOf, FrP.zero, FrP.val]) rfl ?_
              exact ⟨by rw [HRD.out], Q3.out.bel.trans (p2.below Q3.out.bel.size (fun k _ e => (by subst e; exact Nat.le_refl _)))⟩
            · skip
              have t4 : ((l : Int) == 0) = false := by simp; omega
              have t4' : (l == 0) = false := by simp; omega
              have HLE2 : Hid (leastP a i n l = M + l) := Lib.hid (by rw [HLP.out]; exact if_pos (by omega))
              have HBF : Hid (badB a i n l = false) := Lib.hid (by rw [HBP.out]; simp; omega)
              have hMb : M ≤ 130000 := by omega
              by_cases g5 : 4096 < M + l
              · have t7 : decide ((4096 : Int) < (M : Int) + (l : Int)) = true := decide_eq_true (by omega)
                have HRD : Hid (frRead a s = (none, 5)) := Lib.hid (HNO.out (fun hh => by have h9 := (HMM.out.1 (HOK.out.1 hh).1).2; rw [HLE2.out] at h9; omega))
                have r0 := Kq.blk_cell Q3.out.rb 0
                have r1 := Kq.blk_cell Q3.out.rb 1
                have r2 := Kq.blk_cell Q3.out.rb 2
                have r3 := Kq.blk_cell Q3.out.rb 3
                have r4 := Kq.blk_cell Q3.out.rb 4
                have q0 := Kq.blk_free Q3.out.rb 0
                have q1 := Kq.blk_free Q3.out.rb 1
                have q2 := Kq.blk_free Q3.out.rb 2
                have q3 := Kq.blk_free Q3.out.rb 3
                have q4 := Kq.blk_free Q3.out.rb 4
                go_wp2
                clear r0 q0 e0 r1 q1 e1 r2 q2 e2 r3 q3 e3 r4 q4 e4 c2 c3 c4 f4
                change bodyPost _ _ _ _ _ (fill5 (w4.setCell ⟨H, 4, none⟩ (.string d)) w.heap.size 0 0 0 0 ⟨#[]⟩)
                have p1 := fill5_blk Q3.out.rb 0 0 0 0 ⟨#[]⟩
                have p2 := fill5_keeps (w4.setCell ⟨H, 4, none⟩ (.string d)) w.heap.size 0 0 0 0 ⟨#[]⟩
                generalize fill5 (w4.setCell ⟨H, 4, none⟩ (.string d)) w.heap.size 0 0 0 0 ⟨#[]⟩ = z at *
                have z0 := Kq.blk_cell p1 0
                have z1 := Kq.blk_cell p1 1
                have z2 := Kq.blk_cell p1 2
                have z3 := Kq.blk_cell p1 3
                have z4 := Kq.blk_cell p1 4
                refine bodyPost_ret (v := readVal (none, 5)) (by simp [results, Tryz.results124, go_sem, z0, z1, z2, z3, z4, readVal, partOf, FrP.zero, FrP.val]) rfl ?_
                exact ⟨by rw [HRD.out], Q3.out.bel.trans (p2.below Q3.out.bel.size (fun k _ e => (by subst e; exact Nat.le_refl _)))⟩
              · have t7 : decide ((4096 : Int) < (M : Int) + (l : Int)) = false := decide_eq_false (by omega)
                have HMY : Hid (mayP a ⟨g, x, i, n, d⟩) := Lib.hid (HMM.out.2 ⟨HBF.out, by rw [HLE2.out]; omega⟩)
                go_wp2_with fail
                refine (rf_sector a ⟨g, x, i, n, d⟩ _ HS.out.1.1 HS.out.1.2 HG1.out.1 HG1.out.2 (by show i ≤ 255; omega) (by show n ≤ 255; omega) HMY.out.2.1).mono ?_
                rintro ex w6 ⟨rfl, b6⟩
                have Q6 := Lib.hid (Q3.out.below b6)
                clear b6 e0 e1 e2 e3 e4 c2 c3 c4 f4
                obtain ⟨FS, hFS⟩ : ∃ z, z = frSec a ⟨g, x, i, n, d⟩ := ⟨_, rfl⟩
                rw [← hFS] at HOK ⊢
                clear hFS
                by_cases hq : FS = s
                · have hbb : (!(FS.toList == s.toList)) = false := by rw [hq]; simp
                  have HRD : Hid (frRead a s = (some ⟨g, x, i, n, d⟩, 0)) := Lib.hid (by rw [HYES.out (HOK.out.2 ⟨HMY.out, hq⟩), HPO.out.1])
                  clear hq
                  have r0 := Kq.blk_cell Q6.out.rb 0
                  have r1 := Kq.blk_cell Q6.out.rb 1
                  have r2 := Kq.blk_cell Q6.out.rb 2
                  have r3 := Kq.blk_cell Q6.out.rb 3
                  have r4 := Kq.blk_cell Q6.out.rb 4
                  have q0 := Kq.blk_free Q6.out.rb 0
                  have q1 := Kq.blk_free Q6.out.rb 1
                  have q2 := Kq.blk_free Q6.out.rb 2
                  have q3 := Kq.blk_free Q6.out.rb 3
                  have q4 := Kq.blk_free Q6.out.rb 4
                  have c0 := Kq.blk_cell Q6.out.pb 0
                  have c1 := Kq.blk_cell Q6.out.pb 1
                  have c2 := Kq.blk_cell Q6.out.pb 2
                  have c3 := Kq.blk_cell Q6.out.pb 3
                  have c4 := Kq.blk_cell Q6.out.pb 4
                  go_wp2
                  clear r0 q0 r1 q1 r2 q2 r3 q3 r4 q4 c0 c1 c2 c3 c4
                  change bodyPost _ _ _ _ _ (fill5 w6 w.heap.size (g : Int) (x : Int) (i : Int) (n : Int) d)
                  have p1 := fill5_blk Q6.out.rb (g : Int) (x : Int) (i : Int) (n : Int) d
                  have p2 := fill5_keeps w6 w.heap.size (g : Int) (x : Int) (i : Int) (n : Int) d
                  generalize fill5 w6 w.heap.size (g : Int) (x : Int) (i : Int) (n : Int) d = z at *
                  have z0 := Kq.blk_cell p1 0
                  have z1 := Kq.blk_cell p1 1
                  have z2 := Kq.blk_cell p1 2
                  have z3 := Kq.blk_cell p1 3
                  have z4 := Kq.blk_cell p1 4
                  refine bodyPost_ret (v := readVal (some ⟨g, x, i, n, d⟩, 0)) (by simp [results, Tryz.results124, go_sem, z0, z1, z2, z3, z4, readVal, partOf, FrP.zero, FrP.val]) rfl ?_
                  exact ⟨by rw [HRD.out], Q6.out.bel.trans (p2.below Q6.out.bel.size (fun k _ e => (by subst e; exact Nat.le_refl _)))⟩
                · have hbb : (!(FS.toList == s.toList)) = true := by rw [eq_text, decide_eq_false (fun e => hq (nl_inj e))]; rfl
                  have HRD : Hid (frRead a s = (none, 5)) := Lib.hid (HNO.out (fun hh => hq (HOK.out.1 hh).2))
                  clear hq
                  have r0 := Kq.blk_cell Q6.out.rb 0
                  have r1 := Kq.blk_cell Q6.out.rb 1
                  have r2 := Kq.blk_cell Q6.out.rb 2
                  have r3 := Kq.blk_cell Q6.out.rb 3
                  have r4 := Kq.blk_cell Q6.out.rb 4
                  have q0 := Kq.blk_free Q6.out.rb 0
                  have q1 := Kq.blk_free Q6.out.rb 1
                  have q2 := Kq.blk_free Q6.out.rb 2
                  have q3 := Kq.blk_free Q6.out.rb 3
                  have q4 := Kq.blk_free Q6.out.rb 4
                  have c0 := Kq.blk_cell Q6.out.pb 0
                  have c1 := Kq.blk_cell Q6.out.pb 1
                  have c2 := Kq.blk_cell Q6.out.pb 2
                  have c3 := Kq.blk_cell Q6.out.pb 3
                  have c4 := Kq.blk_cell Q6.out.pb 4
                  go_wp2
                  clear r0 q0 r1 q1 r2 q2 r3 q3 r4 q4 c0 c1 c2 c3 c4
                  change bodyPost _ _ _ _ _ (fill5 w6 w.heap.size 0 0 0 0 ⟨#[]⟩)
                  have p1 := fill5_blk Q6.out.rb 0 0 0 0 ⟨#[]⟩
                  have p2 := fill5_keeps w6 w.heap.size 0 0 0 0 ⟨#[]⟩
                  generalize fill5 w6 w.heap.size 0 0 0 0 ⟨#[]⟩ = z at *
                  have z0 := Kq.blk_cell p1 0
                  have z1 := Kq.blk_cell p1 1
                  have z2 := Kq.blk_cell p1 2
                  have z3 := Kq.blk_cell p1 3
                  have z4 := Kq.blk_cell p1 4
                  refine bodyPost_ret (v := readVal (none, 5)) (by simp [results, Tryz.results124, go_sem, z0, z1, z2, z3, z4, readVal, partOf, FrP.zero, FrP.val]) rfl ?_
                  exact ⟨by rw [HRD.out], Q6.out.bel.trans (p2.below Q6.out.bel.size (fun k _ e => (by subst e; exact Nat.le_refl _)))⟩
          · skip
            have t5 : decide ((0 : Int) < (i : Int)) = false := decide_eq_false (by omega)
            have t5' : decide (0 < i) = false := decide_eq_false (by omega)
            have HLE2 : Hid (leastP a i n l = M + l) := Lib.hid (by rw [HLP.out]; exact if_pos (by omega))
            have HBF : Hid (badB a i n l = false) := Lib.hid (by rw [HBP.out]; simp; omega)
            have hMb : M ≤ 130000 := by omega
            by_cases g5 : 4096 < M + l
            · have t7 : decide ((4096 : Int) < (M : Int) + (l : Int)) = true := decide_eq_true (by omega)
              have HRD : Hid (frRead a s = (none, 5)) := Lib.hid (HNO.out (fun hh => by have h9 := (HMM.out.1 (HOK.out.1 hh).1).2; rw [HLE2.out] at h9; omega))
              have r0 := Kq.blk_cell Q3.out.rb 0
              have r1 := Kq.blk_cell Q3.out.rb 1
              have r2 := Kq.blk_cell Q3.out.rb 2
              have r3 := Kq.blk_cell Q3.out.rb 3
              have r4 := Kq.blk_cell Q3.out.rb 4
              have q0 := Kq.blk_free Q3.out.rb 0
              have q1 := Kq.blk_free Q3.out.rb 1
              have q2 := Kq.blk_free Q3.out.rb 2
              have q3 := Kq.blk_free Q3.out.rb 3
              have q4 := Kq.blk_free Q3.out.rb 4
              go_wp2
              clear r0 q0 e0 r1 q1 e1 r2 q2 e2 r3 q3 e3 r4 q4 e4 c2 c3 c4 f4
              change bodyPost _ _ _ _ _ (fill5 (w4.setCell ⟨H, 4, none⟩ (.string d)) w.heap.size 0 0 0 0 ⟨#[]⟩)
              have p1 := fill5_blk Q3.out.rb 0 0 0 0 ⟨#[]⟩
              have p2 := fill5_keeps (w4.setCell ⟨H, 4, none⟩ (.string d)) w.heap.size 0 0 0 0 ⟨#[]⟩
              generalize fill5 (w4.setCell ⟨H, 4, none⟩ (.string d)) w.heap.size 0 0 0 0 ⟨#[]⟩ = z at *
              have z0 := Kq.blk_cell p1 0
              have z1 := Kq.blk_cell p1 1
              have z2 := Kq.blk_cell p1 2
              have z3 := Kq.blk_cell p1 3
              have z4 := Kq.blk_cell p1 4
              refine bodyPost_ret (v := readVal (none, 5)) (by simp [results, Tryz.results124, go_sem, z0, z1, z2, z3, z4, readVal, partOf, FrP.zero, FrP.val]) rfl ?_
              exact ⟨by rw [HRD.out], Q3.out.bel.trans (p2.below Q3.out.bel.size (fun k _ e => (by subst e; exact Nat.le_refl _)))⟩
            · have t7 : decide ((4096 : Int) < (M : Int) + (l : Int)) = false := decide_eq_false (by omega)
              have HMY : Hid (mayP a ⟨g, x, i, n, d⟩) := Lib.hid (HMM.out.2 ⟨HBF.out, by rw [HLE2.out]; omega⟩)
              go_wp2_with fail
              refine (rf_sector a ⟨g, x, i, n, d⟩ _ HS.out.1.1 HS.out.1.2 HG1.out.1 HG1.out.2 (by show i ≤ 255; omega) (by show n ≤ 255; omega) HMY.out.2.1).mono ?_
              rintro ex w6 ⟨rfl, b6⟩
              have Q6 := Lib.hid (Q3.out.below b6)
              clear b6 e0 e1 e2 e3 e4 c2 c3 c4 f4
              obtain ⟨FS, hFS⟩ : ∃ z, z = frSec a ⟨g, x, i, n, d⟩ := ⟨_, rfl⟩
              rw [← hFS] at HOK ⊢
              clear hFS
              by_cases hq : FS = s
              · have hbb : (!(FS.toList == s.toList)) = false := by rw [hq]; simp
                have HRD : Hid (frRead a s = (some ⟨g, x, i, n, d⟩, 0)) := Lib.hid (by rw [HYES.out (HOK.out.2 ⟨HMY.out, hq⟩), HPO.out.1])
                clear hq
                have r0 := Kq.blk_cell Q6.out.rb 0
                have r1 := Kq.blk_cell Q6.out.rb 1
                have r2 := Kq.blk_cell Q6.out.rb 2
                have r3 := Kq.blk_cell Q6.out.rb 3
                have r4 := Kq.blk_cell Q6.out.rb 4
                have q0 := Kq.blk_free Q6.out.rb 0
                have q1 := Kq.blk_free Q6.out.rb 1
                have q2 := Kq.blk_free Q6.out.rb 2
                have q3 := Kq.blk_free Q6.out.rb 3
                have q4 := Kq.blk_free Q6.out.rb 4
                have c0 := Kq.blk_cell Q6.out.pb 0
                have c1 := Kq.blk_cell Q6.out.pb 1
                have c2 := Kq.blk_cell Q6.out.pb 2
                have c3 := Kq.blk_cell Q6.out.pb 3
                have c4 := Kq.blk_cell Q6.out.pb 4
                go_wp2
                clear r0 q0 r1 q1 r2 q2 r3 q3 r4 q4 c0 c1 c2 c3 c4
                change bodyPost _ _ _ _ _ (fill5 w6 w.heap.size (g : Int) (x : Int) (i : Int) (n : Int) d)
                have p1 := fill5_blk Q6.out.rb (g : Int) (x : Int) (i : Int) (n : Int) d
                have p2 := fill5_keeps w6 w.heap.size (g : Int) (x : Int) (i : Int) (n : Int) d
                generalize fill5 w6 w.heap.size (g : Int) (x : Int) (i : Int) (n : Int) d = z at *
                have z0 := Kq.blk_cell p1 0
                have z1 := Kq.blk_cell p1 1
                have z2 := Kq.blk_cell p1 2
                have z3 := Kq.blk_cell p1 3
                have z4 := Kq.blk_cell p1 4
                refine bodyPost_ret (v := readVal (some ⟨g, x, i, n, d⟩, 0)) (by simp [results, Tryz.results124, go_sem, z0, z1, z2, z3, z4, readVal, partOf, FrP.zero, FrP.val]) rfl ?_
                exact ⟨by rw [HRD.out], Q6.out.bel.trans (p2.below Q6.out.bel.size (fun k _ e => (by subst e; exact Nat.le_refl _)))⟩
              · have hbb : (!(FS.toList == s.toList)) = true := by rw [eq_text, decide_eq_false (fun e => hq (nl_inj e))]; rfl
                have HRD : Hid (frRead a s = (none, 5)) := Lib.hid (HNO.out (fun hh => hq (HOK.out.1 hh).2))
                clear hq
                have r0 := Kq.blk_cell Q6.out.rb 0
                have r1 := Kq.blk_cell Q6.out.rb 1
                have r2 := Kq.blk_cell Q6.out.rb 2
                have r3 := Kq.blk_cell Q6.out.rb 3
                have r4 := Kq.blk_cell Q6.out.rb 4
                have q0 := Kq.blk_free Q6.out.rb 0
                have q1 := Kq.blk_free Q6.out.rb 1
                have q2 := Kq.blk_free Q6.out.rb 2
                have q3 := Kq.blk_free Q6.out.rb 3
                have q4 := Kq.blk_free Q6.out.rb 4
                have c0 := Kq.blk_cell Q6.out.pb 0
                have c1 := Kq.blk_cell Q6.out.pb 1
                have c2 := Kq.blk_cell Q6.out.pb 2
                have c3 := Kq.blk_cell Q6.out.pb 3
                have c4 := Kq.blk_cell Q6.out.pb 4
                go_wp2
                clear r0 q0 r1 q1 r2 q2 r3 q3 r4 q4 c0 c1 c2 c3 c4
                change bodyPost _ _ _ _ _ (fill5 w6 w.heap.size 0 0 0 0 ⟨#[]⟩)
                have p1 := fill5_blk Q6.out.rb 0 0 0 0 ⟨#[]⟩
                have p2 := fill5_keeps w6 w.heap.size 0 0 0 0 ⟨#[]⟩
                generalize fill5 w6 w.heap.size 0 0 0 0 ⟨#[]⟩ = z at *
                have z0 := Kq.blk_cell p1 0
                have z1 := Kq.blk_cell p1 1
                have z2 := Kq.blk_cell p1 2
                have z3 := Kq.blk_cell p1 3
                have z4 := Kq.blk_cell p1 4
                refine bodyPost_ret (v := readVal (none, 5)) (by simp [results, Tryz.results124, go_sem, z0, z1, z2, z3, z4, readVal, partOf, FrP.zero, FrP.val]) rfl ?_
                exact ⟨by rw [HRD.out], Q6.out.bel.trans (p2.below Q6.out.bel.size (fun k _ e => (by subst e; exact Nat.le_refl _)))⟩
end Go.Proofs.YtbpgfhcecanikaaGreat
