/- carracklaw10.PacketRows walked. No condition. -/
import Derived.WalkSpells
import Derived.WalkLawsBesides
import Derived.Deep.QuietTactic
import Derived.BigQuiet
import Derived.Test.YtclepgpaifaneaaPkCheck
namespace Go.Proofs.Ytclepgpaifaneaa.packetRows
open Go.RowKit
set_option linter.unusedVariables false
theorem num8_inj {a b : Nat} (ha : a < M64) (hb : b < M64) (h : num8 a = num8 b) : a = b := by
  rw [← val_num8 a ha, ← val_num8 b hb, h]
theorem eq_key (c d a b : Nat) (hc : c < 256) (hd : d < 256) (ha : a < M64) (hb : b < M64) : ((keyT c a).toList == (keyT d b).toList) = decide (c = d ∧ a = b) := by
  rw [eq_text, keyT_nl c a hc, keyT_nl d b hd]
  refine decide_eq_decide.2 ⟨fun h => ?_, fun h => by rw [h.1, h.2]⟩
  injection h with h1 h2
  exact ⟨h1, num8_inj ha hb h2⟩
theorem val_from (l : List Nat) (n : Nat) : l.foldl (fun n b => n * 256 + b) n = n * 256 ^ l.length + WireM.val l := by
  unfold WireM.val
  induction l generalizing n with
  | nil => simp
  | cons b l ih =>
    rw [List.foldl_cons, List.foldl_cons, ih, ih (0 * 256 + b), List.length_cons, Nat.pow_succ, Nat.zero_mul, Nat.zero_add, Nat.add_mul, Nat.mul_assoc, Nat.mul_comm 256, Nat.add_assoc]
theorem val_cons (a : Nat) (l : List Nat) : WireM.val (a :: l) = a * 256 ^ l.length + WireM.val l := by
  have := val_from l (0 * 256 + a)
  rw [Nat.zero_mul, Nat.zero_add] at this
  rw [← this]
  unfold WireM.val
  rw [List.foldl_cons, Nat.zero_mul, Nat.zero_add]
theorem less_val (l m : List Nat) (h : l.length = m.length) (hl : ∀ b ∈ l, b < 256) (hm : ∀ b ∈ m, b < 256) : Op.bytesLess (l.map UInt8.ofNat) (m.map UInt8.ofNat) = decide (WireM.val l < WireM.val m) := by
  induction l generalizing m with
  | nil =>
    have : m = [] := List.eq_nil_of_length_eq_zero h.symm
    subst this
    simp [Op.bytesLess]
  | cons a l ih =>
    match m, h with
    | b :: m, h =>
      have h' : l.length = m.length := by simpa using h
      have ha := hl a (List.mem_cons_self ..)
      have hb := hm b (List.mem_cons_self ..)
      have hl' : ∀ b ∈ l, b < 256 := fun x hx => hl x (List.mem_cons_of_mem _ hx)
      have hm' : ∀ b ∈ m, b < 256 := fun x hx => hm x (List.mem_cons_of_mem _ hx)
      rw [List.map_cons, List.map_cons, Op.bytesLess, ih m h' hl' hm', val_cons, val_cons, h']
      have v1 := WireM.val_lt l hl'
      have v2 := WireM.val_lt m hm'
      rw [h'] at v1
      have e1 : (UInt8.ofNat a < UInt8.ofNat b) ↔ a < b := by
        rw [UInt8.lt_iff_toNat_lt]
        simp [Nat.mod_eq_of_lt ha, Nat.mod_eq_of_lt hb]
      have e2 : (UInt8.ofNat a == UInt8.ofNat b) = decide (a = b) := by
        rw [Bool.eq_iff_iff, beq_iff_eq, decide_eq_true_iff, ← UInt8.toNat_inj]
        simp [Nat.mod_eq_of_lt ha, Nat.mod_eq_of_lt hb]
      have e3 : decide (UInt8.ofNat a < UInt8.ofNat b) = decide (a < b) := decide_eq_decide.2 e1
      rw [e2, e3]
      obtain ⟨P, hP⟩ : ∃ P, 256 ^ m.length = P := ⟨_, rfl⟩
      simp only [hP] at v1 v2 ⊢
      rcases Nat.lt_trichotomy a b with hab | hab | hab
      · have h1 : a * P + P ≤ b * P := by
          rw [← Nat.succ_mul]; exact Nat.mul_le_mul_right _ hab
        have h2 : a * P + WireM.val l < b * P + WireM.val m := by omega
        simp [hab, h2]
      · subst hab
        simp
      · have h1 : b * P + P ≤ a * P := by
          rw [← Nat.succ_mul]; exact Nat.mul_le_mul_right _ hab
        have h2 : ¬ a * P + WireM.val l < b * P + WireM.val m := by omega
        have h3 : ¬ a < b := by omega
        have h4 : ¬ a = b := by omega
        simp [h2, h3, h4]
theorem less_key (c a b : Nat) (hc : c < 256) (ha : a < M64) (hb : b < M64) : Op.bytesLess (keyT c a).toList (keyT c b).toList = decide ((a : Int) < (b : Int)) := by
  have h := less_val (c :: num8 a) (c :: num8 b) rfl (by intro x hx; rcases List.mem_cons.1 hx with rfl | h; exact hc; exact num8_lt a x h) (by intro x hx; rcases List.mem_cons.1 hx with rfl | h; exact hc; exact num8_lt b x h)
  rw [val_cons, val_cons, val_num8 a ha, val_num8 b hb, show (num8 a).length = (num8 b).length from rfl] at h
  rw [Lib.toList_data, Lib.toList_data]
  show Op.bytesLess ((c :: num8 a).map UInt8.ofNat) ((c :: num8 b).map UInt8.ofNat) = _
  rw [h]
  exact decide_eq_decide.2 (by omega)
/-- the two rows of keys -/
structure Kb (W : World) (X Y a b : Nat) (w : World) : Prop where
  x : w.heap[X]? = some (.cells #[.string (keyT 99 a), .string (keyT 114 a), .string (keyT 97 a)] 51 (0, 0))
  y : w.heap[Y]? = some (.cells #[.string (keyT 99 b), .string (keyT 114 b), .string (keyT 97 b)] 51 (0, 0))
  bel : Below W.heap.size W w
theorem Kb.step {W w w' : World} {X Y a b : Nat} (h : Kb W X Y a b w) (hb : Below w.heap.size w w') : Kb W X Y a b w' :=
  ⟨Kq.below_blk hb h.x (Kq.blk_lt h.x), Kq.below_blk hb h.y (Kq.blk_lt h.y), h.bel.trans (hb.mono h.bel.size)⟩
theorem Kb.drewN {W w : World} {X Y a b : Nat} (h : Kb W X Y a b w) (n : Nat) : Kb W X Y a b (w.drewN n) :=
  ⟨h.x, h.y, ⟨h.bel.os, h.bel.tape, h.bel.output, h.bel.size, h.bel.block⟩⟩
set_option maxRecDepth 100000 in
set_option maxHeartbeats 8000000 in
theorem main (a b : Nat) (W : World) (ha : a < M64) (hb : b < M64) (ab lt : Bool) (hab : ((a : Int) == (b : Int)) = ab) (hlt : decide ((a : Int) < (b : Int)) = lt) (hlt2 : decide (a < b) = lt) (hab2 : decide (a = b) = ab) :
    Calls Try.prog 6 #[.int .u64 (a : Int), .int .u64 (b : Int)] W fun x w' => x = .returned (.bool true) ∧ Below W.heap.size W w' := by
  have HA := Lib.hid ha
  have HB := Lib.hid hb
  have hE9999 : ((keyT 99 a).toList == (keyT 99 b).toList) = ab := by rw [eq_key 99 99 a b (by decide) (by decide) ha hb]; simpa using hab2
  have hE99114 : ((keyT 99 a).toList == (keyT 114 b).toList) = false := by rw [eq_key 99 114 a b (by decide) (by decide) ha hb]; simp
  have hE9997 : ((keyT 99 a).toList == (keyT 97 b).toList) = false := by rw [eq_key 99 97 a b (by decide) (by decide) ha hb]; simp
  have hE11499 : ((keyT 114 a).toList == (keyT 99 b).toList) = false := by rw [eq_key 114 99 a b (by decide) (by decide) ha hb]; simp
  have hE114114 : ((keyT 114 a).toList == (keyT 114 b).toList) = ab := by rw [eq_key 114 114 a b (by decide) (by decide) ha hb]; simpa using hab2
  have hE11497 : ((keyT 114 a).toList == (keyT 97 b).toList) = false := by rw [eq_key 114 97 a b (by decide) (by decide) ha hb]; simp
  have hE9799 : ((keyT 97 a).toList == (keyT 99 b).toList) = false := by rw [eq_key 97 99 a b (by decide) (by decide) ha hb]; simp
  have hE97114 : ((keyT 97 a).toList == (keyT 114 b).toList) = false := by rw [eq_key 97 114 a b (by decide) (by decide) ha hb]; simp
  have hE9797 : ((keyT 97 a).toList == (keyT 97 b).toList) = ab := by rw [eq_key 97 97 a b (by decide) (by decide) ha hb]; simpa using hab2
  have hL99 : Op.bytesLess (keyT 99 a).toList (keyT 99 b).toList = lt := by rw [less_key 99 a b (by decide) ha hb]; exact hlt
  have hZ99 := keyT_size 99 a
  have HS99 := Lib.hid (seqOf_key 99 a (by decide) rfl ha)
  have hL114 : Op.bytesLess (keyT 114 a).toList (keyT 114 b).toList = lt := by rw [less_key 114 a b (by decide) ha hb]; exact hlt
  have hZ114 := keyT_size 114 a
  have HS114 := Lib.hid (seqOf_key 114 a (by decide) rfl ha)
  have hL97 : Op.bytesLess (keyT 97 a).toList (keyT 97 b).toList = lt := by rw [less_key 97 a b (by decide) ha hb]; exact hlt
  have hZ97 := keyT_size 97 a
  have HS97 := Lib.hid (seqOf_key 97 a (by decide) rfl ha)
  clear ha hb hab2
  go_enter Try.func6, Try.ntmps6
  go_wp2_with fail
  refine (awake _).mono ?_
  rintro x w1 ⟨rfl, b1⟩
  have H1 := Lib.hid b1
  clear b1
  go_wp2_with fail
  refine (pk_sent a _ HA.out).mono ?_
  rintro x w2 ⟨rfl, b2⟩
  have H2 := Lib.hid (H1.out.trans (b2.mono H1.out.size))
  clear b2
  go_wp2_with fail
  refine (pk_received a _ HA.out).mono ?_
  rintro x w3 ⟨rfl, b3⟩
  have H3 := Lib.hid (H2.out.trans (b3.mono H2.out.size))
  clear b3
  go_wp2_with fail
  refine (pk_answered a _ HA.out).mono ?_
  rintro x w4 ⟨rfl, b4⟩
  have H4 := Lib.hid (H3.out.trans (b4.mono H3.out.size))
  clear b4
  go_wp2_with fail
  have H4' := Lib.hid (H4.out.trans ((Kq.below_alloc w4 (Obj.cells #[Value.string (keyT 99 a), Value.string (keyT 114 a), Value.string (keyT 97 a)] 51)).mono H4.out.size))
  have HX4 := Lib.hid (Kq.blk_new w4 #[Value.string (keyT 99 a), Value.string (keyT 114 a), Value.string (keyT 97 a)] 51 (0, 0))
  refine (pk_sent b _ HB.out).mono ?_
  rintro x w5 ⟨rfl, b5⟩
  have H5 := Lib.hid (And.intro (H4'.out.trans (b5.mono H4'.out.size)) (Kq.below_blk b5 HX4.out (Kq.blk_lt HX4.out)))
  clear b5 H4' HX4
  go_wp2_with fail
  refine (pk_received b _ HB.out).mono ?_
  rintro x w6 ⟨rfl, b6⟩
  have H6 := Lib.hid (And.intro (H5.out.1.trans (b6.mono H5.out.1.size)) (Kq.below_blk b6 H5.out.2 (Kq.blk_lt H5.out.2)))
  clear b6 H5
  go_wp2_with fail
  refine (pk_answered b _ HB.out).mono ?_
  rintro x w7 ⟨rfl, b7⟩
  have H7 := Lib.hid (And.intro (H6.out.1.trans (b7.mono H6.out.1.size)) (Kq.below_blk b7 H6.out.2 (Kq.blk_lt H6.out.2)))
  clear b7 H6
  have HK : Hid (Kb W w4.heap.size w7.heap.size a b (w7.alloc (Obj.cells #[Value.string (keyT 99 b), Value.string (keyT 114 b), Value.string (keyT 97 b)] 51))) :=
    Lib.hid ⟨Kq.below_blk (Kq.below_alloc w7 _) H7.out.2 (Kq.blk_lt H7.out.2), Kq.blk_new _ _ _ _, H7.out.1.trans ((Kq.below_alloc w7 _).mono H7.out.1.size)⟩
  clear H1 H2 H3 H4 H7
  go_wp2
  generalize w4.heap.size = X at *
  generalize w7.heap.size = Y at *
  go_loopw [7] (fun i wr => ∃ k : Nat, k ≤ 3 ∧ i = .int .i64 k ∧ Kb W X Y a b wr) (fun i _ => 3 - (intOf i).toNat)
  case atStart => exact ⟨0, by omega, rfl, HK.out⟩
  case round =>
    obtain ⟨i, hi, rfl, hK⟩ := hrel
    have HR := Lib.hid hK
    clear hK HK
    have h4 : i = 0 ∨ i = 1 ∨ i = 2 ∨ i = 3 := by omega
    clear hi
    obtain ⟨wo, rfl⟩ : ∃ wo : World, wo = wr := ⟨_, rfl⟩
    rcases h4 with rfl | rfl | rfl | rfl
    · have x0 : wo.cell? ⟨X, 0, none⟩ = some (.string (keyT 99 a)) := Kq.blk_cell HR.out.x 0
      go_wp2_with fail
      refine (pk_sequence (keyT 99 a) _ (by rw [keyT_size]; decide)).mono ?_
      intro x w8 hp
      unfold SeqPost at hp
      rw [HS99.out] at hp
      obtain ⟨rfl, b8⟩ := hp
      have HR8 := Lib.hid (HR.out.step b8)
      clear b8 x0 HR
      have x0 : w8.cell? ⟨X, 0, none⟩ = some (.string (keyT 99 a)) := Kq.blk_cell HR8.out.x 0
      go_wp2
      clear x0
      go_loopw [10] (fun j wr => ∃ k : Nat, k ≤ 3 ∧ j = .int .i64 k ∧ Kb W X Y a b wr) (fun j _ => 3 - (intOf j).toNat)
      case atStart => exact ⟨0, by omega, rfl, HR8.out⟩
      case round =>
        obtain ⟨k, hk, rfl, hK⟩ := hrel
        have HQ := Lib.hid hK
        clear hK HR8
        have h5 : k = 0 ∨ k = 1 ∨ k = 2 ∨ k = 3 := by omega
        clear hk
        have x0 : wr.cell? ⟨X, 0, none⟩ = some (.string (keyT 99 a)) := Kq.blk_cell HQ.out.x 0
        rcases h5 with rfl | rfl | rfl | rfl
        · have y0 : wr.cell? ⟨Y, 0, none⟩ = some (.string (keyT 99 b)) := Kq.blk_cell HQ.out.y 0
          go_wp2
          go_quiet (fail)
          go_wp2
          go_round
          case rel => exact ⟨1, by omega, rfl, HQ.out.drewN _⟩
          case measure => simp [intOf]
        · have y0 : wr.cell? ⟨Y, 1, none⟩ = some (.string (keyT 114 b)) := Kq.blk_cell HQ.out.y 1
          go_wp2
          go_quiet (fail)
          go_wp2
          go_round
          case rel => exact ⟨2, by omega, rfl, HQ.out.drewN _⟩
          case measure => simp [intOf]
        · have y0 : wr.cell? ⟨Y, 2, none⟩ = some (.string (keyT 97 b)) := Kq.blk_cell HQ.out.y 2
          go_wp2
          go_quiet (fail)
          go_wp2
          go_round
          case rel => exact ⟨3, by omega, rfl, HQ.out.drewN _⟩
          case measure => simp [intOf]
        · have y0 : wr.cell? ⟨Y, 0, none⟩ = some (.string (keyT 99 b)) := Kq.blk_cell HQ.out.y 0
          go_wp2
          go_quiet (fail)
          go_wp2
          go_round
          case rel => exact ⟨1, by omega, rfl, HQ.out.drewN _⟩
          case measure => simp [intOf]
    · have x0 : wo.cell? ⟨X, 1, none⟩ = some (.string (keyT 114 a)) := Kq.blk_cell HR.out.x 1
      go_wp2_with fail
      refine (pk_sequence (keyT 114 a) _ (by rw [keyT_size]; decide)).mono ?_
      intro x w8 hp
      unfold SeqPost at hp
      rw [HS114.out] at hp
      obtain ⟨rfl, b8⟩ := hp
      have HR8 := Lib.hid (HR.out.step b8)
      clear b8 x0 HR
      have x0 : w8.cell? ⟨X, 1, none⟩ = some (.string (keyT 114 a)) := Kq.blk_cell HR8.out.x 1
      go_wp2
      clear x0
      go_loopw [10] (fun j wr => ∃ k : Nat, k ≤ 3 ∧ j = .int .i64 k ∧ Kb W X Y a b wr) (fun j _ => 3 - (intOf j).toNat)
      case atStart => exact ⟨0, by omega, rfl, HR8.out⟩
      case round =>
        obtain ⟨k, hk, rfl, hK⟩ := hrel
        have HQ := Lib.hid hK
        clear hK HR8
        have h5 : k = 0 ∨ k = 1 ∨ k = 2 ∨ k = 3 := by omega
        clear hk
        have x0 : wr.cell? ⟨X, 1, none⟩ = some (.string (keyT 114 a)) := Kq.blk_cell HQ.out.x 1
        rcases h5 with rfl | rfl | rfl | rfl
        · have y0 : wr.cell? ⟨Y, 0, none⟩ = some (.string (keyT 99 b)) := Kq.blk_cell HQ.out.y 0
          go_wp2
          go_quiet (fail)
          go_wp2
          go_round
          case rel => exact ⟨1, by omega, rfl, HQ.out.drewN _⟩
          case measure => simp [intOf]
        · have y0 : wr.cell? ⟨Y, 1, none⟩ = some (.string (keyT 114 b)) := Kq.blk_cell HQ.out.y 1
          go_wp2
          go_quiet (fail)
          go_wp2
          go_round
          case rel => exact ⟨2, by omega, rfl, HQ.out.drewN _⟩
          case measure => simp [intOf]
        · have y0 : wr.cell? ⟨Y, 2, none⟩ = some (.string (keyT 97 b)) := Kq.blk_cell HQ.out.y 2
          go_wp2
          go_quiet (fail)
          go_wp2
          go_round
          case rel => exact ⟨3, by omega, rfl, HQ.out.drewN _⟩
          case measure => simp [intOf]
        · have y0 : wr.cell? ⟨Y, 1, none⟩ = some (.string (keyT 114 b)) := Kq.blk_cell HQ.out.y 1
          go_wp2
          go_quiet (fail)
          go_wp2
          go_round
          case rel => exact ⟨2, by omega, rfl, HQ.out.drewN _⟩
          case measure => simp [intOf]
    · have x0 : wo.cell? ⟨X, 2, none⟩ = some (.string (keyT 97 a)) := Kq.blk_cell HR.out.x 2
      go_wp2_with fail
      refine (pk_sequence (keyT 97 a) _ (by rw [keyT_size]; decide)).mono ?_
      intro x w8 hp
      unfold SeqPost at hp
      rw [HS97.out] at hp
      obtain ⟨rfl, b8⟩ := hp
      have HR8 := Lib.hid (HR.out.step b8)
      clear b8 x0 HR
      have x0 : w8.cell? ⟨X, 2, none⟩ = some (.string (keyT 97 a)) := Kq.blk_cell HR8.out.x 2
      go_wp2
      clear x0
      go_loopw [10] (fun j wr => ∃ k : Nat, k ≤ 3 ∧ j = .int .i64 k ∧ Kb W X Y a b wr) (fun j _ => 3 - (intOf j).toNat)
      case atStart => exact ⟨0, by omega, rfl, HR8.out⟩
      case round =>
        obtain ⟨k, hk, rfl, hK⟩ := hrel
        have HQ := Lib.hid hK
        clear hK HR8
        have h5 : k = 0 ∨ k = 1 ∨ k = 2 ∨ k = 3 := by omega
        clear hk
        have x0 : wr.cell? ⟨X, 2, none⟩ = some (.string (keyT 97 a)) := Kq.blk_cell HQ.out.x 2
        rcases h5 with rfl | rfl | rfl | rfl
        · have y0 : wr.cell? ⟨Y, 0, none⟩ = some (.string (keyT 99 b)) := Kq.blk_cell HQ.out.y 0
          go_wp2
          go_quiet (fail)
          go_wp2
          go_round
          case rel => exact ⟨1, by omega, rfl, HQ.out.drewN _⟩
          case measure => simp [intOf]
        · have y0 : wr.cell? ⟨Y, 1, none⟩ = some (.string (keyT 114 b)) := Kq.blk_cell HQ.out.y 1
          go_wp2
          go_quiet (fail)
          go_wp2
          go_round
          case rel => exact ⟨2, by omega, rfl, HQ.out.drewN _⟩
          case measure => simp [intOf]
        · have y0 : wr.cell? ⟨Y, 2, none⟩ = some (.string (keyT 97 b)) := Kq.blk_cell HQ.out.y 2
          go_wp2
          go_quiet (fail)
          go_wp2
          go_round
          case rel => exact ⟨3, by omega, rfl, HQ.out.drewN _⟩
          case measure => simp [intOf]
        · have y0 : wr.cell? ⟨Y, 2, none⟩ = some (.string (keyT 97 b)) := Kq.blk_cell HQ.out.y 2
          go_wp2
          go_quiet (fail)
          go_wp2
          go_round
          case rel => exact ⟨3, by omega, rfl, HQ.out.drewN _⟩
          case measure => simp [intOf]
    · go_wp2
      go_ret
      exact ⟨rfl, HR.out.bel⟩
theorem packetRows_walk (x y : Int) (wx : (Lit.int .u64 x).wf = true) (wy : (Lit.int .u64 y).wf = true) (W : World) :
    Calls Try.prog 6 #[.int .u64 x, .int .u64 y] W fun x w' => x = .returned (.bool true) ∧ Below W.heap.size W w' := by
  have hx : 0 ≤ x ∧ x < 18446744073709551616 := by simp [Lit.wf, IntKind.min, IntKind.max, IntKind.signed, IntKind.bits] at wx; omega
  have hy : 0 ≤ y ∧ y < 18446744073709551616 := by simp [Lit.wf, IntKind.min, IntKind.max, IntKind.signed, IntKind.bits] at wy; omega
  obtain ⟨a, rfl⟩ := Int.eq_ofNat_of_zero_le hx.1
  obtain ⟨b, rfl⟩ := Int.eq_ofNat_of_zero_le hy.1
  exact main a b W (by unfold M64; omega) (by unfold M64; omega) _ _ rfl rfl (decide_eq_decide.2 (by omega)) (by rw [Bool.eq_iff_iff, beq_iff_eq, decide_eq_true_iff]; omega)
end Go.Proofs.Ytclepgpaifaneaa.packetRows
