/- Merged: RsCheck, RcRep, RcPlB. Contract of the document's Check of a state. Condition: a state of the arguments. Contract of record's Replay on records' own bytes. Condition: the texts stand in a list. A state's and a record's box; places compared. No condition. -/
import Derived.WalkSpells
import Derived.Outline
import Derived.Deep.RegionHeld
import Derived.Test.YtkbiolhcpghmkaaGreatRsOneQ
import Derived.Test.YtkbiolhcpghmkaaGreatTrOfQ
import Derived.Test.YtkbiolhcpghmkaaGreatRcOkQ
import Derived.Test.YtkbiolhcpghmkaaGreatRcFewQ
import Derived.Test.YtkbiolhcpghmkaaGreatRcStepQ
namespace Go.Proofs.YtkbiolhcpghmkaaGreat
open Go.RowKit
set_option linter.unusedVariables false
set_option maxRecDepth 100000 in
set_option maxHeartbeats 4000000 in
theorem rs_check (A : Option Addr) (ca : Nat) (d : DaV) (r : Int) (w : World) (hd : DaW w A d) :
    Calls Tryz.prog 10 #[.agg #[.int .u64 d.p0.h, .int .i64 d.p0.i, .int .u64 d.p1.h, .int .i64 d.p1.i, .slice A d.l.length ca], .int .i64 r] w fun x w' => x = .returned (.int .i64 (chkV d r)) ∧ Below w.heap.size w w' := by
  obtain ⟨p0, p1, l⟩ := d
  obtain ⟨w1, hw1⟩ : ∃ z, z = w.alloc (.cells #[.int .u64 p0.h, .int .i64 p0.i, .int .u64 p1.h, .int .i64 p1.i, .slice A l.length ca] 28) := ⟨_, rfl⟩
  obtain ⟨X, hX⟩ : ∃ X, X = w.heap.size := ⟨_, rfl⟩
  have H1 : Hid (Below w.heap.size w w1 ∧ DaX w1 X A ca ⟨p0, p1, l⟩) := Lib.hid (by
    have hb := Kq.below_alloc w (.cells #[.int .u64 p0.h, .int .i64 p0.i, .int .u64 p1.h, .int .i64 p1.i, .slice A l.length ca] 28)
    have hr := Kq.blk_new w #[.int .u64 p0.h, .int .i64 p0.i, .int .u64 p1.h, .int .i64 p1.i, .slice A l.length ca] 28 (0, 0)
    rw [← hw1, ← hX] at hr
    rw [← hw1] at hb
    exact ⟨hb, hr⟩)
  have HD := Lib.hid hd
  have c4 := Kq.blk_cell H1.out.2 4
  simp only at c4
  clear hd
  rw [hw1] at c4
  go_enter Tryz.func10, Tryz.ntmps10
  go_wp2_with fail
  rw [← hX, ← hw1]
  clear c4 hw1 hX
  have hLL : Hid (l.length ≤ 300) := Lib.hid HD.out.ll
  refine (rt_of w1 r l A ca (HD.out.l.below H1.out.1) HD.out.lw hLL.out).mono ?_
  rintro x w2 ⟨b2, hx⟩
  have H2 : Hid (Below w.heap.size w w2 ∧ DaX w2 X A ca ⟨p0, p1, l⟩) := Lib.hid ⟨H1.out.1.trans (b2.mono H1.out.1.size), Kq.below_blk b2 H1.out.2 (Kq.blk_lt H1.out.2)⟩
  obtain ⟨tp, e, rfl, htp⟩ : ∃ (tp : Option Addr) (e : Int), x = .returned (.tuple #[.pointer tp, .int .i64 e]) ∧ ((e ≠ 0 ∧ ofV r l = (e, none)) ∨ (e = 0 ∧ ∃ B acc, tp = some ⟨B, 0, none⟩ ∧ ofV r l = (0, some acc) ∧ RtP w2 (fun k => w1.heap.size ≤ k ∧ k < w2.heap.size) B ⟨r.toNat, acc⟩)) := by
    rcases hx with ⟨e, he, hv, rfl⟩ | ⟨B, acc, hv, rfl, htb⟩
    · exact ⟨none, e, rfl, Or.inl ⟨he, hv⟩⟩
    · exact ⟨_, 0, rfl, Or.inr ⟨rfl, B, acc, rfl, hv, htb⟩⟩
  have HTP := Lib.hid htp
  clear b2 H1 hx htp
  have q1 := Kq.blk_cell H2.out.2 1
  have q3 := Kq.blk_cell H2.out.2 3
  simp only at q1 q3
  go_wp2
  go_loopw [7] (fun i wr => ∃ j : Nat, j ≤ 2 ∧ i = .int .i64 (j : Int) ∧ (1 ≤ j → p0.ok) ∧ (2 ≤ j → p1.ok) ∧ wr = w2) (fun i _ => 2 - (intOf i).toNat)
  case atStart => exact ⟨0, by omega, rfl, fun h => absurd h (by decide), fun h => absurd h (by decide), by first | trivial | rfl⟩
  case round =>
    obtain ⟨j, hj, rfl, h0, h1, rfl⟩ := hrel
    have HOK := Lib.hid (And.intro h0 h1)
    clear h0 h1
    by_cases hlt : j < 2
    · have HBAD : Hid (¬ p0.ok ∨ ¬ p1.ok → chkV ⟨p0, p1, l⟩ r = 1) := Lib.hid (fun h => if_neg (fun h2 => h.elim (fun g => g h2.1) (fun g => g h2.2)))
      rcases (by omega : j = 0 ∨ j = 1) with rfl | rfl
      · by_cases hok : p0.ok
        · have hi : 0 ≤ p0.i ∧ p0.i ≤ 65535 := hok
          have d1 : decide (p0.i < 0) = false := decide_eq_false (by omega)
          have d2 : decide (65535 < p0.i) = false := decide_eq_false (by omega)
          have HK := Lib.hid hok
          clear hok hi hlt hj
          go_wp2
          go_roundw
          case rel => exact ⟨1, by decide, by go_num, fun _ => HK.out, fun h => absurd h (by decide), by first | trivial | rfl⟩
          case measure => simp [intOf]
        · have HE := Lib.hid (HBAD.out (Or.inl hok))
          by_cases hneg : p0.i < 0
          · have d1 : decide (p0.i < 0) = true := decide_eq_true hneg
            clear hok hneg hlt hj
            go_wp2
            go_ret
            exact ⟨by rw [HE.out]; rfl, H2.out.1⟩
          · have d1 : decide (p0.i < 0) = false := decide_eq_false hneg
            have d2 : decide (65535 < p0.i) = true := decide_eq_true (by
              have h3 : ¬ (0 ≤ p0.i ∧ p0.i ≤ 65535) := hok
              omega)
            clear hok hneg hlt hj
            go_wp2
            go_ret
            exact ⟨by rw [HE.out]; rfl, H2.out.1⟩
      · by_cases hok : p1.ok
        · have hi : 0 ≤ p1.i ∧ p1.i ≤ 65535 := hok
          have d1 : decide (p1.i < 0) = false := decide_eq_false (by omega)
          have d2 : decide (65535 < p1.i) = false := decide_eq_false (by omega)
          have HK := Lib.hid hok
          clear hok hi hlt hj
          go_wp2
          go_roundw
          case rel => exact ⟨2, by decide, by go_num, fun _ => HOK.out.1 (by decide), fun _ => HK.out, by first | trivial | rfl⟩
          case measure => simp [intOf]
        · have HE := Lib.hid (HBAD.out (Or.inr hok))
          by_cases hneg : p1.i < 0
          · have d1 : decide (p1.i < 0) = true := decide_eq_true hneg
            clear hok hneg hlt hj
            go_wp2
            go_ret
            exact ⟨by rw [HE.out]; rfl, H2.out.1⟩
          · have d1 : decide (p1.i < 0) = false := decide_eq_false hneg
            have d2 : decide (65535 < p1.i) = true := decide_eq_true (by
              have h3 : ¬ (0 ≤ p1.i ∧ p1.i ≤ 65535) := hok
              omega)
            clear hok hneg hlt hj
            go_wp2
            go_ret
            exact ⟨by rw [HE.out]; rfl, H2.out.1⟩
    · obtain rfl : j = 2 := by omega
      have HOK2 := Lib.hid (And.intro (HOK.out.1 (by decide)) (HOK.out.2 (by decide)))
      clear hlt hj q1 q3 HOK
      have HCV : Hid (chkV ⟨p0, p1, l⟩ r = (ofV r l).2.elim (ofV r l).1 (fun acc => if acc = l then 0 else 15)) := Lib.hid (if_pos HOK2.out)
      by_cases he : e = 0
      case neg =>
        have hee : (e != 0) = true := by rw [bne_iff_ne]; exact he
        have HE : Hid (chkV ⟨p0, p1, l⟩ r = e) := Lib.hid (by
          rcases HTP.out with h | h
          · rw [HCV.out, h.2]; rfl
          · exact absurd h.1 he)
        clear he
        go_wp2
        go_ret
        exact ⟨by rw [HE.out]; rfl, H2.out.1⟩
      subst he
      obtain ⟨B, acc, rfl, hof, An, cn, hrt⟩ : ∃ B acc, tp = some ⟨B, 0, none⟩ ∧ ofV r l = (0, some acc) ∧ RtP wr (fun k => w1.heap.size ≤ k ∧ k < wr.heap.size) B ⟨r.toNat, acc⟩ := by
        rcases HTP.out with h | h
        · exact absurd rfl h.1
        · exact h.2
      have HE : Hid (chkV ⟨p0, p1, l⟩ r = if acc = l then 0 else 15) := Lib.hid (by rw [HCV.out, hof]; rfl)
      have HRT : Hid (RT wr (fun k => w1.heap.size ≤ k ∧ k < wr.heap.size) B ⟨r.toNat, acc⟩ An cn ∧ acc.length ≤ 300) := Lib.hid ⟨hrt, Nat.le_trans (ofV_tb HD.out.lw hof).len (Nat.le_trans (ofV_tb HD.out.lw hof).r40 (by decide))⟩
      have HCELL : Hid (∀ w', Below wr.heap.size wr w' → w'.cell? ⟨B, 0, none⟩ = some (.slice An acc.length cn) ∧ w'.cell? ⟨X, 4, none⟩ = some (.slice A l.length ca) ∧ EnAt NtV.ic w' An acc ∧ EnAt NtV.ic w' A l ∧ Below w.heap.size w w') := Lib.hid (fun w' hb => ⟨Kq.blk_cell (Kq.below_blk hb hrt.blk (Kq.blk_lt hrt.blk)) 0, Kq.blk_cell (Kq.below_blk hb H2.out.2 (Kq.blk_lt H2.out.2)) 4, hrt.at_.below hb, HD.out.l.below (H2.out.1.trans (hb.mono H2.out.1.size)), H2.out.1.trans (hb.mono H2.out.1.size)⟩)
      clear hof hrt HTP HCV
      go_wp2
      refine wp_region_held_drew (S := fun w' => w'.cell? ⟨B, 0, none⟩ = some (.slice An acc.length cn) ∧ w'.cell? ⟨X, 4, none⟩ = some (.slice A l.length ca)) (by kernel_rfl) ⟨(HCELL.out _ (Below.refl _ _).drew).1, (HCELL.out _ (Below.refl _ _).drew).2.1⟩ (fun hS0 => ?_)
      obtain ⟨wd, hwd⟩ : ∃ z, z = wr.drew := ⟨_, rfl⟩
      have HDW : Hid (Below wr.heap.size wr wd) := Lib.hid (by rw [hwd]; exact (Below.refl _ _).drew)
      rw [← hwd] at hS0 ⊢
      clear hwd
      refine wpAnyH_take (i := 0) (v := ?_) rfl (by kernel_rfl) (by kernel_rfl) (by kernel_rfl) (fun _ _ _ h => h) (Or.inl ⟨by kernel_rfl, ?_⟩) (by assumption) ?_
      rotate_left
      · intro w hSw; (try dsimp only at hSw); go_simp; (try with_reducible rfl)
      refine wpAnyH_take (i := 1) (v := ?_) rfl (by kernel_rfl) (by kernel_rfl) (by kernel_rfl) (fun _ _ _ h => h) (Or.inl ⟨by kernel_rfl, ?_⟩) (by assumption) ?_
      rotate_left
      · intro w hSw; (try dsimp only at hSw); go_simp; (try with_reducible rfl)
      refine wpAnyH_take (i := 2) (v := ?_) rfl (by kernel_rfl) (by kernel_rfl) (by kernel_rfl) (fun _ _ _ h => h) (Or.inl ⟨by kernel_rfl, ?_⟩) (by assumption) ?_
      rotate_left
      · intro w hSw; (try dsimp only at hSw); go_simp; (try with_reducible rfl)
      refine wpAnyH_take (i := 3) (v := ?_) rfl (by kernel_rfl) (by kernel_rfl) (by kernel_rfl) (fun _ _ _ h => h) (Or.inl ⟨by kernel_rfl, ?_⟩) (by assumption) ?_
      rotate_left
      · intro w hSw; (try dsimp only at hSw); go_simp; (try with_reducible rfl)
      refine wpAnyH_take (i := 4) (v := ?_) rfl (by kernel_rfl) (by kernel_rfl) (by kernel_rfl) (fun _ _ _ h => h) (Or.inl ⟨by kernel_rfl, ?_⟩) (by assumption) ?_
      rotate_left
      · intro w hSw; (try dsimp only at hSw); go_simp; (try with_reducible rfl)
      refine wpAnyH_take (i := 5) (v := ?_) rfl (by kernel_rfl) (by kernel_rfl) (by kernel_rfl) (fun _ _ _ h => h) (Or.inl ⟨by kernel_rfl, ?_⟩) (by assumption) ?_
      rotate_left
      · intro w hSw; (try dsimp only at hSw); go_simp; (try with_reducible rfl)
      refine wpAnyH_ready (rs := [6]) (by kernel_rfl) (by simp) ?_
      refine AllReadyH.cons rfl (fun K hK => ?_) AllReadyH.nil
      go_simp
      refine (any_items An A cn ca acc l wd (HCELL.out _ HDW.out).2.2.1 (HCELL.out _ HDW.out).2.2.2.1 HRT.out.2).mono ?_
      rintro x w7 ⟨rfl, b7⟩
      have H8 := Lib.hid (HDW.out.trans (b7.mono HDW.out.size))
      clear b7 hS0
      obtain ⟨z, hz⟩ : ∃ z, z = decide (acc = l) := ⟨_, rfl⟩
      rw [← hz]
      have HZZ : Hid (chkV ⟨p0, p1, l⟩ r = if z = true then 0 else 15) := Lib.hid (by rw [HE.out, hz]; by_cases g : acc = l <;> simp [g])
      clear hz
      refine hK.out _ _ ⟨(HCELL.out _ H8.out).1, (HCELL.out _ H8.out).2.1⟩ (fun hS0 => ?_)
      clear hK K
      refine wpAnyH_take (i := 7) (v := ?_) rfl (by kernel_rfl) (by kernel_rfl) (by kernel_rfl) (fun _ _ _ h => h) (Or.inl ⟨by kernel_rfl, ?_⟩) (by assumption) ?_
      rotate_left
      · intro w hSw; (try dsimp only at hSw); go_simp; (try with_reducible rfl)
      refine wpAnyH_done (by kernel_rfl) ?_ _
      clear hS0
      have H9 := Lib.hid (HCELL.out _ H8.out).2.2.2.2
      go_simp
      cases z with
      | true =>
        go_wp2
        go_ret
        exact ⟨by rw [HZZ.out]; rfl, H9.out⟩
      | false =>
        go_wp2
        go_ret
        exact ⟨by rw [HZZ.out]; rfl, H9.out⟩
end Go.Proofs.YtkbiolhcpghmkaaGreat
namespace Go.Proofs.YtkbiolhcpghmkaaGreat
open Go.RowKit Go.Kq
set_option linter.unusedVariables false
/-- records' bytes in memory -/
def TxAt (w : World) (G : Option Addr) (rs : List ReV) : Prop := ∀ j (h : j < rs.length), ∃ b off, G = some ⟨b, off, none⟩ ∧ b < w.heap.size ∧ w.cell? ⟨b, off + j, none⟩ = some (.string (txt (encR rs[j])))
theorem TxAt.below {w w' : World} {G : Option Addr} {rs : List ReV} (h : TxAt w G rs) (hb : Below w.heap.size w w') : TxAt w' G rs := fun j hj => by
  obtain ⟨b, off, rfl, h1, h2⟩ := h j hj
  exact ⟨b, off, rfl, Nat.lt_of_lt_of_le h1 hb.size, by rw [← h2]; exact hb.cell h1⟩
theorem repl_one {room : Int} {r : ReV} (h : nextE r room = 0) : replayV room [r] = (0, r.d) := by
  show (if nextE r room ≠ 0 then (nextE r room, r.d) else stepsV room r.d []) = _
  rw [if_neg (by simp [h])]; rfl
theorem repl_cons {room : Int} {r : ReV} {rs : List ReV} (h : nextE r room = 0) : replayV room (r :: rs) = stepsV room r.d rs := by
  show (if nextE r room ≠ 0 then (nextE r room, r.d) else stepsV room r.d rs) = _
  rw [if_neg (by simp [h])]
theorem repl_bad1 {room : Int} {r : ReV} {rs : List ReV} (h : nextE r room ≠ 0) : (replayV room (r :: rs)).1 = nextE r room := by
  show (if nextE r room ≠ 0 then (nextE r room, r.d) else stepsV room r.d rs).1 = _
  rw [if_pos h]
theorem repl_front {room : Int} {a : List ReV} (h : (replayV room a).1 = 0) : ∃ q a', a = q :: a' ∧ nextE q room = 0 ∧ replayV room a = stepsV room q.d a' := by
  cases a with
  | nil => exact absurd h (by show ¬ (3 : Int) = 0; decide)
  | cons q a' =>
    by_cases g : nextE q room = 0
    · exact ⟨q, a', rfl, g, repl_cons g⟩
    · rw [repl_bad1 g] at h; exact absurd h g
theorem repl_next {room : Int} {a : List ReV} {d : DaV} {r : ReV} (h : replayV room a = (0, d)) (hs : (stepV d room r).1 = 0) : replayV room (a ++ [r]) = (0, (stepV d room r).2) := by
  obtain ⟨q, a', rfl, hq, e⟩ := repl_front (by rw [h] : (replayV room a).1 = 0)
  rw [List.cons_append, repl_cons hq]
  rw [e] at h
  rw [stepsV_snoc room a' q.d r (by rw [h]), h]
  show (if (stepV d room r).1 ≠ 0 then ((stepV d room r).1, d) else stepsV room (stepV d room r).2 []) = _
  rw [if_neg (by simp [hs])]; rfl
theorem repl_bad {room : Int} {a : List ReV} {d : DaV} {r : ReV} (b : List ReV) (h : replayV room a = (0, d)) (hs : (stepV d room r).1 ≠ 0) : (replayV room (a ++ r :: b)).1 = (stepV d room r).1 := by
  obtain ⟨q, a', rfl, hq, e⟩ := repl_front (by rw [h] : (replayV room a).1 = 0)
  rw [List.cons_append, repl_cons hq]
  rw [e] at h
  have h2 : (stepsV room q.d a').2 = d := by rw [h]
  rw [stepsV_bad room a' q.d r b (by rw [h]) (by rw [h2]; exact hs), h2]
/-- Replay's blocks: the room, the result -/
structure RpB (w wr : World) (X R : Nat) (room : Int) : Prop where
  bel : Below w.heap.size w wr
  x : wr.cell? ⟨X, 0, none⟩ = some (.int .i64 room)
  xl : X < wr.heap.size
  r : wr.heap[R]? = some (.cells #[.int .u64 0, .int .i64 0, .int .u64 0, .int .i64 0, .slice none 0 0] 28 (0, 0))
theorem RpB.below {w a b : World} {X R : Nat} {room : Int} (h : RpB w a X R room) (hb : Below a.heap.size a b) : RpB w b X R room :=
  ⟨h.bel.trans (hb.mono h.bel.size), by rw [← h.x]; exact hb.cell h.xl, Nat.lt_of_lt_of_le h.xl hb.size, Kq.below_blk hb h.r (Kq.blk_lt h.r)⟩
theorem RpB.keeps {w a b : World} {X R D : Nat} {room : Int} (h : RpB w a X R room) (hk : Kq.Keeps (· = D) a b) (hX : X ≠ D) (hR : R ≠ D) (hD : w.heap.size ≤ D) : RpB w b X R room :=
  ⟨h.bel.trans (hk.below h.bel.size (fun k _ e => by rw [show k = D from e]; exact hD)), by
    rw [← h.x]; unfold World.cell?; rw [hk.block X h.xl hX], Nat.lt_of_lt_of_le h.xl hk.size, hk.blk h.r hR⟩
/-- Replay's state -/
structure RpD (w wr : World) (D : Nat) (A : Option Addr) (c : Nat) (d : DaV) : Prop where
  x : DaX wr D A c d
  dw : DaW wr A d
  f : ∀ b off, A = some ⟨b, off, none⟩ → D < b ∧ b < wr.heap.size
theorem RpD.below {w a b : World} {D : Nat} {A : Option Addr} {c : Nat} {d : DaV} (h : RpD w a D A c d) (hb : Below a.heap.size a b) : RpD w b D A c d :=
  ⟨Kq.below_blk hb h.x (Kq.blk_lt h.x), h.dw.below hb, fun g o e => ⟨(h.f g o e).1, Nat.lt_of_lt_of_le (h.f g o e).2 hb.size⟩⟩
end Go.Proofs.YtkbiolhcpghmkaaGreat
namespace Go.Proofs.YtkbiolhcpghmkaaGreat
open Go.RowKit Go.Kq
set_option linter.unusedVariables false
/-- a state's and a record's box -/
structure PlB (w : World) (X1 X2 : Nat) (A : Option Addr) (ca : Nat) (D : Option Addr) (cd : Nat) (C : Option Addr) (cc : Nat) (d : DaV) (r : ReV) : Prop where
  d : DaX w X1 A ca d
  r : RecX w X2 D cd C cc r
theorem PlB.below {w w' : World} {X1 X2 : Nat} {A : Option Addr} {ca : Nat} {D : Option Addr} {cd : Nat} {C : Option Addr} {cc : Nat} {d : DaV} {r : ReV} (h : PlB w X1 X2 A ca D cd C cc d r) (hb : Below w.heap.size w w') : PlB w' X1 X2 A ca D cd C cc d r := ⟨Kq.below_blk hb h.d (Kq.blk_lt h.d), Kq.below_blk hb h.r (Kq.blk_lt h.r)⟩
theorem PlB.new (w : World) (A : Option Addr) (ca : Nat) (D : Option Addr) (cd : Nat) (C : Option Addr) (cc : Nat) (d : DaV) (r : ReV) : PlB ((w.alloc (.cells #[.int .u64 d.p0.h, .int .i64 d.p0.i, .int .u64 d.p1.h, .int .i64 d.p1.i, .slice A d.l.length ca] 28)).alloc (.cells #[.int .i64 r.k, .int .u64 r.d.p0.h, .int .i64 r.d.p0.i, .int .u64 r.d.p1.h, .int .i64 r.d.p1.i, .slice D r.d.l.length cd, .int .i64 r.c, .int .u64 r.p.h, .int .i64 r.p.i, .slice C r.ns.length cc] 31)) w.heap.size (w.heap.size + 1) A ca D cd C cc d r ∧ Below w.heap.size w ((w.alloc (.cells #[.int .u64 d.p0.h, .int .i64 d.p0.i, .int .u64 d.p1.h, .int .i64 d.p1.i, .slice A d.l.length ca] 28)).alloc (.cells #[.int .i64 r.k, .int .u64 r.d.p0.h, .int .i64 r.d.p0.i, .int .u64 r.d.p1.h, .int .i64 r.d.p1.i, .slice D r.d.l.length cd, .int .i64 r.c, .int .u64 r.p.h, .int .i64 r.p.i, .slice C r.ns.length cc] 31)) := by
  have ha := Kq.below_alloc w (.cells #[.int .u64 d.p0.h, .int .i64 d.p0.i, .int .u64 d.p1.h, .int .i64 d.p1.i, .slice A d.l.length ca] 28)
  have hra := Kq.blk_new w #[.int .u64 d.p0.h, .int .i64 d.p0.i, .int .u64 d.p1.h, .int .i64 d.p1.i, .slice A d.l.length ca] 28 (0, 0)
  have hb := Kq.below_alloc (w.alloc (.cells #[.int .u64 d.p0.h, .int .i64 d.p0.i, .int .u64 d.p1.h, .int .i64 d.p1.i, .slice A d.l.length ca] 28)) (.cells #[.int .i64 r.k, .int .u64 r.d.p0.h, .int .i64 r.d.p0.i, .int .u64 r.d.p1.h, .int .i64 r.d.p1.i, .slice D r.d.l.length cd, .int .i64 r.c, .int .u64 r.p.h, .int .i64 r.p.i, .slice C r.ns.length cc] 31)
  have hrb := Kq.blk_new (w.alloc (.cells #[.int .u64 d.p0.h, .int .i64 d.p0.i, .int .u64 d.p1.h, .int .i64 d.p1.i, .slice A d.l.length ca] 28)) #[.int .i64 r.k, .int .u64 r.d.p0.h, .int .i64 r.d.p0.i, .int .u64 r.d.p1.h, .int .i64 r.d.p1.i, .slice D r.d.l.length cd, .int .i64 r.c, .int .u64 r.p.h, .int .i64 r.p.i, .slice C r.ns.length cc] 31 (0, 0)
  rw [World.size_alloc] at hrb
  exact ⟨⟨Kq.below_blk hb hra (Kq.blk_lt hra), hrb⟩, ha.trans (hb.mono ha.size)⟩
theorem pl_neq (p q : PlV) (w : World) : (binOp .neq 24 (.agg #[.int .u64 p.h, .int .i64 p.i]) (.agg #[.int .u64 q.h, .int .i64 q.i])).run Tryz.prog w = .ok (.bool (!decide (p = q))) w := by
  have h := pl_eql p q w
  rw [run_eql_struct] at h
  rw [run_neq_struct]
  revert h
  generalize (Op.equalIn 10000 24 (.agg #[.int .u64 p.h, .int .i64 p.i]) (.agg #[.int .u64 q.h, .int .i64 q.i])).run Tryz.prog w = r
  intro h
  cases r with
  | ok b w1 =>
    simp only [Result.andThen_ok, Result.ok.injEq, Value.bool.injEq] at h ⊢
    rw [h.1, h.2]
    exact ⟨rfl, rfl⟩
  | halt x w1 => cases h
end Go.Proofs.YtkbiolhcpghmkaaGreat
