/- carracklaw08.MerkleSound walked. Condition: the constants lie where they lie. -/
import Derived.WalkSpells
import Derived.Outline
import Derived.Deep.QuietTactic
import Derived.BigQuiet
import Derived.Test.YtnbapiddbcaolaaDoorMkC
import Derived.Test.YtnbapiddbcaolaaDoorRkV
import Derived.Test.YtnbapiddbcaolaaDoorMkLeaf
namespace Go.Proofs.YtnbapiddbcaolaaDoor
open Go.RowKit
set_option linter.unusedVariables false
namespace merkleSound
/-- the law's box and list, and the constants -/
structure LS (W w : World) (idx cnt : Int) (k u : ByteArray) (A : Option Addr) (cap : Nat) (ps : List ByteArray) (B : Option Addr) (l : List PairV) : Prop where
  x : XBox w W.heap.size idx cnt (k, u) (.slice A ps.length cap)
  t : TxLo W W.heap.size A ps
  p : PsLo W W.heap.size B l
  laid : LaidOk W
  bel : Below W.heap.size W w
variable {W w w' : World} {idx cnt : Int} {k u : ByteArray} {A B : Option Addr} {cap : Nat} {ps : List ByteArray} {l : List PairV}
theorem LS.below (h : LS W w idx cnt k u A cap ps B l) (hb : Below w.heap.size w w') : LS W w' idx cnt k u A cap ps B l := ⟨h.x.below hb, h.t, h.p, h.laid, h.bel.trans (hb.mono h.bel.size)⟩
theorem LS.keeps {lo hi : Nat} (h : LS W w idx cnt k u A cap ps B l) (hk : Kq.Keeps (fun j => lo ≤ j ∧ j < hi) w w') (hlo : W.heap.size + 1 ≤ lo) : LS W w' idx cnt k u A cap ps B l :=
  ⟨h.x.keeps hk (fun h => by omega), h.t, h.p, h.laid, by
    have hb := h.bel
    exact ⟨hk.os.trans hb.os, hk.tape.trans hb.tape, hk.output.trans hb.output, Nat.le_trans hb.size hk.size, fun j hj => by rw [hk.block j (Nat.lt_of_lt_of_le hj hb.size) (fun h => by omega), hb.block j hj]⟩⟩
theorem LS.lt (h : LS W w idx cnt k u A cap ps B l) : W.heap.size + 1 ≤ w.heap.size := Kq.blk_lt h.x.bx
theorem LS.tx (h : LS W w idx cnt k u A cap ps B l) : TxLo w W.heap.size A ps := h.t.below h.bel
theorem LS.pl (h : LS W w idx cnt k u A cap ps B l) : PsLo w W.heap.size B l := h.p.below h.bel
theorem LS.pa (h : LS W w idx cnt k u A cap ps B l) : PsAt w B l := h.pl.at
theorem LS.ok (h : LS W w idx cnt k u A cap ps B l) : LaidOk w := h.laid.later h.bel
theorem PsLo.up {w : World} {lo lo' : Nat} {A : Option Addr} {l : List PairV} (h : PsLo w lo A l) (hl : lo ≤ lo') : PsLo w lo' A l := fun j hj => by
  obtain ⟨b, off, rfl, h0, h1, h2, h3⟩ := h j hj
  exact ⟨b, off, rfl, Nat.lt_of_lt_of_le h0 hl, h1, h2, h3⟩
theorem LS.start (ht : TxLo W W.heap.size A ps) (hp : PsLo W W.heap.size B l) (hL : LaidOk W) : LS W (W.alloc (.cells #[.int .i64 idx, .int .i64 cnt, .string k, .string u, .slice A ps.length cap] 44)) idx cnt k u A cap ps B l := ⟨⟨Kq.blk_new _ _ _ _⟩, ht, hp, hL, Kq.below_alloc _ _⟩
/-- the guards say no -/
structure Gd (k u : ByteArray) (ps : List ByteArray) (l : List PairV) : Prop where
  few : FewP l
  chk : chkE l = 0
  len : l.length ≠ 0
  path : ps.length ≤ 40
  key : k.size ≤ 16
  val : u.size ≤ 64
def rootT (l : List PairV) : ByteArray := dgT (topT l.length (digL l))
theorem text_ne {a b : ByteArray} (h : a ≠ b) : (a.toList == b.toList) = false := by
  rw [beq_eq_false_iff_ne]
  intro e
  rw [Lib.toList_data, Lib.toList_data] at e
  exact h (ByteArray.ext (Array.toList_inj.1 e))
theorem text_ne' {a b : ByteArray} (h : a ≠ b) : (a.toList != b.toList) = true := by
  rw [bne_iff_ne]
  intro e
  rw [Lib.toList_data, Lib.toList_data] at e
  exact h (ByteArray.ext (Array.toList_inj.1 e))
theorem sound_law (i c : Nat) (p : PairV) (ps : List ByteArray) (l : List PairV) (hp : p.1.size < 256) (hl : Small l) (h1 : 1 ≤ l.length) (h2 : l.length ≤ 1000) (hc : CliOk i c ps) (hu : (up p i c ps).2 = true) (hr : dgT (topT c (up p i c ps).1) = rootT l) :
    (c = l.length ∧ l[i]? = some p) ∨ Clash (askC i c p ps ++ (askR l ++ [])) := by
  have ha : askC i c p ps = topT c (up p i c ps).1 :: askU p i c ps := by
    unfold askC
    rw [if_pos ⟨hc, by rw [Int.toNat_natCast, Int.toNat_natCast]; exact hu⟩, Int.toNat_natCast, Int.toNat_natCast]
  unfold rootT at hr
  obtain ⟨q1, q2, q3, q4, q5⟩ := hc
  rcases apart_or (topT c (up p i c ps).1) (topT l.length (digL l)) (askC i c p ps ++ (askR l ++ [])) (by simp [ha]) (by simp [askR]) hr with e | e
  · obtain ⟨e1, e2⟩ := topT_inj e (by unfold M64; omega) (by unfold M64; omega)
    have hup : up p i l.length ps = (digL l, true) := by rw [← e1]; exact Prod.ext e2 hu
    rcases sound p hp l.length l i ps (Nat.le_refl _) h1 (by omega) hl q5 hup with g | g
    · exact Or.inl ⟨e1, g⟩
    · right
      rw [← e1] at g
      refine g.mono (fun t ht => ?_)
      rw [ha]
      rcases List.mem_append.1 ht with h | h <;> simp [askR, h]
  · exact Or.inr e
theorem small_of {l : List PairV} (hc : chkE l = 0) : Small l := fun p hp => by have := chk_small hc p hp; omega
theorem askR_len2 (l : List PairV) : (askR l).length ≤ 2 * l.length + 1 := by
  unfold askR
  by_cases h : 1 ≤ l.length
  · have := askL_len _ l (Nat.le_refl _) h
    rw [List.length_cons]; omega
  · obtain rfl : l = [] := List.eq_nil_of_length_eq_zero (by omega)
    simp [askL, askF]
set_option maxRecDepth 100000 in
set_option maxHeartbeats 4000000 in
theorem early (idx cnt : Int) (k u : ByteArray) (A B : Option Addr) (cap cb : Nat) (ps : List ByteArray) (l : List PairV) (W : World) (ht : TxLo W W.heap.size A ps) (hp : PsLo W W.heap.size B l) (hL : LaidOk W) (hno : ¬ Gd k u ps l) :
    Calls Tryd.prog 6 #[.slice B l.length cb, .agg #[.int .i64 idx, .int .i64 cnt, .string k, .string u, .slice A ps.length cap]] W fun x w' => x = .returned (.bool true) ∧ Below W.heap.size W w' := by
  have H := Lib.hid (LS.start (idx := idx) (cnt := cnt) (k := k) (u := u) (cap := cap) ht hp hL)
  have HNO := Lib.hid hno
  clear ht hp hL hno
  go_enter Tryd.func6, Tryd.ntmps6
  go_wp2_with fail
  refine (awake08 _ H.out.ok).mono ?_
  rintro x w1 ⟨rfl, b1⟩
  have H1 := Lib.hid (H.out.below b1)
  clear b1 H
  go_wp2_with fail
  refine (few08 l B cb w1 H1.out.pa).mono ?_
  rintro x w2 ⟨rfl, rfl⟩
  by_cases f1 : FewP l
  · rw [decide_eq_true f1]
    have HF := Lib.hid f1
    clear f1
    go_wp2_with fail
    refine (rk_check l B cb w1 H1.out.pa HF.out.1).mono ?_
    rintro x w3 ⟨rfl, b3⟩
    have H3 := Lib.hid (H1.out.below b3)
    clear b3 H1
    by_cases c1 : chkE l = 0
    · rw [c1]
      have HC := Lib.hid c1
      clear c1
      have c4 := H3.out.x.c4
      have c2 : w3.cell? ⟨W.heap.size, 2, none⟩ = some (.string k) := H3.out.x.c2
      have c3 : w3.cell? ⟨W.heap.size, 3, none⟩ = some (.string u) := H3.out.x.c3
      by_cases h0 : l.length = 0
      · have q0 : ((l.length : Int) == 0) = true := by rw [beq_iff_eq]; omega
        clear h0
        go_wp2
        go_ret
        exact ⟨rfl, H3.out.bel⟩
      have q0 : ((l.length : Int) == 0) = false := by rw [beq_eq_false_iff_ne]; omega
      by_cases h1 : 40 < ps.length
      · have d1 : decide ((40 : Int) < (ps.length : Int)) = true := decide_eq_true (by omega)
        have d1' : decide (40 < ps.length) = true := decide_eq_true h1
        clear h0 h1
        go_wp2
        go_ret
        exact ⟨rfl, H3.out.bel⟩
      have d1 : decide ((40 : Int) < (ps.length : Int)) = false := decide_eq_false (by omega)
      have d1' : decide (40 < ps.length) = false := decide_eq_false h1
      by_cases h2 : 16 < k.size
      · have d2 : decide ((16 : Int) < (k.size : Int)) = true := decide_eq_true (by omega)
        have d2' : decide (16 < k.size) = true := decide_eq_true h2
        clear h0 h1 h2
        go_wp2
        go_ret
        exact ⟨rfl, H3.out.bel⟩
      have d2 : decide ((16 : Int) < (k.size : Int)) = false := decide_eq_false (by omega)
      have d2' : decide (16 < k.size) = false := decide_eq_false h2
      have h3 : 64 < u.size := Nat.lt_of_not_le fun h => HNO.out ⟨HF.out, HC.out, h0, by omega, by omega, h⟩
      have d3 : decide ((64 : Int) < (u.size : Int)) = true := decide_eq_true (by omega)
      have d3' : decide (64 < u.size) = true := decide_eq_true h3
      clear h0 h1 h2 h3
      go_wp2
      go_ret
      exact ⟨rfl, H3.out.bel⟩
    · have c1' : (chkE l != 0) = true := by rw [bne_iff_ne]; exact c1
      generalize chkE l = cl at *
      clear c1
      go_wp2
      go_ret
      exact ⟨rfl, H3.out.bel⟩
  · rw [decide_eq_false f1]
    clear f1
    go_wp2
    go_ret
    exact ⟨rfl, H1.out.bel⟩
set_option maxRecDepth 100000 in
set_option maxHeartbeats 4000000 in
theorem notOk (idx cnt : Int) (k u : ByteArray) (A B : Option Addr) (cap cb : Nat) (ps : List ByteArray) (l : List PairV) (W : World) (ht : TxLo W W.heap.size A ps) (hp : PsLo W W.heap.size B l) (hL : LaidOk W) (hcap : ps.length ≤ cap) (hcb : l.length ≤ cb) (hg : Gd k u ps l) (hv : climbV idx cnt (k, u) ps = (⟨#[]⟩, false)) :
    Calls Tryd.prog 6 #[.slice B l.length cb, .agg #[.int .i64 idx, .int .i64 cnt, .string k, .string u, .slice A ps.length cap]] W fun x w' => x = .returned (.bool true) ∧ Below W.heap.size W w' := by
  have H := Lib.hid (LS.start (idx := idx) (cnt := cnt) (k := k) (u := u) (cap := cap) ht hp hL)
  have HG := Lib.hid (And.intro hg (And.intro hcap hcb))
  have df : Hid (decide (FewP l) = true) := Lib.hid (decide_eq_true hg.few)
  have d1 : decide ((40 : Int) < (ps.length : Int)) = false := decide_eq_false (by have := hg.path; omega)
  have d1' : decide (40 < ps.length) = false := decide_eq_false (by have := hg.path; omega)
  have d2 : decide ((16 : Int) < (k.size : Int)) = false := decide_eq_false (by have := hg.key; omega)
  have d2' : decide (16 < k.size) = false := decide_eq_false (by have := hg.key; omega)
  have d3 : decide ((64 : Int) < (u.size : Int)) = false := decide_eq_false (by have := hg.val; omega)
  have d3' : decide (64 < u.size) = false := decide_eq_false (by have := hg.val; omega)
  have q0 : ((l.length : Int) == 0) = false := by rw [beq_eq_false_iff_ne]; have := hg.len; omega
  have HV := Lib.hid hv
  clear hv
  clear ht hp hL hcap hcb hg
  go_enter Tryd.func6, Tryd.ntmps6
  go_wp2_with fail
  refine (awake08 _ H.out.ok).mono ?_
  rintro x w1 ⟨rfl, b1⟩
  have H1 := Lib.hid (H.out.below b1)
  clear b1 H
  go_wp2_with fail
  refine (few08 l B cb w1 H1.out.pa).mono ?_
  rintro x w2 ⟨rfl, rfl⟩
  rw [df.out]
  go_wp2_with fail
  refine (rk_check l B cb w1 H1.out.pa HG.out.1.few.1).mono ?_
  rintro x w3 ⟨rfl, b3⟩
  rw [HG.out.1.chk]
  have H3 := Lib.hid (H1.out.below b3)
  clear b3 H1
  have c0 := H3.out.x.c0
  have c1 := H3.out.x.c1
  have c4 := H3.out.x.c4
  have c2 : w3.cell? ⟨W.heap.size, 2, none⟩ = some (.string k) := H3.out.x.c2
  have c3 : w3.cell? ⟨W.heap.size, 3, none⟩ = some (.string u) := H3.out.x.c3
  go_wp2
  go_loop [5] (fun x => ∃ j : Nat, j ≤ ps.length ∧ x = .int .i64 (j : Int)) (fun x => ps.length - (intOf x).toNat)
  case atStart => exact ⟨0, by omega, rfl⟩
  case round =>
    obtain ⟨j, hj, rfl⟩ := hrel
    have hn' : ps.length ≤ 40 := HG.out.1.path
    by_cases hlt : j < ps.length
    · obtain ⟨g, o, rfl, hg0, hg, cj⟩ := H3.out.tx j hlt
      obtain ⟨s, hs⟩ : ∃ s, s = ps[j] := ⟨_, rfl⟩
      rw [← hs] at cj
      have HLT := Lib.hid hlt
      have hi0 : (j : Int) < (ps.length : Int) := by omega
      clear hg hg0 hs
      by_cases h300 : 300 < s.size
      · have q1 : decide ((300 : Int) < (s.size : Int)) = true := decide_eq_true (by omega)
        have q2 : decide (300 < s.size) = true := decide_eq_true h300
        clear h300
        go_wp2
        go_ret
        exact ⟨rfl, H3.out.bel⟩
      · have q1 : decide ((300 : Int) < (s.size : Int)) = false := decide_eq_false (by omega)
        have q2 : decide (300 < s.size) = false := decide_eq_false h300
        clear h300
        go_wp2
        go_round
        case rel => exact ⟨j + 1, HLT.out, by go_num⟩
        case measure => have := HLT.out; simp [intOf]; omega
    · obtain rfl : j = ps.length := by omega
      clear hlt
      go_wp2_with fail
      refine (mk_climb idx cnt (k, u) ps A cap w3 H3.out.tx.at (by omega) (by have h1 := HG.out.1.key; have h2 := HG.out.1.val; show k.size + u.size ≤ 90000; omega) HG.out.2.1 H3.out.ok).mono ?_
      rintro x w4 ⟨rfl, b4⟩
      have H4 := Lib.hid (H3.out.below b4)
      clear b4 H3 c0 c1 c2 c3 c4
      rw [HV.out]
      go_wp2
      go_ret
      exact ⟨rfl, H4.out.bel⟩
set_option maxRecDepth 100000 in
set_option maxHeartbeats 4000000 in
theorem unlike (i c : Nat) (k u : ByteArray) (A B : Option Addr) (cap cb : Nat) (ps : List ByteArray) (l : List PairV) (W : World) (ht : TxLo W W.heap.size A ps) (hp : PsLo W W.heap.size B l) (hL : LaidOk W) (hcap : ps.length ≤ cap) (hcb : l.length ≤ cb) (hg : Gd k u ps l) (D : ByteArray) (hv : climbV i c (k, u) ps = (D, true)) (hr : D ≠ rootT l) :
    Calls Tryd.prog 6 #[.slice B l.length cb, .agg #[.int .i64 i, .int .i64 c, .string k, .string u, .slice A ps.length cap]] W fun x w' => x = .returned (.bool true) ∧ Below W.heap.size W w' := by
  have H := Lib.hid (LS.start (idx := i) (cnt := c) (k := k) (u := u) (cap := cap) ht hp hL)
  have HG := Lib.hid (And.intro hg (And.intro hcap hcb))
  have df : Hid (decide (FewP l) = true) := Lib.hid (decide_eq_true hg.few)
  have d1 : decide ((40 : Int) < (ps.length : Int)) = false := decide_eq_false (by have := hg.path; omega)
  have d1' : decide (40 < ps.length) = false := decide_eq_false (by have := hg.path; omega)
  have d2 : decide ((16 : Int) < (k.size : Int)) = false := decide_eq_false (by have := hg.key; omega)
  have d2' : decide (16 < k.size) = false := decide_eq_false (by have := hg.key; omega)
  have d3 : decide ((64 : Int) < (u.size : Int)) = false := decide_eq_false (by have := hg.val; omega)
  have d3' : decide (64 < u.size) = false := decide_eq_false (by have := hg.val; omega)
  have q0 : ((l.length : Int) == 0) = false := by rw [beq_eq_false_iff_ne]; have := hg.len; omega
  have HV := Lib.hid (And.intro hv hr)
  clear hv hr
  clear ht hp hL hcap hcb hg
  go_enter Tryd.func6, Tryd.ntmps6
  go_wp2_with fail
  refine (awake08 _ H.out.ok).mono ?_
  rintro x w1 ⟨rfl, b1⟩
  have H1 := Lib.hid (H.out.below b1)
  clear b1 H
  go_wp2_with fail
  refine (few08 l B cb w1 H1.out.pa).mono ?_
  rintro x w2 ⟨rfl, rfl⟩
  rw [df.out]
  go_wp2_with fail
  refine (rk_check l B cb w1 H1.out.pa HG.out.1.few.1).mono ?_
  rintro x w3 ⟨rfl, b3⟩
  rw [HG.out.1.chk]
  have H3 := Lib.hid (H1.out.below b3)
  clear b3 H1
  have c0 := H3.out.x.c0
  have c1 := H3.out.x.c1
  have c4 := H3.out.x.c4
  have c2 : w3.cell? ⟨W.heap.size, 2, none⟩ = some (.string k) := H3.out.x.c2
  have c3 : w3.cell? ⟨W.heap.size, 3, none⟩ = some (.string u) := H3.out.x.c3
  go_wp2
  go_loop [5] (fun x => ∃ j : Nat, j ≤ ps.length ∧ x = .int .i64 (j : Int)) (fun x => ps.length - (intOf x).toNat)
  case atStart => exact ⟨0, by omega, rfl⟩
  case round =>
    obtain ⟨j, hj, rfl⟩ := hrel
    have hn' : ps.length ≤ 40 := HG.out.1.path
    by_cases hlt : j < ps.length
    · obtain ⟨g, o, rfl, hg0, hg, cj⟩ := H3.out.tx j hlt
      obtain ⟨s, hs⟩ : ∃ s, s = ps[j] := ⟨_, rfl⟩
      rw [← hs] at cj
      have HLT := Lib.hid hlt
      have hi0 : (j : Int) < (ps.length : Int) := by omega
      clear hg hg0 hs
      by_cases h300 : 300 < s.size
      · have q1 : decide ((300 : Int) < (s.size : Int)) = true := decide_eq_true (by omega)
        have q2 : decide (300 < s.size) = true := decide_eq_true h300
        clear h300
        go_wp2
        go_ret
        exact ⟨rfl, H3.out.bel⟩
      · have q1 : decide ((300 : Int) < (s.size : Int)) = false := decide_eq_false (by omega)
        have q2 : decide (300 < s.size) = false := decide_eq_false h300
        clear h300
        go_wp2
        go_round
        case rel => exact ⟨j + 1, HLT.out, by go_num⟩
        case measure => have := HLT.out; simp [intOf]; omega
    · obtain rfl : j = ps.length := by omega
      clear hlt
      go_wp2_with fail
      refine (mk_climb i c (k, u) ps A cap w3 H3.out.tx.at (by omega) (by have h1 := HG.out.1.key; have h2 := HG.out.1.val; show k.size + u.size ≤ 90000; omega) HG.out.2.1 H3.out.ok).mono ?_
      rintro x w4 ⟨rfl, b4⟩
      have H4 := Lib.hid (H3.out.below b4)
      clear b4 H3 c0 c1 c2 c3 c4
      rw [HV.out.1]
      go_wp2_with fail
      refine (mk_root l B cb w4 (by have := HG.out.1.few.1; omega) HG.out.1.few.fit H4.out.pa H4.out.ok HG.out.2.2).mono ?_
      rintro x w5 ⟨rfl, b5⟩
      have H5 := Lib.hid (H4.out.below b5)
      clear b5 H4
      have hrt : dgT (topT l.length (digL l)) = rootT l := rfl
      rw [hrt]
      clear hrt
      have e1 := text_ne HV.out.2
      generalize rootT l = RT at *
      go_wp2
      go_ret
      exact ⟨rfl, H5.out.bel⟩
set_option maxRecDepth 100000 in
set_option maxHeartbeats 4000000 in
theorem inPlace (i c : Nat) (k u : ByteArray) (A B : Option Addr) (cap cb : Nat) (ps : List ByteArray) (l : List PairV) (W : World) (ht : TxLo W W.heap.size A ps) (hp : PsLo W W.heap.size B l) (hL : LaidOk W) (hcap : ps.length ≤ cap) (hcb : l.length ≤ cb) (hg : Gd k u ps l) (D : ByteArray) (hv : climbV i c (k, u) ps = (D, true)) (hr : D = rootT l) (hin : c = l.length ∧ ∃ h : i < l.length, (k, u) = l[i]) :
    Calls Tryd.prog 6 #[.slice B l.length cb, .agg #[.int .i64 i, .int .i64 c, .string k, .string u, .slice A ps.length cap]] W fun x w' => x = .returned (.bool true) ∧ Below W.heap.size W w' := by
  have H := Lib.hid (LS.start (idx := i) (cnt := c) (k := k) (u := u) (cap := cap) ht hp hL)
  have HG := Lib.hid (And.intro hg (And.intro hcap hcb))
  have df : Hid (decide (FewP l) = true) := Lib.hid (decide_eq_true hg.few)
  have d1 : decide ((40 : Int) < (ps.length : Int)) = false := decide_eq_false (by have := hg.path; omega)
  have d1' : decide (40 < ps.length) = false := decide_eq_false (by have := hg.path; omega)
  have d2 : decide ((16 : Int) < (k.size : Int)) = false := decide_eq_false (by have := hg.key; omega)
  have d2' : decide (16 < k.size) = false := decide_eq_false (by have := hg.key; omega)
  have d3 : decide ((64 : Int) < (u.size : Int)) = false := decide_eq_false (by have := hg.val; omega)
  have d3' : decide (64 < u.size) = false := decide_eq_false (by have := hg.val; omega)
  have q0 : ((l.length : Int) == 0) = false := by rw [beq_eq_false_iff_ne]; have := hg.len; omega
  have HV := Lib.hid (And.intro hv hr)
  have HIN := Lib.hid (show c = l.length ∧ i < l.length ∧ ∀ h : i < l.length, (k, u) = l[i] from ⟨hin.1, hin.2.1, fun h => hin.2.2⟩)
  clear hv hr hin
  clear ht hp hL hcap hcb hg
  go_enter Tryd.func6, Tryd.ntmps6
  go_wp2_with fail
  refine (awake08 _ H.out.ok).mono ?_
  rintro x w1 ⟨rfl, b1⟩
  have H1 := Lib.hid (H.out.below b1)
  clear b1 H
  go_wp2_with fail
  refine (few08 l B cb w1 H1.out.pa).mono ?_
  rintro x w2 ⟨rfl, rfl⟩
  rw [df.out]
  go_wp2_with fail
  refine (rk_check l B cb w1 H1.out.pa HG.out.1.few.1).mono ?_
  rintro x w3 ⟨rfl, b3⟩
  rw [HG.out.1.chk]
  have H3 := Lib.hid (H1.out.below b3)
  clear b3 H1
  have c0 := H3.out.x.c0
  have c1 := H3.out.x.c1
  have c4 := H3.out.x.c4
  have c2 : w3.cell? ⟨W.heap.size, 2, none⟩ = some (.string k) := H3.out.x.c2
  have c3 : w3.cell? ⟨W.heap.size, 3, none⟩ = some (.string u) := H3.out.x.c3
  go_wp2
  go_loop [5] (fun x => ∃ j : Nat, j ≤ ps.length ∧ x = .int .i64 (j : Int)) (fun x => ps.length - (intOf x).toNat)
  case atStart => exact ⟨0, by omega, rfl⟩
  case round =>
    obtain ⟨j, hj, rfl⟩ := hrel
    have hn' : ps.length ≤ 40 := HG.out.1.path
    by_cases hlt : j < ps.length
    · obtain ⟨g, o, rfl, hg0, hg, cj⟩ := H3.out.tx j hlt
      obtain ⟨s, hs⟩ : ∃ s, s = ps[j] := ⟨_, rfl⟩
      rw [← hs] at cj
      have HLT := Lib.hid hlt
      have hi0 : (j : Int) < (ps.length : Int) := by omega
      clear hg hg0 hs
      by_cases h300 : 300 < s.size
      · have q1 : decide ((300 : Int) < (s.size : Int)) = true := decide_eq_true (by omega)
        have q2 : decide (300 < s.size) = true := decide_eq_true h300
        clear h300
        go_wp2
        go_ret
        exact ⟨rfl, H3.out.bel⟩
      · have q1 : decide ((300 : Int) < (s.size : Int)) = false := decide_eq_false (by omega)
        have q2 : decide (300 < s.size) = false := decide_eq_false h300
        clear h300
        go_wp2
        go_round
        case rel => exact ⟨j + 1, HLT.out, by go_num⟩
        case measure => have := HLT.out; simp [intOf]; omega
    · obtain rfl : j = ps.length := by omega
      clear hlt
      go_wp2_with fail
      refine (mk_climb i c (k, u) ps A cap w3 H3.out.tx.at (by omega) (by have h1 := HG.out.1.key; have h2 := HG.out.1.val; show k.size + u.size ≤ 90000; omega) HG.out.2.1 H3.out.ok).mono ?_
      rintro x w4 ⟨rfl, b4⟩
      have H4 := Lib.hid (H3.out.below b4)
      clear b4 H3 c0 c1 c2 c3 c4
      rw [HV.out.1]
      go_wp2_with fail
      refine (mk_root l B cb w4 (by have := HG.out.1.few.1; omega) HG.out.1.few.fit H4.out.pa H4.out.ok HG.out.2.2).mono ?_
      rintro x w5 ⟨rfl, b5⟩
      have H5 := Lib.hid (H4.out.below b5)
      clear b5 H4
      have hrt : dgT (topT l.length (digL l)) = rootT l := rfl
      rw [hrt]
      clear hrt
      have e1 : (D.toList == (rootT l).toList) = true := by rw [HV.out.2]; simp
      generalize rootT l = RT at *
      have c0 := H5.out.x.c0
      have c1 := H5.out.x.c1
      have c4 := H5.out.x.c4
      have c2 : w5.cell? ⟨W.heap.size, 2, none⟩ = some (.string k) := H5.out.x.c2
      have c3 : w5.cell? ⟨W.heap.size, 3, none⟩ = some (.string u) := H5.out.x.c3
      have hlt := HIN.out.2.1
      obtain ⟨b, off, rfl, hb, p0, p1⟩ := H5.out.pa i hlt
      have hi0 : (i : Int) < (l.length : Int) := by omega
      have hi1 : decide ((i : Int) < (l.length : Int)) = true := decide_eq_true hi0
      have hi2 : decide (i < l.length) = true := decide_eq_true hlt
      have hi3 : decide ((0 : Int) ≤ (i : Int)) = true := decide_eq_true (by omega)
      have q5 : ((c : Int) == (l.length : Int)) = true := by have := HIN.out.1; rw [beq_iff_eq]; omega
      obtain ⟨kk, hkk⟩ : ∃ kk, kk = l[i].1 := ⟨_, rfl⟩
      obtain ⟨vv, hvv⟩ : ∃ vv, vv = l[i].2 := ⟨_, rfl⟩
      rw [← hkk] at p0
      rw [← hvv] at p1
      have HKV := Lib.hid (And.intro hkk hvv)
      clear hb hkk hvv
      have x1 : (k.toList == kk.toList) = true := by rw [HKV.out.1, ← HIN.out.2.2 hlt]; simp
      have x2 : (u.toList == vv.toList) = true := by rw [HKV.out.2, ← HIN.out.2.2 hlt]; simp
      go_wp2
      go_quiet (fail)
      have H6 := Lib.hid (show Below W.heap.size W (w5.drewN nq) from below_drewN H5.out.bel nq)
      clear c0 c1 c2 c3 c4 p0 p1
      generalize w5.drewN nq = w6 at *
      go_wp2
      go_ret
      exact ⟨rfl, H6.out⟩
set_option maxRecDepth 100000 in
set_option maxHeartbeats 4000000 in
theorem badCount (i c : Nat) (k u : ByteArray) (A B : Option Addr) (cap cb : Nat) (ps : List ByteArray) (l : List PairV) (W : World) (ht : TxLo W W.heap.size A ps) (hp : PsLo W W.heap.size B l) (hL : LaidOk W) (hcap : ps.length ≤ cap) (hcb : l.length ≤ cb) (hg : Gd k u ps l) (D : ByteArray) (hv : climbV i c (k, u) ps = (D, true)) (hr : D = rootT l) (hcl : Clash (askC i c (k, u) ps ++ (askR l ++ []))) (hne : c ≠ l.length) :
    Calls Tryd.prog 6 #[.slice B l.length cb, .agg #[.int .i64 i, .int .i64 c, .string k, .string u, .slice A ps.length cap]] W fun x w' => x = .returned (.bool true) ∧ Below W.heap.size W w' := by
  have H := Lib.hid (LS.start (idx := i) (cnt := c) (k := k) (u := u) (cap := cap) ht hp hL)
  have HG := Lib.hid (And.intro hg (And.intro hcap hcb))
  have df : Hid (decide (FewP l) = true) := Lib.hid (decide_eq_true hg.few)
  have d1 : decide ((40 : Int) < (ps.length : Int)) = false := decide_eq_false (by have := hg.path; omega)
  have d1' : decide (40 < ps.length) = false := decide_eq_false (by have := hg.path; omega)
  have d2 : decide ((16 : Int) < (k.size : Int)) = false := decide_eq_false (by have := hg.key; omega)
  have d2' : decide (16 < k.size) = false := decide_eq_false (by have := hg.key; omega)
  have d3 : decide ((64 : Int) < (u.size : Int)) = false := decide_eq_false (by have := hg.val; omega)
  have d3' : decide (64 < u.size) = false := decide_eq_false (by have := hg.val; omega)
  have q0 : ((l.length : Int) == 0) = false := by rw [beq_eq_false_iff_ne]; have := hg.len; omega
  have HV := Lib.hid (And.intro hv hr)
  have HCL := Lib.hid hcl
  have q5 : ((c : Int) == (l.length : Int)) = false := by rw [beq_eq_false_iff_ne]; omega
  clear hv hr hcl hne
  clear ht hp hL hcap hcb hg
  go_enter Tryd.func6, Tryd.ntmps6
  go_wp2_with fail
  refine (awake08 _ H.out.ok).mono ?_
  rintro x w1 ⟨rfl, b1⟩
  have H1 := Lib.hid (H.out.below b1)
  clear b1 H
  go_wp2_with fail
  refine (few08 l B cb w1 H1.out.pa).mono ?_
  rintro x w2 ⟨rfl, rfl⟩
  rw [df.out]
  go_wp2_with fail
  refine (rk_check l B cb w1 H1.out.pa HG.out.1.few.1).mono ?_
  rintro x w3 ⟨rfl, b3⟩
  rw [HG.out.1.chk]
  have H3 := Lib.hid (H1.out.below b3)
  clear b3 H1
  have c0 := H3.out.x.c0
  have c1 := H3.out.x.c1
  have c4 := H3.out.x.c4
  have c2 : w3.cell? ⟨W.heap.size, 2, none⟩ = some (.string k) := H3.out.x.c2
  have c3 : w3.cell? ⟨W.heap.size, 3, none⟩ = some (.string u) := H3.out.x.c3
  go_wp2
  go_loop [5] (fun x => ∃ j : Nat, j ≤ ps.length ∧ x = .int .i64 (j : Int)) (fun x => ps.length - (intOf x).toNat)
  case atStart => exact ⟨0, by omega, rfl⟩
  case round =>
    obtain ⟨j, hj, rfl⟩ := hrel
    have hn' : ps.length ≤ 40 := HG.out.1.path
    by_cases hlt : j < ps.length
    · obtain ⟨g, o, rfl, hg0, hg, cj⟩ := H3.out.tx j hlt
      obtain ⟨s, hs⟩ : ∃ s, s = ps[j] := ⟨_, rfl⟩
      rw [← hs] at cj
      have HLT := Lib.hid hlt
      have hi0 : (j : Int) < (ps.length : Int) := by omega
      clear hg hg0 hs
      by_cases h300 : 300 < s.size
      · have q1 : decide ((300 : Int) < (s.size : Int)) = true := decide_eq_true (by omega)
        have q2 : decide (300 < s.size) = true := decide_eq_true h300
        clear h300
        go_wp2
        go_ret
        exact ⟨rfl, H3.out.bel⟩
      · have q1 : decide ((300 : Int) < (s.size : Int)) = false := decide_eq_false (by omega)
        have q2 : decide (300 < s.size) = false := decide_eq_false h300
        clear h300
        go_wp2
        go_round
        case rel => exact ⟨j + 1, HLT.out, by go_num⟩
        case measure => have := HLT.out; simp [intOf]; omega
    · obtain rfl : j = ps.length := by omega
      clear hlt
      go_wp2_with fail
      refine (mk_climb i c (k, u) ps A cap w3 H3.out.tx.at (by omega) (by have h1 := HG.out.1.key; have h2 := HG.out.1.val; show k.size + u.size ≤ 90000; omega) HG.out.2.1 H3.out.ok).mono ?_
      rintro x w4 ⟨rfl, b4⟩
      have H4 := Lib.hid (H3.out.below b4)
      clear b4 H3 c0 c1 c2 c3 c4
      rw [HV.out.1]
      go_wp2_with fail
      refine (mk_root l B cb w4 (by have := HG.out.1.few.1; omega) HG.out.1.few.fit H4.out.pa H4.out.ok HG.out.2.2).mono ?_
      rintro x w5 ⟨rfl, b5⟩
      have H5 := Lib.hid (H4.out.below b5)
      clear b5 H4
      have hrt : dgT (topT l.length (digL l)) = rootT l := rfl
      rw [hrt]
      clear hrt
      have e1 : (D.toList == (rootT l).toList) = true := by rw [HV.out.2]; simp
      generalize rootT l = RT at *
      have c0 := H5.out.x.c0
      have c1 := H5.out.x.c1
      have c4 := H5.out.x.c4
      have c2 : w5.cell? ⟨W.heap.size, 2, none⟩ = some (.string k) := H5.out.x.c2
      have c3 : w5.cell? ⟨W.heap.size, 3, none⟩ = some (.string u) := H5.out.x.c3
      go_wp2
      go_quiet (fail)
      have H6 := Lib.hid (H5.out.below (below_drewN (Below.refl _ _) nq))
      clear c0 c1 c2 c3 c4 H5
      generalize w5.drewN nq = w6 at *
      go_wp2_with fail
      refine (r_booknewW _).mono ?_
      rintro x w8 ⟨P, rfl, hbk, hb8⟩
      obtain ⟨lo, hlo⟩ : ∃ lo, lo = w6.heap.size := ⟨_, rfl⟩
      obtain ⟨hi, hhi⟩ : ∃ hi, hi = w8.heap.size := ⟨_, rfl⟩
      have H8 := Lib.hid (show LS W w8 i c k u A cap ps _ l ∧ BookW w8 lo hi P [] ∧ W.heap.size + 1 ≤ lo ∧ lo ≤ w8.heap.size ∧ hi ≤ w8.heap.size from ⟨H6.out.below hb8, by rw [hlo, hhi]; exact hbk, by rw [hlo]; exact H6.out.lt, by rw [hlo]; exact hb8.size, by rw [hhi]; exact Nat.le_refl _⟩)
      clear hbk hb8 hlo hhi H6
      go_wp2_with fail
      refine (rk_root lo hi P [] l _ cb w8 (by have := HG.out.1.few.1; omega) HG.out.1.few.fit (PsLo.up H8.out.1.pl (by have := H8.out.2.2.1; omega)) H8.out.2.1 H8.out.2.2.2.2 H8.out.2.2.2.1 HG.out.2.2 (by have := HG.out.1.few.1; simp; omega)).mono ?_
      rintro x w9 ⟨rfl, hbk, hkp⟩
      have H9 := Lib.hid (show LS W w9 i c k u A cap ps _ l ∧ BookW w9 lo hi P (askR l ++ []) ∧ W.heap.size + 1 ≤ lo ∧ lo ≤ w9.heap.size ∧ hi ≤ w9.heap.size from ⟨H8.out.1.keeps hkp H8.out.2.2.1, hbk, H8.out.2.2.1, Nat.le_trans H8.out.2.2.2.1 hkp.size, Nat.le_trans H8.out.2.2.2.2 hkp.size⟩)
      clear hbk hkp H8
      have c0 := H9.out.1.x.c0
      have c1 := H9.out.1.x.c1
      have c4 := H9.out.1.x.c4
      have c2 : w9.cell? ⟨W.heap.size, 2, none⟩ = some (.string k) := H9.out.1.x.c2
      have c3 : w9.cell? ⟨W.heap.size, 3, none⟩ = some (.string u) := H9.out.1.x.c3
      go_wp2_with fail
      refine (rk_climb i c k u ps A cap lo hi P (askR l ++ []) w9 H9.out.2.1 H9.out.2.2.2.2 H9.out.2.2.2.1 (H9.out.1.tx.raise (by have := H9.out.2.2.1; omega)) (by have := HG.out.1.path; omega) (by have h1 := HG.out.1.key; have h2 := HG.out.1.val; omega) (by have h1 := HG.out.1.few.1; have h3 := askR_len2 l; rw [List.append_nil]; omega)).mono ?_
      rintro x w10 ⟨rfl, hbk, hkp⟩
      have H10 := Lib.hid (H9.out.1.keeps hkp H9.out.2.2.1)
      have cP : w10.cell? ⟨P, 3, none⟩ = some (.bool true) := by
        obtain ⟨t, ht, z, hz, hd, hne⟩ := HCL.out
        exact book_markedW hbk ht hz hd hne
      clear hbk hkp H9 HCL c0 c1 c2 c3 c4
      generalize climbV i c (k, u) ps = R2 at *
      go_wp2
      go_ret
      exact ⟨rfl, H10.out.bel⟩
set_option maxRecDepth 100000 in
set_option maxHeartbeats 4000000 in
theorem badKey (i c : Nat) (k u : ByteArray) (A B : Option Addr) (cap cb : Nat) (ps : List ByteArray) (l : List PairV) (W : World) (ht : TxLo W W.heap.size A ps) (hp : PsLo W W.heap.size B l) (hL : LaidOk W) (hcap : ps.length ≤ cap) (hcb : l.length ≤ cb) (hg : Gd k u ps l) (D : ByteArray) (hv : climbV i c (k, u) ps = (D, true)) (hr : D = rootT l) (hcl : Clash (askC i c (k, u) ps ++ (askR l ++ []))) (hin : c = l.length ∧ ∃ h : i < l.length, k ≠ l[i].1) :
    Calls Tryd.prog 6 #[.slice B l.length cb, .agg #[.int .i64 i, .int .i64 c, .string k, .string u, .slice A ps.length cap]] W fun x w' => x = .returned (.bool true) ∧ Below W.heap.size W w' := by
  have H := Lib.hid (LS.start (idx := i) (cnt := c) (k := k) (u := u) (cap := cap) ht hp hL)
  have HG := Lib.hid (And.intro hg (And.intro hcap hcb))
  have df : Hid (decide (FewP l) = true) := Lib.hid (decide_eq_true hg.few)
  have d1 : decide ((40 : Int) < (ps.length : Int)) = false := decide_eq_false (by have := hg.path; omega)
  have d1' : decide (40 < ps.length) = false := decide_eq_false (by have := hg.path; omega)
  have d2 : decide ((16 : Int) < (k.size : Int)) = false := decide_eq_false (by have := hg.key; omega)
  have d2' : decide (16 < k.size) = false := decide_eq_false (by have := hg.key; omega)
  have d3 : decide ((64 : Int) < (u.size : Int)) = false := decide_eq_false (by have := hg.val; omega)
  have d3' : decide (64 < u.size) = false := decide_eq_false (by have := hg.val; omega)
  have q0 : ((l.length : Int) == 0) = false := by rw [beq_eq_false_iff_ne]; have := hg.len; omega
  have HV := Lib.hid (And.intro hv hr)
  have HCL := Lib.hid hcl
  have HIN := Lib.hid (show c = l.length ∧ i < l.length ∧ ∀ h : i < l.length, k ≠ l[i].1 from ⟨hin.1, hin.2.1, fun h => hin.2.2⟩)
  clear hv hr hcl hin
  clear ht hp hL hcap hcb hg
  go_enter Tryd.func6, Tryd.ntmps6
  go_wp2_with fail
  refine (awake08 _ H.out.ok).mono ?_
  rintro x w1 ⟨rfl, b1⟩
  have H1 := Lib.hid (H.out.below b1)
  clear b1 H
  go_wp2_with fail
  refine (few08 l B cb w1 H1.out.pa).mono ?_
  rintro x w2 ⟨rfl, rfl⟩
  rw [df.out]
  go_wp2_with fail
  refine (rk_check l B cb w1 H1.out.pa HG.out.1.few.1).mono ?_
  rintro x w3 ⟨rfl, b3⟩
  rw [HG.out.1.chk]
  have H3 := Lib.hid (H1.out.below b3)
  clear b3 H1
  have c0 := H3.out.x.c0
  have c1 := H3.out.x.c1
  have c4 := H3.out.x.c4
  have c2 : w3.cell? ⟨W.heap.size, 2, none⟩ = some (.string k) := H3.out.x.c2
  have c3 : w3.cell? ⟨W.heap.size, 3, none⟩ = some (.string u) := H3.out.x.c3
  go_wp2
  go_loop [5] (fun x => ∃ j : Nat, j ≤ ps.length ∧ x = .int .i64 (j : Int)) (fun x => ps.length - (intOf x).toNat)
  case atStart => exact ⟨0, by omega, rfl⟩
  case round =>
    obtain ⟨j, hj, rfl⟩ := hrel
    have hn' : ps.length ≤ 40 := HG.out.1.path
    by_cases hlt : j < ps.length
    · obtain ⟨g, o, rfl, hg0, hg, cj⟩ := H3.out.tx j hlt
      obtain ⟨s, hs⟩ : ∃ s, s = ps[j] := ⟨_, rfl⟩
      rw [← hs] at cj
      have HLT := Lib.hid hlt
      have hi0 : (j : Int) < (ps.length : Int) := by omega
      clear hg hg0 hs
      by_cases h300 : 300 < s.size
      · have q1 : decide ((300 : Int) < (s.size : Int)) = true := decide_eq_true (by omega)
        have q2 : decide (300 < s.size) = true := decide_eq_true h300
        clear h300
        go_wp2
        go_ret
        exact ⟨rfl, H3.out.bel⟩
      · have q1 : decide ((300 : Int) < (s.size : Int)) = false := decide_eq_false (by omega)
        have q2 : decide (300 < s.size) = false := decide_eq_false h300
        clear h300
        go_wp2
        go_round
        case rel => exact ⟨j + 1, HLT.out, by go_num⟩
        case measure => have := HLT.out; simp [intOf]; omega
    · obtain rfl : j = ps.length := by omega
      clear hlt
      go_wp2_with fail
      refine (mk_climb i c (k, u) ps A cap w3 H3.out.tx.at (by omega) (by have h1 := HG.out.1.key; have h2 := HG.out.1.val; show k.size + u.size ≤ 90000; omega) HG.out.2.1 H3.out.ok).mono ?_
      rintro x w4 ⟨rfl, b4⟩
      have H4 := Lib.hid (H3.out.below b4)
      clear b4 H3 c0 c1 c2 c3 c4
      rw [HV.out.1]
      go_wp2_with fail
      refine (mk_root l B cb w4 (by have := HG.out.1.few.1; omega) HG.out.1.few.fit H4.out.pa H4.out.ok HG.out.2.2).mono ?_
      rintro x w5 ⟨rfl, b5⟩
      have H5 := Lib.hid (H4.out.below b5)
      clear b5 H4
      have hrt : dgT (topT l.length (digL l)) = rootT l := rfl
      rw [hrt]
      clear hrt
      have e1 : (D.toList == (rootT l).toList) = true := by rw [HV.out.2]; simp
      generalize rootT l = RT at *
      have c0 := H5.out.x.c0
      have c1 := H5.out.x.c1
      have c4 := H5.out.x.c4
      have c2 : w5.cell? ⟨W.heap.size, 2, none⟩ = some (.string k) := H5.out.x.c2
      have c3 : w5.cell? ⟨W.heap.size, 3, none⟩ = some (.string u) := H5.out.x.c3
      have hlt := HIN.out.2.1
      obtain ⟨b, off, rfl, hb, p0, p1⟩ := H5.out.pa i hlt
      have hi0 : (i : Int) < (l.length : Int) := by omega
      have hi1 : decide ((i : Int) < (l.length : Int)) = true := decide_eq_true hi0
      have hi2 : decide (i < l.length) = true := decide_eq_true hlt
      have hi3 : decide ((0 : Int) ≤ (i : Int)) = true := decide_eq_true (by omega)
      have q5 : ((c : Int) == (l.length : Int)) = true := by have := HIN.out.1; rw [beq_iff_eq]; omega
      obtain ⟨kk, hkk⟩ : ∃ kk, kk = l[i].1 := ⟨_, rfl⟩
      obtain ⟨vv, hvv⟩ : ∃ vv, vv = l[i].2 := ⟨_, rfl⟩
      rw [← hkk] at p0
      rw [← hvv] at p1
      have HKV := Lib.hid (And.intro hkk hvv)
      clear hb hkk hvv
      have x1 : (k.toList == kk.toList) = false := by rw [HKV.out.1]; exact text_ne (HIN.out.2.2 hlt)
      go_wp2
      go_quiet (fail)
      have H6 := Lib.hid (H5.out.below (below_drewN (Below.refl _ _) nq))
      clear c0 c1 c2 c3 c4 H5 p0 p1
      generalize w5.drewN nq = w6 at *
      go_wp2_with fail
      refine (r_booknewW _).mono ?_
      rintro x w8 ⟨P, rfl, hbk, hb8⟩
      obtain ⟨lo, hlo⟩ : ∃ lo, lo = w6.heap.size := ⟨_, rfl⟩
      obtain ⟨hi, hhi⟩ : ∃ hi, hi = w8.heap.size := ⟨_, rfl⟩
      have H8 := Lib.hid (show LS W w8 i c k u A cap ps _ l ∧ BookW w8 lo hi P [] ∧ W.heap.size + 1 ≤ lo ∧ lo ≤ w8.heap.size ∧ hi ≤ w8.heap.size from ⟨H6.out.below hb8, by rw [hlo, hhi]; exact hbk, by rw [hlo]; exact H6.out.lt, by rw [hlo]; exact hb8.size, by rw [hhi]; exact Nat.le_refl _⟩)
      clear hbk hb8 hlo hhi H6
      go_wp2_with fail
      refine (rk_root lo hi P [] l _ cb w8 (by have := HG.out.1.few.1; omega) HG.out.1.few.fit (PsLo.up H8.out.1.pl (by have := H8.out.2.2.1; omega)) H8.out.2.1 H8.out.2.2.2.2 H8.out.2.2.2.1 HG.out.2.2 (by have := HG.out.1.few.1; simp; omega)).mono ?_
      rintro x w9 ⟨rfl, hbk, hkp⟩
      have H9 := Lib.hid (show LS W w9 i c k u A cap ps _ l ∧ BookW w9 lo hi P (askR l ++ []) ∧ W.heap.size + 1 ≤ lo ∧ lo ≤ w9.heap.size ∧ hi ≤ w9.heap.size from ⟨H8.out.1.keeps hkp H8.out.2.2.1, hbk, H8.out.2.2.1, Nat.le_trans H8.out.2.2.2.1 hkp.size, Nat.le_trans H8.out.2.2.2.2 hkp.size⟩)
      clear hbk hkp H8
      have c0 := H9.out.1.x.c0
      have c1 := H9.out.1.x.c1
      have c4 := H9.out.1.x.c4
      have c2 : w9.cell? ⟨W.heap.size, 2, none⟩ = some (.string k) := H9.out.1.x.c2
      have c3 : w9.cell? ⟨W.heap.size, 3, none⟩ = some (.string u) := H9.out.1.x.c3
      go_wp2_with fail
      refine (rk_climb i c k u ps A cap lo hi P (askR l ++ []) w9 H9.out.2.1 H9.out.2.2.2.2 H9.out.2.2.2.1 (H9.out.1.tx.raise (by have := H9.out.2.2.1; omega)) (by have := HG.out.1.path; omega) (by have h1 := HG.out.1.key; have h2 := HG.out.1.val; omega) (by have h1 := HG.out.1.few.1; have h3 := askR_len2 l; rw [List.append_nil]; omega)).mono ?_
      rintro x w10 ⟨rfl, hbk, hkp⟩
      have H10 := Lib.hid (H9.out.1.keeps hkp H9.out.2.2.1)
      have cP : w10.cell? ⟨P, 3, none⟩ = some (.bool true) := by
        obtain ⟨t, ht, z, hz, hd, hne⟩ := HCL.out
        exact book_markedW hbk ht hz hd hne
      clear hbk hkp H9 HCL c0 c1 c2 c3 c4
      generalize climbV i c (k, u) ps = R2 at *
      go_wp2
      go_ret
      exact ⟨rfl, H10.out.bel⟩
set_option maxRecDepth 100000 in
set_option maxHeartbeats 4000000 in
theorem badVal (i c : Nat) (k u : ByteArray) (A B : Option Addr) (cap cb : Nat) (ps : List ByteArray) (l : List PairV) (W : World) (ht : TxLo W W.heap.size A ps) (hp : PsLo W W.heap.size B l) (hL : LaidOk W) (hcap : ps.length ≤ cap) (hcb : l.length ≤ cb) (hg : Gd k u ps l) (D : ByteArray) (hv : climbV i c (k, u) ps = (D, true)) (hr : D = rootT l) (hcl : Clash (askC i c (k, u) ps ++ (askR l ++ []))) (hin : c = l.length ∧ ∃ h : i < l.length, k = l[i].1 ∧ u ≠ l[i].2) :
    Calls Tryd.prog 6 #[.slice B l.length cb, .agg #[.int .i64 i, .int .i64 c, .string k, .string u, .slice A ps.length cap]] W fun x w' => x = .returned (.bool true) ∧ Below W.heap.size W w' := by
  have H := Lib.hid (LS.start (idx := i) (cnt := c) (k := k) (u := u) (cap := cap) ht hp hL)
  have HG := Lib.hid (And.intro hg (And.intro hcap hcb))
  have df : Hid (decide (FewP l) = true) := Lib.hid (decide_eq_true hg.few)
  have d1 : decide ((40 : Int) < (ps.length : Int)) = false := decide_eq_false (by have := hg.path; omega)
  have d1' : decide (40 < ps.length) = false := decide_eq_false (by have := hg.path; omega)
  have d2 : decide ((16 : Int) < (k.size : Int)) = false := decide_eq_false (by have := hg.key; omega)
  have d2' : decide (16 < k.size) = false := decide_eq_false (by have := hg.key; omega)
  have d3 : decide ((64 : Int) < (u.size : Int)) = false := decide_eq_false (by have := hg.val; omega)
  have d3' : decide (64 < u.size) = false := decide_eq_false (by have := hg.val; omega)
  have q0 : ((l.length : Int) == 0) = false := by rw [beq_eq_false_iff_ne]; have := hg.len; omega
  have HV := Lib.hid (And.intro hv hr)
  have HCL := Lib.hid hcl
  have HIN := Lib.hid (show c = l.length ∧ i < l.length ∧ ∀ h : i < l.length, k = l[i].1 ∧ u ≠ l[i].2 from ⟨hin.1, hin.2.1, fun h => hin.2.2⟩)
  clear hv hr hcl hin
  clear ht hp hL hcap hcb hg
  go_enter Tryd.func6, Tryd.ntmps6
  go_wp2_with fail
  refine (awake08 _ H.out.ok).mono ?_
  rintro x w1 ⟨rfl, b1⟩
  have H1 := Lib.hid (H.out.below b1)
  clear b1 H
  go_wp2_with fail
  refine (few08 l B cb w1 H1.out.pa).mono ?_
  rintro x w2 ⟨rfl, rfl⟩
  rw [df.out]
  go_wp2_with fail
  refine (rk_check l B cb w1 H1.out.pa HG.out.1.few.1).mono ?_
  rintro x w3 ⟨rfl, b3⟩
  rw [HG.out.1.chk]
  have H3 := Lib.hid (H1.out.below b3)
  clear b3 H1
  have c0 := H3.out.x.c0
  have c1 := H3.out.x.c1
  have c4 := H3.out.x.c4
  have c2 : w3.cell? ⟨W.heap.size, 2, none⟩ = some (.string k) := H3.out.x.c2
  have c3 : w3.cell? ⟨W.heap.size, 3, none⟩ = some (.string u) := H3.out.x.c3
  go_wp2
  go_loop [5] (fun x => ∃ j : Nat, j ≤ ps.length ∧ x = .int .i64 (j : Int)) (fun x => ps.length - (intOf x).toNat)
  case atStart => exact ⟨0, by omega, rfl⟩
  case round =>
    obtain ⟨j, hj, rfl⟩ := hrel
    have hn' : ps.length ≤ 40 := HG.out.1.path
    by_cases hlt : j < ps.length
    · obtain ⟨g, o, rfl, hg0, hg, cj⟩ := H3.out.tx j hlt
      obtain ⟨s, hs⟩ : ∃ s, s = ps[j] := ⟨_, rfl⟩
      rw [← hs] at cj
      have HLT := Lib.hid hlt
      have hi0 : (j : Int) < (ps.length : Int) := by omega
      clear hg hg0 hs
      by_cases h300 : 300 < s.size
      · have q1 : decide ((300 : Int) < (s.size : Int)) = true := decide_eq_true (by omega)
        have q2 : decide (300 < s.size) = true := decide_eq_true h300
        clear h300
        go_wp2
        go_ret
        exact ⟨rfl, H3.out.bel⟩
      · have q1 : decide ((300 : Int) < (s.size : Int)) = false := decide_eq_false (by omega)
        have q2 : decide (300 < s.size) = false := decide_eq_false h300
        clear h300
        go_wp2
        go_round
        case rel => exact ⟨j + 1, HLT.out, by go_num⟩
        case measure => have := HLT.out; simp [intOf]; omega
    · obtain rfl : j = ps.length := by omega
      clear hlt
      go_wp2_with fail
      refine (mk_climb i c (k, u) ps A cap w3 H3.out.tx.at (by omega) (by have h1 := HG.out.1.key; have h2 := HG.out.1.val; show k.size + u.size ≤ 90000; omega) HG.out.2.1 H3.out.ok).mono ?_
      rintro x w4 ⟨rfl, b4⟩
      have H4 := Lib.hid (H3.out.below b4)
      clear b4 H3 c0 c1 c2 c3 c4
      rw [HV.out.1]
      go_wp2_with fail
      refine (mk_root l B cb w4 (by have := HG.out.1.few.1; omega) HG.out.1.few.fit H4.out.pa H4.out.ok HG.out.2.2).mono ?_
      rintro x w5 ⟨rfl, b5⟩
      have H5 := Lib.hid (H4.out.below b5)
      clear b5 H4
      have hrt : dgT (topT l.length (digL l)) = rootT l := rfl
      rw [hrt]
      clear hrt
      have e1 : (D.toList == (rootT l).toList) = true := by rw [HV.out.2]; simp
      generalize rootT l = RT at *
      have c0 := H5.out.x.c0
      have c1 := H5.out.x.c1
      have c4 := H5.out.x.c4
      have c2 : w5.cell? ⟨W.heap.size, 2, none⟩ = some (.string k) := H5.out.x.c2
      have c3 : w5.cell? ⟨W.heap.size, 3, none⟩ = some (.string u) := H5.out.x.c3
      have hlt := HIN.out.2.1
      obtain ⟨b, off, rfl, hb, p0, p1⟩ := H5.out.pa i hlt
      have hi0 : (i : Int) < (l.length : Int) := by omega
      have hi1 : decide ((i : Int) < (l.length : Int)) = true := decide_eq_true hi0
      have hi2 : decide (i < l.length) = true := decide_eq_true hlt
      have hi3 : decide ((0 : Int) ≤ (i : Int)) = true := decide_eq_true (by omega)
      have q5 : ((c : Int) == (l.length : Int)) = true := by have := HIN.out.1; rw [beq_iff_eq]; omega
      obtain ⟨kk, hkk⟩ : ∃ kk, kk = l[i].1 := ⟨_, rfl⟩
      obtain ⟨vv, hvv⟩ : ∃ vv, vv = l[i].2 := ⟨_, rfl⟩
      rw [← hkk] at p0
      rw [← hvv] at p1
      have HKV := Lib.hid (And.intro hkk hvv)
      clear hb hkk hvv
      have x1 : (k.toList == kk.toList) = true := by rw [HKV.out.1, ← (HIN.out.2.2 hlt).1]; simp
      have x2 : (u.toList == vv.toList) = false := by rw [HKV.out.2]; exact text_ne (HIN.out.2.2 hlt).2
      go_wp2
      go_quiet (fail)
      have H6 := Lib.hid (H5.out.below (below_drewN (Below.refl _ _) nq))
      clear c0 c1 c2 c3 c4 H5 p0 p1
      generalize w5.drewN nq = w6 at *
      go_wp2_with fail
      refine (r_booknewW _).mono ?_
      rintro x w8 ⟨P, rfl, hbk, hb8⟩
      obtain ⟨lo, hlo⟩ : ∃ lo, lo = w6.heap.size := ⟨_, rfl⟩
      obtain ⟨hi, hhi⟩ : ∃ hi, hi = w8.heap.size := ⟨_, rfl⟩
      have H8 := Lib.hid (show LS W w8 i c k u A cap ps _ l ∧ BookW w8 lo hi P [] ∧ W.heap.size + 1 ≤ lo ∧ lo ≤ w8.heap.size ∧ hi ≤ w8.heap.size from ⟨H6.out.below hb8, by rw [hlo, hhi]; exact hbk, by rw [hlo]; exact H6.out.lt, by rw [hlo]; exact hb8.size, by rw [hhi]; exact Nat.le_refl _⟩)
      clear hbk hb8 hlo hhi H6
      go_wp2_with fail
      refine (rk_root lo hi P [] l _ cb w8 (by have := HG.out.1.few.1; omega) HG.out.1.few.fit (PsLo.up H8.out.1.pl (by have := H8.out.2.2.1; omega)) H8.out.2.1 H8.out.2.2.2.2 H8.out.2.2.2.1 HG.out.2.2 (by have := HG.out.1.few.1; simp; omega)).mono ?_
      rintro x w9 ⟨rfl, hbk, hkp⟩
      have H9 := Lib.hid (show LS W w9 i c k u A cap ps _ l ∧ BookW w9 lo hi P (askR l ++ []) ∧ W.heap.size + 1 ≤ lo ∧ lo ≤ w9.heap.size ∧ hi ≤ w9.heap.size from ⟨H8.out.1.keeps hkp H8.out.2.2.1, hbk, H8.out.2.2.1, Nat.le_trans H8.out.2.2.2.1 hkp.size, Nat.le_trans H8.out.2.2.2.2 hkp.size⟩)
      clear hbk hkp H8
      have c0 := H9.out.1.x.c0
      have c1 := H9.out.1.x.c1
      have c4 := H9.out.1.x.c4
      have c2 : w9.cell? ⟨W.heap.size, 2, none⟩ = some (.string k) := H9.out.1.x.c2
      have c3 : w9.cell? ⟨W.heap.size, 3, none⟩ = some (.string u) := H9.out.1.x.c3
      go_wp2_with fail
      refine (rk_climb i c k u ps A cap lo hi P (askR l ++ []) w9 H9.out.2.1 H9.out.2.2.2.2 H9.out.2.2.2.1 (H9.out.1.tx.raise (by have := H9.out.2.2.1; omega)) (by have := HG.out.1.path; omega) (by have h1 := HG.out.1.key; have h2 := HG.out.1.val; omega) (by have h1 := HG.out.1.few.1; have h3 := askR_len2 l; rw [List.append_nil]; omega)).mono ?_
      rintro x w10 ⟨rfl, hbk, hkp⟩
      have H10 := Lib.hid (H9.out.1.keeps hkp H9.out.2.2.1)
      have cP : w10.cell? ⟨P, 3, none⟩ = some (.bool true) := by
        obtain ⟨t, ht, z, hz, hd, hne⟩ := HCL.out
        exact book_markedW hbk ht hz hd hne
      clear hbk hkp H9 HCL c0 c1 c2 c3 c4
      generalize climbV i c (k, u) ps = R2 at *
      go_wp2
      go_ret
      exact ⟨rfl, H10.out.bel⟩
theorem merkleSound_walk (v0 v1 : Value) {W : World} (h0 : ∃ A cap l, v0 = .slice A l.length cap ∧ l.length ≤ cap ∧ PsLo W W.heap.size A l) (h1 : ∃ idx cnt k u A cap ps, v1 = .agg #[.int .i64 idx, .int .i64 cnt, .string k, .string u, .slice A (List.length ps) cap] ∧ List.length ps ≤ cap ∧ TxLo W W.heap.size A ps) (w : World) (e : W = w) (hL : LaidOk w) :
    Calls Tryd.prog 6 #[v0, v1] w fun x w' => x = .returned (.bool true) ∧ Below w.heap.size w w' := by
  subst e
  obtain ⟨B, cb, l, rfl, hcb, hp⟩ := h0
  obtain ⟨idx, cnt, k, u, A, cap, ps, rfl, hcap, ht⟩ := h1
  by_cases hg : Gd k u ps l
  · by_cases hc : CliOk idx cnt ps ∧ (up (k, u) idx.toNat cnt.toNat ps).2 = true
    · obtain ⟨i, rfl⟩ := Int.eq_ofNat_of_zero_le hc.1.2.2.1
      obtain ⟨c, rfl⟩ := Int.eq_ofNat_of_zero_le (show 0 ≤ cnt by have := hc.1.1; omega)
      have hv : climbV i c (k, u) ps = (dgT (topT c (up (k, u) i c ps).1), true) := by unfold climbV; rw [if_pos hc]; rw [Int.toNat_natCast, Int.toNat_natCast]
      by_cases hr : dgT (topT c (up (k, u) i c ps).1) = rootT l
      · have hu := hc.2
        rw [Int.toNat_natCast, Int.toNat_natCast] at hu
        have hlen := hg.len
        have h40 := hg.few.1
        have hsl := sound_law i c (k, u) ps l (by have := hg.key; show k.size < 256; omega) (small_of hg.chk) (by omega) (by omega) hc.1 hu hr
        by_cases hcl : c = l.length
        · have hi : i < l.length := by have := hc.1.2.2.2.1; omega
          by_cases hk : k = l[i].1
          · by_cases hu2 : u = l[i].2
            · exact inPlace i c k u A B cap cb ps l W ht hp hL hcap hcb hg _ hv hr ⟨hcl, hi, Prod.ext hk hu2⟩
            · rcases hsl with h | h
              · rw [List.getElem?_eq_getElem hi] at h
                exact absurd (by have := h.2; simp only [Option.some.injEq] at this; rw [this]) hu2
              · exact badVal i c k u A B cap cb ps l W ht hp hL hcap hcb hg _ hv hr h ⟨hcl, hi, hk, hu2⟩
          · rcases hsl with h | h
            · rw [List.getElem?_eq_getElem hi] at h
              exact absurd (by have := h.2; simp only [Option.some.injEq] at this; rw [this]) hk
            · exact badKey i c k u A B cap cb ps l W ht hp hL hcap hcb hg _ hv hr h ⟨hcl, hi, hk⟩
        · rcases hsl with h | h
          · exact absurd h.1 hcl
          · exact badCount i c k u A B cap cb ps l W ht hp hL hcap hcb hg _ hv hr h hcl
      · exact unlike i c k u A B cap cb ps l W ht hp hL hcap hcb hg _ hv hr
    · exact notOk idx cnt k u A B cap cb ps l W ht hp hL hcap hcb hg (by unfold climbV; rw [if_neg hc])
  · exact early idx cnt k u A B cap cb ps l W ht hp hL hg
end merkleSound
end Go.Proofs.YtnbapiddbcaolaaDoor
