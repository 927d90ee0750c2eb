/- Merged: DkGen, DkCrash, DkAwake, DkAsk, DkInv. Contracts of a disk's Write, Arm, Read, armed or not. Condition: sizes. Contract of a disk's Crash in which nothing lasts. Condition: not too many writes. The document's example of disk. No condition. Contracts of a disk's Size, Sectors, Buffered, Stable. No condition. A disk that a law made: what stays behind each call. No condition. -/
import Derived.WalkSpells
import Derived.Deep.QuietTactic
import Derived.BigQuiet
import Derived.Test.YtbpgfhcecanikaaGreatDkCrash2Q
import Derived.Test.YtbpgfhcecanikaaGreatDkKeepQ
import Derived.Test.YtbpgfhcecanikaaGreatCommonQ
namespace Go.Proofs.YtbpgfhcecanikaaGreat
open Go.RowKit
set_option linter.unusedVariables false
set_option maxRecDepth 100000 in
theorem dk_has_no (a b k : Int) (w : World) (h : ¬ (0 ≤ k ∧ k < b)) :
    Calls Tryz.prog 81 #[.agg #[.int .i64 a, .int .i64 b], .int .i64 k] w fun x w' => x = .returned (.bool false) ∧ Below w.heap.size w w' := by
  by_cases h0 : 0 ≤ k
  · have d1 : decide (0 ≤ k) = true := decide_eq_true h0
    have d2 : decide (k < b) = false := decide_eq_false (fun h1 => h ⟨h0, h1⟩)
    clear h0 h
    go_enter Tryz.func81, Tryz.ntmps81
    go_wp2
    go_ret
    exact ⟨rfl, Kq.below_alloc _ _⟩
  · have d1 : decide (0 ≤ k) = false := decide_eq_false h0
    clear h0 h
    go_enter Tryz.func81, Tryz.ntmps81
    go_wp2
    go_ret
    exact ⟨rfl, Kq.below_alloc _ _⟩
/-- blocks that a disk holds -/
def Own (B S : Nat) (buf : Value) (j : Nat) : Prop := j = B ∨ j = S ∨ buf.ownBlock = some j
def WriteP (w : World) (base B S a b : Nat) (buf : Value) (ws : List (Int × ByteArray)) (armed : Int) (st : List Nat) (x : Ending) (w' : World) : Prop :=
  x = .returned (.int .i64 0) ∧ ∃ buf', DkS w' base B S a b buf' ws armed st ∧ Kq.Keeps (Own B S buf) w w' ∧ (∀ j, buf'.ownBlock = some j → buf.ownBlock = some j ∨ w.heap.size ≤ j)
set_option maxRecDepth 100000 in
set_option maxHeartbeats 1000000 in
theorem dk_write_range (base B S a b : Nat) (buf : Value) (ws : List (Int × ByteArray)) (armed : Int) (st : List Nat) (k : Int) (s : ByteArray) (w : World) (h : DkS w base B S a b buf ws armed st)
    (hb : ¬ (0 ≤ k ∧ k < (b : Int) ∧ s.size = a)) (hs : s.size ≤ maxLen) :
    Calls Tryz.prog 70 #[.pointer (some ⟨B, 0, none⟩), .int .i64 k, .string s] w fun x w' => x = .returned (.int .i64 1) ∧ Below w.heap.size w w' := by
  have H := Lib.hid h
  have c0 := h.d.c0
  have c1 := h.d.c1
  have HB := Lib.hid hb
  clear h hb
  by_cases hk : 0 ≤ k ∧ k < (b : Int)
  · have hne : ((s.size : Int) != (a : Int)) = true := by simp; intro e; exact HB.out ⟨hk.1, hk.2, by omega⟩
    have hne2 : (s.size != a) = true := by simp; intro e; exact HB.out ⟨hk.1, hk.2, e⟩
    have HK := Lib.hid hk
    clear hk
    go_enter Tryz.func70, Tryz.ntmps70
    go_wp2_with fail
    refine (dk_has_yes a b k _ HK.out.1 HK.out.2).mono ?_
    rintro x w2 ⟨rfl, b2⟩
    have HB2 := Lib.hid b2
    have c0' := (H.out.below b2).d.c0
    clear b2 c0 c1
    go_wp2
    go_ret
    exact ⟨rfl, HB2.out⟩
  · have HK := Lib.hid hk
    clear hk
    go_enter Tryz.func70, Tryz.ntmps70
    go_wp2_with fail
    refine (dk_has_no a b k _ HK.out).mono ?_
    rintro x w2 ⟨rfl, b2⟩
    have HB2 := Lib.hid b2
    clear b2 c0 c1
    go_wp2
    go_ret
    exact ⟨rfl, HB2.out⟩
set_option maxRecDepth 100000 in
set_option maxHeartbeats 1000000 in
theorem dk_write_io (base B S a b : Nat) (buf : Value) (ws : List (Int × ByteArray)) (st : List Nat) (k : Int) (s : ByteArray) (w : World) (h : DkS w base B S a b buf ws ((1 : Nat) : Int) st)
    (h0 : 0 ≤ k) (h1 : k < (b : Int)) (hs : s.size = a) :
    Calls Tryz.prog 70 #[.pointer (some ⟨B, 0, none⟩), .int .i64 k, .string s] w fun x w' => x = .returned (.int .i64 13) ∧ DkS w' base B S a b buf ws ((0 : Nat) : Int) st ∧ Kq.Keeps (· = B) w w' := by
  have H := Lib.hid h
  have HK := Lib.hid (And.intro h0 h1)
  have c0 := h.d.c0
  have c1 := h.d.c1
  have hne : ((s.size : Int) != (a : Int)) = false := by simp [hs]
  have hne2 : (s.size != a) = false := by simp [hs]
  clear h h0 h1 hs
  go_enter Tryz.func70, Tryz.ntmps70
  go_wp2_with fail
  refine (dk_has_yes a b k _ HK.out.1 HK.out.2).mono ?_
  rintro x w2 ⟨rfl, b2⟩
  have H2 := Lib.hid (And.intro (H.out.below b2) b2)
  clear b2 c0 c1 H
  have c0 := H2.out.1.d.c0
  go_wp2_with fail
  refine (dk_fails_any base B S a b buf ws 1 st _ H2.out.1 (by omega)).mono ?_
  rintro x w3 ⟨rfl, D3, K3⟩
  have H3 := Lib.hid (And.intro D3 K3)
  clear D3 K3 c0
  go_wp2
  go_ret
  exact ⟨rfl, H3.out.1, (Kq.Keeps.of_below H2.out.2 (fun j h1 h2 => absurd h1 (Nat.not_le.2 h2))).trans H3.out.2⟩
set_option maxRecDepth 100000 in
set_option maxHeartbeats 1000000 in
theorem dk_write (base B S a b : Nat) (buf : Value) (ws : List (Int × ByteArray)) (armed : Nat) (st : List Nat) (k : Int) (s : ByteArray) (w : World) (h : DkS w base B S a b buf ws (armed : Int) st)
    (h0 : 0 ≤ k) (h1 : k < (b : Int)) (hs : s.size = a) (hw : ws.length ≤ 1000000) (har : armed ≠ 1) (har2 : armed ≤ 9223372036854775807) :
    Calls Tryz.prog 70 #[.pointer (some ⟨B, 0, none⟩), .int .i64 k, .string s] w (WriteP w base B S a b buf (ws ++ [(k, s)]) ((armed - 1 : Nat) : Int) st) := by
  obtain ⟨i0, hi, hz0, hz1, hz2⟩ := info_parts infoW
  have H := Lib.hid h
  have HK := Lib.hid (And.intro h0 h1)
  have c0 := h.d.c0
  have c1 := h.d.c1
  have hne : ((s.size : Int) != (a : Int)) = false := by simp [hs]
  have hne2 : (s.size != a) = false := by simp [hs]
  have HF : Hid (decide (armed = 1) = false) := Lib.hid (decide_eq_false har)
  have HAR := Lib.hid har2
  clear h h0 h1 hs har har2
  go_enter Tryz.func70, Tryz.ntmps70
  go_wp2_with fail
  refine (dk_has_yes a b k _ HK.out.1 HK.out.2).mono ?_
  rintro x w2 ⟨rfl, b2⟩
  have H2 := Lib.hid (And.intro (H.out.below b2) b2)
  clear b2 c0 c1 H
  have c0 := H2.out.1.d.c0
  go_wp2_with fail
  refine (dk_fails_any base B S a b buf ws armed st _ H2.out.1 HAR.out).mono ?_
  rw [HF.out]
  rintro x w3 ⟨rfl, D3, K3⟩
  have H3 := Lib.hid (And.intro D3 ((Kq.Keeps.of_below (S := (· = B)) H2.out.2 (fun j h1 h2 => absurd h1 (Nat.not_le.2 h2))).trans K3))
  clear D3 K3 c0 H2
  have c3 := H3.out.1.d.c3
  go_wp2_with (at_builtin; refine Kq.wpList_append_any _ rfl (.tmp 30) (.tmp 34) 81 81 rfl base 88 i0 (.agg #[.int .i64 0, .string ⟨#[]⟩]) 2 24 Tryz.underlying81 hi hz0 hz1 hz2 rfl (by decide) buf ws.length (wcells ws) rfl (H3.out.1.d.own.alloc _) (.slice (some ⟨w3.heap.size, 0, none⟩) 1 1) 1 (wcells [(k, s)]) rfl ?hs ?h1 ?h2 ?h3 ?_)
  case hs => exact src_write w3 k s 1 _
  case h1 => unfold maxLen; omega
  case h2 => omega
  case h3 => have := H3.out.1.d.base; simp; omega
  intro v' w1 hown1 hgrow hfresh
  have hm := H3.out.1.d.mid (Kq.below_alloc w3 _) hgrow
  have c3' : w1.cell? ⟨B, 3, none⟩ = some buf := Kq.blk_cell hm 3
  have f3' : w1.frozen? ⟨B, 3, none⟩ = false := Kq.blk_free hm 3
  obtain ⟨q1, q2⟩ := H3.out.1.d.close (Kq.below_alloc w3 _) hown1 hgrow (by simpa using hfresh)
  have HP : Hid (WriteP w base B S a b buf (ws ++ [(k, s)]) ((armed - 1 : Nat) : Int) st (.returned (.int .i64 0)) (w1.setCell ⟨B, 3, none⟩ v')) := by
    refine Lib.hid ⟨rfl, v', ⟨q1, q2.blk H3.out.1.s ?_⟩, (H3.out.2.mono (fun _ _ h => Or.inl h)).trans (q2.mono (fun j _ h => h.elim Or.inl (fun h => Or.inr (Or.inr h.symm)))), fun j hj => ?_⟩
    · rintro (h | h)
      · exact H3.out.1.d.sb h
      · exact (H3.out.1.d.ne S h.symm).2 rfl
    · rcases hfresh j hj with h | h
      · exact Or.inl h.symm
      · refine Or.inr (Nat.le_trans H3.out.2.size (Nat.le_trans ?_ h)); simp
  obtain ⟨a', n', cap', hv⟩ := Kq.own_shape hown1
  clear hm hown1 hgrow hfresh c3 q1 q2
  rw [hv] at HP ⊢
  clear hv
  go_wp2
  go_ret
  exact HP.out
set_option maxRecDepth 100000 in
set_option maxHeartbeats 1000000 in
theorem dk_arm (base B S a b : Nat) (buf : Value) (ws : List (Int × ByteArray)) (armed n : Int) (st : List Nat) (w : World) (h : DkS w base B S a b buf ws armed st) :
    Calls Tryz.prog 33 #[.pointer (some ⟨B, 0, none⟩), .int .i64 n] w fun x w' => x = .returned (.tuple #[]) ∧ DkS w' base B S a b buf ws ((n.toNat : Nat) : Int) st ∧ Kq.Keeps (· = B) w w' := by
  have HP := Lib.hid (h.setArmed ((n.toNat : Nat) : Int))
  have c4 := h.d.c4
  have f4 := h.d.fz 4
  clear h
  by_cases h0 : 0 ≤ n
  · obtain ⟨m, rfl⟩ := Int.eq_ofNat_of_zero_le h0
    clear h0
    rw [Int.toNat_natCast] at HP ⊢
    go_enter Tryz.func33, Tryz.ntmps33
    go_wp2
    all_goals (go_end0; exact ⟨rfl, HP.out.1, HP.out.2⟩)
  · have e : n.toNat = 0 := by omega
    rw [e] at HP ⊢
    have d1 : decide (n < 0) = true := decide_eq_true (by omega)
    have d2 : decide (0 < n) = false := decide_eq_false (by omega)
    have d3 : decide (n ≤ 0) = true := decide_eq_true (by omega)
    have d4 : decide (0 ≤ n) = false := decide_eq_false (by omega)
    have H0 := Lib.hid h0
    clear e h0
    go_enter Tryz.func33, Tryz.ntmps33
    go_wp2
    all_goals first | (exfalso; have := H0.out; omega) | (go_end0; exact ⟨rfl, HP.out.1, HP.out.2⟩)
theorem lastW_none (k : Int) (ws : List (Int × ByteArray)) (h : lastW k ws = none) : ∀ j (hj : j < ws.length), ws[j].1 ≠ k := by
  induction ws with
  | nil => intro j hj; cases hj
  | cons p ws ih =>
    obtain ⟨i, s⟩ := p
    rw [lastW_cons] at h
    cases hl : lastW k ws with
    | some t => rw [hl] at h; cases h
    | none =>
      rw [hl] at h
      simp only at h
      intro j hj
      rcases j with _ | j
      · show i ≠ k
        intro e
        rw [if_pos e] at h
        cases h
      · exact ih hl j (by simpa using hj)
set_option maxRecDepth 100000 in
set_option maxHeartbeats 1000000 in
theorem dk_read_miss (base B S a b k p : Nat) (buf : Value) (ws : List (Int × ByteArray)) (armed : Int) (st : List Nat) (w : World) (h : DkS w base B S a b buf ws armed st) (hlt : ∀ x ∈ st, x < 256)
    (hk : k < b) (hp : k * a = p) (hpa : p + a ≤ st.length) (ha : 0 < a) (hs : st.length ≤ 3000000) (hws : ws.length ≤ 1000000) (hn : lastW (k : Int) ws = none) :
    Calls Tryz.prog 65 #[.pointer (some ⟨B, 0, none⟩), .int .i64 (k : Int)] w fun x w' => x = .returned (.tuple #[.string (txt ((st.drop p).take a)), .int .i64 0]) ∧ Below w.heap.size w w' := by
  have H := Lib.hid h
  have HK := Lib.hid hk
  have HST := Lib.hid (And.intro h.s hlt)
  have HN := Lib.hid (lastW_none _ _ hn)
  have c0 := h.d.c0
  have c1 := h.d.c1
  obtain ⟨A, cap, rfl⟩ := h.d.shape
  have hmul : wrap64 ((k : Int) * (a : Int)) = (p : Int) := by
    rw [← Int.natCast_mul, hp]; exact IntWalk.wrap64_in _ (by omega)
  clear h hk hlt hp hn
  go_enter Tryz.func65, Tryz.ntmps65
  go_wp2_with fail
  refine (dk_has_yes a b k _ (by omega) (by have := HK.out; omega)).mono ?_
  rintro x w2 ⟨rfl, b2⟩
  have H2 := Lib.hid (H.out.below b2)
  have HT2 := Lib.hid (HST.out.1.below b2)
  have HB2 := Lib.hid b2
  clear b2 c0 c1 H
  have c3 := H2.out.d.c3
  have hat : 0 < ws.length → ∃ g, A = some ⟨g, 0, none⟩ ∧ ∀ j (hj : j < ws.length), w2.cell? ⟨g, j * 2, none⟩ = some (.int .i64 ws[j].1) ∧ w2.cell? ⟨g, j * 2 + 1, none⟩ = some (.string ws[j].2) := fun h0 => by
    obtain ⟨g, cap', hb, hat⟩ := H2.out.d.at h0
    injection hb with hA
    exact ⟨g, hA, hat⟩
  have HAT := Lib.hid hat
  clear hat
  go_wp2
  go_loop [6] (fun i => ∃ j : Nat, j ≤ ws.length ∧ i = .int .i64 ((j : Int) - 1)) (fun i => (intOf i + 1).toNat)
  case atStart => exact ⟨ws.length, by omega, by go_num⟩
  case round =>
    obtain ⟨j, hj, rfl⟩ := hrel
    rcases j with _ | j
    · have c0 := H2.out.d.c0
      have c2 := H2.out.d.c2
      rw [show (((0 : Nat) : Int) - 1) = -1 from rfl]
      go_wp2
      have e1 : IntKind.i64.wrap ((p : Int) + (a : Int)) = (p : Int) + (a : Int) := IntWalk.i64_in _ (by omega)
      have e2 : (0 : Int) ≤ (p : Int) + (a : Int) := by omega
      have e3 : ((p : Int) + (a : Int)).toNat = p + a := by omega
      have e4 : (p : Int) + (a : Int) ≤ (st.length : Int) := by omega
      have e5 : (p : Int) ≤ (p : Int) + (a : Int) := by omega
      have e6 : ∀ q c, (convert 64 9 (.slice (some ⟨S, p, none⟩) a c)).run Tryz.prog (w2.drewN q) = .ok (.string (txt ((st.drop p).take a))) (w2.drewN q) := fun q c => stb_text _ S p a c st HT2.out HST.out.2 hpa
      have e7 : ¬ st.length = p := by omega
      go_quiet (fail)
      go_wp2
      go_ret2
      exact ⟨rfl, ⟨HB2.out.os, HB2.out.tape, HB2.out.output, HB2.out.size, HB2.out.block⟩⟩
    · obtain ⟨g, rfl, hat⟩ := HAT.out (by omega)
      obtain ⟨w0, w1⟩ := hat j (by omega)
      clear hat
      have hkb : (ws[j].1 == (k : Int)) = false := by simpa using HN.out j (by omega)
      rw [show (((j + 1 : Nat) : Int) - 1) = (j : Int) by omega]
      go_wp2
      go_round
      case rel => exact ⟨j, by omega, by go_num⟩
      case measure => simp [intOf]
set_option maxRecDepth 100000 in
set_option maxHeartbeats 1000000 in
theorem dk_read_range (base B S a b : Nat) (buf : Value) (ws : List (Int × ByteArray)) (armed k : Int) (st : List Nat) (w : World) (h : DkS w base B S a b buf ws armed st) (hk : ¬ (0 ≤ k ∧ k < (b : Int))) :
    Calls Tryz.prog 65 #[.pointer (some ⟨B, 0, none⟩), .int .i64 k] w fun x w' => x = .returned (.tuple #[.string ⟨#[]⟩, .int .i64 1]) ∧ Below w.heap.size w w' := by
  have c0 := h.d.c0
  have c1 := h.d.c1
  have HK := Lib.hid hk
  clear h hk
  go_enter Tryz.func65, Tryz.ntmps65
  go_wp2_with fail
  refine (dk_has_no a b k _ HK.out).mono ?_
  rintro x w2 ⟨rfl, b2⟩
  have HB2 := Lib.hid b2
  clear b2 c0 c1
  go_wp2
  go_ret2
  exact ⟨rfl, HB2.out⟩
/-- what Read tells -/
theorem dk_read (base B S a b k : Nat) (buf : Value) (ws : List (Int × ByteArray)) (armed : Int) (st : List Nat) (w : World) (h : DkS w base B S a b buf ws armed st) (hlt : ∀ x ∈ st, x < 256)
    (hk : k < b) (hl : st.length = a * b) (hn : a * b ≤ 3000000) (ha : 0 < a) (hws : ws.length ≤ 1000000) :
    Calls Tryz.prog 65 #[.pointer (some ⟨B, 0, none⟩), .int .i64 (k : Int)] w fun x w' => x = .returned (.tuple #[.string (readB a ws st k), .int .i64 0]) ∧ Below w.heap.size w w' := by
  have hf := fit_mul (a := a) hk
  unfold readB
  cases hw : lastW (k : Int) ws with
  | some s => exact dk_read_hit base B S a b st.length buf ws armed k s w h.d (by omega) (by omega) hws hw
  | none => exact dk_read_miss base B S a b k (k * a) buf ws armed st w h hlt hk rfl (by omega) ha (by omega) hws hw
end Go.Proofs.YtbpgfhcecanikaaGreat
namespace Go.Proofs.YtbpgfhcecanikaaGreat
open Go.RowKit
set_option linter.unusedVariables false
theorem DkB.reset {w : World} {base B S : Nat} {a b : Int} {n : Nat} {buf : Value} {ws : List (Int × ByteArray)} {armed : Int} (h : DkB w base B S a b n buf ws armed) :
    DkB ((w.setCell ⟨B, 3, none⟩ (.slice none 0 0)).setCell ⟨B, 4, none⟩ (.int .i64 0)) base B S a b n (.slice none 0 0) [] 0 :=
  ⟨Kq.blk_set (Kq.blk_set h.blk 3 _) 4 _, World.ownsRow_nil _ _ _ _, fun k hk => (by cases hk), by have := h.base; simpa [World.setCell] using this, h.sb, by have := h.sl; simpa [World.setCell] using this⟩
set_option maxRecDepth 100000 in
set_option maxHeartbeats 1000000 in
theorem dk_crash_none (base B S : Nat) (a b : Int) (n : Nat) (buf : Value) (ws : List (Int × ByteArray)) (armed : Int) (w : World) (h : DkB w base B S a b n buf ws armed) (hw : ws.length ≤ 1000000) (h0 : 0 < ws.length) :
    Calls Tryz.prog 21 #[.pointer (some ⟨B, 0, none⟩), .slice none 0 0] w fun x w' => x = .returned (.tuple #[]) ∧ DkB w' base B S a b n (.slice none 0 0) [] 0 ∧ Kq.Keeps (· = B) w w' := by
  have H := Lib.hid h
  have c3 := h.c3
  obtain ⟨g, cap, rfl, hat⟩ := h.at h0
  have HAT := Lib.hid hat
  clear hat h
  go_enter Tryz.func21, Tryz.ntmps21
  go_wp2
  go_loopw [13] (fun i wr => ∃ j : Nat, j ≤ ws.length ∧ i = .int .i64 (j : Int) ∧ Below w.heap.size w wr) (fun i _ => ws.length - (intOf i).toNat)
  case atStart => exact ⟨0, by omega, rfl, Below.refl _ _⟩
  case round =>
    obtain ⟨j, hj, rfl, hb⟩ := hrel
    have HB := Lib.hid hb
    clear hb c3
    by_cases hlt : j < ws.length
    · obtain ⟨w0, w1⟩ := HAT.out j hlt
      have hg : g < w.heap.size := by
        rcases Nat.lt_or_ge g w.heap.size with h' | h'
        · exact h'
        · simp [World.cell?, Array.getElem?_eq_none h'] at w0
      have v0 : wr.cell? ⟨g, j * 2, none⟩ = some (.int .i64 ws[j].1) := (HB.out.cell (p := ⟨g, j * 2, none⟩) hg).trans w0
      have v1 : wr.cell? ⟨g, j * 2 + 1, none⟩ = some (.string ws[j].2) := (HB.out.cell (p := ⟨g, j * 2 + 1, none⟩) hg).trans w1
      have d0 : decide ((0 : Int) ≤ (j : Int)) = true := decide_eq_true (by omega)
      have HBX := Lib.hid (fun o => HB.out.trans ((Kq.below_alloc wr o).mono HB.out.size))
      clear w0 w1 hg
      go_wp2
      go_round
      case rel => exact ⟨j + 1, by omega, by go_num, by first | exact HBX.out _ | exact HB.out⟩
      case measure => simp [intOf]; omega
    · have hk' : j = ws.length := Nat.le_antisymm hj (Nat.not_lt.1 hlt)
      subst hk'
      have H2 := Lib.hid (H.out.belowD HB.out)
      have k3 := H2.out.c3
      have k4 := H2.out.c4
      have f3 := H2.out.fz 3
      have f4 := H2.out.fz 4
      go_wp2
      go_end0
      have k1 := Kq.Keeps.setCell (S := (· = B)) wr ⟨B, 3, none⟩ (.slice none 0 0) rfl
      have k2 := Kq.Keeps.setCell (S := (· = B)) (wr.setCell ⟨B, 3, none⟩ (.slice none 0 0)) ⟨B, 4, none⟩ (.int .i64 0) rfl
      exact ⟨rfl, H2.out.reset, (Kq.Keeps.of_below (S := (· = B)) HB.out (fun k h1 h2 => absurd h1 (Nat.not_le.2 h2))).trans (k1.trans k2)⟩
end Go.Proofs.YtbpgfhcecanikaaGreat
namespace Go.Proofs.YtbpgfhcecanikaaGreat
open Go.RowKit
set_option linter.unusedVariables false
theorem zrow_cells (n : Nat) : zrow n = scells (List.replicate n 0) := by
  unfold zrow scells
  apply Array.toList_inj.1
  rw [show (Value.int IntKind.u8 0).cells = #[Value.int IntKind.u8 0] from rfl, toList_madeCells_one]
  simp
theorem zeros_lt (n : Nat) : ∀ b ∈ List.replicate n 0, b < 256 := by
  intro b hb
  rw [List.eq_of_mem_replicate hb]; decide
/-- string(make([]byte, n)) -/
theorem cv_zeros (n : Nat) (w : World) : (convert 64 9 (.slice (some ⟨w.heap.size, 0, none⟩) n n)).run Tryz.prog (w.alloc (.cells (zrow n) 5)) = .ok (.string (txt (List.replicate n 0))) (w.alloc (.cells (zrow n) 5)) := by
  have h : StB (w.alloc (.cells (zrow n) 5)) w.heap.size (List.replicate n 0) := by
    unfold StB
    rw [← zrow_cells]
    exact Kq.blk_new _ _ _ _
  have := stb_text _ w.heap.size 0 n n (List.replicate n 0) h (zeros_lt n) (by simp)
  rw [List.drop_zero, List.take_of_length_le (by simp)] at this
  exact this
theorem StB.later {P : Nat → Prop} {w w' : World} {S : Nat} {st : List Nat} (h : StB w S st) (hk : Kq.Keeps P w w') (hS : ¬ P S) : StB w' S st := hk.blk h hS
end Go.Proofs.YtbpgfhcecanikaaGreat
namespace Go.Proofs.YtbpgfhcecanikaaGreat
open Go.RowKit
set_option linter.unusedVariables false
set_option maxRecDepth 100000 in
theorem dk_size (a b : Int) (w : World) : Calls Tryz.prog 39 #[.agg #[.int .i64 a, .int .i64 b]] w fun x w' => x = .returned (.int .i64 a) ∧ Below w.heap.size w w' := by
  go_enter Tryz.func39, Tryz.ntmps39
  go_wp2
  go_ret
  exact ⟨rfl, Kq.below_alloc _ _⟩
set_option maxRecDepth 100000 in
theorem dk_sectors (a b : Int) (w : World) : Calls Tryz.prog 37 #[.agg #[.int .i64 a, .int .i64 b]] w fun x w' => x = .returned (.int .i64 b) ∧ Below w.heap.size w w' := by
  go_enter Tryz.func37, Tryz.ntmps37
  go_wp2
  go_ret
  exact ⟨rfl, Kq.below_alloc _ _⟩
set_option maxRecDepth 100000 in
theorem dk_buffered0 (B : Nat) (w : World) (h : w.cell? ⟨B, 3, none⟩ = some (.slice none 0 0)) : Calls Tryz.prog 12 #[.pointer (some ⟨B, 0, none⟩)] w fun x w' => x = .returned (.int .i64 0) ∧ w = w' := by
  go_enter Tryz.func12, Tryz.ntmps12
  go_wp2
  go_ret
  exact ⟨rfl, rfl⟩
set_option maxRecDepth 100000 in
theorem dk_stable (B S : Nat) (st : List Nat) (w : World) (h : w.cell? ⟨B, 2, none⟩ = some (.slice (some ⟨S, 0, none⟩) st.length st.length)) (hs : StB w S st) (hl : ∀ b ∈ st, b < 256) :
    Calls Tryz.prog 11 #[.pointer (some ⟨B, 0, none⟩)] w fun x w' => x = .returned (.string (txt st)) ∧ w = w' := by
  have hcv := stb_text w S 0 st.length st.length st hs hl (by omega)
  rw [List.drop_zero, List.take_length] at hcv
  clear hs hl
  go_enter Tryz.func11, Tryz.ntmps11
  go_wp2
  go_ret
  exact ⟨rfl, rfl⟩
end Go.Proofs.YtbpgfhcecanikaaGreat
namespace Go.Proofs.YtbpgfhcecanikaaGreat
open Go.RowKit
set_option linter.unusedVariables false
structure DkI (W w : World) (base B S a b : Nat) (buf : Value) (ws : List (Int × ByteArray)) (armed : Int) (st : List Nat) : Prop where
  s : DkS w base B S a b buf ws armed st
  bel : Below W.heap.size W w
  hB : W.heap.size ≤ B
  hS : W.heap.size ≤ S
  hbase : W.heap.size ≤ base
section
variable {W w w' : World} {base B S a b : Nat} {buf buf' : Value} {ws ws' : List (Int × ByteArray)} {armed armed' : Int} {st st' : List Nat} (h : DkI W w base B S a b buf ws armed st)
include h
theorem DkI.below (hb : Below w.heap.size w w') : DkI W w' base B S a b buf ws armed st := ⟨h.s.below hb, h.bel.trans (hb.mono h.bel.size), h.hB, h.hS, h.hbase⟩
theorem DkI.step (hd : DkS w' base B S a b buf' ws' armed' st') (hk : Kq.Keeps (Own B S buf) w w') : DkI W w' base B S a b buf' ws' armed' st' :=
  ⟨hd, h.bel.trans (hk.below h.bel.size (fun k _ ho => by
    rcases ho with rfl | rfl | ho
    · exact h.hB
    · exact h.hS
    · exact Nat.le_trans h.hbase (own_ge h.s.d.own ho))), h.hB, h.hS, h.hbase⟩
theorem DkI.stepB (hd : DkS w' base B S a b buf' ws' armed' st') (hk : Kq.Keeps (· = B) w w') : DkI W w' base B S a b buf' ws' armed' st' := h.step hd (hk.mono (fun _ _ e => Or.inl e))
theorem DkI.stepBS (hd : DkS w' base B S a b buf' ws' armed' st') (hk : Kq.Keeps (fun j => j = B ∨ j = S) w w') : DkI W w' base B S a b buf' ws' armed' st' := h.step hd (hk.mono (fun _ _ e => e.elim Or.inl (fun e => Or.inr (Or.inl e))))
end
/-- a disk that New made -/
theorem DkI.made {W w w' : World} {a b n : Nat} (hW : Below W.heap.size W w) {x : Ending} (hn : a * b = n) (h : NewPost a b n w x w') : DkI W w' w.heap.size (w.heap.size + 1) w.heap.size a b (.slice none 0 0) [] ((0 : Nat) : Int) (List.replicate n 0) := by
  obtain ⟨-, D2, S2, b2⟩ := h
  refine ⟨⟨⟨?_, World.ownsRow_nil _ _ _ _, (fun k hk => by cases hk), b2.size, by omega, Kq.blk_lt S2⟩, ?_⟩, hW.trans (b2.mono hW.size), Nat.le_succ_of_le hW.size, hW.size, hW.size⟩
  · rw [List.length_replicate]; exact D2.blk
  · unfold StB; rw [← zrow_cells]; exact S2
theorem putB_at (x y t : List Nat) : putB x.length t (x ++ y) = x ++ (t ++ y.drop t.length) := by
  unfold putB
  rw [List.take_left, List.append_assoc]
  congr 2
  rw [← List.drop_drop, List.drop_left]
theorem putB_at' (p : Nat) (x y t : List Nat) (h : x.length = p) : putB p t (x ++ y) = x ++ (t ++ y.drop t.length) := by rw [← h]; exact putB_at x y t
end Go.Proofs.YtbpgfhcecanikaaGreat
