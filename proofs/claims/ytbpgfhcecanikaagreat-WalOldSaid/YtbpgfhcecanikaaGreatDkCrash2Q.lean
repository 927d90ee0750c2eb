/- Merged: DkFlush, DkCrash2. Contracts of a disk's fails, Flush. Condition: writes that may be, sizes. Contract of a disk's Crash. Condition: writes that may be, sizes. -/
import Derived.WalkSpells
import Derived.Test.YtbpgfhcecanikaaGreatDkKeepQ
import Derived.Deep.QuietTactic
import Derived.BigQuiet
import Derived.Test.YtbpgfhcecanikaaGreatCommonQ
namespace Go.Proofs.YtbpgfhcecanikaaGreat
open Go.RowKit
set_option linter.unusedVariables false
theorem DkS.setArmed {w : World} {base B S a b : Nat} {buf : Value} {ws : List (Int × ByteArray)} {armed : Int} {st : List Nat} (h : DkS w base B S a b buf ws armed st) (n : Int) :
    DkS (w.setCell ⟨B, 4, none⟩ (.int .i64 n)) base B S a b buf ws n st ∧ Kq.Keeps (· = B) w (w.setCell ⟨B, 4, none⟩ (.int .i64 n)) := by
  refine ⟨⟨⟨Kq.blk_set h.d.blk 4 _, ?_, h.d.ne, by simpa [World.setCell] using h.d.base, h.d.sb, by simpa [World.setCell] using h.d.sl⟩, ?_⟩, Kq.Keeps.setCell _ _ _ rfl⟩
  · obtain ⟨h1, h2⟩ := h.d.own
    refine ⟨h1, h2.imp id ?_⟩
    rintro ⟨g, cap, cur, rfl, h3, h4, h5⟩
    exact ⟨g, cap, cur, rfl, h3, by rw [Below.heap_setCell _ _ _ _ (h.d.ne g rfl).1]; exact h4, h5⟩
  · unfold StB
    rw [Below.heap_setCell _ _ _ _ h.d.sb]
    exact h.s
def FailsPost (w : World) (base B S a b : Nat) (buf : Value) (ws : List (Int × ByteArray)) (armed : Nat) (st : List Nat) (r : Bool) (x : Ending) (w' : World) : Prop :=
  x = .returned (.bool r) ∧ DkS w' base B S a b buf ws ((armed - 1 : Nat) : Int) st ∧ Kq.Keeps (· = B) w w'
set_option maxRecDepth 100000 in
theorem dk_fails_any (base B S a b : Nat) (buf : Value) (ws : List (Int × ByteArray)) (armed : Nat) (st : List Nat) (w : World) (h : DkS w base B S a b buf ws (armed : Int) st) (ha : armed ≤ 9223372036854775807) :
    Calls Tryz.prog 62 #[.pointer (some ⟨B, 0, none⟩)] w (FailsPost w base B S a b buf ws armed st (decide (armed = 1))) := by
  rcases armed with _ | armed
  · refine (dk_fails0 B w h.d.c4).mono ?_
    rintro x w' ⟨rfl, rfl⟩
    exact ⟨rfl, h, Kq.Keeps.refl _ _⟩
  · have c4 := h.d.c4
    have f4 := h.d.fz 4
    have HP := Lib.hid (h.setArmed (armed : Int))
    have d0 : (((armed + 1 : Nat) : Int) == 0) = false := by simp; omega
    have d1 : (((armed : Nat) : Int) == 0) = decide (armed + 1 = 1) := by rw [Bool.eq_iff_iff]; simp
    have hs : wrap64 (((armed + 1 : Nat) : Int) - 1) = (armed : Int) := by rw [IntWalk.wrap64_in _ (by omega)]; omega
    have hs2 : IntKind.i64.wrap (((armed + 1 : Nat) : Int) - 1) = (armed : Int) := by rw [IntWalk.i64_in _ (by omega)]; omega
    clear h
    generalize ((armed + 1 : Nat) : Int) = A at *
    generalize hq : decide (armed + 1 = 1) = q at *
    clear hq
    go_enter Tryz.func62, Tryz.ntmps62
    go_wp2
    go_ret
    exact ⟨rfl, HP.out.1, HP.out.2⟩
theorem DkB.shape {w : World} {base B S : Nat} {a b : Int} {n : Nat} {buf : Value} {ws : List (Int × ByteArray)} {armed : Int} (h : DkB w base B S a b n buf ws armed) : ∃ A cap, buf = .slice A ws.length cap := by
  rcases h.own.2 with ⟨rfl, hx⟩ | ⟨g, cap, cur, rfl, _⟩
  · exact ⟨none, 0, by rw [hx]⟩
  · exact ⟨_, _, rfl⟩
def FlushPost (w : World) (base B S a b : Nat) (armed : Nat) (st : List Nat) (x : Ending) (w' : World) : Prop :=
  x = .returned (.int .i64 0) ∧ DkS w' base B S a b (.slice none 0 0) [] ((armed - 1 : Nat) : Int) st ∧ Kq.Keeps (fun j => j = B ∨ j = S) w w'
theorem DkS.empty {w : World} {base B S a b : Nat} {buf : Value} {ws : List (Int × ByteArray)} {armed : Int} {st : List Nat} (h : DkS w base B S a b buf ws armed st) :
    DkS (w.setCell ⟨B, 3, none⟩ (.slice none 0 0)) base B S a b (.slice none 0 0) [] armed st := by
  refine ⟨⟨Kq.blk_set h.d.blk 3 _, World.ownsRow_nil _ _ _ _, (fun k hk => by cases hk), by simpa [World.setCell] using h.d.base, h.d.sb, by simpa [World.setCell] using h.d.sl⟩, ?_⟩
  unfold StB
  rw [Below.heap_setCell _ _ _ _ h.d.sb]
  exact h.s
theorem flush_drop (a : Nat) (ws : List (Int × ByteArray)) (st : List Nat) (j : Nat) (h : j < ws.length) : flushB a (ws.drop j) st = flushB a (ws.drop (j + 1)) (putB (ws[j].1.toNat * a) (nl ws[j].2) st) := by
  rw [List.drop_eq_getElem_cons h]; rfl
theorem take_all (s : ByteArray) {a : Nat} (h : s.size = a) : (nl s).take a = nl s := List.take_of_length_le (by rw [nl_length]; omega)
set_option maxRecDepth 100000 in
set_option maxHeartbeats 2000000 in
theorem dk_flush_bad (base B S a b : Nat) (buf : Value) (ws : List (Int × ByteArray)) (st : List Nat) (w : World) (h : DkS w base B S a b buf ws ((1 : Nat) : Int) st) :
    Calls Tryz.prog 41 #[.pointer (some ⟨B, 0, none⟩)] w fun x w' => x = .returned (.int .i64 13) ∧ DkS w' base B S a b buf ws ((0 : Nat) : Int) st ∧ Kq.Keeps (· = B) w w' := by
  have H := Lib.hid h
  clear h
  go_enter Tryz.func41, Tryz.ntmps41
  go_wp2_with fail
  refine (dk_fails_any base B S a b buf ws 1 st _ H.out (by omega)).mono ?_
  rintro x w1 ⟨rfl, D1, K1⟩
  have H1 := Lib.hid (And.intro D1 K1)
  clear D1 K1
  go_wp2
  go_ret
  exact ⟨rfl, H1.out.1, H1.out.2⟩
set_option maxRecDepth 100000 in
set_option maxHeartbeats 2000000 in
theorem dk_flush_ok (base B S a b : Nat) (buf : Value) (ws : List (Int × ByteArray)) (armed : Nat) (st : List Nat) (w : World) (h : DkS w base B S a b buf ws (armed : Int) st) (hw : WsOk a b ws) (hl : st.length = a * b) (hn : a * b ≤ 3000000) (ha : 0 < a) (ha2 : a ≤ 1000000)
    (hws : ws.length ≤ 1000000) (har : armed ≠ 1) (har2 : armed ≤ 9223372036854775807) (hlt : ∀ x ∈ st, x < 256) :
    Calls Tryz.prog 41 #[.pointer (some ⟨B, 0, none⟩)] w (FlushPost w base B S a b armed (flushB a ws st)) := by
  have H := Lib.hid h
  have HW := Lib.hid (And.intro hw (And.intro hl (And.intro hn (And.intro ha ha2))))
  have HLT := Lib.hid hlt
  have HF : Hid (decide (armed = 1) = false) := Lib.hid (decide_eq_false har)
  have HAR := Lib.hid har2
  obtain ⟨A, cap, rfl⟩ := h.d.shape
  clear h hw hl hn ha ha2 har har2 hlt
  go_enter Tryz.func41, Tryz.ntmps41
  go_wp2_with fail
  refine (dk_fails_any base B S a b _ ws armed st _ H.out HAR.out).mono ?_
  rw [HF.out]
  rintro x w1 ⟨rfl, D1, K1⟩
  have c3 := D1.d.c3
  have H1 := Lib.hid (And.intro D1 K1)
  clear D1 K1
  go_wp2
  go_loopw [12] (fun i wr => ∃ j : Nat, ∃ stj : List Nat, j ≤ ws.length ∧ i = .int .i64 (j : Int) ∧ flushB a (ws.drop j) stj = flushB a ws st ∧ stj.length = a * b ∧ (∀ x ∈ stj, x < 256) ∧ DkS wr base B S a b (.slice A ws.length cap) ws ((armed - 1 : Nat) : Int) stj ∧ Kq.Keeps (· = S) w1 wr) (fun i _ => ws.length - (intOf i).toNat)
  case atStart => exact ⟨0, st, by omega, rfl, rfl, HW.out.2.1, HLT.out, H1.out.1, Kq.Keeps.refl _ _⟩
  case round =>
    obtain ⟨j, stj, hj, rfl, hfl, hlj, hltj, hd, hk⟩ := hrel
    have HD := Lib.hid (And.intro hd (And.intro hk (And.intro hlj hltj)))
    have HFL := Lib.hid hfl
    clear hd hk hlj hltj hfl c3
    by_cases hlt : j < ws.length
    · obtain ⟨g, cap', hbuf, hat⟩ := HD.out.1.d.at (by omega)
      obtain ⟨w0, w2⟩ := hat j hlt
      clear hat
      injection hbuf with hA _ hcap
      subst hA
      clear hcap
      obtain ⟨k0, k1, k2⟩ := HW.out.1.at j hlt
      have HFD := Lib.hid (flush_drop a ws stj j hlt)
      obtain ⟨k, hk⟩ := Int.eq_ofNat_of_zero_le k0
      rw [hk] at w0 k1
      have HK := Lib.hid (And.intro hk k2)
      have hkb : k < b := by omega
      have hfit := Lib.hid (fit_mul (a := a) hkb)
      clear hk k0 k1 k2 hkb
      obtain ⟨s, hs⟩ : ∃ s, s = ws[j].2 := ⟨_, rfl⟩
      rw [← hs] at w2
      have HS := Lib.hid hs
      clear hs
      go_wp2
      obtain ⟨wb, hwb⟩ : ∃ z, z = wr.alloc (.cells #[.int .i64 (k : Int), .string s] 88) := ⟨_, rfl⟩
      rw [← hwb]
      have hbw : Below wr.heap.size wr wb := by rw [hwb]; exact Kq.below_alloc _ _
      have q0 : wb.cell? ⟨wr.heap.size, 0, none⟩ = some (.int .i64 (k : Int)) := by rw [hwb]; exact Kq.blk_cell (Kq.blk_new _ _ _ _) 0
      have q1 : wb.cell? ⟨wr.heap.size, 1, none⟩ = some (.string s) := by rw [hwb]; exact Kq.blk_cell (Kq.blk_new _ _ _ _) 1
      have DB := Lib.hid (And.intro (HD.out.1.below hbw).drew (hbw.drew))
      have c0 : wb.cell? ⟨B, 0, none⟩ = some (.int .i64 a) := (HD.out.1.below hbw).d.c0
      clear hwb hbw w0 w2
      go_still_tail 7, (by kernel_rfl)
      change wpList _ _ _ _ _ wb.drew
      clear q0 q1 c0
      go_wp2_with fail
      refine (dk_keep base B S a b k (k * a) a s _ ws _ stj _ DB.out.1 rfl HW.out.2.2.2.1 (by rw [HS.out, HK.out.2]; exact Nat.le_refl _) (by rw [HD.out.2.2.1]; exact hfit.out) (by rw [HD.out.2.2.1]; exact HW.out.2.2.1) (by rw [HS.out, HK.out.2]; exact HW.out.2.2.2.2)).mono ?_
      rintro x w5 ⟨rfl, D5, K5⟩
      rw [take_all s (by rw [HS.out, HK.out.2])] at D5
      have H5 := Lib.hid (And.intro D5 ((HD.out.2.1.trans (Kq.Keeps.of_below (S := (· = S)) DB.out.2 (fun j h1 h2 => absurd h1 (Nat.not_le.2 h2)))).trans K5))
      clear D5 K5
      go_wp2
      go_roundw
      case rel =>
        refine ⟨j + 1, putB (k * a) (nl s) stj, by omega, by go_num, ?_, ?_, ?_, H5.out.1, H5.out.2⟩
        · rw [← HFL.out, HFD.out, HK.out.1, HS.out]; rfl
        · rw [putB_length _ _ _ (by rw [nl_length, HS.out, HK.out.2, HD.out.2.2.1]; exact hfit.out)]; exact HD.out.2.2.1
        · exact putB_lt _ _ _ (nl_lt s) HD.out.2.2.2
      case measure => simp [intOf]; omega
    · have hk' : j = ws.length := Nat.le_antisymm hj (Nat.not_lt.1 hlt)
      subst hk'
      rw [List.drop_length] at HFL
      have k3 := HD.out.1.d.c3
      have f3 := HD.out.1.d.fz 3
      go_wp2
      go_ret
      refine ⟨rfl, ?_, ?_⟩
      · have e : flushB a ws st = stj := HFL.out.symm
        rw [e]
        exact HD.out.1.empty
      · exact ((H1.out.2.mono (fun k _ h => Or.inl h)).trans (HD.out.2.1.mono (fun k _ h => Or.inr h))).trans (Kq.Keeps.setCell _ _ _ (Or.inl rfl))
end Go.Proofs.YtbpgfhcecanikaaGreat
namespace Go.Proofs.YtbpgfhcecanikaaGreat
open Go.RowKit
set_option linter.unusedVariables false
/-- a list of crash writes in memory, at an address that leaves room for any offset -/
structure CwAt (w : World) (A : Option Addr) (l : List (Bool × Int)) : Prop where
  at_ : ∀ j (h : j < l.length), ∃ g o, A = some ⟨g, o, none⟩ ∧ g < w.heap.size ∧ w.cell? ⟨g, o + j * 2, none⟩ = some (.bool l[j].1) ∧ w.cell? ⟨g, o + j * 2 + 1, none⟩ = some (.int .i64 l[j].2)
theorem CwAt.keeps {P : Nat → Prop} {w w' : World} {A : Option Addr} {l : List (Bool × Int)} (h : CwAt w A l) (hk : Kq.Keeps P w w') (hP : 0 < l.length → ∀ g o, A = some ⟨g, o, none⟩ → ¬ P g) : CwAt w' A l :=
  ⟨fun j hj => by
    obtain ⟨g, o, hA, hg, h1, h2⟩ := h.at_ j hj
    have hb := hk.block g hg (hP (by omega) g o hA)
    exact ⟨g, o, hA, Nat.lt_of_lt_of_le hg hk.size, (World.cell?_of_block hb).trans h1, (World.cell?_of_block hb).trans h2⟩⟩
theorem CwAt.below {w w' : World} {A : Option Addr} {l : List (Bool × Int)} (h : CwAt w A l) (hb : Below w.heap.size w w') : CwAt w' A l :=
  h.keeps (P := fun _ => False) (Kq.Keeps.of_below hb (fun j h1 h2 => absurd h1 (Nat.not_le.2 h2))) (fun _ _ _ _ => id)
theorem CwAt.nil (w : World) (A : Option Addr) : CwAt w A [] := ⟨fun j h => by cases h⟩
def CrashPost (w : World) (base B S a b : Nat) (st : List Nat) (x : Ending) (w' : World) : Prop :=
  x = .returned (.tuple #[]) ∧ DkS w' base B S a b (.slice none 0 0) [] ((0 : Nat) : Int) st ∧ Kq.Keeps (fun j => j = B ∨ j = S) w w'
theorem crash_past (a : Nat) (ws : List (Int × ByteArray)) (l : List (Bool × Int)) (t : Bool) (st : List Nat) (j : Nat) (hl : l.length ≤ j) : crashB a (ws.drop j) (l.drop j) t st = st := by
  rw [List.drop_of_length_le hl]
  cases ws.drop j <;> rfl
theorem crash_no (a : Nat) (ws : List (Int × ByteArray)) (l : List (Bool × Int)) (t : Bool) (st : List Nat) (j : Nat) (h : j < ws.length) (hl : j < l.length) (hf : l[j].1 = false) :
    crashB a (ws.drop j) (l.drop j) t st = crashB a (ws.drop (j + 1)) (l.drop (j + 1)) t st := by
  rw [List.drop_eq_getElem_cons h, List.drop_eq_getElem_cons hl]
  generalize ws[j] = p at *
  generalize l[j] = q at *
  obtain ⟨k, s⟩ := p
  obtain ⟨la, x⟩ := q
  simp only at hf
  subst hf
  rfl
theorem crash_torn (a : Nat) (ws : List (Int × ByteArray)) (l : List (Bool × Int)) (st : List Nat) (j : Nat) (h : j < ws.length) (hl : j < l.length) (hf : l[j].1 = true) (h0 : 0 < l[j].2) (h1 : l[j].2 < a) :
    crashB a (ws.drop j) (l.drop j) false st = crashB a (ws.drop (j + 1)) (l.drop (j + 1)) true (putB (ws[j].1.toNat * a) ((nl ws[j].2).take l[j].2.toNat) st) := by
  rw [List.drop_eq_getElem_cons h, List.drop_eq_getElem_cons hl]
  generalize ws[j] = p at *
  generalize l[j] = q at *
  obtain ⟨k, s⟩ := p
  obtain ⟨la, x⟩ := q
  simp only at hf h0 h1 ⊢
  subst hf
  rw [crashB, if_pos rfl, if_pos ⟨h0, h1, rfl⟩]
theorem crash_whole (a : Nat) (ws : List (Int × ByteArray)) (l : List (Bool × Int)) (t : Bool) (st : List Nat) (j : Nat) (h : j < ws.length) (hl : j < l.length) (hf : l[j].1 = true) (hn : ¬ (0 < l[j].2 ∧ l[j].2 < a ∧ t = false)) :
    crashB a (ws.drop j) (l.drop j) t st = crashB a (ws.drop (j + 1)) (l.drop (j + 1)) t (putB (ws[j].1.toNat * a) (nl ws[j].2) st) := by
  rw [List.drop_eq_getElem_cons h, List.drop_eq_getElem_cons hl]
  generalize ws[j] = p at *
  generalize l[j] = q at *
  obtain ⟨k, s⟩ := p
  obtain ⟨la, x⟩ := q
  simp only at hf hn ⊢
  subst hf
  rw [crashB, if_pos rfl, if_neg hn]
def CrRel (base B S a b cap : Nat) (A LA : Option Addr) (ws : List (Int × ByteArray)) (l : List (Bool × Int)) (armed : Int) (w : World) (X : List Nat) (j : Nat) (t : Bool) (stj : List Nat) (wr : World) : Prop :=
  crashB a (ws.drop j) (l.drop j) t stj = X ∧ stj.length = a * b ∧ (∀ x ∈ stj, x < 256) ∧ DkS wr base B S a b (.slice A ws.length cap) ws armed stj ∧ Kq.Keeps (· = S) w wr ∧ CwAt wr LA l
theorem crel_step {base B S a b cap : Nat} {A LA : Option Addr} {ws : List (Int × ByteArray)} {l : List (Bool × Int)} {armed : Int} {w wr wb w5 : World} {X : List Nat} {j : Nat} {t T : Bool} {stj st5 : List Nat}
    (h : CrRel base B S a b cap A LA ws l armed w X j t stj wr) (hb : Below wr.heap.size wr wb) (hk : Kq.Keeps (· = S) wb w5) (hcs : 0 < l.length → ∀ g o, LA = some ⟨g, o, none⟩ → g ≠ S)
    (hd : DkS w5 base B S a b (.slice A ws.length cap) ws armed st5) (hX : crashB a (ws.drop j) (l.drop j) t stj = crashB a (ws.drop (j + 1)) (l.drop (j + 1)) T st5) (hlt : ∀ x ∈ st5, x < 256) (hlen : st5.length = a * b) :
    CrRel base B S a b cap A LA ws l armed w X (j + 1) T st5 w5 := by
  obtain ⟨h1, h2, h3, h4, h5, h6⟩ := h
  refine ⟨by rw [← hX]; exact h1, hlen, hlt, hd, ?_, ?_⟩
  · exact (h5.trans (Kq.Keeps.of_below (S := (· = S)) hb (fun j h1 h2 => absurd h1 (Nat.not_le.2 h2)))).trans hk
  · exact (h6.below hb).keeps hk hcs
theorem crel_skip {base B S a b cap : Nat} {A LA : Option Addr} {ws : List (Int × ByteArray)} {l : List (Bool × Int)} {armed : Int} {w wr wb : World} {X : List Nat} {j : Nat} {t : Bool} {stj : List Nat}
    (h : CrRel base B S a b cap A LA ws l armed w X j t stj wr) (hb : Below wr.heap.size wr wb) (hX : crashB a (ws.drop j) (l.drop j) t stj = crashB a (ws.drop (j + 1)) (l.drop (j + 1)) t stj) :
    CrRel base B S a b cap A LA ws l armed w X (j + 1) t stj wb := by
  obtain ⟨h1, h2, h3, h4, h5, h6⟩ := h
  exact ⟨by rw [← hX]; exact h1, h2, h3, h4.below hb, h5.trans (Kq.Keeps.of_below (S := (· = S)) hb (fun j h1 h2 => absurd h1 (Nat.not_le.2 h2))), h6.below hb⟩
set_option maxRecDepth 100000 in
set_option maxHeartbeats 4000000 in
theorem dk_crash (base B S a b : Nat) (buf : Value) (ws : List (Int × ByteArray)) (armed : Int) (st : List Nat) (LA : Option Addr) (lcap : Nat) (l : List (Bool × Int)) (w : World) (h : DkS w base B S a b buf ws armed st) (hw : WsOk a b ws) (hl : st.length = a * b) (hn : a * b ≤ 3000000) (ha : 0 < a) (ha2 : a ≤ 1000000)
    (hws : ws.length ≤ 1000000) (hlt : ∀ x ∈ st, x < 256) (hc : CwAt w LA l) (hcs : 0 < l.length → ∀ g o, LA = some ⟨g, o, none⟩ → g ≠ S) (hll : l.length ≤ 1000000) :
    Calls Tryz.prog 21 #[.pointer (some ⟨B, 0, none⟩), .slice LA l.length lcap] w (CrashPost w base B S a b (crashB a ws l false st)) := by
  have H := Lib.hid h
  have HW := Lib.hid (And.intro hw (And.intro hl (And.intro hn (And.intro ha ha2))))
  have HLT := Lib.hid hlt
  have HC := Lib.hid hc
  have HCS := Lib.hid hcs
  obtain ⟨A, cap, rfl⟩ := h.d.shape
  have c3 := h.d.c3
  clear h hw hl hn ha ha2 hlt hc hcs
  go_enter Tryz.func21, Tryz.ntmps21
  go_wp2
  go_loopw [4, 13] (fun tv i wr => ∃ j : Nat, ∃ t : Bool, ∃ stj : List Nat, j ≤ ws.length ∧ i = .int .i64 (j : Int) ∧ tv = .bool t ∧ CrRel base B S a b cap A LA ws l armed w (crashB a ws l false st) j t stj wr) (fun _ i _ => ws.length - (intOf i).toNat)
  case atStart => exact ⟨0, false, st, by omega, rfl, rfl, rfl, HW.out.2.1, HLT.out, H.out, Kq.Keeps.refl _ _, HC.out⟩
  case round =>
    obtain ⟨j, t, stj, hj, rfl, rfl, hR⟩ := hrel
    have HR := Lib.hid hR
    clear hR c3
    by_cases hlt : j < ws.length
    · obtain ⟨g, cap', hbuf, hat⟩ := HR.out.2.2.2.1.d.at (by omega)
      obtain ⟨w0, w2⟩ := hat j hlt
      clear hat
      injection hbuf with hA _ hcap
      subst hA
      clear hcap
      obtain ⟨k0, k1, k2⟩ := HW.out.1.at j hlt
      obtain ⟨k, hk⟩ := Int.eq_ofNat_of_zero_le k0
      rw [hk] at w0 k1
      have HK := Lib.hid (And.intro hk k2)
      have hkb : k < b := by omega
      have hfit := Lib.hid (fit_mul (a := a) hkb)
      clear hk k0 k1 k2 hkb
      obtain ⟨s, hs⟩ : ∃ s, s = ws[j].2 := ⟨_, rfl⟩
      rw [← hs] at w2
      have HS := Lib.hid hs
      clear hs
      have dj : decide ((0 : Int) ≤ (j : Int)) = true := decide_eq_true (by omega)
      have DB := Lib.hid (fun q => (⟨HR.out.2.2.2.1.below (below_drewN (Kq.below_alloc wr (.cells #[.int .i64 (k : Int), .string s] 88)) q), below_drewN (Kq.below_alloc wr (.cells #[.int .i64 (k : Int), .string s] 88)) q⟩ : DkS ((wr.alloc (.cells #[.int .i64 (k : Int), .string s] 88)).drewN q) base B S a b _ ws armed stj ∧ Below wr.heap.size wr ((wr.alloc (.cells #[.int .i64 (k : Int), .string s] 88)).drewN q)))
      by_cases hjl : j < l.length
      · have dl : decide ((l.length : Int) ≤ (j : Int)) = false := decide_eq_false (by omega)
        have dl2 : decide (l.length ≤ j) = false := decide_eq_false (by omega)
        obtain ⟨lg, lo, rfl, hlg, l0, l1⟩ := HR.out.2.2.2.2.2.at_ j hjl
        cases hla : l[j].1 with
        | false =>
          rw [hla] at l0
          have HX := Lib.hid (crel_skip HR.out (Kq.below_alloc wr (.cells #[.int .i64 (k : Int), .string s] 88)) (crash_no a ws l t stj j hlt hjl hla))
          clear hla l1
          go_wp2
          go_roundw
          case rel => exact ⟨j + 1, t, stj, by omega, by go_num, rfl, HX.out⟩
          case measure => simp [intOf]; omega
        | true =>
          rw [hla] at l0
          have HLA := Lib.hid hla
          clear hla
          have c0 := HR.out.2.2.2.1.d.c0
          have hB := Kq.blk_lt HR.out.2.2.2.1.d.blk
          obtain ⟨x, hx⟩ : ∃ x, x = l[j].2 := ⟨_, rfl⟩
          rw [← hx] at l1
          have HXX := Lib.hid hx
          clear hx
          by_cases h0 : 0 < x
          · have d0 : decide ((0 : Int) < x) = true := decide_eq_true h0
            by_cases h1 : x < (a : Int)
            · have d1 : decide (x < (a : Int)) = true := decide_eq_true h1
              cases t with
              | false =>
                obtain ⟨m, rfl⟩ := Int.eq_ofNat_of_zero_le (Int.le_of_lt h0)
                have hm0 : Hid (0 < m) := Lib.hid (by omega)
                have hma : Hid (m < a) := Lib.hid (by omega)
                have HX := Lib.hid (crash_torn a ws l stj j hlt hjl HLA.out (by rw [← HXX.out]; exact h0) (by rw [← HXX.out]; exact h1))
                rw [← HXX.out, ← HS.out, HK.out.1] at HX
                have n0 : decide (0 < m) = true := decide_eq_true (by omega)
                have n1 : decide (m < a) = true := decide_eq_true (by omega)
                clear h0 h1
                go_wp2
                go_quiet (fail)
                clear d0 d1 n0 n1
                go_wp2_with fail
                refine (dk_keep base B S a b k (k * a) m s _ ws _ stj _ (DB.out _).1 rfl hm0.out (by rw [HS.out, HK.out.2]; exact Nat.le_of_lt hma.out) (by rw [HR.out.2.1]; have := hfit.out; have := hma.out; omega) (by rw [HR.out.2.1]; exact HW.out.2.2.1) (by rw [HS.out, HK.out.2]; exact HW.out.2.2.2.2)).mono ?_
                rintro x w5 ⟨rfl, D5, K5⟩
                skip
                have H5 := Lib.hid (crel_step (T := true) HR.out (DB.out _).2 K5 HCS.out D5 (by have := HX.out; exact this) (by rw [HS.out]; exact putB_lt _ _ _ (fun x hx => nl_lt _ x (List.mem_of_mem_take hx)) HR.out.2.2.1) (by rw [putB_length _ _ _ (by rw [List.length_take, nl_length, HS.out, HK.out.2, HR.out.2.1]; have := hfit.out; have := hma.out; omega)]; exact HR.out.2.1))
                clear D5 K5
                go_wp2
                go_roundw
                case rel => exact ⟨j + 1, true, _, by omega, by go_num, rfl, H5.out⟩
                case measure => simp [intOf]; omega
              | true =>
                have HX := Lib.hid (crash_whole a ws l true stj j hlt hjl HLA.out (fun h => by cases h.2.2))
                rw [← HS.out, HK.out.1] at HX
                clear h0 h1 HXX
                go_wp2
                go_quiet (fail)
                clear d0 d1
                go_wp2_with fail
                refine (dk_keep base B S a b k (k * a) a s _ ws _ stj _ (DB.out _).1 rfl HW.out.2.2.2.1 (by rw [HS.out, HK.out.2]; exact Nat.le_refl _) (by rw [HR.out.2.1]; exact hfit.out) (by rw [HR.out.2.1]; exact HW.out.2.2.1) (by rw [HS.out, HK.out.2]; exact HW.out.2.2.2.2)).mono ?_
                rintro x w5 ⟨rfl, D5, K5⟩
                rw [take_all s (by rw [HS.out, HK.out.2])] at D5
                have H5 := Lib.hid (crel_step (T := true) HR.out (DB.out _).2 K5 HCS.out D5 (by have := HX.out; exact this) (by rw [HS.out]; exact putB_lt _ _ _ (nl_lt _) HR.out.2.2.1) (by rw [putB_length _ _ _ (by rw [nl_length, HS.out, HK.out.2, HR.out.2.1]; exact hfit.out)]; exact HR.out.2.1))
                clear D5 K5
                go_wp2
                go_roundw
                case rel => exact ⟨j + 1, true, _, by omega, by go_num, rfl, H5.out⟩
                case measure => simp [intOf]; omega
            · have d1 : decide (x < (a : Int)) = false := decide_eq_false h1
              have HX := Lib.hid (crash_whole a ws l t stj j hlt hjl HLA.out (fun h => by rw [← HXX.out] at h; exact h1 h.2.1))
              rw [← HS.out, HK.out.1] at HX
              clear h0 h1 HXX
              go_wp2
              go_quiet (fail)
              clear d0 d1
              go_wp2_with fail
              refine (dk_keep base B S a b k (k * a) a s _ ws _ stj _ (DB.out _).1 rfl HW.out.2.2.2.1 (by rw [HS.out, HK.out.2]; exact Nat.le_refl _) (by rw [HR.out.2.1]; exact hfit.out) (by rw [HR.out.2.1]; exact HW.out.2.2.1) (by rw [HS.out, HK.out.2]; exact HW.out.2.2.2.2)).mono ?_
              rintro x w5 ⟨rfl, D5, K5⟩
              rw [take_all s (by rw [HS.out, HK.out.2])] at D5
              have H5 := Lib.hid (crel_step (T := t) HR.out (DB.out _).2 K5 HCS.out D5 (by have := HX.out; exact this) (by rw [HS.out]; exact putB_lt _ _ _ (nl_lt _) HR.out.2.2.1) (by rw [putB_length _ _ _ (by rw [nl_length, HS.out, HK.out.2, HR.out.2.1]; exact hfit.out)]; exact HR.out.2.1))
              clear D5 K5
              go_wp2
              go_roundw
              case rel => exact ⟨j + 1, t, _, by omega, by go_num, rfl, H5.out⟩
              case measure => simp [intOf]; omega
          · have d0 : decide ((0 : Int) < x) = false := decide_eq_false h0
            have HX := Lib.hid (crash_whole a ws l t stj j hlt hjl HLA.out (fun h => by rw [← HXX.out] at h; exact h0 h.1))
            rw [← HS.out, HK.out.1] at HX
            clear h0 HXX
            go_wp2
            go_quiet (fail)
            clear d0
            go_wp2_with fail
            refine (dk_keep base B S a b k (k * a) a s _ ws _ stj _ (DB.out _).1 rfl HW.out.2.2.2.1 (by rw [HS.out, HK.out.2]; exact Nat.le_refl _) (by rw [HR.out.2.1]; exact hfit.out) (by rw [HR.out.2.1]; exact HW.out.2.2.1) (by rw [HS.out, HK.out.2]; exact HW.out.2.2.2.2)).mono ?_
            rintro x w5 ⟨rfl, D5, K5⟩
            rw [take_all s (by rw [HS.out, HK.out.2])] at D5
            have H5 := Lib.hid (crel_step (T := t) HR.out (DB.out _).2 K5 HCS.out D5 (by have := HX.out; exact this) (by rw [HS.out]; exact putB_lt _ _ _ (nl_lt _) HR.out.2.2.1) (by rw [putB_length _ _ _ (by rw [nl_length, HS.out, HK.out.2, HR.out.2.1]; exact hfit.out)]; exact HR.out.2.1))
            clear D5 K5
            go_wp2
            go_roundw
            case rel => exact ⟨j + 1, t, _, by omega, by go_num, rfl, H5.out⟩
            case measure => simp [intOf]; omega
      · have dl : decide ((l.length : Int) ≤ (j : Int)) = true := decide_eq_true (by omega)
        have dl2 : decide (l.length ≤ j) = true := decide_eq_true (by omega)
        have HX := Lib.hid (crel_skip HR.out (Kq.below_alloc wr (.cells #[.int .i64 (k : Int), .string s] 88)) ((crash_past a ws l t stj j (by omega)).trans (crash_past a ws l t stj (j + 1) (by omega)).symm))
        clear hjl
        go_wp2
        go_roundw
        case rel => exact ⟨j + 1, t, stj, by omega, by go_num, rfl, HX.out⟩
        case measure => simp [intOf]; omega
    · have hk' : j = ws.length := Nat.le_antisymm hj (Nat.not_lt.1 hlt)
      subst hk'
      have hX := HR.out.1
      rw [List.drop_length] at hX
      have HX : Hid (crashB a ws l false st = stj) := Lib.hid hX.symm
      clear hX
      have k3 := HR.out.2.2.2.1.d.c3
      have k4 := HR.out.2.2.2.1.d.c4
      have f3 := HR.out.2.2.2.1.d.fz 3
      have f4 := HR.out.2.2.2.1.d.fz 4
      have HE := Lib.hid (HR.out.2.2.2.1.empty.setArmed 0)
      go_wp2
      go_end0
      refine ⟨rfl, ?_, ?_⟩
      · rw [HX.out]; exact HE.out.1
      · exact ((HR.out.2.2.2.2.1.mono (fun k _ h => Or.inr h)).trans (Kq.Keeps.setCell (S := fun j => j = B ∨ j = S) wr ⟨B, 3, none⟩ (.slice none 0 0) (Or.inl rfl))).trans (HE.out.2.mono (fun k _ h => Or.inl h))
end Go.Proofs.YtbpgfhcecanikaaGreat
