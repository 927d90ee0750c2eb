/- Contracts of a disk's fails, Flush. Condition: writes that may be, sizes. -/
import Derived.WalkSpells
import Derived.Test.YtcnoakngnjbkiaaDkKeep
namespace Go.Proofs.Ytcnoakngnjbkiaa
open Go.RowKit
set_option linter.unusedVariables false
theorem DkS.setArmed {w : World} {base B S a b : Nat} {buf : Value} {ws : List (Int × ByteArray)} {armed : Int} {st : List Nat} (h : DkS w base B S a b buf ws armed st) (n : Int) :
    DkS (w.setCell ⟨B, 4, none⟩ (.int .i64 n)) base B S a b buf ws n st ∧ Kq.Keeps (· = B) w (w.setCell ⟨B, 4, none⟩ (.int .i64 n)) := by
  refine ⟨⟨⟨Kq.blk_set h.d.blk 4 _, ?_, h.d.ne, by simpa [World.setCell] using h.d.base, h.d.sb, by simpa [World.setCell] using h.d.sl⟩, ?_⟩, Kq.Keeps.setCell _ _ _ rfl⟩
  · obtain ⟨h1, h2⟩ := h.d.own
    refine ⟨h1, h2.imp id ?_⟩
    rintro ⟨g, cap, cur, rfl, h3, h4, h5⟩
    exact ⟨g, cap, cur, rfl, h3, by rw [Below.heap_setCell _ _ _ _ (h.d.ne g rfl).1]; exact h4, h5⟩
  · unfold StB
    rw [Below.heap_setCell _ _ _ _ h.d.sb]
    exact h.s
def FailsPost (w : World) (base B S a b : Nat) (buf : Value) (ws : List (Int × ByteArray)) (armed : Nat) (st : List Nat) (r : Bool) (x : Ending) (w' : World) : Prop :=
  x = .returned (.bool r) ∧ DkS w' base B S a b buf ws ((armed - 1 : Nat) : Int) st ∧ Kq.Keeps (· = B) w w'
set_option maxRecDepth 100000 in
theorem dk_fails_any (base B S a b : Nat) (buf : Value) (ws : List (Int × ByteArray)) (armed : Nat) (st : List Nat) (w : World) (h : DkS w base B S a b buf ws (armed : Int) st) (ha : armed ≤ 9223372036854775807) :
    Calls Try.prog 32 #[.pointer (some ⟨B, 0, none⟩)] w (FailsPost w base B S a b buf ws armed st (decide (armed = 1))) := by
  rcases armed with _ | armed
  · refine (dk_fails0 B w h.d.c4).mono ?_
    rintro x w' ⟨rfl, rfl⟩
    exact ⟨rfl, h, Kq.Keeps.refl _ _⟩
  · have c4 := h.d.c4
    have f4 := h.d.fz 4
    have HP := Lib.hid (h.setArmed (armed : Int))
    have d0 : (((armed + 1 : Nat) : Int) == 0) = false := by simp; omega
    have d1 : (((armed : Nat) : Int) == 0) = decide (armed + 1 = 1) := by rw [Bool.eq_iff_iff]; simp
    have hs : wrap64 (((armed + 1 : Nat) : Int) - 1) = (armed : Int) := by rw [IntWalk.wrap64_in _ (by omega)]; omega
    have hs2 : IntKind.i64.wrap (((armed + 1 : Nat) : Int) - 1) = (armed : Int) := by rw [IntWalk.i64_in _ (by omega)]; omega
    clear h
    generalize ((armed + 1 : Nat) : Int) = A at *
    generalize hq : decide (armed + 1 = 1) = q at *
    clear hq
    go_enter Try.func32, Try.ntmps32
    go_wp2
    go_ret
    exact ⟨rfl, HP.out.1, HP.out.2⟩
theorem DkB.shape {w : World} {base B S : Nat} {a b : Int} {n : Nat} {buf : Value} {ws : List (Int × ByteArray)} {armed : Int} (h : DkB w base B S a b n buf ws armed) : ∃ A cap, buf = .slice A ws.length cap := by
  rcases h.own.2 with ⟨rfl, hx⟩ | ⟨g, cap, cur, rfl, _⟩
  · exact ⟨none, 0, by rw [hx]⟩
  · exact ⟨_, _, rfl⟩
def FlushPost (w : World) (base B S a b : Nat) (armed : Nat) (st : List Nat) (x : Ending) (w' : World) : Prop :=
  x = .returned (.int .i64 0) ∧ DkS w' base B S a b (.slice none 0 0) [] ((armed - 1 : Nat) : Int) st ∧ Kq.Keeps (fun j => j = B ∨ j = S) w w'
theorem DkS.empty {w : World} {base B S a b : Nat} {buf : Value} {ws : List (Int × ByteArray)} {armed : Int} {st : List Nat} (h : DkS w base B S a b buf ws armed st) :
    DkS (w.setCell ⟨B, 3, none⟩ (.slice none 0 0)) base B S a b (.slice none 0 0) [] armed st := by
  refine ⟨⟨Kq.blk_set h.d.blk 3 _, World.ownsRow_nil _ _ _ _, (fun k hk => by cases hk), by simpa [World.setCell] using h.d.base, h.d.sb, by simpa [World.setCell] using h.d.sl⟩, ?_⟩
  unfold StB
  rw [Below.heap_setCell _ _ _ _ h.d.sb]
  exact h.s
theorem flush_drop (a : Nat) (ws : List (Int × ByteArray)) (st : List Nat) (j : Nat) (h : j < ws.length) : flushB a (ws.drop j) st = flushB a (ws.drop (j + 1)) (putB (ws[j].1.toNat * a) (nl ws[j].2) st) := by
  rw [List.drop_eq_getElem_cons h]; rfl
theorem take_all (s : ByteArray) {a : Nat} (h : s.size = a) : (nl s).take a = nl s := List.take_of_length_le (by rw [nl_length]; omega)
set_option maxRecDepth 100000 in
set_option maxHeartbeats 2000000 in
theorem dk_flush_bad (base B S a b : Nat) (buf : Value) (ws : List (Int × ByteArray)) (st : List Nat) (w : World) (h : DkS w base B S a b buf ws ((1 : Nat) : Int) st) :
    Calls Try.prog 23 #[.pointer (some ⟨B, 0, none⟩)] w fun x w' => x = .returned (.int .i64 13) ∧ DkS w' base B S a b buf ws ((0 : Nat) : Int) st ∧ Kq.Keeps (· = B) w w' := by
  have H := Lib.hid h
  clear h
  go_enter Try.func23, Try.ntmps23
  go_wp2_with fail
  refine (dk_fails_any base B S a b buf ws 1 st _ H.out (by omega)).mono ?_
  rintro x w1 ⟨rfl, D1, K1⟩
  have H1 := Lib.hid (And.intro D1 K1)
  clear D1 K1
  go_wp2
  go_ret
  exact ⟨rfl, H1.out.1, H1.out.2⟩
set_option maxRecDepth 100000 in
set_option maxHeartbeats 2000000 in
theorem dk_flush_ok (base B S a b : Nat) (buf : Value) (ws : List (Int × ByteArray)) (armed : Nat) (st : List Nat) (w : World) (h : DkS w base B S a b buf ws (armed : Int) st) (hw : WsOk a b ws) (hl : st.length = a * b) (hn : a * b ≤ 3000000) (ha : 0 < a) (ha2 : a ≤ 1000000)
    (hws : ws.length ≤ 1000000) (har : armed ≠ 1) (har2 : armed ≤ 9223372036854775807) (hlt : ∀ x ∈ st, x < 256) :
    Calls Try.prog 23 #[.pointer (some ⟨B, 0, none⟩)] w (FlushPost w base B S a b armed (flushB a ws st)) := by
  have H := Lib.hid h
  have HW := Lib.hid (And.intro hw (And.intro hl (And.intro hn (And.intro ha ha2))))
  have HLT := Lib.hid hlt
  have HF : Hid (decide (armed = 1) = false) := Lib.hid (decide_eq_false har)
  have HAR := Lib.hid har2
  obtain ⟨A, cap, rfl⟩ := h.d.shape
  clear h hw hl hn ha ha2 har har2 hlt
  go_enter Try.func23, Try.ntmps23
  go_wp2_with fail
  refine (dk_fails_any base B S a b _ ws armed st _ H.out HAR.out).mono ?_
  rw [HF.out]
  rintro x w1 ⟨rfl, D1, K1⟩
  have c3 := D1.d.c3
  have H1 := Lib.hid (And.intro D1 K1)
  clear D1 K1
  go_wp2
  go_loopw [12] (fun i wr => ∃ j : Nat, ∃ stj : List Nat, j ≤ ws.length ∧ i = .int .i64 (j : Int) ∧ flushB a (ws.drop j) stj = flushB a ws st ∧ stj.length = a * b ∧ (∀ x ∈ stj, x < 256) ∧ DkS wr base B S a b (.slice A ws.length cap) ws ((armed - 1 : Nat) : Int) stj ∧ Kq.Keeps (· = S) w1 wr) (fun i _ => ws.length - (intOf i).toNat)
  case atStart => exact ⟨0, st, by omega, rfl, rfl, HW.out.2.1, HLT.out, H1.out.1, Kq.Keeps.refl _ _⟩
  case round =>
    obtain ⟨j, stj, hj, rfl, hfl, hlj, hltj, hd, hk⟩ := hrel
    have HD := Lib.hid (And.intro hd (And.intro hk (And.intro hlj hltj)))
    have HFL := Lib.hid hfl
    clear hd hk hlj hltj hfl c3
    by_cases hlt : j < ws.length
    · obtain ⟨g, cap', hbuf, hat⟩ := HD.out.1.d.at (by omega)
      obtain ⟨w0, w2⟩ := hat j hlt
      clear hat
      injection hbuf with hA _ hcap
      subst hA
      clear hcap
      obtain ⟨k0, k1, k2⟩ := HW.out.1.at j hlt
      have HFD := Lib.hid (flush_drop a ws stj j hlt)
      obtain ⟨k, hk⟩ := Int.eq_ofNat_of_zero_le k0
      rw [hk] at w0 k1
      have HK := Lib.hid (And.intro hk k2)
      have hkb : k < b := by omega
      have hfit := Lib.hid (fit_mul (a := a) hkb)
      clear hk k0 k1 k2 hkb
      obtain ⟨s, hs⟩ : ∃ s, s = ws[j].2 := ⟨_, rfl⟩
      rw [← hs] at w2
      have HS := Lib.hid hs
      clear hs
      go_wp2
      obtain ⟨wb, hwb⟩ : ∃ z, z = wr.alloc (.cells #[.int .i64 (k : Int), .string s] 68) := ⟨_, rfl⟩
      rw [← hwb]
      have hbw : Below wr.heap.size wr wb := by rw [hwb]; exact Kq.below_alloc _ _
      have q0 : wb.cell? ⟨wr.heap.size, 0, none⟩ = some (.int .i64 (k : Int)) := by rw [hwb]; exact Kq.blk_cell (Kq.blk_new _ _ _ _) 0
      have q1 : wb.cell? ⟨wr.heap.size, 1, none⟩ = some (.string s) := by rw [hwb]; exact Kq.blk_cell (Kq.blk_new _ _ _ _) 1
      have DB := Lib.hid (And.intro (HD.out.1.below hbw).drew (hbw.drew))
      have c0 : wb.cell? ⟨B, 0, none⟩ = some (.int .i64 a) := (HD.out.1.below hbw).d.c0
      clear hwb hbw w0 w2
      go_still_tail 7, (by kernel_rfl)
      change wpList _ _ _ _ _ wb.drew
      clear q0 q1 c0
      go_wp2_with fail
      refine (dk_keep base B S a b k (k * a) a s _ ws _ stj _ DB.out.1 rfl HW.out.2.2.2.1 (by rw [HS.out, HK.out.2]; exact Nat.le_refl _) (by rw [HD.out.2.2.1]; exact hfit.out) (by rw [HD.out.2.2.1]; exact HW.out.2.2.1) (by rw [HS.out, HK.out.2]; exact HW.out.2.2.2.2)).mono ?_
      rintro x w5 ⟨rfl, D5, K5⟩
      rw [take_all s (by rw [HS.out, HK.out.2])] at D5
      have H5 := Lib.hid (And.intro D5 ((HD.out.2.1.trans (Kq.Keeps.of_below (S := (· = S)) DB.out.2 (fun j h1 h2 => absurd h1 (Nat.not_le.2 h2)))).trans K5))
      clear D5 K5
      go_wp2
      go_roundw
      case rel =>
        refine ⟨j + 1, putB (k * a) (nl s) stj, by omega, by go_num, ?_, ?_, ?_, H5.out.1, H5.out.2⟩
        · rw [← HFL.out, HFD.out, HK.out.1, HS.out]; rfl
        · rw [putB_length _ _ _ (by rw [nl_length, HS.out, HK.out.2, HD.out.2.2.1]; exact hfit.out)]; exact HD.out.2.2.1
        · exact putB_lt _ _ _ (nl_lt s) HD.out.2.2.2
      case measure => simp [intOf]; omega
    · have hk' : j = ws.length := Nat.le_antisymm hj (Nat.not_lt.1 hlt)
      subst hk'
      rw [List.drop_length] at HFL
      have k3 := HD.out.1.d.c3
      have f3 := HD.out.1.d.fz 3
      go_wp2
      go_ret
      refine ⟨rfl, ?_, ?_⟩
      · have e : flushB a ws st = stj := HFL.out.symm
        rw [e]
        exact HD.out.1.empty
      · exact ((H1.out.2.mono (fun k _ h => Or.inl h)).trans (HD.out.2.1.mono (fun k _ h => Or.inr h))).trans (Kq.Keeps.setCell _ _ _ (Or.inl rfl))
end Go.Proofs.Ytcnoakngnjbkiaa
