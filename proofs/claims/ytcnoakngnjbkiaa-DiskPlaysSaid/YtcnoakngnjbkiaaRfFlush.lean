/- Contracts of the reference's disk: Flush, Read. Condition: sizes. -/
import Derived.WalkSpells
import Derived.Outline
import Derived.StillTailTactics
import Derived.Deep.QuietTactic
import Derived.BigQuiet
import Derived.Test.YtcnoakngnjbkiaaRfPut
namespace Go.Proofs.Ytcnoakngnjbkiaa
open Go.RowKit
set_option linter.unusedVariables false
section
variable {w : World} {base R a b : Nat} {buf : Value} {ws : List (Int × ByteArray)} {armed : Int} {st : List Nat} (h : RfS w base R a b buf ws armed st)
include h
theorem RfS.shape : ∃ A cap, buf = .slice A ws.length cap := by
  rcases h.own.2 with ⟨rfl, h0⟩ | ⟨g, cap, cur, rfl, _⟩
  · exact ⟨none, 0, by rw [h0]⟩
  · exact ⟨_, cap, rfl⟩
theorem RfS.at (h0 : 0 < ws.length) : ∃ g cap, buf = .slice (some ⟨g, 0, none⟩) ws.length cap ∧ ∀ j (hj : j < ws.length), w.cell? ⟨g, j * 2, none⟩ = some (.int .i64 ws[j].1) ∧ w.cell? ⟨g, j * 2 + 1, none⟩ = some (.string ws[j].2) := by
  obtain ⟨hl, h2⟩ := h.own
  rcases h2 with ⟨_, hx⟩ | ⟨g, cap, cur, rfl, _, hb, _, _, _, ht⟩
  · omega
  · refine ⟨g, cap, rfl, fun j hj => ?_⟩
    have key : ∀ i, i < ws.length * 2 → w.cell? ⟨g, i, none⟩ = (wcells ws)[i]? := fun i hi => by
      rw [Kq.blk_cell hb i, ← ht, List.getElem?_take, if_pos hi, Array.getElem?_toList]
    obtain ⟨w1, w2⟩ := wcells_at ws j hj
    exact ⟨by rw [key _ (by omega), w1], by rw [key _ (by omega), w2]⟩
theorem RfS.empty : RfS (w.setCell ⟨R, 3, none⟩ (.slice none 0 0)) base R a b (.slice none 0 0) [] armed st ∧ Kq.Keeps (· = R) w (w.setCell ⟨R, 3, none⟩ (.slice none 0 0)) :=
  ⟨⟨Kq.blk_set h.blk 3 _, World.ownsRow_nil _ _ _ _, (fun k hk => by cases hk), by simpa [World.setCell] using h.base⟩, Kq.Keeps.setCell _ _ _ rfl⟩
end
set_option maxRecDepth 100000 in
theorem rf_flush_bad (base R a b : Nat) (buf : Value) (ws : List (Int × ByteArray)) (st : List Nat) (w : World) (h : RfS w base R a b buf ws ((1 : Nat) : Int) st) :
    Calls Try.prog 28 #[.pointer (some ⟨R, 0, none⟩)] w fun x w' => x = .returned (.int .i64 13) ∧ RfS w' base R a b buf ws ((0 : Nat) : Int) st ∧ Kq.Keeps (· = R) w w' := by
  have H := Lib.hid h
  clear h
  go_enter Try.func28, Try.ntmps28
  go_wp2_with fail
  refine (rf_fails base R a b buf ws 1 st _ H.out (by omega)).mono ?_
  rintro x w1 ⟨rfl, D1, K1⟩
  have H1 := Lib.hid (And.intro D1 K1)
  clear D1 K1
  go_wp2
  go_ret
  exact ⟨rfl, H1.out.1, H1.out.2⟩
set_option maxRecDepth 100000 in
set_option maxHeartbeats 2000000 in
theorem rf_flush_ok (base R a b : Nat) (buf : Value) (ws : List (Int × ByteArray)) (armed : Nat) (st : List Nat) (w : World) (h : RfS w base R a b buf ws (armed : Int) st) (hw : WsOk a b ws) (hl : st.length = a * b) (hn : a * b ≤ 3000000)
    (hws : ws.length ≤ 1000000) (har : armed ≠ 1) (har2 : armed ≤ 9223372036854775807) (hlt : ∀ x ∈ st, x < 256) :
    Calls Try.prog 28 #[.pointer (some ⟨R, 0, none⟩)] w fun x w' => x = .returned (.int .i64 0) ∧ RfS w' base R a b (.slice none 0 0) [] ((armed - 1 : Nat) : Int) (flushB a ws st) ∧ Kq.Keeps (· = R) w w' := by
  have H := Lib.hid h
  have HW := Lib.hid (And.intro hw (And.intro hl hn))
  have HLT := Lib.hid hlt
  have HF : Hid (decide (armed = 1) = false) := Lib.hid (decide_eq_false har)
  have HAR := Lib.hid har2
  obtain ⟨A, cap, rfl⟩ := h.shape
  clear h hw hl hn har har2 hlt
  go_enter Try.func28, Try.ntmps28
  go_wp2_with fail
  refine (rf_fails base R a b _ ws armed st _ H.out HAR.out).mono ?_
  rw [HF.out]
  rintro x w1 ⟨rfl, D1, K1⟩
  have H1 := Lib.hid (And.intro D1 K1)
  clear D1 K1
  go_wp2
  go_loopw [3] (fun i wr => ∃ j : Nat, ∃ stj : List Nat, j ≤ ws.length ∧ i = .int .i64 (j : Int) ∧ flushB a (ws.drop j) stj = flushB a ws st ∧ stj.length = a * b ∧ (∀ x ∈ stj, x < 256) ∧ RfS wr base R a b (.slice A ws.length cap) ws ((armed - 1 : Nat) : Int) stj ∧ Kq.Keeps (· = R) w1 wr) (fun i _ => ws.length - (intOf i).toNat)
  case atStart => exact ⟨0, st, by omega, rfl, rfl, HW.out.2.1, HLT.out, H1.out.1, Kq.Keeps.refl _ _⟩
  case round =>
    obtain ⟨j, stj, hj, rfl, hfl, hlj, hltj, hd, hk⟩ := hrel
    have HD := Lib.hid (And.intro hd (And.intro hk (And.intro hlj hltj)))
    have HFL := Lib.hid hfl
    have c3 := hd.c3
    clear hd hk hlj hltj hfl
    by_cases hlt : j < ws.length
    · obtain ⟨g, cap', hbuf, hat⟩ := HD.out.1.at (by omega)
      obtain ⟨w0, w2⟩ := hat j hlt
      clear hat
      injection hbuf with hA _ hcap
      subst hA
      clear hcap
      obtain ⟨k0, k1, k2⟩ := HW.out.1.at j hlt
      have HFD := Lib.hid (flush_drop a ws stj j hlt)
      obtain ⟨k, hk⟩ := Int.eq_ofNat_of_zero_le k0
      rw [hk] at w0 k1
      have HK := Lib.hid (And.intro hk k2)
      have hkb : k < b := by omega
      have hfit := Lib.hid (fit_mul (a := a) hkb)
      clear hk k0 k1 k2 hkb
      obtain ⟨s, hs⟩ : ∃ s, s = ws[j].2 := ⟨_, rfl⟩
      rw [← hs] at w2
      have HS := Lib.hid hs
      clear hs
      go_wp2
      go_still_tail 17, (by kernel_rfl)
      change wpList _ _ _ _ _ wr.drew
      go_wp2_with fail
      refine (rf_put base R a b k (k * a) s _ ws _ stj _ HD.out.1.drew rfl (by rw [HS.out, HK.out.2, HD.out.2.2.1]; exact hfit.out) (by rw [HD.out.2.2.1]; exact HW.out.2.2) HD.out.2.2.2).mono ?_
      rintro x w5 ⟨rfl, D5, K5⟩
      have H5 := Lib.hid (And.intro D5 ((HD.out.2.1.trans (Kq.Keeps.refl _ _).drew).trans K5))
      clear D5 K5 w0 w2 c3
      go_wp2
      go_roundw
      case rel =>
        refine ⟨j + 1, putB (k * a) (nl s) stj, by omega, by go_num, ?_, ?_, ?_, H5.out.1, H5.out.2⟩
        · rw [← HFL.out, HFD.out, HK.out.1, HS.out]; rfl
        · rw [putB_length _ _ _ (by rw [nl_length, HS.out, HK.out.2, HD.out.2.2.1]; exact hfit.out)]; exact HD.out.2.2.1
        · exact putB_lt _ _ _ (nl_lt s) HD.out.2.2.2
      case measure => simp [intOf]; omega
    · have hk' : j = ws.length := Nat.le_antisymm hj (Nat.not_lt.1 hlt)
      subst hk'
      rw [List.drop_length] at HFL
      have f3 := HD.out.1.fz 3
      go_wp2
      go_ret
      have e : flushB a ws st = stj := HFL.out.symm
      rw [e]
      exact ⟨rfl, HD.out.1.empty.1, (H1.out.2.trans HD.out.2.1).trans HD.out.1.empty.2⟩
set_option maxRecDepth 100000 in
set_option maxHeartbeats 1000000 in
theorem rf_read_range (base R a b : Nat) (buf : Value) (ws : List (Int × ByteArray)) (armed k : Int) (st : List Nat) (w : World) (h : RfS w base R a b buf ws armed st) (hk : ¬ (0 ≤ k ∧ k < (b : Int))) :
    Calls Try.prog 21 #[.pointer (some ⟨R, 0, none⟩), .int .i64 k] w fun x w' => x = .returned (.tuple #[.string ⟨#[]⟩, .int .i64 1]) ∧ Below w.heap.size w w' := by
  have c1 := h.c1
  clear h
  by_cases h0 : 0 ≤ k
  · have d1 : decide (k < 0) = false := decide_eq_false (by omega)
    have d2 : decide ((b : Int) ≤ k) = true := decide_eq_true (by omega)
    clear hk h0
    go_enter Try.func21, Try.ntmps21
    go_wp2
    go_ret2
    exact ⟨rfl, Below.refl _ _⟩
  · have d1 : decide (k < 0) = true := decide_eq_true (by omega)
    clear hk h0
    go_enter Try.func21, Try.ntmps21
    go_wp2
    go_ret2
    exact ⟨rfl, Below.refl _ _⟩
end Go.Proofs.Ytcnoakngnjbkiaa
