/- Merged: RfPut, RfFlush, RfCrash. Contracts of the reference's disk: put, Flush. Condition: sizes. Contracts of the reference's disk: Flush, Read. Condition: sizes. Contract of the reference's disk: Crash. Condition: writes that may be, sizes. -/
import Derived.WalkSpells
import Derived.Outline
import Derived.StillTailTactics
import Derived.Test.YtbpgfhcecanikaaGreatRfNewQ
import Derived.Deep.QuietTactic
import Derived.BigQuiet
namespace Go.Proofs.YtbpgfhcecanikaaGreat
open Go.RowKit
set_option linter.unusedVariables false
theorem txt_put (st : List Nat) (p : Nat) (s : ByteArray) (hlt : ∀ x ∈ st, x < 256) (h : p + s.size ≤ st.length) : (txt st).extract 0 p ++ s ++ (txt st).extract (p + s.size) st.length = txt (putB p (nl s) st) := by
  apply nl_inj
  rw [nl_append, nl_append, nl_extract, nl_extract, nl_txt _ hlt, nl_txt _ (putB_lt _ _ _ (nl_lt s) hlt)]
  unfold putB
  rw [nl_length, List.drop_zero, Nat.sub_zero, List.take_of_length_le (l := st.drop _) (by rw [List.length_drop]; omega)]
theorem RfS.setStable {w : World} {base R a b : Nat} {buf : Value} {ws : List (Int × ByteArray)} {armed : Int} {st : List Nat} (h : RfS w base R a b buf ws armed st) (st' : List Nat) : RfS (w.setCell ⟨R, 2, none⟩ (.string (txt st'))) base R a b buf ws armed st' ∧ Kq.Keeps (· = R) w (w.setCell ⟨R, 2, none⟩ (.string (txt st'))) := by
  refine ⟨⟨Kq.blk_set h.blk 2 _, ?_, h.ne, by simpa [World.setCell] using h.base⟩, Kq.Keeps.setCell _ _ _ rfl⟩
  obtain ⟨h1, h2⟩ := h.own
  refine ⟨h1, h2.imp id ?_⟩
  rintro ⟨g, cap, cur, hv, h3, h4, h5⟩
  exact ⟨g, cap, cur, hv, h3, by rw [Below.heap_setCell _ _ _ _ (h.ne g (by rw [hv]; rfl))]; exact h4, h5⟩
theorem RfS.drew {w : World} {base R a b : Nat} {buf : Value} {ws : List (Int × ByteArray)} {armed : Int} {st : List Nat} (h : RfS w base R a b buf ws armed st) : RfS w.drew base R a b buf ws armed st := h.below (Below.refl _ _).drew
def RputP (w : World) (base R a b : Nat) (buf : Value) (ws : List (Int × ByteArray)) (armed : Int) (st : List Nat) (x : Ending) (w' : World) : Prop :=
  x = .returned (.tuple #[]) ∧ RfS w' base R a b buf ws armed st ∧ Kq.Keeps (· = R) w w'
set_option maxRecDepth 100000 in
set_option maxHeartbeats 1000000 in
theorem rf_put (base R a b k p : Nat) (s : ByteArray) (buf : Value) (ws : List (Int × ByteArray)) (armed : Int) (st : List Nat) (w : World) (h : RfS w base R a b buf ws armed st)
    (hp : k * a = p) (hfit : p + s.size ≤ st.length) (hs : st.length ≤ 3000000) (hlt : ∀ x ∈ st, x < 256) :
    Calls Tryz.prog 61 #[.pointer (some ⟨R, 0, none⟩), .int .i64 (k : Int), .string s] w (RputP w base R a b buf ws armed (putB p (nl s) st)) := by
  have hmul : wrap64 ((k : Int) * (a : Int)) = (p : Int) := by
    rw [← Int.natCast_mul, hp]; exact IntWalk.wrap64_in _ (by omega)
  have hadd : wrap64 ((p : Int) + (s.size : Int)) = ((p + s.size : Nat) : Int) := by rw [IntWalk.wrap64_in _ (by omega)]; omega
  have htx := txt_put st p s hlt hfit
  have H1 := Lib.hid (h.drew.setStable (putB p (nl s) st))
  have HB := Lib.hid ((Kq.Keeps.refl (· = R) w).drew)
  have c0 := h.c0
  have c2 := h.c2
  have f2 := h.drew.fz 2
  have hsz : (txt st).size = st.length := txt_size st
  rw [← hsz] at htx
  have hle1 : (p : Int) ≤ ((txt st).size : Int) := by omega
  have hle2 : ((p + s.size : Nat) : Int) ≤ ((txt st).size : Int) := by omega
  have hle3 : p ≤ (txt st).size := by omega
  have hle4 : p + s.size ≤ (txt st).size := by omega
  have hb1 : ¬ 9223372036854775807 < ((txt st).extract 0 p).size + s.size := by simp; omega
  have hb2 : ¬ 9223372036854775807 < ((txt st).extract 0 p ++ s).size + ((txt st).extract (p + s.size) (txt st).size).size := by simp; omega
  have hw1 : IntKind.i64.wrap ((p : Int) + (s.size : Int)) = ((p + s.size : Nat) : Int) := by rw [IntWalk.i64_in _ (by omega)]; omega
  clear h hp hfit hsz hlt hs hadd
  generalize txt st = T at *
  generalize p + s.size = m at *
  generalize hX1 : T.extract 0 p = X1 at *
  generalize hX2 : T.extract m T.size = X2 at *
  have hb3 : ¬ 9223372036854775807 < X1.size + s.size + X2.size := by rw [ByteArray.size_append] at hb2; exact hb2
  generalize hZ : txt (putB p (nl s) st) = Z at *
  clear hZ
  go_enter Tryz.func61, Tryz.ntmps61
  go_wp2
  go_still_tail 21, (by kernel_rfl)
  change wpList _ _ _ _ _ w.drew
  go_wp2
  go_end0
  exact ⟨rfl, H1.out.1, HB.out.trans H1.out.2⟩
end Go.Proofs.YtbpgfhcecanikaaGreat
namespace Go.Proofs.YtbpgfhcecanikaaGreat
open Go.RowKit
set_option linter.unusedVariables false
section
variable {w : World} {base R a b : Nat} {buf : Value} {ws : List (Int × ByteArray)} {armed : Int} {st : List Nat} (h : RfS w base R a b buf ws armed st)
include h
theorem RfS.shape : ∃ A cap, buf = .slice A ws.length cap := by
  rcases h.own.2 with ⟨rfl, h0⟩ | ⟨g, cap, cur, rfl, _⟩
  · exact ⟨none, 0, by rw [h0]⟩
  · exact ⟨_, cap, rfl⟩
theorem RfS.at (h0 : 0 < ws.length) : ∃ g cap, buf = .slice (some ⟨g, 0, none⟩) ws.length cap ∧ ∀ j (hj : j < ws.length), w.cell? ⟨g, j * 2, none⟩ = some (.int .i64 ws[j].1) ∧ w.cell? ⟨g, j * 2 + 1, none⟩ = some (.string ws[j].2) := by
  obtain ⟨hl, h2⟩ := h.own
  rcases h2 with ⟨_, hx⟩ | ⟨g, cap, cur, rfl, _, hb, _, _, _, ht⟩
  · omega
  · refine ⟨g, cap, rfl, fun j hj => ?_⟩
    have key : ∀ i, i < ws.length * 2 → w.cell? ⟨g, i, none⟩ = (wcells ws)[i]? := fun i hi => by
      rw [Kq.blk_cell hb i, ← ht, List.getElem?_take, if_pos hi, Array.getElem?_toList]
    obtain ⟨w1, w2⟩ := wcells_at ws j hj
    exact ⟨by rw [key _ (by omega), w1], by rw [key _ (by omega), w2]⟩
theorem RfS.empty : RfS (w.setCell ⟨R, 3, none⟩ (.slice none 0 0)) base R a b (.slice none 0 0) [] armed st ∧ Kq.Keeps (· = R) w (w.setCell ⟨R, 3, none⟩ (.slice none 0 0)) :=
  ⟨⟨Kq.blk_set h.blk 3 _, World.ownsRow_nil _ _ _ _, (fun k hk => by cases hk), by simpa [World.setCell] using h.base⟩, Kq.Keeps.setCell _ _ _ rfl⟩
end
set_option maxRecDepth 100000 in
theorem rf_flush_bad (base R a b : Nat) (buf : Value) (ws : List (Int × ByteArray)) (st : List Nat) (w : World) (h : RfS w base R a b buf ws ((1 : Nat) : Int) st) :
    Calls Tryz.prog 71 #[.pointer (some ⟨R, 0, none⟩)] w fun x w' => x = .returned (.int .i64 13) ∧ RfS w' base R a b buf ws ((0 : Nat) : Int) st ∧ Kq.Keeps (· = R) w w' := by
  have H := Lib.hid h
  clear h
  go_enter Tryz.func71, Tryz.ntmps71
  go_wp2_with fail
  refine (rf_fails base R a b buf ws 1 st _ H.out (by omega)).mono ?_
  rintro x w1 ⟨rfl, D1, K1⟩
  have H1 := Lib.hid (And.intro D1 K1)
  clear D1 K1
  go_wp2
  go_ret
  exact ⟨rfl, H1.out.1, H1.out.2⟩
set_option maxRecDepth 100000 in
set_option maxHeartbeats 2000000 in
theorem rf_flush_ok (base R a b : Nat) (buf : Value) (ws : List (Int × ByteArray)) (armed : Nat) (st : List Nat) (w : World) (h : RfS w base R a b buf ws (armed : Int) st) (hw : WsOk a b ws) (hl : st.length = a * b) (hn : a * b ≤ 3000000)
    (hws : ws.length ≤ 1000000) (har : armed ≠ 1) (har2 : armed ≤ 9223372036854775807) (hlt : ∀ x ∈ st, x < 256) :
    Calls Tryz.prog 71 #[.pointer (some ⟨R, 0, none⟩)] w fun x w' => x = .returned (.int .i64 0) ∧ RfS w' base R a b (.slice none 0 0) [] ((armed - 1 : Nat) : Int) (flushB a ws st) ∧ Kq.Keeps (· = R) w w' := by
  have H := Lib.hid h
  have HW := Lib.hid (And.intro hw (And.intro hl hn))
  have HLT := Lib.hid hlt
  have HF : Hid (decide (armed = 1) = false) := Lib.hid (decide_eq_false har)
  have HAR := Lib.hid har2
  obtain ⟨A, cap, rfl⟩ := h.shape
  clear h hw hl hn har har2 hlt
  go_enter Tryz.func71, Tryz.ntmps71
  go_wp2_with fail
  refine (rf_fails base R a b _ ws armed st _ H.out HAR.out).mono ?_
  rw [HF.out]
  rintro x w1 ⟨rfl, D1, K1⟩
  have H1 := Lib.hid (And.intro D1 K1)
  clear D1 K1
  go_wp2
  go_loopw [3] (fun i wr => ∃ j : Nat, ∃ stj : List Nat, j ≤ ws.length ∧ i = .int .i64 (j : Int) ∧ flushB a (ws.drop j) stj = flushB a ws st ∧ stj.length = a * b ∧ (∀ x ∈ stj, x < 256) ∧ RfS wr base R a b (.slice A ws.length cap) ws ((armed - 1 : Nat) : Int) stj ∧ Kq.Keeps (· = R) w1 wr) (fun i _ => ws.length - (intOf i).toNat)
  case atStart => exact ⟨0, st, by omega, rfl, rfl, HW.out.2.1, HLT.out, H1.out.1, Kq.Keeps.refl _ _⟩
  case round =>
    obtain ⟨j, stj, hj, rfl, hfl, hlj, hltj, hd, hk⟩ := hrel
    have HD := Lib.hid (And.intro hd (And.intro hk (And.intro hlj hltj)))
    have HFL := Lib.hid hfl
    have c3 := hd.c3
    clear hd hk hlj hltj hfl
    by_cases hlt : j < ws.length
    · obtain ⟨g, cap', hbuf, hat⟩ := HD.out.1.at (by omega)
      obtain ⟨w0, w2⟩ := hat j hlt
      clear hat
      injection hbuf with hA _ hcap
      subst hA
      clear hcap
      obtain ⟨k0, k1, k2⟩ := HW.out.1.at j hlt
      have HFD := Lib.hid (flush_drop a ws stj j hlt)
      obtain ⟨k, hk⟩ := Int.eq_ofNat_of_zero_le k0
      rw [hk] at w0 k1
      have HK := Lib.hid (And.intro hk k2)
      have hkb : k < b := by omega
      have hfit := Lib.hid (fit_mul (a := a) hkb)
      clear hk k0 k1 k2 hkb
      obtain ⟨s, hs⟩ : ∃ s, s = ws[j].2 := ⟨_, rfl⟩
      rw [← hs] at w2
      have HS := Lib.hid hs
      clear hs
      go_wp2
      go_still_tail 17, (by kernel_rfl)
      change wpList _ _ _ _ _ wr.drew
      go_wp2_with fail
      refine (rf_put base R a b k (k * a) s _ ws _ stj _ HD.out.1.drew rfl (by rw [HS.out, HK.out.2, HD.out.2.2.1]; exact hfit.out) (by rw [HD.out.2.2.1]; exact HW.out.2.2) HD.out.2.2.2).mono ?_
      rintro x w5 ⟨rfl, D5, K5⟩
      have H5 := Lib.hid (And.intro D5 ((HD.out.2.1.trans (Kq.Keeps.refl _ _).drew).trans K5))
      clear D5 K5 w0 w2 c3
      go_wp2
      go_roundw
      case rel =>
        refine ⟨j + 1, putB (k * a) (nl s) stj, by omega, by go_num, ?_, ?_, ?_, H5.out.1, H5.out.2⟩
        · rw [← HFL.out, HFD.out, HK.out.1, HS.out]; rfl
        · rw [putB_length _ _ _ (by rw [nl_length, HS.out, HK.out.2, HD.out.2.2.1]; exact hfit.out)]; exact HD.out.2.2.1
        · exact putB_lt _ _ _ (nl_lt s) HD.out.2.2.2
      case measure => simp [intOf]; omega
    · have hk' : j = ws.length := Nat.le_antisymm hj (Nat.not_lt.1 hlt)
      subst hk'
      rw [List.drop_length] at HFL
      have f3 := HD.out.1.fz 3
      go_wp2
      go_ret
      have e : flushB a ws st = stj := HFL.out.symm
      rw [e]
      exact ⟨rfl, HD.out.1.empty.1, (H1.out.2.trans HD.out.2.1).trans HD.out.1.empty.2⟩
set_option maxRecDepth 100000 in
set_option maxHeartbeats 1000000 in
theorem rf_read_range (base R a b : Nat) (buf : Value) (ws : List (Int × ByteArray)) (armed k : Int) (st : List Nat) (w : World) (h : RfS w base R a b buf ws armed st) (hk : ¬ (0 ≤ k ∧ k < (b : Int))) :
    Calls Tryz.prog 72 #[.pointer (some ⟨R, 0, none⟩), .int .i64 k] w fun x w' => x = .returned (.tuple #[.string ⟨#[]⟩, .int .i64 1]) ∧ Below w.heap.size w w' := by
  have c1 := h.c1
  clear h
  by_cases h0 : 0 ≤ k
  · have d1 : decide (k < 0) = false := decide_eq_false (by omega)
    have d2 : decide ((b : Int) ≤ k) = true := decide_eq_true (by omega)
    clear hk h0
    go_enter Tryz.func72, Tryz.ntmps72
    go_wp2
    go_ret2
    exact ⟨rfl, Below.refl _ _⟩
  · have d1 : decide (k < 0) = true := decide_eq_true (by omega)
    clear hk h0
    go_enter Tryz.func72, Tryz.ntmps72
    go_wp2
    go_ret2
    exact ⟨rfl, Below.refl _ _⟩
end Go.Proofs.YtbpgfhcecanikaaGreat
namespace Go.Proofs.YtbpgfhcecanikaaGreat
open Go.RowKit
set_option linter.unusedVariables false
def RcRel (base R a b cap : Nat) (A LA : Option Addr) (ws : List (Int × ByteArray)) (l : List (Bool × Int)) (armed : Int) (w : World) (X : List Nat) (j : Nat) (t : Bool) (stj : List Nat) (wr : World) : Prop :=
  crashB a (ws.drop j) (l.drop j) t stj = X ∧ stj.length = a * b ∧ (∀ x ∈ stj, x < 256) ∧ RfS wr base R a b (.slice A ws.length cap) ws armed stj ∧ Kq.Keeps (· = R) w wr ∧ CwAt wr LA l
theorem rcrel_step {base R a b cap : Nat} {A LA : Option Addr} {ws : List (Int × ByteArray)} {l : List (Bool × Int)} {armed : Int} {w wr w5 : World} {X : List Nat} {j : Nat} {t T : Bool} {stj st5 : List Nat}
    (h : RcRel base R a b cap A LA ws l armed w X j t stj wr) (hk : Kq.Keeps (· = R) wr w5) (hcs : 0 < l.length → ∀ g o, LA = some ⟨g, o, none⟩ → g ≠ R)
    (hd : RfS w5 base R a b (.slice A ws.length cap) ws armed st5) (hX : crashB a (ws.drop j) (l.drop j) t stj = crashB a (ws.drop (j + 1)) (l.drop (j + 1)) T st5) (hlt : ∀ x ∈ st5, x < 256) (hlen : st5.length = a * b) :
    RcRel base R a b cap A LA ws l armed w X (j + 1) T st5 w5 := by
  obtain ⟨h1, h2, h3, h4, h5, h6⟩ := h
  exact ⟨by rw [← hX]; exact h1, hlen, hlt, hd, h5.trans hk, h6.keeps hk hcs⟩
theorem rcrel_same {base R a b cap : Nat} {A LA : Option Addr} {ws : List (Int × ByteArray)} {l : List (Bool × Int)} {armed : Int} {w wr : World} {X : List Nat} {j : Nat} {t : Bool} {stj : List Nat}
    (h : RcRel base R a b cap A LA ws l armed w X j t stj wr) (hX : crashB a (ws.drop j) (l.drop j) t stj = crashB a (ws.drop (j + 1)) (l.drop (j + 1)) t stj) :
    RcRel base R a b cap A LA ws l armed w X (j + 1) t stj wr := by
  obtain ⟨h1, h2, h3, h4, h5, h6⟩ := h
  exact ⟨by rw [← hX]; exact h1, h2, h3, h4, h5, h6⟩
theorem RcRel.drewN {base R a b cap : Nat} {A LA : Option Addr} {ws : List (Int × ByteArray)} {l : List (Bool × Int)} {armed : Int} {w wr : World} {X : List Nat} {j : Nat} {t : Bool} {stj : List Nat}
    (h : RcRel base R a b cap A LA ws l armed w X j t stj wr) (n : Nat) : RcRel base R a b cap A LA ws l armed w X j t stj (wr.drewN n) := by
  obtain ⟨h1, h2, h3, h4, h5, h6⟩ := h
  have hb : Below wr.heap.size wr (wr.drewN n) := below_drewN (Below.refl _ _) n
  exact ⟨h1, h2, h3, h4.below hb, h5.trans (Kq.Keeps.of_below hb (fun j h1 h2 => absurd h1 (Nat.not_le.2 h2))), h6.below hb⟩
set_option maxRecDepth 100000 in
set_option maxHeartbeats 4000000 in
theorem rf_crash (base R a b : Nat) (buf : Value) (ws : List (Int × ByteArray)) (armed : Int) (st : List Nat) (LA : Option Addr) (lcap : Nat) (l : List (Bool × Int)) (w : World) (h : RfS w base R a b buf ws armed st) (hw : WsOk a b ws) (hl : st.length = a * b) (hn : a * b ≤ 3000000) (ha : 0 < a) (ha2 : a ≤ 1000000)
    (hws : ws.length ≤ 1000000) (hlt : ∀ x ∈ st, x < 256) (hc : CwAt w LA l) (hcs : 0 < l.length → ∀ g o, LA = some ⟨g, o, none⟩ → g ≠ R) (hll : l.length ≤ 1000000) :
    Calls Tryz.prog 36 #[.pointer (some ⟨R, 0, none⟩), .slice LA l.length lcap] w fun x w' => x = .returned (.tuple #[]) ∧ RfS w' base R a b (.slice none 0 0) [] ((0 : Nat) : Int) (crashB a ws l false st) ∧ Kq.Keeps (· = R) w w' := by
  have H := Lib.hid h
  have HW := Lib.hid (And.intro hw (And.intro hl (And.intro hn (And.intro ha ha2))))
  have HLT := Lib.hid hlt
  have HC := Lib.hid hc
  have HCS := Lib.hid hcs
  obtain ⟨A, cap, rfl⟩ := h.shape
  obtain ⟨a1, ha1⟩ : ∃ a1, a1 = a - 1 := ⟨_, rfl⟩
  have m1 : wrap64 ((a : Int) - 1) = (a1 : Int) := by rw [IntWalk.wrap64_in _ (by omega)]; omega
  have m2 : IntKind.i64.wrap ((a : Int) - 1) = (a1 : Int) := by rw [IntWalk.i64_in _ (by omega)]; omega
  have HA1 := Lib.hid ha1
  clear h hw hl hn ha ha2 hlt hc hcs ha1
  go_enter Tryz.func36, Tryz.ntmps36
  go_wp2
  go_loopw [4, 5] (fun tv i wr => ∃ j : Nat, ∃ t : Bool, ∃ stj : List Nat, j ≤ ws.length ∧ i = .int .i64 (j : Int) ∧ tv = .bool t ∧ RcRel base R a b cap A LA ws l armed w (crashB a ws l false st) j t stj wr) (fun _ i _ => ws.length - (intOf i).toNat)
  case atStart => exact ⟨0, false, st, by omega, rfl, rfl, rfl, HW.out.2.1, HLT.out, H.out, Kq.Keeps.refl _ _, HC.out⟩
  case round =>
    obtain ⟨j, t, stj, hj, rfl, rfl, hR⟩ := hrel
    have HR := Lib.hid hR
    have c3 := hR.2.2.2.1.c3
    clear hR
    by_cases hlt : j < ws.length ∧ j < l.length
    · obtain ⟨hjw, hjl⟩ := hlt
      obtain ⟨g, cap', hbuf, hat⟩ := HR.out.2.2.2.1.at (by omega)
      obtain ⟨w0, w2⟩ := hat j hjw
      clear hat
      injection hbuf with hA _ hcap
      subst hA
      clear hcap
      obtain ⟨k0, k1, k2⟩ := HW.out.1.at j hjw
      obtain ⟨k, hk⟩ := Int.eq_ofNat_of_zero_le k0
      rw [hk] at w0 k1
      have HK := Lib.hid (And.intro hk k2)
      have hkb : k < b := by omega
      have hfit := Lib.hid (fit_mul (a := a) hkb)
      clear hk k0 k1 k2 hkb
      obtain ⟨s, hs⟩ : ∃ s, s = ws[j].2 := ⟨_, rfl⟩
      rw [← hs] at w2
      have HS := Lib.hid hs
      clear hs
      have d0 : decide (j < ws.length) = true := decide_eq_true hjw
      have d1 : decide (j < l.length) = true := decide_eq_true hjl
      have d2 : decide ((j : Int) < (ws.length : Int)) = true := decide_eq_true (by omega)
      have d3 : decide ((j : Int) < (l.length : Int)) = true := decide_eq_true (by omega)
      obtain ⟨lg, lo, rfl, hlg, l0, l1⟩ := HR.out.2.2.2.2.2.at_ j hjl
      cases hla : l[j].1 with
      | false =>
        rw [hla] at l0
        have HX := Lib.hid (rcrel_same HR.out (crash_no a ws l t stj j hjw hjl hla))
        clear hla l1
        go_wp2
        go_roundw
        case rel => exact ⟨j + 1, t, stj, by omega, by go_num, rfl, HX.out⟩
        case measure => simp [intOf]; omega
      | true =>
        rw [hla] at l0
        have HLA := Lib.hid hla
        clear hla
        have c0 := HR.out.2.2.2.1.c0
        obtain ⟨x, hx⟩ : ∃ x, x = l[j].2 := ⟨_, rfl⟩
        rw [← hx] at l1
        have HXX := Lib.hid hx
        clear hx
        cases t with
        | true =>
          have HX := Lib.hid (crash_whole a ws l true stj j hjw hjl HLA.out (fun h => by cases h.2.2))
          rw [← HS.out, HK.out.1] at HX
          clear HXX
          go_wp2
          go_quiet (fail)
          go_wp2_with fail
          refine (rf_put base R a b k (k * a) s _ ws _ stj _ (HR.out.drewN _).2.2.2.1 rfl (by rw [HR.out.2.1, HS.out, HK.out.2]; exact hfit.out) (by rw [HR.out.2.1]; exact HW.out.2.2.1) HR.out.2.2.1).mono ?_
          rintro x w5 ⟨rfl, D5, K5⟩
          have H5 := Lib.hid (rcrel_step (T := true) (HR.out.drewN _) K5 HCS.out D5 (by have := HX.out; exact this) (putB_lt _ _ _ (nl_lt _) HR.out.2.2.1) (by rw [putB_length _ _ _ (by rw [nl_length, HS.out, HK.out.2, HR.out.2.1]; exact hfit.out)]; exact HR.out.2.1))
          clear D5 K5
          go_wp2
          go_roundw
          case rel => exact ⟨j + 1, true, _, by omega, by go_num, rfl, H5.out⟩
          case measure => simp [intOf]; omega
        | false =>
          by_cases h0 : 1 ≤ x
          · have e0 : decide ((1 : Int) ≤ x) = true := decide_eq_true h0
            by_cases h1 : x ≤ (a1 : Int)
            · have e1 : decide (x ≤ (a1 : Int)) = true := decide_eq_true h1
              obtain ⟨m, rfl⟩ := Int.eq_ofNat_of_zero_le (show 0 ≤ x by omega)
              have hma : Hid (m < a ∧ m ≤ s.size) := Lib.hid (by have := HA1.out; have := HK.out.2; have := HW.out.2.2.2.1; rw [HS.out]; omega)
              have HX := Lib.hid (crash_torn a ws l stj j hjw hjl HLA.out (by rw [← HXX.out]; omega) (by rw [← HXX.out]; have := hma.out.1; omega))
              rw [← HXX.out, ← HS.out, HK.out.1] at HX
              have n0 : decide (1 ≤ m) = true := decide_eq_true (by omega)
              have n1 : decide (m ≤ a1) = true := decide_eq_true (by omega)
              have n2 : (m : Int) ≤ (s.size : Int) := by have := hma.out.2; omega
              have n3 : m ≤ s.size := hma.out.2
              clear h0 h1
              go_wp2
              go_quiet (fail)
              clear e0 e1 n0 n1
              have hnl : nl (s.extract 0 m) = (nl s).take m := by rw [nl_extract, List.drop_zero, Nat.sub_zero]
              have hsz : (s.extract 0 m).size = m := by simp; omega
              go_wp2_with fail
              refine (rf_put base R a b k (k * a) (s.extract 0 m) _ ws _ stj _ (HR.out.drewN _).2.2.2.1 rfl (by rw [hsz, HR.out.2.1]; have := hfit.out; have := hma.out; omega) (by rw [HR.out.2.1]; exact HW.out.2.2.1) HR.out.2.2.1).mono ?_
              rintro x w5 ⟨rfl, D5, K5⟩
              rw [hnl] at D5
              have H5 := Lib.hid (rcrel_step (T := true) (HR.out.drewN _) K5 HCS.out D5 (by have := HX.out; exact this) (putB_lt _ _ _ (fun x hx => nl_lt _ x (List.mem_of_mem_take hx)) HR.out.2.2.1) (by rw [putB_length _ _ _ (by rw [List.length_take, nl_length, HS.out, HK.out.2, HR.out.2.1]; have := hfit.out; have := hma.out; omega)]; exact HR.out.2.1))
              clear D5 K5
              go_wp2
              go_roundw
              case rel => exact ⟨j + 1, true, _, by omega, by go_num, rfl, H5.out⟩
              case measure => simp [intOf]; omega
            · have e1 : decide (x ≤ (a1 : Int)) = false := decide_eq_false h1
              have HX := Lib.hid (crash_whole a ws l false stj j hjw hjl HLA.out (fun h => by rw [← HXX.out] at h; have := HA1.out; have := HW.out.2.2.2.1; omega))
              rw [← HS.out, HK.out.1] at HX
              clear h0 h1 HXX
              go_wp2
              go_quiet (fail)
              go_wp2_with fail
              refine (rf_put base R a b k (k * a) s _ ws _ stj _ (HR.out.drewN _).2.2.2.1 rfl (by rw [HR.out.2.1, HS.out, HK.out.2]; exact hfit.out) (by rw [HR.out.2.1]; exact HW.out.2.2.1) HR.out.2.2.1).mono ?_
              rintro x w5 ⟨rfl, D5, K5⟩
              have H5 := Lib.hid (rcrel_step (T := false) (HR.out.drewN _) K5 HCS.out D5 (by have := HX.out; exact this) (putB_lt _ _ _ (nl_lt _) HR.out.2.2.1) (by rw [putB_length _ _ _ (by rw [nl_length, HS.out, HK.out.2, HR.out.2.1]; exact hfit.out)]; exact HR.out.2.1))
              clear D5 K5
              go_wp2
              go_roundw
              case rel => exact ⟨j + 1, false, _, by omega, by go_num, rfl, H5.out⟩
              case measure => simp [intOf]; omega
          · have e0 : decide ((1 : Int) ≤ x) = false := decide_eq_false h0
            have HX := Lib.hid (crash_whole a ws l false stj j hjw hjl HLA.out (fun h => by rw [← HXX.out] at h; omega))
            rw [← HS.out, HK.out.1] at HX
            clear h0 HXX
            go_wp2
            go_quiet (fail)
            go_wp2_with fail
            refine (rf_put base R a b k (k * a) s _ ws _ stj _ (HR.out.drewN _).2.2.2.1 rfl (by rw [HR.out.2.1, HS.out, HK.out.2]; exact hfit.out) (by rw [HR.out.2.1]; exact HW.out.2.2.1) HR.out.2.2.1).mono ?_
            rintro x w5 ⟨rfl, D5, K5⟩
            have H5 := Lib.hid (rcrel_step (T := false) (HR.out.drewN _) K5 HCS.out D5 (by have := HX.out; exact this) (putB_lt _ _ _ (nl_lt _) HR.out.2.2.1) (by rw [putB_length _ _ _ (by rw [nl_length, HS.out, HK.out.2, HR.out.2.1]; exact hfit.out)]; exact HR.out.2.1))
            clear D5 K5
            go_wp2
            go_roundw
            case rel => exact ⟨j + 1, false, _, by omega, by go_num, rfl, H5.out⟩
            case measure => simp [intOf]; omega
    · have HX : Hid (crashB a ws l false st = stj) := Lib.hid (by
        rw [← HR.out.1]
        rcases Nat.lt_or_ge j ws.length with h' | h'
        · exact crash_past a ws l t stj j (by omega)
        · rw [List.drop_of_length_le h']; rfl)
      have f3 := HR.out.2.2.2.1.fz 3
      have E1 := HR.out.2.2.2.1.empty
      have c4 := E1.1.c4
      have f4 := E1.1.fz 4
      have HE := Lib.hid (And.intro (E1.1.setArmed 0) E1.2)
      clear E1
      by_cases hjw : j < ws.length
      · have d0 : decide (j < ws.length) = true := decide_eq_true hjw
        have d1 : decide (j < l.length) = false := decide_eq_false (by omega)
        have d2 : decide ((j : Int) < (ws.length : Int)) = true := decide_eq_true (by omega)
        have d3 : decide ((j : Int) < (l.length : Int)) = false := decide_eq_false (by omega)
        go_wp2
        go_end0
        exact ⟨rfl, by rw [HX.out]; exact HE.out.1.1, (HR.out.2.2.2.2.1.trans HE.out.2).trans HE.out.1.2⟩
      · have d0 : decide (j < ws.length) = false := decide_eq_false hjw
        have d2 : decide ((j : Int) < (ws.length : Int)) = false := decide_eq_false (by omega)
        go_wp2
        go_end0
        exact ⟨rfl, by rw [HX.out]; exact HE.out.1.1, (HR.out.2.2.2.2.1.trans HE.out.2).trans HE.out.1.2⟩
end Go.Proofs.YtbpgfhcecanikaaGreat
