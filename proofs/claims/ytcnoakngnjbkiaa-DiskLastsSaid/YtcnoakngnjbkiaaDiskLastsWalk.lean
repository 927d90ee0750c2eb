/- carracklaw04.DiskLasts walked. No condition. -/
import Derived.WalkSpells
import Derived.Outline
import Derived.Test.YtcnoakngnjbkiaaDkTwo
import Derived.Test.YtcnoakngnjbkiaaFewNo
namespace Go.Proofs.Ytcnoakngnjbkiaa.diskLasts
open Go.RowKit
set_option linter.unusedVariables false
set_option maxRecDepth 100000 in
set_option maxHeartbeats 1000000 in
theorem many (a b : Int) (A : Option Addr) (cap : Nat) (l : List ActV) (CA : Option Addr) (ccap : Nat) (cl : List (Bool × Int)) (W : World) (hc : ActsAt W A l) (hf : ¬ fewOk a b l) :
    Calls Try.prog 5 #[.int .i64 a, .int .i64 b, .slice A l.length cap, .slice CA cl.length ccap] W fun x w' => x = .returned (.bool true) ∧ Below W.heap.size W w' := by
  have H := Lib.hid (And.intro hc hf)
  clear hc hf
  go_enter Try.func5, Try.ntmps5
  go_wp2_with fail
  refine (awake _).mono ?_
  rintro x w1 ⟨rfl, b1⟩
  have H1 := Lib.hid b1
  clear b1
  go_wp2_with fail
  refine (few_no a b A cap l _ (H.out.1.later H1.out) H.out.2).mono ?_
  rintro x w2 ⟨rfl, rfl⟩
  go_wp2
  go_ret
  exact ⟨rfl, H1.out⟩
set_option maxRecDepth 100000 in
set_option maxHeartbeats 1000000 in
theorem long (a b : Int) (A : Option Addr) (cap : Nat) (l : List ActV) (CA : Option Addr) (ccap : Nat) (cl : List (Bool × Int)) (W : World) (hc : ActsAt W A l) (hf : fewOk a b l) (hl : 100 < cl.length) :
    Calls Try.prog 5 #[.int .i64 a, .int .i64 b, .slice A l.length cap, .slice CA cl.length ccap] W fun x w' => x = .returned (.bool true) ∧ Below W.heap.size W w' := by
  have H := Lib.hid (And.intro hc hf)
  have d0 : decide ((100 : Int) < (cl.length : Int)) = true := decide_eq_true (by omega)
  have d1 : decide (100 < cl.length) = true := decide_eq_true hl
  clear hc hf hl
  go_enter Try.func5, Try.ntmps5
  go_wp2_with fail
  refine (awake _).mono ?_
  rintro x w1 ⟨rfl, b1⟩
  have H1 := Lib.hid b1
  clear b1
  go_wp2_with fail
  refine (few_ok a b A cap l _ (H.out.1.later H1.out) H.out.2).mono ?_
  rintro x w2 ⟨rfl, rfl⟩
  go_wp2
  go_ret
  exact ⟨rfl, H1.out⟩
theorem apart {W : World} {la : Option Addr} {l : List (Bool × Int)} (h : CwAt W la l) {S : Nat} (hS : W.heap.size ≤ S) : 0 < l.length → ∀ g o, la = some ⟨g, o, none⟩ → g ≠ S := by
  intro h0 g o hla
  obtain ⟨g', o', e, hlt, _⟩ := h.at_ 0 h0
  rw [hla] at e
  injection e with e
  injection e with e1
  omega
theorem StOk.up {a b N M : Nat} {ws : List (Int × ByteArray)} {armed : Nat} {st : List Nat} (h : StOk a b N ws armed st) (hN : N ≤ M) : StOk a b M ws armed st := ⟨h.w, h.len, h.lt, Nat.le_trans h.nw hN, h.ar⟩
/-- what was read, in memory -/
def RdAt (w : World) (g R a : Nat) (ws : List (Int × ByteArray)) (st : List Nat) (b : Nat) : Prop := R ≤ g ∧ g < w.heap.size ∧ ∀ n, n < b → w.cell? ⟨g, n, none⟩ = some (.string (readB a ws st (n : Int)))
theorem rd_at {w : World} {v : Value} {R a b : Nat} {ws : List (Int × ByteArray)} {st : List Nat} (h : w.ownsRow R 9 1 v b ((List.range b).map fun (n : Nat) => Value.string (readB a ws st (n : Int)))) (hb : 0 < b) : ∃ g cap, v = .slice (some ⟨g, 0, none⟩) b cap ∧ RdAt w g R a ws st b := by
  rcases h.2 with ⟨_, e⟩ | ⟨g, cap, cur, e, h3, h4, h5, h6, h7, h8⟩
  · omega
  · refine ⟨g, cap, e, h3, Kq.blk_lt h4, fun n hn => ?_⟩
    rw [Kq.blk_cell h4, ← Array.getElem?_toList]
    have : (cur.toList.take (b * 1))[n]? = some (Value.string (readB a ws st (n : Int))) := by rw [h8]; simp [hn]
    rw [List.getElem?_take, if_pos (by omega)] at this
    exact this
theorem RdAt.later {P : Nat → Prop} {w w' : World} {g R a b : Nat} {ws : List (Int × ByteArray)} {st : List Nat} (h : RdAt w g R a ws st b) (hk : Kq.Keeps P w w') (hP : ¬ P g) : RdAt w' g R a ws st b := by
  obtain ⟨h1, h2, h3⟩ := h
  exact ⟨h1, Nat.lt_of_lt_of_le h2 hk.size, fun n hn => (World.cell?_of_block (hk.block g h2 hP)).trans (h3 n hn)⟩
theorem RdAt.below {w w' : World} {g R a b : Nat} {ws : List (Int × ByteArray)} {st : List Nat} (h : RdAt w g R a ws st b) (hb : Below w.heap.size w w') : RdAt w' g R a ws st b :=
  h.later (P := fun _ => False) (Kq.Keeps.of_below hb (fun j h1 h2 => absurd h1 (Nat.not_le.2 h2))) id
theorem row_below {R : Nat} {e : TypeId} {k : Nat} {v : Value} {n : Nat} {xs : List Value} {w w' : World} (h : w.ownsRow R e k v n xs) (hb : Below w.heap.size w w') : w'.ownsRow R e k v n xs := by
  refine ⟨h.1, h.2.imp id ?_⟩
  rintro ⟨g, cap, cur, hv, h3, h4, h5⟩
  exact ⟨g, cap, cur, hv, h3, Kq.below_blk hb h4 (Kq.blk_lt h4), h5⟩
theorem two_keeps {P : Nat → Prop} {W w w' : World} {bA BA SA bB BB SB a b : Nat} {bufA : Value} {wsA : List (Int × ByteArray)} {armA : Int} {stA : List Nat} {bufB : Value} {wsB : List (Int × ByteArray)} {armB : Int} {stB : List Nat} (h : Two W w bA BA SA bB BB SB a b bufA wsA armA stA bufB wsB armB stB)
    (hk : Kq.Keeps P w w') (hW : ∀ j, P j → W.heap.size ≤ j) (hA : ∀ j, Own BA SA bufA j → ¬ P j) (hB : ∀ j, Own BB SB bufB j → ¬ P j) : Two W w' bA BA SA bB BB SB a b bufA wsA armA stA bufB wsB armB stB :=
  ⟨⟨h.A.s.keeps hk hA, h.A.bel.trans (hk.below h.A.bel.size (fun j _ hj => hW j hj)), h.A.hB, h.A.hS, h.A.hbase⟩, ⟨h.B.s.keeps hk hB, h.A.bel.trans (hk.below h.A.bel.size (fun j _ hj => hW j hj)), h.B.hB, h.B.hS, h.B.hbase⟩, h.sep⟩
set_option maxRecDepth 100000 in
set_option maxHeartbeats 8000000 in
theorem few_ (a b : Nat) (A : Option Addr) (cap : Nat) (l : List ActV) (CA : Option Addr) (ccap : Nat) (cl : List (Bool × Int)) (W : World) (hc : ActsAt W A l) (hf : fewOk a b l) (hl : ¬ 100 < cl.length) (hcw : CwAt W CA cl) :
    Calls Try.prog 5 #[.int .i64 (a : Int), .int .i64 (b : Int), .slice A l.length cap, .slice CA cl.length ccap] W fun x w' => x = .returned (.bool true) ∧ Below W.heap.size W w' := by
  obtain ⟨i0, hi, hz0, hz1, hz2⟩ := info_parts infoSt
  have H := Lib.hid (And.intro hc hf)
  have d0 : decide ((100 : Int) < (cl.length : Int)) = false := decide_eq_false (by omega)
  have d1 : decide (100 < cl.length) = false := decide_eq_false hl
  have HCW := Lib.hid (And.intro hcw (Nat.not_lt.1 hl))
  have HR : Hid (DkRight (a : Int) (b : Int)) := Lib.hid hf.1
  have hA : 64 ≤ a ∧ a ≤ 512 := ⟨by have := hf.1.1; omega, by have := hf.1.2.1; omega⟩
  have hB : 1 ≤ b ∧ b ≤ 64 := ⟨by have := hf.1.2.2.1; omega, by have := hf.2.1; omega⟩
  have hab : a * b ≤ 32768 := Nat.le_trans (Nat.mul_le_mul hA.2 hB.2) (by decide)
  have HN := Lib.hid (And.intro hA (And.intro hB hab))
  have HL : Hid (l.length ≤ 60) := Lib.hid hf.2.2.1
  have hmk := fun (w : World) (n : Nat) (hn : n ≤ 3000000) => mk_writes w n hn
  have HMK := Lib.hid hmk
  clear hc hf hl hcw hA hB hab hmk
  go_enter Try.func5, Try.ntmps5
  go_wp2_with fail
  refine (awake _).mono ?_
  rintro x w1 ⟨rfl, b1⟩
  have H1 := Lib.hid b1
  clear b1
  go_wp2_with fail
  refine (few_ok _ _ A cap l _ (H.out.1.later H1.out) H.out.2).mono ?_
  rintro x w2 ⟨rfl, rfl⟩
  go_wp2_with fail
  refine (dk_new_ok (a : Int) (b : Int) (a * b) _ HR.out (by simp)).mono ?_
  intro x w2 hp
  have HP := Lib.hid hp
  obtain ⟨rfl, -⟩ := hp
  go_wp2_with fail
  refine (dk_new_ok (a : Int) (b : Int) (a * b) _ HR.out (by simp)).mono ?_
  intro x w3 hp
  have I3 := Lib.hid (Two.made (a := a) (b := b) H1.out rfl HP.out hp)
  obtain ⟨rfl, -⟩ := hp
  clear HP
  generalize w1.heap.size + 1 = DA at *
  generalize w1.heap.size = SA at *
  generalize w2.heap.size + 1 = DB at *
  generalize w2.heap.size = SB at *
  clear d0 d1
  go_wp2
  go_loopw [13] (fun i wr => ∃ j : Nat, ∃ bufA bufB : Value, ∃ ws : List (Int × ByteArray), ∃ armed : Nat, ∃ st : List Nat, j ≤ l.length ∧ i = .int .i64 (j : Int) ∧ StOk a b j ws armed st ∧ Two W wr SA DA SA SB DB SB a b bufA ws (armed : Int) st bufB ws (armed : Int) st) (fun i _ => l.length - (intOf i).toNat)
  case atStart => exact ⟨0, _, _, [], 0, _, by omega, rfl, ⟨WsOk.nil a b, List.length_replicate .., zeros_lt _, Nat.le_refl _, Nat.zero_le _⟩, I3.out⟩
  case round =>
    obtain ⟨j, bufA, bufB, ws, armed, st, hj, rfl, ho, hd⟩ := hrel
    have HD := Lib.hid (And.intro hd ho)
    clear hd ho I3
    by_cases hlt : j < l.length
    · obtain ⟨g, o, rfl, hg, hact⟩ := (H.out.1.later HD.out.1.A.bel) j hlt
      obtain ⟨g0, o0, hA0, hg0, hact0⟩ := H.out.1 j hlt
      injection hA0 with hA0
      injection hA0 with hg00 ho00
      subst hg00 ho00
      obtain ⟨f1, f2⟩ := H.out.2.2.2.2 l[j] (List.getElem_mem _)
      have hl60 := HL.out
      generalize l[j] = c at *
      have HF := Lib.hid (And.intro f1 (And.intro f2 (And.intro hact0 (And.intro hg0 hact0.w1))))
      have c0 := hact.c0
      have c1 := hact.c1
      have c2 := hact.c2
      have c3 := hact.c3
      have c4 := hact.c4
      clear hact hact0 f1 f2 hg hg0
      go_wp2_with fail
      refine (dk_do SA DA SA a b bufA ws armed st c _ HD.out.1.A.s (StOk.up HD.out.2 (by omega)) (by have := HN.out; omega) (by have := HN.out; omega) (by have := HN.out; omega) HF.out.1 HF.out.2.1 (HF.out.2.2.1.cw.below HD.out.1.A.bel) (apart HF.out.2.2.1.cw HD.out.1.A.hS)).mono ?_
      rintro x w5 ⟨rfl, buf5, D5, K5, F5⟩
      have H5 := Lib.hid (And.intro (doF_ok HD.out.2 c HF.out.2.2.2.2) (HD.out.1.stepA D5 K5 F5))
      clear D5 K5 F5
      clear c0 c1 c2 c3 c4
      have hact := HF.out.2.2.1.later H5.out.2.A.bel HF.out.2.2.2.1
      have c0 := hact.c0
      have c1 := hact.c1
      have c2 := hact.c2
      have c3 := hact.c3
      have c4 := hact.c4
      clear hact
      go_wp2_with fail
      refine (dk_do SB DB SB a b bufB ws armed st c _ H5.out.2.B.s (StOk.up HD.out.2 (by omega)) (by have := HN.out; omega) (by have := HN.out; omega) (by have := HN.out; omega) HF.out.1 HF.out.2.1 (HF.out.2.2.1.cw.below H5.out.2.A.bel) (apart HF.out.2.2.1.cw H5.out.2.B.hS)).mono ?_
      rintro x w6 ⟨rfl, buf6, D6, K6, F6⟩
      have H6 := Lib.hid (H5.out.2.stepB D6 K6 F6)
      clear D6 K6 F6 c0 c1 c2 c3 c4
      go_wp2
      go_roundw
      case rel => exact ⟨j + 1, buf5, buf6, _, _, _, by omega, by go_num, H5.out.1, H6.out⟩
      case measure => simp [intOf]; omega
    · have hws : ws.length ≤ 60 := by have := HD.out.2.nw; have := HL.out; omega
      have HWS := Lib.hid hws
      obtain rfl : j = l.length := by omega
      clear hws hlt hj
      go_wp2_with fail
      refine (dk_stable DA SA st _ HD.out.1.A.s.d.c2 HD.out.1.A.s.s HD.out.2.lt).mono ?_
      rintro x w4 ⟨rfl, rfl⟩
      obtain ⟨T0, hT0⟩ : ∃ T, T = txt st := ⟨_, rfl⟩
      have HT0 := Lib.hid hT0
      rw [← hT0]
      clear hT0
      generalize wr = w4 at *
      go_wp2
      go_loopw [15, 16] (fun rv i wr => ∃ n : Nat, n ≤ b ∧ i = .int .i64 (n : Int) ∧ wr.ownsRow w4.heap.size 9 1 rv n ((List.range n).map fun (n : Nat) => Value.string (readB a ws st (n : Int))) ∧ Below w4.heap.size w4 wr) (fun _ i _ => b - (intOf i).toNat)
      case atStart => exact ⟨0, Nat.zero_le _, rfl, World.ownsRow_nil _ _ _ _, Below.refl _ _⟩
      case round =>
        obtain ⟨n, hn, rfl, hown, hb⟩ := hrel
        have HO := Lib.hid (And.intro hown hb)
        clear hown hb
        by_cases hlt : n < b
        · have hb64 := HN.out.2.1.2
          go_wp2_with fail
          refine (dk_read SA DA SA a b n bufA ws _ st _ (HD.out.1.below HO.out.2).A.s HD.out.2.lt hlt HD.out.2.len (by have := HN.out; omega) (by have := HN.out; omega) (by have := HWS.out; omega)).mono ?_
          rintro x w7 ⟨rfl, b7⟩
          have HO7 := Lib.hid (And.intro (row_below HO.out.1 b7) (HO.out.2.trans (b7.mono HO.out.2.size)))
          clear b7 HO
          go_wp2_with (at_builtin; refine Kq.wpList_append_any _ rfl (.tmp 94) (.tmp 96) 53 53 rfl w4.heap.size 9 i0 (.string ⟨#[]⟩) 1 16 Try.underlying53 hi hz0 hz1 hz2 rfl (by decide) u15 n ((List.range n).map fun (n : Nat) => Value.string (readB a ws st (n : Int))) rfl (HO7.out.1.alloc _) (.slice (some ⟨w7.heap.size, 0, none⟩) 1 1) 1 [Value.string (readB a ws st (n : Int))] rfl ?hs ?h1 ?h2 ?h3 ?_)
          case hs => exact src_text w7 _ 1 _
          case h1 => unfold maxLen; omega
          case h2 => omega
          case h3 => have := HO7.out.2.size; simp; omega
          intro v' w8 hown8 hgrow hfresh
          obtain ⟨a', n', cap', hv⟩ := Kq.own_shape hown8
          have HO8 : Hid (w8.ownsRow w4.heap.size 9 1 v' (n + 1) ((List.range (n + 1)).map fun (n : Nat) => Value.string (readB a ws st (n : Int))) ∧ Below w4.heap.size w4 w8) := by
            have kb := (Kq.Keeps.grown (S := fun j => w4.heap.size ≤ j) hgrow (fun j _ hj => own_ge HO7.out.1 hj)).below (B := w4.heap.size) (by have := HO7.out.2.size; simp; omega) (fun k _ h => h)
            exact Lib.hid ⟨by rw [List.range_succ, List.map_append]; exact hown8, (HO7.out.2.trans ((Kq.below_alloc w7 _).mono HO7.out.2.size)).trans kb⟩
          clear hown8 hgrow hfresh HO7
          rw [hv] at HO8 ⊢
          clear hv
          go_wp2
          go_roundw
          case rel => first | exact ⟨n + 1, by omega, by go_num, HO8.out.1, HO8.out.2⟩ | ((repeat apply Exists.intro); exact ⟨⟨n + 1, by omega, by go_num, HO8.out.1, HO8.out.2⟩, rfl⟩)
          case measure => simp [intOf]; omega
        · have hnb : n = b := by omega
          rw [hnb] at HO
          obtain ⟨g, rcap, rfl, hrd⟩ := rd_at HO.out.1 (by have := HN.out; omega)
          have HRD := Lib.hid hrd
          have I5 := Lib.hid (HD.out.1.below HO.out.2)
          have HLA : Hid (∀ j, Own DA SA bufA j → j < w4.heap.size) := Lib.hid (fun j hj => HD.out.1.A.s.own_lt hj)
          have HLB : Hid (∀ j, Own DB SB bufB j → j < w4.heap.size) := Lib.hid (fun j hj => HD.out.1.B.s.own_lt hj)
          have HS5 := Lib.hid HO.out.2.size
          clear hrd HO
          go_wp2_with fail
          refine (dk_arm SA DA SA a b bufA ws _ 0 st _ I5.out.A.s).mono ?_
          rintro x w8 ⟨rfl, D8, K8⟩
          have I8 := Lib.hid (I5.out.stepA1 D8 K8)
          have HRD8 := Lib.hid (HRD.out.later K8 (fun e => by have := HLA.out DA (Or.inl rfl); have := HRD.out.1; omega))
          have HS8 := Lib.hid (Nat.le_trans HS5.out K8.size)
          clear D8 K8 I5 HRD HS5
          go_wp2_with fail
          refine (dk_flush_ok SA DA SA a b bufA ws 0 st _ I8.out.A.s HD.out.2.w HD.out.2.len (by have := HN.out; omega) (by have := HN.out; omega) (by have := HN.out; omega) (by have := HWS.out; omega) (by decide) (by decide) HD.out.2.lt).mono ?_
          rintro x w9 ⟨rfl, D9, K9⟩
          have I9 := Lib.hid (I8.out.stepA0 D9 K9)
          have HRD9 := Lib.hid (HRD8.out.later K9 (fun e => by have := HLA.out DA (Or.inl rfl); have := HLA.out SA (Or.inr (Or.inl rfl)); have := HRD8.out.1; omega))
          have HS9 := Lib.hid (Nat.le_trans HS8.out K9.size)
          have OKF := Lib.hid (flushB_ok a b ws st HD.out.2.w HD.out.2.len HD.out.2.lt)
          clear D9 K9 I8 HRD8 HS8
          go_wp2_with fail
          obtain ⟨AB, capB, hbufB⟩ := I9.out.B.s.d.shape
          refine (dk_buffered DB AB ws.length capB _ (by rw [← hbufB]; exact I9.out.B.s.d.c3)).mono ?_
          clear hbufB
          rintro x w10 ⟨rfl, rfl⟩
          have hmk := fun w => HMK.out w ws.length (by have := HWS.out; omega)
          have hws60 := HWS.out
          go_wp2
          have AW := Lib.hid (AwAt.made w9 ws.length)
          have I11 := Lib.hid (I9.out.below (Kq.below_alloc w9 (.cells (madeCells #[.bool false, .int .i64 0] (ws.length * 2)) 57)))
          have HRD11 := Lib.hid (HRD9.out.below (Kq.below_alloc w9 (.cells (madeCells #[.bool false, .int .i64 0] (ws.length * 2)) 57)))
          have HMA : Hid (∀ j, Own DA SA (.slice none 0 0) j → j < w9.heap.size) := Lib.hid (fun j hj => I9.out.A.s.own_lt hj)
          have HMB : Hid (∀ j, Own DB SB bufB j → j < w9.heap.size) := Lib.hid (fun j hj => I9.out.B.s.own_lt hj)
          have HMG : Hid (g < w9.heap.size) := Lib.hid HRD9.out.2.1
          have HMW : Hid (W.heap.size ≤ w9.heap.size) := Lib.hid I9.out.A.bel.size
          clear I9 HRD9 HS9 hmk HMK
          generalize w9.alloc (.cells (madeCells #[.bool false, .int .i64 0] (ws.length * 2)) 57) = w11 at *
          generalize w9.heap.size = M at *
          go_loopw [20] (fun i wr => ∃ j : Nat, j ≤ ws.length ∧ i = .int .i64 (j : Int) ∧ AwAt wr M ws.length j ∧ Kq.Keeps (· = M) w11 wr) (fun i _ => ws.length - (intOf i).toNat)
          case atStart => exact ⟨0, Nat.zero_le _, rfl, AW.out, Kq.Keeps.refl _ _⟩
          case round =>
            obtain ⟨k, hk, rfl, haw, hkp⟩ := hrel
            have HA := Lib.hid (And.intro haw hkp)
            clear haw hkp AW
            by_cases hlk : k < ws.length
            · obtain ⟨cs, q1, q2, q3⟩ := HA.out.1.blk
              have cM : wr.cell? ⟨M, k * 2, none⟩ = some (.bool (decide (k < k))) := by rw [Kq.blk_cell q1, (q3 k hlk).1]
              have fM : wr.frozen? ⟨M, k * 2, none⟩ = false := Kq.blk_free q1 (k * 2)
              rw [decide_eq_false (Nat.lt_irrefl k)] at cM
              have HS := Lib.hid (HA.out.1.set hlk)
              have HK : Hid (Kq.Keeps (· = M) w11 (wr.setCell ⟨M, k * 2, none⟩ (.bool true))) := Lib.hid (HA.out.2.trans (Kq.Keeps.setCell _ _ _ rfl))
              clear q1 q2 q3
              go_wp2
              go_roundw
              case rel => first | exact ⟨k + 1, by omega, by go_num, HS.out, HK.out⟩ | ((repeat apply Exists.intro); exact ⟨⟨k + 1, by omega, by go_num, HS.out, HK.out⟩, rfl⟩)
              case measure => simp [intOf]; omega
            · have hkn : k = ws.length := by omega
              rw [hkn] at HA
              have CW := Lib.hid HA.out.1.cw
              have I12 := Lib.hid (two_keeps I11.out HA.out.2 (fun j e => by have := HMW.out; omega) (fun j hj e => by have := HMA.out j hj; omega) (fun j hj e => by have := HMB.out j hj; omega))
              have HRD12 := Lib.hid (HRD11.out.later HA.out.2 (fun e => by have := HMG.out; omega))
              have hcr := dk_crash SB DB SB a b bufB ws _ st (some ⟨M, 0, none⟩) ws.length (List.replicate ws.length (true, 0)) _ I12.out.B.s HD.out.2.w HD.out.2.len (by have := HN.out; omega) (by have := HN.out; omega) (by have := HN.out; omega) (by have := HWS.out; omega) HD.out.2.lt CW.out (fun _ g o e => by injection e with e; injection e with e1; have := HMB.out SB (Or.inr (Or.inl rfl)); omega) (by rw [List.length_replicate]; have := HWS.out; omega)
              rw [List.length_replicate, crash_all] at hcr
              clear I11 HRD11 HA hkn
              go_wp2_with fail
              refine hcr.mono ?_
              clear hcr
              rintro x w13 ⟨rfl, D13, K13⟩
              have I13 := Lib.hid (I12.out.stepB0 D13 K13)
              have HRD13 := Lib.hid (HRD12.out.later K13 (fun e => by have := HLB.out DB (Or.inl rfl); have := HLB.out SB (Or.inr (Or.inl rfl)); have := HRD12.out.1; omega))
              have RF := Lib.hid (read_flush a b ws st HD.out.2.w HD.out.2.len HD.out.2.lt)
              clear D13 K13 I12 HRD12
              generalize flushB a ws st = F at *
              obtain ⟨T, hT⟩ : ∃ T, T = txt F := ⟨_, rfl⟩
              have HT := Lib.hid hT
              clear hT
              go_wp2_with fail
              have hst := dk_stable DA SA F _ I13.out.A.s.d.c2 I13.out.A.s.s OKF.out.2
              rw [← HT.out] at hst
              refine hst.mono ?_
              clear hst
              rintro x w14 ⟨rfl, rfl⟩
              go_wp2_with fail
              have hst := dk_stable DB SB F _ I13.out.B.s.d.c2 I13.out.B.s.s OKF.out.2
              rw [← HT.out] at hst
              refine hst.mono ?_
              clear hst
              rintro x w14 ⟨rfl, rfl⟩
              go_wp2_with fail
              refine (dk_buffered0 DA _ I13.out.A.s.d.c3).mono ?_
              rintro x w14 ⟨rfl, rfl⟩
              go_wp2_with fail
              refine (dk_buffered0 DB _ I13.out.B.s.d.c3).mono ?_
              rintro x w14 ⟨rfl, rfl⟩
              go_wp2_with fail
              have hst := dk_stable DA SA F _ I13.out.A.s.d.c2 I13.out.A.s.s OKF.out.2
              rw [← HT.out] at hst
              refine hst.mono ?_
              clear hst
              rintro x w14 ⟨rfl, rfl⟩
              go_wp2_with fail
              refine (dk_crash SA DA SA a b _ [] _ F CA ccap cl _ I13.out.A.s (WsOk.nil a b) OKF.out.1 (by have := HN.out; omega) (by have := HN.out; omega) (by have := HN.out; omega) (Nat.zero_le _) OKF.out.2 (HCW.out.1.below I13.out.A.bel) (apart HCW.out.1 I13.out.A.hS) (by have := HCW.out.2; omega)).mono ?_
              rintro x w15 ⟨rfl, D15, K15⟩
              rw [crash_none] at D15
              have I15 := Lib.hid (I13.out.stepA0 D15 K15)
              have HRD15 := Lib.hid (HRD13.out.later K15 (fun e => by have := HLA.out DA (Or.inl rfl); have := HLA.out SA (Or.inr (Or.inl rfl)); have := HRD13.out.1; omega))
              clear D15 K15 I13 HRD13
              have HSZ : Hid (T0.size = T.size) := Lib.hid (by rw [HT0.out, HT.out, txt_size, txt_size, HD.out.2.len, OKF.out.1])
              go_wp2
              go_loopw [22] (fun i wr => ∃ n : Nat, n ≤ b ∧ i = .int .i64 (n : Int) ∧ Two W wr SA DA SA SB DB SB a b (.slice none 0 0) [] ((0 : Nat) : Int) F (.slice none 0 0) [] ((0 : Nat) : Int) F ∧ RdAt wr g w4.heap.size a ws st b) (fun i _ => b - (intOf i).toNat)
              case atStart => exact ⟨0, Nat.zero_le _, rfl, I15.out, HRD15.out⟩
              case round =>
                obtain ⟨m, hm, rfl, hI, hrd⟩ := hrel
                have HI := Lib.hid (And.intro hI hrd)
                clear hI hrd I15 HRD15
                by_cases hlm : m < b
                · have hb64 := HN.out.2.1.2
                  have hrf := RF.out m hlm
                  go_wp2_with fail
                  have hrr := dk_read SA DA SA a b m _ [] _ F _ HI.out.1.A.s OKF.out.2 hlm OKF.out.1 (by have := HN.out; omega) (by have := HN.out; omega) (Nat.zero_le _)
                  rw [hrf] at hrr
                  refine hrr.mono ?_
                  clear hrr hrf
                  rintro x w16 ⟨rfl, b16⟩
                  have H16 := Lib.hid (And.intro (HI.out.1.below b16) (HI.out.2.below b16))
                  clear b16 HI
                  have cg := H16.out.2.2.2 m hlm
                  generalize readB a ws st (m : Int) = Y at *
                  go_wp2
                  go_roundw
                  case rel => first | exact ⟨m + 1, by omega, by go_num, H16.out.1, H16.out.2⟩ | ((repeat apply Exists.intro); exact ⟨⟨m + 1, by omega, by go_num, H16.out.1, H16.out.2⟩, rfl⟩)
                  case measure => simp [intOf]; omega
                · have t0 : decide (T0.size = T.size) = true := decide_eq_true HSZ.out
                  have t1 : decide ((T0.size : Int) = (T.size : Int)) = true := decide_eq_true (by rw [HSZ.out])
                  go_wp2_with fail
                  have hst := dk_stable DA SA F _ HI.out.1.A.s.d.c2 HI.out.1.A.s.s OKF.out.2
                  rw [← HT.out] at hst
                  refine hst.mono ?_
                  clear hst
                  rintro x w17 ⟨rfl, rfl⟩
                  go_wp2
                  go_ret
                  exact ⟨by simp [HSZ.out], HI.out.1.A.bel⟩
end Go.Proofs.Ytcnoakngnjbkiaa.diskLasts
namespace Go.Proofs.Ytcnoakngnjbkiaa
open Go.RowKit
theorem diskLasts_walk (a b : Int) (v u : Value) {W : World} (wa : (Lit.int .i64 a).wf = true) (wb : (Lit.int .i64 b).wf = true) (h2 : ∃ A cap l, v = .slice A l.length cap ∧ l.length ≤ maxLen ∧ ActsAt W A l) (h3 : ∃ A cap l, u = .slice A l.length cap ∧ l.length ≤ maxLen ∧ CwAt W A l) :
    Calls Try.prog 5 #[.int .i64 a, .int .i64 b, v, u] W fun x w' => x = .returned (.bool true) ∧ Below W.heap.size W w' := by
  obtain ⟨A, cap, l, rfl, _, hc⟩ := h2
  obtain ⟨CA, ccap, cl, rfl, _, hcw⟩ := h3
  by_cases hf : fewOk a b l
  · by_cases hl : 100 < cl.length
    · exact diskLasts.long a b A cap l CA ccap cl W hc hf hl
    · obtain ⟨n, rfl⟩ := Int.eq_ofNat_of_zero_le (show 0 ≤ a by have := hf.1.1; omega)
      obtain ⟨m, rfl⟩ := Int.eq_ofNat_of_zero_le (show 0 ≤ b by have := hf.1.2.2.1; omega)
      exact diskLasts.few_ n m A cap l CA ccap cl W hc hf hl hcw
  · exact diskLasts.many a b A cap l CA ccap cl W hc hf
end Go.Proofs.Ytcnoakngnjbkiaa
