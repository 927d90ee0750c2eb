/- carracklaw04.DiskReads walked. No condition. -/
import Derived.WalkSpells
import Derived.Outline
import Derived.Deep.RegionHeld
import Derived.Test.YtcnoakngnjbkiaaDkMap
import Derived.Test.YtcnoakngnjbkiaaFewNo
namespace Go.Proofs.Ytcnoakngnjbkiaa.diskReads
open Go.RowKit Go.Maps
set_option linter.unusedVariables false
set_option maxRecDepth 100000 in
set_option maxHeartbeats 1000000 in
theorem many (a b : Int) (A : Option Addr) (cap : Nat) (l : List ActV) (W : World) (hc : ActsAt W A l) (hf : ¬ fewOk a b l) :
    Calls Try.prog 7 #[.int .i64 a, .int .i64 b, .slice A l.length cap] W fun x w' => x = .returned (.bool true) ∧ Below W.heap.size W w' := by
  have H := Lib.hid (And.intro hc hf)
  clear hc hf
  go_enter Try.func7, Try.ntmps7
  go_wp2_with fail
  refine (awake _).mono ?_
  rintro x w1 ⟨rfl, b1⟩
  have H1 := Lib.hid b1
  clear b1
  go_wp2_with fail
  refine (few_no a b A cap l _ (H.out.1.later H1.out) H.out.2).mono ?_
  rintro x w2 ⟨rfl, rfl⟩
  go_wp2
  go_ret
  exact ⟨rfl, H1.out⟩
theorem apart {W : World} {la : Option Addr} {l : List (Bool × Int)} (h : CwAt W la l) {S : Nat} (hS : W.heap.size ≤ S) : 0 < l.length → ∀ g o, la = some ⟨g, o, none⟩ → g ≠ S := by
  intro h0 g o hla
  obtain ⟨g', o', e, hlt, _⟩ := h.at_ 0 h0
  rw [hla] at e
  injection e with e
  injection e with e1
  omega
theorem StOk.up {a b N M : Nat} {ws : List (Int × ByteArray)} {armed : Nat} {st : List Nat} (h : StOk a b N ws armed st) (hN : N ≤ M) : StOk a b M ws armed st := ⟨h.w, h.len, h.lt, Nat.le_trans h.nw hN, h.ar⟩
structure Rd (W w : World) (Sx D M a b j m : Nat) (buf : Value) (ws : List (Int × ByteArray)) (armed : Nat) (st : List Nat) (f g : Int → Option ByteArray) : Prop where
  ok : StOk a b j ws armed st
  dk : DkI W w Sx D Sx a b buf ws (armed : Int) st
  mp : MapS w M m f
  says : Says a b g ws st
  sep : ¬ Own D Sx buf M
  hM : W.heap.size ≤ M
theorem Rd.below {W w w' : World} {Sx D M a b j m : Nat} {buf : Value} {ws : List (Int × ByteArray)} {armed : Nat} {st : List Nat} {f g : Int → Option ByteArray} (h : Rd W w Sx D M a b j m buf ws armed st f g) (hb : Below w.heap.size w w') : Rd W w' Sx D M a b j m buf ws armed st f g :=
  ⟨h.ok, h.dk.below hb, h.mp.below hb, h.says, h.sep, h.hM⟩
theorem Rd.drew {W w : World} {Sx D M a b j m : Nat} {buf : Value} {ws : List (Int × ByteArray)} {armed : Nat} {st : List Nat} {f g : Int → Option ByteArray} (h : Rd W w Sx D M a b j m buf ws armed st f g) : Rd W w.drew Sx D M a b j m buf ws armed st f g := h.below (Below.refl _ _).drew
theorem Rd.up {W w : World} {Sx D M a b j m : Nat} {buf : Value} {ws : List (Int × ByteArray)} {armed : Nat} {st : List Nat} {f g : Int → Option ByteArray} {k l : Nat} (h : Rd W w Sx D M a b j m buf ws armed st f g) (hk : j ≤ k) (hl : m ≤ l) : Rd W w Sx D M a b k l buf ws armed st f g :=
  ⟨StOk.up h.ok hk, h.dk, h.mp.up hl, h.says, h.sep, h.hM⟩
theorem Rd.step {W w w' : World} {Sx D M a b j m : Nat} {buf : Value} {ws : List (Int × ByteArray)} {armed : Nat} {st : List Nat} {f : Int → Option ByteArray} {c : ActV} {buf' : Value} (h : Rd W w Sx D M a b j m buf ws armed st f f) (hw : (Lit.int .i64 c.n).wf = true) (hk : c.kind = 0 ∨ c.kind = 1 ∨ c.kind = 2) (hd : DkS w' Sx D Sx a b buf' (doF a b c ws armed st).1 ((doF a b c ws armed st).2.1 : Int) (doF a b c ws armed st).2.2.1) (hq : Kq.Keeps (Own D Sx buf) w w') (hf : ∀ j, buf'.ownBlock = some j → buf.ownBlock = some j ∨ w.heap.size ≤ j) :
    Rd W w' Sx D M a b (j + 1) m buf' (doF a b c ws armed st).1 (doF a b c ws armed st).2.1 (doF a b c ws armed st).2.2.1 f (fF a b c ws armed st f) := by
  refine ⟨doF_ok h.ok c hw, h.dk.step hd hq, h.mp.keeps hq h.sep, says_do h.says h.ok hk, fun e => ?_, h.hM⟩
  rcases e with e | e | e
  · exact h.sep (Or.inl e)
  · exact h.sep (Or.inr (Or.inl e))
  · rcases hf M e with e | e
    · exact h.sep (Or.inr (Or.inr e))
    · exact absurd h.mp.lt (Nat.not_lt.2 e)
theorem Rd.put {W w : World} {Sx D M a b j m : Nat} {buf : Value} {ws : List (Int × ByteArray)} {armed : Nat} {st : List Nat} {f g : Int → Option ByteArray} (h : Rd W w Sx D M a b j m buf ws armed st f g) (hm : m ≤ 1000) (k : Int) (hw : (Lit.int .i64 k).wf = true) (s : ByteArray) (hs : s.size ≤ maxLen) (hg : g = updF f k s) :
    ∃ w', (Instr.mapUpdate 62 (.map (some M)) (.int .i64 k) (.string s)).run Try.prog w = .ok () w' ∧ Rd W w' Sx D M a b j (m + 1) buf ws armed st g g := by
  obtain ⟨n, Dm, hn, hown, hD⟩ := h.mp.ex
  obtain ⟨w', hrun, hown', hgr⟩ := hown.update lawI Try.underlying62 (by unfold maxLen; omega) (keyOf_int_mk Try.underlying3 hw) (plainElem_string Try.underlying9 hs)
  have K : Kq.Keeps (· = M) w w' := Kq.Keeps.grown hgr (fun j _ hj => by cases hj; rfl)
  refine ⟨w', hrun, h.ok, ?_, ?_, h.says, h.sep, h.hM⟩
  · exact ⟨h.dk.s.keeps K (fun j hj e => h.sep (e ▸ hj)), h.dk.bel.trans (K.below h.dk.bel.size (fun j _ e => e ▸ h.hM)), h.dk.hB, h.dk.hS, h.dk.hbase⟩
  · rw [hg]
    exact MapS.put hn hown.isMap hD k s hown'
theorem code_cases {a b : Nat} {c : ActV} {ws : List (Int × ByteArray)} {armed : Nat} {st : List Nat} (hk : c.kind = 0) : (doF a b c ws armed st).2.2.2 = 0 ∨ (doF a b c ws armed st).2.2.2 = 13 ∨ (doF a b c ws armed st).2.2.2 = 1 := by
  unfold doF
  rw [if_pos hk]
  unfold wrF
  split
  · split
    · exact Or.inr (Or.inl rfl)
    · exact Or.inl rfl
  · exact Or.inr (Or.inr rfl)
set_option maxRecDepth 100000 in
set_option maxHeartbeats 8000000 in
theorem few_ (a b : Nat) (A : Option Addr) (cap : Nat) (l : List ActV) (W : World) (hc : ActsAt W A l) (hf : fewOk a b l) :
    Calls Try.prog 7 #[.int .i64 (a : Int), .int .i64 (b : Int), .slice A l.length cap] W fun x w' => x = .returned (.bool true) ∧ Below W.heap.size W w' := by
  have H := Lib.hid (And.intro hc hf)
  have HR : Hid (DkRight (a : Int) (b : Int)) := Lib.hid hf.1
  have hA : 64 ≤ a ∧ a ≤ 512 := ⟨by have := hf.1.1; omega, by have := hf.1.2.1; omega⟩
  have hB : 1 ≤ b ∧ b ≤ 64 := ⟨by have := hf.1.2.2.1; omega, by have := hf.2.1; omega⟩
  have hab : a * b ≤ 32768 := Nat.le_trans (Nat.mul_le_mul hA.2 hB.2) (by decide)
  have HN := Lib.hid (And.intro hA (And.intro hB hab))
  have HL : Hid (l.length ≤ 60) := Lib.hid hf.2.2.1
  have hmm := @run_makeMap Try.prog
  clear hc hf hA hB hab
  go_enter Try.func7, Try.ntmps7
  go_wp2_with fail
  refine (awake _).mono ?_
  rintro x w1 ⟨rfl, b1⟩
  have H1 := Lib.hid b1
  clear b1
  go_wp2_with fail
  refine (few_ok _ _ A cap l _ (H.out.1.later H1.out) H.out.2).mono ?_
  rintro x w2 ⟨rfl, rfl⟩
  go_wp2_with fail
  refine (dk_new_ok (a : Int) (b : Int) (a * b) _ HR.out (by simp)).mono ?_
  intro x w2 hp
  have I2 := Lib.hid (DkI.made (a := a) (b := b) H1.out rfl hp)
  obtain ⟨rfl, -⟩ := hp
  generalize w1.heap.size + 1 = D at *
  generalize w1.heap.size = Sx at *
  go_wp2
  have R3 : Hid (Rd W (w2.alloc (.map #[] 0)) Sx D w2.heap.size a b 0 0 (.slice none 0 0) [] 0 (List.replicate (a * b) 0) (fun _ => none) (fun _ => none)) := Lib.hid ⟨⟨WsOk.nil a b, List.length_replicate .., zeros_lt _, Nat.le_refl _, Nat.zero_le _⟩, I2.out.below (Kq.below_alloc _ _), MapS.made w2, says_made a b, fun h => by have := I2.out.s.own_lt h; omega, I2.out.bel.size⟩
  clear hmm I2
  generalize w2.alloc (.map #[] 0) = w3 at *
  generalize w2.heap.size = M at *
  go_loopw [10] (fun i wr => ∃ j : Nat, ∃ buf : Value, ∃ ws : List (Int × ByteArray), ∃ armed : Nat, ∃ st : List Nat, ∃ f : Int → Option ByteArray, j ≤ l.length ∧ i = .int .i64 (j : Int) ∧ Rd W wr Sx D M a b j j buf ws armed st f f) (fun i _ => l.length - (intOf i).toNat)
  case atStart => exact ⟨0, _, [], 0, _, _, by omega, rfl, R3.out⟩
  case round =>
    obtain ⟨j, buf, ws, armed, st, f, hj, rfl, hd⟩ := hrel
    have HD := Lib.hid hd
    clear hd R3
    by_cases hlt : j < l.length
    · obtain ⟨g, o, rfl, hg, hact⟩ := (H.out.1.later HD.out.dk.bel) j hlt
      obtain ⟨g0, o0, hA0, hg0, hact0⟩ := H.out.1 j hlt
      obtain ⟨f1, f2⟩ := H.out.2.2.2.2 l[j] (List.getElem_mem _)
      have hl60 := HL.out
      generalize l[j] = c at *
      have HF := Lib.hid (And.intro f1 (And.intro f2 (And.intro hact.cw (And.intro (apart hact0.cw HD.out.dk.hS) hact.w1))))
      have c0 := hact.c0
      have c1 := hact.c1
      have c2 := hact.c2
      have c3 := hact.c3
      have c4 := hact.c4
      clear hact hact0 f1 f2 hg hg0 hA0
      by_cases k0 : c.kind = 0
      · skip
        rw [k0] at c0
        go_wp2_with fail
        have HX := Lib.hid (Kq.blk_new wr #[.int .i64 0, .int .i64 c.n, .int .i64 c.long, .string c.s, .slice c.la c.l.length c.lcap] 43 (0, 0))
        have R4 := Lib.hid (HD.out.below (Kq.below_alloc wr (.cells #[.int .i64 0, .int .i64 c.n, .int .i64 c.long, .string c.s, .slice c.la c.l.length c.lcap] 43)))
        have HV : Hid (¬ Own D Sx buf wr.heap.size) := Lib.hid (fun h => absurd (HD.out.dk.s.own_lt h) (Nat.lt_irrefl _))
        have hdo := dk_do Sx D Sx a b buf ws armed st c _ R4.out.dk.s (StOk.up R4.out.ok (by omega)) (by have := HN.out; omega) (by have := HN.out; omega) (by have := HN.out; omega) HF.out.1 HF.out.2.1 (HF.out.2.2.1.below (Kq.below_alloc wr (.cells #[.int .i64 0, .int .i64 c.n, .int .i64 c.long, .string c.s, .slice c.la c.l.length c.lcap] 43))) HF.out.2.2.2.1
        rw [k0] at hdo
        refine hdo.mono ?_
        clear hdo c0 c1 c2 c3 c4
        rintro x w5 ⟨rfl, buf5, D5, K5, F5⟩
        have R6 := Lib.hid (R4.out.step HF.out.2.2.2.2 (Or.inl k0) D5 K5 F5)
        have HX5 := Lib.hid (K5.blk HX.out HV.out)
        clear D5 K5 F5 R4 HX HV HD
        generalize wr.heap.size = V at *
        have c0 := Kq.blk_cell HX5.out 0
        by_cases hcode : (doF a b c ws armed st).2.2.2 = 0
        · skip
          rw [hcode]
          go_wp2
          refine wp_region_any (by kernel_rfl) ?_
          (try (change wpAny _ _ _ _ _ _ _ (World.drew _)))
          obtain ⟨zd, hzd⟩ : ∃ z, z = World.drew w5 := ⟨_, rfl⟩
          rw [← hzd]
          have RX : Hid (Rd W zd Sx D M a b (j + 1) j buf5 (doF a b c ws armed st).1 (doF a b c ws armed st).2.1 (doF a b c ws armed st).2.2.1 f (fF a b c ws armed st f)) := Lib.hid (by rw [hzd]; exact R6.out.drew)
          have HXD : Hid (zd.heap[V]? = some (.cells #[.int .i64 0, .int .i64 c.n, .int .i64 c.long, .string c.s, .slice c.la c.l.length c.lcap] 43 (0, 0))) := Lib.hid (by rw [hzd]; exact HX5.out)
          clear hzd R6 HX5 c0
          have c0 := Kq.blk_cell HXD.out 0
          have c1 := Kq.blk_cell HXD.out 1
          have c2 := Kq.blk_cell HXD.out 2
          have c3 := Kq.blk_cell HXD.out 3
          have c4 := Kq.blk_cell HXD.out 4
          refine wpAny_take (i := 0) (v := ?_) rfl (by kernel_rfl) (by kernel_rfl) (by kernel_rfl) (fun _ _ _ h => h) (Or.inl ⟨by kernel_rfl, ?_⟩) ?_
          rotate_left
          · intro w; go_simp; with_reducible rfl
          refine wpAny_take (i := 1) (v := ?_) rfl (by kernel_rfl) (by kernel_rfl) (by kernel_rfl) (fun _ _ _ h => h) (Or.inl ⟨by kernel_rfl, ?_⟩) ?_
          rotate_left
          · intro w; go_simp; with_reducible rfl
          refine wpAny_ready (rs := [2, 3]) (by kernel_rfl) (by simp) ?_
          refine (AllReady.cons rfl (fun K hK => ?_) (AllReady.cons rfl (fun K hK => ?_) AllReady.nil))
          · skip
            go_simp
            (first | (refine hK _ _ ?_; clear hK K) | skip)
            refine wpAny_ready (rs := [3]) (by kernel_rfl) (by simp) ?_
            refine AllReady.cons rfl (fun K hK => ?_) AllReady.nil
            go_simp
            (first | (refine hK _ _ ?_; clear hK K) | skip)
            refine wpAny_ready (rs := [4]) (by kernel_rfl) (by simp) ?_
            refine AllReady.cons rfl (fun K hK => ?_) AllReady.nil
            go_simp
            refine (act_text 0 c.n c.long c.s _ _ HF.out.1).mono ?_
            rintro e z1 ⟨rfl, hb1⟩
            (first | (refine hK _ _ ?_; clear hK K) | skip)
            have R7 := Lib.hid (RX.out.below hb1)
            have HX7 := Lib.hid (Kq.below_blk hb1 HXD.out (Kq.blk_lt HXD.out))
            clear hb1 c0 c1 c2 c3 c4 RX HXD
            have c1 := Kq.blk_cell HX7.out 1
            refine wpAny_ready (rs := [5]) (by kernel_rfl) (by simp) ?_
            refine AllReady.cons rfl (fun K hK => ?_) AllReady.nil
            have hmw := R7.out.put (by omega) c.n HF.out.2.2.2.2 (actText c.s c.long) (by rw [actText_size]; have := actLen_le c.long; unfold maxLen; omega) (if_pos ⟨k0, hcode⟩)
            obtain ⟨z3, hrun, hR3⟩ := hmw
            go_simp
            (first | (refine hK _ _ ?_; clear hK K) | skip)
            have R5 := Lib.hid hR3
            clear hR3 hrun R7
            generalize fF a b c ws armed st f = f5 at *
            generalize (doF a b c ws armed st).1 = ws5 at *
            generalize (doF a b c ws armed st).2.1 = armed5 at *
            generalize (doF a b c ws armed st).2.2.1 = st5 at *
            refine wpAny_done (by kernel_rfl) ?_ _
            go_wp2
            go_loopw [13] (fun i wr => ∃ n : Nat, n ≤ b ∧ i = .int .i64 (n : Int) ∧ Rd W wr Sx D M a b (j + 1) (j + 1) buf5 ws5 armed5 st5 f5 f5) (fun i _ => b - (intOf i).toNat)
            case atStart => exact ⟨0, Nat.zero_le _, rfl, R5.out⟩
            case round =>
              obtain ⟨n, hn, rfl, hR⟩ := hrel
              have I := Lib.hid hR
              clear hR R5
              (try clear t0)
              (try clear hcode)
              by_cases hln : n < b
              · have hb64 := HN.out.2.1.2
                have hlk := I.out.mp.look (n : Int) (by simp [Lit.wf, IntKind.min, IntKind.max, IntKind.signed, IntKind.bits]; omega)
                have hsay := I.out.says n hln
                rcases hfn : f5 (n : Int) with _ | s
                · rw [hfn] at hlk hsay
                  simp only [Option.getD_none, Option.isSome_none] at hlk hsay
                  have hmk := fun w => mk_bytes w a a rfl (by have := HN.out; omega)
                  have hcv := fun w => cv_zeros a w
                  have I2 := Lib.hid (I.out.below (Kq.below_alloc wr (.cells (zrow a) 5)))
                  clear hfn
                  go_wp2_with fail
                  have hrr := dk_read Sx D Sx a b n buf5 ws5 _ st5 _ I2.out.dk.s I2.out.ok.lt hln I2.out.ok.len (by have := HN.out; omega) (by have := HN.out; omega) (by have := I2.out.ok.nw; omega)
                  rw [hsay] at hrr
                  refine hrr.mono ?_
                  clear hrr hsay hlk hmk hcv
                  rintro x w16 ⟨rfl, b16⟩
                  have I3 := Lib.hid (I2.out.below b16)
                  clear b16 I2 I
                  generalize txt (List.replicate a 0) = Y at *
                  go_wp2
                  go_roundw
                  case rel => (first | exact ⟨n + 1, by omega, by go_num, I3.out⟩ | ((repeat apply Exists.intro); exact ⟨⟨n + 1, by omega, by go_num, I3.out⟩, rfl⟩))
                  case measure => simp [intOf]; omega
                · rw [hfn] at hlk hsay
                  simp only [Option.getD_some, Option.isSome_some] at hlk hsay
                  clear hfn
                  go_wp2_with fail
                  have hrr := dk_read Sx D Sx a b n buf5 ws5 _ st5 _ I.out.dk.s I.out.ok.lt hln I.out.ok.len (by have := HN.out; omega) (by have := HN.out; omega) (by have := I.out.ok.nw; omega)
                  rw [hsay] at hrr
                  refine hrr.mono ?_
                  clear hrr hsay hlk
                  rintro x w16 ⟨rfl, b16⟩
                  have I3 := Lib.hid (I.out.below b16)
                  clear b16 I
                  go_wp2
                  go_roundw
                  case rel => (first | exact ⟨n + 1, by omega, by go_num, I3.out⟩ | ((repeat apply Exists.intro); exact ⟨⟨n + 1, by omega, by go_num, I3.out⟩, rfl⟩))
                  case measure => simp [intOf]; omega
              · go_wp2
                go_roundw
                case rel => (first | exact ⟨j + 1, buf5, ws5, armed5, st5, f5, by omega, by go_num, I.out⟩ | ((repeat apply Exists.intro); exact ⟨⟨j + 1, buf5, ws5, armed5, st5, f5, by omega, by go_num, I.out⟩, rfl⟩))
                case measure => simp [intOf]; omega
          · skip
            go_simp
            (first | (refine hK _ _ ?_; clear hK K) | skip)
            refine wpAny_ready (rs := [2, 4]) (by kernel_rfl) (by simp) ?_
            refine (AllReady.cons rfl (fun K hK => ?_) (AllReady.cons rfl (fun K hK => ?_) AllReady.nil))
            · skip
              go_simp
              (first | (refine hK _ _ ?_; clear hK K) | skip)
              refine wpAny_ready (rs := [4]) (by kernel_rfl) (by simp) ?_
              refine AllReady.cons rfl (fun K hK => ?_) AllReady.nil
              go_simp
              refine (act_text 0 c.n c.long c.s _ _ HF.out.1).mono ?_
              rintro e z1 ⟨rfl, hb1⟩
              (first | (refine hK _ _ ?_; clear hK K) | skip)
              have R7 := Lib.hid (RX.out.below hb1)
              have HX7 := Lib.hid (Kq.below_blk hb1 HXD.out (Kq.blk_lt HXD.out))
              clear hb1 c0 c1 c2 c3 c4 RX HXD
              have c1 := Kq.blk_cell HX7.out 1
              refine wpAny_ready (rs := [5]) (by kernel_rfl) (by simp) ?_
              refine AllReady.cons rfl (fun K hK => ?_) AllReady.nil
              have hmw := R7.out.put (by omega) c.n HF.out.2.2.2.2 (actText c.s c.long) (by rw [actText_size]; have := actLen_le c.long; unfold maxLen; omega) (if_pos ⟨k0, hcode⟩)
              obtain ⟨z3, hrun, hR3⟩ := hmw
              go_simp
              (first | (refine hK _ _ ?_; clear hK K) | skip)
              have R5 := Lib.hid hR3
              clear hR3 hrun R7
              generalize fF a b c ws armed st f = f5 at *
              generalize (doF a b c ws armed st).1 = ws5 at *
              generalize (doF a b c ws armed st).2.1 = armed5 at *
              generalize (doF a b c ws armed st).2.2.1 = st5 at *
              refine wpAny_done (by kernel_rfl) ?_ _
              go_wp2
              go_loopw [13] (fun i wr => ∃ n : Nat, n ≤ b ∧ i = .int .i64 (n : Int) ∧ Rd W wr Sx D M a b (j + 1) (j + 1) buf5 ws5 armed5 st5 f5 f5) (fun i _ => b - (intOf i).toNat)
              case atStart => exact ⟨0, Nat.zero_le _, rfl, R5.out⟩
              case round =>
                obtain ⟨n, hn, rfl, hR⟩ := hrel
                have I := Lib.hid hR
                clear hR R5
                (try clear t0)
                (try clear hcode)
                by_cases hln : n < b
                · have hb64 := HN.out.2.1.2
                  have hlk := I.out.mp.look (n : Int) (by simp [Lit.wf, IntKind.min, IntKind.max, IntKind.signed, IntKind.bits]; omega)
                  have hsay := I.out.says n hln
                  rcases hfn : f5 (n : Int) with _ | s
                  · rw [hfn] at hlk hsay
                    simp only [Option.getD_none, Option.isSome_none] at hlk hsay
                    have hmk := fun w => mk_bytes w a a rfl (by have := HN.out; omega)
                    have hcv := fun w => cv_zeros a w
                    have I2 := Lib.hid (I.out.below (Kq.below_alloc wr (.cells (zrow a) 5)))
                    clear hfn
                    go_wp2_with fail
                    have hrr := dk_read Sx D Sx a b n buf5 ws5 _ st5 _ I2.out.dk.s I2.out.ok.lt hln I2.out.ok.len (by have := HN.out; omega) (by have := HN.out; omega) (by have := I2.out.ok.nw; omega)
                    rw [hsay] at hrr
                    refine hrr.mono ?_
                    clear hrr hsay hlk hmk hcv
                    rintro x w16 ⟨rfl, b16⟩
                    have I3 := Lib.hid (I2.out.below b16)
                    clear b16 I2 I
                    generalize txt (List.replicate a 0) = Y at *
                    go_wp2
                    go_roundw
                    case rel => (first | exact ⟨n + 1, by omega, by go_num, I3.out⟩ | ((repeat apply Exists.intro); exact ⟨⟨n + 1, by omega, by go_num, I3.out⟩, rfl⟩))
                    case measure => simp [intOf]; omega
                  · rw [hfn] at hlk hsay
                    simp only [Option.getD_some, Option.isSome_some] at hlk hsay
                    clear hfn
                    go_wp2_with fail
                    have hrr := dk_read Sx D Sx a b n buf5 ws5 _ st5 _ I.out.dk.s I.out.ok.lt hln I.out.ok.len (by have := HN.out; omega) (by have := HN.out; omega) (by have := I.out.ok.nw; omega)
                    rw [hsay] at hrr
                    refine hrr.mono ?_
                    clear hrr hsay hlk
                    rintro x w16 ⟨rfl, b16⟩
                    have I3 := Lib.hid (I.out.below b16)
                    clear b16 I
                    go_wp2
                    go_roundw
                    case rel => (first | exact ⟨n + 1, by omega, by go_num, I3.out⟩ | ((repeat apply Exists.intro); exact ⟨⟨n + 1, by omega, by go_num, I3.out⟩, rfl⟩))
                    case measure => simp [intOf]; omega
                · go_wp2
                  go_roundw
                  case rel => (first | exact ⟨j + 1, buf5, ws5, armed5, st5, f5, by omega, by go_num, I.out⟩ | ((repeat apply Exists.intro); exact ⟨⟨j + 1, buf5, ws5, armed5, st5, f5, by omega, by go_num, I.out⟩, rfl⟩))
                  case measure => simp [intOf]; omega
            · skip
              go_simp
              refine (act_text 0 c.n c.long c.s _ _ HF.out.1).mono ?_
              rintro e z1 ⟨rfl, hb1⟩
              (first | (refine hK _ _ ?_; clear hK K) | skip)
              have R7 := Lib.hid (RX.out.below hb1)
              have HX7 := Lib.hid (Kq.below_blk hb1 HXD.out (Kq.blk_lt HXD.out))
              clear hb1 c0 c1 c2 c3 c4 RX HXD
              have c1 := Kq.blk_cell HX7.out 1
              refine wpAny_ready (rs := [2]) (by kernel_rfl) (by simp) ?_
              refine AllReady.cons rfl (fun K hK => ?_) AllReady.nil
              go_simp
              (first | (refine hK _ _ ?_; clear hK K) | skip)
              refine wpAny_ready (rs := [5]) (by kernel_rfl) (by simp) ?_
              refine AllReady.cons rfl (fun K hK => ?_) AllReady.nil
              have hmw := R7.out.put (by omega) c.n HF.out.2.2.2.2 (actText c.s c.long) (by rw [actText_size]; have := actLen_le c.long; unfold maxLen; omega) (if_pos ⟨k0, hcode⟩)
              obtain ⟨z3, hrun, hR3⟩ := hmw
              go_simp
              (first | (refine hK _ _ ?_; clear hK K) | skip)
              have R5 := Lib.hid hR3
              clear hR3 hrun R7
              generalize fF a b c ws armed st f = f5 at *
              generalize (doF a b c ws armed st).1 = ws5 at *
              generalize (doF a b c ws armed st).2.1 = armed5 at *
              generalize (doF a b c ws armed st).2.2.1 = st5 at *
              refine wpAny_done (by kernel_rfl) ?_ _
              go_wp2
              go_loopw [13] (fun i wr => ∃ n : Nat, n ≤ b ∧ i = .int .i64 (n : Int) ∧ Rd W wr Sx D M a b (j + 1) (j + 1) buf5 ws5 armed5 st5 f5 f5) (fun i _ => b - (intOf i).toNat)
              case atStart => exact ⟨0, Nat.zero_le _, rfl, R5.out⟩
              case round =>
                obtain ⟨n, hn, rfl, hR⟩ := hrel
                have I := Lib.hid hR
                clear hR R5
                (try clear t0)
                (try clear hcode)
                by_cases hln : n < b
                · have hb64 := HN.out.2.1.2
                  have hlk := I.out.mp.look (n : Int) (by simp [Lit.wf, IntKind.min, IntKind.max, IntKind.signed, IntKind.bits]; omega)
                  have hsay := I.out.says n hln
                  rcases hfn : f5 (n : Int) with _ | s
                  · rw [hfn] at hlk hsay
                    simp only [Option.getD_none, Option.isSome_none] at hlk hsay
                    have hmk := fun w => mk_bytes w a a rfl (by have := HN.out; omega)
                    have hcv := fun w => cv_zeros a w
                    have I2 := Lib.hid (I.out.below (Kq.below_alloc wr (.cells (zrow a) 5)))
                    clear hfn
                    go_wp2_with fail
                    have hrr := dk_read Sx D Sx a b n buf5 ws5 _ st5 _ I2.out.dk.s I2.out.ok.lt hln I2.out.ok.len (by have := HN.out; omega) (by have := HN.out; omega) (by have := I2.out.ok.nw; omega)
                    rw [hsay] at hrr
                    refine hrr.mono ?_
                    clear hrr hsay hlk hmk hcv
                    rintro x w16 ⟨rfl, b16⟩
                    have I3 := Lib.hid (I2.out.below b16)
                    clear b16 I2 I
                    generalize txt (List.replicate a 0) = Y at *
                    go_wp2
                    go_roundw
                    case rel => (first | exact ⟨n + 1, by omega, by go_num, I3.out⟩ | ((repeat apply Exists.intro); exact ⟨⟨n + 1, by omega, by go_num, I3.out⟩, rfl⟩))
                    case measure => simp [intOf]; omega
                  · rw [hfn] at hlk hsay
                    simp only [Option.getD_some, Option.isSome_some] at hlk hsay
                    clear hfn
                    go_wp2_with fail
                    have hrr := dk_read Sx D Sx a b n buf5 ws5 _ st5 _ I.out.dk.s I.out.ok.lt hln I.out.ok.len (by have := HN.out; omega) (by have := HN.out; omega) (by have := I.out.ok.nw; omega)
                    rw [hsay] at hrr
                    refine hrr.mono ?_
                    clear hrr hsay hlk
                    rintro x w16 ⟨rfl, b16⟩
                    have I3 := Lib.hid (I.out.below b16)
                    clear b16 I
                    go_wp2
                    go_roundw
                    case rel => (first | exact ⟨n + 1, by omega, by go_num, I3.out⟩ | ((repeat apply Exists.intro); exact ⟨⟨n + 1, by omega, by go_num, I3.out⟩, rfl⟩))
                    case measure => simp [intOf]; omega
                · go_wp2
                  go_roundw
                  case rel => (first | exact ⟨j + 1, buf5, ws5, armed5, st5, f5, by omega, by go_num, I.out⟩ | ((repeat apply Exists.intro); exact ⟨⟨j + 1, buf5, ws5, armed5, st5, f5, by omega, by go_num, I.out⟩, rfl⟩))
                  case measure => simp [intOf]; omega
        · skip
          clear c0
          rcases code_cases (a := a) (b := b) (ws := ws) (armed := armed) (st := st) k0 with hc | hc | hc
          · exact absurd hc hcode
          · skip
            have hfe : fF a b c ws armed st f = f := if_neg (by omega)
            have hup := R6.out.up (k := j + 1) (l := j + 1) (Nat.le_refl _) (Nat.le_succ j)
            rw [hfe] at hup
            have R5 : Hid (Rd W w5 Sx D M a b (j + 1) (j + 1) buf5 (doF a b c ws armed st).1 (doF a b c ws armed st).2.1 (doF a b c ws armed st).2.2.1 f f) := Lib.hid hup
            clear hup hfe
            clear R6
            have c0 := Kq.blk_cell HX5.out 0
            rw [hc]
            clear hc hcode
            generalize (doF a b c ws armed st).1 = ws5 at *
            generalize (doF a b c ws armed st).2.1 = armed5 at *
            generalize (doF a b c ws armed st).2.2.1 = st5 at *
            obtain ⟨f5, hf5⟩ : ∃ x, x = f := ⟨_, rfl⟩
            rw [← hf5] at R5
            clear hf5
            go_wp2
            go_loopw [13] (fun i wr => ∃ n : Nat, n ≤ b ∧ i = .int .i64 (n : Int) ∧ Rd W wr Sx D M a b (j + 1) (j + 1) buf5 ws5 armed5 st5 f5 f5) (fun i _ => b - (intOf i).toNat)
            case atStart => exact ⟨0, Nat.zero_le _, rfl, R5.out⟩
            case round =>
              obtain ⟨n, hn, rfl, hR⟩ := hrel
              have I := Lib.hid hR
              clear hR R5
              (try clear t0)
              (try clear hcode)
              by_cases hln : n < b
              · have hb64 := HN.out.2.1.2
                have hlk := I.out.mp.look (n : Int) (by simp [Lit.wf, IntKind.min, IntKind.max, IntKind.signed, IntKind.bits]; omega)
                have hsay := I.out.says n hln
                rcases hfn : f5 (n : Int) with _ | s
                · rw [hfn] at hlk hsay
                  simp only [Option.getD_none, Option.isSome_none] at hlk hsay
                  have hmk := fun w => mk_bytes w a a rfl (by have := HN.out; omega)
                  have hcv := fun w => cv_zeros a w
                  have I2 := Lib.hid (I.out.below (Kq.below_alloc wr (.cells (zrow a) 5)))
                  clear hfn
                  go_wp2_with fail
                  have hrr := dk_read Sx D Sx a b n buf5 ws5 _ st5 _ I2.out.dk.s I2.out.ok.lt hln I2.out.ok.len (by have := HN.out; omega) (by have := HN.out; omega) (by have := I2.out.ok.nw; omega)
                  rw [hsay] at hrr
                  refine hrr.mono ?_
                  clear hrr hsay hlk hmk hcv
                  rintro x w16 ⟨rfl, b16⟩
                  have I3 := Lib.hid (I2.out.below b16)
                  clear b16 I2 I
                  generalize txt (List.replicate a 0) = Y at *
                  go_wp2
                  go_roundw
                  case rel => (first | exact ⟨n + 1, by omega, by go_num, I3.out⟩ | ((repeat apply Exists.intro); exact ⟨⟨n + 1, by omega, by go_num, I3.out⟩, rfl⟩))
                  case measure => simp [intOf]; omega
                · rw [hfn] at hlk hsay
                  simp only [Option.getD_some, Option.isSome_some] at hlk hsay
                  clear hfn
                  go_wp2_with fail
                  have hrr := dk_read Sx D Sx a b n buf5 ws5 _ st5 _ I.out.dk.s I.out.ok.lt hln I.out.ok.len (by have := HN.out; omega) (by have := HN.out; omega) (by have := I.out.ok.nw; omega)
                  rw [hsay] at hrr
                  refine hrr.mono ?_
                  clear hrr hsay hlk
                  rintro x w16 ⟨rfl, b16⟩
                  have I3 := Lib.hid (I.out.below b16)
                  clear b16 I
                  go_wp2
                  go_roundw
                  case rel => (first | exact ⟨n + 1, by omega, by go_num, I3.out⟩ | ((repeat apply Exists.intro); exact ⟨⟨n + 1, by omega, by go_num, I3.out⟩, rfl⟩))
                  case measure => simp [intOf]; omega
              · go_wp2
                go_roundw
                case rel => (first | exact ⟨j + 1, buf5, ws5, armed5, st5, f5, by omega, by go_num, I.out⟩ | ((repeat apply Exists.intro); exact ⟨⟨j + 1, buf5, ws5, armed5, st5, f5, by omega, by go_num, I.out⟩, rfl⟩))
                case measure => simp [intOf]; omega
          · skip
            have hfe : fF a b c ws armed st f = f := if_neg (by omega)
            have hup := R6.out.up (k := j + 1) (l := j + 1) (Nat.le_refl _) (Nat.le_succ j)
            rw [hfe] at hup
            have R5 : Hid (Rd W w5 Sx D M a b (j + 1) (j + 1) buf5 (doF a b c ws armed st).1 (doF a b c ws armed st).2.1 (doF a b c ws armed st).2.2.1 f f) := Lib.hid hup
            clear hup hfe
            clear R6
            have c0 := Kq.blk_cell HX5.out 0
            rw [hc]
            clear hc hcode
            generalize (doF a b c ws armed st).1 = ws5 at *
            generalize (doF a b c ws armed st).2.1 = armed5 at *
            generalize (doF a b c ws armed st).2.2.1 = st5 at *
            obtain ⟨f5, hf5⟩ : ∃ x, x = f := ⟨_, rfl⟩
            rw [← hf5] at R5
            clear hf5
            go_wp2
            go_loopw [13] (fun i wr => ∃ n : Nat, n ≤ b ∧ i = .int .i64 (n : Int) ∧ Rd W wr Sx D M a b (j + 1) (j + 1) buf5 ws5 armed5 st5 f5 f5) (fun i _ => b - (intOf i).toNat)
            case atStart => exact ⟨0, Nat.zero_le _, rfl, R5.out⟩
            case round =>
              obtain ⟨n, hn, rfl, hR⟩ := hrel
              have I := Lib.hid hR
              clear hR R5
              (try clear t0)
              (try clear hcode)
              by_cases hln : n < b
              · have hb64 := HN.out.2.1.2
                have hlk := I.out.mp.look (n : Int) (by simp [Lit.wf, IntKind.min, IntKind.max, IntKind.signed, IntKind.bits]; omega)
                have hsay := I.out.says n hln
                rcases hfn : f5 (n : Int) with _ | s
                · rw [hfn] at hlk hsay
                  simp only [Option.getD_none, Option.isSome_none] at hlk hsay
                  have hmk := fun w => mk_bytes w a a rfl (by have := HN.out; omega)
                  have hcv := fun w => cv_zeros a w
                  have I2 := Lib.hid (I.out.below (Kq.below_alloc wr (.cells (zrow a) 5)))
                  clear hfn
                  go_wp2_with fail
                  have hrr := dk_read Sx D Sx a b n buf5 ws5 _ st5 _ I2.out.dk.s I2.out.ok.lt hln I2.out.ok.len (by have := HN.out; omega) (by have := HN.out; omega) (by have := I2.out.ok.nw; omega)
                  rw [hsay] at hrr
                  refine hrr.mono ?_
                  clear hrr hsay hlk hmk hcv
                  rintro x w16 ⟨rfl, b16⟩
                  have I3 := Lib.hid (I2.out.below b16)
                  clear b16 I2 I
                  generalize txt (List.replicate a 0) = Y at *
                  go_wp2
                  go_roundw
                  case rel => (first | exact ⟨n + 1, by omega, by go_num, I3.out⟩ | ((repeat apply Exists.intro); exact ⟨⟨n + 1, by omega, by go_num, I3.out⟩, rfl⟩))
                  case measure => simp [intOf]; omega
                · rw [hfn] at hlk hsay
                  simp only [Option.getD_some, Option.isSome_some] at hlk hsay
                  clear hfn
                  go_wp2_with fail
                  have hrr := dk_read Sx D Sx a b n buf5 ws5 _ st5 _ I.out.dk.s I.out.ok.lt hln I.out.ok.len (by have := HN.out; omega) (by have := HN.out; omega) (by have := I.out.ok.nw; omega)
                  rw [hsay] at hrr
                  refine hrr.mono ?_
                  clear hrr hsay hlk
                  rintro x w16 ⟨rfl, b16⟩
                  have I3 := Lib.hid (I.out.below b16)
                  clear b16 I
                  go_wp2
                  go_roundw
                  case rel => (first | exact ⟨n + 1, by omega, by go_num, I3.out⟩ | ((repeat apply Exists.intro); exact ⟨⟨n + 1, by omega, by go_num, I3.out⟩, rfl⟩))
                  case measure => simp [intOf]; omega
              · go_wp2
                go_roundw
                case rel => (first | exact ⟨j + 1, buf5, ws5, armed5, st5, f5, by omega, by go_num, I.out⟩ | ((repeat apply Exists.intro); exact ⟨⟨j + 1, buf5, ws5, armed5, st5, f5, by omega, by go_num, I.out⟩, rfl⟩))
                case measure => simp [intOf]; omega
      · by_cases k1 : c.kind = 1
        · skip
          rw [k1] at c0
          go_wp2_with fail
          have HX := Lib.hid (Kq.blk_new wr #[.int .i64 1, .int .i64 c.n, .int .i64 c.long, .string c.s, .slice c.la c.l.length c.lcap] 43 (0, 0))
          have R4 := Lib.hid (HD.out.below (Kq.below_alloc wr (.cells #[.int .i64 1, .int .i64 c.n, .int .i64 c.long, .string c.s, .slice c.la c.l.length c.lcap] 43)))
          have HV : Hid (¬ Own D Sx buf wr.heap.size) := Lib.hid (fun h => absurd (HD.out.dk.s.own_lt h) (Nat.lt_irrefl _))
          have hdo := dk_do Sx D Sx a b buf ws armed st c _ R4.out.dk.s (StOk.up R4.out.ok (by omega)) (by have := HN.out; omega) (by have := HN.out; omega) (by have := HN.out; omega) HF.out.1 HF.out.2.1 (HF.out.2.2.1.below (Kq.below_alloc wr (.cells #[.int .i64 1, .int .i64 c.n, .int .i64 c.long, .string c.s, .slice c.la c.l.length c.lcap] 43))) HF.out.2.2.2.1
          rw [k1] at hdo
          refine hdo.mono ?_
          clear hdo c0 c1 c2 c3 c4
          rintro x w5 ⟨rfl, buf5, D5, K5, F5⟩
          have R6 := Lib.hid (R4.out.step HF.out.2.2.2.2 (Or.inr (Or.inl k1)) D5 K5 F5)
          have HX5 := Lib.hid (K5.blk HX.out HV.out)
          clear D5 K5 F5 R4 HX HV HD
          generalize wr.heap.size = V at *
          have hfe : fF a b c ws armed st f = f := if_neg (by omega)
          have hup := R6.out.up (k := j + 1) (l := j + 1) (Nat.le_refl _) (Nat.le_succ j)
          rw [hfe] at hup
          have R5 : Hid (Rd W w5 Sx D M a b (j + 1) (j + 1) buf5 (doF a b c ws armed st).1 (doF a b c ws armed st).2.1 (doF a b c ws armed st).2.2.1 f f) := Lib.hid hup
          clear hup hfe
          clear R6
          have c0 := Kq.blk_cell HX5.out 0
          generalize (doF a b c ws armed st).2.2.2 = cd at *
          generalize (doF a b c ws armed st).1 = ws5 at *
          generalize (doF a b c ws armed st).2.1 = armed5 at *
          generalize (doF a b c ws armed st).2.2.1 = st5 at *
          obtain ⟨f5, hf5⟩ : ∃ x, x = f := ⟨_, rfl⟩
          rw [← hf5] at R5
          clear hf5
          go_wp2
          go_loopw [13] (fun i wr => ∃ n : Nat, n ≤ b ∧ i = .int .i64 (n : Int) ∧ Rd W wr Sx D M a b (j + 1) (j + 1) buf5 ws5 armed5 st5 f5 f5) (fun i _ => b - (intOf i).toNat)
          case atStart => exact ⟨0, Nat.zero_le _, rfl, R5.out⟩
          case round =>
            obtain ⟨n, hn, rfl, hR⟩ := hrel
            have I := Lib.hid hR
            clear hR R5
            (try clear t0)
            (try clear hcode)
            by_cases hln : n < b
            · have hb64 := HN.out.2.1.2
              have hlk := I.out.mp.look (n : Int) (by simp [Lit.wf, IntKind.min, IntKind.max, IntKind.signed, IntKind.bits]; omega)
              have hsay := I.out.says n hln
              rcases hfn : f5 (n : Int) with _ | s
              · rw [hfn] at hlk hsay
                simp only [Option.getD_none, Option.isSome_none] at hlk hsay
                have hmk := fun w => mk_bytes w a a rfl (by have := HN.out; omega)
                have hcv := fun w => cv_zeros a w
                have I2 := Lib.hid (I.out.below (Kq.below_alloc wr (.cells (zrow a) 5)))
                clear hfn
                go_wp2_with fail
                have hrr := dk_read Sx D Sx a b n buf5 ws5 _ st5 _ I2.out.dk.s I2.out.ok.lt hln I2.out.ok.len (by have := HN.out; omega) (by have := HN.out; omega) (by have := I2.out.ok.nw; omega)
                rw [hsay] at hrr
                refine hrr.mono ?_
                clear hrr hsay hlk hmk hcv
                rintro x w16 ⟨rfl, b16⟩
                have I3 := Lib.hid (I2.out.below b16)
                clear b16 I2 I
                generalize txt (List.replicate a 0) = Y at *
                go_wp2
                go_roundw
                case rel => (first | exact ⟨n + 1, by omega, by go_num, I3.out⟩ | ((repeat apply Exists.intro); exact ⟨⟨n + 1, by omega, by go_num, I3.out⟩, rfl⟩))
                case measure => simp [intOf]; omega
              · rw [hfn] at hlk hsay
                simp only [Option.getD_some, Option.isSome_some] at hlk hsay
                clear hfn
                go_wp2_with fail
                have hrr := dk_read Sx D Sx a b n buf5 ws5 _ st5 _ I.out.dk.s I.out.ok.lt hln I.out.ok.len (by have := HN.out; omega) (by have := HN.out; omega) (by have := I.out.ok.nw; omega)
                rw [hsay] at hrr
                refine hrr.mono ?_
                clear hrr hsay hlk
                rintro x w16 ⟨rfl, b16⟩
                have I3 := Lib.hid (I.out.below b16)
                clear b16 I
                go_wp2
                go_roundw
                case rel => (first | exact ⟨n + 1, by omega, by go_num, I3.out⟩ | ((repeat apply Exists.intro); exact ⟨⟨n + 1, by omega, by go_num, I3.out⟩, rfl⟩))
                case measure => simp [intOf]; omega
            · go_wp2
              go_roundw
              case rel => (first | exact ⟨j + 1, buf5, ws5, armed5, st5, f5, by omega, by go_num, I.out⟩ | ((repeat apply Exists.intro); exact ⟨⟨j + 1, buf5, ws5, armed5, st5, f5, by omega, by go_num, I.out⟩, rfl⟩))
              case measure => simp [intOf]; omega
        · by_cases k2 : c.kind = 2
          · skip
            rw [k2] at c0
            go_wp2_with fail
            have HX := Lib.hid (Kq.blk_new wr #[.int .i64 2, .int .i64 c.n, .int .i64 c.long, .string c.s, .slice c.la c.l.length c.lcap] 43 (0, 0))
            have R4 := Lib.hid (HD.out.below (Kq.below_alloc wr (.cells #[.int .i64 2, .int .i64 c.n, .int .i64 c.long, .string c.s, .slice c.la c.l.length c.lcap] 43)))
            have HV : Hid (¬ Own D Sx buf wr.heap.size) := Lib.hid (fun h => absurd (HD.out.dk.s.own_lt h) (Nat.lt_irrefl _))
            have hdo := dk_do Sx D Sx a b buf ws armed st c _ R4.out.dk.s (StOk.up R4.out.ok (by omega)) (by have := HN.out; omega) (by have := HN.out; omega) (by have := HN.out; omega) HF.out.1 HF.out.2.1 (HF.out.2.2.1.below (Kq.below_alloc wr (.cells #[.int .i64 2, .int .i64 c.n, .int .i64 c.long, .string c.s, .slice c.la c.l.length c.lcap] 43))) HF.out.2.2.2.1
            rw [k2] at hdo
            refine hdo.mono ?_
            clear hdo c0 c1 c2 c3 c4
            rintro x w5 ⟨rfl, buf5, D5, K5, F5⟩
            have R6 := Lib.hid (R4.out.step HF.out.2.2.2.2 (Or.inr (Or.inr k2)) D5 K5 F5)
            have HX5 := Lib.hid (K5.blk HX.out HV.out)
            clear D5 K5 F5 R4 HX HV HD
            generalize wr.heap.size = V at *
            have hfe : fF a b c ws armed st f = f := if_neg (by omega)
            have hup := R6.out.up (k := j + 1) (l := j + 1) (Nat.le_refl _) (Nat.le_succ j)
            rw [hfe] at hup
            have R5 : Hid (Rd W w5 Sx D M a b (j + 1) (j + 1) buf5 (doF a b c ws armed st).1 (doF a b c ws armed st).2.1 (doF a b c ws armed st).2.2.1 f f) := Lib.hid hup
            clear hup hfe
            clear R6
            have c0 := Kq.blk_cell HX5.out 0
            generalize (doF a b c ws armed st).2.2.2 = cd at *
            generalize (doF a b c ws armed st).1 = ws5 at *
            generalize (doF a b c ws armed st).2.1 = armed5 at *
            generalize (doF a b c ws armed st).2.2.1 = st5 at *
            obtain ⟨f5, hf5⟩ : ∃ x, x = f := ⟨_, rfl⟩
            rw [← hf5] at R5
            clear hf5
            go_wp2
            go_loopw [13] (fun i wr => ∃ n : Nat, n ≤ b ∧ i = .int .i64 (n : Int) ∧ Rd W wr Sx D M a b (j + 1) (j + 1) buf5 ws5 armed5 st5 f5 f5) (fun i _ => b - (intOf i).toNat)
            case atStart => exact ⟨0, Nat.zero_le _, rfl, R5.out⟩
            case round =>
              obtain ⟨n, hn, rfl, hR⟩ := hrel
              have I := Lib.hid hR
              clear hR R5
              (try clear t0)
              (try clear hcode)
              by_cases hln : n < b
              · have hb64 := HN.out.2.1.2
                have hlk := I.out.mp.look (n : Int) (by simp [Lit.wf, IntKind.min, IntKind.max, IntKind.signed, IntKind.bits]; omega)
                have hsay := I.out.says n hln
                rcases hfn : f5 (n : Int) with _ | s
                · rw [hfn] at hlk hsay
                  simp only [Option.getD_none, Option.isSome_none] at hlk hsay
                  have hmk := fun w => mk_bytes w a a rfl (by have := HN.out; omega)
                  have hcv := fun w => cv_zeros a w
                  have I2 := Lib.hid (I.out.below (Kq.below_alloc wr (.cells (zrow a) 5)))
                  clear hfn
                  go_wp2_with fail
                  have hrr := dk_read Sx D Sx a b n buf5 ws5 _ st5 _ I2.out.dk.s I2.out.ok.lt hln I2.out.ok.len (by have := HN.out; omega) (by have := HN.out; omega) (by have := I2.out.ok.nw; omega)
                  rw [hsay] at hrr
                  refine hrr.mono ?_
                  clear hrr hsay hlk hmk hcv
                  rintro x w16 ⟨rfl, b16⟩
                  have I3 := Lib.hid (I2.out.below b16)
                  clear b16 I2 I
                  generalize txt (List.replicate a 0) = Y at *
                  go_wp2
                  go_roundw
                  case rel => (first | exact ⟨n + 1, by omega, by go_num, I3.out⟩ | ((repeat apply Exists.intro); exact ⟨⟨n + 1, by omega, by go_num, I3.out⟩, rfl⟩))
                  case measure => simp [intOf]; omega
                · rw [hfn] at hlk hsay
                  simp only [Option.getD_some, Option.isSome_some] at hlk hsay
                  clear hfn
                  go_wp2_with fail
                  have hrr := dk_read Sx D Sx a b n buf5 ws5 _ st5 _ I.out.dk.s I.out.ok.lt hln I.out.ok.len (by have := HN.out; omega) (by have := HN.out; omega) (by have := I.out.ok.nw; omega)
                  rw [hsay] at hrr
                  refine hrr.mono ?_
                  clear hrr hsay hlk
                  rintro x w16 ⟨rfl, b16⟩
                  have I3 := Lib.hid (I.out.below b16)
                  clear b16 I
                  go_wp2
                  go_roundw
                  case rel => (first | exact ⟨n + 1, by omega, by go_num, I3.out⟩ | ((repeat apply Exists.intro); exact ⟨⟨n + 1, by omega, by go_num, I3.out⟩, rfl⟩))
                  case measure => simp [intOf]; omega
              · go_wp2
                go_roundw
                case rel => (first | exact ⟨j + 1, buf5, ws5, armed5, st5, f5, by omega, by go_num, I.out⟩ | ((repeat apply Exists.intro); exact ⟨⟨j + 1, buf5, ws5, armed5, st5, f5, by omega, by go_num, I.out⟩, rfl⟩))
                case measure => simp [intOf]; omega
          · have t0 : (c.kind != 0) = true := by simpa using k0
            have t1 : (c.kind != 1) = true := by simpa using k1
            have t2 : (c.kind != 2) = true := by simpa using k2
            have u0 : decide (c.kind = 0) = false := decide_eq_false k0
            have u1 : decide (c.kind = 1) = false := decide_eq_false k1
            have u2 : decide (c.kind = 2) = false := decide_eq_false k2
            go_wp2
            have R4 := Lib.hid ((HD.out.below (Kq.below_alloc wr (.cells #[.int .i64 c.kind, .int .i64 c.n, .int .i64 c.long, .string c.s, .slice c.la c.l.length c.lcap] 43))).up (Nat.le_succ j) (Nat.le_succ j))
            go_roundw
            case rel => (first | exact ⟨j + 1, _, _, _, _, _, by omega, by go_num, R4.out⟩ | ((repeat apply Exists.intro); exact ⟨⟨j + 1, _, _, _, _, _, by omega, by go_num, R4.out⟩, rfl⟩))
            case measure => simp [intOf]; omega
    · go_wp2
      go_ret
      exact ⟨rfl, HD.out.dk.bel⟩
end Go.Proofs.Ytcnoakngnjbkiaa.diskReads
namespace Go.Proofs.Ytcnoakngnjbkiaa
open Go.RowKit
theorem diskReads_walk (a b : Int) (v : Value) {W : World} (wa : (Lit.int .i64 a).wf = true) (wb : (Lit.int .i64 b).wf = true) (h2 : ∃ A cap l, v = .slice A l.length cap ∧ l.length ≤ maxLen ∧ ActsAt W A l) :
    Calls Try.prog 7 #[.int .i64 a, .int .i64 b, v] W fun x w' => x = .returned (.bool true) ∧ Below W.heap.size W w' := by
  obtain ⟨A, cap, l, rfl, _, hc⟩ := h2
  by_cases hf : fewOk a b l
  · obtain ⟨n, rfl⟩ := Int.eq_ofNat_of_zero_le (show 0 ≤ a by have := hf.1.1; omega)
    obtain ⟨m, rfl⟩ := Int.eq_ofNat_of_zero_le (show 0 ≤ b by have := hf.1.2.2.1; omega)
    exact diskReads.few_ n m A cap l W hc hf
  · exact diskReads.many a b A cap l W hc hf
end Go.Proofs.Ytcnoakngnjbkiaa
