/- Package script's Entries: the walk. Condition: the text's size. -/
import Derived.WalkSpells
import Derived.Outline
import Derived.ProofKit
import Derived.Test.YtjilbcefikbihaaScEnQ
namespace Go.Proofs.Ytjilbcefikbihaa
open Go.RowKit
set_option linter.unusedVariables false
theorem forms_one {lo hi : Nat} {w : World} {vs : Array Value} (h : FormsAre lo hi w vs) : vs.all (·.oneCell') = true := by
  rw [Array.all_eq_true]
  intro i hi'
  have h27 := h.1
  obtain ⟨f1, f2, f3, h1, h2, h3, hf⟩ := h.2 (i / 3) (by show i / 3 < 9; omega)
  obtain ⟨n1, c1, n2, c2, n3, c3, hsh⟩ := hf.shape
  injection hsh with hsh
  simp only [Array.mk.injEq, List.cons.injEq, and_true] at hsh
  obtain ⟨rfl, rfl, rfl⟩ := hsh
  have : i = i / 3 * 3 ∨ i = i / 3 * 3 + 1 ∨ i = i / 3 * 3 + 2 := by omega
  rcases this with e | e | e
  · rw [← e, Array.getElem?_eq_getElem hi'] at h1; injection h1 with h1; rw [h1]; rfl
  · rw [← e, Array.getElem?_eq_getElem hi'] at h2; injection h2 with h2; rw [h2]; rfl
  · rw [← e, Array.getElem?_eq_getElem hi'] at h3; injection h3 with h3; rw [h3]; rfl
theorem toList_sizeS (s : ByteArray) : s.toList.length = s.size := by rw [Lib.toList_data, Array.length_toList]; rfl
def strSz : Value → Nat
  | .string s => s.size
  | _ => 0
theorem zc_one (e : Int) : (#[.int .i64 0, .int .i64 0, .int .u64 0, .string ⟨#[]⟩, .int .i64 0, .int .i64 0, .int .i64 0, .int .u64 0, .int .i64 0, .int .u64 0, .int .u64 0, .string ⟨#[]⟩, .string ⟨#[]⟩, .slice none 0 0, .int .i64 e] : Array Value).all (·.oneCell') = true := by rw [← Array.all_toList]; rfl
/-- a row of entries under way -/
structure EnRow (w : World) (base : Nat) (v : Value) (xs : List EnX) : Prop where
  own : w.ownsRow base 64 15 v xs.length (enE.flat xs)
  ws : ∀ x ∈ xs, WsAt w x.sl x.a.ws ∧ (∀ b, sBlk x.sl = some b → b < w.heap.size ∧ v.ownBlock ≠ some b)
theorem EnRow.keeps {w w' : World} {base : Nat} {v : Value} {xs : List EnX} {S : Nat → Prop} (h : EnRow w base v xs) (hk : Kq.Keeps S w w') (hS : ∀ b, b < w.heap.size → ¬ S b) : EnRow w' base v xs :=
  ⟨own_later h.own (fun k hk' => hk.block k (h.own.lt k hk').2 (hS k (h.own.lt k hk').2)), fun x hx => ⟨(h.ws x hx).1.keeps hk (fun b hb => hS b ((h.ws x hx).2 b hb).1), fun b hb => ⟨Nat.lt_of_lt_of_le ((h.ws x hx).2 b hb).1 hk.size, ((h.ws x hx).2 b hb).2⟩⟩⟩
theorem EnRow.close {w8 ze z3 : World} {base : Nat} {v v' : Value} {xs : List EnX} {x : EnX} (h : EnRow w8 base v xs) (hx : WsAt w8 x.sl x.a.ws ∧ (∀ b, sBlk x.sl = some b → b < w8.heap.size ∧ v.ownBlock ≠ some b)) (hb : Below w8.heap.size w8 ze) (hg : ze.grownBy z3 v.ownBlock)
    (hown : z3.ownsRow base 64 15 v' (xs ++ [x]).length (enE.flat (xs ++ [x]))) (hf : ∀ k, v'.ownBlock = some k → some k = v.ownBlock ∨ ze.heap.size ≤ k) : EnRow z3 base v' (xs ++ [x]) := by
  refine ⟨hown, fun y hy => ?_⟩
  have hw : WsAt w8 y.sl y.a.ws ∧ (∀ b, sBlk y.sl = some b → b < w8.heap.size ∧ v.ownBlock ≠ some b) := by
    rcases List.mem_append.1 hy with h1 | h1
    · exact h.ws y h1
    · rw [List.mem_singleton.1 h1]; exact hx
  have kg : Kq.Keeps (fun k => some k = v.ownBlock) w8 z3 := (keeps_any hb).trans (Kq.Keeps.grown hg (fun k _ hk => hk.symm))
  refine ⟨hw.1.keeps kg (fun b hb' e => (hw.2 b hb').2 e.symm), fun b hb' => ⟨Nat.lt_of_lt_of_le (hw.2 b hb').1 kg.size, fun e => ?_⟩⟩
  rcases hf b e with h1 | h1
  · exact (hw.2 b hb').2 h1.symm
  · have := (hw.2 b hb').1
    have := hb.size
    omega
set_option maxRecDepth 100000 in
set_option maxHeartbeats 4000000 in
theorem sc_entries (s : ByteArray) (w : World) (hs : s.size ≤ 100000000) :
    Calls Try.prog 17 #[.string s] w fun x w' => ∃ A c xs, x = .returned (.slice A xs.length c) ∧ EnsAt w' A xs ∧ xs.map EnX.out = entF s ∧ Below w.heap.size w w' := by
  obtain ⟨i0, hi0, hz0, hz1, hz2⟩ := info_partsW infoEn
  have HSZ := Lib.hid hs
  clear hs
  go_enter Try.func17, Try.ntmps17
  go_wp2_with fail
  refine (sc_forms w).mono ?_
  rintro x w2 ⟨vs, rfl, hF, b2⟩
  have HF := Lib.hid hF
  clear hF
  go_wp2_with (refine wpList_store_row (by rfl) 70 (.tmp 3) (.tmp 8) (by rfl) w2.heap.size vs (by rfl) (by rfl) 70 _ (Kq.blk_new w2 _ _ _) (by rw [HF.out.1]; rfl) (by rw [HF.out.1]; rfl) (forms_one HF.out) ?_)
  obtain ⟨F0, hF0⟩ : ∃ z, z = w2.heap.size := ⟨_, rfl⟩
  obtain ⟨w3, hw3⟩ : ∃ z, z = (w2.alloc (.cells #[.nilFunc, .nilFunc, .nilFunc, .nilFunc, .nilFunc, .nilFunc, .nilFunc, .nilFunc, .nilFunc, .nilFunc, .nilFunc, .nilFunc, .nilFunc, .nilFunc, .nilFunc, .nilFunc, .nilFunc, .nilFunc, .nilFunc, .nilFunc, .nilFunc, .nilFunc, .nilFunc, .nilFunc, .nilFunc, .nilFunc, .nilFunc] 70)).setRow F0 vs := ⟨_, rfl⟩
  rw [hF0] at hw3
  have H3 : Hid (w3.heap[F0]? = some (.cells vs 70 (0, 0)) ∧ FormsAre w.heap.size w2.heap.size w3 vs ∧ Below w.heap.size w w3 ∧ F0 < w3.heap.size ∧ w2.heap.size ≤ w3.heap.size) := Lib.hid (by
    have ba := Kq.below_alloc w2 (.cells #[.nilFunc, .nilFunc, .nilFunc, .nilFunc, .nilFunc, .nilFunc, .nilFunc, .nilFunc, .nilFunc, .nilFunc, .nilFunc, .nilFunc, .nilFunc, .nilFunc, .nilFunc, .nilFunc, .nilFunc, .nilFunc, .nilFunc, .nilFunc, .nilFunc, .nilFunc, .nilFunc, .nilFunc, .nilFunc, .nilFunc, .nilFunc] 70)
    have ks : Kq.Keeps (· = w2.heap.size) w2 w3 := by
      rw [hw3]
      exact (keeps_any ba).trans ⟨rfl, rfl, rfl, by simp, fun k _ hk => setRow_other _ _ k _ hk⟩
    have hb : w3.heap[F0]? = some (.cells vs 70 (0, 0)) := by rw [hw3, hF0]; exact setRow_heap _ _ _ _ _ _ (Kq.blk_new w2 _ _ _)
    refine ⟨hb, ⟨HF.out.1, fun k hk => ?_⟩, ?_, Kq.blk_lt hb, ks.size⟩
    · obtain ⟨f1, f2, f3, g1, g2, g3, g4⟩ := HF.out.2 k hk
      exact ⟨f1, f2, f3, g1, g2, g3, g4.mono (fun k h1 h2 => ks.block k h2 (fun e => by omega)) (Nat.le_refl _) (Nat.le_refl _) ks.size⟩
    · exact ((keeps_any (S := (· = w2.heap.size)) b2).trans ks).below (Nat.le_refl _) (fun k hk e => by have := b2.size; omega))
  rw [← hw3]
  rw [← hF0]
  clear hw3 b2 hF0
  have HV27 : Hid (vs.size = 27) := Lib.hid HF.out.1
  clear HF
  go_wp2_with fail
  go_loopw [0, 4] (fun t l wr => ∃ s' xs, t = .string s' ∧ EnRow wr w3.heap.size l xs ∧ xs.map EnX.out ++ entF s' = entF s ∧ s'.size ≤ s.size ∧ Below w3.heap.size w3 wr) (fun t _ _ => strSz t)
  case atStart => exact ⟨s, [], rfl, ⟨⟨rfl, Or.inl ⟨rfl, rfl⟩⟩, fun x hx => by cases hx⟩, rfl, Nat.le_refl _, Below.refl _ _⟩
  case round =>
    obtain ⟨s', xs, rfl, hrow, hent, hsz, hbel⟩ := hrel
    have HH := Lib.hid (And.intro hrow (And.intro hent (And.intro hsz hbel)))
    by_cases hz : s'.size = 0
    · have he : s' = ⟨#[]⟩ := by
        apply nl_inj
        apply List.eq_nil_of_length_eq_zero
        rw [nl_length]; exact hz
      subst he
      clear hrow hent hsz hbel hz
      obtain ⟨A, cap, rfl, hl, hat, -, -⟩ := Kq.Elt.own_at (E := enE) HH.out.1.own
      have HA := Lib.hid hat
      clear hat hl
      go_wp2
      go_ret
      exact ⟨A, cap, xs, rfl, ⟨HA.out, fun x hx => (HH.out.1.ws x hx).1⟩, by have := HH.out.2.1; rw [entF_zero ⟨#[]⟩ rfl, List.append_nil] at this; exact this, H3.out.2.2.1.trans (HH.out.2.2.2.mono H3.out.2.2.1.size)⟩
    · have t0 : (s'.toList == []) = false := by rw [beq_eq_false_iff_ne]; intro e; exact hz (by rw [← toList_sizeS s', e]; rfl)
      have HZ := Lib.hid hz
      obtain ⟨k, hk1, hk2⟩ := byte_get 0 s'
      obtain ⟨s1, hs1⟩ : ∃ z, z = (byteF 0 s').2.2 := ⟨_, rfl⟩
      have HB1 := Lib.hid (byteF_some s' hz)
      have HB2 : Hid (∀ R w4 x w', BytePost w4 R 0 s' ((1 : Nat) : Int) x w' → x = .returned (.int .i64 (k : Int)) ∧ Rd w' R 0 s1 ∧ Kq.Keeps (· = R) w4 w') := Lib.hid (fun R w4 x w' h => ⟨by rw [← hk1]; exact h.1, by have h2 : Rd w' R (byteF 0 s').2.1 (byteF 0 s').2.2 := h.2.1; rw [HB1.out.1] at h2; rw [hs1]; exact h2, h.2.2⟩)
      have HK := Lib.hid (And.intro hk1 (And.intro hk2 hs1))
      clear hrow hent hsz hbel hz hk1 hk2 hs1
      go_wp2_with fail
      clear t0
      refine (rd_new s' wr).mono ?_
      rintro x w4 ⟨rfl, r4, b4⟩
      obtain ⟨R, hR⟩ : ∃ z, z = wr.heap.size := ⟨_, rfl⟩
      have H4 : Hid (Rd w4 R 0 s' ∧ Below wr.heap.size wr w4 ∧ R = wr.heap.size) := Lib.hid ⟨by rw [hR]; exact r4, b4, hR⟩
      rw [← hR]
      clear r4 b4 hR
      go_wp2_with fail
      refine (rd_byte R 0 s' w4 H4.out.1 (by have := HH.out.2.2.1; have := HSZ.out; unfold maxLen; omega)).mono ?_
      intro x w5 hp
      obtain ⟨rfl, r5, k5⟩ := HB2.out R w4 x w5 hp
      obtain ⟨E, hE⟩ : ∃ z, z = w5.heap.size := ⟨_, rfl⟩
      obtain ⟨w6, hw6⟩ : ∃ z, z = w5.alloc (.cells #[.int .i64 (k : Int), .int .i64 0, .int .u64 0, .string ⟨#[]⟩, .int .i64 0, .int .i64 0, .int .i64 0, .int .u64 0, .int .i64 0, .int .u64 0, .int .u64 0, .string ⟨#[]⟩, .string ⟨#[]⟩, .slice none 0 0, .int .i64 0] 64) := ⟨_, rfl⟩
      have HRE : Hid (Rd w6 R 0 s1 ∧ Kq.Keeps (fun k => k = R) wr w6 ∧ w6.heap[E]? = some (.cells #[.int .i64 (k : Int), .int .i64 0, .int .u64 0, .string ⟨#[]⟩, .int .i64 0, .int .i64 0, .int .i64 0, .int .u64 0, .int .i64 0, .int .u64 0, .int .u64 0, .string ⟨#[]⟩, .string ⟨#[]⟩, .slice none 0 0, .int .i64 0] 64 (0, 0)) ∧ R ≠ E ∧ w4.heap.size ≤ E) := Lib.hid (by
        have ba := Kq.below_alloc w5 (.cells #[.int .i64 (k : Int), .int .i64 0, .int .u64 0, .string ⟨#[]⟩, .int .i64 0, .int .i64 0, .int .i64 0, .int .u64 0, .int .i64 0, .int .u64 0, .int .u64 0, .string ⟨#[]⟩, .string ⟨#[]⟩, .slice none 0 0, .int .i64 0] 64)
        rw [← hw6] at ba
        exact ⟨(keeps_any (S := fun _ => False) ba).blk r5 id, ((keeps_any H4.out.2.1).trans k5).trans (keeps_any ba), by rw [hw6, hE]; exact Kq.blk_new _ _ _ _, by have := Kq.blk_lt r5; omega, by rw [hE]; exact k5.size⟩)
      have c0 : (w5.alloc (.cells #[.int .i64 (k : Int), .int .i64 0, .int .u64 0, .string ⟨#[]⟩, .int .i64 0, .int .i64 0, .int .i64 0, .int .u64 0, .int .i64 0, .int .u64 0, .int .u64 0, .string ⟨#[]⟩, .string ⟨#[]⟩, .slice none 0 0, .int .i64 0] 64)).cell? ⟨E, 0, none⟩ = some (.int .i64 (k : Int)) := by rw [← hw6]; exact Kq.blk_cell HRE.out.2.2.1 0
      clear hp r5 k5
      have HRG : Hid (Rng w.heap.size w2.heap.size w3 w6 ∧ Below w3.heap.size w3 w6 ∧ Below w5.heap.size w5 w6 ∧ w3.heap.size ≤ R ∧ w6.heap[F0]? = some (.cells vs 70 (0, 0)) ∧ EnRow w6 w3.heap.size u4 xs) := Lib.hid (by
        have hR := H4.out.2.2
        have hb := HH.out.2.2.2
        have hbs := hb.size
        have k6 := HRE.out.2.1
        have b6 : Below w3.heap.size w3 w6 := ((keeps_any (S := fun k => k = R) hb).trans k6).below (Nat.le_refl _) (fun k hk e => by omega)
        refine ⟨fun k h1 h2 => b6.block k (by have := H3.out.2.2.2.2; omega), b6, by rw [hw6]; exact Kq.below_alloc _ _, by omega, Kq.below_blk b6 H3.out.1 H3.out.2.2.2.1, HH.out.1.keeps k6 (fun b hb e => by omega)⟩)
      rw [hE] at c0
      rcases Nat.lt_or_ge k 9 with h9 | h9
      case' inl =>
        have t9 : decide ((k : Int) < 9) = true := decide_eq_true (by omega)
        have t9' : decide (k < 9) = true := decide_eq_true h9
        have h9' : (k : Int) < 9 := by omega
        obtain ⟨f1, f2, f3, g1, g2, g3, hform⟩ := H3.out.2.1.2 k h9
        obtain ⟨n1, c1, n2, c2, n3, c3, hsh⟩ := hform.shape
        injection hsh with hsh
        simp only [Array.mk.injEq, List.cons.injEq, and_true] at hsh
        obtain ⟨rfl, rfl, rfl⟩ := hsh
        have HFM : Hid (FormIs w.heap.size w2.heap.size w3 (.agg #[.func (.func n1) #[] c1, .func (.func n2) #[] c2, .func (.func n3) #[] c3]) (fmOf k)) := Lib.hid (by
          have he : formsL[k]'h9 = fmOf k := by
            show _ = (formsL[k]?).getD _
            rw [List.getElem?_eq_getElem h9]; rfl
          rw [← he]; exact hform)
        have cf : (w5.alloc (.cells #[.int .i64 (k : Int), .int .i64 0, .int .u64 0, .string ⟨#[]⟩, .int .i64 0, .int .i64 0, .int .i64 0, .int .u64 0, .int .i64 0, .int .u64 0, .int .u64 0, .string ⟨#[]⟩, .string ⟨#[]⟩, .slice none 0 0, .int .i64 0] 64)).cell? ⟨F0, k * 3 + 1, none⟩ = some (.func (.func n2) #[] c2) := by rw [← hw6, Kq.blk_cell HRG.out.2.2.2.2.1]; exact g2
        obtain ⟨_, y1, y2, y3, hyg, _, ⟨m2, d2, ⟨he2, hrun2⟩, hread⟩, _⟩ := id HFM.out
        injection hyg with hyg
        simp only [Array.mk.injEq, List.cons.injEq, and_true] at hyg
        obtain ⟨rfl, rfl, rfl⟩ := hyg
        injection he2 with q1 q2 q3
        injection q1 with q1
        subst q1 q3
        have HRP := Lib.hid hread
        have H9 := Lib.hid h9
        clear hread q2 g1 g2 g3 hform h9
        go_wp2_with fail
        rw [← hw6, ← hE]
        clear cf c0 hw6 hE hrun2
        obtain ⟨y, hy⟩ : ∃ z, z = ((fmOf k).get (zeroK k) 0 s1).1 := ⟨_, rfl⟩
        obtain ⟨e3, he3⟩ : ∃ z, z = ((fmOf k).get (zeroK k) 0 s1).2.1 := ⟨_, rfl⟩
        obtain ⟨s3, hs3⟩ : ∃ z, z = ((fmOf k).get (zeroK k) 0 s1).2.2 := ⟨_, rfl⟩
        have HG : Hid (((fmOf k).get (zeroK k) 0 s1) = (y, e3, s3) ∧ Suf s3 s' ∧ (byteF 0 s').1 = (k : Int)) := Lib.hid (by
          refine ⟨by rw [hy, he3, hs3], ?_, HK.out.1⟩
          rw [hs3]
          refine (fm_suf k H9.out _ _ _).trans ?_
          rw [HK.out.2.2]; exact byteF_suf 0 s')
        clear hy he3 hs3
        have HPRE : Hid (Calls Try.prog n2 (#[.pointer (some ⟨R, 0, none⟩), .pointer (some ⟨E, 0, none⟩)] ++ c2) w6 (ReadPost w6 w3.heap.size R E (.slice none 0 0) 64 [.int .i64 0] (y, e3, s3))) := Lib.hid (by
          rw [← HG.out.1]
          have hsz1 : s1.size ≤ 100000000 := by
            rw [HK.out.2.2]
            have := (byteF_suf 0 s').size
            have := HH.out.2.2.1
            have := HSZ.out
            omega
          have hER : w3.heap.size ≤ E := by have := HRG.out.2.2.2.1; have := HRE.out.2.2.2.2; have := H4.out.2.1.size; have := H4.out.2.2; omega
          exact HRP.out w6 HRG.out.1 w3.heap.size R 0 s1 E (zeroK k) (.slice none 0 0) 64 [.int .i64 0] HRE.out.1 H3.out.2.2.2.2 HRG.out.2.1.size (Nat.le_trans H3.out.2.2.2.2 HRG.out.2.2.2.1) (Nat.le_trans H3.out.2.2.2.2 hER) ⟨HRE.out.2.2.1, ⟨none, 0, rfl, fun j hj => by cases hj⟩, (fun h => by cases h), (fun b h => by cases h)⟩ ⟨rfl, Or.inl ⟨rfl, rfl⟩⟩ (fun h => HRE.out.2.2.2.1 h.symm) (fun h => by cases h) hsz1 (Nat.zero_le _))
        clear t9 t9' h9'
        refine HPRE.out.mono ?_
        rintro x w7 ⟨rfl, r7, sv7, hact7, hown7, k7, hf7⟩
        obtain ⟨A7, q7, cap7, rfl⟩ := Kq.own_shape hown7
        obtain ⟨A7', cap7', hsh7, hat7⟩ := id hact7.ws
        injection hsh7 with q1 q2 q3
        subst q1 q2 q3
        have H7 : Hid (Rd w7 R e3 s3 ∧ ActAt w7 E y (.slice A7 y.ws.length cap7) 64 [.int .i64 0] ∧ Kq.Keeps (fun k => k = R ∨ k = E) w6 w7 ∧ (∀ b, sBlk (.slice A7 y.ws.length cap7) = some b → w6.heap.size ≤ b) ∧ EnRow w7 w3.heap.size u4 xs ∧ Below w3.heap.size w3 w7) := Lib.hid (by
          have kk : Kq.Keeps (fun k => k = R ∨ k = E) w6 w7 := k7.mono (fun k _ h => h.elim Or.inl (fun h => h.elim Or.inr (fun h => by cases h)))
          have hER : w3.heap.size ≤ E := by have := HRG.out.2.2.2.1; have := HRE.out.2.2.2.2; have := H4.out.2.1.size; have := H4.out.2.2; omega
          have hb6 := HH.out.2.2.2.size
          have hR := H4.out.2.2
          have hE4 := HRE.out.2.2.2.2
          have h4s := H4.out.2.1.size
          have kw : Kq.Keeps (fun k => k = R ∨ k = E) wr w7 := (HRE.out.2.1.mono (fun k _ h => Or.inl h)).trans kk
          refine ⟨r7, hact7, kk, fun b hb => ?_, HH.out.1.keeps kw (fun b hb h => by omega), ((keeps_any (S := fun k => k = R ∨ k = E) HH.out.2.2.2).trans kw).below (Nat.le_refl _) (fun k hk h => by have := HRG.out.2.2.2.1; omega)⟩
          have hb := own_sB hb
          rcases hf7 b hb with h | h
          · cases h
          · exact h)
        have HLE : Hid (leftOf e3 s3 ≤ s'.size) := Lib.hid (by
          have := HG.out.2.1.size
          unfold leftOf
          split
          · exact this
          · exact Nat.zero_le _)
        clear r7 hact7 hown7 k7 hf7 hat7
        go_wp2_with fail
        refine (mem_err R e3 w7 H7.out.1.c0).mono ?_
        rintro x w8 ⟨rfl, rfl⟩
        by_cases he : e3 = 0
        case' pos =>
          have te : (e3 != 0) = false := by rw [he]; rfl
          obtain ⟨x, hx⟩ : ∃ z : EnX, z = ⟨y, A7, cap7, 0⟩ := ⟨_, rfl⟩
          have HX : Hid (w7.heap[E]? = some (.cells #[.int .i64 x.a.k, .int .i64 x.a.c, .int .u64 x.a.t, .string x.a.d, .int .i64 x.a.n, .int .i64 x.a.mk, .int .i64 x.a.mt, .int .u64 x.a.mh, .int .i64 x.a.pf, .int .u64 x.a.pq, .int .u64 x.a.pt, .string x.a.pd, .string x.a.mp, .slice x.A x.a.ws.length x.c, .int .i64 x.e] 64 (0, 0)) ∧ Rd w7 R e3 s3 ∧ EnRow w7 w3.heap.size u4 xs ∧ (WsAt w7 x.sl x.a.ws ∧ ∀ b, sBlk x.sl = some b → b < w7.heap.size ∧ u4.ownBlock ≠ some b) ∧ Below w3.heap.size w3 w7 ∧ entStep s' = (x.out, s'.extract (s'.size - leftOf e3 s3) s'.size) ∧ leftOf e3 s3 ≤ s'.size) := Lib.hid (by
            rw [hx]
            refine ⟨H7.out.2.1.blk, H7.out.1, H7.out.2.2.2.2.1, ⟨H7.out.2.1.ws, fun b hb => ⟨H7.out.2.1.sl b hb, fun ho => ?_⟩⟩, H7.out.2.2.2.2.2, ?_, HLE.out⟩
            · have h1 := H7.out.2.2.2.1 b hb
              have h2 := (HRG.out.2.2.2.2.2.own.lt b ho).2
              omega
            · have hv : (byteF 0 s').1 < 9 := by rw [HG.out.2.2]; have := H9.out; omega
              unfold entStep
              rw [if_pos hv, HB1.out.1, ← HK.out.2.2, HG.out.2.2]
              show (if ((fmOf k).get (zeroK k) 0 s1).2.1 = 0 then _ else _) = _
              rw [show (fmOf ((k : Nat) : Int).toNat) = fmOf k from rfl, HG.out.1]
              rw [if_pos he]
              show ((y, (0 : Int)), s3) = _
              have : leftOf e3 s3 = s3.size := by unfold leftOf; rw [if_pos he]
              rw [this, ← HG.out.2.1.eq]
              rfl)
          clear hx he
          obtain ⟨w8, hw8⟩ : ∃ z, z = w7 := ⟨_, rfl⟩
          rw [← hw8] at HX ⊢
          clear hw8 H7 HG HLE HPRE HFM H9 HRG HRE
          have HB9 := Lib.hid te
          clear te
          have te := HB9.out
          clear HB9
        case' neg =>
          have te : (e3 != 0) = true := bne_iff_ne.2 he
          obtain ⟨w8, hw8⟩ : ∃ z, z = w7.setRow E #[.int .i64 0, .int .i64 0, .int .u64 0, .string ⟨#[]⟩, .int .i64 0, .int .i64 0, .int .i64 0, .int .u64 0, .int .i64 0, .int .u64 0, .int .u64 0, .string ⟨#[]⟩, .string ⟨#[]⟩, .slice none 0 0, .int .i64 e3] := ⟨_, rfl⟩
          obtain ⟨x, hx⟩ : ∃ z : EnX, z = ⟨SaV.zero, none, 0, e3⟩ := ⟨_, rfl⟩
          have HX : Hid (w8.heap[E]? = some (.cells #[.int .i64 x.a.k, .int .i64 x.a.c, .int .u64 x.a.t, .string x.a.d, .int .i64 x.a.n, .int .i64 x.a.mk, .int .i64 x.a.mt, .int .u64 x.a.mh, .int .i64 x.a.pf, .int .u64 x.a.pq, .int .u64 x.a.pt, .string x.a.pd, .string x.a.mp, .slice x.A x.a.ws.length x.c, .int .i64 x.e] 64 (0, 0)) ∧ Rd w8 R e3 s3 ∧ EnRow w8 w3.heap.size u4 xs ∧ (WsAt w8 x.sl x.a.ws ∧ ∀ b, sBlk x.sl = some b → b < w8.heap.size ∧ u4.ownBlock ≠ some b) ∧ Below w3.heap.size w3 w8 ∧ entStep s' = (x.out, s'.extract (s'.size - leftOf e3 s3) s'.size) ∧ leftOf e3 s3 ≤ s'.size) := Lib.hid (by
            have kE : Kq.Keeps (· = E) w7 w8 := by rw [hw8]; exact ⟨rfl, rfl, rfl, by simp, fun k _ hk => setRow_other _ _ k _ hk⟩
            have hnE : ∀ b, b < wr.heap.size → ¬ b = E := fun b hb e => by have := HRE.out.2.2.2.2; have := H4.out.2.1.size; omega
            rw [hx]
            refine ⟨by rw [hw8]; exact setRow_heap _ _ _ _ _ _ H7.out.2.1.blk, kE.blk H7.out.1 HRE.out.2.2.2.1, HH.out.1.keeps (((HRE.out.2.1.mono (fun k _ h => Or.inl h)).trans H7.out.2.2.1).trans (kE.mono (fun k _ h => Or.inr h))) (fun b hb h => h.elim (fun h => by have := H4.out.2.2; omega) (fun h => hnE b hb h)), ⟨⟨none, 0, rfl, fun j hj => by cases hj⟩, fun b hb => by cases hb⟩, ((keeps_any (S := (· = E)) H7.out.2.2.2.2.2).trans kE).below (Nat.le_refl _) (fun k hk h => by have := HRG.out.2.2.2.1; have := HRE.out.2.2.2.2; have := H4.out.2.1.size; have := H4.out.2.2; omega), ?_, HLE.out⟩
            have hv : (byteF 0 s').1 < 9 := by rw [HG.out.2.2]; have := H9.out; omega
            unfold entStep
            rw [if_pos hv, HB1.out.1, ← HK.out.2.2, HG.out.2.2]
            rw [show (fmOf ((k : Nat) : Int).toNat) = fmOf k from rfl, HG.out.1]
            rw [if_neg he]
            have : leftOf e3 s3 = 0 := by unfold leftOf; rw [if_neg he]
            rw [this, Nat.sub_zero]
            have hsn : s'.extract s'.size s'.size = ⟨#[]⟩ := by
              apply nl_inj
              rw [nl_extract, Nat.sub_self, List.take_zero]; rfl
            rw [hsn]
            rfl)
          clear hx he
          have HB7 := Lib.hid H7.out.2.1.blk
          clear HG HLE HPRE HFM H9 HRG HRE H7
      case' inr =>
        have t9 : decide ((k : Int) < 9) = false := decide_eq_false (by omega)
        have t9' : decide (k < 9) = false := decide_eq_false (by omega)
        have h9' : ¬ (k : Int) < 9 := by omega
        obtain ⟨e3, he3⟩ : ∃ z : Int, z = 0 := ⟨_, rfl⟩
        obtain ⟨s3, hs3⟩ : ∃ z, z = s1 := ⟨_, rfl⟩
        have te : (e3 != 0) = false := by rw [he3]; rfl
        obtain ⟨w8, hw8⟩ : ∃ z, z = w6.setRow E #[.int .i64 0, .int .i64 0, .int .u64 0, .string ⟨#[]⟩, .int .i64 0, .int .i64 0, .int .i64 0, .int .u64 0, .int .i64 0, .int .u64 0, .int .u64 0, .string ⟨#[]⟩, .string ⟨#[]⟩, .slice none 0 0, .int .i64 5] := ⟨_, rfl⟩
        obtain ⟨x, hx⟩ : ∃ z : EnX, z = ⟨SaV.zero, none, 0, 5⟩ := ⟨_, rfl⟩
        have HX : Hid (w8.heap[E]? = some (.cells #[.int .i64 x.a.k, .int .i64 x.a.c, .int .u64 x.a.t, .string x.a.d, .int .i64 x.a.n, .int .i64 x.a.mk, .int .i64 x.a.mt, .int .u64 x.a.mh, .int .i64 x.a.pf, .int .u64 x.a.pq, .int .u64 x.a.pt, .string x.a.pd, .string x.a.mp, .slice x.A x.a.ws.length x.c, .int .i64 x.e] 64 (0, 0)) ∧ Rd w8 R e3 s3 ∧ EnRow w8 w3.heap.size u4 xs ∧ (WsAt w8 x.sl x.a.ws ∧ ∀ b, sBlk x.sl = some b → b < w8.heap.size ∧ u4.ownBlock ≠ some b) ∧ Below w3.heap.size w3 w8 ∧ entStep s' = (x.out, s'.extract (s'.size - leftOf e3 s3) s'.size) ∧ leftOf e3 s3 ≤ s'.size) := Lib.hid (by
          have kE : Kq.Keeps (· = E) w6 w8 := by rw [hw8]; exact ⟨rfl, rfl, rfl, by simp, fun k _ hk => setRow_other _ _ k _ hk⟩
          have hnE : ∀ b, b < wr.heap.size → ¬ b = E := fun b hb e => by have := HRE.out.2.2.2.2; have := H4.out.2.1.size; omega
          have hsuf : Suf s1 s' := by rw [HK.out.2.2]; exact byteF_suf 0 s'
          rw [hx, he3, hs3]
          refine ⟨by rw [hw8]; exact setRow_heap _ _ _ _ _ _ HRE.out.2.2.1, kE.blk HRE.out.1 HRE.out.2.2.2.1, HH.out.1.keeps ((HRE.out.2.1.mono (fun k _ h => Or.inl h)).trans (kE.mono (fun k _ h => Or.inr h))) (S := fun k => k = R ∨ k = E) (fun b hb h => h.elim (fun h => by have := H4.out.2.2; omega) (fun h => hnE b hb h)), ⟨⟨none, 0, rfl, fun j hj => by cases hj⟩, fun b hb => by cases hb⟩, ((keeps_any (S := (· = E)) HRG.out.2.1).trans kE).below (Nat.le_refl _) (fun k hk h => by have := HRG.out.2.2.2.1; have := HRE.out.2.2.2.2; have := H4.out.2.1.size; have := H4.out.2.2; omega), ?_, hsuf.size⟩
          have hv : ¬ (byteF 0 s').1 < 9 := by rw [HK.out.1]; omega
          unfold entStep
          rw [if_neg hv, ← HK.out.2.2]
          show ((SaV.zero, (5 : Int)), s1) = _
          have : leftOf 0 s1 = s1.size := by unfold leftOf; rw [if_pos rfl]
          rw [this, ← hsuf.eq]
          rfl)
        have HB7 := Lib.hid HRE.out.2.2.1
        go_wp2_with (refine wpList_store_row (by rfl) 64 (.tmp 6) (.tmp 30) (by rfl) w5.heap.size #[.int .i64 0, .int .i64 0, .int .u64 0, .string ⟨#[]⟩, .int .i64 0, .int .i64 0, .int .i64 0, .int .u64 0, .int .i64 0, .int .u64 0, .int .u64 0, .string ⟨#[]⟩, .string ⟨#[]⟩, .slice none 0 0, .int .i64 5] (by rfl) (by rfl) 64 _ (by rw [← hw6, ← hE]; exact HB7.out) (by rw [hi0]; show some i0.size = _; rw [hz1]; rfl) (by rfl) (zc_one _) ?_)
        rw [← hw6, ← hE, ← hw8]
        clear c0 hw6 hE hw8 t9 t9' h9' h9
        go_wp2_with fail
        refine (mem_err R 0 w8 (by have h := HX.out.2.1.c0; rw [he3] at h; exact h)).mono ?_
        rintro x9 w9 ⟨rfl, rfl⟩
        rw [← he3]
        clear hx he3 hs3 HRG HRE HB7
      all_goals
        have HB8 : Hid (Below w8.heap.size w8 (w8.alloc (.cells #[.int .i64 x.a.k, .int .i64 x.a.c, .int .u64 x.a.t, .string x.a.d, .int .i64 x.a.n, .int .i64 x.a.mk, .int .i64 x.a.mt, .int .u64 x.a.mh, .int .i64 x.a.pf, .int .u64 x.a.pq, .int .u64 x.a.pt, .string x.a.pd, .string x.a.mp, .slice x.A x.a.ws.length x.c, .int .i64 x.e] 64))) := Lib.hid (Kq.below_alloc _ _)
        have HSRC : Hid (Src Try.prog 15 54 (.slice (some ⟨w8.heap.size, 0, none⟩) 1 1) 1 (enE.flat [x]) (w8.alloc (.cells #[.int .i64 x.a.k, .int .i64 x.a.c, .int .u64 x.a.t, .string x.a.d, .int .i64 x.a.n, .int .i64 x.a.mk, .int .i64 x.a.mt, .int .u64 x.a.mh, .int .i64 x.a.pf, .int .u64 x.a.pq, .int .u64 x.a.pt, .string x.a.pd, .string x.a.mp, .slice x.A x.a.ws.length x.c, .int .i64 x.e] 64))) := Lib.hid (Kq.Elt.At.src Try.underlying54 (E := enE) 1 (Kq.Elt.made_one (E := enE) x w8 64))
        have HOW : Hid ((w8.alloc (.cells #[.int .i64 x.a.k, .int .i64 x.a.c, .int .u64 x.a.t, .string x.a.d, .int .i64 x.a.n, .int .i64 x.a.mk, .int .i64 x.a.mt, .int .u64 x.a.mh, .int .i64 x.a.pf, .int .u64 x.a.pq, .int .u64 x.a.pt, .string x.a.pd, .string x.a.mp, .slice x.A x.a.ws.length x.c, .int .i64 x.e] 64)).ownsRow w3.heap.size 64 15 u4 xs.length (enE.flat xs) ∧ w3.heap.size ≤ (w8.alloc (.cells #[.int .i64 x.a.k, .int .i64 x.a.c, .int .u64 x.a.t, .string x.a.d, .int .i64 x.a.n, .int .i64 x.a.mk, .int .i64 x.a.mt, .int .u64 x.a.mh, .int .i64 x.a.pf, .int .u64 x.a.pq, .int .u64 x.a.pt, .string x.a.pd, .string x.a.mp, .slice x.A x.a.ws.length x.c, .int .i64 x.e] 64)).heap.size ∧ xs.length ≤ s.size ∧ s.size ≤ 100000000 ∧ u4.ownBlock ≠ some R) := Lib.hid (by
          refine ⟨own_later HX.out.2.2.1.own (fun k hk => HB8.out.block k (HX.out.2.2.1.own.lt k hk).2), Nat.le_trans HX.out.2.2.2.2.1.size HB8.out.size, ?_, HSZ.out, fun h => ?_⟩
          · have h1 := congrArg List.length HH.out.2.1
            rw [List.length_append, List.length_map] at h1
            have := entF_len s
            omega
          · have h1 := (HH.out.1.own.lt R h).2
            have := H4.out.2.2
            omega)
        go_wp2_with (first | (refine wpList_store_row (by rfl) 64 (.tmp 6) (.tmp 38) (by rfl) E #[.int .i64 0, .int .i64 0, .int .u64 0, .string ⟨#[]⟩, .int .i64 0, .int .i64 0, .int .i64 0, .int .u64 0, .int .i64 0, .int .u64 0, .int .u64 0, .string ⟨#[]⟩, .string ⟨#[]⟩, .slice none 0 0, .int .i64 e3] (by rfl) (by rfl) 64 _ HB7.out (by rw [hi0]; show some i0.size = _; rw [hz1]; rfl) (by rfl) (zc_one _) ?_; rw [← hw8]; clear hw8) | (refine wpList_load_row (by rfl) 64 (.tmp 6) (by rfl) E (by rfl) 64 #[.int .i64 x.a.k, .int .i64 x.a.c, .int .u64 x.a.t, .string x.a.d, .int .i64 x.a.n, .int .i64 x.a.mk, .int .i64 x.a.mt, .int .u64 x.a.mh, .int .i64 x.a.pf, .int .u64 x.a.pq, .int .u64 x.a.pt, .string x.a.pd, .string x.a.mp, .slice x.A x.a.ws.length x.c, .int .i64 x.e] (0, 0) _ HX.out.1 Try.underlying64 rfl (by rw [hi0]; show some i0.size = _; rw [hz1]; rfl) ?_) | (at_builtin; refine Kq.wpList_append_any _ rfl (.tmp 39) (.tmp 41) 54 54 rfl w3.heap.size 64 i0 (.agg ⟨SaV.zero.cells (.slice none 0 0) [.int .i64 0]⟩) 15 160 Try.underlying54 hi0 hz0 hz1 hz2 rfl (by decide) u4 xs.length (enE.flat xs) rfl HOW.out.1 (.slice (some ⟨w8.heap.size, 0, none⟩) 1 1) 1 (enE.flat [x]) rfl HSRC.out ?h1 ?h2 HOW.out.2.1 ?h4))
        case h1 => have := HOW.out.2.2.1; have := HOW.out.2.2.2.1; unfold maxLen; omega
        case h2 => have := HOW.out.2.2.1; have := HOW.out.2.2.2.1; omega
        case h4 =>
          intro v' z3 hown3 hgrow hfresh
          have hownE : z3.ownsRow w3.heap.size 64 15 v' (xs ++ [x]).length (enE.flat (xs ++ [x])) := by
            rw [List.length_append, Kq.Elt.flat_append]; exact hown3
          have HZ3 : Hid (EnRow z3 w3.heap.size v' (xs ++ [x]) ∧ Rd z3 R e3 s3 ∧ Below w3.heap.size w3 z3) := Lib.hid (by
            have kg : Kq.Keeps (fun k => some k = u4.ownBlock) w8 z3 := (keeps_any HB8.out).trans (Kq.Keeps.grown hgrow (fun k _ hk => hk.symm))
            refine ⟨EnRow.close HX.out.2.2.1 HX.out.2.2.2.1 HB8.out hgrow hownE (fun k hk => by simpa using hfresh k hk), kg.blk HX.out.2.1 (fun h => HOW.out.2.2.2.2 h.symm), ((keeps_any (S := fun k => some k = u4.ownBlock) HX.out.2.2.2.2.1).trans kg).below (Nat.le_refl _) (fun k hk h => ?_)⟩
            have := own_ge HH.out.1.own h.symm
            omega)
          have HEN : Hid (∃ q : Nat, q + leftOf e3 s3 = s'.size ∧ entStep s' = (x.out, s'.extract q s'.size)) := Lib.hid ⟨s'.size - leftOf e3 s3, by have := HX.out.2.2.2.2.2.2; omega, HX.out.2.2.2.2.2.1⟩
          clear hown3 hgrow hfresh hownE HSRC HOW HB8 HX
          obtain ⟨q, hq, hst⟩ := HEN.out
          obtain ⟨m, hm⟩ : ∃ m, m = leftOf e3 s3 := ⟨_, rfl⟩
          have HRL : Hid (Calls Try.prog 37 #[.pointer (some ⟨R, 0, none⟩)] z3 fun x w' => x = .returned (.int .i64 (m : Int)) ∧ z3 = w') := Lib.hid (by rw [hm]; exact rd_left R e3 s3 z3 HZ3.out.2.1)
          rw [← hm] at hq
          have HQ := Lib.hid (And.intro hq hst)
          have hsz := HH.out.2.2.1
          have hsz2 := HSZ.out
          have q1 : wrap64 ((s'.size : Int) - (m : Int)) = (q : Int) := by unfold wrap64; omega
          have q2 : (0 : Int) ≤ (q : Int) := by omega
          have q3 : (q : Int) ≤ (s'.size : Int) := by omega
          have q4 : q ≤ s'.size := by omega
          clear hq hst hm hsz hsz2 HEN
          go_wp2_with fail
          refine HRL.out.mono ?_
          rintro x9 w9 ⟨rfl, rfl⟩
          go_wp2
          trace_state
          go_roundw
          case rel =>
            refine ⟨_, xs ++ [x], rfl, HZ3.out.1, ?_, ?_, HZ3.out.2.2⟩
            · rw [List.map_append, List.map_singleton, List.append_assoc, ← HH.out.2.1, entF_step s' HZ.out, HQ.out.2]
              rfl
            · have := HH.out.2.2.1
              rw [ByteArray.size_extract]; omega
          case measure =>
            have h1 := entStep_lt s' HZ.out
            rw [HQ.out.2] at h1
            exact h1
end Go.Proofs.Ytjilbcefikbihaa
