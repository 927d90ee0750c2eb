/- Merged: StRSet, StRDel. Contract of the document's Set. Condition: sizes. Contract of the document's Delete. Condition: sizes. -/
import Derived.WalkSpells
import Derived.Outline
import Derived.Test.YtcknhnbckbocjaaDoorStRNowQ
import Derived.Deep.QuietTactic
import Derived.BigQuiet
import Derived.Test.YtcknhnbckbocjaaDoorHeldLastQ
namespace Go.Proofs.YtcknhnbckbocjaaDoor
open Go.RowKit
set_option linter.unusedVariables false
section
variable (w : World) (O : Nat → Prop) (B : Nat) (s : StV)
set_option maxRecDepth 100000 in
set_option maxHeartbeats 2000000 in
theorem sr_set (k v : ByteArray) (h : RefP w O B s) (hs : StOk s) (hO : ∀ k, O k → k < w.heap.size) : Calls Tryd.prog 30 #[.pointer (some ⟨B, 0, none⟩), .string k, .string v] w (RefStep w O B (.int .i64 (setV s k v).2) (setV s k v).1) := by
  obtain ⟨i0, hi0, hz0, hz1, hz2⟩ := info_partsB infoPr
  have HF := Lib.hid (sr_find w O B s k h hs)
  have H := Lib.hid h
  have HS := Lib.hid hs
  have HO := Lib.hid hO
  have hb0 : badKV k v = true → setV s k v = (s, 1) := fun hb => by unfold setV; rw [if_pos hb]
  have HSAME : Hid (∀ r, RefStep w O B r s (.returned r) w) := Lib.hid (fun r => RefStep.same H.out 0 rfl)
  clear h
  by_cases k0 : k.size = 0
  · have e0 : ((k.size : Int) == 0) = true := by rw [beq_iff_eq]; omega
    have HE := Lib.hid (hb0 (by unfold badKV; rw [decide_eq_true k0]; rfl))
    clear hb0 k0 hs hO
    go_enter Tryd.func30, Tryd.ntmps30
    go_wp2
    go_ret
    rw [HE.out]
    exact HSAME.out _
  have e0 : ((k.size : Int) == 0) = false := by rw [beq_eq_false_iff_ne]; omega
  by_cases k1 : 16 < k.size
  · have e1 : decide ((16 : Int) < (k.size : Int)) = true := decide_eq_true (by omega)
    have e1' : decide (16 < k.size) = true := decide_eq_true k1
    have HE := Lib.hid (hb0 (by unfold badKV; rw [e1']; simp))
    clear hb0 k0 hs hO k1
    go_enter Tryd.func30, Tryd.ntmps30
    go_wp2
    go_ret
    rw [HE.out]
    exact HSAME.out _
  have e1 : decide ((16 : Int) < (k.size : Int)) = false := decide_eq_false (by omega)
  have e1' : decide (16 < k.size) = false := decide_eq_false k1
  by_cases v1 : 64 < v.size
  · have e2 : decide ((64 : Int) < (v.size : Int)) = true := decide_eq_true (by omega)
    have e2' : decide (64 < v.size) = true := decide_eq_true v1
    have HE := Lib.hid (hb0 (by unfold badKV; rw [e2']; simp))
    clear hb0 k0 hs hO k1 v1
    go_enter Tryd.func30, Tryd.ntmps30
    go_wp2
    go_ret
    rw [HE.out]
    exact HSAME.out _
  have e2 : decide ((64 : Int) < (v.size : Int)) = false := decide_eq_false (by omega)
  have e2' : decide (64 < v.size) = false := decide_eq_false v1
  have hbn : badKV k v = false := by unfold badKV; rw [e1', e2', decide_eq_false k0]; rfl
  have HIL := Lib.hid (isIn_lk hs.now.2.1 k)
  have HCUT := Lib.hid (ins_cut s.now k v hs.now.2.1)
  obtain ⟨I, hI⟩ : ∃ I, I = isIn s.now k := ⟨_, rfl⟩
  obtain ⟨p, hp⟩ : ∃ p, p = plc s.now k := ⟨_, rfl⟩
  have hple : p ≤ s.now.length := by rw [hp]; exact plc_le _ _
  have hlt : I = true → p < s.now.length := fun e => by rw [hI] at e; rw [hp]; exact (of_decide_eq_true e).1
  rw [← hI, ← hp] at HF HCUT
  rw [← hI] at HIL
  have hn4 := hs.now.1
  have HOK : Hid (¬ (lk s.now k = none ∧ 4096 ≤ s.now.length) → setV s k v = ({ s with now := insP s.now k v }, 0)) := Lib.hid (fun hf => by unfold setV; rw [if_neg (by rw [hbn]; decide), if_neg hf])
  have HFU : Hid ((lk s.now k = none ∧ 4096 ≤ s.now.length) → setV s k v = (s, 2)) := Lib.hid (fun hf => by unfold setV; rw [if_neg (by rw [hbn]; decide), if_pos hf])
  obtain ⟨n, hn⟩ : ∃ n, n = s.now.length := ⟨_, rfl⟩
  have HN := Lib.hid hn
  rw [← hn] at hple hlt hn4
  clear hb0 k0 k1 v1 hs hO hI hp hn hbn
  go_enter Tryd.func30, Tryd.ntmps30
  go_wp2_with fail
  refine HF.out.mono ?_
  rintro x w1 ⟨rfl, n1, hw1⟩
  obtain ⟨An, cn, Ab, cb, hr⟩ := H.out.drewN n1
  rw [← hw1] at hr
  have HR := Lib.hid hr
  have HW := Lib.hid hw1
  have c0 := hr.c0
  rw [← HN.out] at c0
  have hcap := hr.cap
  rw [← HN.out] at hcap
  clear hr hw1 HF e0 e1 e1' e2 e2'
  cases I with
  | true =>
    have HF : Hid (¬ (lk s.now k = none ∧ 4096 ≤ s.now.length)) := Lib.hid (fun ⟨h1, _⟩ => by have := HIL.out; rw [h1] at this; cases this)
    have HE := Lib.hid (HOK.out HF.out)
    have hpn := hlt rfl
    rcases HR.out.sh with ⟨rfl, rfl⟩ | ⟨b, off, rfl⟩
    · omega
    · have hw1 : IntKind.i64.wrap ((p : Int) + 1) = ((p + 1 : Nat) : Int) := by rw [IntWalk.i64_in _ (by omega)]; omega
      clear hlt HFU HOK
      by_cases hcn : cn = p + 1
      · subst hcn
        have HTK : Hid ((s.now.take p).length = p ∧ (s.now.drop (p + 1)).length = n - (p + 1)) := Lib.hid ⟨by rw [List.length_take]; have := HN.out; omega, by rw [List.length_drop, ← HN.out]⟩
        have b2 := Kq.below_alloc w1 (.cells #[] 59)
        have HX : Hid ((w1.alloc (.cells #[] 59)).ownsRow 0 59 2 (.slice (some ⟨w1.heap.size, 0, none⟩) 0 0) 0 (PrE.flat []) ∧ PrE.At (w1.alloc (.cells #[] 59)) (some ⟨b, off, none⟩) s.now ∧ Kq.Keeps (fun k => w.heap.size ≤ k) w (w1.alloc (.cells #[] 59)) ∧ w.heap.size ≤ w1.heap.size ∧ b < w.heap.size) := Lib.hid (by
          have hk1 : Kq.Keeps (fun k => w.heap.size ≤ k) w w1 := by rw [HW.out]; exact Kq.Keeps.of_below (below_drewN (Below.refl _ _) n1) (fun k h1 _ => h1)
          have hsz : w.heap.size = w1.heap.size := by rw [HW.out]; rfl
          refine ⟨⟨rfl, Or.inr ⟨w1.heap.size, 0, #[], rfl, Nat.zero_le _, Kq.blk_new w1 #[] 59 (0, 0), Nat.le_refl _, by decide, rfl, rfl⟩⟩, (psAt_E.1 HR.out.now.at_).below b2, keeps_past hk1 (Kq.Keeps.of_below (S := fun _ => False) b2 (fun k h1 h2 => absurd h1 (Nat.not_le.2 h2))) (fun k h => h.elim), by omega, HO.out b (HR.out.now.o b off rfl).1⟩)
        have c0e : (w1.alloc (.cells #[] 59)).cell? ⟨B, 0, none⟩ = some (.slice (some ⟨b, off, none⟩) n (p + 1)) := (b2.cell (p := ⟨B, 0, none⟩) (by have := HO.out B HR.out.oB; have := HX.out.2.2.2.1; show B < _; omega)).trans c0
        have HS1 : Hid (Src Tryd.prog 2 35 (.slice (some ⟨b, off, none⟩) p (p + 1)) p (PrE.flat (s.now.take p)) (w1.alloc (.cells #[] 59))) := Lib.hid (by
          have := (HX.out.2.1.take p).src Tryd.underlying35 (p + 1)
          rw [HTK.out.1] at this
          exact this)
        clear b2
        go_wp2_with (at_builtin; refine Kq.wpList_append_any _ rfl (.tmp 50) (.tmp 56) 35 35 rfl 0 59 i0 (.agg #[.string ⟨#[]⟩, .string ⟨#[]⟩]) 2 32 Tryd.underlying35 hi0 hz0 hz1 hz2 rfl (by decide) (.slice (some ⟨w1.heap.size, 0, none⟩) 0 0) 0 (PrE.flat []) rfl HX.out.1 (.slice (some ⟨b, off, none⟩) p (p + 1)) p (PrE.flat (s.now.take p)) rfl HS1.out ?h1 ?h2 ?h3 ?_)
        case h1 => unfold maxLen; omega
        case h2 => omega
        case h3 => exact Nat.zero_le _
        intro v3 w3 hown3 hgrow hfresh
        obtain ⟨a3, q3, d3, hv3⟩ := Kq.own_shape hown3
        subst hv3
        have H3 : Hid ((w3.alloc (.cells #[.string k, .string v] 59)).ownsRow 0 59 2 (.slice a3 q3 d3) p (PrE.flat [] ++ PrE.flat (s.now.take p)) ∧ PrE.At (w3.alloc (.cells #[.string k, .string v] 59)) (some ⟨b, off, none⟩) s.now ∧ Kq.Keeps (fun k => w.heap.size ≤ k) w (w3.alloc (.cells #[.string k, .string v] 59)) ∧ (∀ g, (Value.slice a3 q3 d3).ownBlock = some g → w.heap.size ≤ g)) := Lib.hid (by
          have hk3 := Kq.Keeps.grown (S := (· = w1.heap.size)) hgrow (fun k _ h => (Option.some.inj h).symm)
          have b3 := Kq.below_alloc w3 (.cells #[.string k, .string v] 59)
          have hw := HX.out.2.2.2.1
          refine ⟨own_belowB hown3 b3, (HX.out.2.1.keeps hk3 (fun b' o e _ => by first | (cases e; done) | (injection e with e; injection e with e; have := HX.out.2.2.2.2; intro e2; have e3 : b' = w1.heap.size := e2; omega))).below b3, keeps_past (keeps_past HX.out.2.2.1 hk3 (fun k e => by have e3 : k = w1.heap.size := e; omega)) (Kq.Keeps.of_below (S := fun _ => False) b3 (fun k h1 h2 => absurd h1 (Nat.not_le.2 h2))) (fun k h => h.elim), fun g hg => ?_⟩
          rcases hfresh g hg with e | e
          · have : g = w1.heap.size := Option.some.inj e
            omega
          · (try simp at e); omega)
        have HS2 : Hid (Src Tryd.prog 2 35 (.slice (some ⟨w3.heap.size, 0, none⟩) 1 1) 1 (PrE.flat [(k, v)]) (w3.alloc (.cells #[.string k, .string v] 59))) := Lib.hid ((Kq.Elt.made_one (E := PrE) (k, v) w3 59).src Tryd.underlying35 1)
        clear hown3 hgrow hfresh HX HS1 c0 c0e
        go_wp2_with (at_builtin; refine Kq.wpList_append_any _ rfl (.tmp 57) (.tmp 61) 35 35 rfl 0 59 i0 (.agg #[.string ⟨#[]⟩, .string ⟨#[]⟩]) 2 32 Tryd.underlying35 hi0 hz0 hz1 hz2 rfl (by decide) (.slice a3 q3 d3) p (PrE.flat [] ++ PrE.flat (s.now.take p)) rfl H3.out.1 (.slice (some ⟨w3.heap.size, 0, none⟩) 1 1) 1 (PrE.flat [(k, v)]) rfl HS2.out ?h4 ?h5 ?h6 ?_)
        case h4 => unfold maxLen; omega
        case h5 => omega
        case h6 => exact Nat.zero_le _
        intro v4 w4 hown4 hgrow hfresh
        obtain ⟨a4, q4, d4, hv4⟩ := Kq.own_shape hown4
        subst hv4
        have hat : PrE.At w4 (some ⟨b, off, none⟩) s.now := by
          have hk4 := Kq.Keeps.grown (S := fun g => (Value.slice a3 q3 d3).ownBlock = some g) hgrow (fun k _ h => h)
          exact H3.out.2.1.keeps hk4 (fun b' o e _ => by first | (cases e; done) | (injection e with e; injection e with e; intro e2; have := H3.out.2.2.2 _ e2; have := HO.out b (HR.out.now.o b off rfl).1; omega))
        have H4 : Hid (w4.ownsRow 0 59 2 (.slice a4 q4 d4) (p + 1) (PrE.flat [] ++ (PrE.flat (s.now.take p) ++ PrE.flat [(k, v)])) ∧ Kq.Keeps (fun k => w.heap.size ≤ k) w w4 ∧ (∀ g, (Value.slice a4 q4 d4).ownBlock = some g → w.heap.size ≤ g)) := Lib.hid (by
          have hk4 := Kq.Keeps.grown (S := fun g => (Value.slice a3 q3 d3).ownBlock = some g) hgrow (fun k _ h => h)
          refine ⟨hown4, keeps_past H3.out.2.2.1 hk4 (fun k e => H3.out.2.2.2 k e), fun g hg => ?_⟩
          rcases hfresh g hg with e | e
          · exact H3.out.2.2.2 g e.symm
          · have h9 := H3.out.2.2.1.size; simp at h9; omega)
        have HS3 : Hid (Src Tryd.prog 2 35 (.slice (some ⟨b, off, none⟩) 0 0) 0 (PrE.flat (s.now.drop (p + 1))) w4) := Lib.hid (by
          have h0 : s.now.drop (p + 1) = [] := List.eq_nil_of_length_eq_zero (by rw [HTK.out.2]; omega)
          rw [h0]
          exact Kq.Elt.src_nil (E := PrE) Tryd.underlying35 _ _)
        clear hown4 hgrow hfresh H3 HS2 hat
        go_wp2_with (at_builtin; refine Kq.wpList_append_any _ rfl (.tmp 62) (.tmp 63) 35 35 rfl 0 59 i0 (.agg #[.string ⟨#[]⟩, .string ⟨#[]⟩]) 2 32 Tryd.underlying35 hi0 hz0 hz1 hz2 rfl (by decide) (.slice a4 q4 d4) (p + 1) (PrE.flat [] ++ (PrE.flat (s.now.take p) ++ PrE.flat [(k, v)])) rfl H4.out.1 (.slice (some ⟨b, off, none⟩) 0 0) 0 (PrE.flat (s.now.drop (p + 1))) rfl HS3.out ?h7 ?h8 ?h9 ?_)
        case h7 => unfold maxLen; omega
        case h8 => omega
        case h9 => exact Nat.zero_le _
        intro v5 w5 hown5 hgrow hfresh
        have HL5 : Hid (insP s.now k v = s.now.take p ++ [(k, v)] ++ s.now.drop (p + 1) ∧ (insP s.now k v).length = p + 1 + 0) := Lib.hid (by
          have e1 : insP s.now k v = s.now.take p ++ [(k, v)] ++ s.now.drop (p + 1) := by
            rw [HCUT.out]; simp
          refine ⟨e1, ?_⟩
          rw [e1]
          simp only [List.length_append, HTK.out.1, HTK.out.2, List.length_cons, List.length_nil] <;> (try omega))
        have H5 : Hid (∃ g c, v5 = .slice (some ⟨g, 0, none⟩) (insP s.now k v).length c ∧ (insP s.now k v).length ≤ c ∧ PsAt w5 (some ⟨g, 0, none⟩) (insP s.now k v) ∧ (w.heap.size ≤ g ∧ g < w5.heap.size) ∧ Kq.Keeps (fun k => w.heap.size ≤ k) w w5) := Lib.hid (by
          have hk5 := Kq.Keeps.grown (S := fun g => (Value.slice a4 q4 d4).ownBlock = some g) hgrow (fun k _ h => h)
          have hrow : w5.ownsRow 0 59 2 v5 (insP s.now k v).length (PrE.flat (insP s.now k v)) := by
            rw [HL5.out.2, HL5.out.1, PrE.flat_append, PrE.flat_append]
            simpa [Kq.Elt.flat] using hown5
          obtain ⟨A', c', e, hc, hat', _, hnil⟩ := Kq.Elt.own_at (E := PrE) (l := insP s.now k v) hrow
          rcases hrow.2 with ⟨e2, h0⟩ | ⟨g, c, cur, e2, h1, h2, h3, _⟩
          · rw [HL5.out.2] at h0; omega
          · rw [e] at e2
            injection e2 with e3 e4 e5
            subst e3
            subst e5
            refine ⟨g, c', e, hc, psAt_E.2 hat', ⟨?_, Kq.blk_lt h2⟩, keeps_past H4.out.2.1 hk5 (fun k e => H4.out.2.2 k e)⟩
            rcases hfresh g (by rw [e]; rfl) with e6 | e6
            · exact H4.out.2.2 g e6.symm
            · have := H4.out.2.1.size; omega)
        obtain ⟨g, c, rfl, hc5, hps5, hg5, hk5⟩ := H5.out
        have hr5 := HR.out.keeps (S := fun _ => False) (Kq.Keeps.refl _ _) (fun _ _ h => h)
        have HB5 : Hid (RefP w O B s) := H
        obtain ⟨An0, cn0, Ab0, cb0, hr0⟩ := H.out
        have hr6 := hr0.keeps hk5 (fun k ho hh => by have := HO.out k ho; omega)
        have f0 := hr6.fz 0
        have c0 := hr6.c0
        have HEND : Hid (RefStep w O B (.int .i64 0) { s with now := insP s.now k v } (.returned (.int .i64 0)) (w5.setCell ⟨B, 0, none⟩ (.slice (some ⟨g, 0, none⟩) (insP s.now k v).length c))) := Lib.hid (by
          obtain ⟨q1, q2⟩ := hr0.now_new HO.out hk5 hps5 hg5 hc5 rfl
          exact ⟨rfl, q1, q2⟩)
        clear hown5 hgrow hfresh H5 hc5 hps5 hg5 hk5 hr5 HB5 hr0 hr6 HS3 H4
        go_wp2
        go_ret
        rw [HE.out]
        exact HEND.out
      · have hcz : ¬ cn - (p + 1) = 0 := by omega
        have HTK : Hid ((s.now.take p).length = p ∧ (s.now.drop (p + 1)).length = n - (p + 1)) := Lib.hid ⟨by rw [List.length_take]; have := HN.out; omega, by rw [List.length_drop, ← HN.out]⟩
        have b2 := Kq.below_alloc w1 (.cells #[] 59)
        have HX : Hid ((w1.alloc (.cells #[] 59)).ownsRow 0 59 2 (.slice (some ⟨w1.heap.size, 0, none⟩) 0 0) 0 (PrE.flat []) ∧ PrE.At (w1.alloc (.cells #[] 59)) (some ⟨b, off, none⟩) s.now ∧ Kq.Keeps (fun k => w.heap.size ≤ k) w (w1.alloc (.cells #[] 59)) ∧ w.heap.size ≤ w1.heap.size ∧ b < w.heap.size) := Lib.hid (by
          have hk1 : Kq.Keeps (fun k => w.heap.size ≤ k) w w1 := by rw [HW.out]; exact Kq.Keeps.of_below (below_drewN (Below.refl _ _) n1) (fun k h1 _ => h1)
          have hsz : w.heap.size = w1.heap.size := by rw [HW.out]; rfl
          refine ⟨⟨rfl, Or.inr ⟨w1.heap.size, 0, #[], rfl, Nat.zero_le _, Kq.blk_new w1 #[] 59 (0, 0), Nat.le_refl _, by decide, rfl, rfl⟩⟩, (psAt_E.1 HR.out.now.at_).below b2, keeps_past hk1 (Kq.Keeps.of_below (S := fun _ => False) b2 (fun k h1 h2 => absurd h1 (Nat.not_le.2 h2))) (fun k h => h.elim), by omega, HO.out b (HR.out.now.o b off rfl).1⟩)
        have c0e : (w1.alloc (.cells #[] 59)).cell? ⟨B, 0, none⟩ = some (.slice (some ⟨b, off, none⟩) n cn) := (b2.cell (p := ⟨B, 0, none⟩) (by have := HO.out B HR.out.oB; have := HX.out.2.2.2.1; show B < _; omega)).trans c0
        have HS1 : Hid (Src Tryd.prog 2 35 (.slice (some ⟨b, off, none⟩) p cn) p (PrE.flat (s.now.take p)) (w1.alloc (.cells #[] 59))) := Lib.hid (by
          have := (HX.out.2.1.take p).src Tryd.underlying35 cn
          rw [HTK.out.1] at this
          exact this)
        clear b2
        go_wp2_with (at_builtin; refine Kq.wpList_append_any _ rfl (.tmp 50) (.tmp 56) 35 35 rfl 0 59 i0 (.agg #[.string ⟨#[]⟩, .string ⟨#[]⟩]) 2 32 Tryd.underlying35 hi0 hz0 hz1 hz2 rfl (by decide) (.slice (some ⟨w1.heap.size, 0, none⟩) 0 0) 0 (PrE.flat []) rfl HX.out.1 (.slice (some ⟨b, off, none⟩) p cn) p (PrE.flat (s.now.take p)) rfl HS1.out ?h1 ?h2 ?h3 ?_)
        case h1 => unfold maxLen; omega
        case h2 => omega
        case h3 => exact Nat.zero_le _
        intro v3 w3 hown3 hgrow hfresh
        obtain ⟨a3, q3, d3, hv3⟩ := Kq.own_shape hown3
        subst hv3
        have H3 : Hid ((w3.alloc (.cells #[.string k, .string v] 59)).ownsRow 0 59 2 (.slice a3 q3 d3) p (PrE.flat [] ++ PrE.flat (s.now.take p)) ∧ PrE.At (w3.alloc (.cells #[.string k, .string v] 59)) (some ⟨b, off, none⟩) s.now ∧ Kq.Keeps (fun k => w.heap.size ≤ k) w (w3.alloc (.cells #[.string k, .string v] 59)) ∧ (∀ g, (Value.slice a3 q3 d3).ownBlock = some g → w.heap.size ≤ g)) := Lib.hid (by
          have hk3 := Kq.Keeps.grown (S := (· = w1.heap.size)) hgrow (fun k _ h => (Option.some.inj h).symm)
          have b3 := Kq.below_alloc w3 (.cells #[.string k, .string v] 59)
          have hw := HX.out.2.2.2.1
          refine ⟨own_belowB hown3 b3, (HX.out.2.1.keeps hk3 (fun b' o e _ => by first | (cases e; done) | (injection e with e; injection e with e; have := HX.out.2.2.2.2; intro e2; have e3 : b' = w1.heap.size := e2; omega))).below b3, keeps_past (keeps_past HX.out.2.2.1 hk3 (fun k e => by have e3 : k = w1.heap.size := e; omega)) (Kq.Keeps.of_below (S := fun _ => False) b3 (fun k h1 h2 => absurd h1 (Nat.not_le.2 h2))) (fun k h => h.elim), fun g hg => ?_⟩
          rcases hfresh g hg with e | e
          · have : g = w1.heap.size := Option.some.inj e
            omega
          · (try simp at e); omega)
        have HS2 : Hid (Src Tryd.prog 2 35 (.slice (some ⟨w3.heap.size, 0, none⟩) 1 1) 1 (PrE.flat [(k, v)]) (w3.alloc (.cells #[.string k, .string v] 59))) := Lib.hid ((Kq.Elt.made_one (E := PrE) (k, v) w3 59).src Tryd.underlying35 1)
        clear hown3 hgrow hfresh HX HS1 c0 c0e
        go_wp2_with (at_builtin; refine Kq.wpList_append_any _ rfl (.tmp 57) (.tmp 61) 35 35 rfl 0 59 i0 (.agg #[.string ⟨#[]⟩, .string ⟨#[]⟩]) 2 32 Tryd.underlying35 hi0 hz0 hz1 hz2 rfl (by decide) (.slice a3 q3 d3) p (PrE.flat [] ++ PrE.flat (s.now.take p)) rfl H3.out.1 (.slice (some ⟨w3.heap.size, 0, none⟩) 1 1) 1 (PrE.flat [(k, v)]) rfl HS2.out ?h4 ?h5 ?h6 ?_)
        case h4 => unfold maxLen; omega
        case h5 => omega
        case h6 => exact Nat.zero_le _
        intro v4 w4 hown4 hgrow hfresh
        obtain ⟨a4, q4, d4, hv4⟩ := Kq.own_shape hown4
        subst hv4
        have hat : PrE.At w4 (some ⟨b, off, none⟩) s.now := by
          have hk4 := Kq.Keeps.grown (S := fun g => (Value.slice a3 q3 d3).ownBlock = some g) hgrow (fun k _ h => h)
          exact H3.out.2.1.keeps hk4 (fun b' o e _ => by first | (cases e; done) | (injection e with e; injection e with e; intro e2; have := H3.out.2.2.2 _ e2; have := HO.out b (HR.out.now.o b off rfl).1; omega))
        have H4 : Hid (w4.ownsRow 0 59 2 (.slice a4 q4 d4) (p + 1) (PrE.flat [] ++ (PrE.flat (s.now.take p) ++ PrE.flat [(k, v)])) ∧ Kq.Keeps (fun k => w.heap.size ≤ k) w w4 ∧ (∀ g, (Value.slice a4 q4 d4).ownBlock = some g → w.heap.size ≤ g)) := Lib.hid (by
          have hk4 := Kq.Keeps.grown (S := fun g => (Value.slice a3 q3 d3).ownBlock = some g) hgrow (fun k _ h => h)
          refine ⟨hown4, keeps_past H3.out.2.2.1 hk4 (fun k e => H3.out.2.2.2 k e), fun g hg => ?_⟩
          rcases hfresh g hg with e | e
          · exact H3.out.2.2.2 g e.symm
          · have h9 := H3.out.2.2.1.size; simp at h9; omega)
        have HS3 : Hid (Src Tryd.prog 2 35 (.slice (some ⟨b, off + (p + 1) * 2, none⟩) (n - (p + 1)) (cn - (p + 1))) (n - (p + 1)) (PrE.flat (s.now.drop (p + 1))) w4) := Lib.hid (by
          have h1 := (hat.drop (p + 1)).src Tryd.underlying35 (cn - (p + 1))
          rw [HTK.out.2] at h1
          exact h1)
        clear hown4 hgrow hfresh H3 HS2 hat
        go_wp2_with (at_builtin; refine Kq.wpList_append_any _ rfl (.tmp 62) (.tmp 63) 35 35 rfl 0 59 i0 (.agg #[.string ⟨#[]⟩, .string ⟨#[]⟩]) 2 32 Tryd.underlying35 hi0 hz0 hz1 hz2 rfl (by decide) (.slice a4 q4 d4) (p + 1) (PrE.flat [] ++ (PrE.flat (s.now.take p) ++ PrE.flat [(k, v)])) rfl H4.out.1 (.slice (some ⟨b, off + (p + 1) * 2, none⟩) (n - (p + 1)) (cn - (p + 1))) (n - (p + 1)) (PrE.flat (s.now.drop (p + 1))) rfl HS3.out ?h7 ?h8 ?h9 ?_)
        case h7 => unfold maxLen; omega
        case h8 => omega
        case h9 => exact Nat.zero_le _
        intro v5 w5 hown5 hgrow hfresh
        have HL5 : Hid (insP s.now k v = s.now.take p ++ [(k, v)] ++ s.now.drop (p + 1) ∧ (insP s.now k v).length = p + 1 + (n - (p + 1))) := Lib.hid (by
          have e1 : insP s.now k v = s.now.take p ++ [(k, v)] ++ s.now.drop (p + 1) := by
            rw [HCUT.out]; simp
          refine ⟨e1, ?_⟩
          rw [e1]
          simp only [List.length_append, HTK.out.1, HTK.out.2, List.length_cons, List.length_nil] <;> (try omega))
        have H5 : Hid (∃ g c, v5 = .slice (some ⟨g, 0, none⟩) (insP s.now k v).length c ∧ (insP s.now k v).length ≤ c ∧ PsAt w5 (some ⟨g, 0, none⟩) (insP s.now k v) ∧ (w.heap.size ≤ g ∧ g < w5.heap.size) ∧ Kq.Keeps (fun k => w.heap.size ≤ k) w w5) := Lib.hid (by
          have hk5 := Kq.Keeps.grown (S := fun g => (Value.slice a4 q4 d4).ownBlock = some g) hgrow (fun k _ h => h)
          have hrow : w5.ownsRow 0 59 2 v5 (insP s.now k v).length (PrE.flat (insP s.now k v)) := by
            rw [HL5.out.2, HL5.out.1, PrE.flat_append, PrE.flat_append]
            simpa [Kq.Elt.flat] using hown5
          obtain ⟨A', c', e, hc, hat', _, hnil⟩ := Kq.Elt.own_at (E := PrE) (l := insP s.now k v) hrow
          rcases hrow.2 with ⟨e2, h0⟩ | ⟨g, c, cur, e2, h1, h2, h3, _⟩
          · rw [HL5.out.2] at h0; omega
          · rw [e] at e2
            injection e2 with e3 e4 e5
            subst e3
            subst e5
            refine ⟨g, c', e, hc, psAt_E.2 hat', ⟨?_, Kq.blk_lt h2⟩, keeps_past H4.out.2.1 hk5 (fun k e => H4.out.2.2 k e)⟩
            rcases hfresh g (by rw [e]; rfl) with e6 | e6
            · exact H4.out.2.2 g e6.symm
            · have := H4.out.2.1.size; omega)
        obtain ⟨g, c, rfl, hc5, hps5, hg5, hk5⟩ := H5.out
        have hr5 := HR.out.keeps (S := fun _ => False) (Kq.Keeps.refl _ _) (fun _ _ h => h)
        have HB5 : Hid (RefP w O B s) := H
        obtain ⟨An0, cn0, Ab0, cb0, hr0⟩ := H.out
        have hr6 := hr0.keeps hk5 (fun k ho hh => by have := HO.out k ho; omega)
        have f0 := hr6.fz 0
        have c0 := hr6.c0
        have HEND : Hid (RefStep w O B (.int .i64 0) { s with now := insP s.now k v } (.returned (.int .i64 0)) (w5.setCell ⟨B, 0, none⟩ (.slice (some ⟨g, 0, none⟩) (insP s.now k v).length c))) := Lib.hid (by
          obtain ⟨q1, q2⟩ := hr0.now_new HO.out hk5 hps5 hg5 hc5 rfl
          exact ⟨rfl, q1, q2⟩)
        clear hown5 hgrow hfresh H5 hc5 hps5 hg5 hk5 hr5 HB5 hr0 hr6 HS3 H4
        go_wp2
        go_ret
        rw [HE.out]
        exact HEND.out
  | false =>
    clear hlt
    by_cases hf : 4096 ≤ n
    · have e1 : decide ((4096 : Int) ≤ (n : Int)) = true := decide_eq_true (by omega)
      have e2 : decide (4096 ≤ n) = true := decide_eq_true hf
      have HE := Lib.hid (HFU.out ⟨none_of HIL.out.symm, by rw [← HN.out]; exact hf⟩)
      have HS1 : Hid (RefStep w O B (.int .i64 2) s (.returned (.int .i64 2)) w1) := Lib.hid (by rw [HW.out]; exact RefStep.same H.out n1 rfl)
      rcases HR.out.sh with ⟨rfl, rfl⟩ | ⟨b, off, rfl⟩
      · omega
      · by_cases hcn : cn = p
        · have hcn' := hcn.symm
          subst hcn'
          clear hf HFU HOK
          go_wp2
          go_ret
          rw [HE.out]
          exact HS1.out
        · clear hf HFU HOK
          go_wp2
          go_ret
          rw [HE.out]
          exact HS1.out
    · have e1 : decide ((4096 : Int) ≤ (n : Int)) = false := decide_eq_false (by omega)
      have e2 : decide (4096 ≤ n) = false := decide_eq_false hf
      have HF : Hid (¬ (lk s.now k = none ∧ 4096 ≤ s.now.length)) := Lib.hid (fun ⟨_, h2⟩ => hf (by rw [HN.out]; exact h2))
      have HE := Lib.hid (HOK.out HF.out)
      clear hf HFU HOK
      rcases HR.out.sh with ⟨rfl, rfl⟩ | ⟨b, off, rfl⟩
      · have hn0 : n = 0 := by omega
        have hp0 : p = 0 := by omega
        subst hp0 hn0
        have HNIL : Hid (s.now = []) := Lib.hid (List.eq_nil_of_length_eq_zero HN.out.symm)
        have HTK : Hid ((s.now.take 0).length = 0 ∧ (s.now.drop (0)).length = 0 - (0)) := Lib.hid ⟨by rw [List.length_take]; have := HN.out; omega, by rw [List.length_drop, ← HN.out]⟩
        have b2 := Kq.below_alloc w1 (.cells #[] 59)
        have HX : Hid ((w1.alloc (.cells #[] 59)).ownsRow 0 59 2 (.slice (some ⟨w1.heap.size, 0, none⟩) 0 0) 0 (PrE.flat []) ∧ PrE.At (w1.alloc (.cells #[] 59)) none s.now ∧ Kq.Keeps (fun k => w.heap.size ≤ k) w (w1.alloc (.cells #[] 59)) ∧ w.heap.size ≤ w1.heap.size ∧ True) := Lib.hid (by
          have hk1 : Kq.Keeps (fun k => w.heap.size ≤ k) w w1 := by rw [HW.out]; exact Kq.Keeps.of_below (below_drewN (Below.refl _ _) n1) (fun k h1 _ => h1)
          have hsz : w.heap.size = w1.heap.size := by rw [HW.out]; rfl
          refine ⟨⟨rfl, Or.inr ⟨w1.heap.size, 0, #[], rfl, Nat.zero_le _, Kq.blk_new w1 #[] 59 (0, 0), Nat.le_refl _, by decide, rfl, rfl⟩⟩, (psAt_E.1 HR.out.now.at_).below b2, keeps_past hk1 (Kq.Keeps.of_below (S := fun _ => False) b2 (fun k h1 h2 => absurd h1 (Nat.not_le.2 h2))) (fun k h => h.elim), by omega, trivial⟩)
        have c0e : (w1.alloc (.cells #[] 59)).cell? ⟨B, 0, none⟩ = some (.slice none 0 0) := (b2.cell (p := ⟨B, 0, none⟩) (by have := HO.out B HR.out.oB; have := HX.out.2.2.2.1; show B < _; omega)).trans c0
        have HS1 : Hid (Src Tryd.prog 2 35 (.slice none 0 0) 0 (PrE.flat []) (w1.alloc (.cells #[] 59))) := Lib.hid (by
          exact Kq.Elt.src_nil (E := PrE) Tryd.underlying35 none 0)
        clear b2
        go_wp2_with (at_builtin; refine Kq.wpList_append_any _ rfl (.tmp 50) (.tmp 56) 35 35 rfl 0 59 i0 (.agg #[.string ⟨#[]⟩, .string ⟨#[]⟩]) 2 32 Tryd.underlying35 hi0 hz0 hz1 hz2 rfl (by decide) (.slice (some ⟨w1.heap.size, 0, none⟩) 0 0) 0 (PrE.flat []) rfl HX.out.1 (.slice none 0 0) 0 (PrE.flat []) rfl HS1.out ?h1 ?h2 ?h3 ?_)
        case h1 => unfold maxLen; omega
        case h2 => omega
        case h3 => exact Nat.zero_le _
        intro v3 w3 hown3 hgrow hfresh
        obtain ⟨a3, q3, d3, hv3⟩ := Kq.own_shape hown3
        subst hv3
        have H3 : Hid ((w3.alloc (.cells #[.string k, .string v] 59)).ownsRow 0 59 2 (.slice a3 q3 d3) 0 (PrE.flat [] ++ PrE.flat []) ∧ PrE.At (w3.alloc (.cells #[.string k, .string v] 59)) none s.now ∧ Kq.Keeps (fun k => w.heap.size ≤ k) w (w3.alloc (.cells #[.string k, .string v] 59)) ∧ (∀ g, (Value.slice a3 q3 d3).ownBlock = some g → w.heap.size ≤ g)) := Lib.hid (by
          have hk3 := Kq.Keeps.grown (S := (· = w1.heap.size)) hgrow (fun k _ h => (Option.some.inj h).symm)
          have b3 := Kq.below_alloc w3 (.cells #[.string k, .string v] 59)
          have hw := HX.out.2.2.2.1
          refine ⟨own_belowB hown3 b3, (HX.out.2.1.keeps hk3 (fun b' o e _ => by first | (cases e; done) | (injection e with e; injection e with e; have := HX.out.2.2.2.2; intro e2; have e3 : b' = w1.heap.size := e2; omega))).below b3, keeps_past (keeps_past HX.out.2.2.1 hk3 (fun k e => by have e3 : k = w1.heap.size := e; omega)) (Kq.Keeps.of_below (S := fun _ => False) b3 (fun k h1 h2 => absurd h1 (Nat.not_le.2 h2))) (fun k h => h.elim), fun g hg => ?_⟩
          rcases hfresh g hg with e | e
          · have : g = w1.heap.size := Option.some.inj e
            omega
          · (try simp at e); omega)
        have HS2 : Hid (Src Tryd.prog 2 35 (.slice (some ⟨w3.heap.size, 0, none⟩) 1 1) 1 (PrE.flat [(k, v)]) (w3.alloc (.cells #[.string k, .string v] 59))) := Lib.hid ((Kq.Elt.made_one (E := PrE) (k, v) w3 59).src Tryd.underlying35 1)
        clear hown3 hgrow hfresh HX HS1 c0 c0e
        go_wp2_with (at_builtin; refine Kq.wpList_append_any _ rfl (.tmp 57) (.tmp 61) 35 35 rfl 0 59 i0 (.agg #[.string ⟨#[]⟩, .string ⟨#[]⟩]) 2 32 Tryd.underlying35 hi0 hz0 hz1 hz2 rfl (by decide) (.slice a3 q3 d3) 0 (PrE.flat [] ++ PrE.flat []) rfl H3.out.1 (.slice (some ⟨w3.heap.size, 0, none⟩) 1 1) 1 (PrE.flat [(k, v)]) rfl HS2.out ?h4 ?h5 ?h6 ?_)
        case h4 => unfold maxLen; omega
        case h5 => omega
        case h6 => exact Nat.zero_le _
        intro v4 w4 hown4 hgrow hfresh
        obtain ⟨a4, q4, d4, hv4⟩ := Kq.own_shape hown4
        subst hv4
        have hat : PrE.At w4 none s.now := by
          have hk4 := Kq.Keeps.grown (S := fun g => (Value.slice a3 q3 d3).ownBlock = some g) hgrow (fun k _ h => h)
          exact H3.out.2.1.keeps hk4 (fun b' o e _ => by first | (cases e; done) | (injection e with e; injection e with e; intro e2; have := H3.out.2.2.2 _ e2; have := HO.out b (HR.out.now.o b off rfl).1; omega))
        have H4 : Hid (w4.ownsRow 0 59 2 (.slice a4 q4 d4) 1 (PrE.flat [] ++ (PrE.flat [] ++ PrE.flat [(k, v)])) ∧ Kq.Keeps (fun k => w.heap.size ≤ k) w w4 ∧ (∀ g, (Value.slice a4 q4 d4).ownBlock = some g → w.heap.size ≤ g)) := Lib.hid (by
          have hk4 := Kq.Keeps.grown (S := fun g => (Value.slice a3 q3 d3).ownBlock = some g) hgrow (fun k _ h => h)
          refine ⟨hown4, keeps_past H3.out.2.2.1 hk4 (fun k e => H3.out.2.2.2 k e), fun g hg => ?_⟩
          rcases hfresh g hg with e | e
          · exact H3.out.2.2.2 g e.symm
          · have h9 := H3.out.2.2.1.size; simp at h9; omega)
        have HS3 : Hid (Src Tryd.prog 2 35 (.slice none 0 0) 0 (PrE.flat []) w4) := Lib.hid (by
          exact Kq.Elt.src_nil (E := PrE) Tryd.underlying35 _ _)
        clear hown4 hgrow hfresh H3 HS2 hat
        go_wp2_with (at_builtin; refine Kq.wpList_append_any _ rfl (.tmp 62) (.tmp 63) 35 35 rfl 0 59 i0 (.agg #[.string ⟨#[]⟩, .string ⟨#[]⟩]) 2 32 Tryd.underlying35 hi0 hz0 hz1 hz2 rfl (by decide) (.slice a4 q4 d4) 1 (PrE.flat [] ++ (PrE.flat [] ++ PrE.flat [(k, v)])) rfl H4.out.1 (.slice none 0 0) 0 (PrE.flat []) rfl HS3.out ?h7 ?h8 ?h9 ?_)
        case h7 => unfold maxLen; omega
        case h8 => omega
        case h9 => exact Nat.zero_le _
        intro v5 w5 hown5 hgrow hfresh
        have HL5 : Hid (insP s.now k v = s.now.take 0 ++ [(k, v)] ++ s.now.drop (0) ∧ (insP s.now k v).length = 1) := Lib.hid (by
          have e1 : insP s.now k v = s.now.take 0 ++ [(k, v)] ++ s.now.drop (0) := by
            rw [HCUT.out]; simp
          refine ⟨e1, ?_⟩
          rw [e1]
          simp only [List.length_append, HTK.out.1, HTK.out.2, List.length_cons, List.length_nil] <;> (try omega))
        have H5 : Hid (∃ g c, v5 = .slice (some ⟨g, 0, none⟩) (insP s.now k v).length c ∧ (insP s.now k v).length ≤ c ∧ PsAt w5 (some ⟨g, 0, none⟩) (insP s.now k v) ∧ (w.heap.size ≤ g ∧ g < w5.heap.size) ∧ Kq.Keeps (fun k => w.heap.size ≤ k) w w5) := Lib.hid (by
          have hk5 := Kq.Keeps.grown (S := fun g => (Value.slice a4 q4 d4).ownBlock = some g) hgrow (fun k _ h => h)
          have hrow : w5.ownsRow 0 59 2 v5 (insP s.now k v).length (PrE.flat (insP s.now k v)) := by
            rw [HL5.out.2, HL5.out.1, PrE.flat_append, PrE.flat_append]
            simpa [Kq.Elt.flat, HNIL.out] using hown5
          obtain ⟨A', c', e, hc, hat', _, hnil⟩ := Kq.Elt.own_at (E := PrE) (l := insP s.now k v) hrow
          rcases hrow.2 with ⟨e2, h0⟩ | ⟨g, c, cur, e2, h1, h2, h3, _⟩
          · rw [HL5.out.2] at h0; omega
          · rw [e] at e2
            injection e2 with e3 e4 e5
            subst e3
            subst e5
            refine ⟨g, c', e, hc, psAt_E.2 hat', ⟨?_, Kq.blk_lt h2⟩, keeps_past H4.out.2.1 hk5 (fun k e => H4.out.2.2 k e)⟩
            rcases hfresh g (by rw [e]; rfl) with e6 | e6
            · exact H4.out.2.2 g e6.symm
            · have := H4.out.2.1.size; omega)
        obtain ⟨g, c, rfl, hc5, hps5, hg5, hk5⟩ := H5.out
        have hr5 := HR.out.keeps (S := fun _ => False) (Kq.Keeps.refl _ _) (fun _ _ h => h)
        have HB5 : Hid (RefP w O B s) := H
        obtain ⟨An0, cn0, Ab0, cb0, hr0⟩ := H.out
        have hr6 := hr0.keeps hk5 (fun k ho hh => by have := HO.out k ho; omega)
        have f0 := hr6.fz 0
        have c0 := hr6.c0
        have HEND : Hid (RefStep w O B (.int .i64 0) { s with now := insP s.now k v } (.returned (.int .i64 0)) (w5.setCell ⟨B, 0, none⟩ (.slice (some ⟨g, 0, none⟩) (insP s.now k v).length c))) := Lib.hid (by
          obtain ⟨q1, q2⟩ := hr0.now_new HO.out hk5 hps5 hg5 hc5 rfl
          exact ⟨rfl, q1, q2⟩)
        clear hown5 hgrow hfresh H5 hc5 hps5 hg5 hk5 hr5 HB5 hr0 hr6 HS3 H4
        go_wp2
        go_ret
        rw [HE.out]
        exact HEND.out
      · by_cases hcn : cn = p
        · have hcn' := hcn.symm
          subst hcn'
          have HTK : Hid ((s.now.take p).length = p ∧ (s.now.drop (p)).length = n - (p)) := Lib.hid ⟨by rw [List.length_take]; have := HN.out; omega, by rw [List.length_drop, ← HN.out]⟩
          have b2 := Kq.below_alloc w1 (.cells #[] 59)
          have HX : Hid ((w1.alloc (.cells #[] 59)).ownsRow 0 59 2 (.slice (some ⟨w1.heap.size, 0, none⟩) 0 0) 0 (PrE.flat []) ∧ PrE.At (w1.alloc (.cells #[] 59)) (some ⟨b, off, none⟩) s.now ∧ Kq.Keeps (fun k => w.heap.size ≤ k) w (w1.alloc (.cells #[] 59)) ∧ w.heap.size ≤ w1.heap.size ∧ b < w.heap.size) := Lib.hid (by
            have hk1 : Kq.Keeps (fun k => w.heap.size ≤ k) w w1 := by rw [HW.out]; exact Kq.Keeps.of_below (below_drewN (Below.refl _ _) n1) (fun k h1 _ => h1)
            have hsz : w.heap.size = w1.heap.size := by rw [HW.out]; rfl
            refine ⟨⟨rfl, Or.inr ⟨w1.heap.size, 0, #[], rfl, Nat.zero_le _, Kq.blk_new w1 #[] 59 (0, 0), Nat.le_refl _, by decide, rfl, rfl⟩⟩, (psAt_E.1 HR.out.now.at_).below b2, keeps_past hk1 (Kq.Keeps.of_below (S := fun _ => False) b2 (fun k h1 h2 => absurd h1 (Nat.not_le.2 h2))) (fun k h => h.elim), by omega, HO.out b (HR.out.now.o b off rfl).1⟩)
          have c0e : (w1.alloc (.cells #[] 59)).cell? ⟨B, 0, none⟩ = some (.slice (some ⟨b, off, none⟩) n p) := (b2.cell (p := ⟨B, 0, none⟩) (by have := HO.out B HR.out.oB; have := HX.out.2.2.2.1; show B < _; omega)).trans c0
          have HS1 : Hid (Src Tryd.prog 2 35 (.slice (some ⟨b, off, none⟩) p p) p (PrE.flat (s.now.take p)) (w1.alloc (.cells #[] 59))) := Lib.hid (by
            have := (HX.out.2.1.take p).src Tryd.underlying35 p
            rw [HTK.out.1] at this
            exact this)
          clear b2
          go_wp2_with (at_builtin; refine Kq.wpList_append_any _ rfl (.tmp 50) (.tmp 56) 35 35 rfl 0 59 i0 (.agg #[.string ⟨#[]⟩, .string ⟨#[]⟩]) 2 32 Tryd.underlying35 hi0 hz0 hz1 hz2 rfl (by decide) (.slice (some ⟨w1.heap.size, 0, none⟩) 0 0) 0 (PrE.flat []) rfl HX.out.1 (.slice (some ⟨b, off, none⟩) p p) p (PrE.flat (s.now.take p)) rfl HS1.out ?h1 ?h2 ?h3 ?_)
          case h1 => unfold maxLen; omega
          case h2 => omega
          case h3 => exact Nat.zero_le _
          intro v3 w3 hown3 hgrow hfresh
          obtain ⟨a3, q3, d3, hv3⟩ := Kq.own_shape hown3
          subst hv3
          have H3 : Hid ((w3.alloc (.cells #[.string k, .string v] 59)).ownsRow 0 59 2 (.slice a3 q3 d3) p (PrE.flat [] ++ PrE.flat (s.now.take p)) ∧ PrE.At (w3.alloc (.cells #[.string k, .string v] 59)) (some ⟨b, off, none⟩) s.now ∧ Kq.Keeps (fun k => w.heap.size ≤ k) w (w3.alloc (.cells #[.string k, .string v] 59)) ∧ (∀ g, (Value.slice a3 q3 d3).ownBlock = some g → w.heap.size ≤ g)) := Lib.hid (by
            have hk3 := Kq.Keeps.grown (S := (· = w1.heap.size)) hgrow (fun k _ h => (Option.some.inj h).symm)
            have b3 := Kq.below_alloc w3 (.cells #[.string k, .string v] 59)
            have hw := HX.out.2.2.2.1
            refine ⟨own_belowB hown3 b3, (HX.out.2.1.keeps hk3 (fun b' o e _ => by first | (cases e; done) | (injection e with e; injection e with e; have := HX.out.2.2.2.2; intro e2; have e3 : b' = w1.heap.size := e2; omega))).below b3, keeps_past (keeps_past HX.out.2.2.1 hk3 (fun k e => by have e3 : k = w1.heap.size := e; omega)) (Kq.Keeps.of_below (S := fun _ => False) b3 (fun k h1 h2 => absurd h1 (Nat.not_le.2 h2))) (fun k h => h.elim), fun g hg => ?_⟩
            rcases hfresh g hg with e | e
            · have : g = w1.heap.size := Option.some.inj e
              omega
            · (try simp at e); omega)
          have HS2 : Hid (Src Tryd.prog 2 35 (.slice (some ⟨w3.heap.size, 0, none⟩) 1 1) 1 (PrE.flat [(k, v)]) (w3.alloc (.cells #[.string k, .string v] 59))) := Lib.hid ((Kq.Elt.made_one (E := PrE) (k, v) w3 59).src Tryd.underlying35 1)
          clear hown3 hgrow hfresh HX HS1 c0 c0e
          go_wp2_with (at_builtin; refine Kq.wpList_append_any _ rfl (.tmp 57) (.tmp 61) 35 35 rfl 0 59 i0 (.agg #[.string ⟨#[]⟩, .string ⟨#[]⟩]) 2 32 Tryd.underlying35 hi0 hz0 hz1 hz2 rfl (by decide) (.slice a3 q3 d3) p (PrE.flat [] ++ PrE.flat (s.now.take p)) rfl H3.out.1 (.slice (some ⟨w3.heap.size, 0, none⟩) 1 1) 1 (PrE.flat [(k, v)]) rfl HS2.out ?h4 ?h5 ?h6 ?_)
          case h4 => unfold maxLen; omega
          case h5 => omega
          case h6 => exact Nat.zero_le _
          intro v4 w4 hown4 hgrow hfresh
          obtain ⟨a4, q4, d4, hv4⟩ := Kq.own_shape hown4
          subst hv4
          have hat : PrE.At w4 (some ⟨b, off, none⟩) s.now := by
            have hk4 := Kq.Keeps.grown (S := fun g => (Value.slice a3 q3 d3).ownBlock = some g) hgrow (fun k _ h => h)
            exact H3.out.2.1.keeps hk4 (fun b' o e _ => by first | (cases e; done) | (injection e with e; injection e with e; intro e2; have := H3.out.2.2.2 _ e2; have := HO.out b (HR.out.now.o b off rfl).1; omega))
          have H4 : Hid (w4.ownsRow 0 59 2 (.slice a4 q4 d4) (p + 1) (PrE.flat [] ++ (PrE.flat (s.now.take p) ++ PrE.flat [(k, v)])) ∧ Kq.Keeps (fun k => w.heap.size ≤ k) w w4 ∧ (∀ g, (Value.slice a4 q4 d4).ownBlock = some g → w.heap.size ≤ g)) := Lib.hid (by
            have hk4 := Kq.Keeps.grown (S := fun g => (Value.slice a3 q3 d3).ownBlock = some g) hgrow (fun k _ h => h)
            refine ⟨hown4, keeps_past H3.out.2.2.1 hk4 (fun k e => H3.out.2.2.2 k e), fun g hg => ?_⟩
            rcases hfresh g hg with e | e
            · exact H3.out.2.2.2 g e.symm
            · have h9 := H3.out.2.2.1.size; simp at h9; omega)
          have HS3 : Hid (Src Tryd.prog 2 35 (.slice (some ⟨b, off, none⟩) 0 0) 0 (PrE.flat (s.now.drop (p))) w4) := Lib.hid (by
            have h0 : s.now.drop (p) = [] := List.eq_nil_of_length_eq_zero (by rw [HTK.out.2]; omega)
            rw [h0]
            exact Kq.Elt.src_nil (E := PrE) Tryd.underlying35 _ _)
          clear hown4 hgrow hfresh H3 HS2 hat
          go_wp2_with (at_builtin; refine Kq.wpList_append_any _ rfl (.tmp 62) (.tmp 63) 35 35 rfl 0 59 i0 (.agg #[.string ⟨#[]⟩, .string ⟨#[]⟩]) 2 32 Tryd.underlying35 hi0 hz0 hz1 hz2 rfl (by decide) (.slice a4 q4 d4) (p + 1) (PrE.flat [] ++ (PrE.flat (s.now.take p) ++ PrE.flat [(k, v)])) rfl H4.out.1 (.slice (some ⟨b, off, none⟩) 0 0) 0 (PrE.flat (s.now.drop (p))) rfl HS3.out ?h7 ?h8 ?h9 ?_)
          case h7 => unfold maxLen; omega
          case h8 => omega
          case h9 => exact Nat.zero_le _
          intro v5 w5 hown5 hgrow hfresh
          have HL5 : Hid (insP s.now k v = s.now.take p ++ [(k, v)] ++ s.now.drop (p) ∧ (insP s.now k v).length = p + 1 + 0) := Lib.hid (by
            have e1 : insP s.now k v = s.now.take p ++ [(k, v)] ++ s.now.drop (p) := by
              rw [HCUT.out]; simp
            refine ⟨e1, ?_⟩
            rw [e1]
            simp only [List.length_append, HTK.out.1, HTK.out.2, List.length_cons, List.length_nil] <;> (try omega))
          have H5 : Hid (∃ g c, v5 = .slice (some ⟨g, 0, none⟩) (insP s.now k v).length c ∧ (insP s.now k v).length ≤ c ∧ PsAt w5 (some ⟨g, 0, none⟩) (insP s.now k v) ∧ (w.heap.size ≤ g ∧ g < w5.heap.size) ∧ Kq.Keeps (fun k => w.heap.size ≤ k) w w5) := Lib.hid (by
            have hk5 := Kq.Keeps.grown (S := fun g => (Value.slice a4 q4 d4).ownBlock = some g) hgrow (fun k _ h => h)
            have hrow : w5.ownsRow 0 59 2 v5 (insP s.now k v).length (PrE.flat (insP s.now k v)) := by
              rw [HL5.out.2, HL5.out.1, PrE.flat_append, PrE.flat_append]
              simpa [Kq.Elt.flat] using hown5
            obtain ⟨A', c', e, hc, hat', _, hnil⟩ := Kq.Elt.own_at (E := PrE) (l := insP s.now k v) hrow
            rcases hrow.2 with ⟨e2, h0⟩ | ⟨g, c, cur, e2, h1, h2, h3, _⟩
            · rw [HL5.out.2] at h0; omega
            · rw [e] at e2
              injection e2 with e3 e4 e5
              subst e3
              subst e5
              refine ⟨g, c', e, hc, psAt_E.2 hat', ⟨?_, Kq.blk_lt h2⟩, keeps_past H4.out.2.1 hk5 (fun k e => H4.out.2.2 k e)⟩
              rcases hfresh g (by rw [e]; rfl) with e6 | e6
              · exact H4.out.2.2 g e6.symm
              · have := H4.out.2.1.size; omega)
          obtain ⟨g, c, rfl, hc5, hps5, hg5, hk5⟩ := H5.out
          have hr5 := HR.out.keeps (S := fun _ => False) (Kq.Keeps.refl _ _) (fun _ _ h => h)
          have HB5 : Hid (RefP w O B s) := H
          obtain ⟨An0, cn0, Ab0, cb0, hr0⟩ := H.out
          have hr6 := hr0.keeps hk5 (fun k ho hh => by have := HO.out k ho; omega)
          have f0 := hr6.fz 0
          have c0 := hr6.c0
          have HEND : Hid (RefStep w O B (.int .i64 0) { s with now := insP s.now k v } (.returned (.int .i64 0)) (w5.setCell ⟨B, 0, none⟩ (.slice (some ⟨g, 0, none⟩) (insP s.now k v).length c))) := Lib.hid (by
            obtain ⟨q1, q2⟩ := hr0.now_new HO.out hk5 hps5 hg5 hc5 rfl
            exact ⟨rfl, q1, q2⟩)
          clear hown5 hgrow hfresh H5 hc5 hps5 hg5 hk5 hr5 HB5 hr0 hr6 HS3 H4
          go_wp2
          go_ret
          rw [HE.out]
          exact HEND.out
        · have hcz : ¬ cn - p = 0 := by omega
          have HTK : Hid ((s.now.take p).length = p ∧ (s.now.drop (p)).length = n - (p)) := Lib.hid ⟨by rw [List.length_take]; have := HN.out; omega, by rw [List.length_drop, ← HN.out]⟩
          have b2 := Kq.below_alloc w1 (.cells #[] 59)
          have HX : Hid ((w1.alloc (.cells #[] 59)).ownsRow 0 59 2 (.slice (some ⟨w1.heap.size, 0, none⟩) 0 0) 0 (PrE.flat []) ∧ PrE.At (w1.alloc (.cells #[] 59)) (some ⟨b, off, none⟩) s.now ∧ Kq.Keeps (fun k => w.heap.size ≤ k) w (w1.alloc (.cells #[] 59)) ∧ w.heap.size ≤ w1.heap.size ∧ b < w.heap.size) := Lib.hid (by
            have hk1 : Kq.Keeps (fun k => w.heap.size ≤ k) w w1 := by rw [HW.out]; exact Kq.Keeps.of_below (below_drewN (Below.refl _ _) n1) (fun k h1 _ => h1)
            have hsz : w.heap.size = w1.heap.size := by rw [HW.out]; rfl
            refine ⟨⟨rfl, Or.inr ⟨w1.heap.size, 0, #[], rfl, Nat.zero_le _, Kq.blk_new w1 #[] 59 (0, 0), Nat.le_refl _, by decide, rfl, rfl⟩⟩, (psAt_E.1 HR.out.now.at_).below b2, keeps_past hk1 (Kq.Keeps.of_below (S := fun _ => False) b2 (fun k h1 h2 => absurd h1 (Nat.not_le.2 h2))) (fun k h => h.elim), by omega, HO.out b (HR.out.now.o b off rfl).1⟩)
          have c0e : (w1.alloc (.cells #[] 59)).cell? ⟨B, 0, none⟩ = some (.slice (some ⟨b, off, none⟩) n cn) := (b2.cell (p := ⟨B, 0, none⟩) (by have := HO.out B HR.out.oB; have := HX.out.2.2.2.1; show B < _; omega)).trans c0
          have HS1 : Hid (Src Tryd.prog 2 35 (.slice (some ⟨b, off, none⟩) p cn) p (PrE.flat (s.now.take p)) (w1.alloc (.cells #[] 59))) := Lib.hid (by
            have := (HX.out.2.1.take p).src Tryd.underlying35 cn
            rw [HTK.out.1] at this
            exact this)
          clear b2
          go_wp2_with (at_builtin; refine Kq.wpList_append_any _ rfl (.tmp 50) (.tmp 56) 35 35 rfl 0 59 i0 (.agg #[.string ⟨#[]⟩, .string ⟨#[]⟩]) 2 32 Tryd.underlying35 hi0 hz0 hz1 hz2 rfl (by decide) (.slice (some ⟨w1.heap.size, 0, none⟩) 0 0) 0 (PrE.flat []) rfl HX.out.1 (.slice (some ⟨b, off, none⟩) p cn) p (PrE.flat (s.now.take p)) rfl HS1.out ?h1 ?h2 ?h3 ?_)
          case h1 => unfold maxLen; omega
          case h2 => omega
          case h3 => exact Nat.zero_le _
          intro v3 w3 hown3 hgrow hfresh
          obtain ⟨a3, q3, d3, hv3⟩ := Kq.own_shape hown3
          subst hv3
          have H3 : Hid ((w3.alloc (.cells #[.string k, .string v] 59)).ownsRow 0 59 2 (.slice a3 q3 d3) p (PrE.flat [] ++ PrE.flat (s.now.take p)) ∧ PrE.At (w3.alloc (.cells #[.string k, .string v] 59)) (some ⟨b, off, none⟩) s.now ∧ Kq.Keeps (fun k => w.heap.size ≤ k) w (w3.alloc (.cells #[.string k, .string v] 59)) ∧ (∀ g, (Value.slice a3 q3 d3).ownBlock = some g → w.heap.size ≤ g)) := Lib.hid (by
            have hk3 := Kq.Keeps.grown (S := (· = w1.heap.size)) hgrow (fun k _ h => (Option.some.inj h).symm)
            have b3 := Kq.below_alloc w3 (.cells #[.string k, .string v] 59)
            have hw := HX.out.2.2.2.1
            refine ⟨own_belowB hown3 b3, (HX.out.2.1.keeps hk3 (fun b' o e _ => by first | (cases e; done) | (injection e with e; injection e with e; have := HX.out.2.2.2.2; intro e2; have e3 : b' = w1.heap.size := e2; omega))).below b3, keeps_past (keeps_past HX.out.2.2.1 hk3 (fun k e => by have e3 : k = w1.heap.size := e; omega)) (Kq.Keeps.of_below (S := fun _ => False) b3 (fun k h1 h2 => absurd h1 (Nat.not_le.2 h2))) (fun k h => h.elim), fun g hg => ?_⟩
            rcases hfresh g hg with e | e
            · have : g = w1.heap.size := Option.some.inj e
              omega
            · (try simp at e); omega)
          have HS2 : Hid (Src Tryd.prog 2 35 (.slice (some ⟨w3.heap.size, 0, none⟩) 1 1) 1 (PrE.flat [(k, v)]) (w3.alloc (.cells #[.string k, .string v] 59))) := Lib.hid ((Kq.Elt.made_one (E := PrE) (k, v) w3 59).src Tryd.underlying35 1)
          clear hown3 hgrow hfresh HX HS1 c0 c0e
          go_wp2_with (at_builtin; refine Kq.wpList_append_any _ rfl (.tmp 57) (.tmp 61) 35 35 rfl 0 59 i0 (.agg #[.string ⟨#[]⟩, .string ⟨#[]⟩]) 2 32 Tryd.underlying35 hi0 hz0 hz1 hz2 rfl (by decide) (.slice a3 q3 d3) p (PrE.flat [] ++ PrE.flat (s.now.take p)) rfl H3.out.1 (.slice (some ⟨w3.heap.size, 0, none⟩) 1 1) 1 (PrE.flat [(k, v)]) rfl HS2.out ?h4 ?h5 ?h6 ?_)
          case h4 => unfold maxLen; omega
          case h5 => omega
          case h6 => exact Nat.zero_le _
          intro v4 w4 hown4 hgrow hfresh
          obtain ⟨a4, q4, d4, hv4⟩ := Kq.own_shape hown4
          subst hv4
          have hat : PrE.At w4 (some ⟨b, off, none⟩) s.now := by
            have hk4 := Kq.Keeps.grown (S := fun g => (Value.slice a3 q3 d3).ownBlock = some g) hgrow (fun k _ h => h)
            exact H3.out.2.1.keeps hk4 (fun b' o e _ => by first | (cases e; done) | (injection e with e; injection e with e; intro e2; have := H3.out.2.2.2 _ e2; have := HO.out b (HR.out.now.o b off rfl).1; omega))
          have H4 : Hid (w4.ownsRow 0 59 2 (.slice a4 q4 d4) (p + 1) (PrE.flat [] ++ (PrE.flat (s.now.take p) ++ PrE.flat [(k, v)])) ∧ Kq.Keeps (fun k => w.heap.size ≤ k) w w4 ∧ (∀ g, (Value.slice a4 q4 d4).ownBlock = some g → w.heap.size ≤ g)) := Lib.hid (by
            have hk4 := Kq.Keeps.grown (S := fun g => (Value.slice a3 q3 d3).ownBlock = some g) hgrow (fun k _ h => h)
            refine ⟨hown4, keeps_past H3.out.2.2.1 hk4 (fun k e => H3.out.2.2.2 k e), fun g hg => ?_⟩
            rcases hfresh g hg with e | e
            · exact H3.out.2.2.2 g e.symm
            · have h9 := H3.out.2.2.1.size; simp at h9; omega)
          have HS3 : Hid (Src Tryd.prog 2 35 (.slice (some ⟨b, off + p * 2, none⟩) (n - p) (cn - p)) (n - (p)) (PrE.flat (s.now.drop (p))) w4) := Lib.hid (by
            have h1 := (hat.drop (p)).src Tryd.underlying35 (cn - (p))
            rw [HTK.out.2] at h1
            exact h1)
          clear hown4 hgrow hfresh H3 HS2 hat
          go_wp2_with (at_builtin; refine Kq.wpList_append_any _ rfl (.tmp 62) (.tmp 63) 35 35 rfl 0 59 i0 (.agg #[.string ⟨#[]⟩, .string ⟨#[]⟩]) 2 32 Tryd.underlying35 hi0 hz0 hz1 hz2 rfl (by decide) (.slice a4 q4 d4) (p + 1) (PrE.flat [] ++ (PrE.flat (s.now.take p) ++ PrE.flat [(k, v)])) rfl H4.out.1 (.slice (some ⟨b, off + p * 2, none⟩) (n - p) (cn - p)) (n - (p)) (PrE.flat (s.now.drop (p))) rfl HS3.out ?h7 ?h8 ?h9 ?_)
          case h7 => unfold maxLen; omega
          case h8 => omega
          case h9 => exact Nat.zero_le _
          intro v5 w5 hown5 hgrow hfresh
          have HL5 : Hid (insP s.now k v = s.now.take p ++ [(k, v)] ++ s.now.drop (p) ∧ (insP s.now k v).length = p + 1 + (n - (p))) := Lib.hid (by
            have e1 : insP s.now k v = s.now.take p ++ [(k, v)] ++ s.now.drop (p) := by
              rw [HCUT.out]; simp
            refine ⟨e1, ?_⟩
            rw [e1]
            simp only [List.length_append, HTK.out.1, HTK.out.2, List.length_cons, List.length_nil] <;> (try omega))
          have H5 : Hid (∃ g c, v5 = .slice (some ⟨g, 0, none⟩) (insP s.now k v).length c ∧ (insP s.now k v).length ≤ c ∧ PsAt w5 (some ⟨g, 0, none⟩) (insP s.now k v) ∧ (w.heap.size ≤ g ∧ g < w5.heap.size) ∧ Kq.Keeps (fun k => w.heap.size ≤ k) w w5) := Lib.hid (by
            have hk5 := Kq.Keeps.grown (S := fun g => (Value.slice a4 q4 d4).ownBlock = some g) hgrow (fun k _ h => h)
            have hrow : w5.ownsRow 0 59 2 v5 (insP s.now k v).length (PrE.flat (insP s.now k v)) := by
              rw [HL5.out.2, HL5.out.1, PrE.flat_append, PrE.flat_append]
              simpa [Kq.Elt.flat] using hown5
            obtain ⟨A', c', e, hc, hat', _, hnil⟩ := Kq.Elt.own_at (E := PrE) (l := insP s.now k v) hrow
            rcases hrow.2 with ⟨e2, h0⟩ | ⟨g, c, cur, e2, h1, h2, h3, _⟩
            · rw [HL5.out.2] at h0; omega
            · rw [e] at e2
              injection e2 with e3 e4 e5
              subst e3
              subst e5
              refine ⟨g, c', e, hc, psAt_E.2 hat', ⟨?_, Kq.blk_lt h2⟩, keeps_past H4.out.2.1 hk5 (fun k e => H4.out.2.2 k e)⟩
              rcases hfresh g (by rw [e]; rfl) with e6 | e6
              · exact H4.out.2.2 g e6.symm
              · have := H4.out.2.1.size; omega)
          obtain ⟨g, c, rfl, hc5, hps5, hg5, hk5⟩ := H5.out
          have hr5 := HR.out.keeps (S := fun _ => False) (Kq.Keeps.refl _ _) (fun _ _ h => h)
          have HB5 : Hid (RefP w O B s) := H
          obtain ⟨An0, cn0, Ab0, cb0, hr0⟩ := H.out
          have hr6 := hr0.keeps hk5 (fun k ho hh => by have := HO.out k ho; omega)
          have f0 := hr6.fz 0
          have c0 := hr6.c0
          have HEND : Hid (RefStep w O B (.int .i64 0) { s with now := insP s.now k v } (.returned (.int .i64 0)) (w5.setCell ⟨B, 0, none⟩ (.slice (some ⟨g, 0, none⟩) (insP s.now k v).length c))) := Lib.hid (by
            obtain ⟨q1, q2⟩ := hr0.now_new HO.out hk5 hps5 hg5 hc5 rfl
            exact ⟨rfl, q1, q2⟩)
          clear hown5 hgrow hfresh H5 hc5 hps5 hg5 hk5 hr5 HB5 hr0 hr6 HS3 H4
          go_wp2
          go_ret
          rw [HE.out]
          exact HEND.out
end
end Go.Proofs.YtcknhnbckbocjaaDoor
namespace Go.Proofs.YtcknhnbckbocjaaDoor
open Go.RowKit
set_option linter.unusedVariables false
section
variable (w : World) (O : Nat → Prop) (B : Nat) (s : StV)
set_option maxRecDepth 100000 in
set_option maxHeartbeats 2000000 in
theorem sr_del (k : ByteArray) (h : RefP w O B s) (hs : StOk s) (hO : ∀ k, O k → k < w.heap.size) : Calls Tryd.prog 31 #[.pointer (some ⟨B, 0, none⟩), .string k] w (RefStep w O B (.int .i64 (delV s k).2) (delV s k).1) := by
  obtain ⟨i0, hi0, hz0, hz1, hz2⟩ := info_partsB infoPr
  have HF := Lib.hid (sr_find w O B s k h hs)
  have H := Lib.hid h
  have HO := Lib.hid hO
  have HIL := Lib.hid (isIn_lk hs.now.2.1 k)
  have hcut := del_cut s.now k hs.now.2.1
  obtain ⟨I, hI⟩ : ∃ I, I = isIn s.now k := ⟨_, rfl⟩
  obtain ⟨p, hp⟩ : ∃ p, p = plc s.now k := ⟨_, rfl⟩
  have hlt : I = true → p < s.now.length := fun e => by rw [hI] at e; rw [hp]; exact (of_decide_eq_true e).1
  rw [← hI, ← hp] at HF hcut
  rw [← hI] at HIL
  have hn4 := hs.now.1
  obtain ⟨n, hn⟩ : ∃ n, n = s.now.length := ⟨_, rfl⟩
  have HN := Lib.hid hn
  rw [← hn] at hlt hn4
  clear h hs hO hI hp hn
  go_enter Tryd.func31, Tryd.ntmps31
  go_wp2_with fail
  refine HF.out.mono ?_
  rintro x w1 ⟨rfl, n1, hw1⟩
  obtain ⟨An, cn, Ab, cb, hr⟩ := H.out.drewN n1
  rw [← hw1] at hr
  have HR := Lib.hid hr
  have HW := Lib.hid hw1
  have c0 := hr.c0
  rw [← HN.out] at c0
  have hcap := hr.cap
  rw [← HN.out] at hcap
  clear hr hw1 HF
  cases I with
  | false =>
    have HE : Hid (delV s k = (s, 3)) := Lib.hid (if_pos (none_of HIL.out.symm))
    have HS1 : Hid (RefStep w O B (.int .i64 3) s (.returned (.int .i64 3)) w1) := Lib.hid (by rw [HW.out]; exact RefStep.same H.out n1 rfl)
    clear hlt hcut
    go_wp2
    go_ret
    rw [HE.out]
    exact HS1.out
  | true =>
    have HE : Hid (delV s k = ({ s with now := delP s.now k }, 0)) := Lib.hid (if_neg (fun e => by have := HIL.out; rw [e] at this; cases this))
    have hpn := hlt rfl
    have HCUT := Lib.hid (hcut rfl)
    rcases HR.out.sh with ⟨rfl, rfl⟩ | ⟨b, off, rfl⟩
    · omega
    · have hw1 : IntKind.i64.wrap ((p : Int) + 1) = ((p + 1 : Nat) : Int) := by rw [IntWalk.i64_in _ (by omega)]; omega
      have hi1 : (0 : Int) ≤ (p : Int) := by omega
      have hq0 : (p : Int) ≤ (p : Int) + 1 := by omega
      have hq1 : (0 : Int) ≤ (p : Int) + 1 := by omega
      have hq2 : (p : Int) + 1 ≤ (n : Int) := by omega
      have hq3 : p ≤ cn := by omega
      clear hlt hcut
      by_cases hcn : cn = p + 1
      · subst hcn
        have HTK : Hid ((s.now.take p).length = p ∧ (s.now.drop (p + 1)).length = n - (p + 1)) := Lib.hid ⟨by rw [List.length_take]; have := HN.out; omega, by rw [List.length_drop, ← HN.out]⟩
        go_wp2
        obtain ⟨wd, hwd⟩ : ∃ z, z = w1.drew := ⟨_, rfl⟩
        have HD : Hid (Kq.Keeps (fun k => w.heap.size ≤ k) w wd ∧ w.heap.size = wd.heap.size ∧ wd.cell? ⟨B, 0, none⟩ = some (.slice (some ⟨b, off, none⟩) n (p + 1)) ∧ PrE.At wd (some ⟨b, off, none⟩) s.now) := Lib.hid (by
          rw [hwd]
          have hk1 : Kq.Keeps (fun k => w.heap.size ≤ k) w w1 := by rw [HW.out]; exact Kq.Keeps.of_below (below_drewN (Below.refl _ _) n1) (fun k h1 _ => h1)
          exact ⟨hk1.drew, by rw [HW.out]; rfl, c0, psAt_E.1 HR.out.now.at_⟩)
        refine Kq.wp_region_T 19 (fun cur => cur.cell? ⟨B, 0, none⟩ = some (.slice (some ⟨b, off, none⟩) n (p + 1))) (by kernel_rfl) (by rw [← hwd]; exact HD.out.2.2.1) (fun hS0 => ?_)
        rw [← hwd] at hS0 ⊢
        clear hwd c0
        refine Kq.wpAnyT_take (i := 0) (v := ?_) rfl rfl (by kernel_rfl) (by kernel_rfl) (by kernel_rfl) (by kernel_rfl) (fun _ _ _ h => h) (Or.inl ⟨by kernel_rfl, ?_⟩) (by assumption) ?_
        rotate_left
        · intro w hSw; (try dsimp only at hSw); go_simp; (try with_reducible rfl)
        refine Kq.wpAnyT_take (i := 2) (v := ?_) rfl rfl (by kernel_rfl) (by kernel_rfl) (by kernel_rfl) (by kernel_rfl) (fun _ _ _ h => h) (Or.inl ⟨by kernel_rfl, ?_⟩) (by assumption) ?_
        rotate_left
        · intro w hSw; (try dsimp only at hSw); go_simp; (try with_reducible rfl)
        refine Kq.wpAnyT_take (i := 3) (v := ?_) rfl rfl (by kernel_rfl) (by kernel_rfl) (by kernel_rfl) (by kernel_rfl) (fun _ _ _ h => h) (Or.inl ⟨by kernel_rfl, ?_⟩) (by assumption) ?_
        rotate_left
        · intro w hSw; (try dsimp only at hSw); go_simp; (try with_reducible rfl)
        refine Kq.wpAnyT_take (i := 4) (v := ?_) rfl rfl (by kernel_rfl) (by kernel_rfl) (by kernel_rfl) (by kernel_rfl) (fun _ _ _ h => h) (Or.inl ⟨by kernel_rfl, ?_⟩) (by assumption) ?_
        rotate_left
        · intro w hSw; (try dsimp only at hSw); go_simp; (try with_reducible rfl)
        refine Kq.wpAnyT_take (i := 5) (v := ?_) rfl rfl (by kernel_rfl) (by kernel_rfl) (by kernel_rfl) (by kernel_rfl) (fun _ _ _ h => h) (Or.inl ⟨by kernel_rfl, ?_⟩) (by assumption) ?_
        rotate_left
        · intro w hSw; (try dsimp only at hSw); go_simp; (try with_reducible rfl)
        refine Kq.wpAnyT_take (i := 6) (v := ?_) rfl rfl (by kernel_rfl) (by kernel_rfl) (by kernel_rfl) (by kernel_rfl) (fun _ _ _ h => h) (Or.inl ⟨by kernel_rfl, ?_⟩) (by assumption) ?_
        rotate_left
        · intro w hSw; (try dsimp only at hSw); go_simp; (try with_reducible rfl)
        refine Kq.wpAnyT_take (i := 7) (v := ?_) rfl rfl (by kernel_rfl) (by kernel_rfl) (by kernel_rfl) (by kernel_rfl) (fun _ _ _ h => h) (Or.inl ⟨by kernel_rfl, ?_⟩) (by assumption) ?_
        rotate_left
        · intro w hSw; (try dsimp only at hSw); go_simp; (try with_reducible rfl)
        refine Kq.wpAnyT_take (i := 9) (v := ?_) rfl rfl (by kernel_rfl) (by kernel_rfl) (by kernel_rfl) (by kernel_rfl) (fun _ _ _ h => h) (Or.inl ⟨by kernel_rfl, ?_⟩) (by assumption) ?_
        rotate_left
        · intro w hSw; (try dsimp only at hSw); go_simp; (try with_reducible rfl)
        refine Kq.wpAnyT_take (i := 10) (v := ?_) rfl rfl (by kernel_rfl) (by kernel_rfl) (by kernel_rfl) (by kernel_rfl) (fun _ _ _ h => h) (Or.inl ⟨by kernel_rfl, ?_⟩) (by assumption) ?_
        rotate_left
        · intro w hSw; (try dsimp only at hSw); go_simp; (try with_reducible rfl)
        refine Kq.wpAnyT_take (i := 11) (v := ?_) rfl rfl (by kernel_rfl) (by kernel_rfl) (by kernel_rfl) (by kernel_rfl) (fun _ _ _ h => h) (Or.inl ⟨by kernel_rfl, ?_⟩) (by assumption) ?_
        rotate_left
        · intro w hSw; (try dsimp only at hSw); go_simp; (try with_reducible rfl)
        refine Kq.wpAnyT_take (i := 12) (v := ?_) rfl rfl (by kernel_rfl) (by kernel_rfl) (by kernel_rfl) (by kernel_rfl) (fun _ _ _ h => h) (Or.inl ⟨by kernel_rfl, ?_⟩) (by assumption) ?_
        rotate_left
        · intro w hSw; (try dsimp only at hSw); go_simp; (try with_reducible rfl)
        refine Kq.wpAnyT_take (i := 13) (v := ?_) rfl rfl (by kernel_rfl) (by kernel_rfl) (by kernel_rfl) (by kernel_rfl) (fun _ _ _ h => h) (Or.inl ⟨by kernel_rfl, ?_⟩) (by assumption) ?_
        rotate_left
        · intro w hSw; (try dsimp only at hSw); go_simp; (try with_reducible rfl)
        refine Kq.wpAnyT_take (i := 14) (v := ?_) rfl rfl (by kernel_rfl) (by kernel_rfl) (by kernel_rfl) (by kernel_rfl) (fun _ _ _ h => h) (Or.inl ⟨by kernel_rfl, ?_⟩) (by assumption) ?_
        rotate_left
        · intro w hSw; (try dsimp only at hSw); go_simp; (try with_reducible rfl)
        refine Kq.wpAnyT_take (i := 15) (v := ?_) rfl rfl (by kernel_rfl) (by kernel_rfl) (by kernel_rfl) (by kernel_rfl) (fun _ _ _ h => h) (Or.inl ⟨by kernel_rfl, ?_⟩) (by assumption) ?_
        rotate_left
        · intro w hSw; (try dsimp only at hSw); go_simp; (try with_reducible rfl)
        refine Kq.wpAnyT_one (i := 1) (by kernel_rfl) rfl (fun K hK => ?_)
        go_simp
        have b2 := Kq.below_alloc wd (.cells #[] 59)
        have HX : Hid ((wd.alloc (.cells #[] 59)).ownsRow 0 59 2 (.slice (some ⟨wd.heap.size, 0, none⟩) 0 0) 0 (PrE.flat []) ∧ PrE.At (wd.alloc (.cells #[] 59)) (some ⟨b, off, none⟩) s.now ∧ Kq.Keeps (fun k => w.heap.size ≤ k) w (wd.alloc (.cells #[] 59)) ∧ w.heap.size ≤ wd.heap.size ∧ b < w.heap.size) := Lib.hid (by
          refine ⟨⟨rfl, Or.inr ⟨wd.heap.size, 0, #[], rfl, Nat.zero_le _, Kq.blk_new wd #[] 59 (0, 0), Nat.le_refl _, by decide, rfl, rfl⟩⟩, HD.out.2.2.2.below b2, keeps_past HD.out.1 (Kq.Keeps.of_below (S := fun _ => False) b2 (fun k h1 h2 => absurd h1 (Nat.not_le.2 h2))) (fun k h => h.elim), by have := HD.out.2.1; omega, HO.out b (HR.out.now.o b off rfl).1⟩)
        have HC : Hid (∀ w', Kq.Keeps (fun k => w.heap.size ≤ k) w w' → w'.cell? ⟨B, 0, none⟩ = some (.slice (some ⟨b, off, none⟩) n (p + 1))) := Lib.hid (fun w' hk' => by
          have hB := HO.out B HR.out.oB
          have h1 : w.cell? ⟨B, 0, none⟩ = some (.slice (some ⟨b, off, none⟩) n (p + 1)) := by
            rw [← HD.out.2.2.1]
            exact (World.cell?_of_block (HD.out.1.block B hB (by omega))).symm
          rw [World.cell?_of_block (hk'.block B hB (by omega))]; exact h1)
        have HS1 : Hid (Src Tryd.prog 2 35 (.slice (some ⟨b, off, none⟩) p (p + 1)) p (PrE.flat (s.now.take p)) (wd.alloc (.cells #[] 59))) := Lib.hid (by
          have := (HX.out.2.1.take p).src Tryd.underlying35 (p + 1)
          rw [HTK.out.1] at this
          exact this)
        clear b2 hS0
        refine hK.out _ _ (HC.out _ HX.out.2.2.1) (fun hS0 => ?_)
        clear hK K
        refine Kq.wpAnyT_one (i := 8) (by kernel_rfl) rfl (fun K hK => ?_)
        rw [if_pos (by kernel_rfl)]
        refine Kq.wp_append_any _ (.tmp 16) (.tmp 22) 35 35 rfl 0 59 i0 (.agg #[.string ⟨#[]⟩, .string ⟨#[]⟩]) 2 32 Tryd.underlying35 hi0 hz0 hz1 hz2 rfl (by decide) (.slice (some ⟨wd.heap.size, 0, none⟩) 0 0) 0 (PrE.flat []) (by kernel_rfl) HX.out.1 (.slice (some ⟨b, off, none⟩) p (p + 1)) p (PrE.flat (s.now.take p)) (by kernel_rfl) HS1.out ?h1 ?h2 (Nat.zero_le _) ?_
        case h1 => unfold maxLen; omega
        case h2 => omega
        intro v3 w3 hown3 hgrow hfresh
        obtain ⟨a3, q3, d3, hv3⟩ := Kq.own_shape hown3
        subst hv3
        have hat : PrE.At w3 (some ⟨b, off, none⟩) s.now := by
          have hk3 := Kq.Keeps.grown (S := (· = wd.heap.size)) hgrow (fun k _ h => (Option.some.inj h).symm)
          exact HX.out.2.1.keeps hk3 (fun b' o e _ => by injection e with e; injection e with e; have := HX.out.2.2.2; intro e2; have e3 : b' = wd.heap.size := e2; omega)
        have H3 : Hid (w3.ownsRow 0 59 2 (.slice a3 q3 d3) (0 + p) (PrE.flat [] ++ PrE.flat (s.now.take p)) ∧ Kq.Keeps (fun k => w.heap.size ≤ k) w w3 ∧ (∀ g, (Value.slice a3 q3 d3).ownBlock = some g → w.heap.size ≤ g)) := Lib.hid (by
          have hk3 := Kq.Keeps.grown (S := (· = wd.heap.size)) hgrow (fun k _ h => (Option.some.inj h).symm)
          have hw := HX.out.2.2.2.1
          refine ⟨hown3, keeps_past HX.out.2.2.1 hk3 (fun k e => by have e3 : k = wd.heap.size := e; omega), fun g hg => ?_⟩
          rcases hfresh g hg with e | e
          · have : g = wd.heap.size := Option.some.inj e
            omega
          · (try simp at e); omega)
        have HS3 : Hid (Src Tryd.prog 2 35 (.slice (some ⟨b, off, none⟩) 0 0) 0 (PrE.flat (s.now.drop (p + 1))) w3) := Lib.hid (by
          have h0 : s.now.drop (p + 1) = [] := List.eq_nil_of_length_eq_zero (by rw [HTK.out.2]; omega)
          rw [h0]
          exact Kq.Elt.src_nil (E := PrE) Tryd.underlying35 _ _)
        clear hown3 hgrow hfresh HX HS1 hS0 hat
        refine hK.out _ _ (HC.out _ H3.out.2.1) (fun hS0 => ?_)
        clear hK K
        refine Kq.wpAnyT_one (i := 16) (by kernel_rfl) rfl (fun K hK => ?_)
        rw [if_pos (by kernel_rfl)]
        refine Kq.wp_append_any _ (.tmp 23) (.tmp 30) 35 35 rfl 0 59 i0 (.agg #[.string ⟨#[]⟩, .string ⟨#[]⟩]) 2 32 Tryd.underlying35 hi0 hz0 hz1 hz2 rfl (by decide) (.slice a3 q3 d3) (0 + p) (PrE.flat [] ++ PrE.flat (s.now.take p)) (by kernel_rfl) H3.out.1 (.slice (some ⟨b, off, none⟩) 0 0) 0 (PrE.flat (s.now.drop (p + 1))) (by kernel_rfl) HS3.out ?h4 ?h5 (Nat.zero_le _) ?_
        case h4 => unfold maxLen; omega
        case h5 => omega
        intro v5 w5 hown5 hgrow hfresh
        have HL5 : Hid (delP s.now k = s.now.take p ++ s.now.drop (p + 1) ∧ (delP s.now k).length = 0 + p + 0) := Lib.hid (by
          refine ⟨HCUT.out, ?_⟩
          rw [HCUT.out]
          simp only [List.length_append, HTK.out.1, HTK.out.2]
          omega)
        obtain ⟨a5, q5, d5, hv5⟩ := Kq.own_shape hown5
        have H5 : Hid (∃ A' c, v5 = .slice A' (delP s.now k).length c ∧ (delP s.now k).length ≤ c ∧ PsAt w5 A' (delP s.now k) ∧ (((A' = none ∧ c = 0) ∨ ∃ b off, A' = some ⟨b, off, none⟩) ∧ ∀ b off, A' = some ⟨b, off, none⟩ → w.heap.size ≤ b ∧ b < w5.heap.size) ∧ Kq.Keeps (fun k => w.heap.size ≤ k) w w5) := Lib.hid (by
          have hk5 := Kq.Keeps.grown (S := fun g => (Value.slice a3 q3 d3).ownBlock = some g) hgrow (fun k _ h => h)
          have hrow : w5.ownsRow 0 59 2 v5 (delP s.now k).length (PrE.flat (delP s.now k)) := by
            rw [HL5.out.2, HL5.out.1, PrE.flat_append]
            simpa [Kq.Elt.flat] using hown5
          have hkk := keeps_past H3.out.2.1 hk5 (fun k e => H3.out.2.2 k e)
          obtain ⟨A', c', e, hc, hat', _, hnil⟩ := Kq.Elt.own_at (E := PrE) (l := delP s.now k) hrow
          rcases hrow.2 with ⟨e2, h0⟩ | ⟨g, c, cur, e2, h1, h2, h3, _⟩
          · rw [e] at e2
            injection e2 with e3 e4 e5
            subst e3
            exact ⟨none, c', e, hc, psAt_E.2 hat', ⟨Or.inl ⟨rfl, hnil rfl⟩, fun b off e => by cases e⟩, hkk⟩
          · rw [e] at e2
            injection e2 with e3 e4 e5
            subst e3
            subst e5
            refine ⟨_, c', e, hc, psAt_E.2 hat', ⟨Or.inr ⟨g, 0, rfl⟩, fun b' off' e9 => ?_⟩, hkk⟩
            injection e9 with e9
            injection e9 with e9
            subst e9
            refine ⟨?_, Kq.blk_lt h2⟩
            rcases hfresh g (by rw [e]; rfl) with e6 | e6
            · exact H3.out.2.2 g e6.symm
            · have := H3.out.2.1.size; omega)
        clear hown5 hgrow hfresh hv5
        obtain ⟨A', c, rfl, hc5, hps5, hg5, hk5⟩ := H5.out
        refine hK.out _ _ (HC.out _ hk5) (fun hS0 => ?_)
        clear hK K
        refine Kq.wpAnyT_one (i := 17) (by kernel_rfl) rfl (fun K hK => ?_)
        go_simp
        refine hK.out _ _ (HC.out _ hk5) (fun hS0 => ?_)
        clear hK K
        obtain ⟨An0, cn0, Ab0, cb0, hr0⟩ := H.out
        have hr6 := hr0.keeps hk5 (fun k ho hh => by have := HO.out k ho; omega)
        have f0 := hr6.fz 0
        have c0 := hr6.c0
        have HEND : Hid (RefStep w O B (.int .i64 0) { s with now := delP s.now k } (.returned (.int .i64 0)) (w5.setCell ⟨B, 0, none⟩ (.slice A' (delP s.now k).length c))) := Lib.hid (by
          obtain ⟨q1, q2⟩ := hr0.now_newA HO.out hk5 hps5 hg5.1 hg5.2 hc5 rfl
          exact ⟨rfl, q1, q2⟩)
        clear H5 hc5 hps5 hg5 hk5 hr0 hr6 HS3 H3 hS0
        refine Kq.wpAnyT_take (i := 18) (v := ?_) rfl rfl (by kernel_rfl) (by kernel_rfl) (by kernel_rfl) (by kernel_rfl) (fun _ _ _ h => h) (Or.inl ⟨by kernel_rfl, ?_⟩) (by assumption) ?_
        rotate_left
        · intro w hSw; (try dsimp only at hSw); go_simp; (try with_reducible rfl)
        refine Kq.wpAnyT_last (by kernel_rfl) rfl (fun K hK => ?_)
        go_simp
        refine hK.out _ _ ?_
        clear hK K
        refine Kq.wpAnyT_done (by kernel_rfl) ?_ _
        go_wp2
        go_ret
        rw [HE.out]
        exact HEND.out
      · have hcz : ¬ cn - (p + 1) = 0 := by omega
        have HTK : Hid ((s.now.take p).length = p ∧ (s.now.drop (p + 1)).length = n - (p + 1)) := Lib.hid ⟨by rw [List.length_take]; have := HN.out; omega, by rw [List.length_drop, ← HN.out]⟩
        go_wp2
        obtain ⟨wd, hwd⟩ : ∃ z, z = w1.drew := ⟨_, rfl⟩
        have HD : Hid (Kq.Keeps (fun k => w.heap.size ≤ k) w wd ∧ w.heap.size = wd.heap.size ∧ wd.cell? ⟨B, 0, none⟩ = some (.slice (some ⟨b, off, none⟩) n cn) ∧ PrE.At wd (some ⟨b, off, none⟩) s.now) := Lib.hid (by
          rw [hwd]
          have hk1 : Kq.Keeps (fun k => w.heap.size ≤ k) w w1 := by rw [HW.out]; exact Kq.Keeps.of_below (below_drewN (Below.refl _ _) n1) (fun k h1 _ => h1)
          exact ⟨hk1.drew, by rw [HW.out]; rfl, c0, psAt_E.1 HR.out.now.at_⟩)
        refine Kq.wp_region_T 19 (fun cur => cur.cell? ⟨B, 0, none⟩ = some (.slice (some ⟨b, off, none⟩) n cn)) (by kernel_rfl) (by rw [← hwd]; exact HD.out.2.2.1) (fun hS0 => ?_)
        rw [← hwd] at hS0 ⊢
        clear hwd c0
        refine Kq.wpAnyT_take (i := 0) (v := ?_) rfl rfl (by kernel_rfl) (by kernel_rfl) (by kernel_rfl) (by kernel_rfl) (fun _ _ _ h => h) (Or.inl ⟨by kernel_rfl, ?_⟩) (by assumption) ?_
        rotate_left
        · intro w hSw; (try dsimp only at hSw); go_simp; (try with_reducible rfl)
        refine Kq.wpAnyT_take (i := 2) (v := ?_) rfl rfl (by kernel_rfl) (by kernel_rfl) (by kernel_rfl) (by kernel_rfl) (fun _ _ _ h => h) (Or.inl ⟨by kernel_rfl, ?_⟩) (by assumption) ?_
        rotate_left
        · intro w hSw; (try dsimp only at hSw); go_simp; (try with_reducible rfl)
        refine Kq.wpAnyT_take (i := 3) (v := ?_) rfl rfl (by kernel_rfl) (by kernel_rfl) (by kernel_rfl) (by kernel_rfl) (fun _ _ _ h => h) (Or.inl ⟨by kernel_rfl, ?_⟩) (by assumption) ?_
        rotate_left
        · intro w hSw; (try dsimp only at hSw); go_simp; (try with_reducible rfl)
        refine Kq.wpAnyT_take (i := 4) (v := ?_) rfl rfl (by kernel_rfl) (by kernel_rfl) (by kernel_rfl) (by kernel_rfl) (fun _ _ _ h => h) (Or.inl ⟨by kernel_rfl, ?_⟩) (by assumption) ?_
        rotate_left
        · intro w hSw; (try dsimp only at hSw); go_simp; (try with_reducible rfl)
        refine Kq.wpAnyT_take (i := 5) (v := ?_) rfl rfl (by kernel_rfl) (by kernel_rfl) (by kernel_rfl) (by kernel_rfl) (fun _ _ _ h => h) (Or.inl ⟨by kernel_rfl, ?_⟩) (by assumption) ?_
        rotate_left
        · intro w hSw; (try dsimp only at hSw); go_simp; (try with_reducible rfl)
        refine Kq.wpAnyT_take (i := 6) (v := ?_) rfl rfl (by kernel_rfl) (by kernel_rfl) (by kernel_rfl) (by kernel_rfl) (fun _ _ _ h => h) (Or.inl ⟨by kernel_rfl, ?_⟩) (by assumption) ?_
        rotate_left
        · intro w hSw; (try dsimp only at hSw); go_simp; (try with_reducible rfl)
        refine Kq.wpAnyT_take (i := 7) (v := ?_) rfl rfl (by kernel_rfl) (by kernel_rfl) (by kernel_rfl) (by kernel_rfl) (fun _ _ _ h => h) (Or.inl ⟨by kernel_rfl, ?_⟩) (by assumption) ?_
        rotate_left
        · intro w hSw; (try dsimp only at hSw); go_simp; (try with_reducible rfl)
        refine Kq.wpAnyT_take (i := 9) (v := ?_) rfl rfl (by kernel_rfl) (by kernel_rfl) (by kernel_rfl) (by kernel_rfl) (fun _ _ _ h => h) (Or.inl ⟨by kernel_rfl, ?_⟩) (by assumption) ?_
        rotate_left
        · intro w hSw; (try dsimp only at hSw); go_simp; (try with_reducible rfl)
        refine Kq.wpAnyT_take (i := 10) (v := ?_) rfl rfl (by kernel_rfl) (by kernel_rfl) (by kernel_rfl) (by kernel_rfl) (fun _ _ _ h => h) (Or.inl ⟨by kernel_rfl, ?_⟩) (by assumption) ?_
        rotate_left
        · intro w hSw; (try dsimp only at hSw); go_simp; (try with_reducible rfl)
        refine Kq.wpAnyT_take (i := 11) (v := ?_) rfl rfl (by kernel_rfl) (by kernel_rfl) (by kernel_rfl) (by kernel_rfl) (fun _ _ _ h => h) (Or.inl ⟨by kernel_rfl, ?_⟩) (by assumption) ?_
        rotate_left
        · intro w hSw; (try dsimp only at hSw); go_simp; (try with_reducible rfl)
        refine Kq.wpAnyT_take (i := 12) (v := ?_) rfl rfl (by kernel_rfl) (by kernel_rfl) (by kernel_rfl) (by kernel_rfl) (fun _ _ _ h => h) (Or.inl ⟨by kernel_rfl, ?_⟩) (by assumption) ?_
        rotate_left
        · intro w hSw; (try dsimp only at hSw); go_simp; (try with_reducible rfl)
        refine Kq.wpAnyT_take (i := 13) (v := ?_) rfl rfl (by kernel_rfl) (by kernel_rfl) (by kernel_rfl) (by kernel_rfl) (fun _ _ _ h => h) (Or.inl ⟨by kernel_rfl, ?_⟩) (by assumption) ?_
        rotate_left
        · intro w hSw; (try dsimp only at hSw); go_simp; (try with_reducible rfl)
        refine Kq.wpAnyT_take (i := 14) (v := ?_) rfl rfl (by kernel_rfl) (by kernel_rfl) (by kernel_rfl) (by kernel_rfl) (fun _ _ _ h => h) (Or.inl ⟨by kernel_rfl, ?_⟩) (by assumption) ?_
        rotate_left
        · intro w hSw; (try dsimp only at hSw); go_simp; (try with_reducible rfl)
        refine Kq.wpAnyT_take (i := 15) (v := ?_) rfl rfl (by kernel_rfl) (by kernel_rfl) (by kernel_rfl) (by kernel_rfl) (fun _ _ _ h => h) (Or.inl ⟨by kernel_rfl, ?_⟩) (by assumption) ?_
        rotate_left
        · intro w hSw; (try dsimp only at hSw); go_simp; (try with_reducible rfl)
        refine Kq.wpAnyT_one (i := 1) (by kernel_rfl) rfl (fun K hK => ?_)
        go_simp
        have b2 := Kq.below_alloc wd (.cells #[] 59)
        have HX : Hid ((wd.alloc (.cells #[] 59)).ownsRow 0 59 2 (.slice (some ⟨wd.heap.size, 0, none⟩) 0 0) 0 (PrE.flat []) ∧ PrE.At (wd.alloc (.cells #[] 59)) (some ⟨b, off, none⟩) s.now ∧ Kq.Keeps (fun k => w.heap.size ≤ k) w (wd.alloc (.cells #[] 59)) ∧ w.heap.size ≤ wd.heap.size ∧ b < w.heap.size) := Lib.hid (by
          refine ⟨⟨rfl, Or.inr ⟨wd.heap.size, 0, #[], rfl, Nat.zero_le _, Kq.blk_new wd #[] 59 (0, 0), Nat.le_refl _, by decide, rfl, rfl⟩⟩, HD.out.2.2.2.below b2, keeps_past HD.out.1 (Kq.Keeps.of_below (S := fun _ => False) b2 (fun k h1 h2 => absurd h1 (Nat.not_le.2 h2))) (fun k h => h.elim), by have := HD.out.2.1; omega, HO.out b (HR.out.now.o b off rfl).1⟩)
        have HC : Hid (∀ w', Kq.Keeps (fun k => w.heap.size ≤ k) w w' → w'.cell? ⟨B, 0, none⟩ = some (.slice (some ⟨b, off, none⟩) n cn)) := Lib.hid (fun w' hk' => by
          have hB := HO.out B HR.out.oB
          have h1 : w.cell? ⟨B, 0, none⟩ = some (.slice (some ⟨b, off, none⟩) n cn) := by
            rw [← HD.out.2.2.1]
            exact (World.cell?_of_block (HD.out.1.block B hB (by omega))).symm
          rw [World.cell?_of_block (hk'.block B hB (by omega))]; exact h1)
        have HS1 : Hid (Src Tryd.prog 2 35 (.slice (some ⟨b, off, none⟩) p cn) p (PrE.flat (s.now.take p)) (wd.alloc (.cells #[] 59))) := Lib.hid (by
          have := (HX.out.2.1.take p).src Tryd.underlying35 cn
          rw [HTK.out.1] at this
          exact this)
        clear b2 hS0
        refine hK.out _ _ (HC.out _ HX.out.2.2.1) (fun hS0 => ?_)
        clear hK K
        refine Kq.wpAnyT_one (i := 8) (by kernel_rfl) rfl (fun K hK => ?_)
        rw [if_pos (by kernel_rfl)]
        refine Kq.wp_append_any _ (.tmp 16) (.tmp 22) 35 35 rfl 0 59 i0 (.agg #[.string ⟨#[]⟩, .string ⟨#[]⟩]) 2 32 Tryd.underlying35 hi0 hz0 hz1 hz2 rfl (by decide) (.slice (some ⟨wd.heap.size, 0, none⟩) 0 0) 0 (PrE.flat []) (by kernel_rfl) HX.out.1 (.slice (some ⟨b, off, none⟩) p cn) p (PrE.flat (s.now.take p)) (by kernel_rfl) HS1.out ?h1 ?h2 (Nat.zero_le _) ?_
        case h1 => unfold maxLen; omega
        case h2 => omega
        intro v3 w3 hown3 hgrow hfresh
        obtain ⟨a3, q3, d3, hv3⟩ := Kq.own_shape hown3
        subst hv3
        have hat : PrE.At w3 (some ⟨b, off, none⟩) s.now := by
          have hk3 := Kq.Keeps.grown (S := (· = wd.heap.size)) hgrow (fun k _ h => (Option.some.inj h).symm)
          exact HX.out.2.1.keeps hk3 (fun b' o e _ => by injection e with e; injection e with e; have := HX.out.2.2.2; intro e2; have e3 : b' = wd.heap.size := e2; omega)
        have H3 : Hid (w3.ownsRow 0 59 2 (.slice a3 q3 d3) (0 + p) (PrE.flat [] ++ PrE.flat (s.now.take p)) ∧ Kq.Keeps (fun k => w.heap.size ≤ k) w w3 ∧ (∀ g, (Value.slice a3 q3 d3).ownBlock = some g → w.heap.size ≤ g)) := Lib.hid (by
          have hk3 := Kq.Keeps.grown (S := (· = wd.heap.size)) hgrow (fun k _ h => (Option.some.inj h).symm)
          have hw := HX.out.2.2.2.1
          refine ⟨hown3, keeps_past HX.out.2.2.1 hk3 (fun k e => by have e3 : k = wd.heap.size := e; omega), fun g hg => ?_⟩
          rcases hfresh g hg with e | e
          · have : g = wd.heap.size := Option.some.inj e
            omega
          · (try simp at e); omega)
        have HS3 : Hid (Src Tryd.prog 2 35 (.slice (some ⟨b, off + (p + 1) * 2, none⟩) (n - (p + 1)) (cn - (p + 1))) (n - (p + 1)) (PrE.flat (s.now.drop (p + 1))) w3) := Lib.hid (by
          have h1 := (hat.drop (p + 1)).src Tryd.underlying35 (cn - (p + 1))
          rw [HTK.out.2] at h1
          exact h1)
        clear hown3 hgrow hfresh HX HS1 hS0 hat
        refine hK.out _ _ (HC.out _ H3.out.2.1) (fun hS0 => ?_)
        clear hK K
        refine Kq.wpAnyT_one (i := 16) (by kernel_rfl) rfl (fun K hK => ?_)
        rw [if_pos (by kernel_rfl)]
        refine Kq.wp_append_any _ (.tmp 23) (.tmp 30) 35 35 rfl 0 59 i0 (.agg #[.string ⟨#[]⟩, .string ⟨#[]⟩]) 2 32 Tryd.underlying35 hi0 hz0 hz1 hz2 rfl (by decide) (.slice a3 q3 d3) (0 + p) (PrE.flat [] ++ PrE.flat (s.now.take p)) (by kernel_rfl) H3.out.1 (.slice (some ⟨b, off + (p + 1) * 2, none⟩) (n - (p + 1)) (cn - (p + 1))) (n - (p + 1)) (PrE.flat (s.now.drop (p + 1))) (by kernel_rfl) HS3.out ?h4 ?h5 (Nat.zero_le _) ?_
        case h4 => unfold maxLen; omega
        case h5 => omega
        intro v5 w5 hown5 hgrow hfresh
        have HL5 : Hid (delP s.now k = s.now.take p ++ s.now.drop (p + 1) ∧ (delP s.now k).length = 0 + p + (n - (p + 1))) := Lib.hid (by
          refine ⟨HCUT.out, ?_⟩
          rw [HCUT.out]
          simp only [List.length_append, HTK.out.1, HTK.out.2]
          omega)
        obtain ⟨a5, q5, d5, hv5⟩ := Kq.own_shape hown5
        have H5 : Hid (∃ A' c, v5 = .slice A' (delP s.now k).length c ∧ (delP s.now k).length ≤ c ∧ PsAt w5 A' (delP s.now k) ∧ (((A' = none ∧ c = 0) ∨ ∃ b off, A' = some ⟨b, off, none⟩) ∧ ∀ b off, A' = some ⟨b, off, none⟩ → w.heap.size ≤ b ∧ b < w5.heap.size) ∧ Kq.Keeps (fun k => w.heap.size ≤ k) w w5) := Lib.hid (by
          have hk5 := Kq.Keeps.grown (S := fun g => (Value.slice a3 q3 d3).ownBlock = some g) hgrow (fun k _ h => h)
          have hrow : w5.ownsRow 0 59 2 v5 (delP s.now k).length (PrE.flat (delP s.now k)) := by
            rw [HL5.out.2, HL5.out.1, PrE.flat_append]
            simpa [Kq.Elt.flat] using hown5
          have hkk := keeps_past H3.out.2.1 hk5 (fun k e => H3.out.2.2 k e)
          obtain ⟨A', c', e, hc, hat', _, hnil⟩ := Kq.Elt.own_at (E := PrE) (l := delP s.now k) hrow
          rcases hrow.2 with ⟨e2, h0⟩ | ⟨g, c, cur, e2, h1, h2, h3, _⟩
          · rw [e] at e2
            injection e2 with e3 e4 e5
            subst e3
            exact ⟨none, c', e, hc, psAt_E.2 hat', ⟨Or.inl ⟨rfl, hnil rfl⟩, fun b off e => by cases e⟩, hkk⟩
          · rw [e] at e2
            injection e2 with e3 e4 e5
            subst e3
            subst e5
            refine ⟨_, c', e, hc, psAt_E.2 hat', ⟨Or.inr ⟨g, 0, rfl⟩, fun b' off' e9 => ?_⟩, hkk⟩
            injection e9 with e9
            injection e9 with e9
            subst e9
            refine ⟨?_, Kq.blk_lt h2⟩
            rcases hfresh g (by rw [e]; rfl) with e6 | e6
            · exact H3.out.2.2 g e6.symm
            · have := H3.out.2.1.size; omega)
        clear hown5 hgrow hfresh hv5
        obtain ⟨A', c, rfl, hc5, hps5, hg5, hk5⟩ := H5.out
        refine hK.out _ _ (HC.out _ hk5) (fun hS0 => ?_)
        clear hK K
        refine Kq.wpAnyT_one (i := 17) (by kernel_rfl) rfl (fun K hK => ?_)
        go_simp
        refine hK.out _ _ (HC.out _ hk5) (fun hS0 => ?_)
        clear hK K
        obtain ⟨An0, cn0, Ab0, cb0, hr0⟩ := H.out
        have hr6 := hr0.keeps hk5 (fun k ho hh => by have := HO.out k ho; omega)
        have f0 := hr6.fz 0
        have c0 := hr6.c0
        have HEND : Hid (RefStep w O B (.int .i64 0) { s with now := delP s.now k } (.returned (.int .i64 0)) (w5.setCell ⟨B, 0, none⟩ (.slice A' (delP s.now k).length c))) := Lib.hid (by
          obtain ⟨q1, q2⟩ := hr0.now_newA HO.out hk5 hps5 hg5.1 hg5.2 hc5 rfl
          exact ⟨rfl, q1, q2⟩)
        clear H5 hc5 hps5 hg5 hk5 hr0 hr6 HS3 H3 hS0
        refine Kq.wpAnyT_take (i := 18) (v := ?_) rfl rfl (by kernel_rfl) (by kernel_rfl) (by kernel_rfl) (by kernel_rfl) (fun _ _ _ h => h) (Or.inl ⟨by kernel_rfl, ?_⟩) (by assumption) ?_
        rotate_left
        · intro w hSw; (try dsimp only at hSw); go_simp; (try with_reducible rfl)
        refine Kq.wpAnyT_last (by kernel_rfl) rfl (fun K hK => ?_)
        go_simp
        refine hK.out _ _ ?_
        clear hK K
        refine Kq.wpAnyT_done (by kernel_rfl) ?_ _
        go_wp2
        go_ret
        rw [HE.out]
        exact HEND.out
end
end Go.Proofs.YtcknhnbckbocjaaDoor
