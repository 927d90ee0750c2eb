/- Contract of carrackref09.Same at like proofs. Condition: sizes. -/
import Derived.WalkSpells
import Derived.Outline
import Derived.Deep.RegionHeld
import Derived.Test.YtclloplkbajebaaDoorPfFQ
import Derived.Test.YtclloplkbajebaaDoorQfBQ
import Derived.Test.YtclloplkbajebaaDoorRfTextsQ
namespace Go.Proofs.YtclloplkbajebaaDoor
open Go.RowKit
set_option linter.unusedVariables false
def SmS (w' : World) (B1 B2 : Nat) (A B : Option Addr) (n ca cb b off b' off' : Nat) (i c : Int) (k v : ByteArray) (P Q : Value) : Prop :=
  w'.cell? ⟨B1, 1, none⟩ = some (.slice A n ca) ∧ w'.cell? ⟨B2, 1, none⟩ = some (.slice B n cb) ∧ w'.cell? ⟨b, off, none⟩ = some (.int .i64 i) ∧ w'.cell? ⟨b, off + 1, none⟩ = some (.int .i64 c) ∧ w'.cell? ⟨b, off + 2, none⟩ = some (.string k) ∧ w'.cell? ⟨b, off + 3, none⟩ = some (.string v) ∧ w'.cell? ⟨b, off + 4, none⟩ = some P ∧
  w'.cell? ⟨b', off', none⟩ = some (.int .i64 i) ∧ w'.cell? ⟨b', off' + 1, none⟩ = some (.int .i64 c) ∧ w'.cell? ⟨b', off' + 2, none⟩ = some (.string k) ∧ w'.cell? ⟨b', off' + 3, none⟩ = some (.string v) ∧ w'.cell? ⟨b', off' + 4, none⟩ = some Q
theorem SmS.below {w w' : World} {B1 B2 : Nat} {A B : Option Addr} {n ca cb b off b' off' : Nat} {i c : Int} {k v : ByteArray} {P Q : Value} (h : SmS w B1 B2 A B n ca cb b off b' off' i c k v P Q) (h1 : B1 < w.heap.size) (h2 : B2 < w.heap.size) (h3 : b < w.heap.size) (h4 : b' < w.heap.size) (hb : Below w.heap.size w w') : SmS w' B1 B2 A B n ca cb b off b' off' i c k v P Q := by
  obtain ⟨a0, a1, a2, a3, a4, a5, a6, a7, a8, a9, a10, a11⟩ := h
  have q := fun i => hb.cell (p := ⟨b, i, none⟩) h3
  have q' := fun i => hb.cell (p := ⟨b', i, none⟩) h4
  exact ⟨(hb.cell (p := ⟨B1, 1, none⟩) h1).trans a0, (hb.cell (p := ⟨B2, 1, none⟩) h2).trans a1, (q _).trans a2, (q _).trans a3, (q _).trans a4, (q _).trans a5, (q _).trans a6, (q' _).trans a7, (q' _).trans a8, (q' _).trans a9, (q' _).trans a10, (q' _).trans a11⟩
theorem lb_alloc (w : World) : LB (w.alloc (Obj.cells #[Value.int IntKind.i64 0, Value.int IntKind.i64 0, Value.string ⟨#[]⟩, Value.string ⟨#[]⟩, Value.slice none 0 0] 30)) w.heap.size 0 0 ⟨#[]⟩ ⟨#[]⟩ (.slice none 0 0) := ⟨Kq.blk_new _ _ _ _⟩
set_option maxRecDepth 100000 in
set_option maxHeartbeats 2000000 in
theorem rq_same (ab : Bool) (A B : Option Addr) (ca cb : Nat) (ls ms : List LfW) (S T : Nat → Prop) (w : World) (hv : vals ls = vals ms) (hA : LfsN w S A ls) (hB : LfsN w T B ms) (hn : ls.length ≤ 1000) (hp : ∀ x ∈ ls, x.l.p.length ≤ 1000) :
    Calls Tryd.prog 14 #[.agg #[.bool ab, .slice A ls.length ca], .agg #[.bool ab, .slice B ls.length cb]] w fun x w' => x = .returned (.bool true) ∧ Below w.heap.size w w' := by
  have hml : ms.length = ls.length := by rw [← vals_len, ← hv, vals_len]
  have n1 := Kq.blk_new w #[.bool ab, .slice A ls.length ca] 24 (0, 0)
  have b1 := Kq.below_alloc w (.cells #[.bool ab, .slice A ls.length ca] 24)
  have z1 : (w.alloc (.cells #[.bool ab, .slice A ls.length ca] 24)).heap.size = w.heap.size + 1 := by simp
  have n2 := Kq.blk_new (w.alloc (.cells #[.bool ab, .slice A ls.length ca] 24)) #[.bool ab, .slice B ls.length cb] 24 (0, 0)
  have b2 := Kq.below_alloc (w.alloc (.cells #[.bool ab, .slice A ls.length ca] 24)) (.cells #[.bool ab, .slice B ls.length cb] 24)
  rw [z1] at n2
  have H0 : Hid (Below w.heap.size w ((w.alloc (.cells #[.bool ab, .slice A ls.length ca] 24)).alloc (.cells #[.bool ab, .slice B ls.length cb] 24)) ∧ PBk ((w.alloc (.cells #[.bool ab, .slice A ls.length ca] 24)).alloc (.cells #[.bool ab, .slice B ls.length cb] 24)) w.heap.size ab (.slice A ls.length ca) ∧ PBk ((w.alloc (.cells #[.bool ab, .slice A ls.length ca] 24)).alloc (.cells #[.bool ab, .slice B ls.length cb] 24)) (w.heap.size + 1) ab (.slice B ls.length cb) ∧ LfsN ((w.alloc (.cells #[.bool ab, .slice A ls.length ca] 24)).alloc (.cells #[.bool ab, .slice B ls.length cb] 24)) S A ls ∧ LfsN ((w.alloc (.cells #[.bool ab, .slice A ls.length ca] 24)).alloc (.cells #[.bool ab, .slice B ls.length cb] 24)) T B ms) :=
    Lib.hid ⟨b1.trans (b2.mono b1.size), ⟨Kq.below_blk b2 n1 (by rw [z1]; omega)⟩, ⟨n2⟩, (hA.below b1).below b2, (hB.below b1).below b2⟩
  have HN := Lib.hid (And.intro hn hml)
  have HP := Lib.hid hp
  have HV := Lib.hid hv
  have e0 : ((ls.length : Int) != (ls.length : Int)) = false := by simp
  have e0' : (ls.length != ls.length) = false := by simp
  have eb : (ab != ab) = false := by simp
  clear hv hA hB hp hml n1 b1 z1 n2 b2
  cases ab
  all_goals
    go_enter Tryd.func14, Tryd.ntmps14
    have c0 := H0.out.2.1.c0
    have c1 := H0.out.2.1.c1
    have c2 := H0.out.2.2.1.c0
    have c3 := H0.out.2.2.1.c1
    go_wp2
    clear c0 c1 c2 c3 e0 e0' eb
    go_loopw [5] (fun i wr => ∃ j : Nat, j ≤ ls.length ∧ i = .int .i64 (j : Int) ∧ Below w.heap.size w wr ∧ PBk wr w.heap.size _ (.slice A ls.length ca) ∧ PBk wr (w.heap.size + 1) _ (.slice B ls.length cb) ∧ LfsN wr S A ls ∧ LfsN wr T B ms) (fun i _ => ls.length - (intOf i).toNat)
    case atStart => exact ⟨0, by omega, rfl, H0.out⟩
    case round =>
      obtain ⟨j, hj, rfl, hst⟩ := hrel
      have HST := Lib.hid hst
      have hn' := HN.out.1
      have k1 := HST.out.2.1.c1
      by_cases hlt : j < ls.length
      · have hltm : j < ms.length := by rw [HN.out.2]; exact hlt
        obtain ⟨b, off, rfl, -, hb, hc, ht, -⟩ := HST.out.2.2.2.1 j hlt
        obtain ⟨b', off', rfl, -, hb', hc', ht', -⟩ := HST.out.2.2.2.2 j hltm
        have hpl := HP.out ls[j] (List.getElem_mem _)
        have hxy : ms[j].l = ls[j].l := by
          have h1 : (vals ls)[j]'(by rw [vals_len]; exact hlt) = (vals ms)[j]'(by rw [vals_len]; exact hltm) := by simp only [HV.out]
          simpa [vals] using h1.symm
        obtain ⟨x, hx⟩ : ∃ x, x = ls[j] := ⟨_, rfl⟩
        obtain ⟨y, hy⟩ : ∃ y, y = ms[j] := ⟨_, rfl⟩
        rw [← hx] at hc ht hpl hxy
        rw [← hy] at hc' ht' hxy
        obtain ⟨⟨i, c, k, v, p⟩, a, cp⟩ := x
        obtain ⟨yl, a', cp'⟩ := y
        simp only at hxy
        subst hxy
        obtain ⟨q0, q1, q2, q3, q4⟩ := hc
        obtain ⟨r0, r1, r2, r3, r4⟩ := hc'
        simp only at q0 q1 q2 q3 q4 r0 r1 r2 r3 r4 ht ht' hpl
        have HLT := Lib.hid hlt
        have HTT := Lib.hid (And.intro ht ht')
        have HPL := Lib.hid hpl
        have i1 : (j : Int) < (ls.length : Int) := by omega
        have hB1 := HST.out.2.1.lt
        have hB2 := HST.out.2.2.1.lt
        obtain ⟨o1, ho1⟩ : ∃ o, o = off + j * 5 := ⟨_, rfl⟩
        obtain ⟨o2, ho2⟩ : ∃ o, o = off' + j * 5 := ⟨_, rfl⟩
        rw [← ho1] at q0 q1 q2 q3 q4
        rw [← ho2] at r0 r1 r2 r3 r4
        have HSS := Lib.hid (fun w' (hb0 : Below wr.heap.size wr w') => SmS.below (P := .slice a p.length cp) (Q := .slice a' p.length cp') ⟨HST.out.2.1.c1, HST.out.2.2.1.c1, q0, q1, q2, q3, q4, r0, r1, r2, r3, r4⟩ hB1 hB2 hb hb' hb0)
        clear q0 q1 q2 q3 q4 r0 r1 r2 r3 r4 ht ht' hpl hb hb' hB1 hB2 hx hy hlt hltm hst
        go_wp2
        have b0 : Below wr.heap.size wr wr.drew := (Below.refl _ _).drew
        have HZ0 := Lib.hid b0
        refine wp_region_held_drew (S := fun w' => SmS w' w.heap.size (w.heap.size + 1) (some ⟨b, off, none⟩) (some ⟨b', off', none⟩) ls.length ca cb b (off + j * 5) b' (off' + j * 5) i c k v (.slice a p.length cp) (.slice a' p.length cp')) (by kernel_rfl) (by have := HSS.out _ b0; rw [ho1, ho2] at this; exact this) (fun hS0 => ?_)
        generalize wr.drew = z0 at *
        rw [ho1, ho2] at HSS
        clear b0 ho1 ho2 k1
        unfold SmS at hS0
        dsimp only [SmS]
        (try dsimp only at hS0)
        refine wpAnyH_take (i := 0) (v := ?_) rfl (by kernel_rfl) (by kernel_rfl) (by kernel_rfl) (fun _ _ _ h => h) (Or.inl ⟨by kernel_rfl, ?_⟩) (by assumption) ?_
        rotate_left
        · intro w hSw; (try dsimp only at hSw); go_simp; (try with_reducible rfl)
        refine wpAnyH_take (i := 1) (v := ?_) rfl (by kernel_rfl) (by kernel_rfl) (by kernel_rfl) (fun _ _ _ h => h) (Or.inl ⟨by kernel_rfl, ?_⟩) (by assumption) ?_
        rotate_left
        · intro w hSw; (try dsimp only at hSw); go_simp; (try with_reducible rfl)
        refine wpAnyH_take (i := 2) (v := ?_) rfl (by kernel_rfl) (by kernel_rfl) (by kernel_rfl) (fun _ _ _ h => h) (Or.inl ⟨by kernel_rfl, ?_⟩) (by assumption) ?_
        rotate_left
        · intro w hSw; (try dsimp only at hSw); go_simp; (try with_reducible rfl)
        refine wpAnyH_take (i := 3) (v := ?_) rfl (by kernel_rfl) (by kernel_rfl) (by kernel_rfl) (fun _ _ _ h => h) (Or.inl ⟨by kernel_rfl, ?_⟩) (by assumption) ?_
        rotate_left
        · intro w hSw; (try dsimp only at hSw); go_simp; (try with_reducible rfl)
        refine wpAnyH_take (i := 4) (v := ?_) rfl (by kernel_rfl) (by kernel_rfl) (by kernel_rfl) (fun _ _ _ h => h) (Or.inl ⟨by kernel_rfl, ?_⟩) (by assumption) ?_
        rotate_left
        · intro w hSw; (try dsimp only at hSw); go_simp; (try with_reducible rfl)
        refine wpAnyH_take (i := 5) (v := ?_) rfl (by kernel_rfl) (by kernel_rfl) (by kernel_rfl) (fun _ _ _ h => h) (Or.inl ⟨by kernel_rfl, ?_⟩) (by assumption) ?_
        rotate_left
        · intro w hSw; (try dsimp only at hSw); go_simp; (try with_reducible rfl)
        refine wpAnyH_take (i := 6) (v := ?_) rfl (by kernel_rfl) (by kernel_rfl) (by kernel_rfl) (fun _ _ _ h => h) (Or.inl ⟨by kernel_rfl, ?_⟩) (by assumption) ?_
        rotate_left
        · intro w hSw; (try dsimp only at hSw); go_simp; (try with_reducible rfl)
        refine wpAnyH_take (i := 7) (v := ?_) rfl (by kernel_rfl) (by kernel_rfl) (by kernel_rfl) (fun _ _ _ h => h) (Or.inl ⟨by kernel_rfl, ?_⟩) (by assumption) ?_
        rotate_left
        · intro w hSw; (try dsimp only at hSw); go_simp; (try with_reducible rfl)
        refine wpAnyH_take (i := 8) (v := ?_) rfl (by kernel_rfl) (by kernel_rfl) (by kernel_rfl) (fun _ _ _ h => h) (Or.inl ⟨by kernel_rfl, ?_⟩) (by assumption) ?_
        rotate_left
        · intro w hSw; (try dsimp only at hSw); go_simp; (try with_reducible rfl)
        refine wpAnyH_take (i := 9) (v := ?_) rfl (by kernel_rfl) (by kernel_rfl) (by kernel_rfl) (fun _ _ _ h => h) (Or.inl ⟨by kernel_rfl, ?_⟩) (by assumption) ?_
        rotate_left
        · intro w hSw; (try dsimp only at hSw); go_simp; (try with_reducible rfl)
        refine wpAnyH_ready (rs := [10, 11]) (by kernel_rfl) (by simp) ?_
        refine AllReadyH.cons rfl (fun K hK => ?_) (AllReadyH.cons rfl (fun K hK => ?_) AllReadyH.nil)
        · skip
          go_simp
          have hz1 := lb_alloc z0
          have ha1 := Kq.below_alloc z0 (Obj.cells #[Value.int IntKind.i64 0, Value.int IntKind.i64 0, Value.string ⟨#[]⟩, Value.string ⟨#[]⟩, Value.slice none 0 0] 30)
          obtain ⟨z1, hz1e⟩ : ∃ z, z = z0.alloc (Obj.cells #[Value.int IntKind.i64 0, Value.int IntKind.i64 0, Value.string ⟨#[]⟩, Value.string ⟨#[]⟩, Value.slice none 0 0] 30) := ⟨_, rfl⟩
          rw [← hz1e] at hz1 ha1
          (try rw [← hz1e])
          obtain ⟨X, hF⟩ : ∃ F, F = z0.heap.size := ⟨_, rfl⟩
          rw [← hF] at hz1
          (try rw [← hF])
          have H1 : Hid (Below wr.heap.size wr z1 ∧ LB z1 X 0 0 ⟨#[]⟩ ⟨#[]⟩ (.slice none 0 0) ∧ wr.heap.size ≤ X) := Lib.hid ⟨HZ0.out.trans (ha1.mono HZ0.out.size), hz1, by rw [hF]; exact HZ0.out.size⟩
          clear hz1 ha1 hz1e hF HZ0 hS0
          refine hK.out _ _ (HSS.out _ H1.out.1) (fun hS0 => ?_)
          clear hK K
          refine wpAnyH_ready (rs := [11]) (by kernel_rfl) (by simp) ?_
          refine AllReadyH.cons rfl (fun K hK => ?_) AllReadyH.nil
          go_simp
          have hz2 := lb_alloc z1
          have ha2 := Kq.below_alloc z1 (Obj.cells #[Value.int IntKind.i64 0, Value.int IntKind.i64 0, Value.string ⟨#[]⟩, Value.string ⟨#[]⟩, Value.slice none 0 0] 30)
          obtain ⟨z2, hz2e⟩ : ∃ z, z = z1.alloc (Obj.cells #[Value.int IntKind.i64 0, Value.int IntKind.i64 0, Value.string ⟨#[]⟩, Value.string ⟨#[]⟩, Value.slice none 0 0] 30) := ⟨_, rfl⟩
          rw [← hz2e] at hz2 ha2
          (try rw [← hz2e])
          obtain ⟨Y, hG⟩ : ∃ G, G = z1.heap.size := ⟨_, rfl⟩
          rw [← hG] at hz2
          (try rw [← hG])
          have H2 : Hid (Below wr.heap.size wr z2 ∧ LB z2 X 0 0 ⟨#[]⟩ ⟨#[]⟩ (.slice none 0 0) ∧ LB z2 Y 0 0 ⟨#[]⟩ ⟨#[]⟩ (.slice none 0 0) ∧ wr.heap.size ≤ X ∧ wr.heap.size ≤ Y ∧ X ≠ Y) := Lib.hid ⟨H1.out.1.trans (ha2.mono H1.out.1.size), H1.out.2.1.below ha2, hz2, H1.out.2.2, by rw [hG]; exact H1.out.1.size, by have := H1.out.2.1.lt; omega⟩
          clear hz2 ha2 hz2e hG H1 hS0
          refine hK.out _ _ (HSS.out _ H2.out.1) (fun hS0 => ?_)
          clear hK K
          have r0 := H2.out.2.1.c0
          have r1 := H2.out.2.1.c1
          have r2 := H2.out.2.1.c2
          have r3 := H2.out.2.1.c3
          have r4 := H2.out.2.1.c4
          have g0 := H2.out.2.1.fz 0
          have g1 := H2.out.2.1.fz 1
          have g2 := H2.out.2.1.fz 2
          have g3 := H2.out.2.1.fz 3
          have g4 := H2.out.2.1.fz 4
          refine wpAnyH_ready (rs := [12]) (by kernel_rfl) (by simp) ?_
          refine AllReadyH.cons rfl (fun K hK => ?_) AllReadyH.nil
          go_simp
          have H3 : Hid (Below wr.heap.size wr (filled5 z2 X i c k v (.slice a p.length cp)) ∧ LB (filled5 z2 X i c k v (.slice a p.length cp)) X i c k v (.slice a p.length cp) ∧ LB (filled5 z2 X i c k v (.slice a p.length cp)) Y 0 0 ⟨#[]⟩ ⟨#[]⟩ (.slice none 0 0) ∧ wr.heap.size ≤ X ∧ wr.heap.size ≤ Y ∧ X ≠ Y) := Lib.hid (by
            have pk := filled5_keeps z2 X i c k v (.slice a p.length cp)
            have hne := H2.out.2.2.2.2.2
            have hX := H2.out.2.2.2.1
            have hY := H2.out.2.2.2.2.1
            exact ⟨below_far H2.out.1 pk (Nat.le_refl _) (fun g _ hg => by omega), H2.out.2.1.fill i c k v _, H2.out.2.2.1.later pk (fun e => by omega), by omega, by omega, by omega⟩)
          clear r0 r1 r2 r3 r4 g0 g1 g2 g3 g4 H2 hS0
          refine hK.out _ _ (HSS.out _ H3.out.1) (fun hS0 => ?_)
          clear hK K
          change wpAnyH _ _ _ _ _ _ _ _ (filled5 z2 X i c k v (.slice a p.length cp))
          generalize filled5 z2 X i c k v (.slice a p.length cp) = z3 at *
          have r0 := H3.out.2.2.1.c0
          have r1 := H3.out.2.2.1.c1
          have r2 := H3.out.2.2.1.c2
          have r3 := H3.out.2.2.1.c3
          have r4 := H3.out.2.2.1.c4
          have g0 := H3.out.2.2.1.fz 0
          have g1 := H3.out.2.2.1.fz 1
          have g2 := H3.out.2.2.1.fz 2
          have g3 := H3.out.2.2.1.fz 3
          have g4 := H3.out.2.2.1.fz 4
          refine wpAnyH_ready (rs := [13]) (by kernel_rfl) (by simp) ?_
          refine AllReadyH.cons rfl (fun K hK => ?_) AllReadyH.nil
          go_simp
          have HX : Hid (Below wr.heap.size wr (filled5 z3 Y i c k v (.slice a' p.length cp')) ∧ LB (filled5 z3 Y i c k v (.slice a' p.length cp')) X i c k v (.slice a p.length cp) ∧ LB (filled5 z3 Y i c k v (.slice a' p.length cp')) Y i c k v (.slice a' p.length cp')) := Lib.hid (by
            have pk := filled5_keeps z3 Y i c k v (.slice a' p.length cp')
            have hne := H3.out.2.2.2.2.2
            have hY := H3.out.2.2.2.2.1
            exact ⟨below_far H3.out.1 pk (Nat.le_refl _) (fun g _ hg => by omega), H3.out.2.1.later pk (fun e => by omega), H3.out.2.2.1.fill i c k v _⟩)
          clear r0 r1 r2 r3 r4 g0 g1 g2 g3 g4 H3 hS0
          refine hK.out _ _ (HSS.out _ HX.out.1) (fun hS0 => ?_)
          clear hK K
          change wpAnyH _ _ _ _ _ _ _ _ (filled5 z3 Y i c k v (.slice a' p.length cp'))
          generalize filled5 z3 Y i c k v (.slice a' p.length cp') = z4 at *
          refine wpAnyH_done (by kernel_rfl) ?_ _
          go_simp
          
          have HF := Lib.hid (And.intro HX.out.2.1 (And.intro HX.out.2.2 (And.intro (HTT.out.1.below HX.out.1) (HTT.out.2.below HX.out.1))))
          have HSTf : Hid (Below w.heap.size w z4 ∧ PBk z4 w.heap.size _ (.slice (some ⟨b, off, none⟩) ls.length ca) ∧ PBk z4 (w.heap.size + 1) _ (.slice (some ⟨b', off', none⟩) ls.length cb) ∧ LfsN z4 S (some ⟨b, off, none⟩) ls ∧ LfsN z4 T (some ⟨b', off', none⟩) ms) := Lib.hid ⟨HST.out.1.trans (HX.out.1.mono HST.out.1.size), HST.out.2.1.below HX.out.1, HST.out.2.2.1.below HX.out.1, HST.out.2.2.2.1.below HX.out.1, HST.out.2.2.2.2.below HX.out.1⟩
          have s0 := HF.out.1.c0
          have s1 := HF.out.1.c1
          have s2 := HF.out.1.c2
          have s3 := HF.out.1.c3
          have s4 := HF.out.1.c4
          have u0 := HF.out.2.1.c0
          have u1 := HF.out.2.1.c1
          have u2 := HF.out.2.1.c2
          have u3 := HF.out.2.1.c3
          have u4 := HF.out.2.1.c4
          have e1 : (i != i) = false := by simp
          have e2 : (c != c) = false := by simp
          have e3 : (k.toList != k.toList) = false := by simp
          have e3' : (k.toList == k.toList) = true := by simp
          have e4 : (v.toList != v.toList) = false := by simp
          have e4' : (v.toList == v.toList) = true := by simp
          clear HX hS0
          go_wp2_with fail
          refine (rf_texts a a' cp cp' p p z4 (by have := HPL.out; omega) (by have := HPL.out; omega) HF.out.2.2.1.strs HF.out.2.2.2.strs).mono ?_
          rintro zz z5 ⟨rfl, b5⟩
          rw [decide_eq_true (rfl : p = p)]
          have HEND : Hid (Below w.heap.size w z5 ∧ PBk z5 w.heap.size _ (.slice (some ⟨b, off, none⟩) ls.length ca) ∧ PBk z5 (w.heap.size + 1) _ (.slice (some ⟨b', off', none⟩) ls.length cb) ∧ LfsN z5 S (some ⟨b, off, none⟩) ls ∧ LfsN z5 T (some ⟨b', off', none⟩) ms) := Lib.hid ⟨HSTf.out.1.trans (b5.mono HSTf.out.1.size), HSTf.out.2.1.below b5, HSTf.out.2.2.1.below b5, HSTf.out.2.2.2.1.below b5, HSTf.out.2.2.2.2.below b5⟩
          clear b5 HF HSTf s0 s1 s2 s3 s4 u0 u1 u2 u3 u4 e1 e2 e3 e3' e4 e4'
          go_wp2
          go_roundw
          case rel => exact ⟨j + 1, HLT.out, by go_num, HEND.out⟩
          case measure => have := HLT.out; simp [intOf]; omega
        · skip
          go_simp
          have hz1 := lb_alloc z0
          have ha1 := Kq.below_alloc z0 (Obj.cells #[Value.int IntKind.i64 0, Value.int IntKind.i64 0, Value.string ⟨#[]⟩, Value.string ⟨#[]⟩, Value.slice none 0 0] 30)
          obtain ⟨z1, hz1e⟩ : ∃ z, z = z0.alloc (Obj.cells #[Value.int IntKind.i64 0, Value.int IntKind.i64 0, Value.string ⟨#[]⟩, Value.string ⟨#[]⟩, Value.slice none 0 0] 30) := ⟨_, rfl⟩
          rw [← hz1e] at hz1 ha1
          (try rw [← hz1e])
          obtain ⟨Y, hF⟩ : ∃ F, F = z0.heap.size := ⟨_, rfl⟩
          rw [← hF] at hz1
          (try rw [← hF])
          have H1 : Hid (Below wr.heap.size wr z1 ∧ LB z1 Y 0 0 ⟨#[]⟩ ⟨#[]⟩ (.slice none 0 0) ∧ wr.heap.size ≤ Y) := Lib.hid ⟨HZ0.out.trans (ha1.mono HZ0.out.size), hz1, by rw [hF]; exact HZ0.out.size⟩
          clear hz1 ha1 hz1e hF HZ0 hS0
          refine hK.out _ _ (HSS.out _ H1.out.1) (fun hS0 => ?_)
          clear hK K
          refine wpAnyH_ready (rs := [10]) (by kernel_rfl) (by simp) ?_
          refine AllReadyH.cons rfl (fun K hK => ?_) AllReadyH.nil
          go_simp
          have hz2 := lb_alloc z1
          have ha2 := Kq.below_alloc z1 (Obj.cells #[Value.int IntKind.i64 0, Value.int IntKind.i64 0, Value.string ⟨#[]⟩, Value.string ⟨#[]⟩, Value.slice none 0 0] 30)
          obtain ⟨z2, hz2e⟩ : ∃ z, z = z1.alloc (Obj.cells #[Value.int IntKind.i64 0, Value.int IntKind.i64 0, Value.string ⟨#[]⟩, Value.string ⟨#[]⟩, Value.slice none 0 0] 30) := ⟨_, rfl⟩
          rw [← hz2e] at hz2 ha2
          (try rw [← hz2e])
          obtain ⟨X, hG⟩ : ∃ G, G = z1.heap.size := ⟨_, rfl⟩
          rw [← hG] at hz2
          (try rw [← hG])
          have H2 : Hid (Below wr.heap.size wr z2 ∧ LB z2 Y 0 0 ⟨#[]⟩ ⟨#[]⟩ (.slice none 0 0) ∧ LB z2 X 0 0 ⟨#[]⟩ ⟨#[]⟩ (.slice none 0 0) ∧ wr.heap.size ≤ Y ∧ wr.heap.size ≤ X ∧ Y ≠ X) := Lib.hid ⟨H1.out.1.trans (ha2.mono H1.out.1.size), H1.out.2.1.below ha2, hz2, H1.out.2.2, by rw [hG]; exact H1.out.1.size, by have := H1.out.2.1.lt; omega⟩
          clear hz2 ha2 hz2e hG H1 hS0
          refine hK.out _ _ (HSS.out _ H2.out.1) (fun hS0 => ?_)
          clear hK K
          have r0 := H2.out.2.2.1.c0
          have r1 := H2.out.2.2.1.c1
          have r2 := H2.out.2.2.1.c2
          have r3 := H2.out.2.2.1.c3
          have r4 := H2.out.2.2.1.c4
          have g0 := H2.out.2.2.1.fz 0
          have g1 := H2.out.2.2.1.fz 1
          have g2 := H2.out.2.2.1.fz 2
          have g3 := H2.out.2.2.1.fz 3
          have g4 := H2.out.2.2.1.fz 4
          refine wpAnyH_ready (rs := [12]) (by kernel_rfl) (by simp) ?_
          refine AllReadyH.cons rfl (fun K hK => ?_) AllReadyH.nil
          go_simp
          have H3 : Hid (Below wr.heap.size wr (filled5 z2 X i c k v (.slice a p.length cp)) ∧ LB (filled5 z2 X i c k v (.slice a p.length cp)) X i c k v (.slice a p.length cp) ∧ LB (filled5 z2 X i c k v (.slice a p.length cp)) Y 0 0 ⟨#[]⟩ ⟨#[]⟩ (.slice none 0 0) ∧ wr.heap.size ≤ X ∧ wr.heap.size ≤ Y ∧ X ≠ Y) := Lib.hid (by
            have pk := filled5_keeps z2 X i c k v (.slice a p.length cp)
            have hne := H2.out.2.2.2.2.2
            have hX := H2.out.2.2.2.1
            have hY := H2.out.2.2.2.2.1
            exact ⟨below_far H2.out.1 pk (Nat.le_refl _) (fun g _ hg => by omega), H2.out.2.2.1.fill i c k v _, H2.out.2.1.later pk (fun e => by omega), by omega, by omega, by omega⟩)
          clear r0 r1 r2 r3 r4 g0 g1 g2 g3 g4 H2 hS0
          refine hK.out _ _ (HSS.out _ H3.out.1) (fun hS0 => ?_)
          clear hK K
          change wpAnyH _ _ _ _ _ _ _ _ (filled5 z2 X i c k v (.slice a p.length cp))
          generalize filled5 z2 X i c k v (.slice a p.length cp) = z3 at *
          have r0 := H3.out.2.2.1.c0
          have r1 := H3.out.2.2.1.c1
          have r2 := H3.out.2.2.1.c2
          have r3 := H3.out.2.2.1.c3
          have r4 := H3.out.2.2.1.c4
          have g0 := H3.out.2.2.1.fz 0
          have g1 := H3.out.2.2.1.fz 1
          have g2 := H3.out.2.2.1.fz 2
          have g3 := H3.out.2.2.1.fz 3
          have g4 := H3.out.2.2.1.fz 4
          refine wpAnyH_ready (rs := [13]) (by kernel_rfl) (by simp) ?_
          refine AllReadyH.cons rfl (fun K hK => ?_) AllReadyH.nil
          go_simp
          have HX : Hid (Below wr.heap.size wr (filled5 z3 Y i c k v (.slice a' p.length cp')) ∧ LB (filled5 z3 Y i c k v (.slice a' p.length cp')) X i c k v (.slice a p.length cp) ∧ LB (filled5 z3 Y i c k v (.slice a' p.length cp')) Y i c k v (.slice a' p.length cp')) := Lib.hid (by
            have pk := filled5_keeps z3 Y i c k v (.slice a' p.length cp')
            have hne := H3.out.2.2.2.2.2
            have hY := H3.out.2.2.2.2.1
            exact ⟨below_far H3.out.1 pk (Nat.le_refl _) (fun g _ hg => by omega), H3.out.2.1.later pk (fun e => by omega), H3.out.2.2.1.fill i c k v _⟩)
          clear r0 r1 r2 r3 r4 g0 g1 g2 g3 g4 H3 hS0
          refine hK.out _ _ (HSS.out _ HX.out.1) (fun hS0 => ?_)
          clear hK K
          change wpAnyH _ _ _ _ _ _ _ _ (filled5 z3 Y i c k v (.slice a' p.length cp'))
          generalize filled5 z3 Y i c k v (.slice a' p.length cp') = z4 at *
          refine wpAnyH_done (by kernel_rfl) ?_ _
          go_simp
          
          have HF := Lib.hid (And.intro HX.out.2.1 (And.intro HX.out.2.2 (And.intro (HTT.out.1.below HX.out.1) (HTT.out.2.below HX.out.1))))
          have HSTf : Hid (Below w.heap.size w z4 ∧ PBk z4 w.heap.size _ (.slice (some ⟨b, off, none⟩) ls.length ca) ∧ PBk z4 (w.heap.size + 1) _ (.slice (some ⟨b', off', none⟩) ls.length cb) ∧ LfsN z4 S (some ⟨b, off, none⟩) ls ∧ LfsN z4 T (some ⟨b', off', none⟩) ms) := Lib.hid ⟨HST.out.1.trans (HX.out.1.mono HST.out.1.size), HST.out.2.1.below HX.out.1, HST.out.2.2.1.below HX.out.1, HST.out.2.2.2.1.below HX.out.1, HST.out.2.2.2.2.below HX.out.1⟩
          have s0 := HF.out.1.c0
          have s1 := HF.out.1.c1
          have s2 := HF.out.1.c2
          have s3 := HF.out.1.c3
          have s4 := HF.out.1.c4
          have u0 := HF.out.2.1.c0
          have u1 := HF.out.2.1.c1
          have u2 := HF.out.2.1.c2
          have u3 := HF.out.2.1.c3
          have u4 := HF.out.2.1.c4
          have e1 : (i != i) = false := by simp
          have e2 : (c != c) = false := by simp
          have e3 : (k.toList != k.toList) = false := by simp
          have e3' : (k.toList == k.toList) = true := by simp
          have e4 : (v.toList != v.toList) = false := by simp
          have e4' : (v.toList == v.toList) = true := by simp
          clear HX hS0
          go_wp2_with fail
          refine (rf_texts a a' cp cp' p p z4 (by have := HPL.out; omega) (by have := HPL.out; omega) HF.out.2.2.1.strs HF.out.2.2.2.strs).mono ?_
          rintro zz z5 ⟨rfl, b5⟩
          rw [decide_eq_true (rfl : p = p)]
          have HEND : Hid (Below w.heap.size w z5 ∧ PBk z5 w.heap.size _ (.slice (some ⟨b, off, none⟩) ls.length ca) ∧ PBk z5 (w.heap.size + 1) _ (.slice (some ⟨b', off', none⟩) ls.length cb) ∧ LfsN z5 S (some ⟨b, off, none⟩) ls ∧ LfsN z5 T (some ⟨b', off', none⟩) ms) := Lib.hid ⟨HSTf.out.1.trans (b5.mono HSTf.out.1.size), HSTf.out.2.1.below b5, HSTf.out.2.2.1.below b5, HSTf.out.2.2.2.1.below b5, HSTf.out.2.2.2.2.below b5⟩
          clear b5 HF HSTf s0 s1 s2 s3 s4 u0 u1 u2 u3 u4 e1 e2 e3 e3' e4 e4'
          go_wp2
          go_roundw
          case rel => exact ⟨j + 1, HLT.out, by go_num, HEND.out⟩
          case measure => have := HLT.out; simp [intOf]; omega
      · obtain rfl : j = ls.length := by omega
        clear hst
        go_wp2
        go_ret
        exact ⟨rfl, HST.out.1⟩
end Go.Proofs.YtclloplkbajebaaDoor
