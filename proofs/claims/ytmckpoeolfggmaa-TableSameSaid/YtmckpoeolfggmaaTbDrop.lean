/- Contracts of table's Drop, Copy. Condition: names that may be. -/
import Derived.WalkSpells
import Derived.Outline
import Derived.Deep.RegionHeld
import Derived.Deep.QuietTactic
import Derived.BigQuiet
import Derived.Shelf.SlMaps.Clone
import Derived.Test.YtmckpoeolfggmaaTbP
import Derived.Test.YtmckpoeolfggmaaHeldMono
namespace Go.Proofs.Ytmckpoeolfggmaa
open Go.RowKit Go.Maps Go.Kq
set_option linter.unusedVariables false
section
variable (w : World) (O : Nat → Prop) (B : Nat) (s : TbV)
set_option maxRecDepth 100000 in
set_option maxHeartbeats 2000000 in
theorem tb_drop (f q : Int) (hn : nmW (f, q)) (h : TbP w O B s) (hs : TbOk s) (hO : ∀ k, O k → k < w.heap.size) : Calls Try.prog 26 #[.pointer (some ⟨B, 0, none⟩), .int .i64 f, .int .u64 q] w (StepT w O B (.int .i64 (drpV s f q).2) (drpV s f q).1) := by
  have HH := Lib.hid (And.intro h (And.intro hs (And.intro hn hO)))
  have HG := Lib.hid (tb_get w O B s f q hn h)
  obtain ⟨u, hu⟩ : ∃ u, u = tbR.look s.l (f, q) := ⟨_, rfl⟩
  rw [← hu] at HG
  have HV : Hid (drpV s f q = if u = none then (s, 3) else (⟨s.room, tbR.del s.l (f, q)⟩, 0)) := Lib.hid (by rw [hu]; rfl)
  clear h hs hn hu hO
  go_enter Try.func26, Try.ntmps26
  go_wp2_with fail
  refine HG.out.mono ?_
  rintro x w1 ⟨rfl, b1⟩
  have H1 := Lib.hid b1
  clear b1 HG
  cases u with
  | none =>
    have HE : Hid (drpV s f q = (s, 3)) := Lib.hid (by rw [HV.out, if_pos rfl])
    unfold itV itZ
    simp only [Option.getD_none, Option.isSome_none]
    go_wp2
    go_ret
    rw [HE.out]
    exact StepT.same HH.out.1 (H1.out.trans ((Kq.below_alloc _ _).mono H1.out.size)) rfl
  | some i =>
    have HE : Hid (drpV s f q = (⟨s.room, tbR.del s.l (f, q)⟩, 0)) := Lib.hid (by rw [HV.out, if_neg (by simp)])
    obtain ⟨ik, jf, jq, jt, jd⟩ := i
    unfold itV
    simp only [Option.getD_some, Option.isSome_some]
    obtain ⟨w2, hw2⟩ : ∃ z, z = w1.alloc (.cells #[.int .i64 jf, .int .u64 jq, .int .u64 jt, .string jd, .int .i64 ik] 48) := ⟨_, rfl⟩
    have hb2 : Below w.heap.size w w2 := by rw [hw2]; exact H1.out.trans ((Kq.below_alloc _ _).mono H1.out.size)
    obtain ⟨M, htp⟩ := HH.out.1.below hb2
    have hM : M < w.heap.size := HH.out.2.2.2 M htp.oM
    obtain ⟨w3, hrun, hm3, hk3⟩ := htp.map.del HH.out.2.1.sort f q HH.out.2.2.1 0
    have H3 : Hid (StepT w O B (.int .i64 0) ⟨s.room, tbR.del s.l (f, q)⟩ (.returned (.int .i64 0)) w3) := Lib.hid ⟨rfl, ⟨M, hk3.blk htp.blk (fun e => htp.ne e.symm), hm3, Or.inl htp.oB, Or.inl htp.oM⟩, (Kq.Keeps.of_below hb2 (fun k h1 h2 => absurd h2 (Nat.not_lt.2 h1))).trans (hk3.mono (fun k _ e => by rw [show k = M from e]; exact htp.oM))⟩
    have c1 := htp.c1
    rw [hw2] at c1 hrun
    clear htp hM hm3 hk3 hb2 hw2
    go_wp2
    go_ret
    rw [HE.out]
    exact H3.out
set_option maxRecDepth 100000 in
set_option maxHeartbeats 2000000 in
theorem tb_clone (M : Nat) (l : List NtV) (w : World) (h : MapT w M l) : Calls Try.prog 36 #[.map (some M)] w fun x w' => x = .returned (.map (some w.heap.size)) ∧ MapT w' w.heap.size l ∧ Below w.heap.size w w' := by
  obtain ⟨es, cl, hb⟩ := h.obj
  have HM := Lib.hid (And.intro (h.copy hb) (Kq.below_alloc w (.map es cl)))
  have hq := fun w => run_eql_map_nil_sl (P := Try.prog) w 64 _ _ (some M) Try.underlying64
  clear h
  go_enter Try.func36, Try.ntmps36
  go_wp2
  rw [run_callFunc_extern Try.func49 (by kernel_rfl) (by kernel_rfl) (by kernel_rfl) (e := Extern.MapsClone.clone) (by kernel_rfl), run_maps_clone_sl w 64 hb]
  simp only [Result.andThen]
  rw [Oper.upon_value]
  go_wp2
  rw [run_typeAssert_map_sl _ 64 20 _ _ _ Try.underlying64]
  simp only [Result.andThen]
  rw [Oper.upon_value]
  go_wp2
  go_ret
  exact ⟨rfl, HM.out⟩
def CpB (w : World) (B M : Nat) (r : Nat) : Prop := w.cell? ⟨B, 0, none⟩ = some (.int .i64 (r : Int)) ∧ w.cell? ⟨B, 1, none⟩ = some (.map (some M))
set_option maxRecDepth 100000 in
set_option maxHeartbeats 2000000 in
theorem tb_copy (h : TbP w O B s) : Calls Try.prog 19 #[.pointer (some ⟨B, 0, none⟩)] w fun x w' => ∃ B', x = .returned (.pointer (some ⟨B', 0, none⟩)) ∧ TbP w' (fun k => w.heap.size ≤ k ∧ k < w'.heap.size) B' s ∧ Below w.heap.size w w' := by
  obtain ⟨M, h⟩ := h
  have H0 : Hid (Below w.heap.size w w.drew ∧ TP w.drew O B s M ∧ w.drew.heap.size = w.heap.size) := Lib.hid ⟨(Below.refl _ _).drew, h.below (Below.refl _ _).drew, rfl⟩
  clear h
  obtain ⟨r, hr⟩ : ∃ r, r = s.room := ⟨_, rfl⟩
  have HR := Lib.hid hr
  have HC : Hid (∀ w', TP w' O B s M → CpB w' B M r) := Lib.hid (fun w' h => ⟨by rw [hr]; exact h.c0, h.c1⟩)
  clear hr
  go_enter Try.func19, Try.ntmps19
  go_wp2
  refine wp_region_held_drew (S := fun w' => CpB w' B M r) (by kernel_rfl) (HC.out _ H0.out.2.1) (fun hS0 => ?_)
  obtain ⟨wd, hwd⟩ : ∃ z, z = w.drew := ⟨_, rfl⟩
  rw [← hwd] at hS0 H0 ⊢
  clear hwd
  unfold CpB at hS0
  dsimp only [CpB] at hS0 ⊢
  refine wpAnyH_take (i := 0) (v := ?_) rfl (by kernel_rfl) (by kernel_rfl) (by kernel_rfl) (fun _ _ _ h => h) (Or.inl ⟨by kernel_rfl, ?_⟩) (by assumption) ?_
  rotate_left
  · intro w hSw; (try dsimp only at hSw); go_simp; (try with_reducible rfl)
  refine wpAnyH_take (i := 1) (v := ?_) rfl (by kernel_rfl) (by kernel_rfl) (by kernel_rfl) (fun _ _ _ h => h) (Or.inl ⟨by kernel_rfl, ?_⟩) (by assumption) ?_
  rotate_left
  · intro w hSw; (try dsimp only at hSw); go_simp; (try with_reducible rfl)
  refine wpAnyH_take (i := 2) (v := ?_) rfl (by kernel_rfl) (by kernel_rfl) (by kernel_rfl) (fun _ _ _ h => h) (Or.inl ⟨by kernel_rfl, ?_⟩) (by assumption) ?_
  rotate_left
  · intro w hSw; (try dsimp only at hSw); go_simp; (try with_reducible rfl)
  refine wpAnyH_take (i := 3) (v := ?_) rfl (by kernel_rfl) (by kernel_rfl) (by kernel_rfl) (fun _ _ _ h => h) (Or.inl ⟨by kernel_rfl, ?_⟩) (by assumption) ?_
  rotate_left
  · intro w hSw; (try dsimp only at hSw); go_simp; (try with_reducible rfl)
  refine wpAnyH_take (i := 4) (v := ?_) rfl (by kernel_rfl) (by kernel_rfl) (by kernel_rfl) (fun _ _ _ h => h) (Or.inl ⟨by kernel_rfl, ?_⟩) (by assumption) ?_
  rotate_left
  · intro w hSw; (try dsimp only at hSw); go_simp; (try with_reducible rfl)
  refine wpAnyH_take (i := 5) (v := ?_) rfl (by kernel_rfl) (by kernel_rfl) (by kernel_rfl) (fun _ _ _ h => h) (Or.inl ⟨by kernel_rfl, ?_⟩) (by assumption) ?_
  rotate_left
  · intro w hSw; (try dsimp only at hSw); go_simp; (try with_reducible rfl)
  refine wpAnyH_take (i := 6) (v := ?_) rfl (by kernel_rfl) (by kernel_rfl) (by kernel_rfl) (fun _ _ _ h => h) (Or.inl ⟨by kernel_rfl, ?_⟩) (by assumption) ?_
  rotate_left
  · intro w hSw; (try dsimp only at hSw); go_simp; (try with_reducible rfl)
  refine wpAnyH_take (i := 7) (v := ?_) rfl (by kernel_rfl) (by kernel_rfl) (by kernel_rfl) (fun _ _ _ h => h) (Or.inl ⟨by kernel_rfl, ?_⟩) (by assumption) ?_
  rotate_left
  · intro w hSw; (try dsimp only at hSw); go_simp; (try with_reducible rfl)
  refine wpAnyH_ready (rs := [8]) (by kernel_rfl) (by simp) ?_
  refine AllReadyH.cons rfl (fun K hK => ?_) AllReadyH.nil
  go_simp
  refine (tb_clone M s.l wd H0.out.2.1.map).mono ?_
  rintro x w2 ⟨rfl, hm2, b2⟩
  have H2 : Hid (Below w.heap.size w w2 ∧ TP w2 O B s M ∧ MapT w2 wd.heap.size s.l ∧ w.heap.size = wd.heap.size ∧ wd.heap.size < w2.heap.size) := Lib.hid ⟨H0.out.1.trans (b2.mono H0.out.1.size), H0.out.2.1.below b2, hm2, H0.out.2.2.symm, hm2.lt⟩
  clear b2 hm2 H0 hS0
  refine hK.out _ _ (HC.out _ H2.out.2.1) (fun hS0 => ?_)
  clear hK K
  refine wpAnyH_take (i := 9) (v := ?_) rfl (by kernel_rfl) (by kernel_rfl) (by kernel_rfl) (fun _ _ _ h => h) (Or.inl ⟨by kernel_rfl, ?_⟩) (by assumption) ?_
  rotate_left
  · intro w hSw; (try dsimp only at hSw); go_simp; (try with_reducible rfl)
  refine wpAnyH_ready (rs := [10]) (by kernel_rfl) (by simp) ?_
  refine AllReadyH.cons rfl (fun K hK => ?_) AllReadyH.nil
  go_simp
  have H3 : Hid (TP (w2.alloc (.cells #[.int .i64 (r : Int), .map (some wd.heap.size)] 66)) O B s M ∧ TbP (w2.alloc (.cells #[.int .i64 (r : Int), .map (some wd.heap.size)] 66)) (fun k => w.heap.size ≤ k ∧ k < (w2.alloc (.cells #[.int .i64 (r : Int), .map (some wd.heap.size)] 66)).heap.size) w2.heap.size s ∧ Below w.heap.size w (w2.alloc (.cells #[.int .i64 (r : Int), .map (some wd.heap.size)] 66))) := Lib.hid (by
    have b3 := Kq.below_alloc w2 (.cells #[.int .i64 (r : Int), .map (some wd.heap.size)] 66)
    have hn := Kq.blk_new w2 #[.int .i64 (r : Int), .map (some wd.heap.size)] 66 (0, 0)
    have hz : (w2.alloc (.cells #[.int .i64 (r : Int), .map (some wd.heap.size)] 66)).heap.size = w2.heap.size + 1 := by simp
    have h1 := H2.out.2.2.2
    have h2 := H2.out.1.size
    refine ⟨H2.out.2.1.below b3, ⟨wd.heap.size, ?_, H2.out.2.2.1.below b3, by omega, by omega⟩, H2.out.1.trans (b3.mono h2)⟩
    rw [← HR.out]; exact hn)
  clear H2
  obtain ⟨w3, hw3⟩ : ∃ z, z = w2.alloc (.cells #[.int .i64 (r : Int), .map (some wd.heap.size)] 66) := ⟨_, rfl⟩
  rw [← hw3] at H3
  (try rw [← hw3])
  clear hw3
  refine hK.out _ _ (HC.out _ H3.out.1) (fun hS1 => ?_)
  clear hK K hS0
  refine wpAnyH_take (i := 11) (v := ?_) rfl (by kernel_rfl) (by kernel_rfl) (by kernel_rfl) (fun _ _ _ h => h) (Or.inl ⟨by kernel_rfl, ?_⟩) (by assumption) ?_
  rotate_left
  · intro w hSw; (try dsimp only at hSw); go_simp; (try with_reducible rfl)
  refine wpAnyH_done (by kernel_rfl) ?_ _
  clear hS1
  go_simp
  go_wp2
  go_ret
  exact ⟨_, rfl, H3.out.2⟩
end
end Go.Proofs.Ytmckpoeolfggmaa
