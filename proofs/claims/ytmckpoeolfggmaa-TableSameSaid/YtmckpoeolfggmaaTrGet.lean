/- Contracts of the document's Get, Copy. Condition: it is in order. -/
import Derived.WalkSpells
import Derived.Outline
import Derived.Deep.RegionHeld
import Derived.Deep.QuietTactic
import Derived.BigQuiet
import Derived.Test.YtmckpoeolfggmaaTrRow
import Derived.Test.YtmckpoeolfggmaaHeldMono
namespace Go.Proofs.Ytmckpoeolfggmaa
open Go.RowKit Go.Kq
set_option linter.unusedVariables false
/-- an item stored into a block -/
def fillI (w : World) (X : Nat) (f q t : Int) (d : ByteArray) (k : Int) : World := ((((w.setCell ⟨X, 0, none⟩ (.int .i64 f)).setCell ⟨X, 1, none⟩ (.int .u64 q)).setCell ⟨X, 2, none⟩ (.int .u64 t)).setCell ⟨X, 3, none⟩ (.string d)).setCell ⟨X, 4, none⟩ (.int .i64 k)
theorem fillI_blk {w : World} {X : Nat} {a0 a1 a2 a3 a4 : Value} {T : TypeId} (h : w.heap[X]? = some (.cells #[a0, a1, a2, a3, a4] T (0, 0))) (f q t : Int) (d : ByteArray) (k : Int) : (fillI w X f q t d k).heap[X]? = some (.cells #[.int .i64 f, .int .u64 q, .int .u64 t, .string d, .int .i64 k] T (0, 0)) :=
  Kq.blk_set (Kq.blk_set (Kq.blk_set (Kq.blk_set (Kq.blk_set h 0 (.int .i64 f)) 1 (.int .u64 q)) 2 (.int .u64 t)) 3 (.string d)) 4 (.int .i64 k)
theorem fillI_keeps (w : World) (X : Nat) (f q t : Int) (d : ByteArray) (k : Int) : Kq.Keeps (· = X) w (fillI w X f q t d k) := by
  unfold fillI
  exact ((((Kq.Keeps.setCell (S := (· = X)) w ⟨X, 0, none⟩ _ rfl).trans (Kq.Keeps.setCell (S := (· = X)) _ ⟨X, 1, none⟩ _ rfl)).trans (Kq.Keeps.setCell (S := (· = X)) _ ⟨X, 2, none⟩ _ rfl)).trans (Kq.Keeps.setCell (S := (· = X)) _ ⟨X, 3, none⟩ _ rfl)).trans (Kq.Keeps.setCell (S := (· = X)) _ ⟨X, 4, none⟩ _ rfl)
section
variable (w : World) (O : Nat → Prop) (B : Nat) (s : TbV)
set_option maxRecDepth 100000 in
set_option maxHeartbeats 2000000 in
theorem rt_get (f q : Int) (h : RtP w O B s) (hs : tbR.Sort s.l) (h1000 : s.l.length ≤ 1000) : Calls Try.prog 18 #[.pointer (some ⟨B, 0, none⟩), .int .i64 f, .int .u64 q] w fun x w' => x = .returned (.tuple #[itV ((tbR.look s.l (f, q)).getD itZ), .bool (tbR.look s.l (f, q)).isSome]) ∧ Below w.heap.size w w' := by
  obtain ⟨w0, hw0⟩ : ∃ z, z = w.alloc (.cells #[.int .i64 0, .int .u64 0, .int .u64 0, .string ⟨#[]⟩, .int .i64 0] 48) := ⟨_, rfl⟩
  have H0 : Hid (Below w.heap.size w w0 ∧ RtP w0 O B s ∧ w0.heap[w.heap.size]? = some (.cells #[.int .i64 0, .int .u64 0, .int .u64 0, .string ⟨#[]⟩, .int .i64 0] 48 (0, 0))) := Lib.hid (by
    have hb := Kq.below_alloc w (.cells #[.int .i64 0, .int .u64 0, .int .u64 0, .string ⟨#[]⟩, .int .i64 0] 48)
    have hr := Kq.blk_new w #[.int .i64 0, .int .u64 0, .int .u64 0, .string ⟨#[]⟩, .int .i64 0] 48 (0, 0)
    rw [← hw0] at hb hr
    exact ⟨hb, h.below hb, hr⟩)
  have HF := Lib.hid (rt_place w0 O B s f q H0.out.2.1 hs h1000)
  have HIL := Lib.hid (Ord.isAt_look hs (f, q))
  have HLA := Lib.hid (Ord.look_at s.l (f, q) hs)
  obtain ⟨I, hI⟩ : ∃ I, I = tbR.isAt s.l (f, q) := ⟨_, rfl⟩
  obtain ⟨p, hp⟩ : ∃ p, p = tbR.plc s.l (f, q) := ⟨_, rfl⟩
  have hlt : I = true → ∃ h : p < s.l.length, tbR.key s.l[p] = (f, q) := fun e => by rw [hI] at e; subst hp; exact of_decide_eq_true e
  have HLK : Hid (∀ h : p < s.l.length, tbR.key s.l[p] = (f, q) → tbR.look s.l (f, q) = some s.l[p]) := Lib.hid (fun h1 h2 => by
    subst hp
    rw [HLA.out, dif_pos h1, if_pos h2])
  rw [← hI, ← hp] at HF
  rw [← hI] at HIL
  obtain ⟨n, hn⟩ : ∃ n, n = s.l.length := ⟨_, rfl⟩
  have HN := Lib.hid hn
  rw [← hn] at h1000
  clear h hs hI hp hn HLA
  go_enter Try.func18, Try.ntmps18
  go_wp2_with fail
  rw [← hw0]
  clear hw0
  refine HF.out.mono ?_
  rintro x w1 ⟨rfl, n1, hw1⟩
  have H1 : Hid (Below w.heap.size w w1 ∧ RtP w1 O B s ∧ w1.heap[w.heap.size]? = some (.cells #[.int .i64 0, .int .u64 0, .int .u64 0, .string ⟨#[]⟩, .int .i64 0] 48 (0, 0))) := Lib.hid (by
    have hb := below_drewN (Below.refl w0.heap.size w0) n1
    rw [← hw1] at hb
    exact ⟨H0.out.1.trans (hb.mono H0.out.1.size), H0.out.2.1.below hb, Kq.below_blk hb H0.out.2.2 (Kq.blk_lt H0.out.2.2)⟩)
  clear hw1 HF H0
  have z0 := Kq.blk_cell H1.out.2.2 0
  have z1 := Kq.blk_cell H1.out.2.2 1
  have z2 := Kq.blk_cell H1.out.2.2 2
  have z3 := Kq.blk_cell H1.out.2.2 3
  have z4 := Kq.blk_cell H1.out.2.2 4
  have f0 := Kq.blk_free H1.out.2.2 0
  have f1 := Kq.blk_free H1.out.2.2 1
  have f2 := Kq.blk_free H1.out.2.2 2
  have f3 := Kq.blk_free H1.out.2.2 3
  have f4 := Kq.blk_free H1.out.2.2 4
  cases I with
  | false =>
    have HE : Hid (tbR.look s.l (f, q) = none) := Lib.hid (by
      cases e : tbR.look s.l (f, q) with
      | none => rfl
      | some v => have := HIL.out; rw [e] at this; cases this)
    clear hlt
    go_wp2
    clear z0 z1 z2 z3 z4 f0 f1 f2 f3 f4
    change bodyPost _ _ _ _ _ (fillI w1 w.heap.size 0 0 0 ⟨#[]⟩ 0)
    have p1 := fillI_blk H1.out.2.2 0 0 0 ⟨#[]⟩ 0
    have p2 := fillI_keeps w1 w.heap.size 0 0 0 ⟨#[]⟩ 0
    generalize fillI w1 w.heap.size 0 0 0 ⟨#[]⟩ 0 = z at *
    have z0 := Kq.blk_cell p1 0
    have z1 := Kq.blk_cell p1 1
    have z2 := Kq.blk_cell p1 2
    have z3 := Kq.blk_cell p1 3
    have z4 := Kq.blk_cell p1 4
    refine bodyPost_ret (v := .tuple #[.agg #[.int .i64 0, .int .u64 0, .int .u64 0, .string ⟨#[]⟩, .int .i64 0], .bool false]) (by simp [results, Try.results18, go_sem, z0, z1, z2, z3, z4]) rfl ?_
    exact ⟨by rw [HE.out]; rfl, H1.out.1.trans (p2.below H1.out.1.size (fun k _ e => by have e2 : k = w.heap.size := e; omega))⟩
  | true =>
    obtain ⟨hpn, hkey⟩ := hlt rfl
    have HE := Lib.hid (HLK.out hpn hkey)
    obtain ⟨An, cn, hr⟩ := H1.out.2.1
    have c0 := hr.c0
    rw [← HN.out] at c0
    obtain ⟨b, off, rfl, hb, hc⟩ := hr.at_ p hpn
    obtain ⟨x, hx⟩ : ∃ x, x = s.l[p] := ⟨_, rfl⟩
    rw [← hx] at hc HE
    obtain ⟨xk, xf, xq, xt, xd⟩ := x
    have d0 := hc 0 (by omega)
    have d1 := hc 1 (by omega)
    have d2 := hc 2 (by omega)
    have d3 := hc 3 (by omega)
    have d4 := hc 4 (by omega)
    simp only [NtV.ic, List.getElem?_cons_zero, List.getElem?_cons_succ, Nat.add_zero] at d0 d1 d2 d3 d4
    have hi0 : (p : Int) < (n : Int) := by have := HN.out; omega
    clear hlt hc hb hx hkey hr hpn
    go_wp2
    clear z0 z1 z2 z3 z4 f0 f1 f2 f3 f4 d0 d1 d2 d3 d4 c0
    change bodyPost _ _ _ _ _ (fillI w1 w.heap.size xf xq xt xd xk)
    have p1 := fillI_blk H1.out.2.2 xf xq xt xd xk
    have p2 := fillI_keeps w1 w.heap.size xf xq xt xd xk
    generalize fillI w1 w.heap.size xf xq xt xd xk = z at *
    have z0 := Kq.blk_cell p1 0
    have z1 := Kq.blk_cell p1 1
    have z2 := Kq.blk_cell p1 2
    have z3 := Kq.blk_cell p1 3
    have z4 := Kq.blk_cell p1 4
    refine bodyPost_ret (v := .tuple #[.agg #[.int .i64 xf, .int .u64 xq, .int .u64 xt, .string xd, .int .i64 xk], .bool true]) (by simp [results, Try.results18, go_sem, z0, z1, z2, z3, z4]) rfl ?_
    exact ⟨by rw [HE.out]; rfl, H1.out.1.trans (p2.below H1.out.1.size (fun k _ e => by have e2 : k = w.heap.size := e; omega))⟩
def CrB (w : World) (B : Nat) (An : Option Addr) (n cn r : Nat) : Prop := w.cell? ⟨B, 0, none⟩ = some (.slice An n cn) ∧ w.cell? ⟨B, 1, none⟩ = some (.int .i64 (r : Int))
set_option maxRecDepth 100000 in
set_option maxHeartbeats 2000000 in
theorem rt_copy (h : RtP w O B s) (h1000 : s.l.length ≤ 1000) (hO : ∀ k, O k → k < w.heap.size) : Calls Try.prog 37 #[.pointer (some ⟨B, 0, none⟩)] w fun x w' => ∃ B', x = .returned (.pointer (some ⟨B', 0, none⟩)) ∧ RtP w' (fun k => w.heap.size ≤ k ∧ k < w'.heap.size) B' s ∧ Below w.heap.size w w' := by
  obtain ⟨i0, hi0, hz0, hz1, hz2⟩ := info_partsF infoIt
  obtain ⟨An, cn, hr⟩ := h.below (Below.refl w.heap.size w).drew
  have HR : Hid (RT w.drew O B s An cn ∧ (∀ k, O k → k < w.drew.heap.size) ∧ Below w.heap.size w w.drew ∧ w.heap.size = w.drew.heap.size) := Lib.hid ⟨hr, hO, (Below.refl _ _).drew, rfl⟩
  obtain ⟨n, hn⟩ : ∃ n, n = s.l.length := ⟨_, rfl⟩
  obtain ⟨m, hm⟩ : ∃ m, m = s.room := ⟨_, rfl⟩
  have HN := Lib.hid (And.intro hn hm)
  have HC : Hid (∀ w', RT w' O B s An cn → CrB w' B An n cn m) := Lib.hid (fun w' h => ⟨by rw [hn]; exact h.c0, by rw [hm]; exact h.c1⟩)
  rw [← hn] at h1000
  clear h hr hO hn hm
  go_enter Try.func37, Try.ntmps37
  go_wp2
  refine wp_region_held_drew (S := fun cur => CrB cur B An n cn m) (by kernel_rfl) (HC.out _ HR.out.1) (fun hS0 => ?_)
  obtain ⟨wd, hwd⟩ : ∃ z, z = w.drew := ⟨_, rfl⟩
  rw [← hwd] at hS0 HR ⊢
  clear hwd
  unfold CrB at hS0
  dsimp only [CrB] at hS0 ⊢
  refine wpAnyH_take (i := 1) (v := ?_) rfl (by kernel_rfl) (by kernel_rfl) (by kernel_rfl) (fun _ _ _ h => h) (Or.inl ⟨by kernel_rfl, ?_⟩) (by assumption) ?_
  rotate_left
  · intro w hSw; (try dsimp only at hSw); go_simp; (try with_reducible rfl)
  refine wpAnyH_take (i := 2) (v := ?_) rfl (by kernel_rfl) (by kernel_rfl) (by kernel_rfl) (fun _ _ _ h => h) (Or.inl ⟨by kernel_rfl, ?_⟩) (by assumption) ?_
  rotate_left
  · intro w hSw; (try dsimp only at hSw); go_simp; (try with_reducible rfl)
  refine wpAnyH_take (i := 3) (v := ?_) rfl (by kernel_rfl) (by kernel_rfl) (by kernel_rfl) (fun _ _ _ h => h) (Or.inl ⟨by kernel_rfl, ?_⟩) (by assumption) ?_
  rotate_left
  · intro w hSw; (try dsimp only at hSw); go_simp; (try with_reducible rfl)
  refine wpAnyH_take (i := 4) (v := ?_) rfl (by kernel_rfl) (by kernel_rfl) (by kernel_rfl) (fun _ _ _ h => h) (Or.inl ⟨by kernel_rfl, ?_⟩) (by assumption) ?_
  rotate_left
  · intro w hSw; (try dsimp only at hSw); go_simp; (try with_reducible rfl)
  refine wpAnyH_take (i := 6) (v := ?_) rfl (by kernel_rfl) (by kernel_rfl) (by kernel_rfl) (fun _ _ _ h => h) (Or.inl ⟨by kernel_rfl, ?_⟩) (by assumption) ?_
  rotate_left
  · intro w hSw; (try dsimp only at hSw); go_simp; (try with_reducible rfl)
  refine wpAnyH_take (i := 7) (v := ?_) rfl (by kernel_rfl) (by kernel_rfl) (by kernel_rfl) (fun _ _ _ h => h) (Or.inl ⟨by kernel_rfl, ?_⟩) (by assumption) ?_
  rotate_left
  · intro w hSw; (try dsimp only at hSw); go_simp; (try with_reducible rfl)
  refine wpAnyH_take (i := 8) (v := ?_) rfl (by kernel_rfl) (by kernel_rfl) (by kernel_rfl) (fun _ _ _ h => h) (Or.inl ⟨by kernel_rfl, ?_⟩) (by assumption) ?_
  rotate_left
  · intro w hSw; (try dsimp only at hSw); go_simp; (try with_reducible rfl)
  refine wpAnyH_take (i := 9) (v := ?_) rfl (by kernel_rfl) (by kernel_rfl) (by kernel_rfl) (fun _ _ _ h => h) (Or.inl ⟨by kernel_rfl, ?_⟩) (by assumption) ?_
  rotate_left
  · intro w hSw; (try dsimp only at hSw); go_simp; (try with_reducible rfl)
  refine wpAnyH_ready (rs := [0]) (by kernel_rfl) (by simp) ?_
  refine AllReadyH.cons rfl (fun K hK => ?_) AllReadyH.nil
  go_simp
  have HX := Lib.hid (RwI.start wd)
  have HS1 : Hid (Src Try.prog 5 33 (.slice An n cn) n (ItE.flat s.l) (wd.alloc (.cells #[] 48))) := Lib.hid (by
    have := src_pre cn (HX.out.rt HR.out.1 HR.out.2.1).at_ s.l.length (Nat.le_refl _)
    rw [List.take_length, ← HN.out.1] at this
    exact this)
  refine hK.out _ _ (HC.out _ (HX.out.rt HR.out.1 HR.out.2.1)) (fun hS0 => ?_)
  clear hK K hS0
  refine wpAnyH_ready (rs := [5]) (by kernel_rfl) (by simp) ?_
  refine AllReadyH.cons rfl (fun K hK => ?_) AllReadyH.nil
  rw [if_pos (by kernel_rfl)]
  refine Kq.wp_append_any _ (.tmp 3) (.tmp 7) 33 33 rfl wd.heap.size 48 i0 (.agg #[.int .i64 0, .int .u64 0, .int .u64 0, .string ⟨#[]⟩, .int .i64 0]) 5 48 Try.underlying33 hi0 hz0 hz1 hz2 rfl (by decide) (.slice (some ⟨wd.heap.size, 0, none⟩) 0 0) 0 (ItE.flat []) (by kernel_rfl) HX.out.row (.slice An n cn) n (ItE.flat s.l) (by kernel_rfl) HS1.out ?h1 ?h2 HX.out.size ?_
  case h1 => unfold maxLen; omega
  case h2 => omega
  intro v3 w3 hown3 hgrow hfresh
  have H3 : Hid (RwI wd w3 v3 s.l) := Lib.hid (HX.out.app hown3 HN.out.1.symm hgrow)
  clear hown3 hgrow hfresh HX HS1
  refine hK.out _ _ (HC.out _ (H3.out.rt HR.out.1 HR.out.2.1)) (fun hS0 => ?_)
  clear hK K
  obtain ⟨A3, c3, rfl⟩ := H3.out.shape
  rw [← HN.out.1]
  refine wpAnyH_take (i := 10) (v := ?_) rfl (by kernel_rfl) (by kernel_rfl) (by kernel_rfl) (fun _ _ _ h => h) (Or.inl ⟨by kernel_rfl, ?_⟩) (by assumption) ?_
  rotate_left
  · intro w hSw; (try dsimp only at hSw); go_simp; (try with_reducible rfl)
  refine wpAnyH_ready (rs := [11]) (by kernel_rfl) (by simp) ?_
  refine AllReadyH.cons rfl (fun K hK => ?_) AllReadyH.nil
  go_simp
  have H4 : Hid (RT (w3.alloc (.cells #[.slice A3 n c3, .int .i64 (m : Int)] 35)) O B s An cn ∧ RtP (w3.alloc (.cells #[.slice A3 n c3, .int .i64 (m : Int)] 35)) (fun k => w.heap.size ≤ k ∧ k < (w3.alloc (.cells #[.slice A3 n c3, .int .i64 (m : Int)] 35)).heap.size) w3.heap.size s ∧ Below w.heap.size w (w3.alloc (.cells #[.slice A3 n c3, .int .i64 (m : Int)] 35))) := Lib.hid (by
    have b4 := Kq.below_alloc w3 (.cells #[.slice A3 n c3, .int .i64 (m : Int)] 35)
    have hb := Kq.blk_new w3 #[.slice A3 n c3, .int .i64 (m : Int)] 35 (0, 0)
    have hz : (w3.alloc (.cells #[.slice A3 n c3, .int .i64 (m : Int)] 35)).heap.size = w3.heap.size + 1 := by simp
    obtain ⟨A', c', e, hc, hat, hge, _⟩ := Kq.Elt.own_at H3.out.row
    injection e with e1 e2 e3
    subst e1 e3
    have hsz := HR.out.2.2.2
    have h3 := H3.out.kp.size
    refine ⟨(H3.out.rt HR.out.1 HR.out.2.1).keeps (keepsF (O := O) b4) (fun _ _ h => h), ⟨A3, c3, by rw [← HN.out.1, ← HN.out.2]; exact hb, (ItE.en.1 hat).below b4, fun b off e => ?_, hc, by omega⟩, ?_⟩
    · have h1 := hge b off e
      have h2 := own_ltK H3.out.row (k := b) (by rw [e]; rfl)
      exact ⟨by omega, by omega, by omega⟩
    · have hk : Below wd.heap.size wd w3 := H3.out.kp.below (Nat.le_refl _) (fun k _ h => h)
      exact (HR.out.2.2.1.trans (hk.mono (by omega))).trans (b4.mono (by omega)))
  obtain ⟨w4, hw4⟩ : ∃ z, z = w3.alloc (.cells #[.slice A3 n c3, .int .i64 (m : Int)] 35) := ⟨_, rfl⟩
  rw [← hw4] at H4
  (try rw [← hw4])
  clear hw4 H3
  clear hS0
  refine hK.out _ _ (HC.out _ H4.out.1) (fun hS0 => ?_)
  clear hK K
  refine wpAnyH_take (i := 12) (v := ?_) rfl (by kernel_rfl) (by kernel_rfl) (by kernel_rfl) (fun _ _ _ h => h) (Or.inl ⟨by kernel_rfl, ?_⟩) (by assumption) ?_
  rotate_left
  · intro w hSw; (try dsimp only at hSw); go_simp; (try with_reducible rfl)
  refine wpAnyH_done (by kernel_rfl) ?_ _
  clear hS0
  go_simp
  go_wp2
  go_ret
  exact ⟨_, rfl, H4.out.2⟩
end
end Go.Proofs.Ytmckpoeolfggmaa
