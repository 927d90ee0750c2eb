/- Contracts of table's ways, Apply. Condition: names that may be. -/
import Derived.WalkSpells
import Derived.Outline
import Derived.Deep.RegionHeld
import Derived.Deep.QuietTactic
import Derived.BigQuiet
import Derived.Test.YtkbiolhcpghmkaaGreatTbAppQ
namespace Go.Proofs.YtkbiolhcpghmkaaGreat
open Go.RowKit Go.Maps Go.Kq
set_option linter.unusedVariables false
/-- how a note of each kind is applied -/
def waysC : Array Value := #[.nilFunc, .func (.func 80) #[] #[], .func (.func 81) #[] #[], .func (.func 82) #[] #[], .func (.func 82) #[] #[]]
set_option maxRecDepth 100000 in
set_option maxHeartbeats 1000000 in
theorem tb_ways (w : World) : Calls Tryz.prog 64 #[] w fun x w' => x = .returned (.agg waysC) ∧ Below w.heap.size w w' := by
  have HN : Hid ((w.alloc (.cells #[.nilFunc, .nilFunc, .nilFunc, .nilFunc, .nilFunc] 123)).heap[w.heap.size]? = some (.cells #[.nilFunc, .nilFunc, .nilFunc, .nilFunc, .nilFunc] 123 (0, 0)) ∧ Below w.heap.size w (w.alloc (.cells #[.nilFunc, .nilFunc, .nilFunc, .nilFunc, .nilFunc] 123))) := Lib.hid ⟨Kq.blk_new w _ _ _, Kq.below_alloc _ _⟩
  go_enter Tryz.func64, Tryz.ntmps64
  go_wp2_with (refine wpList_store_row (by rfl) 123 (.tmp 0) (.tmp 1) (by rfl) w.heap.size waysC (by rfl) (by rfl) 123 _ HN.out.1 (by kernel_rfl) (by rfl) (by kernel_rfl) ?_)
  obtain ⟨wz, hwz⟩ : ∃ z, z = (w.alloc (.cells #[.nilFunc, .nilFunc, .nilFunc, .nilFunc, .nilFunc] 123)).setRow w.heap.size waysC := ⟨_, rfl⟩
  have hz : wz.heap[w.heap.size]? = some (.cells waysC 123 (0, 0)) := by rw [hwz]; exact setRow_heap _ _ _ _ _ _ HN.out.1
  have hb : Below w.heap.size w wz := by
    rw [hwz]
    exact HN.out.2.trans (Kq.Keeps.below ⟨rfl, rfl, rfl, by simp, fun k _ hk => setRow_other _ _ k _ hk⟩ HN.out.2.size (fun k _ (e : k = w.heap.size) => by omega))
  rw [← hwz]
  have z0 := Kq.blk_cell hz 0
  have z1 := Kq.blk_cell hz 1
  have z2 := Kq.blk_cell hz 2
  have z3 := Kq.blk_cell hz 3
  have z4 := Kq.blk_cell hz 4
  unfold waysC at z0 z1 z2 z3 z4
  clear hwz
  go_wp2
  refine bodyPost_ret (v := .agg waysC) (by simp [results, Tryz.results64, go_sem, z0, z1, z2, z3, z4, waysC]) rfl ?_
  exact ⟨rfl, hb⟩
theorem ix1 (w : World) : (Instr.index 123 (.agg waysC) (.int .i64 1)).run Tryz.prog w = .ok (.func (.func 80) #[] #[]) w := by kernel_rfl
theorem ix2 (w : World) : (Instr.index 123 (.agg waysC) (.int .i64 2)).run Tryz.prog w = .ok (.func (.func 81) #[] #[]) w := by kernel_rfl
theorem ix3 (w : World) : (Instr.index 123 (.agg waysC) (.int .i64 3)).run Tryz.prog w = .ok (.func (.func 82) #[] #[]) w := by kernel_rfl
theorem ix4 (w : World) : (Instr.index 123 (.agg waysC) (.int .i64 4)).run Tryz.prog w = .ok (.func (.func 82) #[] #[]) w := by kernel_rfl
def NtB (w : World) (X : Nat) (k f q t : Int) (d : ByteArray) : Prop := w.cell? ⟨X, 0, none⟩ = some (.int .i64 k) ∧ w.cell? ⟨X, 1, none⟩ = some (.int .i64 f) ∧ w.cell? ⟨X, 2, none⟩ = some (.int .u64 q) ∧ w.cell? ⟨X, 3, none⟩ = some (.int .u64 t) ∧ w.cell? ⟨X, 4, none⟩ = some (.string d)
theorem NtB.of {w : World} {X : Nat} {k f q t : Int} {d : ByteArray} (h : w.heap[X]? = some (.cells #[.int .i64 k, .int .i64 f, .int .u64 q, .int .u64 t, .string d] 46 (0, 0))) : NtB w X k f q t d := ⟨Kq.blk_cell h 0, Kq.blk_cell h 1, Kq.blk_cell h 2, Kq.blk_cell h 3, Kq.blk_cell h 4⟩
theorem NtOk.ok {k f q t : Int} {d : ByteArray} (h : NtOk k f q t d) : EnOk [1, 2, 3, 4] ⟨k, f, q, t, d⟩ := by
  obtain ⟨h1, h2, h3⟩ := h
  refine ⟨?_, h3⟩
  show k ∈ [1, 2, 3, 4]
  have : k = 1 ∨ k = 2 ∨ k = 3 ∨ k = 4 := by omega
  rcases this with rfl | rfl | rfl | rfl <;> simp
section
variable (w : World) (O : Nat → Prop) (B : Nat) (s : TbV)
set_option maxRecDepth 100000 in
set_option maxHeartbeats 2000000 in
theorem tb_app1 (f q t : Int) (d : ByteArray) (hok : NtOk 1 f q t d) (hn : nmW (f, q)) (h : TbP w O B s) (hs : TbOk s) (hO : ∀ k, O k → k < w.heap.size) : Calls Tryz.prog 36 #[.pointer (some ⟨B, 0, none⟩), .agg #[.int .i64 1, .int .i64 f, .int .u64 q, .int .u64 t, .string d]] w (StepT w O B (.int .i64 (appV s ⟨1, f, q, t, d⟩).2) (appV s ⟨1, f, q, t, d⟩).1) := by
  have HO := Lib.hid hO
  clear hO
  have HE : Hid (appV s ⟨1, f, q, t, d⟩ = sentV s ⟨1, f, q, t, d⟩) := Lib.hid (by unfold appV; rw [if_neg (not_not_intro (hok.ok))]; rfl)
  have HOK := Lib.hid hok
  have HH := Lib.hid (And.intro h (And.intro hs hn))
  obtain ⟨w0, hw0⟩ : ∃ z, z = w.alloc (.cells #[.int .i64 1, .int .i64 f, .int .u64 q, .int .u64 t, .string d] 46) := ⟨_, rfl⟩
  have H0 : Hid (Below w.heap.size w w0 ∧ TbP w0 O B s ∧ w0.heap[w.heap.size]? = some (.cells #[.int .i64 1, .int .i64 f, .int .u64 q, .int .u64 t, .string d] 46 (0, 0))) := Lib.hid (by
    have hb := Kq.below_alloc w (.cells #[.int .i64 1, .int .i64 f, .int .u64 q, .int .u64 t, .string d] 46)
    have hr := Kq.blk_new w #[.int .i64 1, .int .i64 f, .int .u64 q, .int .u64 t, .string d] 46 (0, 0)
    rw [← hw0] at hb hr
    exact ⟨hb, h.below hb, hr⟩)
  clear h hs hn hok
  have c0 := Kq.blk_cell H0.out.2.2 0
  have c1 := Kq.blk_cell H0.out.2.2 1
  have c2 := Kq.blk_cell H0.out.2.2 2
  have c3 := Kq.blk_cell H0.out.2.2 3
  have c4 := Kq.blk_cell H0.out.2.2 4
  go_enter Tryz.func36, Tryz.ntmps36
  go_wp2_with fail
  rw [← hw0]
  clear hw0
  refine (nt_check_ok 1 f q t d w0 HOK.out).mono ?_
  rintro x w1 ⟨rfl, b1⟩
  have H1 : Hid (Below w.heap.size w w1.drew ∧ TbP w1.drew O B s ∧ w1.drew.heap[w.heap.size]? = some (.cells #[.int .i64 1, .int .i64 f, .int .u64 q, .int .u64 t, .string d] 46 (0, 0))) := Lib.hid ⟨(H0.out.1.trans (b1.mono H0.out.1.size)).drew, (H0.out.2.1.below b1).below (Below.refl _ _).drew, Kq.below_blk b1 H0.out.2.2 (Kq.blk_lt H0.out.2.2)⟩
  clear b1 H0 c0 c1 c2 c3 c4
  go_wp2
  refine wp_region_held_drew (S := fun w' => NtB w' w.heap.size 1 f q t d) (by kernel_rfl) (NtB.of H1.out.2.2) (fun hS0 => ?_)
  obtain ⟨wd, hwd⟩ : ∃ z, z = w1.drew := ⟨_, rfl⟩
  rw [← hwd] at hS0 H1 ⊢
  clear hwd
  unfold NtB at hS0
  dsimp only [NtB] at hS0 ⊢
  refine wpAnyH_take (i := 1) (v := ?_) rfl (by kernel_rfl) (by kernel_rfl) (by kernel_rfl) (fun _ _ _ h => h) (Or.inl ⟨by kernel_rfl, ?_⟩) (by assumption) ?_
  rotate_left
  · intro w hSw; (try dsimp only at hSw); go_simp; (try with_reducible rfl)
  refine wpAnyH_take (i := 2) (v := ?_) rfl (by kernel_rfl) (by kernel_rfl) (by kernel_rfl) (fun _ _ _ h => h) (Or.inl ⟨by kernel_rfl, ?_⟩) (by assumption) ?_
  rotate_left
  · intro w hSw; (try dsimp only at hSw); go_simp; (try with_reducible rfl)
  refine wpAnyH_take (i := 4) (v := ?_) rfl (by kernel_rfl) (by kernel_rfl) (by kernel_rfl) (fun _ _ _ h => h) (Or.inl ⟨by kernel_rfl, ?_⟩) (by assumption) ?_
  rotate_left
  · intro w hSw; (try dsimp only at hSw); go_simp; (try with_reducible rfl)
  refine wpAnyH_take (i := 5) (v := ?_) rfl (by kernel_rfl) (by kernel_rfl) (by kernel_rfl) (fun _ _ _ h => h) (Or.inl ⟨by kernel_rfl, ?_⟩) (by assumption) ?_
  rotate_left
  · intro w hSw; (try dsimp only at hSw); go_simp; (try with_reducible rfl)
  refine wpAnyH_take (i := 6) (v := ?_) rfl (by kernel_rfl) (by kernel_rfl) (by kernel_rfl) (fun _ _ _ h => h) (Or.inl ⟨by kernel_rfl, ?_⟩) (by assumption) ?_
  rotate_left
  · intro w hSw; (try dsimp only at hSw); go_simp; (try with_reducible rfl)
  refine wpAnyH_ready (rs := [0]) (by kernel_rfl) (by simp) ?_
  refine AllReadyH.cons rfl (fun K hK => ?_) AllReadyH.nil
  go_simp
  refine (tb_ways wd).mono ?_
  rintro x w2 ⟨rfl, b2⟩
  have H2 : Hid (Below w.heap.size w w2 ∧ TbP w2 O B s ∧ w2.heap[w.heap.size]? = some (.cells #[.int .i64 1, .int .i64 f, .int .u64 q, .int .u64 t, .string d] 46 (0, 0))) := Lib.hid ⟨H1.out.1.trans (b2.mono H1.out.1.size), H1.out.2.1.below b2, Kq.below_blk b2 H1.out.2.2 (Kq.blk_lt H1.out.2.2)⟩
  clear b2 H1 hS0
  refine hK.out _ _ (NtB.of H2.out.2.2) (fun hS0 => ?_)
  clear hK K
  have hix := ix1
  unfold waysC at hix ⊢
  refine wpAnyH_take (i := 3) (v := ?_) rfl (by kernel_rfl) (by kernel_rfl) (by kernel_rfl) (fun _ _ _ h => h) (Or.inl ⟨by kernel_rfl, ?_⟩) (by assumption) ?_
  rotate_left
  · intro w hSw; (try dsimp only at hSw); go_simp; (try with_reducible rfl)
  refine wpAnyH_ready (rs := [7]) (by kernel_rfl) (by simp) ?_
  refine AllReadyH.cons rfl (fun K hK => ?_) AllReadyH.nil
  go_simp
  refine (tb_sent w2 O B s ⟨1, f, q, t, d⟩ HH.out.2.2 H2.out.2.1 HH.out.2.1).mono ?_
  intro x w3 hx
  have HX := Lib.hid (StepT.from H2.out.1 hx)
  have HB3 : Hid (w3.heap[w.heap.size]? = some (.cells #[.int .i64 1, .int .i64 f, .int .u64 q, .int .u64 t, .string d] 46 (0, 0))) := Lib.hid (hx.2.2.blk H2.out.2.2 (fun ho => (by have := HO.out _ ho; omega)))
  obtain ⟨rfl, -, -⟩ := hx
  refine hK.out _ _ (NtB.of HB3.out) (fun hS1 => ?_)
  clear hK K hS0
  refine wpAnyH_take (i := 8) (v := ?_) rfl (by kernel_rfl) (by kernel_rfl) (by kernel_rfl) (fun _ _ _ h => h) (Or.inl ⟨by kernel_rfl, ?_⟩) (by assumption) ?_
  rotate_left
  · intro w hSw; (try dsimp only at hSw); go_simp; (try with_reducible rfl)
  refine wpAnyH_done (by kernel_rfl) ?_ _
  clear hS1
  go_simp
  go_wp2
  go_ret
  rw [HE.out]
  exact HX.out
set_option maxRecDepth 100000 in
set_option maxHeartbeats 2000000 in
theorem tb_app2 (f q t : Int) (d : ByteArray) (hok : NtOk 2 f q t d) (hn : nmW (f, q)) (h : TbP w O B s) (hs : TbOk s) (hO : ∀ k, O k → k < w.heap.size) : Calls Tryz.prog 36 #[.pointer (some ⟨B, 0, none⟩), .agg #[.int .i64 2, .int .i64 f, .int .u64 q, .int .u64 t, .string d]] w (StepT w O B (.int .i64 (appV s ⟨2, f, q, t, d⟩).2) (appV s ⟨2, f, q, t, d⟩).1) := by
  have HO := Lib.hid hO
  clear hO
  have HE : Hid (appV s ⟨2, f, q, t, d⟩ = recvV s ⟨2, f, q, t, d⟩) := Lib.hid (by unfold appV; rw [if_neg (not_not_intro (hok.ok))]; rfl)
  have HOK := Lib.hid hok
  have HH := Lib.hid (And.intro h (And.intro hs hn))
  obtain ⟨w0, hw0⟩ : ∃ z, z = w.alloc (.cells #[.int .i64 2, .int .i64 f, .int .u64 q, .int .u64 t, .string d] 46) := ⟨_, rfl⟩
  have H0 : Hid (Below w.heap.size w w0 ∧ TbP w0 O B s ∧ w0.heap[w.heap.size]? = some (.cells #[.int .i64 2, .int .i64 f, .int .u64 q, .int .u64 t, .string d] 46 (0, 0))) := Lib.hid (by
    have hb := Kq.below_alloc w (.cells #[.int .i64 2, .int .i64 f, .int .u64 q, .int .u64 t, .string d] 46)
    have hr := Kq.blk_new w #[.int .i64 2, .int .i64 f, .int .u64 q, .int .u64 t, .string d] 46 (0, 0)
    rw [← hw0] at hb hr
    exact ⟨hb, h.below hb, hr⟩)
  clear h hs hn hok
  have c0 := Kq.blk_cell H0.out.2.2 0
  have c1 := Kq.blk_cell H0.out.2.2 1
  have c2 := Kq.blk_cell H0.out.2.2 2
  have c3 := Kq.blk_cell H0.out.2.2 3
  have c4 := Kq.blk_cell H0.out.2.2 4
  go_enter Tryz.func36, Tryz.ntmps36
  go_wp2_with fail
  rw [← hw0]
  clear hw0
  refine (nt_check_ok 2 f q t d w0 HOK.out).mono ?_
  rintro x w1 ⟨rfl, b1⟩
  have H1 : Hid (Below w.heap.size w w1.drew ∧ TbP w1.drew O B s ∧ w1.drew.heap[w.heap.size]? = some (.cells #[.int .i64 2, .int .i64 f, .int .u64 q, .int .u64 t, .string d] 46 (0, 0))) := Lib.hid ⟨(H0.out.1.trans (b1.mono H0.out.1.size)).drew, (H0.out.2.1.below b1).below (Below.refl _ _).drew, Kq.below_blk b1 H0.out.2.2 (Kq.blk_lt H0.out.2.2)⟩
  clear b1 H0 c0 c1 c2 c3 c4
  go_wp2
  refine wp_region_held_drew (S := fun w' => NtB w' w.heap.size 2 f q t d) (by kernel_rfl) (NtB.of H1.out.2.2) (fun hS0 => ?_)
  obtain ⟨wd, hwd⟩ : ∃ z, z = w1.drew := ⟨_, rfl⟩
  rw [← hwd] at hS0 H1 ⊢
  clear hwd
  unfold NtB at hS0
  dsimp only [NtB] at hS0 ⊢
  refine wpAnyH_take (i := 1) (v := ?_) rfl (by kernel_rfl) (by kernel_rfl) (by kernel_rfl) (fun _ _ _ h => h) (Or.inl ⟨by kernel_rfl, ?_⟩) (by assumption) ?_
  rotate_left
  · intro w hSw; (try dsimp only at hSw); go_simp; (try with_reducible rfl)
  refine wpAnyH_take (i := 2) (v := ?_) rfl (by kernel_rfl) (by kernel_rfl) (by kernel_rfl) (fun _ _ _ h => h) (Or.inl ⟨by kernel_rfl, ?_⟩) (by assumption) ?_
  rotate_left
  · intro w hSw; (try dsimp only at hSw); go_simp; (try with_reducible rfl)
  refine wpAnyH_take (i := 4) (v := ?_) rfl (by kernel_rfl) (by kernel_rfl) (by kernel_rfl) (fun _ _ _ h => h) (Or.inl ⟨by kernel_rfl, ?_⟩) (by assumption) ?_
  rotate_left
  · intro w hSw; (try dsimp only at hSw); go_simp; (try with_reducible rfl)
  refine wpAnyH_take (i := 5) (v := ?_) rfl (by kernel_rfl) (by kernel_rfl) (by kernel_rfl) (fun _ _ _ h => h) (Or.inl ⟨by kernel_rfl, ?_⟩) (by assumption) ?_
  rotate_left
  · intro w hSw; (try dsimp only at hSw); go_simp; (try with_reducible rfl)
  refine wpAnyH_take (i := 6) (v := ?_) rfl (by kernel_rfl) (by kernel_rfl) (by kernel_rfl) (fun _ _ _ h => h) (Or.inl ⟨by kernel_rfl, ?_⟩) (by assumption) ?_
  rotate_left
  · intro w hSw; (try dsimp only at hSw); go_simp; (try with_reducible rfl)
  refine wpAnyH_ready (rs := [0]) (by kernel_rfl) (by simp) ?_
  refine AllReadyH.cons rfl (fun K hK => ?_) AllReadyH.nil
  go_simp
  refine (tb_ways wd).mono ?_
  rintro x w2 ⟨rfl, b2⟩
  have H2 : Hid (Below w.heap.size w w2 ∧ TbP w2 O B s ∧ w2.heap[w.heap.size]? = some (.cells #[.int .i64 2, .int .i64 f, .int .u64 q, .int .u64 t, .string d] 46 (0, 0))) := Lib.hid ⟨H1.out.1.trans (b2.mono H1.out.1.size), H1.out.2.1.below b2, Kq.below_blk b2 H1.out.2.2 (Kq.blk_lt H1.out.2.2)⟩
  clear b2 H1 hS0
  refine hK.out _ _ (NtB.of H2.out.2.2) (fun hS0 => ?_)
  clear hK K
  have hix := ix2
  unfold waysC at hix ⊢
  refine wpAnyH_take (i := 3) (v := ?_) rfl (by kernel_rfl) (by kernel_rfl) (by kernel_rfl) (fun _ _ _ h => h) (Or.inl ⟨by kernel_rfl, ?_⟩) (by assumption) ?_
  rotate_left
  · intro w hSw; (try dsimp only at hSw); go_simp; (try with_reducible rfl)
  refine wpAnyH_ready (rs := [7]) (by kernel_rfl) (by simp) ?_
  refine AllReadyH.cons rfl (fun K hK => ?_) AllReadyH.nil
  go_simp
  refine (tb_recv w2 O B s ⟨2, f, q, t, d⟩ HH.out.2.2 H2.out.2.1 HH.out.2.1).mono ?_
  intro x w3 hx
  have HX := Lib.hid (StepT.from H2.out.1 hx)
  have HB3 : Hid (w3.heap[w.heap.size]? = some (.cells #[.int .i64 2, .int .i64 f, .int .u64 q, .int .u64 t, .string d] 46 (0, 0))) := Lib.hid (hx.2.2.blk H2.out.2.2 (fun ho => (by have := HO.out _ ho; omega)))
  obtain ⟨rfl, -, -⟩ := hx
  refine hK.out _ _ (NtB.of HB3.out) (fun hS1 => ?_)
  clear hK K hS0
  refine wpAnyH_take (i := 8) (v := ?_) rfl (by kernel_rfl) (by kernel_rfl) (by kernel_rfl) (fun _ _ _ h => h) (Or.inl ⟨by kernel_rfl, ?_⟩) (by assumption) ?_
  rotate_left
  · intro w hSw; (try dsimp only at hSw); go_simp; (try with_reducible rfl)
  refine wpAnyH_done (by kernel_rfl) ?_ _
  clear hS1
  go_simp
  go_wp2
  go_ret
  rw [HE.out]
  exact HX.out
set_option maxRecDepth 100000 in
set_option maxHeartbeats 2000000 in
theorem tb_app3 (f q t : Int) (d : ByteArray) (hok : NtOk 3 f q t d) (hn : nmW (f, q)) (h : TbP w O B s) (hs : TbOk s) (hO : ∀ k, O k → k < w.heap.size) : Calls Tryz.prog 36 #[.pointer (some ⟨B, 0, none⟩), .agg #[.int .i64 3, .int .i64 f, .int .u64 q, .int .u64 t, .string d]] w (StepT w O B (.int .i64 (appV s ⟨3, f, q, t, d⟩).2) (appV s ⟨3, f, q, t, d⟩).1) := by
  have HO := Lib.hid hO
  clear hO
  have HE : Hid (appV s ⟨3, f, q, t, d⟩ = overV s ⟨3, f, q, t, d⟩) := Lib.hid (by unfold appV; rw [if_neg (not_not_intro (hok.ok))]; rfl)
  have HOK := Lib.hid hok
  have HH := Lib.hid (And.intro h (And.intro hs hn))
  obtain ⟨w0, hw0⟩ : ∃ z, z = w.alloc (.cells #[.int .i64 3, .int .i64 f, .int .u64 q, .int .u64 t, .string d] 46) := ⟨_, rfl⟩
  have H0 : Hid (Below w.heap.size w w0 ∧ TbP w0 O B s ∧ w0.heap[w.heap.size]? = some (.cells #[.int .i64 3, .int .i64 f, .int .u64 q, .int .u64 t, .string d] 46 (0, 0))) := Lib.hid (by
    have hb := Kq.below_alloc w (.cells #[.int .i64 3, .int .i64 f, .int .u64 q, .int .u64 t, .string d] 46)
    have hr := Kq.blk_new w #[.int .i64 3, .int .i64 f, .int .u64 q, .int .u64 t, .string d] 46 (0, 0)
    rw [← hw0] at hb hr
    exact ⟨hb, h.below hb, hr⟩)
  clear h hs hn hok
  have c0 := Kq.blk_cell H0.out.2.2 0
  have c1 := Kq.blk_cell H0.out.2.2 1
  have c2 := Kq.blk_cell H0.out.2.2 2
  have c3 := Kq.blk_cell H0.out.2.2 3
  have c4 := Kq.blk_cell H0.out.2.2 4
  go_enter Tryz.func36, Tryz.ntmps36
  go_wp2_with fail
  rw [← hw0]
  clear hw0
  refine (nt_check_ok 3 f q t d w0 HOK.out).mono ?_
  rintro x w1 ⟨rfl, b1⟩
  have H1 : Hid (Below w.heap.size w w1.drew ∧ TbP w1.drew O B s ∧ w1.drew.heap[w.heap.size]? = some (.cells #[.int .i64 3, .int .i64 f, .int .u64 q, .int .u64 t, .string d] 46 (0, 0))) := Lib.hid ⟨(H0.out.1.trans (b1.mono H0.out.1.size)).drew, (H0.out.2.1.below b1).below (Below.refl _ _).drew, Kq.below_blk b1 H0.out.2.2 (Kq.blk_lt H0.out.2.2)⟩
  clear b1 H0 c0 c1 c2 c3 c4
  go_wp2
  refine wp_region_held_drew (S := fun w' => NtB w' w.heap.size 3 f q t d) (by kernel_rfl) (NtB.of H1.out.2.2) (fun hS0 => ?_)
  obtain ⟨wd, hwd⟩ : ∃ z, z = w1.drew := ⟨_, rfl⟩
  rw [← hwd] at hS0 H1 ⊢
  clear hwd
  unfold NtB at hS0
  dsimp only [NtB] at hS0 ⊢
  refine wpAnyH_take (i := 1) (v := ?_) rfl (by kernel_rfl) (by kernel_rfl) (by kernel_rfl) (fun _ _ _ h => h) (Or.inl ⟨by kernel_rfl, ?_⟩) (by assumption) ?_
  rotate_left
  · intro w hSw; (try dsimp only at hSw); go_simp; (try with_reducible rfl)
  refine wpAnyH_take (i := 2) (v := ?_) rfl (by kernel_rfl) (by kernel_rfl) (by kernel_rfl) (fun _ _ _ h => h) (Or.inl ⟨by kernel_rfl, ?_⟩) (by assumption) ?_
  rotate_left
  · intro w hSw; (try dsimp only at hSw); go_simp; (try with_reducible rfl)
  refine wpAnyH_take (i := 4) (v := ?_) rfl (by kernel_rfl) (by kernel_rfl) (by kernel_rfl) (fun _ _ _ h => h) (Or.inl ⟨by kernel_rfl, ?_⟩) (by assumption) ?_
  rotate_left
  · intro w hSw; (try dsimp only at hSw); go_simp; (try with_reducible rfl)
  refine wpAnyH_take (i := 5) (v := ?_) rfl (by kernel_rfl) (by kernel_rfl) (by kernel_rfl) (fun _ _ _ h => h) (Or.inl ⟨by kernel_rfl, ?_⟩) (by assumption) ?_
  rotate_left
  · intro w hSw; (try dsimp only at hSw); go_simp; (try with_reducible rfl)
  refine wpAnyH_take (i := 6) (v := ?_) rfl (by kernel_rfl) (by kernel_rfl) (by kernel_rfl) (fun _ _ _ h => h) (Or.inl ⟨by kernel_rfl, ?_⟩) (by assumption) ?_
  rotate_left
  · intro w hSw; (try dsimp only at hSw); go_simp; (try with_reducible rfl)
  refine wpAnyH_ready (rs := [0]) (by kernel_rfl) (by simp) ?_
  refine AllReadyH.cons rfl (fun K hK => ?_) AllReadyH.nil
  go_simp
  refine (tb_ways wd).mono ?_
  rintro x w2 ⟨rfl, b2⟩
  have H2 : Hid (Below w.heap.size w w2 ∧ TbP w2 O B s ∧ w2.heap[w.heap.size]? = some (.cells #[.int .i64 3, .int .i64 f, .int .u64 q, .int .u64 t, .string d] 46 (0, 0))) := Lib.hid ⟨H1.out.1.trans (b2.mono H1.out.1.size), H1.out.2.1.below b2, Kq.below_blk b2 H1.out.2.2 (Kq.blk_lt H1.out.2.2)⟩
  clear b2 H1 hS0
  refine hK.out _ _ (NtB.of H2.out.2.2) (fun hS0 => ?_)
  clear hK K
  have hix := ix3
  unfold waysC at hix ⊢
  refine wpAnyH_take (i := 3) (v := ?_) rfl (by kernel_rfl) (by kernel_rfl) (by kernel_rfl) (fun _ _ _ h => h) (Or.inl ⟨by kernel_rfl, ?_⟩) (by assumption) ?_
  rotate_left
  · intro w hSw; (try dsimp only at hSw); go_simp; (try with_reducible rfl)
  refine wpAnyH_ready (rs := [7]) (by kernel_rfl) (by simp) ?_
  refine AllReadyH.cons rfl (fun K hK => ?_) AllReadyH.nil
  go_simp
  refine (tb_over w2 O B s ⟨3, f, q, t, d⟩ HH.out.2.2 H2.out.2.1 HH.out.2.1).mono ?_
  intro x w3 hx
  have HX := Lib.hid (StepT.from H2.out.1 hx)
  have HB3 : Hid (w3.heap[w.heap.size]? = some (.cells #[.int .i64 3, .int .i64 f, .int .u64 q, .int .u64 t, .string d] 46 (0, 0))) := Lib.hid (hx.2.2.blk H2.out.2.2 (fun ho => (by have := HO.out _ ho; omega)))
  obtain ⟨rfl, -, -⟩ := hx
  refine hK.out _ _ (NtB.of HB3.out) (fun hS1 => ?_)
  clear hK K hS0
  refine wpAnyH_take (i := 8) (v := ?_) rfl (by kernel_rfl) (by kernel_rfl) (by kernel_rfl) (fun _ _ _ h => h) (Or.inl ⟨by kernel_rfl, ?_⟩) (by assumption) ?_
  rotate_left
  · intro w hSw; (try dsimp only at hSw); go_simp; (try with_reducible rfl)
  refine wpAnyH_done (by kernel_rfl) ?_ _
  clear hS1
  go_simp
  go_wp2
  go_ret
  rw [HE.out]
  exact HX.out
set_option maxRecDepth 100000 in
set_option maxHeartbeats 2000000 in
theorem tb_app4 (f q t : Int) (d : ByteArray) (hok : NtOk 4 f q t d) (hn : nmW (f, q)) (h : TbP w O B s) (hs : TbOk s) (hO : ∀ k, O k → k < w.heap.size) : Calls Tryz.prog 36 #[.pointer (some ⟨B, 0, none⟩), .agg #[.int .i64 4, .int .i64 f, .int .u64 q, .int .u64 t, .string d]] w (StepT w O B (.int .i64 (appV s ⟨4, f, q, t, d⟩).2) (appV s ⟨4, f, q, t, d⟩).1) := by
  have HO := Lib.hid hO
  clear hO
  have HE : Hid (appV s ⟨4, f, q, t, d⟩ = overV s ⟨4, f, q, t, d⟩) := Lib.hid (by unfold appV; rw [if_neg (not_not_intro (hok.ok))]; rfl)
  have HOK := Lib.hid hok
  have HH := Lib.hid (And.intro h (And.intro hs hn))
  obtain ⟨w0, hw0⟩ : ∃ z, z = w.alloc (.cells #[.int .i64 4, .int .i64 f, .int .u64 q, .int .u64 t, .string d] 46) := ⟨_, rfl⟩
  have H0 : Hid (Below w.heap.size w w0 ∧ TbP w0 O B s ∧ w0.heap[w.heap.size]? = some (.cells #[.int .i64 4, .int .i64 f, .int .u64 q, .int .u64 t, .string d] 46 (0, 0))) := Lib.hid (by
    have hb := Kq.below_alloc w (.cells #[.int .i64 4, .int .i64 f, .int .u64 q, .int .u64 t, .string d] 46)
    have hr := Kq.blk_new w #[.int .i64 4, .int .i64 f, .int .u64 q, .int .u64 t, .string d] 46 (0, 0)
    rw [← hw0] at hb hr
    exact ⟨hb, h.below hb, hr⟩)
  clear h hs hn hok
  have c0 := Kq.blk_cell H0.out.2.2 0
  have c1 := Kq.blk_cell H0.out.2.2 1
  have c2 := Kq.blk_cell H0.out.2.2 2
  have c3 := Kq.blk_cell H0.out.2.2 3
  have c4 := Kq.blk_cell H0.out.2.2 4
  go_enter Tryz.func36, Tryz.ntmps36
  go_wp2_with fail
  rw [← hw0]
  clear hw0
  refine (nt_check_ok 4 f q t d w0 HOK.out).mono ?_
  rintro x w1 ⟨rfl, b1⟩
  have H1 : Hid (Below w.heap.size w w1.drew ∧ TbP w1.drew O B s ∧ w1.drew.heap[w.heap.size]? = some (.cells #[.int .i64 4, .int .i64 f, .int .u64 q, .int .u64 t, .string d] 46 (0, 0))) := Lib.hid ⟨(H0.out.1.trans (b1.mono H0.out.1.size)).drew, (H0.out.2.1.below b1).below (Below.refl _ _).drew, Kq.below_blk b1 H0.out.2.2 (Kq.blk_lt H0.out.2.2)⟩
  clear b1 H0 c0 c1 c2 c3 c4
  go_wp2
  refine wp_region_held_drew (S := fun w' => NtB w' w.heap.size 4 f q t d) (by kernel_rfl) (NtB.of H1.out.2.2) (fun hS0 => ?_)
  obtain ⟨wd, hwd⟩ : ∃ z, z = w1.drew := ⟨_, rfl⟩
  rw [← hwd] at hS0 H1 ⊢
  clear hwd
  unfold NtB at hS0
  dsimp only [NtB] at hS0 ⊢
  refine wpAnyH_take (i := 1) (v := ?_) rfl (by kernel_rfl) (by kernel_rfl) (by kernel_rfl) (fun _ _ _ h => h) (Or.inl ⟨by kernel_rfl, ?_⟩) (by assumption) ?_
  rotate_left
  · intro w hSw; (try dsimp only at hSw); go_simp; (try with_reducible rfl)
  refine wpAnyH_take (i := 2) (v := ?_) rfl (by kernel_rfl) (by kernel_rfl) (by kernel_rfl) (fun _ _ _ h => h) (Or.inl ⟨by kernel_rfl, ?_⟩) (by assumption) ?_
  rotate_left
  · intro w hSw; (try dsimp only at hSw); go_simp; (try with_reducible rfl)
  refine wpAnyH_take (i := 4) (v := ?_) rfl (by kernel_rfl) (by kernel_rfl) (by kernel_rfl) (fun _ _ _ h => h) (Or.inl ⟨by kernel_rfl, ?_⟩) (by assumption) ?_
  rotate_left
  · intro w hSw; (try dsimp only at hSw); go_simp; (try with_reducible rfl)
  refine wpAnyH_take (i := 5) (v := ?_) rfl (by kernel_rfl) (by kernel_rfl) (by kernel_rfl) (fun _ _ _ h => h) (Or.inl ⟨by kernel_rfl, ?_⟩) (by assumption) ?_
  rotate_left
  · intro w hSw; (try dsimp only at hSw); go_simp; (try with_reducible rfl)
  refine wpAnyH_take (i := 6) (v := ?_) rfl (by kernel_rfl) (by kernel_rfl) (by kernel_rfl) (fun _ _ _ h => h) (Or.inl ⟨by kernel_rfl, ?_⟩) (by assumption) ?_
  rotate_left
  · intro w hSw; (try dsimp only at hSw); go_simp; (try with_reducible rfl)
  refine wpAnyH_ready (rs := [0]) (by kernel_rfl) (by simp) ?_
  refine AllReadyH.cons rfl (fun K hK => ?_) AllReadyH.nil
  go_simp
  refine (tb_ways wd).mono ?_
  rintro x w2 ⟨rfl, b2⟩
  have H2 : Hid (Below w.heap.size w w2 ∧ TbP w2 O B s ∧ w2.heap[w.heap.size]? = some (.cells #[.int .i64 4, .int .i64 f, .int .u64 q, .int .u64 t, .string d] 46 (0, 0))) := Lib.hid ⟨H1.out.1.trans (b2.mono H1.out.1.size), H1.out.2.1.below b2, Kq.below_blk b2 H1.out.2.2 (Kq.blk_lt H1.out.2.2)⟩
  clear b2 H1 hS0
  refine hK.out _ _ (NtB.of H2.out.2.2) (fun hS0 => ?_)
  clear hK K
  have hix := ix4
  unfold waysC at hix ⊢
  refine wpAnyH_take (i := 3) (v := ?_) rfl (by kernel_rfl) (by kernel_rfl) (by kernel_rfl) (fun _ _ _ h => h) (Or.inl ⟨by kernel_rfl, ?_⟩) (by assumption) ?_
  rotate_left
  · intro w hSw; (try dsimp only at hSw); go_simp; (try with_reducible rfl)
  refine wpAnyH_ready (rs := [7]) (by kernel_rfl) (by simp) ?_
  refine AllReadyH.cons rfl (fun K hK => ?_) AllReadyH.nil
  go_simp
  refine (tb_over w2 O B s ⟨4, f, q, t, d⟩ HH.out.2.2 H2.out.2.1 HH.out.2.1).mono ?_
  intro x w3 hx
  have HX := Lib.hid (StepT.from H2.out.1 hx)
  have HB3 : Hid (w3.heap[w.heap.size]? = some (.cells #[.int .i64 4, .int .i64 f, .int .u64 q, .int .u64 t, .string d] 46 (0, 0))) := Lib.hid (hx.2.2.blk H2.out.2.2 (fun ho => (by have := HO.out _ ho; omega)))
  obtain ⟨rfl, -, -⟩ := hx
  refine hK.out _ _ (NtB.of HB3.out) (fun hS1 => ?_)
  clear hK K hS0
  refine wpAnyH_take (i := 8) (v := ?_) rfl (by kernel_rfl) (by kernel_rfl) (by kernel_rfl) (fun _ _ _ h => h) (Or.inl ⟨by kernel_rfl, ?_⟩) (by assumption) ?_
  rotate_left
  · intro w hSw; (try dsimp only at hSw); go_simp; (try with_reducible rfl)
  refine wpAnyH_done (by kernel_rfl) ?_ _
  clear hS1
  go_simp
  go_wp2
  go_ret
  rw [HE.out]
  exact HX.out
set_option maxRecDepth 100000 in
set_option maxHeartbeats 2000000 in
theorem tb_appX (n : NtV) (hno : ¬ NtOk n.k n.f n.q n.t n.d) (h : TbP w O B s) : Calls Tryz.prog 36 #[.pointer (some ⟨B, 0, none⟩), .agg #[.int .i64 n.k, .int .i64 n.f, .int .u64 n.q, .int .u64 n.t, .string n.d]] w (StepT w O B (.int .i64 (appV s n).2) (appV s n).1) := by
  obtain ⟨k, f, q, t, d⟩ := n
  have HE : Hid (appV s ⟨k, f, q, t, d⟩ = (s, 1)) := Lib.hid (by
    unfold appV
    rw [if_pos]
    rintro ⟨h1, h2⟩
    refine hno ?_
    have h1 : k ∈ [1, 2, 3, 4] := h1
    simp only [List.mem_cons, List.not_mem_nil, or_false] at h1
    exact ⟨by show 1 ≤ k; omega, by show k ≤ 4; omega, h2⟩)
  have HN := Lib.hid hno
  have HH := Lib.hid h
  obtain ⟨w0, hw0⟩ : ∃ z, z = w.alloc (.cells #[.int .i64 k, .int .i64 f, .int .u64 q, .int .u64 t, .string d] 46) := ⟨_, rfl⟩
  have H0 : Hid (Below w.heap.size w w0 ∧ w0.heap[w.heap.size]? = some (.cells #[.int .i64 k, .int .i64 f, .int .u64 q, .int .u64 t, .string d] 46 (0, 0))) := Lib.hid (by
    have hb := Kq.below_alloc w (.cells #[.int .i64 k, .int .i64 f, .int .u64 q, .int .u64 t, .string d] 46)
    have hr := Kq.blk_new w #[.int .i64 k, .int .i64 f, .int .u64 q, .int .u64 t, .string d] 46 (0, 0)
    rw [← hw0] at hb hr
    exact ⟨hb, hr⟩)
  clear h hno
  have c0 := Kq.blk_cell H0.out.2 0
  have c1 := Kq.blk_cell H0.out.2 1
  have c2 := Kq.blk_cell H0.out.2 2
  have c3 := Kq.blk_cell H0.out.2 3
  have c4 := Kq.blk_cell H0.out.2 4
  go_enter Tryz.func36, Tryz.ntmps36
  go_wp2_with fail
  rw [← hw0]
  clear hw0
  refine (nt_check_bad k f q t d w0 HN.out).mono ?_
  rintro x w1 ⟨rfl, b1⟩
  have H1 := Lib.hid (H0.out.1.trans (b1.mono H0.out.1.size))
  clear b1 H0 c0 c1 c2 c3 c4
  go_wp2
  go_ret
  rw [HE.out]
  exact StepT.same HH.out H1.out rfl
theorem tb_apply (n : NtV) (hw : n.wf) (h : TbP w O B s) (hs : TbOk s) (hO : ∀ k, O k → k < w.heap.size) : Calls Tryz.prog 36 #[.pointer (some ⟨B, 0, none⟩), .agg #[.int .i64 n.k, .int .i64 n.f, .int .u64 n.q, .int .u64 n.t, .string n.d]] w (StepT w O B (.int .i64 (appV s n).2) (appV s n).1) := by
  by_cases hok : NtOk n.k n.f n.q n.t n.d
  · obtain ⟨k, f, q, t, d⟩ := n
    have hn : nmW (f, q) := nm_ok hok.2.2 hw
    have : k = 1 ∨ k = 2 ∨ k = 3 ∨ k = 4 := by have h1 : 1 ≤ k := hok.1; have h2 : k ≤ 4 := hok.2.1; omega
    rcases this with rfl | rfl | rfl | rfl
    · exact tb_app1 w O B s f q t d hok hn h hs hO
    · exact tb_app2 w O B s f q t d hok hn h hs hO
    · exact tb_app3 w O B s f q t d hok hn h hs hO
    · exact tb_app4 w O B s f q t d hok hn h hs hO
  · exact tb_appX w O B s n hok h
end
end Go.Proofs.YtkbiolhcpghmkaaGreat
