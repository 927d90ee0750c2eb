/- Contract of table's add. Condition: names that may be. -/
import Derived.WalkSpells
import Derived.Outline
import Derived.Deep.RegionHeld
import Derived.Deep.QuietTactic
import Derived.BigQuiet
import Derived.Test.YtmckpoeolfggmaaTbP
import Derived.Test.YtmckpoeolfggmaaHeldMono
namespace Go.Proofs.Ytmckpoeolfggmaa
open Go.RowKit Go.Maps Go.Kq
set_option linter.unusedVariables false
def AddB (w : World) (X B M : Nat) (n : NtV) : Prop := w.cell? ⟨X, 0, none⟩ = some (.int .i64 n.f) ∧ w.cell? ⟨X, 1, none⟩ = some (.int .u64 n.q) ∧ w.cell? ⟨X, 2, none⟩ = some (.int .u64 n.t) ∧ w.cell? ⟨X, 3, none⟩ = some (.string n.d) ∧ w.cell? ⟨X, 4, none⟩ = some (.int .i64 n.k) ∧ w.cell? ⟨B, 1, none⟩ = some (.map (some M))
theorem AddB.keeps {w w' : World} {X B M : Nat} {n : NtV} {S : Nat → Prop} (h : AddB w X B M n) (hk : Kq.Keeps S w w') (hX : X < w.heap.size) (hB : B < w.heap.size) (h1 : ¬ S X) (h2 : ¬ S B) : AddB w' X B M n := by
  obtain ⟨c0, c1, c2, c3, c4, c5⟩ := h
  have hx := hk.block X hX h1
  have hb := hk.block B hB h2
  exact ⟨by rw [World.cell?_of_block hx]; exact c0, by rw [World.cell?_of_block hx]; exact c1, by rw [World.cell?_of_block hx]; exact c2, by rw [World.cell?_of_block hx]; exact c3, by rw [World.cell?_of_block hx]; exact c4, by rw [World.cell?_of_block hb]; exact c5⟩
section
variable (w : World) (O : Nat → Prop) (B : Nat) (s : TbV)
set_option maxRecDepth 100000 in
set_option maxHeartbeats 2000000 in
theorem tb_add (n : NtV) (hn : nmW n.nm) (h : TbP w O B s) (hs : TbOk s) : Calls Try.prog 65 #[.pointer (some ⟨B, 0, none⟩), .agg #[.int .i64 n.f, .int .u64 n.q, .int .u64 n.t, .string n.d, .int .i64 n.k]] w (StepT w O B (.int .i64 (addV s n).2) (addV s n).1) := by
  obtain ⟨M, h⟩ := h
  have HH := Lib.hid (And.intro h (And.intro hs hn))
  obtain ⟨w0, hw0⟩ : ∃ z, z = w.alloc (.cells #[.int .i64 n.f, .int .u64 n.q, .int .u64 n.t, .string n.d, .int .i64 n.k] 48) := ⟨_, rfl⟩
  have H0 : Hid (Below w.heap.size w w0 ∧ TP w0 O B s M ∧ AddB w0 w.heap.size B M n ∧ w0.heap.size = w.heap.size + 1) := Lib.hid (by
    have hb := Kq.below_alloc w (.cells #[.int .i64 n.f, .int .u64 n.q, .int .u64 n.t, .string n.d, .int .i64 n.k] 48)
    have hr := Kq.blk_new w #[.int .i64 n.f, .int .u64 n.q, .int .u64 n.t, .string n.d, .int .i64 n.k] 48 (0, 0)
    rw [← hw0] at hb hr
    have ht := h.below hb
    exact ⟨hb, ht, ⟨Kq.blk_cell hr 0, Kq.blk_cell hr 1, Kq.blk_cell hr 2, Kq.blk_cell hr 3, Kq.blk_cell hr 4, ht.c1⟩, by rw [hw0]; simp⟩)
  have HQ : Hid (∀ m, Calls Try.prog 16 #[.pointer (some ⟨B, 0, none⟩)] (w0.drewN m) fun x w' => x = .returned (.int .i64 (s.l.length : Int)) ∧ ∃ k, w' = w0.drewN k) := Lib.hid (fun m => Calls.quiet_of ((tb_len (w0.drewN m) O B s ⟨M, H0.out.2.1.below (below_drewN (Below.refl _ _) _)⟩).mono fun _ _ hp => ⟨hp.1, 0, hp.2⟩))
  have c0 := H0.out.2.1.c0
  obtain ⟨r, hr⟩ : ∃ r, r = s.room := ⟨_, rfl⟩
  obtain ⟨m, hm⟩ : ∃ m, m = s.l.length := ⟨_, rfl⟩
  rw [← hm] at HQ
  rw [← hr] at c0
  have HRM := Lib.hid (And.intro hr hm)
  obtain ⟨k, f, q, t, d⟩ := n
  clear h hs hn hr hm
  by_cases hf : r ≤ m
  · have HE : Hid (addV s ⟨k, f, q, t, d⟩ = (s, 2)) := Lib.hid (by unfold addV; rw [if_pos (by rw [← HRM.out.1, ← HRM.out.2]; exact hf)])
    have e1 : decide ((r : Int) ≤ (m : Int)) = true := decide_eq_true (by omega)
    have e1' : decide (r ≤ m) = true := decide_eq_true hf
    clear hf
    go_enter Try.func65, Try.ntmps65
    go_wp2
    rw [← hw0]
    clear hw0
    go_quiet ((first | (go_at_call 16; exact HQ.out _)))
    generalize hwq : w0.drewN nq = wq
    have H1 : Hid (Below w.heap.size w wq) := Lib.hid (by rw [← hwq]; exact below_drewN H0.out.1 _)
    clear hwq nq HQ c0
    go_wp2
    go_ret
    rw [HE.out]
    exact StepT.same ⟨M, HH.out.1⟩ H1.out rfl
  · have HE : Hid (addV s ⟨k, f, q, t, d⟩ = (⟨s.room, tbR.ins s.l ⟨k, f, q, t, d⟩⟩, 0)) := Lib.hid (by unfold addV; rw [if_neg (by rw [← HRM.out.1, ← HRM.out.2]; exact hf)])
    have e1 : decide ((r : Int) ≤ (m : Int)) = false := decide_eq_false (by omega)
    have e1' : decide (r ≤ m) = false := decide_eq_false hf
    clear hf
    go_enter Try.func65, Try.ntmps65
    go_wp2
    rw [← hw0]
    clear hw0
    go_quiet ((first | (go_at_call 16; exact HQ.out _)))
    generalize hwq : w0.drewN nq = wq
    have H1 : Hid (Below w.heap.size w wq ∧ TP wq O B s M ∧ AddB wq w.heap.size B M ⟨k, f, q, t, d⟩ ∧ w.heap.size < wq.heap.size) := Lib.hid (by
      have hb := below_drewN (Below.refl w0.heap.size w0) nq
      rw [hwq] at hb
      have hz := H0.out.2.2.2
      have hz2 := hb.size
      exact ⟨H0.out.1.trans (hb.mono H0.out.1.size), H0.out.2.1.below hb, H0.out.2.2.1.keeps (keepsF (O := O) hb) (by omega) (by have := H0.out.2.1.lt; exact this) (fun h => h) (fun h => h), by omega⟩)
    clear hwq nq HQ c0 H0
    go_wp2
    refine wp_region_held_drew (S := fun w' => AddB w' w.heap.size B M ⟨k, f, q, t, d⟩) (by kernel_rfl) H1.out.2.2.1 (fun hS0 => ?_)
    obtain ⟨wd, hwd⟩ : ∃ z, z = wq.drew := ⟨_, rfl⟩
    rw [← hwd] at hS0 ⊢
    have HD : Hid (Below w.heap.size w wd ∧ TP wd O B s M ∧ AddB wd w.heap.size B M ⟨k, f, q, t, d⟩ ∧ w.heap.size < wd.heap.size) := Lib.hid (by rw [hwd]; exact ⟨H1.out.1.drew, H1.out.2.1.below (Below.refl _ _).drew, H1.out.2.2.1, H1.out.2.2.2⟩)
    clear hwd H1
    unfold AddB at hS0
    dsimp only [AddB] at hS0 ⊢
    refine wpAnyH_take (i := 0) (v := ?_) rfl (by kernel_rfl) (by kernel_rfl) (by kernel_rfl) (fun _ _ _ h => h) (Or.inl ⟨by kernel_rfl, ?_⟩) (by assumption) ?_
    rotate_left
    · intro w hSw; (try dsimp only at hSw); go_simp; (try with_reducible rfl)
    refine wpAnyH_take (i := 1) (v := ?_) rfl (by kernel_rfl) (by kernel_rfl) (by kernel_rfl) (fun _ _ _ h => h) (Or.inl ⟨by kernel_rfl, ?_⟩) (by assumption) ?_
    rotate_left
    · intro w hSw; (try dsimp only at hSw); go_simp; (try with_reducible rfl)
    refine wpAnyH_take (i := 2) (v := ?_) rfl (by kernel_rfl) (by kernel_rfl) (by kernel_rfl) (fun _ _ _ h => h) (Or.inl ⟨by kernel_rfl, ?_⟩) (by assumption) ?_
    rotate_left
    · intro w hSw; (try dsimp only at hSw); go_simp; (try with_reducible rfl)
    refine wpAnyH_take (i := 3) (v := ?_) rfl (by kernel_rfl) (by kernel_rfl) (by kernel_rfl) (fun _ _ _ h => h) (Or.inl ⟨by kernel_rfl, ?_⟩) (by assumption) ?_
    rotate_left
    · intro w hSw; (try dsimp only at hSw); go_simp; (try with_reducible rfl)
    refine wpAnyH_take (i := 4) (v := ?_) rfl (by kernel_rfl) (by kernel_rfl) (by kernel_rfl) (fun _ _ _ h => h) (Or.inl ⟨by kernel_rfl, ?_⟩) (by assumption) ?_
    rotate_left
    · intro w hSw; (try dsimp only at hSw); go_simp; (try with_reducible rfl)
    refine wpAnyH_take (i := 5) (v := ?_) rfl (by kernel_rfl) (by kernel_rfl) (by kernel_rfl) (fun _ _ _ h => h) (Or.inl ⟨by kernel_rfl, ?_⟩) (by assumption) ?_
    rotate_left
    · intro w hSw; (try dsimp only at hSw); go_simp; (try with_reducible rfl)
    refine wpAnyH_take (i := 7) (v := ?_) rfl (by kernel_rfl) (by kernel_rfl) (by kernel_rfl) (fun _ _ _ h => h) (Or.inl ⟨by kernel_rfl, ?_⟩) (by assumption) ?_
    rotate_left
    · intro w hSw; (try dsimp only at hSw); go_simp; (try with_reducible rfl)
    refine wpAnyH_ready (rs := [6]) (by kernel_rfl) (by simp) ?_
    refine AllReadyH.cons rfl (fun K hK => ?_) AllReadyH.nil
    go_simp
    refine (tb_name f q t d wd).mono ?_
    rintro x w2 ⟨rfl, b2⟩
    have H2 : Hid (Below w.heap.size w w2 ∧ TP w2 O B s M ∧ AddB w2 w.heap.size B M ⟨k, f, q, t, d⟩ ∧ w.heap.size < w2.heap.size) := Lib.hid ⟨HD.out.1.trans (b2.mono HD.out.1.size), HD.out.2.1.below b2, HD.out.2.2.1.keeps (keepsF (O := O) b2) HD.out.2.2.2 HD.out.2.1.lt (fun h => h) (fun h => h), Nat.lt_of_lt_of_le HD.out.2.2.2 b2.size⟩
    clear b2 HD hS0
    refine hK.out _ _ H2.out.2.2.1 (fun hS0 => ?_)
    clear hK K
    obtain ⟨w3, hrun, hm3, hk3⟩ := H2.out.2.1.map.put HH.out.2.1.sort (by have h1 := HH.out.2.1.len; have h2 := HH.out.2.1.r40; omega) ⟨k, f, q, t, d⟩ HH.out.2.2
    have hMX : M < w.heap.size := HH.out.1.map.lt
    have H3 : Hid (StepT w O B (.int .i64 0) ⟨s.room, tbR.ins s.l ⟨k, f, q, t, d⟩⟩ (.returned (.int .i64 0)) w3 ∧ AddB w3 w.heap.size B M ⟨k, f, q, t, d⟩) := Lib.hid (by
      refine ⟨⟨rfl, ⟨M, hk3.blk H2.out.2.1.blk (fun e => H2.out.2.1.ne e.symm), hm3, Or.inl HH.out.1.oB, Or.inl HH.out.1.oM⟩, ?_⟩, H2.out.2.2.1.keeps hk3 H2.out.2.2.2 H2.out.2.1.lt (fun e => by have e2 : w.heap.size = M := e; omega) (fun e => H2.out.2.1.ne e.symm)⟩
      exact (Kq.Keeps.of_below H2.out.1 (fun k h1 h2 => absurd h2 (Nat.not_lt.2 h1))).trans (hk3.mono (fun k _ e => by rw [show k = M from e]; exact HH.out.1.oM)))
    unfold itV at hrun
    simp only at hrun
    clear hm3 hk3 hMX hS0
    refine wpAnyH_ready (rs := [8]) (by kernel_rfl) (by simp) ?_
    refine AllReadyH.cons rfl (fun K hK => ?_) AllReadyH.nil
    go_simp
    refine hK.out _ _ H3.out.2 (fun hS0 => ?_)
    clear hK K
    refine wpAnyH_done (by kernel_rfl) ?_ _
    clear hS0
    go_simp
    go_wp2
    go_ret
    rw [HE.out]
    exact H3.out.1
end
end Go.Proofs.Ytmckpoeolfggmaa
