/- Merged: TbAdd, TbApp. Contract of table's add. Condition: names that may be. Contracts of table's sent, received, over, ways, Apply. Condition: names that may be. -/
import Derived.WalkSpells
import Derived.Outline
import Derived.Deep.RegionHeld
import Derived.Deep.QuietTactic
import Derived.BigQuiet
import Derived.Test.YtkbiolhcpghmkaaGreatTbPQ
import Derived.Test.YtkbiolhcpghmkaaGreatHeldLastQ
import Derived.Test.YtkbiolhcpghmkaaGreatRefValQ
namespace Go.Proofs.YtkbiolhcpghmkaaGreat
open Go.RowKit Go.Maps Go.Kq
set_option linter.unusedVariables false
def AddB (w : World) (X B M : Nat) (n : NtV) : Prop := w.cell? ⟨X, 0, none⟩ = some (.int .i64 n.f) ∧ w.cell? ⟨X, 1, none⟩ = some (.int .u64 n.q) ∧ w.cell? ⟨X, 2, none⟩ = some (.int .u64 n.t) ∧ w.cell? ⟨X, 3, none⟩ = some (.string n.d) ∧ w.cell? ⟨X, 4, none⟩ = some (.int .i64 n.k) ∧ w.cell? ⟨B, 1, none⟩ = some (.map (some M))
theorem AddB.keeps {w w' : World} {X B M : Nat} {n : NtV} {S : Nat → Prop} (h : AddB w X B M n) (hk : Kq.Keeps S w w') (hX : X < w.heap.size) (hB : B < w.heap.size) (h1 : ¬ S X) (h2 : ¬ S B) : AddB w' X B M n := by
  obtain ⟨c0, c1, c2, c3, c4, c5⟩ := h
  have hx := hk.block X hX h1
  have hb := hk.block B hB h2
  exact ⟨by rw [World.cell?_of_block hx]; exact c0, by rw [World.cell?_of_block hx]; exact c1, by rw [World.cell?_of_block hx]; exact c2, by rw [World.cell?_of_block hx]; exact c3, by rw [World.cell?_of_block hx]; exact c4, by rw [World.cell?_of_block hb]; exact c5⟩
section
variable (w : World) (O : Nat → Prop) (B : Nat) (s : TbV)
set_option maxRecDepth 100000 in
set_option maxHeartbeats 2000000 in
theorem tb_add (n : NtV) (hn : nmW n.nm) (h : TbP w O B s) (hs : TbOk s) : Calls Tryz.prog 102 #[.pointer (some ⟨B, 0, none⟩), .agg #[.int .i64 n.f, .int .u64 n.q, .int .u64 n.t, .string n.d, .int .i64 n.k]] w (StepT w O B (.int .i64 (addV s n).2) (addV s n).1) := by
  obtain ⟨M, h⟩ := h
  have HH := Lib.hid (And.intro h (And.intro hs hn))
  obtain ⟨w0, hw0⟩ : ∃ z, z = w.alloc (.cells #[.int .i64 n.f, .int .u64 n.q, .int .u64 n.t, .string n.d, .int .i64 n.k] 51) := ⟨_, rfl⟩
  have H0 : Hid (Below w.heap.size w w0 ∧ TP w0 O B s M ∧ AddB w0 w.heap.size B M n ∧ w0.heap.size = w.heap.size + 1) := Lib.hid (by
    have hb := Kq.below_alloc w (.cells #[.int .i64 n.f, .int .u64 n.q, .int .u64 n.t, .string n.d, .int .i64 n.k] 51)
    have hr := Kq.blk_new w #[.int .i64 n.f, .int .u64 n.q, .int .u64 n.t, .string n.d, .int .i64 n.k] 51 (0, 0)
    rw [← hw0] at hb hr
    have ht := h.below hb
    exact ⟨hb, ht, ⟨Kq.blk_cell hr 0, Kq.blk_cell hr 1, Kq.blk_cell hr 2, Kq.blk_cell hr 3, Kq.blk_cell hr 4, ht.c1⟩, by rw [hw0]; simp⟩)
  have HQ : Hid (∀ m, Calls Tryz.prog 35 #[.pointer (some ⟨B, 0, none⟩)] (w0.drewN m) fun x w' => x = .returned (.int .i64 (s.l.length : Int)) ∧ ∃ k, w' = w0.drewN k) := Lib.hid (fun m => Calls.quiet_of ((tb_len (w0.drewN m) O B s ⟨M, H0.out.2.1.below (below_drewN (Below.refl _ _) _)⟩).mono fun _ _ hp => ⟨hp.1, 0, hp.2⟩))
  have c0 := H0.out.2.1.c0
  obtain ⟨r, hr⟩ : ∃ r, r = s.room := ⟨_, rfl⟩
  obtain ⟨m, hm⟩ : ∃ m, m = s.l.length := ⟨_, rfl⟩
  rw [← hm] at HQ
  rw [← hr] at c0
  have HRM := Lib.hid (And.intro hr hm)
  obtain ⟨k, f, q, t, d⟩ := n
  clear h hs hn hr hm
  by_cases hf : r ≤ m
  · have HE : Hid (addV s ⟨k, f, q, t, d⟩ = (s, 2)) := Lib.hid (by unfold addV; rw [if_pos (by rw [← HRM.out.1, ← HRM.out.2]; exact hf)])
    have e1 : decide ((r : Int) ≤ (m : Int)) = true := decide_eq_true (by omega)
    have e1' : decide (r ≤ m) = true := decide_eq_true hf
    clear hf
    go_enter Tryz.func102, Tryz.ntmps102
    go_wp2
    rw [← hw0]
    clear hw0
    go_quiet ((first | (go_at_call 35; exact HQ.out _)))
    generalize hwq : w0.drewN nq = wq
    have H1 : Hid (Below w.heap.size w wq) := Lib.hid (by rw [← hwq]; exact below_drewN H0.out.1 _)
    clear hwq nq HQ c0
    go_wp2
    go_ret
    rw [HE.out]
    exact StepT.same ⟨M, HH.out.1⟩ H1.out rfl
  · have HE : Hid (addV s ⟨k, f, q, t, d⟩ = (⟨s.room, tbR.ins s.l ⟨k, f, q, t, d⟩⟩, 0)) := Lib.hid (by unfold addV; rw [if_neg (by rw [← HRM.out.1, ← HRM.out.2]; exact hf)])
    have e1 : decide ((r : Int) ≤ (m : Int)) = false := decide_eq_false (by omega)
    have e1' : decide (r ≤ m) = false := decide_eq_false hf
    clear hf
    go_enter Tryz.func102, Tryz.ntmps102
    go_wp2
    rw [← hw0]
    clear hw0
    go_quiet ((first | (go_at_call 35; exact HQ.out _)))
    generalize hwq : w0.drewN nq = wq
    have H1 : Hid (Below w.heap.size w wq ∧ TP wq O B s M ∧ AddB wq w.heap.size B M ⟨k, f, q, t, d⟩ ∧ w.heap.size < wq.heap.size) := Lib.hid (by
      have hb := below_drewN (Below.refl w0.heap.size w0) nq
      rw [hwq] at hb
      have hz := H0.out.2.2.2
      have hz2 := hb.size
      exact ⟨H0.out.1.trans (hb.mono H0.out.1.size), H0.out.2.1.below hb, H0.out.2.2.1.keeps (keepsF (O := O) hb) (by omega) (by have := H0.out.2.1.lt; exact this) (fun h => h) (fun h => h), by omega⟩)
    clear hwq nq HQ c0 H0
    go_wp2
    refine wp_region_held_drew (S := fun w' => AddB w' w.heap.size B M ⟨k, f, q, t, d⟩) (by kernel_rfl) H1.out.2.2.1 (fun hS0 => ?_)
    obtain ⟨wd, hwd⟩ : ∃ z, z = wq.drew := ⟨_, rfl⟩
    rw [← hwd] at hS0 ⊢
    have HD : Hid (Below w.heap.size w wd ∧ TP wd O B s M ∧ AddB wd w.heap.size B M ⟨k, f, q, t, d⟩ ∧ w.heap.size < wd.heap.size) := Lib.hid (by rw [hwd]; exact ⟨H1.out.1.drew, H1.out.2.1.below (Below.refl _ _).drew, H1.out.2.2.1, H1.out.2.2.2⟩)
    clear hwd H1
    unfold AddB at hS0
    dsimp only [AddB] at hS0 ⊢
    refine wpAnyH_take (i := 0) (v := ?_) rfl (by kernel_rfl) (by kernel_rfl) (by kernel_rfl) (fun _ _ _ h => h) (Or.inl ⟨by kernel_rfl, ?_⟩) (by assumption) ?_
    rotate_left
    · intro w hSw; (try dsimp only at hSw); go_simp; (try with_reducible rfl)
    refine wpAnyH_take (i := 1) (v := ?_) rfl (by kernel_rfl) (by kernel_rfl) (by kernel_rfl) (fun _ _ _ h => h) (Or.inl ⟨by kernel_rfl, ?_⟩) (by assumption) ?_
    rotate_left
    · intro w hSw; (try dsimp only at hSw); go_simp; (try with_reducible rfl)
    refine wpAnyH_take (i := 2) (v := ?_) rfl (by kernel_rfl) (by kernel_rfl) (by kernel_rfl) (fun _ _ _ h => h) (Or.inl ⟨by kernel_rfl, ?_⟩) (by assumption) ?_
    rotate_left
    · intro w hSw; (try dsimp only at hSw); go_simp; (try with_reducible rfl)
    refine wpAnyH_take (i := 3) (v := ?_) rfl (by kernel_rfl) (by kernel_rfl) (by kernel_rfl) (fun _ _ _ h => h) (Or.inl ⟨by kernel_rfl, ?_⟩) (by assumption) ?_
    rotate_left
    · intro w hSw; (try dsimp only at hSw); go_simp; (try with_reducible rfl)
    refine wpAnyH_take (i := 4) (v := ?_) rfl (by kernel_rfl) (by kernel_rfl) (by kernel_rfl) (fun _ _ _ h => h) (Or.inl ⟨by kernel_rfl, ?_⟩) (by assumption) ?_
    rotate_left
    · intro w hSw; (try dsimp only at hSw); go_simp; (try with_reducible rfl)
    refine wpAnyH_take (i := 5) (v := ?_) rfl (by kernel_rfl) (by kernel_rfl) (by kernel_rfl) (fun _ _ _ h => h) (Or.inl ⟨by kernel_rfl, ?_⟩) (by assumption) ?_
    rotate_left
    · intro w hSw; (try dsimp only at hSw); go_simp; (try with_reducible rfl)
    refine wpAnyH_take (i := 7) (v := ?_) rfl (by kernel_rfl) (by kernel_rfl) (by kernel_rfl) (fun _ _ _ h => h) (Or.inl ⟨by kernel_rfl, ?_⟩) (by assumption) ?_
    rotate_left
    · intro w hSw; (try dsimp only at hSw); go_simp; (try with_reducible rfl)
    refine wpAnyH_ready (rs := [6]) (by kernel_rfl) (by simp) ?_
    refine AllReadyH.cons rfl (fun K hK => ?_) AllReadyH.nil
    go_simp
    refine (tb_name f q t d wd).mono ?_
    rintro x w2 ⟨rfl, b2⟩
    have H2 : Hid (Below w.heap.size w w2 ∧ TP w2 O B s M ∧ AddB w2 w.heap.size B M ⟨k, f, q, t, d⟩ ∧ w.heap.size < w2.heap.size) := Lib.hid ⟨HD.out.1.trans (b2.mono HD.out.1.size), HD.out.2.1.below b2, HD.out.2.2.1.keeps (keepsF (O := O) b2) HD.out.2.2.2 HD.out.2.1.lt (fun h => h) (fun h => h), Nat.lt_of_lt_of_le HD.out.2.2.2 b2.size⟩
    clear b2 HD hS0
    refine hK.out _ _ H2.out.2.2.1 (fun hS0 => ?_)
    clear hK K
    obtain ⟨w3, hrun, hm3, hk3⟩ := H2.out.2.1.map.put HH.out.2.1.sort (by have h1 := HH.out.2.1.len; have h2 := HH.out.2.1.r40; omega) ⟨k, f, q, t, d⟩ HH.out.2.2
    have hMX : M < w.heap.size := HH.out.1.map.lt
    have H3 : Hid (StepT w O B (.int .i64 0) ⟨s.room, tbR.ins s.l ⟨k, f, q, t, d⟩⟩ (.returned (.int .i64 0)) w3 ∧ AddB w3 w.heap.size B M ⟨k, f, q, t, d⟩) := Lib.hid (by
      refine ⟨⟨rfl, ⟨M, hk3.blk H2.out.2.1.blk (fun e => H2.out.2.1.ne e.symm), hm3, Or.inl HH.out.1.oB, Or.inl HH.out.1.oM⟩, ?_⟩, H2.out.2.2.1.keeps hk3 H2.out.2.2.2 H2.out.2.1.lt (fun e => by have e2 : w.heap.size = M := e; omega) (fun e => H2.out.2.1.ne e.symm)⟩
      exact (Kq.Keeps.of_below H2.out.1 (fun k h1 h2 => absurd h2 (Nat.not_lt.2 h1))).trans (hk3.mono (fun k _ e => by rw [show k = M from e]; exact HH.out.1.oM)))
    unfold itV at hrun
    simp only at hrun
    clear hm3 hk3 hMX hS0
    refine wpAnyH_ready (rs := [8]) (by kernel_rfl) (by simp) ?_
    refine AllReadyH.cons rfl (fun K hK => ?_) AllReadyH.nil
    go_simp
    refine hK.out _ _ H3.out.2 (fun hS0 => ?_)
    clear hK K
    refine wpAnyH_done (by kernel_rfl) ?_ _
    clear hS0
    go_simp
    go_wp2
    go_ret
    rw [HE.out]
    exact H3.out.1
end
end Go.Proofs.YtkbiolhcpghmkaaGreat
namespace Go.Proofs.YtkbiolhcpghmkaaGreat
open Go.RowKit Go.Maps Go.Kq
set_option linter.unusedVariables false
section
variable (w : World) (O : Nat → Prop) (B : Nat) (s : TbV)
set_option maxRecDepth 100000 in
set_option maxHeartbeats 2000000 in
theorem tb_sent (n : NtV) (hn : nmW n.nm) (h : TbP w O B s) (hs : TbOk s) : Calls Tryz.prog 80 #[.pointer (some ⟨B, 0, none⟩), .agg #[.int .i64 n.f, .int .u64 n.q, .int .u64 n.t, .string n.d]] w (StepT w O B (.int .i64 (sentV s n).2) (sentV s n).1) := by
  have HH := Lib.hid (And.intro h (And.intro hs hn))
  obtain ⟨w0, hw0⟩ : ∃ z, z = w.alloc (.cells #[.int .i64 n.f, .int .u64 n.q, .int .u64 n.t, .string n.d] 44) := ⟨_, rfl⟩
  have H0 : Hid (Below w.heap.size w w0 ∧ TbP w0 O B s ∧ w0.heap[w.heap.size]? = some (.cells #[.int .i64 n.f, .int .u64 n.q, .int .u64 n.t, .string n.d] 44 (0, 0))) := Lib.hid (by
    have hb := Kq.below_alloc w (.cells #[.int .i64 n.f, .int .u64 n.q, .int .u64 n.t, .string n.d] 44)
    have hr := Kq.blk_new w #[.int .i64 n.f, .int .u64 n.q, .int .u64 n.t, .string n.d] 44 (0, 0)
    rw [← hw0] at hb hr
    exact ⟨hb, h.below hb, hr⟩)
  have HG := Lib.hid (tb_get w0 O B s n.f n.q hn H0.out.2.1)
  obtain ⟨u, hu⟩ : ∃ u, u = tbR.look s.l n.nm := ⟨_, rfl⟩
  rw [show tbR.look s.l (n.f, n.q) = u from hu.symm] at HG
  have HV : Hid (sentV s n = u.elim (addV s (n.as 1)) (fun _ => (s, 0))) := Lib.hid (by rw [hu]; rfl)
  have c0 := Kq.blk_cell H0.out.2.2 0
  have c1 := Kq.blk_cell H0.out.2.2 1
  obtain ⟨k, f, q, t, d⟩ := n
  clear h hs hn hu
  go_enter Tryz.func80, Tryz.ntmps80
  go_wp2_with fail
  rw [← hw0]
  clear hw0
  refine HG.out.mono ?_
  rintro x w1 ⟨rfl, b1⟩
  have H1 : Hid (Below w.heap.size w w1 ∧ TbP w1 O B s ∧ w1.heap[w.heap.size]? = some (.cells #[.int .i64 f, .int .u64 q, .int .u64 t, .string d] 44 (0, 0))) := Lib.hid ⟨H0.out.1.trans (b1.mono H0.out.1.size), H0.out.2.1.below b1, Kq.below_blk b1 H0.out.2.2 (Kq.blk_lt H0.out.2.2)⟩
  clear b1 H0 HG c0 c1
  cases u with
  | some i =>
    have HE : Hid (sentV s ⟨k, f, q, t, d⟩ = (s, 0)) := Lib.hid HV.out
    obtain ⟨ik, jf, jq, jt, jd⟩ := i
    unfold itV
    simp only [Option.getD_some, Option.isSome_some]
    go_wp2
    go_ret
    rw [HE.out]
    exact StepT.same HH.out.1 (H1.out.1.trans ((Kq.below_alloc _ _).mono H1.out.1.size)) rfl
  | none =>
    have HE : Hid (sentV s ⟨k, f, q, t, d⟩ = addV s ⟨1, f, q, t, d⟩) := Lib.hid HV.out
    unfold itV itZ
    simp only [Option.getD_none, Option.isSome_none]
    obtain ⟨w2, hw2⟩ : ∃ z, z = w1.alloc (.cells #[.int .i64 0, .int .u64 0, .int .u64 0, .string ⟨#[]⟩, .int .i64 0] 51) := ⟨_, rfl⟩
    have H2 : Hid (Below w.heap.size w w2 ∧ TbP w2 O B s ∧ w2.heap[w.heap.size]? = some (.cells #[.int .i64 f, .int .u64 q, .int .u64 t, .string d] 44 (0, 0))) := Lib.hid (by
      have b1 := Kq.below_alloc w1 (.cells #[.int .i64 0, .int .u64 0, .int .u64 0, .string ⟨#[]⟩, .int .i64 0] 51)
      rw [← hw2] at b1
      exact ⟨H1.out.1.trans (b1.mono H1.out.1.size), H1.out.2.1.below b1, Kq.below_blk b1 H1.out.2.2 (Kq.blk_lt H1.out.2.2)⟩)
    have c0 := Kq.blk_cell H1.out.2.2 0
    have c1 := Kq.blk_cell H1.out.2.2 1
    have c2 := Kq.blk_cell H1.out.2.2 2
    have c3 := Kq.blk_cell H1.out.2.2 3
    have d0 := Kq.blk_cell H2.out.2.2 0
    have d1 := Kq.blk_cell H2.out.2.2 1
    have d2 := Kq.blk_cell H2.out.2.2 2
    have d3 := Kq.blk_cell H2.out.2.2 3
    rw [hw2] at d0 d1 d2 d3
    go_wp2_with fail
    rw [← hw2]
    clear hw2
    refine (tb_add w2 O B s ⟨1, f, q, t, d⟩ HH.out.2.2 H2.out.2.1 HH.out.2.1).mono ?_
    intro x w3 hx
    have HX := Lib.hid (StepT.from H2.out.1 hx)
    obtain ⟨rfl, -, -⟩ := hx
    clear c0 c1 c2 c3 d0 d1 d2 d3
    go_wp2
    go_ret
    rw [HE.out]
    exact HX.out
/-- a packet's box beside a table -/
def PkB (w : World) (X B M : Nat) (f q t : Int) (d : ByteArray) : Prop := w.cell? ⟨X, 0, none⟩ = some (.int .i64 f) ∧ w.cell? ⟨X, 1, none⟩ = some (.int .u64 q) ∧ w.cell? ⟨X, 2, none⟩ = some (.int .u64 t) ∧ w.cell? ⟨X, 3, none⟩ = some (.string d) ∧ w.cell? ⟨B, 1, none⟩ = some (.map (some M))
theorem PkB.of {w : World} {X B M : Nat} {f q t : Int} {d : ByteArray} {s : TbV} {O : Nat → Prop} (hx : w.heap[X]? = some (.cells #[.int .i64 f, .int .u64 q, .int .u64 t, .string d] 44 (0, 0))) (h : TP w O B s M) : PkB w X B M f q t d := ⟨Kq.blk_cell hx 0, Kq.blk_cell hx 1, Kq.blk_cell hx 2, Kq.blk_cell hx 3, h.c1⟩
set_option maxRecDepth 100000 in
set_option maxHeartbeats 2000000 in
theorem tb_over (n : NtV) (hn : nmW n.nm) (h : TbP w O B s) (hs : TbOk s) : Calls Tryz.prog 82 #[.pointer (some ⟨B, 0, none⟩), .agg #[.int .i64 n.f, .int .u64 n.q, .int .u64 n.t, .string n.d]] w (StepT w O B (.int .i64 (overV s n).2) (overV s n).1) := by
  obtain ⟨M, h⟩ := h
  have HH := Lib.hid (And.intro h (And.intro hs hn))
  obtain ⟨w0, hw0⟩ : ∃ z, z = w.alloc (.cells #[.int .i64 n.f, .int .u64 n.q, .int .u64 n.t, .string n.d] 44) := ⟨_, rfl⟩
  have H0 : Hid (Below w.heap.size w w0.drew ∧ TP w0.drew O B s M ∧ w0.drew.heap[w.heap.size]? = some (.cells #[.int .i64 n.f, .int .u64 n.q, .int .u64 n.t, .string n.d] 44 (0, 0))) := Lib.hid (by
    have hb := Kq.below_alloc w (.cells #[.int .i64 n.f, .int .u64 n.q, .int .u64 n.t, .string n.d] 44)
    have hr := Kq.blk_new w #[.int .i64 n.f, .int .u64 n.q, .int .u64 n.t, .string n.d] 44 (0, 0)
    rw [← hw0] at hb hr
    exact ⟨hb.drew, h.below hb.drew, hr⟩)
  obtain ⟨k, f, q, t, d⟩ := n
  clear h hs hn
  go_enter Tryz.func82, Tryz.ntmps82
  go_wp2
  rw [← hw0]
  refine wp_region_held_drew (S := fun w' => PkB w' w.heap.size B M f q t d) (by kernel_rfl) (PkB.of H0.out.2.2 H0.out.2.1) (fun hS0 => ?_)
  obtain ⟨wd, hwd⟩ : ∃ z, z = w0.drew := ⟨_, rfl⟩
  rw [← hwd] at hS0 H0 ⊢
  clear hwd hw0
  unfold PkB at hS0
  dsimp only [PkB] at hS0 ⊢
  refine wpAnyH_take (i := 0) (v := ?_) rfl (by kernel_rfl) (by kernel_rfl) (by kernel_rfl) (fun _ _ _ h => h) (Or.inl ⟨by kernel_rfl, ?_⟩) (by assumption) ?_
  rotate_left
  · intro w hSw; (try dsimp only at hSw); go_simp; (try with_reducible rfl)
  refine wpAnyH_take (i := 1) (v := ?_) rfl (by kernel_rfl) (by kernel_rfl) (by kernel_rfl) (fun _ _ _ h => h) (Or.inl ⟨by kernel_rfl, ?_⟩) (by assumption) ?_
  rotate_left
  · intro w hSw; (try dsimp only at hSw); go_simp; (try with_reducible rfl)
  refine wpAnyH_take (i := 2) (v := ?_) rfl (by kernel_rfl) (by kernel_rfl) (by kernel_rfl) (fun _ _ _ h => h) (Or.inl ⟨by kernel_rfl, ?_⟩) (by assumption) ?_
  rotate_left
  · intro w hSw; (try dsimp only at hSw); go_simp; (try with_reducible rfl)
  refine wpAnyH_take (i := 3) (v := ?_) rfl (by kernel_rfl) (by kernel_rfl) (by kernel_rfl) (fun _ _ _ h => h) (Or.inl ⟨by kernel_rfl, ?_⟩) (by assumption) ?_
  rotate_left
  · intro w hSw; (try dsimp only at hSw); go_simp; (try with_reducible rfl)
  refine wpAnyH_take (i := 4) (v := ?_) rfl (by kernel_rfl) (by kernel_rfl) (by kernel_rfl) (fun _ _ _ h => h) (Or.inl ⟨by kernel_rfl, ?_⟩) (by assumption) ?_
  rotate_left
  · intro w hSw; (try dsimp only at hSw); go_simp; (try with_reducible rfl)
  refine wpAnyH_ready (rs := [5]) (by kernel_rfl) (by simp) ?_
  refine AllReadyH.cons rfl (fun K hK => ?_) AllReadyH.nil
  go_simp
  refine (tb_name f q t d wd).mono ?_
  rintro x w2 ⟨rfl, b2⟩
  have H2 : Hid (Below w.heap.size w w2 ∧ TP w2 O B s M ∧ w2.heap[w.heap.size]? = some (.cells #[.int .i64 f, .int .u64 q, .int .u64 t, .string d] 44 (0, 0))) := Lib.hid ⟨H0.out.1.trans (b2.mono H0.out.1.size), H0.out.2.1.below b2, Kq.below_blk b2 H0.out.2.2 (Kq.blk_lt H0.out.2.2)⟩
  clear b2 H0 hS0
  refine hK.out _ _ (PkB.of H2.out.2.2 H2.out.2.1) (fun hS0 => ?_)
  clear hK K
  obtain ⟨w3, hrun, hm3, hk3⟩ := H2.out.2.1.map.del HH.out.2.1.sort f q HH.out.2.2 0
  have hMX : M < w.heap.size := HH.out.1.map.lt
  have H3 : Hid (StepT w O B (.int .i64 0) ⟨s.room, tbR.del s.l (f, q)⟩ (.returned (.int .i64 0)) w3 ∧ PkB w3 w.heap.size B M f q t d) := Lib.hid (by
    have hbk := hk3.blk H2.out.2.1.blk (fun e => H2.out.2.1.ne e.symm)
    refine ⟨⟨rfl, ⟨M, hbk, hm3, Or.inl HH.out.1.oB, Or.inl HH.out.1.oM⟩, ?_⟩, ?_⟩
    · exact (Kq.Keeps.of_below H2.out.1 (fun k h1 h2 => absurd h2 (Nat.not_lt.2 h1))).trans (hk3.mono (fun k _ e => by rw [show k = M from e]; exact HH.out.1.oM))
    · have hx := hk3.blk H2.out.2.2 (fun e => by have e2 : w.heap.size = M := e; omega)
      exact ⟨Kq.blk_cell hx 0, Kq.blk_cell hx 1, Kq.blk_cell hx 2, Kq.blk_cell hx 3, Kq.blk_cell hbk 1⟩)
  clear hm3 hk3 hMX hS0
  refine wpAnyH_ready (rs := [6]) (by kernel_rfl) (by simp) ?_
  refine AllReadyH.cons rfl (fun K hK => ?_) AllReadyH.nil
  go_simp
  refine hK.out _ _ H3.out.2 (fun hS0 => ?_)
  clear hK K
  refine wpAnyH_done (by kernel_rfl) ?_ _
  clear hS0
  go_simp
  go_wp2
  go_ret
  exact H3.out.1
def RvB (w : World) (X Y B M : Nat) (f q t : Int) (d : ByteArray) (jt : Int) (jd : ByteArray) : Prop := (w.cell? ⟨X, 0, none⟩ = some (.int .i64 f) ∧ w.cell? ⟨X, 1, none⟩ = some (.int .u64 q) ∧ w.cell? ⟨X, 2, none⟩ = some (.int .u64 t) ∧ w.cell? ⟨X, 3, none⟩ = some (.string d) ∧ w.cell? ⟨B, 1, none⟩ = some (.map (some M))) ∧
  w.cell? ⟨Y, 0, none⟩ = some (.int .i64 f) ∧ w.cell? ⟨Y, 1, none⟩ = some (.int .u64 q) ∧ w.cell? ⟨Y, 2, none⟩ = some (.int .u64 jt) ∧ w.cell? ⟨Y, 3, none⟩ = some (.string jd) ∧ w.cell? ⟨Y, 4, none⟩ = some (.int .i64 2)
theorem RvB.of {w : World} {X Y B M : Nat} {f q t : Int} {d : ByteArray} {jt : Int} {jd : ByteArray} {s : TbV} (hx : w.heap[X]? = some (.cells #[.int .i64 f, .int .u64 q, .int .u64 t, .string d] 44 (0, 0))) (hy : w.heap[Y]? = some (.cells #[.int .i64 f, .int .u64 q, .int .u64 jt, .string jd, .int .i64 2] 51 (0, 0))) (hb : w.heap[B]? = some (.cells #[.int .i64 (s.room : Int), .map (some M)] 90 (0, 0))) : RvB w X Y B M f q t d jt jd :=
  ⟨⟨Kq.blk_cell hx 0, Kq.blk_cell hx 1, Kq.blk_cell hx 2, Kq.blk_cell hx 3, Kq.blk_cell hb 1⟩, Kq.blk_cell hy 0, Kq.blk_cell hy 1, Kq.blk_cell hy 2, Kq.blk_cell hy 3, Kq.blk_cell hy 4⟩
set_option maxRecDepth 100000 in
set_option maxHeartbeats 2000000 in
theorem tb_recv (n : NtV) (hn : nmW n.nm) (h : TbP w O B s) (hs : TbOk s) : Calls Tryz.prog 81 #[.pointer (some ⟨B, 0, none⟩), .agg #[.int .i64 n.f, .int .u64 n.q, .int .u64 n.t, .string n.d]] w (StepT w O B (.int .i64 (recvV s n).2) (recvV s n).1) := by
  have HH := Lib.hid (And.intro h (And.intro hs hn))
  obtain ⟨w0, hw0⟩ : ∃ z, z = w.alloc (.cells #[.int .i64 n.f, .int .u64 n.q, .int .u64 n.t, .string n.d] 44) := ⟨_, rfl⟩
  have H0 : Hid (Below w.heap.size w w0 ∧ TbP w0 O B s ∧ w0.heap[w.heap.size]? = some (.cells #[.int .i64 n.f, .int .u64 n.q, .int .u64 n.t, .string n.d] 44 (0, 0))) := Lib.hid (by
    have hb := Kq.below_alloc w (.cells #[.int .i64 n.f, .int .u64 n.q, .int .u64 n.t, .string n.d] 44)
    have hr := Kq.blk_new w #[.int .i64 n.f, .int .u64 n.q, .int .u64 n.t, .string n.d] 44 (0, 0)
    rw [← hw0] at hb hr
    exact ⟨hb, h.below hb, hr⟩)
  have HG := Lib.hid (tb_get w0 O B s n.f n.q hn H0.out.2.1)
  obtain ⟨u, hu⟩ : ∃ u, u = tbR.look s.l n.nm := ⟨_, rfl⟩
  have HU : Hid (∀ i, u = some i → i.f = n.f ∧ i.q = n.q) := Lib.hid (fun i hi => by
    rw [hi] at hu
    have := (Ord.look_mem s.l n.nm i hu.symm).2
    have h1 : (i.f, i.q) = (n.f, n.q) := this
    injection h1 with h1 h2
    exact ⟨h1, h2⟩)
  rw [show tbR.look s.l (n.f, n.q) = u from hu.symm] at HG
  have HV : Hid (recvV s n = u.elim (addV s (n.as 2)) (fun i => (⟨s.room, tbR.ins s.l (i.as 2)⟩, 0))) := Lib.hid (by rw [hu]; rfl)
  have c0 := Kq.blk_cell H0.out.2.2 0
  have c1 := Kq.blk_cell H0.out.2.2 1
  obtain ⟨k, f, q, t, d⟩ := n
  clear h hs hn hu
  go_enter Tryz.func81, Tryz.ntmps81
  go_wp2_with fail
  rw [← hw0]
  clear hw0
  refine HG.out.mono ?_
  rintro x w1 ⟨rfl, b1⟩
  have H1 : Hid (Below w.heap.size w w1 ∧ TbP w1 O B s ∧ w1.heap[w.heap.size]? = some (.cells #[.int .i64 f, .int .u64 q, .int .u64 t, .string d] 44 (0, 0))) := Lib.hid ⟨H0.out.1.trans (b1.mono H0.out.1.size), H0.out.2.1.below b1, Kq.below_blk b1 H0.out.2.2 (Kq.blk_lt H0.out.2.2)⟩
  clear b1 H0 HG c0 c1
  cases u with
  | none =>
    have HE : Hid (recvV s ⟨k, f, q, t, d⟩ = addV s ⟨2, f, q, t, d⟩) := Lib.hid HV.out
    unfold itV itZ
    simp only [Option.getD_none, Option.isSome_none]
    obtain ⟨w2, hw2⟩ : ∃ z, z = w1.alloc (.cells #[.int .i64 0, .int .u64 0, .int .u64 0, .string ⟨#[]⟩, .int .i64 0] 51) := ⟨_, rfl⟩
    have H2 : Hid (Below w.heap.size w w2 ∧ TbP w2 O B s ∧ w2.heap[w.heap.size]? = some (.cells #[.int .i64 f, .int .u64 q, .int .u64 t, .string d] 44 (0, 0))) := Lib.hid (by
      have b1 := Kq.below_alloc w1 (.cells #[.int .i64 0, .int .u64 0, .int .u64 0, .string ⟨#[]⟩, .int .i64 0] 51)
      rw [← hw2] at b1
      exact ⟨H1.out.1.trans (b1.mono H1.out.1.size), H1.out.2.1.below b1, Kq.below_blk b1 H1.out.2.2 (Kq.blk_lt H1.out.2.2)⟩)
    have c0 := Kq.blk_cell H1.out.2.2 0
    have c1 := Kq.blk_cell H1.out.2.2 1
    have c2 := Kq.blk_cell H1.out.2.2 2
    have c3 := Kq.blk_cell H1.out.2.2 3
    have d0 := Kq.blk_cell H2.out.2.2 0
    have d1 := Kq.blk_cell H2.out.2.2 1
    have d2 := Kq.blk_cell H2.out.2.2 2
    have d3 := Kq.blk_cell H2.out.2.2 3
    rw [hw2] at d0 d1 d2 d3
    go_wp2_with fail
    rw [← hw2]
    clear hw2
    refine (tb_add w2 O B s ⟨2, f, q, t, d⟩ HH.out.2.2 H2.out.2.1 HH.out.2.1).mono ?_
    intro x w3 hx
    have HX := Lib.hid (StepT.from H2.out.1 hx)
    obtain ⟨rfl, -, -⟩ := hx
    clear c0 c1 c2 c3 d0 d1 d2 d3
    go_wp2
    go_ret
    rw [HE.out]
    exact HX.out
  | some i =>
    obtain ⟨ik, jf, jq, jt, jd⟩ := i
    obtain ⟨e1, e2⟩ := HU.out _ rfl
    have e1 : jf = f := e1
    have e2 : jq = q := e2
    subst e1 e2
    have HE : Hid (recvV s ⟨k, jf, jq, t, d⟩ = (⟨s.room, tbR.ins s.l ⟨2, jf, jq, jt, jd⟩⟩, 0)) := Lib.hid HV.out
    unfold itV
    simp only [Option.getD_some, Option.isSome_some]
    clear HU HV
    obtain ⟨M, htp⟩ := H1.out.2.1
    have HTP := Lib.hid htp
    obtain ⟨w2, hw2⟩ : ∃ z, z = w1.alloc (.cells #[.int .i64 jf, .int .u64 jq, .int .u64 jt, .string jd, .int .i64 2] 51) := ⟨_, rfl⟩
    have H2 : Hid (Below w.heap.size w w2.drew ∧ TP w2.drew O B s M ∧ w2.drew.heap[w.heap.size]? = some (.cells #[.int .i64 jf, .int .u64 jq, .int .u64 t, .string d] 44 (0, 0)) ∧ w2.drew.heap[w1.heap.size]? = some (.cells #[.int .i64 jf, .int .u64 jq, .int .u64 jt, .string jd, .int .i64 2] 51 (0, 0))) := Lib.hid (by
      have b1 := Kq.below_alloc w1 (.cells #[.int .i64 jf, .int .u64 jq, .int .u64 jt, .string jd, .int .i64 2] 51)
      have hn := Kq.blk_new w1 #[.int .i64 jf, .int .u64 jq, .int .u64 jt, .string jd, .int .i64 2] 51 (0, 0)
      rw [← hw2] at b1 hn
      exact ⟨(H1.out.1.trans (b1.mono H1.out.1.size)).drew, htp.below b1.drew, Kq.below_blk b1.drew H1.out.2.2 (Kq.blk_lt H1.out.2.2), hn⟩)
    clear htp
    go_wp2
    rw [← hw2]
    refine wp_region_held_drew (S := fun w' => RvB w' w.heap.size w1.heap.size B M jf jq t d jt jd) (by kernel_rfl) (RvB.of H2.out.2.2.1 H2.out.2.2.2 H2.out.2.1.blk) (fun hS0 => ?_)
    obtain ⟨wd, hwd⟩ : ∃ z, z = w2.drew := ⟨_, rfl⟩
    rw [← hwd] at hS0 H2 ⊢
    clear hwd hw2
    unfold RvB at hS0
    dsimp only [RvB] at hS0 ⊢
    refine wpAnyH_take (i := 0) (v := ?_) rfl (by kernel_rfl) (by kernel_rfl) (by kernel_rfl) (fun _ _ _ h => h) (Or.inl ⟨by kernel_rfl, ?_⟩) (by assumption) ?_
    rotate_left
    · intro w hSw; (try dsimp only at hSw); go_simp; (try with_reducible rfl)
    refine wpAnyH_take (i := 1) (v := ?_) rfl (by kernel_rfl) (by kernel_rfl) (by kernel_rfl) (fun _ _ _ h => h) (Or.inl ⟨by kernel_rfl, ?_⟩) (by assumption) ?_
    rotate_left
    · intro w hSw; (try dsimp only at hSw); go_simp; (try with_reducible rfl)
    refine wpAnyH_take (i := 2) (v := ?_) rfl (by kernel_rfl) (by kernel_rfl) (by kernel_rfl) (fun _ _ _ h => h) (Or.inl ⟨by kernel_rfl, ?_⟩) (by assumption) ?_
    rotate_left
    · intro w hSw; (try dsimp only at hSw); go_simp; (try with_reducible rfl)
    refine wpAnyH_take (i := 3) (v := ?_) rfl (by kernel_rfl) (by kernel_rfl) (by kernel_rfl) (fun _ _ _ h => h) (Or.inl ⟨by kernel_rfl, ?_⟩) (by assumption) ?_
    rotate_left
    · intro w hSw; (try dsimp only at hSw); go_simp; (try with_reducible rfl)
    refine wpAnyH_take (i := 4) (v := ?_) rfl (by kernel_rfl) (by kernel_rfl) (by kernel_rfl) (fun _ _ _ h => h) (Or.inl ⟨by kernel_rfl, ?_⟩) (by assumption) ?_
    rotate_left
    · intro w hSw; (try dsimp only at hSw); go_simp; (try with_reducible rfl)
    refine wpAnyH_take (i := 6) (v := ?_) rfl (by kernel_rfl) (by kernel_rfl) (by kernel_rfl) (fun _ _ _ h => h) (Or.inl ⟨by kernel_rfl, ?_⟩) (by assumption) ?_
    rotate_left
    · intro w hSw; (try dsimp only at hSw); go_simp; (try with_reducible rfl)
    refine wpAnyH_ready (rs := [5]) (by kernel_rfl) (by simp) ?_
    refine AllReadyH.cons rfl (fun K hK => ?_) AllReadyH.nil
    go_simp
    refine (tb_name jf jq t d wd).mono ?_
    rintro x w3 ⟨rfl, b3⟩
    have H3 : Hid (Below w.heap.size w w3 ∧ TP w3 O B s M ∧ w3.heap[w.heap.size]? = some (.cells #[.int .i64 jf, .int .u64 jq, .int .u64 t, .string d] 44 (0, 0)) ∧ w3.heap[w1.heap.size]? = some (.cells #[.int .i64 jf, .int .u64 jq, .int .u64 jt, .string jd, .int .i64 2] 51 (0, 0))) := Lib.hid ⟨H2.out.1.trans (b3.mono H2.out.1.size), H2.out.2.1.below b3, Kq.below_blk b3 H2.out.2.2.1 (Kq.blk_lt H2.out.2.2.1), Kq.below_blk b3 H2.out.2.2.2 (Kq.blk_lt H2.out.2.2.2)⟩
    clear b3 H2 hS0
    refine hK.out _ _ (RvB.of H3.out.2.2.1 H3.out.2.2.2 H3.out.2.1.blk) (fun hS0 => ?_)
    clear hK K
    obtain ⟨w4, hrun, hm4, hk4⟩ := H3.out.2.1.map.put HH.out.2.1.sort (by have h1 := HH.out.2.1.len; have h2 := HH.out.2.1.r40; omega) ⟨2, jf, jq, jt, jd⟩ HH.out.2.2
    have hMX : M < w.heap.size := by
      obtain ⟨M', h0⟩ := HH.out.1
      have h1 := HTP.out.c1
      have h2 := (h0.below (H1.out.1.mono (Nat.le_refl _))).c1
      rw [h1] at h2
      injection h2 with h2
      injection h2 with h2
      injection h2 with h2
      rw [h2]; exact h0.map.lt
    have hOM : O M := HTP.out.oM
    have hsz1 := H1.out.1.size
    have H4 : Hid (StepT w O B (.int .i64 0) ⟨s.room, tbR.ins s.l ⟨2, jf, jq, jt, jd⟩⟩ (.returned (.int .i64 0)) w4 ∧ RvB w4 w.heap.size w1.heap.size B M jf jq t d jt jd) := Lib.hid (by
      have hbk := hk4.blk H3.out.2.1.blk (fun e => H3.out.2.1.ne e.symm)
      refine ⟨⟨rfl, ⟨M, hbk, hm4, Or.inl HTP.out.oB, Or.inl hOM⟩, ?_⟩, ?_⟩
      · exact (Kq.Keeps.of_below H3.out.1 (fun k h1 h2 => absurd h2 (Nat.not_lt.2 h1))).trans (hk4.mono (fun k _ e => by rw [show k = M from e]; exact hOM))
      · exact RvB.of (hk4.blk H3.out.2.2.1 (fun e => by have e2 : w.heap.size = M := e; omega)) (hk4.blk H3.out.2.2.2 (fun e => by have e2 : w1.heap.size = M := e; omega)) hbk)
    unfold itV at hrun
    simp only at hrun
    clear hm4 hk4 hMX hS0 hsz1 hOM
    refine wpAnyH_ready (rs := [7]) (by kernel_rfl) (by simp) ?_
    refine AllReadyH.cons rfl (fun K hK => ?_) AllReadyH.nil
    go_simp
    refine hK.out _ _ H4.out.2 (fun hS0 => ?_)
    clear hK K
    refine wpAnyH_done (by kernel_rfl) ?_ _
    clear hS0
    go_simp
    go_wp2
    go_ret
    rw [HE.out]
    exact H4.out.1
end
end Go.Proofs.YtkbiolhcpghmkaaGreat
