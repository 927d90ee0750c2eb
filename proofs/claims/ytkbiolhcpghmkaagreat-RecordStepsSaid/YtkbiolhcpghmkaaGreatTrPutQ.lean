/- Contract of the document's put. Condition: it is in order; the item is new. -/
import Derived.WalkSpells
import Derived.Outline
import Derived.Deep.QuietTactic
import Derived.BigQuiet
import Derived.Test.YtkbiolhcpghmkaaGreatTbSameMQ
namespace Go.Proofs.YtkbiolhcpghmkaaGreat
open Go.RowKit Go.Kq
set_option linter.unusedVariables false
def TrB (w : World) (B X : Nat) (An : Option Addr) (n cn : Nat) (f q t : Int) (d : ByteArray) (k : Int) : Prop := w.cell? ⟨B, 0, none⟩ = some (.slice An n cn) ∧ w.cell? ⟨X, 0, none⟩ = some (.int .i64 f) ∧ w.cell? ⟨X, 1, none⟩ = some (.int .u64 q) ∧ w.cell? ⟨X, 2, none⟩ = some (.int .u64 t) ∧ w.cell? ⟨X, 3, none⟩ = some (.string d) ∧ w.cell? ⟨X, 4, none⟩ = some (.int .i64 k)
section
variable (w : World) (O : Nat → Prop) (B : Nat) (s : TbV)
set_option maxRecDepth 100000 in
set_option maxHeartbeats 4000000 in
theorem rt_put (n : NtV) (hnew : tbR.look s.l n.nm = none) (h : RtP w O B s) (hs : tbR.Sort s.l) (h1000 : s.l.length ≤ 1000) (hO : ∀ k, O k → k < w.heap.size) : Calls Tryz.prog 48 #[.pointer (some ⟨B, 0, none⟩), .agg #[.int .i64 n.f, .int .u64 n.q, .int .u64 n.t, .string n.d, .int .i64 n.k]] w (StepR w O B (.int .i64 (addV s n).2) (addV s n).1) := by
  obtain ⟨i0, hi0, hz0, hz1, hz2⟩ := info_partsF infoIt
  obtain ⟨k, f, q, t, d⟩ := n
  have H := Lib.hid h
  have HO := Lib.hid hO
  have HCUT := Lib.hid (Ord.ins_new s.l ⟨k, f, q, t, d⟩ hs hnew)
  have HS := Lib.hid hs
  obtain ⟨w0, hw0⟩ : ∃ z, z = w.alloc (.cells #[.int .i64 f, .int .u64 q, .int .u64 t, .string d, .int .i64 k] 51) := ⟨_, rfl⟩
  have H0 : Hid (Below w.heap.size w w0 ∧ RtP w0 O B s ∧ w0.heap[w.heap.size]? = some (.cells #[.int .i64 f, .int .u64 q, .int .u64 t, .string d, .int .i64 k] 51 (0, 0))) := Lib.hid (by
    have hb := Kq.below_alloc w (.cells #[.int .i64 f, .int .u64 q, .int .u64 t, .string d, .int .i64 k] 51)
    have hr := Kq.blk_new w #[.int .i64 f, .int .u64 q, .int .u64 t, .string d, .int .i64 k] 51 (0, 0)
    rw [← hw0] at hb hr
    exact ⟨hb, h.below hb, hr⟩)
  obtain ⟨An, cn, hr⟩ := H0.out.2.1
  have c0 := hr.c0
  have c1 := hr.c1
  obtain ⟨n, hn⟩ : ∃ n, n = s.l.length := ⟨_, rfl⟩
  obtain ⟨m, hm⟩ : ∃ m, m = s.room := ⟨_, rfl⟩
  have HN := Lib.hid (And.intro hn hm)
  rw [← hn] at c0 h1000
  rw [← hm] at c1
  obtain ⟨p, hp⟩ : ∃ p, p = tbR.plc s.l (f, q) := ⟨_, rfl⟩
  have HP := Lib.hid hp
  have HPL : Hid (p ≤ s.l.length) := Lib.hid (by rw [hp]; exact Ord.plc_le _ _)
  rw [show tbR.plc s.l (tbR.key ⟨k, f, q, t, d⟩) = p from hp.symm] at HCUT
  have hcap := hr.cap
  rw [← hn] at hcap
  have HRT := Lib.hid hr
  clear h hs hO hnew hp hn hm hr
  by_cases hf : m ≤ n
  · have HE : Hid (addV s ⟨k, f, q, t, d⟩ = (s, 2)) := Lib.hid (by unfold addV; rw [if_pos (by rw [← HN.out.1, ← HN.out.2]; exact hf)])
    have e1 : decide ((m : Int) ≤ (n : Int)) = true := decide_eq_true (by omega)
    have e1' : decide (m ≤ n) = true := decide_eq_true hf
    clear hf
    go_enter Tryz.func48, Tryz.ntmps48
    go_wp2
    rw [← hw0]
    clear hw0
    go_quiet (fail)
    generalize hwq : w0.drewN nq = wq
    have H1 : Hid (Below w.heap.size w wq) := Lib.hid (by rw [← hwq]; exact below_drewN H0.out.1 _)
    clear hwq nq c0 c1
    go_wp2
    go_ret
    rw [HE.out]
    exact StepR.same H.out H1.out rfl
  · have HE : Hid (addV s ⟨k, f, q, t, d⟩ = (⟨s.room, tbR.ins s.l ⟨k, f, q, t, d⟩⟩, 0)) := Lib.hid (by unfold addV; rw [if_neg (by rw [← HN.out.1, ← HN.out.2]; exact hf)])
    have e1 : decide ((m : Int) ≤ (n : Int)) = false := decide_eq_false (by omega)
    have e1' : decide (m ≤ n) = false := decide_eq_false hf
    have HF : Hid (∀ wx, RtP wx O B s → Calls Tryz.prog 47 #[.pointer (some ⟨B, 0, none⟩), .int .i64 f, .int .u64 q] wx fun x w' => x = .returned (.tuple #[.int .i64 (p : Nat), .bool (tbR.isAt s.l (f, q))]) ∧ ∃ n, w' = wx.drewN n) := Lib.hid (fun wx h => by rw [HP.out]; exact rt_place wx O B s f q h HS.out (by rw [← HN.out.1]; exact h1000))
    clear hf
    go_enter Tryz.func48, Tryz.ntmps48
    go_wp2
    rw [← hw0]
    clear hw0
    go_quiet (fail)
    generalize hwq : w0.drewN nq = wq
    have H1 : Hid (Below w.heap.size w wq ∧ RT wq O B s An cn ∧ wq.heap[w.heap.size]? = some (.cells #[.int .i64 f, .int .u64 q, .int .u64 t, .string d, .int .i64 k] 51 (0, 0))) := Lib.hid (by
      have hb := below_drewN (Below.refl w0.heap.size w0) nq
      rw [hwq] at hb
      exact ⟨H0.out.1.trans (hb.mono H0.out.1.size), HRT.out.keeps (keepsF (O := O) hb) (fun _ _ h => h), Kq.below_blk hb H0.out.2.2 (Kq.blk_lt H0.out.2.2)⟩)
    clear hwq nq c0 c1 H0 HRT
    have d0 := Kq.blk_cell H1.out.2.2 0
    have d1 := Kq.blk_cell H1.out.2.2 1
    go_wp2_with fail
    refine (HF.out wq ⟨An, cn, H1.out.2.1⟩).mono ?_
    rintro x w1 ⟨rfl, n1, hw1⟩
    obtain ⟨r, hrr⟩ : ∃ r, r = n - p := ⟨_, rfl⟩
    have HR : Hid (RT w1.drew O B s An cn ∧ (∀ k, O k → k < w1.drew.heap.size) ∧ Below w.heap.size w w1.drew ∧ r = s.l.length - p ∧ r ≤ 1000 ∧ p ≤ 1000 ∧ p ≤ s.l.length) := Lib.hid (by
      have hb := (below_drewN (Below.refl wq.heap.size wq) n1)
      rw [← hw1] at hb
      have h2 := H1.out.1.size
      have h3 := hb.size
      have h4 := HPL.out
      have h5 := HN.out.1
      exact ⟨H1.out.2.1.keeps (keepsF (O := O) hb.drew) (fun _ _ h => h), fun k hk => by have := HO.out k hk; show k < w1.heap.size; omega, (H1.out.1.trans (hb.mono h2)).drew, by rw [hrr, HN.out.1], by omega, by omega, h4⟩)
    have HITEM : Hid (w1.heap[w.heap.size]? = some (.cells #[.int .i64 f, .int .u64 q, .int .u64 t, .string d, .int .i64 k] 51 (0, 0))) := Lib.hid (by
      have hb := (below_drewN (Below.refl wq.heap.size wq) n1)
      rw [← hw1] at hb
      exact Kq.below_blk hb H1.out.2.2 (Kq.blk_lt H1.out.2.2))
    clear hw1 HF H1 d0 d1
    have sl := fun wx => subI_run An n cn p (by have := HPL.out; rw [← HN.out.1] at this; exact this) wx
    have pl := fun wx => preI_run An n cn p (by have := HPL.out; rw [← HN.out.1] at this; omega) wx
    rw [← hrr] at sl
    obtain ⟨A2, hA2⟩ : ∃ A2, A2 = subI An cn p := ⟨_, rfl⟩
    rw [← hA2] at sl
    have HA2 : Hid (A2 = subI An cn p) := Lib.hid hA2
    obtain ⟨c2, hc2⟩ : ∃ c2, c2 = cn - p := ⟨_, rfl⟩
    rw [← hc2] at sl
    have HC2 := Lib.hid hc2
    obtain ⟨X, hX⟩ : ∃ X, X = w.heap.size := ⟨_, rfl⟩
    have hXd := Kq.blk_lt HITEM.out
    have c0 := HR.out.1.c0
    rw [← HN.out.1] at c0
    have q0 := Kq.blk_cell HITEM.out 0
    have q1 := Kq.blk_cell HITEM.out 1
    have q2 := Kq.blk_cell HITEM.out 2
    have q3 := Kq.blk_cell HITEM.out 3
    have q4 := Kq.blk_cell HITEM.out 4
    clear hcap hrr hA2 h1000 hc2 hX hXd X
    go_wp2
    refine Kq.wp_region_T 21 (fun cur => TrB cur B w.heap.size An n cn f q t d k) (by kernel_rfl) ⟨c0, q0, q1, q2, q3, q4⟩ (fun hS0 => ?_)
    have HC : Hid (∀ w', Kq.Keeps (fun k => w1.drew.heap.size ≤ k) w1.drew w' → TrB w' B w.heap.size An n cn f q t d k) := Lib.hid (fun w' hk => by
      have hB := hk.block B HR.out.1.lt (Nat.not_le.2 HR.out.1.lt)
      have hX := hk.block w.heap.size (Kq.blk_lt HITEM.out) (Nat.not_le.2 (Kq.blk_lt HITEM.out))
      exact ⟨by rw [World.cell?_of_block hB]; exact c0, by rw [World.cell?_of_block hX]; exact q0, by rw [World.cell?_of_block hX]; exact q1, by rw [World.cell?_of_block hX]; exact q2, by rw [World.cell?_of_block hX]; exact q3, by rw [World.cell?_of_block hX]; exact q4⟩)
    clear c0 q0 q1 q2 q3 q4
    obtain ⟨wd, hwd⟩ : ∃ z, z = w1.drew := ⟨_, rfl⟩
    rw [← hwd] at hS0 HR HC ⊢
    clear hwd HITEM
    unfold TrB at hS0
    dsimp only [TrB] at hS0 ⊢
    refine Kq.wpAnyT_take (i := 0) (v := ?_) rfl rfl (by kernel_rfl) (by kernel_rfl) (by kernel_rfl) (by kernel_rfl) (fun _ _ _ h => h) (Or.inl ⟨by kernel_rfl, ?_⟩) (by assumption) ?_
    rotate_left
    · intro w hSw; (try dsimp only at hSw); go_simp; (try with_reducible rfl)
    refine Kq.wpAnyT_take (i := 2) (v := ?_) rfl rfl (by kernel_rfl) (by kernel_rfl) (by kernel_rfl) (by kernel_rfl) (fun _ _ _ h => h) (Or.inl ⟨by kernel_rfl, ?_⟩) (by assumption) ?_
    rotate_left
    · intro w hSw; (try dsimp only at hSw); go_simp; (try with_reducible rfl)
    refine Kq.wpAnyT_take (i := 3) (v := ?_) rfl rfl (by kernel_rfl) (by kernel_rfl) (by kernel_rfl) (by kernel_rfl) (fun _ _ _ h => h) (Or.inl ⟨by kernel_rfl, ?_⟩) (by assumption) ?_
    rotate_left
    · intro w hSw; (try dsimp only at hSw); go_simp; (try with_reducible rfl)
    refine Kq.wpAnyT_take (i := 4) (v := ?_) rfl rfl (by kernel_rfl) (by kernel_rfl) (by kernel_rfl) (by kernel_rfl) (fun _ _ _ h => h) (Or.inl ⟨by kernel_rfl, ?_⟩) (by assumption) ?_
    rotate_left
    · intro w hSw; (try dsimp only at hSw); go_simp; (try with_reducible rfl)
    refine Kq.wpAnyT_take (i := 5) (v := ?_) rfl rfl (by kernel_rfl) (by kernel_rfl) (by kernel_rfl) (by kernel_rfl) (fun _ _ _ h => h) (Or.inl ⟨by kernel_rfl, ?_⟩) (by assumption) ?_
    rotate_left
    · intro w hSw; (try dsimp only at hSw); go_simp; (try with_reducible rfl)
    refine Kq.wpAnyT_take (i := 6) (v := ?_) rfl rfl (by kernel_rfl) (by kernel_rfl) (by kernel_rfl) (by kernel_rfl) (fun _ _ _ h => h) (Or.inl ⟨by kernel_rfl, ?_⟩) (by assumption) ?_
    rotate_left
    · intro w hSw; (try dsimp only at hSw); go_simp; (try with_reducible rfl)
    refine Kq.wpAnyT_take (i := 7) (v := ?_) rfl rfl (by kernel_rfl) (by kernel_rfl) (by kernel_rfl) (by kernel_rfl) (fun _ _ _ h => h) (Or.inl ⟨by kernel_rfl, ?_⟩) (by assumption) ?_
    rotate_left
    · intro w hSw; (try dsimp only at hSw); go_simp; (try with_reducible rfl)
    refine Kq.wpAnyT_take (i := 9) (v := ?_) rfl rfl (by kernel_rfl) (by kernel_rfl) (by kernel_rfl) (by kernel_rfl) (fun _ _ _ h => h) (Or.inl ⟨by kernel_rfl, ?_⟩) (by assumption) ?_
    rotate_left
    · intro w hSw; (try dsimp only at hSw); go_simp; (try with_reducible rfl)
    refine Kq.wpAnyT_take (i := 12) (v := ?_) rfl rfl (by kernel_rfl) (by kernel_rfl) (by kernel_rfl) (by kernel_rfl) (fun _ _ _ h => h) (Or.inl ⟨by kernel_rfl, ?_⟩) (by assumption) ?_
    rotate_left
    · intro w hSw; (try dsimp only at hSw); go_simp; (try with_reducible rfl)
    refine Kq.wpAnyT_take (i := 13) (v := ?_) rfl rfl (by kernel_rfl) (by kernel_rfl) (by kernel_rfl) (by kernel_rfl) (fun _ _ _ h => h) (Or.inl ⟨by kernel_rfl, ?_⟩) (by assumption) ?_
    rotate_left
    · intro w hSw; (try dsimp only at hSw); go_simp; (try with_reducible rfl)
    refine Kq.wpAnyT_take (i := 14) (v := ?_) rfl rfl (by kernel_rfl) (by kernel_rfl) (by kernel_rfl) (by kernel_rfl) (fun _ _ _ h => h) (Or.inl ⟨by kernel_rfl, ?_⟩) (by assumption) ?_
    rotate_left
    · intro w hSw; (try dsimp only at hSw); go_simp; (try with_reducible rfl)
    refine Kq.wpAnyT_take (i := 15) (v := ?_) rfl rfl (by kernel_rfl) (by kernel_rfl) (by kernel_rfl) (by kernel_rfl) (fun _ _ _ h => h) (Or.inl ⟨by kernel_rfl, ?_⟩) (by assumption) ?_
    rotate_left
    · intro w hSw; (try dsimp only at hSw); go_simp; (try with_reducible rfl)
    refine Kq.wpAnyT_take (i := 16) (v := ?_) rfl rfl (by kernel_rfl) (by kernel_rfl) (by kernel_rfl) (by kernel_rfl) (fun _ _ _ h => h) (Or.inl ⟨by kernel_rfl, ?_⟩) (by assumption) ?_
    rotate_left
    · intro w hSw; (try dsimp only at hSw); go_simp; (try with_reducible rfl)
    refine Kq.wpAnyT_take (i := 17) (v := ?_) rfl rfl (by kernel_rfl) (by kernel_rfl) (by kernel_rfl) (by kernel_rfl) (fun _ _ _ h => h) (Or.inl ⟨by kernel_rfl, ?_⟩) (by assumption) ?_
    rotate_left
    · intro w hSw; (try dsimp only at hSw); go_simp; (try with_reducible rfl)
    refine Kq.wpAnyT_two (i := 1) (j := 10) (by kernel_rfl) rfl rfl (fun K hK => ?g1) (fun K hK => ?g10)
    case g1 =>
      go_simp
      have HX := Lib.hid (RwI.start wd)
      have HS1 := Lib.hid (src_pre cn (HX.out.rt HR.out.1 HR.out.2.1).at_ p HR.out.2.2.2.2.2.2)
      refine hK.out _ _ (HC.out _ HX.out.kp) (fun hS0 => ?_)
      clear hK K hS0
      refine Kq.wpAnyT_two (i := 8) (j := 10) (by kernel_rfl) rfl rfl (fun K hK => ?g8x1) (fun K hK => ?g10x1)
      case g8x1 =>
        rw [if_pos (by kernel_rfl)]
        refine Kq.wp_append_any _ (.tmp 29) (.tmp 35) 26 26 rfl wd.heap.size 51 i0 (.agg #[.int .i64 0, .int .u64 0, .int .u64 0, .string ⟨#[]⟩, .int .i64 0]) 5 48 Tryz.underlying26 hi0 hz0 hz1 hz2 rfl (by decide) (.slice (some ⟨wd.heap.size, 0, none⟩) 0 0) 0 (ItE.flat []) (by kernel_rfl) HX.out.row (.slice An p cn) p (ItE.flat (s.l.take p)) (by kernel_rfl) HS1.out ?h1p ?h2p HX.out.size ?_
        case h1p => have := HR.out.2.2.2; unfold maxLen; omega
        case h2p => have := HR.out.2.2.2; omega
        intro v3 w3 hown3 hgrow hfresh
        have H3 : Hid (RwI wd w3 v3 (s.l.take p)) := Lib.hid (by
          have := HX.out.app hown3 (by rw [List.length_take, Nat.min_eq_left HR.out.2.2.2.2.2.2]) hgrow
          simpa using this)
        clear hown3 hgrow hfresh HX HS1
        refine hK.out _ _ (HC.out _ H3.out.kp) (fun hS0 => ?_)
        clear hK K hS0
        refine Kq.wpAnyT_one (i := 10) (by kernel_rfl) rfl (fun K hK => ?_)
        go_simp
        have b4 := Kq.below_alloc w3 (.cells #[.int .i64 f, .int .u64 q, .int .u64 t, .string d, .int .i64 k] 51)
        have HIT : Hid (ItE.At (w3.alloc (.cells #[.int .i64 f, .int .u64 q, .int .u64 t, .string d, .int .i64 k] 51)) (some ⟨w3.heap.size, 0, none⟩) [(⟨k, f, q, t, d⟩ : NtV)]) := Lib.hid (by exact Kq.Elt.made_one (E := ItE) ⟨k, f, q, t, d⟩ w3 51)
        replace H3 : Hid (RwI wd (w3.alloc (.cells #[.int .i64 f, .int .u64 q, .int .u64 t, .string d, .int .i64 k] 51)) v3 (s.l.take p)) := Lib.hid (H3.out.below b4)
        clear b4
        obtain ⟨XB, hXB⟩ : ∃ XB, XB = w3.heap.size := ⟨_, rfl⟩
        rw [← hXB] at HIT ⊢
        obtain ⟨w4, hw4⟩ : ∃ z, z = w3.alloc (.cells #[.int .i64 f, .int .u64 q, .int .u64 t, .string d, .int .i64 k] 51) := ⟨_, rfl⟩
        rw [← hw4] at HIT H3 ⊢
        clear hw4 hXB
        have HS2 : Hid (Src Tryz.prog 5 26 (.slice (some ⟨XB, 0, none⟩) 1 1) 1 (ItE.flat [(⟨k, f, q, t, d⟩ : NtV)]) w4) := Lib.hid (HIT.out.src Tryz.underlying26 1)
        refine hK.out _ _ (HC.out _ H3.out.kp) (fun hS0 => ?_)
        clear hK K hS0 HIT
        have HL3 : Hid (w4.ownsRow wd.heap.size 51 5 v3 p (ItE.flat (s.l.take p))) := Lib.hid (by
          have := H3.out.row
          rw [List.length_take, Nat.min_eq_left HR.out.2.2.2.2.2.2] at this
          exact this)
        refine Kq.wpAnyT_one (i := 11) (by kernel_rfl) rfl (fun K hK => ?_)
        rw [if_pos (by kernel_rfl)]
        refine Kq.wp_append_any _ (.tmp 36) (.tmp 38) 26 26 rfl wd.heap.size 51 i0 (.agg #[.int .i64 0, .int .u64 0, .int .u64 0, .string ⟨#[]⟩, .int .i64 0]) 5 48 Tryz.underlying26 hi0 hz0 hz1 hz2 rfl (by decide) v3 p (ItE.flat (s.l.take p)) (by kernel_rfl) HL3.out (.slice (some ⟨XB, 0, none⟩) 1 1) 1 (ItE.flat [(⟨k, f, q, t, d⟩ : NtV)]) (by kernel_rfl) HS2.out ?h3p ?h4p H3.out.size ?_
        case h3p => have := HR.out.2.2.2; unfold maxLen; omega
        case h4p => have := HR.out.2.2.2; omega
        intro v5 w5 hown5 hgrow hfresh
        have H5 : Hid (RwI wd w5 v5 (s.l.take p ++ [(⟨k, f, q, t, d⟩ : NtV)])) := Lib.hid (H3.out.app (by rw [List.length_take, Nat.min_eq_left HR.out.2.2.2.2.2.2]; exact hown5) rfl hgrow)
        clear hown5 hgrow hfresh HS2 HL3 H3
        have HL5 : Hid (w5.ownsRow wd.heap.size 51 5 v5 (p + 1) (ItE.flat (s.l.take p ++ [(⟨k, f, q, t, d⟩ : NtV)]))) := Lib.hid (by
          have := H5.out.row
          rw [List.length_append, List.length_take, Nat.min_eq_left HR.out.2.2.2.2.2.2] at this
          exact this)
        have HS3 : Hid (Src Tryz.prog 5 26 (.slice A2 r c2) r (ItE.flat (s.l.drop p)) w5) := Lib.hid (by
          rw [HA2.out, HC2.out]; exact src_sub (H5.out.rt HR.out.1 HR.out.2.1).at_ (H5.out.rt HR.out.1 HR.out.2.1).cap p r HR.out.2.2.2.1)
        refine hK.out _ _ (HC.out _ H5.out.kp) (fun hS0 => ?_)
        clear hK K
        refine Kq.wpAnyT_one (i := 18) (by kernel_rfl) rfl (fun K hK => ?_)
        rw [if_pos (by kernel_rfl)]
        refine Kq.wp_append_any _ (.tmp 39) (.tmp 45) 26 26 rfl wd.heap.size 51 i0 (.agg #[.int .i64 0, .int .u64 0, .int .u64 0, .string ⟨#[]⟩, .int .i64 0]) 5 48 Tryz.underlying26 hi0 hz0 hz1 hz2 rfl (by decide) v5 (p + 1) (ItE.flat (s.l.take p ++ [(⟨k, f, q, t, d⟩ : NtV)])) (by kernel_rfl) HL5.out (.slice A2 r c2) r (ItE.flat (s.l.drop p)) (by kernel_rfl) HS3.out ?h5p ?h6p H5.out.size ?_
        case h5p => have := HR.out.2.2.2; unfold maxLen; omega
        case h6p => have := HR.out.2.2.2; omega
        intro v7 w7 hown7 hgrow hfresh
        have H7 : Hid (RwI wd w7 v7 (tbR.ins s.l ⟨k, f, q, t, d⟩)) := Lib.hid (by
          rw [HCUT.out]
          exact H5.out.app (ys := s.l.drop p) (m := r) (v' := v7) (w' := w7) (by rw [List.length_append, List.length_take, Nat.min_eq_left HR.out.2.2.2.2.2.2]; exact hown7) (by rw [List.length_drop]; exact HR.out.2.2.2.1.symm) hgrow)
        clear hown7 hgrow hfresh HS3 HL5 H5
        obtain ⟨A7, c7, rfl⟩ := H7.out.shape
        refine hK.out _ _ (HC.out _ H7.out.kp) (fun hS0 => ?_)
        clear hK K
        refine Kq.wpAnyT_one (i := 19) (by kernel_rfl) rfl (fun K hK => ?_)
        go_simp
        refine hK.out _ _ (HC.out _ H7.out.kp) (fun hS0 => ?_)
        clear hK K
        have f0 := (H7.out.rt HR.out.1 HR.out.2.1).fz 0
        have c0 := (H7.out.rt HR.out.1 HR.out.2.1).c0
        have HEND : Hid (StepR w O B (.int .i64 0) ⟨s.room, tbR.ins s.l ⟨k, f, q, t, d⟩⟩ (.returned (.int .i64 0)) (w7.setCell ⟨B, 0, none⟩ (.slice A7 (tbR.ins s.l ⟨k, f, q, t, d⟩).length c7))) := Lib.hid (StepR.from HR.out.2.2.1 (H7.out.done HR.out.1 HR.out.2.1))
        clear H7 hS0
        refine Kq.wpAnyT_take (i := 20) (v := ?_) rfl rfl (by kernel_rfl) (by kernel_rfl) (by kernel_rfl) (by kernel_rfl) (fun _ _ _ h => h) (Or.inl ⟨by kernel_rfl, ?_⟩) (by assumption) ?_
        rotate_left
        · intro w hSw; (try dsimp only at hSw); go_simp; (try with_reducible rfl)
        refine Kq.wpAnyT_last (by kernel_rfl) rfl (fun K hK => ?_)
        go_simp
        refine hK.out _ _ ?_
        clear hK K
        refine Kq.wpAnyT_done (by kernel_rfl) ?_ _
        go_wp2
        go_ret
        rw [HE.out]
        exact HEND.out
      case g10x1 =>
        go_simp
        have b4 := Kq.below_alloc (wd.alloc (.cells #[] 51)) (.cells #[.int .i64 f, .int .u64 q, .int .u64 t, .string d, .int .i64 k] 51)
        have HIT : Hid (ItE.At ((wd.alloc (.cells #[] 51)).alloc (.cells #[.int .i64 f, .int .u64 q, .int .u64 t, .string d, .int .i64 k] 51)) (some ⟨(wd.alloc (.cells #[] 51)).heap.size, 0, none⟩) [(⟨k, f, q, t, d⟩ : NtV)]) := Lib.hid (by exact Kq.Elt.made_one (E := ItE) ⟨k, f, q, t, d⟩ (wd.alloc (.cells #[] 51)) 51)
        replace HX : Hid (RwI wd ((wd.alloc (.cells #[] 51)).alloc (.cells #[.int .i64 f, .int .u64 q, .int .u64 t, .string d, .int .i64 k] 51)) (.slice (some ⟨wd.heap.size, 0, none⟩) 0 0) []) := Lib.hid (HX.out.below b4)
        clear b4 HS1
        have HS1 := Lib.hid (src_pre cn (HX.out.rt HR.out.1 HR.out.2.1).at_ p HR.out.2.2.2.2.2.2)
        refine hK.out _ _ (HC.out _ HX.out.kp) (fun hS0 => ?_)
        clear hK K hS0
        refine Kq.wpAnyT_one (i := 8) (by kernel_rfl) rfl (fun K hK => ?_)
        rw [if_pos (by kernel_rfl)]
        refine Kq.wp_append_any _ (.tmp 29) (.tmp 35) 26 26 rfl wd.heap.size 51 i0 (.agg #[.int .i64 0, .int .u64 0, .int .u64 0, .string ⟨#[]⟩, .int .i64 0]) 5 48 Tryz.underlying26 hi0 hz0 hz1 hz2 rfl (by decide) (.slice (some ⟨wd.heap.size, 0, none⟩) 0 0) 0 (ItE.flat []) (by kernel_rfl) HX.out.row (.slice An p cn) p (ItE.flat (s.l.take p)) (by kernel_rfl) HS1.out ?h1q ?h2q HX.out.size ?_
        case h1q => have := HR.out.2.2.2; unfold maxLen; omega
        case h2q => have := HR.out.2.2.2; omega
        intro v3 w3 hown3 hgrow hfresh
        have H3 : Hid (RwI wd w3 v3 (s.l.take p)) := Lib.hid (by
          have := HX.out.app hown3 (by rw [List.length_take, Nat.min_eq_left HR.out.2.2.2.2.2.2]) hgrow
          simpa using this)
        have hne : wd.heap.size < (wd.alloc (.cells #[] 51)).heap.size := by simp
        obtain ⟨XB, hXB⟩ : ∃ XB, XB = (wd.alloc (.cells #[] 51)).heap.size := ⟨_, rfl⟩
        have HIT3 : Hid (ItE.At w3 (some ⟨XB, 0, none⟩) [(⟨k, f, q, t, d⟩ : NtV)]) := Lib.hid (by
          rw [hXB]
          exact HIT.out.keeps (Kq.Keeps.grown (S := (· = wd.heap.size)) hgrow (fun k _ h => (Option.some.inj h).symm)) (fun b' o e _ h2 => by
            injection e with e
            injection e with e
            have h3 : b' = wd.heap.size := h2
            omega))
        rw [show (wd.alloc (.cells #[] 51)).heap.size = wd.heap.size + 1 by simp] at hXB
        (try rw [← hXB])
        clear hown3 hgrow hfresh HX HS1 HIT hne hXB
        have HIT := HIT3
        obtain ⟨w4, hw4⟩ : ∃ z, z = w3 := ⟨_, rfl⟩
        rw [← hw4] at HIT H3 ⊢
        clear hw4 HIT3
        have HS2 : Hid (Src Tryz.prog 5 26 (.slice (some ⟨XB, 0, none⟩) 1 1) 1 (ItE.flat [(⟨k, f, q, t, d⟩ : NtV)]) w4) := Lib.hid (HIT.out.src Tryz.underlying26 1)
        refine hK.out _ _ (HC.out _ H3.out.kp) (fun hS0 => ?_)
        clear hK K hS0 HIT
        have HL3 : Hid (w4.ownsRow wd.heap.size 51 5 v3 p (ItE.flat (s.l.take p))) := Lib.hid (by
          have := H3.out.row
          rw [List.length_take, Nat.min_eq_left HR.out.2.2.2.2.2.2] at this
          exact this)
        refine Kq.wpAnyT_one (i := 11) (by kernel_rfl) rfl (fun K hK => ?_)
        rw [if_pos (by kernel_rfl)]
        refine Kq.wp_append_any _ (.tmp 36) (.tmp 38) 26 26 rfl wd.heap.size 51 i0 (.agg #[.int .i64 0, .int .u64 0, .int .u64 0, .string ⟨#[]⟩, .int .i64 0]) 5 48 Tryz.underlying26 hi0 hz0 hz1 hz2 rfl (by decide) v3 p (ItE.flat (s.l.take p)) (by kernel_rfl) HL3.out (.slice (some ⟨XB, 0, none⟩) 1 1) 1 (ItE.flat [(⟨k, f, q, t, d⟩ : NtV)]) (by kernel_rfl) HS2.out ?h3q ?h4q H3.out.size ?_
        case h3q => have := HR.out.2.2.2; unfold maxLen; omega
        case h4q => have := HR.out.2.2.2; omega
        intro v5 w5 hown5 hgrow hfresh
        have H5 : Hid (RwI wd w5 v5 (s.l.take p ++ [(⟨k, f, q, t, d⟩ : NtV)])) := Lib.hid (H3.out.app (by rw [List.length_take, Nat.min_eq_left HR.out.2.2.2.2.2.2]; exact hown5) rfl hgrow)
        clear hown5 hgrow hfresh HS2 HL3 H3
        have HL5 : Hid (w5.ownsRow wd.heap.size 51 5 v5 (p + 1) (ItE.flat (s.l.take p ++ [(⟨k, f, q, t, d⟩ : NtV)]))) := Lib.hid (by
          have := H5.out.row
          rw [List.length_append, List.length_take, Nat.min_eq_left HR.out.2.2.2.2.2.2] at this
          exact this)
        have HS3 : Hid (Src Tryz.prog 5 26 (.slice A2 r c2) r (ItE.flat (s.l.drop p)) w5) := Lib.hid (by
          rw [HA2.out, HC2.out]; exact src_sub (H5.out.rt HR.out.1 HR.out.2.1).at_ (H5.out.rt HR.out.1 HR.out.2.1).cap p r HR.out.2.2.2.1)
        refine hK.out _ _ (HC.out _ H5.out.kp) (fun hS0 => ?_)
        clear hK K
        refine Kq.wpAnyT_one (i := 18) (by kernel_rfl) rfl (fun K hK => ?_)
        rw [if_pos (by kernel_rfl)]
        refine Kq.wp_append_any _ (.tmp 39) (.tmp 45) 26 26 rfl wd.heap.size 51 i0 (.agg #[.int .i64 0, .int .u64 0, .int .u64 0, .string ⟨#[]⟩, .int .i64 0]) 5 48 Tryz.underlying26 hi0 hz0 hz1 hz2 rfl (by decide) v5 (p + 1) (ItE.flat (s.l.take p ++ [(⟨k, f, q, t, d⟩ : NtV)])) (by kernel_rfl) HL5.out (.slice A2 r c2) r (ItE.flat (s.l.drop p)) (by kernel_rfl) HS3.out ?h5q ?h6q H5.out.size ?_
        case h5q => have := HR.out.2.2.2; unfold maxLen; omega
        case h6q => have := HR.out.2.2.2; omega
        intro v7 w7 hown7 hgrow hfresh
        have H7 : Hid (RwI wd w7 v7 (tbR.ins s.l ⟨k, f, q, t, d⟩)) := Lib.hid (by
          rw [HCUT.out]
          exact H5.out.app (ys := s.l.drop p) (m := r) (v' := v7) (w' := w7) (by rw [List.length_append, List.length_take, Nat.min_eq_left HR.out.2.2.2.2.2.2]; exact hown7) (by rw [List.length_drop]; exact HR.out.2.2.2.1.symm) hgrow)
        clear hown7 hgrow hfresh HS3 HL5 H5
        obtain ⟨A7, c7, rfl⟩ := H7.out.shape
        refine hK.out _ _ (HC.out _ H7.out.kp) (fun hS0 => ?_)
        clear hK K
        refine Kq.wpAnyT_one (i := 19) (by kernel_rfl) rfl (fun K hK => ?_)
        go_simp
        refine hK.out _ _ (HC.out _ H7.out.kp) (fun hS0 => ?_)
        clear hK K
        have f0 := (H7.out.rt HR.out.1 HR.out.2.1).fz 0
        have c0 := (H7.out.rt HR.out.1 HR.out.2.1).c0
        have HEND : Hid (StepR w O B (.int .i64 0) ⟨s.room, tbR.ins s.l ⟨k, f, q, t, d⟩⟩ (.returned (.int .i64 0)) (w7.setCell ⟨B, 0, none⟩ (.slice A7 (tbR.ins s.l ⟨k, f, q, t, d⟩).length c7))) := Lib.hid (StepR.from HR.out.2.2.1 (H7.out.done HR.out.1 HR.out.2.1))
        clear H7 hS0
        refine Kq.wpAnyT_take (i := 20) (v := ?_) rfl rfl (by kernel_rfl) (by kernel_rfl) (by kernel_rfl) (by kernel_rfl) (fun _ _ _ h => h) (Or.inl ⟨by kernel_rfl, ?_⟩) (by assumption) ?_
        rotate_left
        · intro w hSw; (try dsimp only at hSw); go_simp; (try with_reducible rfl)
        refine Kq.wpAnyT_last (by kernel_rfl) rfl (fun K hK => ?_)
        go_simp
        refine hK.out _ _ ?_
        clear hK K
        refine Kq.wpAnyT_done (by kernel_rfl) ?_ _
        go_wp2
        go_ret
        rw [HE.out]
        exact HEND.out
    case g10 =>
      go_simp
      have HIT : Hid (ItE.At (wd.alloc (.cells #[.int .i64 f, .int .u64 q, .int .u64 t, .string d, .int .i64 k] 51)) (some ⟨wd.heap.size, 0, none⟩) [(⟨k, f, q, t, d⟩ : NtV)]) := Lib.hid (by exact Kq.Elt.made_one (E := ItE) ⟨k, f, q, t, d⟩ wd 51)
      have b1 := Kq.below_alloc wd (.cells #[.int .i64 f, .int .u64 q, .int .u64 t, .string d, .int .i64 k] 51)
      refine hK.out _ _ (HC.out _ (Kq.Keeps.alloc _ _ _)) (fun hS0 => ?_)
      clear hK K hS0
      refine Kq.wpAnyT_one (i := 1) (by kernel_rfl) rfl (fun K hK => ?_)
      go_simp
      have HX : Hid (RwI wd ((wd.alloc (.cells #[.int .i64 f, .int .u64 q, .int .u64 t, .string d, .int .i64 k] 51)).alloc (.cells #[] 51)) (.slice (some ⟨wd.heap.size + 1, 0, none⟩) 0 0) []) := Lib.hid (by
        have h1 := RwI.start (wd.alloc (.cells #[.int .i64 f, .int .u64 q, .int .u64 t, .string d, .int .i64 k] 51))
        have hz : (wd.alloc (.cells #[.int .i64 f, .int .u64 q, .int .u64 t, .string d, .int .i64 k] 51)).heap.size = wd.heap.size + 1 := by simp
        rw [hz] at h1
        have h2 := h1.row
        rw [hz] at h2
        refine ⟨⟨h2.1, ?_⟩, ((Kq.Keeps.alloc (fun k => wd.heap.size ≤ k) wd _).trans (Kq.Keeps.alloc _ _ _))⟩
        rcases h2.2 with h3 | ⟨g, cap, cur, e, hge, h4⟩
        · exact Or.inl h3
        · exact Or.inr ⟨g, cap, cur, e, by omega, h4⟩)
      replace HIT : Hid (ItE.At ((wd.alloc (.cells #[.int .i64 f, .int .u64 q, .int .u64 t, .string d, .int .i64 k] 51)).alloc (.cells #[] 51)) (some ⟨wd.heap.size, 0, none⟩) [(⟨k, f, q, t, d⟩ : NtV)]) := Lib.hid (HIT.out.below (Kq.below_alloc _ _))
      clear b1
      have HS1 := Lib.hid (src_pre cn (HX.out.rt HR.out.1 HR.out.2.1).at_ p HR.out.2.2.2.2.2.2)
      refine hK.out _ _ (HC.out _ HX.out.kp) (fun hS0 => ?_)
      clear hK K hS0
      refine Kq.wpAnyT_one (i := 8) (by kernel_rfl) rfl (fun K hK => ?_)
      rw [if_pos (by kernel_rfl)]
      refine Kq.wp_append_any _ (.tmp 29) (.tmp 35) 26 26 rfl wd.heap.size 51 i0 (.agg #[.int .i64 0, .int .u64 0, .int .u64 0, .string ⟨#[]⟩, .int .i64 0]) 5 48 Tryz.underlying26 hi0 hz0 hz1 hz2 rfl (by decide) (.slice (some ⟨wd.heap.size + 1, 0, none⟩) 0 0) 0 (ItE.flat []) (by kernel_rfl) HX.out.row (.slice An p cn) p (ItE.flat (s.l.take p)) (by kernel_rfl) HS1.out ?h1r ?h2r HX.out.size ?_
      case h1r => have := HR.out.2.2.2; unfold maxLen; omega
      case h2r => have := HR.out.2.2.2; omega
      intro v3 w3 hown3 hgrow hfresh
      have H3 : Hid (RwI wd w3 v3 (s.l.take p)) := Lib.hid (by
        have := HX.out.app hown3 (by rw [List.length_take, Nat.min_eq_left HR.out.2.2.2.2.2.2]) hgrow
        simpa using this)
      obtain ⟨XB, hXB⟩ : ∃ XB, XB = wd.heap.size := ⟨_, rfl⟩
      have HIT3 : Hid (ItE.At w3 (some ⟨XB, 0, none⟩) [(⟨k, f, q, t, d⟩ : NtV)]) := Lib.hid (by
        rw [hXB]
        exact HIT.out.keeps (Kq.Keeps.grown (S := (· = wd.heap.size + 1)) hgrow (fun k _ h => (Option.some.inj h).symm)) (fun b' o e _ h2 => by
          injection e with e
          injection e with e
          have h3 : b' = wd.heap.size + 1 := h2
          omega))
      have HB3 : Hid (wd.heap.size = XB) := Lib.hid hXB.symm
      clear hown3 hgrow hfresh HX HS1 HIT
      have HIT := HIT3
      obtain ⟨w4, hw4⟩ : ∃ z, z = w3 := ⟨_, rfl⟩
      rw [← hw4] at HIT H3 ⊢
      clear hw4 HIT3
      have HS2 : Hid (Src Tryz.prog 5 26 (.slice (some ⟨XB, 0, none⟩) 1 1) 1 (ItE.flat [(⟨k, f, q, t, d⟩ : NtV)]) w4) := Lib.hid (HIT.out.src Tryz.underlying26 1)
      refine hK.out _ _ (HC.out _ H3.out.kp) (fun hS0 => ?_)
      clear hK K hS0 HIT
      have HL3 : Hid (w4.ownsRow wd.heap.size 51 5 v3 p (ItE.flat (s.l.take p))) := Lib.hid (by
        have := H3.out.row
        rw [List.length_take, Nat.min_eq_left HR.out.2.2.2.2.2.2] at this
        exact this)
      refine Kq.wpAnyT_one (i := 11) (by kernel_rfl) rfl (fun K hK => ?_)
      rw [if_pos (by kernel_rfl)]
      refine Kq.wp_append_any _ (.tmp 36) (.tmp 38) 26 26 rfl wd.heap.size 51 i0 (.agg #[.int .i64 0, .int .u64 0, .int .u64 0, .string ⟨#[]⟩, .int .i64 0]) 5 48 Tryz.underlying26 hi0 hz0 hz1 hz2 rfl (by decide) v3 p (ItE.flat (s.l.take p)) (by kernel_rfl) HL3.out (.slice (some ⟨wd.heap.size, 0, none⟩) 1 1) 1 (ItE.flat [(⟨k, f, q, t, d⟩ : NtV)]) (by kernel_rfl) (by rw [HB3.out]; exact HS2.out) ?h3r ?h4r H3.out.size ?_
      case h3r => have := HR.out.2.2.2; unfold maxLen; omega
      case h4r => have := HR.out.2.2.2; omega
      intro v5 w5 hown5 hgrow hfresh
      have H5 : Hid (RwI wd w5 v5 (s.l.take p ++ [(⟨k, f, q, t, d⟩ : NtV)])) := Lib.hid (H3.out.app (by rw [List.length_take, Nat.min_eq_left HR.out.2.2.2.2.2.2]; exact hown5) rfl hgrow)
      clear hown5 hgrow hfresh HS2 HL3 H3
      have HL5 : Hid (w5.ownsRow wd.heap.size 51 5 v5 (p + 1) (ItE.flat (s.l.take p ++ [(⟨k, f, q, t, d⟩ : NtV)]))) := Lib.hid (by
        have := H5.out.row
        rw [List.length_append, List.length_take, Nat.min_eq_left HR.out.2.2.2.2.2.2] at this
        exact this)
      have HS3 : Hid (Src Tryz.prog 5 26 (.slice A2 r c2) r (ItE.flat (s.l.drop p)) w5) := Lib.hid (by
        rw [HA2.out, HC2.out]; exact src_sub (H5.out.rt HR.out.1 HR.out.2.1).at_ (H5.out.rt HR.out.1 HR.out.2.1).cap p r HR.out.2.2.2.1)
      refine hK.out _ _ (HC.out _ H5.out.kp) (fun hS0 => ?_)
      clear hK K
      refine Kq.wpAnyT_one (i := 18) (by kernel_rfl) rfl (fun K hK => ?_)
      rw [if_pos (by kernel_rfl)]
      refine Kq.wp_append_any _ (.tmp 39) (.tmp 45) 26 26 rfl wd.heap.size 51 i0 (.agg #[.int .i64 0, .int .u64 0, .int .u64 0, .string ⟨#[]⟩, .int .i64 0]) 5 48 Tryz.underlying26 hi0 hz0 hz1 hz2 rfl (by decide) v5 (p + 1) (ItE.flat (s.l.take p ++ [(⟨k, f, q, t, d⟩ : NtV)])) (by kernel_rfl) HL5.out (.slice A2 r c2) r (ItE.flat (s.l.drop p)) (by kernel_rfl) HS3.out ?h5r ?h6r H5.out.size ?_
      case h5r => have := HR.out.2.2.2; unfold maxLen; omega
      case h6r => have := HR.out.2.2.2; omega
      intro v7 w7 hown7 hgrow hfresh
      have H7 : Hid (RwI wd w7 v7 (tbR.ins s.l ⟨k, f, q, t, d⟩)) := Lib.hid (by
        rw [HCUT.out]
        exact H5.out.app (ys := s.l.drop p) (m := r) (v' := v7) (w' := w7) (by rw [List.length_append, List.length_take, Nat.min_eq_left HR.out.2.2.2.2.2.2]; exact hown7) (by rw [List.length_drop]; exact HR.out.2.2.2.1.symm) hgrow)
      clear hown7 hgrow hfresh HS3 HL5 H5
      obtain ⟨A7, c7, rfl⟩ := H7.out.shape
      refine hK.out _ _ (HC.out _ H7.out.kp) (fun hS0 => ?_)
      clear hK K
      refine Kq.wpAnyT_one (i := 19) (by kernel_rfl) rfl (fun K hK => ?_)
      go_simp
      refine hK.out _ _ (HC.out _ H7.out.kp) (fun hS0 => ?_)
      clear hK K
      have f0 := (H7.out.rt HR.out.1 HR.out.2.1).fz 0
      have c0 := (H7.out.rt HR.out.1 HR.out.2.1).c0
      have HEND : Hid (StepR w O B (.int .i64 0) ⟨s.room, tbR.ins s.l ⟨k, f, q, t, d⟩⟩ (.returned (.int .i64 0)) (w7.setCell ⟨B, 0, none⟩ (.slice A7 (tbR.ins s.l ⟨k, f, q, t, d⟩).length c7))) := Lib.hid (StepR.from HR.out.2.2.1 (H7.out.done HR.out.1 HR.out.2.1))
      clear H7 hS0
      refine Kq.wpAnyT_take (i := 20) (v := ?_) rfl rfl (by kernel_rfl) (by kernel_rfl) (by kernel_rfl) (by kernel_rfl) (fun _ _ _ h => h) (Or.inl ⟨by kernel_rfl, ?_⟩) (by assumption) ?_
      rotate_left
      · intro w hSw; (try dsimp only at hSw); go_simp; (try with_reducible rfl)
      refine Kq.wpAnyT_last (by kernel_rfl) rfl (fun K hK => ?_)
      go_simp
      refine hK.out _ _ ?_
      clear hK K
      refine Kq.wpAnyT_done (by kernel_rfl) ?_ _
      go_wp2
      go_ret
      rw [HE.out]
      exact HEND.out
end
end Go.Proofs.YtkbiolhcpghmkaaGreat
