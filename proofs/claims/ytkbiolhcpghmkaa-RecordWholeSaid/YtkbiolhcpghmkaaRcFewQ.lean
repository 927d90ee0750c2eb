/- Merged: RcChk, RcFew. Contract of record's Check. Condition: a state of the arguments. Contracts of the laws' few, of SameState at like states. Condition: a record, states of the arguments. -/
import Derived.WalkSpells
import Derived.Outline
import Derived.Deep.RegionHeld
import Derived.Test.YtkbiolhcpghmkaaRcBytesQ
import Derived.Test.YtkbiolhcpghmkaaRcEqQ
import Derived.Test.YtkbiolhcpghmkaaNtSameIQ
namespace Go.Proofs.Ytkbiolhcpghmkaa
open Go.RowKit
set_option linter.unusedVariables false
/-- may a state be? -/
def chkV (d : DaV) (r : Int) : Int := if d.p0.ok ∧ d.p1.ok then (ofV r d.l).2.elim (ofV r d.l).1 (fun acc => if acc = d.l then 0 else 15) else 1
structure DaW (w : World) (A : Option Addr) (d : DaV) : Prop where
  p0 : d.p0.wf
  p1 : d.p1.wf
  l : EnAt NtV.ic w A d.l
  lw : ∀ n ∈ d.l, n.wf
  ll : d.l.length ≤ 300
theorem DaW.below {w w' : World} {A : Option Addr} {d : DaV} (h : DaW w A d) (hb : Below w.heap.size w w') : DaW w' A d := ⟨h.p0, h.p1, h.l.below hb, h.lw, h.ll⟩
def DaX (w : World) (X : Nat) (A : Option Addr) (ca : Nat) (d : DaV) : Prop := w.heap[X]? = some (.cells #[.int .u64 d.p0.h, .int .i64 d.p0.i, .int .u64 d.p1.h, .int .i64 d.p1.i, .slice A d.l.length ca] 32 (0, 0))
set_option maxRecDepth 100000 in
set_option maxHeartbeats 4000000 in
theorem rec_check (A : Option Addr) (ca : Nat) (d : DaV) (r : Int) (w : World) (hd : DaW w A d) :
    Calls Try.prog 10 #[.agg #[.int .u64 d.p0.h, .int .i64 d.p0.i, .int .u64 d.p1.h, .int .i64 d.p1.i, .slice A d.l.length ca], .int .i64 r] w fun x w' => x = .returned (.int .i64 (chkV d r)) ∧ Below w.heap.size w w' := by
  obtain ⟨p0, p1, l⟩ := d
  obtain ⟨w1, hw1⟩ : ∃ z, z = w.alloc (.cells #[.int .u64 p0.h, .int .i64 p0.i, .int .u64 p1.h, .int .i64 p1.i, .slice A l.length ca] 32) := ⟨_, rfl⟩
  obtain ⟨X, hX⟩ : ∃ X, X = w.heap.size := ⟨_, rfl⟩
  have H1 : Hid (Below w.heap.size w w1 ∧ DaX w1 X A ca ⟨p0, p1, l⟩ ∧ w1.heap.size = w.heap.size + 1) := Lib.hid (by
    have hb := Kq.below_alloc w (.cells #[.int .u64 p0.h, .int .i64 p0.i, .int .u64 p1.h, .int .i64 p1.i, .slice A l.length ca] 32)
    have hr := Kq.blk_new w #[.int .u64 p0.h, .int .i64 p0.i, .int .u64 p1.h, .int .i64 p1.i, .slice A l.length ca] 32 (0, 0)
    rw [← hw1, ← hX] at hr
    rw [← hw1] at hb
    exact ⟨hb, hr, by rw [hw1]; simp⟩)
  have HD := Lib.hid hd
  have hb2 := Kq.below_alloc w1 (.cells #[.int .i64 0, .slice none 0 0] 60)
  have HX : Hid (DaX (w1.alloc (.cells #[.int .i64 0, .slice none 0 0] 60)) X A ca ⟨p0, p1, l⟩ ∧ X < w1.heap.size ∧ Below w1.heap.size w1 (w1.alloc (.cells #[.int .i64 0, .slice none 0 0] 60))) := Lib.hid ⟨Kq.below_blk hb2 H1.out.2.1 (Kq.blk_lt H1.out.2.1), Kq.blk_lt H1.out.2.1, hb2⟩
  have HZ : Hid (Wr (w1.alloc (.cells #[.int .i64 0, .slice none 0 0] 60)) w1.heap.size w1.heap.size 0 (.slice none 0 0) []) := Lib.hid (wr_new w1)
  have HS1 : Hid (w.heap.size + 1 = w1.heap.size) := Lib.hid H1.out.2.2.symm
  have c0 := Kq.blk_cell HX.out.1 0
  have c1 := Kq.blk_cell HX.out.1 1
  simp only at c0 c1
  clear hd hb2
  rw [hw1] at c0 c1
  go_enter Try.func10, Try.ntmps10
  go_wp2_with fail
  rw [HS1.out, ← hX]
  rw [← hw1]
  clear c0 c1
  obtain ⟨wz, hwz⟩ : ∃ z, z = w1.alloc (.cells #[.int .i64 0, .slice none 0 0] 60) := ⟨_, rfl⟩
  rw [← hwz] at HX HZ ⊢
  clear hwz hw1 hX
  have HRG : Hid ((0 ≤ p0.h ∧ p0.h < 18446744073709551616) ∧ (0 ≤ p1.h ∧ p1.h < 18446744073709551616) ∧ l.length ≤ 300) := Lib.hid ⟨HD.out.p0.range, HD.out.p1.range, HD.out.ll⟩
  refine (nt_place_step w1.heap.size w1.heap.size 0 (.slice none 0 0) [] p0.h p0.i wz HZ.out HRG.out.1 (by simp)).mono ?_
  intro x w2 hp
  have H2 := Lib.hid hp
  obtain ⟨rfl, -⟩ := hp.any
  clear hp
  obtain ⟨-, e1, l1, v1, W1, K1, F1, s1, g1, b1⟩ := H2.out.any
  have HXK : Hid (∀ w' : World, Kq.Keeps (fun k => k = w1.heap.size ∨ some k = (Value.slice none 0 0).ownBlock) wz w' → DaX w' X A ca ⟨p0, p1, l⟩ ∧ Below w.heap.size w w') := Lib.hid (fun w' hk => ⟨hk.blk HX.out.1 (fun h => by
    rcases h with h | h
    · have := HX.out.2.1; omega
    · cases h), (H1.out.1.trans (HX.out.2.2.mono H1.out.1.size)).trans (hk.below (Nat.le_trans H1.out.1.size HX.out.2.2.size) (fun k _ h => by
      rcases h with h | h
      · have := H1.out.1.size; omega
      · cases h))⟩)
  have HS2 := Lib.hid (And.intro W1 (And.intro K1 (And.intro F1 (And.intro s1 (And.intro g1 b1)))))
  have hx2 := (HXK.out w2 K1).1
  have c2 := Kq.blk_cell hx2 2
  have c3 := Kq.blk_cell hx2 3
  simp only at c2 c3
  have hl1 : l1.length ≤ 1000 := by simp only [List.length_nil] at s1; omega
  clear W1 K1 F1 s1 g1 b1 hx2 H2
  go_wp2_with fail
  clear c2 c3
  refine (nt_place_step w1.heap.size w1.heap.size e1 v1 l1 p1.h p1.i w2 HS2.out.1 HRG.out.2.1 (by omega)).mono ?_
  intro x w3 hp
  have H3 := Lib.hid (WrStep.then HS2.out.1 HS2.out.2.1 HS2.out.2.2.1 HS2.out.2.2.2.1 HS2.out.2.2.2.2.1 HS2.out.2.2.2.2.2 hp)
  obtain ⟨rfl, -⟩ := hp.any
  clear hp HS2 hl1
  obtain ⟨-, e2, l2, v2, W2, K2, F2, s2, g2, b2⟩ := H3.out.any
  have H4 := Lib.hid (HXK.out w3 K2)
  by_cases hok : PlV.ok p0 ∧ PlV.ok p1
  case neg =>
    have he2 : e2 = 1 := b2 hok
    have HW := Lib.hid W2
    have HE : Hid (chkV ⟨p0, p1, l⟩ r = 1) := Lib.hid (if_neg hok)
    subst he2
    clear W2 K2 F2 s2 g2 b2 hok H3
    go_wp2_with fail
    refine (wr_bytes_bad _ _ 1 v2 l2 w3 HW.out (by decide)).mono ?_
    rintro x w4 ⟨rfl, hw4⟩
    subst hw4
    go_wp2
    go_ret
    exact ⟨by rw [HE.out]; rfl, H4.out.2⟩
  obtain ⟨he2, hl2⟩ := g2 hok
  have HE : Hid (chkV ⟨p0, p1, l⟩ r = (ofV r l).2.elim (ofV r l).1 (fun acc => if acc = l then 0 else 15)) := Lib.hid (if_pos hok)
  have HW : Hid (Wr w3 w1.heap.size w1.heap.size 0 v2 l2 ∧ ∀ b ∈ l2, b < 256) := Lib.hid ⟨by rw [← he2]; exact W2, by
    rw [hl2]
    intro b hb
    rcases List.mem_append.1 hb with hb | hb
    · cases hb
    rcases List.mem_append.1 hb with hb | hb
    · exact plb_lt p0 b hb
    · exact plb_lt p1 b hb⟩
  subst he2
  clear W2 K2 F2 s2 g2 b2 hok H3 hl2
  have c4 := Kq.blk_cell H4.out.1 4
  simp only at c4
  go_wp2_with fail
  refine (wr_bytes_ok _ _ v2 l2 w3 HW.out.1 HW.out.2).mono ?_
  rintro x w4 ⟨rfl, hw4⟩
  subst hw4
  go_wp2_with fail
  refine (tb_of w3 r l A ca (HD.out.l.below H4.out.2) HD.out.lw (by have := HRG.out.2.2; omega)).mono ?_
  rintro x w5 ⟨b5, hx⟩
  have H5 : Hid (Below w.heap.size w w5 ∧ DaX w5 X A ca ⟨p0, p1, l⟩) := Lib.hid ⟨H4.out.2.trans (b5.mono H4.out.2.size), Kq.below_blk b5 H4.out.1 (Kq.blk_lt H4.out.1)⟩
  clear c4
  rcases hx with ⟨e, he, hv, rfl⟩ | ⟨B, acc, hv, rfl, htb, htok⟩
  · have e3 : (e != 0) = true := by rw [bne_iff_ne]; exact he
    have HE2 : Hid (chkV ⟨p0, p1, l⟩ r = e) := Lib.hid (by rw [HE.out, hv]; rfl)
    clear he hv b5
    go_wp2
    go_ret
    exact ⟨by rw [HE2.out]; rfl, H5.out.1⟩
  · have HE2 : Hid (chkV ⟨p0, p1, l⟩ r = if acc = l then 0 else 15) := Lib.hid (by rw [HE.out, hv]; rfl)
    have H6 : Hid (OneT (· < w3.heap.size) w5 B ⟨r.toNat, acc⟩ ∧ TbOk ⟨r.toNat, acc⟩) := Lib.hid ⟨⟨_, htb, fun k hk => ⟨Nat.not_lt.2 hk.1, hk.2⟩⟩, htok⟩
    clear hv b5 htb htok
    go_wp2
    have HC : Hid (∀ w', Below w5.heap.size w5 w' → w'.cell? ⟨X, 4, none⟩ = some (.slice A l.length ca) ∧ EnAt NtV.ic w' A l ∧ Below w.heap.size w w') := Lib.hid (fun w' hb => ⟨Kq.blk_cell (Kq.below_blk hb H5.out.2 (Kq.blk_lt H5.out.2)) 4, HD.out.l.below (H5.out.1.trans (hb.mono H5.out.1.size)), H5.out.1.trans (hb.mono H5.out.1.size)⟩)
    refine wp_region_held_drew (S := fun w' => w'.cell? ⟨X, 4, none⟩ = some (.slice A l.length ca)) (by kernel_rfl) (HC.out _ (Below.refl _ _).drew).1 (fun hS0 => ?_)
    obtain ⟨wd, hwd⟩ : ∃ z, z = w5.drew := ⟨_, rfl⟩
    have HDW : Hid (Below w5.heap.size w5 wd) := Lib.hid (by rw [hwd]; exact (Below.refl _ _).drew)
    rw [← hwd] at hS0 ⊢
    clear hwd
    refine wpAnyH_take (i := 0) (v := ?_) rfl (by kernel_rfl) (by kernel_rfl) (by kernel_rfl) (fun _ _ _ h => h) (Or.inl ⟨by kernel_rfl, ?_⟩) (by assumption) ?_
    rotate_left
    · intro w hSw; (try dsimp only at hSw); go_simp; (try with_reducible rfl)
    refine wpAnyH_take (i := 2) (v := ?_) rfl (by kernel_rfl) (by kernel_rfl) (by kernel_rfl) (fun _ _ _ h => h) (Or.inl ⟨by kernel_rfl, ?_⟩) (by assumption) ?_
    rotate_left
    · intro w hSw; (try dsimp only at hSw); go_simp; (try with_reducible rfl)
    refine wpAnyH_take (i := 3) (v := ?_) rfl (by kernel_rfl) (by kernel_rfl) (by kernel_rfl) (fun _ _ _ h => h) (Or.inl ⟨by kernel_rfl, ?_⟩) (by assumption) ?_
    rotate_left
    · intro w hSw; (try dsimp only at hSw); go_simp; (try with_reducible rfl)
    refine wpAnyH_ready (rs := [1]) (by kernel_rfl) (by simp) ?_
    refine AllReadyH.cons rfl (fun K hK => ?_) AllReadyH.nil
    go_simp
    refine (ot_items (H6.out.1.below HDW.out) H6.out.2).mono ?_
    rintro x w6 ⟨v, rfl, ⟨A6, c6, rfl, -, hat6, -⟩, b6⟩
    have H7 : Hid (Below w5.heap.size w5 w6 ∧ EnAt NtV.ic w6 A6 acc) := Lib.hid ⟨HDW.out.trans (b6.mono HDW.out.size), hat6⟩
    clear b6 hat6 hS0 HDW
    refine hK.out _ _ (HC.out _ H7.out.1).1 (fun hS0 => ?_)
    clear hK K
    refine wpAnyH_ready (rs := [4]) (by kernel_rfl) (by simp) ?_
    refine AllReadyH.cons rfl (fun K hK => ?_) AllReadyH.nil
    go_simp
    refine (items_equal A6 A c6 ca acc l w6 H7.out.2 (HC.out _ H7.out.1).2.1 (by have h1 := H6.out.2.len; have h2 := H6.out.2.r40; have h3 : acc.length ≤ r.toNat := h1; have h4 : r.toNat ≤ 40 := h2; omega)).mono ?_
    rintro x w7 ⟨rfl, b7⟩
    have H8 := Lib.hid (H7.out.1.trans (b7.mono H7.out.1.size))
    clear b7 hS0 H7
    obtain ⟨z, hz⟩ : ∃ z, z = decide (acc = l) := ⟨_, rfl⟩
    rw [← hz]
    have HZZ : Hid (chkV ⟨p0, p1, l⟩ r = if z = true then 0 else 15) := Lib.hid (by rw [HE2.out, hz]; by_cases g : acc = l <;> simp [g])
    clear hz
    refine hK.out _ _ (HC.out _ H8.out).1 (fun hS0 => ?_)
    clear hK K
    refine wpAnyH_take (i := 5) (v := ?_) rfl (by kernel_rfl) (by kernel_rfl) (by kernel_rfl) (fun _ _ _ h => h) (Or.inl ⟨by kernel_rfl, ?_⟩) (by assumption) ?_
    rotate_left
    · intro w hSw; (try dsimp only at hSw); go_simp; (try with_reducible rfl)
    refine wpAnyH_done (by kernel_rfl) ?_ _
    clear hS0
    have H9 := Lib.hid (HC.out _ H8.out).2.2
    go_simp
    cases z with
    | true =>
      go_wp2
      go_ret
      exact ⟨by rw [HZZ.out]; rfl, H9.out⟩
    | false =>
      go_wp2
      go_ret
      exact ⟨by rw [HZZ.out]; rfl, H9.out⟩
end Go.Proofs.Ytkbiolhcpghmkaa
namespace Go.Proofs.Ytkbiolhcpghmkaa
open Go.RowKit
set_option linter.unusedVariables false
/-- few parts, and short ones -/
def FewR (r : ReV) : Prop := (r.ns.length ≤ 300 ∧ r.d.l.length ≤ 300) ∧ (∀ n ∈ r.ns, n.d.size ≤ 300) ∧ ∀ n ∈ r.d.l, n.d.size ≤ 300
instance (r : ReV) : Decidable (FewR r) := by unfold FewR; infer_instance
set_option maxRecDepth 100000 in
theorem pa_like (a b : PlV) (ha : a.wf) (hb : b.wf) (w : World) : (binOp .eql 29 (.agg #[.int .u64 a.h, .int .i64 a.i, .int .u64 b.h, .int .i64 b.i]) (.agg #[.int .u64 a.h, .int .i64 a.i, .int .u64 b.h, .int .i64 b.i])).run Try.prog w = .ok (.bool true) w := by
  have hk : Try.prog.keyTypeAt 4 29 = true := by kernel_rfl
  have k4 : Try.prog.cellsOf 29 = 4 := by kernel_rfl
  have hf : (Value.agg #[.int .u64 a.h, .int .i64 a.i, .int .u64 b.h, .int .i64 b.i]).formed Try.prog 29 = true := by
    unfold Value.formed
    rw [Try.underlying29]
    simp [k4]
  obtain ⟨r, hr, hiff⟩ := run_equalIn_deep (P := Try.prog) 9996 4 29 hk w 4 4 _ _ _ _ hf hf (kl_places a b ha hb) (kl_places a b ha hb)
  rw [hiff.2 rfl] at hr
  rw [run_eql_struct]
  rw [show (10000 : Nat) = 9996 + 4 from rfl, hr]
  rfl
set_option maxRecDepth 100000 in
set_option maxHeartbeats 1000000 in
theorem same_state (A C : Option Addr) (ca cc : Nat) (d : DaV) (w : World) (h0 : d.p0.wf) (h1 : d.p1.wf) (hA : EnAt NtV.ic w A d.l) (hC : EnAt NtV.ic w C d.l) (hl : d.l.length ≤ 300) :
    Calls Try.prog 12 #[.agg #[.int .u64 d.p0.h, .int .i64 d.p0.i, .int .u64 d.p1.h, .int .i64 d.p1.i, .slice A d.l.length ca], .agg #[.int .u64 d.p0.h, .int .i64 d.p0.i, .int .u64 d.p1.h, .int .i64 d.p1.i, .slice C d.l.length cc]] w fun x w' => x = .returned (.bool true) ∧ Below w.heap.size w w' := by
  obtain ⟨p0, p1, l⟩ := d
  have pq := fun w => pa_like p0 p1 h0 h1 w
  have hb1 := Kq.below_alloc w (.cells #[.int .u64 p0.h, .int .i64 p0.i, .int .u64 p1.h, .int .i64 p1.i, .slice A l.length ca] 32)
  have hb2 := Kq.below_alloc (w.alloc (.cells #[.int .u64 p0.h, .int .i64 p0.i, .int .u64 p1.h, .int .i64 p1.i, .slice A l.length ca] 32)) (.cells #[.int .u64 p0.h, .int .i64 p0.i, .int .u64 p1.h, .int .i64 p1.i, .slice C l.length cc] 32)
  have HB := Lib.hid (hb1.trans (hb2.mono hb1.size))
  have HA : Hid (EnAt NtV.ic ((w.alloc (.cells #[.int .u64 p0.h, .int .i64 p0.i, .int .u64 p1.h, .int .i64 p1.i, .slice A l.length ca] 32)).alloc (.cells #[.int .u64 p0.h, .int .i64 p0.i, .int .u64 p1.h, .int .i64 p1.i, .slice C l.length cc] 32)) A l ∧ EnAt NtV.ic ((w.alloc (.cells #[.int .u64 p0.h, .int .i64 p0.i, .int .u64 p1.h, .int .i64 p1.i, .slice A l.length ca] 32)).alloc (.cells #[.int .u64 p0.h, .int .i64 p0.i, .int .u64 p1.h, .int .i64 p1.i, .slice C l.length cc] 32)) C l ∧ l.length ≤ 300) := Lib.hid ⟨(hA.below hb1).below hb2, (hC.below hb1).below hb2, hl⟩
  clear h0 h1 hA hC hl hb1 hb2
  go_enter Try.func12, Try.ntmps12
  go_wp2_with fail
  refine (same_items A C ca cc l _ HA.out.1 HA.out.2.1 HA.out.2.2).mono ?_
  rintro x w2 ⟨rfl, b2⟩
  have H2 := Lib.hid (HB.out.trans (b2.mono HB.out.size))
  clear b2 HB HA
  go_wp2
  go_ret
  exact ⟨by simp, H2.out⟩
set_option maxRecDepth 100000 in
set_option maxHeartbeats 2000000 in
theorem few17 (A : Option Addr) (ca : Nat) (C : Option Addr) (cc : Nat) (r : ReV) (w : World) (hl : EnAt NtV.ic w A r.d.l) (hn : EnAt NtV.nc w C r.ns) :
    Calls Try.prog 7 #[.agg #[.int .i64 r.k, .int .u64 r.d.p0.h, .int .i64 r.d.p0.i, .int .u64 r.d.p1.h, .int .i64 r.d.p1.i, .slice A r.d.l.length ca, .int .i64 r.c, .int .u64 r.p.h, .int .i64 r.p.i, .slice C r.ns.length cc]] w fun x w' => x = .returned (.bool (decide (FewR r))) ∧ Below w.heap.size w w' := by
  obtain ⟨E, hE⟩ : ∃ E, E = decide (FewR r) := ⟨_, rfl⟩
  rw [← hE]
  have HE := Lib.hid hE
  obtain ⟨k, ⟨p0, p1, l⟩, c, p, ns⟩ := r
  simp only at hl hn
  have hb := Kq.below_alloc w (.cells #[.int .i64 k, .int .u64 p0.h, .int .i64 p0.i, .int .u64 p1.h, .int .i64 p1.i, .slice A l.length ca, .int .i64 c, .int .u64 p.h, .int .i64 p.i, .slice C ns.length cc] 35)
  have hr := Kq.blk_new w #[.int .i64 k, .int .u64 p0.h, .int .i64 p0.i, .int .u64 p1.h, .int .i64 p1.i, .slice A l.length ca, .int .i64 c, .int .u64 p.h, .int .i64 p.i, .slice C ns.length cc] 35 (0, 0)
  have H0 : Hid (Below w.heap.size w (w.alloc (.cells #[.int .i64 k, .int .u64 p0.h, .int .i64 p0.i, .int .u64 p1.h, .int .i64 p1.i, .slice A l.length ca, .int .i64 c, .int .u64 p.h, .int .i64 p.i, .slice C ns.length cc] 35)) ∧ EnAt NtV.ic (w.alloc (.cells #[.int .i64 k, .int .u64 p0.h, .int .i64 p0.i, .int .u64 p1.h, .int .i64 p1.i, .slice A l.length ca, .int .i64 c, .int .u64 p.h, .int .i64 p.i, .slice C ns.length cc] 35)) A l ∧ EnAt NtV.nc (w.alloc (.cells #[.int .i64 k, .int .u64 p0.h, .int .i64 p0.i, .int .u64 p1.h, .int .i64 p1.i, .slice A l.length ca, .int .i64 c, .int .u64 p.h, .int .i64 p.i, .slice C ns.length cc] 35)) C ns) := Lib.hid ⟨hb, hl.below hb, hn.below hb⟩
  have HRB : Hid (RecX (w.alloc (.cells #[.int .i64 k, .int .u64 p0.h, .int .i64 p0.i, .int .u64 p1.h, .int .i64 p1.i, .slice A l.length ca, .int .i64 c, .int .u64 p.h, .int .i64 p.i, .slice C ns.length cc] 35)) w.heap.size A ca C cc ⟨k, ⟨p0, p1, l⟩, c, p, ns⟩) := Lib.hid hr
  clear hl hn hb hr hE
  by_cases h1 : 300 < ns.length
  · have d1 : decide ((300 : Int) < (ns.length : Int)) = true := decide_eq_true (by omega)
    have d1' : decide (300 < ns.length) = true := decide_eq_true h1
    have HF : Hid (E = false) := Lib.hid (by rw [HE.out]; exact decide_eq_false (fun h => by have := h.1.1; simp only at this; omega))
    clear h1
    go_enter Try.func7, Try.ntmps7
    go_wp2
    go_ret
    exact ⟨by rw [HF.out]; rfl, H0.out.1⟩
  have d1 : decide ((300 : Int) < (ns.length : Int)) = false := decide_eq_false (by omega)
  have d1' : decide (300 < ns.length) = false := decide_eq_false h1
  by_cases h2 : 300 < l.length
  · have d2 : decide ((300 : Int) < (l.length : Int)) = true := decide_eq_true (by omega)
    have d2' : decide (300 < l.length) = true := decide_eq_true h2
    have HF : Hid (E = false) := Lib.hid (by rw [HE.out]; exact decide_eq_false (fun h => by have := h.1.2; simp only at this; omega))
    clear h1 h2
    go_enter Try.func7, Try.ntmps7
    go_wp2
    go_ret
    exact ⟨by rw [HF.out]; rfl, H0.out.1⟩
  have d2 : decide ((300 : Int) < (l.length : Int)) = false := decide_eq_false (by omega)
  have d2' : decide (300 < l.length) = false := decide_eq_false h2
  have HL : Hid (ns.length ≤ 300 ∧ l.length ≤ 300) := Lib.hid (by omega)
  clear h1 h2
  go_enter Try.func7, Try.ntmps7
  go_wp2
  obtain ⟨w1, hw1⟩ : ∃ z, z = w.alloc (.cells #[.int .i64 k, .int .u64 p0.h, .int .i64 p0.i, .int .u64 p1.h, .int .i64 p1.i, .slice A l.length ca, .int .i64 c, .int .u64 p.h, .int .i64 p.i, .slice C ns.length cc] 35) := ⟨_, rfl⟩
  rw [← hw1] at H0 HRB ⊢
  clear hw1 d1 d1' d2 d2'
  obtain ⟨c0, c1, c2, c3, c4, c5, c6, c7, c8, c9⟩ := RecAt.of HRB.out
  simp only at c5 c9
  clear c0 c1 c2 c3 c4 c6 c7 c8
  go_loopw [3] (fun u wr => ∃ j : Nat, j ≤ ns.length ∧ (∀ i (hi : i < ns.length), i < j → ns[i].d.size ≤ 300) ∧ u = .int .i64 (j : Int) ∧ wr = w1) (fun u _ => ns.length - (intOf u).toNat)
  case atStart => exact ⟨0, Nat.zero_le _, fun i _ h => absurd h (Nat.not_lt_zero _), rfl, by first | trivial | rfl⟩
  case round =>
    obtain ⟨j, hj, hall, rfl, rfl⟩ := hrel
    have HALL := Lib.hid hall
    have h300 := HL.out.1
    clear hall
    by_cases hlt : j < ns.length
    · obtain ⟨b, off, rfl, _, hc⟩ := H0.out.2.2 j hlt
      obtain ⟨n, hn⟩ : ∃ n, n = ns[j] := ⟨_, rfl⟩
      rw [← hn] at hc
      have q4 := hc 4 (by omega)
      have HNN : Hid (∀ h : j < ns.length, n = ns[j]'h) := Lib.hid (fun _ => hn)
      have t1 : decide ((j : Int) < (ns.length : Int)) = true := decide_eq_true (by omega)
      have t2 : decide (j < ns.length) = true := decide_eq_true hlt
      have hi0 : (j : Int) < (ns.length : Int) := by omega
      have HLT := Lib.hid hlt
      obtain ⟨nk, nf, nq, nt, nd⟩ := n
      simp only [NtV.nc, List.getElem?_cons_zero, List.getElem?_cons_succ] at q4
      clear hc hn hlt
      by_cases hs : 300 < nd.size
      · have e1 : decide ((300 : Int) < (nd.size : Int)) = true := decide_eq_true (by omega)
        have e2 : decide (300 < nd.size) = true := decide_eq_true hs
        have HF : Hid (E = false) := Lib.hid (by rw [HE.out]; exact decide_eq_false (fun h => by
          have h1 := h.2.1 _ (List.getElem_mem HLT.out)
          rw [← HNN.out HLT.out] at h1
          have h2 : nd.size ≤ 300 := h1
          omega))
        clear hs
        go_wp2
        go_ret
        exact ⟨by rw [HF.out]; rfl, H0.out.1⟩
      · have e1 : decide ((300 : Int) < (nd.size : Int)) = false := decide_eq_false (by omega)
        have e2 : decide (300 < nd.size) = false := decide_eq_false hs
        have HS : Hid (nd.size ≤ 300) := Lib.hid (by omega)
        clear hs
        go_wp2
        go_roundw
        case rel =>
          refine ⟨j + 1, HLT.out, fun i hi hij => ?_, by go_num, by first | trivial | rfl⟩
          rcases Nat.lt_or_ge i j with h' | h'
          · exact HALL.out i hi h'
          · obtain rfl : i = j := by omega
            rw [← HNN.out hi]; exact HS.out
        case measure => have := HLT.out; simp [intOf]; omega
    · obtain rfl : j = ns.length := by omega
      have t1 : decide ((ns.length : Int) < (ns.length : Int)) = false := decide_eq_false (by omega)
      have t2 : decide (ns.length < ns.length) = false := decide_eq_false hlt
      clear hlt hj h300
      go_wp2
      clear t1 t2
      go_loopw [4] (fun u wr2 => ∃ j : Nat, j ≤ l.length ∧ (∀ i (hi : i < l.length), i < j → l[i].d.size ≤ 300) ∧ u = .int .i64 (j : Int) ∧ wr2 = wr) (fun u _ => l.length - (intOf u).toNat)
      case atStart => exact ⟨0, Nat.zero_le _, fun i _ h => absurd h (Nat.not_lt_zero _), rfl, by first | trivial | rfl⟩
      case round =>
        obtain ⟨j, hj, hall, rfl, rfl⟩ := hrel
        have HALL2 := Lib.hid hall
        have h300 := HL.out.2
        clear hall
        by_cases hlt : j < l.length
        · obtain ⟨b, off, rfl, _, hc⟩ := H0.out.2.1 j hlt
          obtain ⟨n, hn⟩ : ∃ n, n = l[j] := ⟨_, rfl⟩
          rw [← hn] at hc
          have q3 := hc 3 (by omega)
          have HNN : Hid (∀ h : j < l.length, n = l[j]'h) := Lib.hid (fun _ => hn)
          have t1 : decide ((j : Int) < (l.length : Int)) = true := decide_eq_true (by omega)
          have t2 : decide (j < l.length) = true := decide_eq_true hlt
          have hi0 : (j : Int) < (l.length : Int) := by omega
          have HLT := Lib.hid hlt
          obtain ⟨nk, nf, nq, nt, nd⟩ := n
          simp only [NtV.ic, List.getElem?_cons_zero, List.getElem?_cons_succ] at q3
          clear hc hn hlt
          by_cases hs : 300 < nd.size
          · have e1 : decide ((300 : Int) < (nd.size : Int)) = true := decide_eq_true (by omega)
            have e2 : decide (300 < nd.size) = true := decide_eq_true hs
            have HF : Hid (E = false) := Lib.hid (by rw [HE.out]; exact decide_eq_false (fun h => by
              have h1 := h.2.2 _ (List.getElem_mem HLT.out)
              rw [← HNN.out HLT.out] at h1
              have h2 : nd.size ≤ 300 := h1
              omega))
            clear hs
            go_wp2
            go_ret
            exact ⟨by rw [HF.out]; rfl, H0.out.1⟩
          · have e1 : decide ((300 : Int) < (nd.size : Int)) = false := decide_eq_false (by omega)
            have e2 : decide (300 < nd.size) = false := decide_eq_false hs
            have HS : Hid (nd.size ≤ 300) := Lib.hid (by omega)
            clear hs
            go_wp2
            go_roundw
            case rel =>
              refine ⟨j + 1, HLT.out, fun i hi hij => ?_, by go_num, by first | trivial | rfl⟩
              rcases Nat.lt_or_ge i j with h' | h'
              · exact HALL2.out i hi h'
              · obtain rfl : i = j := by omega
                rw [← HNN.out hi]; exact HS.out
            case measure => have := HLT.out; simp [intOf]; omega
        · obtain rfl : j = l.length := by omega
          have t1 : decide ((l.length : Int) < (l.length : Int)) = false := decide_eq_false (by omega)
          have t2 : decide (l.length < l.length) = false := decide_eq_false hlt
          have HF : Hid (E = true) := Lib.hid (by
            rw [HE.out]
            refine decide_eq_true ⟨HL.out, fun n hn => ?_, fun n hn => ?_⟩
            · obtain ⟨i, hi, rfl⟩ := List.mem_iff_getElem.1 hn
              exact HALL.out i hi hi
            · obtain ⟨i, hi, rfl⟩ := List.mem_iff_getElem.1 hn
              exact HALL2.out i hi hi)
          clear hlt hj h300
          go_wp2
          go_ret
          exact ⟨by rw [HF.out]; rfl, H0.out.1⟩
end Go.Proofs.Ytkbiolhcpghmkaa
