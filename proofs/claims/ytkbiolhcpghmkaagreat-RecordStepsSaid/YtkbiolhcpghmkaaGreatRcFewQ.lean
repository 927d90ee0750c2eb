/- Merged: RcChk, RcBeg, RcFew. Contract of record's Check. Condition: a state of the arguments. Contracts of slices.Clone, record's begin. Condition: a state of the arguments. Contracts of the laws' few, of SameState at like states. Condition: a record, states of the arguments. -/
import Derived.WalkSpells
import Derived.Outline
import Derived.Deep.RegionHeld
import Derived.Test.YtkbiolhcpghmkaaGreatRcBytesQ
import Derived.Test.YtkbiolhcpghmkaaGreatRsOneQ
import Derived.Test.YtkbiolhcpghmkaaGreatNtSameIQ
namespace Go.Proofs.YtkbiolhcpghmkaaGreat
open Go.RowKit
set_option linter.unusedVariables false
/-- may a state be? -/
def chkV (d : DaV) (r : Int) : Int := if d.p0.ok ∧ d.p1.ok then (ofV r d.l).2.elim (ofV r d.l).1 (fun acc => if acc = d.l then 0 else 15) else 1
structure DaW (w : World) (A : Option Addr) (d : DaV) : Prop where
  p0 : d.p0.wf
  p1 : d.p1.wf
  l : EnAt NtV.ic w A d.l
  lw : ∀ n ∈ d.l, n.wf
  ll : d.l.length ≤ 300
theorem DaW.below {w w' : World} {A : Option Addr} {d : DaV} (h : DaW w A d) (hb : Below w.heap.size w w') : DaW w' A d := ⟨h.p0, h.p1, h.l.below hb, h.lw, h.ll⟩
def DaX (w : World) (X : Nat) (A : Option Addr) (ca : Nat) (d : DaV) : Prop := w.heap[X]? = some (.cells #[.int .u64 d.p0.h, .int .i64 d.p0.i, .int .u64 d.p1.h, .int .i64 d.p1.i, .slice A d.l.length ca] 28 (0, 0))
set_option maxRecDepth 100000 in
set_option maxHeartbeats 4000000 in
theorem rec_check (A : Option Addr) (ca : Nat) (d : DaV) (r : Int) (w : World) (hd : DaW w A d) :
    Calls Tryz.prog 9 #[.agg #[.int .u64 d.p0.h, .int .i64 d.p0.i, .int .u64 d.p1.h, .int .i64 d.p1.i, .slice A d.l.length ca], .int .i64 r] w fun x w' => x = .returned (.int .i64 (chkV d r)) ∧ Below w.heap.size w w' := by
  obtain ⟨p0, p1, l⟩ := d
  obtain ⟨w1, hw1⟩ : ∃ z, z = w.alloc (.cells #[.int .u64 p0.h, .int .i64 p0.i, .int .u64 p1.h, .int .i64 p1.i, .slice A l.length ca] 28) := ⟨_, rfl⟩
  obtain ⟨X, hX⟩ : ∃ X, X = w.heap.size := ⟨_, rfl⟩
  have H1 : Hid (Below w.heap.size w w1 ∧ DaX w1 X A ca ⟨p0, p1, l⟩ ∧ w1.heap.size = w.heap.size + 1) := Lib.hid (by
    have hb := Kq.below_alloc w (.cells #[.int .u64 p0.h, .int .i64 p0.i, .int .u64 p1.h, .int .i64 p1.i, .slice A l.length ca] 28)
    have hr := Kq.blk_new w #[.int .u64 p0.h, .int .i64 p0.i, .int .u64 p1.h, .int .i64 p1.i, .slice A l.length ca] 28 (0, 0)
    rw [← hw1, ← hX] at hr
    rw [← hw1] at hb
    exact ⟨hb, hr, by rw [hw1]; simp⟩)
  have HD := Lib.hid hd
  have hb2 := Kq.below_alloc w1 (.cells #[.int .i64 0, .slice none 0 0] 73)
  have HX : Hid (DaX (w1.alloc (.cells #[.int .i64 0, .slice none 0 0] 73)) X A ca ⟨p0, p1, l⟩ ∧ X < w1.heap.size ∧ Below w1.heap.size w1 (w1.alloc (.cells #[.int .i64 0, .slice none 0 0] 73))) := Lib.hid ⟨Kq.below_blk hb2 H1.out.2.1 (Kq.blk_lt H1.out.2.1), Kq.blk_lt H1.out.2.1, hb2⟩
  have HZ : Hid (Wr (w1.alloc (.cells #[.int .i64 0, .slice none 0 0] 73)) w1.heap.size w1.heap.size 0 (.slice none 0 0) []) := Lib.hid (wr_new w1)
  have HS1 : Hid (w.heap.size + 1 = w1.heap.size) := Lib.hid H1.out.2.2.symm
  have c0 := Kq.blk_cell HX.out.1 0
  have c1 := Kq.blk_cell HX.out.1 1
  simp only at c0 c1
  clear hd hb2
  rw [hw1] at c0 c1
  go_enter Tryz.func9, Tryz.ntmps9
  go_wp2_with fail
  rw [HS1.out, ← hX]
  rw [← hw1]
  clear c0 c1
  obtain ⟨wz, hwz⟩ : ∃ z, z = w1.alloc (.cells #[.int .i64 0, .slice none 0 0] 73) := ⟨_, rfl⟩
  rw [← hwz] at HX HZ ⊢
  clear hwz hw1 hX
  have HRG : Hid ((0 ≤ p0.h ∧ p0.h < 18446744073709551616) ∧ (0 ≤ p1.h ∧ p1.h < 18446744073709551616) ∧ l.length ≤ 300) := Lib.hid ⟨HD.out.p0.range, HD.out.p1.range, HD.out.ll⟩
  refine (nt_place_step w1.heap.size w1.heap.size 0 (.slice none 0 0) [] p0.h p0.i wz HZ.out HRG.out.1 (by simp)).mono ?_
  intro x w2 hp
  have H2 := Lib.hid hp
  obtain ⟨rfl, -⟩ := hp.any
  clear hp
  obtain ⟨-, e1, l1, v1, W1, K1, F1, s1, g1, b1⟩ := H2.out.any
  have HXK : Hid (∀ w' : World, Kq.Keeps (fun k => k = w1.heap.size ∨ some k = (Value.slice none 0 0).ownBlock) wz w' → DaX w' X A ca ⟨p0, p1, l⟩ ∧ Below w.heap.size w w') := Lib.hid (fun w' hk => ⟨hk.blk HX.out.1 (fun h => by
    rcases h with h | h
    · have := HX.out.2.1; omega
    · cases h), (H1.out.1.trans (HX.out.2.2.mono H1.out.1.size)).trans (hk.below (Nat.le_trans H1.out.1.size HX.out.2.2.size) (fun k _ h => by
      rcases h with h | h
      · have := H1.out.1.size; omega
      · cases h))⟩)
  have HS2 := Lib.hid (And.intro W1 (And.intro K1 (And.intro F1 (And.intro s1 (And.intro g1 b1)))))
  have hx2 := (HXK.out w2 K1).1
  have c2 := Kq.blk_cell hx2 2
  have c3 := Kq.blk_cell hx2 3
  simp only at c2 c3
  have hl1 : l1.length ≤ 1000 := by simp only [List.length_nil] at s1; omega
  clear W1 K1 F1 s1 g1 b1 hx2 H2
  go_wp2_with fail
  clear c2 c3
  refine (nt_place_step w1.heap.size w1.heap.size e1 v1 l1 p1.h p1.i w2 HS2.out.1 HRG.out.2.1 (by omega)).mono ?_
  intro x w3 hp
  have H3 := Lib.hid (WrStep.then HS2.out.1 HS2.out.2.1 HS2.out.2.2.1 HS2.out.2.2.2.1 HS2.out.2.2.2.2.1 HS2.out.2.2.2.2.2 hp)
  obtain ⟨rfl, -⟩ := hp.any
  clear hp HS2 hl1
  obtain ⟨-, e2, l2, v2, W2, K2, F2, s2, g2, b2⟩ := H3.out.any
  have H4 := Lib.hid (HXK.out w3 K2)
  by_cases hok : PlV.ok p0 ∧ PlV.ok p1
  case neg =>
    have he2 : e2 = 1 := b2 hok
    have HW := Lib.hid W2
    have HE : Hid (chkV ⟨p0, p1, l⟩ r = 1) := Lib.hid (if_neg hok)
    subst he2
    clear W2 K2 F2 s2 g2 b2 hok H3
    go_wp2_with fail
    refine (wr_bytes_bad _ _ 1 v2 l2 w3 HW.out (by decide)).mono ?_
    rintro x w4 ⟨rfl, hw4⟩
    subst hw4
    go_wp2
    go_ret
    exact ⟨by rw [HE.out]; rfl, H4.out.2⟩
  obtain ⟨he2, hl2⟩ := g2 hok
  have HE : Hid (chkV ⟨p0, p1, l⟩ r = (ofV r l).2.elim (ofV r l).1 (fun acc => if acc = l then 0 else 15)) := Lib.hid (if_pos hok)
  have HW : Hid (Wr w3 w1.heap.size w1.heap.size 0 v2 l2 ∧ ∀ b ∈ l2, b < 256) := Lib.hid ⟨by rw [← he2]; exact W2, by
    rw [hl2]
    intro b hb
    rcases List.mem_append.1 hb with hb | hb
    · cases hb
    rcases List.mem_append.1 hb with hb | hb
    · exact plb_lt p0 b hb
    · exact plb_lt p1 b hb⟩
  subst he2
  clear W2 K2 F2 s2 g2 b2 hok H3 hl2
  have c4 := Kq.blk_cell H4.out.1 4
  simp only at c4
  go_wp2_with fail
  refine (wr_bytes_ok _ _ v2 l2 w3 HW.out.1 HW.out.2).mono ?_
  rintro x w4 ⟨rfl, hw4⟩
  subst hw4
  go_wp2_with fail
  refine (tb_of w3 r l A ca (HD.out.l.below H4.out.2) HD.out.lw (by have := HRG.out.2.2; omega)).mono ?_
  rintro x w5 ⟨b5, hx⟩
  have H5 : Hid (Below w.heap.size w w5 ∧ DaX w5 X A ca ⟨p0, p1, l⟩) := Lib.hid ⟨H4.out.2.trans (b5.mono H4.out.2.size), Kq.below_blk b5 H4.out.1 (Kq.blk_lt H4.out.1)⟩
  clear c4
  rcases hx with ⟨e, he, hv, rfl⟩ | ⟨B, acc, hv, rfl, htb, htok⟩
  · have e3 : (e != 0) = true := by rw [bne_iff_ne]; exact he
    have HE2 : Hid (chkV ⟨p0, p1, l⟩ r = e) := Lib.hid (by rw [HE.out, hv]; rfl)
    clear he hv b5
    go_wp2
    go_ret
    exact ⟨by rw [HE2.out]; rfl, H5.out.1⟩
  · have HE2 : Hid (chkV ⟨p0, p1, l⟩ r = if acc = l then 0 else 15) := Lib.hid (by rw [HE.out, hv]; rfl)
    have H6 : Hid (OneT (· < w3.heap.size) w5 B ⟨r.toNat, acc⟩ ∧ TbOk ⟨r.toNat, acc⟩) := Lib.hid ⟨⟨_, htb, fun k hk => ⟨Nat.not_lt.2 hk.1, hk.2⟩⟩, htok⟩
    clear hv b5 htb htok
    go_wp2
    have HC : Hid (∀ w', Below w5.heap.size w5 w' → w'.cell? ⟨X, 4, none⟩ = some (.slice A l.length ca) ∧ EnAt NtV.ic w' A l ∧ Below w.heap.size w w') := Lib.hid (fun w' hb => ⟨Kq.blk_cell (Kq.below_blk hb H5.out.2 (Kq.blk_lt H5.out.2)) 4, HD.out.l.below (H5.out.1.trans (hb.mono H5.out.1.size)), H5.out.1.trans (hb.mono H5.out.1.size)⟩)
    refine wp_region_held_drew (S := fun w' => w'.cell? ⟨X, 4, none⟩ = some (.slice A l.length ca)) (by kernel_rfl) (HC.out _ (Below.refl _ _).drew).1 (fun hS0 => ?_)
    obtain ⟨wd, hwd⟩ : ∃ z, z = w5.drew := ⟨_, rfl⟩
    have HDW : Hid (Below w5.heap.size w5 wd) := Lib.hid (by rw [hwd]; exact (Below.refl _ _).drew)
    rw [← hwd] at hS0 ⊢
    clear hwd
    refine wpAnyH_take (i := 0) (v := ?_) rfl (by kernel_rfl) (by kernel_rfl) (by kernel_rfl) (fun _ _ _ h => h) (Or.inl ⟨by kernel_rfl, ?_⟩) (by assumption) ?_
    rotate_left
    · intro w hSw; (try dsimp only at hSw); go_simp; (try with_reducible rfl)
    refine wpAnyH_take (i := 2) (v := ?_) rfl (by kernel_rfl) (by kernel_rfl) (by kernel_rfl) (fun _ _ _ h => h) (Or.inl ⟨by kernel_rfl, ?_⟩) (by assumption) ?_
    rotate_left
    · intro w hSw; (try dsimp only at hSw); go_simp; (try with_reducible rfl)
    refine wpAnyH_take (i := 3) (v := ?_) rfl (by kernel_rfl) (by kernel_rfl) (by kernel_rfl) (fun _ _ _ h => h) (Or.inl ⟨by kernel_rfl, ?_⟩) (by assumption) ?_
    rotate_left
    · intro w hSw; (try dsimp only at hSw); go_simp; (try with_reducible rfl)
    refine wpAnyH_ready (rs := [1]) (by kernel_rfl) (by simp) ?_
    refine AllReadyH.cons rfl (fun K hK => ?_) AllReadyH.nil
    go_simp
    refine (ot_items (H6.out.1.below HDW.out) H6.out.2).mono ?_
    rintro x w6 ⟨v, rfl, ⟨A6, c6, rfl, -, hat6, -⟩, b6⟩
    have H7 : Hid (Below w5.heap.size w5 w6 ∧ EnAt NtV.ic w6 A6 acc) := Lib.hid ⟨HDW.out.trans (b6.mono HDW.out.size), hat6⟩
    clear b6 hat6 hS0 HDW
    refine hK.out _ _ (HC.out _ H7.out.1).1 (fun hS0 => ?_)
    clear hK K
    refine wpAnyH_ready (rs := [4]) (by kernel_rfl) (by simp) ?_
    refine AllReadyH.cons rfl (fun K hK => ?_) AllReadyH.nil
    go_simp
    refine (items_equal A6 A c6 ca acc l w6 H7.out.2 (HC.out _ H7.out.1).2.1 (by have h1 := H6.out.2.len; have h2 := H6.out.2.r40; have h3 : acc.length ≤ r.toNat := h1; have h4 : r.toNat ≤ 40 := h2; omega)).mono ?_
    rintro x w7 ⟨rfl, b7⟩
    have H8 := Lib.hid (H7.out.1.trans (b7.mono H7.out.1.size))
    clear b7 hS0 H7
    obtain ⟨z, hz⟩ : ∃ z, z = decide (acc = l) := ⟨_, rfl⟩
    rw [← hz]
    have HZZ : Hid (chkV ⟨p0, p1, l⟩ r = if z = true then 0 else 15) := Lib.hid (by rw [HE2.out, hz]; by_cases g : acc = l <;> simp [g])
    clear hz
    refine hK.out _ _ (HC.out _ H8.out).1 (fun hS0 => ?_)
    clear hK K
    refine wpAnyH_take (i := 5) (v := ?_) rfl (by kernel_rfl) (by kernel_rfl) (by kernel_rfl) (fun _ _ _ h => h) (Or.inl ⟨by kernel_rfl, ?_⟩) (by assumption) ?_
    rotate_left
    · intro w hSw; (try dsimp only at hSw); go_simp; (try with_reducible rfl)
    refine wpAnyH_done (by kernel_rfl) ?_ _
    clear hS0
    have H9 := Lib.hid (HC.out _ H8.out).2.2
    go_simp
    cases z with
    | true =>
      go_wp2
      go_ret
      exact ⟨by rw [HZZ.out]; rfl, H9.out⟩
    | false =>
      go_wp2
      go_ret
      exact ⟨by rw [HZZ.out]; rfl, H9.out⟩
end Go.Proofs.YtkbiolhcpghmkaaGreat
namespace Go.Proofs.YtkbiolhcpghmkaaGreat
open Go.RowKit Go.Kq
set_option linter.unusedVariables false
set_option maxRecDepth 100000 in
theorem sl_nil (n ca : Nat) (w : World) : (binOp .eql 26 (.slice none n ca) (.slice none 0 0)).run Tryz.prog w = .ok (.bool true) w := by
  first | rfl | kernel_rfl | simp [go_sem, Tryz.underlying26]
set_option maxRecDepth 100000 in
theorem sl_some (a : Addr) (n ca : Nat) (w : World) : (binOp .eql 26 (.slice (some a) n ca) (.slice none 0 0)).run Tryz.prog w = .ok (.bool false) w := by
  first | rfl | kernel_rfl | simp [go_sem, Tryz.underlying26]
set_option maxRecDepth 100000 in
set_option maxHeartbeats 2000000 in
theorem items_clone (A : Option Addr) (ca : Nat) (l : List NtV) (w : World) (hA : EnAt NtV.ic w A l) (hl : l.length ≤ 1000) :
    Calls Tryz.prog 31 #[.slice A l.length ca] w fun x w' => ∃ A' c', x = .returned (.slice A' l.length c') ∧ EnAt NtV.ic w' A' l ∧ (∀ b off, A' = some ⟨b, off, none⟩ → w.heap.size ≤ b ∧ b < w'.heap.size) ∧ Below w.heap.size w w' := by
  obtain ⟨i0, hi0, hz0, hz1, hz2⟩ := info_partsF infoIt
  cases A with
  | none =>
    obtain rfl : l = [] := by
      cases l with
      | nil => rfl
      | cons n l => obtain ⟨b, off, e, _⟩ := hA 0 (by simp); cases e
    clear hA hl
    have sn := fun w => sl_nil 0 ca w
    go_enter Tryz.func31, Tryz.ntmps31
    go_wp2
    go_ret
    exact ⟨none, 0, rfl, fun j hj => absurd hj (Nat.not_lt_zero _), fun b off e => (by cases e), Below.refl _ _⟩
  | some a =>
    have hb := Kq.below_alloc w (.cells #[] 51)
    have HROW : Hid ((w.alloc (.cells #[] 51)).ownsRow w.heap.size 51 5 (.slice (some ⟨w.heap.size, 0, none⟩) 0 0) 0 (ItE.flat [])) := Lib.hid ⟨rfl, Or.inr ⟨w.heap.size, 0, #[], rfl, Nat.le_refl _, Kq.blk_new w #[] 51 (0, 0), Nat.le_refl _, by decide, rfl, rfl⟩⟩
    have HSRC : Hid (Src Tryz.prog 5 26 (.slice (some a) l.length ca) l.length (ItE.flat l) (w.alloc (.cells #[] 51))) := Lib.hid ((ItE.en.2 (hA.below hb)).srcA Tryz.underlying26 ca)
    have HB : Hid (Below w.heap.size w (w.alloc (.cells #[] 51))) := Lib.hid hb
    obtain ⟨n, hn⟩ : ∃ n, n = l.length := ⟨_, rfl⟩
    have HN := Lib.hid hn
    rw [← hn] at HSRC hl ⊢
    clear hA hb hn
    have sn := fun w => sl_some a n ca w
    go_enter Tryz.func31, Tryz.ntmps31
    go_wp2_with (at_builtin; refine Kq.wpList_append_any _ rfl (.tmp 5) (.tmp 6) 26 26 rfl w.heap.size 51 i0 (.agg #[.int .i64 0, .int .u64 0, .int .u64 0, .string ⟨#[]⟩, .int .i64 0]) 5 48 Tryz.underlying26 hi0 hz0 hz1 hz2 rfl (by decide) (.slice (some ⟨w.heap.size, 0, none⟩) 0 0) 0 (ItE.flat []) rfl HROW.out (.slice (some a) n ca) n (ItE.flat l) rfl HSRC.out ?h1 ?h2 HB.out.size ?_)
    case h1 => unfold maxLen; omega
    case h2 => omega
    intro v3 w3 hown3 hgrow hfresh
    have hk := (Kq.Keeps.grown (S := fun k => w.heap.size ≤ k) hgrow (fun k _ e => own_geF HROW.out e))
    have hrow : w3.ownsRow w.heap.size 51 ItE.n v3 l.length (ItE.flat l) := by
      have h2 : w3.ownsRow w.heap.size 51 5 v3 n (ItE.flat [] ++ ItE.flat l) := hown3
      rw [HN.out] at h2
      exact h2
    obtain ⟨A', c', rfl, _, hat, hge, _⟩ := Kq.Elt.own_at hrow
    have H3 : Hid (EnAt NtV.ic w3 A' l ∧ (∀ b off, A' = some ⟨b, off, none⟩ → w.heap.size ≤ b ∧ b < w3.heap.size) ∧ Below w.heap.size w w3) := Lib.hid ⟨ItE.en.1 hat, fun b off e => ⟨hge b off e, own_ltK hrow (by rw [e]; rfl)⟩, HB.out.trans (hk.below HB.out.size (fun k _ h => h))⟩
    rw [← HN.out]
    clear hown3 hgrow hfresh hk hrow hat hge HROW HSRC HB
    go_wp2
    go_ret
    exact ⟨A', c', rfl, H3.out⟩
/-- a state in one value -/
def daV (d : DaV) (A : Option Addr) (ca : Nat) : Value := .agg #[.int .u64 d.p0.h, .int .i64 d.p0.i, .int .u64 d.p1.h, .int .i64 d.p1.i, .slice A d.l.length ca]
def daZ : Value := .agg #[.int .u64 0, .int .i64 0, .int .u64 0, .int .i64 0, .slice none 0 0]
/-- a state stored into a block -/
def fillD (w : World) (X : Nat) (h0 i0 h1 i1 : Int) (v : Value) : World := ((((w.setCell ⟨X, 0, none⟩ (.int .u64 h0)).setCell ⟨X, 1, none⟩ (.int .i64 i0)).setCell ⟨X, 2, none⟩ (.int .u64 h1)).setCell ⟨X, 3, none⟩ (.int .i64 i1)).setCell ⟨X, 4, none⟩ v
theorem fillD_blk {w : World} {X : Nat} {a0 a1 a2 a3 a4 : Value} {T : TypeId} (h : w.heap[X]? = some (.cells #[a0, a1, a2, a3, a4] T (0, 0))) (h0 i0 h1 i1 : Int) (v : Value) : (fillD w X h0 i0 h1 i1 v).heap[X]? = some (.cells #[.int .u64 h0, .int .i64 i0, .int .u64 h1, .int .i64 i1, v] T (0, 0)) :=
  Kq.blk_set (Kq.blk_set (Kq.blk_set (Kq.blk_set (Kq.blk_set h 0 _) 1 _) 2 _) 3 _) 4 _
theorem fillD_keeps (w : World) (X : Nat) (h0 i0 h1 i1 : Int) (v : Value) : Kq.Keeps (· = X) w (fillD w X h0 i0 h1 i1 v) := by
  unfold fillD
  exact ((((Kq.Keeps.setCell (S := (· = X)) _ _ _ rfl).trans (Kq.Keeps.setCell (S := (· = X)) _ _ _ rfl)).trans (Kq.Keeps.setCell (S := (· = X)) _ _ _ rfl)).trans (Kq.Keeps.setCell (S := (· = X)) _ _ _ rfl)).trans (Kq.Keeps.setCell (S := (· = X)) _ _ _ rfl)
/-- what begin, Step tell: an error, or a state made anew -/
def DaP (w : World) (e : Int) (d : DaV) (x : Ending) (w' : World) : Prop := Below w.heap.size w w' ∧ ((e ≠ 0 ∧ x = .returned (.tuple #[daZ, .int .i64 e])) ∨ (e = 0 ∧ ∃ A' c', x = .returned (.tuple #[daV d A' c', .int .i64 0]) ∧ EnAt NtV.ic w' A' d.l ∧ ∀ b off, A' = some ⟨b, off, none⟩ → w.heap.size ≤ b ∧ b < w'.heap.size))
set_option maxRecDepth 100000 in
set_option maxHeartbeats 4000000 in
theorem rec_begin (A : Option Addr) (ca : Nat) (d : DaV) (r : Int) (w : World) (hd : DaW w A d) :
    Calls Tryz.prog 13 #[.agg #[.int .u64 d.p0.h, .int .i64 d.p0.i, .int .u64 d.p1.h, .int .i64 d.p1.i, .slice A d.l.length ca], .int .i64 r] w (DaP w (chkV d r) d) := by
  obtain ⟨w1, hw1⟩ : ∃ z, z = w.alloc (.cells #[.int .u64 d.p0.h, .int .i64 d.p0.i, .int .u64 d.p1.h, .int .i64 d.p1.i, .slice A d.l.length ca] 28) := ⟨_, rfl⟩
  obtain ⟨X, hX⟩ : ∃ X, X = w.heap.size := ⟨_, rfl⟩
  have hb1 := Kq.below_alloc w (.cells #[.int .u64 d.p0.h, .int .i64 d.p0.i, .int .u64 d.p1.h, .int .i64 d.p1.i, .slice A d.l.length ca] 28)
  have hr1 := Kq.blk_new w #[.int .u64 d.p0.h, .int .i64 d.p0.i, .int .u64 d.p1.h, .int .i64 d.p1.i, .slice A d.l.length ca] 28 (0, 0)
  rw [← hw1, ← hX] at hr1
  rw [← hw1] at hb1
  have hs1 : w.heap.size + 1 = w1.heap.size := by rw [hw1]; simp
  have hb2 := Kq.below_alloc w1 (.cells #[.int .u64 0, .int .i64 0, .int .u64 0, .int .i64 0, .slice none 0 0] 28)
  have hr2 := Kq.blk_new w1 #[.int .u64 0, .int .i64 0, .int .u64 0, .int .i64 0, .slice none 0 0] 28 (0, 0)
  have H2 : Hid (Below w.heap.size w (w1.alloc (.cells #[.int .u64 0, .int .i64 0, .int .u64 0, .int .i64 0, .slice none 0 0] 28)) ∧ DaX (w1.alloc (.cells #[.int .u64 0, .int .i64 0, .int .u64 0, .int .i64 0, .slice none 0 0] 28)) X A ca d ∧ (w1.alloc (.cells #[.int .u64 0, .int .i64 0, .int .u64 0, .int .i64 0, .slice none 0 0] 28)).heap[w1.heap.size]? = some (.cells #[.int .u64 0, .int .i64 0, .int .u64 0, .int .i64 0, .slice none 0 0] 28 (0, 0)) ∧ X < w1.heap.size) := Lib.hid ⟨hb1.trans (hb2.mono hb1.size), Kq.below_blk hb2 hr1 (Kq.blk_lt hr1), hr2, Kq.blk_lt hr1⟩
  have HS1 := Lib.hid hs1
  have HD := Lib.hid hd
  have HXW : Hid (w.heap.size = X ∧ w.heap.size ≤ w1.heap.size) := Lib.hid ⟨hX.symm, hb1.size⟩
  clear hd hb1 hr1 hs1 hb2 hr2
  obtain ⟨p0, p1, l⟩ := d
  go_enter Tryz.func13, Tryz.ntmps13
  go_wp2_with fail
  rw [HS1.out, ← hX, ← hw1]
  obtain ⟨w2, hw2⟩ : ∃ z, z = w1.alloc (.cells #[.int .u64 0, .int .i64 0, .int .u64 0, .int .i64 0, .slice none 0 0] 28) := ⟨_, rfl⟩
  rw [← hw2] at H2 ⊢
  clear hw2 hw1 hX
  refine (rec_check A ca ⟨p0, p1, l⟩ r w2 (HD.out.below H2.out.1)).mono ?_
  rintro x w3 ⟨rfl, b3⟩
  have H3 : Hid (Below w.heap.size w w3 ∧ DaX w3 X A ca ⟨p0, p1, l⟩ ∧ w3.heap[w1.heap.size]? = some (.cells #[.int .u64 0, .int .i64 0, .int .u64 0, .int .i64 0, .slice none 0 0] 28 (0, 0)) ∧ X < w1.heap.size) := Lib.hid ⟨H2.out.1.trans (b3.mono H2.out.1.size), Kq.below_blk b3 H2.out.2.1 (Kq.blk_lt H2.out.2.1), Kq.below_blk b3 H2.out.2.2.1 (Kq.blk_lt H2.out.2.2.1), H2.out.2.2.2⟩
  obtain ⟨e, he⟩ : ∃ e, e = chkV ⟨p0, p1, l⟩ r := ⟨_, rfl⟩
  rw [← he]
  have HEV := Lib.hid he
  obtain ⟨R, hR⟩ : ∃ R, R = w1.heap.size := ⟨_, rfl⟩
  have HRW : Hid (R = w1.heap.size) := Lib.hid hR
  rw [← hR] at H3 ⊢
  clear b3 H2 he hR
  have z0 := Kq.blk_cell H3.out.2.2.1 0
  have z1 := Kq.blk_cell H3.out.2.2.1 1
  have z2 := Kq.blk_cell H3.out.2.2.1 2
  have z3 := Kq.blk_cell H3.out.2.2.1 3
  have z4 := Kq.blk_cell H3.out.2.2.1 4
  have f0 := Kq.blk_free H3.out.2.2.1 0
  have f1 := Kq.blk_free H3.out.2.2.1 1
  have f2 := Kq.blk_free H3.out.2.2.1 2
  have f3 := Kq.blk_free H3.out.2.2.1 3
  have f4 := Kq.blk_free H3.out.2.2.1 4
  by_cases e0 : e = 0
  · have e1 : (e != 0) = false := by rw [e0]; rfl
    have HE0 := Lib.hid e0
    clear e0
    have c4 := Kq.blk_cell H3.out.2.1 4
    simp only at c4
    go_wp2_with fail
    refine (items_clone A ca l w3 (HD.out.l.below H3.out.1) (by have := HD.out.ll; simp only at this; omega)).mono ?_
    rintro x w4 ⟨A', c', rfl, hat, hge, b4⟩
    have hx4 := Kq.below_blk b4 H3.out.2.1 (Kq.blk_lt H3.out.2.1)
    have hr4 := Kq.below_blk b4 H3.out.2.2.1 (Kq.blk_lt H3.out.2.2.1)
    have hne : R ≠ X := by have := H3.out.2.2.2; have := HRW.out; omega
    have hx5 := Kq.blk_set hx4 4 (.slice A' l.length c')
    have hks : Kq.Keeps (· = X) w4 (w4.setCell ⟨X, 4, none⟩ (.slice A' l.length c')) := Kq.Keeps.setCell _ _ _ rfl
    have hr5 := hks.blk hr4 (fun e => hne e)
    have H5 : Hid ((w4.setCell ⟨X, 4, none⟩ (.slice A' l.length c')).heap[R]? = some (.cells #[.int .u64 0, .int .i64 0, .int .u64 0, .int .i64 0, .slice none 0 0] 28 (0, 0)) ∧ EnAt NtV.ic w4 A' l ∧ (∀ b off, A' = some ⟨b, off, none⟩ → w3.heap.size ≤ b ∧ b < w4.heap.size) ∧ Below w.heap.size w w4 ∧ X < w3.heap.size ∧ R < w3.heap.size) := Lib.hid ⟨hr5, hat, hge, H3.out.1.trans (b4.mono H3.out.1.size), Kq.blk_lt H3.out.2.1, Kq.blk_lt H3.out.2.2.1⟩
    have g4 := Kq.blk_cell hx4 4
    have k4 := Kq.blk_free hx4 4
    have x0 := Kq.blk_cell hx5 0
    have x1 := Kq.blk_cell hx5 1
    have x2 := Kq.blk_cell hx5 2
    have x3 := Kq.blk_cell hx5 3
    have x4 := Kq.blk_cell hx5 4
    clear z0 z1 z2 z3 z4 f0 f1 f2 f3 f4 c4
    have z0 := Kq.blk_cell hr5 0
    have z1 := Kq.blk_cell hr5 1
    have z2 := Kq.blk_cell hr5 2
    have z3 := Kq.blk_cell hr5 3
    have z4 := Kq.blk_cell hr5 4
    have f0 := Kq.blk_free hr5 0
    have f1 := Kq.blk_free hr5 1
    have f2 := Kq.blk_free hr5 2
    have f3 := Kq.blk_free hr5 3
    have f4 := Kq.blk_free hr5 4
    simp only at g4
    clear hx4 hr4 hx5 hks hr5 hat hge b4 hne
    go_wp2
    clear z0 z1 z2 z3 z4 f0 f1 f2 f3 f4 x0 x1 x2 x3 x4 g4 k4
    change bodyPost _ _ _ _ _ (fillD (w4.setCell ⟨X, 4, none⟩ (.slice A' l.length c')) R p0.h p0.i p1.h p1.i (.slice A' l.length c'))
    have p1' := fillD_blk H5.out.1 p0.h p0.i p1.h p1.i (.slice A' l.length c')
    have p2' := (Kq.Keeps.mono (Kq.Keeps.setCell (S := (· = X)) w4 ⟨X, 4, none⟩ (.slice A' l.length c') rfl) (T := fun k => k = X ∨ k = R) (fun k _ h => Or.inl h)).trans ((fillD_keeps (w4.setCell ⟨X, 4, none⟩ (.slice A' l.length c')) R p0.h p0.i p1.h p1.i (.slice A' l.length c')).mono (fun k _ h => Or.inr h))
    generalize fillD (w4.setCell ⟨X, 4, none⟩ (.slice A' l.length c')) R p0.h p0.i p1.h p1.i (.slice A' l.length c') = z at *
    have z0 := Kq.blk_cell p1' 0
    have z1 := Kq.blk_cell p1' 1
    have z2 := Kq.blk_cell p1' 2
    have z3 := Kq.blk_cell p1' 3
    have z4 := Kq.blk_cell p1' 4
    refine bodyPost_ret (v := .tuple #[daV ⟨p0, p1, l⟩ A' c', .int .i64 0]) (by simp [results, Tryz.results13, go_sem, z0, z1, z2, z3, z4, daV]) rfl ?_
    rw [← HEV.out]
    refine ⟨H5.out.2.2.2.1.trans (p2'.below H5.out.2.2.2.1.size (fun k _ h => ?_)), Or.inr ⟨HE0.out, A', c', rfl, H5.out.2.1.keeps p2' (fun g o e h => ?_), fun b off e => ?_⟩⟩
    · have h1 := HXW.out; have h2 := HRW.out
      rcases h with h | h <;> omega
    · have h1 := (H5.out.2.2.1 g o e).1; have h2 := H5.out.2.2.2.2
      rcases h with h | h <;> omega
    · have h1 := H5.out.2.2.1 b off e; have h2 := HXW.out; have h3 := H5.out.2.2.2.2; have h4 := p2'.size; have h5 := H3.out.1.size
      exact ⟨by omega, by omega⟩
  · have e1 : (e != 0) = true := by rw [bne_iff_ne]; exact e0
    have HE0 := Lib.hid e0
    clear e0
    go_wp2
    clear z0 z1 z2 z3 z4 f0 f1 f2 f3 f4
    change bodyPost _ _ _ _ _ (fillD w3 R 0 0 0 0 (.slice none 0 0))
    have p1' := fillD_blk H3.out.2.2.1 0 0 0 0 (.slice none 0 0)
    have p2' := fillD_keeps w3 R 0 0 0 0 (.slice none 0 0)
    generalize fillD w3 R 0 0 0 0 (.slice none 0 0) = z at *
    have z0 := Kq.blk_cell p1' 0
    have z1 := Kq.blk_cell p1' 1
    have z2 := Kq.blk_cell p1' 2
    have z3 := Kq.blk_cell p1' 3
    have z4 := Kq.blk_cell p1' 4
    refine bodyPost_ret (v := .tuple #[daZ, .int .i64 e]) (by simp [results, Tryz.results13, go_sem, z0, z1, z2, z3, z4, daZ]) rfl ?_
    rw [← HEV.out]
    exact ⟨H3.out.1.trans (p2'.below H3.out.1.size (fun k _ h => by have h2 : k = R := h; have := HXW.out.2; have := HRW.out; omega)), Or.inl ⟨HE0.out, rfl⟩⟩
end Go.Proofs.YtkbiolhcpghmkaaGreat
namespace Go.Proofs.YtkbiolhcpghmkaaGreat
open Go.RowKit
set_option linter.unusedVariables false
/-- few parts, and short ones -/
def FewR (r : ReV) : Prop := (r.ns.length ≤ 300 ∧ r.d.l.length ≤ 300) ∧ (∀ n ∈ r.ns, n.d.size ≤ 300) ∧ ∀ n ∈ r.d.l, n.d.size ≤ 300
instance (r : ReV) : Decidable (FewR r) := by unfold FewR; infer_instance
set_option maxRecDepth 100000 in
theorem pa_like (a b : PlV) (ha : a.wf) (hb : b.wf) (w : World) : (binOp .eql 25 (.agg #[.int .u64 a.h, .int .i64 a.i, .int .u64 b.h, .int .i64 b.i]) (.agg #[.int .u64 a.h, .int .i64 a.i, .int .u64 b.h, .int .i64 b.i])).run Tryz.prog w = .ok (.bool true) w := by
  have hk : Tryz.prog.keyTypeAt 4 25 = true := by kernel_rfl
  have k4 : Tryz.prog.cellsOf 25 = 4 := by kernel_rfl
  have hf : (Value.agg #[.int .u64 a.h, .int .i64 a.i, .int .u64 b.h, .int .i64 b.i]).formed Tryz.prog 25 = true := by
    unfold Value.formed
    rw [Tryz.underlying25]
    simp [k4]
  obtain ⟨r, hr, hiff⟩ := run_equalIn_deep (P := Tryz.prog) 9996 4 25 hk w 4 4 _ _ _ _ hf hf (kl_places a b ha hb) (kl_places a b ha hb)
  rw [hiff.2 rfl] at hr
  rw [run_eql_struct]
  rw [show (10000 : Nat) = 9996 + 4 from rfl, hr]
  rfl
set_option maxRecDepth 100000 in
set_option maxHeartbeats 1000000 in
theorem same_state (A C : Option Addr) (ca cc : Nat) (d : DaV) (w : World) (h0 : d.p0.wf) (h1 : d.p1.wf) (hA : EnAt NtV.ic w A d.l) (hC : EnAt NtV.ic w C d.l) (hl : d.l.length ≤ 300) :
    Calls Tryz.prog 8 #[.agg #[.int .u64 d.p0.h, .int .i64 d.p0.i, .int .u64 d.p1.h, .int .i64 d.p1.i, .slice A d.l.length ca], .agg #[.int .u64 d.p0.h, .int .i64 d.p0.i, .int .u64 d.p1.h, .int .i64 d.p1.i, .slice C d.l.length cc]] w fun x w' => x = .returned (.bool true) ∧ Below w.heap.size w w' := by
  obtain ⟨p0, p1, l⟩ := d
  have pq := fun w => pa_like p0 p1 h0 h1 w
  have hb1 := Kq.below_alloc w (.cells #[.int .u64 p0.h, .int .i64 p0.i, .int .u64 p1.h, .int .i64 p1.i, .slice A l.length ca] 28)
  have hb2 := Kq.below_alloc (w.alloc (.cells #[.int .u64 p0.h, .int .i64 p0.i, .int .u64 p1.h, .int .i64 p1.i, .slice A l.length ca] 28)) (.cells #[.int .u64 p0.h, .int .i64 p0.i, .int .u64 p1.h, .int .i64 p1.i, .slice C l.length cc] 28)
  have HB := Lib.hid (hb1.trans (hb2.mono hb1.size))
  have HA : Hid (EnAt NtV.ic ((w.alloc (.cells #[.int .u64 p0.h, .int .i64 p0.i, .int .u64 p1.h, .int .i64 p1.i, .slice A l.length ca] 28)).alloc (.cells #[.int .u64 p0.h, .int .i64 p0.i, .int .u64 p1.h, .int .i64 p1.i, .slice C l.length cc] 28)) A l ∧ EnAt NtV.ic ((w.alloc (.cells #[.int .u64 p0.h, .int .i64 p0.i, .int .u64 p1.h, .int .i64 p1.i, .slice A l.length ca] 28)).alloc (.cells #[.int .u64 p0.h, .int .i64 p0.i, .int .u64 p1.h, .int .i64 p1.i, .slice C l.length cc] 28)) C l ∧ l.length ≤ 300) := Lib.hid ⟨(hA.below hb1).below hb2, (hC.below hb1).below hb2, hl⟩
  clear h0 h1 hA hC hl hb1 hb2
  go_enter Tryz.func8, Tryz.ntmps8
  go_wp2_with fail
  refine (same_items A C ca cc l _ HA.out.1 HA.out.2.1 HA.out.2.2).mono ?_
  rintro x w2 ⟨rfl, b2⟩
  have H2 := Lib.hid (HB.out.trans (b2.mono HB.out.size))
  clear b2 HB HA
  go_wp2
  go_ret
  exact ⟨by simp, H2.out⟩
set_option maxRecDepth 100000 in
set_option maxHeartbeats 2000000 in
theorem few17 (A : Option Addr) (ca : Nat) (C : Option Addr) (cc : Nat) (r : ReV) (w : World) (hl : EnAt NtV.ic w A r.d.l) (hn : EnAt NtV.nc w C r.ns) :
    Calls Tryz.prog 5 #[.agg #[.int .i64 r.k, .int .u64 r.d.p0.h, .int .i64 r.d.p0.i, .int .u64 r.d.p1.h, .int .i64 r.d.p1.i, .slice A r.d.l.length ca, .int .i64 r.c, .int .u64 r.p.h, .int .i64 r.p.i, .slice C r.ns.length cc]] w fun x w' => x = .returned (.bool (decide (FewR r))) ∧ Below w.heap.size w w' := by
  obtain ⟨E, hE⟩ : ∃ E, E = decide (FewR r) := ⟨_, rfl⟩
  rw [← hE]
  have HE := Lib.hid hE
  obtain ⟨k, ⟨p0, p1, l⟩, c, p, ns⟩ := r
  simp only at hl hn
  have hb := Kq.below_alloc w (.cells #[.int .i64 k, .int .u64 p0.h, .int .i64 p0.i, .int .u64 p1.h, .int .i64 p1.i, .slice A l.length ca, .int .i64 c, .int .u64 p.h, .int .i64 p.i, .slice C ns.length cc] 31)
  have hr := Kq.blk_new w #[.int .i64 k, .int .u64 p0.h, .int .i64 p0.i, .int .u64 p1.h, .int .i64 p1.i, .slice A l.length ca, .int .i64 c, .int .u64 p.h, .int .i64 p.i, .slice C ns.length cc] 31 (0, 0)
  have H0 : Hid (Below w.heap.size w (w.alloc (.cells #[.int .i64 k, .int .u64 p0.h, .int .i64 p0.i, .int .u64 p1.h, .int .i64 p1.i, .slice A l.length ca, .int .i64 c, .int .u64 p.h, .int .i64 p.i, .slice C ns.length cc] 31)) ∧ EnAt NtV.ic (w.alloc (.cells #[.int .i64 k, .int .u64 p0.h, .int .i64 p0.i, .int .u64 p1.h, .int .i64 p1.i, .slice A l.length ca, .int .i64 c, .int .u64 p.h, .int .i64 p.i, .slice C ns.length cc] 31)) A l ∧ EnAt NtV.nc (w.alloc (.cells #[.int .i64 k, .int .u64 p0.h, .int .i64 p0.i, .int .u64 p1.h, .int .i64 p1.i, .slice A l.length ca, .int .i64 c, .int .u64 p.h, .int .i64 p.i, .slice C ns.length cc] 31)) C ns) := Lib.hid ⟨hb, hl.below hb, hn.below hb⟩
  have HRB : Hid (RecX (w.alloc (.cells #[.int .i64 k, .int .u64 p0.h, .int .i64 p0.i, .int .u64 p1.h, .int .i64 p1.i, .slice A l.length ca, .int .i64 c, .int .u64 p.h, .int .i64 p.i, .slice C ns.length cc] 31)) w.heap.size A ca C cc ⟨k, ⟨p0, p1, l⟩, c, p, ns⟩) := Lib.hid hr
  clear hl hn hb hr hE
  by_cases h1 : 300 < ns.length
  · have d1 : decide ((300 : Int) < (ns.length : Int)) = true := decide_eq_true (by omega)
    have d1' : decide (300 < ns.length) = true := decide_eq_true h1
    have HF : Hid (E = false) := Lib.hid (by rw [HE.out]; exact decide_eq_false (fun h => by have := h.1.1; simp only at this; omega))
    clear h1
    go_enter Tryz.func5, Tryz.ntmps5
    go_wp2
    go_ret
    exact ⟨by rw [HF.out]; rfl, H0.out.1⟩
  have d1 : decide ((300 : Int) < (ns.length : Int)) = false := decide_eq_false (by omega)
  have d1' : decide (300 < ns.length) = false := decide_eq_false h1
  by_cases h2 : 300 < l.length
  · have d2 : decide ((300 : Int) < (l.length : Int)) = true := decide_eq_true (by omega)
    have d2' : decide (300 < l.length) = true := decide_eq_true h2
    have HF : Hid (E = false) := Lib.hid (by rw [HE.out]; exact decide_eq_false (fun h => by have := h.1.2; simp only at this; omega))
    clear h1 h2
    go_enter Tryz.func5, Tryz.ntmps5
    go_wp2
    go_ret
    exact ⟨by rw [HF.out]; rfl, H0.out.1⟩
  have d2 : decide ((300 : Int) < (l.length : Int)) = false := decide_eq_false (by omega)
  have d2' : decide (300 < l.length) = false := decide_eq_false h2
  have HL : Hid (ns.length ≤ 300 ∧ l.length ≤ 300) := Lib.hid (by omega)
  clear h1 h2
  go_enter Tryz.func5, Tryz.ntmps5
  go_wp2
  obtain ⟨w1, hw1⟩ : ∃ z, z = w.alloc (.cells #[.int .i64 k, .int .u64 p0.h, .int .i64 p0.i, .int .u64 p1.h, .int .i64 p1.i, .slice A l.length ca, .int .i64 c, .int .u64 p.h, .int .i64 p.i, .slice C ns.length cc] 31) := ⟨_, rfl⟩
  rw [← hw1] at H0 HRB ⊢
  clear hw1 d1 d1' d2 d2'
  obtain ⟨c0, c1, c2, c3, c4, c5, c6, c7, c8, c9⟩ := RecAt.of HRB.out
  simp only at c5 c9
  clear c0 c1 c2 c3 c4 c6 c7 c8
  go_loopw [3] (fun u wr => ∃ j : Nat, j ≤ ns.length ∧ (∀ i (hi : i < ns.length), i < j → ns[i].d.size ≤ 300) ∧ u = .int .i64 (j : Int) ∧ wr = w1) (fun u _ => ns.length - (intOf u).toNat)
  case atStart => exact ⟨0, Nat.zero_le _, fun i _ h => absurd h (Nat.not_lt_zero _), rfl, by first | trivial | rfl⟩
  case round =>
    obtain ⟨j, hj, hall, rfl, rfl⟩ := hrel
    have HALL := Lib.hid hall
    have h300 := HL.out.1
    clear hall
    by_cases hlt : j < ns.length
    · obtain ⟨b, off, rfl, _, hc⟩ := H0.out.2.2 j hlt
      obtain ⟨n, hn⟩ : ∃ n, n = ns[j] := ⟨_, rfl⟩
      rw [← hn] at hc
      have q4 := hc 4 (by omega)
      have HNN : Hid (∀ h : j < ns.length, n = ns[j]'h) := Lib.hid (fun _ => hn)
      have t1 : decide ((j : Int) < (ns.length : Int)) = true := decide_eq_true (by omega)
      have t2 : decide (j < ns.length) = true := decide_eq_true hlt
      have hi0 : (j : Int) < (ns.length : Int) := by omega
      have HLT := Lib.hid hlt
      obtain ⟨nk, nf, nq, nt, nd⟩ := n
      simp only [NtV.nc, List.getElem?_cons_zero, List.getElem?_cons_succ] at q4
      clear hc hn hlt
      by_cases hs : 300 < nd.size
      · have e1 : decide ((300 : Int) < (nd.size : Int)) = true := decide_eq_true (by omega)
        have e2 : decide (300 < nd.size) = true := decide_eq_true hs
        have HF : Hid (E = false) := Lib.hid (by rw [HE.out]; exact decide_eq_false (fun h => by
          have h1 := h.2.1 _ (List.getElem_mem HLT.out)
          rw [← HNN.out HLT.out] at h1
          have h2 : nd.size ≤ 300 := h1
          omega))
        clear hs
        go_wp2
        go_ret
        exact ⟨by rw [HF.out]; rfl, H0.out.1⟩
      · have e1 : decide ((300 : Int) < (nd.size : Int)) = false := decide_eq_false (by omega)
        have e2 : decide (300 < nd.size) = false := decide_eq_false hs
        have HS : Hid (nd.size ≤ 300) := Lib.hid (by omega)
        clear hs
        go_wp2
        go_roundw
        case rel =>
          refine ⟨j + 1, HLT.out, fun i hi hij => ?_, by go_num, by first | trivial | rfl⟩
          rcases Nat.lt_or_ge i j with h' | h'
          · exact HALL.out i hi h'
          · obtain rfl : i = j := by omega
            rw [← HNN.out hi]; exact HS.out
        case measure => have := HLT.out; simp [intOf]; omega
    · obtain rfl : j = ns.length := by omega
      have t1 : decide ((ns.length : Int) < (ns.length : Int)) = false := decide_eq_false (by omega)
      have t2 : decide (ns.length < ns.length) = false := decide_eq_false hlt
      clear hlt hj h300
      go_wp2
      clear t1 t2
      go_loopw [4] (fun u wr2 => ∃ j : Nat, j ≤ l.length ∧ (∀ i (hi : i < l.length), i < j → l[i].d.size ≤ 300) ∧ u = .int .i64 (j : Int) ∧ wr2 = wr) (fun u _ => l.length - (intOf u).toNat)
      case atStart => exact ⟨0, Nat.zero_le _, fun i _ h => absurd h (Nat.not_lt_zero _), rfl, by first | trivial | rfl⟩
      case round =>
        obtain ⟨j, hj, hall, rfl, rfl⟩ := hrel
        have HALL2 := Lib.hid hall
        have h300 := HL.out.2
        clear hall
        by_cases hlt : j < l.length
        · obtain ⟨b, off, rfl, _, hc⟩ := H0.out.2.1 j hlt
          obtain ⟨n, hn⟩ : ∃ n, n = l[j] := ⟨_, rfl⟩
          rw [← hn] at hc
          have q3 := hc 3 (by omega)
          have HNN : Hid (∀ h : j < l.length, n = l[j]'h) := Lib.hid (fun _ => hn)
          have t1 : decide ((j : Int) < (l.length : Int)) = true := decide_eq_true (by omega)
          have t2 : decide (j < l.length) = true := decide_eq_true hlt
          have hi0 : (j : Int) < (l.length : Int) := by omega
          have HLT := Lib.hid hlt
          obtain ⟨nk, nf, nq, nt, nd⟩ := n
          simp only [NtV.ic, List.getElem?_cons_zero, List.getElem?_cons_succ] at q3
          clear hc hn hlt
          by_cases hs : 300 < nd.size
          · have e1 : decide ((300 : Int) < (nd.size : Int)) = true := decide_eq_true (by omega)
            have e2 : decide (300 < nd.size) = true := decide_eq_true hs
            have HF : Hid (E = false) := Lib.hid (by rw [HE.out]; exact decide_eq_false (fun h => by
              have h1 := h.2.2 _ (List.getElem_mem HLT.out)
              rw [← HNN.out HLT.out] at h1
              have h2 : nd.size ≤ 300 := h1
              omega))
            clear hs
            go_wp2
            go_ret
            exact ⟨by rw [HF.out]; rfl, H0.out.1⟩
          · have e1 : decide ((300 : Int) < (nd.size : Int)) = false := decide_eq_false (by omega)
            have e2 : decide (300 < nd.size) = false := decide_eq_false hs
            have HS : Hid (nd.size ≤ 300) := Lib.hid (by omega)
            clear hs
            go_wp2
            go_roundw
            case rel =>
              refine ⟨j + 1, HLT.out, fun i hi hij => ?_, by go_num, by first | trivial | rfl⟩
              rcases Nat.lt_or_ge i j with h' | h'
              · exact HALL2.out i hi h'
              · obtain rfl : i = j := by omega
                rw [← HNN.out hi]; exact HS.out
            case measure => have := HLT.out; simp [intOf]; omega
        · obtain rfl : j = l.length := by omega
          have t1 : decide ((l.length : Int) < (l.length : Int)) = false := decide_eq_false (by omega)
          have t2 : decide (l.length < l.length) = false := decide_eq_false hlt
          have HF : Hid (E = true) := Lib.hid (by
            rw [HE.out]
            refine decide_eq_true ⟨HL.out, fun n hn => ?_, fun n hn => ?_⟩
            · obtain ⟨i, hi, rfl⟩ := List.mem_iff_getElem.1 hn
              exact HALL.out i hi hi
            · obtain ⟨i, hi, rfl⟩ := List.mem_iff_getElem.1 hn
              exact HALL2.out i hi hi)
          clear hlt hj h300
          go_wp2
          go_ret
          exact ⟨by rw [HF.out]; rfl, H0.out.1⟩
end Go.Proofs.YtkbiolhcpghmkaaGreat
