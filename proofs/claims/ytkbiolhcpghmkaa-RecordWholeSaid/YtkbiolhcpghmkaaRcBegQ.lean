/- Contracts of slices.Clone, record's begin. Condition: a state of the arguments. -/
import Derived.WalkSpells
import Derived.Outline
import Derived.Deep.RegionHeld
import Derived.Test.YtkbiolhcpghmkaaRcFewQ
namespace Go.Proofs.Ytkbiolhcpghmkaa
open Go.RowKit Go.Kq
set_option linter.unusedVariables false
set_option maxRecDepth 100000 in
theorem sl_nil (n ca : Nat) (w : World) : (binOp .eql 30 (.slice none n ca) (.slice none 0 0)).run Try.prog w = .ok (.bool true) w := by
  first | rfl | kernel_rfl | simp [go_sem, Try.underlying30]
set_option maxRecDepth 100000 in
theorem sl_some (a : Addr) (n ca : Nat) (w : World) : (binOp .eql 30 (.slice (some a) n ca) (.slice none 0 0)).run Try.prog w = .ok (.bool false) w := by
  first | rfl | kernel_rfl | simp [go_sem, Try.underlying30]
set_option maxRecDepth 100000 in
set_option maxHeartbeats 2000000 in
theorem items_clone (A : Option Addr) (ca : Nat) (l : List NtV) (w : World) (hA : EnAt NtV.ic w A l) (hl : l.length ≤ 1000) :
    Calls Try.prog 42 #[.slice A l.length ca] w fun x w' => ∃ A' c', x = .returned (.slice A' l.length c') ∧ EnAt NtV.ic w' A' l ∧ (∀ b off, A' = some ⟨b, off, none⟩ → w.heap.size ≤ b ∧ b < w'.heap.size) ∧ Below w.heap.size w w' := by
  obtain ⟨i0, hi0, hz0, hz1, hz2⟩ := info_partsF infoIt
  cases A with
  | none =>
    obtain rfl : l = [] := by
      cases l with
      | nil => rfl
      | cons n l => obtain ⟨b, off, e, _⟩ := hA 0 (by simp); cases e
    clear hA hl
    have sn := fun w => sl_nil 0 ca w
    go_enter Try.func42, Try.ntmps42
    go_wp2
    go_ret
    exact ⟨none, 0, rfl, fun j hj => absurd hj (Nat.not_lt_zero _), fun b off e => (by cases e), Below.refl _ _⟩
  | some a =>
    have hb := Kq.below_alloc w (.cells #[] 55)
    have HROW : Hid ((w.alloc (.cells #[] 55)).ownsRow w.heap.size 55 5 (.slice (some ⟨w.heap.size, 0, none⟩) 0 0) 0 (ItE.flat [])) := Lib.hid ⟨rfl, Or.inr ⟨w.heap.size, 0, #[], rfl, Nat.le_refl _, Kq.blk_new w #[] 55 (0, 0), Nat.le_refl _, by decide, rfl, rfl⟩⟩
    have HSRC : Hid (Src Try.prog 5 30 (.slice (some a) l.length ca) l.length (ItE.flat l) (w.alloc (.cells #[] 55))) := Lib.hid ((ItE.en.2 (hA.below hb)).srcA Try.underlying30 ca)
    have HB : Hid (Below w.heap.size w (w.alloc (.cells #[] 55))) := Lib.hid hb
    obtain ⟨n, hn⟩ : ∃ n, n = l.length := ⟨_, rfl⟩
    have HN := Lib.hid hn
    rw [← hn] at HSRC hl ⊢
    clear hA hb hn
    have sn := fun w => sl_some a n ca w
    go_enter Try.func42, Try.ntmps42
    go_wp2_with (at_builtin; refine Kq.wpList_append_any _ rfl (.tmp 5) (.tmp 6) 30 30 rfl w.heap.size 55 i0 (.agg #[.int .i64 0, .int .u64 0, .int .u64 0, .string ⟨#[]⟩, .int .i64 0]) 5 48 Try.underlying30 hi0 hz0 hz1 hz2 rfl (by decide) (.slice (some ⟨w.heap.size, 0, none⟩) 0 0) 0 (ItE.flat []) rfl HROW.out (.slice (some a) n ca) n (ItE.flat l) rfl HSRC.out ?h1 ?h2 HB.out.size ?_)
    case h1 => unfold maxLen; omega
    case h2 => omega
    intro v3 w3 hown3 hgrow hfresh
    have hk := (Kq.Keeps.grown (S := fun k => w.heap.size ≤ k) hgrow (fun k _ e => own_geF HROW.out e))
    have hrow : w3.ownsRow w.heap.size 55 ItE.n v3 l.length (ItE.flat l) := by
      have h2 : w3.ownsRow w.heap.size 55 5 v3 n (ItE.flat [] ++ ItE.flat l) := hown3
      rw [HN.out] at h2
      exact h2
    obtain ⟨A', c', rfl, _, hat, hge, _⟩ := Kq.Elt.own_at hrow
    have H3 : Hid (EnAt NtV.ic w3 A' l ∧ (∀ b off, A' = some ⟨b, off, none⟩ → w.heap.size ≤ b ∧ b < w3.heap.size) ∧ Below w.heap.size w w3) := Lib.hid ⟨ItE.en.1 hat, fun b off e => ⟨hge b off e, own_ltK hrow (by rw [e]; rfl)⟩, HB.out.trans (hk.below HB.out.size (fun k _ h => h))⟩
    rw [← HN.out]
    clear hown3 hgrow hfresh hk hrow hat hge HROW HSRC HB
    go_wp2
    go_ret
    exact ⟨A', c', rfl, H3.out⟩
/-- a state in one value -/
def daV (d : DaV) (A : Option Addr) (ca : Nat) : Value := .agg #[.int .u64 d.p0.h, .int .i64 d.p0.i, .int .u64 d.p1.h, .int .i64 d.p1.i, .slice A d.l.length ca]
def daZ : Value := .agg #[.int .u64 0, .int .i64 0, .int .u64 0, .int .i64 0, .slice none 0 0]
/-- a state stored into a block -/
def fillD (w : World) (X : Nat) (h0 i0 h1 i1 : Int) (v : Value) : World := ((((w.setCell ⟨X, 0, none⟩ (.int .u64 h0)).setCell ⟨X, 1, none⟩ (.int .i64 i0)).setCell ⟨X, 2, none⟩ (.int .u64 h1)).setCell ⟨X, 3, none⟩ (.int .i64 i1)).setCell ⟨X, 4, none⟩ v
theorem fillD_blk {w : World} {X : Nat} {a0 a1 a2 a3 a4 : Value} {T : TypeId} (h : w.heap[X]? = some (.cells #[a0, a1, a2, a3, a4] T (0, 0))) (h0 i0 h1 i1 : Int) (v : Value) : (fillD w X h0 i0 h1 i1 v).heap[X]? = some (.cells #[.int .u64 h0, .int .i64 i0, .int .u64 h1, .int .i64 i1, v] T (0, 0)) :=
  Kq.blk_set (Kq.blk_set (Kq.blk_set (Kq.blk_set (Kq.blk_set h 0 _) 1 _) 2 _) 3 _) 4 _
theorem fillD_keeps (w : World) (X : Nat) (h0 i0 h1 i1 : Int) (v : Value) : Kq.Keeps (· = X) w (fillD w X h0 i0 h1 i1 v) := by
  unfold fillD
  exact ((((Kq.Keeps.setCell (S := (· = X)) _ _ _ rfl).trans (Kq.Keeps.setCell (S := (· = X)) _ _ _ rfl)).trans (Kq.Keeps.setCell (S := (· = X)) _ _ _ rfl)).trans (Kq.Keeps.setCell (S := (· = X)) _ _ _ rfl)).trans (Kq.Keeps.setCell (S := (· = X)) _ _ _ rfl)
/-- what begin, Step tell: an error, or a state made anew -/
def DaP (w : World) (e : Int) (d : DaV) (x : Ending) (w' : World) : Prop := Below w.heap.size w w' ∧ ((e ≠ 0 ∧ x = .returned (.tuple #[daZ, .int .i64 e])) ∨ (e = 0 ∧ ∃ A' c', x = .returned (.tuple #[daV d A' c', .int .i64 0]) ∧ EnAt NtV.ic w' A' d.l ∧ ∀ b off, A' = some ⟨b, off, none⟩ → w.heap.size ≤ b ∧ b < w'.heap.size))
set_option maxRecDepth 100000 in
set_option maxHeartbeats 4000000 in
theorem rec_begin (A : Option Addr) (ca : Nat) (d : DaV) (r : Int) (w : World) (hd : DaW w A d) :
    Calls Try.prog 22 #[.agg #[.int .u64 d.p0.h, .int .i64 d.p0.i, .int .u64 d.p1.h, .int .i64 d.p1.i, .slice A d.l.length ca], .int .i64 r] w (DaP w (chkV d r) d) := by
  obtain ⟨w1, hw1⟩ : ∃ z, z = w.alloc (.cells #[.int .u64 d.p0.h, .int .i64 d.p0.i, .int .u64 d.p1.h, .int .i64 d.p1.i, .slice A d.l.length ca] 32) := ⟨_, rfl⟩
  obtain ⟨X, hX⟩ : ∃ X, X = w.heap.size := ⟨_, rfl⟩
  have hb1 := Kq.below_alloc w (.cells #[.int .u64 d.p0.h, .int .i64 d.p0.i, .int .u64 d.p1.h, .int .i64 d.p1.i, .slice A d.l.length ca] 32)
  have hr1 := Kq.blk_new w #[.int .u64 d.p0.h, .int .i64 d.p0.i, .int .u64 d.p1.h, .int .i64 d.p1.i, .slice A d.l.length ca] 32 (0, 0)
  rw [← hw1, ← hX] at hr1
  rw [← hw1] at hb1
  have hs1 : w.heap.size + 1 = w1.heap.size := by rw [hw1]; simp
  have hb2 := Kq.below_alloc w1 (.cells #[.int .u64 0, .int .i64 0, .int .u64 0, .int .i64 0, .slice none 0 0] 32)
  have hr2 := Kq.blk_new w1 #[.int .u64 0, .int .i64 0, .int .u64 0, .int .i64 0, .slice none 0 0] 32 (0, 0)
  have H2 : Hid (Below w.heap.size w (w1.alloc (.cells #[.int .u64 0, .int .i64 0, .int .u64 0, .int .i64 0, .slice none 0 0] 32)) ∧ DaX (w1.alloc (.cells #[.int .u64 0, .int .i64 0, .int .u64 0, .int .i64 0, .slice none 0 0] 32)) X A ca d ∧ (w1.alloc (.cells #[.int .u64 0, .int .i64 0, .int .u64 0, .int .i64 0, .slice none 0 0] 32)).heap[w1.heap.size]? = some (.cells #[.int .u64 0, .int .i64 0, .int .u64 0, .int .i64 0, .slice none 0 0] 32 (0, 0)) ∧ X < w1.heap.size) := Lib.hid ⟨hb1.trans (hb2.mono hb1.size), Kq.below_blk hb2 hr1 (Kq.blk_lt hr1), hr2, Kq.blk_lt hr1⟩
  have HS1 := Lib.hid hs1
  have HD := Lib.hid hd
  have HXW : Hid (w.heap.size = X ∧ w.heap.size ≤ w1.heap.size) := Lib.hid ⟨hX.symm, hb1.size⟩
  clear hd hb1 hr1 hs1 hb2 hr2
  obtain ⟨p0, p1, l⟩ := d
  go_enter Try.func22, Try.ntmps22
  go_wp2_with fail
  rw [HS1.out, ← hX, ← hw1]
  obtain ⟨w2, hw2⟩ : ∃ z, z = w1.alloc (.cells #[.int .u64 0, .int .i64 0, .int .u64 0, .int .i64 0, .slice none 0 0] 32) := ⟨_, rfl⟩
  rw [← hw2] at H2 ⊢
  clear hw2 hw1 hX
  refine (rec_check A ca ⟨p0, p1, l⟩ r w2 (HD.out.below H2.out.1)).mono ?_
  rintro x w3 ⟨rfl, b3⟩
  have H3 : Hid (Below w.heap.size w w3 ∧ DaX w3 X A ca ⟨p0, p1, l⟩ ∧ w3.heap[w1.heap.size]? = some (.cells #[.int .u64 0, .int .i64 0, .int .u64 0, .int .i64 0, .slice none 0 0] 32 (0, 0)) ∧ X < w1.heap.size) := Lib.hid ⟨H2.out.1.trans (b3.mono H2.out.1.size), Kq.below_blk b3 H2.out.2.1 (Kq.blk_lt H2.out.2.1), Kq.below_blk b3 H2.out.2.2.1 (Kq.blk_lt H2.out.2.2.1), H2.out.2.2.2⟩
  obtain ⟨e, he⟩ : ∃ e, e = chkV ⟨p0, p1, l⟩ r := ⟨_, rfl⟩
  rw [← he]
  have HEV := Lib.hid he
  obtain ⟨R, hR⟩ : ∃ R, R = w1.heap.size := ⟨_, rfl⟩
  have HRW : Hid (R = w1.heap.size) := Lib.hid hR
  rw [← hR] at H3 ⊢
  clear b3 H2 he hR
  have z0 := Kq.blk_cell H3.out.2.2.1 0
  have z1 := Kq.blk_cell H3.out.2.2.1 1
  have z2 := Kq.blk_cell H3.out.2.2.1 2
  have z3 := Kq.blk_cell H3.out.2.2.1 3
  have z4 := Kq.blk_cell H3.out.2.2.1 4
  have f0 := Kq.blk_free H3.out.2.2.1 0
  have f1 := Kq.blk_free H3.out.2.2.1 1
  have f2 := Kq.blk_free H3.out.2.2.1 2
  have f3 := Kq.blk_free H3.out.2.2.1 3
  have f4 := Kq.blk_free H3.out.2.2.1 4
  by_cases e0 : e = 0
  · have e1 : (e != 0) = false := by rw [e0]; rfl
    have HE0 := Lib.hid e0
    clear e0
    have c4 := Kq.blk_cell H3.out.2.1 4
    simp only at c4
    go_wp2_with fail
    refine (items_clone A ca l w3 (HD.out.l.below H3.out.1) (by have := HD.out.ll; simp only at this; omega)).mono ?_
    rintro x w4 ⟨A', c', rfl, hat, hge, b4⟩
    have hx4 := Kq.below_blk b4 H3.out.2.1 (Kq.blk_lt H3.out.2.1)
    have hr4 := Kq.below_blk b4 H3.out.2.2.1 (Kq.blk_lt H3.out.2.2.1)
    have hne : R ≠ X := by have := H3.out.2.2.2; have := HRW.out; omega
    have hx5 := Kq.blk_set hx4 4 (.slice A' l.length c')
    have hks : Kq.Keeps (· = X) w4 (w4.setCell ⟨X, 4, none⟩ (.slice A' l.length c')) := Kq.Keeps.setCell _ _ _ rfl
    have hr5 := hks.blk hr4 (fun e => hne e)
    have H5 : Hid ((w4.setCell ⟨X, 4, none⟩ (.slice A' l.length c')).heap[R]? = some (.cells #[.int .u64 0, .int .i64 0, .int .u64 0, .int .i64 0, .slice none 0 0] 32 (0, 0)) ∧ EnAt NtV.ic w4 A' l ∧ (∀ b off, A' = some ⟨b, off, none⟩ → w3.heap.size ≤ b ∧ b < w4.heap.size) ∧ Below w.heap.size w w4 ∧ X < w3.heap.size ∧ R < w3.heap.size) := Lib.hid ⟨hr5, hat, hge, H3.out.1.trans (b4.mono H3.out.1.size), Kq.blk_lt H3.out.2.1, Kq.blk_lt H3.out.2.2.1⟩
    have g4 := Kq.blk_cell hx4 4
    have k4 := Kq.blk_free hx4 4
    have x0 := Kq.blk_cell hx5 0
    have x1 := Kq.blk_cell hx5 1
    have x2 := Kq.blk_cell hx5 2
    have x3 := Kq.blk_cell hx5 3
    have x4 := Kq.blk_cell hx5 4
    clear z0 z1 z2 z3 z4 f0 f1 f2 f3 f4 c4
    have z0 := Kq.blk_cell hr5 0
    have z1 := Kq.blk_cell hr5 1
    have z2 := Kq.blk_cell hr5 2
    have z3 := Kq.blk_cell hr5 3
    have z4 := Kq.blk_cell hr5 4
    have f0 := Kq.blk_free hr5 0
    have f1 := Kq.blk_free hr5 1
    have f2 := Kq.blk_free hr5 2
    have f3 := Kq.blk_free hr5 3
    have f4 := Kq.blk_free hr5 4
    simp only at g4
    clear hx4 hr4 hx5 hks hr5 hat hge b4 hne
    go_wp2
    clear z0 z1 z2 z3 z4 f0 f1 f2 f3 f4 x0 x1 x2 x3 x4 g4 k4
    change bodyPost _ _ _ _ _ (fillD (w4.setCell ⟨X, 4, none⟩ (.slice A' l.length c')) R p0.h p0.i p1.h p1.i (.slice A' l.length c'))
    have p1' := fillD_blk H5.out.1 p0.h p0.i p1.h p1.i (.slice A' l.length c')
    have p2' := (Kq.Keeps.mono (Kq.Keeps.setCell (S := (· = X)) w4 ⟨X, 4, none⟩ (.slice A' l.length c') rfl) (T := fun k => k = X ∨ k = R) (fun k _ h => Or.inl h)).trans ((fillD_keeps (w4.setCell ⟨X, 4, none⟩ (.slice A' l.length c')) R p0.h p0.i p1.h p1.i (.slice A' l.length c')).mono (fun k _ h => Or.inr h))
    generalize fillD (w4.setCell ⟨X, 4, none⟩ (.slice A' l.length c')) R p0.h p0.i p1.h p1.i (.slice A' l.length c') = z at *
    have z0 := Kq.blk_cell p1' 0
    have z1 := Kq.blk_cell p1' 1
    have z2 := Kq.blk_cell p1' 2
    have z3 := Kq.blk_cell p1' 3
    have z4 := Kq.blk_cell p1' 4
    refine bodyPost_ret (v := .tuple #[daV ⟨p0, p1, l⟩ A' c', .int .i64 0]) (by simp [results, Try.results22, go_sem, z0, z1, z2, z3, z4, daV]) rfl ?_
    rw [← HEV.out]
    refine ⟨H5.out.2.2.2.1.trans (p2'.below H5.out.2.2.2.1.size (fun k _ h => ?_)), Or.inr ⟨HE0.out, A', c', rfl, H5.out.2.1.keeps p2' (fun g o e h => ?_), fun b off e => ?_⟩⟩
    · have h1 := HXW.out; have h2 := HRW.out
      rcases h with h | h <;> omega
    · have h1 := (H5.out.2.2.1 g o e).1; have h2 := H5.out.2.2.2.2
      rcases h with h | h <;> omega
    · have h1 := H5.out.2.2.1 b off e; have h2 := HXW.out; have h3 := H5.out.2.2.2.2; have h4 := p2'.size; have h5 := H3.out.1.size
      exact ⟨by omega, by omega⟩
  · have e1 : (e != 0) = true := by rw [bne_iff_ne]; exact e0
    have HE0 := Lib.hid e0
    clear e0
    go_wp2
    clear z0 z1 z2 z3 z4 f0 f1 f2 f3 f4
    change bodyPost _ _ _ _ _ (fillD w3 R 0 0 0 0 (.slice none 0 0))
    have p1' := fillD_blk H3.out.2.2.1 0 0 0 0 (.slice none 0 0)
    have p2' := fillD_keeps w3 R 0 0 0 0 (.slice none 0 0)
    generalize fillD w3 R 0 0 0 0 (.slice none 0 0) = z at *
    have z0 := Kq.blk_cell p1' 0
    have z1 := Kq.blk_cell p1' 1
    have z2 := Kq.blk_cell p1' 2
    have z3 := Kq.blk_cell p1' 3
    have z4 := Kq.blk_cell p1' 4
    refine bodyPost_ret (v := .tuple #[daZ, .int .i64 e]) (by simp [results, Try.results22, go_sem, z0, z1, z2, z3, z4, daZ]) rfl ?_
    rw [← HEV.out]
    exact ⟨H3.out.1.trans (p2'.below H3.out.1.size (fun k _ h => by have h2 : k = R := h; have := HXW.out.2; have := HRW.out; omega)), Or.inl ⟨HE0.out, rfl⟩⟩
end Go.Proofs.Ytkbiolhcpghmkaa
