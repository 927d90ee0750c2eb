/- Contract of table's Items. Condition: items that may be. -/
import Derived.WalkSpells
import Derived.Outline
import Derived.Laws.MakeOwn
import Derived.Test.YtkbiolhcpghmkaaTbSortQ
namespace Go.Proofs.Ytkbiolhcpghmkaa
open Go.RowKit Go.Maps Go.Kq
set_option linter.unusedVariables false
theorem info_partsF {t : TypeId} {z : Value} {s b : Nat} (h : (Try.prog.info? t).map (fun i => (i.zero, i.size, i.bytes)) = some (some z, s, b)) : ∃ i, Try.prog.info? t = some i ∧ i.zero = some z ∧ i.size = s ∧ i.bytes = b := by
  cases e : Try.prog.info? t with
  | none => rw [e] at h; cases h
  | some i =>
    rw [e] at h
    simp only [Option.map_some, Option.some.injEq, Prod.mk.injEq] at h
    exact ⟨i, rfl, h.1, h.2.1, h.2.2⟩
theorem infoIt : (Try.prog.info? 55).map (fun i => (i.zero, i.size, i.bytes)) = some (some (.agg #[.int .i64 0, .int .u64 0, .int .u64 0, .string ⟨#[]⟩, .int .i64 0]), 5, 48) := by kernel_rfl
theorem row_geT {w : World} {B g q cp n sz : Nat} {xs : List Value} {e : TypeId} (h : w.ownsRow B e sz (.slice (some ⟨g, 0, none⟩) q cp) n xs) : B ≤ g ∧ g < w.heap.size := ⟨own_geF h rfl, own_ltK h rfl⟩
/-- a list of items that was made anew -/
def NewT (W : Nat) (l : List NtV) (x : Value) (w' : World) : Prop := ∃ A cap, x = .slice A l.length cap ∧ l.length ≤ cap ∧ EnAt NtV.ic w' A l ∧ ∀ b off, A = some ⟨b, off, none⟩ → W ≤ b ∧ b < w'.heap.size
set_option maxRecDepth 100000 in
set_option maxHeartbeats 2000000 in
theorem tb_items (w : World) (O : Nat → Prop) (B : Nat) (s : TbV) (h : TbP w O B s) (hs : TbOk s) :
    Calls Try.prog 26 #[.pointer (some ⟨B, 0, none⟩)] w fun x w' => ∃ v, x = .returned v ∧ NewT w.heap.size s.l v w' ∧ Below w.heap.size w w' := by
  obtain ⟨i0, hi0, hz0, hz1, hz2⟩ := info_partsF infoIt
  obtain ⟨M, hp⟩ := h
  obtain ⟨l, hl⟩ : ∃ l, l = s.l := ⟨_, rfl⟩
  have hM := hp.map
  have hl40 : l.length ≤ 40 := by have h1 := hs.len; have h2 := hs.r40; rw [hl]; omega
  have hw : ∀ x ∈ l, nmW x.nm := fun x hx => by have := hs.ok x (by rw [← hl]; exact hx); exact nm_ok this.1.2 this.2
  have hso := hs.sort
  rw [← hl] at hM hso ⊢
  have hlen := hM.len 3
  obtain ⟨w0, hmk, hrow, hgr⟩ := run_make_own (P := Try.prog) w w.heap.size 30 55 i0 (.agg #[.int .i64 0, .int .u64 0, .int .u64 0, .string ⟨#[]⟩, .int .i64 0]) 5 Try.underlying30 hi0 hz0 hz1 .i64 .i64 l.length (by rw [hz2]; omega) (by unfold maxLen; omega) (Nat.le_refl _)
  have hk0 := Kq.Keeps.grown (S := fun _ => False) hgr (fun k _ hk => by cases hk)
  have hM0 := hM.keeps hk0 id
  have hp0 := hp.keeps hk0 (fun _ _ h => h)
  obtain ⟨n, D, hown, hcol, hdat⟩ := ColT.start hso hw hM0
  have HC := Lib.hid (And.intro hcol hdat)
  have HLT := Lib.hid hM.lt
  have HL : Hid (l.length ≤ 40 ∧ tbR.Sort l ∧ ∀ x ∈ l, nmW x.nm) := Lib.hid ⟨hl40, hso, hw⟩
  have H0 := Lib.hid (And.intro hrow (And.intro hk0 hM0))
  have c1 := hp.c1
  have c1' := hp0.c1
  clear hcol hdat hM hrow hk0 hM0 hgr hw hso hp hp0 hl hs
  go_enter Try.func26, Try.ntmps26
  go_wp2_with (first | (at_range; refine wpList_range_own _ rfl _ 93 rfl 97 55 kNm.K Try.underlying93 _ M n D rfl hown ?_; intro w1 hrg0 hg0 hs0))
  go_frame
  obtain ⟨r, hr⟩ : ∃ r, r = w0.heap.size := ⟨_, rfl⟩
  rw [← hr] at hrg0 hs0 ⊢
  have HR : Hid (w.heap.size < r) := Lib.hid (by
    have := H0.out.1
    rcases this.2 with ⟨e, _⟩ | ⟨g, cap, cur, e, hge, hb, _⟩
    · cases e
    · have := Kq.blk_lt hb; omega)
  have H1 : Hid (w1.ranges Try.prog 97 itR M r n D (Maps.has D) (Maps.size D) ∧ w1.ownsRow w.heap.size 55 5 (.slice (some ⟨w.heap.size, 0, none⟩) 0 l.length) 0 [] ∧ Kq.Keeps (fun k => w.heap.size ≤ k) w w1 ∧ r < w1.heap.size) := Lib.hid (by
    have hk := Kq.Keeps.grown (S := fun _ => False) hg0 (fun k _ hk => by cases hk)
    exact ⟨hrg0, own_keepsS H0.out.1 hk (fun k h => h.elim), keeps_past (H0.out.2.1.mono (fun k _ h => h.elim)) hk (fun k h => h.elim), hrg0.lt⟩)
  clear hrg0 hg0 hs0 hown hlen hmk H0 hr c1 c1'
  go_loopw [3] (fun u wr => ∃ (c : List NtV) (left : Lit → Bool) (cnt : Nat) (g q cp : Nat), u = .slice (some ⟨g, 0, none⟩) q cp ∧ wr.ranges Try.prog 97 itR M r n D left cnt ∧ ColT l c left cnt ∧ wr.ownsRow w.heap.size 55 5 (.slice (some ⟨g, 0, none⟩) q cp) c.length (ItE.flat c) ∧ g ≠ r ∧ Kq.Keeps (fun k => w.heap.size ≤ k) w wr ∧ r < wr.heap.size) (fun _ wr => wr.rangeLeft M r)
  case atStart => exact ⟨[], _, _, w.heap.size, 0, l.length, rfl, H1.out.1, HC.out.1, H1.out.2.1, by have := HR.out; omega, H1.out.2.2.1, H1.out.2.2.2⟩
  case round =>
    obtain ⟨c, left, cnt, g, q, cp, rfl, hrg, hcol, hown, hgr, hkp, hrw⟩ := hrel
    go_wp2_with (first | (at_next; refine next_colT rfl _ rfl M r n D left cnt l c HL.out.2.1 HL.out.2.2 rfl hrg hcol HC.out.2 ?_ ?_))
    · intro hc0 hl0
      obtain ⟨A', cap', e, hcc, hat, -, -⟩ := Kq.Elt.own_at (E := ItE) (l := c) hown
      injection e with e1 e2 e3
      subst e1 e2 e3
      have HMEM := Lib.hid (And.intro (hcol.done hl0) hcol.nd)
      have HSO2 := Lib.hid (tb_sort w.heap.size g cp c wr hown (by have := hcol.num; have := HL.out.1; omega))
      have HK := Lib.hid (And.intro hkp (And.intro hcc (row_geT hown)))
      clear hrg hcol hown hgr hkp hrw hc0 hl0 hat hcc
      go_wp2_with fail
      refine HSO2.out.mono ?_
      rintro x w3 ⟨rfl, d, hperm, hpw, hps, hk3⟩
      have hd : d = l := Ord.sort_back HL.out.2.1 HMEM.out.2 HMEM.out.1 hperm hpw
      subst hd
      have HLN : Hid (c.length = d.length) := Lib.hid hperm.length_eq.symm
      rw [HLN.out]
      have HE : Hid (NewT w.heap.size d (.slice (some ⟨g, 0, none⟩) d.length cp) w3 ∧ Below w.heap.size w w3) := Lib.hid ⟨⟨_, cp, rfl, by rw [← HLN.out]; exact HK.out.2.1, hps, fun b off e => by
        injection e with e
        injection e with e1 e2
        subst e1
        exact ⟨HK.out.2.2.1, Nat.lt_of_lt_of_le HK.out.2.2.2 hk3.size⟩⟩, by
          have := keeps_past HK.out.1 (hk3.mono (T := fun k => w.heap.size ≤ k) (fun k _ e => by have := HK.out.2.2.1; omega)) (fun k h => h)
          exact this.below (Nat.le_refl _) (fun k _ h => h)⟩
      clear hperm hpw hps hk3 HSO2
      go_wp2
      go_ret
      exact ⟨_, rfl, HE.out⟩
    · intro x w2 left' cnt' hx hcol' hrg' hlt hg hs hen
      obtain ⟨k, f, qq, t, d⟩ := x
      have hk1 := Kq.Keeps.grown (S := (· = r)) hg (fun k _ h => by injection h with h; exact h.symm)
      have hown1 := own_keepsS hown hk1 (fun k e h => by subst e; injection h with h; exact hgr h)
      have hlc : c.length ≤ 40 := by have h1 := hcol.num; have h2 := HL.out.1; omega
      obtain ⟨wb, hwb⟩ : ∃ z, z = w2.alloc (.cells #[.int .i64 f, .int .u64 qq, .int .u64 t, .string d, .int .i64 k] 55) := ⟨_, rfl⟩
      have hbb := Kq.below_alloc w2 (.cells #[.int .i64 f, .int .u64 qq, .int .u64 t, .string d, .int .i64 k] 55)
      have hbz : (w2.alloc (.cells #[.int .i64 f, .int .u64 qq, .int .u64 t, .string d, .int .i64 k] 55)).heap.size = w2.heap.size + 1 := by simp
      have HQ := Lib.hid (And.intro ((hrg'.alloc (.cells #[.int .i64 f, .int .u64 qq, .int .u64 t, .string d, .int .i64 k] 55)).alloc (.cells #[.int .i64 f, .int .u64 qq, .int .u64 t, .string d, .int .i64 k] 55)) (And.intro (own_belowF (own_belowF hown1 hbb) (Kq.below_alloc (w2.alloc (.cells #[.int .i64 f, .int .u64 qq, .int .u64 t, .string d, .int .i64 k] 55)) (.cells #[.int .i64 f, .int .u64 qq, .int .u64 t, .string d, .int .i64 k] 55))) (And.intro (keeps_past hkp hk1 (fun k e => by have := HR.out; have e2 : k = r := e; omega)) (And.intro hgr (And.intro (row_geT hown).1 (And.intro hlt (And.intro hrg.left_eq (And.intro hcol' (show r < w2.heap.size by omega)))))))))
      have HSRC : Hid (Src Try.prog 5 30 (.slice (some ⟨w2.heap.size + 1, 0, none⟩) 1 1) 1 (ItE.flat [⟨k, f, qq, t, d⟩]) ((w2.alloc (.cells #[.int .i64 f, .int .u64 qq, .int .u64 t, .string d, .int .i64 k] 55)).alloc (.cells #[.int .i64 f, .int .u64 qq, .int .u64 t, .string d, .int .i64 k] 55))) := Lib.hid (by
        have h1 := (Kq.Elt.made_one (E := ItE) ⟨k, f, qq, t, d⟩ (w2.alloc (.cells #[.int .i64 f, .int .u64 qq, .int .u64 t, .string d, .int .i64 k] 55)) 55).src Try.underlying30 1
        rw [hbz] at h1
        exact h1)
      unfold nmV itV NtV.nm at hen ⊢
      simp only at hen ⊢
      clear hrg hcol hown hgr hkp hrw hcol' hrg' hlt hg hk1 hown1 hs hwb wb hbb hbz hx
      go_wp2_with (at_builtin; refine Kq.wpList_append_any _ rfl (.tmp 21) (.tmp 23) 30 30 rfl w.heap.size 55 i0 (.agg #[.int .i64 0, .int .u64 0, .int .u64 0, .string ⟨#[]⟩, .int .i64 0]) 5 48 Try.underlying30 hi0 hz0 hz1 hz2 rfl (by decide) (.slice (some ⟨g, 0, none⟩) q cp) c.length (ItE.flat c) rfl HQ.out.2.1 (.slice (some ⟨w2.heap.size + 1, 0, none⟩) 1 1) 1 (ItE.flat [⟨k, f, qq, t, d⟩]) rfl HSRC.out ?h1 ?h2 ?h3 ?_)
      case h1 => unfold maxLen; omega
      case h2 => omega
      case h3 => have := HQ.out.2.2.1.size; simp; omega
      intro v' z3 hown3 hgrow hfresh
      rcases hown3.2 with ⟨_, h0⟩ | ⟨g2, cap2, cur2, hv2, -⟩
      · omega
      subst hv2
      have HN : Hid (z3.ranges Try.prog 97 itR M r n D left' cnt' ∧ z3.ownsRow w.heap.size 55 5 (.slice (some ⟨g2, 0, none⟩) (c.length + 1) cap2) (c ++ [(⟨k, f, qq, t, d⟩ : NtV)]).length (ItE.flat (c ++ [(⟨k, f, qq, t, d⟩ : NtV)])) ∧ g2 ≠ r ∧ Kq.Keeps (fun k => w.heap.size ≤ k) w z3 ∧ r < z3.heap.size) := Lib.hid (by
        have hM := HLT.out
        have hgg := HQ.out.2.2.2.2.1
        have hk3 := Kq.Keeps.grown (S := (· = g)) hgrow (fun k _ h => by injection h with h; exact h.symm)
        have hrw := HQ.out.2.2.2.2.2.2.2.2
        have hz2 : ((w2.alloc (.cells #[.int .i64 f, .int .u64 qq, .int .u64 t, .string d, .int .i64 k] 55)).alloc (.cells #[.int .i64 f, .int .u64 qq, .int .u64 t, .string d, .int .i64 k] 55)).heap.size = w2.heap.size + 1 + 1 := by simp
        refine ⟨HQ.out.1.kept hgrow (fun e => by have e2 : M = g := Option.some.inj e; omega) (fun e => by have e : r = g := Option.some.inj e; exact HQ.out.2.2.2.1 e.symm), by rw [List.length_append, ItE.flat_append]; exact hown3, ?_, ?_, ?_⟩
        · rcases hfresh g2 rfl with e | e
          · injection e with e; rw [e]; exact HQ.out.2.2.2.1
          · omega
        · exact keeps_past (keeps_past (keeps_past HQ.out.2.2.1 (keepsF (O := fun _ => True) (Kq.below_alloc w2 (.cells #[.int .i64 f, .int .u64 qq, .int .u64 t, .string d, .int .i64 k] 55))) (fun k h => h.elim)) (keepsF (O := fun _ => True) (Kq.below_alloc (w2.alloc (.cells #[.int .i64 f, .int .u64 qq, .int .u64 t, .string d, .int .i64 k] 55)) (.cells #[.int .i64 f, .int .u64 qq, .int .u64 t, .string d, .int .i64 k] 55))) (fun k h => h.elim)) hk3 (fun k e => by have e2 : k = g := e; omega)
        · have := hk3.size; omega)
      clear hown3 hgrow hfresh HSRC
      go_wp2
      go_roundw
      case rel => exact ⟨c ++ [⟨k, f, qq, t, d⟩], left', cnt', g2, c.length + 1, cap2, rfl, HN.out.1, HQ.out.2.2.2.2.2.2.2.1, HN.out.2.1, HN.out.2.2.1, HN.out.2.2.2.1, HN.out.2.2.2.2⟩
      case measure => rw [HN.out.1.left_eq, HQ.out.2.2.2.2.2.2.1]; exact HQ.out.2.2.2.2.2.1
end Go.Proofs.Ytkbiolhcpghmkaa
