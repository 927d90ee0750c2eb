/- Merged: TbItems, TbOf. Contract of table's Items. Condition: items that may be. Contract of table.Of. Condition: few items. -/
import Derived.WalkSpells
import Derived.Outline
import Derived.Laws.MakeOwn
import Derived.Test.YtkbiolhcpghmkaaGreatTbSortQ
import Derived.Deep.RegionHeld
import Derived.Deep.QuietTactic
import Derived.BigQuiet
import Derived.Test.YtkbiolhcpghmkaaGreatTbAppQ
import Derived.Test.YtkbiolhcpghmkaaGreatFillIQ
import Derived.Test.YtkbiolhcpghmkaaGreatHeldLastQ
namespace Go.Proofs.YtkbiolhcpghmkaaGreat
open Go.RowKit Go.Maps Go.Kq
set_option linter.unusedVariables false
theorem info_partsF {t : TypeId} {z : Value} {s b : Nat} (h : (Tryz.prog.info? t).map (fun i => (i.zero, i.size, i.bytes)) = some (some z, s, b)) : ∃ i, Tryz.prog.info? t = some i ∧ i.zero = some z ∧ i.size = s ∧ i.bytes = b := by
  cases e : Tryz.prog.info? t with
  | none => rw [e] at h; cases h
  | some i =>
    rw [e] at h
    simp only [Option.map_some, Option.some.injEq, Prod.mk.injEq] at h
    exact ⟨i, rfl, h.1, h.2.1, h.2.2⟩
theorem infoIt : (Tryz.prog.info? 51).map (fun i => (i.zero, i.size, i.bytes)) = some (some (.agg #[.int .i64 0, .int .u64 0, .int .u64 0, .string ⟨#[]⟩, .int .i64 0]), 5, 48) := by kernel_rfl
theorem row_geT {w : World} {B g q cp n sz : Nat} {xs : List Value} {e : TypeId} (h : w.ownsRow B e sz (.slice (some ⟨g, 0, none⟩) q cp) n xs) : B ≤ g ∧ g < w.heap.size := ⟨own_geF h rfl, own_ltK h rfl⟩
/-- a list of items that was made anew -/
def NewT (W : Nat) (l : List NtV) (x : Value) (w' : World) : Prop := ∃ A cap, x = .slice A l.length cap ∧ l.length ≤ cap ∧ EnAt NtV.ic w' A l ∧ ∀ b off, A = some ⟨b, off, none⟩ → W ≤ b ∧ b < w'.heap.size
set_option maxRecDepth 100000 in
set_option maxHeartbeats 2000000 in
theorem tb_items (w : World) (O : Nat → Prop) (B : Nat) (s : TbV) (h : TbP w O B s) (hs : TbOk s) :
    Calls Tryz.prog 16 #[.pointer (some ⟨B, 0, none⟩)] w fun x w' => ∃ v, x = .returned v ∧ NewT w.heap.size s.l v w' ∧ Below w.heap.size w w' := by
  obtain ⟨i0, hi0, hz0, hz1, hz2⟩ := info_partsF infoIt
  obtain ⟨M, hp⟩ := h
  obtain ⟨l, hl⟩ : ∃ l, l = s.l := ⟨_, rfl⟩
  have hM := hp.map
  have hl40 : l.length ≤ 40 := by have h1 := hs.len; have h2 := hs.r40; rw [hl]; omega
  have hw : ∀ x ∈ l, nmW x.nm := fun x hx => by have := hs.ok x (by rw [← hl]; exact hx); exact nm_ok this.1.2 this.2
  have hso := hs.sort
  rw [← hl] at hM hso ⊢
  have hlen := hM.len 3
  obtain ⟨w0, hmk, hrow, hgr⟩ := run_make_own (P := Tryz.prog) w w.heap.size 26 51 i0 (.agg #[.int .i64 0, .int .u64 0, .int .u64 0, .string ⟨#[]⟩, .int .i64 0]) 5 Tryz.underlying26 hi0 hz0 hz1 .i64 .i64 l.length (by rw [hz2]; omega) (by unfold maxLen; omega) (Nat.le_refl _)
  have hk0 := Kq.Keeps.grown (S := fun _ => False) hgr (fun k _ hk => by cases hk)
  have hM0 := hM.keeps hk0 id
  have hp0 := hp.keeps hk0 (fun _ _ h => h)
  obtain ⟨n, D, hown, hcol, hdat⟩ := ColT.start hso hw hM0
  have HC := Lib.hid (And.intro hcol hdat)
  have HLT := Lib.hid hM.lt
  have HL : Hid (l.length ≤ 40 ∧ tbR.Sort l ∧ ∀ x ∈ l, nmW x.nm) := Lib.hid ⟨hl40, hso, hw⟩
  have H0 := Lib.hid (And.intro hrow (And.intro hk0 hM0))
  have c1 := hp.c1
  have c1' := hp0.c1
  clear hcol hdat hM hrow hk0 hM0 hgr hw hso hp hp0 hl hs
  go_enter Tryz.func16, Tryz.ntmps16
  go_wp2_with (first | (at_range; refine wpList_range_own _ rfl _ 88 rfl 92 51 kNm.K Tryz.underlying88 _ M n D rfl hown ?_; intro w1 hrg0 hg0 hs0))
  go_frame
  obtain ⟨r, hr⟩ : ∃ r, r = w0.heap.size := ⟨_, rfl⟩
  rw [← hr] at hrg0 hs0 ⊢
  have HR : Hid (w.heap.size < r) := Lib.hid (by
    have := H0.out.1
    rcases this.2 with ⟨e, _⟩ | ⟨g, cap, cur, e, hge, hb, _⟩
    · cases e
    · have := Kq.blk_lt hb; omega)
  have H1 : Hid (w1.ranges Tryz.prog 92 itR M r n D (Maps.has D) (Maps.size D) ∧ w1.ownsRow w.heap.size 51 5 (.slice (some ⟨w.heap.size, 0, none⟩) 0 l.length) 0 [] ∧ Kq.Keeps (fun k => w.heap.size ≤ k) w w1 ∧ r < w1.heap.size) := Lib.hid (by
    have hk := Kq.Keeps.grown (S := fun _ => False) hg0 (fun k _ hk => by cases hk)
    exact ⟨hrg0, own_keepsS H0.out.1 hk (fun k h => h.elim), keeps_past (H0.out.2.1.mono (fun k _ h => h.elim)) hk (fun k h => h.elim), hrg0.lt⟩)
  clear hrg0 hg0 hs0 hown hlen hmk H0 hr c1 c1'
  go_loopw [3] (fun u wr => ∃ (c : List NtV) (left : Lit → Bool) (cnt : Nat) (g q cp : Nat), u = .slice (some ⟨g, 0, none⟩) q cp ∧ wr.ranges Tryz.prog 92 itR M r n D left cnt ∧ ColT l c left cnt ∧ wr.ownsRow w.heap.size 51 5 (.slice (some ⟨g, 0, none⟩) q cp) c.length (ItE.flat c) ∧ g ≠ r ∧ Kq.Keeps (fun k => w.heap.size ≤ k) w wr ∧ r < wr.heap.size) (fun _ wr => wr.rangeLeft M r)
  case atStart => exact ⟨[], _, _, w.heap.size, 0, l.length, rfl, H1.out.1, HC.out.1, H1.out.2.1, by have := HR.out; omega, H1.out.2.2.1, H1.out.2.2.2⟩
  case round =>
    obtain ⟨c, left, cnt, g, q, cp, rfl, hrg, hcol, hown, hgr, hkp, hrw⟩ := hrel
    go_wp2_with (first | (at_next; refine next_colT rfl _ rfl M r n D left cnt l c HL.out.2.1 HL.out.2.2 rfl hrg hcol HC.out.2 ?_ ?_))
    · intro hc0 hl0
      obtain ⟨A', cap', e, hcc, hat, -, -⟩ := Kq.Elt.own_at (E := ItE) (l := c) hown
      injection e with e1 e2 e3
      subst e1 e2 e3
      have HMEM := Lib.hid (And.intro (hcol.done hl0) hcol.nd)
      have HSO2 := Lib.hid (tb_sort w.heap.size g cp c wr hown (by have := hcol.num; have := HL.out.1; omega))
      have HK := Lib.hid (And.intro hkp (And.intro hcc (row_geT hown)))
      clear hrg hcol hown hgr hkp hrw hc0 hl0 hat hcc
      go_wp2_with fail
      refine HSO2.out.mono ?_
      rintro x w3 ⟨rfl, d, hperm, hpw, hps, hk3⟩
      have hd : d = l := Ord.sort_back HL.out.2.1 HMEM.out.2 HMEM.out.1 hperm hpw
      subst hd
      have HLN : Hid (c.length = d.length) := Lib.hid hperm.length_eq.symm
      rw [HLN.out]
      have HE : Hid (NewT w.heap.size d (.slice (some ⟨g, 0, none⟩) d.length cp) w3 ∧ Below w.heap.size w w3) := Lib.hid ⟨⟨_, cp, rfl, by rw [← HLN.out]; exact HK.out.2.1, hps, fun b off e => by
        injection e with e
        injection e with e1 e2
        subst e1
        exact ⟨HK.out.2.2.1, Nat.lt_of_lt_of_le HK.out.2.2.2 hk3.size⟩⟩, by
          have := keeps_past HK.out.1 (hk3.mono (T := fun k => w.heap.size ≤ k) (fun k _ e => by have := HK.out.2.2.1; omega)) (fun k h => h)
          exact this.below (Nat.le_refl _) (fun k _ h => h)⟩
      clear hperm hpw hps hk3 HSO2
      go_wp2
      go_ret
      exact ⟨_, rfl, HE.out⟩
    · intro x w2 left' cnt' hx hcol' hrg' hlt hg hs hen
      obtain ⟨k, f, qq, t, d⟩ := x
      have hk1 := Kq.Keeps.grown (S := (· = r)) hg (fun k _ h => by injection h with h; exact h.symm)
      have hown1 := own_keepsS hown hk1 (fun k e h => by subst e; injection h with h; exact hgr h)
      have hlc : c.length ≤ 40 := by have h1 := hcol.num; have h2 := HL.out.1; omega
      obtain ⟨wb, hwb⟩ : ∃ z, z = w2.alloc (.cells #[.int .i64 f, .int .u64 qq, .int .u64 t, .string d, .int .i64 k] 51) := ⟨_, rfl⟩
      have hbb := Kq.below_alloc w2 (.cells #[.int .i64 f, .int .u64 qq, .int .u64 t, .string d, .int .i64 k] 51)
      have hbz : (w2.alloc (.cells #[.int .i64 f, .int .u64 qq, .int .u64 t, .string d, .int .i64 k] 51)).heap.size = w2.heap.size + 1 := by simp
      have HQ := Lib.hid (And.intro ((hrg'.alloc (.cells #[.int .i64 f, .int .u64 qq, .int .u64 t, .string d, .int .i64 k] 51)).alloc (.cells #[.int .i64 f, .int .u64 qq, .int .u64 t, .string d, .int .i64 k] 51)) (And.intro (own_belowF (own_belowF hown1 hbb) (Kq.below_alloc (w2.alloc (.cells #[.int .i64 f, .int .u64 qq, .int .u64 t, .string d, .int .i64 k] 51)) (.cells #[.int .i64 f, .int .u64 qq, .int .u64 t, .string d, .int .i64 k] 51))) (And.intro (keeps_past hkp hk1 (fun k e => by have := HR.out; have e2 : k = r := e; omega)) (And.intro hgr (And.intro (row_geT hown).1 (And.intro hlt (And.intro hrg.left_eq (And.intro hcol' (show r < w2.heap.size by omega)))))))))
      have HSRC : Hid (Src Tryz.prog 5 26 (.slice (some ⟨w2.heap.size + 1, 0, none⟩) 1 1) 1 (ItE.flat [⟨k, f, qq, t, d⟩]) ((w2.alloc (.cells #[.int .i64 f, .int .u64 qq, .int .u64 t, .string d, .int .i64 k] 51)).alloc (.cells #[.int .i64 f, .int .u64 qq, .int .u64 t, .string d, .int .i64 k] 51))) := Lib.hid (by
        have h1 := (Kq.Elt.made_one (E := ItE) ⟨k, f, qq, t, d⟩ (w2.alloc (.cells #[.int .i64 f, .int .u64 qq, .int .u64 t, .string d, .int .i64 k] 51)) 51).src Tryz.underlying26 1
        rw [hbz] at h1
        exact h1)
      unfold nmV itV NtV.nm at hen ⊢
      simp only at hen ⊢
      clear hrg hcol hown hgr hkp hrw hcol' hrg' hlt hg hk1 hown1 hs hwb wb hbb hbz hx
      go_wp2_with (at_builtin; refine Kq.wpList_append_any _ rfl (.tmp 21) (.tmp 23) 26 26 rfl w.heap.size 51 i0 (.agg #[.int .i64 0, .int .u64 0, .int .u64 0, .string ⟨#[]⟩, .int .i64 0]) 5 48 Tryz.underlying26 hi0 hz0 hz1 hz2 rfl (by decide) (.slice (some ⟨g, 0, none⟩) q cp) c.length (ItE.flat c) rfl HQ.out.2.1 (.slice (some ⟨w2.heap.size + 1, 0, none⟩) 1 1) 1 (ItE.flat [⟨k, f, qq, t, d⟩]) rfl HSRC.out ?h1 ?h2 ?h3 ?_)
      case h1 => unfold maxLen; omega
      case h2 => omega
      case h3 => have := HQ.out.2.2.1.size; simp; omega
      intro v' z3 hown3 hgrow hfresh
      rcases hown3.2 with ⟨_, h0⟩ | ⟨g2, cap2, cur2, hv2, -⟩
      · omega
      subst hv2
      have HN : Hid (z3.ranges Tryz.prog 92 itR M r n D left' cnt' ∧ z3.ownsRow w.heap.size 51 5 (.slice (some ⟨g2, 0, none⟩) (c.length + 1) cap2) (c ++ [(⟨k, f, qq, t, d⟩ : NtV)]).length (ItE.flat (c ++ [(⟨k, f, qq, t, d⟩ : NtV)])) ∧ g2 ≠ r ∧ Kq.Keeps (fun k => w.heap.size ≤ k) w z3 ∧ r < z3.heap.size) := Lib.hid (by
        have hM := HLT.out
        have hgg := HQ.out.2.2.2.2.1
        have hk3 := Kq.Keeps.grown (S := (· = g)) hgrow (fun k _ h => by injection h with h; exact h.symm)
        have hrw := HQ.out.2.2.2.2.2.2.2.2
        have hz2 : ((w2.alloc (.cells #[.int .i64 f, .int .u64 qq, .int .u64 t, .string d, .int .i64 k] 51)).alloc (.cells #[.int .i64 f, .int .u64 qq, .int .u64 t, .string d, .int .i64 k] 51)).heap.size = w2.heap.size + 1 + 1 := by simp
        refine ⟨HQ.out.1.kept hgrow (fun e => by have e2 : M = g := Option.some.inj e; omega) (fun e => by have e : r = g := Option.some.inj e; exact HQ.out.2.2.2.1 e.symm), by rw [List.length_append, ItE.flat_append]; exact hown3, ?_, ?_, ?_⟩
        · rcases hfresh g2 rfl with e | e
          · injection e with e; rw [e]; exact HQ.out.2.2.2.1
          · omega
        · exact keeps_past (keeps_past (keeps_past HQ.out.2.2.1 (keepsF (O := fun _ => True) (Kq.below_alloc w2 (.cells #[.int .i64 f, .int .u64 qq, .int .u64 t, .string d, .int .i64 k] 51))) (fun k h => h.elim)) (keepsF (O := fun _ => True) (Kq.below_alloc (w2.alloc (.cells #[.int .i64 f, .int .u64 qq, .int .u64 t, .string d, .int .i64 k] 51)) (.cells #[.int .i64 f, .int .u64 qq, .int .u64 t, .string d, .int .i64 k] 51))) (fun k h => h.elim)) hk3 (fun k e => by have e2 : k = g := e; omega)
        · have := hk3.size; omega)
      clear hown3 hgrow hfresh HSRC
      go_wp2
      go_roundw
      case rel => exact ⟨c ++ [⟨k, f, qq, t, d⟩], left', cnt', g2, c.length + 1, cap2, rfl, HN.out.1, HQ.out.2.2.2.2.2.2.2.1, HN.out.2.1, HN.out.2.2.1, HN.out.2.2.2.1, HN.out.2.2.2.2⟩
      case measure => rw [HN.out.1.left_eq, HQ.out.2.2.2.2.2.2.1]; exact HQ.out.2.2.2.2.2.1
end Go.Proofs.YtkbiolhcpghmkaaGreat
namespace Go.Proofs.YtkbiolhcpghmkaaGreat
open Go.RowKit Go.Kq
set_option linter.unusedVariables false
/-- items one by one: none, where two have one name -/
def ofL : List NtV → List NtV → Option (List NtV)
  | acc, [] => some acc
  | acc, n :: l => if (tbR.look acc n.nm).isSome = true then none else ofL (tbR.ins acc n) l
/-- what Of makes of a room and items -/
def ofV (r : Int) (l : List NtV) : Int × Option (List NtV) :=
  if ¬ (1 ≤ r ∧ r ≤ 40) then (1, none) else if ¬ ∀ n ∈ l, ItOk n then (1, none) else (ofL [] l).elim (4, none) (fun acc => if r < (l.length : Int) then (2, none) else (0, some acc))
theorem ofV_r {r : Int} {l : List NtV} (h : ¬ (1 ≤ r ∧ r ≤ 40)) : ofV r l = (1, none) := if_pos h
theorem ofV_i {r : Int} {l : List NtV} (h : 1 ≤ r ∧ r ≤ 40) (hi : ¬ ∀ n ∈ l, ItOk n) : ofV r l = (1, none) := by unfold ofV; rw [if_neg (not_not_intro h), if_pos hi]
theorem ofV_l {r : Int} {l : List NtV} (h : 1 ≤ r ∧ r ≤ 40) (hi : ∀ n ∈ l, ItOk n) : ofV r l = (ofL [] l).elim (4, none) (fun acc => if r < (l.length : Int) then (2, none) else (0, some acc)) := by unfold ofV; rw [if_neg (not_not_intro h), if_neg (not_not_intro hi)]
/-- the first j items are in -/
structure OfI (l acc : List NtV) (j : Nat) : Prop where
  le : j ≤ l.length
  rest : ofL acc (l.drop j) = ofL [] l
  sort : tbR.Sort acc
  len : acc.length = j
  ok : ∀ x ∈ acc, ItOk x ∧ x.wf
theorem OfI.zero (l : List NtV) : OfI l [] 0 := ⟨Nat.zero_le _, rfl, List.Pairwise.nil, rfl, fun x h => by cases h⟩
theorem OfI.twice {l acc : List NtV} {j : Nat} (h : OfI l acc j) (hj : j < l.length) (hs : (tbR.look acc l[j].nm).isSome = true) : ofL [] l = none := by
  rw [← h.rest, List.drop_eq_getElem_cons hj]
  exact if_pos hs
theorem OfI.next {l acc : List NtV} {j : Nat} (h : OfI l acc j) (hj : j < l.length) (hs : tbR.look acc l[j].nm = none) (hok : ItOk l[j] ∧ l[j].wf) : OfI l (tbR.ins acc l[j]) (j + 1) := by
  refine ⟨hj, ?_, Ord.sort_ins _ _ h.sort, ?_, fun x hx => ?_⟩
  · rw [← h.rest, List.drop_eq_getElem_cons hj]
    exact (if_neg (by rw [hs]; simp)).symm
  · rw [Ord.len_ins _ _ h.sort, show tbR.look acc (tbR.key l[j]) = none from hs, h.len]
    rfl
  · rcases Ord.mem_ins _ _ _ hx with rfl | hx
    · exact hok
    · exact h.ok x hx
theorem OfI.done {l acc : List NtV} (h : OfI l acc l.length) : ofL [] l = some acc := by
  rw [← h.rest, List.drop_length]; rfl
/-- what table.Of tells -/
def OfP (w : World) (r : Int) (l : List NtV) (x : Ending) (w' : World) : Prop := Below w.heap.size w w' ∧ ((∃ e, e ≠ 0 ∧ ofV r l = (e, none) ∧ x = .returned (.tuple #[.pointer none, .int .i64 e])) ∨ ∃ B acc, ofV r l = (0, some acc) ∧ x = .returned (.tuple #[.pointer (some ⟨B, 0, none⟩), .int .i64 0]) ∧ TbP w' (fun k => w.heap.size ≤ k ∧ k < w'.heap.size) B ⟨r.toNat, acc⟩ ∧ TbOk ⟨r.toNat, acc⟩)
/-- a table under way, an item beside it -/
structure Qs (w w' : World) (O : Nat → Prop) (B : Nat) (s : TbV) (M X : Nat) (n : NtV) : Prop where
  tp : TP w' O B s M
  bel : Below w.heap.size w w'
  ab : AddB w' X B M n
  lt : X < w'.heap.size
  szw : X < w'.heap.size
theorem Qs.below {w a b : World} {O : Nat → Prop} {B : Nat} {s : TbV} {M X : Nat} {n : NtV} (h : Qs w a O B s M X n) (hb : Below a.heap.size a b) : Qs w b O B s M X n :=
  ⟨h.tp.below hb, h.bel.trans (hb.mono h.bel.size), h.ab.keeps (keepsF (O := O) hb) h.lt h.tp.lt (fun h => h) (fun h => h), Nat.lt_of_lt_of_le h.lt hb.size, Nat.lt_of_lt_of_le h.szw hb.size⟩
theorem Qs.keepsZ {w a b : World} {O : Nat → Prop} {B : Nat} {s : TbV} {M X Z : Nat} {n : NtV} (h : Qs w a O B s M X n) (hk : Kq.Keeps (· = Z) a b) (hw : w.heap.size ≤ Z) (hX : Z ≠ X) (hO : ∀ k, O k → k ≠ Z) : Qs w b O B s M X n :=
  ⟨h.tp.keeps hk hO, h.bel.trans (hk.below h.bel.size (fun k _ e => by rw [show k = Z from e]; exact hw)), h.ab.keeps hk h.lt h.tp.lt (fun e => hX e.symm) (hO B h.tp.oB), Nat.lt_of_lt_of_le h.lt hk.size, Nat.lt_of_lt_of_le h.szw hk.size⟩
def LkB (w : World) (X B M : Nat) (n : NtV) (y : NtV) (z : Bool) : Prop := AddB w X B M n ∧ (Instr.lookup 88 (.map (some M)) (.agg #[.int .i64 n.f, .int .u64 n.q]) true).run Tryz.prog w = .ok (.tuple #[.agg #[.int .i64 y.f, .int .u64 y.q, .int .u64 y.t, .string y.d, .int .i64 y.k], .bool z]) w
set_option maxRecDepth 100000 in
set_option maxHeartbeats 4000000 in
theorem tb_of (w : World) (r : Int) (l : List NtV) (A : Option Addr) (ca : Nat) (hA : EnAt NtV.ic w A l) (hw : ∀ n ∈ l, n.wf) (hl : l.length ≤ 1000) : Calls Tryz.prog 14 #[.int .i64 r, .slice A l.length ca] w (OfP w r l) := by
  have HG := Lib.hid (And.intro hA (And.intro hw hl))
  clear hA hw hl
  go_enter Tryz.func14, Tryz.ntmps14
  by_cases hr : 1 ≤ r ∧ r ≤ 40
  case neg =>
    have HE := Lib.hid (ofV_r (l := l) hr)
    go_wp2_with fail
    refine (tb_new_bad r w hr).mono ?_
    rintro x w1 ⟨rfl, rfl⟩
    clear hr
    go_wp2
    go_ret2
    exact ⟨Below.refl _ _, Or.inl ⟨1, by decide, HE.out, by rfl⟩⟩
  obtain ⟨R, hR⟩ : ∃ R : Nat, r = (R : Int) := ⟨r.toNat, by omega⟩
  subst hR
  have HR40 : Hid (1 ≤ R ∧ R ≤ 40 ∧ (1 ≤ (R : Int) ∧ (R : Int) ≤ 40)) := Lib.hid (by omega)
  clear hr
  go_wp2_with fail
  refine (tb_new R w HR40.out.1 HR40.out.2.1).mono ?_
  rintro x w1 ⟨B, rfl, p1, b1⟩
  obtain ⟨M, p1⟩ := p1
  obtain ⟨O, hO⟩ : ∃ O : Nat → Prop, O = fun k => w.heap.size ≤ k ∧ k < w1.heap.size := ⟨_, rfl⟩
  rw [← hO] at p1
  have HO : Hid (∀ k, O k → w.heap.size ≤ k ∧ k < w1.heap.size) := Lib.hid (fun k hk => by rw [hO] at hk; exact hk)
  have H1 : Hid (TP w1 O B ⟨R, []⟩ M ∧ Below w.heap.size w w1 ∧ w1.heap.size ≤ w1.heap.size) := Lib.hid ⟨p1, b1, Nat.le_refl _⟩
  clear p1 b1 hO
  go_wp2
  go_loopw [24] (fun i wr => ∃ j : Nat, j ≤ l.length ∧ i = .int .i64 (j : Int) ∧ (∀ i (hi : i < l.length), i < j → ItOk l[i]) ∧ TP wr O B ⟨R, []⟩ M ∧ Below w.heap.size w wr ∧ w1.heap.size ≤ wr.heap.size) (fun i _ => l.length - (intOf i).toNat)
  case atStart => exact ⟨0, Nat.zero_le _, rfl, fun i _ h => absurd h (Nat.not_lt_zero _), H1.out⟩
  case round =>
    obtain ⟨j, hj, rfl, hall, htp, hbl, hsz⟩ := hrel
    have HR := Lib.hid (And.intro hall (And.intro htp (And.intro hbl hsz)))
    have h100 := HG.out.2.2
    clear H1 hall htp hsz
    by_cases hlt : j < l.length
    · obtain ⟨b, off, rfl, _, hc⟩ := (HG.out.1.below hbl) j hlt
      obtain ⟨n, hn⟩ : ∃ n, n = l[j] := ⟨_, rfl⟩
      rw [← hn] at hc
      have c0 := hc 0 (by omega)
      have c1 := hc 1 (by omega)
      have c2 := hc 2 (by omega)
      have c3 := hc 3 (by omega)
      have c4 := hc 4 (by omega)
      simp only [NtV.ic, List.getElem?_cons_zero, List.getElem?_cons_succ, Nat.add_zero] at c0 c1 c2 c3 c4
      have HNN : Hid (∀ h : j < l.length, n = l[j]'h) := Lib.hid (fun _ => hn)
      have HLT := Lib.hid hlt
      have hi0 : (j : Int) < (l.length : Int) := by omega
      have hj6 : j ≤ 1000 := by omega
      clear hc hn hlt hj h100 hbl
      obtain ⟨k, f, q, t, d⟩ := n
      simp only at c0 c1 c2 c3 c4
      have hb0 := Kq.below_alloc wr (.cells #[.int .i64 f, .int .u64 q, .int .u64 t, .string d, .int .i64 k] 51)
      have H2 : Hid (TP (wr.alloc (.cells #[.int .i64 f, .int .u64 q, .int .u64 t, .string d, .int .i64 k] 51)) O B ⟨R, []⟩ M ∧ Below w.heap.size w (wr.alloc (.cells #[.int .i64 f, .int .u64 q, .int .u64 t, .string d, .int .i64 k] 51)) ∧ w1.heap.size ≤ (wr.alloc (.cells #[.int .i64 f, .int .u64 q, .int .u64 t, .string d, .int .i64 k] 51)).heap.size) := Lib.hid ⟨HR.out.2.1.below hb0, HR.out.2.2.1.trans (hb0.mono HR.out.2.2.1.size), Nat.le_trans HR.out.2.2.2 hb0.size⟩
      clear hb0
      go_wp2_with fail
      by_cases hok : ItOk ⟨k, f, q, t, d⟩
      · refine (tb_may_ok ⟨k, f, q, t, d⟩ _ hok).mono ?_
        rintro x w3 ⟨rfl, b3⟩
        have H3 : Hid (TP w3 O B ⟨R, []⟩ M ∧ Below w.heap.size w w3 ∧ w1.heap.size ≤ w3.heap.size) := Lib.hid ⟨H2.out.1.below b3, H2.out.2.1.trans (b3.mono H2.out.2.1.size), Nat.le_trans H2.out.2.2 b3.size⟩
        have HOK := Lib.hid hok
        clear b3 H2 hok c0 c1 c2 c3 c4
        go_wp2
        go_roundw
        case rel =>
          refine ⟨j + 1, HLT.out, by go_num, fun i hi hij => ?_, H3.out⟩
          rcases Nat.lt_or_ge i j with h' | h'
          · exact HR.out.1 i hi h'
          · obtain rfl : i = j := by omega
            rw [← HNN.out hi]; exact HOK.out
        case measure => have := HLT.out; simp [intOf]; omega
      · refine (tb_may_bad ⟨k, f, q, t, d⟩ _ hok).mono ?_
        rintro x w3 ⟨rfl, b3⟩
        have H3 : Hid (Below w.heap.size w w3 ∧ ofV (R : Int) l = (1, none)) := Lib.hid ⟨H2.out.2.1.trans (b3.mono H2.out.2.1.size), ofV_i HR40.out.2.2 (fun h => hok (by rw [HNN.out HLT.out]; exact h _ (List.getElem_mem HLT.out)))⟩
        clear b3 H2 hok c0 c1 c2 c3 c4
        go_wp2
        go_ret2
        exact ⟨H3.out.1, Or.inl ⟨1, by decide, H3.out.2, by rfl⟩⟩
    · obtain rfl : j = l.length := by omega
      have HOK : Hid (∀ n ∈ l, ItOk n) := Lib.hid (fun n hn => by
        obtain ⟨i, hi, rfl⟩ := List.mem_iff_getElem.1 hn
        exact HR.out.1 i hi hi)
      have HV := Lib.hid (ofV_l HR40.out.2.2 HOK.out)
      clear hlt hj hbl h100
      go_wp2
      go_loopw [34] (fun i wr => ∃ j acc, i = .int .i64 ((j : Nat) : Int) ∧ OfI l acc j ∧ TP wr O B ⟨R, acc⟩ M ∧ Below w.heap.size w wr ∧ w1.heap.size ≤ wr.heap.size) (fun i _ => l.length - (intOf i).toNat)
      case atStart => exact ⟨0, [], rfl, OfI.zero l, HR.out.2⟩
      case round =>
        obtain ⟨j, acc, rfl, hof, htp, hbl, hsz⟩ := hrel
        have HRR := Lib.hid (And.intro hof (And.intro htp (And.intro hbl hsz)))
        have h100 := HG.out.2.2
        have hj := hof.le
        clear hof htp hsz HR
        by_cases hlt : j < l.length
        · obtain ⟨b, off, rfl, _, hc⟩ := (HG.out.1.below hbl) j hlt
          obtain ⟨n, hn⟩ : ∃ n, n = l[j] := ⟨_, rfl⟩
          rw [← hn] at hc
          have c0 := hc 0 (by omega)
          have c1 := hc 1 (by omega)
          have c2 := hc 2 (by omega)
          have c3 := hc 3 (by omega)
          have c4 := hc 4 (by omega)
          simp only [NtV.ic, List.getElem?_cons_zero, List.getElem?_cons_succ, Nat.add_zero] at c0 c1 c2 c3 c4
          have HIT : Hid (ItOk n ∧ n.wf ∧ nmW n.nm) := Lib.hid (by
            have h1 : ItOk n := by rw [hn]; exact HOK.out _ (List.getElem_mem hlt)
            have h2 : n.wf := by rw [hn]; exact HG.out.2.1 _ (List.getElem_mem hlt)
            exact ⟨h1, h2, nm_ok h1.2 h2⟩)
          have HNEXT : Hid (tbR.look acc n.nm = none → OfI l (tbR.ins acc n) (j + 1)) := Lib.hid (fun h => by subst hn; exact HRR.out.1.next hlt h ⟨HIT.out.1, HIT.out.2.1⟩)
          have HTW : Hid ((tbR.look acc n.nm).isSome = true → ofV (R : Int) l = (4, none)) := Lib.hid (fun h => by
            rw [HV.out, HRR.out.1.twice hlt (by rw [← hn]; exact h)]; rfl)
          have HLT := Lib.hid hlt
          have hi0 : (j : Int) < (l.length : Int) := by omega
          have hj6 : j ≤ 1000 := by omega
          have HSML : Hid (tbR.Sort acc ∧ acc.length < 1000000000) := Lib.hid ⟨HRR.out.1.sort, by have := HRR.out.1.len; omega⟩
          clear hc hn hlt hj h100 hbl
          obtain ⟨k, f, q, t, d⟩ := n
          simp only at c0 c1 c2 c3 c4
          obtain ⟨X, hX⟩ : ∃ X, X = wr.heap.size := ⟨_, rfl⟩
          have HQ0 : Hid (Qs w (wr.alloc (.cells #[.int .i64 f, .int .u64 q, .int .u64 t, .string d, .int .i64 k] 51)) O B ⟨R, acc⟩ M X ⟨k, f, q, t, d⟩ ∧ w1.heap.size ≤ X ∧ (∀ k, O k → k < X)) := Lib.hid (by
            have hb0 := Kq.below_alloc wr (.cells #[.int .i64 f, .int .u64 q, .int .u64 t, .string d, .int .i64 k] 51)
            have hr := Kq.blk_new wr #[.int .i64 f, .int .u64 q, .int .u64 t, .string d, .int .i64 k] 51 (0, 0)
            rw [← hX] at hr
            have ht := HRR.out.2.1.below hb0
            have hsz := HRR.out.2.2.2
            exact ⟨⟨ht, HRR.out.2.2.1.trans (hb0.mono HRR.out.2.2.1.size), ⟨Kq.blk_cell hr 0, Kq.blk_cell hr 1, Kq.blk_cell hr 2, Kq.blk_cell hr 3, Kq.blk_cell hr 4, ht.c1⟩, Kq.blk_lt hr, Kq.blk_lt hr⟩, (by omega), fun k hk => by have := HO.out k hk; omega⟩)
          obtain ⟨y, hy⟩ : ∃ y, y = (tbR.look acc (f, q)).getD itZ := ⟨_, rfl⟩
          obtain ⟨z, hz⟩ : ∃ z, z = (tbR.look acc (f, q)).isSome := ⟨_, rfl⟩
          have HLK : Hid (∀ w', Qs w w' O B ⟨R, acc⟩ M X ⟨k, f, q, t, d⟩ → LkB w' X B M ⟨k, f, q, t, d⟩ y z) := Lib.hid (fun w' h => ⟨h.ab, by
            have := h.tp.map.look f q HIT.out.2.2
            rw [← hy, ← hz] at this
            exact this⟩)
          have HZ := Lib.hid hz
          clear hy hz
          obtain ⟨yk, yf, yq, yt, yd⟩ := y
          go_wp2
          rw [← hX]
          obtain ⟨w0, hw0⟩ : ∃ z, z = wr.alloc (.cells #[.int .i64 f, .int .u64 q, .int .u64 t, .string d, .int .i64 k] 51) := ⟨_, rfl⟩
          rw [← hw0] at HQ0 ⊢
          clear hw0 hX c0 c1 c2 c3 c4
          refine wp_region_held_drew (S := fun w' => LkB w' X B M ⟨k, f, q, t, d⟩ ⟨yk, yf, yq, yt, yd⟩ z) (by kernel_rfl) (HLK.out _ (HQ0.out.1.below (Below.refl _ _).drew)) (fun hS0 => ?_)
          obtain ⟨wd, hwd⟩ : ∃ z, z = w0.drew := ⟨_, rfl⟩
          rw [← hwd] at hS0 ⊢
          have HQ1 : Hid (Qs w wd O B ⟨R, acc⟩ M X ⟨k, f, q, t, d⟩) := Lib.hid (by rw [hwd]; exact HQ0.out.1.below (Below.refl _ _).drew)
          clear hwd
          unfold LkB AddB at hS0
          dsimp only [LkB, AddB] at hS0 ⊢
          refine wpAnyH_take (i := 0) (v := ?_) rfl (by kernel_rfl) (by kernel_rfl) (by kernel_rfl) (fun _ _ _ h => h) (Or.inl ⟨by kernel_rfl, ?_⟩) (by assumption) ?_
          rotate_left
          · intro w hSw; (try dsimp only at hSw); go_simp; (try with_reducible rfl)
          refine wpAnyH_take (i := 1) (v := ?_) rfl (by kernel_rfl) (by kernel_rfl) (by kernel_rfl) (fun _ _ _ h => h) (Or.inl ⟨by kernel_rfl, ?_⟩) (by assumption) ?_
          rotate_left
          · intro w hSw; (try dsimp only at hSw); go_simp; (try with_reducible rfl)
          refine wpAnyH_take (i := 2) (v := ?_) rfl (by kernel_rfl) (by kernel_rfl) (by kernel_rfl) (fun _ _ _ h => h) (Or.inl ⟨by kernel_rfl, ?_⟩) (by assumption) ?_
          rotate_left
          · intro w hSw; (try dsimp only at hSw); go_simp; (try with_reducible rfl)
          refine wpAnyH_take (i := 3) (v := ?_) rfl (by kernel_rfl) (by kernel_rfl) (by kernel_rfl) (fun _ _ _ h => h) (Or.inl ⟨by kernel_rfl, ?_⟩) (by assumption) ?_
          rotate_left
          · intro w hSw; (try dsimp only at hSw); go_simp; (try with_reducible rfl)
          refine wpAnyH_take (i := 4) (v := ?_) rfl (by kernel_rfl) (by kernel_rfl) (by kernel_rfl) (fun _ _ _ h => h) (Or.inl ⟨by kernel_rfl, ?_⟩) (by assumption) ?_
          rotate_left
          · intro w hSw; (try dsimp only at hSw); go_simp; (try with_reducible rfl)
          refine wpAnyH_take (i := 5) (v := ?_) rfl (by kernel_rfl) (by kernel_rfl) (by kernel_rfl) (fun _ _ _ h => h) (Or.inl ⟨by kernel_rfl, ?_⟩) (by assumption) ?_
          rotate_left
          · intro w hSw; (try dsimp only at hSw); go_simp; (try with_reducible rfl)
          refine wpAnyH_ready (rs := [6, 11]) (by kernel_rfl) (by simp) ?_
          refine AllReadyH.cons rfl (fun K hK => ?g6) (AllReadyH.cons rfl (fun K hK => ?g11) AllReadyH.nil)
          case g6 =>
            go_simp
            refine (tb_name f q t d wd).mono ?_
            rintro x w2 ⟨rfl, b2⟩
            have HQ2 := Lib.hid (HQ1.out.below b2)
            clear b2 HQ1 hS0
            refine hK.out _ _ (HLK.out _ HQ2.out) (fun hS0 => ?_)
            clear hK K
            refine wpAnyH_take (i := 7) (v := ?_) rfl (by kernel_rfl) (by kernel_rfl) (by kernel_rfl) (fun _ _ _ h => h) (Or.inl ⟨by kernel_rfl, ?_⟩) (by assumption) ?_
            rotate_left
            · intro w hSw; (try dsimp only at hSw); go_simp; (try with_reducible rfl)
            refine wpAnyH_take (i := 8) (v := ?_) rfl (by kernel_rfl) (by kernel_rfl) (by kernel_rfl) (fun _ _ _ h => h) (Or.inl ⟨by kernel_rfl, ?_⟩) (by assumption) ?_
            rotate_left
            · intro w hSw; (try dsimp only at hSw); go_simp; (try with_reducible rfl)
            refine wpAnyH_take (i := 9) (v := ?_) rfl (by kernel_rfl) (by kernel_rfl) (by kernel_rfl) (fun _ _ _ h => h) (Or.inl ⟨by kernel_rfl, ?_⟩) (by assumption) ?_
            rotate_left
            · intro w hSw; (try dsimp only at hSw); go_simp; (try with_reducible rfl)
            refine wpAnyH_take (i := 10) (v := ?_) rfl (by kernel_rfl) (by kernel_rfl) (by kernel_rfl) (fun _ _ _ h => h) (Or.inl ⟨by kernel_rfl, ?_⟩) (by assumption) ?_
            rotate_left
            · intro w hSw; (try dsimp only at hSw); go_simp; (try with_reducible rfl)
            refine wpAnyH_ready (rs := [11]) (by kernel_rfl) (by simp) ?_
            refine AllReadyH.cons rfl (fun K hK => ?_) AllReadyH.nil
            go_simp
            have HQ3 := Lib.hid (HQ2.out.below (Kq.below_alloc w2 (.cells #[.int .i64 0, .int .u64 0, .int .u64 0, .string ⟨#[]⟩, .int .i64 0] 51)))
            clear hS0
            refine hK.out _ _ (HLK.out _ HQ3.out) (fun hS0 => ?_)
            clear hK K
            refine wpAnyH_ready (rs := [12]) (by kernel_rfl) (by simp) ?_
            refine AllReadyH.cons rfl (fun K hK => ?_) AllReadyH.nil
            go_simp
            have HQ4 := Lib.hid (HQ2.out.below (Kq.below_alloc w2 (.cells #[.int .i64 yf, .int .u64 yq, .int .u64 yt, .string yd, .int .i64 yk] 51)))
            clear hS0 HQ3
            refine hK.out _ _ (HLK.out _ HQ4.out) (fun hS0 => ?_)
            clear hK K
            refine wpAnyH_take (i := 13) (v := ?_) rfl (by kernel_rfl) (by kernel_rfl) (by kernel_rfl) (fun _ _ _ h => h) (Or.inl ⟨by kernel_rfl, ?_⟩) (by assumption) ?_
            rotate_left
            · intro w hSw; (try dsimp only at hSw); go_simp; (try with_reducible rfl)
            refine wpAnyH_done (by kernel_rfl) ?_ _
            clear hS0
            go_simp
            obtain ⟨w4, hw4⟩ : ∃ z, z = w2.alloc (.cells #[.int .i64 yf, .int .u64 yq, .int .u64 yt, .string yd, .int .i64 yk] 51) := ⟨_, rfl⟩
            rw [← hw4] at HQ4 ⊢
            clear hw4 HQ2
            cases z with
            | true =>
              have HE : Hid (ofV (R : Int) l = (4, none) ∧ Below w.heap.size w w4) := Lib.hid ⟨HTW.out HZ.out.symm, HQ4.out.bel⟩
              go_wp2
              go_ret2
              exact ⟨HE.out.2, Or.inl ⟨4, by decide, HE.out.1, by rfl⟩⟩
            | false =>
              have HN : Hid (tbR.look acc (f, q) = none) := Lib.hid (Option.isNone_iff_eq_none.1 (by rw [← Option.not_isSome, ← HZ.out]; rfl))
              go_wp2
              refine wp_region_held_drew (S := fun w' => AddB w' X B M ⟨k, f, q, t, d⟩) (by kernel_rfl) HQ4.out.ab (fun hS0 => ?_)
              obtain ⟨we, hwe⟩ : ∃ z, z = w4.drew := ⟨_, rfl⟩
              rw [← hwe] at hS0 ⊢
              have HQ5 : Hid (Qs w we O B ⟨R, acc⟩ M X ⟨k, f, q, t, d⟩) := Lib.hid (by rw [hwe]; exact HQ4.out.below (Below.refl _ _).drew)
              clear hwe HQ4
              unfold AddB at hS0
              dsimp only [AddB] at hS0 ⊢
              refine wpAnyH_take (i := 0) (v := ?_) rfl (by kernel_rfl) (by kernel_rfl) (by kernel_rfl) (fun _ _ _ h => h) (Or.inl ⟨by kernel_rfl, ?_⟩) (by assumption) ?_
              rotate_left
              · intro w hSw; (try dsimp only at hSw); go_simp; (try with_reducible rfl)
              refine wpAnyH_take (i := 1) (v := ?_) rfl (by kernel_rfl) (by kernel_rfl) (by kernel_rfl) (fun _ _ _ h => h) (Or.inl ⟨by kernel_rfl, ?_⟩) (by assumption) ?_
              rotate_left
              · intro w hSw; (try dsimp only at hSw); go_simp; (try with_reducible rfl)
              refine wpAnyH_take (i := 2) (v := ?_) rfl (by kernel_rfl) (by kernel_rfl) (by kernel_rfl) (fun _ _ _ h => h) (Or.inl ⟨by kernel_rfl, ?_⟩) (by assumption) ?_
              rotate_left
              · intro w hSw; (try dsimp only at hSw); go_simp; (try with_reducible rfl)
              refine wpAnyH_take (i := 3) (v := ?_) rfl (by kernel_rfl) (by kernel_rfl) (by kernel_rfl) (fun _ _ _ h => h) (Or.inl ⟨by kernel_rfl, ?_⟩) (by assumption) ?_
              rotate_left
              · intro w hSw; (try dsimp only at hSw); go_simp; (try with_reducible rfl)
              refine wpAnyH_take (i := 4) (v := ?_) rfl (by kernel_rfl) (by kernel_rfl) (by kernel_rfl) (fun _ _ _ h => h) (Or.inl ⟨by kernel_rfl, ?_⟩) (by assumption) ?_
              rotate_left
              · intro w hSw; (try dsimp only at hSw); go_simp; (try with_reducible rfl)
              refine wpAnyH_take (i := 5) (v := ?_) rfl (by kernel_rfl) (by kernel_rfl) (by kernel_rfl) (fun _ _ _ h => h) (Or.inl ⟨by kernel_rfl, ?_⟩) (by assumption) ?_
              rotate_left
              · intro w hSw; (try dsimp only at hSw); go_simp; (try with_reducible rfl)
              refine wpAnyH_take (i := 7) (v := ?_) rfl (by kernel_rfl) (by kernel_rfl) (by kernel_rfl) (fun _ _ _ h => h) (Or.inl ⟨by kernel_rfl, ?_⟩) (by assumption) ?_
              rotate_left
              · intro w hSw; (try dsimp only at hSw); go_simp; (try with_reducible rfl)
              refine wpAnyH_ready (rs := [6]) (by kernel_rfl) (by simp) ?_
              refine AllReadyH.cons rfl (fun K hK => ?_) AllReadyH.nil
              go_simp
              refine (tb_name f q t d we).mono ?_
              rintro x w5 ⟨rfl, b5⟩
              have HQ6 := Lib.hid (HQ5.out.below b5)
              clear b5 HQ5 hS0
              refine hK.out _ _ HQ6.out.ab (fun hS0 => ?_)
              clear hK K
              obtain ⟨w6, hrun, hm6, hk6⟩ := HQ6.out.tp.map.put HSML.out.1 HSML.out.2 ⟨k, f, q, t, d⟩ HIT.out.2.2
              have H6 : Hid (TP w6 O B ⟨R, tbR.ins acc ⟨k, f, q, t, d⟩⟩ M ∧ Below w.heap.size w w6 ∧ w1.heap.size ≤ w6.heap.size ∧ AddB w6 X B M ⟨k, f, q, t, d⟩) := Lib.hid (by
                have hM := HO.out M HQ6.out.tp.oM
                have hMX := HQ0.out.2.2 M HQ6.out.tp.oM
                have hBX := HQ0.out.2.2 B HQ6.out.tp.oB
                refine ⟨⟨hk6.blk HQ6.out.tp.blk (fun e => HQ6.out.tp.ne e.symm), hm6, HQ6.out.tp.oB, HQ6.out.tp.oM⟩, HQ6.out.bel.trans (hk6.below HQ6.out.bel.size (fun k _ e => by rw [show k = M from e]; exact hM.1)), ?_, HQ6.out.ab.keeps hk6 HQ6.out.lt HQ6.out.tp.lt (fun e => by have e2 : X = M := e; omega) (fun e => HQ6.out.tp.ne e.symm)⟩
                have h1 := HQ0.out.2.1
                have h2 := hk6.size
                have h3 := HQ6.out.bel.size
                have h4 := HQ6.out.lt
                have h5 := HQ6.out.szw
                omega)
              unfold itV at hrun
              simp only at hrun
              clear hm6 hk6 hS0
              refine wpAnyH_ready (rs := [8]) (by kernel_rfl) (by simp) ?_
              refine AllReadyH.cons rfl (fun K hK => ?_) AllReadyH.nil
              go_simp
              refine hK.out _ _ H6.out.2.2.2 (fun hS0 => ?_)
              clear hK K
              refine wpAnyH_done (by kernel_rfl) ?_ _
              clear hS0
              go_simp
              have HFIN : Hid (OfI l (tbR.ins acc ⟨k, f, q, t, d⟩) (j + 1)) := Lib.hid (HNEXT.out HN.out)
              go_wp2
              go_roundw
              case rel => exact ⟨j + 1, _, by go_num, HFIN.out, H6.out.1, H6.out.2.1, H6.out.2.2.1⟩
              case measure => have := HLT.out; simp [intOf]; omega
          case g11 =>
            go_simp
            obtain ⟨Z, hZ⟩ : ∃ Z, Z = wd.heap.size := ⟨_, rfl⟩
            have HQ2 : Hid (Qs w (wd.alloc (.cells #[.int .i64 0, .int .u64 0, .int .u64 0, .string ⟨#[]⟩, .int .i64 0] 51)) O B ⟨R, acc⟩ M X ⟨k, f, q, t, d⟩ ∧ (wd.alloc (.cells #[.int .i64 0, .int .u64 0, .int .u64 0, .string ⟨#[]⟩, .int .i64 0] 51)).heap[Z]? = some (.cells #[.int .i64 0, .int .u64 0, .int .u64 0, .string ⟨#[]⟩, .int .i64 0] 51 (0, 0)) ∧ X < Z) := Lib.hid ⟨HQ1.out.below (Kq.below_alloc wd _), by rw [hZ]; exact Kq.blk_new wd _ _ _, by rw [hZ]; exact HQ1.out.lt⟩
            rw [← hZ]
            obtain ⟨wz, hwz⟩ : ∃ z, z = wd.alloc (.cells #[.int .i64 0, .int .u64 0, .int .u64 0, .string ⟨#[]⟩, .int .i64 0] 51) := ⟨_, rfl⟩
            rw [← hwz] at HQ2 ⊢
            clear hwz hZ HQ1 hS0
            refine hK.out _ _ (HLK.out _ HQ2.out.1) (fun hS0 => ?_)
            clear hK K
            refine wpAnyH_ready (rs := [6]) (by kernel_rfl) (by simp) ?_
            refine AllReadyH.cons rfl (fun K hK => ?_) AllReadyH.nil
            go_simp
            refine (tb_name f q t d wz).mono ?_
            rintro x w2 ⟨rfl, b2⟩
            have HQ3 : Hid (Qs w w2 O B ⟨R, acc⟩ M X ⟨k, f, q, t, d⟩ ∧ w2.heap[Z]? = some (.cells #[.int .i64 0, .int .u64 0, .int .u64 0, .string ⟨#[]⟩, .int .i64 0] 51 (0, 0)) ∧ X < Z) := Lib.hid ⟨HQ2.out.1.below b2, Kq.below_blk b2 HQ2.out.2.1 (Kq.blk_lt HQ2.out.2.1), HQ2.out.2.2⟩
            clear b2 HQ2 hS0
            refine hK.out _ _ (HLK.out _ HQ3.out.1) (fun hS0 => ?_)
            clear hK K
            refine wpAnyH_take (i := 7) (v := ?_) rfl (by kernel_rfl) (by kernel_rfl) (by kernel_rfl) (fun _ _ _ h => h) (Or.inl ⟨by kernel_rfl, ?_⟩) (by assumption) ?_
            rotate_left
            · intro w hSw; (try dsimp only at hSw); go_simp; (try with_reducible rfl)
            refine wpAnyH_take (i := 8) (v := ?_) rfl (by kernel_rfl) (by kernel_rfl) (by kernel_rfl) (fun _ _ _ h => h) (Or.inl ⟨by kernel_rfl, ?_⟩) (by assumption) ?_
            rotate_left
            · intro w hSw; (try dsimp only at hSw); go_simp; (try with_reducible rfl)
            refine wpAnyH_take (i := 9) (v := ?_) rfl (by kernel_rfl) (by kernel_rfl) (by kernel_rfl) (fun _ _ _ h => h) (Or.inl ⟨by kernel_rfl, ?_⟩) (by assumption) ?_
            rotate_left
            · intro w hSw; (try dsimp only at hSw); go_simp; (try with_reducible rfl)
            refine wpAnyH_take (i := 10) (v := ?_) rfl (by kernel_rfl) (by kernel_rfl) (by kernel_rfl) (fun _ _ _ h => h) (Or.inl ⟨by kernel_rfl, ?_⟩) (by assumption) ?_
            rotate_left
            · intro w hSw; (try dsimp only at hSw); go_simp; (try with_reducible rfl)
            have z0 := Kq.blk_cell HQ3.out.2.1 0
            have z1 := Kq.blk_cell HQ3.out.2.1 1
            have z2 := Kq.blk_cell HQ3.out.2.1 2
            have z3 := Kq.blk_cell HQ3.out.2.1 3
            have z4 := Kq.blk_cell HQ3.out.2.1 4
            have f0 := Kq.blk_free HQ3.out.2.1 0
            have f1 := Kq.blk_free HQ3.out.2.1 1
            have f2 := Kq.blk_free HQ3.out.2.1 2
            have f3 := Kq.blk_free HQ3.out.2.1 3
            have f4 := Kq.blk_free HQ3.out.2.1 4
            refine wpAnyH_ready (rs := [12]) (by kernel_rfl) (by simp) ?_
            refine AllReadyH.cons rfl (fun K hK => ?_) AllReadyH.nil
            go_simp
            have HQ4 : Hid (Qs w (fillI w2 Z yf yq yt yd yk) O B ⟨R, acc⟩ M X ⟨k, f, q, t, d⟩) := Lib.hid (HQ3.out.1.keepsZ (fillI_keeps w2 Z yf yq yt yd yk) (by have h1 := HQ0.out.2.2; have h2 := HQ3.out.2.2; have h3 := HRR.out.2.1; have h4 := HO.out B h3.oB; have h5 := h1 B h3.oB; omega) (by have := HQ3.out.2.2; omega) (fun k hk => by have h1 := HQ0.out.2.2 k hk; have h2 := HQ3.out.2.2; omega))
            clear hS0 z0 z1 z2 z3 z4 f0 f1 f2 f3 f4
            refine hK.out _ (fillI w2 Z yf yq yt yd yk) (HLK.out _ HQ4.out) (fun hS0 => ?_)
            clear hK K
            refine wpAnyH_take (i := 13) (v := ?_) rfl (by kernel_rfl) (by kernel_rfl) (by kernel_rfl) (fun _ _ _ h => h) (Or.inl ⟨by kernel_rfl, ?_⟩) (by assumption) ?_
            rotate_left
            · intro w hSw; (try dsimp only at hSw); go_simp; (try with_reducible rfl)
            refine wpAnyH_done (by kernel_rfl) ?_ _
            clear hS0
            go_simp
            obtain ⟨w4, hw4⟩ : ∃ z, z = fillI w2 Z yf yq yt yd yk := ⟨_, rfl⟩
            rw [← hw4] at HQ4 ⊢
            clear hw4 HQ3
            cases z with
            | true =>
              have HE : Hid (ofV (R : Int) l = (4, none) ∧ Below w.heap.size w w4) := Lib.hid ⟨HTW.out HZ.out.symm, HQ4.out.bel⟩
              go_wp2
              go_ret2
              exact ⟨HE.out.2, Or.inl ⟨4, by decide, HE.out.1, by rfl⟩⟩
            | false =>
              have HN : Hid (tbR.look acc (f, q) = none) := Lib.hid (Option.isNone_iff_eq_none.1 (by rw [← Option.not_isSome, ← HZ.out]; rfl))
              go_wp2
              refine wp_region_held_drew (S := fun w' => AddB w' X B M ⟨k, f, q, t, d⟩) (by kernel_rfl) HQ4.out.ab (fun hS0 => ?_)
              obtain ⟨we, hwe⟩ : ∃ z, z = w4.drew := ⟨_, rfl⟩
              rw [← hwe] at hS0 ⊢
              have HQ5 : Hid (Qs w we O B ⟨R, acc⟩ M X ⟨k, f, q, t, d⟩) := Lib.hid (by rw [hwe]; exact HQ4.out.below (Below.refl _ _).drew)
              clear hwe HQ4
              unfold AddB at hS0
              dsimp only [AddB] at hS0 ⊢
              refine wpAnyH_take (i := 0) (v := ?_) rfl (by kernel_rfl) (by kernel_rfl) (by kernel_rfl) (fun _ _ _ h => h) (Or.inl ⟨by kernel_rfl, ?_⟩) (by assumption) ?_
              rotate_left
              · intro w hSw; (try dsimp only at hSw); go_simp; (try with_reducible rfl)
              refine wpAnyH_take (i := 1) (v := ?_) rfl (by kernel_rfl) (by kernel_rfl) (by kernel_rfl) (fun _ _ _ h => h) (Or.inl ⟨by kernel_rfl, ?_⟩) (by assumption) ?_
              rotate_left
              · intro w hSw; (try dsimp only at hSw); go_simp; (try with_reducible rfl)
              refine wpAnyH_take (i := 2) (v := ?_) rfl (by kernel_rfl) (by kernel_rfl) (by kernel_rfl) (fun _ _ _ h => h) (Or.inl ⟨by kernel_rfl, ?_⟩) (by assumption) ?_
              rotate_left
              · intro w hSw; (try dsimp only at hSw); go_simp; (try with_reducible rfl)
              refine wpAnyH_take (i := 3) (v := ?_) rfl (by kernel_rfl) (by kernel_rfl) (by kernel_rfl) (fun _ _ _ h => h) (Or.inl ⟨by kernel_rfl, ?_⟩) (by assumption) ?_
              rotate_left
              · intro w hSw; (try dsimp only at hSw); go_simp; (try with_reducible rfl)
              refine wpAnyH_take (i := 4) (v := ?_) rfl (by kernel_rfl) (by kernel_rfl) (by kernel_rfl) (fun _ _ _ h => h) (Or.inl ⟨by kernel_rfl, ?_⟩) (by assumption) ?_
              rotate_left
              · intro w hSw; (try dsimp only at hSw); go_simp; (try with_reducible rfl)
              refine wpAnyH_take (i := 5) (v := ?_) rfl (by kernel_rfl) (by kernel_rfl) (by kernel_rfl) (fun _ _ _ h => h) (Or.inl ⟨by kernel_rfl, ?_⟩) (by assumption) ?_
              rotate_left
              · intro w hSw; (try dsimp only at hSw); go_simp; (try with_reducible rfl)
              refine wpAnyH_take (i := 7) (v := ?_) rfl (by kernel_rfl) (by kernel_rfl) (by kernel_rfl) (fun _ _ _ h => h) (Or.inl ⟨by kernel_rfl, ?_⟩) (by assumption) ?_
              rotate_left
              · intro w hSw; (try dsimp only at hSw); go_simp; (try with_reducible rfl)
              refine wpAnyH_ready (rs := [6]) (by kernel_rfl) (by simp) ?_
              refine AllReadyH.cons rfl (fun K hK => ?_) AllReadyH.nil
              go_simp
              refine (tb_name f q t d we).mono ?_
              rintro x w5 ⟨rfl, b5⟩
              have HQ6 := Lib.hid (HQ5.out.below b5)
              clear b5 HQ5 hS0
              refine hK.out _ _ HQ6.out.ab (fun hS0 => ?_)
              clear hK K
              obtain ⟨w6, hrun, hm6, hk6⟩ := HQ6.out.tp.map.put HSML.out.1 HSML.out.2 ⟨k, f, q, t, d⟩ HIT.out.2.2
              have H6 : Hid (TP w6 O B ⟨R, tbR.ins acc ⟨k, f, q, t, d⟩⟩ M ∧ Below w.heap.size w w6 ∧ w1.heap.size ≤ w6.heap.size ∧ AddB w6 X B M ⟨k, f, q, t, d⟩) := Lib.hid (by
                have hM := HO.out M HQ6.out.tp.oM
                have hMX := HQ0.out.2.2 M HQ6.out.tp.oM
                have hBX := HQ0.out.2.2 B HQ6.out.tp.oB
                refine ⟨⟨hk6.blk HQ6.out.tp.blk (fun e => HQ6.out.tp.ne e.symm), hm6, HQ6.out.tp.oB, HQ6.out.tp.oM⟩, HQ6.out.bel.trans (hk6.below HQ6.out.bel.size (fun k _ e => by rw [show k = M from e]; exact hM.1)), ?_, HQ6.out.ab.keeps hk6 HQ6.out.lt HQ6.out.tp.lt (fun e => by have e2 : X = M := e; omega) (fun e => HQ6.out.tp.ne e.symm)⟩
                have h1 := HQ0.out.2.1
                have h2 := hk6.size
                have h3 := HQ6.out.bel.size
                have h4 := HQ6.out.lt
                have h5 := HQ6.out.szw
                omega)
              unfold itV at hrun
              simp only at hrun
              clear hm6 hk6 hS0
              refine wpAnyH_ready (rs := [8]) (by kernel_rfl) (by simp) ?_
              refine AllReadyH.cons rfl (fun K hK => ?_) AllReadyH.nil
              go_simp
              refine hK.out _ _ H6.out.2.2.2 (fun hS0 => ?_)
              clear hK K
              refine wpAnyH_done (by kernel_rfl) ?_ _
              clear hS0
              go_simp
              have HFIN : Hid (OfI l (tbR.ins acc ⟨k, f, q, t, d⟩) (j + 1)) := Lib.hid (HNEXT.out HN.out)
              go_wp2
              go_roundw
              case rel => exact ⟨j + 1, _, by go_num, HFIN.out, H6.out.1, H6.out.2.1, H6.out.2.2.1⟩
              case measure => have := HLT.out; simp [intOf]; omega
        · obtain rfl : j = l.length := by omega
          have HDONE : Hid (ofV (R : Int) l = if (R : Int) < (l.length : Int) then (2, none) else (0, some acc)) := Lib.hid (by rw [HV.out, HRR.out.1.done]; rfl)
          have HLEN := Lib.hid HRR.out.1.len
          clear hlt hj hbl h100
          go_wp2_with fail
          refine (tb_len wr O B ⟨R, acc⟩ ⟨M, HRR.out.2.1⟩).mono ?_
          rintro x w2 ⟨rfl, hw2⟩
          subst hw2
          rw [show (⟨R, acc⟩ : TbV).l.length = l.length from HLEN.out]
          by_cases hbig : R < l.length
          · have e1 : decide ((R : Int) < (l.length : Int)) = true := decide_eq_true (by omega)
            have e2 : decide (R < l.length) = true := decide_eq_true hbig
            have HE : Hid (ofV (R : Int) l = (2, none)) := Lib.hid (by rw [HDONE.out, if_pos (by omega)])
            clear hbig
            go_wp2
            go_ret2
            exact ⟨HRR.out.2.2.1, Or.inl ⟨2, by decide, HE.out, by rfl⟩⟩
          · have e1 : decide ((R : Int) < (l.length : Int)) = false := decide_eq_false (by omega)
            have e2 : decide (R < l.length) = false := decide_eq_false hbig
            have HE : Hid (ofV (R : Int) l = (0, some acc)) := Lib.hid (by rw [HDONE.out, if_neg (by omega)])
            have HLE : Hid (l.length ≤ R) := Lib.hid (by omega)
            clear hbig
            go_wp2
            go_ret2
            refine ⟨HRR.out.2.2.1, Or.inr ⟨B, acc, HE.out, by rfl, ⟨M, ?_⟩, ?_⟩⟩
            · rw [Int.toNat_natCast]
              exact HRR.out.2.1.mono (fun k hk => ⟨(HO.out k hk).1, Nat.lt_of_lt_of_le (HO.out k hk).2 HRR.out.2.2.2⟩)
            · rw [Int.toNat_natCast]
              exact ⟨HRR.out.1.sort, HRR.out.1.ok, by have h1 := HLEN.out; have h2 := HLE.out; show acc.length ≤ R; omega, HR40.out.1, HR40.out.2.1⟩
end Go.Proofs.YtkbiolhcpghmkaaGreat
