/- Contract of store's (pairs).sorted, of its sort's contract. Condition: the map is small. -/
import Derived.WalkSpells
import Derived.Outline
import Derived.Laws.MakeOwn
import Derived.Test.YtcknhnbckbocjaaDoorStMapQ
import Derived.Test.YtcknhnbckbocjaaDoorRowGQ
import Derived.Test.YtcknhnbckbocjaaDoorStActsQ
namespace Go.Proofs.YtcknhnbckbocjaaDoor
open Go.RowKit Go.Maps
set_option linter.unusedVariables false
theorem own_keepsS {w w' : World} {base size : Nat} {e : TypeId} {v : Value} {n : Nat} {xs : List Value} {S : Nat → Prop} (h : w.ownsRow base e size v n xs) (hk : Kq.Keeps S w w') (hS : ∀ k, S k → v.ownBlock ≠ some k) : w'.ownsRow base e size v n xs := by
  refine ⟨h.1, ?_⟩
  rcases h.2 with h2 | ⟨g, cap, cur, rfl, h1, h2, h3⟩
  · exact Or.inl h2
  · exact Or.inr ⟨g, cap, cur, rfl, h1, hk.blk h2 (fun hs => hS g hs rfl), h3⟩
theorem row_ge {w : World} {B g q cp n : Nat} {xs : List Value} {e : TypeId} (h : w.ownsRow B e 2 (.slice (some ⟨g, 0, none⟩) q cp) n xs) : B ≤ g ∧ g < w.heap.size := by
  rcases h.2 with ⟨e, _⟩ | ⟨g', cap, cur, e, h1, h2, _⟩
  · cases e
  · injection e with e
    injection e with e
    injection e with e
    subst e
    exact ⟨h1, Kq.blk_lt h2⟩
def PrE : Kq.Elt PairV := ⟨2, fun p => [.string p.1, .string p.2], fun _ => rfl, fun x u hu => by
  simp only [List.mem_cons, List.not_mem_nil, or_false] at hu
  rcases hu with rfl | rfl <;> rfl, by decide⟩
theorem infoPr : (Tryd.prog.info? 59).map (fun i => (i.zero, i.size, i.bytes)) = some (some (.agg #[.string ⟨#[]⟩, .string ⟨#[]⟩]), 2, 32) := by kernel_rfl
/-- the sort's contract -/
def SortOk : Prop := ∀ (B blk cap : Nat) (c : List PairV) (w : World), w.ownsRow B 59 2 (.slice (some ⟨blk, 0, none⟩) c.length cap) c.length (PrE.flat c) → c.length ≤ 1000000 →
  Calls Tryd.prog 40 #[.slice (some ⟨blk, 0, none⟩) c.length cap, .func (.func 41) #[] #[]] w fun e w' => e = .returned (.tuple #[]) ∧ ∃ d : List PairV, d.Perm c ∧ d.Pairwise (fun a b => ltT b.1 a.1 = false) ∧ PsAt w' (some ⟨blk, 0, none⟩) d ∧ Kq.Keeps (· = blk) w w'
/-- a list of pairs that was made anew -/
def NewL (W : Nat) (l : List PairV) (x : Value) (w' : World) : Prop := ∃ A cap, x = .slice A l.length cap ∧ l.length ≤ cap ∧ PsAt w' A l ∧ ∀ b off, A = some ⟨b, off, none⟩ → W ≤ b ∧ b < w'.heap.size
set_option maxRecDepth 100000 in
set_option maxHeartbeats 2000000 in
theorem st_sorted (HSO : SortOk) (M : Nat) (l : List PairV) (w : World) (hM : MapL w M l) (hl : smallP l) :
    Calls Tryd.prog 34 #[.map (some M)] w fun x w' => ∃ v, x = .returned v ∧ NewL w.heap.size l v w' ∧ Below w.heap.size w w' := by
  obtain ⟨i0, hi0, hz0, hz1, hz2⟩ := info_partsB infoPr
  obtain ⟨hl1, hl2, hl3⟩ := hl
  have hlen := hM.len 3
  obtain ⟨w0, hmk, hrow, hgr⟩ := run_make_own (P := Tryd.prog) w w.heap.size 35 59 i0 (.agg #[.string ⟨#[]⟩, .string ⟨#[]⟩]) 2 Tryd.underlying35 hi0 hz0 hz1 .i64 .i64 l.length (by rw [hz2]; omega) (by unfold maxLen; omega) (Nat.le_refl _)
  have hk0 := Kq.Keeps.grown (S := fun _ => False) hgr (fun k _ hk => by cases hk)
  have hM0 := hM.keeps hk0 id
  obtain ⟨n, D, hown, hcol, hdat⟩ := Col.start hM0
  have HC := Lib.hid (And.intro hcol hdat)
  have HLT := Lib.hid hM.lt
  have HL : Hid (l.length ≤ 4096 ∧ SortL l ∧ ∀ p ∈ l, p.1.size ≤ maxLen) := Lib.hid ⟨hl1, hl2, fun p hp => by have := hl3 p hp; unfold maxLen; omega⟩
  have H0 := Lib.hid (And.intro hrow (And.intro hk0 hM0))
  have HS := Lib.hid HSO
  clear hcol hdat hl2 hl3 hM hrow hk0 hM0 hgr HSO
  go_enter Tryd.func34, Tryd.ntmps34
  go_wp2_with (first | (at_range; refine wpList_range_own _ rfl _ 68 rfl 9 9 kStr.K Tryd.underlying68 _ M n D rfl hown ?_; intro w1 hrg0 hg0 hs0))
  go_frame
  obtain ⟨r, hr⟩ : ∃ r, r = w0.heap.size := ⟨_, rfl⟩
  rw [← hr] at hrg0 hs0 ⊢
  have HR : Hid (w.heap.size < r) := Lib.hid (by
    have := H0.out.1
    rcases this.2 with ⟨e, _⟩ | ⟨g, cap, cur, e, hge, hb, _⟩
    · cases e
    · have := Kq.blk_lt hb; omega)
  have H1 : Hid (w1.ranges Tryd.prog 9 (plainElem Tryd.prog 9) M r n D (Maps.has D) (Maps.size D) ∧ w1.ownsRow w.heap.size 59 2 (.slice (some ⟨w.heap.size, 0, none⟩) 0 l.length) 0 [] ∧ Kq.Keeps (fun k => w.heap.size ≤ k) w w1 ∧ r < w1.heap.size) := Lib.hid (by
    have hk := Kq.Keeps.grown (S := fun _ => False) hg0 (fun k _ hk => by cases hk)
    exact ⟨hrg0, own_keepsS H0.out.1 hk (fun k h => h.elim), keeps_past (H0.out.2.1.mono (fun k _ h => h.elim)) hk (fun k h => h.elim), hrg0.lt⟩)
  clear hrg0 hg0 hs0 hown hlen hmk H0 hr
  go_loopw [3] (fun u wr => ∃ (c : List PairV) (left : Lit → Bool) (cnt : Nat) (g q cp : Nat), u = .slice (some ⟨g, 0, none⟩) q cp ∧ wr.ranges Tryd.prog 9 (plainElem Tryd.prog 9) M r n D left cnt ∧ Col l c left cnt ∧ wr.ownsRow w.heap.size 59 2 (.slice (some ⟨g, 0, none⟩) q cp) c.length (PrE.flat c) ∧ g ≠ r ∧ Kq.Keeps (fun k => w.heap.size ≤ k) w wr ∧ r < wr.heap.size) (fun _ wr => wr.rangeLeft M r)
  case atStart => exact ⟨[], _, _, w.heap.size, 0, l.length, rfl, H1.out.1, HC.out.1, H1.out.2.1, by have := HR.out; omega, H1.out.2.2.1, H1.out.2.2.2⟩
  case round =>
    obtain ⟨c, left, cnt, g, q, cp, rfl, hrg, hcol, hown, hgr, hkp, hrw⟩ := hrel
    go_wp2_with (first | (at_next; refine next_col rfl _ rfl M r n D left cnt l c rfl hrg hcol HC.out.2 ?_ ?_))
    · intro hc0 hl0
      obtain ⟨A', cap', e, hcc, hat, -, -⟩ := Kq.Elt.own_at (E := PrE) (l := c) hown
      injection e with e1 e2 e3
      subst e1 e2 e3
      have HMEM := Lib.hid (And.intro (hcol.done HL.out.2.2 hl0) hcol.nd)
      have HSO2 := Lib.hid (HS.out w.heap.size g cp c wr hown (by have := hcol.num; have := HL.out.1; omega))
      have HK := Lib.hid (And.intro hkp (And.intro hcc (row_ge hown)))
      clear hrg hcol hown hgr hkp hrw hc0 hl0 hat hcc
      go_wp2_with fail
      refine HSO2.out.mono ?_
      rintro x w3 ⟨rfl, d, hperm, hpw, hps, hk3⟩
      have hd : d = l := sort_back HL.out.2.1 HMEM.out.2 HMEM.out.1 hperm hpw
      subst hd
      have HLN : Hid (c.length = d.length) := Lib.hid hperm.length_eq.symm
      rw [HLN.out]
      have HE : Hid (NewL w.heap.size d (.slice (some ⟨g, 0, none⟩) d.length cp) w3 ∧ Below w.heap.size w w3) := Lib.hid ⟨⟨_, cp, rfl, by rw [← HLN.out]; exact HK.out.2.1, hps, fun b off e => by
        injection e with e
        injection e with e1 e2
        subst e1
        exact ⟨HK.out.2.2.1, Nat.lt_of_lt_of_le HK.out.2.2.2 hk3.size⟩⟩, by
          have := keeps_past HK.out.1 (hk3.mono (T := fun k => w.heap.size ≤ k) (fun k _ e => by have := HK.out.2.2.1; omega)) (fun k h => h)
          exact this.below (Nat.le_refl _) (fun k _ h => h)⟩
      clear hperm hpw hps hk3 HSO2
      go_wp2
      go_ret
      exact ⟨_, rfl, HE.out⟩
    · intro k v w2 left' cnt' hk hv hlk hcol' hrg' hlt hg hs hen
      have hk1 := Kq.Keeps.grown (S := (· = r)) hg (fun k _ h => by injection h with h; exact h.symm)
      have hown1 := own_keepsS hown hk1 (fun k e h => by subst e; injection h with h; exact hgr h)
      have hlc : c.length ≤ 4096 := by have h1 := hcol.num; have h2 := HL.out.1; omega
      have HQ := Lib.hid (And.intro (hrg'.alloc (.cells #[.string k, .string v] 59)) (And.intro (own_belowB hown1 (Kq.below_alloc w2 (.cells #[.string k, .string v] 59))) (And.intro (keeps_past hkp hk1 (fun k e => by have := HR.out; have e2 : k = r := e; omega)) (And.intro hgr (And.intro (row_ge hown).1 (And.intro hlt (And.intro hrg.left_eq (And.intro hcol' (show r < w2.heap.size by omega)))))))))
      have HSRC : Hid (Src Tryd.prog 2 35 (.slice (some ⟨w2.heap.size, 0, none⟩) 1 1) 1 (PrE.flat [(k, v)]) (w2.alloc (.cells #[.string k, .string v] 59))) := Lib.hid ((Kq.Elt.made_one (E := PrE) (k, v) w2 59).src Tryd.underlying35 1)
      clear hrg hcol hown hgr hkp hrw hlk hcol' hrg' hlt hg hk1 hown1 hs
      go_wp2_with (at_builtin; refine Kq.wpList_append_any _ rfl (.tmp 16) (.tmp 20) 35 35 rfl w.heap.size 59 i0 (.agg #[.string ⟨#[]⟩, .string ⟨#[]⟩]) 2 32 Tryd.underlying35 hi0 hz0 hz1 hz2 rfl (by decide) (.slice (some ⟨g, 0, none⟩) q cp) c.length (PrE.flat c) rfl HQ.out.2.1 (.slice (some ⟨w2.heap.size, 0, none⟩) 1 1) 1 (PrE.flat [(k, v)]) rfl HSRC.out ?h1 ?h2 ?h3 ?_)
      case h1 => unfold maxLen; omega
      case h2 => omega
      case h3 => have := HQ.out.2.2.1.size; simp; omega
      intro v' z3 hown3 hgrow hfresh
      rcases hown3.2 with ⟨_, h0⟩ | ⟨g2, cap2, cur2, hv2, -⟩
      · omega
      subst hv2
      have HN : Hid (z3.ranges Tryd.prog 9 (plainElem Tryd.prog 9) M r n D left' cnt' ∧ z3.ownsRow w.heap.size 59 2 (.slice (some ⟨g2, 0, none⟩) (c.length + 1) cap2) (c ++ [(k, v)]).length (PrE.flat (c ++ [(k, v)])) ∧ g2 ≠ r ∧ Kq.Keeps (fun k => w.heap.size ≤ k) w z3 ∧ r < z3.heap.size) := Lib.hid (by
        have hM := HLT.out
        have hgg := HQ.out.2.2.2.2.1
        have hk3 := Kq.Keeps.grown (S := (· = g)) hgrow (fun k _ h => by injection h with h; exact h.symm)
        have hsz : (w2.alloc (.cells #[.string k, .string v] 59)).heap.size = w2.heap.size + 1 := by simp
        have hrw := HQ.out.2.2.2.2.2.2.2.2
        refine ⟨HQ.out.1.kept hgrow (fun e => by have e2 : M = g := Option.some.inj e; omega) (fun e => by have e : r = g := Option.some.inj e; exact HQ.out.2.2.2.1 e.symm), by rw [List.length_append, PrE.flat_append]; exact hown3, ?_, ?_, ?_⟩
        · rcases hfresh g2 rfl with e | e
          · injection e with e; rw [e]; exact HQ.out.2.2.2.1
          · omega
        · exact keeps_past (keeps_past HQ.out.2.2.1 (Kq.Keeps.of_below (S := fun _ => False) (Kq.below_alloc w2 (.cells #[.string k, .string v] 59)) (fun k h1 h2 => absurd h1 (Nat.not_le.2 h2))) (fun k h => h.elim)) hk3 (fun k e => by have e2 : k = g := e; omega)
        · have := hk3.size; omega)
      clear hown3 hgrow hfresh HSRC
      go_wp2
      go_roundw
      case rel => exact ⟨c ++ [(k, v)], left', cnt', g2, c.length + 1, cap2, rfl, HN.out.1, HQ.out.2.2.2.2.2.2.2.1, HN.out.2.1, HN.out.2.2.1, HN.out.2.2.2.1, HN.out.2.2.2.2⟩
      case measure => rw [HN.out.1.left_eq, HQ.out.2.2.2.2.2.2.1]; exact HQ.out.2.2.2.2.2.1
end Go.Proofs.YtcknhnbckbocjaaDoor
