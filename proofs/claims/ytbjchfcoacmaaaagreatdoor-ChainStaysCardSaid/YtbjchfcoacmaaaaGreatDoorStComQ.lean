/- Merged: StSorted, StP, StPart, StNew, StDel, StCom. Contract of store's (pairs).sorted, of its sort's contract. Condition: the map is small. A store in memory; contracts of its Get, Len, Height, Blocks, part. Condition: sizes. Contracts of store's part, Set, Delete. Condition: sizes. Contract of store.New. No condition. Contract of store's Delete. Condition: sizes. Contract of store's Commit. Condition: sizes. -/
import Derived.WalkSpells
import Derived.Outline
import Derived.Laws.MakeOwn
import Derived.Test.YtbjchfcoacmaaaaGreatDoorStCopyQ
import Derived.Test.YtbjchfcoacmaaaaGreatDoorCaMQ
import Derived.Test.YtbjchfcoacmaaaaGreatDoorTrodKitQ
import Derived.Deep.QuietTactic
import Derived.BigQuiet
import Derived.Test.YtbjchfcoacmaaaaGreatDoorHeldLastQ
namespace Go.Proofs.YtbjchfcoacmaaaaGreatDoor
open Go.RowKit Go.Maps
set_option linter.unusedVariables false
theorem row_ge {w : World} {B g q cp n : Nat} {xs : List Value} {e : TypeId} (h : w.ownsRow B e 2 (.slice (some ⟨g, 0, none⟩) q cp) n xs) : B ≤ g ∧ g < w.heap.size := by
  rcases h.2 with ⟨e, _⟩ | ⟨g', cap, cur, e, h1, h2, _⟩
  · cases e
  · injection e with e
    injection e with e
    injection e with e
    subst e
    exact ⟨h1, Kq.blk_lt h2⟩
def PrE : Kq.Elt PairV := ⟨2, fun p => [.string p.1, .string p.2], fun _ => rfl, fun x u hu => by
  simp only [List.mem_cons, List.not_mem_nil, or_false] at hu
  rcases hu with rfl | rfl <;> rfl, by decide⟩
theorem infoPr : (Tryz.prog.info? 90).map (fun i => (i.zero, i.size, i.bytes)) = some (some (.agg #[.string ⟨#[]⟩, .string ⟨#[]⟩]), 2, 32) := by kernel_rfl
/-- the sort's contract -/
def SortOk : Prop := ∀ (B blk cap : Nat) (c : List PairV) (w : World), w.ownsRow B 90 2 (.slice (some ⟨blk, 0, none⟩) c.length cap) c.length (PrE.flat c) → c.length ≤ 1000000 →
  Calls Tryz.prog 111 #[.slice (some ⟨blk, 0, none⟩) c.length cap, .func (.func 112) #[] #[]] w fun e w' => e = .returned (.tuple #[]) ∧ ∃ d : List PairV, d.Perm c ∧ d.Pairwise (fun a b => ltT b.1 a.1 = false) ∧ PsAt w' (some ⟨blk, 0, none⟩) d ∧ Kq.Keeps (· = blk) w w'
/-- a list of pairs that was made anew -/
def NewL (W : Nat) (l : List PairV) (x : Value) (w' : World) : Prop := ∃ A cap, x = .slice A l.length cap ∧ l.length ≤ cap ∧ PsAt w' A l ∧ ∀ b off, A = some ⟨b, off, none⟩ → W ≤ b ∧ b < w'.heap.size
set_option maxRecDepth 100000 in
set_option maxHeartbeats 2000000 in
theorem st_sorted (HSO : SortOk) (M : Nat) (l : List PairV) (w : World) (hM : MapL w M l) (hl : smallP l) :
    Calls Tryz.prog 70 #[.map (some M)] w fun x w' => ∃ v, x = .returned v ∧ NewL w.heap.size l v w' ∧ Below w.heap.size w w' := by
  obtain ⟨i0, hi0, hz0, hz1, hz2⟩ := info_partsB infoPr
  obtain ⟨hl1, hl2, hl3⟩ := hl
  have hlen := hM.len 3
  obtain ⟨w0, hmk, hrow, hgr⟩ := run_make_own (P := Tryz.prog) w w.heap.size 35 90 i0 (.agg #[.string ⟨#[]⟩, .string ⟨#[]⟩]) 2 Tryz.underlying35 hi0 hz0 hz1 .i64 .i64 l.length (by rw [hz2]; omega) (by unfold maxLen; omega) (Nat.le_refl _)
  have hk0 := Kq.Keeps.grown (S := fun _ => False) hgr (fun k _ hk => by cases hk)
  have hM0 := hM.keeps hk0 id
  obtain ⟨n, D, hown, hcol, hdat⟩ := Col.start hM0
  have HC := Lib.hid (And.intro hcol hdat)
  have HLT := Lib.hid hM.lt
  have HL : Hid (l.length ≤ 4096 ∧ SortL l ∧ ∀ p ∈ l, p.1.size ≤ maxLen) := Lib.hid ⟨hl1, hl2, fun p hp => by have := hl3 p hp; unfold maxLen; omega⟩
  have H0 := Lib.hid (And.intro hrow (And.intro hk0 hM0))
  have HS := Lib.hid HSO
  clear hcol hdat hl2 hl3 hM hrow hk0 hM0 hgr HSO
  go_enter Tryz.func70, Tryz.ntmps70
  go_wp2_with (first | (at_range; refine wpList_range_own _ rfl _ 123 rfl 9 9 kStr.K Tryz.underlying123 _ M n D rfl hown ?_; intro w1 hrg0 hg0 hs0))
  go_frame
  obtain ⟨r, hr⟩ : ∃ r, r = w0.heap.size := ⟨_, rfl⟩
  rw [← hr] at hrg0 hs0 ⊢
  have HR : Hid (w.heap.size < r) := Lib.hid (by
    have := H0.out.1
    rcases this.2 with ⟨e, _⟩ | ⟨g, cap, cur, e, hge, hb, _⟩
    · cases e
    · have := Kq.blk_lt hb; omega)
  have H1 : Hid (w1.ranges Tryz.prog 9 (plainElem Tryz.prog 9) M r n D (Maps.has D) (Maps.size D) ∧ w1.ownsRow w.heap.size 90 2 (.slice (some ⟨w.heap.size, 0, none⟩) 0 l.length) 0 [] ∧ Kq.Keeps (fun k => w.heap.size ≤ k) w w1 ∧ r < w1.heap.size) := Lib.hid (by
    have hk := Kq.Keeps.grown (S := fun _ => False) hg0 (fun k _ hk => by cases hk)
    exact ⟨hrg0, own_keepsS H0.out.1 hk (fun k h => h.elim), keeps_past (H0.out.2.1.mono (fun k _ h => h.elim)) hk (fun k h => h.elim), hrg0.lt⟩)
  clear hrg0 hg0 hs0 hown hlen hmk H0 hr
  go_loopw [3] (fun u wr => ∃ (c : List PairV) (left : Lit → Bool) (cnt : Nat) (g q cp : Nat), u = .slice (some ⟨g, 0, none⟩) q cp ∧ wr.ranges Tryz.prog 9 (plainElem Tryz.prog 9) M r n D left cnt ∧ Col l c left cnt ∧ wr.ownsRow w.heap.size 90 2 (.slice (some ⟨g, 0, none⟩) q cp) c.length (PrE.flat c) ∧ g ≠ r ∧ Kq.Keeps (fun k => w.heap.size ≤ k) w wr ∧ r < wr.heap.size) (fun _ wr => wr.rangeLeft M r)
  case atStart => exact ⟨[], _, _, w.heap.size, 0, l.length, rfl, H1.out.1, HC.out.1, H1.out.2.1, by have := HR.out; omega, H1.out.2.2.1, H1.out.2.2.2⟩
  case round =>
    obtain ⟨c, left, cnt, g, q, cp, rfl, hrg, hcol, hown, hgr, hkp, hrw⟩ := hrel
    go_wp2_with (first | (at_next; refine next_col rfl _ rfl M r n D left cnt l c rfl hrg hcol HC.out.2 ?_ ?_))
    · intro hc0 hl0
      obtain ⟨A', cap', e, hcc, hat, -, -⟩ := Kq.Elt.own_at (E := PrE) (l := c) hown
      injection e with e1 e2 e3
      subst e1 e2 e3
      have HMEM := Lib.hid (And.intro (hcol.done HL.out.2.2 hl0) hcol.nd)
      have HSO2 := Lib.hid (HS.out w.heap.size g cp c wr hown (by have := hcol.num; have := HL.out.1; omega))
      have HK := Lib.hid (And.intro hkp (And.intro hcc (row_ge hown)))
      clear hrg hcol hown hgr hkp hrw hc0 hl0 hat hcc
      go_wp2_with fail
      refine HSO2.out.mono ?_
      rintro x w3 ⟨rfl, d, hperm, hpw, hps, hk3⟩
      have hd : d = l := sort_back HL.out.2.1 HMEM.out.2 HMEM.out.1 hperm hpw
      subst hd
      have HLN : Hid (c.length = d.length) := Lib.hid hperm.length_eq.symm
      rw [HLN.out]
      have HE : Hid (NewL w.heap.size d (.slice (some ⟨g, 0, none⟩) d.length cp) w3 ∧ Below w.heap.size w w3) := Lib.hid ⟨⟨_, cp, rfl, by rw [← HLN.out]; exact HK.out.2.1, hps, fun b off e => by
        injection e with e
        injection e with e1 e2
        subst e1
        exact ⟨HK.out.2.2.1, Nat.lt_of_lt_of_le HK.out.2.2.2 hk3.size⟩⟩, by
          have := keeps_past HK.out.1 (hk3.mono (T := fun k => w.heap.size ≤ k) (fun k _ e => by have := HK.out.2.2.1; omega)) (fun k h => h)
          exact this.below (Nat.le_refl _) (fun k _ h => h)⟩
      clear hperm hpw hps hk3 HSO2
      go_wp2
      go_ret
      exact ⟨_, rfl, HE.out⟩
    · intro k v w2 left' cnt' hk hv hlk hcol' hrg' hlt hg hs hen
      have hk1 := Kq.Keeps.grown (S := (· = r)) hg (fun k _ h => by injection h with h; exact h.symm)
      have hown1 := own_keepsS hown hk1 (fun k e h => by subst e; injection h with h; exact hgr h)
      have hlc : c.length ≤ 4096 := by have h1 := hcol.num; have h2 := HL.out.1; omega
      have HQ := Lib.hid (And.intro (hrg'.alloc (.cells #[.string k, .string v] 90)) (And.intro (own_belowB hown1 (Kq.below_alloc w2 (.cells #[.string k, .string v] 90))) (And.intro (keeps_past hkp hk1 (fun k e => by have := HR.out; have e2 : k = r := e; omega)) (And.intro hgr (And.intro (row_ge hown).1 (And.intro hlt (And.intro hrg.left_eq (And.intro hcol' (show r < w2.heap.size by omega)))))))))
      have HSRC : Hid (Src Tryz.prog 2 35 (.slice (some ⟨w2.heap.size, 0, none⟩) 1 1) 1 (PrE.flat [(k, v)]) (w2.alloc (.cells #[.string k, .string v] 90))) := Lib.hid ((Kq.Elt.made_one (E := PrE) (k, v) w2 90).src Tryz.underlying35 1)
      clear hrg hcol hown hgr hkp hrw hlk hcol' hrg' hlt hg hk1 hown1 hs
      go_wp2_with (at_builtin; refine Kq.wpList_append_any _ rfl (.tmp 16) (.tmp 20) 35 35 rfl w.heap.size 90 i0 (.agg #[.string ⟨#[]⟩, .string ⟨#[]⟩]) 2 32 Tryz.underlying35 hi0 hz0 hz1 hz2 rfl (by decide) (.slice (some ⟨g, 0, none⟩) q cp) c.length (PrE.flat c) rfl HQ.out.2.1 (.slice (some ⟨w2.heap.size, 0, none⟩) 1 1) 1 (PrE.flat [(k, v)]) rfl HSRC.out ?h1 ?h2 ?h3 ?_)
      case h1 => unfold maxLen; omega
      case h2 => omega
      case h3 => have := HQ.out.2.2.1.size; simp; omega
      intro v' z3 hown3 hgrow hfresh
      rcases hown3.2 with ⟨_, h0⟩ | ⟨g2, cap2, cur2, hv2, -⟩
      · omega
      subst hv2
      have HN : Hid (z3.ranges Tryz.prog 9 (plainElem Tryz.prog 9) M r n D left' cnt' ∧ z3.ownsRow w.heap.size 90 2 (.slice (some ⟨g2, 0, none⟩) (c.length + 1) cap2) (c ++ [(k, v)]).length (PrE.flat (c ++ [(k, v)])) ∧ g2 ≠ r ∧ Kq.Keeps (fun k => w.heap.size ≤ k) w z3 ∧ r < z3.heap.size) := Lib.hid (by
        have hM := HLT.out
        have hgg := HQ.out.2.2.2.2.1
        have hk3 := Kq.Keeps.grown (S := (· = g)) hgrow (fun k _ h => by injection h with h; exact h.symm)
        have hsz : (w2.alloc (.cells #[.string k, .string v] 90)).heap.size = w2.heap.size + 1 := by simp
        have hrw := HQ.out.2.2.2.2.2.2.2.2
        refine ⟨HQ.out.1.kept hgrow (fun e => by have e2 : M = g := Option.some.inj e; omega) (fun e => by have e : r = g := Option.some.inj e; exact HQ.out.2.2.2.1 e.symm), by rw [List.length_append, PrE.flat_append]; exact hown3, ?_, ?_, ?_⟩
        · rcases hfresh g2 rfl with e | e
          · injection e with e; rw [e]; exact HQ.out.2.2.2.1
          · omega
        · exact keeps_past (keeps_past HQ.out.2.2.1 (Kq.Keeps.of_below (S := fun _ => False) (Kq.below_alloc w2 (.cells #[.string k, .string v] 90)) (fun k h1 h2 => absurd h1 (Nat.not_le.2 h2))) (fun k h => h.elim)) hk3 (fun k e => by have e2 : k = g := e; omega)
        · have := hk3.size; omega)
      clear hown3 hgrow hfresh HSRC
      go_wp2
      go_roundw
      case rel => exact ⟨c ++ [(k, v)], left', cnt', g2, c.length + 1, cap2, rfl, HN.out.1, HQ.out.2.2.2.2.2.2.2.1, HN.out.2.1, HN.out.2.2.1, HN.out.2.2.2.1, HN.out.2.2.2.2⟩
      case measure => rw [HN.out.1.left_eq, HQ.out.2.2.2.2.2.2.1]; exact HQ.out.2.2.2.2.2.1
end Go.Proofs.YtbjchfcoacmaaaaGreatDoor
namespace Go.Proofs.YtbjchfcoacmaaaaGreatDoor
open Go.RowKit Go.Maps
set_option linter.unusedVariables false
structure SP (w : World) (O : Nat → Prop) (B : Nat) (s : StV) (Mn : Nat) (sh : Bool) (A : Option Addr) (q cap : Nat) (Ms : List Nat) : Prop where
  blk : w.heap[B]? = some (.cells #[.map (some Mn), .bool sh, .int .u64 (s.height : Int), .slice A q cap] 128 (0, 0))
  now : MapL w Mn s.now
  own : w.ownsRow 0 125 1 (.slice A q cap) Ms.length (Ms.map fun m => .map (some m))
  len : Ms.length = s.blks.length
  at_ : ∀ i (h : i < Ms.length) (h2 : i < s.blks.length), MapL w Ms[i] s.blks[i]
  ns : sh = false → Mn ∉ Ms
  oB : O B
  oM : O Mn
  oMs : ∀ m ∈ Ms, O m
  oA : ∀ k, (Value.slice A q cap).ownBlock = some k → O k
def StP (w : World) (O : Nat → Prop) (B : Nat) (s : StV) : Prop := ∃ Mn sh A q cap Ms, SP w O B s Mn sh A q cap Ms
theorem MapL.obj {w : World} {M : Nat} {l : List PairV} (h : MapL w M l) : ∃ es cl, w.heap[M]? = some (.map es cl) := by
  obtain ⟨n, D, _, ⟨es, cl, hb, _⟩, _⟩ := Kq.MapG.ex h
  exact ⟨es, cl, hb⟩
section
variable {w w' : World} {O O' : Nat → Prop} {B : Nat} {s : StV} {Mn : Nat} {sh : Bool} {A : Option Addr} {q cap : Nat} {Ms : List Nat}
theorem SP.c0 (h : SP w O B s Mn sh A q cap Ms) : w.cell? ⟨B, 0, none⟩ = some (.map (some Mn)) := Kq.blk_cell h.blk 0
theorem SP.c1 (h : SP w O B s Mn sh A q cap Ms) : w.cell? ⟨B, 1, none⟩ = some (.bool sh) := Kq.blk_cell h.blk 1
theorem SP.c2 (h : SP w O B s Mn sh A q cap Ms) : w.cell? ⟨B, 2, none⟩ = some (.int .u64 (s.height : Int)) := Kq.blk_cell h.blk 2
theorem SP.c3 (h : SP w O B s Mn sh A q cap Ms) : w.cell? ⟨B, 3, none⟩ = some (.slice A q cap) := Kq.blk_cell h.blk 3
theorem SP.fz (h : SP w O B s Mn sh A q cap Ms) (j : Nat) : w.frozen? ⟨B, j, none⟩ = false := Kq.blk_free h.blk j
theorem SP.lt (h : SP w O B s Mn sh A q cap Ms) : B < w.heap.size := Kq.blk_lt h.blk
theorem SP.mono (h : SP w O B s Mn sh A q cap Ms) (hO : ∀ k, O k → O' k) : SP w O' B s Mn sh A q cap Ms :=
  ⟨h.blk, h.now, h.own, h.len, h.at_, h.ns, hO _ h.oB, hO _ h.oM, fun m hm => hO _ (h.oMs m hm), fun k hk => hO _ (h.oA k hk)⟩
theorem SP.keeps {S : Nat → Prop} (h : SP w O B s Mn sh A q cap Ms) (hk : Kq.Keeps S w w') (hS : ∀ k, O k → ¬ S k) : SP w' O B s Mn sh A q cap Ms :=
  ⟨hk.blk h.blk (hS _ h.oB), h.now.keeps hk (hS _ h.oM), own_keepsS h.own hk (fun k hs e => hS k (h.oA k e) hs), h.len, fun i h1 h2 => (h.at_ i h1 h2).keeps hk (hS _ (h.oMs _ (List.getElem_mem h1))), h.ns, h.oB, h.oM, h.oMs, h.oA⟩
theorem SP.below (h : SP w O B s Mn sh A q cap Ms) (hb : Below w.heap.size w w') : SP w' O B s Mn sh A q cap Ms :=
  have hk : Kq.Keeps (fun _ => False) w w' := Kq.Keeps.of_below hb (fun k h1 h2 => absurd h1 (Nat.not_le.2 h2))
  h.keeps hk (fun _ _ h => h)
/-- the store's own block changed -/
theorem SP.neM (h : SP w O B s Mn sh A q cap Ms) {M : Nat} {l : List PairV} (hM : MapL w M l) : M ≠ B := fun e => by
  obtain ⟨es, cl, h1⟩ := hM.obj
  rw [e, h.blk] at h1
  cases h1
theorem SP.neA (h : SP w O B s Mn sh A q cap Ms) {k : Nat} (hk : (Value.slice A q cap).ownBlock = some k) : k ≠ B := fun e => by
  rcases h.own.2 with ⟨e2, _⟩ | ⟨g, c, cur, e2, h1, h2, _⟩
  · rw [e2] at hk; cases hk
  · rw [e2] at hk
    have hg : g = k := Option.some.inj hk
    rw [hg, e, h.blk] at h2
    injection h2 with h2
    injection h2 with h3 h4
    exact absurd h4 (by decide)
theorem SP.own_lt (h : SP w O B s Mn sh A q cap Ms) : ∀ m ∈ Ms, m < w.heap.size := fun m hm => by
  obtain ⟨i, hi, rfl⟩ := List.getElem_of_mem hm
  exact (h.at_ i hi (by rw [← h.len]; exact hi)).lt
end
/-- what a call tells that may change the store -/
def StepP (w : World) (O : Nat → Prop) (B : Nat) (r : Value) (s' : StV) (x : Ending) (w' : World) : Prop := x = .returned r ∧ StP w' (Ext O w w') B s' ∧ Kq.Keeps O w w'
theorem StepP.same {w : World} {O : Nat → Prop} {B : Nat} {r : Value} {s : StV} (h : StP w O B s) {x : Ending} (hx : x = .returned r) : StepP w O B r s x w := by
  obtain ⟨Mn, sh, A, q, cap, Ms, h⟩ := h
  exact ⟨hx, ⟨Mn, sh, A, q, cap, Ms, h.mono (fun k hk => Or.inl hk)⟩, Kq.Keeps.refl _ _⟩
section
variable (w : World) (O : Nat → Prop) (B : Nat) (s : StV)
set_option maxRecDepth 100000 in
set_option maxHeartbeats 1000000 in
theorem st_get (k : ByteArray) (hk : k.size ≤ maxLen) (h : StP w O B s) : Calls Tryz.prog 39 #[.pointer (some ⟨B, 0, none⟩), .string k] w fun x w' => x = .returned (.tuple #[.string ((lk s.now k).getD ⟨#[]⟩), .bool (lk s.now k).isSome]) ∧ w' = w := by
  obtain ⟨Mn, sh, A, q, cap, Ms, h⟩ := h
  have c0 := h.c0
  have hl := h.now.look k hk
  obtain ⟨v, hv⟩ : ∃ v, v = (lk s.now k).getD ⟨#[]⟩ := ⟨_, rfl⟩
  obtain ⟨b, hb⟩ : ∃ b, b = (lk s.now k).isSome := ⟨_, rfl⟩
  rw [← hv, ← hb] at hl ⊢
  clear h hv hb hk
  go_enter Tryz.func39, Tryz.ntmps39
  go_wp2
  go_ret2
  exact ⟨rfl, rfl⟩
set_option maxRecDepth 100000 in
theorem st_len (h : StP w O B s) : Calls Tryz.prog 107 #[.pointer (some ⟨B, 0, none⟩)] w fun x w' => x = .returned (.int .i64 (s.now.length : Int)) ∧ w' = w := by
  obtain ⟨Mn, sh, A, q, cap, Ms, h⟩ := h
  have c0 := h.c0
  have hl := h.now.len 3
  clear h
  go_enter Tryz.func107, Tryz.ntmps107
  go_wp2
  go_ret
  exact ⟨rfl, rfl⟩
set_option maxRecDepth 100000 in
theorem st_height (h : StP w O B s) : Calls Tryz.prog 32 #[.pointer (some ⟨B, 0, none⟩)] w fun x w' => x = .returned (.int .u64 (s.height : Int)) ∧ w' = w := by
  obtain ⟨Mn, sh, A, q, cap, Ms, h⟩ := h
  have c2 := h.c2
  clear h
  go_enter Tryz.func32, Tryz.ntmps32
  go_wp2
  go_ret
  exact ⟨rfl, rfl⟩
theorem SP.q_eq {w : World} {O : Nat → Prop} {B : Nat} {s : StV} {Mn : Nat} {sh : Bool} {A : Option Addr} {q cap : Nat} {Ms : List Nat} (h : SP w O B s Mn sh A q cap Ms) : q = s.blks.length := by
  rw [← h.len]
  rcases h.own.2 with ⟨e, h0⟩ | ⟨g, c, cur, e, _⟩
  · injection e with e1 e2 e3; omega
  · injection e
end
end Go.Proofs.YtbjchfcoacmaaaaGreatDoor
namespace Go.Proofs.YtbjchfcoacmaaaaGreatDoor
open Go.RowKit Go.Maps
set_option linter.unusedVariables false
section
variable {w w' : World} {O O' : Nat → Prop} {B : Nat} {s : StV} {Mn Mn' : Nat} {sh sh' : Bool} {A : Option Addr} {q cap : Nat} {Ms : List Nat}
theorem SP.turn (h : SP w O B s Mn sh A q cap Ms) (hk : Kq.Keeps (· = B) w w') (hb : w'.heap[B]? = some (.cells #[.map (some Mn'), .bool sh', .int .u64 (s.height : Int), .slice A q cap] 128 (0, 0))) (hm : MapL w Mn' s.now) (hns : sh' = false → Mn' ∉ Ms) (hO : O Mn') : SP w' O B s Mn' sh' A q cap Ms :=
  ⟨hb, hm.keeps hk (h.neM hm), own_keepsS h.own hk (fun k e hh => h.neA hh e), h.len, fun i h1 h2 => (h.at_ i h1 h2).keeps hk (h.neM (h.at_ i h1 h2)), hns, h.oB, hO, h.oMs, h.oA⟩
theorem SP.upd (h : SP w O B s Mn false A q cap Ms) (hk : Kq.Keeps (· = Mn) w w') {l' : List PairV} (hm : MapL w' Mn l') : SP w' O B { s with now := l' } Mn false A q cap Ms := by
  obtain ⟨es, cl, ho⟩ := h.now.obj
  refine ⟨hk.blk h.blk (fun e => h.neM h.now e.symm), hm, own_keepsS h.own hk (fun k e hh => ?_), h.len, fun i h1 h2 => (h.at_ i h1 h2).keeps hk (fun e => h.ns rfl (e ▸ List.getElem_mem h1)), h.ns, h.oB, h.oM, h.oMs, h.oA⟩
  rcases h.own.2 with ⟨e2, _⟩ | ⟨g, c, cur, e2, h1, h2, _⟩
  · rw [e2] at hh; cases hh
  · rw [e2] at hh
    have hg : g = k := Option.some.inj hh
    have hk2 : k = Mn := e
    rw [hg, hk2, ho] at h2
    cases h2
theorem SP.ext (h : SP w O B s Mn sh A q cap Ms) {w0 w1 : World} (h0 : w0.heap.size = w1.heap.size ∨ True) (hO : ∀ k, O k → O' k) : SP w O' B s Mn sh A q cap Ms := h.mono hO
end
theorem none_of {o : Option ByteArray} (h : o.isSome = false) : o = none := by
  cases o with
  | none => rfl
  | some u => cases h
/-- what stays, where what changed was the store's own or is new -/
theorem keeps_pastO {O T : Nat → Prop} {a b d : World} (h : Kq.Keeps O a b) (hk : Kq.Keeps T b d) (hT : ∀ k, T k → O k ∨ a.heap.size ≤ k) : Kq.Keeps O a d :=
  ⟨hk.os.trans h.os, hk.tape.trans h.tape, hk.output.trans h.output, Nat.le_trans h.size hk.size, fun k hk1 hn => by
    rw [hk.block k (Nat.lt_of_lt_of_le hk1 h.size) (fun ht => by rcases hT k ht with h' | h'; · exact hn h'
                                                                 · omega), h.block k hk1 hn]⟩
section
variable (w : World) (O : Nat → Prop) (B : Nat) (s : StV)
def PartP (w : World) (O : Nat → Prop) (B : Nat) (s : StV) (x : Ending) (w' : World) : Prop := x = .returned (.tuple #[]) ∧ ∃ Mn A q cap Ms, SP w' (Ext O w w') B s Mn false A q cap Ms ∧ Kq.Keeps O w w'
set_option maxRecDepth 100000 in
set_option maxHeartbeats 1000000 in
theorem st_part (h : StP w O B s) (hs : StOk s) : Calls Tryz.prog 108 #[.pointer (some ⟨B, 0, none⟩)] w (PartP w O B s) := by
  obtain ⟨Mn, sh, A, q, cap, Ms, h⟩ := h
  cases sh with
  | false =>
    have H := Lib.hid h
    have c1 := h.c1
    have g1 := h.fz 1
    clear h
    go_enter Tryz.func108, Tryz.ntmps108
    go_wp2
    go_end0
    exact ⟨rfl, Mn, A, q, cap, Ms, H.out.mono (fun k hk => Or.inl hk), Kq.Keeps.refl _ _⟩
  | true =>
    have H := Lib.hid h
    have c0 := h.c0
    have c1 := h.c1
    have HC := Lib.hid (st_copied Mn s.now w h.now hs.now)
    clear h
    go_enter Tryz.func108, Tryz.ntmps108
    go_wp2_with fail
    refine HC.out.mono ?_
    rintro x w1 ⟨M', rfl, hge, hm, hb⟩
    have H1 := Lib.hid (H.out.below hb)
    have HM := Lib.hid (And.intro hge (And.intro hm hb))
    clear c0 c1 hge hm hb HC
    have c0 := H1.out.c0
    have c1 := H1.out.c1
    have g0 := H1.out.fz 0
    have g1 := H1.out.fz 1
    go_wp2
    go_end0
    have hk : Kq.Keeps (· = B) w1 ((w1.setCell ⟨B, 0, none⟩ (.map (some M'))).setCell ⟨B, 1, none⟩ (.bool false)) := (Kq.Keeps.setCell (S := (· = B)) w1 ⟨B, 0, none⟩ (.map (some M')) rfl).trans (Kq.Keeps.setCell (S := (· = B)) (w1.setCell ⟨B, 0, none⟩ (.map (some M'))) ⟨B, 1, none⟩ (.bool false) rfl)
    have hml := HM.out.2.1.lt
    refine ⟨rfl, M', A, q, cap, Ms, (SP.turn (Mn' := M') (sh' := false) (H1.out.mono (O' := Ext O w ((w1.setCell ⟨B, 0, none⟩ (.map (some M'))).setCell ⟨B, 1, none⟩ (.bool false))) (fun k hk => Or.inl hk)) hk (Kq.blk_set (Kq.blk_set H1.out.blk 0 _) 1 _) HM.out.2.1 (fun _ hin => ?_) (Or.inr ⟨HM.out.1, by have := hk.size; omega⟩)), ?_⟩
    · have := H.out.own_lt _ hin
      have := HM.out.1
      omega
    · exact ((Kq.Keeps.of_below (S := O) HM.out.2.2 (fun k h1 h2 => absurd h2 (by omega))).trans (hk.mono (fun k _ e => by rw [show k = B from e]; exact H.out.oB)))
set_option maxRecDepth 100000 in
set_option maxHeartbeats 1000000 in
theorem st_set (k v : ByteArray) (hk : k.size ≤ 300) (hv : v.size ≤ 300) (h : StP w O B s) (hs : StOk s) : Calls Tryz.prog 67 #[.pointer (some ⟨B, 0, none⟩), .string k, .string v] w (StepP w O B (.int .i64 (setV s k v).2) (setV s k v).1) := by
  have H := Lib.hid (And.intro h hs)
  have HG := Lib.hid (st_get w O B s k (by unfold maxLen; omega) h)
  have HLN := Lib.hid (st_len w O B s h)
  have HP := Lib.hid (st_part w O B s h hs)
  have hb0 : badKV k v = true → setV s k v = (s, 1) := fun hb => by unfold setV; rw [if_pos hb]
  have hl4 := hs.now.1
  by_cases k0 : k.size = 0
  · obtain rfl : k = ⟨#[]⟩ := ByteArray.ext (Array.eq_empty_of_size_eq_zero k0)
    have HE := Lib.hid (hb0 rfl)
    clear hb0 k0 h hs hl4
    go_enter Tryz.func67, Tryz.ntmps67
    go_wp2
    go_ret
    rw [HE.out]
    exact StepP.same H.out.1 rfl
  have e0 := nonempty_of k0
  by_cases k1 : 16 < k.size
  · have e1 : decide ((16 : Int) < (k.size : Int)) = true := decide_eq_true (by omega)
    have e1' : decide (16 < k.size) = true := decide_eq_true k1
    have HE := Lib.hid (hb0 (by unfold badKV; rw [e1']; simp))
    clear hb0 k0 h hs hl4 k1 hk hv
    go_enter Tryz.func67, Tryz.ntmps67
    go_wp2
    go_ret
    rw [HE.out]
    exact StepP.same H.out.1 rfl
  have e1 : decide ((16 : Int) < (k.size : Int)) = false := decide_eq_false (by omega)
  have e1' : decide (16 < k.size) = false := decide_eq_false k1
  by_cases v1 : 64 < v.size
  · have e2 : decide ((64 : Int) < (v.size : Int)) = true := decide_eq_true (by omega)
    have e2' : decide (64 < v.size) = true := decide_eq_true v1
    have HE := Lib.hid (hb0 (by unfold badKV; rw [e2']; simp))
    clear hb0 k0 h hs hl4 k1 hk hv v1
    go_enter Tryz.func67, Tryz.ntmps67
    go_wp2
    go_ret
    rw [HE.out]
    exact StepP.same H.out.1 rfl
  have e2 : decide ((64 : Int) < (v.size : Int)) = false := decide_eq_false (by omega)
  have e2' : decide (64 < v.size) = false := decide_eq_false v1
  have hbn : badKV k v = false := by unfold badKV; rw [e1', e2', decide_eq_false k0]; rfl
  have HBN := Lib.hid hbn
  have HSZ : Hid (k.size ≤ maxLen ∧ v.size ≤ maxLen) := Lib.hid (by unfold maxLen; omega)
  obtain ⟨V, hV⟩ : ∃ V, V = (lk s.now k).getD ⟨#[]⟩ := ⟨_, rfl⟩
  obtain ⟨T, hT⟩ : ∃ T, T = (lk s.now k).isSome := ⟨_, rfl⟩
  rw [← hV, ← hT] at HG
  have HT := Lib.hid hT
  obtain ⟨n, hn⟩ : ∃ n, n = s.now.length := ⟨_, rfl⟩
  rw [← hn] at HLN
  have HN := Lib.hid hn
  have HOK : Hid (¬ (lk s.now k = none ∧ 4096 ≤ s.now.length) → setV s k v = ({ s with now := insP s.now k v }, 0)) := Lib.hid (fun hf => by unfold setV; rw [if_neg (by rw [hbn]; decide), if_neg hf])
  have HFU : Hid ((lk s.now k = none ∧ 4096 ≤ s.now.length) → setV s k v = (s, 2)) := Lib.hid (fun hf => by unfold setV; rw [if_neg (by rw [hbn]; decide), if_pos hf])
  have HGO : Hid (∀ w', PartP w O B s (.returned (.tuple #[])) w' → ∃ Mn A q cap Ms w2, SP w' (Ext O w w') B s Mn false A q cap Ms ∧ (Instr.mapUpdate 123 (.map (some Mn)) (.string k) (.string v)).run Tryz.prog w' = .ok () w2 ∧ (¬ (lk s.now k = none ∧ 4096 ≤ s.now.length) → StepP w O B (.int .i64 (setV s k v).2) (setV s k v).1 (.returned (.int .i64 0)) w2)) := Lib.hid (fun w' hp => by
    obtain ⟨-, Mn, A, q, cap, Ms, hsp, hk1⟩ := hp
    obtain ⟨w2, hrun, hm2, hk2⟩ := hsp.now.put H.out.2.now.2.1 (by have := H.out.2.now.1; omega) k v HSZ.out.1 HSZ.out.2
    refine ⟨Mn, A, q, cap, Ms, w2, hsp, hrun, fun hf => ?_⟩
    rw [HOK.out hf]
    have hsz := hk2.size
    refine ⟨rfl, ⟨Mn, false, A, q, cap, Ms, (hsp.upd hk2 hm2).mono (fun j hj => hj.imp id (fun hj => ⟨hj.1, by omega⟩))⟩, keeps_pastO hk1 hk2 (fun j e => by rw [show j = Mn from e]; exact hsp.oM.imp id (fun h => h.1))⟩)
  clear hb0 k0 h hs k1 hk hv v1 hbn hV hT hn
  go_enter Tryz.func67, Tryz.ntmps67
  go_wp2_with fail
  refine HG.out.mono ?_
  rintro x w1 ⟨rfl, rfl⟩
  clear e0 e1 e1' e2 e2' HG
  have go_on : True := trivial
  cases T with
  | true =>
    have HF : Hid (¬ (lk s.now k = none ∧ 4096 ≤ s.now.length)) := Lib.hid (fun ⟨h1, _⟩ => by have := HT.out; rw [h1] at this; cases this)
    clear hl4
    go_wp2_with fail
    refine HP.out.mono ?_
    rintro x w2 hp
    obtain rfl : x = .returned (.tuple #[]) := hp.1
    obtain ⟨Mn, A, q, cap, Ms, w3, hsp, hrun, hend⟩ := HGO.out w2 hp
    have c0 := hsp.c0
    have HE := Lib.hid (hend HF.out)
    clear hp hsp hend HGO HP
    go_wp2
    go_ret
    exact HE.out
  | false =>
    by_cases hf : 4096 ≤ n
    · have e1 : decide ((4096 : Int) ≤ (n : Int)) = true := decide_eq_true (by omega)
      have e2 : decide (4096 ≤ n) = true := decide_eq_true hf
      have HE := Lib.hid (HFU.out ⟨none_of HT.out.symm, by rw [← HN.out]; exact hf⟩)
      clear hf hl4
      go_wp2_with fail
      refine HLN.out.mono ?_
      rintro x w2 ⟨rfl, rfl⟩
      go_wp2
      go_ret
      rw [HE.out]
      exact StepP.same H.out.1 rfl
    · have e1 : decide ((4096 : Int) ≤ (n : Int)) = false := decide_eq_false (by omega)
      have e2 : decide (4096 ≤ n) = false := decide_eq_false hf
      have HF : Hid (¬ (lk s.now k = none ∧ 4096 ≤ s.now.length)) := Lib.hid (fun ⟨_, h2⟩ => hf (by rw [HN.out]; exact h2))
      clear hf hl4
      go_wp2_with fail
      refine HLN.out.mono ?_
      rintro x w2 ⟨rfl, rfl⟩
      go_wp2_with fail
      refine HP.out.mono ?_
      rintro x w2 hp
      obtain rfl : x = .returned (.tuple #[]) := hp.1
      obtain ⟨Mn, A, q, cap, Ms, w3, hsp, hrun, hend⟩ := HGO.out w2 hp
      have c0 := hsp.c0
      have HE := Lib.hid (hend HF.out)
      clear hp hsp hend HGO HP
      go_wp2
      go_ret
      exact HE.out
end
end Go.Proofs.YtbjchfcoacmaaaaGreatDoor
namespace Go.Proofs.YtbjchfcoacmaaaaGreatDoor
open Go.RowKit Go.Maps
set_option linter.unusedVariables false
def newV (h : Nat) : StV := ⟨[], h, [[]]⟩
theorem newV_ok {h : Nat} (hh : h < 18446744073709551616) : StOk (newV h) := by
  have h0 : smallP [] := ⟨by simp, List.Pairwise.nil, fun p hp => by cases hp⟩
  exact ⟨h0, fun l hl => by rw [List.mem_singleton.1 hl]; exact h0, by simp [newV], by simp [newV], by simp [newV]; omega⟩
set_option maxRecDepth 100000 in
theorem new_st (h : Nat) (w : World) : StP ((((w.alloc (.map #[] 0)).alloc (.cells #[.map (some w.heap.size)] 125)).alloc (.cells #[.map (some w.heap.size)] 125)).alloc (.cells #[.map (some w.heap.size), .bool true, .int .u64 (h : Int), .slice (some ⟨w.heap.size + 1 + 1, 0, none⟩) 1 1] 128)) (fun k => w.heap.size ≤ k ∧ k < ((((w.alloc (.map #[] 0)).alloc (.cells #[.map (some w.heap.size)] 125)).alloc (.cells #[.map (some w.heap.size)] 125)).alloc (.cells #[.map (some w.heap.size), .bool true, .int .u64 (h : Int), .slice (some ⟨w.heap.size + 1 + 1, 0, none⟩) 1 1] 128)).heap.size) (w.heap.size + 1 + 1 + 1) (newV h) ∧ Below w.heap.size w ((((w.alloc (.map #[] 0)).alloc (.cells #[.map (some w.heap.size)] 125)).alloc (.cells #[.map (some w.heap.size)] 125)).alloc (.cells #[.map (some w.heap.size), .bool true, .int .u64 (h : Int), .slice (some ⟨w.heap.size + 1 + 1, 0, none⟩) 1 1] 128)) := by
  have m1 := MapL.made w
  have b1 := Kq.below_alloc w (.map #[] 0)
  have z1 : (w.alloc (.map #[] 0)).heap.size = w.heap.size + 1 := by simp
  generalize w.alloc (.map #[] 0) = w1 at *
  have b2 := Kq.below_alloc w1 (.cells #[.map (some w.heap.size)] 125)
  have z2 : (w1.alloc (.cells #[.map (some w.heap.size)] 125)).heap.size = w.heap.size + 1 + 1 := by simp [z1]
  generalize w1.alloc (.cells #[.map (some w.heap.size)] 125) = w2 at *
  have b3 := Kq.below_alloc w2 (.cells #[.map (some w.heap.size)] 125)
  have r3 := Kq.blk_new w2 #[.map (some w.heap.size)] 125 (0, 0)
  have z3 : (w2.alloc (.cells #[.map (some w.heap.size)] 125)).heap.size = w.heap.size + 1 + 1 + 1 := by simp [z2]
  generalize w2.alloc (.cells #[.map (some w.heap.size)] 125) = w3 at *
  have b4 := Kq.below_alloc w3 (.cells #[.map (some w.heap.size), .bool true, .int .u64 (h : Int), .slice (some ⟨w.heap.size + 1 + 1, 0, none⟩) 1 1] 128)
  have r4 := Kq.blk_new w3 #[.map (some w.heap.size), .bool true, .int .u64 (h : Int), .slice (some ⟨w.heap.size + 1 + 1, 0, none⟩) 1 1] 128 (0, 0)
  have z4 : (w3.alloc (.cells #[.map (some w.heap.size), .bool true, .int .u64 (h : Int), .slice (some ⟨w.heap.size + 1 + 1, 0, none⟩) 1 1] 128)).heap.size = w.heap.size + 1 + 1 + 1 + 1 := by simp [z3]
  generalize w3.alloc (.cells #[.map (some w.heap.size), .bool true, .int .u64 (h : Int), .slice (some ⟨w.heap.size + 1 + 1, 0, none⟩) 1 1] 128) = w4 at *
  have m4 := ((m1.below b2).below b3).below b4
  rw [z2] at r3
  rw [z3] at r4
  have r4b := Kq.below_blk b4 r3 (by omega)
  refine ⟨⟨w.heap.size, true, some ⟨w.heap.size + 1 + 1, 0, none⟩, 1, 1, [w.heap.size], r4, m4, ⟨rfl, Or.inr ⟨w.heap.size + 1 + 1, 1, #[.map (some w.heap.size)], rfl, Nat.zero_le _, r4b, Nat.le_refl _, by decide, rfl, rfl⟩⟩, rfl, fun i h1 h2 => ?_, fun e => (by cases e), by omega, by omega, fun m hm => by rw [List.mem_singleton.1 hm]; omega, fun k hk => by have : w.heap.size + 1 + 1 = k := Option.some.inj hk; omega⟩, ((b1.trans (b2.mono (by omega))).trans (b3.mono (by omega))).trans (b4.mono (by omega))⟩
  have : i = 0 := by simpa using h1
  subst this
  exact m4
set_option maxRecDepth 100000 in
set_option maxHeartbeats 1000000 in
theorem st_new (h : Nat) (w : World) : Calls Tryz.prog 29 #[.int .u64 (h : Int)] w fun x w' => ∃ B, x = .returned (.pointer (some ⟨B, 0, none⟩)) ∧ StP w' (fun k => w.heap.size ≤ k ∧ k < w'.heap.size) B (newV h) ∧ Below w.heap.size w w' := by
  have hmm := @run_makeMap Tryz.prog
  go_enter Tryz.func29, Tryz.ntmps29
  go_wp2
  go_ret
  exact ⟨w.heap.size + 1 + 1 + 1, rfl, new_st h w⟩
end Go.Proofs.YtbjchfcoacmaaaaGreatDoor
namespace Go.Proofs.YtbjchfcoacmaaaaGreatDoor
open Go.RowKit Go.Maps
set_option linter.unusedVariables false
section
variable (w : World) (O : Nat → Prop) (B : Nat) (s : StV)
set_option maxRecDepth 100000 in
set_option maxHeartbeats 1000000 in
theorem st_del (k : ByteArray) (hk : k.size ≤ 300) (h : StP w O B s) (hs : StOk s) : Calls Tryz.prog 135 #[.pointer (some ⟨B, 0, none⟩), .string k] w (StepP w O B (.int .i64 (delV s k).2) (delV s k).1) := by
  have H := Lib.hid (And.intro h hs)
  have HSZ : Hid (k.size ≤ maxLen) := Lib.hid (by unfold maxLen; omega)
  have HG := Lib.hid (st_get w O B s k HSZ.out h)
  have HP := Lib.hid (st_part w O B s h hs)
  obtain ⟨V, hV⟩ : ∃ V, V = (lk s.now k).getD ⟨#[]⟩ := ⟨_, rfl⟩
  obtain ⟨T, hT⟩ : ∃ T, T = (lk s.now k).isSome := ⟨_, rfl⟩
  rw [← hV, ← hT] at HG
  have HT := Lib.hid hT
  clear h hs hk hV hT
  go_enter Tryz.func135, Tryz.ntmps135
  go_wp2_with fail
  refine HG.out.mono ?_
  rintro x w1 ⟨rfl, rfl⟩
  clear HG
  cases T with
  | false =>
    have HE : Hid (delV s k = (s, 3)) := Lib.hid (if_pos (none_of HT.out.symm))
    go_wp2
    go_ret
    rw [HE.out]
    exact StepP.same H.out.1 rfl
  | true =>
    have HE : Hid (delV s k = ({ s with now := delP s.now k }, 0)) := Lib.hid (if_neg (fun e => by have := HT.out; rw [e] at this; cases this))
    go_wp2_with fail
    refine HP.out.mono ?_
    rintro x w2 hp
    obtain rfl : x = .returned (.tuple #[]) := hp.1
    obtain ⟨-, Mn, A, q, cap, Ms, hsp, hk1⟩ := hp
    obtain ⟨w3, hrun, hm2, hk2⟩ := hsp.now.del H.out.2.now.2.1 k HSZ.out 0
    have c0 := hsp.c0
    have HR : Hid (StepP w1 O B (.int .i64 0) { s with now := delP s.now k } (.returned (.int .i64 0)) w3) := Lib.hid ⟨rfl, ⟨Mn, false, A, q, cap, Ms, (hsp.upd hk2 hm2).mono (fun j hj => hj.imp id (fun hj => ⟨hj.1, by have := hk2.size; omega⟩))⟩, keeps_pastO hk1 hk2 (fun j e => by rw [show j = Mn from e]; exact hsp.oM.imp id (fun h => h.1))⟩
    clear hsp hk1 hm2 hk2 HP
    go_wp2
    go_ret
    rw [HE.out]
    exact HR.out
end
end Go.Proofs.YtbjchfcoacmaaaaGreatDoor
namespace Go.Proofs.YtbjchfcoacmaaaaGreatDoor
open Go.RowKit Go.Maps
set_option linter.unusedVariables false
theorem infoBlk : (Tryz.prog.info? 125).map (fun i => (i.zero, i.size, i.bytes)) = some (some (.agg #[.map none]), 1, 8) := by kernel_rfl
section
variable (w : World) (O : Nat → Prop) (B : Nat) (s : StV)
def CmB (w : World) (B : Nat) (v u : Value) : Prop := w.cell? ⟨B, 3, none⟩ = some v ∧ w.cell? ⟨B, 0, none⟩ = some u
def comR (s : StV) : Value := .tuple #[.int .u64 ((comV s).2.1 : Int), .int .i64 (comV s).2.2]
set_option maxRecDepth 100000 in
set_option maxHeartbeats 2000000 in
theorem st_com (h : StP w O B s) (hs : StOk s) : Calls Tryz.prog 48 #[.pointer (some ⟨B, 0, none⟩)] w (StepP w O B (comR s) (comV s).1) := by
  obtain ⟨i0, hi0, hz0, hz1, hz2⟩ := info_partsB infoBlk
  have H := Lib.hid (And.intro h hs)
  obtain ⟨Mn, sh, A, q, cap, Ms, h⟩ := h
  have HSP := Lib.hid h
  have hq := h.q_eq
  have hlen := h.len
  have hfew := hs.few
  have htop := hs.top
  have hone := hs.one
  obtain ⟨t, ht⟩ : ∃ t, t = s.height := ⟨_, rfl⟩
  have htt : t + 1 ≤ 18446744073709551616 := by rw [ht]; unfold StV.height; omega
  have HT := Lib.hid ht
  have c2 := h.c2
  have c3 := h.c3
  rw [← ht] at c2
  by_cases t0 : t = 18446744073709551615
  · have HE : Hid (comR s = .tuple #[.int .u64 0, .int .i64 12] ∧ (comV s).1 = s) := Lib.hid (by unfold comR comV; rw [if_pos (by rw [← ht]; exact t0)]; exact ⟨rfl, rfl⟩)
    have e0 : ((t : Int) == 18446744073709551615) = true := by rw [beq_iff_eq]; omega
    clear h hs hq hlen hfew htop hone htt ht t0
    go_enter Tryz.func48, Tryz.ntmps48
    go_wp2
    go_ret2
    rw [HE.out.1, HE.out.2]
    exact StepP.same H.out.1 rfl
  have e0 : ((t : Int) == 18446744073709551615) = false := by rw [beq_eq_false_iff_ne]; omega
  by_cases q0 : 4096 ≤ q
  · have HE : Hid (comR s = .tuple #[.int .u64 0, .int .i64 2] ∧ (comV s).1 = s) := Lib.hid (by unfold comR comV; rw [if_neg (by rw [← ht]; exact t0), if_pos (by omega)]; exact ⟨rfl, rfl⟩)
    have e1 : decide ((4096 : Int) ≤ (q : Int)) = true := decide_eq_true (by omega)
    have e1' : decide (4096 ≤ q) = true := decide_eq_true q0
    clear h hs hq hlen hfew htop hone htt ht t0 q0
    go_enter Tryz.func48, Tryz.ntmps48
    go_wp2
    go_ret2
    rw [HE.out.1, HE.out.2]
    exact StepP.same H.out.1 rfl
  have e1 : decide ((4096 : Int) ≤ (q : Int)) = false := decide_eq_false (by omega)
  have e1' : decide (4096 ≤ q) = false := decide_eq_false q0
  have hw1 : IntKind.u64.wrap ((t : Int) + 1) = ((t : Int) + 1) := by rw [IntWalk.u64_in _ (by omega)]
  have g2 := h.fz 2
  have HE : Hid (comR s = .tuple #[.int .u64 ((t : Int) + 1), .int .i64 0] ∧ (comV s).1 = { s with blks := s.blks ++ [s.now] }) := Lib.hid (by unfold comR comV; rw [if_neg (by rw [← ht]; exact t0), if_neg (by omega), ← ht]; exact ⟨rfl, rfl⟩)
  have HQ : Hid (q = Ms.length ∧ q < 4096 ∧ s.blks.length = q ∧ 1 ≤ q) := Lib.hid (by omega)
  obtain ⟨w1, hw⟩ : ∃ z, z = w.setCell ⟨B, 2, none⟩ (.int .u64 ((t : Int) + 1)) := ⟨_, rfl⟩
  have H1 : Hid (w1.heap[B]? = some (.cells #[.map (some Mn), .bool sh, .int .u64 ((t : Int) + 1), .slice A q cap] 128 (0, 0)) ∧ Kq.Keeps (· = B) w w1) := Lib.hid (by
    rw [hw]
    exact ⟨Kq.blk_set h.blk 2 _, Kq.Keeps.setCell _ _ _ rfl⟩)
  clear h hs hq hlen hfew htop hone htt ht t0 q0
  go_enter Tryz.func48, Tryz.ntmps48
  go_wp2
  rw [← hw]
  obtain ⟨wd, hwd⟩ : ∃ z, z = w1.drew := ⟨_, rfl⟩
  have HD0 : Hid (wd.heap[B]? = some (.cells #[.map (some Mn), .bool sh, .int .u64 ((t : Int) + 1), .slice A q cap] 128 (0, 0)) ∧ Kq.Keeps (· = B) w wd) := Lib.hid (by
    rw [hwd]
    exact ⟨H1.out.1, H1.out.2.drew⟩)
  refine Kq.wp_region_T 13 (fun cur => CmB cur B (.slice A q cap) (.map (some Mn))) (by kernel_rfl) (by rw [← hwd]; exact ⟨Kq.blk_cell HD0.out.1 3, Kq.blk_cell HD0.out.1 0⟩) (fun hS0 => ?_)
  rw [← hwd] at hS0 ⊢
  clear hwd hw c2 c3 g2 e0 e1 e1' hw1 H1
  unfold CmB at hS0
  dsimp only [CmB]
  refine Kq.wpAnyT_take (i := 0) (v := ?_) rfl rfl (by kernel_rfl) (by kernel_rfl) (by kernel_rfl) (by kernel_rfl) (fun _ _ _ h => h) (Or.inl ⟨by kernel_rfl, ?_⟩) (by assumption) ?_
  rotate_left
  · intro w hSw; (try dsimp only at hSw); go_simp; (try with_reducible rfl)
  refine Kq.wpAnyT_take (i := 1) (v := ?_) rfl rfl (by kernel_rfl) (by kernel_rfl) (by kernel_rfl) (by kernel_rfl) (fun _ _ _ h => h) (Or.inl ⟨by kernel_rfl, ?_⟩) (by assumption) ?_
  rotate_left
  · intro w hSw; (try dsimp only at hSw); go_simp; (try with_reducible rfl)
  refine Kq.wpAnyT_take (i := 2) (v := ?_) rfl rfl (by kernel_rfl) (by kernel_rfl) (by kernel_rfl) (by kernel_rfl) (fun _ _ _ h => h) (Or.inl ⟨by kernel_rfl, ?_⟩) (by assumption) ?_
  rotate_left
  · intro w hSw; (try dsimp only at hSw); go_simp; (try with_reducible rfl)
  refine Kq.wpAnyT_take (i := 3) (v := ?_) rfl rfl (by kernel_rfl) (by kernel_rfl) (by kernel_rfl) (by kernel_rfl) (fun _ _ _ h => h) (Or.inl ⟨by kernel_rfl, ?_⟩) (by assumption) ?_
  rotate_left
  · intro w hSw; (try dsimp only at hSw); go_simp; (try with_reducible rfl)
  refine Kq.wpAnyT_take (i := 4) (v := ?_) rfl rfl (by kernel_rfl) (by kernel_rfl) (by kernel_rfl) (by kernel_rfl) (fun _ _ _ h => h) (Or.inl ⟨by kernel_rfl, ?_⟩) (by assumption) ?_
  rotate_left
  · intro w hSw; (try dsimp only at hSw); go_simp; (try with_reducible rfl)
  refine Kq.wpAnyT_take (i := 5) (v := ?_) rfl rfl (by kernel_rfl) (by kernel_rfl) (by kernel_rfl) (by kernel_rfl) (fun _ _ _ h => h) (Or.inl ⟨by kernel_rfl, ?_⟩) (by assumption) ?_
  rotate_left
  · intro w hSw; (try dsimp only at hSw); go_simp; (try with_reducible rfl)
  refine Kq.wpAnyT_take (i := 6) (v := ?_) rfl rfl (by kernel_rfl) (by kernel_rfl) (by kernel_rfl) (by kernel_rfl) (fun _ _ _ h => h) (Or.inl ⟨by kernel_rfl, ?_⟩) (by assumption) ?_
  rotate_left
  · intro w hSw; (try dsimp only at hSw); go_simp; (try with_reducible rfl)
  refine Kq.wpAnyT_take (i := 7) (v := ?_) rfl rfl (by kernel_rfl) (by kernel_rfl) (by kernel_rfl) (by kernel_rfl) (fun _ _ _ h => h) (Or.inl ⟨by kernel_rfl, ?_⟩) (by assumption) ?_
  rotate_left
  · intro w hSw; (try dsimp only at hSw); go_simp; (try with_reducible rfl)
  refine Kq.wpAnyT_take (i := 8) (v := ?_) rfl rfl (by kernel_rfl) (by kernel_rfl) (by kernel_rfl) (by kernel_rfl) (fun _ _ _ h => h) (Or.inl ⟨by kernel_rfl, ?_⟩) (by assumption) ?_
  rotate_left
  · intro w hSw; (try dsimp only at hSw); go_simp; (try with_reducible rfl)
  refine Kq.wpAnyT_one (i := 9) (by kernel_rfl) rfl (fun K hK => ?_)
  go_simp
  have HD1 : Hid ((wd.alloc (.cells #[.map (some Mn)] 125)).heap[B]? = some (.cells #[.map (some Mn), .bool sh, .int .u64 ((t : Int) + 1), .slice A q cap] 128 (0, 0)) ∧ Kq.Keeps (fun k => k = B) w (wd.alloc (.cells #[.map (some Mn)] 125)) ∧ (wd.alloc (.cells #[.map (some Mn)] 125)).ownsRow 0 125 1 (.slice A q cap) Ms.length (Ms.map fun m => .map (some m)) ∧ w.heap.size + 1 ≤ (wd.alloc (.cells #[.map (some Mn)] 125)).heap.size) := Lib.hid (by
    have hb := Kq.below_alloc wd (.cells #[.map (some Mn)] 125)
    have hk := HD0.out.2.trans (Kq.Keeps.of_below (S := (· = B)) hb (fun k h1 h2 => absurd h1 (Nat.not_le.2 h2)))
    exact ⟨Kq.below_blk hb HD0.out.1 (Kq.blk_lt HD0.out.1), hk, own_keepsS HSP.out.own hk (fun k e hh => HSP.out.neA hh e), by have := HD0.out.2.size; simp; omega⟩)
  have HSRC : Hid (Src Tryz.prog 1 126 (.slice (some ⟨wd.heap.size, 0, none⟩) 1 1) 1 [.map (some Mn)] (wd.alloc (.cells #[.map (some Mn)] 125))) := Lib.hid (Src.ofSlice _ Tryz.underlying126 ⟨wd.heap.size, 0, none⟩ 1 1 [.map (some Mn)] rfl (fun j u hj => by
    have : j = 0 := by
      have := (List.getElem?_eq_some_iff.1 hj).1
      simpa using this
    subst this
    rw [Kq.Elt.add_flat]
    have h1 := Kq.blk_cell (Kq.blk_new wd #[.map (some Mn)] 125 (0, 0)) 0
    simp only [Nat.add_zero] at h1 ⊢
    rw [h1]
    exact hj) (fun u hu => by rw [List.mem_singleton.1 hu]; rfl))
  clear hS0 HD0
  refine hK.out _ _ ⟨Kq.blk_cell HD1.out.1 3, Kq.blk_cell HD1.out.1 0⟩ (fun hS0 => ?_)
  clear hK K
  refine Kq.wpAnyT_one (i := 10) (by kernel_rfl) rfl (fun K hK => ?_)
  rw [if_pos (by kernel_rfl)]
  refine Kq.wp_append_any _ (.tmp 26) (.tmp 31) 126 126 rfl 0 125 i0 (.agg #[.map none]) 1 8 Tryz.underlying126 hi0 hz0 hz1 hz2 rfl (by decide) (.slice A q cap) Ms.length (Ms.map fun m => .map (some m)) (by kernel_rfl) HD1.out.2.2.1 (.slice (some ⟨wd.heap.size, 0, none⟩) 1 1) 1 [.map (some Mn)] (by kernel_rfl) HSRC.out ?e1 ?e2 (Nat.zero_le _) ?_
  case e1 => have := HQ.out; unfold maxLen; omega
  case e2 => have := HQ.out; omega
  intro v' z3 hown3 hgrow hfresh
  obtain ⟨a', q', cp', hv'⟩ := Kq.own_shape hown3
  subst hv'
  have HD3 : Hid (z3.heap[B]? = some (.cells #[.map (some Mn), .bool sh, .int .u64 ((t : Int) + 1), .slice A q cap] 128 (0, 0)) ∧ Kq.Keeps (fun k => k = B ∨ (Value.slice A q cap).ownBlock = some k) w z3 ∧ z3.ownsRow 0 125 1 (.slice a' q' cp') (Ms ++ [Mn]).length ((Ms ++ [Mn]).map fun m => .map (some m)) ∧ (∀ k, (Value.slice a' q' cp').ownBlock = some k → O k ∨ (w.heap.size ≤ k ∧ k < z3.heap.size)) ∧ w.heap.size ≤ z3.heap.size) := Lib.hid (by
    have hk3 := Kq.Keeps.grown (S := fun k => (Value.slice A q cap).ownBlock = some k) hgrow (fun k _ h => h)
    refine ⟨hk3.blk HD1.out.1 (fun e => HSP.out.neA e rfl), (HD1.out.2.1.mono (fun k _ e => Or.inl e)).trans (hk3.mono (fun k _ e => Or.inr e)), by rw [List.length_append, List.map_append]; exact hown3, fun k hk => ?_, by have := hk3.size; have := HD1.out.2.2.2; omega⟩
    rcases hfresh k hk with e | e
    · exact Or.inl (HSP.out.oA k e.symm)
    · refine Or.inr ⟨by have := HD1.out.2.2.2; omega, ?_⟩
      rcases hown3.2 with ⟨e2, _⟩ | ⟨g, c, cur, e2, h1, h2, _⟩
      · rw [e2] at hk; cases hk
      · rw [e2] at hk
        have hg : g = k := Option.some.inj hk
        rw [← hg]; exact Kq.blk_lt h2)
  clear hown3 hgrow hfresh HD1 HSRC hS0
  refine hK.out _ _ ⟨Kq.blk_cell HD3.out.1 3, Kq.blk_cell HD3.out.1 0⟩ (fun hS0 => ?_)
  clear hK K
  have f3 := Kq.blk_free HD3.out.1 3
  have c3 := Kq.blk_cell HD3.out.1 3
  refine Kq.wpAnyT_one (i := 11) (by kernel_rfl) rfl (fun K hK => ?_)
  go_simp
  refine hK.out _ _ ⟨Kq.blk_cell HD3.out.1 3, Kq.blk_cell HD3.out.1 0⟩ (fun hS0 => ?_)
  clear hK K
  refine Kq.wpAnyT_take (i := 12) (v := ?_) rfl rfl (by kernel_rfl) (by kernel_rfl) (by kernel_rfl) (by kernel_rfl) (fun _ _ _ h => h) (Or.inl ⟨by kernel_rfl, ?_⟩) (by assumption) ?_
  rotate_left
  · intro w hSw; (try dsimp only at hSw); go_simp; (try with_reducible rfl)
  refine Kq.wpAnyT_last (by kernel_rfl) rfl (fun K hK => ?_)
  go_simp
  refine hK.out _ _ ?_
  clear hK K
  refine Kq.wpAnyT_done (by kernel_rfl) ?_ _
  have HD4 : Hid ((z3.setCell ⟨B, 3, none⟩ (.slice a' q' cp')).heap[B]? = some (.cells #[.map (some Mn), .bool sh, .int .u64 ((t : Int) + 1), .slice a' q' cp'] 128 (0, 0))) := Lib.hid (Kq.blk_set HD3.out.1 3 _)
  have f1 := Kq.blk_free HD4.out 1
  have c1 := Kq.blk_cell HD4.out 1
  have c2 := Kq.blk_cell HD4.out 2
  have HEND : Hid (∀ w9, w9.heap[B]? = some (.cells #[.map (some Mn), .bool true, .int .u64 ((t : Int) + 1), .slice a' q' cp'] 128 (0, 0)) → Kq.Keeps (· = B) z3 w9 → StepP w O B (comR s) (comV s).1 (.returned (.tuple #[.int .u64 ((t : Int) + 1), .int .i64 0])) w9) := Lib.hid (fun w9 hb9 hk9 => by
    rw [HE.out.1, HE.out.2]
    have hOB := HSP.out.oB
    have hall : Kq.Keeps (fun k => k = B ∨ (Value.slice A q cap).ownBlock = some k) w w9 := HD3.out.2.1.trans (hk9.mono (fun k _ e => Or.inl e))
    have hne : ∀ {M : Nat} {l : List PairV}, MapL w M l → ¬ (M = B ∨ (Value.slice A q cap).ownBlock = some M) := fun {M} {l} hM e => by
      rcases e with e | e
      · exact HSP.out.neM hM e
      · obtain ⟨es, cl, ho⟩ := hM.obj
        rcases HSP.out.own.2 with ⟨e2, _⟩ | ⟨g, c, cur, e2, h1, h2, _⟩
        · rw [e2] at e; cases e
        · rw [e2] at e
          have hg : g = M := Option.some.inj e
          rw [hg, ho] at h2
          cases h2
    have hown9 := own_keepsS HD3.out.2.2.1 hk9 (fun k e hh => by
      have hk : k = B := e
      subst hk
      rcases HD3.out.2.2.1.2 with ⟨e2, _⟩ | ⟨g, c, cur, e2, h1, h2, _⟩
      · rw [e2] at hh; cases hh
      · rw [e2] at hh
        have hg : g = k := Option.some.inj hh
        rw [hg, HD3.out.1] at h2
        injection h2 with h2
        injection h2 with h3 h4
        exact absurd h4 (by decide))
    refine ⟨rfl, ⟨Mn, true, a', q', cp', Ms ++ [Mn], ?_⟩, hall.mono (fun k _ e => ?_)⟩
    · have hh : (((StV.height { s with blks := s.blks ++ [s.now] } : Nat) : Int)) = (t : Int) + 1 := by
        have h1 := HT.out
        have h2 := HQ.out
        unfold StV.height at h1 ⊢
        simp only [List.length_append, List.length_cons, List.length_nil]
        omega
      have hsz := HD3.out.2.2.2.2
      have hs9 := hk9.size
      refine ⟨by rw [hh]; exact hb9, HSP.out.now.keeps hall (hne HSP.out.now), hown9, by simp [HSP.out.len], fun i h1 h2 => ?_, fun e => (by cases e), Or.inl hOB, Or.inl HSP.out.oM, fun m hm => ?_, fun k hk => ?_⟩
      · by_cases hi : i < Ms.length
        · have hi2 : i < s.blks.length := by rw [← HSP.out.len]; exact hi
          rw [List.getElem_append_left hi]
          simp only [List.getElem_append_left hi2]
          exact (HSP.out.at_ i hi hi2).keeps hall (hne (HSP.out.at_ i hi hi2))
        · have hi3 : i = Ms.length := by simp at h1; omega
          have hi4 : i = s.blks.length := by rw [← HSP.out.len]; exact hi3
          have g1 : (Ms ++ [Mn])[i] = Mn := by subst hi3; simp
          have g2 : (s.blks ++ [s.now])[i]'h2 = s.now := by subst hi4; simp
          rw [g1]
          show MapL w9 Mn ((s.blks ++ [s.now])[i]'h2)
          rw [g2]
          exact HSP.out.now.keeps hall (hne HSP.out.now)
      · rcases List.mem_append.1 hm with hm | hm
        · exact Or.inl (HSP.out.oMs m hm)
        · rw [List.mem_singleton.1 hm]; exact Or.inl HSP.out.oM
      · rcases HD3.out.2.2.2.1 k hk with e | e
        · exact Or.inl e
        · exact Or.inr ⟨e.1, by omega⟩
    · rcases e with e | e
      · rw [e]; exact hOB
      · exact HSP.out.oA k e)
  have hk9 : Kq.Keeps (· = B) z3 ((z3.setCell ⟨B, 3, none⟩ (.slice a' q' cp')).setCell ⟨B, 1, none⟩ (.bool true)) := (Kq.Keeps.setCell (S := (· = B)) z3 ⟨B, 3, none⟩ (.slice a' q' cp') rfl).trans (Kq.Keeps.setCell (S := (· = B)) (z3.setCell ⟨B, 3, none⟩ (.slice a' q' cp')) ⟨B, 1, none⟩ (.bool true) rfl)
  have HF := Lib.hid (HEND.out _ (Kq.blk_set HD4.out 1 (.bool true)) hk9)
  clear hk9 HEND f3 c3 hS0
  go_wp2
  go_ret2
  exact HF.out
end
end Go.Proofs.YtbjchfcoacmaaaaGreatDoor
