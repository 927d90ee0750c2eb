/- carrackref23's Entries. Condition: at most 5000 bytes. -/
import Derived.WalkSpells
import Derived.Outline
import Derived.ProofKit
import Derived.Test.YtjilbcefikbihaaScRa8Q
namespace Go.Proofs.Ytjilbcefikbihaa
open Go.RowKit
set_option linter.unusedVariables false
theorem infoEr : (Try.prog.info? 61).map (fun i => (i.zero, i.size, i.bytes)) = some (some (.agg ⟨SaV.zero.cells (.slice none 0 0) [.int .i64 0]⟩), 15, 160) := by kernel_rfl
theorem ra_all (n : Nat) (hn : n < 9) (R : Nat) (S : ByteArray) (e : Int) (s : ByteArray) (w : World) (h : RfK w R S e s) :
    Calls Try.prog 40 #[.agg #[.pointer (some ⟨R, 0, none⟩)], .int .i64 (n : Int)] w (ActPost w R S ((fmOf n).get (zeroK (n : Int)) e s)) := by
  have : n = 0 ∨ n = 1 ∨ n = 2 ∨ n = 3 ∨ n = 4 ∨ n = 5 ∨ n = 6 ∨ n = 7 ∨ n = 8 := by omega
  rcases this with rfl | rfl | rfl | rfl | rfl | rfl | rfl | rfl | rfl
  · exact ra_0 R S e s w h
  · exact ra_1 R S e s w h
  · exact ra_2 R S e s w h
  · exact ra_3 R S e s w h
  · exact ra_4 R S e s w h
  · exact ra_5 R S e s w h
  · exact ra_6 R S e s w h
  · exact ra_7 R S e s w h
  · exact ra_8 R S e s w h
/-- errors are ErrShort alone -/
def E6 (e : Int) : Prop := e = 0 ∨ e = 6
theorem raw_e6 (e : Int) (s : ByteArray) (n : Int) (h : E6 e) : E6 (WireM.raw e s n).2.1 := by
  unfold WireM.raw
  split
  · split
    · exact Or.inr rfl
    · exact h
  · split
    · exact Or.inl rfl
    · exact h
def FmV.e6 (F : FmV) : Prop := ∀ a e b, E6 e → E6 (F.get a e b).2.1
theorem byteF_e6 (e : Int) (s : ByteArray) (h : E6 e) : E6 (byteF e s).2.1 := raw_e6 e s _ h
theorem pairF_e6 (e : Int) (s : ByteArray) (h : E6 e) : E6 (pairF e s).2.1 := byteF_e6 _ _ (byteF_e6 e s h)
theorem getW_e6 : ∀ (n : Nat) (e : Int) (s : ByteArray), E6 e → E6 (getW n e s).2.1
  | 0, _, _, h => h
  | n + 1, e, s, h => getW_e6 n _ _ (pairF_e6 _ _ (byteF_e6 e s h))
theorem getL_e6 : ∀ (l : List FmV), (∀ F ∈ l, F.e6) → ∀ a e b, E6 e → E6 (getL l a e b).2.1
  | [], _, _, _, _, h => h
  | f :: l, hl, a, e, b, h => getL_e6 l (fun F hF => hl F (List.mem_cons_of_mem _ hF)) _ _ _ (hl f List.mem_cons_self a e b h)
theorem sm_e6 (g : SaV → Int) (s : SaV → Int → SaV) : (smF g s).e6 := fun a e b h => raw_e6 e b _ h
theorem nu_e6 (g : SaV → Int) (s : SaV → Int → SaV) : (nuF g s).e6 := fun a e b h => raw_e6 e b _ h
theorem tx_e6 (g : SaV → ByteArray) (s : SaV → ByteArray → SaV) : (txF g s).e6 := fun a e b h => raw_e6 _ _ _ (raw_e6 e b _ h)
theorem wr_e6 : wrF.e6 := fun a e b h => getW_e6 _ _ _ (byteF_e6 e b h)
theorem allF_e6 (l : List FmV) (h : ∀ F ∈ l, F.e6) : (allF l).e6 := fun a e b he => getL_e6 l h a e b he
theorem fm_e6 (n : Nat) (hn : n < 9) : (fmOf n).e6 := by
  have hf : ∀ F ∈ fMs, F.e6 := fun F hF => by
    simp only [fMs, List.mem_cons, List.not_mem_nil, or_false] at hF
    rcases hF with rfl | rfl | rfl | rfl | rfl | rfl | rfl | rfl
    · exact sm_e6 _ _
    · exact sm_e6 _ _
    · exact nu_e6 _ _
    · exact sm_e6 _ _
    · exact nu_e6 _ _
    · exact nu_e6 _ _
    · exact tx_e6 _ _
    · exact tx_e6 _ _
  have hs : ∀ F ∈ [fC, fT, fD], F.e6 := fun F hF => by
    simp only [List.mem_cons, List.not_mem_nil, or_false] at hF
    rcases hF with rfl | rfl | rfl
    · exact sm_e6 _ _
    · exact nu_e6 _ _
    · exact tx_e6 _ _
  have : n = 0 ∨ n = 1 ∨ n = 2 ∨ n = 3 ∨ n = 4 ∨ n = 5 ∨ n = 6 ∨ n = 7 ∨ n = 8 := by omega
  rcases this with rfl | rfl | rfl | rfl | rfl | rfl | rfl | rfl | rfl
  · exact allF_e6 [fC, fT, fD] hs
  · exact (show fC.e6 from sm_e6 _ _)
  · exact allF_e6 [] (fun F hF => by cases hF)
  · exact (show fN.e6 from sm_e6 _ _)
  · exact (show fN.e6 from sm_e6 _ _)
  · exact (show fN.e6 from sm_e6 _ _)
  · exact allF_e6 fMs hf
  · exact (show fN.e6 from sm_e6 _ _)
  · exact wr_e6
/-- a row of the document's entries under way -/
structure EnRowK (w : World) (base : Nat) (v : Value) (xs : List EnX) : Prop where
  own : w.ownsRow base 61 15 v xs.length (enE.flat xs)
  ws : ∀ x ∈ xs, WsAt w x.sl x.a.ws ∧ (∀ b, sBlk x.sl = some b → b < w.heap.size ∧ v.ownBlock ≠ some b)
theorem EnRowK.keeps {w w' : World} {base : Nat} {v : Value} {xs : List EnX} {S : Nat → Prop} (h : EnRowK w base v xs) (hk : Kq.Keeps S w w') (hS : ∀ b, b < w.heap.size → ¬ S b) : EnRowK w' base v xs :=
  ⟨own_later h.own (fun k hk' => hk.block k (h.own.lt k hk').2 (hS k (h.own.lt k hk').2)), fun x hx => ⟨(h.ws x hx).1.keeps hk (fun b hb => hS b ((h.ws x hx).2 b hb).1), fun b hb => ⟨Nat.lt_of_lt_of_le ((h.ws x hx).2 b hb).1 hk.size, ((h.ws x hx).2 b hb).2⟩⟩⟩
theorem EnRowK.close {w8 ze z3 : World} {base : Nat} {v v' : Value} {xs : List EnX} {x : EnX} (h : EnRowK w8 base v xs) (hx : WsAt w8 x.sl x.a.ws ∧ (∀ b, sBlk x.sl = some b → b < w8.heap.size ∧ v.ownBlock ≠ some b)) (hb : Below w8.heap.size w8 ze) (hg : ze.grownBy z3 v.ownBlock)
    (hown : z3.ownsRow base 61 15 v' (xs ++ [x]).length (enE.flat (xs ++ [x]))) (hf : ∀ k, v'.ownBlock = some k → some k = v.ownBlock ∨ ze.heap.size ≤ k) : EnRowK z3 base v' (xs ++ [x]) := by
  refine ⟨hown, fun y hy => ?_⟩
  have hw : WsAt w8 y.sl y.a.ws ∧ (∀ b, sBlk y.sl = some b → b < w8.heap.size ∧ v.ownBlock ≠ some b) := by
    rcases List.mem_append.1 hy with h1 | h1
    · exact h.ws y h1
    · rw [List.mem_singleton.1 h1]; exact hx
  have kg : Kq.Keeps (fun k => some k = v.ownBlock) w8 z3 := (keeps_any hb).trans (Kq.Keeps.grown hg (fun k _ hk => hk.symm))
  refine ⟨hw.1.keeps kg (fun b hb' e => (hw.2 b hb').2 e.symm), fun b hb' => ⟨Nat.lt_of_lt_of_le (hw.2 b hb').1 kg.size, fun e => ?_⟩⟩
  rcases hf b e with h1 | h1
  · exact (hw.2 b hb').2 h1.symm
  · have := (hw.2 b hb').1
    have := hb.size
    omega
theorem EnRowK.done {w : World} {base : Nat} {v : Value} {xs : List EnX} (h : EnRowK w base v xs) : ∃ A c, v = .slice A xs.length c ∧ EnsAt w A xs := by
  obtain ⟨A, cap, hv, hl, hat, -, -⟩ := Kq.Elt.own_at (E := enE) h.own
  exact ⟨A, cap, hv, hat, fun x hx => (h.ws x hx).1⟩
theorem nl_first (s : ByteArray) (h : 0 < s.size) : nl (s.extract 0 1) = [s[0].toNat] := by
  rw [nl_extract, List.drop_zero]
  rcases s with ⟨⟨l⟩⟩
  match l, h with
  | b :: l, _ => rfl
theorem byteF_at (s : ByteArray) (h : 0 < s.size) : byteF 0 s = ((s[0].toNat : Int), 0, s.extract 1 s.size) := by
  unfold byteF
  rw [WireM.raw_ok _ 1 (by omega), nl_first s h]
  show (((WireM.val [s[0].toNat] : Nat) : Int), (0 : Int), s.extract 1 s.size) = _
  have : WireM.val [s[0].toNat] = s[0].toNat := by simp [WireM.val]
  rw [this]
set_option maxRecDepth 100000 in
set_option maxHeartbeats 4000000 in
theorem re_entries (s : ByteArray) (w : World) (hs : s.size ≤ 5000) :
    Calls Try.prog 18 #[.string s] w fun x w' => ∃ A c xs, x = .returned (.slice A xs.length c) ∧ EnsAt w' A xs ∧ xs.map EnX.out = entF s ∧ Below w.heap.size w w' := by
  obtain ⟨i0, hi0, hz0, hz1, hz2⟩ := info_partsW infoEr
  have HSZ := Lib.hid hs
  clear hs
  go_enter Try.func18, Try.ntmps18
  go_wp2_with fail
  go_loopw [0, 3] (fun t l wr => ∃ s' xs, t = .string s' ∧ EnRowK wr w.heap.size l xs ∧ xs.map EnX.out ++ entF s' = entF s ∧ s'.size ≤ s.size ∧ Below w.heap.size w wr) (fun t _ _ => strSz t)
  case atStart => exact ⟨s, [], rfl, ⟨⟨rfl, Or.inl ⟨rfl, rfl⟩⟩, fun x hx => by cases hx⟩, rfl, Nat.le_refl _, Below.refl _ _⟩
  case round =>
    obtain ⟨s', xs, rfl, hrow, hent, hsz, hbel⟩ := hrel
    have HH := Lib.hid (And.intro hrow (And.intro hent (And.intro hsz hbel)))
    have hss : s'.size ≤ 5000 := by have := HSZ.out; omega
    by_cases hz : s'.size = 0
    · have t0 : decide ((0 : Int) < (s'.size : Int)) = false := decide_eq_false (by omega)
      have t1 : decide (0 < s'.size) = false := decide_eq_false (by omega)
      have HZ := Lib.hid hz
      obtain ⟨A, c, rfl, hat⟩ := HH.out.1.done
      have HA := Lib.hid hat
      clear hrow hent hsz hbel hz hat
      go_wp2
      go_ret
      exact ⟨A, c, xs, rfl, HA.out, by have := HH.out.2.1; rw [entF_zero s' HZ.out, List.append_nil] at this; exact this, HH.out.2.2.2⟩
    · have hpos : 0 < s'.size := by omega
      have t0 : decide ((0 : Int) < (s'.size : Int)) = true := decide_eq_true (by omega)
      have t1 : decide (0 < s'.size) = true := decide_eq_true hpos
      have hi0' : (0 : Int) < (s'.size : Int) := by omega
      obtain ⟨k, hk⟩ : ∃ k, k = s'[0].toNat := ⟨_, rfl⟩
      have hk8 : k < 256 := by rw [hk]; exact s'[0].toNat_lt
      obtain ⟨s1, hs1⟩ : ∃ z, z = s'.extract 1 s'.size := ⟨_, rfl⟩
      have HBF : Hid (byteF 0 s' = ((k : Int), 0, s1)) := Lib.hid (by rw [hk, hs1]; exact byteF_at s' hpos)
      have HS1 : Hid (s1 = s'.extract 1 s'.size ∧ s1.size + 1 = s'.size) := Lib.hid ⟨hs1, by rw [hs1, ByteArray.size_extract]; omega⟩
      have HPOS := Lib.hid hpos
      have HKE := Lib.hid (And.intro hk hs1)
      clear hrow hent hsz hbel hz hs1
      by_cases h9 : k < 9
      · have t2 : decide ((8 : Int) < (s'[0].toNat : Int)) = false := decide_eq_false (by omega)
        have t3 : decide (8 < s'[0].toNat) = false := decide_eq_false (by omega)
        have t4 : ¬ (8 : Int) < (s'[0].toNat : Int) := by omega
        have H9 := Lib.hid h9
        clear hk h9 hk8
        obtain ⟨R, hR⟩ : ∃ z, z = wr.heap.size := ⟨_, rfl⟩
        obtain ⟨w4, hw4⟩ : ∃ z, z = wr.alloc (.cells #[.string s1, .int .i64 0, .int .i64 0] 104) := ⟨_, rfl⟩
        have H4 : Hid (RfK w4 R s1 0 s1 ∧ Below wr.heap.size wr w4 ∧ R = wr.heap.size) := Lib.hid (by
          have hb : Below wr.heap.size wr w4 := by rw [hw4]; exact Kq.below_alloc _ _
          refine ⟨⟨0, ⟨by rw [hw4, hR]; exact Kq.blk_new _ _ _ _, Nat.zero_le _, by have := HS1.out.2; omega⟩, ?_⟩, hb, hR⟩
          apply nl_inj
          rw [nl_extract, List.drop_zero, Nat.sub_zero, List.take_of_length_le (by rw [nl_length]; exact Nat.le_refl _)])
        have HW4 := Lib.hid (And.intro hw4 hR)
        clear hw4 hR
        go_wp2_with fail
        rw [← HKE.out.1, ← HKE.out.2, ← HW4.out.1, ← HW4.out.2]
        clear t2 t3 t4 HW4
        obtain ⟨y, hy⟩ : ∃ z, z = (fmOf k).get (zeroK (k : Int)) 0 s1 := ⟨_, rfl⟩
        have HPRE := Lib.hid (ra_all k H9.out R s1 0 s1 w4 H4.out.1)
        rw [← hy] at HPRE
        have HY := Lib.hid hy
        clear hy
        refine HPRE.out.mono ?_
        rintro x w5 ⟨A7, c7, rfl, hws7, hsb7, r7, k7⟩
        obtain ⟨k', hA7, hrest⟩ := id r7
        obtain ⟨E, hE⟩ : ∃ z, z = w5.heap.size := ⟨_, rfl⟩
        obtain ⟨w8, hw8⟩ : ∃ z, z = (w5.alloc (.cells #[.int .i64 0, .int .i64 0, .int .u64 0, .string ⟨#[]⟩, .int .i64 0, .int .i64 0, .int .i64 0, .int .u64 0, .int .i64 0, .int .u64 0, .int .u64 0, .string ⟨#[]⟩, .string ⟨#[]⟩, .slice none 0 0] 29)).setRow w5.heap.size ⟨y.1.cells (.slice A7 y.1.ws.length c7) []⟩ := ⟨_, rfl⟩
        have H8 : Hid (w8.heap[E]? = some (.cells ⟨y.1.cells (.slice A7 y.1.ws.length c7) []⟩ 29 (0, 0)) ∧ RfAt w8 R y.2.1 s1 k' ∧ EnRowK w8 w.heap.size u3 xs ∧ (WsAt w8 (.slice A7 y.1.ws.length c7) y.1.ws ∧ ∀ b, sBlk (.slice A7 y.1.ws.length c7) = some b → b < w8.heap.size ∧ u3.ownBlock ≠ some b) ∧ Below w.heap.size w w8) := Lib.hid (by
          have ba := Kq.below_alloc w5 (.cells #[.int .i64 0, .int .i64 0, .int .u64 0, .string ⟨#[]⟩, .int .i64 0, .int .i64 0, .int .i64 0, .int .u64 0, .int .i64 0, .int .u64 0, .int .u64 0, .string ⟨#[]⟩, .string ⟨#[]⟩, .slice none 0 0] 29)
          have hb8 : Below w5.heap.size w5 w8 := by
            have ks : Kq.Keeps (· = w5.heap.size) w5 w8 := by
              rw [hw8]
              exact (keeps_any ba).trans ⟨rfl, rfl, rfl, by simp, fun k _ hk => setRow_other _ _ k _ hk⟩
            exact ks.below (Nat.le_refl _) (fun k hk h => by omega)
          have kk : Kq.Keeps (fun k => k = R) wr w8 := ((keeps_any H4.out.2.1).trans k7).trans (keeps_any hb8)
          have hRe := H4.out.2.2
          refine ⟨by rw [hw8, hE]; exact setRow_heap _ _ _ _ _ _ (Kq.blk_new w5 _ _ _), ⟨Kq.below_blk hb8 hA7.blk hA7.lt, hA7.le, hA7.sz⟩, HH.out.1.keeps kk (fun b hb h => by omega), ⟨hws7.keeps (S := fun _ => False) (keeps_any hb8) (fun _ _ => id), fun b hb => ⟨Nat.lt_of_lt_of_le (hsb7 b hb).2 hb8.size, fun ho => ?_⟩⟩, ((keeps_any (S := fun k => k = R) HH.out.2.2.2).trans kk).below (Nat.le_refl _) (fun k hk h => by have := HH.out.2.2.2.size; omega)⟩
          have h1 := (HH.out.1.own.lt b ho).2
          have h2 := (hsb7 b hb).1
          have h3 := H4.out.2.1.size
          omega)
        have HRE : Hid (y.2.2 = s1.extract k' s1.size ∧ k' ≤ s1.size) := Lib.hid ⟨hrest, hA7.le⟩
        have HEN : Hid (entStep s' = if y.2.1 = 0 then ((y.1, 0), y.2.2) else ((SaV.zero, y.2.1), ⟨#[]⟩)) := Lib.hid (by
          unfold entStep
          rw [HBF.out]
          dsimp only
          rw [if_pos (by have := H9.out; omega), Int.toNat_natCast, ← HY.out])
        have H6 : Hid (E6 y.2.1) := Lib.hid (by rw [HY.out]; exact fm_e6 k H9.out _ _ _ (Or.inl rfl))
        have c2 : w8.cell? ⟨R, 2, none⟩ = some (.int .i64 y.2.1) := H8.out.2.1.c2
        have c1 : w8.cell? ⟨R, 1, none⟩ = some (.int .i64 ((k' : Nat) : Int)) := H8.out.2.1.c1
        clear hws7 hsb7 r7 k7 hA7 hrest HPRE
        by_cases he : y.2.1 = 0
        · have te : (y.2.1 != 0) = false := by simp [he]
          have HE0 := Lib.hid he
          obtain ⟨x, hx⟩ : ∃ z : EnX, z = ⟨y.1, A7, c7, 0⟩ := ⟨_, rfl⟩
          have HX : Hid (EnRowK w8 w.heap.size u3 xs ∧ (WsAt w8 x.sl x.a.ws ∧ ∀ b, sBlk x.sl = some b → b < w8.heap.size ∧ u3.ownBlock ≠ some b) ∧ Below w.heap.size w w8) := Lib.hid (by rw [hx]; exact ⟨H8.out.2.2.1, H8.out.2.2.2.1, H8.out.2.2.2.2⟩)
          have HXO : Hid (x.out = (y.1, 0)) := Lib.hid (by rw [hx]; rfl)
          have HSRC : Hid (Src Try.prog 15 56 (.slice (some ⟨w8.heap.size, 0, none⟩) 1 1) 1 (enE.flat [x]) (w8.alloc (.cells #[.int .i64 y.1.k, .int .i64 y.1.c, .int .u64 y.1.t, .string y.1.d, .int .i64 y.1.n, .int .i64 y.1.mk, .int .i64 y.1.mt, .int .u64 y.1.mh, .int .i64 y.1.pf, .int .u64 y.1.pq, .int .u64 y.1.pt, .string y.1.pd, .string y.1.mp, .slice A7 y.1.ws.length c7, .int .i64 0] 61))) := Lib.hid (by rw [hx]; exact Kq.Elt.At.src Try.underlying56 (E := enE) 1 (Kq.Elt.made_one (E := enE) ⟨y.1, A7, c7, 0⟩ w8 61))
          have HB8 : Hid (Below w8.heap.size w8 (w8.alloc (.cells #[.int .i64 y.1.k, .int .i64 y.1.c, .int .u64 y.1.t, .string y.1.d, .int .i64 y.1.n, .int .i64 y.1.mk, .int .i64 y.1.mt, .int .u64 y.1.mh, .int .i64 y.1.pf, .int .u64 y.1.pq, .int .u64 y.1.pt, .string y.1.pd, .string y.1.mp, .slice A7 y.1.ws.length c7, .int .i64 0] 61))) := Lib.hid (Kq.below_alloc _ _)
          have HOW : Hid ((w8.alloc (.cells #[.int .i64 y.1.k, .int .i64 y.1.c, .int .u64 y.1.t, .string y.1.d, .int .i64 y.1.n, .int .i64 y.1.mk, .int .i64 y.1.mt, .int .u64 y.1.mh, .int .i64 y.1.pf, .int .u64 y.1.pq, .int .u64 y.1.pt, .string y.1.pd, .string y.1.mp, .slice A7 y.1.ws.length c7, .int .i64 0] 61)).ownsRow w.heap.size 61 15 u3 xs.length (enE.flat xs) ∧ w.heap.size ≤ (w8.alloc (.cells #[.int .i64 y.1.k, .int .i64 y.1.c, .int .u64 y.1.t, .string y.1.d, .int .i64 y.1.n, .int .i64 y.1.mk, .int .i64 y.1.mt, .int .u64 y.1.mh, .int .i64 y.1.pf, .int .u64 y.1.pq, .int .u64 y.1.pt, .string y.1.pd, .string y.1.mp, .slice A7 y.1.ws.length c7, .int .i64 0] 61)).heap.size ∧ xs.length ≤ 5000) := Lib.hid (by
            refine ⟨own_later HX.out.1.own (fun k hk => HB8.out.block k (HX.out.1.own.lt k hk).2), Nat.le_trans HX.out.2.2.size HB8.out.size, ?_⟩
            have h1 := congrArg List.length HH.out.2.1
            rw [List.length_append, List.length_map] at h1
            have := entF_len s
            have := HSZ.out
            omega)
          clear he hx
          go_wp2_with (first | (refine wpList_store_row (by rfl) 29 (.tmp 5) (.tmp 27) (by rfl) w5.heap.size ⟨y.1.cells (.slice A7 y.1.ws.length c7) []⟩ (by rfl) (by rfl) 29 _ (Kq.blk_new w5 _ _ _) infoA (by rfl) (act_one _ _ _ _) ?_; rw [← hw8, ← hE]; clear hw8 hE) | (refine wpList_load_row (by rfl) 29 (.tmp 5) (by rfl) E (by rfl) 29 #[.int .i64 y.1.k, .int .i64 y.1.c, .int .u64 y.1.t, .string y.1.d, .int .i64 y.1.n, .int .i64 y.1.mk, .int .i64 y.1.mt, .int .u64 y.1.mh, .int .i64 y.1.pf, .int .u64 y.1.pq, .int .u64 y.1.pt, .string y.1.pd, .string y.1.mp, .slice A7 y.1.ws.length c7] (0, 0) _ H8.out.1 Try.underlying29 rfl infoA ?_) | (at_builtin; refine Kq.wpList_append_any _ rfl (.tmp 37) (.tmp 40) 56 56 rfl w.heap.size 61 i0 (.agg ⟨SaV.zero.cells (.slice none 0 0) [.int .i64 0]⟩) 15 160 Try.underlying56 hi0 hz0 hz1 hz2 rfl (by decide) u3 xs.length (enE.flat xs) rfl HOW.out.1 (.slice (some ⟨w8.heap.size, 0, none⟩) 1 1) 1 (enE.flat [x]) rfl HSRC.out ?h1 ?h2 HOW.out.2.1 ?h4))
          case h1 => have := HOW.out.2.2; unfold maxLen; omega
          case h2 => have := HOW.out.2.2; omega
          case h4 =>
            intro v' z3 hown3 hgrow hfresh
            have HZ3 : Hid (EnRowK z3 w.heap.size v' (xs ++ [x]) ∧ Below w.heap.size w z3 ∧ Kq.Keeps (fun k => some k = u3.ownBlock) w8 z3) := Lib.hid (by
              have kg : Kq.Keeps (fun k => some k = u3.ownBlock) w8 z3 := (keeps_any HB8.out).trans (Kq.Keeps.grown hgrow (fun k _ hk => hk.symm))
              have hownE : z3.ownsRow w.heap.size 61 15 v' (xs ++ [x]).length (enE.flat (xs ++ [x])) := by
                rw [List.length_append, Kq.Elt.flat_append]; exact hown3
              refine ⟨EnRowK.close HX.out.1 HX.out.2.1 HB8.out hgrow hownE (fun k hk => by simpa using hfresh k hk), ((keeps_any (S := fun k => some k = u3.ownBlock) HX.out.2.2).trans kg).below (Nat.le_refl _) (fun k hk h => ?_), kg⟩
              have := own_ge HH.out.1.own h.symm
              omega)
            have HR3 : Hid (RfAt z3 R y.2.1 s1 k') := Lib.hid (by
              have h := H8.out.2.1
              exact ⟨HZ3.out.2.2.blk h.blk (fun h => by have := (HH.out.1.own.lt R h.symm).2; have := H4.out.2.2; omega), h.le, h.sz⟩)
            have d1 : z3.cell? ⟨R, 1, none⟩ = some (.int .i64 ((k' : Nat) : Int)) := HR3.out.c1
            have q0 : wrap64 (1 + (k' : Int)) = ((1 + k' : Nat) : Int) := by have := HRE.out.2; have := HS1.out.2; unfold wrap64; omega
            obtain ⟨q, hq⟩ : ∃ q, q = 1 + k' := ⟨_, rfl⟩
            rw [← hq] at q0
            have q2 : (0 : Int) ≤ (q : Int) := by omega
            have q3 : (q : Int) ≤ (s'.size : Int) := by have := HRE.out.2; have := HS1.out.2; omega
            have q4 : q ≤ s'.size := by omega
            have HEX : Hid (s'.extract q s'.size = y.2.2) := Lib.hid (by
              rw [HRE.out.1, HS1.out.1, hq]
              exact (ext_rest s' 1 k' (by have := HRE.out.2; have := HS1.out.2; omega)).symm)
            clear hown3 hgrow hfresh HSRC HOW HB8 HX c1 c2 te hq
            go_wp2
            go_roundw
            case rel =>
              refine ⟨_, xs ++ [x], rfl, HZ3.out.1, ?_, ?_, HZ3.out.2.1⟩
              · rw [List.map_append, List.map_singleton, List.append_assoc, ← HH.out.2.1, entF_step s' (by have := HPOS.out; omega), HEN.out, if_pos HE0.out, HXO.out, HEX.out]
                rfl
              · have := HH.out.2.2.1
                rw [ByteArray.size_extract]; omega
            case measure =>
              have h1 := entStep_lt s' (by have := HPOS.out; omega)
              rw [HEN.out, if_pos HE0.out] at h1
              show (s'.extract q s'.size).size < s'.size
              rw [HEX.out]; exact h1
        · have he6 : y.2.1 = 6 := H6.out.resolve_left he
          have te : (y.2.1 != 0) = true := by simp [he]
          have HE0 := Lib.hid (And.intro he he6)
          obtain ⟨x, hx⟩ : ∃ z : EnX, z = ⟨SaV.zero, none, 0, 6⟩ := ⟨_, rfl⟩
          have HX : Hid (EnRowK w8 w.heap.size u3 xs ∧ (WsAt w8 x.sl x.a.ws ∧ ∀ b, sBlk x.sl = some b → b < w8.heap.size ∧ u3.ownBlock ≠ some b) ∧ Below w.heap.size w w8) := Lib.hid (by rw [hx]; exact ⟨H8.out.2.2.1, ⟨⟨none, 0, rfl, fun j hj => by cases hj⟩, fun b hb => by cases hb⟩, H8.out.2.2.2.2⟩)
          have HXO : Hid (x.out = (SaV.zero, 6)) := Lib.hid (by rw [hx]; rfl)
          have HSRC : Hid (Src Try.prog 15 56 (.slice (some ⟨w8.heap.size, 0, none⟩) 1 1) 1 (enE.flat [x]) (w8.alloc (.cells #[.int .i64 0, .int .i64 0, .int .u64 0, .string ⟨#[]⟩, .int .i64 0, .int .i64 0, .int .i64 0, .int .u64 0, .int .i64 0, .int .u64 0, .int .u64 0, .string ⟨#[]⟩, .string ⟨#[]⟩, .slice none 0 0, .int .i64 6] 61))) := Lib.hid (by rw [hx]; exact Kq.Elt.At.src Try.underlying56 (E := enE) 1 (Kq.Elt.made_one (E := enE) ⟨SaV.zero, none, 0, 6⟩ w8 61))
          have HB8 : Hid (Below w8.heap.size w8 (w8.alloc (.cells #[.int .i64 0, .int .i64 0, .int .u64 0, .string ⟨#[]⟩, .int .i64 0, .int .i64 0, .int .i64 0, .int .u64 0, .int .i64 0, .int .u64 0, .int .u64 0, .string ⟨#[]⟩, .string ⟨#[]⟩, .slice none 0 0, .int .i64 6] 61))) := Lib.hid (Kq.below_alloc _ _)
          have HOW : Hid ((w8.alloc (.cells #[.int .i64 0, .int .i64 0, .int .u64 0, .string ⟨#[]⟩, .int .i64 0, .int .i64 0, .int .i64 0, .int .u64 0, .int .i64 0, .int .u64 0, .int .u64 0, .string ⟨#[]⟩, .string ⟨#[]⟩, .slice none 0 0, .int .i64 6] 61)).ownsRow w.heap.size 61 15 u3 xs.length (enE.flat xs) ∧ w.heap.size ≤ (w8.alloc (.cells #[.int .i64 0, .int .i64 0, .int .u64 0, .string ⟨#[]⟩, .int .i64 0, .int .i64 0, .int .i64 0, .int .u64 0, .int .i64 0, .int .u64 0, .int .u64 0, .string ⟨#[]⟩, .string ⟨#[]⟩, .slice none 0 0, .int .i64 6] 61)).heap.size ∧ xs.length ≤ 5000) := Lib.hid (by
            refine ⟨own_later HX.out.1.own (fun k hk => HB8.out.block k (HX.out.1.own.lt k hk).2), Nat.le_trans HX.out.2.2.size HB8.out.size, ?_⟩
            have h1 := congrArg List.length HH.out.2.1
            rw [List.length_append, List.length_map] at h1
            have := entF_len s
            have := HSZ.out
            omega)
          clear he he6 hx
          go_wp2_with (first | (refine wpList_store_row (by rfl) 29 (.tmp 5) (.tmp 27) (by rfl) w5.heap.size ⟨y.1.cells (.slice A7 y.1.ws.length c7) []⟩ (by rfl) (by rfl) 29 _ (Kq.blk_new w5 _ _ _) infoA (by rfl) (act_one _ _ _ _) ?_; rw [← hw8, ← hE]; clear hw8 hE) | (at_builtin; refine Kq.wpList_append_any _ rfl (.tmp 33) (.tmp 35) 56 56 rfl w.heap.size 61 i0 (.agg ⟨SaV.zero.cells (.slice none 0 0) [.int .i64 0]⟩) 15 160 Try.underlying56 hi0 hz0 hz1 hz2 rfl (by decide) u3 xs.length (enE.flat xs) rfl HOW.out.1 (.slice (some ⟨w8.heap.size, 0, none⟩) 1 1) 1 (enE.flat [x]) rfl HSRC.out ?h1 ?h2 HOW.out.2.1 ?h4))
          case h1 => have := HOW.out.2.2; unfold maxLen; omega
          case h2 => have := HOW.out.2.2; omega
          case h4 =>
            intro v' z3 hown3 hgrow hfresh
            have HZ3 : Hid (EnRowK z3 w.heap.size v' (xs ++ [x]) ∧ Below w.heap.size w z3 ∧ Kq.Keeps (fun k => some k = u3.ownBlock) w8 z3) := Lib.hid (by
              have kg : Kq.Keeps (fun k => some k = u3.ownBlock) w8 z3 := (keeps_any HB8.out).trans (Kq.Keeps.grown hgrow (fun k _ hk => hk.symm))
              have hownE : z3.ownsRow w.heap.size 61 15 v' (xs ++ [x]).length (enE.flat (xs ++ [x])) := by
                rw [List.length_append, Kq.Elt.flat_append]; exact hown3
              refine ⟨EnRowK.close HX.out.1 HX.out.2.1 HB8.out hgrow hownE (fun k hk => by simpa using hfresh k hk), ((keeps_any (S := fun k => some k = u3.ownBlock) HX.out.2.2).trans kg).below (Nat.le_refl _) (fun k hk h => ?_), kg⟩
              have := own_ge HH.out.1.own h.symm
              omega)
            obtain ⟨A9, c9, rfl, hat9⟩ := HZ3.out.1.done
            have HAT := Lib.hid hat9
            clear hown3 hgrow hfresh HSRC HOW HB8 HX c1 c2 te hat9
            go_wp2
            go_ret
            refine ⟨A9, c9, xs ++ [x], rfl, HAT.out, ?_, HZ3.out.2.1⟩
            rw [List.map_append, List.map_singleton, ← HH.out.2.1, entF_step s' (by have := HPOS.out; omega), HEN.out, if_neg HE0.out.1, HXO.out, HE0.out.2]
            show _ = _ ++ (SaV.zero, 6) :: entF ⟨#[]⟩
            rw [entF_zero ⟨#[]⟩ rfl]
      · have t2 : decide ((8 : Int) < (s'[0].toNat : Int)) = true := decide_eq_true (by omega)
        have t3 : decide (8 < s'[0].toNat) = true := decide_eq_true (by omega)
        have t4 : (8 : Int) < (s'[0].toNat : Int) := by omega
        have H9 := Lib.hid h9
        clear hk h9 hk8
        obtain ⟨w8, hw8⟩ : ∃ z, z = wr := ⟨_, rfl⟩
        obtain ⟨x, hx⟩ : ∃ z : EnX, z = ⟨SaV.zero, none, 0, 5⟩ := ⟨_, rfl⟩
        have HX : Hid (EnRowK w8 w.heap.size u3 xs ∧ (WsAt w8 x.sl x.a.ws ∧ ∀ b, sBlk x.sl = some b → b < w8.heap.size ∧ u3.ownBlock ≠ some b) ∧ Below w.heap.size w w8) := Lib.hid (by rw [hx, hw8]; exact ⟨HH.out.1, ⟨⟨none, 0, rfl, fun j hj => by cases hj⟩, fun b hb => by cases hb⟩, HH.out.2.2.2⟩)
        have HXO : Hid (x.out = (SaV.zero, 5)) := Lib.hid (by rw [hx]; rfl)
        have HEN : Hid (entStep s' = ((SaV.zero, 5), s1)) := Lib.hid (by
          unfold entStep
          rw [HBF.out]
          dsimp only
          rw [if_neg (by have := H9.out; omega)])
        have q3 : (1 : Int) ≤ (s'.size : Int) := by omega
        have q4 : 1 ≤ s'.size := by omega
        have HSRC : Hid (Src Try.prog 15 56 (.slice (some ⟨w8.heap.size, 0, none⟩) 1 1) 1 (enE.flat [x]) (w8.alloc (.cells #[.int .i64 0, .int .i64 0, .int .u64 0, .string ⟨#[]⟩, .int .i64 0, .int .i64 0, .int .i64 0, .int .u64 0, .int .i64 0, .int .u64 0, .int .u64 0, .string ⟨#[]⟩, .string ⟨#[]⟩, .slice none 0 0, .int .i64 5] 61))) := Lib.hid (by rw [hx]; exact Kq.Elt.At.src Try.underlying56 (E := enE) 1 (Kq.Elt.made_one (E := enE) ⟨SaV.zero, none, 0, 5⟩ w8 61))
        have HB8 : Hid (Below w8.heap.size w8 (w8.alloc (.cells #[.int .i64 0, .int .i64 0, .int .u64 0, .string ⟨#[]⟩, .int .i64 0, .int .i64 0, .int .i64 0, .int .u64 0, .int .i64 0, .int .u64 0, .int .u64 0, .string ⟨#[]⟩, .string ⟨#[]⟩, .slice none 0 0, .int .i64 5] 61))) := Lib.hid (Kq.below_alloc _ _)
        have HOW : Hid ((w8.alloc (.cells #[.int .i64 0, .int .i64 0, .int .u64 0, .string ⟨#[]⟩, .int .i64 0, .int .i64 0, .int .i64 0, .int .u64 0, .int .i64 0, .int .u64 0, .int .u64 0, .string ⟨#[]⟩, .string ⟨#[]⟩, .slice none 0 0, .int .i64 5] 61)).ownsRow w.heap.size 61 15 u3 xs.length (enE.flat xs) ∧ w.heap.size ≤ (w8.alloc (.cells #[.int .i64 0, .int .i64 0, .int .u64 0, .string ⟨#[]⟩, .int .i64 0, .int .i64 0, .int .i64 0, .int .u64 0, .int .i64 0, .int .u64 0, .int .u64 0, .string ⟨#[]⟩, .string ⟨#[]⟩, .slice none 0 0, .int .i64 5] 61)).heap.size ∧ xs.length ≤ 5000) := Lib.hid (by
          refine ⟨own_later HX.out.1.own (fun k hk => HB8.out.block k (HX.out.1.own.lt k hk).2), Nat.le_trans HX.out.2.2.size HB8.out.size, ?_⟩
          have h1 := congrArg List.length HH.out.2.1
          rw [List.length_append, List.length_map] at h1
          have := entF_len s
          have := HSZ.out
          omega)
        rw [← hw8]
        clear hx hw8
        go_wp2_with (at_builtin; refine Kq.wpList_append_any _ rfl (.tmp 12) (.tmp 14) 56 56 rfl w.heap.size 61 i0 (.agg ⟨SaV.zero.cells (.slice none 0 0) [.int .i64 0]⟩) 15 160 Try.underlying56 hi0 hz0 hz1 hz2 rfl (by decide) u3 xs.length (enE.flat xs) rfl HOW.out.1 (.slice (some ⟨w8.heap.size, 0, none⟩) 1 1) 1 (enE.flat [x]) rfl HSRC.out ?h1 ?h2 HOW.out.2.1 ?h4)
        case h1 => have := HOW.out.2.2; unfold maxLen; omega
        case h2 => have := HOW.out.2.2; omega
        case h4 =>
          intro v' z3 hown3 hgrow hfresh
          have HZ3 : Hid (EnRowK z3 w.heap.size v' (xs ++ [x]) ∧ Below w.heap.size w z3 ∧ Kq.Keeps (fun k => some k = u3.ownBlock) w8 z3) := Lib.hid (by
            have kg : Kq.Keeps (fun k => some k = u3.ownBlock) w8 z3 := (keeps_any HB8.out).trans (Kq.Keeps.grown hgrow (fun k _ hk => hk.symm))
            have hownE : z3.ownsRow w.heap.size 61 15 v' (xs ++ [x]).length (enE.flat (xs ++ [x])) := by
              rw [List.length_append, Kq.Elt.flat_append]; exact hown3
            refine ⟨EnRowK.close HX.out.1 HX.out.2.1 HB8.out hgrow hownE (fun k hk => by simpa using hfresh k hk), ((keeps_any (S := fun k => some k = u3.ownBlock) HX.out.2.2).trans kg).below (Nat.le_refl _) (fun k hk h => ?_), kg⟩
            have := own_ge HH.out.1.own h.symm
            omega)
          clear hown3 hgrow hfresh HSRC HOW HB8 HX t2 t3 t4
          go_wp2
          go_roundw
          case rel =>
            refine ⟨_, xs ++ [x], rfl, HZ3.out.1, ?_, ?_, HZ3.out.2.1⟩
            · rw [List.map_append, List.map_singleton, List.append_assoc, ← HH.out.2.1, entF_step s' (by have := HPOS.out; omega), HEN.out, HXO.out, HS1.out.1]
              rfl
            · have := HH.out.2.2.1
              rw [ByteArray.size_extract]; omega
          case measure =>
            show (s'.extract 1 s'.size).size < s'.size
            rw [ByteArray.size_extract]
            have := HPOS.out
            omega
end Go.Proofs.Ytjilbcefikbihaa
