/- carrackref23's reader: a crash's act. Condition: a text of at most 100000 bytes. -/
import Derived.Test.YtjilbcefikbihaaScRaQ
namespace Go.Proofs.Ytjilbcefikbihaa
open Go.RowKit
set_option linter.unusedVariables false
theorem AcW.far {w wr w5 : World} {R X C0 C1 : Nat} {S : ByteArray} {sv : Value} {y : SaV × Int × ByteArray} {e' : Int} {s' : ByteArray} (h : AcW w wr R S X C0 C1 sv y) (hn : AcN w R X C0 C1) (hk : Kq.Keeps (fun k => k = R ∨ wr.heap.size ≤ k) wr w5) (h2 : RfK w5 R S e' s') : AcW w w5 R S X C0 C1 sv (y.1, e', s') := by
  obtain ⟨n1, n2, n3, n4⟩ := hn
  have l1 := Kq.blk_lt h.c1
  have l0 := Kq.blk_lt h.c0
  have lx := Kq.blk_lt h.x
  have hs := h.kp.size
  exact ⟨h2, hk.blk h.c1 (fun e => by omega), hk.blk h.c0 (fun e => by omega), hk.blk h.x (fun e => by omega), h.kp.trans (hk.mono (fun k _ h => h.imp id (fun h => Nat.le_trans hs h)))⟩
theorem AcW.app {w w5 ze z3 : World} {R X C0 C1 base : Nat} {S : ByteArray} {sv v' : Value} {a : SaV} {e' : Int} {s' : ByteArray} {x : Bool × Int} (h : AcW w w5 R S X C0 C1 sv (a, e', s')) (hn : AcN w R X C0 C1) (hbase : C1 < base) (hown : w5.ownsRow base 87 2 sv a.ws.length (wcells a.ws)) (hb : Below w5.heap.size w5 ze) (hg : ze.grownBy z3 sv.ownBlock)
    (hown3 : z3.ownsRow base 87 2 v' (a.ws ++ [x]).length (wcells (a.ws ++ [x]))) :
    AcW w (z3.setCell ⟨C1, 13, none⟩ v') R S X C0 C1 v' ({ a with ws := a.ws ++ [x] }, e', s') ∧ (z3.setCell ⟨C1, 13, none⟩ v').ownsRow base 87 2 v' (a.ws ++ [x]).length (wcells (a.ws ++ [x])) := by
  obtain ⟨n1, n2, n3, n4⟩ := hn
  have hso : ∀ k, sv.ownBlock = some k → base ≤ k := fun k hk => own_ge hown hk
  have hvo : ∀ k, v'.ownBlock = some k → base ≤ k := fun k hk => own_ge hown3 hk
  have k3 : Kq.Keeps (fun k => base ≤ k) w5 z3 := (keeps_any hb).trans (Kq.Keeps.grown hg (fun k _ hk => hso k hk))
  have ks : Kq.Keeps (· = C1) z3 (z3.setCell ⟨C1, 13, none⟩ v') := Kq.Keeps.setCell _ _ _ rfl
  have hc := k3.blk h.c1 (by omega)
  refine ⟨⟨(h.rd.later k3 (by omega)).later ks (by omega), ?_, ks.blk (k3.blk h.c0 (by omega)) (by omega), ks.blk (k3.blk h.x (by omega)) (by omega), ?_⟩, own_later hown3 (fun k hk => ks.block k (hown3.lt k hk).2 (fun e => by have := hvo k hk; omega))⟩
  · rw [Kq.blk_set hc 13 v']
    congr 2
  · exact (h.kp.trans (k3.mono (fun k _ h => Or.inr (by omega)))).trans (ks.mono (fun k _ h => Or.inr (by omega)))
set_option maxRecDepth 100000 in
set_option maxHeartbeats 4000000 in
theorem ra_8 (R : Nat) (S : ByteArray) (e : Int) (s : ByteArray) (w : World) (h : RfK w R S e s) :
    Calls Try.prog 40 #[.agg #[.pointer (some ⟨R, 0, none⟩)], .int .i64 8] w (ActPost w R S ((fmOf 8).get (zeroK 8) e s)) := by
  obtain ⟨i0, hi0, hz0, hz1, hz2⟩ := info_partsW infoWt
  obtain ⟨X, hX⟩ : ∃ z, z = w.heap.size := ⟨_, rfl⟩
  obtain ⟨C0, hC0⟩ : ∃ z, z = w.heap.size + 1 := ⟨_, rfl⟩
  obtain ⟨C1, hC1⟩ : ∃ z, z = w.heap.size + 2 := ⟨_, rfl⟩
  obtain ⟨w1, hw1⟩ : ∃ z, z = ((w.alloc (.cells #[.pointer (some ⟨R, 0, none⟩)] 106)).alloc (.cells #[.int .i64 0, .int .i64 0, .int .u64 0, .string ⟨#[]⟩, .int .i64 0, .int .i64 0, .int .i64 0, .int .u64 0, .int .i64 0, .int .u64 0, .int .u64 0, .string ⟨#[]⟩, .string ⟨#[]⟩, .slice none 0 0] 29)).alloc (.cells #[.int .i64 8, .int .i64 0, .int .u64 0, .string ⟨#[]⟩, .int .i64 0, .int .i64 0, .int .i64 0, .int .u64 0, .int .i64 0, .int .u64 0, .int .u64 0, .string ⟨#[]⟩, .string ⟨#[]⟩, .slice none 0 0] 29) := ⟨_, rfl⟩
  have HS := Lib.hid (AcW.start (n := 8) h hX hC0 hC1 hw1)
  have H1 := Lib.hid HS.out.1
  have HN := Lib.hid HS.out.2
  clear h HS
  obtain ⟨n, hn1, hn2⟩ := byte_get e s
  obtain ⟨e1, he1⟩ : ∃ z, z = (byteF e s).2.1 := ⟨_, rfl⟩
  obtain ⟨s1, hs1⟩ : ∃ z, z = (byteF e s).2.2 := ⟨_, rfl⟩
  have HF : Hid ((fmOf 8).get (zeroK 8) e s = ({ zeroK 8 with ws := (getW n e1 s1).1 }, (getW n e1 s1).2)) := Lib.hid (by
    show (({ zeroK 8 with ws := (zeroK 8).ws ++ (getW (byteF e s).1.toNat (byteF e s).2.1 (byteF e s).2.2).1 } : SaV), _) = _
    rw [hn1, ← he1, ← hs1]
    rfl)
  rw [HF.out]
  have HO : Hid (∀ wx, RfK wx R S e s → Calls Try.prog 55 #[.agg #[.pointer (some ⟨R, 0, none⟩)]] wx fun x w' => x = .returned (.int .i64 (n : Int)) ∧ RfK w' R S e1 s1 ∧ Kq.Keeps (· = R) wx w') := Lib.hid (fun wx hx => (rk_one R S e s wx hx).mono fun x w' h => ⟨by rw [← hn1]; exact h.1, by rw [he1, hs1]; exact h.2.1, h.2.2⟩)
  clear hn1 he1 hs1
  have x0 : w1.cell? ⟨X, 0, none⟩ = some (.pointer (some ⟨R, 0, none⟩)) := Kq.blk_cell H1.out.x 0
  rw [hw1, hX] at x0
  go_enter Try.func40, Try.ntmps40
  go_wp2_with fail
  rw [← hw1]
  have hq1 : w.heap.size + 1 = C0 := hC0.symm
  have hq2 : w.heap.size + 1 + 1 = C1 := by omega
  try rw [hq2]
  try rw [hq1]
  try rw [← hX]
  clear hw1 hX hC0 hC1 x0 hq1 hq2
  refine (HO.out w1 H1.out.rd).mono ?_
  rintro x w2 ⟨rfl, r2, k2⟩
  have H2 : Hid (AcW w w2 R S X C0 C1 (.slice none 0 0) ({ zeroK 8 with ws := (getW 0 e1 s1).1 }, (getW 0 e1 s1).2)) := Lib.hid (AcW.far H1.out HN.out (k2.mono (fun k _ h => Or.inl h)) r2)
  have HB0 : Hid (C1 < w1.heap.size ∧ R < w1.heap.size ∧ w1.heap.size ≤ w2.heap.size) := Lib.hid ⟨Kq.blk_lt H1.out.c1, H1.out.rd.lt, k2.size⟩
  clear r2 k2 HO
  go_wp2
  go_loopw [7] (fun u wr => ∃ j : Nat, j ≤ n ∧ u = .int .i64 (j : Int) ∧ ∃ sv, AcW w wr R S X C0 C1 sv ({ zeroK 8 with ws := (getW j e1 s1).1 }, (getW j e1 s1).2) ∧ wr.ownsRow w1.heap.size 87 2 sv (getW j e1 s1).1.length (wcells (getW j e1 s1).1) ∧ w1.heap.size ≤ wr.heap.size) (fun u _ => n - (intOf u).toNat)
  case atStart => exact ⟨0, Nat.zero_le _, rfl, _, H2.out, ⟨rfl, Or.inl ⟨rfl, rfl⟩⟩, HB0.out.2.2⟩
  case round =>
    obtain ⟨j, hj, rfl, sv, hac, hown, hsz⟩ := hrel
    have hj6 : j ≤ 256 := by omega
    by_cases hlt : j < n
    · obtain ⟨a, ha⟩ : ∃ z : SaV, z = { zeroK 8 with ws := (getW j e1 s1).1 } := ⟨_, rfl⟩
      obtain ⟨e2, he2⟩ : ∃ z, z = (getW j e1 s1).2.1 := ⟨_, rfl⟩
      obtain ⟨s2, hs2⟩ : ∃ z, z = (getW j e1 s1).2.2 := ⟨_, rfl⟩
      have hac' : AcW w wr R S X C0 C1 sv (a, e2, s2) := by rw [ha, he2, hs2]; exact hac
      have hown' : wr.ownsRow w1.heap.size 87 2 sv a.ws.length (wcells a.ws) := by rw [ha]; exact hown
      have hal : a.ws.length ≤ 300 := by
        rw [ha]
        show (getW j e1 s1).1.length ≤ 300
        rw [getW_len]; omega
      obtain ⟨q, hq1, hq2⟩ := byte_get e2 s2
      obtain ⟨e3, he3⟩ : ∃ z, z = (byteF e2 s2).2.1 := ⟨_, rfl⟩
      obtain ⟨s3, hs3⟩ : ∃ z, z = (byteF e2 s2).2.2 := ⟨_, rfl⟩
      obtain ⟨qt, hqt⟩ : ∃ z, z = (pairF e3 s3).1 := ⟨_, rfl⟩
      obtain ⟨e4, he4⟩ : ∃ z, z = (pairF e3 s3).2.1 := ⟨_, rfl⟩
      obtain ⟨s4, hs4⟩ : ∃ z, z = (pairF e3 s3).2.2 := ⟨_, rfl⟩
      obtain ⟨qb, hqb⟩ : ∃ z : Bool, z = ((q : Int) != 0) := ⟨_, rfl⟩
      have HNX : Hid (({ zeroK 8 with ws := (getW (j + 1) e1 s1).1 }, (getW (j + 1) e1 s1).2) = (({ a with ws := a.ws ++ [(qb, qt)] } : SaV), e4, s4) ∧ (getW (j + 1) e1 s1).1 = a.ws ++ [(qb, qt)]) := Lib.hid (by
        have hd : decide (((q : Nat) : Int) ≠ 0) = qb := by rw [hqb]; by_cases h : q = 0 <;> simp [h]
        have hg : getW (j + 1) e1 s1 = (a.ws ++ [(qb, qt)], e4, s4) := by
          rw [getW_snoc, ← he2, ← hs2, ← he3, ← hs3, hq1, ha, hd, hqt, he4, hs4]
        rw [hg]
        exact ⟨by rw [ha], rfl⟩)
      have HO1 : Hid (∀ wx, RfK wx R S e2 s2 → Calls Try.prog 55 #[.agg #[.pointer (some ⟨R, 0, none⟩)]] wx fun x w' => x = .returned (.int .i64 (q : Int)) ∧ RfK w' R S e3 s3 ∧ Kq.Keeps (· = R) wx w') := Lib.hid (fun wx hx => (rk_one R S e2 s2 wx hx).mono fun x w' h => ⟨by rw [← hq1]; exact h.1, by rw [he3, hs3]; exact h.2.1, h.2.2⟩)
      have HO2 : Hid (∀ wx, RfK wx R S e3 s3 → Calls Try.prog 58 #[.agg #[.pointer (some ⟨R, 0, none⟩)]] wx fun x w' => x = .returned (.int .i64 qt) ∧ RfK w' R S e4 s4 ∧ Kq.Keeps (· = R) wx w') := Lib.hid (fun wx hx => (rk_two R S e3 s3 wx hx).mono fun x w' h => ⟨by rw [hqt]; exact h.1, by rw [he4, hs4]; exact h.2.1, h.2.2⟩)
      obtain ⟨A0, q0, cap, rfl⟩ := Kq.own_shape hown'
      have HM := Lib.hid (And.intro hac' (And.intro hown' (And.intro hsz hal)))
      have HLT := Lib.hid hlt
      have x0 : wr.cell? ⟨X, 0, none⟩ = some (.pointer (some ⟨R, 0, none⟩)) := Kq.blk_cell hac'.x 0
      have HQB := Lib.hid hqb
      have t1 : decide ((j : Int) < (n : Int)) = true := decide_eq_true (by omega)
      have t2 : decide (j < n) = true := decide_eq_true hlt
      clear hac hown hac' hown' hsz hal ha he2 hs2 hq1 he3 hs3 hqt he4 hs4 hlt hj hqb
      go_wp2_with fail
      refine (HO1.out wr HM.out.1.rd).mono ?_
      rintro x w3 ⟨rfl, r3, k3⟩
      have HQ2 : Hid (((q : Int) != 0) = qb) := Lib.hid HQB.out.symm
      obtain ⟨L, hL⟩ : ∃ z, z = w3.heap.size := ⟨_, rfl⟩
      obtain ⟨w4, hw4⟩ : ∃ z, z = w3.alloc (.cells #[.bool ((q : Int) != 0), .int .i64 0] 87) := ⟨_, rfl⟩
      have H4 : Hid (RfK w4 R S e3 s3 ∧ Kq.Keeps (fun k => k = R ∨ wr.heap.size ≤ k) wr w4 ∧ w4.heap[L]? = some (.cells #[.bool ((q : Int) != 0), .int .i64 0] 87 (0, 0)) ∧ wr.heap.size ≤ L ∧ L ≠ R) := Lib.hid (by
        have hb : Below w3.heap.size w3 w4 := by rw [hw4]; exact Kq.below_alloc _ _
        exact ⟨r3.later (P := fun _ => False) (keeps_any hb) id, (k3.mono (fun k _ h => Or.inl h)).trans (keeps_any hb), by rw [hw4, hL]; exact Kq.blk_new _ _ _ _, by rw [hL]; exact k3.size, by have := r3.lt; omega⟩)
      have x1 : w4.cell? ⟨X, 0, none⟩ = some (.pointer (some ⟨R, 0, none⟩)) := Kq.blk_cell (H4.out.2.1.blk HM.out.1.x (by have := HN.out; unfold AcN at this; have := Kq.blk_lt HM.out.1.x; omega)) 0
      rw [hw4] at x1
      clear r3 k3 x0
      go_wp2_with fail
      rw [← hw4]
      try rw [← hL]
      clear hw4 hL x1
      refine (HO2.out w4 H4.out.1).mono ?_
      rintro x w4b ⟨rfl, r4, k4⟩
      obtain ⟨w5, hw5⟩ : ∃ z, z = w4b.setCell ⟨L, 1, none⟩ (.int .i64 qt) := ⟨_, rfl⟩
      have H5 : Hid (AcW w w5 R S X C0 C1 (.slice A0 q0 cap) (a, e4, s4) ∧ w5.ownsRow w1.heap.size 87 2 (.slice A0 q0 cap) a.ws.length (wcells a.ws) ∧ w5.heap[L]? = some (.cells #[.bool ((q : Int) != 0), .int .i64 qt] 87 (0, 0)) ∧ w1.heap.size ≤ w5.heap.size) := Lib.hid (by
        have ks : Kq.Keeps (· = L) w4b w5 := by rw [hw5]; exact Kq.Keeps.setCell _ _ _ rfl
        have kk : Kq.Keeps (fun k => k = R ∨ wr.heap.size ≤ k) wr w5 := (H4.out.2.1.trans (k4.mono (fun k _ h => Or.inl h))).trans (ks.mono (fun k _ h => Or.inr (by have := H4.out.2.2.2.1; omega)))
        have hlb := k4.blk H4.out.2.2.1 H4.out.2.2.2.2
        refine ⟨AcW.far HM.out.1 HN.out kk (r4.later ks (fun h => H4.out.2.2.2.2 h.symm)), own_later HM.out.2.1 (fun k hk => kk.block k (HM.out.2.1.lt k hk).2 (fun h => by have := (HM.out.2.1.lt k hk).2; have := own_ge HM.out.2.1 hk; have := HB0.out.2.1; omega)), by rw [hw5]; exact Kq.blk_set hlb 1 _, Nat.le_trans HM.out.2.2.1 kk.size⟩)
      have hlb := k4.blk H4.out.2.2.1 H4.out.2.2.2.2
      have o0 : w4b.cell? ⟨L, 1, none⟩ = some (.int .i64 0) := Kq.blk_cell hlb 1
      have f0 : w4b.frozen? ⟨L, 1, none⟩ = false := Kq.blk_free hlb 1
      have l0 : w5.cell? ⟨L, 0, none⟩ = some (.bool ((q : Int) != 0)) := Kq.blk_cell H5.out.2.2.1 0
      have l1 : w5.cell? ⟨L, 1, none⟩ = some (.int .i64 qt) := Kq.blk_cell H5.out.2.2.1 1
      have c13 : w5.cell? ⟨C1, 13, none⟩ = some (.slice A0 q0 cap) := Kq.blk_cell H5.out.1.c1 13
      rw [hw5] at l0 l1 c13
      clear r4 k4 hlb
      have HRES : Hid (∀ v' z3, (w5.alloc (.cells #[.bool ((q : Int) != 0), .int .i64 qt] 87)).grownBy z3 (Value.slice A0 q0 cap).ownBlock → z3.ownsRow w1.heap.size 87 2 v' (a.ws.length + 1) (wcells a.ws ++ wtE.flat [(qb, qt)]) → AcW w (z3.setCell ⟨C1, 13, none⟩ v') R S X C0 C1 v' ({ a with ws := a.ws ++ [(qb, qt)] }, e4, s4) ∧ (z3.setCell ⟨C1, 13, none⟩ v').ownsRow w1.heap.size 87 2 v' (a.ws ++ [(qb, qt)]).length (wcells (a.ws ++ [(qb, qt)])) ∧ w1.heap.size ≤ (z3.setCell ⟨C1, 13, none⟩ v').heap.size ∧ z3.heap[C1]? = some (.cells ⟨a.cells (.slice A0 q0 cap) []⟩ 29 (0, 0))) := Lib.hid (fun v' z3 hg h3 => by
        have hb := Kq.below_alloc w5 (.cells #[.bool ((q : Int) != 0), .int .i64 qt] 87)
        have h3' : z3.ownsRow w1.heap.size 87 2 v' (a.ws ++ [(qb, qt)]).length (wcells (a.ws ++ [(qb, qt)])) := by
          rw [List.length_append, wcells_snoc]; exact h3
        have hr := AcW.app H5.out.1 HN.out HB0.out.1 H5.out.2.1 hb hg h3'
        refine ⟨hr.1, hr.2, ?_, ?_⟩
        · have := hg.size
          have := hb.size
          have := H5.out.2.2.2
          simp only [World.setCell, Array.size_modify]
          omega
        · exact (Kq.Keeps.grown (S := fun k => w1.heap.size ≤ k) hg (fun k _ hk => own_ge H5.out.2.1 hk)).blk (Kq.below_blk hb H5.out.1.c1 (Kq.blk_lt H5.out.1.c1)) (by have := HB0.out.1; omega))
      have HSRC : Hid (Src Try.prog 2 27 (.slice (some ⟨w4b.heap.size, 0, none⟩) 1 1) 1 (wtE.flat [(qb, qt)]) (w5.alloc (.cells #[.bool ((q : Int) != 0), .int .i64 qt] 87))) := Lib.hid (by
        have h := Kq.Elt.At.src Try.underlying27 (E := wtE) 1 (Kq.Elt.made_one (E := wtE) (qb, qt) w5 87)
        have e : (wtE.cells (qb, qt)).toArray = #[.bool ((q : Int) != 0), .int .i64 qt] := by rw [HQ2.out]; rfl
        have hz : w5.heap.size = w4b.heap.size := by rw [hw5]; simp [World.setCell]
        rw [e, hz] at h
        exact h)
      have HOW : Hid ((w5.alloc (.cells #[.bool ((q : Int) != 0), .int .i64 qt] 87)).ownsRow w1.heap.size 87 2 (.slice A0 q0 cap) a.ws.length (wcells a.ws) ∧ w1.heap.size ≤ (w5.alloc (.cells #[.bool ((q : Int) != 0), .int .i64 qt] 87)).heap.size) := Lib.hid (by
        have hb := Kq.below_alloc w5 (.cells #[.bool ((q : Int) != 0), .int .i64 qt] 87)
        exact ⟨own_later H5.out.2.1 (fun k hk => hb.block k (H5.out.2.1.lt k hk).2), Nat.le_trans H5.out.2.2.2 hb.size⟩)
      rw [hw5] at HRES HSRC HOW
      go_wp2_with (at_builtin; refine Kq.wpList_append_any _ rfl (.tmp 91) (.tmp 93) 27 27 rfl w1.heap.size 87 i0 (.agg #[.bool false, .int .i64 0]) 2 16 Try.underlying27 hi0 hz0 hz1 hz2 rfl (by decide) (.slice A0 q0 cap) a.ws.length (wcells a.ws) rfl HOW.out.1 (.slice (some ⟨_, 0, none⟩) 1 1) 1 (wtE.flat [(qb, qt)]) rfl HSRC.out ?h1 ?h2 HOW.out.2 ?h4)
      case h1 => have := HM.out.2.2.2; unfold maxLen; omega
      case h2 => have := HM.out.2.2.2; omega
      case h4 =>
        intro v' z3 hown3 hgrow hfresh
        obtain ⟨g1, g2, g3, g4⟩ := HRES.out v' z3 hgrow hown3
        have HG := Lib.hid (And.intro g1 (And.intro g2 g3))
        obtain ⟨a', q', cp', hv'⟩ := Kq.own_shape hown3
        subst hv'
        have c6 : z3.cell? ⟨C1, 13, none⟩ = some (.slice A0 q0 cap) := Kq.blk_cell g4 13
        have f6 : z3.frozen? ⟨C1, 13, none⟩ = false := Kq.blk_free g4 13
        clear g1 g2 g3 g4 hown3 hgrow hfresh HRES HSRC HOW hw5 o0 f0 l0 l1 c13
        go_wp2
        go_roundw
        case rel =>
          refine ⟨j + 1, HLT.out, by go_num, .slice a' q' cp', ?_, ?_, HG.out.2.2⟩
          · rw [HNX.out.1]; exact HG.out.1
          · rw [HNX.out.2]; exact HG.out.2.1
        case measure => have := HLT.out; simp [intOf]; omega
    · obtain rfl : j = n := by omega
      have t1 : decide ((j : Int) < (j : Int)) = false := decide_eq_false (by omega)
      have t2 : decide (j < j) = false := decide_eq_false hlt
      obtain ⟨yl, hyl⟩ : ∃ z : SaV × Int × ByteArray, z = ({ zeroK 8 with ws := (getW j e1 s1).1 }, (getW j e1 s1).2) := ⟨_, rfl⟩
      obtain ⟨A0, q0, cap, rfl⟩ := Kq.own_shape hown
      have hq0 : q0 = yl.1.ws.length := by
        rw [hyl]
        rcases hown.2 with ⟨h, h0⟩ | ⟨g, cp, cur, h, _⟩
        · injection h with _ h2 _
          rw [h2]; exact h0.symm
        · injection h with _ h2 _
      subst hq0
      have HL : Hid (AcW w wr R S X C0 C1 (.slice A0 yl.1.ws.length cap) yl) := Lib.hid (by rw [hyl] at hac ⊢; exact hac)
      have HOWN : Hid (wr.ownsRow w1.heap.size 87 2 (.slice A0 yl.1.ws.length cap) yl.1.ws.length (wcells yl.1.ws) ∧ w1.heap.size ≤ wr.heap.size) := Lib.hid ⟨by rw [hyl] at hown ⊢; exact hown, hsz⟩
      have HYE := Lib.hid hyl
      clear hac hown hsz hlt hj hyl
      obtain ⟨w9, hw9⟩ : ∃ z, z = wr.setRow C0 ⟨yl.1.cells (.slice A0 yl.1.ws.length cap) []⟩ := ⟨_, rfl⟩
      have HWS : Hid (WsAt wr (.slice A0 yl.1.ws.length cap) yl.1.ws) := Lib.hid (by
        obtain ⟨A', cp, hv', _, hat, _⟩ := Kq.Elt.own_at (E := wtE) HOWN.out.1
        refine ⟨A0, cap, rfl, fun i hi => ?_⟩
        injection hv' with h1 _ _
        subst h1
        obtain ⟨b, o, h1, h2, h3⟩ := hat i hi
        exact ⟨b, o, h1, h2, h3 0 (by decide), h3 1 (by decide)⟩)
      have HD := Lib.hid (AcW.done HL.out HN.out hw9 HWS.out (fun b hb => by
        have hb2 := own_sB hb
        have h1 := own_ge HOWN.out.1 hb2
        have h2 := (HOWN.out.1.lt b hb2).2
        have h3 := HN.out
        unfold AcN at h3
        have h4 := HB0.out.1
        exact ⟨by omega, h2, by omega⟩))
      have HB1 := Lib.hid HL.out.c1
      have HBB := Lib.hid HL.out.c0
      go_wp2_with (first | (refine wpList_load_row (by rfl) 29 (.tmp 5) (by rfl) C1 (by rfl) 29 ⟨yl.1.cells (.slice A0 yl.1.ws.length cap) []⟩ (0, 0) _ HB1.out Try.underlying29 rfl infoA ?_) | (refine wpList_store_row (by rfl) 29 (.tmp 4) (.tmp 96) (by rfl) C0 ⟨yl.1.cells (.slice A0 yl.1.ws.length cap) []⟩ (by rfl) (by rfl) 29 _ HBB.out infoA (by rfl) (act_one _ _ _ _) ?_))
      rw [← hw9]
      refine bodyPost_ret (v := .agg ⟨yl.1.cells (.slice A0 yl.1.ws.length cap) []⟩) (results_cell_row (by rfl) _ _ C0 29 ⟨yl.1.cells (.slice A0 yl.1.ws.length cap) []⟩ (0, 0) _ (by rfl) HD.out.1 Try.underlying29 rfl infoA) rfl ?_
      rw [← HYE.out]
      exact HD.out.2
end Go.Proofs.Ytjilbcefikbihaa
