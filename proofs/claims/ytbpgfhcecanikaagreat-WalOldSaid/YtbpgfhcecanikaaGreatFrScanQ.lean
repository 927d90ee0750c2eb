/- Merged: FrAt, FrScan. Contract of frame.at. Condition: sizes. Contract of frame.Scan. Condition: sizes. -/
import Derived.WalkSpells
import Derived.Test.YtbpgfhcecanikaaGreatFrReadQ
import Derived.Test.YtbpgfhcecanikaaGreatStrsOpenQ
import Derived.Deep.LoopGhost
import Derived.WalkMore
namespace Go.Proofs.YtbpgfhcecanikaaGreat
open Go.RowKit
set_option linter.unusedVariables false
set_option linter.unusedSimpArgs false
def atVal (o : Option FrP) : Value := .tuple #[(partOf o).val, .bool o.isSome]
theorem read_isSome (a : Int) (s : ByteArray) : ((frRead a s).2 == 0) = (frRead a s).1.isSome := by
  cases h : (frRead a s).1 with
  | none => have := frRead_none h; simpa using this
  | some p => rw [(frRead_some h).2.2.2]; rfl
theorem blk_and {w w1 : World} {R : Nat} {oR : Obj} (hbk : w1.heap[R]? = some oR) (hb : Below w.heap.size w w1) (cs : Array Value) (t : TypeId) :
    (w1.alloc (.cells cs t)).heap[R]? = some oR ∧ (w1.alloc (.cells cs t)).heap[w1.heap.size]? = some (.cells cs t (0, 0)) ∧ Below w.heap.size w (w1.alloc (.cells cs t)) :=
  ⟨Kq.below_blk (Kq.below_alloc w1 _) hbk (Kq.blk_lt hbk), Kq.blk_new _ _ _ _, hb.trans ((Kq.below_alloc w1 _).mono hb.size)⟩
set_option maxRecDepth 100000 in
set_option maxHeartbeats 2000000 in
theorem fr_at (a k : Nat) (s : ByteArray) (w : World) (ha : 64 ≤ a) (h5 : a ≤ 512) (hs : s.size ≤ 1000000) (hk : k ≤ 1000000) :
    Calls Tryz.prog 64 #[.int .i64 (a : Int), .string s, .int .i64 (k : Int)] w fun e w' => e = .returned (atVal (partAt a s k)) ∧ Below w.heap.size w w' := by
  have hm : (k : Int) * (a : Int) = ((k * a : Nat) : Int) := by rw [Int.natCast_mul]
  have hml : k * a ≤ 1000000 * 512 := Nat.mul_le_mul hk h5
  have HP : Hid (partAt a s k = if k * a + a ≤ s.size then (frRead a (s.extract (k * a) (k * a + a))).1 else none) := Lib.hid rfl
  have hfe : ((k * a : Nat) : Int) + (a : Int) = ((k * a + a : Nat) : Int) := by omega
  have hfe2 : k * a + a ≤ 600000000 := by omega
  have hle : k * a ≤ k * a + a := by omega
  have H0 := Lib.hid (Kq.below_alloc w (.cells #[.int .u64 0, .int .u64 0, .int .i64 0, .int .i64 0, .string ⟨#[]⟩] 118))
  have HX := Lib.hid (Kq.blk_new w #[.int .u64 0, .int .u64 0, .int .i64 0, .int .i64 0, .string ⟨#[]⟩] 118 (0, 0))
  generalize k * a + a = e at *
  generalize k * a = f at *
  have hfl : (f : Int) ≤ (e : Int) := by omega
  by_cases h : e ≤ s.size
  · have d0 : decide ((s.size : Int) < (e : Int)) = false := decide_eq_false (by omega)
    have d1 : decide (s.size < e) = false := decide_eq_false (by omega)
    have hel : (e : Int) ≤ (s.size : Int) := by omega
    have HP : Hid (partAt a s k = (frRead a (s.extract f e)).1) := Lib.hid (by rw [HP.out, if_pos h])
    clear h
    go_enter Tryz.func64, Tryz.ntmps64
    go_wp2_with fail
    refine (fr_read (a : Int) (s.extract f e) _).mono ?_
    rintro x w1 ⟨rfl, b1⟩
    obtain ⟨r, hr⟩ : ∃ r, r = frRead (a : Int) (s.extract f e) := ⟨_, rfl⟩
    have HSO := Lib.hid (read_isSome (a : Int) (s.extract f e))
    rw [← hr] at HP HSO ⊢
    clear hr
    obtain ⟨o, er⟩ := r
    simp only at HP HSO
    simp only [readVal]
    have hbk := Kq.below_blk b1 HX.out (Kq.blk_lt HX.out)
    have HA := Lib.hid (blk_and hbk (H0.out.trans (b1.mono H0.out.size)) #[.int .u64 ((partOf o).g : Int), .int .u64 ((partOf o).x : Int), .int .i64 ((partOf o).i : Int), .int .i64 ((partOf o).n : Int), .string (partOf o).d] 118)
    clear b1 hbk HX
    have HPO : Hid (partAt a s k = o) := HP
    generalize hp : partOf o = p at *
    have HPP := Lib.hid hp
    clear hp
    obtain ⟨pg, px, pi, pn, pd⟩ := p
    simp only [FrP.val]
    dsimp only at HA
    have r0 := Kq.blk_cell HA.out.1 0
    have r1 := Kq.blk_cell HA.out.1 1
    have r2 := Kq.blk_cell HA.out.1 2
    have r3 := Kq.blk_cell HA.out.1 3
    have r4 := Kq.blk_cell HA.out.1 4
    have q0 := Kq.blk_free HA.out.1 0
    have q1 := Kq.blk_free HA.out.1 1
    have q2 := Kq.blk_free HA.out.1 2
    have q3 := Kq.blk_free HA.out.1 3
    have q4 := Kq.blk_free HA.out.1 4
    have c0 := Kq.blk_cell HA.out.2.1 0
    have c1 := Kq.blk_cell HA.out.2.1 1
    have c2 := Kq.blk_cell HA.out.2.1 2
    have c3 := Kq.blk_cell HA.out.2.1 3
    have c4 := Kq.blk_cell HA.out.2.1 4
    go_wp2
    clear r0 r1 r2 r3 r4 q0 q1 q2 q3 q4 c0 c1 c2 c3 c4
    change bodyPost _ _ _ _ _ (fill5 (w1.alloc (.cells #[.int .u64 (pg : Int), .int .u64 (px : Int), .int .i64 (pi : Int), .int .i64 (pn : Int), .string pd] 118)) w.heap.size (pg : Int) (px : Int) (pi : Int) (pn : Int) pd)
    have p1 := fill5_blk HA.out.1 (pg : Int) (px : Int) (pi : Int) (pn : Int) pd
    have p2 := fill5_keeps (w1.alloc (.cells #[.int .u64 (pg : Int), .int .u64 (px : Int), .int .i64 (pi : Int), .int .i64 (pn : Int), .string pd] 118)) w.heap.size (pg : Int) (px : Int) (pi : Int) (pn : Int) pd
    generalize fill5 (w1.alloc (.cells #[.int .u64 (pg : Int), .int .u64 (px : Int), .int .i64 (pi : Int), .int .i64 (pn : Int), .string pd] 118)) w.heap.size (pg : Int) (px : Int) (pi : Int) (pn : Int) pd = z at *
    have z0 := Kq.blk_cell p1 0
    have z1 := Kq.blk_cell p1 1
    have z2 := Kq.blk_cell p1 2
    have z3 := Kq.blk_cell p1 3
    have z4 := Kq.blk_cell p1 4
    refine bodyPost_ret (v := .tuple #[FrP.val ⟨pg, px, pi, pn, pd⟩, .bool (er == 0)]) (by simp [results, Tryz.results64, go_sem, z0, z1, z2, z3, z4, FrP.val]) rfl ?_
    exact ⟨by rw [HPO.out, atVal, HSO.out, HPP.out], HA.out.2.2.trans (p2.below HA.out.2.2.size (fun k _ e => by subst e; exact Nat.le_refl _))⟩
  · have d0 : decide ((s.size : Int) < (e : Int)) = true := decide_eq_true (by omega)
    have d1 : decide (s.size < e) = true := decide_eq_true (by omega)
    have HP : Hid (partAt a s k = none) := Lib.hid (by rw [HP.out, if_neg h])
    clear h
    go_enter Tryz.func64, Tryz.ntmps64
    go_wp2
    refine bodyPost_ret (v := atVal none) (by simp [results, Tryz.results64, go_sem, atVal, partOf, FrP.zero, FrP.val]) rfl ?_
    exact ⟨by rw [HP.out], H0.out⟩
end Go.Proofs.YtbpgfhcecanikaaGreat
namespace Go.Proofs.YtbpgfhcecanikaaGreat
open Go.RowKit
set_option linter.unusedVariables false
set_option linter.unusedSimpArgs false
/-- while parts are scanned: the next part's block, the record's row -/
structure SB (NX : Nat) (w0 : World) (p : FrP) (r : Value) (m : List Nat) (wr : World) : Prop where
  blk : wr.heap[NX]? = some (.cells #[.int .u64 (p.g : Int), .int .u64 (p.x : Int), .int .i64 (p.i : Int), .int .i64 (p.n : Int), .string p.d] 118 (0, 0))
  row : wr.ownsRow (NX + 1) 5 1 r m.length (bcells m)
  sz : NX < wr.heap.size
  bel : Below NX w0 wr
theorem SB.below {NX : Nat} {w0 wr w' : World} {p : FrP} {r : Value} {m : List Nat} (h : SB NX w0 p r m wr) (hb : Below wr.heap.size wr w') : SB NX w0 p r m w' :=
  ⟨Kq.below_blk hb h.blk (Kq.blk_lt h.blk), fr_row_below h.row hb, Nat.lt_of_lt_of_le h.sz hb.size, h.bel.trans (hb.mono (Nat.le_of_lt h.sz))⟩
theorem SB.set {NX : Nat} {w0 wr : World} {p p' : FrP} {r : Value} {m : List Nat} (h : SB NX w0 p r m wr) (k : Nat) (v : Value) (hp : (wr.setCell ⟨NX, k, none⟩ v).heap[NX]? = some (.cells #[.int .u64 (p'.g : Int), .int .u64 (p'.x : Int), .int .i64 (p'.i : Int), .int .i64 (p'.n : Int), .string p'.d] 118 (0, 0))) : SB NX w0 p' r m (wr.setCell ⟨NX, k, none⟩ v) :=
  have hk : Kq.Keeps (· = NX) wr (wr.setCell ⟨NX, k, none⟩ v) := Kq.Keeps.setCell _ _ _ rfl
  ⟨hp, own_later h.row (fun j hj => hk.block j (own_lt' h.row hj).2 (fun e => by have := (own_lt' h.row hj).1; omega)), Nat.lt_of_lt_of_le h.sz hk.size, h.bel.trans (hk.below (Nat.le_of_lt h.sz) (fun k _ e => Nat.le_of_eq e.symm))⟩
theorem SB.grow {NX : Nat} {w0 wr w' : World} {p : FrP} {r r' : Value} {m m' : List Nat} (h : SB NX w0 p r m wr) (ho : w'.ownsRow (NX + 1) 5 1 r' m'.length (bcells m')) (hg : wr.grownBy w' r.ownBlock) : SB NX w0 p r' m' w' :=
  have hk := Kq.Keeps.grown (S := fun j => NX + 1 ≤ j) hg (fun j _ hj => own_ge h.row hj)
  ⟨hk.blk h.blk (by omega), ho, Nat.lt_of_lt_of_le h.sz hk.size, h.bel.trans (hk.below (Nat.le_of_lt h.sz) (fun k _ e => Nat.le_of_lt e))⟩
structure PI (a g x : Nat) (s : ByteArray) (u i n : Nat) : Prop where
  le : i ≤ n
  num : n = (if i = 0 then 1 else numAt a s u)
  ok : ∀ j, j < i → okPart a g x s u (numAt a s u) j
  max : n ≤ 106
  len : (joinD a s u i).length ≤ i * 512
theorem PI.start (a g x : Nat) (s : ByteArray) (u : Nat) : PI a g x s u 0 1 := ⟨by omega, rfl, fun j hj => absurd hj (Nat.not_lt_zero _), by omega, by simp [joinD]⟩
/-- all parts have come -/
theorem PI.whole {a g x : Nat} {s : ByteArray} {u n : Nat} (h : PI a g x s u n n) : recOk a g x s u ∧ n = numAt a s u := by
  have h0 : n ≠ 0 := fun e => by have := h.num; rw [if_pos e] at this; omega
  have hn := h.num
  rw [if_neg h0] at hn
  refine ⟨⟨by omega, fun i hi => h.ok i (by omega)⟩, hn⟩
theorem PI.next {a g x : Nat} {s : ByteArray} {u i n n' : Nat} {d : ByteArray} (ha : 64 ≤ a) (h : PI a g x s u i n) (hn : n' = if i = 0 then (partOf (partAt a s (u + i))).n else n) (hi : i < n) (hp : partAt a s (u + i) = some ⟨g, x, i, n', d⟩) : PI a g x s u (i + 1) n' ∧ joinD a s u (i + 1) = joinD a s u i ++ nl d ∧ d.size ≤ 512 ∧ i + 1 ≤ n' := by
  have hm : mayP a ⟨g, x, i, n', d⟩ ∧ a ≤ 512 := by
    have h1 := partAt_in hp
    unfold partAt at hp
    rw [if_pos h1] at hp
    have h2 := frRead_some hp
    exact ⟨h2.2.1, by have := h2.1; unfold FrSz at this; omega⟩
  have h106 := mayP_n a _ ha hm.1
  have hd : datAt a s (u + i) = d := by unfold datAt; rw [hp]
  have hnum : n' = numAt a s u := by
    by_cases h0 : i = 0
    · subst h0
      unfold numAt
      rw [Nat.add_zero] at hp
      rw [hp]
    · rw [if_neg h0] at hn
      rw [hn, h.num, if_neg h0]
  have hj : joinD a s u (i + 1) = joinD a s u i ++ nl d := by rw [joinD, hd]
  have hds : d.size ≤ 487 := by have := hm.1.2.1; simp only at this; omega
  have hin : i < n' := h106.1
  refine ⟨⟨hin, by rw [if_neg (by omega)]; exact hnum, fun j hj => ?_, h106.2, ?_⟩, hj, by omega, hin⟩
  · by_cases hji : j = i
    · subst hji
      unfold okPart
      rw [hd, ← hnum]; exact hp
    · exact h.ok j (by omega)
  · rw [hj, List.length_append, nl_length]
    have := h.len
    omega
theorem PI.break_ {a g x : Nat} {s : ByteArray} {u i n n' : Nat} (h : PI a g x s u i n) (hn : n' = if i = 0 then (partOf (partAt a s (u + i))).n else n) (hi : i < n) (hp : ∀ d, partAt a s (u + i) ≠ some ⟨g, x, i, n', d⟩) : ¬ recOk a g x s u := by
  intro hr
  by_cases h0 : i = 0
  · subst h0
    have h1 := hr.2 0 hr.1
    unfold okPart at h1
    rw [if_pos rfl, h1] at hn
    simp only [partOf] at hn
    rw [← hn] at h1
    exact hp _ h1
  · have hnum := h.num
    rw [if_neg h0] at hnum hn
    have h1 := hr.2 i (by omega)
    unfold okPart at h1
    rw [← hnum, ← hn] at h1
    exact hp _ h1
def ScanPost (a : Int) (g : Nat) (s : ByteArray) (w : World) (e : Ending) (w' : World) : Prop :=
  ∃ v, e = .returned (.tuple #[v, .int .i64 ((scanAll a g s).2 : Int)]) ∧ w'.ownsRow w.heap.size 9 1 v (scanAll a g s).1.length (tcells (scanAll a g s).1) ∧ Below w.heap.size w w'
set_option maxRecDepth 100000 in
set_option maxHeartbeats 4000000 in
theorem fr_scan_in (a g : Nat) (s : ByteArray) (w : World) (ha : 64 ≤ a) (h5 : a ≤ 512) (hs : s.size ≤ 30000) (hg : g < M64) :
    Calls Tryz.prog 43 #[.int .i64 (a : Int), .int .u64 (g : Int), .string s] w (ScanPost a g s w) := by
  obtain ⟨i0, hi, hz0, hz1, hz2⟩ := info_parts info8
  obtain ⟨j0, ji, jz0, jz1, jz2⟩ := info_parts infoStr
  have HD : Hid ((frParts (a : Int) 0 == 0) = false) := Lib.hid (by rw [parts_zero, decide_eq_true (by unfold FrSz; omega)]; rfl)
  have hz := HD.out
  have HA := Lib.hid (And.intro ha (And.intro h5 (And.intro hs hg)))
  have HPO : Hid (∀ v wz u l, scanF a g s (s.size + 1) 0 0 = (l, u) → wz.ownsRow w.heap.size 9 1 v l.length (tcells l) → Below w.heap.size w wz → ScanPost a g s w (.returned (.tuple #[v, .int .i64 (u : Int)])) wz) := Lib.hid (by
    intro v wz u l h1 h2 h3
    have e : scanAll (a : Int) g s = (l, u) := by unfold scanAll; rw [if_pos (by unfold FrSz; omega)]; exact h1
    unfold ScanPost
    rw [e]
    exact ⟨v, rfl, h2, h3⟩)
  clear ha h5 hs hg
  go_enter Tryz.func43, Tryz.ntmps43
  go_wp2
  go_step3
  go_wp2_with fail
  refine (fr_parts (a : Int) 0 _).mono ?_
  rintro e w1 ⟨rfl, rfl⟩
  go_wp2
  go_step3
  go_wp2
  go_loopg [8, 9, 10] (s.size + 1) (fun gk v u x wr => ∃ (l : List ByteArray) (k : Nat), k + gk = s.size + 1 ∧ u = .int .i64 (k : Int) ∧ x = .int .u64 (l.length : Int) ∧ ScanAt a g s l k ∧ wr.ownsRow w.heap.size 9 1 v l.length (tcells l) ∧ Below w.heap.size w wr)
  case atStart => exact ⟨[], 0, by omega, rfl, rfl, ScanAt.start a g s, World.ownsRow_nil _ _ _ _, Below.refl _ _⟩
  case round =>
    obtain ⟨l, u, hgk, rfl, rfl, hsc, hrow, hbel⟩ := hrel
    generalize wr = wo at *
    generalize gk = go at *
    have hul := hsc.u_le HA.out.1
    have hll := hsc.le
    have hss := HA.out.2.2.1
    have HU := Lib.hid (And.intro hsc (And.intro hrow hbel))
    have HUL := Lib.hid (And.intro hul (And.intro hll hgk))
    clear hsc hrow hbel hul hll hss hgk
    have HS0 : Hid (SB wo.heap.size wo ⟨g, l.length, 0, 1, ⟨#[]⟩⟩ (.slice none 0 0) [] (wo.alloc (.cells #[.int .u64 (g : Int), .int .u64 (l.length : Int), .int .i64 0, .int .i64 1, .string ⟨#[]⟩] 118))) := Lib.hid ⟨Kq.blk_new _ _ _ _, World.ownsRow_nil _ _ _ _, by simp, Kq.below_alloc _ _⟩
    go_wp2
    obtain ⟨NX, hNX⟩ : ∃ NX, NX = wo.heap.size := ⟨_, rfl⟩
    rw [← hNX] at HS0 ⊢
    have HNX := Lib.hid hNX
    clear hNX
    go_loopg [11] 256 (fun gi r wy => ∃ (i n : Nat) (d : ByteArray), i + gi = 256 ∧ PI a g l.length s u i n ∧ SB NX wo ⟨g, l.length, i, n, d⟩ r (joinD a s u i) wy)
    case atStart => exact ⟨0, 1, ⟨#[]⟩, by omega, PI.start _ _ _ _ _, HS0.out⟩
    case round =>
      obtain ⟨i, n, d, hgi, hPI, hSB⟩ := hrel
      have H0 := Lib.hid hSB
      have HP := Lib.hid hPI
      have HGI := Lib.hid hgi
      have HBR : Hid (∀ wz v, Below NX wo wz → v = u8 → ¬ recOk a g l.length s u → ScanPost a g s w (.returned (.tuple #[v, .int .i64 (u : Int)])) wz) := Lib.hid (by
        intro wz v hb hv hn
        subst hv
        have hrw := HU.out.2.1
        have hlo : w.heap.size ≤ NX := by rw [HNX.out]; exact HU.out.2.2.size
        exact HPO.out _ _ u l (HU.out.1.stop hn) (fr_row_low hrw (fun j hj => by rw [HNX.out]; exact (own_lt' hrw hj).2) hb) (HU.out.2.2.trans (hb.mono hlo)))
      clear hSB hPI hgi HS0
      have c2 := Kq.blk_cell H0.out.blk 2
      have c3 := Kq.blk_cell H0.out.blk 3
      by_cases hin : i < n
      · have d0 : decide ((i : Int) < (n : Int)) = true := decide_eq_true (by omega)
        have d1 : decide (i < n) = true := decide_eq_true hin
        have HIN := Lib.hid hin
        have hik : i ≤ 106 := by have := HP.out.max; omega
        have huk : u ≤ 30000 := by have := HUL.out.1; have := HA.out.2.2.1; omega
        have hui : (u : Int) + (i : Int) = ((u + i : Nat) : Int) := by omega
        clear hin
        generalize hk : u + i = k at *
        have hkl : k ≤ 1000000 := by omega
        have HK := Lib.hid hk
        clear hk
        go_wp2_with fail
        refine (fr_at a k s _ HA.out.1 HA.out.2.1 (by have := HA.out.2.2.1; omega) hkl).mono ?_
        rintro e w2 ⟨rfl, b2⟩
        obtain ⟨o, ho⟩ : ∃ o, o = partAt a s k := ⟨_, rfl⟩
        rw [← ho]
        have HO := Lib.hid ho
        clear ho
        unfold atVal
        generalize hp : partOf o = p at *
        have HPP := Lib.hid hp
        clear hp
        obtain ⟨pg, px, pi, pn, pd⟩ := p
        simp only [FrP.val]
        have H2 := Lib.hid ((H0.out.below b2).below (Kq.below_alloc w2 (.cells #[.int .u64 (pg : Int), .int .u64 (px : Int), .int .i64 (pi : Int), .int .i64 (pn : Int), .string pd] 118)))
        have HPB := Lib.hid (Kq.blk_new w2 #[.int .u64 (pg : Int), .int .u64 (px : Int), .int .i64 (pi : Int), .int .i64 (pn : Int), .string pd] 118 (0, 0))
        have HNE := Lib.hid (show NX < w2.heap.size from Nat.lt_of_lt_of_le H0.out.sz b2.size)
        clear b2 c2 c3 d0 d1 hui
        by_cases hi0 : i = 0
        · have e0 : ((i : Int) == 0) = true := by simp; omega
          have e1 : (i == 0) = true := by simp; omega
          have HN : Hid (pn = if i = 0 then (partOf (partAt a s (u + i))).n else n) := Lib.hid (by rw [HK.out, ← HO.out, HPP.out]; rw [if_pos hi0])
          clear hi0
          have n0 := Kq.blk_cell H2.out.blk 0
          have n1 := Kq.blk_cell H2.out.blk 1
          have n2 := Kq.blk_cell H2.out.blk 2
          have n3 := Kq.blk_cell H2.out.blk 3
          have n4 := Kq.blk_cell H2.out.blk 4
          have f3 := Kq.blk_free H2.out.blk 3
          have HB : Hid (SB NX wo ⟨g, l.length, i, pn, d⟩ u11 (joinD a s u i) _) := Lib.hid (H2.out.set 3 (.int .i64 (pn : Int)) (Kq.blk_set H2.out.blk 3 _))
          have b0 := Kq.blk_cell HB.out.blk 0
          have b1 := Kq.blk_cell HB.out.blk 1
          have b2 := Kq.blk_cell HB.out.blk 2
          have b3 := Kq.blk_cell HB.out.blk 3
          have b4 := Kq.blk_cell HB.out.blk 4
          have f4 := Kq.blk_free H2.out.blk 4
          have g4 := Kq.blk_free HB.out.blk 4
          have H3 : Hid (SB NX wo ⟨g, l.length, i, pn, pd⟩ u11 (joinD a s u i) _) := Lib.hid (HB.out.set 4 (.string pd) (Kq.blk_set HB.out.blk 4 _))
          have m0 := Kq.blk_cell H3.out.blk 0
          have m1 := Kq.blk_cell H3.out.blk 1
          have m2 := Kq.blk_cell H3.out.blk 2
          have m3 := Kq.blk_cell H3.out.blk 3
          have m4 := Kq.blk_cell H3.out.blk 4
          have hne1 : ¬ NX = w2.heap.size := by have := HNE.out; omega
          have hne2 : ¬ w2.heap.size = NX := by have := HNE.out; omega
          cases o with
          | none =>
            dsimp only [Option.isSome]
            go_wp2
            (try rw [Exit.noGoto_ret])
            go_ret2
            exact HBR.out _ _ H3.out.bel rfl (HP.out.break_ HN.out HIN.out (fun d e => by rw [HK.out, ← HO.out] at e; cases e))
          | some q =>
            obtain rfl : q = ⟨pg, px, pi, pn, pd⟩ := HPP.out
            dsimp only [Option.isSome]
            by_cases q0 : g = pg
            rotate_left
            · have r0 : ¬ (pg : Int) = ((g : Nat) : Int) := by omega
              have s0 : ¬ pg = g := fun e => q0 e.symm
              have HQ := Lib.hid q0
              clear q0
              go_wp2
              (try rw [Exit.noGoto_ret])
              go_ret2
              exact HBR.out _ _ H3.out.bel rfl (HP.out.break_ HN.out HIN.out (fun d e => by rw [HK.out, ← HO.out] at e; cases e; exact HQ.out rfl))
            subst q0
            by_cases q1 : l.length = px
            rotate_left
            · have r1 : ¬ (px : Int) = ((l.length : Nat) : Int) := by omega
              have s1 : ¬ px = l.length := fun e => q1 e.symm
              have HQ := Lib.hid q1
              clear q1
              go_wp2
              (try rw [Exit.noGoto_ret])
              go_ret2
              exact HBR.out _ _ H3.out.bel rfl (HP.out.break_ HN.out HIN.out (fun d e => by rw [HK.out, ← HO.out] at e; cases e; exact HQ.out rfl))
            subst q1
            by_cases q2 : i = pi
            rotate_left
            · have r2 : ¬ (pi : Int) = ((i : Nat) : Int) := by omega
              have s2 : ¬ pi = i := fun e => q2 e.symm
              have HQ := Lib.hid q2
              clear q2
              go_wp2
              (try rw [Exit.noGoto_ret])
              go_ret2
              exact HBR.out _ _ H3.out.bel rfl (HP.out.break_ HN.out HIN.out (fun d e => by rw [HK.out, ← HO.out] at e; cases e; exact HQ.out rfl))
            subst q2
            have HNX2 := Lib.hid (HP.out.next HA.out.1 HN.out HIN.out (d := pd) (by rw [HK.out, ← HO.out]))
            have hd5 : pd.size ≤ 512 := HNX2.out.2.2.1
            have hjl : (joinD a s u i).length ≤ 106 * 512 := by have := HP.out.len; omega
            go_wp2_with (with_reducible refine Kq.wpList_append_any _ rfl (.tmp 54) (.tmp 56) 64 9 rfl (NX + 1) 5 i0 (.int .u8 0) 1 1 Tryz.underlying64 hi hz0 hz1 hz2 rfl (by decide) u11 (joinD a s u i).length (bcells (joinD a s u i)) rfl H3.out.row (.string pd) pd.size (bcells (nl pd)) rfl ?hs ?h1 ?h2 ?h3 ?_)
            case hs => rw [← byteCells_nl]; exact Src.ofString _ Tryz.underlying9 pd
            case h1 => unfold maxLen; omega
            case h2 => omega
            case h3 => have := HNE.out; simp; omega
            intro v' w3 hown hgrow hfresh
            rw [← nl_length pd, ← List.length_append, show bcells (joinD a s u i) ++ bcells (nl pd) = bcells (joinD a s u i ++ nl pd) from (bcells_append _ _).symm, ← HNX2.out.2.1] at hown
            have H4 := Lib.hid (H3.out.grow hown hgrow)
            obtain ⟨A', N', C', hv⟩ := Kq.own_shape hown
            clear hown hgrow hfresh hd5 hjl n0 m0 n1 m1 n2 m2 n3 m3 n4 m4 f4 g4 hne1 hne2 f3 b0 b1 b2 b3 b4
            rw [hv] at H4 ⊢
            clear hv H3 H2 HB
            have c2 := Kq.blk_cell H4.out.blk 2
            have f2 := Kq.blk_free H4.out.blk 2
            obtain ⟨i2, hi2⟩ : ∃ z, z = i + 1 := ⟨_, rfl⟩
            rw [← hi2] at HNX2 H4
            have hi1 : (i : Int) + 1 = (i2 : Int) := by omega
            have HI2 := Lib.hid hi2
            clear hi2
            have H5 : Hid (SB NX wo ⟨g, l.length, i2, pn, pd⟩ (.slice A' N' C') (joinD a s u i2) _) := Lib.hid (H4.out.set 2 (.int .i64 (i2 : Int)) (Kq.blk_set H4.out.blk 2 _))
            go_wp2
            go_roundg (255 - i)
            case measure => have := HGI.out; omega
            case rel => exact ⟨i2, pn, pd, by have := HGI.out; have := HI2.out; omega, HNX2.out.1, H5.out⟩
        · have e0 : ((i : Int) == 0) = false := by simp; omega
          have e1 : (i == 0) = false := by simp; omega
          have HN : Hid (n = if i = 0 then (partOf (partAt a s (u + i))).n else n) := Lib.hid (by rw [HK.out, ← HO.out, HPP.out]; rw [if_neg hi0])
          clear hi0
          have n0 := Kq.blk_cell H2.out.blk 0
          have n1 := Kq.blk_cell H2.out.blk 1
          have n2 := Kq.blk_cell H2.out.blk 2
          have n3 := Kq.blk_cell H2.out.blk 3
          have n4 := Kq.blk_cell H2.out.blk 4
          have f4 := Kq.blk_free H2.out.blk 4
          have g4 := Kq.blk_free H2.out.blk 4
          have H3 : Hid (SB NX wo ⟨g, l.length, i, n, pd⟩ u11 (joinD a s u i) _) := Lib.hid (H2.out.set 4 (.string pd) (Kq.blk_set H2.out.blk 4 _))
          have m0 := Kq.blk_cell H3.out.blk 0
          have m1 := Kq.blk_cell H3.out.blk 1
          have m2 := Kq.blk_cell H3.out.blk 2
          have m3 := Kq.blk_cell H3.out.blk 3
          have m4 := Kq.blk_cell H3.out.blk 4
          have hne1 : ¬ NX = w2.heap.size := by have := HNE.out; omega
          have hne2 : ¬ w2.heap.size = NX := by have := HNE.out; omega
          cases o with
          | none =>
            dsimp only [Option.isSome]
            go_wp2
            (try rw [Exit.noGoto_ret])
            go_ret2
            exact HBR.out _ _ H3.out.bel rfl (HP.out.break_ HN.out HIN.out (fun d e => by rw [HK.out, ← HO.out] at e; cases e))
          | some q =>
            obtain rfl : q = ⟨pg, px, pi, pn, pd⟩ := HPP.out
            dsimp only [Option.isSome]
            by_cases q0 : g = pg
            rotate_left
            · have r0 : ¬ (pg : Int) = ((g : Nat) : Int) := by omega
              have s0 : ¬ pg = g := fun e => q0 e.symm
              have HQ := Lib.hid q0
              clear q0
              go_wp2
              (try rw [Exit.noGoto_ret])
              go_ret2
              exact HBR.out _ _ H3.out.bel rfl (HP.out.break_ HN.out HIN.out (fun d e => by rw [HK.out, ← HO.out] at e; cases e; exact HQ.out rfl))
            subst q0
            by_cases q1 : l.length = px
            rotate_left
            · have r1 : ¬ (px : Int) = ((l.length : Nat) : Int) := by omega
              have s1 : ¬ px = l.length := fun e => q1 e.symm
              have HQ := Lib.hid q1
              clear q1
              go_wp2
              (try rw [Exit.noGoto_ret])
              go_ret2
              exact HBR.out _ _ H3.out.bel rfl (HP.out.break_ HN.out HIN.out (fun d e => by rw [HK.out, ← HO.out] at e; cases e; exact HQ.out rfl))
            subst q1
            by_cases q2 : i = pi
            rotate_left
            · have r2 : ¬ (pi : Int) = ((i : Nat) : Int) := by omega
              have s2 : ¬ pi = i := fun e => q2 e.symm
              have HQ := Lib.hid q2
              clear q2
              go_wp2
              (try rw [Exit.noGoto_ret])
              go_ret2
              exact HBR.out _ _ H3.out.bel rfl (HP.out.break_ HN.out HIN.out (fun d e => by rw [HK.out, ← HO.out] at e; cases e; exact HQ.out rfl))
            subst q2
            by_cases q3 : n = pn
            rotate_left
            · have r3 : ¬ (pn : Int) = ((n : Nat) : Int) := by omega
              have s3 : ¬ pn = n := fun e => q3 e.symm
              have HQ := Lib.hid q3
              clear q3
              go_wp2
              (try rw [Exit.noGoto_ret])
              go_ret2
              exact HBR.out _ _ H3.out.bel rfl (HP.out.break_ HN.out HIN.out (fun d e => by rw [HK.out, ← HO.out] at e; cases e; exact HQ.out rfl))
            subst q3
            have HNX2 := Lib.hid (HP.out.next HA.out.1 HN.out HIN.out (d := pd) (by rw [HK.out, ← HO.out]))
            have hd5 : pd.size ≤ 512 := HNX2.out.2.2.1
            have hjl : (joinD a s u i).length ≤ 106 * 512 := by have := HP.out.len; omega
            go_wp2_with (with_reducible refine Kq.wpList_append_any _ rfl (.tmp 54) (.tmp 56) 64 9 rfl (NX + 1) 5 i0 (.int .u8 0) 1 1 Tryz.underlying64 hi hz0 hz1 hz2 rfl (by decide) u11 (joinD a s u i).length (bcells (joinD a s u i)) rfl H3.out.row (.string pd) pd.size (bcells (nl pd)) rfl ?hs ?h1 ?h2 ?h3 ?_)
            case hs => rw [← byteCells_nl]; exact Src.ofString _ Tryz.underlying9 pd
            case h1 => unfold maxLen; omega
            case h2 => omega
            case h3 => have := HNE.out; simp; omega
            intro v' w3 hown hgrow hfresh
            rw [← nl_length pd, ← List.length_append, show bcells (joinD a s u i) ++ bcells (nl pd) = bcells (joinD a s u i ++ nl pd) from (bcells_append _ _).symm, ← HNX2.out.2.1] at hown
            have H4 := Lib.hid (H3.out.grow hown hgrow)
            obtain ⟨A', N', C', hv⟩ := Kq.own_shape hown
            clear hown hgrow hfresh hd5 hjl n0 m0 n1 m1 n2 m2 n3 m3 n4 m4 f4 g4 hne1 hne2
            rw [hv] at H4 ⊢
            clear hv H3 H2
            have c2 := Kq.blk_cell H4.out.blk 2
            have f2 := Kq.blk_free H4.out.blk 2
            obtain ⟨i2, hi2⟩ : ∃ z, z = i + 1 := ⟨_, rfl⟩
            rw [← hi2] at HNX2 H4
            have hi1 : (i : Int) + 1 = (i2 : Int) := by omega
            have HI2 := Lib.hid hi2
            clear hi2
            have H5 : Hid (SB NX wo ⟨g, l.length, i2, n, pd⟩ (.slice A' N' C') (joinD a s u i2) _) := Lib.hid (H4.out.set 2 (.int .i64 (i2 : Int)) (Kq.blk_set H4.out.blk 2 _))
            go_wp2
            go_roundg (255 - i)
            case measure => have := HGI.out; omega
            case rel => exact ⟨i2, n, pd, by have := HGI.out; have := HI2.out; omega, HNX2.out.1, H5.out⟩
      · have d0 : decide ((i : Int) < (n : Int)) = false := decide_eq_false (by omega)
        have d1 : decide (i < n) = false := decide_eq_false hin
        obtain rfl : i = n := by have := HP.out.le; omega
        clear hin
        obtain ⟨hrec, hnum⟩ := HP.out.whole
        have HR := Lib.hid (And.intro hrec hnum)
        clear hrec hnum
        have hcv := own_conv H0.out.row (joinD_lt a s u i)
        have HLO := Lib.hid (show w.heap.size ≤ NX by rw [HNX.out]; exact HU.out.2.2.size)
        have HOW := Lib.hid (fun j (hj : u8.ownBlock = some j) => show j < NX by rw [HNX.out]; exact (own_lt' HU.out.2.1 hj).2)
        have HRO := Lib.hid (fr_row_low HU.out.2.1 HOW.out H0.out.bel)
        have hll : l.length ≤ 30000 := by have := HUL.out; have := HA.out.2.2.1; omega
        generalize htx : txt (joinD a s u i) = tx at *
        have HTX := Lib.hid htx
        clear htx
        go_wp2_with (at_builtin; refine Kq.wpList_append_any _ rfl (.tmp 62) (.tmp 65) 35 35 rfl w.heap.size 9 j0 (.string ⟨#[]⟩) 1 16 Tryz.underlying35 ji jz0 jz1 jz2 rfl (by decide) u8 l.length (tcells l) rfl (HRO.out.alloc _) (.slice (some ⟨wr.heap.size, 0, none⟩) 1 1) 1 (tcells [tx]) rfl ?hs ?h1 ?h2 ?h3 ?_)
        case hs => exact fr_src_text wr tx 1 _
        case h1 => unfold maxLen; omega
        case h2 => omega
        case h3 => have := H0.out.sz; have := HLO.out; simp; omega
        intro v' w3 hown hgrow hfresh
        rw [← tcells_append] at hown
        have hk := Kq.Keeps.grown (S := fun j => some j = u8.ownBlock) hgrow (fun j _ hj => hj.symm)
        have hb3 := Kq.below_blk (Kq.below_alloc wr (.cells #[.string tx] 9)) H0.out.blk (Kq.blk_lt H0.out.blk)
        have c3 := Kq.blk_cell (hk.blk hb3 (fun e => Nat.lt_irrefl _ (HOW.out NX e.symm))) 3
        have hbw : Below w.heap.size w wr := HU.out.2.2.trans (H0.out.bel.mono HLO.out)
        have HF := Lib.hid (And.intro hown ((hbw.trans ((Kq.below_alloc wr (.cells #[.string tx] 9)).mono hbw.size)).trans (hk.below (by have := hbw.size; simp; omega) (fun j _ e => own_ge HU.out.2.1 e.symm))))
        obtain ⟨A', N', C', hv⟩ := Kq.own_shape hown
        clear hown hgrow hfresh hk hb3 hbw hcv c2
        rw [hv] at HF ⊢
        clear hv
        have HST := Lib.hid (HU.out.1.step HA.out.1 HR.out.1)
        rw [← HR.out.2, HTX.out] at HST
        obtain ⟨k2, hk2⟩ : ∃ z, z = u + i := ⟨_, rfl⟩
        rw [← hk2] at HST
        have hu2 : (u : Int) + (i : Int) = (k2 : Int) := by omega
        have hsu := HST.out.u_le HA.out.1
        have hgt : u < k2 := by have := HR.out.1.1; have := HR.out.2; omega
        have hss := HA.out.2.2.1
        have hkb : k2 ≤ 30000 := by omega
        have HKK := Lib.hid (And.intro hsu hgt)
        clear hsu hgt hss hk2
        obtain ⟨l2, hl2⟩ : ∃ z, z = l.length + 1 := ⟨_, rfl⟩
        have hl3 : (l.length : Int) + 1 = (l2 : Int) := by omega
        have hl4 : l2 ≤ 30001 := by omega
        have HL2 := Lib.hid hl2
        clear hl2
        go_wp2
        go_roundg (s.size + 1 - k2)
        case measure => have := HUL.out; have := HKK.out; omega
        case rel =>
          refine ⟨l ++ [tx], k2, by have := HKK.out; omega, rfl, ?_, HST.out, ?_, HF.out.2⟩
          · rw [List.length_append, List.length_singleton, ← HL2.out]
          · rw [List.length_append]; exact HF.out.1
set_option maxRecDepth 100000 in
set_option maxHeartbeats 1000000 in
theorem fr_scan (a : Int) (g : Nat) (s : ByteArray) (w : World) (hs : s.size ≤ 30000) (hg : g < M64) :
    Calls Tryz.prog 43 #[.int .i64 a, .int .u64 (g : Int), .string s] w (ScanPost a g s w) := by
  by_cases h : FrSz a
  · obtain ⟨n, rfl⟩ := Int.eq_ofNat_of_zero_le (show 0 ≤ a by have := h.1; omega)
    exact fr_scan_in n g s w (by have := h.1; omega) (by have := h.2; omega) hs hg
  · have HD : Hid ((frParts a 0 == 0) = true) := Lib.hid (by rw [parts_zero, decide_eq_false h]; rfl)
    have hz := HD.out
    have HPO : Hid (ScanPost a g s w (.returned (.tuple #[.slice none 0 0, .int .i64 0])) w) := Lib.hid (by
      have e : scanAll a g s = ([], 0) := by unfold scanAll; rw [if_neg h]
      unfold ScanPost
      rw [e]
      exact ⟨_, rfl, World.ownsRow_nil _ _ _ _, Below.refl _ _⟩)
    clear h
    go_enter Tryz.func43, Tryz.ntmps43
    go_wp2
    go_step3
    go_wp2_with fail
    refine (fr_parts a 0 _).mono ?_
    rintro e w1 ⟨rfl, rfl⟩
    go_wp2
    (try rw [Exit.noGoto_ret])
    go_ret2
    exact HPO.out
end Go.Proofs.YtbpgfhcecanikaaGreat
