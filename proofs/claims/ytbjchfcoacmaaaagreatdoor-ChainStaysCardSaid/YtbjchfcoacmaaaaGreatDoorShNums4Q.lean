/- Merged: ShNums, ShNums2, ShNums3, ShNums4. Contracts of carrackref01's numbers in digits: add, digit, spread, multiply, above. Condition: sizes. Contracts of carrackref01's spread, multiply, digit, above. Condition: sizes. Contracts of carrackref01's digit, above, least. Condition: sizes. Contracts of carrackref01's least and root. Condition: sizes. -/
import Derived.WalkSpells
import Derived.Outline
import Derived.Deep.WholeRow
import Derived.Test.YtbjchfcoacmaaaaGreatDoorChecked
import Derived.Test.YtbjchfcoacmaaaaGreatDoorObjQ
import Derived.Test.YtbjchfcoacmaaaaGreatDoorPfSeQ
import Derived.Test.YtbjchfcoacmaaaaGreatDoorShHexQ
import Derived.Test.YtbjchfcoacmaaaaGreatDoorShRootMQ
namespace Go.Proofs.YtbjchfcoacmaaaaGreatDoor
open Go.RowKit
set_option linter.unusedVariables false
def dcl (l : List Nat) : List Value := l.map fun (x : Nat) => Value.int .u64 (x : Int)
structure Nums (w : World) (G : Nat) (l : List Nat) : Prop where
  blk : w.heap[G]? = some (.cells (dcl l).toArray 22 (0, 0))
  lt : ∀ x ∈ l, x < 18446744073709551616
theorem dcl_at (l : List Nat) (i : Nat) (h : i < l.length) : (dcl l).toArray[i]? = some (Value.int .u64 ((l.getD i 0 : Nat) : Int)) := by
  unfold dcl
  rw [List.getElem?_toArray, List.getElem?_map, List.getElem?_eq_getElem h]
  simp [h]
theorem Nums.cell {w : World} {G : Nat} {l : List Nat} (h : Nums w G l) (i : Nat) (hi : i < l.length) : w.cell? ⟨G, i, none⟩ = some (.int .u64 ((l.getD i 0 : Nat) : Int)) := (Kq.blk_cell h.blk i).trans (dcl_at l i hi)
theorem Nums.size {w : World} {G : Nat} {l : List Nat} (h : Nums w G l) : G < w.heap.size := Kq.blk_lt h.blk
theorem getD64 (l : List Nat) (h : ∀ x ∈ l, x < 18446744073709551616) (i : Nat) : l.getD i 0 < 18446744073709551616 := by
  rw [List.getD_eq_getElem?_getD]
  cases e : l[i]? with
  | none => simp
  | some x => exact h x (List.mem_of_getElem? e)
theorem Nums.set {w : World} {G : Nat} {l : List Nat} (h : Nums w G l) (i x : Nat) (hi : i < l.length) (hx : x < 18446744073709551616) : Nums (w.setCell ⟨G, i, none⟩ (.int .u64 (x : Int))) G (l.set i x) := by
  refine ⟨?_, fun y hy => ?_⟩
  · rw [Kq.blk_set h.blk]
    congr 2
    apply Array.toList_inj.1
    rw [Array.toList_setIfInBounds]
    unfold dcl
    rw [List.toList_toArray, List.toList_toArray, List.map_set]
  · rcases List.mem_or_eq_of_mem_set hy with hy | rfl
    · exact h.lt y hy
    · exact hx
theorem Nums.keeps {S : Nat → Prop} {w w' : World} {G : Nat} {l : List Nat} (h : Nums w G l) (hk : Kq.Keeps S w w') (hs : ¬ S G) : Nums w' G l := ⟨hk.blk h.blk hs, h.lt⟩
theorem add_facts (x v : Nat) (hx : x < 18446744073709551616) (hv : v < 18446744073709551616) : ∃ a b c d y z q : Nat,
    (x : Int) % 4294967296 = (a : Int) ∧ IntKind.u64.wrap ((a : Int) + (v : Int)) = (b : Int) ∧ (x : Int) / 4294967296 = (c : Int) ∧ IntKind.u64.wrap ((c : Int) * 4294967296) = (d : Int) ∧ IntKind.u64.wrap ((b : Int) + (d : Int)) = (y : Int) ∧
    (y : Int) % 4294967296 = (z : Int) ∧ (y : Int) / 4294967296 = (q : Int) ∧ y = ((x % Sh.M32 + v) % Sh.W64 + x / Sh.M32 * Sh.M32) % Sh.W64 ∧ z = y % Sh.M32 ∧ q = y / Sh.M32 ∧ z < 18446744073709551616 ∧ q < 18446744073709551616 ∧ IntKind.u64.wrap (q : Int) = (q : Int) ∧ IntKind.u64.wrap (c : Int) = (c : Int) := by
  unfold Sh.M32 Sh.W64
  obtain ⟨Y, hY⟩ : ∃ Y, Y = ((x % 4294967296 + v) % 18446744073709551616 + x / 4294967296 * 4294967296) % 18446744073709551616 := ⟨_, rfl⟩
  have hYb : Y < 18446744073709551616 := by rw [hY]; exact Nat.mod_lt _ (by decide)
  refine ⟨x % 4294967296, (x % 4294967296 + v) % 18446744073709551616, x / 4294967296, x / 4294967296 * 4294967296, Y, Y % 4294967296, Y / 4294967296, by omega, ?_, by omega, ?_, ?_, by omega, by omega, hY, rfl, rfl, by omega, by omega, ?_, ?_⟩
  · rw [IntKind.wrap_u64]; omega
  · rw [IntKind.wrap_u64]; omega
  · rw [IntKind.wrap_u64]; omega
  · rw [IntKind.wrap_u64]; omega
  · rw [IntKind.wrap_u64]; omega
theorem addN_length : ∀ (f : Nat) (l : List Nat) (i x : Nat), (Sh.addN f l i x).length = l.length
  | 0, l, i, x => rfl
  | f + 1, l, i, x => by
    unfold Sh.addN
    split
    · rw [addN_length f]; simp
    · rfl
theorem addL_length (l : List Nat) (i x : Nat) : (Sh.addL l i x).length = l.length := addN_length _ _ _ _
structure AddN (w : World) (G : Nat) (l : List Nat) (at0 x0 : Nat) (i x : Nat) (wr : World) : Prop where
  ex : ∃ l', Nums wr G l' ∧ l'.length = l.length ∧ Sh.addN (l.length + 1 - i) l' i x = Sh.addL l at0 x0
  lt : x < 18446744073709551616
  keep : Kq.Keeps (· = G) w wr
set_option maxRecDepth 100000 in
set_option maxHeartbeats 1000000 in
theorem r_add (G : Nat) (l : List Nat) (c i x : Nat) (w : World) (h : Nums w G l) (hx : x < 18446744073709551616) (hi : i ≤ 1000) (hl : l.length ≤ 1000) :
    Calls Tryz.prog 183 #[.slice (some ⟨G, 0, none⟩) l.length c, .int .i64 (i : Int), .int .u64 (x : Int)] w fun e w' => e = .returned (.tuple #[]) ∧ Nums w' G (Sh.addL l i x) ∧ Kq.Keeps (· = G) w w' := by
  have H : Hid (AddN w G l i x i x w) := Lib.hid ⟨⟨l, h, rfl, rfl⟩, hx, Kq.Keeps.refl _ _⟩
  clear h hx
  go_enter Tryz.func183, Tryz.ntmps183
  go_wp2
  go_loopw [1, 2] (fun p q wr => ∃ j y : Nat, p = .int .i64 (j : Int) ∧ q = .int .u64 (y : Int) ∧ j ≤ 2000 ∧ AddN w G l i x j y wr) (fun p _ _ => 2001 - (intOf p).toNat)
  case atStart => exact ⟨i, x, rfl, rfl, by omega, H.out⟩
  case round =>
    obtain ⟨j, y, rfl, rfl, hj, hI⟩ := hrel
    have HI := Lib.hid hI
    clear hI
    by_cases hgo : 0 < y ∧ j < l.length
    · have d0 : (0 : Int) < (y : Int) := by omega
      have d1 : (j : Int) < (l.length : Int) := by omega
      obtain ⟨l', hN, hlen, heq⟩ := HI.out.ex
      have HN := Lib.hid hN
      have c0 := hN.cell j (by rw [hlen]; exact hgo.2)
      have hf : wr.frozen? ⟨G, j, none⟩ = false := Kq.blk_free hN.blk j
      obtain ⟨a, b, cc, d, y2, z, q, e1, e2, e3, e4, e5, e6, e7, hy2, hz, hq, hzl, hql, e8, e9⟩ := add_facts y (l'.getD j 0) HI.out.lt (getD64 l' hN.lt j)
      have HE : Hid (AddN w G l i x (j + 1) q (wr.setCell ⟨G, j, none⟩ (.int .u64 (z : Int)))) := Lib.hid (by
        refine ⟨⟨l'.set j z, hN.set j z (by rw [hlen]; exact hgo.2) hzl, by simpa using hlen, ?_⟩, hql, HI.out.keep.trans (Kq.Keeps.setCell _ _ _ rfl)⟩
        rw [← heq, show l.length + 1 - j = (l.length + 1 - (j + 1)) + 1 by omega, Sh.addN, if_pos ⟨hgo.1, by rw [hlen]; exact hgo.2⟩, ← hy2, ← hz, ← hq])
      generalize l'.getD j 0 = v at *
      have HG := Lib.hid hgo
      clear hN hlen heq hy2 hz hq hzl hql hgo
      go_wp2
      clear e1 e2 e3 e4 e5 e6 e7 e8 e9 c0 hf
      go_roundw
      case rel => exact ⟨j + 1, q, by go_num, rfl, by have := HG.out.2; omega, HE.out⟩
      case measure => have := HG.out.2; simp [intOf]; omega
    · have HE : Hid (Nums wr G (Sh.addL l i x) ∧ Kq.Keeps (· = G) w wr) := Lib.hid (by
        obtain ⟨l', hN, hlen, heq⟩ := HI.out.ex
        refine ⟨?_, HI.out.keep⟩
        have : Sh.addN (l.length + 1 - j) l' j y = l' := by
          cases l.length + 1 - j with
          | zero => rfl
          | succ f => rw [Sh.addN, if_neg (by rw [hlen]; exact hgo)]
        rw [← heq, this]
        exact hN)
      by_cases hy : 0 < y
      · have d0 : (0 : Int) < (y : Int) := by omega
        have d1 : ¬ (j : Int) < (l.length : Int) := by omega
        clear hgo
        go_wp2
        go_end0
        exact ⟨rfl, HE.out⟩
      · have d0 : ¬ (0 : Int) < (y : Int) := by omega
        clear hgo
        go_wp2
        go_end0
        exact ⟨rfl, HE.out⟩
end Go.Proofs.YtbjchfcoacmaaaaGreatDoor
namespace Go.Proofs.YtbjchfcoacmaaaaGreatDoor
open Go.RowKit
set_option linter.unusedVariables false
theorem infoU64H : (Tryz.prog.info? 22).map (fun i => (i.zero, i.size, i.bytes)) = some (some (.int .u64 0), 1, 8) := by kernel_rfl
theorem mk_u64 (w : World) (z : Int) (n : Nat) (hz : z = (n : Int)) (hn : n ≤ 100000) :
    (Instr.makeSlice 37 (.int .i64 z) (.int .i64 z)).run Tryz.prog w = .ok (.slice (some ⟨w.heap.size, 0, none⟩) n n) (w.alloc (.cells (dcl (List.replicate n 0)).toArray 22)) := by
  obtain ⟨i0, hi, hz0, hz1, hz2⟩ := info_partsH infoU64H
  subst hz
  have := run_makeSlice (P := Tryz.prog) w 37 22 i0 (.int .u64 0) Tryz.underlying37 hi hz0 .i64 .i64 (n : Int) (n : Int) (by omega) (Int.le_refl _) (by rw [hz1]; simp; omega) (by rw [hz2]; omega) (by omega)
  rw [hz1] at this
  have e : madeCells (Value.int IntKind.u64 0).cells n = (dcl (List.replicate n 0)).toArray := by
    apply Array.toList_inj.1
    rw [show (Value.int IntKind.u64 0).cells = #[Value.int IntKind.u64 0] from rfl, toList_madeCells_one]
    simp [dcl]
  simpa [e] using this
theorem nums_new (w : World) (l : List Nat) (hl : ∀ x ∈ l, x < 18446744073709551616) : Nums (w.alloc (.cells (dcl l).toArray 22)) w.heap.size l := ⟨Kq.blk_new w _ _ _, hl⟩
def spreadK (p : List Nat) (k : Nat) : List Nat := (List.range k).foldl (fun l i => Sh.addL l i (p.getD i 0)) (List.replicate (p.length + 1) 0)
theorem spreadK_succ (p : List Nat) (k : Nat) : spreadK p (k + 1) = Sh.addL (spreadK p k) k (p.getD k 0) := by unfold spreadK; rw [List.range_succ, List.foldl_append]; rfl
theorem spreadK_length (p : List Nat) (k : Nat) : (spreadK p k).length = p.length + 1 := by
  induction k with
  | zero => simp [spreadK]
  | succ k ih => rw [spreadK_succ, addL_length, ih]
theorem keeps_new {w wr w' : World} {G : Nat} (hb : Below w.heap.size w wr) (hk : Kq.Keeps (· = G) wr w') (hG : w.heap.size ≤ G) : Below w.heap.size w w' := by
  have k1 : Kq.Keeps (fun j => w.heap.size ≤ j) w wr := Kq.Keeps.of_below hb (fun j h1 _ => h1)
  exact (k1.trans (hk.mono (fun j _ e => by rw [e]; exact hG))).below (Nat.le_refl _) (fun j _ hj => hj)
theorem Nums.below {w w' : World} {G : Nat} {l : List Nat} (h : Nums w G l) (hb : Below w.heap.size w w') : Nums w' G l := ⟨Kq.below_blk hb h.blk h.size, h.lt⟩
set_option maxRecDepth 100000 in
set_option maxHeartbeats 1000000 in
theorem r_spread (G : Nat) (p : List Nat) (c : Nat) (w : World) (h : Nums w G p) (hp : p.length ≤ 100) :
    Calls Tryz.prog 182 #[.slice (some ⟨G, 0, none⟩) p.length c] w fun e w' => e = .returned (.slice (some ⟨w.heap.size, 0, none⟩) (p.length + 1) (p.length + 1)) ∧ Nums w' w.heap.size (Sh.spreadL p) ∧ Below w.heap.size w w' := by
  have H := Lib.hid h
  clear h
  have hmk := fun w => mk_u64 w ((p.length : Int) + 1) (p.length + 1) (by omega) (by omega)
  go_enter Tryz.func182, Tryz.ntmps182
  go_wp2
  have H0 : Hid (Nums (w.alloc (.cells (dcl (List.replicate (p.length + 1) 0)).toArray 22)) w.heap.size (spreadK p 0) ∧ Below w.heap.size w (w.alloc (.cells (dcl (List.replicate (p.length + 1) 0)).toArray 22))) :=
    Lib.hid ⟨nums_new w _ (fun x hx => by rw [List.eq_of_mem_replicate hx]; decide), Kq.below_alloc w _⟩
  generalize w.alloc _ = w1 at *
  clear hmk
  go_loopw [4] (fun i wr => ∃ k : Nat, k ≤ p.length ∧ i = .int .i64 (k : Int) ∧ Nums wr w.heap.size (spreadK p k) ∧ Below w.heap.size w wr) (fun i _ => p.length - (intOf i).toNat)
  case atStart => exact ⟨0, Nat.zero_le _, rfl, H0.out⟩
  case round =>
    obtain ⟨k, hk, rfl, hI⟩ := hrel
    have HI := Lib.hid hI
    clear hI
    by_cases hlt : k < p.length
    · have l1 : (k : Int) < (p.length : Int) := by omega
      have c0 := (H.out.below HI.out.2).cell k hlt
      have HAD := Lib.hid (r_add w.heap.size (spreadK p k) (p.length + 1) k (p.getD k 0) wr HI.out.1 (getD64 p H.out.lt k) (by omega) (by rw [spreadK_length]; omega))
      rw [← spreadK_succ, spreadK_length] at HAD
      generalize p.getD k 0 = v at *
      go_wp2_with fail
      refine HAD.out.mono ?_
      rintro x w2 ⟨rfl, hn, hk2⟩
      have H2 : Hid (Nums w2 w.heap.size (spreadK p (k + 1)) ∧ Below w.heap.size w w2) := Lib.hid ⟨hn, keeps_new HI.out.2 hk2 (Nat.le_refl _)⟩
      clear hn hk2 c0
      go_wp2
      go_roundw
      case rel => exact ⟨k + 1, by omega, by go_num, H2.out⟩
      case measure => simp [intOf]; omega
    · have hkl : k = p.length := by omega
      rw [hkl] at HI
      clear hkl
      go_wp2
      go_ret
      exact ⟨rfl, HI.out⟩
def mulK (q : List Nat) (x k : Nat) : List Nat := (List.range k).foldl (fun l i => Sh.addL (Sh.addL l i (q.getD i 0 * (x % Sh.M32) % Sh.W64)) (i + 1) (q.getD i 0 * (x / Sh.M32) % Sh.W64)) (List.replicate (q.length + 3) 0)
theorem mulK_succ (q : List Nat) (x k : Nat) : mulK q x (k + 1) = Sh.addL (Sh.addL (mulK q x k) k (q.getD k 0 * (x % Sh.M32) % Sh.W64)) (k + 1) (q.getD k 0 * (x / Sh.M32) % Sh.W64) := by unfold mulK; rw [List.range_succ, List.foldl_append]; rfl
theorem mulK_length (q : List Nat) (x k : Nat) : (mulK q x k).length = q.length + 3 := by
  induction k with
  | zero => simp [mulK]
  | succ k ih => rw [mulK_succ, addL_length, addL_length, ih]
theorem mulL_eq (p : List Nat) (x : Nat) : Sh.mulL p x = mulK (Sh.spreadL p) x (p.length + 1) := by
  have h : (Sh.spreadL p).length = p.length + 1 := spreadK_length p p.length
  unfold Sh.mulL mulK
  simp only [h]
theorem mulL_length (p : List Nat) (x : Nat) : (Sh.mulL p x).length = p.length + 4 := by
  rw [mulL_eq, mulK_length, show (Sh.spreadL p).length = p.length + 1 from spreadK_length p p.length]
theorem mul64 (a b : Nat) : IntKind.u64.wrap ((a : Int) * (b : Int)) = ((a * b % Sh.W64 : Nat) : Int) := by
  have : (a : Int) * (b : Int) = ((a * b : Nat) : Int) := by norm_cast
  rw [this, IntKind.wrap_u64]
  unfold Sh.W64
  omega
set_option maxRecDepth 100000 in
set_option maxHeartbeats 1000000 in
theorem r_multiply (G : Nat) (p : List Nat) (c x : Nat) (w : World) (h : Nums w G p) (hx : x < 18446744073709551616) (hp : p.length ≤ 100) :
    Calls Tryz.prog 176 #[.slice (some ⟨G, 0, none⟩) p.length c, .int .u64 (x : Int)] w fun e w' => ∃ G', e = .returned (.slice (some ⟨G', 0, none⟩) (p.length + 4) (p.length + 4)) ∧ w.heap.size ≤ G' ∧ Nums w' G' (Sh.mulL p x) ∧ Below w.heap.size w w' := by
  have H := Lib.hid h
  clear h
  go_enter Tryz.func176, Tryz.ntmps176
  go_wp2_with fail
  refine (r_spread G p c w H.out hp).mono ?_
  rintro e w1 ⟨rfl, hn1, hb1⟩
  have H1 := Lib.hid (And.intro hn1 hb1)
  have HSZ : Hid (w.heap.size < w1.heap.size) := Lib.hid hn1.size
  clear hn1 hb1
  have HQL : Hid ((Sh.spreadL p).length = p.length + 1) := Lib.hid (spreadK_length p p.length)
  have HRES := Lib.hid (mulL_eq p x)
  obtain ⟨q, hq⟩ : ∃ q, q = Sh.spreadL p := ⟨_, rfl⟩
  rw [← hq] at H1 HQL HRES
  clear hq
  obtain ⟨n, hn⟩ : ∃ n, n = p.length + 1 := ⟨_, rfl⟩
  have HN := Lib.hid hn
  rw [← hn] at HQL HRES ⊢
  have hn100 : n ≤ 101 := by omega
  clear hn
  obtain ⟨lo, hlo⟩ : ∃ lo, lo = x % Sh.M32 := ⟨_, rfl⟩
  obtain ⟨hi, hhi⟩ : ∃ hi, hi = x / Sh.M32 := ⟨_, rfl⟩
  have e1 : (x : Int) % 4294967296 = (lo : Int) := by rw [hlo]; unfold Sh.M32; omega
  have e2 : (x : Int) / 4294967296 = (hi : Int) := by rw [hhi]; unfold Sh.M32; omega
  have hloB : lo < 18446744073709551616 := by rw [hlo]; unfold Sh.M32; omega
  have hhiB : hi < 18446744073709551616 := by rw [hhi]; unfold Sh.M32; omega
  have e3 : IntKind.u64.wrap (lo : Int) = (lo : Int) := by rw [IntKind.wrap_u64]; omega
  have e4 : IntKind.u64.wrap (hi : Int) = (hi : Int) := by rw [IntKind.wrap_u64]; omega
  have HLH := Lib.hid (And.intro hlo hhi)
  clear hlo hhi
  have hmk := fun w => mk_u64 w ((n : Int) + 3) (n + 3) (by omega) (by omega)
  go_wp2
  have H0 : Hid (Nums (w1.alloc (.cells (dcl (List.replicate (n + 3) 0)).toArray 22)) w1.heap.size (mulK q x 0) ∧ Below w.heap.size w (w1.alloc (.cells (dcl (List.replicate (n + 3) 0)).toArray 22)) ∧ Below w1.heap.size w1 (w1.alloc (.cells (dcl (List.replicate (n + 3) 0)).toArray 22))) :=
    Lib.hid (by
      refine ⟨?_, H1.out.2.trans ((Kq.below_alloc w1 _).mono H1.out.2.size), Kq.below_alloc w1 _⟩
      have : mulK q x 0 = List.replicate (n + 3) 0 := by unfold mulK; rw [HQL.out]; rfl
      rw [this]
      exact nums_new w1 _ (fun x hx => by rw [List.eq_of_mem_replicate hx]; decide))
  obtain ⟨w2, hw2⟩ : ∃ z, z = w1.alloc (.cells (dcl (List.replicate (n + 3) 0)).toArray 22) := ⟨_, rfl⟩
  rw [← hw2] at H0 ⊢
  (try rw [e1])
  clear hmk hw2 e1 e2 e3 e4
  go_loopw [8] (fun i wr => ∃ k : Nat, k ≤ n ∧ i = .int .i64 (k : Int) ∧ Nums wr w1.heap.size (mulK q x k) ∧ Below w.heap.size w wr ∧ Below w1.heap.size w1 wr) (fun i _ => n - (intOf i).toNat)
  case atStart => exact ⟨0, Nat.zero_le _, rfl, H0.out⟩
  case round =>
    obtain ⟨k, hk, rfl, hI⟩ := hrel
    have HI := Lib.hid hI
    clear hI
    by_cases hlt : k < n
    · have l1 : (k : Int) < (n : Int) := by omega
      have c0 := (H1.out.1.below HI.out.2.2).cell k (by rw [HQL.out]; exact hlt)
      have m1 := mul64 (q.getD k 0) lo
      have m2 := mul64 (q.getD k 0) hi
      have HMS := Lib.hid (mulK_succ q x k)
      have HML : Hid ((mulK q x k).length = n + 3) := Lib.hid (by rw [mulK_length, HQL.out])
      rw [← HLH.out.1, ← HLH.out.2] at HMS
      generalize q.getD k 0 = v at *
      obtain ⟨y1, hy1⟩ : ∃ y, y = v * lo % Sh.W64 := ⟨_, rfl⟩
      obtain ⟨y2, hy2⟩ : ∃ y, y = v * hi % Sh.W64 := ⟨_, rfl⟩
      have b1 : y1 < 18446744073709551616 := by rw [hy1]; exact Nat.mod_lt _ (by decide)
      have b2 : y2 < 18446744073709551616 := by rw [hy2]; exact Nat.mod_lt _ (by decide)
      rw [← hy1] at m1 HMS
      rw [← hy2] at m2 HMS
      clear hy1 hy2
      have HA1 := Lib.hid (r_add w1.heap.size (mulK q x k) (n + 3) k y1 wr HI.out.1 b1 (by omega) (by rw [HML.out]; omega))
      rw [HML.out] at HA1
      have HL2 : Hid ((Sh.addL (mulK q x k) k y1).length = n + 3) := Lib.hid (by rw [addL_length, HML.out])
      go_wp2_with fail
      refine HA1.out.mono ?_
      rintro e w3 ⟨rfl, hn3, hk3⟩
      have H3 := Lib.hid (show Nums w3 w1.heap.size (Sh.addL (mulK q x k) k y1) ∧ Below w.heap.size w w3 ∧ Below w1.heap.size w1 w3 from ⟨hn3, keeps_new HI.out.2.1 hk3 (Nat.le_of_lt (Nat.lt_of_lt_of_le HSZ.out (Nat.le_refl _))), keeps_new HI.out.2.2 hk3 (Nat.le_refl _)⟩)
      have c0' : w3.cell? ⟨w.heap.size, k, none⟩ = some (.int .u64 (v : Int)) := by
        rw [World.cell?_of_block (hk3.block w.heap.size (by have := HSZ.out; have := HI.out.2.2.size; omega) (show ¬ w.heap.size = w1.heap.size by have := HSZ.out; omega))]
        exact c0
      clear hn3 hk3 c0 HA1 m1
      have HA2 := Lib.hid (r_add w1.heap.size (Sh.addL (mulK q x k) k y1) (n + 3) (k + 1) y2 w3 H3.out.1 b2 (by omega) (by rw [HL2.out]; omega))
      rw [HL2.out, ← HMS.out] at HA2
      have e5 : ((k + 1 : Nat) : Int) = (k : Int) + 1 := by omega
      rw [e5] at HA2
      clear e5
      go_wp2_with fail
      refine HA2.out.mono ?_
      rintro e w4 ⟨rfl, hn4, hk4⟩
      have H4 := Lib.hid (show Nums w4 w1.heap.size (mulK q x (k + 1)) ∧ Below w.heap.size w w4 ∧ Below w1.heap.size w1 w4 from ⟨hn4, keeps_new H3.out.2.1 hk4 (Nat.le_of_lt (Nat.lt_of_lt_of_le HSZ.out (Nat.le_refl _))), keeps_new H3.out.2.2 hk4 (Nat.le_refl _)⟩)
      clear hn4 hk4 c0' HA2 m2 b1 b2
      go_wp2
      go_roundw
      case rel => exact ⟨k + 1, by omega, by go_num, H4.out⟩
      case measure => simp [intOf]; omega
    · have hkl : k = n := by omega
      rw [hkl, ← HRES.out] at HI
      clear hkl
      go_wp2
      go_ret
      exact ⟨w1.heap.size, congrArg (fun z => Ending.returned (Value.slice (some ⟨w1.heap.size, 0, none⟩) z z)) (show n + 3 = p.length + 4 by have := HN.out; omega), Nat.le_of_lt HSZ.out, HI.out.1, HI.out.2.1⟩
end Go.Proofs.YtbjchfcoacmaaaaGreatDoor
namespace Go.Proofs.YtbjchfcoacmaaaaGreatDoor
open Go.RowKit
set_option linter.unusedVariables false
set_option maxRecDepth 100000 in
theorem r_digit (G : Nat) (l : List Nat) (c i : Nat) (w : World) (h : Nums w G l) :
    Calls Tryz.prog 184 #[.slice (some ⟨G, 0, none⟩) l.length c, .int .i64 (i : Int)] w fun e w' => e = .returned (.int .u64 ((l.getD i 0 : Nat) : Int)) ∧ w' = w := by
  by_cases hi : i < l.length
  · have d : (i : Int) < (l.length : Int) := by omega
    have c0 := h.cell i hi
    clear h
    generalize l.getD i 0 = v at *
    go_enter Tryz.func184, Tryz.ntmps184
    go_wp2
    go_ret
    exact ⟨rfl, rfl⟩
  · have d : ¬ (i : Int) < (l.length : Int) := by omega
    have hz : l.getD i 0 = 0 := by rw [List.getD_eq_getElem?_getD, List.getElem?_eq_none (by omega)]; rfl
    rw [hz]
    clear h hz
    go_enter Tryz.func184, Tryz.ntmps184
    go_wp2
    go_ret
    exact ⟨rfl, rfl⟩
set_option maxRecDepth 100000 in
set_option maxHeartbeats 1000000 in
theorem r_above (G : Nat) (a : List Nat) (ca : Nat) (F : Nat) (b : List Nat) (cb : Nat) (w : World) (ha : Nums w G a) (hb : Nums w F b) (hl : a.length + b.length ≤ 1000) :
    Calls Tryz.prog 177 #[.slice (some ⟨G, 0, none⟩) a.length ca, .slice (some ⟨F, 0, none⟩) b.length cb] w fun e w' => e = .returned (.bool (Sh.aboveL a b)) ∧ w' = w := by
  have H := Lib.hid (And.intro ha hb)
  clear ha hb
  go_enter Tryz.func177, Tryz.ntmps177
  go_wp2
  go_loopw [5] (fun i wr => ∃ (n : Nat) (z : Int), n ≤ a.length + b.length + 1 ∧ z = (n : Int) - 1 ∧ i = .int .i64 z ∧ Sh.aboveN a b n = Sh.aboveL a b ∧ wr = w) (fun i _ => (intOf i + 1).toNat)
  case atStart => exact ⟨a.length + b.length + 1, _, Nat.le_refl _, by omega, rfl, rfl, rfl⟩
  case round =>
    obtain ⟨n, z, hn, hz, rfl, hab, rfl⟩ := hrel
    have HAB := Lib.hid hab
    clear hab
    rcases n with _ | n
    · obtain rfl : z = -1 := by omega
      have HR : Hid (Sh.aboveL a b = false) := Lib.hid HAB.out.symm
      clear hz
      go_wp2
      go_ret
      exact ⟨by rw [HR.out]; rfl, rfl⟩
    · obtain rfl : z = (n : Int) := by omega
      have d0 : (0 : Int) ≤ (n : Int) := by omega
      have d1 : (n : Int) ≤ 1000 := by omega
      clear hz
      have HS : Hid ((if a.getD n 0 = b.getD n 0 then Sh.aboveN a b n else decide (b.getD n 0 < a.getD n 0)) = Sh.aboveL a b) := Lib.hid HAB.out
      have KA := Lib.hid (r_digit G a ca n wr H.out.1)
      have KB := Lib.hid (r_digit F b cb n wr H.out.2)
      generalize a.getD n 0 = x at *
      generalize b.getD n 0 = y at *
      go_wp2_with fail
      with_reducible refine KA.out.mono ?_
      rintro e w1 ⟨rfl, rfl⟩
      go_wp2_with fail
      with_reducible refine KB.out.mono ?_
      rintro e w2 ⟨rfl, rfl⟩
      by_cases hxy : x = y
      · subst hxy
        have HN : Hid (Sh.aboveN a b n = Sh.aboveL a b) := Lib.hid (by have := HS.out; rwa [if_pos rfl] at this)
        go_wp2
        go_roundw
        case rel => exact ⟨n, _, by omega, rfl, rfl, HN.out, trivial⟩
        case measure => simp [intOf]
      · have HN : Hid (decide (y < x) = Sh.aboveL a b) := Lib.hid (by have := HS.out; rwa [if_neg hxy] at this)
        have e1 : ¬ (x : Int) = (y : Int) := by omega
        have e2 : decide ((y : Int) < (x : Int)) = decide (y < x) := by simp
        go_wp2
        go_ret
        exact ⟨by rw [← HN.out]; rfl, rfl⟩
end Go.Proofs.YtbjchfcoacmaaaaGreatDoor
namespace Go.Proofs.YtbjchfcoacmaaaaGreatDoor
open Go.RowKit
set_option linter.unusedVariables false
theorem wrap32' (x : Nat) : IntKind.u32.wrap (x : Int) = ((x % 4294967296 : Nat) : Int) := by rw [IntKind.wrap_u32]; omega
def mulI (x : Nat) : Nat → List Nat
  | 0 => [x]
  | k + 1 => Sh.mulL (mulI x k) x
theorem mulI_length (x k : Nat) : (mulI x k).length = 1 + 4 * k := by
  induction k with
  | zero => rfl
  | succ k ih => rw [mulI, mulL_length, ih]; omega
def wholeL (n T : Nat) : List Nat := (List.replicate (T + 2) 0).set (T + 1) n
def leastB (x n T : Nat) : Bool := !Sh.aboveL (mulI x T) (wholeL n T)
theorem wholeL_length (n T : Nat) : (wholeL n T).length = T + 2 := by simp [wholeL]
def zc (m : Nat) : Array Value := (dcl (List.replicate m 0)).toArray
theorem mk_zc (w : World) (z : Int) (m : Nat) (hz : z = (m : Int)) (hn : m ≤ 100000) :
    (Instr.makeSlice 37 (.int .i64 z) (.int .i64 z)).run Tryz.prog w = .ok (.slice (some ⟨w.heap.size, 0, none⟩) m m) (w.alloc (.cells (zc m) 22)) := mk_u64 w z m hz hn
theorem zc_at (m i : Nat) (h : i < m) : (zc m)[i]? = some (.int .u64 0) := by simp [zc, dcl, h]
theorem zc_set (n T : Nat) : (zc (T + 2)).setIfInBounds (T + 1) (.int .u64 (n : Int)) = (dcl (wholeL n T)).toArray := by
  apply Array.toList_inj.1
  rw [Array.toList_setIfInBounds]
  unfold zc dcl wholeL
  rw [List.toList_toArray, List.toList_toArray, List.map_set]
set_option maxRecDepth 100000 in
set_option maxHeartbeats 1000000 in
theorem r_least (x n : Nat) (third : Bool) (T : Nat) (hT : T = if third then 2 else 1) (w : World) (hx : x < 18446744073709551616) (hn : n < 18446744073709551616) :
    Calls Tryz.prog 161 #[.int .u64 (x : Int), .int .u64 (n : Int), .bool third] w fun e w' => e = .returned (.bool (leastB x n T)) ∧ Below w.heap.size w w' := by
  have HN := Lib.hid hn
  have HX := Lib.hid hx
  have hT2 : T ≤ 2 := by rw [hT]; split <;> omega
  clear hn hx
  go_enter Tryz.func161, Tryz.ntmps161
  have H0 : Hid (Nums (w.alloc (.cells #[.int .u64 (x : Int)] 22)) w.heap.size (mulI x 0) ∧ Below w.heap.size w (w.alloc (.cells #[.int .u64 (x : Int)] 22))) :=
    Lib.hid ⟨nums_new w [x] (fun y hy => by rw [List.mem_singleton.1 hy]; exact HX.out), Kq.below_alloc w _⟩
  have key : ∀ (K : Act → World → Prop) (P : Prop), P → P := fun _ _ h => h
  clear key
  have HT := Lib.hid hT
  cases third with
  | false =>
    have hT1 : T = 1 := hT
    subst hT1
    clear hT
    go_wp2
    obtain ⟨w1, hw1⟩ : ∃ z, z = w.alloc (.cells #[.int .u64 (x : Int)] 22) := ⟨_, rfl⟩
    rw [← hw1] at H0 ⊢
    clear hw1
    go_loopw [7, 9] (fun p i wr => ∃ k G c : Nat, k ≤ 1 ∧ i = .int .i64 (k : Int) ∧ p = .slice (some ⟨G, 0, none⟩) (mulI x k).length c ∧ Nums wr G (mulI x k) ∧ Below w.heap.size w wr) (fun _ i _ => 1 - (intOf i).toNat)
    case atStart => exact ⟨0, w.heap.size, 1, by omega, rfl, rfl, H0.out⟩
    case round =>
      obtain ⟨k, G, c, hk, rfl, rfl, hI⟩ := hrel
      have HI := Lib.hid hI
      clear hI
      by_cases hlt : k < 1
      · have l1 : (k : Int) < 1 := by omega
        have HM := Lib.hid (r_multiply G (mulI x k) c x wr HI.out.1 HX.out (by rw [mulI_length]; omega))
        have HLN : Hid ((mulI x k).length + 4 = (mulI x (k + 1)).length) := Lib.hid (by rw [mulI_length, mulI_length]; omega)
        go_wp2_with fail
        refine HM.out.mono ?_
        rintro e w2 ⟨G2, rfl, hG2, hn2, hb2⟩
        rw [HLN.out]
        have H2 : Hid (Nums w2 G2 (mulI x (k + 1)) ∧ Below w.heap.size w w2) := Lib.hid ⟨hn2, HI.out.2.trans (hb2.mono HI.out.2.size)⟩
        clear hG2 hn2 hb2 HM
        go_wp2
        go_roundw
        case rel => exact ⟨k + 1, G2, _, by omega, by go_num, rfl, H2.out⟩
        case measure => simp [intOf]; omega
      · have hkT : k = 1 := by omega
        rw [hkT] at HI ⊢
        have HLM := Lib.hid (mulI_length x 1)
        obtain ⟨L, hL⟩ : ∃ L, L = mulI x 1 := ⟨_, rfl⟩
        have HLE := Lib.hid hL
        rw [← hL] at HI HLM ⊢
        clear hL
        have hmk := fun w => mk_zc w 3 3 (by omega) (by omega)
        have hz0 := zc_at 3 2 (by omega)
        have HSET := Lib.hid (zc_set n 1)
        clear hkT
        have d0 : ¬ (k : Int) < 1 := by omega
        go_wp2_with fail
        have e9 : (zc 3).setIfInBounds 2 (Value.int IntKind.u64 (n : Int)) = (dcl (wholeL n 1)).toArray := HSET.out
        rw [e9]
        clear e9 hmk hz0
        have H9 : Hid (Nums (wr.alloc (.cells (dcl (wholeL n 1)).toArray 22)) wr.heap.size (wholeL n 1) ∧ Nums (wr.alloc (.cells (dcl (wholeL n 1)).toArray 22)) G L ∧ Below w.heap.size w (wr.alloc (.cells (dcl (wholeL n 1)).toArray 22))) := Lib.hid (by
          refine ⟨nums_new wr _ (fun y hy => ?_), HI.out.1.below (Kq.below_alloc wr _), HI.out.2.trans ((Kq.below_alloc wr _).mono HI.out.2.size)⟩
          unfold wholeL at hy
          rcases List.mem_or_eq_of_mem_set hy with hy | rfl
          · rw [List.eq_of_mem_replicate hy]; decide
          · exact HN.out)
        generalize wr.alloc _ = w9 at *
        have HAB := Lib.hid (r_above G L c wr.heap.size (wholeL n 1) 3 w9 H9.out.2.1 H9.out.1 (by rw [HLM.out, wholeL_length]; omega))
        rw [show (wholeL n 1).length = 3 from wholeL_length n 1] at HAB
        have HR : Hid (Value.bool (!Sh.aboveL L (wholeL n 1)) = Value.bool (leastB x n 1)) := Lib.hid (by rw [HLE.out]; rfl)
        generalize Sh.aboveL L (wholeL n 1) = ab at *
        refine HAB.out.mono ?_
        rintro e w10 ⟨rfl, rfl⟩
        go_wp2
        go_ret
        exact ⟨by rw [← HR.out]; rfl, H9.out.2.2⟩
  | true =>
    have hT1 : T = 2 := hT
    subst hT1
    clear hT
    go_wp2
    obtain ⟨w1, hw1⟩ : ∃ z, z = w.alloc (.cells #[.int .u64 (x : Int)] 22) := ⟨_, rfl⟩
    rw [← hw1] at H0 ⊢
    clear hw1
    go_loopw [7, 9] (fun p i wr => ∃ k G c : Nat, k ≤ 2 ∧ i = .int .i64 (k : Int) ∧ p = .slice (some ⟨G, 0, none⟩) (mulI x k).length c ∧ Nums wr G (mulI x k) ∧ Below w.heap.size w wr) (fun _ i _ => 2 - (intOf i).toNat)
    case atStart => exact ⟨0, w.heap.size, 1, by omega, rfl, rfl, H0.out⟩
    case round =>
      obtain ⟨k, G, c, hk, rfl, rfl, hI⟩ := hrel
      have HI := Lib.hid hI
      clear hI
      by_cases hlt : k < 2
      · have l1 : (k : Int) < 2 := by omega
        have HM := Lib.hid (r_multiply G (mulI x k) c x wr HI.out.1 HX.out (by rw [mulI_length]; omega))
        have HLN : Hid ((mulI x k).length + 4 = (mulI x (k + 1)).length) := Lib.hid (by rw [mulI_length, mulI_length]; omega)
        go_wp2_with fail
        refine HM.out.mono ?_
        rintro e w2 ⟨G2, rfl, hG2, hn2, hb2⟩
        rw [HLN.out]
        have H2 : Hid (Nums w2 G2 (mulI x (k + 1)) ∧ Below w.heap.size w w2) := Lib.hid ⟨hn2, HI.out.2.trans (hb2.mono HI.out.2.size)⟩
        clear hG2 hn2 hb2 HM
        go_wp2
        go_roundw
        case rel => exact ⟨k + 1, G2, _, by omega, by go_num, rfl, H2.out⟩
        case measure => simp [intOf]; omega
      · have hkT : k = 2 := by omega
        rw [hkT] at HI ⊢
        have HLM := Lib.hid (mulI_length x 2)
        obtain ⟨L, hL⟩ : ∃ L, L = mulI x 2 := ⟨_, rfl⟩
        have HLE := Lib.hid hL
        rw [← hL] at HI HLM ⊢
        clear hL
        have hmk := fun w => mk_zc w 4 4 (by omega) (by omega)
        have hz0 := zc_at 4 3 (by omega)
        have HSET := Lib.hid (zc_set n 2)
        clear hkT
        have d0 : ¬ (k : Int) < 2 := by omega
        go_wp2_with fail
        have e9 : (zc 4).setIfInBounds 3 (Value.int IntKind.u64 (n : Int)) = (dcl (wholeL n 2)).toArray := HSET.out
        rw [e9]
        clear e9 hmk hz0
        have H9 : Hid (Nums (wr.alloc (.cells (dcl (wholeL n 2)).toArray 22)) wr.heap.size (wholeL n 2) ∧ Nums (wr.alloc (.cells (dcl (wholeL n 2)).toArray 22)) G L ∧ Below w.heap.size w (wr.alloc (.cells (dcl (wholeL n 2)).toArray 22))) := Lib.hid (by
          refine ⟨nums_new wr _ (fun y hy => ?_), HI.out.1.below (Kq.below_alloc wr _), HI.out.2.trans ((Kq.below_alloc wr _).mono HI.out.2.size)⟩
          unfold wholeL at hy
          rcases List.mem_or_eq_of_mem_set hy with hy | rfl
          · rw [List.eq_of_mem_replicate hy]; decide
          · exact HN.out)
        generalize wr.alloc _ = w9 at *
        have HAB := Lib.hid (r_above G L c wr.heap.size (wholeL n 2) 4 w9 H9.out.2.1 H9.out.1 (by rw [HLM.out, wholeL_length]; omega))
        rw [show (wholeL n 2).length = 4 from wholeL_length n 2] at HAB
        have HR : Hid (Value.bool (!Sh.aboveL L (wholeL n 2)) = Value.bool (leastB x n 2)) := Lib.hid (by rw [HLE.out]; rfl)
        generalize Sh.aboveL L (wholeL n 2) = ab at *
        refine HAB.out.mono ?_
        rintro e w10 ⟨rfl, rfl⟩
        go_wp2
        go_ret
        exact ⟨by rw [← HR.out]; rfl, H9.out.2.2⟩
theorem half_facts (lo hi d : Nat) (h : hi = lo + 2 * d) (hb : hi ≤ 68719476736) : IntKind.u64.wrap ((lo : Int) + (hi : Int)) = ((lo + hi : Nat) : Int) ∧ ((lo + hi : Nat) : Int) / 2 = ((lo + d : Nat) : Int) ∧ (lo + hi) / 2 = lo + d ∧ IntKind.u64.wrap ((hi : Int) - (lo : Int)) = ((2 * d : Nat) : Int) := by
  refine ⟨?_, by omega, by omega, ?_⟩
  · rw [IntKind.wrap_u64]; omega
  · rw [IntKind.wrap_u64]; omega
def rootB (n T : Nat) : Nat := Sh.bis (fun x => leastB x n T) 36 0 68719476736
set_option maxRecDepth 100000 in
set_option maxHeartbeats 1000000 in
theorem r_root (n : Nat) (third : Bool) (T : Nat) (hT : T = if third then 2 else 1) (w : World) (hn : n < 18446744073709551616) :
    Calls Tryz.prog 127 #[.int .u64 (n : Int), .bool third] w fun e w' => e = .returned (.int .u32 ((rootB n T % Sh.M32 : Nat) : Int)) ∧ Below w.heap.size w w' := by
  have KL := Lib.hid (fun x w hx => r_least x n third T hT w hx hn)
  clear hT hn
  go_enter Tryz.func127, Tryz.ntmps127
  go_wp2
  go_loopw [5, 6] (fun p q wr => ∃ f lo hi : Nat, p = .int .u64 (lo : Int) ∧ q = .int .u64 (hi : Int) ∧ hi = lo + 2 ^ f ∧ hi ≤ 68719476736 ∧ Sh.bis (fun x => leastB x n T) f lo hi = rootB n T ∧ Below w.heap.size w wr) (fun p q _ => (intOf q - intOf p).toNat)
  case atStart => exact ⟨36, 0, 68719476736, rfl, rfl, rfl, Nat.le_refl _, rfl, Below.refl _ _⟩
  case round =>
    obtain ⟨f, lo, hi, rfl, rfl, hd, hb, hr, hbel⟩ := hrel
    have HR := Lib.hid (And.intro hr hbel)
    clear hr hbel
    rcases f with _ | f
    · have e1 : hi = lo + 1 := by rw [hd]
      have e2 : IntKind.u64.wrap ((hi : Int) - (lo : Int)) = 1 := by rw [IntKind.wrap_u64]; omega
      have e3 : IntKind.u32.wrap (lo : Int) = ((lo % 4294967296 : Nat) : Int) := wrap32' lo
      have HE : Hid (lo = rootB n T) := Lib.hid HR.out.1
      obtain ⟨m, hm⟩ : ∃ m, m = lo % 4294967296 := ⟨_, rfl⟩
      rw [← hm] at e3
      have HM := Lib.hid hm
      clear hd e1 hm
      go_wp2
      go_ret
      exact ⟨by rw [← HE.out]; unfold Sh.M32; rw [← HM.out]; rfl, HR.out.2⟩
    · obtain ⟨d, hdd⟩ : ∃ d, d = 2 ^ f := ⟨_, rfl⟩
      have hd0 : 0 < d := by rw [hdd]; exact Nat.two_pow_pos f
      have hd2 : hi = lo + 2 * d := by rw [hd, hdd, Nat.pow_succ]; omega
      obtain ⟨q1, q2, q3, q4⟩ := half_facts lo hi d hd2 hb
      obtain ⟨mid, hmid⟩ : ∃ mid, mid = lo + d := ⟨_, rfl⟩
      obtain ⟨sm, hsm⟩ : ∃ sm, sm = lo + hi := ⟨_, rfl⟩
      obtain ⟨df, hdf⟩ : ∃ df, df = 2 * d := ⟨_, rfl⟩
      rw [← hmid, ← hsm] at q2
      rw [← hsm] at q1
      rw [← hdf] at q4
      rw [← hmid] at q3
      have q5 : (1 : Int) < (df : Int) := by omega
      have q6 : IntKind.u64.wrap (mid : Int) = (mid : Int) := by rw [IntKind.wrap_u64]; omega
      have HB : Hid (Sh.bis (fun x => leastB x n T) (f + 1) lo hi = rootB n T) := Lib.hid HR.out.1
      have HST : Hid ((if leastB mid n T = true then Sh.bis (fun x => leastB x n T) f mid hi else Sh.bis (fun x => leastB x n T) f lo mid) = rootB n T) := Lib.hid (by
        have := HB.out
        rw [Sh.bis, q3] at this
        exact this)
      have HAR := Lib.hid (show mid = lo + 2 ^ f ∧ hi = mid + 2 ^ f ∧ mid ≤ 68719476736 ∧ lo < mid ∧ mid < hi from ⟨by rw [hmid, hdd], by rw [hd2, hmid, hdd]; omega, by omega, by omega, by omega⟩)
      have HLB := Lib.hid (KL.out mid)
      have hmb : mid < 18446744073709551616 := by omega
      clear hd hdd hd0 hd2 hmid hsm hdf q3
      go_wp2_with fail
      refine (HLB.out wr hmb).mono ?_
      rintro e w2 ⟨rfl, hb2⟩
      have H2 := Lib.hid (HR.out.2.trans (hb2.mono HR.out.2.size))
      clear hb2 HLB hmb
      cases hl : leastB mid n T with
      | true =>
        have HN : Hid (Sh.bis (fun x => leastB x n T) f mid hi = rootB n T) := Lib.hid (by have := HST.out; rwa [if_pos hl] at this)
        clear hl HST
        go_wp2
        go_roundw
        case rel => exact ⟨f, mid, hi, rfl, rfl, HAR.out.2.1, hb, HN.out, H2.out⟩
        case measure => have := HAR.out; simp [intOf] <;> omega
      | false =>
        have HN : Hid (Sh.bis (fun x => leastB x n T) f lo mid = rootB n T) := Lib.hid (by have := HST.out; rwa [if_neg (by rw [hl]; decide)] at this)
        clear hl HST
        go_wp2
        go_roundw
        case rel => exact ⟨f, lo, mid, rfl, rfl, HAR.out.1, HAR.out.2.2.1, HN.out, H2.out⟩
        case measure => have := HAR.out; simp [intOf] <;> omega
end Go.Proofs.YtbjchfcoacmaaaaGreatDoor
