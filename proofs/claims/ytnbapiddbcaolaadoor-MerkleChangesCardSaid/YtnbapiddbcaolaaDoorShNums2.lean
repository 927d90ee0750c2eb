/- Contracts of carrackref01's spread, multiply, digit, above. Condition: sizes. -/
import Derived.Test.YtnbapiddbcaolaaDoorShNums
namespace Go.Proofs.YtnbapiddbcaolaaDoor
open Go.RowKit
set_option linter.unusedVariables false
theorem infoU64H : (Tryd.prog.info? 59).map (fun i => (i.zero, i.size, i.bytes)) = some (some (.int .u64 0), 1, 8) := by kernel_rfl
theorem mk_u64 (w : World) (z : Int) (n : Nat) (hz : z = (n : Int)) (hn : n ≤ 100000) :
    (Instr.makeSlice 74 (.int .i64 z) (.int .i64 z)).run Tryd.prog w = .ok (.slice (some ⟨w.heap.size, 0, none⟩) n n) (w.alloc (.cells (dcl (List.replicate n 0)).toArray 59)) := by
  obtain ⟨i0, hi, hz0, hz1, hz2⟩ := info_partsH infoU64H
  subst hz
  have := run_makeSlice (P := Tryd.prog) w 74 59 i0 (.int .u64 0) Tryd.underlying74 hi hz0 .i64 .i64 (n : Int) (n : Int) (by omega) (Int.le_refl _) (by rw [hz1]; simp; omega) (by rw [hz2]; omega) (by omega)
  rw [hz1] at this
  have e : madeCells (Value.int IntKind.u64 0).cells n = (dcl (List.replicate n 0)).toArray := by
    apply Array.toList_inj.1
    rw [show (Value.int IntKind.u64 0).cells = #[Value.int IntKind.u64 0] from rfl, toList_madeCells_one]
    simp [dcl]
  simpa [e] using this
theorem nums_new (w : World) (l : List Nat) (hl : ∀ x ∈ l, x < 18446744073709551616) : Nums (w.alloc (.cells (dcl l).toArray 59)) w.heap.size l := ⟨Kq.blk_new w _ _ _, hl⟩
def spreadK (p : List Nat) (k : Nat) : List Nat := (List.range k).foldl (fun l i => Sh.addL l i (p.getD i 0)) (List.replicate (p.length + 1) 0)
theorem spreadK_succ (p : List Nat) (k : Nat) : spreadK p (k + 1) = Sh.addL (spreadK p k) k (p.getD k 0) := by unfold spreadK; rw [List.range_succ, List.foldl_append]; rfl
theorem spreadK_length (p : List Nat) (k : Nat) : (spreadK p k).length = p.length + 1 := by
  induction k with
  | zero => simp [spreadK]
  | succ k ih => rw [spreadK_succ, addL_length, ih]
theorem keeps_new {w wr w' : World} {G : Nat} (hb : Below w.heap.size w wr) (hk : Kq.Keeps (· = G) wr w') (hG : w.heap.size ≤ G) : Below w.heap.size w w' := by
  have k1 : Kq.Keeps (fun j => w.heap.size ≤ j) w wr := Kq.Keeps.of_below hb (fun j h1 _ => h1)
  exact (k1.trans (hk.mono (fun j _ e => by rw [e]; exact hG))).below (Nat.le_refl _) (fun j _ hj => hj)
theorem Nums.below {w w' : World} {G : Nat} {l : List Nat} (h : Nums w G l) (hb : Below w.heap.size w w') : Nums w' G l := ⟨Kq.below_blk hb h.blk h.size, h.lt⟩
set_option maxRecDepth 100000 in
set_option maxHeartbeats 1000000 in
theorem r_spread (G : Nat) (p : List Nat) (c : Nat) (w : World) (h : Nums w G p) (hp : p.length ≤ 100) :
    Calls Tryd.prog 61 #[.slice (some ⟨G, 0, none⟩) p.length c] w fun e w' => e = .returned (.slice (some ⟨w.heap.size, 0, none⟩) (p.length + 1) (p.length + 1)) ∧ Nums w' w.heap.size (Sh.spreadL p) ∧ Below w.heap.size w w' := by
  have H := Lib.hid h
  clear h
  have hmk := fun w => mk_u64 w ((p.length : Int) + 1) (p.length + 1) (by omega) (by omega)
  go_enter Tryd.func61, Tryd.ntmps61
  go_wp2
  have H0 : Hid (Nums (w.alloc (.cells (dcl (List.replicate (p.length + 1) 0)).toArray 59)) w.heap.size (spreadK p 0) ∧ Below w.heap.size w (w.alloc (.cells (dcl (List.replicate (p.length + 1) 0)).toArray 59))) :=
    Lib.hid ⟨nums_new w _ (fun x hx => by rw [List.eq_of_mem_replicate hx]; decide), Kq.below_alloc w _⟩
  generalize w.alloc _ = w1 at *
  clear hmk
  go_loopw [4] (fun i wr => ∃ k : Nat, k ≤ p.length ∧ i = .int .i64 (k : Int) ∧ Nums wr w.heap.size (spreadK p k) ∧ Below w.heap.size w wr) (fun i _ => p.length - (intOf i).toNat)
  case atStart => exact ⟨0, Nat.zero_le _, rfl, H0.out⟩
  case round =>
    obtain ⟨k, hk, rfl, hI⟩ := hrel
    have HI := Lib.hid hI
    clear hI
    by_cases hlt : k < p.length
    · have l1 : (k : Int) < (p.length : Int) := by omega
      have c0 := (H.out.below HI.out.2).cell k hlt
      have HAD := Lib.hid (r_add w.heap.size (spreadK p k) (p.length + 1) k (p.getD k 0) wr HI.out.1 (getD64 p H.out.lt k) (by omega) (by rw [spreadK_length]; omega))
      rw [← spreadK_succ, spreadK_length] at HAD
      generalize p.getD k 0 = v at *
      go_wp2_with fail
      refine HAD.out.mono ?_
      rintro x w2 ⟨rfl, hn, hk2⟩
      have H2 : Hid (Nums w2 w.heap.size (spreadK p (k + 1)) ∧ Below w.heap.size w w2) := Lib.hid ⟨hn, keeps_new HI.out.2 hk2 (Nat.le_refl _)⟩
      clear hn hk2 c0
      go_wp2
      go_roundw
      case rel => exact ⟨k + 1, by omega, by go_num, H2.out⟩
      case measure => simp [intOf]; omega
    · have hkl : k = p.length := by omega
      rw [hkl] at HI
      clear hkl
      go_wp2
      go_ret
      exact ⟨rfl, HI.out⟩
def mulK (q : List Nat) (x k : Nat) : List Nat := (List.range k).foldl (fun l i => Sh.addL (Sh.addL l i (q.getD i 0 * (x % Sh.M32) % Sh.W64)) (i + 1) (q.getD i 0 * (x / Sh.M32) % Sh.W64)) (List.replicate (q.length + 3) 0)
theorem mulK_succ (q : List Nat) (x k : Nat) : mulK q x (k + 1) = Sh.addL (Sh.addL (mulK q x k) k (q.getD k 0 * (x % Sh.M32) % Sh.W64)) (k + 1) (q.getD k 0 * (x / Sh.M32) % Sh.W64) := by unfold mulK; rw [List.range_succ, List.foldl_append]; rfl
theorem mulK_length (q : List Nat) (x k : Nat) : (mulK q x k).length = q.length + 3 := by
  induction k with
  | zero => simp [mulK]
  | succ k ih => rw [mulK_succ, addL_length, addL_length, ih]
theorem mulL_eq (p : List Nat) (x : Nat) : Sh.mulL p x = mulK (Sh.spreadL p) x (p.length + 1) := by
  have h : (Sh.spreadL p).length = p.length + 1 := spreadK_length p p.length
  unfold Sh.mulL mulK
  simp only [h]
theorem mulL_length (p : List Nat) (x : Nat) : (Sh.mulL p x).length = p.length + 4 := by
  rw [mulL_eq, mulK_length, show (Sh.spreadL p).length = p.length + 1 from spreadK_length p p.length]
theorem mul64 (a b : Nat) : IntKind.u64.wrap ((a : Int) * (b : Int)) = ((a * b % Sh.W64 : Nat) : Int) := by
  have : (a : Int) * (b : Int) = ((a * b : Nat) : Int) := by norm_cast
  rw [this, IntKind.wrap_u64]
  unfold Sh.W64
  omega
set_option maxRecDepth 100000 in
set_option maxHeartbeats 1000000 in
theorem r_multiply (G : Nat) (p : List Nat) (c x : Nat) (w : World) (h : Nums w G p) (hx : x < 18446744073709551616) (hp : p.length ≤ 100) :
    Calls Tryd.prog 56 #[.slice (some ⟨G, 0, none⟩) p.length c, .int .u64 (x : Int)] w fun e w' => ∃ G', e = .returned (.slice (some ⟨G', 0, none⟩) (p.length + 4) (p.length + 4)) ∧ w.heap.size ≤ G' ∧ Nums w' G' (Sh.mulL p x) ∧ Below w.heap.size w w' := by
  have H := Lib.hid h
  clear h
  go_enter Tryd.func56, Tryd.ntmps56
  go_wp2_with fail
  refine (r_spread G p c w H.out hp).mono ?_
  rintro e w1 ⟨rfl, hn1, hb1⟩
  have H1 := Lib.hid (And.intro hn1 hb1)
  have HSZ : Hid (w.heap.size < w1.heap.size) := Lib.hid hn1.size
  clear hn1 hb1
  have HQL : Hid ((Sh.spreadL p).length = p.length + 1) := Lib.hid (spreadK_length p p.length)
  have HRES := Lib.hid (mulL_eq p x)
  obtain ⟨q, hq⟩ : ∃ q, q = Sh.spreadL p := ⟨_, rfl⟩
  rw [← hq] at H1 HQL HRES
  clear hq
  obtain ⟨n, hn⟩ : ∃ n, n = p.length + 1 := ⟨_, rfl⟩
  have HN := Lib.hid hn
  rw [← hn] at HQL HRES ⊢
  have hn100 : n ≤ 101 := by omega
  clear hn
  obtain ⟨lo, hlo⟩ : ∃ lo, lo = x % Sh.M32 := ⟨_, rfl⟩
  obtain ⟨hi, hhi⟩ : ∃ hi, hi = x / Sh.M32 := ⟨_, rfl⟩
  have e1 : (x : Int) % 4294967296 = (lo : Int) := by rw [hlo]; unfold Sh.M32; omega
  have e2 : (x : Int) / 4294967296 = (hi : Int) := by rw [hhi]; unfold Sh.M32; omega
  have hloB : lo < 18446744073709551616 := by rw [hlo]; unfold Sh.M32; omega
  have hhiB : hi < 18446744073709551616 := by rw [hhi]; unfold Sh.M32; omega
  have e3 : IntKind.u64.wrap (lo : Int) = (lo : Int) := by rw [IntKind.wrap_u64]; omega
  have e4 : IntKind.u64.wrap (hi : Int) = (hi : Int) := by rw [IntKind.wrap_u64]; omega
  have HLH := Lib.hid (And.intro hlo hhi)
  clear hlo hhi
  have hmk := fun w => mk_u64 w ((n : Int) + 3) (n + 3) (by omega) (by omega)
  go_wp2
  have H0 : Hid (Nums (w1.alloc (.cells (dcl (List.replicate (n + 3) 0)).toArray 59)) w1.heap.size (mulK q x 0) ∧ Below w.heap.size w (w1.alloc (.cells (dcl (List.replicate (n + 3) 0)).toArray 59)) ∧ Below w1.heap.size w1 (w1.alloc (.cells (dcl (List.replicate (n + 3) 0)).toArray 59))) :=
    Lib.hid (by
      refine ⟨?_, H1.out.2.trans ((Kq.below_alloc w1 _).mono H1.out.2.size), Kq.below_alloc w1 _⟩
      have : mulK q x 0 = List.replicate (n + 3) 0 := by unfold mulK; rw [HQL.out]; rfl
      rw [this]
      exact nums_new w1 _ (fun x hx => by rw [List.eq_of_mem_replicate hx]; decide))
  obtain ⟨w2, hw2⟩ : ∃ z, z = w1.alloc (.cells (dcl (List.replicate (n + 3) 0)).toArray 59) := ⟨_, rfl⟩
  rw [← hw2] at H0 ⊢
  (try rw [e1])
  clear hmk hw2 e1 e2 e3 e4
  go_loopw [8] (fun i wr => ∃ k : Nat, k ≤ n ∧ i = .int .i64 (k : Int) ∧ Nums wr w1.heap.size (mulK q x k) ∧ Below w.heap.size w wr ∧ Below w1.heap.size w1 wr) (fun i _ => n - (intOf i).toNat)
  case atStart => exact ⟨0, Nat.zero_le _, rfl, H0.out⟩
  case round =>
    obtain ⟨k, hk, rfl, hI⟩ := hrel
    have HI := Lib.hid hI
    clear hI
    by_cases hlt : k < n
    · have l1 : (k : Int) < (n : Int) := by omega
      have c0 := (H1.out.1.below HI.out.2.2).cell k (by rw [HQL.out]; exact hlt)
      have m1 := mul64 (q.getD k 0) lo
      have m2 := mul64 (q.getD k 0) hi
      have HMS := Lib.hid (mulK_succ q x k)
      have HML : Hid ((mulK q x k).length = n + 3) := Lib.hid (by rw [mulK_length, HQL.out])
      rw [← HLH.out.1, ← HLH.out.2] at HMS
      generalize q.getD k 0 = v at *
      obtain ⟨y1, hy1⟩ : ∃ y, y = v * lo % Sh.W64 := ⟨_, rfl⟩
      obtain ⟨y2, hy2⟩ : ∃ y, y = v * hi % Sh.W64 := ⟨_, rfl⟩
      have b1 : y1 < 18446744073709551616 := by rw [hy1]; exact Nat.mod_lt _ (by decide)
      have b2 : y2 < 18446744073709551616 := by rw [hy2]; exact Nat.mod_lt _ (by decide)
      rw [← hy1] at m1 HMS
      rw [← hy2] at m2 HMS
      clear hy1 hy2
      have HA1 := Lib.hid (r_add w1.heap.size (mulK q x k) (n + 3) k y1 wr HI.out.1 b1 (by omega) (by rw [HML.out]; omega))
      rw [HML.out] at HA1
      have HL2 : Hid ((Sh.addL (mulK q x k) k y1).length = n + 3) := Lib.hid (by rw [addL_length, HML.out])
      go_wp2_with fail
      refine HA1.out.mono ?_
      rintro e w3 ⟨rfl, hn3, hk3⟩
      have H3 := Lib.hid (show Nums w3 w1.heap.size (Sh.addL (mulK q x k) k y1) ∧ Below w.heap.size w w3 ∧ Below w1.heap.size w1 w3 from ⟨hn3, keeps_new HI.out.2.1 hk3 (Nat.le_of_lt (Nat.lt_of_lt_of_le HSZ.out (Nat.le_refl _))), keeps_new HI.out.2.2 hk3 (Nat.le_refl _)⟩)
      have c0' : w3.cell? ⟨w.heap.size, k, none⟩ = some (.int .u64 (v : Int)) := by
        rw [World.cell?_of_block (hk3.block w.heap.size (by have := HSZ.out; have := HI.out.2.2.size; omega) (show ¬ w.heap.size = w1.heap.size by have := HSZ.out; omega))]
        exact c0
      clear hn3 hk3 c0 HA1 m1
      have HA2 := Lib.hid (r_add w1.heap.size (Sh.addL (mulK q x k) k y1) (n + 3) (k + 1) y2 w3 H3.out.1 b2 (by omega) (by rw [HL2.out]; omega))
      rw [HL2.out, ← HMS.out] at HA2
      have e5 : ((k + 1 : Nat) : Int) = (k : Int) + 1 := by omega
      rw [e5] at HA2
      clear e5
      go_wp2_with fail
      refine HA2.out.mono ?_
      rintro e w4 ⟨rfl, hn4, hk4⟩
      have H4 := Lib.hid (show Nums w4 w1.heap.size (mulK q x (k + 1)) ∧ Below w.heap.size w w4 ∧ Below w1.heap.size w1 w4 from ⟨hn4, keeps_new H3.out.2.1 hk4 (Nat.le_of_lt (Nat.lt_of_lt_of_le HSZ.out (Nat.le_refl _))), keeps_new H3.out.2.2 hk4 (Nat.le_refl _)⟩)
      clear hn4 hk4 c0' HA2 m2 b1 b2
      go_wp2
      go_roundw
      case rel => exact ⟨k + 1, by omega, by go_num, H4.out⟩
      case measure => simp [intOf]; omega
    · have hkl : k = n := by omega
      rw [hkl, ← HRES.out] at HI
      clear hkl
      go_wp2
      go_ret
      exact ⟨w1.heap.size, congrArg (fun z => Ending.returned (Value.slice (some ⟨w1.heap.size, 0, none⟩) z z)) (show n + 3 = p.length + 4 by have := HN.out; omega), Nat.le_of_lt HSZ.out, HI.out.1, HI.out.2.1⟩
end Go.Proofs.YtnbapiddbcaolaaDoor
