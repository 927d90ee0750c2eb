/- Contract of frame.parse. Condition: a sector's size. -/
import Derived.WalkSpells
import Derived.Test.YtfbjfleagilikaaWireRd2
import Derived.Test.YtfbjfleagilikaaFrMay
namespace Go.Proofs.Ytfbjfleagilikaa
open Go.RowKit
set_option linter.unusedVariables false
def dP (s : ByteArray) : ByteArray := if 21 + lenOf s ≤ s.size then s.extract 21 (21 + lenOf s) else ⟨#[]⟩
/-- what parse tells -/
def qOf (s : ByteArray) : FrP := { pOf s with d := dP s }
theorem ext_at (s : ByteArray) (k n : Nat) (h : k + n ≤ s.size) : WireM.raw 0 (s.extract k s.size) (n : Nat) = (s.extract k (k + n), 0, s.extract (k + n) s.size) := by
  have hz : (s.extract k s.size).size = s.size - k := by simp
  rw [WireM.raw_ok _ n (by omega)]
  congr 1
  · apply nl_inj
    rw [nl_extract, nl_extract, nl_extract, List.drop_zero, Nat.sub_zero, List.take_take]
    congr 1
    omega
  · congr 1
    apply nl_inj
    rw [nl_extract, nl_extract, nl_extract, hz]
    rw [List.drop_take, List.drop_drop, List.take_take]
    congr 1
    omega
theorem val_take1 (l : List Nat) (k : Nat) (h : k < l.length) : WireM.val ((l.drop k).take 1) = l.getD k 0 := by
  rw [List.drop_eq_getElem_cons h, List.take_succ_cons, List.take_zero, List.getD_eq_getElem?_getD, List.getElem?_eq_getElem h]
  simp [WireM.val]
theorem val_take2 (l : List Nat) (k : Nat) (h : k + 1 < l.length) : WireM.val ((l.drop k).take 2) = 256 * l.getD k 0 + l.getD (k + 1) 0 := by
  rw [List.drop_eq_getElem_cons (by omega), List.drop_eq_getElem_cons h, List.take_succ_cons, List.take_succ_cons, List.take_zero, List.getD_eq_getElem?_getD, List.getD_eq_getElem?_getD, List.getElem?_eq_getElem (by omega), List.getElem?_eq_getElem h]
  simp [WireM.val]; omega
theorem getD_lt (s : ByteArray) (k : Nat) : (nl s).getD k 0 < 256 := by
  rw [List.getD_eq_getElem?_getD]
  by_cases h : k < (nl s).length
  · rw [List.getElem?_eq_getElem h]; exact nl_lt s _ (List.getElem_mem _)
  · rw [List.getElem?_eq_none (by omega)]; decide
theorem val8_lt (s : ByteArray) (k : Nat) : WireM.val (((nl s).drop k).take 8) < M64 := by
  refine Nat.lt_of_lt_of_le (WireM.val_lt _ (fun b hb => nl_lt s b (List.mem_of_mem_drop (List.mem_of_mem_take hb)))) ?_
  have : (((nl s).drop k).take 8).length ≤ 8 := by rw [List.length_take]; omega
  exact Nat.le_trans (Nat.pow_le_pow_right (by decide) this) (by unfold M64; decide)
/-- while a sector is parsed: the reader, the part, the result's block -/
structure Pz (w0 : World) (B H R : Nat) (e : Int) (s : ByteArray) (g x i n : Int) (d : ByteArray) (w : World) : Prop where
  rd : Rd w B e s
  pb : w.heap[H]? = some (.cells #[.int .u64 g, .int .u64 x, .int .i64 i, .int .i64 n, .string d] 40 (0, 0))
  rb : w.heap[R]? = some (.cells #[.int .u64 0, .int .u64 0, .int .i64 0, .int .i64 0, .string ⟨#[]⟩] 40 (0, 0))
  ne : B ≠ H
  ne2 : B ≠ R
  ne3 : R ≠ H
  sz : s.size ≤ maxLen
  lt : w0.heap.size ≤ R ∧ w0.heap.size ≤ B ∧ w0.heap.size ≤ H
  bel : Below w0.heap.size w0 w
theorem Pz.read {w0 w w' : World} {B H R : Nat} {e e' : Int} {s s' : ByteArray} {g x i n : Int} {d : ByteArray} (h : Pz w0 B H R e s g x i n d w) (hr : Rd w' B e' s') (hs : s'.size ≤ maxLen) (hk : Kq.Keeps (· = B) w w') : Pz w0 B H R e' s' g x i n d w' :=
  ⟨hr, hk.blk h.pb (fun e => h.ne e.symm), hk.blk h.rb (fun e => h.ne2 e.symm), h.ne, h.ne2, h.ne3, hs, h.lt, h.bel.trans (hk.below h.bel.size (fun k _ e => by subst e; exact h.lt.2.1))⟩
theorem Pz.set {w0 w : World} {B H R : Nat} {e : Int} {s : ByteArray} {g x i n g' x' i' n' : Int} {d d' : ByteArray} (h : Pz w0 B H R e s g x i n d w) (k : Nat) (v : Value) (hp : (w.setCell ⟨H, k, none⟩ v).heap[H]? = some (.cells #[.int .u64 g', .int .u64 x', .int .i64 i', .int .i64 n', .string d'] 40 (0, 0))) : Pz w0 B H R e s g' x' i' n' d' (w.setCell ⟨H, k, none⟩ v) :=
  have hk : Kq.Keeps (· = H) w (w.setCell ⟨H, k, none⟩ v) := Kq.Keeps.setCell _ _ _ rfl
  ⟨hk.blk h.rd h.ne, hp, hk.blk h.rb h.ne3, h.ne, h.ne2, h.ne3, h.sz, h.lt, h.bel.trans (hk.below h.bel.size (fun k _ e => by subst e; exact h.lt.2.2))⟩
/-- five cells filled -/
def fill5 (w : World) (R : Nat) (g x i n : Int) (d : ByteArray) : World := ((((w.setCell ⟨R, 0, none⟩ (.int .u64 g)).setCell ⟨R, 1, none⟩ (.int .u64 x)).setCell ⟨R, 2, none⟩ (.int .i64 i)).setCell ⟨R, 3, none⟩ (.int .i64 n)).setCell ⟨R, 4, none⟩ (.string d)
theorem fill5_keeps (w : World) (R : Nat) (g x i n : Int) (d : ByteArray) : Kq.Keeps (· = R) w (fill5 w R g x i n d) :=
  ((((Kq.Keeps.setCell (S := (· = R)) w ⟨R, 0, none⟩ _ rfl).trans (Kq.Keeps.setCell (S := (· = R)) _ ⟨R, 1, none⟩ _ rfl)).trans (Kq.Keeps.setCell (S := (· = R)) _ ⟨R, 2, none⟩ _ rfl)).trans (Kq.Keeps.setCell (S := (· = R)) _ ⟨R, 3, none⟩ _ rfl)).trans (Kq.Keeps.setCell (S := (· = R)) _ ⟨R, 4, none⟩ _ rfl)
theorem fill5_blk {w : World} {R : Nat} {a b c d e : Value} {t : TypeId} (h : w.heap[R]? = some (.cells #[a, b, c, d, e] t (0, 0))) (g x i n : Int) (s : ByteArray) : (fill5 w R g x i n s).heap[R]? = some (.cells #[.int .u64 g, .int .u64 x, .int .i64 i, .int .i64 n, .string s] t (0, 0)) :=
  Kq.blk_set (Kq.blk_set (Kq.blk_set (Kq.blk_set (Kq.blk_set h 0 _) 1 _) 2 _) 3 _) 4 _
theorem Pz.start (w w1 : World) (s : ByteArray) (hs : s.size ≤ maxLen) (cs : Array Value) (hcs : cs = #[.int .u64 0, .int .u64 0, .int .i64 0, .int .i64 0, .string ⟨#[]⟩]) (hr : Rd w1 (w.heap.size + 1) 0 s) (hb : Below (w.alloc (.cells cs 40)).heap.size (w.alloc (.cells cs 40)) w1) :
    Pz w (w.heap.size + 1) w1.heap.size w.heap.size 0 s 0 0 0 0 ⟨#[]⟩ (w1.alloc (.cells cs 40)) := by
  subst hcs
  have hlt : w.heap.size + 1 < w1.heap.size := Kq.blk_lt hr
  have b1 := (Kq.below_alloc w (.cells #[.int .u64 0, .int .u64 0, .int .i64 0, .int .i64 0, .string ⟨#[]⟩] 40)).trans (hb.mono (Kq.below_alloc w _).size)
  refine ⟨?_, Kq.blk_new _ _ _ _, ?_, by omega, by omega, by omega, hs, by omega, b1.trans ((Kq.below_alloc w1 _).mono b1.size)⟩
  · show (w1.alloc _).heap[w.heap.size + 1]? = _
    rw [Below.heap_alloc _ _ _ hlt]; exact hr
  · rw [Below.heap_alloc _ _ _ (by omega)]
    exact Kq.below_blk hb (Kq.blk_new w _ _ _) (by simp)
set_option maxRecDepth 100000 in
set_option maxHeartbeats 2000000 in
theorem fr_parse (s : ByteArray) (w : World) (h64 : 64 ≤ s.size) (h5 : s.size ≤ 512) :
    Calls Try.prog 25 #[.string s] w fun e w' => e = .returned (qOf s).val ∧ Below w.heap.size w w' := by
  have HQ : Hid ((qOf s).val = .agg #[.int .u64 ((WireM.val (((nl s).drop 1).take 8) : Nat) : Int), .int .u64 ((WireM.val (((nl s).drop 9).take 8) : Nat) : Int), .int .i64 (((nl s).getD 17 0 : Nat) : Int), .int .i64 (((nl s).getD 18 0 : Nat) : Int), .string (dP s)]) := Lib.hid rfl
  have hml : ∀ k, (s.extract k s.size).size ≤ maxLen := fun k => by unfold maxLen; simp; omega
  have hL : (nl s).length = s.size := nl_length s
  have e1 := ext_at s 1 8 (by omega)
  have e2 := ext_at s 9 8 (by omega)
  have e3 := ext_at s 17 1 (by omega)
  have e4 := ext_at s 18 1 (by omega)
  have e5 := ext_at s 19 2 (by omega)
  have v1 : WireM.val (nl (s.extract 1 9)) = WireM.val (((nl s).drop 1).take 8) := by rw [nl_extract]
  have v2 : WireM.val (nl (s.extract 9 17)) = WireM.val (((nl s).drop 9).take 8) := by rw [nl_extract]
  have v3 : WireM.val (nl (s.extract 17 18)) = (nl s).getD 17 0 := by rw [nl_extract]; exact val_take1 _ _ (by omega)
  have v4 : WireM.val (nl (s.extract 18 19)) = (nl s).getD 18 0 := by rw [nl_extract]; exact val_take1 _ _ (by omega)
  have v5 : WireM.val (nl (s.extract 19 21)) = lenOf s := by rw [nl_extract]; exact val_take2 _ _ (by omega)
  have e6 : ∃ e6 s6, WireM.raw 0 (s.extract 21 s.size) (lenOf s : Nat) = (dP s, e6, s6) ∧ s6.size ≤ maxLen := by
    unfold dP
    by_cases h : 21 + lenOf s ≤ s.size
    · rw [if_pos h]; exact ⟨_, _, ext_at s 21 (lenOf s) h, hml _⟩
    · rw [if_neg h]
      exact ⟨_, _, WireM.raw_bad _ _ _ (Or.inr (by simp; omega)), hml _⟩
  obtain ⟨x6, s6, e6, z6⟩ := e6
  have G1 := val8_lt s 1
  have G2 := val8_lt s 9
  generalize WireM.val (((nl s).drop 1).take 8) = g at *
  generalize WireM.val (((nl s).drop 9).take 8) = x at *
  generalize (nl s).getD 17 0 = i at *
  generalize (nl s).getD 18 0 = n at *
  generalize dP s = d at *
  have E := Lib.hid (And.intro e1 (And.intro e2 (And.intro e3 (And.intro e4 (And.intro e5 (And.intro e6 z6))))))
  have V := Lib.hid (And.intro v1 (And.intro v2 (And.intro v3 (And.intro v4 v5))))
  have HML := Lib.hid hml
  rw [HQ.out]
  have h1s : (1 : Int) ≤ (s.size : Int) := by omega
  clear e1 e2 e3 e4 e5 e6 z6 v1 v2 v3 v4 v5 hml hL G1 G2 h64 h5 HQ
  go_enter Try.func25, Try.ntmps25
  go_wp2_with fail
  refine (rd_new (s.extract 1 s.size) _).mono ?_
  rintro e w1 ⟨rfl, R1, b1⟩
  rw [World.size_alloc] at R1
  have H0 := Lib.hid (Pz.start w w1 _ (HML.out 1) _ rfl R1 b1)
  rw [World.size_alloc]
  clear R1 b1
  generalize w.heap.size + 1 = B at *
  generalize hHB : w1.heap.size = HB at *
  generalize hRB : w.heap.size = RB at *
  go_wp2_with fail
  refine (rd_number B 0 _ _ H0.out.rd H0.out.sz).mono ?_
  rintro e w2 ⟨rfl, R1, K1⟩
  rw [E.out.1] at R1 ⊢
  rw [V.out.1]
  have A1 := Lib.hid (H0.out.read R1 (HML.out _) K1)
  clear R1 K1 H0
  have c0 := Kq.blk_cell A1.out.pb 0
  have f0 := Kq.blk_free A1.out.pb 0
  go_wp2_with fail
  have H1 := Lib.hid (A1.out.set 0 (.int .u64 (g : Int)) (Kq.blk_set A1.out.pb 0 _))
  clear c0 f0 A1
  refine (rd_number B 0 _ _ H1.out.rd H1.out.sz).mono ?_
  rintro e w3 ⟨rfl, R2, K2⟩
  rw [E.out.2.1] at R2 ⊢
  rw [V.out.2.1]
  have A2 := Lib.hid (H1.out.read R2 (HML.out _) K2)
  clear R2 K2 H1
  have c0 := Kq.blk_cell A2.out.pb 1
  have f0 := Kq.blk_free A2.out.pb 1
  go_wp2_with fail
  have H2 := Lib.hid (A2.out.set 1 (.int .u64 (x : Int)) (Kq.blk_set A2.out.pb 1 _))
  clear c0 f0 A2
  refine (rd_byte B 0 _ _ H2.out.rd H2.out.sz).mono ?_
  rintro e w4 ⟨rfl, R3, K3⟩
  rw [E.out.2.2.1] at R3 ⊢
  rw [V.out.2.2.1]
  have A3 := Lib.hid (H2.out.read R3 (HML.out _) K3)
  clear R3 K3 H2
  have c0 := Kq.blk_cell A3.out.pb 2
  have f0 := Kq.blk_free A3.out.pb 2
  go_wp2_with fail
  have H3 := Lib.hid (A3.out.set 2 (.int .i64 (i : Int)) (Kq.blk_set A3.out.pb 2 _))
  clear c0 f0 A3
  refine (rd_byte B 0 _ _ H3.out.rd H3.out.sz).mono ?_
  rintro e w5 ⟨rfl, R4, K4⟩
  rw [E.out.2.2.2.1] at R4 ⊢
  rw [V.out.2.2.2.1]
  have A4 := Lib.hid (H3.out.read R4 (HML.out _) K4)
  clear R4 K4 H3
  have c0 := Kq.blk_cell A4.out.pb 3
  have f0 := Kq.blk_free A4.out.pb 3
  go_wp2_with fail
  have H4 := Lib.hid (A4.out.set 3 (.int .i64 (n : Int)) (Kq.blk_set A4.out.pb 3 _))
  clear c0 f0 A4
  refine (rd_text B 0 _ _ H4.out.rd H4.out.sz).mono ?_
  intro e w6 hp
  unfold TextPost RawPost at hp
  rw [E.out.2.2.2.2.1] at hp
  simp only [V.out.2.2.2.2] at hp
  rw [E.out.2.2.2.2.2.1] at hp
  obtain ⟨rfl, R5, K5⟩ := hp
  have A5 := Lib.hid (H4.out.read R5 E.out.2.2.2.2.2.2 K5)
  clear R5 K5 H4
  have c0 := Kq.blk_cell A5.out.pb 0
  have c1 := Kq.blk_cell A5.out.pb 1
  have c2 := Kq.blk_cell A5.out.pb 2
  have c3 := Kq.blk_cell A5.out.pb 3
  have c4 := Kq.blk_cell A5.out.pb 4
  have f4 := Kq.blk_free A5.out.pb 4
  have H5 : Hid (Pz w B HB RB x6 s6 g x i n d (w6.setCell ⟨HB, 4, none⟩ (.string d))) := Lib.hid (A5.out.set 4 _ (Kq.blk_set A5.out.pb 4 _))
  have d0 := Kq.blk_cell H5.out.pb 0
  have d1 := Kq.blk_cell H5.out.pb 1
  have d2 := Kq.blk_cell H5.out.pb 2
  have d3 := Kq.blk_cell H5.out.pb 3
  have d4 := Kq.blk_cell H5.out.pb 4
  have r0 := Kq.blk_cell H5.out.rb 0
  have r1 := Kq.blk_cell H5.out.rb 1
  have r2 := Kq.blk_cell H5.out.rb 2
  have r3 := Kq.blk_cell H5.out.rb 3
  have r4 := Kq.blk_cell H5.out.rb 4
  have q0 := Kq.blk_free A5.out.rb 0
  have q1 := Kq.blk_free A5.out.rb 1
  have q2 := Kq.blk_free A5.out.rb 2
  have q3 := Kq.blk_free A5.out.rb 3
  have q4 := Kq.blk_free A5.out.rb 4
  clear A5
  go_wp2
  clear c0 c1 c2 c3 c4 f4 d0 d1 d2 d3 d4 r0 r1 r2 r3 r4 q0 q1 q2 q3 q4
  change bodyPost _ _ _ _ _ (fill5 (w6.setCell ⟨HB, 4, none⟩ (.string d)) RB (g : Int) (x : Int) (i : Int) (n : Int) d)
  have p1 := fill5_blk H5.out.rb (g : Int) (x : Int) (i : Int) (n : Int) d
  have p2 := fill5_keeps (w6.setCell ⟨HB, 4, none⟩ (.string d)) RB (g : Int) (x : Int) (i : Int) (n : Int) d
  generalize fill5 (w6.setCell ⟨HB, 4, none⟩ (.string d)) RB (g : Int) (x : Int) (i : Int) (n : Int) d = z at *
  have z0 := Kq.blk_cell p1 0
  have z1 := Kq.blk_cell p1 1
  have z2 := Kq.blk_cell p1 2
  have z3 := Kq.blk_cell p1 3
  have z4 := Kq.blk_cell p1 4
  refine bodyPost_ret (v := .agg #[.int .u64 (g : Int), .int .u64 (x : Int), .int .i64 (i : Int), .int .i64 (n : Int), .string d]) (by simp [results, Try.results25, go_sem, z0, z1, z2, z3, z4]) rfl ?_
  exact ⟨rfl, H5.out.bel.trans (p2.below H5.out.bel.size (fun k _ e => by have := H5.out.lt.1; omega))⟩
end Go.Proofs.Ytfbjfleagilikaa
