/- Merged: FrParse, FrRead. Contract of frame.parse. Condition: a sector's size. Contract of frame.Read. Condition: lengths are ints. -/
import Derived.WalkSpells
import Derived.Test.YtbpgfhcecanikaaGreatWireRd2Q
import Derived.Test.YtbpgfhcecanikaaGreatFrMayQ
import Derived.Test.YtbpgfhcecanikaaGreatStrsOpenQ
import Derived.Test.YtbpgfhcecanikaaGreatHdMQ
import Derived.Deep.RegionHeld
import Derived.Test.YtbpgfhcecanikaaGreatHeldMonoQ
namespace Go.Proofs.YtbpgfhcecanikaaGreat
open Go.RowKit
set_option linter.unusedVariables false
def dP (s : ByteArray) : ByteArray := if 21 + lenOf s ≤ s.size then s.extract 21 (21 + lenOf s) else ⟨#[]⟩
/-- what parse tells -/
def qOf (s : ByteArray) : FrP := { pOf s with d := dP s }
theorem ext_at (s : ByteArray) (k n : Nat) (h : k + n ≤ s.size) : WireM.raw 0 (s.extract k s.size) (n : Nat) = (s.extract k (k + n), 0, s.extract (k + n) s.size) := by
  have hz : (s.extract k s.size).size = s.size - k := by simp
  rw [WireM.raw_ok _ n (by omega)]
  congr 1
  · apply nl_inj
    rw [nl_extract, nl_extract, nl_extract, List.drop_zero, Nat.sub_zero, List.take_take]
    congr 1
    omega
  · congr 1
    apply nl_inj
    rw [nl_extract, nl_extract, nl_extract, hz]
    rw [List.drop_take, List.drop_drop, List.take_take]
    congr 1
    omega
theorem val_take1 (l : List Nat) (k : Nat) (h : k < l.length) : WireM.val ((l.drop k).take 1) = l.getD k 0 := by
  rw [List.drop_eq_getElem_cons h, List.take_succ_cons, List.take_zero, List.getD_eq_getElem?_getD, List.getElem?_eq_getElem h]
  simp [WireM.val]
theorem val_take2 (l : List Nat) (k : Nat) (h : k + 1 < l.length) : WireM.val ((l.drop k).take 2) = 256 * l.getD k 0 + l.getD (k + 1) 0 := by
  rw [List.drop_eq_getElem_cons (by omega), List.drop_eq_getElem_cons h, List.take_succ_cons, List.take_succ_cons, List.take_zero, List.getD_eq_getElem?_getD, List.getD_eq_getElem?_getD, List.getElem?_eq_getElem (by omega), List.getElem?_eq_getElem h]
  simp [WireM.val]; omega
theorem getD_lt (s : ByteArray) (k : Nat) : (nl s).getD k 0 < 256 := by
  rw [List.getD_eq_getElem?_getD]
  by_cases h : k < (nl s).length
  · rw [List.getElem?_eq_getElem h]; exact nl_lt s _ (List.getElem_mem _)
  · rw [List.getElem?_eq_none (by omega)]; decide
theorem val8_lt (s : ByteArray) (k : Nat) : WireM.val (((nl s).drop k).take 8) < M64 := by
  refine Nat.lt_of_lt_of_le (WireM.val_lt _ (fun b hb => nl_lt s b (List.mem_of_mem_drop (List.mem_of_mem_take hb)))) ?_
  have : (((nl s).drop k).take 8).length ≤ 8 := by rw [List.length_take]; omega
  exact Nat.le_trans (Nat.pow_le_pow_right (by decide) this) (by unfold M64; decide)
/-- while a sector is parsed: the reader, the part, the result's block -/
structure Pz (w0 : World) (B H R : Nat) (e : Int) (s : ByteArray) (g x i n : Int) (d : ByteArray) (w : World) : Prop where
  rd : Rd w B e s
  pb : w.heap[H]? = some (.cells #[.int .u64 g, .int .u64 x, .int .i64 i, .int .i64 n, .string d] 118 (0, 0))
  rb : w.heap[R]? = some (.cells #[.int .u64 0, .int .u64 0, .int .i64 0, .int .i64 0, .string ⟨#[]⟩] 118 (0, 0))
  ne : B ≠ H
  ne2 : B ≠ R
  ne3 : R ≠ H
  sz : s.size ≤ maxLen
  lt : w0.heap.size ≤ R ∧ w0.heap.size ≤ B ∧ w0.heap.size ≤ H
  bel : Below w0.heap.size w0 w
theorem Pz.read {w0 w w' : World} {B H R : Nat} {e e' : Int} {s s' : ByteArray} {g x i n : Int} {d : ByteArray} (h : Pz w0 B H R e s g x i n d w) (hr : Rd w' B e' s') (hs : s'.size ≤ maxLen) (hk : Kq.Keeps (· = B) w w') : Pz w0 B H R e' s' g x i n d w' :=
  ⟨hr, hk.blk h.pb (fun e => h.ne e.symm), hk.blk h.rb (fun e => h.ne2 e.symm), h.ne, h.ne2, h.ne3, hs, h.lt, h.bel.trans (hk.below h.bel.size (fun k _ e => by subst e; exact h.lt.2.1))⟩
theorem Pz.set {w0 w : World} {B H R : Nat} {e : Int} {s : ByteArray} {g x i n g' x' i' n' : Int} {d d' : ByteArray} (h : Pz w0 B H R e s g x i n d w) (k : Nat) (v : Value) (hp : (w.setCell ⟨H, k, none⟩ v).heap[H]? = some (.cells #[.int .u64 g', .int .u64 x', .int .i64 i', .int .i64 n', .string d'] 118 (0, 0))) : Pz w0 B H R e s g' x' i' n' d' (w.setCell ⟨H, k, none⟩ v) :=
  have hk : Kq.Keeps (· = H) w (w.setCell ⟨H, k, none⟩ v) := Kq.Keeps.setCell _ _ _ rfl
  ⟨hk.blk h.rd h.ne, hp, hk.blk h.rb h.ne3, h.ne, h.ne2, h.ne3, h.sz, h.lt, h.bel.trans (hk.below h.bel.size (fun k _ e => by subst e; exact h.lt.2.2))⟩
/-- five cells filled -/
def fill5 (w : World) (R : Nat) (g x i n : Int) (d : ByteArray) : World := ((((w.setCell ⟨R, 0, none⟩ (.int .u64 g)).setCell ⟨R, 1, none⟩ (.int .u64 x)).setCell ⟨R, 2, none⟩ (.int .i64 i)).setCell ⟨R, 3, none⟩ (.int .i64 n)).setCell ⟨R, 4, none⟩ (.string d)
theorem fill5_keeps (w : World) (R : Nat) (g x i n : Int) (d : ByteArray) : Kq.Keeps (· = R) w (fill5 w R g x i n d) :=
  ((((Kq.Keeps.setCell (S := (· = R)) w ⟨R, 0, none⟩ _ rfl).trans (Kq.Keeps.setCell (S := (· = R)) _ ⟨R, 1, none⟩ _ rfl)).trans (Kq.Keeps.setCell (S := (· = R)) _ ⟨R, 2, none⟩ _ rfl)).trans (Kq.Keeps.setCell (S := (· = R)) _ ⟨R, 3, none⟩ _ rfl)).trans (Kq.Keeps.setCell (S := (· = R)) _ ⟨R, 4, none⟩ _ rfl)
theorem fill5_blk {w : World} {R : Nat} {a b c d e : Value} {t : TypeId} (h : w.heap[R]? = some (.cells #[a, b, c, d, e] t (0, 0))) (g x i n : Int) (s : ByteArray) : (fill5 w R g x i n s).heap[R]? = some (.cells #[.int .u64 g, .int .u64 x, .int .i64 i, .int .i64 n, .string s] t (0, 0)) :=
  Kq.blk_set (Kq.blk_set (Kq.blk_set (Kq.blk_set (Kq.blk_set h 0 _) 1 _) 2 _) 3 _) 4 _
theorem Pz.start (w w1 : World) (s : ByteArray) (hs : s.size ≤ maxLen) (cs : Array Value) (hcs : cs = #[.int .u64 0, .int .u64 0, .int .i64 0, .int .i64 0, .string ⟨#[]⟩]) (hr : Rd w1 (w.heap.size + 1) 0 s) (hb : Below (w.alloc (.cells cs 118)).heap.size (w.alloc (.cells cs 118)) w1) :
    Pz w (w.heap.size + 1) w1.heap.size w.heap.size 0 s 0 0 0 0 ⟨#[]⟩ (w1.alloc (.cells cs 118)) := by
  subst hcs
  have hlt : w.heap.size + 1 < w1.heap.size := Kq.blk_lt hr
  have b1 := (Kq.below_alloc w (.cells #[.int .u64 0, .int .u64 0, .int .i64 0, .int .i64 0, .string ⟨#[]⟩] 118)).trans (hb.mono (Kq.below_alloc w _).size)
  refine ⟨?_, Kq.blk_new _ _ _ _, ?_, by omega, by omega, by omega, hs, by omega, b1.trans ((Kq.below_alloc w1 _).mono b1.size)⟩
  · show (w1.alloc _).heap[w.heap.size + 1]? = _
    rw [Below.heap_alloc _ _ _ hlt]; exact hr
  · rw [Below.heap_alloc _ _ _ (by omega)]
    exact Kq.below_blk hb (Kq.blk_new w _ _ _) (by simp)
set_option maxRecDepth 100000 in
set_option maxHeartbeats 2000000 in
theorem fr_parse (s : ByteArray) (w : World) (h64 : 64 ≤ s.size) (h5 : s.size ≤ 512) :
    Calls Tryz.prog 101 #[.string s] w fun e w' => e = .returned (qOf s).val ∧ Below w.heap.size w w' := by
  have HQ : Hid ((qOf s).val = .agg #[.int .u64 ((WireM.val (((nl s).drop 1).take 8) : Nat) : Int), .int .u64 ((WireM.val (((nl s).drop 9).take 8) : Nat) : Int), .int .i64 (((nl s).getD 17 0 : Nat) : Int), .int .i64 (((nl s).getD 18 0 : Nat) : Int), .string (dP s)]) := Lib.hid rfl
  have hml : ∀ k, (s.extract k s.size).size ≤ maxLen := fun k => by unfold maxLen; simp; omega
  have hL : (nl s).length = s.size := nl_length s
  have e1 := ext_at s 1 8 (by omega)
  have e2 := ext_at s 9 8 (by omega)
  have e3 := ext_at s 17 1 (by omega)
  have e4 := ext_at s 18 1 (by omega)
  have e5 := ext_at s 19 2 (by omega)
  have v1 : WireM.val (nl (s.extract 1 9)) = WireM.val (((nl s).drop 1).take 8) := by rw [nl_extract]
  have v2 : WireM.val (nl (s.extract 9 17)) = WireM.val (((nl s).drop 9).take 8) := by rw [nl_extract]
  have v3 : WireM.val (nl (s.extract 17 18)) = (nl s).getD 17 0 := by rw [nl_extract]; exact val_take1 _ _ (by omega)
  have v4 : WireM.val (nl (s.extract 18 19)) = (nl s).getD 18 0 := by rw [nl_extract]; exact val_take1 _ _ (by omega)
  have v5 : WireM.val (nl (s.extract 19 21)) = lenOf s := by rw [nl_extract]; exact val_take2 _ _ (by omega)
  have e6 : ∃ e6 s6, WireM.raw 0 (s.extract 21 s.size) (lenOf s : Nat) = (dP s, e6, s6) ∧ s6.size ≤ maxLen := by
    unfold dP
    by_cases h : 21 + lenOf s ≤ s.size
    · rw [if_pos h]; exact ⟨_, _, ext_at s 21 (lenOf s) h, hml _⟩
    · rw [if_neg h]
      exact ⟨_, _, WireM.raw_bad _ _ _ (Or.inr (by simp; omega)), hml _⟩
  obtain ⟨x6, s6, e6, z6⟩ := e6
  have G1 := val8_lt s 1
  have G2 := val8_lt s 9
  generalize WireM.val (((nl s).drop 1).take 8) = g at *
  generalize WireM.val (((nl s).drop 9).take 8) = x at *
  generalize (nl s).getD 17 0 = i at *
  generalize (nl s).getD 18 0 = n at *
  generalize dP s = d at *
  have E := Lib.hid (And.intro e1 (And.intro e2 (And.intro e3 (And.intro e4 (And.intro e5 (And.intro e6 z6))))))
  have V := Lib.hid (And.intro v1 (And.intro v2 (And.intro v3 (And.intro v4 v5))))
  have HML := Lib.hid hml
  rw [HQ.out]
  have h1s : (1 : Int) ≤ (s.size : Int) := by omega
  clear e1 e2 e3 e4 e5 e6 z6 v1 v2 v3 v4 v5 hml hL G1 G2 h64 h5 HQ
  go_enter Tryz.func101, Tryz.ntmps101
  go_wp2_with fail
  refine (rd_new (s.extract 1 s.size) _).mono ?_
  rintro e w1 ⟨rfl, R1, b1⟩
  rw [World.size_alloc] at R1
  have H0 := Lib.hid (Pz.start w w1 _ (HML.out 1) _ rfl R1 b1)
  rw [World.size_alloc]
  clear R1 b1
  generalize w.heap.size + 1 = B at *
  generalize hHB : w1.heap.size = HB at *
  generalize hRB : w.heap.size = RB at *
  go_wp2_with fail
  refine (rd_number B 0 _ _ H0.out.rd H0.out.sz).mono ?_
  rintro e w2 ⟨rfl, R1, K1⟩
  rw [E.out.1] at R1 ⊢
  rw [V.out.1]
  have A1 := Lib.hid (H0.out.read R1 (HML.out _) K1)
  clear R1 K1 H0
  have c0 := Kq.blk_cell A1.out.pb 0
  have f0 := Kq.blk_free A1.out.pb 0
  go_wp2_with fail
  have H1 := Lib.hid (A1.out.set 0 (.int .u64 (g : Int)) (Kq.blk_set A1.out.pb 0 _))
  clear c0 f0 A1
  refine (rd_number B 0 _ _ H1.out.rd H1.out.sz).mono ?_
  rintro e w3 ⟨rfl, R2, K2⟩
  rw [E.out.2.1] at R2 ⊢
  rw [V.out.2.1]
  have A2 := Lib.hid (H1.out.read R2 (HML.out _) K2)
  clear R2 K2 H1
  have c0 := Kq.blk_cell A2.out.pb 1
  have f0 := Kq.blk_free A2.out.pb 1
  go_wp2_with fail
  have H2 := Lib.hid (A2.out.set 1 (.int .u64 (x : Int)) (Kq.blk_set A2.out.pb 1 _))
  clear c0 f0 A2
  refine (rd_byte B 0 _ _ H2.out.rd H2.out.sz).mono ?_
  rintro e w4 ⟨rfl, R3, K3⟩
  rw [E.out.2.2.1] at R3 ⊢
  rw [V.out.2.2.1]
  have A3 := Lib.hid (H2.out.read R3 (HML.out _) K3)
  clear R3 K3 H2
  have c0 := Kq.blk_cell A3.out.pb 2
  have f0 := Kq.blk_free A3.out.pb 2
  go_wp2_with fail
  have H3 := Lib.hid (A3.out.set 2 (.int .i64 (i : Int)) (Kq.blk_set A3.out.pb 2 _))
  clear c0 f0 A3
  refine (rd_byte B 0 _ _ H3.out.rd H3.out.sz).mono ?_
  rintro e w5 ⟨rfl, R4, K4⟩
  rw [E.out.2.2.2.1] at R4 ⊢
  rw [V.out.2.2.2.1]
  have A4 := Lib.hid (H3.out.read R4 (HML.out _) K4)
  clear R4 K4 H3
  have c0 := Kq.blk_cell A4.out.pb 3
  have f0 := Kq.blk_free A4.out.pb 3
  go_wp2_with fail
  have H4 := Lib.hid (A4.out.set 3 (.int .i64 (n : Int)) (Kq.blk_set A4.out.pb 3 _))
  clear c0 f0 A4
  refine (rd_text B 0 _ _ H4.out.rd H4.out.sz).mono ?_
  intro e w6 hp
  unfold TextPost RawPost at hp
  rw [E.out.2.2.2.2.1] at hp
  simp only [V.out.2.2.2.2] at hp
  rw [E.out.2.2.2.2.2.1] at hp
  obtain ⟨rfl, R5, K5⟩ := hp
  have A5 := Lib.hid (H4.out.read R5 E.out.2.2.2.2.2.2 K5)
  clear R5 K5 H4
  have c0 := Kq.blk_cell A5.out.pb 0
  have c1 := Kq.blk_cell A5.out.pb 1
  have c2 := Kq.blk_cell A5.out.pb 2
  have c3 := Kq.blk_cell A5.out.pb 3
  have c4 := Kq.blk_cell A5.out.pb 4
  have f4 := Kq.blk_free A5.out.pb 4
  have H5 : Hid (Pz w B HB RB x6 s6 g x i n d (w6.setCell ⟨HB, 4, none⟩ (.string d))) := Lib.hid (A5.out.set 4 _ (Kq.blk_set A5.out.pb 4 _))
  have d0 := Kq.blk_cell H5.out.pb 0
  have d1 := Kq.blk_cell H5.out.pb 1
  have d2 := Kq.blk_cell H5.out.pb 2
  have d3 := Kq.blk_cell H5.out.pb 3
  have d4 := Kq.blk_cell H5.out.pb 4
  have r0 := Kq.blk_cell H5.out.rb 0
  have r1 := Kq.blk_cell H5.out.rb 1
  have r2 := Kq.blk_cell H5.out.rb 2
  have r3 := Kq.blk_cell H5.out.rb 3
  have r4 := Kq.blk_cell H5.out.rb 4
  have q0 := Kq.blk_free A5.out.rb 0
  have q1 := Kq.blk_free A5.out.rb 1
  have q2 := Kq.blk_free A5.out.rb 2
  have q3 := Kq.blk_free A5.out.rb 3
  have q4 := Kq.blk_free A5.out.rb 4
  clear A5
  go_wp2
  clear c0 c1 c2 c3 c4 f4 d0 d1 d2 d3 d4 r0 r1 r2 r3 r4 q0 q1 q2 q3 q4
  change bodyPost _ _ _ _ _ (fill5 (w6.setCell ⟨HB, 4, none⟩ (.string d)) RB (g : Int) (x : Int) (i : Int) (n : Int) d)
  have p1 := fill5_blk H5.out.rb (g : Int) (x : Int) (i : Int) (n : Int) d
  have p2 := fill5_keeps (w6.setCell ⟨HB, 4, none⟩ (.string d)) RB (g : Int) (x : Int) (i : Int) (n : Int) d
  generalize fill5 (w6.setCell ⟨HB, 4, none⟩ (.string d)) RB (g : Int) (x : Int) (i : Int) (n : Int) d = z at *
  have z0 := Kq.blk_cell p1 0
  have z1 := Kq.blk_cell p1 1
  have z2 := Kq.blk_cell p1 2
  have z3 := Kq.blk_cell p1 3
  have z4 := Kq.blk_cell p1 4
  refine bodyPost_ret (v := .agg #[.int .u64 (g : Int), .int .u64 (x : Int), .int .i64 (i : Int), .int .i64 (n : Int), .string d]) (by simp [results, Tryz.results101, go_sem, z0, z1, z2, z3, z4]) rfl ?_
  exact ⟨rfl, H5.out.bel.trans (p2.below H5.out.bel.size (fun k _ e => by have := H5.out.lt.1; omega))⟩
end Go.Proofs.YtbpgfhcecanikaaGreat
namespace Go.Proofs.YtbpgfhcecanikaaGreat
open Go.RowKit
set_option linter.unusedVariables false
set_option linter.unusedSimpArgs false
def FrP.zero : FrP := ⟨0, 0, 0, 0, ⟨#[]⟩⟩
def partOf (o : Option FrP) : FrP := match o with | some p => p | none => FrP.zero
def readVal (r : Option FrP × Int) : Value := .tuple #[(partOf r.1).val, .int .i64 r.2]
theorem qOf_eq (s : ByteArray) (h : 21 + lenOf s ≤ s.size) : qOf s = pOf s := by
  unfold qOf dP pOf
  rw [if_pos h]
/-- is a sector what its fields say? as the code asks -/
def bodyB (a : Nat) (s : ByteArray) : Bool := (txt (frBody a (qOf s))).toList == (s.extract 0 (a - 4)).toList
theorem read_iff (a : Nat) (s : ByteArray) (h64 : 64 ≤ a) (h5 : a ≤ 512) (hs : s.size = a) (hr : rightB s = true) : (mayP a (qOf s) ∧ bodyB a s = true) ↔ (okSec a s ∧ qOf s = pOf s) := by
  have hrt := right_take s (by omega) hr
  rw [hs] at hrt
  have hk : mayP a (qOf s) → (bodyB a s = true ↔ frBody a (qOf s) = (nl s).take (a - 4)) := fun h => by
    obtain ⟨h1, h2⟩ := mayP_n a _ h64 h
    unfold bodyB
    rw [eq_text, decide_eq_true_eq, nl_extract, List.drop_zero, Nat.sub_zero, nl_txt _ (frBody_lt a _ (by omega) (by omega) (by have := h.2.1; omega))]
  constructor
  · rintro ⟨h1, h2⟩
    have hb := (hk h1).1 h2
    obtain ⟨g1, g2⟩ := mayP_n a _ h64 h1
    have hd : (qOf s).d.size < 65536 := by have := h1.2.1; omega
    have hsec : frSec a (qOf s) = s := by
      apply nl_inj
      rw [nl_frSec a _ (by omega) (by omega) hd, hb]
      exact hrt.symm
    have hl := nl_secs a (qOf s) (by omega) (by omega) hd
    rw [hsec] at hl
    have hlen : lenOf s = (qOf s).d.size := by
      unfold lenOf
      generalize CrcM.bytes (CrcM.upd 0 (frBody a (qOf s))) = T at hl
      rw [hl]
      rw [show (82 :: (num8 (qOf s).g ++ (num8 (qOf s).x ++ ((qOf s).i :: (qOf s).n :: ((qOf s).d.size / 256) :: ((qOf s).d.size % 256) :: (nl (qOf s).d ++ (List.replicate (a - 25 - (qOf s).d.size) 0 ++ T)))))).getD 19 0 = (qOf s).d.size / 256 from rfl, show (82 :: (num8 (qOf s).g ++ (num8 (qOf s).x ++ ((qOf s).i :: (qOf s).n :: ((qOf s).d.size / 256) :: ((qOf s).d.size % 256) :: (nl (qOf s).d ++ (List.replicate (a - 25 - (qOf s).d.size) 0 ++ T)))))).getD 20 0 = (qOf s).d.size % 256 from rfl]
      omega
    have he := qOf_eq s (by have := h1.2.1; omega)
    rw [he] at h1 hsec
    exact ⟨⟨h1, hsec⟩, he⟩
  · rintro ⟨⟨h1, h2⟩, h3⟩
    rw [h3]
    refine ⟨h1, ?_⟩
    have h4 := h1
    rw [← h3] at h4
    rw [hk h4, h3]
    obtain ⟨g1, g2⟩ := mayP_n a _ h64 h1
    have e := congrArg nl h2
    rw [nl_frSec a _ (by omega) (by omega) (by have := h1.2.1; omega)] at e
    have e3 := congrArg (List.take (a - 4)) e
    rwa [List.take_append_of_le_length (by rw [frBody_length a _ (by omega) h1.2.1]; exact Nat.le_refl _), List.take_of_length_le (by rw [frBody_length a _ (by omega) h1.2.1]; exact Nat.le_refl _)] at e3
theorem okSec_q (a : Nat) (s : ByteArray) (h64 : 64 ≤ a) (hs : s.size = a) (h : okSec a s) : qOf s = pOf s := by
  apply qOf_eq
  have h1 := h.1.2.1
  have h2 : (pOf s).d.size = min (21 + lenOf s) s.size - 21 := by
    show (s.extract 21 (21 + lenOf s)).size = _
    simp
  omega
theorem read_no (a : Nat) (s : ByteArray) (h64 : 64 ≤ a) (h5 : a ≤ 512) (hs : s.size = a) (hr : rightB s = true) (h : ¬ okSec a s) : frRead a s = (none, 5) := by
  unfold frRead
  rw [if_neg (by unfold FrSz; omega), if_neg (by rw [hs]; simp), if_neg (by rw [hr]; simp), Int.toNat_natCast, if_neg h]
theorem read_yes (a : Nat) (s : ByteArray) (h64 : 64 ≤ a) (h5 : a ≤ 512) (hs : s.size = a) (hr : rightB s = true) (h : okSec a s) : frRead a s = (some (pOf s), 0) := by
  unfold frRead
  rw [if_neg (by unfold FrSz; omega), if_neg (by rw [hs]; simp), if_neg (by rw [hr]; simp), Int.toNat_natCast, if_pos h]
theorem parts_zero (a : Int) : (frParts a 0 == 0) = !decide (FrSz a) := by
  unfold frParts
  by_cases h : FrSz a
  · rw [if_pos ⟨h, by omega, by omega⟩, decide_eq_true h]
    unfold nParts
    simp
  · rw [if_neg (fun h2 => h h2.1), decide_eq_false h]; rfl
set_option maxRecDepth 100000 in
set_option maxHeartbeats 1000000 in
theorem fr_read_1 (a : Int) (s : ByteArray) (w : World) (h : ¬ FrSz a) :
    Calls Tryz.prog 80 #[.int .i64 a, .string s] w fun e w' => e = .returned (readVal (none, 1)) ∧ Below w.heap.size w w' := by
  have HD : Hid ((frParts a 0 == 0) = true) := Lib.hid (by rw [parts_zero, decide_eq_false h]; rfl)
  have hz := HD.out
  clear h
  go_enter Tryz.func80, Tryz.ntmps80
  go_wp2_with fail
  refine (fr_parts a 0 _).mono ?_
  rintro e w1 ⟨rfl, rfl⟩
  go_wp2
  refine bodyPost_ret (v := readVal (none, 1)) (by simp [results, Tryz.results80, go_sem, readVal, partOf, FrP.zero, FrP.val]) rfl ?_
  exact ⟨rfl, Kq.below_alloc _ _⟩
set_option maxRecDepth 100000 in
set_option maxHeartbeats 1000000 in
theorem fr_read_6 (a : Int) (s : ByteArray) (w : World) (h : FrSz a) (hs : (s.size : Int) ≠ a) :
    Calls Tryz.prog 80 #[.int .i64 a, .string s] w fun e w' => e = .returned (readVal (none, 6)) ∧ Below w.heap.size w w' := by
  have HD : Hid ((frParts a 0 == 0) = false) := Lib.hid (by rw [parts_zero, decide_eq_true h]; rfl)
  have hz := HD.out
  have hne : ((s.size : Int) != a) = true := by simpa using hs
  clear h hs
  go_enter Tryz.func80, Tryz.ntmps80
  go_wp2_with fail
  refine (fr_parts a 0 _).mono ?_
  rintro e w1 ⟨rfl, rfl⟩
  go_wp2
  refine bodyPost_ret (v := readVal (none, 6)) (by simp [results, Tryz.results80, go_sem, readVal, partOf, FrP.zero, FrP.val]) rfl ?_
  exact ⟨rfl, Kq.below_alloc _ _⟩
set_option maxRecDepth 100000 in
set_option maxHeartbeats 1000000 in
theorem fr_read_8 (a : Nat) (s : ByteArray) (w : World) (h : FrSz a) (hs : s.size = a) (hr : rightB s = false) :
    Calls Tryz.prog 80 #[.int .i64 (a : Int), .string s] w fun e w' => e = .returned (readVal (none, 8)) ∧ Below w.heap.size w w' := by
  have HD : Hid ((frParts a 0 == 0) = false) := Lib.hid (by rw [parts_zero, decide_eq_true h]; rfl)
  have hz := HD.out
  have hne : ((s.size : Int) != (a : Int)) = false := by simp [hs]
  have hne2 : (s.size != a) = false := by simp [hs]
  have HS := Lib.hid (And.intro h hs)
  have HR := Lib.hid hr
  have HX := Lib.hid (Kq.blk_new w #[.int .u64 0, .int .u64 0, .int .i64 0, .int .i64 0, .string ⟨#[]⟩] 118 (0, 0))
  clear h hs hr
  go_enter Tryz.func80, Tryz.ntmps80
  go_wp2_with fail
  refine (fr_parts a 0 _).mono ?_
  rintro e w1 ⟨rfl, rfl⟩
  go_wp2_with fail
  refine (crc_right s _ (by have := HS.out; unfold FrSz at this; unfold maxLen; omega) (by have := HS.out; unfold FrSz at this; omega)).mono ?_
  rw [HR.out]
  rintro e w2 ⟨rfl, b2⟩
  have HB := Lib.hid ((Kq.below_alloc w _).trans (b2.mono (Kq.below_alloc w _).size))
  have hbk := Kq.below_blk b2 HX.out (Kq.blk_lt HX.out)
  have HBK := Lib.hid hbk
  have c0 := Kq.blk_cell hbk 0
  have c1 := Kq.blk_cell hbk 1
  have c2 := Kq.blk_cell hbk 2
  have c3 := Kq.blk_cell hbk 3
  have c4 := Kq.blk_cell hbk 4
  have f0 := Kq.blk_free hbk 0
  have f1 := Kq.blk_free hbk 1
  have f2 := Kq.blk_free hbk 2
  have f3 := Kq.blk_free hbk 3
  have f4 := Kq.blk_free hbk 4
  clear b2 hbk
  go_wp2
  change bodyPost _ _ _ _ _ (fill5 w2 w.heap.size 0 0 0 0 ⟨#[]⟩)
  have p1 := fill5_blk HBK.out 0 0 0 0 ⟨#[]⟩
  have p2 := fill5_keeps w2 w.heap.size 0 0 0 0 ⟨#[]⟩
  generalize fill5 w2 w.heap.size 0 0 0 0 ⟨#[]⟩ = z at *
  have z0 := Kq.blk_cell p1 0
  have z1 := Kq.blk_cell p1 1
  have z2 := Kq.blk_cell p1 2
  have z3 := Kq.blk_cell p1 3
  have z4 := Kq.blk_cell p1 4
  refine bodyPost_ret (v := readVal (none, 8)) (by simp [results, Tryz.results80, go_sem, z0, z1, z2, z3, z4, readVal, partOf, FrP.zero, FrP.val]) rfl ?_
  exact ⟨rfl, HB.out.trans (p2.below HB.out.size (fun k _ e => (by subst e; exact Nat.le_refl _)))⟩
/-- behind parse: the part's block, the result's block -/
structure Rz (w : World) (R H : Nat) (p : FrP) (wr : World) : Prop where
  rb : wr.heap[R]? = some (.cells #[.int .u64 0, .int .u64 0, .int .i64 0, .int .i64 0, .string ⟨#[]⟩] 118 (0, 0))
  pb : wr.heap[H]? = some (.cells #[.int .u64 (p.g : Int), .int .u64 (p.x : Int), .int .i64 (p.i : Int), .int .i64 (p.n : Int), .string p.d] 118 (0, 0))
  ne : R ≠ H
  le : w.heap.size ≤ R
  bel : Below w.heap.size w wr
theorem Rz.below {w wr w' : World} {R H : Nat} {p : FrP} (h : Rz w R H p wr) (hb : Below wr.heap.size wr w') : Rz w R H p w' :=
  ⟨Kq.below_blk hb h.rb (Kq.blk_lt h.rb), Kq.below_blk hb h.pb (Kq.blk_lt h.pb), h.ne, h.le, h.bel.trans (hb.mono h.bel.size)⟩
def PtC (wr : World) (H : Nat) (p : FrP) : Prop := wr.cell? ⟨H, 0, none⟩ = some (.int .u64 (p.g : Int)) ∧ wr.cell? ⟨H, 1, none⟩ = some (.int .u64 (p.x : Int)) ∧ wr.cell? ⟨H, 2, none⟩ = some (.int .i64 (p.i : Int)) ∧ wr.cell? ⟨H, 3, none⟩ = some (.int .i64 (p.n : Int)) ∧ wr.cell? ⟨H, 4, none⟩ = some (.string p.d)
theorem Rz.cells {w wr : World} {R H : Nat} {p : FrP} (h : Rz w R H p wr) : PtC wr H p := ⟨Kq.blk_cell h.pb 0, Kq.blk_cell h.pb 1, Kq.blk_cell h.pb 2, Kq.blk_cell h.pb 3, Kq.blk_cell h.pb 4⟩
theorem Rz.drew {w wr : World} {R H : Nat} {p : FrP} (h : Rz w R H p wr) : Rz w R H p wr.drew := ⟨h.rb, h.pb, h.ne, h.le, h.bel.drew⟩
theorem Rz.mk' {w w2 w3 : World} {p : FrP} (hb : Below (w.alloc (.cells #[.int .u64 0, .int .u64 0, .int .i64 0, .int .i64 0, .string ⟨#[]⟩] 118)).heap.size (w.alloc (.cells #[.int .u64 0, .int .u64 0, .int .i64 0, .int .i64 0, .string ⟨#[]⟩] 118)) w2) (h3 : Below w2.heap.size w2 w3) :
    Rz w w.heap.size w3.heap.size p (w3.alloc (.cells #[.int .u64 (p.g : Int), .int .u64 (p.x : Int), .int .i64 (p.i : Int), .int .i64 (p.n : Int), .string p.d] 118)) := by
  have b0 := Kq.below_alloc w (.cells #[.int .u64 0, .int .u64 0, .int .i64 0, .int .i64 0, .string ⟨#[]⟩] 118)
  have h2 := Kq.below_blk hb (Kq.blk_new w _ _ _) (by simp)
  have h4 := Kq.below_blk h3 h2 (Kq.blk_lt h2)
  have b1 := (b0.trans (hb.mono b0.size))
  have b3 := b1.trans (h3.mono b1.size)
  exact ⟨Kq.below_blk (Kq.below_alloc w3 _) h4 (Kq.blk_lt h4), Kq.blk_new _ _ _ _, Nat.ne_of_lt (Kq.blk_lt h4), Nat.le_refl _, b3.trans ((Kq.below_alloc w3 _).mono b3.size)⟩
set_option maxRecDepth 100000 in
set_option maxHeartbeats 2000000 in
theorem fr_read_in (a : Nat) (s : ByteArray) (w : World) (h : FrSz a) (hs : s.size = a) (hr : rightB s = true) :
    Calls Tryz.prog 80 #[.int .i64 (a : Int), .string s] w fun e w' => e = .returned (readVal (frRead a s)) ∧ Below w.heap.size w w' := by
  have HD : Hid ((frParts a 0 == 0) = false) := Lib.hid (by rw [parts_zero, decide_eq_true h]; rfl)
  have hz := HD.out
  have hne : ((s.size : Int) != (a : Int)) = false := by simp [hs]
  have hne2 : (s.size != a) = false := by simp [hs]
  have h' : 64 ≤ a ∧ a ≤ 512 := by unfold FrSz at h; omega
  have ha1 : 64 ≤ (a : Int) := h.1
  have ha2 : (a : Int) ≤ 512 := h.2
  have HI := Lib.hid (read_iff a s h'.1 h'.2 hs hr)
  have HOQ := Lib.hid (okSec_q a s h'.1 hs)
  have HNO := Lib.hid (read_no a s h'.1 h'.2 hs hr)
  have HYES := Lib.hid (read_yes a s h'.1 h'.2 hs hr)
  have HS := Lib.hid (And.intro h' hs)
  have HR := Lib.hid hr
  have HP := Lib.hid (fr_parse s · (by omega) (by omega))
  have HQL : Hid ((qOf s).g < M64 ∧ (qOf s).x < M64 ∧ (qOf s).i ≤ 255 ∧ (qOf s).n ≤ 255 ∧ (qOf s).d.size ≤ 512) := Lib.hid ⟨val8_lt s 1, val8_lt s 9, by have := getD_lt s 17; show (nl s).getD 17 0 ≤ 255; omega, by have := getD_lt s 18; show (nl s).getD 18 0 ≤ 255; omega, by
    show (dP s).size ≤ 512
    unfold dP
    split
    · simp; omega
    · decide⟩
  have hsub : (a : Int) - 4 = ((a - 4 : Nat) : Int) := by omega
  have hle : a - 4 ≤ s.size := by omega
  have HBB : Hid (bodyB a s = ((txt (frBody a (qOf s))).toList == (s.extract 0 (a - 4)).toList)) := Lib.hid rfl
  clear h hs hr h'
  go_enter Tryz.func80, Tryz.ntmps80
  go_wp2_with fail
  refine (fr_parts a 0 _).mono ?_
  rintro e w1 ⟨rfl, rfl⟩
  go_wp2_with fail
  refine (crc_right s _ (by have := HS.out; unfold maxLen; omega) (by have := HS.out; omega)).mono ?_
  rw [HR.out]
  rintro e w2 ⟨rfl, b2⟩
  have B2 := Lib.hid b2
  clear b2
  go_wp2_with fail
  refine (HP.out w2).mono ?_
  rintro e w3 ⟨rfl, b3⟩
  have R0 := Lib.hid (Rz.mk' (p := qOf s) B2.out b3)
  clear b3 B2
  obtain ⟨q, hq⟩ : ∃ q, q = qOf s := ⟨_, rfl⟩
  rw [← hq] at HQL HBB R0 ⊢
  have HQE := Lib.hid hq
  clear hq
  obtain ⟨g, x, i, n, d⟩ := q
  simp only [FrP.val]
  go_wp2_with fail
  generalize hHH : w3.heap.size = HH at *
  refine wp_region_held_drew (S := fun w' => PtC w' HH ⟨g, x, i, n, d⟩) (by kernel_rfl) R0.out.drew.cells (fun hS0 => ?_)
  have R1 := Lib.hid R0.out.drew
  clear R0
  unfold PtC at hS0
  dsimp only [PtC, FrP.val]
  refine wpAnyH_take (i := 0) (v := ?_) rfl (by kernel_rfl) (by kernel_rfl) (by kernel_rfl) (fun _ _ _ h => h) (Or.inl ⟨by kernel_rfl, ?_⟩) (by assumption) ?_
  rotate_left
  · intro w hSw; (try dsimp only at hSw); go_simp; (try with_reducible rfl)
  refine wpAnyH_take (i := 1) (v := ?_) rfl (by kernel_rfl) (by kernel_rfl) (by kernel_rfl) (fun _ _ _ h => h) (Or.inl ⟨by kernel_rfl, ?_⟩) (by assumption) ?_
  rotate_left
  · intro w hSw; (try dsimp only at hSw); go_simp; (try with_reducible rfl)
  refine wpAnyH_ready (rs := [2]) (by kernel_rfl) (by simp) ?_
  refine AllReadyH.cons rfl (fun K hK => ?_) AllReadyH.nil
  go_simp
  refine (fr_may a ⟨g, x, i, n, d⟩ _ HS.out.1.1 HS.out.1.2 HQL.out.2.2.1 HQL.out.2.2.2.1 HQL.out.2.2.2.2).mono ?_
  by_cases hm : mayP a ⟨g, x, i, n, d⟩
  · rw [decide_eq_true hm]
    have HM := Lib.hid hm
    clear hm
    rintro e w4 ⟨rfl, b4⟩
    have R4 := Lib.hid (R1.out.below b4)
    clear b4 R1 hS0
    refine hK.out _ _ R4.out.cells (fun hS0 => ?_)
    clear hK K
    unfold PtC at hS0
    (try dsimp only [PtC])
    generalize hm4 : a - 4 = m at *
    have hwm : IntKind.i64.wrap (m : Int) = (m : Int) := IntWalk.i64_in _ (by omega)
    have hle2 : (m : Int) ≤ (s.size : Int) := by omega
    refine wpAnyH_take (i := 3) (v := ?_) rfl (by kernel_rfl) (by kernel_rfl) (by kernel_rfl) (fun _ _ _ h => h) (Or.inl ⟨by kernel_rfl, ?_⟩) (by assumption) ?_
    rotate_left
    · intro w hSw; (try dsimp only at hSw); go_simp; (try with_reducible rfl)
    refine wpAnyH_take (i := 4) (v := ?_) rfl (by kernel_rfl) (by kernel_rfl) (by kernel_rfl) (fun _ _ _ h => h) (Or.inl ⟨by kernel_rfl, ?_⟩) (by assumption) ?_
    rotate_left
    · intro w hSw; (try dsimp only at hSw); go_simp; (try with_reducible rfl)
    refine wpAnyH_take (i := 5) (v := ?_) rfl (by kernel_rfl) (by kernel_rfl) (by kernel_rfl) (fun _ _ _ h => h) (Or.inl ⟨by kernel_rfl, ?_⟩) (by assumption) ?_
    rotate_left
    · intro w hSw; (try dsimp only at hSw); go_simp; (try with_reducible rfl)
    refine wpAnyH_take (i := 6) (v := ?_) rfl (by kernel_rfl) (by kernel_rfl) (by kernel_rfl) (fun _ _ _ h => h) (Or.inl ⟨by kernel_rfl, ?_⟩) (by assumption) ?_
    rotate_left
    · intro w hSw; (try dsimp only at hSw); go_simp; (try with_reducible rfl)
    refine wpAnyH_take (i := 8) (v := ?_) rfl (by kernel_rfl) (by kernel_rfl) (by kernel_rfl) (fun _ _ _ h => h) (Or.inl ⟨by kernel_rfl, ?_⟩) (by assumption) ?_
    rotate_left
    · intro w hSw; (try dsimp only at hSw); go_simp; (try with_reducible rfl)
    refine wpAnyH_take (i := 9) (v := ?_) rfl (by kernel_rfl) (by kernel_rfl) (by kernel_rfl) (fun _ _ _ h => h) (Or.inl ⟨by kernel_rfl, ?_⟩) (by assumption) ?_
    rotate_left
    · intro w hSw; (try dsimp only at hSw); go_simp; (try with_reducible rfl)
    refine wpAnyH_take (i := 10) (v := ?_) rfl (by kernel_rfl) (by kernel_rfl) (by kernel_rfl) (fun _ _ _ h => h) (Or.inl ⟨by kernel_rfl, ?_⟩) (by assumption) ?_
    rotate_left
    · intro w hSw; (try dsimp only at hSw); go_simp; (try with_reducible rfl)
    refine wpAnyH_take (i := 11) (v := ?_) rfl (by kernel_rfl) (by kernel_rfl) (by kernel_rfl) (fun _ _ _ h => h) (Or.inl ⟨by kernel_rfl, ?_⟩) (by assumption) ?_
    rotate_left
    · intro w hSw; (try dsimp only at hSw); go_simp; (try with_reducible rfl)
    refine wpAnyH_ready (rs := [7]) (by kernel_rfl) (by simp) ?_
    refine AllReadyH.cons rfl (fun K hK => ?_) AllReadyH.nil
    go_simp
    refine (fr_body a ⟨g, x, i, n, d⟩ _ HS.out.1.1 HS.out.1.2 HQL.out.1 HQL.out.2.1 HQL.out.2.2.1 HQL.out.2.2.2.1 HM.out.2.1).mono ?_
    rintro e w5 ⟨rfl, b5⟩
    have R5 := Lib.hid (R4.out.below b5)
    clear b5 R4 hS0
    refine hK.out _ _ R5.out.cells (fun hS0 => ?_)
    clear hK K
    unfold PtC at hS0
    (try dsimp only [PtC])
    generalize txt (frBody a ⟨g, x, i, n, d⟩) = tb at *
    refine wpAnyH_take (i := 12) (v := ?_) rfl (by kernel_rfl) (by kernel_rfl) (by kernel_rfl) (fun _ _ _ h => h) (Or.inl ⟨by kernel_rfl, ?_⟩) (by assumption) ?_
    rotate_left
    · intro w hSw; (try dsimp only at hSw); go_simp; (try with_reducible rfl)
    refine wpAnyH_take (i := 13) (v := ?_) rfl (by kernel_rfl) (by kernel_rfl) (by kernel_rfl) (fun _ _ _ h => h) (Or.inl ⟨by kernel_rfl, ?_⟩) (by assumption) ?_
    rotate_left
    · intro w hSw; (try dsimp only at hSw); go_simp; (try with_reducible rfl)
    refine wpAnyH_done (by kernel_rfl) ?_ _
    clear hS0
    have c0 := Kq.blk_cell R5.out.pb 0
    have c1 := Kq.blk_cell R5.out.pb 1
    have c2 := Kq.blk_cell R5.out.pb 2
    have c3 := Kq.blk_cell R5.out.pb 3
    have c4 := Kq.blk_cell R5.out.pb 4
    have r0 := Kq.blk_cell R5.out.rb 0
    have r1 := Kq.blk_cell R5.out.rb 1
    have r2 := Kq.blk_cell R5.out.rb 2
    have r3 := Kq.blk_cell R5.out.rb 3
    have r4 := Kq.blk_cell R5.out.rb 4
    have q0 := Kq.blk_free R5.out.rb 0
    have q1 := Kq.blk_free R5.out.rb 1
    have q2 := Kq.blk_free R5.out.rb 2
    have q3 := Kq.blk_free R5.out.rb 3
    have q4 := Kq.blk_free R5.out.rb 4
    by_cases hb : bodyB a s = true
    · have hbb : (!(tb.toList == (s.extract 0 m).toList)) = false := by rw [← HBB.out, hb]; rfl
      have HRD : Hid (frRead a s = (some ⟨g, x, i, n, d⟩, 0)) := Lib.hid (by
        have h1 := HI.out.1 ⟨by rw [← HQE.out]; exact HM.out, hb⟩
        rw [HYES.out h1.1, ← h1.2, ← HQE.out])
      clear hb HI HNO HYES HOQ HBB HM
      go_simp
      go_wp2
      clear c0 c1 c2 c3 c4 r0 r1 r2 r3 r4 q0 q1 q2 q3 q4
      change bodyPost _ _ _ _ _ (fill5 w5 w.heap.size (g : Int) (x : Int) (i : Int) (n : Int) d)
      have p1 := fill5_blk R5.out.rb (g : Int) (x : Int) (i : Int) (n : Int) d
      have p2 := fill5_keeps w5 w.heap.size (g : Int) (x : Int) (i : Int) (n : Int) d
      generalize fill5 w5 w.heap.size (g : Int) (x : Int) (i : Int) (n : Int) d = z at *
      have z0 := Kq.blk_cell p1 0
      have z1 := Kq.blk_cell p1 1
      have z2 := Kq.blk_cell p1 2
      have z3 := Kq.blk_cell p1 3
      have z4 := Kq.blk_cell p1 4
      refine bodyPost_ret (v := readVal (some ⟨g, x, i, n, d⟩, 0)) (by simp [results, Tryz.results80, go_sem, z0, z1, z2, z3, z4, readVal, partOf, FrP.zero, FrP.val]) rfl ?_
      exact ⟨by rw [HRD.out], R5.out.bel.trans (p2.below R5.out.bel.size (fun k _ e => (by subst e; exact Nat.le_refl _)))⟩
    · have hbb : (!(tb.toList == (s.extract 0 m).toList)) = true := by
        have := eq_false_of_ne_true hb
        rw [← HBB.out, this]; rfl
      have HRD : Hid (frRead a s = (none, 5)) := Lib.hid (HNO.out (fun h => hb (HI.out.2 ⟨h, HOQ.out h⟩).2))
      clear hb HI HNO HYES HOQ HBB HM
      go_simp
      go_wp2
      clear c0 c1 c2 c3 c4 r0 r1 r2 r3 r4 q0 q1 q2 q3 q4
      change bodyPost _ _ _ _ _ (fill5 w5 w.heap.size 0 0 0 0 ⟨#[]⟩)
      have p1 := fill5_blk R5.out.rb 0 0 0 0 ⟨#[]⟩
      have p2 := fill5_keeps w5 w.heap.size 0 0 0 0 ⟨#[]⟩
      generalize fill5 w5 w.heap.size 0 0 0 0 ⟨#[]⟩ = z at *
      have z0 := Kq.blk_cell p1 0
      have z1 := Kq.blk_cell p1 1
      have z2 := Kq.blk_cell p1 2
      have z3 := Kq.blk_cell p1 3
      have z4 := Kq.blk_cell p1 4
      refine bodyPost_ret (v := readVal (none, 5)) (by simp [results, Tryz.results80, go_sem, z0, z1, z2, z3, z4, readVal, partOf, FrP.zero, FrP.val]) rfl ?_
      exact ⟨by rw [HRD.out], R5.out.bel.trans (p2.below R5.out.bel.size (fun k _ e => (by subst e; exact Nat.le_refl _)))⟩
  · rw [decide_eq_false hm]
    have HRD : Hid (frRead a s = (none, 5)) := Lib.hid (HNO.out (fun h => hm (by rw [HQE.out]; exact (HI.out.2 ⟨h, HOQ.out h⟩).1)))
    clear hm
    rintro e w5 ⟨rfl, b5⟩
    have R5 := Lib.hid (R1.out.below b5)
    clear b5 R1 hS0
    refine hK.out _ _ R5.out.cells (fun hS0 => ?_)
    clear hK K
    unfold PtC at hS0
    (try dsimp only [PtC])
    refine wpAnyH_take (i := 3) (v := ?_) rfl (by kernel_rfl) (by kernel_rfl) (by kernel_rfl) (fun _ _ _ h => h) (Or.inl ⟨by kernel_rfl, ?_⟩) (by assumption) ?_
    rotate_left
    · intro w hSw; (try dsimp only at hSw); go_simp; (try with_reducible rfl)
    refine wpAnyH_take (i := 4) (v := ?_) rfl (by kernel_rfl) (by kernel_rfl) (by kernel_rfl) (fun _ _ _ h => h) (Or.inl ⟨by kernel_rfl, ?_⟩) (by assumption) ?_
    rotate_left
    · intro w hSw; (try dsimp only at hSw); go_simp; (try with_reducible rfl)
    refine wpAnyH_take (i := 5) (v := undef) rfl (by kernel_rfl) (by kernel_rfl) (by kernel_rfl) (fun _ _ _ h => h) (Or.inr ⟨by kernel_rfl, rfl⟩) (by assumption) ?_
    refine wpAnyH_take (i := 6) (v := undef) rfl (by kernel_rfl) (by kernel_rfl) (by kernel_rfl) (fun _ _ _ h => h) (Or.inr ⟨by kernel_rfl, rfl⟩) (by assumption) ?_
    refine wpAnyH_take (i := 7) (v := undef) rfl (by kernel_rfl) (by kernel_rfl) (by kernel_rfl) (fun _ _ _ h => h) (Or.inr ⟨by kernel_rfl, rfl⟩) (by assumption) ?_
    refine wpAnyH_take (i := 8) (v := undef) rfl (by kernel_rfl) (by kernel_rfl) (by kernel_rfl) (fun _ _ _ h => h) (Or.inr ⟨by kernel_rfl, rfl⟩) (by assumption) ?_
    refine wpAnyH_take (i := 9) (v := undef) rfl (by kernel_rfl) (by kernel_rfl) (by kernel_rfl) (fun _ _ _ h => h) (Or.inr ⟨by kernel_rfl, rfl⟩) (by assumption) ?_
    refine wpAnyH_take (i := 10) (v := undef) rfl (by kernel_rfl) (by kernel_rfl) (by kernel_rfl) (fun _ _ _ h => h) (Or.inr ⟨by kernel_rfl, rfl⟩) (by assumption) ?_
    refine wpAnyH_take (i := 11) (v := undef) rfl (by kernel_rfl) (by kernel_rfl) (by kernel_rfl) (fun _ _ _ h => h) (Or.inr ⟨by kernel_rfl, rfl⟩) (by assumption) ?_
    refine wpAnyH_take (i := 12) (v := undef) rfl (by kernel_rfl) (by kernel_rfl) (by kernel_rfl) (fun _ _ _ h => h) (Or.inr ⟨by kernel_rfl, rfl⟩) (by assumption) ?_
    refine wpAnyH_take (i := 13) (v := ?_) rfl (by kernel_rfl) (by kernel_rfl) (by kernel_rfl) (fun _ _ _ h => h) (Or.inl ⟨by kernel_rfl, ?_⟩) (by assumption) ?_
    rotate_left
    · intro w hSw; (try dsimp only at hSw); go_simp; (try with_reducible rfl)
    refine wpAnyH_done (by kernel_rfl) ?_ _
    clear hS0 HI HNO HYES HOQ HBB
    have c0 := Kq.blk_cell R5.out.pb 0
    have c1 := Kq.blk_cell R5.out.pb 1
    have c2 := Kq.blk_cell R5.out.pb 2
    have c3 := Kq.blk_cell R5.out.pb 3
    have c4 := Kq.blk_cell R5.out.pb 4
    have r0 := Kq.blk_cell R5.out.rb 0
    have r1 := Kq.blk_cell R5.out.rb 1
    have r2 := Kq.blk_cell R5.out.rb 2
    have r3 := Kq.blk_cell R5.out.rb 3
    have r4 := Kq.blk_cell R5.out.rb 4
    have q0 := Kq.blk_free R5.out.rb 0
    have q1 := Kq.blk_free R5.out.rb 1
    have q2 := Kq.blk_free R5.out.rb 2
    have q3 := Kq.blk_free R5.out.rb 3
    have q4 := Kq.blk_free R5.out.rb 4
    go_simp
    go_wp2
    clear c0 c1 c2 c3 c4 r0 r1 r2 r3 r4 q0 q1 q2 q3 q4
    change bodyPost _ _ _ _ _ (fill5 w5 w.heap.size 0 0 0 0 ⟨#[]⟩)
    have p1 := fill5_blk R5.out.rb 0 0 0 0 ⟨#[]⟩
    have p2 := fill5_keeps w5 w.heap.size 0 0 0 0 ⟨#[]⟩
    generalize fill5 w5 w.heap.size 0 0 0 0 ⟨#[]⟩ = z at *
    have z0 := Kq.blk_cell p1 0
    have z1 := Kq.blk_cell p1 1
    have z2 := Kq.blk_cell p1 2
    have z3 := Kq.blk_cell p1 3
    have z4 := Kq.blk_cell p1 4
    refine bodyPost_ret (v := readVal (none, 5)) (by simp [results, Tryz.results80, go_sem, z0, z1, z2, z3, z4, readVal, partOf, FrP.zero, FrP.val]) rfl ?_
    exact ⟨by rw [HRD.out], R5.out.bel.trans (p2.below R5.out.bel.size (fun k _ e => (by subst e; exact Nat.le_refl _)))⟩
theorem fr_read (a : Int) (s : ByteArray) (w : World) :
    Calls Tryz.prog 80 #[.int .i64 a, .string s] w fun e w' => e = .returned (readVal (frRead a s)) ∧ Below w.heap.size w w' := by
  by_cases h : FrSz a
  · by_cases hs : (s.size : Int) = a
    · subst hs
      cases hr : rightB s with
      | true => exact fr_read_in s.size s w h rfl hr
      | false =>
        have e : frRead (s.size : Int) s = (none, 8) := by unfold frRead; rw [if_neg (not_not_intro h), if_neg (by simp), if_pos hr]
        rw [e]
        exact fr_read_8 s.size s w h rfl hr
    · have e : frRead a s = (none, 6) := by unfold frRead; rw [if_neg (not_not_intro h), if_pos hs]
      rw [e]
      exact fr_read_6 a s w h hs
  · have e : frRead a s = (none, 1) := by unfold frRead; rw [if_pos h]
    rw [e]
    exact fr_read_1 a s w h
end Go.Proofs.YtbpgfhcecanikaaGreat
