/- Contract of record's get on a beginning of a record's own bytes. Condition: what stands there. -/
import Derived.WalkSpells
import Derived.Outline
import Derived.Test.YtkbiolhcpghmkaaRcGet2Q
import Derived.Test.YtkbiolhcpghmkaaNtCutLQ
namespace Go.Proofs.Ytkbiolhcpghmkaa
open Go.RowKit
set_option linter.unusedVariables false
set_option maxRecDepth 100000 in
theorem rec_need_no (B X : Nat) (w : World) (hx : w.cell? ⟨X, 0, none⟩ = some (.pointer (some ⟨B, 0, none⟩))) (h : RdS w B) : Calls Try.prog 53 #[.bool false, .pointer (some ⟨X, 0, none⟩)] w fun x w' => x = .returned (.tuple #[]) ∧ w' = w := by
  have H := Lib.hid h
  clear h
  go_enter Try.func53, Try.ntmps53
  go_wp2_with fail
  refine (xs_fail B 5 w H.out).mono ?_
  rintro x w' ⟨rfl, rfl⟩
  go_wp2
  first | go_end0 | refine bodyPost_ret (results_none rfl _ _ _) rfl ?_
  exact ⟨rfl, rfl⟩
/-- what is told of a beginning of a record's bytes -/
def XR (w : World) (B : Nat) (rest : List Nat) (x : Ending) (w' : World) : Prop := ∃ (k h0 i0 h1 i1 : Int) (A : Option Addr) (n ca : Nat) (c h i : Int) (C : Option Addr) (m cc : Nat), x = .returned (.agg #[.int .i64 k, .int .u64 h0, .int .i64 i0, .int .u64 h1, .int .i64 i1, .slice A n ca, .int .i64 c, .int .u64 h, .int .i64 i, .slice C m cc]) ∧ RdX w' B rest ∧ Kq.Keeps (· = B) w w'
/-- a record under way: the reader, the box that the closure caught, the result, what is told so far -/
structure GsX (w w' : World) (B T : Nat) (rest : List Nat) (cs : Array Value) : Prop where
  rd : RdX w' B rest
  x : w'.heap[w.heap.size]? = some (.cells #[.pointer (some ⟨B, 0, none⟩)] 76 (0, 0))
  r : w'.heap[w.heap.size + 1]? = some (.cells #[.int .i64 0, .int .u64 0, .int .i64 0, .int .u64 0, .int .i64 0, .slice none 0 0, .int .i64 0, .int .u64 0, .int .i64 0, .slice none 0 0] 35 (0, 0))
  t : w'.heap[T]? = some (.cells cs 35 (0, 0))
  kp : Kq.Keeps (· = B) w w'
  ht : w.heap.size + 1 < T
  hb : B < w.heap.size
theorem GsX.step {w a b : World} {B T : Nat} {rest rest' : List Nat} {cs : Array Value} (h : GsX w a B T rest cs) (hr : RdX b B rest') (hk : Kq.Keeps (· = B) a b) : GsX w b B T rest' cs :=
  ⟨hr, hk.blk h.x (fun e => by have e2 : w.heap.size = B := e; have := h.hb; omega), hk.blk h.r (fun e => by have e2 : w.heap.size + 1 = B := e; have := h.hb; omega), hk.blk h.t (fun e => by have e2 : T = B := e; have := h.hb; have := h.ht; omega), h.kp.trans hk, h.ht, h.hb⟩
theorem GsX.set {w a : World} {B T : Nat} {rest : List Nat} {cs : Array Value} (h : GsX w a B T rest cs) (i : Nat) (v : Value) : GsX w (a.setCell ⟨T, i, none⟩ v) B T rest (cs.setIfInBounds i v) := by
  have hk : Kq.Keeps (· = T) a (a.setCell ⟨T, i, none⟩ v) := Kq.Keeps.setCell _ _ _ rfl
  have h1 := h.ht
  have h2 := h.hb
  refine ⟨h.rd.keeps hk (fun e => by have e2 : B = T := e; omega), hk.blk h.x (fun e => by have e2 : w.heap.size = T := e; omega), hk.blk h.r (fun e => by have e2 : w.heap.size + 1 = T := e; omega), Kq.blk_set h.t i v, ?_, h.ht, h.hb⟩
  exact ⟨hk.os.trans h.kp.os, hk.tape.trans h.kp.tape, hk.output.trans h.kp.output, Nat.le_trans h.kp.size hk.size, fun k hk1 hn => by
    rw [hk.block k (Nat.lt_of_lt_of_le hk1 h.kp.size) (fun e => by have e2 : k = T := e; omega), h.kp.block k hk1 hn]⟩
set_option maxRecDepth 100000 in
set_option maxHeartbeats 4000000 in
theorem rec_getX1 (B h0 i0 h1 i1 : Nat) (l : List NtV) (rest : List Nat) (w : World) (h : RdB w B ([1] ++ (num8 h0 ++ (num8 i0 ++ (num8 h1 ++ (num8 i1 ++ ([l.length] ++ (encL l ++ rest)))))))) (hb0 : h0 < 18446744073709551616) (hb1 : h1 < 18446744073709551616) (hi0 : i0 ≤ 65535) (hi1 : i1 ≤ 65535) (hlw : ∀ n ∈ l, n.wf) (hl : l.length ≤ 40) (hok : ∀ n ∈ l, EnOk [1, 2] n) :
    Calls Try.prog 30 #[.pointer (some ⟨B, 0, none⟩)] w (XR w B rest) := by
  have HH := Lib.hid (And.intro hb0 (And.intro hb1 (And.intro hi0 (And.intro hi1 (And.intro hlw (And.intro hl hok))))))
  have HBL := Lib.hid h.lt
  have HLL := Lib.hid hl
  obtain ⟨w1, hw1⟩ : ∃ z, z = (w.alloc (.cells #[.pointer (some ⟨B, 0, none⟩)] 76)).alloc (.cells #[.int .i64 0, .int .u64 0, .int .i64 0, .int .u64 0, .int .i64 0, .slice none 0 0, .int .i64 0, .int .u64 0, .int .i64 0, .slice none 0 0] 35) := ⟨_, rfl⟩
  have H1 : Hid (Below w.heap.size w w1 ∧ w1.heap[w.heap.size]? = some (.cells #[.pointer (some ⟨B, 0, none⟩)] 76 (0, 0)) ∧ w1.heap[w.heap.size + 1]? = some (.cells #[.int .i64 0, .int .u64 0, .int .i64 0, .int .u64 0, .int .i64 0, .slice none 0 0, .int .i64 0, .int .u64 0, .int .i64 0, .slice none 0 0] 35 (0, 0))) := Lib.hid (by
    have ha := Kq.below_alloc w (.cells #[.pointer (some ⟨B, 0, none⟩)] 76)
    have hra := Kq.blk_new w #[.pointer (some ⟨B, 0, none⟩)] 76 (0, 0)
    have hb := Kq.below_alloc (w.alloc (.cells #[.pointer (some ⟨B, 0, none⟩)] 76)) (.cells #[.int .i64 0, .int .u64 0, .int .i64 0, .int .u64 0, .int .i64 0, .slice none 0 0, .int .i64 0, .int .u64 0, .int .i64 0, .slice none 0 0] 35)
    have hrb := Kq.blk_new (w.alloc (.cells #[.pointer (some ⟨B, 0, none⟩)] 76)) #[.int .i64 0, .int .u64 0, .int .i64 0, .int .u64 0, .int .i64 0, .slice none 0 0, .int .i64 0, .int .u64 0, .int .i64 0, .slice none 0 0] 35 (0, 0)
    rw [World.size_alloc] at hrb
    rw [← hw1] at hb hrb
    exact ⟨ha.trans (hb.mono ha.size), Kq.below_blk hb hra (Kq.blk_lt hra), hrb⟩)
  have HR1 := Lib.hid (h.below H1.out.1)
  have c0 := Kq.blk_cell H1.out.2.1 0
  clear h hb0 hb1 hi0 hi1 hlw hl hok
  rw [hw1] at c0
  go_enter Try.func30, Try.ntmps30
  go_wp2_with fail
  rw [← hw1]
  clear c0 hw1
  refine (xb_byte B 1 _ w1 HR1.out).mono ?_
  rintro x w2 ⟨kk, hxk, k2, ⟨hkk, hr2⟩ | ⟨hkk, hr2⟩⟩
  case inr =>
    obtain ⟨T, hT⟩ : ∃ T, T = w2.heap.size := ⟨_, rfl⟩
    have hxk' : x = .returned (.int .i64 0) := by rw [hxk, hkk]; rfl
    subst hxk'
    clear hxk hkk kk
    have HNE : Hid (w.heap.size ≠ B ∧ w.heap.size + 1 ≠ B) := Lib.hid (by have := HBL.out; omega)
    have H2 : Hid (RdX w2 B rest ∧ w2.heap[w.heap.size]? = some (.cells #[.pointer (some ⟨B, 0, none⟩)] 76 (0, 0)) ∧ w2.heap[w.heap.size + 1]? = some (.cells #[.int .i64 0, .int .u64 0, .int .i64 0, .int .u64 0, .int .i64 0, .slice none 0 0, .int .i64 0, .int .u64 0, .int .i64 0, .slice none 0 0] 35 (0, 0)) ∧ Kq.Keeps (· = B) w w2) := Lib.hid ⟨Or.inr hr2, k2.blk H1.out.2.1 HNE.out.1, k2.blk H1.out.2.2 HNE.out.2, (Kq.Keeps.of_below H1.out.1 (fun k h1 h2 => absurd h2 (Nat.not_lt.2 h1))).trans k2⟩
    have HS2 := Lib.hid hr2
    clear hr2 k2 HR1 H1
    have G3 : Hid (GsX w (w2.alloc (.cells #[.int .i64 0, .int .u64 0, .int .i64 0, .int .u64 0, .int .i64 0, .slice none 0 0, .int .i64 0, .int .u64 0, .int .i64 0, .slice none 0 0] 35)) B T rest #[.int .i64 0, .int .u64 0, .int .i64 0, .int .u64 0, .int .i64 0, .slice none 0 0, .int .i64 0, .int .u64 0, .int .i64 0, .slice none 0 0]) := Lib.hid (by
      have hb := Kq.below_alloc w2 (.cells #[.int .i64 0, .int .u64 0, .int .i64 0, .int .u64 0, .int .i64 0, .slice none 0 0, .int .i64 0, .int .u64 0, .int .i64 0, .slice none 0 0] 35)
      have hr := Kq.blk_new w2 #[.int .i64 0, .int .u64 0, .int .i64 0, .int .u64 0, .int .i64 0, .slice none 0 0, .int .i64 0, .int .u64 0, .int .i64 0, .slice none 0 0] 35 (0, 0)
      rw [← hT] at hr
      exact ⟨H2.out.1.below hb, Kq.below_blk hb H2.out.2.1 (Kq.blk_lt H2.out.2.1), Kq.below_blk hb H2.out.2.2.1 (Kq.blk_lt H2.out.2.2.1), hr, H2.out.2.2.2.trans (Kq.Keeps.of_below hb (fun k h1 h2 => absurd h2 (Nat.not_lt.2 h1))), by rw [hT]; exact Kq.blk_lt H2.out.2.2.1, HBL.out⟩)
    have HS3 : Hid (RdS (w2.alloc (.cells #[.int .i64 0, .int .u64 0, .int .i64 0, .int .u64 0, .int .i64 0, .slice none 0 0, .int .i64 0, .int .u64 0, .int .i64 0, .slice none 0 0] 35)) B) := Lib.hid (HS2.out.below (Kq.below_alloc _ _))
    have x0 := Kq.blk_cell G3.out.x 0
    go_wp2_with fail
    rw [← hT]
    obtain ⟨w9, hw3⟩ : ∃ z, z = w2.alloc (.cells #[.int .i64 0, .int .u64 0, .int .i64 0, .int .u64 0, .int .i64 0, .slice none 0 0, .int .i64 0, .int .u64 0, .int .i64 0, .slice none 0 0] 35) := ⟨_, rfl⟩
    rw [← hw3] at G3 HS3 ⊢
    clear hw3 hT H2 x0
    have G9 := G3
    refine (rec_need_no B w.heap.size w9 (Kq.blk_cell G3.out.x 0) HS3.out).mono ?_
    rintro x w10 ⟨rfl, hw10⟩
    subst hw10
    have t0 := Kq.blk_cell G9.out.t 0
    have t1 := Kq.blk_cell G9.out.t 1
    have t2 := Kq.blk_cell G9.out.t 2
    have t3 := Kq.blk_cell G9.out.t 3
    have t4 := Kq.blk_cell G9.out.t 4
    have t5 := Kq.blk_cell G9.out.t 5
    have t6 := Kq.blk_cell G9.out.t 6
    have t7 := Kq.blk_cell G9.out.t 7
    have t8 := Kq.blk_cell G9.out.t 8
    have t9 := Kq.blk_cell G9.out.t 9
    have r0 := Kq.blk_cell G9.out.r 0
    have u0 := Kq.blk_free G9.out.r 0
    have r1 := Kq.blk_cell G9.out.r 1
    have u1 := Kq.blk_free G9.out.r 1
    have r2 := Kq.blk_cell G9.out.r 2
    have u2 := Kq.blk_free G9.out.r 2
    have r3 := Kq.blk_cell G9.out.r 3
    have u3 := Kq.blk_free G9.out.r 3
    have r4 := Kq.blk_cell G9.out.r 4
    have u4 := Kq.blk_free G9.out.r 4
    have r5 := Kq.blk_cell G9.out.r 5
    have u5 := Kq.blk_free G9.out.r 5
    have r6 := Kq.blk_cell G9.out.r 6
    have u6 := Kq.blk_free G9.out.r 6
    have r7 := Kq.blk_cell G9.out.r 7
    have u7 := Kq.blk_free G9.out.r 7
    have r8 := Kq.blk_cell G9.out.r 8
    have u8 := Kq.blk_free G9.out.r 8
    have r9 := Kq.blk_cell G9.out.r 9
    have u9 := Kq.blk_free G9.out.r 9
    go_wp2
    clear t0 r0 u0 t1 r1 u1 t2 r2 u2 t3 r3 u3 t4 r4 u4 t5 r5 u5 t6 r6 u6 t7 r7 u7 t8 r8 u8 t9 r9 u9
    change bodyPost _ _ _ _ _ (fillRc w10 (w.heap.size + 1) (.int .i64 0) (.int .u64 0) (.int .i64 0) (.int .u64 0) (.int .i64 0) (.slice none 0 0) (.int .i64 0) (.int .u64 0) (.int .i64 0) (.slice none 0 0))
    have p1' := fillRc_blk G9.out.r (.int .i64 0) (.int .u64 0) (.int .i64 0) (.int .u64 0) (.int .i64 0) (.slice none 0 0) (.int .i64 0) (.int .u64 0) (.int .i64 0) (.slice none 0 0)
    have p2' := fillRc_keeps w10 (w.heap.size + 1) (.int .i64 0) (.int .u64 0) (.int .i64 0) (.int .u64 0) (.int .i64 0) (.slice none 0 0) (.int .i64 0) (.int .u64 0) (.int .i64 0) (.slice none 0 0)
    generalize fillRc w10 (w.heap.size + 1) (.int .i64 0) (.int .u64 0) (.int .i64 0) (.int .u64 0) (.int .i64 0) (.slice none 0 0) (.int .i64 0) (.int .u64 0) (.int .i64 0) (.slice none 0 0) = z at *
    have t0 := Kq.blk_cell p1' 0
    have t1 := Kq.blk_cell p1' 1
    have t2 := Kq.blk_cell p1' 2
    have t3 := Kq.blk_cell p1' 3
    have t4 := Kq.blk_cell p1' 4
    have t5 := Kq.blk_cell p1' 5
    have t6 := Kq.blk_cell p1' 6
    have t7 := Kq.blk_cell p1' 7
    have t8 := Kq.blk_cell p1' 8
    have t9 := Kq.blk_cell p1' 9
    refine bodyPost_ret (v := .agg #[.int .i64 0, .int .u64 0, .int .i64 0, .int .u64 0, .int .i64 0, .slice none 0 0, .int .i64 0, .int .u64 0, .int .i64 0, .slice none 0 0]) (by simp [results, Try.results30, go_sem, t0, t1, t2, t3, t4, t5, t6, t7, t8, t9]) rfl ?_
    have hT := G9.out.ht
    have hBB := G9.out.hb
    refine ⟨_, _, _, _, _, _, _, _, _, _, _, _, _, _, rfl, G9.out.rd.keeps p2' (fun h => by have h2 : B = w.heap.size + 1 := h; have := G9.out.hb; omega), ?_⟩
    exact ⟨p2'.os.trans G9.out.kp.os, p2'.tape.trans G9.out.kp.tape, p2'.output.trans G9.out.kp.output, Nat.le_trans G9.out.kp.size p2'.size, fun k hk1 hn => by
      rw [p2'.block k (Nat.lt_of_lt_of_le hk1 G9.out.kp.size) (fun e => by have e2 : k = w.heap.size + 1 := e; omega), G9.out.kp.block k hk1 hn]⟩
  have hxk' : x = .returned (.int .i64 1) := by rw [hxk, hkk]; rfl
  subst hxk'
  clear hxk hkk kk
  have hbn : ∀ k, k = B → k < w.heap.size := fun k e => by rw [e]; exact HBL.out
  have HNE : Hid (w.heap.size ≠ B ∧ w.heap.size + 1 ≠ B) := Lib.hid (by have := HBL.out; omega)
  have H2 : Hid (RdX w2 B (num8 h0 ++ (num8 i0 ++ (num8 h1 ++ (num8 i1 ++ ([l.length] ++ (encL l ++ rest)))))) ∧ w2.heap[w.heap.size]? = some (.cells #[.pointer (some ⟨B, 0, none⟩)] 76 (0, 0)) ∧ w2.heap[w.heap.size + 1]? = some (.cells #[.int .i64 0, .int .u64 0, .int .i64 0, .int .u64 0, .int .i64 0, .slice none 0 0, .int .i64 0, .int .u64 0, .int .i64 0, .slice none 0 0] 35 (0, 0)) ∧ Kq.Keeps (· = B) w w2) := Lib.hid ⟨Or.inl hr2, k2.blk H1.out.2.1 HNE.out.1, k2.blk H1.out.2.2 HNE.out.2, (Kq.Keeps.of_below H1.out.1 (fun k h1 h2 => absurd h2 (Nat.not_lt.2 h1))).trans k2⟩
  clear hr2 k2 HR1 H1
  obtain ⟨T, hT⟩ : ∃ T, T = w2.heap.size := ⟨_, rfl⟩
  have G3 : Hid (GsX w (w2.alloc (.cells #[.int .i64 1, .int .u64 0, .int .i64 0, .int .u64 0, .int .i64 0, .slice none 0 0, .int .i64 0, .int .u64 0, .int .i64 0, .slice none 0 0] 35)) B T (num8 h0 ++ (num8 i0 ++ (num8 h1 ++ (num8 i1 ++ ([l.length] ++ (encL l ++ rest)))))) #[.int .i64 1, .int .u64 0, .int .i64 0, .int .u64 0, .int .i64 0, .slice none 0 0, .int .i64 0, .int .u64 0, .int .i64 0, .slice none 0 0]) := Lib.hid (by
    have hb := Kq.below_alloc w2 (.cells #[.int .i64 1, .int .u64 0, .int .i64 0, .int .u64 0, .int .i64 0, .slice none 0 0, .int .i64 0, .int .u64 0, .int .i64 0, .slice none 0 0] 35)
    have hr := Kq.blk_new w2 #[.int .i64 1, .int .u64 0, .int .i64 0, .int .u64 0, .int .i64 0, .slice none 0 0, .int .i64 0, .int .u64 0, .int .i64 0, .slice none 0 0] 35 (0, 0)
    rw [← hT] at hr
    exact ⟨H2.out.1.below hb, Kq.below_blk hb H2.out.2.1 (Kq.blk_lt H2.out.2.1), Kq.below_blk hb H2.out.2.2.1 (Kq.blk_lt H2.out.2.2.1), hr, H2.out.2.2.2.trans (Kq.Keeps.of_below hb (fun k h1 h2 => absurd h2 (Nat.not_lt.2 h1))), by rw [hT]; exact Kq.blk_lt H2.out.2.2.1, HBL.out⟩)
  have x0 := Kq.blk_cell G3.out.x 0
  go_wp2_with fail
  rw [← hT]
  obtain ⟨w3, hw3⟩ : ∃ z, z = w2.alloc (.cells #[.int .i64 1, .int .u64 0, .int .i64 0, .int .u64 0, .int .i64 0, .slice none 0 0, .int .i64 0, .int .u64 0, .int .i64 0, .slice none 0 0] 35) := ⟨_, rfl⟩
  rw [← hw3] at G3 ⊢
  clear hw3 hT H2 x0
  refine (x_place B h0 i0 _ w3 G3.out.rd HH.out.1 HH.out.2.2.1).mono ?_
  rintro x w4 ⟨zh0, zi0, rfl, k4, hr4⟩
  have G4 := Lib.hid (G3.out.step hr4 k4)
  clear hr4 k4 G3
  have G5 : Hid (GsX w ((w4.setCell ⟨T, 1, none⟩ (.int .u64 zh0)).setCell ⟨T, 2, none⟩ (.int .i64 zi0)) B T (num8 h1 ++ (num8 i1 ++ ([l.length] ++ (encL l ++ rest)))) #[.int .i64 1, .int .u64 zh0, .int .i64 zi0, .int .u64 0, .int .i64 0, .slice none 0 0, .int .i64 0, .int .u64 0, .int .i64 0, .slice none 0 0]) := Lib.hid ((G4.out.set 1 (.int .u64 zh0)).set 2 (.int .i64 zi0))
  have y0 := Kq.blk_cell G4.out.t 1
  have y1 := Kq.blk_cell G4.out.t 2
  have y1' := Kq.blk_cell (G4.out.set 1 (.int .u64 zh0)).t 2
  have k0 := Kq.blk_free G4.out.t 1
  have k1 := Kq.blk_free G4.out.t 2
  have k1' := Kq.blk_free (G4.out.set 1 (.int .u64 zh0)).t 2
  have x0 := Kq.blk_cell G5.out.x 0
  go_wp2_with fail
  clear y0 y1 y1' k0 k1 k1' x0 G4
  obtain ⟨w5, hw5⟩ : ∃ z, z = (w4.setCell ⟨T, 1, none⟩ (.int .u64 zh0)).setCell ⟨T, 2, none⟩ (.int .i64 zi0) := ⟨_, rfl⟩
  rw [← hw5] at G5 ⊢
  clear hw5
  refine (x_place B h1 i1 _ w5 G5.out.rd HH.out.2.1 HH.out.2.2.2.1).mono ?_
  rintro x w6 ⟨zh1, zi1, rfl, k6, hr6⟩
  have G6 := Lib.hid (G5.out.step hr6 k6)
  clear hr6 k6 G5
  have G7 : Hid (GsX w ((w6.setCell ⟨T, 3, none⟩ (.int .u64 zh1)).setCell ⟨T, 4, none⟩ (.int .i64 zi1)) B T ([l.length] ++ (encL l ++ rest)) #[.int .i64 1, .int .u64 zh0, .int .i64 zi0, .int .u64 zh1, .int .i64 zi1, .slice none 0 0, .int .i64 0, .int .u64 0, .int .i64 0, .slice none 0 0]) := Lib.hid ((G6.out.set 3 (.int .u64 zh1)).set 4 (.int .i64 zi1))
  have y0 := Kq.blk_cell G6.out.t 3
  have y1 := Kq.blk_cell G6.out.t 4
  have y1' := Kq.blk_cell (G6.out.set 3 (.int .u64 zh1)).t 4
  have k0 := Kq.blk_free G6.out.t 3
  have k1 := Kq.blk_free G6.out.t 4
  have k1' := Kq.blk_free (G6.out.set 3 (.int .u64 zh1)).t 4
  have x0 := Kq.blk_cell G7.out.x 0
  go_wp2_with fail
  clear y0 y1 y1' k0 k1 k1' x0 G6
  obtain ⟨w7, hw7⟩ : ∃ z, z = (w6.setCell ⟨T, 3, none⟩ (.int .u64 zh1)).setCell ⟨T, 4, none⟩ (.int .i64 zi1) := ⟨_, rfl⟩
  rw [← hw7] at G7 ⊢
  clear hw7
  refine (x_items B l rest w7 G7.out.rd HH.out.2.2.2.2.1 (by have := HH.out.2.2.2.2.2.1; omega) HH.out.2.2.2.2.2.2).mono ?_
  rintro x w8 ⟨A, nn, c, rfl, hnn, k8, hr8⟩
  have G8 := Lib.hid (G7.out.step hr8 k8)
  have G9 : Hid (GsX w (w8.setCell ⟨T, 5, none⟩ (.slice A nn c)) B T rest #[.int .i64 1, .int .u64 zh0, .int .i64 zi0, .int .u64 zh1, .int .i64 zi1, .slice A nn c, .int .i64 0, .int .u64 0, .int .i64 0, .slice none 0 0]) := Lib.hid (G8.out.set 5 (.slice A nn c))
  have HNN := Lib.hid hnn
  clear hr8 k8 G7 hnn
  have y0 := Kq.blk_cell G8.out.t 5
  have k0 := Kq.blk_free G8.out.t 5
  have y5 := Kq.blk_cell G9.out.t 5
  have e4 : decide ((nn : Int) ≤ 40) = true := decide_eq_true (by have h1 := HNN.out; have h2 := HLL.out; omega)
  have e4' : decide (nn ≤ 40) = true := decide_eq_true (by have h1 := HNN.out; have h2 := HLL.out; omega)
  go_wp2_with fail
  clear y0 k0 y5 G8 e4 e4'
  obtain ⟨w9, hw9⟩ : ∃ z, z = w8.setCell ⟨T, 5, none⟩ (.slice A nn c) := ⟨_, rfl⟩
  have HW9 := Lib.hid hw9
  rw [← hw9] at G9 ⊢
  clear hw9
  refine (rec_need w.heap.size w9).mono ?_
  rintro x w10 ⟨rfl, hw10⟩
  subst hw10
  have t0 := Kq.blk_cell G9.out.t 0
  have t1 := Kq.blk_cell G9.out.t 1
  have t2 := Kq.blk_cell G9.out.t 2
  have t3 := Kq.blk_cell G9.out.t 3
  have t4 := Kq.blk_cell G9.out.t 4
  have t5 := Kq.blk_cell G9.out.t 5
  have t6 := Kq.blk_cell G9.out.t 6
  have t7 := Kq.blk_cell G9.out.t 7
  have t8 := Kq.blk_cell G9.out.t 8
  have t9 := Kq.blk_cell G9.out.t 9
  have r0 := Kq.blk_cell G9.out.r 0
  have u0 := Kq.blk_free G9.out.r 0
  have r1 := Kq.blk_cell G9.out.r 1
  have u1 := Kq.blk_free G9.out.r 1
  have r2 := Kq.blk_cell G9.out.r 2
  have u2 := Kq.blk_free G9.out.r 2
  have r3 := Kq.blk_cell G9.out.r 3
  have u3 := Kq.blk_free G9.out.r 3
  have r4 := Kq.blk_cell G9.out.r 4
  have u4 := Kq.blk_free G9.out.r 4
  have r5 := Kq.blk_cell G9.out.r 5
  have u5 := Kq.blk_free G9.out.r 5
  have r6 := Kq.blk_cell G9.out.r 6
  have u6 := Kq.blk_free G9.out.r 6
  have r7 := Kq.blk_cell G9.out.r 7
  have u7 := Kq.blk_free G9.out.r 7
  have r8 := Kq.blk_cell G9.out.r 8
  have u8 := Kq.blk_free G9.out.r 8
  have r9 := Kq.blk_cell G9.out.r 9
  have u9 := Kq.blk_free G9.out.r 9
  go_wp2
  clear t0 r0 u0 t1 r1 u1 t2 r2 u2 t3 r3 u3 t4 r4 u4 t5 r5 u5 t6 r6 u6 t7 r7 u7 t8 r8 u8 t9 r9 u9
  change bodyPost _ _ _ _ _ (fillRc w10 (w.heap.size + 1) (.int .i64 1) (.int .u64 zh0) (.int .i64 zi0) (.int .u64 zh1) (.int .i64 zi1) (.slice A nn c) (.int .i64 0) (.int .u64 0) (.int .i64 0) (.slice none 0 0))
  have p1' := fillRc_blk G9.out.r (.int .i64 1) (.int .u64 zh0) (.int .i64 zi0) (.int .u64 zh1) (.int .i64 zi1) (.slice A nn c) (.int .i64 0) (.int .u64 0) (.int .i64 0) (.slice none 0 0)
  have p2' := fillRc_keeps w10 (w.heap.size + 1) (.int .i64 1) (.int .u64 zh0) (.int .i64 zi0) (.int .u64 zh1) (.int .i64 zi1) (.slice A nn c) (.int .i64 0) (.int .u64 0) (.int .i64 0) (.slice none 0 0)
  generalize fillRc w10 (w.heap.size + 1) (.int .i64 1) (.int .u64 zh0) (.int .i64 zi0) (.int .u64 zh1) (.int .i64 zi1) (.slice A nn c) (.int .i64 0) (.int .u64 0) (.int .i64 0) (.slice none 0 0) = z at *
  have t0 := Kq.blk_cell p1' 0
  have t1 := Kq.blk_cell p1' 1
  have t2 := Kq.blk_cell p1' 2
  have t3 := Kq.blk_cell p1' 3
  have t4 := Kq.blk_cell p1' 4
  have t5 := Kq.blk_cell p1' 5
  have t6 := Kq.blk_cell p1' 6
  have t7 := Kq.blk_cell p1' 7
  have t8 := Kq.blk_cell p1' 8
  have t9 := Kq.blk_cell p1' 9
  refine bodyPost_ret (v := .agg #[.int .i64 1, .int .u64 zh0, .int .i64 zi0, .int .u64 zh1, .int .i64 zi1, .slice A nn c, .int .i64 0, .int .u64 0, .int .i64 0, .slice none 0 0]) (by simp [results, Try.results30, go_sem, t0, t1, t2, t3, t4, t5, t6, t7, t8, t9]) rfl ?_
  have hT := G9.out.ht
  have hBB := G9.out.hb
  refine ⟨_, _, _, _, _, _, _, _, _, _, _, _, _, _, rfl, G9.out.rd.keeps p2' (fun h => by have h2 : B = w.heap.size + 1 := h; have := G9.out.hb; omega), ?_⟩
  exact ⟨p2'.os.trans G9.out.kp.os, p2'.tape.trans G9.out.kp.tape, p2'.output.trans G9.out.kp.output, Nat.le_trans G9.out.kp.size p2'.size, fun k hk1 hn => by
    rw [p2'.block k (Nat.lt_of_lt_of_le hk1 G9.out.kp.size) (fun e => by have e2 : k = w.heap.size + 1 := e; omega), G9.out.kp.block k hk1 hn]⟩
set_option maxRecDepth 100000 in
set_option maxHeartbeats 4000000 in
theorem rec_getX2 (B cc h0 i0 : Nat) (l : List NtV) (rest : List Nat) (w : World) (h : RdB w B ([2] ++ ([cc] ++ (num8 h0 ++ (num8 i0 ++ ([l.length] ++ (encL l ++ rest))))))) (hb0 : h0 < 18446744073709551616) (hc : cc = 0 ∨ cc = 1) (hi0 : i0 ≤ 65535) (hlw : ∀ n ∈ l, n.wf) (hl : l.length ≤ 16) (hok : ∀ n ∈ l, EnOk [1, 2, 3, 4] n) :
    Calls Try.prog 30 #[.pointer (some ⟨B, 0, none⟩)] w (XR w B rest) := by
  have HH := Lib.hid (And.intro hb0 (And.intro hc (And.intro hi0 (And.intro hlw (And.intro hl hok)))))
  have HBL := Lib.hid h.lt
  have HLL := Lib.hid hl
  obtain ⟨w1, hw1⟩ : ∃ z, z = (w.alloc (.cells #[.pointer (some ⟨B, 0, none⟩)] 76)).alloc (.cells #[.int .i64 0, .int .u64 0, .int .i64 0, .int .u64 0, .int .i64 0, .slice none 0 0, .int .i64 0, .int .u64 0, .int .i64 0, .slice none 0 0] 35) := ⟨_, rfl⟩
  have H1 : Hid (Below w.heap.size w w1 ∧ w1.heap[w.heap.size]? = some (.cells #[.pointer (some ⟨B, 0, none⟩)] 76 (0, 0)) ∧ w1.heap[w.heap.size + 1]? = some (.cells #[.int .i64 0, .int .u64 0, .int .i64 0, .int .u64 0, .int .i64 0, .slice none 0 0, .int .i64 0, .int .u64 0, .int .i64 0, .slice none 0 0] 35 (0, 0))) := Lib.hid (by
    have ha := Kq.below_alloc w (.cells #[.pointer (some ⟨B, 0, none⟩)] 76)
    have hra := Kq.blk_new w #[.pointer (some ⟨B, 0, none⟩)] 76 (0, 0)
    have hb := Kq.below_alloc (w.alloc (.cells #[.pointer (some ⟨B, 0, none⟩)] 76)) (.cells #[.int .i64 0, .int .u64 0, .int .i64 0, .int .u64 0, .int .i64 0, .slice none 0 0, .int .i64 0, .int .u64 0, .int .i64 0, .slice none 0 0] 35)
    have hrb := Kq.blk_new (w.alloc (.cells #[.pointer (some ⟨B, 0, none⟩)] 76)) #[.int .i64 0, .int .u64 0, .int .i64 0, .int .u64 0, .int .i64 0, .slice none 0 0, .int .i64 0, .int .u64 0, .int .i64 0, .slice none 0 0] 35 (0, 0)
    rw [World.size_alloc] at hrb
    rw [← hw1] at hb hrb
    exact ⟨ha.trans (hb.mono ha.size), Kq.below_blk hb hra (Kq.blk_lt hra), hrb⟩)
  have HR1 := Lib.hid (h.below H1.out.1)
  have c0 := Kq.blk_cell H1.out.2.1 0
  clear h hb0 hc hi0 hlw hl hok
  rw [hw1] at c0
  go_enter Try.func30, Try.ntmps30
  go_wp2_with fail
  rw [← hw1]
  clear c0 hw1
  refine (xb_byte B 2 _ w1 HR1.out).mono ?_
  rintro x w2 ⟨kk, hxk, k2, ⟨hkk, hr2⟩ | ⟨hkk, hr2⟩⟩
  case inr =>
    obtain ⟨T, hT⟩ : ∃ T, T = w2.heap.size := ⟨_, rfl⟩
    have hxk' : x = .returned (.int .i64 0) := by rw [hxk, hkk]; rfl
    subst hxk'
    clear hxk hkk kk
    have HNE : Hid (w.heap.size ≠ B ∧ w.heap.size + 1 ≠ B) := Lib.hid (by have := HBL.out; omega)
    have H2 : Hid (RdX w2 B rest ∧ w2.heap[w.heap.size]? = some (.cells #[.pointer (some ⟨B, 0, none⟩)] 76 (0, 0)) ∧ w2.heap[w.heap.size + 1]? = some (.cells #[.int .i64 0, .int .u64 0, .int .i64 0, .int .u64 0, .int .i64 0, .slice none 0 0, .int .i64 0, .int .u64 0, .int .i64 0, .slice none 0 0] 35 (0, 0)) ∧ Kq.Keeps (· = B) w w2) := Lib.hid ⟨Or.inr hr2, k2.blk H1.out.2.1 HNE.out.1, k2.blk H1.out.2.2 HNE.out.2, (Kq.Keeps.of_below H1.out.1 (fun k h1 h2 => absurd h2 (Nat.not_lt.2 h1))).trans k2⟩
    have HS2 := Lib.hid hr2
    clear hr2 k2 HR1 H1
    have G3 : Hid (GsX w (w2.alloc (.cells #[.int .i64 0, .int .u64 0, .int .i64 0, .int .u64 0, .int .i64 0, .slice none 0 0, .int .i64 0, .int .u64 0, .int .i64 0, .slice none 0 0] 35)) B T rest #[.int .i64 0, .int .u64 0, .int .i64 0, .int .u64 0, .int .i64 0, .slice none 0 0, .int .i64 0, .int .u64 0, .int .i64 0, .slice none 0 0]) := Lib.hid (by
      have hb := Kq.below_alloc w2 (.cells #[.int .i64 0, .int .u64 0, .int .i64 0, .int .u64 0, .int .i64 0, .slice none 0 0, .int .i64 0, .int .u64 0, .int .i64 0, .slice none 0 0] 35)
      have hr := Kq.blk_new w2 #[.int .i64 0, .int .u64 0, .int .i64 0, .int .u64 0, .int .i64 0, .slice none 0 0, .int .i64 0, .int .u64 0, .int .i64 0, .slice none 0 0] 35 (0, 0)
      rw [← hT] at hr
      exact ⟨H2.out.1.below hb, Kq.below_blk hb H2.out.2.1 (Kq.blk_lt H2.out.2.1), Kq.below_blk hb H2.out.2.2.1 (Kq.blk_lt H2.out.2.2.1), hr, H2.out.2.2.2.trans (Kq.Keeps.of_below hb (fun k h1 h2 => absurd h2 (Nat.not_lt.2 h1))), by rw [hT]; exact Kq.blk_lt H2.out.2.2.1, HBL.out⟩)
    have HS3 : Hid (RdS (w2.alloc (.cells #[.int .i64 0, .int .u64 0, .int .i64 0, .int .u64 0, .int .i64 0, .slice none 0 0, .int .i64 0, .int .u64 0, .int .i64 0, .slice none 0 0] 35)) B) := Lib.hid (HS2.out.below (Kq.below_alloc _ _))
    have x0 := Kq.blk_cell G3.out.x 0
    go_wp2_with fail
    rw [← hT]
    obtain ⟨w9, hw3⟩ : ∃ z, z = w2.alloc (.cells #[.int .i64 0, .int .u64 0, .int .i64 0, .int .u64 0, .int .i64 0, .slice none 0 0, .int .i64 0, .int .u64 0, .int .i64 0, .slice none 0 0] 35) := ⟨_, rfl⟩
    rw [← hw3] at G3 HS3 ⊢
    clear hw3 hT H2 x0
    have G9 := G3
    refine (rec_need_no B w.heap.size w9 (Kq.blk_cell G3.out.x 0) HS3.out).mono ?_
    rintro x w10 ⟨rfl, hw10⟩
    subst hw10
    have t0 := Kq.blk_cell G9.out.t 0
    have t1 := Kq.blk_cell G9.out.t 1
    have t2 := Kq.blk_cell G9.out.t 2
    have t3 := Kq.blk_cell G9.out.t 3
    have t4 := Kq.blk_cell G9.out.t 4
    have t5 := Kq.blk_cell G9.out.t 5
    have t6 := Kq.blk_cell G9.out.t 6
    have t7 := Kq.blk_cell G9.out.t 7
    have t8 := Kq.blk_cell G9.out.t 8
    have t9 := Kq.blk_cell G9.out.t 9
    have r0 := Kq.blk_cell G9.out.r 0
    have u0 := Kq.blk_free G9.out.r 0
    have r1 := Kq.blk_cell G9.out.r 1
    have u1 := Kq.blk_free G9.out.r 1
    have r2 := Kq.blk_cell G9.out.r 2
    have u2 := Kq.blk_free G9.out.r 2
    have r3 := Kq.blk_cell G9.out.r 3
    have u3 := Kq.blk_free G9.out.r 3
    have r4 := Kq.blk_cell G9.out.r 4
    have u4 := Kq.blk_free G9.out.r 4
    have r5 := Kq.blk_cell G9.out.r 5
    have u5 := Kq.blk_free G9.out.r 5
    have r6 := Kq.blk_cell G9.out.r 6
    have u6 := Kq.blk_free G9.out.r 6
    have r7 := Kq.blk_cell G9.out.r 7
    have u7 := Kq.blk_free G9.out.r 7
    have r8 := Kq.blk_cell G9.out.r 8
    have u8 := Kq.blk_free G9.out.r 8
    have r9 := Kq.blk_cell G9.out.r 9
    have u9 := Kq.blk_free G9.out.r 9
    go_wp2
    clear t0 r0 u0 t1 r1 u1 t2 r2 u2 t3 r3 u3 t4 r4 u4 t5 r5 u5 t6 r6 u6 t7 r7 u7 t8 r8 u8 t9 r9 u9
    change bodyPost _ _ _ _ _ (fillRc w10 (w.heap.size + 1) (.int .i64 0) (.int .u64 0) (.int .i64 0) (.int .u64 0) (.int .i64 0) (.slice none 0 0) (.int .i64 0) (.int .u64 0) (.int .i64 0) (.slice none 0 0))
    have p1' := fillRc_blk G9.out.r (.int .i64 0) (.int .u64 0) (.int .i64 0) (.int .u64 0) (.int .i64 0) (.slice none 0 0) (.int .i64 0) (.int .u64 0) (.int .i64 0) (.slice none 0 0)
    have p2' := fillRc_keeps w10 (w.heap.size + 1) (.int .i64 0) (.int .u64 0) (.int .i64 0) (.int .u64 0) (.int .i64 0) (.slice none 0 0) (.int .i64 0) (.int .u64 0) (.int .i64 0) (.slice none 0 0)
    generalize fillRc w10 (w.heap.size + 1) (.int .i64 0) (.int .u64 0) (.int .i64 0) (.int .u64 0) (.int .i64 0) (.slice none 0 0) (.int .i64 0) (.int .u64 0) (.int .i64 0) (.slice none 0 0) = z at *
    have t0 := Kq.blk_cell p1' 0
    have t1 := Kq.blk_cell p1' 1
    have t2 := Kq.blk_cell p1' 2
    have t3 := Kq.blk_cell p1' 3
    have t4 := Kq.blk_cell p1' 4
    have t5 := Kq.blk_cell p1' 5
    have t6 := Kq.blk_cell p1' 6
    have t7 := Kq.blk_cell p1' 7
    have t8 := Kq.blk_cell p1' 8
    have t9 := Kq.blk_cell p1' 9
    refine bodyPost_ret (v := .agg #[.int .i64 0, .int .u64 0, .int .i64 0, .int .u64 0, .int .i64 0, .slice none 0 0, .int .i64 0, .int .u64 0, .int .i64 0, .slice none 0 0]) (by simp [results, Try.results30, go_sem, t0, t1, t2, t3, t4, t5, t6, t7, t8, t9]) rfl ?_
    have hT := G9.out.ht
    have hBB := G9.out.hb
    refine ⟨_, _, _, _, _, _, _, _, _, _, _, _, _, _, rfl, G9.out.rd.keeps p2' (fun h => by have h2 : B = w.heap.size + 1 := h; have := G9.out.hb; omega), ?_⟩
    exact ⟨p2'.os.trans G9.out.kp.os, p2'.tape.trans G9.out.kp.tape, p2'.output.trans G9.out.kp.output, Nat.le_trans G9.out.kp.size p2'.size, fun k hk1 hn => by
      rw [p2'.block k (Nat.lt_of_lt_of_le hk1 G9.out.kp.size) (fun e => by have e2 : k = w.heap.size + 1 := e; omega), G9.out.kp.block k hk1 hn]⟩
  have hxk' : x = .returned (.int .i64 2) := by rw [hxk, hkk]; rfl
  subst hxk'
  clear hxk hkk kk
  have hbn : ∀ k, k = B → k < w.heap.size := fun k e => by rw [e]; exact HBL.out
  have HNE : Hid (w.heap.size ≠ B ∧ w.heap.size + 1 ≠ B) := Lib.hid (by have := HBL.out; omega)
  have H2 : Hid (RdX w2 B ([cc] ++ (num8 h0 ++ (num8 i0 ++ ([l.length] ++ (encL l ++ rest))))) ∧ w2.heap[w.heap.size]? = some (.cells #[.pointer (some ⟨B, 0, none⟩)] 76 (0, 0)) ∧ w2.heap[w.heap.size + 1]? = some (.cells #[.int .i64 0, .int .u64 0, .int .i64 0, .int .u64 0, .int .i64 0, .slice none 0 0, .int .i64 0, .int .u64 0, .int .i64 0, .slice none 0 0] 35 (0, 0)) ∧ Kq.Keeps (· = B) w w2) := Lib.hid ⟨Or.inl hr2, k2.blk H1.out.2.1 HNE.out.1, k2.blk H1.out.2.2 HNE.out.2, (Kq.Keeps.of_below H1.out.1 (fun k h1 h2 => absurd h2 (Nat.not_lt.2 h1))).trans k2⟩
  clear hr2 k2 HR1 H1
  obtain ⟨T, hT⟩ : ∃ T, T = w2.heap.size := ⟨_, rfl⟩
  have G3 : Hid (GsX w (w2.alloc (.cells #[.int .i64 2, .int .u64 0, .int .i64 0, .int .u64 0, .int .i64 0, .slice none 0 0, .int .i64 0, .int .u64 0, .int .i64 0, .slice none 0 0] 35)) B T ([cc] ++ (num8 h0 ++ (num8 i0 ++ ([l.length] ++ (encL l ++ rest))))) #[.int .i64 2, .int .u64 0, .int .i64 0, .int .u64 0, .int .i64 0, .slice none 0 0, .int .i64 0, .int .u64 0, .int .i64 0, .slice none 0 0]) := Lib.hid (by
    have hb := Kq.below_alloc w2 (.cells #[.int .i64 2, .int .u64 0, .int .i64 0, .int .u64 0, .int .i64 0, .slice none 0 0, .int .i64 0, .int .u64 0, .int .i64 0, .slice none 0 0] 35)
    have hr := Kq.blk_new w2 #[.int .i64 2, .int .u64 0, .int .i64 0, .int .u64 0, .int .i64 0, .slice none 0 0, .int .i64 0, .int .u64 0, .int .i64 0, .slice none 0 0] 35 (0, 0)
    rw [← hT] at hr
    exact ⟨H2.out.1.below hb, Kq.below_blk hb H2.out.2.1 (Kq.blk_lt H2.out.2.1), Kq.below_blk hb H2.out.2.2.1 (Kq.blk_lt H2.out.2.2.1), hr, H2.out.2.2.2.trans (Kq.Keeps.of_below hb (fun k h1 h2 => absurd h2 (Nat.not_lt.2 h1))), by rw [hT]; exact Kq.blk_lt H2.out.2.2.1, HBL.out⟩)
  have x0 := Kq.blk_cell G3.out.x 0
  go_wp2_with fail
  rw [← hT]
  obtain ⟨w3, hw3⟩ : ∃ z, z = w2.alloc (.cells #[.int .i64 2, .int .u64 0, .int .i64 0, .int .u64 0, .int .i64 0, .slice none 0 0, .int .i64 0, .int .u64 0, .int .i64 0, .slice none 0 0] 35) := ⟨_, rfl⟩
  rw [← hw3] at G3 ⊢
  clear hw3 hT H2 x0
  refine (x_byte B cc _ w3 G3.out.rd).mono ?_
  rintro x w4 ⟨cz, rfl, k4, hx⟩
  have HCZ : Hid (cz = 0 ∨ cz = 1) := Lib.hid (by have h1 := HH.out.2.1; rcases hx with ⟨e, _⟩ | ⟨e, _⟩ <;> omega)
  have hr4 : RdX w4 B (num8 h0 ++ (num8 i0 ++ ([l.length] ++ (encL l ++ rest)))) := hx.elim (fun e => Or.inl e.2) (fun e => Or.inr e.2)
  clear hx
  have G4 := Lib.hid (G3.out.step hr4 k4)
  clear hr4 k4 G3
  have G5 : Hid (GsX w (w4.setCell ⟨T, 6, none⟩ (.int .i64 (cz : Int))) B T (num8 h0 ++ (num8 i0 ++ ([l.length] ++ (encL l ++ rest)))) #[.int .i64 2, .int .u64 0, .int .i64 0, .int .u64 0, .int .i64 0, .slice none 0 0, .int .i64 (cz : Int), .int .u64 0, .int .i64 0, .slice none 0 0]) := Lib.hid (G4.out.set 6 (.int .i64 (cz : Int)))
  have y0 := Kq.blk_cell G4.out.t 6
  have k0 := Kq.blk_free G4.out.t 6
  have x0 := Kq.blk_cell G5.out.x 0
  go_wp2_with fail
  clear y0 k0 x0 G4
  obtain ⟨w5, hw5⟩ : ∃ z, z = w4.setCell ⟨T, 6, none⟩ (.int .i64 (cz : Int)) := ⟨_, rfl⟩
  rw [← hw5] at G5 ⊢
  clear hw5
  refine (x_place B h0 i0 _ w5 G5.out.rd HH.out.1 HH.out.2.2.1).mono ?_
  rintro x w6 ⟨zh0, zi0, rfl, k6, hr6⟩
  have G6 := Lib.hid (G5.out.step hr6 k6)
  clear hr6 k6 G5
  have G7 : Hid (GsX w ((w6.setCell ⟨T, 7, none⟩ (.int .u64 zh0)).setCell ⟨T, 8, none⟩ (.int .i64 zi0)) B T ([l.length] ++ (encL l ++ rest)) #[.int .i64 2, .int .u64 0, .int .i64 0, .int .u64 0, .int .i64 0, .slice none 0 0, .int .i64 (cz : Int), .int .u64 zh0, .int .i64 zi0, .slice none 0 0]) := Lib.hid ((G6.out.set 7 (.int .u64 zh0)).set 8 (.int .i64 zi0))
  have y0 := Kq.blk_cell G6.out.t 7
  have y1 := Kq.blk_cell G6.out.t 8
  have y1' := Kq.blk_cell (G6.out.set 7 (.int .u64 zh0)).t 8
  have k0 := Kq.blk_free G6.out.t 7
  have k1 := Kq.blk_free G6.out.t 8
  have k1' := Kq.blk_free (G6.out.set 7 (.int .u64 zh0)).t 8
  have x0 := Kq.blk_cell G7.out.x 0
  go_wp2_with fail
  clear y0 y1 y1' k0 k1 k1' x0 G6
  obtain ⟨w7, hw7⟩ : ∃ z, z = (w6.setCell ⟨T, 7, none⟩ (.int .u64 zh0)).setCell ⟨T, 8, none⟩ (.int .i64 zi0) := ⟨_, rfl⟩
  rw [← hw7] at G7 ⊢
  clear hw7
  refine (x_notes B l rest w7 G7.out.rd HH.out.2.2.2.1 (by have := HH.out.2.2.2.2.1; omega) HH.out.2.2.2.2.2).mono ?_
  rintro x w8 ⟨A, nn, c, rfl, hnn, k8, hr8⟩
  have G8 := Lib.hid (G7.out.step hr8 k8)
  have G9 : Hid (GsX w (w8.setCell ⟨T, 9, none⟩ (.slice A nn c)) B T rest #[.int .i64 2, .int .u64 0, .int .i64 0, .int .u64 0, .int .i64 0, .slice none 0 0, .int .i64 (cz : Int), .int .u64 zh0, .int .i64 zi0, .slice A nn c]) := Lib.hid (G8.out.set 9 (.slice A nn c))
  have HNN := Lib.hid hnn
  clear hr8 k8 G7 hnn
  have y0 := Kq.blk_cell G8.out.t 9
  have k0 := Kq.blk_free G8.out.t 9
  have y6 := Kq.blk_cell G9.out.t 6
  have y9 := Kq.blk_cell G9.out.t 9
  have e4 : decide ((nn : Int) ≤ 16) = true := decide_eq_true (by have h1 := HNN.out; have h2 := HLL.out; omega)
  have e4' : decide (nn ≤ 16) = true := decide_eq_true (by have h1 := HNN.out; have h2 := HLL.out; omega)
  have hcc : decide ((cz : Int) = 0 ∨ (cz : Int) = 1) = true := decide_eq_true (by have := HCZ.out; omega)
  go_wp2_with fail
  refine (rec_chain (cz : Int) _).mono ?_
  rintro x wq ⟨rfl, hwq⟩
  subst hwq
  rw [hcc]
  go_wp2_with fail
  clear y0 k0 y6 y9 e4 e4' G8 hcc
  obtain ⟨w9, hw9⟩ : ∃ z, z = w8.setCell ⟨T, 9, none⟩ (.slice A nn c) := ⟨_, rfl⟩
  have HW9 := Lib.hid hw9
  rw [← hw9] at G9 ⊢
  clear hw9
  refine (rec_need w.heap.size w9).mono ?_
  rintro x w10 ⟨rfl, hw10⟩
  subst hw10
  have t0 := Kq.blk_cell G9.out.t 0
  have t1 := Kq.blk_cell G9.out.t 1
  have t2 := Kq.blk_cell G9.out.t 2
  have t3 := Kq.blk_cell G9.out.t 3
  have t4 := Kq.blk_cell G9.out.t 4
  have t5 := Kq.blk_cell G9.out.t 5
  have t6 := Kq.blk_cell G9.out.t 6
  have t7 := Kq.blk_cell G9.out.t 7
  have t8 := Kq.blk_cell G9.out.t 8
  have t9 := Kq.blk_cell G9.out.t 9
  have r0 := Kq.blk_cell G9.out.r 0
  have u0 := Kq.blk_free G9.out.r 0
  have r1 := Kq.blk_cell G9.out.r 1
  have u1 := Kq.blk_free G9.out.r 1
  have r2 := Kq.blk_cell G9.out.r 2
  have u2 := Kq.blk_free G9.out.r 2
  have r3 := Kq.blk_cell G9.out.r 3
  have u3 := Kq.blk_free G9.out.r 3
  have r4 := Kq.blk_cell G9.out.r 4
  have u4 := Kq.blk_free G9.out.r 4
  have r5 := Kq.blk_cell G9.out.r 5
  have u5 := Kq.blk_free G9.out.r 5
  have r6 := Kq.blk_cell G9.out.r 6
  have u6 := Kq.blk_free G9.out.r 6
  have r7 := Kq.blk_cell G9.out.r 7
  have u7 := Kq.blk_free G9.out.r 7
  have r8 := Kq.blk_cell G9.out.r 8
  have u8 := Kq.blk_free G9.out.r 8
  have r9 := Kq.blk_cell G9.out.r 9
  have u9 := Kq.blk_free G9.out.r 9
  go_wp2
  clear t0 r0 u0 t1 r1 u1 t2 r2 u2 t3 r3 u3 t4 r4 u4 t5 r5 u5 t6 r6 u6 t7 r7 u7 t8 r8 u8 t9 r9 u9
  change bodyPost _ _ _ _ _ (fillRc w10 (w.heap.size + 1) (.int .i64 2) (.int .u64 0) (.int .i64 0) (.int .u64 0) (.int .i64 0) (.slice none 0 0) (.int .i64 (cz : Int)) (.int .u64 zh0) (.int .i64 zi0) (.slice A nn c))
  have p1' := fillRc_blk G9.out.r (.int .i64 2) (.int .u64 0) (.int .i64 0) (.int .u64 0) (.int .i64 0) (.slice none 0 0) (.int .i64 (cz : Int)) (.int .u64 zh0) (.int .i64 zi0) (.slice A nn c)
  have p2' := fillRc_keeps w10 (w.heap.size + 1) (.int .i64 2) (.int .u64 0) (.int .i64 0) (.int .u64 0) (.int .i64 0) (.slice none 0 0) (.int .i64 (cz : Int)) (.int .u64 zh0) (.int .i64 zi0) (.slice A nn c)
  generalize fillRc w10 (w.heap.size + 1) (.int .i64 2) (.int .u64 0) (.int .i64 0) (.int .u64 0) (.int .i64 0) (.slice none 0 0) (.int .i64 (cz : Int)) (.int .u64 zh0) (.int .i64 zi0) (.slice A nn c) = z at *
  have t0 := Kq.blk_cell p1' 0
  have t1 := Kq.blk_cell p1' 1
  have t2 := Kq.blk_cell p1' 2
  have t3 := Kq.blk_cell p1' 3
  have t4 := Kq.blk_cell p1' 4
  have t5 := Kq.blk_cell p1' 5
  have t6 := Kq.blk_cell p1' 6
  have t7 := Kq.blk_cell p1' 7
  have t8 := Kq.blk_cell p1' 8
  have t9 := Kq.blk_cell p1' 9
  refine bodyPost_ret (v := .agg #[.int .i64 2, .int .u64 0, .int .i64 0, .int .u64 0, .int .i64 0, .slice none 0 0, .int .i64 (cz : Int), .int .u64 zh0, .int .i64 zi0, .slice A nn c]) (by simp [results, Try.results30, go_sem, t0, t1, t2, t3, t4, t5, t6, t7, t8, t9]) rfl ?_
  have hT := G9.out.ht
  have hBB := G9.out.hb
  refine ⟨_, _, _, _, _, _, _, _, _, _, _, _, _, _, rfl, G9.out.rd.keeps p2' (fun h => by have h2 : B = w.heap.size + 1 := h; have := G9.out.hb; omega), ?_⟩
  exact ⟨p2'.os.trans G9.out.kp.os, p2'.tape.trans G9.out.kp.tape, p2'.output.trans G9.out.kp.output, Nat.le_trans G9.out.kp.size p2'.size, fun k hk1 hn => by
    rw [p2'.block k (Nat.lt_of_lt_of_le hk1 G9.out.kp.size) (fun e => by have e2 : k = w.heap.size + 1 := e; omega), G9.out.kp.block k hk1 hn]⟩
end Go.Proofs.Ytkbiolhcpghmkaa
