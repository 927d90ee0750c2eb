/- carrackref23's reader: an act, but for a crash. Condition: a text of at most 100000 bytes. -/
import Derived.WalkSpells
import Derived.Outline
import Derived.ProofKit
import Derived.Test.YtjilbcefikbihaaScRd2Q
namespace Go.Proofs.Ytjilbcefikbihaa
open Go.RowKit
set_option linter.unusedVariables false
/-- what act tells -/
def ActPost (w : World) (R : Nat) (S : ByteArray) (y : SaV × Int × ByteArray) (x : Ending) (w' : World) : Prop :=
  ∃ A c, x = .returned (.agg ⟨y.1.cells (.slice A y.1.ws.length c) []⟩) ∧ WsAt w' (.slice A y.1.ws.length c) y.1.ws ∧ (∀ b, sBlk (.slice A y.1.ws.length c) = some b → w.heap.size ≤ b ∧ b < w'.heap.size) ∧ RfK w' R S y.2.1 y.2.2 ∧ Kq.Keeps (· = R) w w'
/-- an act under way -/
structure AcW (w wr : World) (R : Nat) (S : ByteArray) (X C0 C1 : Nat) (sv : Value) (y : SaV × Int × ByteArray) : Prop where
  rd : RfK wr R S y.2.1 y.2.2
  c1 : wr.heap[C1]? = some (.cells ⟨y.1.cells sv []⟩ 29 (0, 0))
  c0 : wr.heap[C0]? = some (.cells ⟨SaV.zero.cells (.slice none 0 0) []⟩ 29 (0, 0))
  x : wr.heap[X]? = some (.cells #[.pointer (some ⟨R, 0, none⟩)] 106 (0, 0))
  kp : Kq.Keeps (fun k => k = R ∨ w.heap.size ≤ k) w wr
def AcN (w : World) (R X C0 C1 : Nat) : Prop := R < w.heap.size ∧ X = w.heap.size ∧ C0 = X + 1 ∧ C1 = X + 2
theorem AcW.set {w wr w2 : World} {R X C0 C1 : Nat} {S : ByteArray} {sv : Value} {y y' : SaV × Int × ByteArray} (h : AcW w wr R S X C0 C1 sv y) (hn : AcN w R X C0 C1) (h2 : RfK w2 R S y'.2.1 y'.2.2) (k2 : Kq.Keeps (· = R) wr w2) (i : Nat) (v : Value) (hc : (y.1.cells sv []).set i v = y'.1.cells sv []) :
    AcW w (w2.setCell ⟨C1, i, none⟩ v) R S X C0 C1 sv y' := by
  obtain ⟨n1, n2, n3, n4⟩ := hn
  have ks : Kq.Keeps (· = C1) w2 (w2.setCell ⟨C1, i, none⟩ v) := Kq.Keeps.setCell _ _ _ rfl
  have hb := k2.blk h.c1 (by omega)
  refine ⟨h2.later ks (by omega), ?_, ks.blk (k2.blk h.c0 (by omega)) (by omega), ks.blk (k2.blk h.x (by omega)) (by omega), ?_⟩
  · rw [Kq.blk_set hb i v, ← hc]
    congr 2
    exact Array.ext' (by rw [Array.toList_setIfInBounds])
  · exact (h.kp.trans (k2.mono (fun k _ h => Or.inl h))).trans (ks.mono (fun k _ h => Or.inr (by omega)))
def m0 : FmV := smF SaV.mk fun a x => { a with mk := x }
def m1 : FmV := smF SaV.mt fun a x => { a with mt := x }
def m2 : FmV := nuF SaV.mh fun a x => { a with mh := x }
def m3 : FmV := smF SaV.pf fun a x => { a with pf := x }
def m4 : FmV := nuF SaV.pq fun a x => { a with pq := x }
def m5 : FmV := nuF SaV.pt fun a x => { a with pt := x }
def m6 : FmV := txF SaV.pd fun a x => { a with pd := x }
def m7 : FmV := txF SaV.mp fun a x => { a with mp := x }
theorem fm6 : fmOf 6 = allF [m0, m1, m2, m3, m4, m5, m6, m7] := rfl
theorem fm0 : fmOf 0 = allF [fC, fT, fD] := rfl
theorem fm2 : fmOf 2 = allF [] := rfl
theorem allF_get (l : List FmV) (a : SaV) (e : Int) (b : ByteArray) : (allF l).get a e b = getL l a e b := rfl
theorem getL_cons (f : FmV) (l : List FmV) (a : SaV) (e : Int) (b : ByteArray) : getL (f :: l) a e b = getL l (f.get a e b).1 (f.get a e b).2.1 (f.get a e b).2.2 := rfl
theorem infoA : (Try.prog.info? 29).map (·.size) = some 14 := by kernel_rfl
theorem act_one (a : SaV) (A : Option Addr) (n c : Nat) : (⟨a.cells (.slice A n c) []⟩ : Array Value).all (·.oneCell') = true := by rw [← Array.all_toList]; rfl
theorem AcW.done {w wr wF : World} {R X C0 C1 : Nat} {S : ByteArray} {A : Option Addr} {c : Nat} {y : SaV × Int × ByteArray} (h : AcW w wr R S X C0 C1 (.slice A y.1.ws.length c) y) (hn : AcN w R X C0 C1) (hw : wF = wr.setRow C0 ⟨y.1.cells (.slice A y.1.ws.length c) []⟩) (hws : WsAt wr (.slice A y.1.ws.length c) y.1.ws) (hsb : ∀ b, sBlk (.slice A y.1.ws.length c) = some b → w.heap.size ≤ b ∧ b < wr.heap.size ∧ b ≠ C0) :
    wF.heap[C0]? = some (.cells ⟨y.1.cells (.slice A y.1.ws.length c) []⟩ 29 (0, 0)) ∧ ActPost w R S y (.returned (.agg ⟨y.1.cells (.slice A y.1.ws.length c) []⟩)) wF := by
  obtain ⟨n1, n2, n3, n4⟩ := hn
  have ks : Kq.Keeps (· = C0) wr wF := by rw [hw]; exact ⟨rfl, rfl, rfl, by simp, fun k _ hk => setRow_other _ _ k _ hk⟩
  refine ⟨by rw [hw]; exact setRow_heap _ _ _ _ _ _ h.c0, A, c, rfl, hws.keeps ks (fun b hb => (hsb b hb).2.2), fun b hb => ⟨(hsb b hb).1, Nat.lt_of_lt_of_le (hsb b hb).2.1 ks.size⟩, h.rd.later ks (by omega), ?_⟩
  exact (h.kp.trans (ks.mono (fun k _ h => Or.inr (by omega)))).mono (fun k hk h => h.elim id (fun h => by omega))
theorem AcW.start {w : World} {R X C0 C1 : Nat} {S : ByteArray} {e : Int} {s : ByteArray} {n : Int} {w1 : World} (h : RfK w R S e s) (hX : X = w.heap.size) (h0 : C0 = w.heap.size + 1) (h1 : C1 = w.heap.size + 2)
    (hw : w1 = ((w.alloc (.cells #[.pointer (some ⟨R, 0, none⟩)] 106)).alloc (.cells #[.int .i64 0, .int .i64 0, .int .u64 0, .string ⟨#[]⟩, .int .i64 0, .int .i64 0, .int .i64 0, .int .u64 0, .int .i64 0, .int .u64 0, .int .u64 0, .string ⟨#[]⟩, .string ⟨#[]⟩, .slice none 0 0] 29)).alloc (.cells #[.int .i64 n, .int .i64 0, .int .u64 0, .string ⟨#[]⟩, .int .i64 0, .int .i64 0, .int .i64 0, .int .u64 0, .int .i64 0, .int .u64 0, .int .u64 0, .string ⟨#[]⟩, .string ⟨#[]⟩, .slice none 0 0] 29)) : AcW w w1 R S X C0 C1 (.slice none 0 0) (zeroK n, e, s) ∧ AcN w R X C0 C1 := by
  have ba := Kq.below_alloc w (.cells #[.pointer (some ⟨R, 0, none⟩)] 106)
  have ra := Kq.blk_new w #[.pointer (some ⟨R, 0, none⟩)] 106 (0, 0)
  have bb := Kq.below_alloc (w.alloc (.cells #[.pointer (some ⟨R, 0, none⟩)] 106)) (.cells #[.int .i64 0, .int .i64 0, .int .u64 0, .string ⟨#[]⟩, .int .i64 0, .int .i64 0, .int .i64 0, .int .u64 0, .int .i64 0, .int .u64 0, .int .u64 0, .string ⟨#[]⟩, .string ⟨#[]⟩, .slice none 0 0] 29)
  have rb := Kq.blk_new (w.alloc (.cells #[.pointer (some ⟨R, 0, none⟩)] 106)) #[.int .i64 0, .int .i64 0, .int .u64 0, .string ⟨#[]⟩, .int .i64 0, .int .i64 0, .int .i64 0, .int .u64 0, .int .i64 0, .int .u64 0, .int .u64 0, .string ⟨#[]⟩, .string ⟨#[]⟩, .slice none 0 0] 29 (0, 0)
  have bc := Kq.below_alloc ((w.alloc (.cells #[.pointer (some ⟨R, 0, none⟩)] 106)).alloc (.cells #[.int .i64 0, .int .i64 0, .int .u64 0, .string ⟨#[]⟩, .int .i64 0, .int .i64 0, .int .i64 0, .int .u64 0, .int .i64 0, .int .u64 0, .int .u64 0, .string ⟨#[]⟩, .string ⟨#[]⟩, .slice none 0 0] 29)) (.cells #[.int .i64 n, .int .i64 0, .int .u64 0, .string ⟨#[]⟩, .int .i64 0, .int .i64 0, .int .i64 0, .int .u64 0, .int .i64 0, .int .u64 0, .int .u64 0, .string ⟨#[]⟩, .string ⟨#[]⟩, .slice none 0 0] 29)
  have rc := Kq.blk_new ((w.alloc (.cells #[.pointer (some ⟨R, 0, none⟩)] 106)).alloc (.cells #[.int .i64 0, .int .i64 0, .int .u64 0, .string ⟨#[]⟩, .int .i64 0, .int .i64 0, .int .i64 0, .int .u64 0, .int .i64 0, .int .u64 0, .int .u64 0, .string ⟨#[]⟩, .string ⟨#[]⟩, .slice none 0 0] 29)) #[.int .i64 n, .int .i64 0, .int .u64 0, .string ⟨#[]⟩, .int .i64 0, .int .i64 0, .int .i64 0, .int .u64 0, .int .i64 0, .int .u64 0, .int .u64 0, .string ⟨#[]⟩, .string ⟨#[]⟩, .slice none 0 0] 29 (0, 0)
  have ra3 := Kq.below_blk bc (Kq.below_blk bb ra (Kq.blk_lt ra)) (Nat.lt_of_lt_of_le (Kq.blk_lt ra) bb.size)
  have rb3 := Kq.below_blk bc rb (Kq.blk_lt rb)
  have ball := ba.trans ((bb.trans (bc.mono bb.size)).mono ba.size)
  simp only [World.size_alloc] at rb3 rc
  rw [← hw] at ra3 rb3 rc ball
  refine ⟨⟨h.later (P := fun _ => False) (keeps_any ball) id, by rw [h1]; exact rc, by rw [h0]; exact rb3, by rw [hX]; exact ra3, keeps_any ball⟩, h.lt, hX, by omega, by omega⟩
set_option maxRecDepth 100000 in
set_option maxHeartbeats 2000000 in
theorem ra_0 (R : Nat) (S : ByteArray) (e : Int) (s : ByteArray) (w : World) (h : RfK w R S e s) :
    Calls Try.prog 40 #[.agg #[.pointer (some ⟨R, 0, none⟩)], .int .i64 0] w (ActPost w R S ((fmOf 0).get (zeroK 0) e s)) := by
  obtain ⟨X, hX⟩ : ∃ z, z = w.heap.size := ⟨_, rfl⟩
  obtain ⟨C0, hC0⟩ : ∃ z, z = w.heap.size + 1 := ⟨_, rfl⟩
  obtain ⟨C1, hC1⟩ : ∃ z, z = w.heap.size + 2 := ⟨_, rfl⟩
  obtain ⟨w1, hw1⟩ : ∃ z, z = ((w.alloc (.cells #[.pointer (some ⟨R, 0, none⟩)] 106)).alloc (.cells #[.int .i64 0, .int .i64 0, .int .u64 0, .string ⟨#[]⟩, .int .i64 0, .int .i64 0, .int .i64 0, .int .u64 0, .int .i64 0, .int .u64 0, .int .u64 0, .string ⟨#[]⟩, .string ⟨#[]⟩, .slice none 0 0] 29)).alloc (.cells #[.int .i64 0, .int .i64 0, .int .u64 0, .string ⟨#[]⟩, .int .i64 0, .int .i64 0, .int .i64 0, .int .u64 0, .int .i64 0, .int .u64 0, .int .u64 0, .string ⟨#[]⟩, .string ⟨#[]⟩, .slice none 0 0] 29) := ⟨_, rfl⟩
  have HS := Lib.hid (AcW.start (n := 0) h hX hC0 hC1 hw1)
  have H1 := Lib.hid HS.out.1
  have HN := Lib.hid HS.out.2
  clear h HS
  obtain ⟨y, hy⟩ : ∃ z, z = ((zeroK 0, e, s) : SaV × Int × ByteArray) := ⟨_, rfl⟩
  have HG : Hid ((fmOf 0).get (zeroK 0) e s = getL [fC, fT, fD] y.1 y.2.1 y.2.2) := Lib.hid (by rw [hy, fm0, allF_get])
  have HY0 : Hid (y.1.ws = []) := Lib.hid (by (first | (rw [hy]; done) | (rw [hy]; rfl)))
  rw [← hy] at H1
  clear hy
  have x0 : w1.cell? ⟨X, 0, none⟩ = some (.pointer (some ⟨R, 0, none⟩)) := Kq.blk_cell H1.out.x 0
  rw [hw1, hX] at x0
  go_enter Try.func40, Try.ntmps40
  go_wp2_with fail
  rw [← hw1]
  have hq1 : w.heap.size + 1 = C0 := hC0.symm
  have hq2 : w.heap.size + 1 + 1 = C1 := by omega
  try rw [hq2]
  try rw [hq1]
  try rw [← hX]
  clear hw1 hX hC0 hC1 x0 hq1 hq2
  obtain ⟨v0, hv0⟩ : ∃ z, z = (byteF y.2.1 y.2.2).1 := ⟨_, rfl⟩
  have HC := Lib.hid (rk_one R S y.2.1 y.2.2 w1 H1.out.rd)
  refine HC.out.mono ?_
  rw [← hv0]
  rintro x wz ⟨rfl, rz, kz⟩
  have HW : Hid (AcW w (wz.setCell ⟨C1, 1, none⟩ (.int .i64 v0)) R S X C0 C1 (.slice none 0 0) (({ y.1 with c := (byteF y.2.1 y.2.2).1 }, (byteF y.2.1 y.2.2).2) : SaV × Int × ByteArray)) := Lib.hid (AcW.set (y' := (({ y.1 with c := (byteF y.2.1 y.2.2).1 }, (byteF y.2.1 y.2.2).2) : SaV × Int × ByteArray)) H1.out HN.out rz kz 1 _ (by rw [hv0]; rfl))
  have oz : wz.cell? ⟨C1, 1, none⟩ = some (.int .i64 y.1.c) := Kq.blk_cell (kz.blk H1.out.c1 (by have := HN.out; unfold AcN at this; omega)) 1
  have fz : wz.frozen? ⟨C1, 1, none⟩ = false := Kq.blk_free (kz.blk H1.out.c1 (by have := HN.out; unfold AcN at this; omega)) 1
  obtain ⟨w2, hw2⟩ : ∃ z, z = wz.setCell ⟨C1, 1, none⟩ (.int .i64 v0) := ⟨_, rfl⟩
  rw [← hw2] at HW
  obtain ⟨y1, hy1⟩ : ∃ z, z = (({ y.1 with c := (byteF y.2.1 y.2.2).1 }, (byteF y.2.1 y.2.2).2) : SaV × Int × ByteArray) := ⟨_, rfl⟩
  rw [← hy1] at HW
  have HY1 : Hid (y1.1.ws = []) := Lib.hid (by rw [hy1]; exact HY0.out)
  have HG1 : Hid ((fmOf 0).get (zeroK 0) e s = getL [fT, fD] y1.1 y1.2.1 y1.2.2) := Lib.hid (HG.out.trans (by rw [getL_cons, show fC.get y.1 y.2.1 y.2.2 = y1 from by rw [hy1]; rfl]))
  clear rz kz HC hv0 H1 hy1 HG
  have H2 := HW
  clear HW
  have x0 : w2.cell? ⟨X, 0, none⟩ = some (.pointer (some ⟨R, 0, none⟩)) := Kq.blk_cell H2.out.x 0
  rw [hw2] at x0
  go_wp2_with fail
  rw [← hw2]
  clear hw2 oz fz x0
  obtain ⟨v1, hv1⟩ : ∃ z, z = (numF y1.2.1 y1.2.2).1 := ⟨_, rfl⟩
  have HC := Lib.hid (rk_number R S y1.2.1 y1.2.2 w2 H2.out.rd)
  refine HC.out.mono ?_
  rw [← hv1]
  rintro x wz ⟨rfl, rz, kz⟩
  have HW : Hid (AcW w (wz.setCell ⟨C1, 2, none⟩ (.int .u64 v1)) R S X C0 C1 (.slice none 0 0) (({ y1.1 with t := (numF y1.2.1 y1.2.2).1 }, (numF y1.2.1 y1.2.2).2) : SaV × Int × ByteArray)) := Lib.hid (AcW.set (y' := (({ y1.1 with t := (numF y1.2.1 y1.2.2).1 }, (numF y1.2.1 y1.2.2).2) : SaV × Int × ByteArray)) H2.out HN.out rz kz 2 _ (by rw [hv1]; rfl))
  have oz : wz.cell? ⟨C1, 2, none⟩ = some (.int .u64 y1.1.t) := Kq.blk_cell (kz.blk H2.out.c1 (by have := HN.out; unfold AcN at this; omega)) 2
  have fz : wz.frozen? ⟨C1, 2, none⟩ = false := Kq.blk_free (kz.blk H2.out.c1 (by have := HN.out; unfold AcN at this; omega)) 2
  obtain ⟨w3, hw3⟩ : ∃ z, z = wz.setCell ⟨C1, 2, none⟩ (.int .u64 v1) := ⟨_, rfl⟩
  rw [← hw3] at HW
  obtain ⟨y2, hy2⟩ : ∃ z, z = (({ y1.1 with t := (numF y1.2.1 y1.2.2).1 }, (numF y1.2.1 y1.2.2).2) : SaV × Int × ByteArray) := ⟨_, rfl⟩
  rw [← hy2] at HW
  have HY2 : Hid (y2.1.ws = []) := Lib.hid (by rw [hy2]; exact HY1.out)
  have HG2 : Hid ((fmOf 0).get (zeroK 0) e s = getL [fD] y2.1 y2.2.1 y2.2.2) := Lib.hid (HG1.out.trans (by rw [getL_cons, show fT.get y1.1 y1.2.1 y1.2.2 = y2 from by rw [hy2]; rfl]))
  clear rz kz HC hv1 H2 hy2 HG1
  have H3 := HW
  clear HW
  have x0 : w3.cell? ⟨X, 0, none⟩ = some (.pointer (some ⟨R, 0, none⟩)) := Kq.blk_cell H3.out.x 0
  rw [hw3] at x0
  go_wp2_with fail
  rw [← hw3]
  clear hw3 oz fz x0
  obtain ⟨v2, hv2⟩ : ∃ z, z = (textF y2.2.1 y2.2.2).1 := ⟨_, rfl⟩
  have HC := Lib.hid (rk_text R S y2.2.1 y2.2.2 w3 H3.out.rd)
  refine HC.out.mono ?_
  rw [← hv2]
  rintro x wz ⟨rfl, rz, kz⟩
  have HW : Hid (AcW w (wz.setCell ⟨C1, 3, none⟩ (.string v2)) R S X C0 C1 (.slice none 0 0) (({ y2.1 with d := (textF y2.2.1 y2.2.2).1 }, (textF y2.2.1 y2.2.2).2) : SaV × Int × ByteArray)) := Lib.hid (AcW.set (y' := (({ y2.1 with d := (textF y2.2.1 y2.2.2).1 }, (textF y2.2.1 y2.2.2).2) : SaV × Int × ByteArray)) H3.out HN.out rz kz 3 _ (by rw [hv2]; rfl))
  have oz : wz.cell? ⟨C1, 3, none⟩ = some (.string y2.1.d) := Kq.blk_cell (kz.blk H3.out.c1 (by have := HN.out; unfold AcN at this; omega)) 3
  have fz : wz.frozen? ⟨C1, 3, none⟩ = false := Kq.blk_free (kz.blk H3.out.c1 (by have := HN.out; unfold AcN at this; omega)) 3
  obtain ⟨w4, hw4⟩ : ∃ z, z = wz.setCell ⟨C1, 3, none⟩ (.string v2) := ⟨_, rfl⟩
  rw [← hw4] at HW
  obtain ⟨y3, hy3⟩ : ∃ z, z = (({ y2.1 with d := (textF y2.2.1 y2.2.2).1 }, (textF y2.2.1 y2.2.2).2) : SaV × Int × ByteArray) := ⟨_, rfl⟩
  rw [← hy3] at HW
  have HY3 : Hid (y3.1.ws = []) := Lib.hid (by rw [hy3]; exact HY2.out)
  have HG3 : Hid ((fmOf 0).get (zeroK 0) e s = getL [] y3.1 y3.2.1 y3.2.2) := Lib.hid (HG2.out.trans (by rw [getL_cons, show fD.get y2.1 y2.2.1 y2.2.2 = y3 from by rw [hy3]; rfl]))
  clear rz kz HC hv2 H3 hy3 HG2
  have H4 := HW
  clear HW
  obtain ⟨yl, hyl⟩ : ∃ z, z = y3 := ⟨_, rfl⟩
  have HYL : Hid (yl.1.ws = []) := Lib.hid (by rw [hyl]; exact HY3.out)
  have HYE : Hid ((fmOf 0).get (zeroK 0) e s = yl) := Lib.hid (HG3.out.trans (by (first | (rw [hyl]; done) | (rw [hyl]; rfl))))
  rw [← hyl] at H4
  clear hyl
  obtain ⟨sl, hsl⟩ : ∃ z, z = (Value.slice none yl.1.ws.length 0) := ⟨_, rfl⟩
  have HSL : Hid ((.slice none 0 0 : Value) = .slice none yl.1.ws.length 0) := Lib.hid (by rw [HYL.out]; rfl)
  have HL := Lib.hid H4.out
  rw [HSL.out] at HL
  clear hsl sl
  obtain ⟨wF, hwF⟩ : ∃ z, z = w4.setRow C0 ⟨yl.1.cells (.slice none yl.1.ws.length 0) []⟩ := ⟨_, rfl⟩
  have HD := Lib.hid (AcW.done HL.out HN.out hwF ⟨none, 0, rfl, fun j hj => by rw [HYL.out] at hj; cases hj⟩ (fun b hb => by cases hb))
  have HB1 := Lib.hid HL.out.c1
  have HB0 := Lib.hid HL.out.c0
  rw [hw4] at HB1 HB0 hwF
  go_wp2_with (first | (refine wpList_load_row (by rfl) 29 (.tmp 5) (by rfl) C1 (by rfl) 29 ⟨yl.1.cells (.slice none yl.1.ws.length 0) []⟩ (0, 0) _ HB1.out Try.underlying29 rfl infoA ?_) | (refine wpList_store_row (by rfl) 29 (.tmp 4) (.tmp 96) (by rfl) C0 ⟨yl.1.cells (.slice none yl.1.ws.length 0) []⟩ (by rfl) (by rfl) 29 _ HB0.out infoA (by rfl) (act_one _ _ _ _) ?_))
  rw [← hwF]
  refine bodyPost_ret (v := .agg ⟨yl.1.cells (.slice none yl.1.ws.length 0) []⟩) (results_cell_row (by rfl) _ _ C0 29 ⟨yl.1.cells (.slice none yl.1.ws.length 0) []⟩ (0, 0) _ (by rfl) HD.out.1 Try.underlying29 rfl infoA) rfl ?_
  rw [HYE.out]
  exact HD.out.2
set_option maxRecDepth 100000 in
set_option maxHeartbeats 2000000 in
theorem ra_1 (R : Nat) (S : ByteArray) (e : Int) (s : ByteArray) (w : World) (h : RfK w R S e s) :
    Calls Try.prog 40 #[.agg #[.pointer (some ⟨R, 0, none⟩)], .int .i64 1] w (ActPost w R S ((fmOf 1).get (zeroK 1) e s)) := by
  obtain ⟨X, hX⟩ : ∃ z, z = w.heap.size := ⟨_, rfl⟩
  obtain ⟨C0, hC0⟩ : ∃ z, z = w.heap.size + 1 := ⟨_, rfl⟩
  obtain ⟨C1, hC1⟩ : ∃ z, z = w.heap.size + 2 := ⟨_, rfl⟩
  obtain ⟨w1, hw1⟩ : ∃ z, z = ((w.alloc (.cells #[.pointer (some ⟨R, 0, none⟩)] 106)).alloc (.cells #[.int .i64 0, .int .i64 0, .int .u64 0, .string ⟨#[]⟩, .int .i64 0, .int .i64 0, .int .i64 0, .int .u64 0, .int .i64 0, .int .u64 0, .int .u64 0, .string ⟨#[]⟩, .string ⟨#[]⟩, .slice none 0 0] 29)).alloc (.cells #[.int .i64 1, .int .i64 0, .int .u64 0, .string ⟨#[]⟩, .int .i64 0, .int .i64 0, .int .i64 0, .int .u64 0, .int .i64 0, .int .u64 0, .int .u64 0, .string ⟨#[]⟩, .string ⟨#[]⟩, .slice none 0 0] 29) := ⟨_, rfl⟩
  have HS := Lib.hid (AcW.start (n := 1) h hX hC0 hC1 hw1)
  have H1 := Lib.hid HS.out.1
  have HN := Lib.hid HS.out.2
  clear h HS
  obtain ⟨y, hy⟩ : ∃ z, z = ((zeroK 1, e, s) : SaV × Int × ByteArray) := ⟨_, rfl⟩
  have HG : Hid ((fmOf 1).get (zeroK 1) e s = (fmOf 1).get y.1 y.2.1 y.2.2) := Lib.hid (by (first | (rw [hy]; done) | (rw [hy]; rfl)))
  have HY0 : Hid (y.1.ws = []) := Lib.hid (by (first | (rw [hy]; done) | (rw [hy]; rfl)))
  rw [← hy] at H1
  clear hy
  have x0 : w1.cell? ⟨X, 0, none⟩ = some (.pointer (some ⟨R, 0, none⟩)) := Kq.blk_cell H1.out.x 0
  rw [hw1, hX] at x0
  go_enter Try.func40, Try.ntmps40
  go_wp2_with fail
  rw [← hw1]
  have hq1 : w.heap.size + 1 = C0 := hC0.symm
  have hq2 : w.heap.size + 1 + 1 = C1 := by omega
  try rw [hq2]
  try rw [hq1]
  try rw [← hX]
  clear hw1 hX hC0 hC1 x0 hq1 hq2
  obtain ⟨v0, hv0⟩ : ∃ z, z = (byteF y.2.1 y.2.2).1 := ⟨_, rfl⟩
  have HC := Lib.hid (rk_one R S y.2.1 y.2.2 w1 H1.out.rd)
  refine HC.out.mono ?_
  rw [← hv0]
  rintro x wz ⟨rfl, rz, kz⟩
  have HW : Hid (AcW w (wz.setCell ⟨C1, 1, none⟩ (.int .i64 v0)) R S X C0 C1 (.slice none 0 0) (({ y.1 with c := (byteF y.2.1 y.2.2).1 }, (byteF y.2.1 y.2.2).2) : SaV × Int × ByteArray)) := Lib.hid (AcW.set (y' := (({ y.1 with c := (byteF y.2.1 y.2.2).1 }, (byteF y.2.1 y.2.2).2) : SaV × Int × ByteArray)) H1.out HN.out rz kz 1 _ (by rw [hv0]; rfl))
  have oz : wz.cell? ⟨C1, 1, none⟩ = some (.int .i64 y.1.c) := Kq.blk_cell (kz.blk H1.out.c1 (by have := HN.out; unfold AcN at this; omega)) 1
  have fz : wz.frozen? ⟨C1, 1, none⟩ = false := Kq.blk_free (kz.blk H1.out.c1 (by have := HN.out; unfold AcN at this; omega)) 1
  obtain ⟨w2, hw2⟩ : ∃ z, z = wz.setCell ⟨C1, 1, none⟩ (.int .i64 v0) := ⟨_, rfl⟩
  rw [← hw2] at HW
  obtain ⟨y1, hy1⟩ : ∃ z, z = (({ y.1 with c := (byteF y.2.1 y.2.2).1 }, (byteF y.2.1 y.2.2).2) : SaV × Int × ByteArray) := ⟨_, rfl⟩
  rw [← hy1] at HW
  have HY1 : Hid (y1.1.ws = []) := Lib.hid (by rw [hy1]; exact HY0.out)
  have HG1 : Hid ((fmOf 1).get (zeroK 1) e s = y1) := Lib.hid (HG.out.trans (by (first | (rw [hy1]; done) | (rw [hy1]; rfl))))
  clear rz kz HC hv0 H1 hy1 HG
  have H2 := HW
  clear HW
  obtain ⟨yl, hyl⟩ : ∃ z, z = y1 := ⟨_, rfl⟩
  have HYL : Hid (yl.1.ws = []) := Lib.hid (by rw [hyl]; exact HY1.out)
  have HYE : Hid ((fmOf 1).get (zeroK 1) e s = yl) := Lib.hid (HG1.out.trans (by (first | (rw [hyl]; done) | (rw [hyl]; rfl))))
  rw [← hyl] at H2
  clear hyl
  obtain ⟨sl, hsl⟩ : ∃ z, z = (Value.slice none yl.1.ws.length 0) := ⟨_, rfl⟩
  have HSL : Hid ((.slice none 0 0 : Value) = .slice none yl.1.ws.length 0) := Lib.hid (by rw [HYL.out]; rfl)
  have HL := Lib.hid H2.out
  rw [HSL.out] at HL
  clear hsl sl
  obtain ⟨wF, hwF⟩ : ∃ z, z = w2.setRow C0 ⟨yl.1.cells (.slice none yl.1.ws.length 0) []⟩ := ⟨_, rfl⟩
  have HD := Lib.hid (AcW.done HL.out HN.out hwF ⟨none, 0, rfl, fun j hj => by rw [HYL.out] at hj; cases hj⟩ (fun b hb => by cases hb))
  have HB1 := Lib.hid HL.out.c1
  have HB0 := Lib.hid HL.out.c0
  rw [hw2] at HB1 HB0 hwF
  go_wp2_with (first | (refine wpList_load_row (by rfl) 29 (.tmp 5) (by rfl) C1 (by rfl) 29 ⟨yl.1.cells (.slice none yl.1.ws.length 0) []⟩ (0, 0) _ HB1.out Try.underlying29 rfl infoA ?_) | (refine wpList_store_row (by rfl) 29 (.tmp 4) (.tmp 96) (by rfl) C0 ⟨yl.1.cells (.slice none yl.1.ws.length 0) []⟩ (by rfl) (by rfl) 29 _ HB0.out infoA (by rfl) (act_one _ _ _ _) ?_))
  rw [← hwF]
  refine bodyPost_ret (v := .agg ⟨yl.1.cells (.slice none yl.1.ws.length 0) []⟩) (results_cell_row (by rfl) _ _ C0 29 ⟨yl.1.cells (.slice none yl.1.ws.length 0) []⟩ (0, 0) _ (by rfl) HD.out.1 Try.underlying29 rfl infoA) rfl ?_
  rw [HYE.out]
  exact HD.out.2
set_option maxRecDepth 100000 in
set_option maxHeartbeats 2000000 in
theorem ra_2 (R : Nat) (S : ByteArray) (e : Int) (s : ByteArray) (w : World) (h : RfK w R S e s) :
    Calls Try.prog 40 #[.agg #[.pointer (some ⟨R, 0, none⟩)], .int .i64 2] w (ActPost w R S ((fmOf 2).get (zeroK 2) e s)) := by
  obtain ⟨X, hX⟩ : ∃ z, z = w.heap.size := ⟨_, rfl⟩
  obtain ⟨C0, hC0⟩ : ∃ z, z = w.heap.size + 1 := ⟨_, rfl⟩
  obtain ⟨C1, hC1⟩ : ∃ z, z = w.heap.size + 2 := ⟨_, rfl⟩
  obtain ⟨w1, hw1⟩ : ∃ z, z = ((w.alloc (.cells #[.pointer (some ⟨R, 0, none⟩)] 106)).alloc (.cells #[.int .i64 0, .int .i64 0, .int .u64 0, .string ⟨#[]⟩, .int .i64 0, .int .i64 0, .int .i64 0, .int .u64 0, .int .i64 0, .int .u64 0, .int .u64 0, .string ⟨#[]⟩, .string ⟨#[]⟩, .slice none 0 0] 29)).alloc (.cells #[.int .i64 2, .int .i64 0, .int .u64 0, .string ⟨#[]⟩, .int .i64 0, .int .i64 0, .int .i64 0, .int .u64 0, .int .i64 0, .int .u64 0, .int .u64 0, .string ⟨#[]⟩, .string ⟨#[]⟩, .slice none 0 0] 29) := ⟨_, rfl⟩
  have HS := Lib.hid (AcW.start (n := 2) h hX hC0 hC1 hw1)
  have H1 := Lib.hid HS.out.1
  have HN := Lib.hid HS.out.2
  clear h HS
  obtain ⟨y, hy⟩ : ∃ z, z = ((zeroK 2, e, s) : SaV × Int × ByteArray) := ⟨_, rfl⟩
  have HG : Hid ((fmOf 2).get (zeroK 2) e s = getL [] y.1 y.2.1 y.2.2) := Lib.hid (by rw [hy, fm2, allF_get])
  have HY0 : Hid (y.1.ws = []) := Lib.hid (by (first | (rw [hy]; done) | (rw [hy]; rfl)))
  rw [← hy] at H1
  clear hy
  have x0 : w1.cell? ⟨X, 0, none⟩ = some (.pointer (some ⟨R, 0, none⟩)) := Kq.blk_cell H1.out.x 0
  rw [hw1, hX] at x0
  go_enter Try.func40, Try.ntmps40
  obtain ⟨yl, hyl⟩ : ∃ z, z = y := ⟨_, rfl⟩
  have HYL : Hid (yl.1.ws = []) := Lib.hid (by rw [hyl]; exact HY0.out)
  have HYE : Hid ((fmOf 2).get (zeroK 2) e s = yl) := Lib.hid (HG.out.trans (by (first | (rw [hyl]; done) | (rw [hyl]; rfl))))
  rw [← hyl] at H1
  clear hyl
  obtain ⟨sl, hsl⟩ : ∃ z, z = (Value.slice none yl.1.ws.length 0) := ⟨_, rfl⟩
  have HSL : Hid ((.slice none 0 0 : Value) = .slice none yl.1.ws.length 0) := Lib.hid (by rw [HYL.out]; rfl)
  have HL := Lib.hid H1.out
  rw [HSL.out] at HL
  clear hsl sl
  have HQ : Hid (w.heap.size + 1 = C0 ∧ w.heap.size + 1 + 1 = C1) := Lib.hid ⟨hC0.symm, by omega⟩
  clear x0 hX hC0 hC1
  obtain ⟨wF, hwF⟩ : ∃ z, z = w1.setRow C0 ⟨yl.1.cells (.slice none yl.1.ws.length 0) []⟩ := ⟨_, rfl⟩
  have HD := Lib.hid (AcW.done HL.out HN.out hwF ⟨none, 0, rfl, fun j hj => by rw [HYL.out] at hj; cases hj⟩ (fun b hb => by cases hb))
  have HB1 := Lib.hid HL.out.c1
  have HB0 := Lib.hid HL.out.c0
  rw [hw1] at HB1 HB0 hwF
  clear hw1
  go_wp2_with (first | (refine wpList_load_row (by rfl) 29 (.tmp 5) (by rfl) (w.heap.size + 1 + 1) (by rfl) 29 ⟨yl.1.cells (.slice none yl.1.ws.length 0) []⟩ (0, 0) _ (by rw [HQ.out.2]; exact HB1.out) Try.underlying29 rfl infoA ?_) | (refine wpList_store_row (by rfl) 29 (.tmp 4) (.tmp 96) (by rfl) (w.heap.size + 1) ⟨yl.1.cells (.slice none yl.1.ws.length 0) []⟩ (by rfl) (by rfl) 29 _ (by rw [HQ.out.1]; exact HB0.out) infoA (by rfl) (act_one _ _ _ _) ?_))
  rw [HQ.out.1]
  rw [← hwF]
  refine bodyPost_ret (v := .agg ⟨yl.1.cells (.slice none yl.1.ws.length 0) []⟩) (results_cell_row (by rfl) _ _ C0 29 ⟨yl.1.cells (.slice none yl.1.ws.length 0) []⟩ (0, 0) _ (by rfl) HD.out.1 Try.underlying29 rfl infoA) rfl ?_
  rw [HYE.out]
  exact HD.out.2
set_option maxRecDepth 100000 in
set_option maxHeartbeats 2000000 in
theorem ra_3 (R : Nat) (S : ByteArray) (e : Int) (s : ByteArray) (w : World) (h : RfK w R S e s) :
    Calls Try.prog 40 #[.agg #[.pointer (some ⟨R, 0, none⟩)], .int .i64 3] w (ActPost w R S ((fmOf 3).get (zeroK 3) e s)) := by
  obtain ⟨X, hX⟩ : ∃ z, z = w.heap.size := ⟨_, rfl⟩
  obtain ⟨C0, hC0⟩ : ∃ z, z = w.heap.size + 1 := ⟨_, rfl⟩
  obtain ⟨C1, hC1⟩ : ∃ z, z = w.heap.size + 2 := ⟨_, rfl⟩
  obtain ⟨w1, hw1⟩ : ∃ z, z = ((w.alloc (.cells #[.pointer (some ⟨R, 0, none⟩)] 106)).alloc (.cells #[.int .i64 0, .int .i64 0, .int .u64 0, .string ⟨#[]⟩, .int .i64 0, .int .i64 0, .int .i64 0, .int .u64 0, .int .i64 0, .int .u64 0, .int .u64 0, .string ⟨#[]⟩, .string ⟨#[]⟩, .slice none 0 0] 29)).alloc (.cells #[.int .i64 3, .int .i64 0, .int .u64 0, .string ⟨#[]⟩, .int .i64 0, .int .i64 0, .int .i64 0, .int .u64 0, .int .i64 0, .int .u64 0, .int .u64 0, .string ⟨#[]⟩, .string ⟨#[]⟩, .slice none 0 0] 29) := ⟨_, rfl⟩
  have HS := Lib.hid (AcW.start (n := 3) h hX hC0 hC1 hw1)
  have H1 := Lib.hid HS.out.1
  have HN := Lib.hid HS.out.2
  clear h HS
  obtain ⟨y, hy⟩ : ∃ z, z = ((zeroK 3, e, s) : SaV × Int × ByteArray) := ⟨_, rfl⟩
  have HG : Hid ((fmOf 3).get (zeroK 3) e s = (fmOf 3).get y.1 y.2.1 y.2.2) := Lib.hid (by (first | (rw [hy]; done) | (rw [hy]; rfl)))
  have HY0 : Hid (y.1.ws = []) := Lib.hid (by (first | (rw [hy]; done) | (rw [hy]; rfl)))
  rw [← hy] at H1
  clear hy
  have x0 : w1.cell? ⟨X, 0, none⟩ = some (.pointer (some ⟨R, 0, none⟩)) := Kq.blk_cell H1.out.x 0
  rw [hw1, hX] at x0
  go_enter Try.func40, Try.ntmps40
  go_wp2_with fail
  rw [← hw1]
  have hq1 : w.heap.size + 1 = C0 := hC0.symm
  have hq2 : w.heap.size + 1 + 1 = C1 := by omega
  try rw [hq2]
  try rw [hq1]
  try rw [← hX]
  clear hw1 hX hC0 hC1 x0 hq1 hq2
  obtain ⟨v0, hv0⟩ : ∃ z, z = (byteF y.2.1 y.2.2).1 := ⟨_, rfl⟩
  have HC := Lib.hid (rk_one R S y.2.1 y.2.2 w1 H1.out.rd)
  refine HC.out.mono ?_
  rw [← hv0]
  rintro x wz ⟨rfl, rz, kz⟩
  have HW : Hid (AcW w (wz.setCell ⟨C1, 4, none⟩ (.int .i64 v0)) R S X C0 C1 (.slice none 0 0) (({ y.1 with n := (byteF y.2.1 y.2.2).1 }, (byteF y.2.1 y.2.2).2) : SaV × Int × ByteArray)) := Lib.hid (AcW.set (y' := (({ y.1 with n := (byteF y.2.1 y.2.2).1 }, (byteF y.2.1 y.2.2).2) : SaV × Int × ByteArray)) H1.out HN.out rz kz 4 _ (by rw [hv0]; rfl))
  have oz : wz.cell? ⟨C1, 4, none⟩ = some (.int .i64 y.1.n) := Kq.blk_cell (kz.blk H1.out.c1 (by have := HN.out; unfold AcN at this; omega)) 4
  have fz : wz.frozen? ⟨C1, 4, none⟩ = false := Kq.blk_free (kz.blk H1.out.c1 (by have := HN.out; unfold AcN at this; omega)) 4
  obtain ⟨w2, hw2⟩ : ∃ z, z = wz.setCell ⟨C1, 4, none⟩ (.int .i64 v0) := ⟨_, rfl⟩
  rw [← hw2] at HW
  obtain ⟨y1, hy1⟩ : ∃ z, z = (({ y.1 with n := (byteF y.2.1 y.2.2).1 }, (byteF y.2.1 y.2.2).2) : SaV × Int × ByteArray) := ⟨_, rfl⟩
  rw [← hy1] at HW
  have HY1 : Hid (y1.1.ws = []) := Lib.hid (by rw [hy1]; exact HY0.out)
  have HG1 : Hid ((fmOf 3).get (zeroK 3) e s = y1) := Lib.hid (HG.out.trans (by (first | (rw [hy1]; done) | (rw [hy1]; rfl))))
  clear rz kz HC hv0 H1 hy1 HG
  have H2 := HW
  clear HW
  obtain ⟨yl, hyl⟩ : ∃ z, z = y1 := ⟨_, rfl⟩
  have HYL : Hid (yl.1.ws = []) := Lib.hid (by rw [hyl]; exact HY1.out)
  have HYE : Hid ((fmOf 3).get (zeroK 3) e s = yl) := Lib.hid (HG1.out.trans (by (first | (rw [hyl]; done) | (rw [hyl]; rfl))))
  rw [← hyl] at H2
  clear hyl
  obtain ⟨sl, hsl⟩ : ∃ z, z = (Value.slice none yl.1.ws.length 0) := ⟨_, rfl⟩
  have HSL : Hid ((.slice none 0 0 : Value) = .slice none yl.1.ws.length 0) := Lib.hid (by rw [HYL.out]; rfl)
  have HL := Lib.hid H2.out
  rw [HSL.out] at HL
  clear hsl sl
  obtain ⟨wF, hwF⟩ : ∃ z, z = w2.setRow C0 ⟨yl.1.cells (.slice none yl.1.ws.length 0) []⟩ := ⟨_, rfl⟩
  have HD := Lib.hid (AcW.done HL.out HN.out hwF ⟨none, 0, rfl, fun j hj => by rw [HYL.out] at hj; cases hj⟩ (fun b hb => by cases hb))
  have HB1 := Lib.hid HL.out.c1
  have HB0 := Lib.hid HL.out.c0
  rw [hw2] at HB1 HB0 hwF
  go_wp2_with (first | (refine wpList_load_row (by rfl) 29 (.tmp 5) (by rfl) C1 (by rfl) 29 ⟨yl.1.cells (.slice none yl.1.ws.length 0) []⟩ (0, 0) _ HB1.out Try.underlying29 rfl infoA ?_) | (refine wpList_store_row (by rfl) 29 (.tmp 4) (.tmp 96) (by rfl) C0 ⟨yl.1.cells (.slice none yl.1.ws.length 0) []⟩ (by rfl) (by rfl) 29 _ HB0.out infoA (by rfl) (act_one _ _ _ _) ?_))
  rw [← hwF]
  refine bodyPost_ret (v := .agg ⟨yl.1.cells (.slice none yl.1.ws.length 0) []⟩) (results_cell_row (by rfl) _ _ C0 29 ⟨yl.1.cells (.slice none yl.1.ws.length 0) []⟩ (0, 0) _ (by rfl) HD.out.1 Try.underlying29 rfl infoA) rfl ?_
  rw [HYE.out]
  exact HD.out.2
set_option maxRecDepth 100000 in
set_option maxHeartbeats 2000000 in
theorem ra_4 (R : Nat) (S : ByteArray) (e : Int) (s : ByteArray) (w : World) (h : RfK w R S e s) :
    Calls Try.prog 40 #[.agg #[.pointer (some ⟨R, 0, none⟩)], .int .i64 4] w (ActPost w R S ((fmOf 4).get (zeroK 4) e s)) := by
  obtain ⟨X, hX⟩ : ∃ z, z = w.heap.size := ⟨_, rfl⟩
  obtain ⟨C0, hC0⟩ : ∃ z, z = w.heap.size + 1 := ⟨_, rfl⟩
  obtain ⟨C1, hC1⟩ : ∃ z, z = w.heap.size + 2 := ⟨_, rfl⟩
  obtain ⟨w1, hw1⟩ : ∃ z, z = ((w.alloc (.cells #[.pointer (some ⟨R, 0, none⟩)] 106)).alloc (.cells #[.int .i64 0, .int .i64 0, .int .u64 0, .string ⟨#[]⟩, .int .i64 0, .int .i64 0, .int .i64 0, .int .u64 0, .int .i64 0, .int .u64 0, .int .u64 0, .string ⟨#[]⟩, .string ⟨#[]⟩, .slice none 0 0] 29)).alloc (.cells #[.int .i64 4, .int .i64 0, .int .u64 0, .string ⟨#[]⟩, .int .i64 0, .int .i64 0, .int .i64 0, .int .u64 0, .int .i64 0, .int .u64 0, .int .u64 0, .string ⟨#[]⟩, .string ⟨#[]⟩, .slice none 0 0] 29) := ⟨_, rfl⟩
  have HS := Lib.hid (AcW.start (n := 4) h hX hC0 hC1 hw1)
  have H1 := Lib.hid HS.out.1
  have HN := Lib.hid HS.out.2
  clear h HS
  obtain ⟨y, hy⟩ : ∃ z, z = ((zeroK 4, e, s) : SaV × Int × ByteArray) := ⟨_, rfl⟩
  have HG : Hid ((fmOf 4).get (zeroK 4) e s = (fmOf 4).get y.1 y.2.1 y.2.2) := Lib.hid (by (first | (rw [hy]; done) | (rw [hy]; rfl)))
  have HY0 : Hid (y.1.ws = []) := Lib.hid (by (first | (rw [hy]; done) | (rw [hy]; rfl)))
  rw [← hy] at H1
  clear hy
  have x0 : w1.cell? ⟨X, 0, none⟩ = some (.pointer (some ⟨R, 0, none⟩)) := Kq.blk_cell H1.out.x 0
  rw [hw1, hX] at x0
  go_enter Try.func40, Try.ntmps40
  go_wp2_with fail
  rw [← hw1]
  have hq1 : w.heap.size + 1 = C0 := hC0.symm
  have hq2 : w.heap.size + 1 + 1 = C1 := by omega
  try rw [hq2]
  try rw [hq1]
  try rw [← hX]
  clear hw1 hX hC0 hC1 x0 hq1 hq2
  obtain ⟨v0, hv0⟩ : ∃ z, z = (byteF y.2.1 y.2.2).1 := ⟨_, rfl⟩
  have HC := Lib.hid (rk_one R S y.2.1 y.2.2 w1 H1.out.rd)
  refine HC.out.mono ?_
  rw [← hv0]
  rintro x wz ⟨rfl, rz, kz⟩
  have HW : Hid (AcW w (wz.setCell ⟨C1, 4, none⟩ (.int .i64 v0)) R S X C0 C1 (.slice none 0 0) (({ y.1 with n := (byteF y.2.1 y.2.2).1 }, (byteF y.2.1 y.2.2).2) : SaV × Int × ByteArray)) := Lib.hid (AcW.set (y' := (({ y.1 with n := (byteF y.2.1 y.2.2).1 }, (byteF y.2.1 y.2.2).2) : SaV × Int × ByteArray)) H1.out HN.out rz kz 4 _ (by rw [hv0]; rfl))
  have oz : wz.cell? ⟨C1, 4, none⟩ = some (.int .i64 y.1.n) := Kq.blk_cell (kz.blk H1.out.c1 (by have := HN.out; unfold AcN at this; omega)) 4
  have fz : wz.frozen? ⟨C1, 4, none⟩ = false := Kq.blk_free (kz.blk H1.out.c1 (by have := HN.out; unfold AcN at this; omega)) 4
  obtain ⟨w2, hw2⟩ : ∃ z, z = wz.setCell ⟨C1, 4, none⟩ (.int .i64 v0) := ⟨_, rfl⟩
  rw [← hw2] at HW
  obtain ⟨y1, hy1⟩ : ∃ z, z = (({ y.1 with n := (byteF y.2.1 y.2.2).1 }, (byteF y.2.1 y.2.2).2) : SaV × Int × ByteArray) := ⟨_, rfl⟩
  rw [← hy1] at HW
  have HY1 : Hid (y1.1.ws = []) := Lib.hid (by rw [hy1]; exact HY0.out)
  have HG1 : Hid ((fmOf 4).get (zeroK 4) e s = y1) := Lib.hid (HG.out.trans (by (first | (rw [hy1]; done) | (rw [hy1]; rfl))))
  clear rz kz HC hv0 H1 hy1 HG
  have H2 := HW
  clear HW
  obtain ⟨yl, hyl⟩ : ∃ z, z = y1 := ⟨_, rfl⟩
  have HYL : Hid (yl.1.ws = []) := Lib.hid (by rw [hyl]; exact HY1.out)
  have HYE : Hid ((fmOf 4).get (zeroK 4) e s = yl) := Lib.hid (HG1.out.trans (by (first | (rw [hyl]; done) | (rw [hyl]; rfl))))
  rw [← hyl] at H2
  clear hyl
  obtain ⟨sl, hsl⟩ : ∃ z, z = (Value.slice none yl.1.ws.length 0) := ⟨_, rfl⟩
  have HSL : Hid ((.slice none 0 0 : Value) = .slice none yl.1.ws.length 0) := Lib.hid (by rw [HYL.out]; rfl)
  have HL := Lib.hid H2.out
  rw [HSL.out] at HL
  clear hsl sl
  obtain ⟨wF, hwF⟩ : ∃ z, z = w2.setRow C0 ⟨yl.1.cells (.slice none yl.1.ws.length 0) []⟩ := ⟨_, rfl⟩
  have HD := Lib.hid (AcW.done HL.out HN.out hwF ⟨none, 0, rfl, fun j hj => by rw [HYL.out] at hj; cases hj⟩ (fun b hb => by cases hb))
  have HB1 := Lib.hid HL.out.c1
  have HB0 := Lib.hid HL.out.c0
  rw [hw2] at HB1 HB0 hwF
  go_wp2_with (first | (refine wpList_load_row (by rfl) 29 (.tmp 5) (by rfl) C1 (by rfl) 29 ⟨yl.1.cells (.slice none yl.1.ws.length 0) []⟩ (0, 0) _ HB1.out Try.underlying29 rfl infoA ?_) | (refine wpList_store_row (by rfl) 29 (.tmp 4) (.tmp 96) (by rfl) C0 ⟨yl.1.cells (.slice none yl.1.ws.length 0) []⟩ (by rfl) (by rfl) 29 _ HB0.out infoA (by rfl) (act_one _ _ _ _) ?_))
  rw [← hwF]
  refine bodyPost_ret (v := .agg ⟨yl.1.cells (.slice none yl.1.ws.length 0) []⟩) (results_cell_row (by rfl) _ _ C0 29 ⟨yl.1.cells (.slice none yl.1.ws.length 0) []⟩ (0, 0) _ (by rfl) HD.out.1 Try.underlying29 rfl infoA) rfl ?_
  rw [HYE.out]
  exact HD.out.2
set_option maxRecDepth 100000 in
set_option maxHeartbeats 2000000 in
theorem ra_5 (R : Nat) (S : ByteArray) (e : Int) (s : ByteArray) (w : World) (h : RfK w R S e s) :
    Calls Try.prog 40 #[.agg #[.pointer (some ⟨R, 0, none⟩)], .int .i64 5] w (ActPost w R S ((fmOf 5).get (zeroK 5) e s)) := by
  obtain ⟨X, hX⟩ : ∃ z, z = w.heap.size := ⟨_, rfl⟩
  obtain ⟨C0, hC0⟩ : ∃ z, z = w.heap.size + 1 := ⟨_, rfl⟩
  obtain ⟨C1, hC1⟩ : ∃ z, z = w.heap.size + 2 := ⟨_, rfl⟩
  obtain ⟨w1, hw1⟩ : ∃ z, z = ((w.alloc (.cells #[.pointer (some ⟨R, 0, none⟩)] 106)).alloc (.cells #[.int .i64 0, .int .i64 0, .int .u64 0, .string ⟨#[]⟩, .int .i64 0, .int .i64 0, .int .i64 0, .int .u64 0, .int .i64 0, .int .u64 0, .int .u64 0, .string ⟨#[]⟩, .string ⟨#[]⟩, .slice none 0 0] 29)).alloc (.cells #[.int .i64 5, .int .i64 0, .int .u64 0, .string ⟨#[]⟩, .int .i64 0, .int .i64 0, .int .i64 0, .int .u64 0, .int .i64 0, .int .u64 0, .int .u64 0, .string ⟨#[]⟩, .string ⟨#[]⟩, .slice none 0 0] 29) := ⟨_, rfl⟩
  have HS := Lib.hid (AcW.start (n := 5) h hX hC0 hC1 hw1)
  have H1 := Lib.hid HS.out.1
  have HN := Lib.hid HS.out.2
  clear h HS
  obtain ⟨y, hy⟩ : ∃ z, z = ((zeroK 5, e, s) : SaV × Int × ByteArray) := ⟨_, rfl⟩
  have HG : Hid ((fmOf 5).get (zeroK 5) e s = (fmOf 5).get y.1 y.2.1 y.2.2) := Lib.hid (by (first | (rw [hy]; done) | (rw [hy]; rfl)))
  have HY0 : Hid (y.1.ws = []) := Lib.hid (by (first | (rw [hy]; done) | (rw [hy]; rfl)))
  rw [← hy] at H1
  clear hy
  have x0 : w1.cell? ⟨X, 0, none⟩ = some (.pointer (some ⟨R, 0, none⟩)) := Kq.blk_cell H1.out.x 0
  rw [hw1, hX] at x0
  go_enter Try.func40, Try.ntmps40
  go_wp2_with fail
  rw [← hw1]
  have hq1 : w.heap.size + 1 = C0 := hC0.symm
  have hq2 : w.heap.size + 1 + 1 = C1 := by omega
  try rw [hq2]
  try rw [hq1]
  try rw [← hX]
  clear hw1 hX hC0 hC1 x0 hq1 hq2
  obtain ⟨v0, hv0⟩ : ∃ z, z = (byteF y.2.1 y.2.2).1 := ⟨_, rfl⟩
  have HC := Lib.hid (rk_one R S y.2.1 y.2.2 w1 H1.out.rd)
  refine HC.out.mono ?_
  rw [← hv0]
  rintro x wz ⟨rfl, rz, kz⟩
  have HW : Hid (AcW w (wz.setCell ⟨C1, 4, none⟩ (.int .i64 v0)) R S X C0 C1 (.slice none 0 0) (({ y.1 with n := (byteF y.2.1 y.2.2).1 }, (byteF y.2.1 y.2.2).2) : SaV × Int × ByteArray)) := Lib.hid (AcW.set (y' := (({ y.1 with n := (byteF y.2.1 y.2.2).1 }, (byteF y.2.1 y.2.2).2) : SaV × Int × ByteArray)) H1.out HN.out rz kz 4 _ (by rw [hv0]; rfl))
  have oz : wz.cell? ⟨C1, 4, none⟩ = some (.int .i64 y.1.n) := Kq.blk_cell (kz.blk H1.out.c1 (by have := HN.out; unfold AcN at this; omega)) 4
  have fz : wz.frozen? ⟨C1, 4, none⟩ = false := Kq.blk_free (kz.blk H1.out.c1 (by have := HN.out; unfold AcN at this; omega)) 4
  obtain ⟨w2, hw2⟩ : ∃ z, z = wz.setCell ⟨C1, 4, none⟩ (.int .i64 v0) := ⟨_, rfl⟩
  rw [← hw2] at HW
  obtain ⟨y1, hy1⟩ : ∃ z, z = (({ y.1 with n := (byteF y.2.1 y.2.2).1 }, (byteF y.2.1 y.2.2).2) : SaV × Int × ByteArray) := ⟨_, rfl⟩
  rw [← hy1] at HW
  have HY1 : Hid (y1.1.ws = []) := Lib.hid (by rw [hy1]; exact HY0.out)
  have HG1 : Hid ((fmOf 5).get (zeroK 5) e s = y1) := Lib.hid (HG.out.trans (by (first | (rw [hy1]; done) | (rw [hy1]; rfl))))
  clear rz kz HC hv0 H1 hy1 HG
  have H2 := HW
  clear HW
  obtain ⟨yl, hyl⟩ : ∃ z, z = y1 := ⟨_, rfl⟩
  have HYL : Hid (yl.1.ws = []) := Lib.hid (by rw [hyl]; exact HY1.out)
  have HYE : Hid ((fmOf 5).get (zeroK 5) e s = yl) := Lib.hid (HG1.out.trans (by (first | (rw [hyl]; done) | (rw [hyl]; rfl))))
  rw [← hyl] at H2
  clear hyl
  obtain ⟨sl, hsl⟩ : ∃ z, z = (Value.slice none yl.1.ws.length 0) := ⟨_, rfl⟩
  have HSL : Hid ((.slice none 0 0 : Value) = .slice none yl.1.ws.length 0) := Lib.hid (by rw [HYL.out]; rfl)
  have HL := Lib.hid H2.out
  rw [HSL.out] at HL
  clear hsl sl
  obtain ⟨wF, hwF⟩ : ∃ z, z = w2.setRow C0 ⟨yl.1.cells (.slice none yl.1.ws.length 0) []⟩ := ⟨_, rfl⟩
  have HD := Lib.hid (AcW.done HL.out HN.out hwF ⟨none, 0, rfl, fun j hj => by rw [HYL.out] at hj; cases hj⟩ (fun b hb => by cases hb))
  have HB1 := Lib.hid HL.out.c1
  have HB0 := Lib.hid HL.out.c0
  rw [hw2] at HB1 HB0 hwF
  go_wp2_with (first | (refine wpList_load_row (by rfl) 29 (.tmp 5) (by rfl) C1 (by rfl) 29 ⟨yl.1.cells (.slice none yl.1.ws.length 0) []⟩ (0, 0) _ HB1.out Try.underlying29 rfl infoA ?_) | (refine wpList_store_row (by rfl) 29 (.tmp 4) (.tmp 96) (by rfl) C0 ⟨yl.1.cells (.slice none yl.1.ws.length 0) []⟩ (by rfl) (by rfl) 29 _ HB0.out infoA (by rfl) (act_one _ _ _ _) ?_))
  rw [← hwF]
  refine bodyPost_ret (v := .agg ⟨yl.1.cells (.slice none yl.1.ws.length 0) []⟩) (results_cell_row (by rfl) _ _ C0 29 ⟨yl.1.cells (.slice none yl.1.ws.length 0) []⟩ (0, 0) _ (by rfl) HD.out.1 Try.underlying29 rfl infoA) rfl ?_
  rw [HYE.out]
  exact HD.out.2
set_option maxRecDepth 100000 in
set_option maxHeartbeats 2000000 in
theorem ra_6 (R : Nat) (S : ByteArray) (e : Int) (s : ByteArray) (w : World) (h : RfK w R S e s) :
    Calls Try.prog 40 #[.agg #[.pointer (some ⟨R, 0, none⟩)], .int .i64 6] w (ActPost w R S ((fmOf 6).get (zeroK 6) e s)) := by
  obtain ⟨X, hX⟩ : ∃ z, z = w.heap.size := ⟨_, rfl⟩
  obtain ⟨C0, hC0⟩ : ∃ z, z = w.heap.size + 1 := ⟨_, rfl⟩
  obtain ⟨C1, hC1⟩ : ∃ z, z = w.heap.size + 2 := ⟨_, rfl⟩
  obtain ⟨w1, hw1⟩ : ∃ z, z = ((w.alloc (.cells #[.pointer (some ⟨R, 0, none⟩)] 106)).alloc (.cells #[.int .i64 0, .int .i64 0, .int .u64 0, .string ⟨#[]⟩, .int .i64 0, .int .i64 0, .int .i64 0, .int .u64 0, .int .i64 0, .int .u64 0, .int .u64 0, .string ⟨#[]⟩, .string ⟨#[]⟩, .slice none 0 0] 29)).alloc (.cells #[.int .i64 6, .int .i64 0, .int .u64 0, .string ⟨#[]⟩, .int .i64 0, .int .i64 0, .int .i64 0, .int .u64 0, .int .i64 0, .int .u64 0, .int .u64 0, .string ⟨#[]⟩, .string ⟨#[]⟩, .slice none 0 0] 29) := ⟨_, rfl⟩
  have HS := Lib.hid (AcW.start (n := 6) h hX hC0 hC1 hw1)
  have H1 := Lib.hid HS.out.1
  have HN := Lib.hid HS.out.2
  clear h HS
  obtain ⟨y, hy⟩ : ∃ z, z = ((zeroK 6, e, s) : SaV × Int × ByteArray) := ⟨_, rfl⟩
  have HG : Hid ((fmOf 6).get (zeroK 6) e s = getL [m0, m1, m2, m3, m4, m5, m6, m7] y.1 y.2.1 y.2.2) := Lib.hid (by rw [hy, fm6, allF_get])
  have HY0 : Hid (y.1.ws = []) := Lib.hid (by (first | (rw [hy]; done) | (rw [hy]; rfl)))
  rw [← hy] at H1
  clear hy
  have x0 : w1.cell? ⟨X, 0, none⟩ = some (.pointer (some ⟨R, 0, none⟩)) := Kq.blk_cell H1.out.x 0
  rw [hw1, hX] at x0
  go_enter Try.func40, Try.ntmps40
  go_wp2_with fail
  rw [← hw1]
  have hq1 : w.heap.size + 1 = C0 := hC0.symm
  have hq2 : w.heap.size + 1 + 1 = C1 := by omega
  try rw [hq2]
  try rw [hq1]
  try rw [← hX]
  clear hw1 hX hC0 hC1 x0 hq1 hq2
  obtain ⟨v0, hv0⟩ : ∃ z, z = (byteF y.2.1 y.2.2).1 := ⟨_, rfl⟩
  have HC := Lib.hid (rk_one R S y.2.1 y.2.2 w1 H1.out.rd)
  refine HC.out.mono ?_
  rw [← hv0]
  rintro x wz ⟨rfl, rz, kz⟩
  have HW : Hid (AcW w (wz.setCell ⟨C1, 5, none⟩ (.int .i64 v0)) R S X C0 C1 (.slice none 0 0) (({ y.1 with mk := (byteF y.2.1 y.2.2).1 }, (byteF y.2.1 y.2.2).2) : SaV × Int × ByteArray)) := Lib.hid (AcW.set (y' := (({ y.1 with mk := (byteF y.2.1 y.2.2).1 }, (byteF y.2.1 y.2.2).2) : SaV × Int × ByteArray)) H1.out HN.out rz kz 5 _ (by rw [hv0]; rfl))
  have oz : wz.cell? ⟨C1, 5, none⟩ = some (.int .i64 y.1.mk) := Kq.blk_cell (kz.blk H1.out.c1 (by have := HN.out; unfold AcN at this; omega)) 5
  have fz : wz.frozen? ⟨C1, 5, none⟩ = false := Kq.blk_free (kz.blk H1.out.c1 (by have := HN.out; unfold AcN at this; omega)) 5
  obtain ⟨w2, hw2⟩ : ∃ z, z = wz.setCell ⟨C1, 5, none⟩ (.int .i64 v0) := ⟨_, rfl⟩
  rw [← hw2] at HW
  obtain ⟨y1, hy1⟩ : ∃ z, z = (({ y.1 with mk := (byteF y.2.1 y.2.2).1 }, (byteF y.2.1 y.2.2).2) : SaV × Int × ByteArray) := ⟨_, rfl⟩
  rw [← hy1] at HW
  have HY1 : Hid (y1.1.ws = []) := Lib.hid (by rw [hy1]; exact HY0.out)
  have HG1 : Hid ((fmOf 6).get (zeroK 6) e s = getL [m1, m2, m3, m4, m5, m6, m7] y1.1 y1.2.1 y1.2.2) := Lib.hid (HG.out.trans (by rw [getL_cons, show m0.get y.1 y.2.1 y.2.2 = y1 from by rw [hy1]; rfl]))
  clear rz kz HC hv0 H1 hy1 HG
  have H2 := HW
  clear HW
  have x0 : w2.cell? ⟨X, 0, none⟩ = some (.pointer (some ⟨R, 0, none⟩)) := Kq.blk_cell H2.out.x 0
  rw [hw2] at x0
  go_wp2_with fail
  rw [← hw2]
  clear hw2 oz fz x0
  obtain ⟨v1, hv1⟩ : ∃ z, z = (byteF y1.2.1 y1.2.2).1 := ⟨_, rfl⟩
  have HC := Lib.hid (rk_one R S y1.2.1 y1.2.2 w2 H2.out.rd)
  refine HC.out.mono ?_
  rw [← hv1]
  rintro x wz ⟨rfl, rz, kz⟩
  have HW : Hid (AcW w (wz.setCell ⟨C1, 6, none⟩ (.int .i64 v1)) R S X C0 C1 (.slice none 0 0) (({ y1.1 with mt := (byteF y1.2.1 y1.2.2).1 }, (byteF y1.2.1 y1.2.2).2) : SaV × Int × ByteArray)) := Lib.hid (AcW.set (y' := (({ y1.1 with mt := (byteF y1.2.1 y1.2.2).1 }, (byteF y1.2.1 y1.2.2).2) : SaV × Int × ByteArray)) H2.out HN.out rz kz 6 _ (by rw [hv1]; rfl))
  have oz : wz.cell? ⟨C1, 6, none⟩ = some (.int .i64 y1.1.mt) := Kq.blk_cell (kz.blk H2.out.c1 (by have := HN.out; unfold AcN at this; omega)) 6
  have fz : wz.frozen? ⟨C1, 6, none⟩ = false := Kq.blk_free (kz.blk H2.out.c1 (by have := HN.out; unfold AcN at this; omega)) 6
  obtain ⟨w3, hw3⟩ : ∃ z, z = wz.setCell ⟨C1, 6, none⟩ (.int .i64 v1) := ⟨_, rfl⟩
  rw [← hw3] at HW
  obtain ⟨y2, hy2⟩ : ∃ z, z = (({ y1.1 with mt := (byteF y1.2.1 y1.2.2).1 }, (byteF y1.2.1 y1.2.2).2) : SaV × Int × ByteArray) := ⟨_, rfl⟩
  rw [← hy2] at HW
  have HY2 : Hid (y2.1.ws = []) := Lib.hid (by rw [hy2]; exact HY1.out)
  have HG2 : Hid ((fmOf 6).get (zeroK 6) e s = getL [m2, m3, m4, m5, m6, m7] y2.1 y2.2.1 y2.2.2) := Lib.hid (HG1.out.trans (by rw [getL_cons, show m1.get y1.1 y1.2.1 y1.2.2 = y2 from by rw [hy2]; rfl]))
  clear rz kz HC hv1 H2 hy2 HG1
  have H3 := HW
  clear HW
  have x0 : w3.cell? ⟨X, 0, none⟩ = some (.pointer (some ⟨R, 0, none⟩)) := Kq.blk_cell H3.out.x 0
  rw [hw3] at x0
  go_wp2_with fail
  rw [← hw3]
  clear hw3 oz fz x0
  obtain ⟨v2, hv2⟩ : ∃ z, z = (numF y2.2.1 y2.2.2).1 := ⟨_, rfl⟩
  have HC := Lib.hid (rk_number R S y2.2.1 y2.2.2 w3 H3.out.rd)
  refine HC.out.mono ?_
  rw [← hv2]
  rintro x wz ⟨rfl, rz, kz⟩
  have HW : Hid (AcW w (wz.setCell ⟨C1, 7, none⟩ (.int .u64 v2)) R S X C0 C1 (.slice none 0 0) (({ y2.1 with mh := (numF y2.2.1 y2.2.2).1 }, (numF y2.2.1 y2.2.2).2) : SaV × Int × ByteArray)) := Lib.hid (AcW.set (y' := (({ y2.1 with mh := (numF y2.2.1 y2.2.2).1 }, (numF y2.2.1 y2.2.2).2) : SaV × Int × ByteArray)) H3.out HN.out rz kz 7 _ (by rw [hv2]; rfl))
  have oz : wz.cell? ⟨C1, 7, none⟩ = some (.int .u64 y2.1.mh) := Kq.blk_cell (kz.blk H3.out.c1 (by have := HN.out; unfold AcN at this; omega)) 7
  have fz : wz.frozen? ⟨C1, 7, none⟩ = false := Kq.blk_free (kz.blk H3.out.c1 (by have := HN.out; unfold AcN at this; omega)) 7
  obtain ⟨w4, hw4⟩ : ∃ z, z = wz.setCell ⟨C1, 7, none⟩ (.int .u64 v2) := ⟨_, rfl⟩
  rw [← hw4] at HW
  obtain ⟨y3, hy3⟩ : ∃ z, z = (({ y2.1 with mh := (numF y2.2.1 y2.2.2).1 }, (numF y2.2.1 y2.2.2).2) : SaV × Int × ByteArray) := ⟨_, rfl⟩
  rw [← hy3] at HW
  have HY3 : Hid (y3.1.ws = []) := Lib.hid (by rw [hy3]; exact HY2.out)
  have HG3 : Hid ((fmOf 6).get (zeroK 6) e s = getL [m3, m4, m5, m6, m7] y3.1 y3.2.1 y3.2.2) := Lib.hid (HG2.out.trans (by rw [getL_cons, show m2.get y2.1 y2.2.1 y2.2.2 = y3 from by rw [hy3]; rfl]))
  clear rz kz HC hv2 H3 hy3 HG2
  have H4 := HW
  clear HW
  have x0 : w4.cell? ⟨X, 0, none⟩ = some (.pointer (some ⟨R, 0, none⟩)) := Kq.blk_cell H4.out.x 0
  rw [hw4] at x0
  go_wp2_with fail
  rw [← hw4]
  clear hw4 oz fz x0
  obtain ⟨v3, hv3⟩ : ∃ z, z = (byteF y3.2.1 y3.2.2).1 := ⟨_, rfl⟩
  have HC := Lib.hid (rk_one R S y3.2.1 y3.2.2 w4 H4.out.rd)
  refine HC.out.mono ?_
  rw [← hv3]
  rintro x wz ⟨rfl, rz, kz⟩
  have HW : Hid (AcW w (wz.setCell ⟨C1, 8, none⟩ (.int .i64 v3)) R S X C0 C1 (.slice none 0 0) (({ y3.1 with pf := (byteF y3.2.1 y3.2.2).1 }, (byteF y3.2.1 y3.2.2).2) : SaV × Int × ByteArray)) := Lib.hid (AcW.set (y' := (({ y3.1 with pf := (byteF y3.2.1 y3.2.2).1 }, (byteF y3.2.1 y3.2.2).2) : SaV × Int × ByteArray)) H4.out HN.out rz kz 8 _ (by rw [hv3]; rfl))
  have oz : wz.cell? ⟨C1, 8, none⟩ = some (.int .i64 y3.1.pf) := Kq.blk_cell (kz.blk H4.out.c1 (by have := HN.out; unfold AcN at this; omega)) 8
  have fz : wz.frozen? ⟨C1, 8, none⟩ = false := Kq.blk_free (kz.blk H4.out.c1 (by have := HN.out; unfold AcN at this; omega)) 8
  obtain ⟨w5, hw5⟩ : ∃ z, z = wz.setCell ⟨C1, 8, none⟩ (.int .i64 v3) := ⟨_, rfl⟩
  rw [← hw5] at HW
  obtain ⟨y4, hy4⟩ : ∃ z, z = (({ y3.1 with pf := (byteF y3.2.1 y3.2.2).1 }, (byteF y3.2.1 y3.2.2).2) : SaV × Int × ByteArray) := ⟨_, rfl⟩
  rw [← hy4] at HW
  have HY4 : Hid (y4.1.ws = []) := Lib.hid (by rw [hy4]; exact HY3.out)
  have HG4 : Hid ((fmOf 6).get (zeroK 6) e s = getL [m4, m5, m6, m7] y4.1 y4.2.1 y4.2.2) := Lib.hid (HG3.out.trans (by rw [getL_cons, show m3.get y3.1 y3.2.1 y3.2.2 = y4 from by rw [hy4]; rfl]))
  clear rz kz HC hv3 H4 hy4 HG3
  have H5 := HW
  clear HW
  have x0 : w5.cell? ⟨X, 0, none⟩ = some (.pointer (some ⟨R, 0, none⟩)) := Kq.blk_cell H5.out.x 0
  rw [hw5] at x0
  go_wp2_with fail
  rw [← hw5]
  clear hw5 oz fz x0
  obtain ⟨v4, hv4⟩ : ∃ z, z = (numF y4.2.1 y4.2.2).1 := ⟨_, rfl⟩
  have HC := Lib.hid (rk_number R S y4.2.1 y4.2.2 w5 H5.out.rd)
  refine HC.out.mono ?_
  rw [← hv4]
  rintro x wz ⟨rfl, rz, kz⟩
  have HW : Hid (AcW w (wz.setCell ⟨C1, 9, none⟩ (.int .u64 v4)) R S X C0 C1 (.slice none 0 0) (({ y4.1 with pq := (numF y4.2.1 y4.2.2).1 }, (numF y4.2.1 y4.2.2).2) : SaV × Int × ByteArray)) := Lib.hid (AcW.set (y' := (({ y4.1 with pq := (numF y4.2.1 y4.2.2).1 }, (numF y4.2.1 y4.2.2).2) : SaV × Int × ByteArray)) H5.out HN.out rz kz 9 _ (by rw [hv4]; rfl))
  have oz : wz.cell? ⟨C1, 9, none⟩ = some (.int .u64 y4.1.pq) := Kq.blk_cell (kz.blk H5.out.c1 (by have := HN.out; unfold AcN at this; omega)) 9
  have fz : wz.frozen? ⟨C1, 9, none⟩ = false := Kq.blk_free (kz.blk H5.out.c1 (by have := HN.out; unfold AcN at this; omega)) 9
  obtain ⟨w6, hw6⟩ : ∃ z, z = wz.setCell ⟨C1, 9, none⟩ (.int .u64 v4) := ⟨_, rfl⟩
  rw [← hw6] at HW
  obtain ⟨y5, hy5⟩ : ∃ z, z = (({ y4.1 with pq := (numF y4.2.1 y4.2.2).1 }, (numF y4.2.1 y4.2.2).2) : SaV × Int × ByteArray) := ⟨_, rfl⟩
  rw [← hy5] at HW
  have HY5 : Hid (y5.1.ws = []) := Lib.hid (by rw [hy5]; exact HY4.out)
  have HG5 : Hid ((fmOf 6).get (zeroK 6) e s = getL [m5, m6, m7] y5.1 y5.2.1 y5.2.2) := Lib.hid (HG4.out.trans (by rw [getL_cons, show m4.get y4.1 y4.2.1 y4.2.2 = y5 from by rw [hy5]; rfl]))
  clear rz kz HC hv4 H5 hy5 HG4
  have H6 := HW
  clear HW
  have x0 : w6.cell? ⟨X, 0, none⟩ = some (.pointer (some ⟨R, 0, none⟩)) := Kq.blk_cell H6.out.x 0
  rw [hw6] at x0
  go_wp2_with fail
  rw [← hw6]
  clear hw6 oz fz x0
  obtain ⟨v5, hv5⟩ : ∃ z, z = (numF y5.2.1 y5.2.2).1 := ⟨_, rfl⟩
  have HC := Lib.hid (rk_number R S y5.2.1 y5.2.2 w6 H6.out.rd)
  refine HC.out.mono ?_
  rw [← hv5]
  rintro x wz ⟨rfl, rz, kz⟩
  have HW : Hid (AcW w (wz.setCell ⟨C1, 10, none⟩ (.int .u64 v5)) R S X C0 C1 (.slice none 0 0) (({ y5.1 with pt := (numF y5.2.1 y5.2.2).1 }, (numF y5.2.1 y5.2.2).2) : SaV × Int × ByteArray)) := Lib.hid (AcW.set (y' := (({ y5.1 with pt := (numF y5.2.1 y5.2.2).1 }, (numF y5.2.1 y5.2.2).2) : SaV × Int × ByteArray)) H6.out HN.out rz kz 10 _ (by rw [hv5]; rfl))
  have oz : wz.cell? ⟨C1, 10, none⟩ = some (.int .u64 y5.1.pt) := Kq.blk_cell (kz.blk H6.out.c1 (by have := HN.out; unfold AcN at this; omega)) 10
  have fz : wz.frozen? ⟨C1, 10, none⟩ = false := Kq.blk_free (kz.blk H6.out.c1 (by have := HN.out; unfold AcN at this; omega)) 10
  obtain ⟨w7, hw7⟩ : ∃ z, z = wz.setCell ⟨C1, 10, none⟩ (.int .u64 v5) := ⟨_, rfl⟩
  rw [← hw7] at HW
  obtain ⟨y6, hy6⟩ : ∃ z, z = (({ y5.1 with pt := (numF y5.2.1 y5.2.2).1 }, (numF y5.2.1 y5.2.2).2) : SaV × Int × ByteArray) := ⟨_, rfl⟩
  rw [← hy6] at HW
  have HY6 : Hid (y6.1.ws = []) := Lib.hid (by rw [hy6]; exact HY5.out)
  have HG6 : Hid ((fmOf 6).get (zeroK 6) e s = getL [m6, m7] y6.1 y6.2.1 y6.2.2) := Lib.hid (HG5.out.trans (by rw [getL_cons, show m5.get y5.1 y5.2.1 y5.2.2 = y6 from by rw [hy6]; rfl]))
  clear rz kz HC hv5 H6 hy6 HG5
  have H7 := HW
  clear HW
  have x0 : w7.cell? ⟨X, 0, none⟩ = some (.pointer (some ⟨R, 0, none⟩)) := Kq.blk_cell H7.out.x 0
  rw [hw7] at x0
  go_wp2_with fail
  rw [← hw7]
  clear hw7 oz fz x0
  obtain ⟨v6, hv6⟩ : ∃ z, z = (textF y6.2.1 y6.2.2).1 := ⟨_, rfl⟩
  have HC := Lib.hid (rk_text R S y6.2.1 y6.2.2 w7 H7.out.rd)
  refine HC.out.mono ?_
  rw [← hv6]
  rintro x wz ⟨rfl, rz, kz⟩
  have HW : Hid (AcW w (wz.setCell ⟨C1, 11, none⟩ (.string v6)) R S X C0 C1 (.slice none 0 0) (({ y6.1 with pd := (textF y6.2.1 y6.2.2).1 }, (textF y6.2.1 y6.2.2).2) : SaV × Int × ByteArray)) := Lib.hid (AcW.set (y' := (({ y6.1 with pd := (textF y6.2.1 y6.2.2).1 }, (textF y6.2.1 y6.2.2).2) : SaV × Int × ByteArray)) H7.out HN.out rz kz 11 _ (by rw [hv6]; rfl))
  have oz : wz.cell? ⟨C1, 11, none⟩ = some (.string y6.1.pd) := Kq.blk_cell (kz.blk H7.out.c1 (by have := HN.out; unfold AcN at this; omega)) 11
  have fz : wz.frozen? ⟨C1, 11, none⟩ = false := Kq.blk_free (kz.blk H7.out.c1 (by have := HN.out; unfold AcN at this; omega)) 11
  obtain ⟨w8, hw8⟩ : ∃ z, z = wz.setCell ⟨C1, 11, none⟩ (.string v6) := ⟨_, rfl⟩
  rw [← hw8] at HW
  obtain ⟨y7, hy7⟩ : ∃ z, z = (({ y6.1 with pd := (textF y6.2.1 y6.2.2).1 }, (textF y6.2.1 y6.2.2).2) : SaV × Int × ByteArray) := ⟨_, rfl⟩
  rw [← hy7] at HW
  have HY7 : Hid (y7.1.ws = []) := Lib.hid (by rw [hy7]; exact HY6.out)
  have HG7 : Hid ((fmOf 6).get (zeroK 6) e s = getL [m7] y7.1 y7.2.1 y7.2.2) := Lib.hid (HG6.out.trans (by rw [getL_cons, show m6.get y6.1 y6.2.1 y6.2.2 = y7 from by rw [hy7]; rfl]))
  clear rz kz HC hv6 H7 hy7 HG6
  have H8 := HW
  clear HW
  have x0 : w8.cell? ⟨X, 0, none⟩ = some (.pointer (some ⟨R, 0, none⟩)) := Kq.blk_cell H8.out.x 0
  rw [hw8] at x0
  go_wp2_with fail
  rw [← hw8]
  clear hw8 oz fz x0
  obtain ⟨v7, hv7⟩ : ∃ z, z = (textF y7.2.1 y7.2.2).1 := ⟨_, rfl⟩
  have HC := Lib.hid (rk_text R S y7.2.1 y7.2.2 w8 H8.out.rd)
  refine HC.out.mono ?_
  rw [← hv7]
  rintro x wz ⟨rfl, rz, kz⟩
  have HW : Hid (AcW w (wz.setCell ⟨C1, 12, none⟩ (.string v7)) R S X C0 C1 (.slice none 0 0) (({ y7.1 with mp := (textF y7.2.1 y7.2.2).1 }, (textF y7.2.1 y7.2.2).2) : SaV × Int × ByteArray)) := Lib.hid (AcW.set (y' := (({ y7.1 with mp := (textF y7.2.1 y7.2.2).1 }, (textF y7.2.1 y7.2.2).2) : SaV × Int × ByteArray)) H8.out HN.out rz kz 12 _ (by rw [hv7]; rfl))
  have oz : wz.cell? ⟨C1, 12, none⟩ = some (.string y7.1.mp) := Kq.blk_cell (kz.blk H8.out.c1 (by have := HN.out; unfold AcN at this; omega)) 12
  have fz : wz.frozen? ⟨C1, 12, none⟩ = false := Kq.blk_free (kz.blk H8.out.c1 (by have := HN.out; unfold AcN at this; omega)) 12
  obtain ⟨w9, hw9⟩ : ∃ z, z = wz.setCell ⟨C1, 12, none⟩ (.string v7) := ⟨_, rfl⟩
  rw [← hw9] at HW
  obtain ⟨y8, hy8⟩ : ∃ z, z = (({ y7.1 with mp := (textF y7.2.1 y7.2.2).1 }, (textF y7.2.1 y7.2.2).2) : SaV × Int × ByteArray) := ⟨_, rfl⟩
  rw [← hy8] at HW
  have HY8 : Hid (y8.1.ws = []) := Lib.hid (by rw [hy8]; exact HY7.out)
  have HG8 : Hid ((fmOf 6).get (zeroK 6) e s = getL [] y8.1 y8.2.1 y8.2.2) := Lib.hid (HG7.out.trans (by rw [getL_cons, show m7.get y7.1 y7.2.1 y7.2.2 = y8 from by rw [hy8]; rfl]))
  clear rz kz HC hv7 H8 hy8 HG7
  have H9 := HW
  clear HW
  obtain ⟨yl, hyl⟩ : ∃ z, z = y8 := ⟨_, rfl⟩
  have HYL : Hid (yl.1.ws = []) := Lib.hid (by rw [hyl]; exact HY8.out)
  have HYE : Hid ((fmOf 6).get (zeroK 6) e s = yl) := Lib.hid (HG8.out.trans (by (first | (rw [hyl]; done) | (rw [hyl]; rfl))))
  rw [← hyl] at H9
  clear hyl
  obtain ⟨sl, hsl⟩ : ∃ z, z = (Value.slice none yl.1.ws.length 0) := ⟨_, rfl⟩
  have HSL : Hid ((.slice none 0 0 : Value) = .slice none yl.1.ws.length 0) := Lib.hid (by rw [HYL.out]; rfl)
  have HL := Lib.hid H9.out
  rw [HSL.out] at HL
  clear hsl sl
  obtain ⟨wF, hwF⟩ : ∃ z, z = w9.setRow C0 ⟨yl.1.cells (.slice none yl.1.ws.length 0) []⟩ := ⟨_, rfl⟩
  have HD := Lib.hid (AcW.done HL.out HN.out hwF ⟨none, 0, rfl, fun j hj => by rw [HYL.out] at hj; cases hj⟩ (fun b hb => by cases hb))
  have HB1 := Lib.hid HL.out.c1
  have HB0 := Lib.hid HL.out.c0
  rw [hw9] at HB1 HB0 hwF
  go_wp2_with (first | (refine wpList_load_row (by rfl) 29 (.tmp 5) (by rfl) C1 (by rfl) 29 ⟨yl.1.cells (.slice none yl.1.ws.length 0) []⟩ (0, 0) _ HB1.out Try.underlying29 rfl infoA ?_) | (refine wpList_store_row (by rfl) 29 (.tmp 4) (.tmp 96) (by rfl) C0 ⟨yl.1.cells (.slice none yl.1.ws.length 0) []⟩ (by rfl) (by rfl) 29 _ HB0.out infoA (by rfl) (act_one _ _ _ _) ?_))
  rw [← hwF]
  refine bodyPost_ret (v := .agg ⟨yl.1.cells (.slice none yl.1.ws.length 0) []⟩) (results_cell_row (by rfl) _ _ C0 29 ⟨yl.1.cells (.slice none yl.1.ws.length 0) []⟩ (0, 0) _ (by rfl) HD.out.1 Try.underlying29 rfl infoA) rfl ?_
  rw [HYE.out]
  exact HD.out.2
set_option maxRecDepth 100000 in
set_option maxHeartbeats 2000000 in
theorem ra_7 (R : Nat) (S : ByteArray) (e : Int) (s : ByteArray) (w : World) (h : RfK w R S e s) :
    Calls Try.prog 40 #[.agg #[.pointer (some ⟨R, 0, none⟩)], .int .i64 7] w (ActPost w R S ((fmOf 7).get (zeroK 7) e s)) := by
  obtain ⟨X, hX⟩ : ∃ z, z = w.heap.size := ⟨_, rfl⟩
  obtain ⟨C0, hC0⟩ : ∃ z, z = w.heap.size + 1 := ⟨_, rfl⟩
  obtain ⟨C1, hC1⟩ : ∃ z, z = w.heap.size + 2 := ⟨_, rfl⟩
  obtain ⟨w1, hw1⟩ : ∃ z, z = ((w.alloc (.cells #[.pointer (some ⟨R, 0, none⟩)] 106)).alloc (.cells #[.int .i64 0, .int .i64 0, .int .u64 0, .string ⟨#[]⟩, .int .i64 0, .int .i64 0, .int .i64 0, .int .u64 0, .int .i64 0, .int .u64 0, .int .u64 0, .string ⟨#[]⟩, .string ⟨#[]⟩, .slice none 0 0] 29)).alloc (.cells #[.int .i64 7, .int .i64 0, .int .u64 0, .string ⟨#[]⟩, .int .i64 0, .int .i64 0, .int .i64 0, .int .u64 0, .int .i64 0, .int .u64 0, .int .u64 0, .string ⟨#[]⟩, .string ⟨#[]⟩, .slice none 0 0] 29) := ⟨_, rfl⟩
  have HS := Lib.hid (AcW.start (n := 7) h hX hC0 hC1 hw1)
  have H1 := Lib.hid HS.out.1
  have HN := Lib.hid HS.out.2
  clear h HS
  obtain ⟨y, hy⟩ : ∃ z, z = ((zeroK 7, e, s) : SaV × Int × ByteArray) := ⟨_, rfl⟩
  have HG : Hid ((fmOf 7).get (zeroK 7) e s = (fmOf 7).get y.1 y.2.1 y.2.2) := Lib.hid (by (first | (rw [hy]; done) | (rw [hy]; rfl)))
  have HY0 : Hid (y.1.ws = []) := Lib.hid (by (first | (rw [hy]; done) | (rw [hy]; rfl)))
  rw [← hy] at H1
  clear hy
  have x0 : w1.cell? ⟨X, 0, none⟩ = some (.pointer (some ⟨R, 0, none⟩)) := Kq.blk_cell H1.out.x 0
  rw [hw1, hX] at x0
  go_enter Try.func40, Try.ntmps40
  go_wp2_with fail
  rw [← hw1]
  have hq1 : w.heap.size + 1 = C0 := hC0.symm
  have hq2 : w.heap.size + 1 + 1 = C1 := by omega
  try rw [hq2]
  try rw [hq1]
  try rw [← hX]
  clear hw1 hX hC0 hC1 x0 hq1 hq2
  obtain ⟨v0, hv0⟩ : ∃ z, z = (byteF y.2.1 y.2.2).1 := ⟨_, rfl⟩
  have HC := Lib.hid (rk_one R S y.2.1 y.2.2 w1 H1.out.rd)
  refine HC.out.mono ?_
  rw [← hv0]
  rintro x wz ⟨rfl, rz, kz⟩
  have HW : Hid (AcW w (wz.setCell ⟨C1, 4, none⟩ (.int .i64 v0)) R S X C0 C1 (.slice none 0 0) (({ y.1 with n := (byteF y.2.1 y.2.2).1 }, (byteF y.2.1 y.2.2).2) : SaV × Int × ByteArray)) := Lib.hid (AcW.set (y' := (({ y.1 with n := (byteF y.2.1 y.2.2).1 }, (byteF y.2.1 y.2.2).2) : SaV × Int × ByteArray)) H1.out HN.out rz kz 4 _ (by rw [hv0]; rfl))
  have oz : wz.cell? ⟨C1, 4, none⟩ = some (.int .i64 y.1.n) := Kq.blk_cell (kz.blk H1.out.c1 (by have := HN.out; unfold AcN at this; omega)) 4
  have fz : wz.frozen? ⟨C1, 4, none⟩ = false := Kq.blk_free (kz.blk H1.out.c1 (by have := HN.out; unfold AcN at this; omega)) 4
  obtain ⟨w2, hw2⟩ : ∃ z, z = wz.setCell ⟨C1, 4, none⟩ (.int .i64 v0) := ⟨_, rfl⟩
  rw [← hw2] at HW
  obtain ⟨y1, hy1⟩ : ∃ z, z = (({ y.1 with n := (byteF y.2.1 y.2.2).1 }, (byteF y.2.1 y.2.2).2) : SaV × Int × ByteArray) := ⟨_, rfl⟩
  rw [← hy1] at HW
  have HY1 : Hid (y1.1.ws = []) := Lib.hid (by rw [hy1]; exact HY0.out)
  have HG1 : Hid ((fmOf 7).get (zeroK 7) e s = y1) := Lib.hid (HG.out.trans (by (first | (rw [hy1]; done) | (rw [hy1]; rfl))))
  clear rz kz HC hv0 H1 hy1 HG
  have H2 := HW
  clear HW
  obtain ⟨yl, hyl⟩ : ∃ z, z = y1 := ⟨_, rfl⟩
  have HYL : Hid (yl.1.ws = []) := Lib.hid (by rw [hyl]; exact HY1.out)
  have HYE : Hid ((fmOf 7).get (zeroK 7) e s = yl) := Lib.hid (HG1.out.trans (by (first | (rw [hyl]; done) | (rw [hyl]; rfl))))
  rw [← hyl] at H2
  clear hyl
  obtain ⟨sl, hsl⟩ : ∃ z, z = (Value.slice none yl.1.ws.length 0) := ⟨_, rfl⟩
  have HSL : Hid ((.slice none 0 0 : Value) = .slice none yl.1.ws.length 0) := Lib.hid (by rw [HYL.out]; rfl)
  have HL := Lib.hid H2.out
  rw [HSL.out] at HL
  clear hsl sl
  obtain ⟨wF, hwF⟩ : ∃ z, z = w2.setRow C0 ⟨yl.1.cells (.slice none yl.1.ws.length 0) []⟩ := ⟨_, rfl⟩
  have HD := Lib.hid (AcW.done HL.out HN.out hwF ⟨none, 0, rfl, fun j hj => by rw [HYL.out] at hj; cases hj⟩ (fun b hb => by cases hb))
  have HB1 := Lib.hid HL.out.c1
  have HB0 := Lib.hid HL.out.c0
  rw [hw2] at HB1 HB0 hwF
  go_wp2_with (first | (refine wpList_load_row (by rfl) 29 (.tmp 5) (by rfl) C1 (by rfl) 29 ⟨yl.1.cells (.slice none yl.1.ws.length 0) []⟩ (0, 0) _ HB1.out Try.underlying29 rfl infoA ?_) | (refine wpList_store_row (by rfl) 29 (.tmp 4) (.tmp 96) (by rfl) C0 ⟨yl.1.cells (.slice none yl.1.ws.length 0) []⟩ (by rfl) (by rfl) 29 _ HB0.out infoA (by rfl) (act_one _ _ _ _) ?_))
  rw [← hwF]
  refine bodyPost_ret (v := .agg ⟨yl.1.cells (.slice none yl.1.ws.length 0) []⟩) (results_cell_row (by rfl) _ _ C0 29 ⟨yl.1.cells (.slice none yl.1.ws.length 0) []⟩ (0, 0) _ (by rfl) HD.out.1 Try.underlying29 rfl infoA) rfl ?_
  rw [HYE.out]
  exact HD.out.2
end Go.Proofs.Ytjilbcefikbihaa
