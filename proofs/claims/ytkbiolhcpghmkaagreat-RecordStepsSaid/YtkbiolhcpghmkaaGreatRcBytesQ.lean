/- Contract of record's Bytes. Condition: a record of the arguments. -/
import Derived.WalkSpells
import Derived.Outline
import Derived.Test.YtkbiolhcpghmkaaGreatRcGet2Q
import Derived.Test.YtkbiolhcpghmkaaGreatNtRefPQ
namespace Go.Proofs.YtkbiolhcpghmkaaGreat
open Go.RowKit
set_option linter.unusedVariables false
/-- the cells of a record's block -/
def RecAt (w : World) (X : Nat) (A : Option Addr) (ca : Nat) (C : Option Addr) (cc : Nat) (r : ReV) : Prop :=
  w.cell? ⟨X, 0, none⟩ = some (.int .i64 r.k) ∧ w.cell? ⟨X, 1, none⟩ = some (.int .u64 r.d.p0.h) ∧ w.cell? ⟨X, 2, none⟩ = some (.int .i64 r.d.p0.i) ∧ w.cell? ⟨X, 3, none⟩ = some (.int .u64 r.d.p1.h) ∧ w.cell? ⟨X, 4, none⟩ = some (.int .i64 r.d.p1.i) ∧ w.cell? ⟨X, 5, none⟩ = some (.slice A r.d.l.length ca) ∧ w.cell? ⟨X, 6, none⟩ = some (.int .i64 r.c) ∧ w.cell? ⟨X, 7, none⟩ = some (.int .u64 r.p.h) ∧ w.cell? ⟨X, 8, none⟩ = some (.int .i64 r.p.i) ∧ w.cell? ⟨X, 9, none⟩ = some (.slice C r.ns.length cc)
theorem RecAt.of {w : World} {X : Nat} {A : Option Addr} {ca : Nat} {C : Option Addr} {cc : Nat} {r : ReV} (h : w.heap[X]? = some (.cells #[.int .i64 r.k, .int .u64 r.d.p0.h, .int .i64 r.d.p0.i, .int .u64 r.d.p1.h, .int .i64 r.d.p1.i, .slice A r.d.l.length ca, .int .i64 r.c, .int .u64 r.p.h, .int .i64 r.p.i, .slice C r.ns.length cc] 31 (0, 0))) : RecAt w X A ca C cc r :=
  ⟨Kq.blk_cell h 0, Kq.blk_cell h 1, Kq.blk_cell h 2, Kq.blk_cell h 3, Kq.blk_cell h 4, Kq.blk_cell h 5, Kq.blk_cell h 6, Kq.blk_cell h 7, Kq.blk_cell h 8, Kq.blk_cell h 9⟩
/-- the record's block -/
def RecX (w : World) (X : Nat) (A : Option Addr) (ca : Nat) (C : Option Addr) (cc : Nat) (r : ReV) : Prop := w.heap[X]? = some (.cells #[.int .i64 r.k, .int .u64 r.d.p0.h, .int .i64 r.d.p0.i, .int .u64 r.d.p1.h, .int .i64 r.d.p1.i, .slice A r.d.l.length ca, .int .i64 r.c, .int .u64 r.p.h, .int .i64 r.p.i, .slice C r.ns.length cc] 31 (0, 0))
theorem RecX.keeps {w w' : World} {X : Nat} {A : Option Addr} {ca : Nat} {C : Option Addr} {cc : Nat} {r : ReV} {S : Nat → Prop} (h : RecX w X A ca C cc r) (hk : Kq.Keeps S w w') (hS : ¬ S X) : RecAt w' X A ca C cc r := RecAt.of (hk.blk h hS)
/-- a record's bytes -/
def encR (r : ReV) : List Nat := if r.k = 1 then [1] ++ (r.d.p0.b ++ (r.d.p1.b ++ ([r.d.l.length] ++ encL r.d.l))) else [2] ++ ([r.c.toNat] ++ (r.p.b ++ ([r.ns.length] ++ encL r.ns)))
theorem plb_lt (p : PlV) : ∀ b ∈ p.b, b < 256 := fun b hb => by
  unfold PlV.b at hb
  rcases List.mem_append.1 hb with h1 | h1
  · exact num8_lt _ b h1
  · exact num8_lt _ b h1
instance (p : NtV) (m : List Int) : Decidable (EnOk m p) := by unfold EnOk; infer_instance
instance (r : ReV) : Decidable (RecOk r) := by unfold RecOk; infer_instance
def recT (r : ReV) : ByteArray := if RecOk r then txt (encR r) else ⟨#[]⟩
def recE (r : ReV) : Int := if RecOk r then 0 else 1
/-- the arguments of a record -/
structure RecW (w : World) (A : Option Addr) (C : Option Addr) (r : ReV) : Prop where
  p0 : r.d.p0.wf
  p1 : r.d.p1.wf
  p : r.p.wf
  l : EnAt NtV.ic w A r.d.l
  ns : EnAt NtV.nc w C r.ns
  lw : ∀ n ∈ r.d.l, n.wf
  nw : ∀ n ∈ r.ns, n.wf
  ll : r.d.l.length ≤ 300
  nl : r.ns.length ≤ 300
theorem RecW.below {w w' : World} {A C : Option Addr} {r : ReV} (h : RecW w A C r) (hb : Below w.heap.size w w') : RecW w' A C r := ⟨h.p0, h.p1, h.p, h.l.below hb, h.ns.below hb, h.lw, h.nw, h.ll, h.nl⟩
theorem encR_lt (r : ReV) (h : RecOk r) : ∀ b ∈ encR r, b < 256 := by
  intro b hb
  unfold encR at hb
  rcases h.1 with hm | hm
  · rw [if_pos hm.1] at hb
    have h1 := h.2.1 hm.1
    rcases List.mem_append.1 hb with hb | hb
    · rw [List.mem_singleton.1 hb]; omega
    rcases List.mem_append.1 hb with hb | hb
    · exact plb_lt _ b hb
    rcases List.mem_append.1 hb with hb | hb
    · exact plb_lt _ b hb
    rcases List.mem_append.1 hb with hb | hb
    · have := hm.2.2.2.2; rw [List.mem_singleton.1 hb]; omega
    · exact encL_lt [1, 2] (by decide) r.d.l h1.2.2 b hb
  · rw [if_neg (by rw [hm.1]; decide)] at hb
    have h1 := h.2.2 hm.1
    rcases List.mem_append.1 hb with hb | hb
    · rw [List.mem_singleton.1 hb]; omega
    rcases List.mem_append.1 hb with hb | hb
    · have := hm.2.2.2.1; rw [List.mem_singleton.1 hb]; omega
    rcases List.mem_append.1 hb with hb | hb
    · exact plb_lt _ b hb
    rcases List.mem_append.1 hb with hb | hb
    · have := hm.2.2.2.2; rw [List.mem_singleton.1 hb]; omega
    · exact encL_lt [1, 2, 3, 4] (by decide) r.ns h1.2 b hb
set_option maxRecDepth 100000 in
set_option maxHeartbeats 4000000 in
theorem rec_bytes1 (A : Option Addr) (ca : Nat) (C : Option Addr) (cc : Nat) (p0 p1 p : PlV) (c : Int) (l ns : List NtV) (w : World) (hr : RecW w A C ⟨1, ⟨p0, p1, l⟩, c, p, ns⟩) (hm : MayR ⟨1, ⟨p0, p1, l⟩, c, p, ns⟩) :
    Calls Tryz.prog 11 #[.agg #[.int .i64 1, .int .u64 p0.h, .int .i64 p0.i, .int .u64 p1.h, .int .i64 p1.i, .slice A l.length ca, .int .i64 c, .int .u64 p.h, .int .i64 p.i, .slice C ns.length cc]] w fun x w' => x = .returned (.tuple #[.string (recT ⟨1, ⟨p0, p1, l⟩, c, p, ns⟩), .int .i64 (recE ⟨1, ⟨p0, p1, l⟩, c, p, ns⟩)]) ∧ Below w.heap.size w w' := by
  have HM := Lib.hid hm
  have HMAY := Lib.hid (rec_may A ca C cc ⟨1, ⟨p0, p1, l⟩, c, p, ns⟩ hr.p0 hr.p1)
  rw [decide_eq_true hm] at HMAY
  obtain ⟨w0, hw0⟩ : ∃ z, z = w.alloc (.cells #[.int .i64 1, .int .u64 p0.h, .int .i64 p0.i, .int .u64 p1.h, .int .i64 p1.i, .slice A l.length ca, .int .i64 c, .int .u64 p.h, .int .i64 p.i, .slice C ns.length cc] 31) := ⟨_, rfl⟩
  obtain ⟨X, hX⟩ : ∃ X, X = w.heap.size := ⟨_, rfl⟩
  have H0 : Hid (Below w.heap.size w w0 ∧ RecX w0 X A ca C cc ⟨1, ⟨p0, p1, l⟩, c, p, ns⟩) := Lib.hid (by
    have hb := Kq.below_alloc w (.cells #[.int .i64 1, .int .u64 p0.h, .int .i64 p0.i, .int .u64 p1.h, .int .i64 p1.i, .slice A l.length ca, .int .i64 c, .int .u64 p.h, .int .i64 p.i, .slice C ns.length cc] 31)
    have hr := Kq.blk_new w #[.int .i64 1, .int .u64 p0.h, .int .i64 p0.i, .int .u64 p1.h, .int .i64 p1.i, .slice A l.length ca, .int .i64 c, .int .u64 p.h, .int .i64 p.i, .slice C ns.length cc] 31 (0, 0)
    rw [← hw0, ← hX] at hr
    rw [← hw0] at hb
    exact ⟨hb, hr⟩)
  have HRW := Lib.hid hr
  clear hr hm
  go_enter Tryz.func11, Tryz.ntmps11
  go_wp2_with fail
  rw [← hw0, ← hX]
  clear hw0 hX
  refine (HMAY.out w0).mono ?_
  rintro x w1 ⟨rfl, b1⟩
  have HB1 : Hid (Below w.heap.size w w1) := Lib.hid (H0.out.1.trans (b1.mono H0.out.1.size))
  have hb2 := Kq.below_alloc w1 (.cells #[.int .i64 0, .slice none 0 0] 73)
  have HX : Hid (RecX (w1.alloc (.cells #[.int .i64 0, .slice none 0 0] 73)) X A ca C cc ⟨1, ⟨p0, p1, l⟩, c, p, ns⟩) := Lib.hid (Kq.below_blk hb2 (Kq.below_blk b1 H0.out.2 (Kq.blk_lt H0.out.2)) (Kq.blk_lt (Kq.below_blk b1 H0.out.2 (Kq.blk_lt H0.out.2))))
  have HXB : Hid (X < w1.heap.size) := Lib.hid (Kq.blk_lt (Kq.below_blk b1 H0.out.2 (Kq.blk_lt H0.out.2)))
  have HR1 : Hid (RecW w1 A C ⟨1, ⟨p0, p1, l⟩, c, p, ns⟩) := Lib.hid (HRW.out.below HB1.out)
  have HR : Hid (RecW (w1.alloc (.cells #[.int .i64 0, .slice none 0 0] 73)) A C ⟨1, ⟨p0, p1, l⟩, c, p, ns⟩) := Lib.hid (HR1.out.below hb2)
  have HLEN : Hid (l.length ≤ 300 ∧ ns.length ≤ 300) := Lib.hid ⟨HRW.out.ll, HRW.out.nl⟩
  have HZ : Hid (Wr (w1.alloc (.cells #[.int .i64 0, .slice none 0 0] 73)) w1.heap.size w1.heap.size 0 (.slice none 0 0) []) := Lib.hid (wr_new w1)
  have HWS : Hid (∀ w' : World, w' = w1.alloc (.cells #[.int .i64 0, .slice none 0 0] 73) → True) := Lib.hid (fun _ _ => trivial)
  have HRW2 : Hid (Below w.heap.size w w1) := Lib.hid HB1.out
  clear hb2 b1 HMAY HB1
  have c0 := (RecAt.of HX.out).1
  simp only at c0
  go_wp2_with fail
  clear c0
  obtain ⟨wz, hwz⟩ : ∃ z, z = w1.alloc (.cells #[.int .i64 0, .slice none 0 0] 73) := ⟨_, rfl⟩
  rw [← hwz] at HX HR HZ HWS ⊢
  have HBZ : Hid (Below w1.heap.size w1 wz ∧ w1.heap.size ≤ wz.heap.size) := Lib.hid (by rw [hwz]; exact ⟨Kq.below_alloc w1 _, (Kq.below_alloc w1 _).size⟩)
  clear hwz HWS
  refine (wr_byte_step w1.heap.size w1.heap.size 0 (.slice none 0 0) [] 1 wz HZ.out (by simp)).mono ?_
  intro x w2 hp
  have H1 := Lib.hid hp
  obtain ⟨rfl, -⟩ := hp.any
  clear hp
  obtain ⟨-, e1, l1, v1, W1, K1, F1, s1, g1, b1⟩ := H1.out.any
  have C1 : Hid (RecAt w2 X A ca C cc ⟨1, ⟨p0, p1, l⟩, c, p, ns⟩ ∧ l1.length ≤ 1000) := Lib.hid ⟨HX.out.keeps K1 (fun h => by
    rcases h with h | h
    · have := HXB.out; omega
    · cases h), by simp only [List.length_nil] at s1; omega⟩
  have HS1 := Lib.hid (And.intro W1 (And.intro K1 (And.intro F1 (And.intro s1 (And.intro g1 b1)))))
  clear W1 K1 F1 s1 g1 b1 H1
  obtain ⟨c0, c1, c2, c3, c4, c5, c6, c7, c8, c9⟩ := C1.out.1
  simp only at c0 c1 c2 c3 c4 c5 c6 c7 c8 c9
  go_wp2_with fail
  clear c0 c1 c2 c3 c4 c5 c6 c7 c8 c9
  refine (nt_place_step w1.heap.size w1.heap.size e1 v1 l1 p0.h p0.i w2 HS1.out.1 HR.out.p0.range (by have := C1.out.2; omega)).mono ?_
  intro x w3 hp
  have H2 := Lib.hid (WrStep.then HS1.out.1 HS1.out.2.1 HS1.out.2.2.1 HS1.out.2.2.2.1 HS1.out.2.2.2.2.1 HS1.out.2.2.2.2.2 hp)
  obtain ⟨rfl, -⟩ := hp.any
  clear hp HS1 C1
  obtain ⟨-, e2, l2, v2, W2, K2, F2, s2, g2, b2⟩ := H2.out.any
  have C2 : Hid (RecAt w3 X A ca C cc ⟨1, ⟨p0, p1, l⟩, c, p, ns⟩ ∧ l2.length ≤ 1000) := Lib.hid ⟨HX.out.keeps K2 (fun h => by
    rcases h with h | h
    · have := HXB.out; omega
    · cases h), by simp only [List.length_nil] at s2; omega⟩
  have HS2 := Lib.hid (And.intro W2 (And.intro K2 (And.intro F2 (And.intro s2 (And.intro g2 b2)))))
  clear W2 K2 F2 s2 g2 b2 H2
  obtain ⟨c0, c1, c2, c3, c4, c5, c6, c7, c8, c9⟩ := C2.out.1
  simp only at c0 c1 c2 c3 c4 c5 c6 c7 c8 c9
  go_wp2_with fail
  clear c0 c1 c2 c3 c4 c5 c6 c7 c8 c9
  refine (nt_place_step w1.heap.size w1.heap.size e2 v2 l2 p1.h p1.i w3 HS2.out.1 HR.out.p1.range (by have := C2.out.2; omega)).mono ?_
  intro x w4 hp
  have H3 := Lib.hid (WrStep.then HS2.out.1 HS2.out.2.1 HS2.out.2.2.1 HS2.out.2.2.2.1 HS2.out.2.2.2.2.1 HS2.out.2.2.2.2.2 hp)
  obtain ⟨rfl, -⟩ := hp.any
  clear hp HS2 C2
  obtain ⟨-, e3, l3, v3, W3, K3, F3, s3, g3, b3⟩ := H3.out.any
  have C3 : Hid (RecAt w4 X A ca C cc ⟨1, ⟨p0, p1, l⟩, c, p, ns⟩ ∧ l3.length ≤ 1000) := Lib.hid ⟨HX.out.keeps K3 (fun h => by
    rcases h with h | h
    · have := HXB.out; omega
    · cases h), by simp only [List.length_nil] at s3; omega⟩
  have HS3 := Lib.hid (And.intro W3 (And.intro K3 (And.intro F3 (And.intro s3 (And.intro g3 b3)))))
  clear W3 K3 F3 s3 g3 b3 H3
  have HABX : Hid (∀ g o, A = some ⟨g, o, none⟩ → ¬ (g = w1.heap.size ∨ some g = (Value.slice none 0 0).ownBlock) ∨ l.length = 0) := Lib.hid (fun g o e => by
    by_cases h0 : 0 < l.length
    · left
      have := hab HR1.out.l (v := .slice none 0 0) (fun k hk => by cases hk) g o h0 e
      exact fun h => h.elim this.1 this.2
    · right; omega)
  have HABY : Hid (∀ g o, 0 < l.length → A = some ⟨g, o, none⟩ → g ≠ w1.heap.size ∧ some g ≠ v3.ownBlock) := Lib.hid (fun g o h0 e => by
    obtain ⟨b, off, e2, hlt, _⟩ := HR1.out.l 0 h0
    rw [e] at e2
    simp only [Option.some.injEq, Addr.mk.injEq] at e2
    refine ⟨by omega, fun h => ?_⟩
    rcases HS3.out.2.2.1 g h.symm with h' | h'
    · cases h'
    · have := HBZ.out.2; omega)
  have HAT : Hid (EnAt NtV.ic w4 A l) := Lib.hid (fun j hj => by
    have hall := HR.out.l
    obtain ⟨b, off, e2, _, _⟩ := hall j hj
    exact hall.keeps HS3.out.2.1 (fun g o e => (HABX.out g o e).resolve_right (by omega)) j hj)
  obtain ⟨c0, c1, c2, c3, c4, c5, c6, c7, c8, c9⟩ := C3.out.1
  simp only at c0 c1 c2 c3 c4 c5 c6 c7 c8 c9
  go_wp2_with fail
  clear c0 c1 c2 c3 c4 c5 c6 c7 c8 c9
  refine (nt_putitems w1.heap.size w1.heap.size e3 v3 l3 A ca l w4 HS3.out.1 HAT.out HABY.out HR.out.lw HR.out.ll (by have := C3.out.2; omega)).mono ?_
  intro x w5 hp
  have H4 := Lib.hid (WrStep.then HS3.out.1 HS3.out.2.1 HS3.out.2.2.1 HS3.out.2.2.2.1 HS3.out.2.2.2.2.1 HS3.out.2.2.2.2.2 hp)
  obtain ⟨rfl, -⟩ := hp.any
  clear hp HS3 C3
  have hiff : (((((0 : Int) ≤ 1 ∧ (1 : Int) ≤ 255) ∧ 0 ≤ p0.i ∧ p0.i ≤ 65535) ∧ 0 ≤ p1.i ∧ p1.i ≤ 65535) ∧ l.length ≤ 255 ∧ ∀ n ∈ l, EnOk [1, 2] n) ↔ RecOk ⟨1, ⟨p0, p1, l⟩, c, p, ns⟩ :=
    ⟨fun h => ⟨HM.out, fun _ => ⟨h.1.1.2, h.1.2, h.2.2⟩, fun h => absurd h (by simp only; omega)⟩, fun h => by
      have h1 := h.2.1 rfl
      have h2 := HM.out
      rcases h2 with h2 | h2
      · have h3 := h2.2.2.2.2; simp only at h3
        exact ⟨⟨⟨⟨by omega, by omega⟩, h1.1⟩, h1.2.1⟩, by omega, h1.2.2⟩
      · exact absurd h2.1 (by simp only; omega)⟩
  obtain ⟨-, e4, l4, v4, W4, K4, F4, s4, g4, b4⟩ := H4.out.any
  have HBE : Hid (Below w.heap.size w w5) := Lib.hid ((HRW2.out.trans (HBZ.out.1.mono HRW2.out.size)).trans (K4.below (Nat.le_trans HRW2.out.size HBZ.out.2) (fun k _ h => by
    rcases h with h | h
    · have := HRW2.out.size; omega
    · cases h)))
  by_cases hok : RecOk ⟨1, ⟨p0, p1, l⟩, c, p, ns⟩
  · obtain ⟨rfl, hl4⟩ := g4 (hiff.2 hok)
    have henc : l4 = encR ⟨1, ⟨p0, p1, l⟩, c, p, ns⟩ := by
      rw [hl4]
      unfold encR PlV.b
      simp
    have HT : Hid (recT ⟨1, ⟨p0, p1, l⟩, c, p, ns⟩ = txt l4 ∧ recE ⟨1, ⟨p0, p1, l⟩, c, p, ns⟩ = 0) := Lib.hid ⟨by unfold recT; rw [if_pos hok, henc], if_pos hok⟩
    have hlt : ∀ b ∈ l4, b < 256 := by
      rw [henc]
      exact encR_lt ⟨1, ⟨p0, p1, l⟩, c, p, ns⟩ hok
    have HW4 := Lib.hid (And.intro W4 hlt)
    clear hlt henc hl4 g4 b4 W4 K4 F4 s4 hiff hok H4
    go_wp2_with fail
    refine (wr_bytes_ok _ _ v4 l4 w5 HW4.out.1 HW4.out.2).mono ?_
    rintro x w6 ⟨rfl, rfl⟩
    go_wp2
    go_ret2
    exact ⟨by rw [HT.out.1, HT.out.2]; rfl, HBE.out⟩
  · have he4 := b4 (fun h => hok (hiff.1 h))
    have HT : Hid (recT ⟨1, ⟨p0, p1, l⟩, c, p, ns⟩ = ⟨#[]⟩ ∧ recE ⟨1, ⟨p0, p1, l⟩, c, p, ns⟩ = 1 ∧ e4 = 1) := Lib.hid ⟨if_neg hok, if_neg hok, he4⟩
    have HW4 := Lib.hid W4
    clear he4 g4 b4 W4 K4 F4 s4 hiff hok H4
    go_wp2_with fail
    refine (wr_bytes_bad _ _ e4 v4 l4 w5 HW4.out (by rw [HT.out.2.2]; decide)).mono ?_
    rintro x w6 ⟨rfl, rfl⟩
    rw [HT.out.2.2]
    go_wp2
    go_ret2
    exact ⟨by rw [HT.out.1, HT.out.2.1]; rfl, HBE.out⟩
set_option maxRecDepth 100000 in
set_option maxHeartbeats 4000000 in
theorem rec_bytes2 (A : Option Addr) (ca : Nat) (C : Option Addr) (cc : Nat) (p0 p1 p : PlV) (c : Int) (l ns : List NtV) (w : World) (hr : RecW w A C ⟨2, ⟨p0, p1, l⟩, c, p, ns⟩) (hm : MayR ⟨2, ⟨p0, p1, l⟩, c, p, ns⟩) :
    Calls Tryz.prog 11 #[.agg #[.int .i64 2, .int .u64 p0.h, .int .i64 p0.i, .int .u64 p1.h, .int .i64 p1.i, .slice A l.length ca, .int .i64 c, .int .u64 p.h, .int .i64 p.i, .slice C ns.length cc]] w fun x w' => x = .returned (.tuple #[.string (recT ⟨2, ⟨p0, p1, l⟩, c, p, ns⟩), .int .i64 (recE ⟨2, ⟨p0, p1, l⟩, c, p, ns⟩)]) ∧ Below w.heap.size w w' := by
  have HM := Lib.hid hm
  have HMAY := Lib.hid (rec_may A ca C cc ⟨2, ⟨p0, p1, l⟩, c, p, ns⟩ hr.p0 hr.p1)
  rw [decide_eq_true hm] at HMAY
  obtain ⟨w0, hw0⟩ : ∃ z, z = w.alloc (.cells #[.int .i64 2, .int .u64 p0.h, .int .i64 p0.i, .int .u64 p1.h, .int .i64 p1.i, .slice A l.length ca, .int .i64 c, .int .u64 p.h, .int .i64 p.i, .slice C ns.length cc] 31) := ⟨_, rfl⟩
  obtain ⟨X, hX⟩ : ∃ X, X = w.heap.size := ⟨_, rfl⟩
  have H0 : Hid (Below w.heap.size w w0 ∧ RecX w0 X A ca C cc ⟨2, ⟨p0, p1, l⟩, c, p, ns⟩) := Lib.hid (by
    have hb := Kq.below_alloc w (.cells #[.int .i64 2, .int .u64 p0.h, .int .i64 p0.i, .int .u64 p1.h, .int .i64 p1.i, .slice A l.length ca, .int .i64 c, .int .u64 p.h, .int .i64 p.i, .slice C ns.length cc] 31)
    have hr := Kq.blk_new w #[.int .i64 2, .int .u64 p0.h, .int .i64 p0.i, .int .u64 p1.h, .int .i64 p1.i, .slice A l.length ca, .int .i64 c, .int .u64 p.h, .int .i64 p.i, .slice C ns.length cc] 31 (0, 0)
    rw [← hw0, ← hX] at hr
    rw [← hw0] at hb
    exact ⟨hb, hr⟩)
  have HRW := Lib.hid hr
  clear hr hm
  go_enter Tryz.func11, Tryz.ntmps11
  go_wp2_with fail
  rw [← hw0, ← hX]
  clear hw0 hX
  refine (HMAY.out w0).mono ?_
  rintro x w1 ⟨rfl, b1⟩
  have HB1 : Hid (Below w.heap.size w w1) := Lib.hid (H0.out.1.trans (b1.mono H0.out.1.size))
  have hb2 := Kq.below_alloc w1 (.cells #[.int .i64 0, .slice none 0 0] 73)
  have HX : Hid (RecX (w1.alloc (.cells #[.int .i64 0, .slice none 0 0] 73)) X A ca C cc ⟨2, ⟨p0, p1, l⟩, c, p, ns⟩) := Lib.hid (Kq.below_blk hb2 (Kq.below_blk b1 H0.out.2 (Kq.blk_lt H0.out.2)) (Kq.blk_lt (Kq.below_blk b1 H0.out.2 (Kq.blk_lt H0.out.2))))
  have HXB : Hid (X < w1.heap.size) := Lib.hid (Kq.blk_lt (Kq.below_blk b1 H0.out.2 (Kq.blk_lt H0.out.2)))
  have HR1 : Hid (RecW w1 A C ⟨2, ⟨p0, p1, l⟩, c, p, ns⟩) := Lib.hid (HRW.out.below HB1.out)
  have HR : Hid (RecW (w1.alloc (.cells #[.int .i64 0, .slice none 0 0] 73)) A C ⟨2, ⟨p0, p1, l⟩, c, p, ns⟩) := Lib.hid (HR1.out.below hb2)
  have HLEN : Hid (l.length ≤ 300 ∧ ns.length ≤ 300) := Lib.hid ⟨HRW.out.ll, HRW.out.nl⟩
  have HZ : Hid (Wr (w1.alloc (.cells #[.int .i64 0, .slice none 0 0] 73)) w1.heap.size w1.heap.size 0 (.slice none 0 0) []) := Lib.hid (wr_new w1)
  have HWS : Hid (∀ w' : World, w' = w1.alloc (.cells #[.int .i64 0, .slice none 0 0] 73) → True) := Lib.hid (fun _ _ => trivial)
  have HRW2 : Hid (Below w.heap.size w w1) := Lib.hid HB1.out
  clear hb2 b1 HMAY HB1
  have c0 := (RecAt.of HX.out).1
  simp only at c0
  go_wp2_with fail
  clear c0
  obtain ⟨wz, hwz⟩ : ∃ z, z = w1.alloc (.cells #[.int .i64 0, .slice none 0 0] 73) := ⟨_, rfl⟩
  rw [← hwz] at HX HR HZ HWS ⊢
  have HBZ : Hid (Below w1.heap.size w1 wz ∧ w1.heap.size ≤ wz.heap.size) := Lib.hid (by rw [hwz]; exact ⟨Kq.below_alloc w1 _, (Kq.below_alloc w1 _).size⟩)
  clear hwz HWS
  refine (wr_byte_step w1.heap.size w1.heap.size 0 (.slice none 0 0) [] 2 wz HZ.out (by simp)).mono ?_
  intro x w2 hp
  have H1 := Lib.hid hp
  obtain ⟨rfl, -⟩ := hp.any
  clear hp
  obtain ⟨-, e1, l1, v1, W1, K1, F1, s1, g1, b1⟩ := H1.out.any
  have C1 : Hid (RecAt w2 X A ca C cc ⟨2, ⟨p0, p1, l⟩, c, p, ns⟩ ∧ l1.length ≤ 1000) := Lib.hid ⟨HX.out.keeps K1 (fun h => by
    rcases h with h | h
    · have := HXB.out; omega
    · cases h), by simp only [List.length_nil] at s1; omega⟩
  have HS1 := Lib.hid (And.intro W1 (And.intro K1 (And.intro F1 (And.intro s1 (And.intro g1 b1)))))
  clear W1 K1 F1 s1 g1 b1 H1
  obtain ⟨c0, c1, c2, c3, c4, c5, c6, c7, c8, c9⟩ := C1.out.1
  simp only at c0 c1 c2 c3 c4 c5 c6 c7 c8 c9
  go_wp2_with fail
  clear c0 c1 c2 c3 c4 c5 c6 c7 c8 c9
  refine (wr_byte_step w1.heap.size w1.heap.size e1 v1 l1 c w2 HS1.out.1 (by have := C1.out.2; omega)).mono ?_
  intro x w3 hp
  have H2 := Lib.hid (WrStep.then HS1.out.1 HS1.out.2.1 HS1.out.2.2.1 HS1.out.2.2.2.1 HS1.out.2.2.2.2.1 HS1.out.2.2.2.2.2 hp)
  obtain ⟨rfl, -⟩ := hp.any
  clear hp HS1 C1
  obtain ⟨-, e2, l2, v2, W2, K2, F2, s2, g2, b2⟩ := H2.out.any
  have C2 : Hid (RecAt w3 X A ca C cc ⟨2, ⟨p0, p1, l⟩, c, p, ns⟩ ∧ l2.length ≤ 1000) := Lib.hid ⟨HX.out.keeps K2 (fun h => by
    rcases h with h | h
    · have := HXB.out; omega
    · cases h), by simp only [List.length_nil] at s2; omega⟩
  have HS2 := Lib.hid (And.intro W2 (And.intro K2 (And.intro F2 (And.intro s2 (And.intro g2 b2)))))
  clear W2 K2 F2 s2 g2 b2 H2
  obtain ⟨c0, c1, c2, c3, c4, c5, c6, c7, c8, c9⟩ := C2.out.1
  simp only at c0 c1 c2 c3 c4 c5 c6 c7 c8 c9
  go_wp2_with fail
  clear c0 c1 c2 c3 c4 c5 c6 c7 c8 c9
  refine (nt_place_step w1.heap.size w1.heap.size e2 v2 l2 p.h p.i w3 HS2.out.1 HR.out.p.range (by have := C2.out.2; omega)).mono ?_
  intro x w4 hp
  have H3 := Lib.hid (WrStep.then HS2.out.1 HS2.out.2.1 HS2.out.2.2.1 HS2.out.2.2.2.1 HS2.out.2.2.2.2.1 HS2.out.2.2.2.2.2 hp)
  obtain ⟨rfl, -⟩ := hp.any
  clear hp HS2 C2
  obtain ⟨-, e3, l3, v3, W3, K3, F3, s3, g3, b3⟩ := H3.out.any
  have C3 : Hid (RecAt w4 X A ca C cc ⟨2, ⟨p0, p1, l⟩, c, p, ns⟩ ∧ l3.length ≤ 1000) := Lib.hid ⟨HX.out.keeps K3 (fun h => by
    rcases h with h | h
    · have := HXB.out; omega
    · cases h), by simp only [List.length_nil] at s3; omega⟩
  have HS3 := Lib.hid (And.intro W3 (And.intro K3 (And.intro F3 (And.intro s3 (And.intro g3 b3)))))
  clear W3 K3 F3 s3 g3 b3 H3
  have HABX : Hid (∀ g o, C = some ⟨g, o, none⟩ → ¬ (g = w1.heap.size ∨ some g = (Value.slice none 0 0).ownBlock) ∨ ns.length = 0) := Lib.hid (fun g o e => by
    by_cases h0 : 0 < ns.length
    · left
      have := hab HR1.out.ns (v := .slice none 0 0) (fun k hk => by cases hk) g o h0 e
      exact fun h => h.elim this.1 this.2
    · right; omega)
  have HABY : Hid (∀ g o, 0 < ns.length → C = some ⟨g, o, none⟩ → g ≠ w1.heap.size ∧ some g ≠ v3.ownBlock) := Lib.hid (fun g o h0 e => by
    obtain ⟨b, off, e2, hlt, _⟩ := HR1.out.ns 0 h0
    rw [e] at e2
    simp only [Option.some.injEq, Addr.mk.injEq] at e2
    refine ⟨by omega, fun h => ?_⟩
    rcases HS3.out.2.2.1 g h.symm with h' | h'
    · cases h'
    · have := HBZ.out.2; omega)
  have HAT : Hid (EnAt NtV.nc w4 C ns) := Lib.hid (fun j hj => by
    have hall := HR.out.ns
    obtain ⟨b, off, e2, _, _⟩ := hall j hj
    exact hall.keeps HS3.out.2.1 (fun g o e => (HABX.out g o e).resolve_right (by omega)) j hj)
  obtain ⟨c0, c1, c2, c3, c4, c5, c6, c7, c8, c9⟩ := C3.out.1
  simp only at c0 c1 c2 c3 c4 c5 c6 c7 c8 c9
  go_wp2_with fail
  clear c0 c1 c2 c3 c4 c5 c6 c7 c8 c9
  refine (nt_putnotes w1.heap.size w1.heap.size e3 v3 l3 C cc ns w4 HS3.out.1 HAT.out HABY.out HR.out.nw HR.out.nl (by have := C3.out.2; omega)).mono ?_
  intro x w5 hp
  have H4 := Lib.hid (WrStep.then HS3.out.1 HS3.out.2.1 HS3.out.2.2.1 HS3.out.2.2.2.1 HS3.out.2.2.2.2.1 HS3.out.2.2.2.2.2 hp)
  obtain ⟨rfl, -⟩ := hp.any
  clear hp HS3 C3
  have hiff : (((((0 : Int) ≤ 2 ∧ (2 : Int) ≤ 255) ∧ 0 ≤ c ∧ c ≤ 255) ∧ 0 ≤ p.i ∧ p.i ≤ 65535) ∧ ns.length ≤ 255 ∧ ∀ n ∈ ns, EnOk [1, 2, 3, 4] n) ↔ RecOk ⟨2, ⟨p0, p1, l⟩, c, p, ns⟩ :=
    ⟨fun h => ⟨HM.out, fun h => absurd h (by simp only; omega), fun _ => ⟨h.1.2, h.2.2⟩⟩, fun h => by
      have h1 := h.2.2 rfl
      have h2 := HM.out
      rcases h2 with h2 | h2
      · exact absurd h2.1 (by simp only; omega)
      · have h3 := h2.2.2.2.1; have h4 := h2.2.2.2.2; simp only at h3 h4
        exact ⟨⟨⟨⟨by omega, by omega⟩, by omega, by omega⟩, h1.1⟩, by omega, h1.2⟩⟩
  obtain ⟨-, e4, l4, v4, W4, K4, F4, s4, g4, b4⟩ := H4.out.any
  have HBE : Hid (Below w.heap.size w w5) := Lib.hid ((HRW2.out.trans (HBZ.out.1.mono HRW2.out.size)).trans (K4.below (Nat.le_trans HRW2.out.size HBZ.out.2) (fun k _ h => by
    rcases h with h | h
    · have := HRW2.out.size; omega
    · cases h)))
  by_cases hok : RecOk ⟨2, ⟨p0, p1, l⟩, c, p, ns⟩
  · obtain ⟨rfl, hl4⟩ := g4 (hiff.2 hok)
    have henc : l4 = encR ⟨2, ⟨p0, p1, l⟩, c, p, ns⟩ := by
      rw [hl4]
      unfold encR PlV.b
      simp
    have HT : Hid (recT ⟨2, ⟨p0, p1, l⟩, c, p, ns⟩ = txt l4 ∧ recE ⟨2, ⟨p0, p1, l⟩, c, p, ns⟩ = 0) := Lib.hid ⟨by unfold recT; rw [if_pos hok, henc], if_pos hok⟩
    have hlt : ∀ b ∈ l4, b < 256 := by
      rw [henc]
      exact encR_lt ⟨2, ⟨p0, p1, l⟩, c, p, ns⟩ hok
    have HW4 := Lib.hid (And.intro W4 hlt)
    clear hlt henc hl4 g4 b4 W4 K4 F4 s4 hiff hok H4
    go_wp2_with fail
    refine (wr_bytes_ok _ _ v4 l4 w5 HW4.out.1 HW4.out.2).mono ?_
    rintro x w6 ⟨rfl, rfl⟩
    go_wp2
    go_ret2
    exact ⟨by rw [HT.out.1, HT.out.2]; rfl, HBE.out⟩
  · have he4 := b4 (fun h => hok (hiff.1 h))
    have HT : Hid (recT ⟨2, ⟨p0, p1, l⟩, c, p, ns⟩ = ⟨#[]⟩ ∧ recE ⟨2, ⟨p0, p1, l⟩, c, p, ns⟩ = 1 ∧ e4 = 1) := Lib.hid ⟨if_neg hok, if_neg hok, he4⟩
    have HW4 := Lib.hid W4
    clear he4 g4 b4 W4 K4 F4 s4 hiff hok H4
    go_wp2_with fail
    refine (wr_bytes_bad _ _ e4 v4 l4 w5 HW4.out (by rw [HT.out.2.2]; decide)).mono ?_
    rintro x w6 ⟨rfl, rfl⟩
    rw [HT.out.2.2]
    go_wp2
    go_ret2
    exact ⟨by rw [HT.out.1, HT.out.2.1]; rfl, HBE.out⟩
set_option maxRecDepth 100000 in
set_option maxHeartbeats 2000000 in
theorem rec_bytes (A : Option Addr) (ca : Nat) (C : Option Addr) (cc : Nat) (r : ReV) (w : World) (hr : RecW w A C r) :
    Calls Tryz.prog 11 #[.agg #[.int .i64 r.k, .int .u64 r.d.p0.h, .int .i64 r.d.p0.i, .int .u64 r.d.p1.h, .int .i64 r.d.p1.i, .slice A r.d.l.length ca, .int .i64 r.c, .int .u64 r.p.h, .int .i64 r.p.i, .slice C r.ns.length cc]] w fun x w' => x = .returned (.tuple #[.string (recT r), .int .i64 (recE r)]) ∧ Below w.heap.size w w' := by
  by_cases hm : MayR r
  · obtain ⟨k, ⟨p0, p1, l⟩, c, p, ns⟩ := r
    have hk : k = 1 ∨ k = 2 := hm.elim (fun h => Or.inl h.1) (fun h => Or.inr h.1)
    rcases hk with rfl | rfl
    · exact rec_bytes1 A ca C cc p0 p1 p c l ns w hr hm
    · exact rec_bytes2 A ca C cc p0 p1 p c l ns w hr hm
  · have HMAY := Lib.hid (rec_may A ca C cc r hr.p0 hr.p1)
    rw [decide_eq_false hm] at HMAY
    have HT : Hid (recT r = ⟨#[]⟩ ∧ recE r = 1) := Lib.hid ⟨if_neg (fun h => hm h.1), if_neg (fun h => hm h.1)⟩
    obtain ⟨k, ⟨p0, p1, l⟩, c, p, ns⟩ := r
    have HB := Lib.hid (Kq.below_alloc w (.cells #[.int .i64 k, .int .u64 p0.h, .int .i64 p0.i, .int .u64 p1.h, .int .i64 p1.i, .slice A l.length ca, .int .i64 c, .int .u64 p.h, .int .i64 p.i, .slice C ns.length cc] 31))
    clear hr hm
    go_enter Tryz.func11, Tryz.ntmps11
    go_wp2_with fail
    refine (HMAY.out _).mono ?_
    rintro x w2 ⟨rfl, b2⟩
    have H2 := Lib.hid (HB.out.trans (b2.mono HB.out.size))
    clear b2
    go_wp2
    go_ret2
    exact ⟨by rw [HT.out.1, HT.out.2]; rfl, H2.out⟩
end Go.Proofs.YtkbiolhcpghmkaaGreat
