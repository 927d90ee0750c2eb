/- The law's comparison of entries. Condition: at most 1000 writes each. -/
import Derived.WalkSpells
import Derived.Outline
import Derived.Deep.RegionHeld
import Derived.Test.YtjilbcefikbihaaHeldLastQ
import Derived.Test.YtjilbcefikbihaaScRSQ
import Derived.Test.YtjilbcefikbihaaScEnQ
namespace Go.Proofs.Ytjilbcefikbihaa
open Go.RowKit
set_option linter.unusedVariables false
def EnsFew (xs : List EnX) : Prop := ∀ x ∈ xs, x.a.ws.length ≤ 1000
theorem lw_cells {w w' : World} {A : Option Addr} {xs : List EnX} (h : EnsAt w A xs) (hb : Below w.heap.size w w') (j : Nat) (hj : j < xs.length) (x : EnX) (hx : x = xs[j]) : ∃ b o, A = some ⟨b, o, none⟩ ∧ b < w.heap.size ∧ ∀ i, i < 15 → w'.cell? ⟨b, o + j * 15 + i, none⟩ = (x.a.cells x.sl [.int .i64 x.e])[i]? := by
  obtain ⟨b, o, e, h1, h2⟩ := h.1 j hj
  refine ⟨b, o, e, h1, fun i hi => ?_⟩
  have := h2 i hi
  rw [← hx] at this
  exact (hb.cell (p := ⟨b, _, none⟩) h1).trans this
set_option maxRecDepth 100000 in
set_option maxHeartbeats 2000000 in
theorem lw_entries (A1 A2 : Option Addr) (k1 k2 : Nat) (xs ys : List EnX) (w : World) (hx : EnsAt w A1 xs) (hy : EnsAt w A2 ys) (fx : EnsFew xs) (fy : EnsFew ys) (hl : xs.length ≤ 100000000) :
    Calls Try.prog 16 #[.slice A1 xs.length k1, .slice A2 ys.length k2] w fun r w' => r = .returned (.bool (decide (xs.map EnX.out = ys.map EnX.out))) ∧ Below w.heap.size w w' := by
  obtain ⟨r, hr⟩ : ∃ r, r = decide (xs.map EnX.out = ys.map EnX.out) := ⟨_, rfl⟩
  rw [← hr]
  have HR := Lib.hid hr
  have HH := Lib.hid (And.intro hx (And.intro hy (And.intro fx (And.intro fy hl))))
  clear hx hy fx fy hr
  by_cases hlen : xs.length = ys.length
  · have t0 : ((xs.length : Int) != (ys.length : Int)) = false := by simp [hlen]
    have t00 : (xs.length != ys.length) = false := by simp [hlen]
    have HL := Lib.hid hlen
    clear hlen
    go_enter Try.func16, Try.ntmps16
    go_wp2
    clear t0 t00
    go_loopw [5] (fun u wr => ∃ j : Nat, j ≤ xs.length ∧ u = .int .i64 (j : Int) ∧ (∀ i (hi : i < xs.length) (hi2 : i < ys.length), i < j → xs[i].out = ys[i].out) ∧ Below w.heap.size w wr) (fun u _ => xs.length - (intOf u).toNat)
    case atStart => exact ⟨0, Nat.zero_le _, rfl, fun i _ _ h => absurd h (Nat.not_lt_zero _), Below.refl _ _⟩
    case round =>
      obtain ⟨j, hj, rfl, hall, hb⟩ := hrel
      by_cases hlt : j < xs.length
      · have hj6 : j ≤ 100000000 := by omega
        have hlt2 : j < ys.length := by rw [← HL.out]; exact hlt
        obtain ⟨x, hx⟩ : ∃ z, z = xs[j]'hlt := ⟨_, rfl⟩
        obtain ⟨y, hy⟩ : ∃ z, z = ys[j]'hlt2 := ⟨_, rfl⟩
        obtain ⟨b1, o1, rfl, g1, h1⟩ := lw_cells HH.out.1 hb j hlt x hx
        obtain ⟨b2, o2, rfl, g2, h2⟩ := lw_cells HH.out.2.1 hb j hlt2 y hy
        have HXY : Hid (∀ h1 : j < xs.length, ∀ h2 : j < ys.length, xs[j]'h1 = x ∧ ys[j]'h2 = y) := Lib.hid (fun _ _ => ⟨hx.symm, hy.symm⟩)
        have HSM := Lib.hid (rs_same x.sl y.sl x.a y.a wr.drew ((HH.out.1.2 x (by rw [hx]; exact List.getElem_mem _)).keeps (S := fun _ => False) (keeps_any hb.drew) (fun _ _ => id)) ((HH.out.2.1.2 y (by rw [hy]; exact List.getElem_mem _)).keeps (S := fun _ => False) (keeps_any hb.drew) (fun _ _ => id)) (HH.out.2.2.1 x (by rw [hx]; exact List.getElem_mem _)) (HH.out.2.2.2.1 y (by rw [hy]; exact List.getElem_mem _)))
        clear hx hy
        have hS : wr.drew.cell? ⟨b1, o1 + j * 15, none⟩ = some (.int .i64 x.a.k) ∧ wr.drew.cell? ⟨b1, o1 + j * 15 + 1, none⟩ = some (.int .i64 x.a.c) ∧ wr.drew.cell? ⟨b1, o1 + j * 15 + 2, none⟩ = some (.int .u64 x.a.t) ∧ wr.drew.cell? ⟨b1, o1 + j * 15 + 3, none⟩ = some (.string x.a.d) ∧ wr.drew.cell? ⟨b1, o1 + j * 15 + 4, none⟩ = some (.int .i64 x.a.n) ∧ wr.drew.cell? ⟨b1, o1 + j * 15 + 5, none⟩ = some (.int .i64 x.a.mk) ∧ wr.drew.cell? ⟨b1, o1 + j * 15 + 6, none⟩ = some (.int .i64 x.a.mt) ∧ wr.drew.cell? ⟨b1, o1 + j * 15 + 7, none⟩ = some (.int .u64 x.a.mh) ∧ wr.drew.cell? ⟨b1, o1 + j * 15 + 8, none⟩ = some (.int .i64 x.a.pf) ∧ wr.drew.cell? ⟨b1, o1 + j * 15 + 9, none⟩ = some (.int .u64 x.a.pq) ∧ wr.drew.cell? ⟨b1, o1 + j * 15 + 10, none⟩ = some (.int .u64 x.a.pt) ∧ wr.drew.cell? ⟨b1, o1 + j * 15 + 11, none⟩ = some (.string x.a.pd) ∧ wr.drew.cell? ⟨b1, o1 + j * 15 + 12, none⟩ = some (.string x.a.mp) ∧ wr.drew.cell? ⟨b1, o1 + j * 15 + 13, none⟩ = some (.slice x.A x.a.ws.length x.c) ∧ wr.drew.cell? ⟨b1, o1 + j * 15 + 14, none⟩ = some (.int .i64 x.e) ∧ wr.drew.cell? ⟨b2, o2 + j * 15, none⟩ = some (.int .i64 y.a.k) ∧ wr.drew.cell? ⟨b2, o2 + j * 15 + 1, none⟩ = some (.int .i64 y.a.c) ∧ wr.drew.cell? ⟨b2, o2 + j * 15 + 2, none⟩ = some (.int .u64 y.a.t) ∧ wr.drew.cell? ⟨b2, o2 + j * 15 + 3, none⟩ = some (.string y.a.d) ∧ wr.drew.cell? ⟨b2, o2 + j * 15 + 4, none⟩ = some (.int .i64 y.a.n) ∧ wr.drew.cell? ⟨b2, o2 + j * 15 + 5, none⟩ = some (.int .i64 y.a.mk) ∧ wr.drew.cell? ⟨b2, o2 + j * 15 + 6, none⟩ = some (.int .i64 y.a.mt) ∧ wr.drew.cell? ⟨b2, o2 + j * 15 + 7, none⟩ = some (.int .u64 y.a.mh) ∧ wr.drew.cell? ⟨b2, o2 + j * 15 + 8, none⟩ = some (.int .i64 y.a.pf) ∧ wr.drew.cell? ⟨b2, o2 + j * 15 + 9, none⟩ = some (.int .u64 y.a.pq) ∧ wr.drew.cell? ⟨b2, o2 + j * 15 + 10, none⟩ = some (.int .u64 y.a.pt) ∧ wr.drew.cell? ⟨b2, o2 + j * 15 + 11, none⟩ = some (.string y.a.pd) ∧ wr.drew.cell? ⟨b2, o2 + j * 15 + 12, none⟩ = some (.string y.a.mp) ∧ wr.drew.cell? ⟨b2, o2 + j * 15 + 13, none⟩ = some (.slice y.A y.a.ws.length y.c) ∧ wr.drew.cell? ⟨b2, o2 + j * 15 + 14, none⟩ = some (.int .i64 y.e) := ⟨h1 0 (by decide), h1 1 (by decide), h1 2 (by decide), h1 3 (by decide), h1 4 (by decide), h1 5 (by decide), h1 6 (by decide), h1 7 (by decide), h1 8 (by decide), h1 9 (by decide), h1 10 (by decide), h1 11 (by decide), h1 12 (by decide), h1 13 (by decide), h1 14 (by decide), h2 0 (by decide), h2 1 (by decide), h2 2 (by decide), h2 3 (by decide), h2 4 (by decide), h2 5 (by decide), h2 6 (by decide), h2 7 (by decide), h2 8 (by decide), h2 9 (by decide), h2 10 (by decide), h2 11 (by decide), h2 12 (by decide), h2 13 (by decide), h2 14 (by decide)⟩
        have HB := Lib.hid (And.intro hb (And.intro g1 g2))
        have HALL := Lib.hid hall
        have HLT := Lib.hid (And.intro hlt hlt2)
        have t1 : decide ((j : Int) < (xs.length : Int)) = true := decide_eq_true (by omega)
        have t2 : decide (j < xs.length) = true := decide_eq_true hlt
        have hi0 : (j : Int) < (xs.length : Int) := by omega
        have hi1 : (j : Int) < (ys.length : Int) := by omega
        clear hall hlt hlt2 hb hj h1 h2 g1 g2
        go_wp2
        refine wp_region_held_drew (S := fun cur => cur.cell? ⟨b1, o1 + j * 15, none⟩ = some (.int .i64 x.a.k) ∧ cur.cell? ⟨b1, o1 + j * 15 + 1, none⟩ = some (.int .i64 x.a.c) ∧ cur.cell? ⟨b1, o1 + j * 15 + 2, none⟩ = some (.int .u64 x.a.t) ∧ cur.cell? ⟨b1, o1 + j * 15 + 3, none⟩ = some (.string x.a.d) ∧ cur.cell? ⟨b1, o1 + j * 15 + 4, none⟩ = some (.int .i64 x.a.n) ∧ cur.cell? ⟨b1, o1 + j * 15 + 5, none⟩ = some (.int .i64 x.a.mk) ∧ cur.cell? ⟨b1, o1 + j * 15 + 6, none⟩ = some (.int .i64 x.a.mt) ∧ cur.cell? ⟨b1, o1 + j * 15 + 7, none⟩ = some (.int .u64 x.a.mh) ∧ cur.cell? ⟨b1, o1 + j * 15 + 8, none⟩ = some (.int .i64 x.a.pf) ∧ cur.cell? ⟨b1, o1 + j * 15 + 9, none⟩ = some (.int .u64 x.a.pq) ∧ cur.cell? ⟨b1, o1 + j * 15 + 10, none⟩ = some (.int .u64 x.a.pt) ∧ cur.cell? ⟨b1, o1 + j * 15 + 11, none⟩ = some (.string x.a.pd) ∧ cur.cell? ⟨b1, o1 + j * 15 + 12, none⟩ = some (.string x.a.mp) ∧ cur.cell? ⟨b1, o1 + j * 15 + 13, none⟩ = some (.slice x.A x.a.ws.length x.c) ∧ cur.cell? ⟨b1, o1 + j * 15 + 14, none⟩ = some (.int .i64 x.e) ∧ cur.cell? ⟨b2, o2 + j * 15, none⟩ = some (.int .i64 y.a.k) ∧ cur.cell? ⟨b2, o2 + j * 15 + 1, none⟩ = some (.int .i64 y.a.c) ∧ cur.cell? ⟨b2, o2 + j * 15 + 2, none⟩ = some (.int .u64 y.a.t) ∧ cur.cell? ⟨b2, o2 + j * 15 + 3, none⟩ = some (.string y.a.d) ∧ cur.cell? ⟨b2, o2 + j * 15 + 4, none⟩ = some (.int .i64 y.a.n) ∧ cur.cell? ⟨b2, o2 + j * 15 + 5, none⟩ = some (.int .i64 y.a.mk) ∧ cur.cell? ⟨b2, o2 + j * 15 + 6, none⟩ = some (.int .i64 y.a.mt) ∧ cur.cell? ⟨b2, o2 + j * 15 + 7, none⟩ = some (.int .u64 y.a.mh) ∧ cur.cell? ⟨b2, o2 + j * 15 + 8, none⟩ = some (.int .i64 y.a.pf) ∧ cur.cell? ⟨b2, o2 + j * 15 + 9, none⟩ = some (.int .u64 y.a.pq) ∧ cur.cell? ⟨b2, o2 + j * 15 + 10, none⟩ = some (.int .u64 y.a.pt) ∧ cur.cell? ⟨b2, o2 + j * 15 + 11, none⟩ = some (.string y.a.pd) ∧ cur.cell? ⟨b2, o2 + j * 15 + 12, none⟩ = some (.string y.a.mp) ∧ cur.cell? ⟨b2, o2 + j * 15 + 13, none⟩ = some (.slice y.A y.a.ws.length y.c) ∧ cur.cell? ⟨b2, o2 + j * 15 + 14, none⟩ = some (.int .i64 y.e)) (by kernel_rfl) hS (fun hS0 => ?_)
        obtain ⟨wd, hwd⟩ : ∃ z, z = wr.drew := ⟨_, rfl⟩
        have HD : Hid (Below w.heap.size w wd) := Lib.hid (by rw [hwd]; exact HB.out.1.drew)
        rw [← hwd] at hS0 HSM ⊢
        clear hwd hS
        refine wpAnyH_take (i := 0) (v := ?_) rfl (by kernel_rfl) (by kernel_rfl) (by kernel_rfl) (fun _ _ _ h => h) (Or.inl ⟨by kernel_rfl, ?_⟩) (by assumption) ?_
        rotate_left
        · intro w hSw; (try dsimp only at hSw); go_simp; (try with_reducible rfl)
        refine wpAnyH_take (i := 1) (v := ?_) rfl (by kernel_rfl) (by kernel_rfl) (by kernel_rfl) (fun _ _ _ h => h) (Or.inl ⟨by kernel_rfl, ?_⟩) (by assumption) ?_
        rotate_left
        · intro w hSw; (try dsimp only at hSw); go_simp; (try with_reducible rfl)
        refine wpAnyH_take (i := 2) (v := ?_) rfl (by kernel_rfl) (by kernel_rfl) (by kernel_rfl) (fun _ _ _ h => h) (Or.inl ⟨by kernel_rfl, ?_⟩) (by assumption) ?_
        rotate_left
        · intro w hSw; (try dsimp only at hSw); go_simp; (try with_reducible rfl)
        refine wpAnyH_take (i := 3) (v := ?_) rfl (by kernel_rfl) (by kernel_rfl) (by kernel_rfl) (fun _ _ _ h => h) (Or.inl ⟨by kernel_rfl, ?_⟩) (by assumption) ?_
        rotate_left
        · intro w hSw; (try dsimp only at hSw); go_simp; (try with_reducible rfl)
        refine wpAnyH_take (i := 4) (v := ?_) rfl (by kernel_rfl) (by kernel_rfl) (by kernel_rfl) (fun _ _ _ h => h) (Or.inl ⟨by kernel_rfl, ?_⟩) (by assumption) ?_
        rotate_left
        · intro w hSw; (try dsimp only at hSw); go_simp; (try with_reducible rfl)
        refine wpAnyH_take (i := 5) (v := ?_) rfl (by kernel_rfl) (by kernel_rfl) (by kernel_rfl) (fun _ _ _ h => h) (Or.inl ⟨by kernel_rfl, ?_⟩) (by assumption) ?_
        rotate_left
        · intro w hSw; (try dsimp only at hSw); go_simp; (try with_reducible rfl)
        refine wpAnyH_take (i := 6) (v := ?_) rfl (by kernel_rfl) (by kernel_rfl) (by kernel_rfl) (fun _ _ _ h => h) (Or.inl ⟨by kernel_rfl, ?_⟩) (by assumption) ?_
        rotate_left
        · intro w hSw; (try dsimp only at hSw); go_simp; (try with_reducible rfl)
        refine wpAnyH_take (i := 7) (v := ?_) rfl (by kernel_rfl) (by kernel_rfl) (by kernel_rfl) (fun _ _ _ h => h) (Or.inl ⟨by kernel_rfl, ?_⟩) (by assumption) ?_
        rotate_left
        · intro w hSw; (try dsimp only at hSw); go_simp; (try with_reducible rfl)
        refine wpAnyH_take (i := 8) (v := ?_) rfl (by kernel_rfl) (by kernel_rfl) (by kernel_rfl) (fun _ _ _ h => h) (Or.inl ⟨by kernel_rfl, ?_⟩) (by assumption) ?_
        rotate_left
        · intro w hSw; (try dsimp only at hSw); go_simp; (try with_reducible rfl)
        refine wpAnyH_take (i := 9) (v := ?_) rfl (by kernel_rfl) (by kernel_rfl) (by kernel_rfl) (fun _ _ _ h => h) (Or.inl ⟨by kernel_rfl, ?_⟩) (by assumption) ?_
        rotate_left
        · intro w hSw; (try dsimp only at hSw); go_simp; (try with_reducible rfl)
        refine wpAnyH_ready (rs := [10]) (by kernel_rfl) (by simp) ?_
        refine AllReadyH.cons rfl (fun K hK => ?_) AllReadyH.nil
        go_simp
        refine HSM.out.mono ?_
        rintro v w2 ⟨rfl, b2'⟩
        have hS2 : w2.cell? ⟨b1, o1 + j * 15, none⟩ = some (.int .i64 x.a.k) ∧ w2.cell? ⟨b1, o1 + j * 15 + 1, none⟩ = some (.int .i64 x.a.c) ∧ w2.cell? ⟨b1, o1 + j * 15 + 2, none⟩ = some (.int .u64 x.a.t) ∧ w2.cell? ⟨b1, o1 + j * 15 + 3, none⟩ = some (.string x.a.d) ∧ w2.cell? ⟨b1, o1 + j * 15 + 4, none⟩ = some (.int .i64 x.a.n) ∧ w2.cell? ⟨b1, o1 + j * 15 + 5, none⟩ = some (.int .i64 x.a.mk) ∧ w2.cell? ⟨b1, o1 + j * 15 + 6, none⟩ = some (.int .i64 x.a.mt) ∧ w2.cell? ⟨b1, o1 + j * 15 + 7, none⟩ = some (.int .u64 x.a.mh) ∧ w2.cell? ⟨b1, o1 + j * 15 + 8, none⟩ = some (.int .i64 x.a.pf) ∧ w2.cell? ⟨b1, o1 + j * 15 + 9, none⟩ = some (.int .u64 x.a.pq) ∧ w2.cell? ⟨b1, o1 + j * 15 + 10, none⟩ = some (.int .u64 x.a.pt) ∧ w2.cell? ⟨b1, o1 + j * 15 + 11, none⟩ = some (.string x.a.pd) ∧ w2.cell? ⟨b1, o1 + j * 15 + 12, none⟩ = some (.string x.a.mp) ∧ w2.cell? ⟨b1, o1 + j * 15 + 13, none⟩ = some (.slice x.A x.a.ws.length x.c) ∧ w2.cell? ⟨b1, o1 + j * 15 + 14, none⟩ = some (.int .i64 x.e) ∧ w2.cell? ⟨b2, o2 + j * 15, none⟩ = some (.int .i64 y.a.k) ∧ w2.cell? ⟨b2, o2 + j * 15 + 1, none⟩ = some (.int .i64 y.a.c) ∧ w2.cell? ⟨b2, o2 + j * 15 + 2, none⟩ = some (.int .u64 y.a.t) ∧ w2.cell? ⟨b2, o2 + j * 15 + 3, none⟩ = some (.string y.a.d) ∧ w2.cell? ⟨b2, o2 + j * 15 + 4, none⟩ = some (.int .i64 y.a.n) ∧ w2.cell? ⟨b2, o2 + j * 15 + 5, none⟩ = some (.int .i64 y.a.mk) ∧ w2.cell? ⟨b2, o2 + j * 15 + 6, none⟩ = some (.int .i64 y.a.mt) ∧ w2.cell? ⟨b2, o2 + j * 15 + 7, none⟩ = some (.int .u64 y.a.mh) ∧ w2.cell? ⟨b2, o2 + j * 15 + 8, none⟩ = some (.int .i64 y.a.pf) ∧ w2.cell? ⟨b2, o2 + j * 15 + 9, none⟩ = some (.int .u64 y.a.pq) ∧ w2.cell? ⟨b2, o2 + j * 15 + 10, none⟩ = some (.int .u64 y.a.pt) ∧ w2.cell? ⟨b2, o2 + j * 15 + 11, none⟩ = some (.string y.a.pd) ∧ w2.cell? ⟨b2, o2 + j * 15 + 12, none⟩ = some (.string y.a.mp) ∧ w2.cell? ⟨b2, o2 + j * 15 + 13, none⟩ = some (.slice y.A y.a.ws.length y.c) ∧ w2.cell? ⟨b2, o2 + j * 15 + 14, none⟩ = some (.int .i64 y.e) := by
          have hc : ∀ b i, b < w.heap.size → w2.cell? ⟨b, i, none⟩ = wd.cell? ⟨b, i, none⟩ := fun b i hb => b2'.cell (p := ⟨b, i, none⟩) (Nat.lt_of_lt_of_le hb HD.out.size)
          obtain ⟨s0, s1, s2, s3, s4, s5, s6, s7, s8, s9, s10, s11, s12, s13, s14, s15, s16, s17, s18, s19, s20, s21, s22, s23, s24, s25, s26, s27, s28, s29⟩ := hS0
          exact ⟨(hc _ _ HB.out.2.1).trans s0, (hc _ _ HB.out.2.1).trans s1, (hc _ _ HB.out.2.1).trans s2, (hc _ _ HB.out.2.1).trans s3, (hc _ _ HB.out.2.1).trans s4, (hc _ _ HB.out.2.1).trans s5, (hc _ _ HB.out.2.1).trans s6, (hc _ _ HB.out.2.1).trans s7, (hc _ _ HB.out.2.1).trans s8, (hc _ _ HB.out.2.1).trans s9, (hc _ _ HB.out.2.1).trans s10, (hc _ _ HB.out.2.1).trans s11, (hc _ _ HB.out.2.1).trans s12, (hc _ _ HB.out.2.1).trans s13, (hc _ _ HB.out.2.1).trans s14, (hc _ _ HB.out.2.2).trans s15, (hc _ _ HB.out.2.2).trans s16, (hc _ _ HB.out.2.2).trans s17, (hc _ _ HB.out.2.2).trans s18, (hc _ _ HB.out.2.2).trans s19, (hc _ _ HB.out.2.2).trans s20, (hc _ _ HB.out.2.2).trans s21, (hc _ _ HB.out.2.2).trans s22, (hc _ _ HB.out.2.2).trans s23, (hc _ _ HB.out.2.2).trans s24, (hc _ _ HB.out.2.2).trans s25, (hc _ _ HB.out.2.2).trans s26, (hc _ _ HB.out.2.2).trans s27, (hc _ _ HB.out.2.2).trans s28, (hc _ _ HB.out.2.2).trans s29⟩
        have HB2 : Hid (Below w.heap.size w w2) := Lib.hid (HD.out.trans (b2'.mono HD.out.size))
        clear b2' hS0
        obtain ⟨q, hq⟩ : ∃ q, q = decide (x.a = y.a) := ⟨_, rfl⟩
        rw [← hq]
        have HQ := Lib.hid hq
        clear hq
        refine hK.out _ _ hS2 (fun hS0 => ?_)
        clear hK K hS2
        cases q with
        | false =>
          refine wpAnyH_take (i := 11) (v := ?_) rfl (by kernel_rfl) (by kernel_rfl) (by kernel_rfl) (fun _ _ _ h => h) (Or.inl ⟨by kernel_rfl, ?_⟩) (by assumption) ?_
          rotate_left
          · intro w hSw; (try dsimp only at hSw); go_simp; (try with_reducible rfl)
          refine wpAnyH_take (i := 12) (v := ?_) rfl (by kernel_rfl) (by kernel_rfl) (by kernel_rfl) (fun _ _ _ h => h) (Or.inl ⟨by kernel_rfl, ?_⟩) (by assumption) ?_
          rotate_left
          · intro w hSw; (try dsimp only at hSw); go_simp; (try with_reducible rfl)
          refine wpAnyH_take (i := 13) (v := undef) rfl (by kernel_rfl) (by kernel_rfl) (by kernel_rfl) (fun _ _ _ h => h) (Or.inr ⟨by kernel_rfl, rfl⟩) (by assumption) ?_
          refine wpAnyH_take (i := 14) (v := undef) rfl (by kernel_rfl) (by kernel_rfl) (by kernel_rfl) (fun _ _ _ h => h) (Or.inr ⟨by kernel_rfl, rfl⟩) (by assumption) ?_
          refine wpAnyH_take (i := 15) (v := undef) rfl (by kernel_rfl) (by kernel_rfl) (by kernel_rfl) (fun _ _ _ h => h) (Or.inr ⟨by kernel_rfl, rfl⟩) (by assumption) ?_
          refine wpAnyH_take (i := 16) (v := undef) rfl (by kernel_rfl) (by kernel_rfl) (by kernel_rfl) (fun _ _ _ h => h) (Or.inr ⟨by kernel_rfl, rfl⟩) (by assumption) ?_
          refine wpAnyH_take (i := 17) (v := undef) rfl (by kernel_rfl) (by kernel_rfl) (by kernel_rfl) (fun _ _ _ h => h) (Or.inr ⟨by kernel_rfl, rfl⟩) (by assumption) ?_
          refine wpAnyH_take (i := 18) (v := undef) rfl (by kernel_rfl) (by kernel_rfl) (by kernel_rfl) (fun _ _ _ h => h) (Or.inr ⟨by kernel_rfl, rfl⟩) (by assumption) ?_
          refine wpAnyH_take (i := 19) (v := undef) rfl (by kernel_rfl) (by kernel_rfl) (by kernel_rfl) (fun _ _ _ h => h) (Or.inr ⟨by kernel_rfl, rfl⟩) (by assumption) ?_
          refine wpAnyH_take (i := 20) (v := undef) rfl (by kernel_rfl) (by kernel_rfl) (by kernel_rfl) (fun _ _ _ h => h) (Or.inr ⟨by kernel_rfl, rfl⟩) (by assumption) ?_
          refine wpAnyH_take (i := 21) (v := undef) rfl (by kernel_rfl) (by kernel_rfl) (by kernel_rfl) (fun _ _ _ h => h) (Or.inr ⟨by kernel_rfl, rfl⟩) (by assumption) ?_
          refine wpAnyH_take (i := 22) (v := undef) rfl (by kernel_rfl) (by kernel_rfl) (by kernel_rfl) (fun _ _ _ h => h) (Or.inr ⟨by kernel_rfl, rfl⟩) (by assumption) ?_
          refine wpAnyH_take (i := 23) (v := undef) rfl (by kernel_rfl) (by kernel_rfl) (by kernel_rfl) (fun _ _ _ h => h) (Or.inr ⟨by kernel_rfl, rfl⟩) (by assumption) ?_
          refine wpAnyH_take (i := 24) (v := ?_) rfl (by kernel_rfl) (by kernel_rfl) (by kernel_rfl) (fun _ _ _ h => h) (Or.inl ⟨by kernel_rfl, ?_⟩) (by assumption) ?_
          rotate_left
          · intro w hSw; (try dsimp only at hSw); go_simp; (try with_reducible rfl)
          clear hS0
          refine wpAnyH_done (by kernel_rfl) ?_ _
          go_simp
          go_wp2
          go_ret
          refine ⟨?_, HB2.out⟩
          rw [HR.out, decide_eq_false (fun e => ?_)]
          · rfl
          have h1 := HXY.out HLT.out.1 HLT.out.2
          have h2 : x.out = y.out := by
            rw [← h1.1, ← h1.2]
            have h3 := congrArg (fun l => l[j]?) e
            simp only [List.getElem?_map, List.getElem?_eq_getElem HLT.out.1, List.getElem?_eq_getElem HLT.out.2, Option.map_some, Option.some.injEq] at h3
            exact h3
          have h3 : x.a = y.a := congrArg Prod.fst h2
          exact absurd h3 (of_decide_eq_false HQ.out.symm)
        | true =>
          by_cases he : x.e = y.e
          · have te : (x.e != y.e) = false := by simp [he]
            have HE := Lib.hid he
            clear he
            refine wpAnyH_take (i := 11) (v := ?_) rfl (by kernel_rfl) (by kernel_rfl) (by kernel_rfl) (fun _ _ _ h => h) (Or.inl ⟨by kernel_rfl, ?_⟩) (by assumption) ?_
            rotate_left
            · intro w hSw; (try dsimp only at hSw); go_simp; (try with_reducible rfl)
            refine wpAnyH_take (i := 12) (v := ?_) rfl (by kernel_rfl) (by kernel_rfl) (by kernel_rfl) (fun _ _ _ h => h) (Or.inl ⟨by kernel_rfl, ?_⟩) (by assumption) ?_
            rotate_left
            · intro w hSw; (try dsimp only at hSw); go_simp; (try with_reducible rfl)
            refine wpAnyH_take (i := 13) (v := ?_) rfl (by kernel_rfl) (by kernel_rfl) (by kernel_rfl) (fun _ _ _ h => h) (Or.inl ⟨by kernel_rfl, ?_⟩) (by assumption) ?_
            rotate_left
            · intro w hSw; (try dsimp only at hSw); go_simp; (try with_reducible rfl)
            refine wpAnyH_take (i := 14) (v := ?_) rfl (by kernel_rfl) (by kernel_rfl) (by kernel_rfl) (fun _ _ _ h => h) (Or.inl ⟨by kernel_rfl, ?_⟩) (by assumption) ?_
            rotate_left
            · intro w hSw; (try dsimp only at hSw); go_simp; (try with_reducible rfl)
            refine wpAnyH_take (i := 15) (v := ?_) rfl (by kernel_rfl) (by kernel_rfl) (by kernel_rfl) (fun _ _ _ h => h) (Or.inl ⟨by kernel_rfl, ?_⟩) (by assumption) ?_
            rotate_left
            · intro w hSw; (try dsimp only at hSw); go_simp; (try with_reducible rfl)
            refine wpAnyH_take (i := 16) (v := ?_) rfl (by kernel_rfl) (by kernel_rfl) (by kernel_rfl) (fun _ _ _ h => h) (Or.inl ⟨by kernel_rfl, ?_⟩) (by assumption) ?_
            rotate_left
            · intro w hSw; (try dsimp only at hSw); go_simp; (try with_reducible rfl)
            refine wpAnyH_take (i := 17) (v := ?_) rfl (by kernel_rfl) (by kernel_rfl) (by kernel_rfl) (fun _ _ _ h => h) (Or.inl ⟨by kernel_rfl, ?_⟩) (by assumption) ?_
            rotate_left
            · intro w hSw; (try dsimp only at hSw); go_simp; (try with_reducible rfl)
            refine wpAnyH_take (i := 18) (v := ?_) rfl (by kernel_rfl) (by kernel_rfl) (by kernel_rfl) (fun _ _ _ h => h) (Or.inl ⟨by kernel_rfl, ?_⟩) (by assumption) ?_
            rotate_left
            · intro w hSw; (try dsimp only at hSw); go_simp; (try with_reducible rfl)
            refine wpAnyH_take (i := 19) (v := ?_) rfl (by kernel_rfl) (by kernel_rfl) (by kernel_rfl) (fun _ _ _ h => h) (Or.inl ⟨by kernel_rfl, ?_⟩) (by assumption) ?_
            rotate_left
            · intro w hSw; (try dsimp only at hSw); go_simp; (try with_reducible rfl)
            refine wpAnyH_take (i := 20) (v := ?_) rfl (by kernel_rfl) (by kernel_rfl) (by kernel_rfl) (fun _ _ _ h => h) (Or.inl ⟨by kernel_rfl, ?_⟩) (by assumption) ?_
            rotate_left
            · intro w hSw; (try dsimp only at hSw); go_simp; (try with_reducible rfl)
            refine wpAnyH_take (i := 21) (v := ?_) rfl (by kernel_rfl) (by kernel_rfl) (by kernel_rfl) (fun _ _ _ h => h) (Or.inl ⟨by kernel_rfl, ?_⟩) (by assumption) ?_
            rotate_left
            · intro w hSw; (try dsimp only at hSw); go_simp; (try with_reducible rfl)
            refine wpAnyH_take (i := 22) (v := ?_) rfl (by kernel_rfl) (by kernel_rfl) (by kernel_rfl) (fun _ _ _ h => h) (Or.inl ⟨by kernel_rfl, ?_⟩) (by assumption) ?_
            rotate_left
            · intro w hSw; (try dsimp only at hSw); go_simp; (try with_reducible rfl)
            refine wpAnyH_take (i := 23) (v := ?_) rfl (by kernel_rfl) (by kernel_rfl) (by kernel_rfl) (fun _ _ _ h => h) (Or.inl ⟨by kernel_rfl, ?_⟩) (by assumption) ?_
            rotate_left
            · intro w hSw; (try dsimp only at hSw); go_simp; (try with_reducible rfl)
            refine wpAnyH_take (i := 24) (v := ?_) rfl (by kernel_rfl) (by kernel_rfl) (by kernel_rfl) (fun _ _ _ h => h) (Or.inl ⟨by kernel_rfl, ?_⟩) (by assumption) ?_
            rotate_left
            · intro w hSw; (try dsimp only at hSw); go_simp; (try with_reducible rfl)
            clear hS0
            refine wpAnyH_done (by kernel_rfl) ?_ _
            go_simp
            go_wp2
            go_roundw
            case rel =>
              refine ⟨j + 1, HLT.out.1, by go_num, fun i hi hi2 hij => ?_, HB2.out⟩
              rcases Nat.lt_or_ge i j with h' | h'
              · exact HALL.out i hi hi2 h'
              · obtain rfl : i = j := by omega
                rw [(HXY.out hi hi2).1, (HXY.out hi hi2).2]
                show (x.a, x.e) = (y.a, y.e)
                rw [of_decide_eq_true HQ.out.symm, HE.out]
            case measure => have := HLT.out.1; simp [intOf]; omega
          · have te : (x.e != y.e) = true := by simp [he]
            have HE := Lib.hid he
            clear he
            refine wpAnyH_take (i := 11) (v := ?_) rfl (by kernel_rfl) (by kernel_rfl) (by kernel_rfl) (fun _ _ _ h => h) (Or.inl ⟨by kernel_rfl, ?_⟩) (by assumption) ?_
            rotate_left
            · intro w hSw; (try dsimp only at hSw); go_simp; (try with_reducible rfl)
            refine wpAnyH_take (i := 12) (v := ?_) rfl (by kernel_rfl) (by kernel_rfl) (by kernel_rfl) (fun _ _ _ h => h) (Or.inl ⟨by kernel_rfl, ?_⟩) (by assumption) ?_
            rotate_left
            · intro w hSw; (try dsimp only at hSw); go_simp; (try with_reducible rfl)
            refine wpAnyH_take (i := 13) (v := ?_) rfl (by kernel_rfl) (by kernel_rfl) (by kernel_rfl) (fun _ _ _ h => h) (Or.inl ⟨by kernel_rfl, ?_⟩) (by assumption) ?_
            rotate_left
            · intro w hSw; (try dsimp only at hSw); go_simp; (try with_reducible rfl)
            refine wpAnyH_take (i := 14) (v := ?_) rfl (by kernel_rfl) (by kernel_rfl) (by kernel_rfl) (fun _ _ _ h => h) (Or.inl ⟨by kernel_rfl, ?_⟩) (by assumption) ?_
            rotate_left
            · intro w hSw; (try dsimp only at hSw); go_simp; (try with_reducible rfl)
            refine wpAnyH_take (i := 15) (v := ?_) rfl (by kernel_rfl) (by kernel_rfl) (by kernel_rfl) (fun _ _ _ h => h) (Or.inl ⟨by kernel_rfl, ?_⟩) (by assumption) ?_
            rotate_left
            · intro w hSw; (try dsimp only at hSw); go_simp; (try with_reducible rfl)
            refine wpAnyH_take (i := 16) (v := ?_) rfl (by kernel_rfl) (by kernel_rfl) (by kernel_rfl) (fun _ _ _ h => h) (Or.inl ⟨by kernel_rfl, ?_⟩) (by assumption) ?_
            rotate_left
            · intro w hSw; (try dsimp only at hSw); go_simp; (try with_reducible rfl)
            refine wpAnyH_take (i := 17) (v := ?_) rfl (by kernel_rfl) (by kernel_rfl) (by kernel_rfl) (fun _ _ _ h => h) (Or.inl ⟨by kernel_rfl, ?_⟩) (by assumption) ?_
            rotate_left
            · intro w hSw; (try dsimp only at hSw); go_simp; (try with_reducible rfl)
            refine wpAnyH_take (i := 18) (v := ?_) rfl (by kernel_rfl) (by kernel_rfl) (by kernel_rfl) (fun _ _ _ h => h) (Or.inl ⟨by kernel_rfl, ?_⟩) (by assumption) ?_
            rotate_left
            · intro w hSw; (try dsimp only at hSw); go_simp; (try with_reducible rfl)
            refine wpAnyH_take (i := 19) (v := ?_) rfl (by kernel_rfl) (by kernel_rfl) (by kernel_rfl) (fun _ _ _ h => h) (Or.inl ⟨by kernel_rfl, ?_⟩) (by assumption) ?_
            rotate_left
            · intro w hSw; (try dsimp only at hSw); go_simp; (try with_reducible rfl)
            refine wpAnyH_take (i := 20) (v := ?_) rfl (by kernel_rfl) (by kernel_rfl) (by kernel_rfl) (fun _ _ _ h => h) (Or.inl ⟨by kernel_rfl, ?_⟩) (by assumption) ?_
            rotate_left
            · intro w hSw; (try dsimp only at hSw); go_simp; (try with_reducible rfl)
            refine wpAnyH_take (i := 21) (v := ?_) rfl (by kernel_rfl) (by kernel_rfl) (by kernel_rfl) (fun _ _ _ h => h) (Or.inl ⟨by kernel_rfl, ?_⟩) (by assumption) ?_
            rotate_left
            · intro w hSw; (try dsimp only at hSw); go_simp; (try with_reducible rfl)
            refine wpAnyH_take (i := 22) (v := ?_) rfl (by kernel_rfl) (by kernel_rfl) (by kernel_rfl) (fun _ _ _ h => h) (Or.inl ⟨by kernel_rfl, ?_⟩) (by assumption) ?_
            rotate_left
            · intro w hSw; (try dsimp only at hSw); go_simp; (try with_reducible rfl)
            refine wpAnyH_take (i := 23) (v := ?_) rfl (by kernel_rfl) (by kernel_rfl) (by kernel_rfl) (fun _ _ _ h => h) (Or.inl ⟨by kernel_rfl, ?_⟩) (by assumption) ?_
            rotate_left
            · intro w hSw; (try dsimp only at hSw); go_simp; (try with_reducible rfl)
            refine wpAnyH_take (i := 24) (v := ?_) rfl (by kernel_rfl) (by kernel_rfl) (by kernel_rfl) (fun _ _ _ h => h) (Or.inl ⟨by kernel_rfl, ?_⟩) (by assumption) ?_
            rotate_left
            · intro w hSw; (try dsimp only at hSw); go_simp; (try with_reducible rfl)
            clear hS0
            refine wpAnyH_done (by kernel_rfl) ?_ _
            go_simp
            go_wp2
            go_ret
            refine ⟨?_, HB2.out⟩
            rw [HR.out, decide_eq_false (fun e => ?_)]
            · rfl
            have h1 := HXY.out HLT.out.1 HLT.out.2
            have h2 : x.out = y.out := by
              rw [← h1.1, ← h1.2]
              have h3 := congrArg (fun l => l[j]?) e
              simp only [List.getElem?_map, List.getElem?_eq_getElem HLT.out.1, List.getElem?_eq_getElem HLT.out.2, Option.map_some, Option.some.injEq] at h3
              exact h3
            have h3 : x.e = y.e := congrArg Prod.snd h2
            exact absurd h3 HE.out
      · obtain rfl : j = xs.length := by omega
        have HE : Hid (r = true) := Lib.hid (by
          rw [HR.out]
          refine decide_eq_true (List.ext_getElem (by rw [List.length_map, List.length_map]; exact HL.out) (fun i hi hi2 => ?_))
          rw [List.getElem_map, List.getElem_map]
          rw [List.length_map] at hi hi2
          exact hall i hi hi2 hi)
        have HB := Lib.hid hb
        have t1 : decide ((xs.length : Int) < (xs.length : Int)) = false := decide_eq_false (by omega)
        have t2 : decide (xs.length < xs.length) = false := decide_eq_false hlt
        clear hall hlt hb hj
        go_wp2
        go_ret
        exact ⟨by rw [HE.out]; rfl, HB.out⟩
  · have t0 : ((xs.length : Int) != (ys.length : Int)) = true := by simp; omega
    have t00 : (xs.length != ys.length) = true := by simp [hlen]
    have HN : Hid (r = false) := Lib.hid (by
      rw [HR.out]
      exact decide_eq_false (fun e => hlen (by have := congrArg List.length e; rw [List.length_map, List.length_map] at this; exact this)))
    clear hlen
    go_enter Try.func16, Try.ntmps16
    go_wp2
    go_ret
    exact ⟨by rw [HN.out]; rfl, Below.refl _ _⟩
end Go.Proofs.Ytjilbcefikbihaa
