/- Contracts of carracklaw22.turned. Condition: few entries. -/
import Derived.WalkSpells
import Derived.Outline
import Derived.Deep.QuietTactic
import Derived.Deep.RegionHeld
import Derived.Test.YtlbeaknegfnpkaaDoorMdM
import Derived.Test.YtlbeaknegfnpkaaDoorHeldMono
import Derived.Test.YtlbeaknegfnpkaaDoorChecked
namespace Go.Proofs.YtlbeaknegfnpkaaDoor
open Go.RowKit
set_option linter.unusedVariables false
theorem info_zsb {t : TypeId} {z : Value} {s b : Nat} (h : (Tryd.prog.info? t).map (fun i => (i.zero, i.size, i.bytes)) = some (some z, s, b)) : ∃ i, Tryd.prog.info? t = some i ∧ i.zero = some z ∧ i.size = s ∧ i.bytes = b := by
  cases hi : Tryd.prog.info? t with
  | none => rw [hi] at h; cases h
  | some i =>
    rw [hi] at h
    simp only [Option.map_some, Option.some.injEq, Prod.mk.injEq] at h
    exact ⟨i, rfl, h.1, h.2.1, h.2.2⟩
theorem infoEn : (Tryd.prog.info? 40).map (fun i => (i.zero, i.size, i.bytes)) = some (some (.agg #[.int .i64 0, .int .u64 0, .int .u64 0, .string ⟨#[]⟩, .int .i64 0]), 5, 48) := by kernel_rfl
theorem infoPt : (Tryd.prog.info? 32).map (fun i => (i.zero, i.size, i.bytes)) = some (some (.agg #[.int .i64 0, .int .u64 0, .int .u64 0, .string ⟨#[]⟩]), 4, 40) := by kernel_rfl
/-- an entry's cells in a block -/
def EnC (w : World) (b o : Nat) (e : EnV) : Prop := w.cell? ⟨b, o, none⟩ = some (.int .i64 e.p.f) ∧ w.cell? ⟨b, o + 1, none⟩ = some (.int .u64 e.p.q) ∧ w.cell? ⟨b, o + 2, none⟩ = some (.int .u64 e.p.t) ∧ w.cell? ⟨b, o + 3, none⟩ = some (.string e.p.d) ∧ w.cell? ⟨b, o + 4, none⟩ = some (.int .i64 e.s)
theorem EnC.below {w w' : World} {B b o : Nat} {e : EnV} (h : EnC w b o e) (hb : Below B w w') (hB : b < B) : EnC w' b o e :=
  ⟨(hb.cell (p := ⟨b, o, none⟩) hB).trans h.1, (hb.cell (p := ⟨b, o + 1, none⟩) hB).trans h.2.1, (hb.cell (p := ⟨b, o + 2, none⟩) hB).trans h.2.2.1, (hb.cell (p := ⟨b, o + 3, none⟩) hB).trans h.2.2.2.1, (hb.cell (p := ⟨b, o + 4, none⟩) hB).trans h.2.2.2.2⟩
theorem en_at {w : World} {A : Option Addr} {l : List EnV} (h : enE.At w A l) {i : Nat} (hi : i < l.length) : ∃ b off, A = some ⟨b, off, none⟩ ∧ b < w.heap.size ∧ EnC w b (off + i * 5) l[i] := by
  obtain ⟨b, off, e, h1, h2⟩ := en_cells h hi
  exact ⟨b, off, e, h1, h2⟩
/-- a slice of entries, handed back -/
def RowPost {α : Type} (t : TypeId) (E : Kq.Elt α) (w : World) (l : List α) (x : Ending) (w' : World) : Prop :=
  ∃ v, x = .returned v ∧ w'.ownsRow w.heap.size t E.n v l.length (E.flat l) ∧ Below w.heap.size w w'
theorem own_belowE {w w' : World} {base size : Nat} {e : TypeId} {v : Value} {n : Nat} {xs : List Value} (h : w.ownsRow base e size v n xs) (hb : Below w.heap.size w w') : w'.ownsRow base e size v n xs := by
  rcases h.2 with ⟨rfl, h0⟩ | ⟨g, cap, cur, rfl, h3, h4, r⟩
  · exact ⟨h.1, Or.inl ⟨rfl, h0⟩⟩
  · exact ⟨h.1, Or.inr ⟨g, cap, cur, rfl, h3, Kq.below_blk hb h4 (Kq.blk_lt h4), r⟩⟩
theorem own_geE {w : World} {base size : Nat} {e : TypeId} {v : Value} {n : Nat} {xs : List Value} (h : w.ownsRow base e size v n xs) {k : Nat} (hk : v.ownBlock = some k) : base ≤ k := by
  rcases h.2 with ⟨rfl, _⟩ | ⟨g, cap, cur, rfl, h3, _⟩
  · cases hk
  · have : g = k := by simpa [Value.ownBlock] using hk
    omega
theorem grown_belowE {w1 w2 : World} {base size : Nat} {e : TypeId} {v : Value} {n : Nat} {xs : List Value} (h : w1.ownsRow base e size v n xs) (hg : w1.grownBy w2 v.ownBlock) (hb : base ≤ w1.heap.size) : Below base w1 w2 :=
  (Kq.Keeps.grown (S := fun k => base ≤ k) hg (fun k _ hk => own_geE h hk)).below hb (fun k _ hk => hk)
set_option maxRecDepth 100000 in
set_option maxHeartbeats 4000000 in
theorem lw_turned (A : Option Addr) (cap : Nat) (l : List EnV) (w : World) (hl : l.length ≤ 60) (hA : enE.At w A l) :
    Calls Tryd.prog 7 #[.slice A l.length cap] w (RowPost 40 enE w l) := by
  obtain ⟨i0, hi0, hz0, hz1, hz2⟩ := info_zsb infoEn
  have HA := Lib.hid hA
  have HL := Lib.hid hl
  clear hA hl
  go_enter Tryd.func7, Tryd.ntmps7
  go_wp2
  go_loopw [3, 4] (fun v i wr => ∃ j : Nat, j ≤ l.length ∧ i = .int .i64 (j : Int) ∧ wr.ownsRow w.heap.size 40 5 v j (enE.flat (l.take j)) ∧ Below w.heap.size w wr) (fun _ i _ => l.length - (intOf i).toNat)
  case atStart => exact ⟨0, Nat.zero_le _, rfl, World.ownsRow_nil _ _ _ _, Below.refl _ _⟩
  case round =>
    obtain ⟨j, hj, rfl, hown, hbl⟩ := hrel
    have HO := Lib.hid (And.intro hown hbl)
    by_cases hlt : j < l.length
    · have hi0' : (j : Int) < (l.length : Int) := by omega
      obtain ⟨b, off, rfl, hb, hc⟩ := en_at HA.out hlt
      obtain ⟨e, he⟩ : ∃ e, e = l[j] := ⟨_, rfl⟩
      rw [← he] at hc
      have HE := Lib.hid (And.intro he hb)
      have HLT := Lib.hid hlt
      obtain ⟨a', n', c', rfl⟩ := Kq.own_shape hown
      have hj60 : j ≤ 60 := by have := HL.out; omega
      have HC : Hid (EnC wr.drew b (off + j * 5) e) := Lib.hid (hc.below hbl.drew hb)
      have HW : Hid (Below w.heap.size w wr.drew ∧ wr.drew.ownsRow w.heap.size 40 5 (.slice a' n' c') j (enE.flat (l.take j))) := Lib.hid ⟨hbl.drew, hown⟩
      clear hown hbl hb hc he
      go_wp2
      refine wp_region_held_drew (S := fun w' => EnC w' b (off + j * 5) e) (by kernel_rfl) HC.out (fun hS0 => ?_)
      generalize wr.drew = wd at *
      unfold EnC at hS0
      dsimp only [EnC]
      refine wpAnyH_take (i := 0) (v := ?_) rfl (by kernel_rfl) (by kernel_rfl) (by kernel_rfl) (fun _ _ _ h => h) (Or.inl ⟨by kernel_rfl, ?_⟩) (by assumption) ?_
      rotate_left
      · intro w hSw; (try dsimp only at hSw); go_simp; (try with_reducible rfl)
      refine wpAnyH_take (i := 1) (v := ?_) rfl (by kernel_rfl) (by kernel_rfl) (by kernel_rfl) (fun _ _ _ h => h) (Or.inl ⟨by kernel_rfl, ?_⟩) (by assumption) ?_
      rotate_left
      · intro w hSw; (try dsimp only at hSw); go_simp; (try with_reducible rfl)
      refine wpAnyH_take (i := 2) (v := ?_) rfl (by kernel_rfl) (by kernel_rfl) (by kernel_rfl) (fun _ _ _ h => h) (Or.inl ⟨by kernel_rfl, ?_⟩) (by assumption) ?_
      rotate_left
      · intro w hSw; (try dsimp only at hSw); go_simp; (try with_reducible rfl)
      refine wpAnyH_take (i := 3) (v := ?_) rfl (by kernel_rfl) (by kernel_rfl) (by kernel_rfl) (fun _ _ _ h => h) (Or.inl ⟨by kernel_rfl, ?_⟩) (by assumption) ?_
      rotate_left
      · intro w hSw; (try dsimp only at hSw); go_simp; (try with_reducible rfl)
      refine wpAnyH_take (i := 4) (v := ?_) rfl (by kernel_rfl) (by kernel_rfl) (by kernel_rfl) (fun _ _ _ h => h) (Or.inl ⟨by kernel_rfl, ?_⟩) (by assumption) ?_
      rotate_left
      · intro w hSw; (try dsimp only at hSw); go_simp; (try with_reducible rfl)
      refine wpAnyH_take (i := 6) (v := ?_) rfl (by kernel_rfl) (by kernel_rfl) (by kernel_rfl) (fun _ _ _ h => h) (Or.inl ⟨by kernel_rfl, ?_⟩) (by assumption) ?_
      rotate_left
      · intro w hSw; (try dsimp only at hSw); go_simp; (try with_reducible rfl)
      refine wpAnyH_take (i := 7) (v := ?_) rfl (by kernel_rfl) (by kernel_rfl) (by kernel_rfl) (fun _ _ _ h => h) (Or.inl ⟨by kernel_rfl, ?_⟩) (by assumption) ?_
      rotate_left
      · intro w hSw; (try dsimp only at hSw); go_simp; (try with_reducible rfl)
      refine wpAnyH_take (i := 8) (v := ?_) rfl (by kernel_rfl) (by kernel_rfl) (by kernel_rfl) (fun _ _ _ h => h) (Or.inl ⟨by kernel_rfl, ?_⟩) (by assumption) ?_
      rotate_left
      · intro w hSw; (try dsimp only at hSw); go_simp; (try with_reducible rfl)
      refine wpAnyH_take (i := 9) (v := ?_) rfl (by kernel_rfl) (by kernel_rfl) (by kernel_rfl) (fun _ _ _ h => h) (Or.inl ⟨by kernel_rfl, ?_⟩) (by assumption) ?_
      rotate_left
      · intro w hSw; (try dsimp only at hSw); go_simp; (try with_reducible rfl)
      refine wpAnyH_take (i := 5) (v := ?_) rfl (by kernel_rfl) (by kernel_rfl) (by kernel_rfl) (fun _ _ _ h => h) (Or.inl ⟨by kernel_rfl, ?_⟩) (by assumption) ?_
      rotate_left
      · intro w hSw; (try dsimp only at hSw); go_simp; (try with_reducible rfl)
      refine wpAnyH_take (i := 10) (v := ?_) rfl (by kernel_rfl) (by kernel_rfl) (by kernel_rfl) (fun _ _ _ h => h) (Or.inl ⟨by kernel_rfl, ?_⟩) (by assumption) ?_
      rotate_left
      · intro w hSw; (try dsimp only at hSw); go_simp; (try with_reducible rfl)
      refine wpAnyH_take (i := 11) (v := ?_) rfl (by kernel_rfl) (by kernel_rfl) (by kernel_rfl) (fun _ _ _ h => h) (Or.inl ⟨by kernel_rfl, ?_⟩) (by assumption) ?_
      rotate_left
      · intro w hSw; (try dsimp only at hSw); go_simp; (try with_reducible rfl)
      refine wpAnyH_ready (rs := [12]) (by kernel_rfl) (by simp) ?_
      refine AllReadyH.cons rfl (fun K hK => ?_) AllReadyH.nil
      go_simp
      obtain ⟨z1, hz⟩ : ∃ z, z = wd.alloc (.cells #[.int .i64 e.p.f, .int .u64 e.p.q, .int .u64 e.p.t, .string e.p.d, .int .i64 e.s] 40) := ⟨_, rfl⟩
      obtain ⟨zb, hzb⟩ : ∃ z, z = wd.heap.size := ⟨_, rfl⟩
      have hbz : Below wd.heap.size wd z1 := by rw [hz]; exact Kq.below_alloc _ _
      have HD1 : Hid (EnC z1 b (off + j * 5) e ∧ z1.ownsRow w.heap.size 40 5 (.slice a' n' c') j (enE.flat (l.take j)) ∧ Below w.heap.size w z1 ∧ enE.At z1 (some ⟨zb, 0, none⟩) [e]) := Lib.hid ⟨HC.out.below hbz (Nat.lt_of_lt_of_le HE.out.2 HW.out.1.size), own_belowE HW.out.2 hbz, HW.out.1.trans (hbz.mono HW.out.1.size), by rw [hz, hzb]; exact Kq.Elt.made_one (E := enE) e wd 40⟩
      rw [← hz, ← hzb]
      clear hbz hz hzb hS0 HC HW
      refine hK.out _ _ HD1.out.1 (fun hS0 => ?_)
      clear hK K
      refine wpAnyH_ready (rs := [13]) (by kernel_rfl) (by simp) ?_
      refine AllReadyH.cons rfl (fun K hK => ?_) AllReadyH.nil
      rw [if_pos (by kernel_rfl)]
      refine Kq.wp_append_any _ (.tmp 11) (.tmp 23) 24 24 rfl w.heap.size 40 i0 (.agg #[.int .i64 0, .int .u64 0, .int .u64 0, .string ⟨#[]⟩, .int .i64 0]) 5 48 Tryd.underlying24 hi0 hz0 hz1 hz2 rfl (by decide) (.slice a' n' c') j (enE.flat (l.take j)) (by kernel_rfl) HD1.out.2.1 (.slice (some ⟨zb, 0, none⟩) 1 1) 1 (enE.flat [e]) (by kernel_rfl) (HD1.out.2.2.2.src Tryd.underlying24 1) ?e1 ?e2 HD1.out.2.2.1.size ?_
      case e1 => unfold maxLen; omega
      case e2 => omega
      intro v' z2 hown2 hgrow hfresh
      obtain ⟨a2, n2, c2, rfl⟩ := Kq.own_shape hown2
      have hbg := grown_belowE HD1.out.2.1 hgrow HD1.out.2.2.1.size
      have HD2 : Hid (EnC z2 b (off + j * 5) e ∧ z2.ownsRow w.heap.size 40 5 (.slice a2 n2 c2) (j + 1) (enE.flat (l.take (j + 1))) ∧ Below w.heap.size w z2) := Lib.hid ⟨HD1.out.1.below hbg HE.out.2, by rw [take_succ_snoc l j HLT.out, ← HE.out.1, enE.flat_append]; exact hown2, HD1.out.2.2.1.trans hbg⟩
      clear hown2 hgrow hfresh hbg HD1 hS0
      refine hK.out _ _ HD2.out.1 (fun hS0 => ?_)
      clear hK K
      refine wpAnyH_take (i := 14) (v := ?_) rfl (by kernel_rfl) (by kernel_rfl) (by kernel_rfl) (fun _ _ _ h => h) (Or.inl ⟨by kernel_rfl, ?_⟩) (by assumption) ?_
      rotate_left
      · intro w hSw; (try dsimp only at hSw); go_simp; (try with_reducible rfl)
      refine wpAnyH_done (by kernel_rfl) ?_ _
      clear hS0
      go_simp
      go_wp2
      go_roundw
      case rel => exact ⟨j + 1, HLT.out, by go_num, HD2.out.2⟩
      case measure => have := HLT.out; simp [intOf]; omega
    · obtain rfl : j = l.length := by omega
      have HR : Hid (RowPost 40 enE w l (.returned u3) wr) := Lib.hid ⟨u3, rfl, by have h := HO.out.1; rw [List.take_length] at h; exact h, HO.out.2⟩
      clear hown hbl hlt
      go_wp2
      go_ret
      exact HR.out
end Go.Proofs.YtlbeaknegfnpkaaDoor
