/- Contract of the reference's net: Send. Condition: sizes. -/
import Derived.WalkSpells
import Derived.Outline
import Derived.Deep.QuietTactic
import Derived.Test.YtahijpfmpdjceaaNtRefM
namespace Go.Proofs.Ytahijpfmpdjceaa
open Go.RowKit
set_option linter.unusedVariables false
/-- what the steps of such a region leave: nothing that was there is changed -/
def Mid (w cur : World) : Prop := Kq.Keeps (fun j => w.heap.size ≤ j) w cur
theorem Mid.below {w cur : World} (h : Mid w cur) : Below w.heap.size w cur := Kq.Keeps.below h (Nat.le_refl _) (fun k _ hk => hk)
theorem Mid.alloc {w cur : World} (h : Mid w cur) (o : Obj) : Mid w (cur.alloc o) := Kq.Keeps.trans h (Kq.Keeps.alloc _ _ _)
theorem Mid.grown {w cur nxt : World} {row : Option Nat} (h : Mid w cur) (hg : cur.grownBy nxt row) (hr : ∀ j, row = some j → w.heap.size ≤ j) : Mid w nxt := Kq.Keeps.trans h (Kq.Keeps.grown hg (fun j _ hj => hr j hj))
theorem MsAt.grown {cur nxt : World} {row : Option Nat} {ms : List MsgV} {c : Nat} (h : MsAt cur (some ⟨c, 0, none⟩) ms) (hg : cur.grownBy nxt row) (hne : row ≠ some c) : MsAt nxt (some ⟨c, 0, none⟩) ms :=
  h.keeps (P := fun j => row = some j) (Kq.Keeps.grown hg (fun j _ hj => hj)) (fun g o e hr => by
    injection e with e
    injection e with e1 e2
    subst e1
    exact hne hr)
theorem MsAt.one_lt {cur : World} {m : MsgV} {c : Nat} (h : MsAt cur (some ⟨c, 0, none⟩) [m]) : c < cur.heap.size := by
  obtain ⟨g, o, e, hg, _⟩ := h 0 (by simp)
  injection e with e
  injection e with e1 e2
  subst e1
  exact hg
set_option maxRecDepth 100000 in
set_option maxHeartbeats 4000000 in
theorem rt_send (base R : Nat) (v : Value) (ms : List MsgV) (A : Option Addr) (c : Nat) (l : List MsgV) (w : World) (h : RtS w base R v ms) (hm : ms.length ≤ 256) (hl : l.length ≤ 1000000) (hlc : l.length ≤ c) (ha : MsAt w A l) (hAR : 0 < l.length → ∀ g o, A = some ⟨g, o, none⟩ → g ≠ R) :
    Calls Try.prog 11 #[.pointer (some ⟨R, 0, none⟩), .slice A l.length c] w fun e w' => e = .returned (.int .i64 (sendN l.length ms.length : Int)) ∧ RtP w base R v (ms ++ l.take (sendN l.length ms.length)) w' := by
  obtain ⟨i0, hi, hz0, hz1, hz2⟩ := info_parts infoMsg
  obtain ⟨s, hs⟩ : ∃ s, s = sendN l.length ms.length := ⟨_, rfl⟩
  rw [← hs]
  have hsl : s ≤ l.length := by rw [hs]; exact Nat.min_le_left _ _
  have hs6 : ms.length + s ≤ 256 := by rw [hs]; unfold sendN; omega
  have hse : s = l.length ∨ ms.length + s = 256 := by rw [hs]; unfold sendN; omega
  have HS := Lib.hid (And.intro hsl (And.intro hs6 (And.intro hse hl)))
  have HA := Lib.hid (And.intro ha (And.intro hAR hlc))
  have H := Lib.hid h
  have s256 : s ≤ 256 := by omega
  clear hs hsl hs6 hse hl ha hAR hlc h hm
  go_enter Try.func11, Try.ntmps11
  go_wp2
  go_loopw [5] (fun i wr => ∃ k : Nat, ∃ v' : Value, k ≤ s ∧ i = .int .i64 (k : Int) ∧ RtS wr base R v' (ms ++ l.take k) ∧ Kq.Keeps (· = R) w wr ∧ (∀ j, v'.ownBlock = some j → v.ownBlock = some j ∨ w.heap.size ≤ j)) (fun i _ => s - (intOf i).toNat)
  case atStart => exact ⟨0, v, Nat.zero_le _, rfl, by rw [List.take_zero, List.append_nil]; exact H.out, Kq.Keeps.refl _ _, fun j hj => Or.inl hj⟩
  case round =>
    obtain ⟨k, v', hk, rfl, hr, hkp, hown'⟩ := hrel
    have HR := Lib.hid (And.intro hr (And.intro hkp hown'))
    have HK := Lib.hid hk
    have hat : MsAt wr A l := by
      rcases Nat.eq_zero_or_pos l.length with hz | hz
      · exact fun j hj => absurd hj (by omega)
      · exact HA.out.1.keeps hkp (fun g o e => HA.out.2.1 hz g o e)
    have hnl : (ms ++ l.take k).length = ms.length + k := by have := HS.out.1; rw [List.length_append, List.length_take]; omega
    obtain ⟨LA, lcap, hv', hLc, hL0, hLat⟩ := hr.at
    obtain ⟨n, hn⟩ : ∃ n, n = (ms ++ l.take k).length := ⟨_, rfl⟩
    rw [← hn] at hv'
    have c0 := hr.c0
    rw [hv'] at c0
    have f0 := hr.fz 0
    by_cases hks : k < s
    · have l1 : (k : Int) < (l.length : Int) := by have := HS.out.1; omega
      have l2 : (n : Int) < 256 := by have := HS.out.2.1; omega
      have l3 : n < 256 := by omega
      have hkl : k < l.length := by have := HS.out.1; omega
      obtain ⟨g, o, rfl, hg, hc⟩ := hat k hkl
      have HKS := Lib.hid hks
      have htk : l.take (k + 1) = l.take k ++ [l[k]] := List.take_succ_eq_append_getElem hkl
      have HTK : Hid (ms ++ l.take (k + 1) = (ms ++ l.take k) ++ [l[k]]) := Lib.hid (by rw [htk, List.append_assoc])
      generalize ms ++ l.take k = qs at *
      generalize l[k] = m at *
      have HLEN : Hid (n ≤ 256 ∧ n = qs.length) := Lib.hid ⟨by omega, hn⟩
      have HLA := Lib.hid (And.intro hLat (And.intro hL0 hLc))
      clear hn hnl hLat hL0 hLc htk hks hk
      go_wp2
      obtain ⟨wd, hwd⟩ : ∃ z, z = wr.drew := ⟨_, rfl⟩
      have HMwd : Hid (Mid wd wd) := Lib.hid (Kq.Keeps.refl _ _)
      have hwb : Below wr.heap.size wr wd := by rw [hwd]; exact (Below.refl _ _).drew
      have HWD := Lib.hid hwb
      have SH : ∀ cur : World, Below wd.heap.size wd cur → (cur.cell? ⟨R, 0, none⟩ = some (.slice LA n lcap) ∧ cur.cell? ⟨g, o + k * 8, none⟩ = some (.int .i64 m.kind) ∧ cur.cell? ⟨g, o + k * 8 + 1, none⟩ = some (.int .i64 m.to) ∧ cur.cell? ⟨g, o + k * 8 + 2, none⟩ = some (.int .u64 m.ht) ∧ cur.cell? ⟨g, o + k * 8 + 3, none⟩ = some (.int .i64 m.fr) ∧ cur.cell? ⟨g, o + k * 8 + 4, none⟩ = some (.int .u64 m.sq) ∧ cur.cell? ⟨g, o + k * 8 + 5, none⟩ = some (.int .u64 m.tm) ∧ cur.cell? ⟨g, o + k * 8 + 6, none⟩ = some (.string m.d) ∧ cur.cell? ⟨g, o + k * 8 + 7, none⟩ = some (.string m.p)) := fun cur hb => by
        have hb2 := hwb.trans (hb.mono hwb.size)
        have hR : R < wr.heap.size := Kq.blk_lt HR.out.1.blk
        have q := fun i (hi : i < 8) => (hb2.cell (p := ⟨g, o + k * 8 + i, none⟩) hg).trans (hc i hi)
        refine ⟨(hb2.cell (p := ⟨R, 0, none⟩) hR).trans c0, q 0 (by omega), q 1 (by omega), q 2 (by omega), q 3 (by omega), q 4 (by omega), q 5 (by omega), q 6 (by omega), q 7 (by omega)⟩
      have hS := SH wd (Below.refl _ _)
      refine Kq.wp_region_T 15 (fun cur => cur.cell? ⟨R, 0, none⟩ = some (.slice LA n lcap) ∧ cur.cell? ⟨g, o + k * 8, none⟩ = some (.int .i64 m.kind) ∧ cur.cell? ⟨g, o + k * 8 + 1, none⟩ = some (.int .i64 m.to) ∧ cur.cell? ⟨g, o + k * 8 + 2, none⟩ = some (.int .u64 m.ht) ∧ cur.cell? ⟨g, o + k * 8 + 3, none⟩ = some (.int .i64 m.fr) ∧ cur.cell? ⟨g, o + k * 8 + 4, none⟩ = some (.int .u64 m.sq) ∧ cur.cell? ⟨g, o + k * 8 + 5, none⟩ = some (.int .u64 m.tm) ∧ cur.cell? ⟨g, o + k * 8 + 6, none⟩ = some (.string m.d) ∧ cur.cell? ⟨g, o + k * 8 + 7, none⟩ = some (.string m.p)) (by kernel_rfl) (by rw [← hwd]; exact hS) (fun hS0 => ?_)
      rw [← hwd] at hS0 ⊢
      clear hwd hwb hS c0 f0 hc hat hr hkp hown'
      refine Kq.wpAnyT_take (i := 0) (v := ?_) rfl rfl (by kernel_rfl) (by kernel_rfl) (by kernel_rfl) (by kernel_rfl) (fun _ _ _ h => h) (Or.inl ⟨by kernel_rfl, ?_⟩) (by assumption) ?_
      rotate_left
      · intro w hSw; (try dsimp only at hSw); go_simp; (try with_reducible rfl)
      refine Kq.wpAnyT_take (i := 2) (v := ?_) rfl rfl (by kernel_rfl) (by kernel_rfl) (by kernel_rfl) (by kernel_rfl) (fun _ _ _ h => h) (Or.inl ⟨by kernel_rfl, ?_⟩) (by assumption) ?_
      rotate_left
      · intro w hSw; (try dsimp only at hSw); go_simp; (try with_reducible rfl)
      refine Kq.wpAnyT_take (i := 3) (v := ?_) rfl rfl (by kernel_rfl) (by kernel_rfl) (by kernel_rfl) (by kernel_rfl) (fun _ _ _ h => h) (Or.inl ⟨by kernel_rfl, ?_⟩) (by assumption) ?_
      rotate_left
      · intro w hSw; (try dsimp only at hSw); go_simp; (try with_reducible rfl)
      refine Kq.wpAnyT_take (i := 4) (v := ?_) rfl rfl (by kernel_rfl) (by kernel_rfl) (by kernel_rfl) (by kernel_rfl) (fun _ _ _ h => h) (Or.inl ⟨by kernel_rfl, ?_⟩) (by assumption) ?_
      rotate_left
      · intro w hSw; (try dsimp only at hSw); go_simp; (try with_reducible rfl)
      refine Kq.wpAnyT_take (i := 5) (v := ?_) rfl rfl (by kernel_rfl) (by kernel_rfl) (by kernel_rfl) (by kernel_rfl) (fun _ _ _ h => h) (Or.inl ⟨by kernel_rfl, ?_⟩) (by assumption) ?_
      rotate_left
      · intro w hSw; (try dsimp only at hSw); go_simp; (try with_reducible rfl)
      refine Kq.wpAnyT_take (i := 7) (v := ?_) rfl rfl (by kernel_rfl) (by kernel_rfl) (by kernel_rfl) (by kernel_rfl) (fun _ _ _ h => h) (Or.inl ⟨by kernel_rfl, ?_⟩) (by assumption) ?_
      rotate_left
      · intro w hSw; (try dsimp only at hSw); go_simp; (try with_reducible rfl)
      refine Kq.wpAnyT_take (i := 8) (v := ?_) rfl rfl (by kernel_rfl) (by kernel_rfl) (by kernel_rfl) (by kernel_rfl) (fun _ _ _ h => h) (Or.inl ⟨by kernel_rfl, ?_⟩) (by assumption) ?_
      rotate_left
      · intro w hSw; (try dsimp only at hSw); go_simp; (try with_reducible rfl)
      refine Kq.wpAnyT_take (i := 9) (v := ?_) rfl rfl (by kernel_rfl) (by kernel_rfl) (by kernel_rfl) (by kernel_rfl) (fun _ _ _ h => h) (Or.inl ⟨by kernel_rfl, ?_⟩) (by assumption) ?_
      rotate_left
      · intro w hSw; (try dsimp only at hSw); go_simp; (try with_reducible rfl)
      refine Kq.wpAnyT_take (i := 10) (v := ?_) rfl rfl (by kernel_rfl) (by kernel_rfl) (by kernel_rfl) (by kernel_rfl) (fun _ _ _ h => h) (Or.inl ⟨by kernel_rfl, ?_⟩) (by assumption) ?_
      rotate_left
      · intro w hSw; (try dsimp only at hSw); go_simp; (try with_reducible rfl)
      refine Kq.wpAnyT_two (i := 1) (j := 11) (by kernel_rfl) rfl rfl (fun K hK => ?g1) (fun K hK => ?g11)
      case g1 =>
        go_simp
        obtain ⟨wa, hw⟩ : ∃ z, z = wd.alloc (.cells #[] 39) := ⟨_, rfl⟩
        (try rw [← hw])
        have HMwa : Hid (Mid wd wa) := Lib.hid (by rw [hw]; exact HMwd.out.alloc _)
        obtain ⟨zb, hzb⟩ : ∃ z, z = wd.heap.size := ⟨_, rfl⟩
        have HRow : Hid (wa.ownsRow wd.heap.size 39 8 (.slice (some ⟨zb, 0, none⟩) 0 0) 0 []) := Lib.hid (by rw [hw, hzb]; exact World.ownsRow_made wd #[] 0 HMwd.out.size (Nat.zero_le _) rfl)
        have HZB : Hid (wd.heap.size ≤ zb) := Lib.hid (by rw [hzb]; exact HMwd.out.size)
        rw [← hzb]
        clear hw hzb
        refine hK.out _ _ (SH wa HMwa.out.below) (fun hS1 => ?_)
        clear hK K hS0
        have hS0 := hS1
        clear hS1
        refine Kq.wpAnyT_two (i := 6) (j := 11) (by kernel_rfl) rfl rfl (fun K hK => ?g6x2) (fun K hK => ?g11x2)
        case g6x2 =>
          rw [if_pos (by rfl)]
          refine Kq.wp_append_any _ (.tmp 19) (.tmp 23) 28 28 rfl wd.heap.size 39 i0 (.agg #[.int .i64 0, .int .i64 0, .int .u64 0, .int .i64 0, .int .u64 0, .int .u64 0, .string ⟨#[]⟩, .string ⟨#[]⟩]) 8 80 Try.underlying28 hi hz0 hz1 hz2 rfl (by decide) (.slice (some ⟨zb, 0, none⟩) 0 0) 0 [] rfl HRow.out (.slice LA n lcap) n (mcells qs) rfl (by have h := (HLA.out.1.below (HWD.out.trans (HMwa.out.below.mono HWD.out.size))).src n lcap (by have := HLEN.out.2; omega) (fun e => by have := HLA.out.2.1 e; have := HLEN.out.2; omega); rw [HLEN.out.2, List.take_length] at h; rw [HLEN.out.2]; exact h) ?e1 ?e2 HMwa.out.size ?_
          case e1 => have := HLEN.out; unfold maxLen; omega
          case e2 => have := HLEN.out; omega
          intro v1 wb hown hgrow hfresh
          rw [Nat.zero_add, List.nil_append] at hown
          have HMwb : Hid (Mid wd wb) := Lib.hid (HMwa.out.grown hgrow (fun j hj => by have := HZB.out; simp [Value.ownBlock] at hj; omega))
          have HRow := Lib.hid hown
          clear hown hgrow hfresh
          refine hK.out _ _ (SH wb HMwb.out.below) (fun hS1 => ?_)
          clear hK K hS0
          have hS0 := hS1
          clear hS1
          refine Kq.wpAnyT_one (i := 11) (by kernel_rfl) rfl (fun K hK => ?_)

          go_simp
          obtain ⟨wc, hw⟩ : ∃ z, z = wb.alloc (.cells #[.int .i64 m.kind, .int .i64 m.to, .int .u64 m.ht, .int .i64 m.fr, .int .u64 m.sq, .int .u64 m.tm, .string m.d, .string m.p] 39) := ⟨_, rfl⟩
          (try rw [← hw])
          have HMwc : Hid (Mid wd wc) := Lib.hid (by rw [hw]; exact HMwb.out.alloc _)
          obtain ⟨cb, hcb⟩ : ∃ z, z = wb.heap.size := ⟨_, rfl⟩
          have HOne : Hid (MsAt wc (some ⟨cb, 0, none⟩) [m]) := Lib.hid (by rw [hw, hcb]; exact made_one _ m _)
          have HRow : Hid (wc.ownsRow wd.heap.size 39 8 v1 n (mcells qs)) := Lib.hid (by rw [hw]; exact HRow.out.alloc _)
          rw [← hcb]
          clear hw hcb
          refine hK.out _ _ (SH wc HMwc.out.below) (fun hS1 => ?_)
          clear hK K hS0
          have hS0 := hS1
          clear hS1

          refine Kq.wpAnyT_one (i := 12) (by kernel_rfl) rfl (fun K hK => ?_)
          rw [if_pos (by rfl)]
          refine Kq.wp_append_any _ (.tmp 24) (.tmp 29) 28 28 rfl wd.heap.size 39 i0 (.agg #[.int .i64 0, .int .i64 0, .int .u64 0, .int .i64 0, .int .u64 0, .int .u64 0, .string ⟨#[]⟩, .string ⟨#[]⟩]) 8 80 Try.underlying28 hi hz0 hz1 hz2 rfl (by decide) v1 n (mcells qs) rfl HRow.out (.slice (some ⟨cb, 0, none⟩) 1 1) 1 (mcells [m]) rfl (HOne.out.src 1 1 (Nat.le_refl _) (fun e => by cases e)) ?e1 ?e2 HMwc.out.size ?_
          case e1 => have := HLEN.out; unfold maxLen; omega
          case e2 => have := HLEN.out; omega
          intro v2 wf hown hgrow hfresh
          rw [← mcells_append] at hown
          have HMf : Hid (Mid wd wf) := Lib.hid (HMwc.out.grown hgrow (fun j hj => (HRow.out.lt j hj).1))
          have HRow2 := Lib.hid hown
          obtain ⟨a', n', cap', hv2⟩ := Kq.own_shape hown
          clear hown hgrow hfresh
          refine hK.out _ _ (SH wf HMf.out.below) (fun hS1 => ?_)
          clear hK K hS0
          have hS0 := hS1
          clear hS1
          refine Kq.wpAnyT_one (i := 13) (by kernel_rfl) rfl (fun K hK => ?_)
          go_simp
          refine hK.out _ _ (SH wf HMf.out.below) (fun hS1 => ?_)
          clear hK K hS0
          have hS0 := hS1
          clear hS1
          refine Kq.wpAnyT_take (i := 14) (v := ?_) rfl rfl (by kernel_rfl) (by kernel_rfl) (by kernel_rfl) (by kernel_rfl) (fun _ _ _ h => h) (Or.inl ⟨by kernel_rfl, ?_⟩) (by assumption) ?_
          rotate_left
          · intro w hSw; (try dsimp only at hSw); go_simp; (try with_reducible rfl)
          have f1 : wf.frozen? ⟨R, 0, none⟩ = false := by
            have hb := HMf.out.below
            exact (HR.out.1.below (HWD.out.trans (hb.mono HWD.out.size))).fz 0
          (try rw [hv2])
          refine Kq.wpAnyT_last (by kernel_rfl) rfl (fun K hK => ?_)
          go_simp
          refine hK.out _ _ ?_
          clear hK K
          refine Kq.wpAnyT_done (by kernel_rfl) ?_ _
          have HP : Hid (RtP wr base R v' (qs ++ [m]) (wf.setCell ⟨R, 0, none⟩ (.slice a' n' cap'))) := by
            have hb := HMf.out.below
            have h1 := HR.out.1.below HWD.out
            obtain ⟨v3, r1, r2, r3⟩ := rt_close (v' := .slice a' n' cap') (ms' := qs ++ [m]) (n := n + 1) h1 hb (by have := HLEN.out.2; rw [List.length_append, List.length_singleton]; omega) (by rw [← hv2]; exact HRow2.out)
            exact Lib.hid ⟨v3, r1, (Kq.Keeps.of_below HWD.out (fun j h1 h2 => absurd h2 (Nat.not_lt.2 h1))).trans r2, fun j hj => (r3 j hj).imp id (Nat.le_trans HWD.out.size)⟩
          clear hS0 f1 hv2
          have hks := HKS.out
          go_wp2
          go_roundw
          case rel =>
            obtain ⟨v3, r1, r2, r3⟩ := HP.out
            refine ⟨k + 1, v3, by omega, by go_num, by rw [HTK.out]; exact r1, HR.out.2.1.trans r2, fun j hj => ?_⟩
            rcases r3 j hj with h | h
            · exact HR.out.2.2 j h
            · exact Or.inr (Nat.le_trans HR.out.2.1.size h)
          case measure => simp [intOf]; omega
        case g11x2 =>
          go_simp
          obtain ⟨wb, hw⟩ : ∃ z, z = wa.alloc (.cells #[.int .i64 m.kind, .int .i64 m.to, .int .u64 m.ht, .int .i64 m.fr, .int .u64 m.sq, .int .u64 m.tm, .string m.d, .string m.p] 39) := ⟨_, rfl⟩
          (try rw [← hw])
          have HMwb : Hid (Mid wd wb) := Lib.hid (by rw [hw]; exact HMwa.out.alloc _)
          obtain ⟨cb, hcb⟩ : ∃ z, z = wa.heap.size := ⟨_, rfl⟩
          have HOne : Hid (MsAt wb (some ⟨cb, 0, none⟩) [m]) := Lib.hid (by rw [hw, hcb]; exact made_one _ m _)
          have HCZ : Hid (cb ≠ zb) := Lib.hid (by have := (HRow.out.lt zb rfl).2; omega)
          have HRow : Hid (wb.ownsRow wd.heap.size 39 8 (.slice (some ⟨zb, 0, none⟩) 0 0) 0 []) := Lib.hid (by rw [hw]; exact HRow.out.alloc _)
          rw [← hcb]
          clear hw hcb
          refine hK.out _ _ (SH wb HMwb.out.below) (fun hS1 => ?_)
          clear hK K hS0
          have hS0 := hS1
          clear hS1
          refine Kq.wpAnyT_one (i := 6) (by kernel_rfl) rfl (fun K hK => ?_)

          rw [if_pos (by rfl)]
          refine Kq.wp_append_any _ (.tmp 19) (.tmp 23) 28 28 rfl wd.heap.size 39 i0 (.agg #[.int .i64 0, .int .i64 0, .int .u64 0, .int .i64 0, .int .u64 0, .int .u64 0, .string ⟨#[]⟩, .string ⟨#[]⟩]) 8 80 Try.underlying28 hi hz0 hz1 hz2 rfl (by decide) (.slice (some ⟨zb, 0, none⟩) 0 0) 0 [] rfl HRow.out (.slice LA n lcap) n (mcells qs) rfl (by have h := (HLA.out.1.below (HWD.out.trans (HMwb.out.below.mono HWD.out.size))).src n lcap (by have := HLEN.out.2; omega) (fun e => by have := HLA.out.2.1 e; have := HLEN.out.2; omega); rw [HLEN.out.2, List.take_length] at h; rw [HLEN.out.2]; exact h) ?e1 ?e2 HMwb.out.size ?_
          case e1 => have := HLEN.out; unfold maxLen; omega
          case e2 => have := HLEN.out; omega
          intro v1 wc hown hgrow hfresh
          rw [Nat.zero_add, List.nil_append] at hown
          have HMwc : Hid (Mid wd wc) := Lib.hid (HMwb.out.grown hgrow (fun j hj => by have := HZB.out; simp [Value.ownBlock] at hj; omega))
          have HRow := Lib.hid hown
          have HOne : Hid (MsAt wc (some ⟨cb, 0, none⟩) [m]) := Lib.hid (HOne.out.grown hgrow (fun e => by have := HCZ.out; simp [Value.ownBlock] at e; omega))
          clear hown hgrow hfresh
          refine hK.out _ _ (SH wc HMwc.out.below) (fun hS1 => ?_)
          clear hK K hS0
          have hS0 := hS1
          clear hS1

          refine Kq.wpAnyT_one (i := 12) (by kernel_rfl) rfl (fun K hK => ?_)
          rw [if_pos (by rfl)]
          refine Kq.wp_append_any _ (.tmp 24) (.tmp 29) 28 28 rfl wd.heap.size 39 i0 (.agg #[.int .i64 0, .int .i64 0, .int .u64 0, .int .i64 0, .int .u64 0, .int .u64 0, .string ⟨#[]⟩, .string ⟨#[]⟩]) 8 80 Try.underlying28 hi hz0 hz1 hz2 rfl (by decide) v1 n (mcells qs) rfl HRow.out (.slice (some ⟨cb, 0, none⟩) 1 1) 1 (mcells [m]) rfl (HOne.out.src 1 1 (Nat.le_refl _) (fun e => by cases e)) ?e1 ?e2 HMwc.out.size ?_
          case e1 => have := HLEN.out; unfold maxLen; omega
          case e2 => have := HLEN.out; omega
          intro v2 wf hown hgrow hfresh
          rw [← mcells_append] at hown
          have HMf : Hid (Mid wd wf) := Lib.hid (HMwc.out.grown hgrow (fun j hj => (HRow.out.lt j hj).1))
          have HRow2 := Lib.hid hown
          obtain ⟨a', n', cap', hv2⟩ := Kq.own_shape hown
          clear hown hgrow hfresh
          refine hK.out _ _ (SH wf HMf.out.below) (fun hS1 => ?_)
          clear hK K hS0
          have hS0 := hS1
          clear hS1
          refine Kq.wpAnyT_one (i := 13) (by kernel_rfl) rfl (fun K hK => ?_)
          go_simp
          refine hK.out _ _ (SH wf HMf.out.below) (fun hS1 => ?_)
          clear hK K hS0
          have hS0 := hS1
          clear hS1
          refine Kq.wpAnyT_take (i := 14) (v := ?_) rfl rfl (by kernel_rfl) (by kernel_rfl) (by kernel_rfl) (by kernel_rfl) (fun _ _ _ h => h) (Or.inl ⟨by kernel_rfl, ?_⟩) (by assumption) ?_
          rotate_left
          · intro w hSw; (try dsimp only at hSw); go_simp; (try with_reducible rfl)
          have f1 : wf.frozen? ⟨R, 0, none⟩ = false := by
            have hb := HMf.out.below
            exact (HR.out.1.below (HWD.out.trans (hb.mono HWD.out.size))).fz 0
          (try rw [hv2])
          refine Kq.wpAnyT_last (by kernel_rfl) rfl (fun K hK => ?_)
          go_simp
          refine hK.out _ _ ?_
          clear hK K
          refine Kq.wpAnyT_done (by kernel_rfl) ?_ _
          have HP : Hid (RtP wr base R v' (qs ++ [m]) (wf.setCell ⟨R, 0, none⟩ (.slice a' n' cap'))) := by
            have hb := HMf.out.below
            have h1 := HR.out.1.below HWD.out
            obtain ⟨v3, r1, r2, r3⟩ := rt_close (v' := .slice a' n' cap') (ms' := qs ++ [m]) (n := n + 1) h1 hb (by have := HLEN.out.2; rw [List.length_append, List.length_singleton]; omega) (by rw [← hv2]; exact HRow2.out)
            exact Lib.hid ⟨v3, r1, (Kq.Keeps.of_below HWD.out (fun j h1 h2 => absurd h2 (Nat.not_lt.2 h1))).trans r2, fun j hj => (r3 j hj).imp id (Nat.le_trans HWD.out.size)⟩
          clear hS0 f1 hv2
          have hks := HKS.out
          go_wp2
          go_roundw
          case rel =>
            obtain ⟨v3, r1, r2, r3⟩ := HP.out
            refine ⟨k + 1, v3, by omega, by go_num, by rw [HTK.out]; exact r1, HR.out.2.1.trans r2, fun j hj => ?_⟩
            rcases r3 j hj with h | h
            · exact HR.out.2.2 j h
            · exact Or.inr (Nat.le_trans HR.out.2.1.size h)
          case measure => simp [intOf]; omega
      case g11 =>
        go_simp
        obtain ⟨wa, hw⟩ : ∃ z, z = wd.alloc (.cells #[.int .i64 m.kind, .int .i64 m.to, .int .u64 m.ht, .int .i64 m.fr, .int .u64 m.sq, .int .u64 m.tm, .string m.d, .string m.p] 39) := ⟨_, rfl⟩
        (try rw [← hw])
        have HMwa : Hid (Mid wd wa) := Lib.hid (by rw [hw]; exact HMwd.out.alloc _)
        obtain ⟨cb, hcb⟩ : ∃ z, z = wd.heap.size := ⟨_, rfl⟩
        have HOne : Hid (MsAt wa (some ⟨cb, 0, none⟩) [m]) := Lib.hid (by rw [hw, hcb]; exact made_one _ m _)
        rw [← hcb]
        clear hw hcb
        refine hK.out _ _ (SH wa HMwa.out.below) (fun hS1 => ?_)
        clear hK K hS0
        have hS0 := hS1
        clear hS1
        refine Kq.wpAnyT_one (i := 1) (by kernel_rfl) rfl (fun K hK => ?_)

        go_simp
        obtain ⟨wb, hw⟩ : ∃ z, z = wa.alloc (.cells #[] 39) := ⟨_, rfl⟩
        (try rw [← hw])
        have HMwb : Hid (Mid wd wb) := Lib.hid (by rw [hw]; exact HMwa.out.alloc _)
        obtain ⟨zb, hzb⟩ : ∃ z, z = wa.heap.size := ⟨_, rfl⟩
        have HRow : Hid (wb.ownsRow wd.heap.size 39 8 (.slice (some ⟨zb, 0, none⟩) 0 0) 0 []) := Lib.hid (by rw [hw, hzb]; exact World.ownsRow_made wa #[] 0 HMwa.out.size (Nat.zero_le _) rfl)
        have HZB : Hid (wd.heap.size ≤ zb) := Lib.hid (by rw [hzb]; exact HMwa.out.size)
        have HCZ : Hid (cb ≠ zb) := Lib.hid (by have := HOne.out.one_lt; omega)
        have HOne : Hid (MsAt wb (some ⟨cb, 0, none⟩) [m]) := Lib.hid (by rw [hw]; exact HOne.out.below (Kq.below_alloc _ _))
        rw [← hzb]
        clear hw hzb
        refine hK.out _ _ (SH wb HMwb.out.below) (fun hS1 => ?_)
        clear hK K hS0
        have hS0 := hS1
        clear hS1
        refine Kq.wpAnyT_one (i := 6) (by kernel_rfl) rfl (fun K hK => ?_)

        rw [if_pos (by rfl)]
        refine Kq.wp_append_any _ (.tmp 19) (.tmp 23) 28 28 rfl wd.heap.size 39 i0 (.agg #[.int .i64 0, .int .i64 0, .int .u64 0, .int .i64 0, .int .u64 0, .int .u64 0, .string ⟨#[]⟩, .string ⟨#[]⟩]) 8 80 Try.underlying28 hi hz0 hz1 hz2 rfl (by decide) (.slice (some ⟨zb, 0, none⟩) 0 0) 0 [] rfl HRow.out (.slice LA n lcap) n (mcells qs) rfl (by have h := (HLA.out.1.below (HWD.out.trans (HMwb.out.below.mono HWD.out.size))).src n lcap (by have := HLEN.out.2; omega) (fun e => by have := HLA.out.2.1 e; have := HLEN.out.2; omega); rw [HLEN.out.2, List.take_length] at h; rw [HLEN.out.2]; exact h) ?e1 ?e2 HMwb.out.size ?_
        case e1 => have := HLEN.out; unfold maxLen; omega
        case e2 => have := HLEN.out; omega
        intro v1 wc hown hgrow hfresh
        rw [Nat.zero_add, List.nil_append] at hown
        have HMwc : Hid (Mid wd wc) := Lib.hid (HMwb.out.grown hgrow (fun j hj => by have := HZB.out; simp [Value.ownBlock] at hj; omega))
        have HRow := Lib.hid hown
        have HOne : Hid (MsAt wc (some ⟨cb, 0, none⟩) [m]) := Lib.hid (HOne.out.grown hgrow (fun e => by have := HCZ.out; simp [Value.ownBlock] at e; omega))
        clear hown hgrow hfresh
        refine hK.out _ _ (SH wc HMwc.out.below) (fun hS1 => ?_)
        clear hK K hS0
        have hS0 := hS1
        clear hS1

        refine Kq.wpAnyT_one (i := 12) (by kernel_rfl) rfl (fun K hK => ?_)
        rw [if_pos (by rfl)]
        refine Kq.wp_append_any _ (.tmp 24) (.tmp 29) 28 28 rfl wd.heap.size 39 i0 (.agg #[.int .i64 0, .int .i64 0, .int .u64 0, .int .i64 0, .int .u64 0, .int .u64 0, .string ⟨#[]⟩, .string ⟨#[]⟩]) 8 80 Try.underlying28 hi hz0 hz1 hz2 rfl (by decide) v1 n (mcells qs) rfl HRow.out (.slice (some ⟨cb, 0, none⟩) 1 1) 1 (mcells [m]) rfl (HOne.out.src 1 1 (Nat.le_refl _) (fun e => by cases e)) ?e1 ?e2 HMwc.out.size ?_
        case e1 => have := HLEN.out; unfold maxLen; omega
        case e2 => have := HLEN.out; omega
        intro v2 wf hown hgrow hfresh
        rw [← mcells_append] at hown
        have HMf : Hid (Mid wd wf) := Lib.hid (HMwc.out.grown hgrow (fun j hj => (HRow.out.lt j hj).1))
        have HRow2 := Lib.hid hown
        obtain ⟨a', n', cap', hv2⟩ := Kq.own_shape hown
        clear hown hgrow hfresh
        refine hK.out _ _ (SH wf HMf.out.below) (fun hS1 => ?_)
        clear hK K hS0
        have hS0 := hS1
        clear hS1
        refine Kq.wpAnyT_one (i := 13) (by kernel_rfl) rfl (fun K hK => ?_)
        go_simp
        refine hK.out _ _ (SH wf HMf.out.below) (fun hS1 => ?_)
        clear hK K hS0
        have hS0 := hS1
        clear hS1
        refine Kq.wpAnyT_take (i := 14) (v := ?_) rfl rfl (by kernel_rfl) (by kernel_rfl) (by kernel_rfl) (by kernel_rfl) (fun _ _ _ h => h) (Or.inl ⟨by kernel_rfl, ?_⟩) (by assumption) ?_
        rotate_left
        · intro w hSw; (try dsimp only at hSw); go_simp; (try with_reducible rfl)
        have f1 : wf.frozen? ⟨R, 0, none⟩ = false := by
          have hb := HMf.out.below
          exact (HR.out.1.below (HWD.out.trans (hb.mono HWD.out.size))).fz 0
        (try rw [hv2])
        refine Kq.wpAnyT_last (by kernel_rfl) rfl (fun K hK => ?_)
        go_simp
        refine hK.out _ _ ?_
        clear hK K
        refine Kq.wpAnyT_done (by kernel_rfl) ?_ _
        have HP : Hid (RtP wr base R v' (qs ++ [m]) (wf.setCell ⟨R, 0, none⟩ (.slice a' n' cap'))) := by
          have hb := HMf.out.below
          have h1 := HR.out.1.below HWD.out
          obtain ⟨v3, r1, r2, r3⟩ := rt_close (v' := .slice a' n' cap') (ms' := qs ++ [m]) (n := n + 1) h1 hb (by have := HLEN.out.2; rw [List.length_append, List.length_singleton]; omega) (by rw [← hv2]; exact HRow2.out)
          exact Lib.hid ⟨v3, r1, (Kq.Keeps.of_below HWD.out (fun j h1 h2 => absurd h2 (Nat.not_lt.2 h1))).trans r2, fun j hj => (r3 j hj).imp id (Nat.le_trans HWD.out.size)⟩
        clear hS0 f1 hv2
        have hks := HKS.out
        go_wp2
        go_roundw
        case rel =>
          obtain ⟨v3, r1, r2, r3⟩ := HP.out
          refine ⟨k + 1, v3, by omega, by go_num, by rw [HTK.out]; exact r1, HR.out.2.1.trans r2, fun j hj => ?_⟩
          rcases r3 j hj with h | h
          · exact HR.out.2.2 j h
          · exact Or.inr (Nat.le_trans HR.out.2.1.size h)
        case measure => simp [intOf]; omega
    · obtain rfl : k = s := by omega
      have HFIN : Hid (RtP w base R v (ms ++ l.take k) wr) := Lib.hid ⟨v', HR.out.1, HR.out.2.1, HR.out.2.2⟩
      rcases Nat.lt_or_ge k l.length with h2 | h2
      · have l1 : (k : Int) < (l.length : Int) := by omega
        have l3 : ¬ (n : Int) < 256 := by have := HS.out.2.2.1; omega
        have l4 : ¬ n < 256 := by omega
        clear hn hnl h2
        go_wp2
        go_ret
        exact ⟨rfl, HFIN.out⟩
      · have l1 : ¬ (k : Int) < (l.length : Int) := by omega
        clear hn hnl h2
        go_wp2
        go_ret
        exact ⟨rfl, HFIN.out⟩
end Go.Proofs.Ytahijpfmpdjceaa
