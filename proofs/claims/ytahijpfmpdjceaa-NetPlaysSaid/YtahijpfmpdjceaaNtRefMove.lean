/- Contract of the reference's net: Move. Condition: sizes. -/
import Derived.WalkSpells
import Derived.Outline
import Derived.Deep.QuietTactic
import Derived.Test.YtahijpfmpdjceaaNtRefMoveB
namespace Go.Proofs.Ytahijpfmpdjceaa
open Go.RowKit
set_option linter.unusedVariables false
theorem RtP.trans {w w1 w2 : World} {base R : Nat} {v v1 : Value} {ms2 : List MsgV} (k1 : Kq.Keeps (· = R) w w1) (o1 : ∀ j, v1.ownBlock = some j → v.ownBlock = some j ∨ w.heap.size ≤ j) (h : RtP w1 base R v1 ms2 w2) : RtP w base R v ms2 w2 := by
  obtain ⟨v2, r1, r2, r3⟩ := h
  refine ⟨v2, r1, k1.trans r2, fun j hj => ?_⟩
  rcases r3 j hj with h | h
  · exact o1 j h
  · exact Or.inr (Nat.le_trans k1.size h)
theorem move_eq {ms : List MsgV} {m : MsgV} {k q : Nat} (hk : k < ms.length) (hq : q < ms.length) : (ms.take k ++ ms.drop (k + 1)).take q ++ [m] ++ (ms.take k ++ ms.drop (k + 1)).drop q = moveL k q m ms := by
  have hkl : (ms.take k).length = k := by rw [List.length_take]; omega
  unfold moveL
  by_cases h : k < q
  · have e1 : (ms.take k).take q = ms.take k := List.take_of_length_le (by omega)
    have e2 : (ms.take k).drop q = [] := List.drop_of_length_le (by omega)
    rw [if_pos h, List.take_append, List.drop_append, hkl, e1, e2, List.nil_append, List.drop_drop, show k + 1 + (q - k) = q + 1 by omega]
  · rw [if_neg h, List.take_append_of_le_length (by omega), List.take_take, Nat.min_eq_left (by omega), List.drop_append_of_le_length (by omega), List.drop_take, List.append_assoc (ms.take q ++ [m])]
theorem subA_none {A : Option Addr} {c n : Nat} (h : netMoves.subA A c n = none) : A = none := by
  unfold netMoves.subA at h
  split at h
  · exact h
  · cases A with
    | none => rfl
    | some a => cases h
set_option maxRecDepth 100000 in
set_option maxHeartbeats 4000000 in
theorem rt_move_go (base R : Nat) (v : Value) (ms : List MsgV) (k q : Nat) (w : World) (h : RtS w base R v ms) (hm : ms.length ≤ 256) (hk : k < ms.length) (hq : q < ms.length) :
    Calls Try.prog 17 #[.pointer (some ⟨R, 0, none⟩), .int .i64 (k : Int), .int .i64 (q : Int)] w fun e w' => e = .returned (.int .i64 0) ∧ RtP w base R v (moveL k q ms[k] ms) w' := by
  obtain ⟨i0, hi, hz0, hz1, hz2⟩ := info_parts infoMsg
  have HT := Lib.hid (rt_take_go base R v ms k w h hm hk)
  obtain ⟨LA0, lcap0, hv', -, -, -⟩ := h.at
  have c0 := h.c0
  rw [hv'] at c0
  have hmv := move_eq (m := ms[k]) hk hq
  have htl : (ms.take k ++ ms.drop (k + 1)).length = ms.length - 1 := by rw [List.length_append, List.length_take, List.length_drop]; omega
  generalize ms[k] = m at *
  have HTK := Lib.hid hmv
  have d1 : decide ((k : Int) < 0) = false := decide_eq_false (by omega)
  have d2 : decide ((ms.length : Int) ≤ (k : Int)) = false := decide_eq_false (by omega)
  have d3 : decide (ms.length ≤ k) = false := decide_eq_false (by omega)
  have d4 : decide ((q : Int) < 0) = false := decide_eq_false (by omega)
  have d5 : decide ((ms.length : Int) ≤ (q : Int)) = false := decide_eq_false (by omega)
  have d6 : decide (ms.length ≤ q) = false := decide_eq_false (by omega)
  have HLM := Lib.hid (And.intro hm (And.intro hq htl))
  generalize ms.take k ++ ms.drop (k + 1) = tk at *
  clear hmv htl hv' h hm hk hq
  go_enter Try.func17, Try.ntmps17
  go_wp2_with fail
  refine HT.out.mono ?_
  rintro e w1 ⟨rfl, v1', r1, r2, r3⟩
  obtain ⟨LA, lcap, hv1, hLc, hL0, hLat⟩ := r1.at
  subst hv1
  obtain ⟨n, hn⟩ : ∃ n, n = tk.length := ⟨_, rfl⟩
  have HLEN : Hid (n ≤ 256 ∧ q ≤ n ∧ n = tk.length ∧ n ≤ lcap) := Lib.hid ⟨by rw [hn, HLM.out.2.2]; have := HLM.out.1; omega, by rw [hn, HLM.out.2.2]; have := HLM.out.2.1; omega, hn, by rw [hn]; exact hLc⟩
  have HLA : Hid (LA = none → n = 0) := Lib.hid (fun e => by rw [hn]; exact hL0 e)
  have HLT := Lib.hid hLat
  rw [← hn] at r1 r3
  have HKP := Lib.hid (And.intro r2 r3)
  have H1 := Lib.hid r1
  have s1 : (q : Int) ≤ (lcap : Int) := by have := HLEN.out; omega
  have sl := fun wx => netMoves.sub_run LA n lcap q (by have := HLEN.out; omega) wx
  obtain ⟨SA, hSA⟩ : ∃ z, z = netMoves.subA LA lcap q := ⟨_, rfl⟩
  rw [← hSA] at sl
  have HSA := Lib.hid hSA
  clear hSA hn hLc hL0 hLat r1 r2 r3 c0 HT
  unfold MsgV.val
  go_wp2
  obtain ⟨wb, hwb⟩ : ∃ z, z = w1.alloc (.cells #[.int .i64 m.kind, .int .i64 m.to, .int .u64 m.ht, .int .i64 m.fr, .int .u64 m.sq, .int .u64 m.tm, .string m.d, .string m.p] 39) := ⟨_, rfl⟩
  rw [← hwb]
  obtain ⟨wd, hwd⟩ : ∃ z, z = wb.drew := ⟨_, rfl⟩
  have hb1 : Below w1.heap.size w1 wd := by rw [hwd, hwb]; exact (Kq.below_alloc _ _).drew
  have hbx : wd.heap[w1.heap.size]? = some (.cells #[.int .i64 m.kind, .int .i64 m.to, .int .u64 m.ht, .int .i64 m.fr, .int .u64 m.sq, .int .u64 m.tm, .string m.d, .string m.p] 39 (0, 0)) := by rw [hwd, hwb]; exact Kq.blk_new _ _ _ _
  have HWD := Lib.hid hb1
  have HMwd : Hid (Mid wd wd) := Lib.hid (Kq.Keeps.refl _ _)
  have hR : R < w1.heap.size := Kq.blk_lt H1.out.blk
  have hc0 := (H1.out.below hb1).c0
  obtain ⟨Bx, hBx⟩ : ∃ z, z = w1.heap.size := ⟨_, rfl⟩
  rw [← hBx] at hbx ⊢
  have SH : ∀ cur : World, Below wd.heap.size wd cur → (cur.cell? ⟨R, 0, none⟩ = some (.slice LA n lcap) ∧ cur.cell? ⟨Bx, 0, none⟩ = some (.int .i64 m.kind) ∧ cur.cell? ⟨Bx, 1, none⟩ = some (.int .i64 m.to) ∧ cur.cell? ⟨Bx, 2, none⟩ = some (.int .u64 m.ht) ∧ cur.cell? ⟨Bx, 3, none⟩ = some (.int .i64 m.fr) ∧ cur.cell? ⟨Bx, 4, none⟩ = some (.int .u64 m.sq) ∧ cur.cell? ⟨Bx, 5, none⟩ = some (.int .u64 m.tm) ∧ cur.cell? ⟨Bx, 6, none⟩ = some (.string m.d) ∧ cur.cell? ⟨Bx, 7, none⟩ = some (.string m.p)) := fun cur hb => by
    have hx := Kq.below_blk hb hbx (Kq.blk_lt hbx)
    refine ⟨(hb.cell (p := ⟨R, 0, none⟩) (Nat.lt_of_lt_of_le hR hb1.size)).trans hc0, Kq.blk_cell hx 0, Kq.blk_cell hx 1, Kq.blk_cell hx 2, Kq.blk_cell hx 3, Kq.blk_cell hx 4, Kq.blk_cell hx 5, Kq.blk_cell hx 6, Kq.blk_cell hx 7⟩
  have HLAT := Lib.hid (fun (cur : World) (hb : Below wd.heap.size wd cur) => HLT.out.below (hb1.trans (hb.mono hb1.size)))
  refine Kq.wp_region_T 21 (fun cur => cur.cell? ⟨R, 0, none⟩ = some (.slice LA n lcap) ∧ cur.cell? ⟨Bx, 0, none⟩ = some (.int .i64 m.kind) ∧ cur.cell? ⟨Bx, 1, none⟩ = some (.int .i64 m.to) ∧ cur.cell? ⟨Bx, 2, none⟩ = some (.int .u64 m.ht) ∧ cur.cell? ⟨Bx, 3, none⟩ = some (.int .i64 m.fr) ∧ cur.cell? ⟨Bx, 4, none⟩ = some (.int .u64 m.sq) ∧ cur.cell? ⟨Bx, 5, none⟩ = some (.int .u64 m.tm) ∧ cur.cell? ⟨Bx, 6, none⟩ = some (.string m.d) ∧ cur.cell? ⟨Bx, 7, none⟩ = some (.string m.p)) (by kernel_rfl) (by rw [← hwd]; exact SH wd (Below.refl _ _)) (fun hS0 => ?_)
  rw [← hwd] at hS0 ⊢
  clear hwd hwb hb1 hbx hc0 hR hBx
  refine Kq.wpAnyT_take (i := 0) (v := ?_) rfl rfl (by kernel_rfl) (by kernel_rfl) (by kernel_rfl) (by kernel_rfl) (fun _ _ _ h => h) (Or.inl ⟨by kernel_rfl, ?_⟩) (by assumption) ?_
  rotate_left
  · intro w hSw; (try dsimp only at hSw); go_simp; (try with_reducible rfl)
  refine Kq.wpAnyT_take (i := 2) (v := ?_) rfl rfl (by kernel_rfl) (by kernel_rfl) (by kernel_rfl) (by kernel_rfl) (fun _ _ _ h => h) (Or.inl ⟨by kernel_rfl, ?_⟩) (by assumption) ?_
  rotate_left
  · intro w hSw; (try dsimp only at hSw); go_simp; (try with_reducible rfl)
  refine Kq.wpAnyT_take (i := 3) (v := ?_) rfl rfl (by kernel_rfl) (by kernel_rfl) (by kernel_rfl) (by kernel_rfl) (fun _ _ _ h => h) (Or.inl ⟨by kernel_rfl, ?_⟩) (by assumption) ?_
  rotate_left
  · intro w hSw; (try dsimp only at hSw); go_simp; (try with_reducible rfl)
  refine Kq.wpAnyT_take (i := 4) (v := ?_) rfl rfl (by kernel_rfl) (by kernel_rfl) (by kernel_rfl) (by kernel_rfl) (fun _ _ _ h => h) (Or.inl ⟨by kernel_rfl, ?_⟩) (by assumption) ?_
  rotate_left
  · intro w hSw; (try dsimp only at hSw); go_simp; (try with_reducible rfl)
  refine Kq.wpAnyT_take (i := 5) (v := ?_) rfl rfl (by kernel_rfl) (by kernel_rfl) (by kernel_rfl) (by kernel_rfl) (fun _ _ _ h => h) (Or.inl ⟨by kernel_rfl, ?_⟩) (by assumption) ?_
  rotate_left
  · intro w hSw; (try dsimp only at hSw); go_simp; (try with_reducible rfl)
  refine Kq.wpAnyT_take (i := 6) (v := ?_) rfl rfl (by kernel_rfl) (by kernel_rfl) (by kernel_rfl) (by kernel_rfl) (fun _ _ _ h => h) (Or.inl ⟨by kernel_rfl, ?_⟩) (by assumption) ?_
  rotate_left
  · intro w hSw; (try dsimp only at hSw); go_simp; (try with_reducible rfl)
  refine Kq.wpAnyT_take (i := 7) (v := ?_) rfl rfl (by kernel_rfl) (by kernel_rfl) (by kernel_rfl) (by kernel_rfl) (fun _ _ _ h => h) (Or.inl ⟨by kernel_rfl, ?_⟩) (by assumption) ?_
  rotate_left
  · intro w hSw; (try dsimp only at hSw); go_simp; (try with_reducible rfl)
  refine Kq.wpAnyT_take (i := 9) (v := ?_) rfl rfl (by kernel_rfl) (by kernel_rfl) (by kernel_rfl) (by kernel_rfl) (fun _ _ _ h => h) (Or.inl ⟨by kernel_rfl, ?_⟩) (by assumption) ?_
  rotate_left
  · intro w hSw; (try dsimp only at hSw); go_simp; (try with_reducible rfl)
  refine Kq.wpAnyT_take (i := 12) (v := ?_) rfl rfl (by kernel_rfl) (by kernel_rfl) (by kernel_rfl) (by kernel_rfl) (fun _ _ _ h => h) (Or.inl ⟨by kernel_rfl, ?_⟩) (by assumption) ?_
  rotate_left
  · intro w hSw; (try dsimp only at hSw); go_simp; (try with_reducible rfl)
  refine Kq.wpAnyT_take (i := 13) (v := ?_) rfl rfl (by kernel_rfl) (by kernel_rfl) (by kernel_rfl) (by kernel_rfl) (fun _ _ _ h => h) (Or.inl ⟨by kernel_rfl, ?_⟩) (by assumption) ?_
  rotate_left
  · intro w hSw; (try dsimp only at hSw); go_simp; (try with_reducible rfl)
  refine Kq.wpAnyT_take (i := 14) (v := ?_) rfl rfl (by kernel_rfl) (by kernel_rfl) (by kernel_rfl) (by kernel_rfl) (fun _ _ _ h => h) (Or.inl ⟨by kernel_rfl, ?_⟩) (by assumption) ?_
  rotate_left
  · intro w hSw; (try dsimp only at hSw); go_simp; (try with_reducible rfl)
  refine Kq.wpAnyT_take (i := 15) (v := ?_) rfl rfl (by kernel_rfl) (by kernel_rfl) (by kernel_rfl) (by kernel_rfl) (fun _ _ _ h => h) (Or.inl ⟨by kernel_rfl, ?_⟩) (by assumption) ?_
  rotate_left
  · intro w hSw; (try dsimp only at hSw); go_simp; (try with_reducible rfl)
  refine Kq.wpAnyT_take (i := 16) (v := ?_) rfl rfl (by kernel_rfl) (by kernel_rfl) (by kernel_rfl) (by kernel_rfl) (fun _ _ _ h => h) (Or.inl ⟨by kernel_rfl, ?_⟩) (by assumption) ?_
  rotate_left
  · intro w hSw; (try dsimp only at hSw); go_simp; (try with_reducible rfl)
  refine Kq.wpAnyT_take (i := 17) (v := ?_) rfl rfl (by kernel_rfl) (by kernel_rfl) (by kernel_rfl) (by kernel_rfl) (fun _ _ _ h => h) (Or.inl ⟨by kernel_rfl, ?_⟩) (by assumption) ?_
  rotate_left
  · intro w hSw; (try dsimp only at hSw); go_simp; (try with_reducible rfl)
  refine Kq.wpAnyT_two (i := 1) (j := 10) (by kernel_rfl) rfl rfl (fun K hK => ?g1) (fun K hK => ?g10)
  case g1 =>
    go_simp
    obtain ⟨wa, hw⟩ : ∃ z, z = wd.alloc (.cells #[] 39) := ⟨_, rfl⟩
    (try rw [← hw])
    have HMwa : Hid (Mid wd wa) := Lib.hid (by rw [hw]; exact HMwd.out.alloc _)
    obtain ⟨zb, hzb⟩ : ∃ z, z = wd.heap.size := ⟨_, rfl⟩
    have HRow : Hid (wa.ownsRow wd.heap.size 39 8 (.slice (some ⟨zb, 0, none⟩) 0 0) 0 []) := Lib.hid (by rw [hw, hzb]; exact World.ownsRow_made wd #[] 0 HMwd.out.size (Nat.zero_le _) rfl)
    have HZB : Hid (wd.heap.size ≤ zb) := Lib.hid (by rw [hzb]; exact HMwd.out.size)
    rw [← hzb]
    clear hw hzb
    refine hK.out _ _ (SH wa HMwa.out.below) (fun hS1 => ?_)
    clear hK K hS0
    have hS0 := hS1
    clear hS1
    refine Kq.wpAnyT_two (i := 8) (j := 10) (by kernel_rfl) rfl rfl (fun K hK => ?g8x2) (fun K hK => ?g10x2)
    case g8x2 =>
      rw [if_pos (by rfl)]
      refine Kq.wp_append_any _ (.tmp 40) (.tmp 46) 28 28 rfl wd.heap.size 39 i0 (.agg #[.int .i64 0, .int .i64 0, .int .u64 0, .int .i64 0, .int .u64 0, .int .u64 0, .string ⟨#[]⟩, .string ⟨#[]⟩]) 8 80 Try.underlying28 hi hz0 hz1 hz2 rfl (by decide) (.slice (some ⟨zb, 0, none⟩) 0 0) 0 [] rfl HRow.out (.slice LA q lcap) q (mcells (tk.take q)) rfl ((HLAT.out _ HMwa.out.below).src q lcap (by have := HLEN.out; omega) (fun e => by have := HLA.out e; have := HLEN.out; omega)) ?e1 ?e2 HMwa.out.size ?_
      case e1 => have := HLEN.out; unfold maxLen; omega
      case e2 => have := HLEN.out; omega
      intro v1 wb hown hgrow hfresh
      rw [Nat.zero_add, List.nil_append] at hown
      have HMwb : Hid (Mid wd wb) := Lib.hid (HMwa.out.grown hgrow (fun j hj => by have := HZB.out; simp [Value.ownBlock] at hj; omega))
      have HRow := Lib.hid hown
      clear hown hgrow hfresh
      refine hK.out _ _ (SH wb HMwb.out.below) (fun hS1 => ?_)
      clear hK K hS0
      have hS0 := hS1
      clear hS1
      refine Kq.wpAnyT_one (i := 10) (by kernel_rfl) rfl (fun K hK => ?_)

      go_simp
      obtain ⟨wc, hw⟩ : ∃ z, z = wb.alloc (.cells #[.int .i64 m.kind, .int .i64 m.to, .int .u64 m.ht, .int .i64 m.fr, .int .u64 m.sq, .int .u64 m.tm, .string m.d, .string m.p] 39) := ⟨_, rfl⟩
      (try rw [← hw])
      have HMwc : Hid (Mid wd wc) := Lib.hid (by rw [hw]; exact HMwb.out.alloc _)
      obtain ⟨cb, hcb⟩ : ∃ z, z = wb.heap.size := ⟨_, rfl⟩
      have HOne : Hid (MsAt wc (some ⟨cb, 0, none⟩) [m]) := Lib.hid (by rw [hw, hcb]; exact made_one _ m _)
      have HRow : Hid (wc.ownsRow wd.heap.size 39 8 v1 q (mcells (tk.take q))) := Lib.hid (by rw [hw]; exact HRow.out.alloc _)
      rw [← hcb]
      clear hw hcb
      refine hK.out _ _ (SH wc HMwc.out.below) (fun hS1 => ?_)
      clear hK K hS0
      have hS0 := hS1
      clear hS1
      refine Kq.wpAnyT_one (i := 11) (by kernel_rfl) rfl (fun K hK => ?_)
      rw [if_pos (by rfl)]
      refine Kq.wp_append_any _ (.tmp 47) (.tmp 49) 28 28 rfl wd.heap.size 39 i0 (.agg #[.int .i64 0, .int .i64 0, .int .u64 0, .int .i64 0, .int .u64 0, .int .u64 0, .string ⟨#[]⟩, .string ⟨#[]⟩]) 8 80 Try.underlying28 hi hz0 hz1 hz2 rfl (by decide) v1 q (mcells (tk.take q)) rfl HRow.out (.slice (some ⟨cb, 0, none⟩) 1 1) 1 (mcells [m]) rfl (HOne.out.src 1 1 (Nat.le_refl _) (fun e => by cases e)) ?e1 ?e2 HMwc.out.size ?_
      case e1 => have := HLEN.out; unfold maxLen; omega
      case e2 => have := HLEN.out; omega
      intro v2 wx hown hgrow hfresh
      rw [← mcells_append] at hown
      have HMwx : Hid (Mid wd wx) := Lib.hid (HMwc.out.grown hgrow (fun j hj => (HRow.out.lt j hj).1))
      have HRow := Lib.hid hown
      clear hown hgrow hfresh
      refine hK.out _ _ (SH wx HMwx.out.below) (fun hS1 => ?_)
      clear hK K hS0
      have hS0 := hS1
      clear hS1
      refine Kq.wpAnyT_one (i := 18) (by kernel_rfl) rfl (fun K hK => ?_)
      rw [if_pos (by rfl)]
      refine Kq.wp_append_any _ (.tmp 50) (.tmp 56) 28 28 rfl wd.heap.size 39 i0 (.agg #[.int .i64 0, .int .i64 0, .int .u64 0, .int .i64 0, .int .u64 0, .int .u64 0, .string ⟨#[]⟩, .string ⟨#[]⟩]) 8 80 Try.underlying28 hi hz0 hz1 hz2 rfl (by decide) v2 (q + 1) (mcells (tk.take q ++ [m])) rfl HRow.out (.slice SA (n - q) (lcap - q)) (n - q) (mcells (tk.drop q)) rfl (by have hd := netMoves.ms_sub (c := lcap) (HLAT.out _ HMwx.out.below) (by have := HLEN.out; omega) q; rw [← HSA.out] at hd; have hq := hd.src (n - q) (lcap - q) (by rw [List.length_drop]; have := HLEN.out; omega) (fun e => by rw [HSA.out] at e; have := HLA.out (subA_none e); have := HLEN.out; omega); rw [show (tk.drop q).take (n - q) = tk.drop q from List.take_of_length_le (by rw [List.length_drop]; have := HLEN.out; omega)] at hq; exact hq) ?e1 ?e2 HMwx.out.size ?_
      case e1 => have := HLEN.out; unfold maxLen; omega
      case e2 => have := HLEN.out; omega
      intro v3 wf hown hgrow hfresh
      rw [← mcells_append] at hown
      have HMwf : Hid (Mid wd wf) := Lib.hid (HMwx.out.grown hgrow (fun j hj => (HRow.out.lt j hj).1))
      have HRow := Lib.hid hown
      obtain ⟨a', n', cap', hv2⟩ := Kq.own_shape hown
      clear hown hgrow hfresh
      refine hK.out _ _ (SH wf HMwf.out.below) (fun hS1 => ?_)
      clear hK K hS0
      have hS0 := hS1
      clear hS1
      refine Kq.wpAnyT_one (i := 19) (by kernel_rfl) rfl (fun K hK => ?_)
      go_simp
      refine hK.out _ _ (SH wf HMwf.out.below) (fun hS1 => ?_)
      clear hK K hS0
      have hS0 := hS1
      clear hS1
      refine Kq.wpAnyT_take (i := 20) (v := ?_) rfl rfl (by kernel_rfl) (by kernel_rfl) (by kernel_rfl) (by kernel_rfl) (fun _ _ _ h => h) (Or.inl ⟨by kernel_rfl, ?_⟩) (by assumption) ?_
      rotate_left
      · intro w hSw; (try dsimp only at hSw); go_simp; (try with_reducible rfl)
      have f1 : wf.frozen? ⟨R, 0, none⟩ = false := by
        have hb := HMwf.out.below
        exact (H1.out.below (HWD.out.trans (hb.mono HWD.out.size))).fz 0
      (try rw [hv2])
      refine Kq.wpAnyT_last (by kernel_rfl) rfl (fun K hK => ?_)
      go_simp
      refine hK.out _ _ ?_
      clear hK K
      refine Kq.wpAnyT_done (by kernel_rfl) ?_ _
      have HP : Hid (RtP w base R v (moveL k q m ms) (wf.setCell ⟨R, 0, none⟩ (.slice a' n' cap'))) := by
        have hb := HMwf.out.below
        have h1 := H1.out.below HWD.out
        have hl9 : q + 1 + (n - q) = (tk.take q ++ [m] ++ tk.drop q).length := by rw [List.length_append, List.length_append, List.length_take, List.length_drop, List.length_singleton]; have := HLEN.out; omega
        have hr := rt_close (v' := .slice a' n' cap') (ms' := tk.take q ++ [m] ++ tk.drop q) (n := q + 1 + (n - q)) h1 hb hl9 (by rw [← hv2]; exact HRow.out)
        rw [HTK.out] at hr
        have hr2 : RtP w1 base R (.slice LA n lcap) (moveL k q m ms) (wf.setCell ⟨R, 0, none⟩ (.slice a' n' cap')) := RtP.trans (Kq.Keeps.of_below HWD.out (fun j h1 h2 => absurd h2 (Nat.not_lt.2 h1))) (fun j hj => Or.inl hj) hr
        exact Lib.hid (RtP.trans HKP.out.1 HKP.out.2 hr2)
      clear hS0 f1 hv2
      go_wp2
      go_ret
      exact ⟨rfl, HP.out⟩
    case g10x2 =>
      go_simp
      obtain ⟨wb, hw⟩ : ∃ z, z = wa.alloc (.cells #[.int .i64 m.kind, .int .i64 m.to, .int .u64 m.ht, .int .i64 m.fr, .int .u64 m.sq, .int .u64 m.tm, .string m.d, .string m.p] 39) := ⟨_, rfl⟩
      (try rw [← hw])
      have HMwb : Hid (Mid wd wb) := Lib.hid (by rw [hw]; exact HMwa.out.alloc _)
      obtain ⟨cb, hcb⟩ : ∃ z, z = wa.heap.size := ⟨_, rfl⟩
      have HOne : Hid (MsAt wb (some ⟨cb, 0, none⟩) [m]) := Lib.hid (by rw [hw, hcb]; exact made_one _ m _)
      have HCZ : Hid (cb ≠ zb) := Lib.hid (by have := (HRow.out.lt zb rfl).2; omega)
      have HRow : Hid (wb.ownsRow wd.heap.size 39 8 (.slice (some ⟨zb, 0, none⟩) 0 0) 0 []) := Lib.hid (by rw [hw]; exact HRow.out.alloc _)
      rw [← hcb]
      clear hw hcb
      refine hK.out _ _ (SH wb HMwb.out.below) (fun hS1 => ?_)
      clear hK K hS0
      have hS0 := hS1
      clear hS1
      refine Kq.wpAnyT_one (i := 8) (by kernel_rfl) rfl (fun K hK => ?_)

      rw [if_pos (by rfl)]
      refine Kq.wp_append_any _ (.tmp 40) (.tmp 46) 28 28 rfl wd.heap.size 39 i0 (.agg #[.int .i64 0, .int .i64 0, .int .u64 0, .int .i64 0, .int .u64 0, .int .u64 0, .string ⟨#[]⟩, .string ⟨#[]⟩]) 8 80 Try.underlying28 hi hz0 hz1 hz2 rfl (by decide) (.slice (some ⟨zb, 0, none⟩) 0 0) 0 [] rfl HRow.out (.slice LA q lcap) q (mcells (tk.take q)) rfl ((HLAT.out _ HMwb.out.below).src q lcap (by have := HLEN.out; omega) (fun e => by have := HLA.out e; have := HLEN.out; omega)) ?e1 ?e2 HMwb.out.size ?_
      case e1 => have := HLEN.out; unfold maxLen; omega
      case e2 => have := HLEN.out; omega
      intro v1 wc hown hgrow hfresh
      rw [Nat.zero_add, List.nil_append] at hown
      have HMwc : Hid (Mid wd wc) := Lib.hid (HMwb.out.grown hgrow (fun j hj => by have := HZB.out; simp [Value.ownBlock] at hj; omega))
      have HRow := Lib.hid hown
      have HOne : Hid (MsAt wc (some ⟨cb, 0, none⟩) [m]) := Lib.hid (HOne.out.grown hgrow (fun e => by have := HCZ.out; simp [Value.ownBlock] at e; omega))
      clear hown hgrow hfresh
      refine hK.out _ _ (SH wc HMwc.out.below) (fun hS1 => ?_)
      clear hK K hS0
      have hS0 := hS1
      clear hS1
      refine Kq.wpAnyT_one (i := 11) (by kernel_rfl) rfl (fun K hK => ?_)
      rw [if_pos (by rfl)]
      refine Kq.wp_append_any _ (.tmp 47) (.tmp 49) 28 28 rfl wd.heap.size 39 i0 (.agg #[.int .i64 0, .int .i64 0, .int .u64 0, .int .i64 0, .int .u64 0, .int .u64 0, .string ⟨#[]⟩, .string ⟨#[]⟩]) 8 80 Try.underlying28 hi hz0 hz1 hz2 rfl (by decide) v1 q (mcells (tk.take q)) rfl HRow.out (.slice (some ⟨cb, 0, none⟩) 1 1) 1 (mcells [m]) rfl (HOne.out.src 1 1 (Nat.le_refl _) (fun e => by cases e)) ?e1 ?e2 HMwc.out.size ?_
      case e1 => have := HLEN.out; unfold maxLen; omega
      case e2 => have := HLEN.out; omega
      intro v2 wx hown hgrow hfresh
      rw [← mcells_append] at hown
      have HMwx : Hid (Mid wd wx) := Lib.hid (HMwc.out.grown hgrow (fun j hj => (HRow.out.lt j hj).1))
      have HRow := Lib.hid hown
      clear hown hgrow hfresh
      refine hK.out _ _ (SH wx HMwx.out.below) (fun hS1 => ?_)
      clear hK K hS0
      have hS0 := hS1
      clear hS1
      refine Kq.wpAnyT_one (i := 18) (by kernel_rfl) rfl (fun K hK => ?_)
      rw [if_pos (by rfl)]
      refine Kq.wp_append_any _ (.tmp 50) (.tmp 56) 28 28 rfl wd.heap.size 39 i0 (.agg #[.int .i64 0, .int .i64 0, .int .u64 0, .int .i64 0, .int .u64 0, .int .u64 0, .string ⟨#[]⟩, .string ⟨#[]⟩]) 8 80 Try.underlying28 hi hz0 hz1 hz2 rfl (by decide) v2 (q + 1) (mcells (tk.take q ++ [m])) rfl HRow.out (.slice SA (n - q) (lcap - q)) (n - q) (mcells (tk.drop q)) rfl (by have hd := netMoves.ms_sub (c := lcap) (HLAT.out _ HMwx.out.below) (by have := HLEN.out; omega) q; rw [← HSA.out] at hd; have hq := hd.src (n - q) (lcap - q) (by rw [List.length_drop]; have := HLEN.out; omega) (fun e => by rw [HSA.out] at e; have := HLA.out (subA_none e); have := HLEN.out; omega); rw [show (tk.drop q).take (n - q) = tk.drop q from List.take_of_length_le (by rw [List.length_drop]; have := HLEN.out; omega)] at hq; exact hq) ?e1 ?e2 HMwx.out.size ?_
      case e1 => have := HLEN.out; unfold maxLen; omega
      case e2 => have := HLEN.out; omega
      intro v3 wf hown hgrow hfresh
      rw [← mcells_append] at hown
      have HMwf : Hid (Mid wd wf) := Lib.hid (HMwx.out.grown hgrow (fun j hj => (HRow.out.lt j hj).1))
      have HRow := Lib.hid hown
      obtain ⟨a', n', cap', hv2⟩ := Kq.own_shape hown
      clear hown hgrow hfresh
      refine hK.out _ _ (SH wf HMwf.out.below) (fun hS1 => ?_)
      clear hK K hS0
      have hS0 := hS1
      clear hS1
      refine Kq.wpAnyT_one (i := 19) (by kernel_rfl) rfl (fun K hK => ?_)
      go_simp
      refine hK.out _ _ (SH wf HMwf.out.below) (fun hS1 => ?_)
      clear hK K hS0
      have hS0 := hS1
      clear hS1
      refine Kq.wpAnyT_take (i := 20) (v := ?_) rfl rfl (by kernel_rfl) (by kernel_rfl) (by kernel_rfl) (by kernel_rfl) (fun _ _ _ h => h) (Or.inl ⟨by kernel_rfl, ?_⟩) (by assumption) ?_
      rotate_left
      · intro w hSw; (try dsimp only at hSw); go_simp; (try with_reducible rfl)
      have f1 : wf.frozen? ⟨R, 0, none⟩ = false := by
        have hb := HMwf.out.below
        exact (H1.out.below (HWD.out.trans (hb.mono HWD.out.size))).fz 0
      (try rw [hv2])
      refine Kq.wpAnyT_last (by kernel_rfl) rfl (fun K hK => ?_)
      go_simp
      refine hK.out _ _ ?_
      clear hK K
      refine Kq.wpAnyT_done (by kernel_rfl) ?_ _
      have HP : Hid (RtP w base R v (moveL k q m ms) (wf.setCell ⟨R, 0, none⟩ (.slice a' n' cap'))) := by
        have hb := HMwf.out.below
        have h1 := H1.out.below HWD.out
        have hl9 : q + 1 + (n - q) = (tk.take q ++ [m] ++ tk.drop q).length := by rw [List.length_append, List.length_append, List.length_take, List.length_drop, List.length_singleton]; have := HLEN.out; omega
        have hr := rt_close (v' := .slice a' n' cap') (ms' := tk.take q ++ [m] ++ tk.drop q) (n := q + 1 + (n - q)) h1 hb hl9 (by rw [← hv2]; exact HRow.out)
        rw [HTK.out] at hr
        have hr2 : RtP w1 base R (.slice LA n lcap) (moveL k q m ms) (wf.setCell ⟨R, 0, none⟩ (.slice a' n' cap')) := RtP.trans (Kq.Keeps.of_below HWD.out (fun j h1 h2 => absurd h2 (Nat.not_lt.2 h1))) (fun j hj => Or.inl hj) hr
        exact Lib.hid (RtP.trans HKP.out.1 HKP.out.2 hr2)
      clear hS0 f1 hv2
      go_wp2
      go_ret
      exact ⟨rfl, HP.out⟩
  case g10 =>
    go_simp
    obtain ⟨wa, hw⟩ : ∃ z, z = wd.alloc (.cells #[.int .i64 m.kind, .int .i64 m.to, .int .u64 m.ht, .int .i64 m.fr, .int .u64 m.sq, .int .u64 m.tm, .string m.d, .string m.p] 39) := ⟨_, rfl⟩
    (try rw [← hw])
    have HMwa : Hid (Mid wd wa) := Lib.hid (by rw [hw]; exact HMwd.out.alloc _)
    obtain ⟨cb, hcb⟩ : ∃ z, z = wd.heap.size := ⟨_, rfl⟩
    have HOne : Hid (MsAt wa (some ⟨cb, 0, none⟩) [m]) := Lib.hid (by rw [hw, hcb]; exact made_one _ m _)
    rw [← hcb]
    clear hw hcb
    refine hK.out _ _ (SH wa HMwa.out.below) (fun hS1 => ?_)
    clear hK K hS0
    have hS0 := hS1
    clear hS1
    refine Kq.wpAnyT_one (i := 1) (by kernel_rfl) rfl (fun K hK => ?_)

    go_simp
    obtain ⟨wb, hw⟩ : ∃ z, z = wa.alloc (.cells #[] 39) := ⟨_, rfl⟩
    (try rw [← hw])
    have HMwb : Hid (Mid wd wb) := Lib.hid (by rw [hw]; exact HMwa.out.alloc _)
    obtain ⟨zb, hzb⟩ : ∃ z, z = wa.heap.size := ⟨_, rfl⟩
    have HRow : Hid (wb.ownsRow wd.heap.size 39 8 (.slice (some ⟨zb, 0, none⟩) 0 0) 0 []) := Lib.hid (by rw [hw, hzb]; exact World.ownsRow_made wa #[] 0 HMwa.out.size (Nat.zero_le _) rfl)
    have HZB : Hid (wd.heap.size ≤ zb) := Lib.hid (by rw [hzb]; exact HMwa.out.size)
    have HCZ : Hid (cb ≠ zb) := Lib.hid (by have := HOne.out.one_lt; omega)
    have HOne : Hid (MsAt wb (some ⟨cb, 0, none⟩) [m]) := Lib.hid (by rw [hw]; exact HOne.out.below (Kq.below_alloc _ _))
    rw [← hzb]
    clear hw hzb
    refine hK.out _ _ (SH wb HMwb.out.below) (fun hS1 => ?_)
    clear hK K hS0
    have hS0 := hS1
    clear hS1
    refine Kq.wpAnyT_one (i := 8) (by kernel_rfl) rfl (fun K hK => ?_)

    rw [if_pos (by rfl)]
    refine Kq.wp_append_any _ (.tmp 40) (.tmp 46) 28 28 rfl wd.heap.size 39 i0 (.agg #[.int .i64 0, .int .i64 0, .int .u64 0, .int .i64 0, .int .u64 0, .int .u64 0, .string ⟨#[]⟩, .string ⟨#[]⟩]) 8 80 Try.underlying28 hi hz0 hz1 hz2 rfl (by decide) (.slice (some ⟨zb, 0, none⟩) 0 0) 0 [] rfl HRow.out (.slice LA q lcap) q (mcells (tk.take q)) rfl ((HLAT.out _ HMwb.out.below).src q lcap (by have := HLEN.out; omega) (fun e => by have := HLA.out e; have := HLEN.out; omega)) ?e1 ?e2 HMwb.out.size ?_
    case e1 => have := HLEN.out; unfold maxLen; omega
    case e2 => have := HLEN.out; omega
    intro v1 wc hown hgrow hfresh
    rw [Nat.zero_add, List.nil_append] at hown
    have HMwc : Hid (Mid wd wc) := Lib.hid (HMwb.out.grown hgrow (fun j hj => by have := HZB.out; simp [Value.ownBlock] at hj; omega))
    have HRow := Lib.hid hown
    have HOne : Hid (MsAt wc (some ⟨cb, 0, none⟩) [m]) := Lib.hid (HOne.out.grown hgrow (fun e => by have := HCZ.out; simp [Value.ownBlock] at e; omega))
    clear hown hgrow hfresh
    refine hK.out _ _ (SH wc HMwc.out.below) (fun hS1 => ?_)
    clear hK K hS0
    have hS0 := hS1
    clear hS1
    refine Kq.wpAnyT_one (i := 11) (by kernel_rfl) rfl (fun K hK => ?_)
    rw [if_pos (by rfl)]
    refine Kq.wp_append_any _ (.tmp 47) (.tmp 49) 28 28 rfl wd.heap.size 39 i0 (.agg #[.int .i64 0, .int .i64 0, .int .u64 0, .int .i64 0, .int .u64 0, .int .u64 0, .string ⟨#[]⟩, .string ⟨#[]⟩]) 8 80 Try.underlying28 hi hz0 hz1 hz2 rfl (by decide) v1 q (mcells (tk.take q)) rfl HRow.out (.slice (some ⟨cb, 0, none⟩) 1 1) 1 (mcells [m]) rfl (HOne.out.src 1 1 (Nat.le_refl _) (fun e => by cases e)) ?e1 ?e2 HMwc.out.size ?_
    case e1 => have := HLEN.out; unfold maxLen; omega
    case e2 => have := HLEN.out; omega
    intro v2 wx hown hgrow hfresh
    rw [← mcells_append] at hown
    have HMwx : Hid (Mid wd wx) := Lib.hid (HMwc.out.grown hgrow (fun j hj => (HRow.out.lt j hj).1))
    have HRow := Lib.hid hown
    clear hown hgrow hfresh
    refine hK.out _ _ (SH wx HMwx.out.below) (fun hS1 => ?_)
    clear hK K hS0
    have hS0 := hS1
    clear hS1
    refine Kq.wpAnyT_one (i := 18) (by kernel_rfl) rfl (fun K hK => ?_)
    rw [if_pos (by rfl)]
    refine Kq.wp_append_any _ (.tmp 50) (.tmp 56) 28 28 rfl wd.heap.size 39 i0 (.agg #[.int .i64 0, .int .i64 0, .int .u64 0, .int .i64 0, .int .u64 0, .int .u64 0, .string ⟨#[]⟩, .string ⟨#[]⟩]) 8 80 Try.underlying28 hi hz0 hz1 hz2 rfl (by decide) v2 (q + 1) (mcells (tk.take q ++ [m])) rfl HRow.out (.slice SA (n - q) (lcap - q)) (n - q) (mcells (tk.drop q)) rfl (by have hd := netMoves.ms_sub (c := lcap) (HLAT.out _ HMwx.out.below) (by have := HLEN.out; omega) q; rw [← HSA.out] at hd; have hq := hd.src (n - q) (lcap - q) (by rw [List.length_drop]; have := HLEN.out; omega) (fun e => by rw [HSA.out] at e; have := HLA.out (subA_none e); have := HLEN.out; omega); rw [show (tk.drop q).take (n - q) = tk.drop q from List.take_of_length_le (by rw [List.length_drop]; have := HLEN.out; omega)] at hq; exact hq) ?e1 ?e2 HMwx.out.size ?_
    case e1 => have := HLEN.out; unfold maxLen; omega
    case e2 => have := HLEN.out; omega
    intro v3 wf hown hgrow hfresh
    rw [← mcells_append] at hown
    have HMwf : Hid (Mid wd wf) := Lib.hid (HMwx.out.grown hgrow (fun j hj => (HRow.out.lt j hj).1))
    have HRow := Lib.hid hown
    obtain ⟨a', n', cap', hv2⟩ := Kq.own_shape hown
    clear hown hgrow hfresh
    refine hK.out _ _ (SH wf HMwf.out.below) (fun hS1 => ?_)
    clear hK K hS0
    have hS0 := hS1
    clear hS1
    refine Kq.wpAnyT_one (i := 19) (by kernel_rfl) rfl (fun K hK => ?_)
    go_simp
    refine hK.out _ _ (SH wf HMwf.out.below) (fun hS1 => ?_)
    clear hK K hS0
    have hS0 := hS1
    clear hS1
    refine Kq.wpAnyT_take (i := 20) (v := ?_) rfl rfl (by kernel_rfl) (by kernel_rfl) (by kernel_rfl) (by kernel_rfl) (fun _ _ _ h => h) (Or.inl ⟨by kernel_rfl, ?_⟩) (by assumption) ?_
    rotate_left
    · intro w hSw; (try dsimp only at hSw); go_simp; (try with_reducible rfl)
    have f1 : wf.frozen? ⟨R, 0, none⟩ = false := by
      have hb := HMwf.out.below
      exact (H1.out.below (HWD.out.trans (hb.mono HWD.out.size))).fz 0
    (try rw [hv2])
    refine Kq.wpAnyT_last (by kernel_rfl) rfl (fun K hK => ?_)
    go_simp
    refine hK.out _ _ ?_
    clear hK K
    refine Kq.wpAnyT_done (by kernel_rfl) ?_ _
    have HP : Hid (RtP w base R v (moveL k q m ms) (wf.setCell ⟨R, 0, none⟩ (.slice a' n' cap'))) := by
      have hb := HMwf.out.below
      have h1 := H1.out.below HWD.out
      have hl9 : q + 1 + (n - q) = (tk.take q ++ [m] ++ tk.drop q).length := by rw [List.length_append, List.length_append, List.length_take, List.length_drop, List.length_singleton]; have := HLEN.out; omega
      have hr := rt_close (v' := .slice a' n' cap') (ms' := tk.take q ++ [m] ++ tk.drop q) (n := q + 1 + (n - q)) h1 hb hl9 (by rw [← hv2]; exact HRow.out)
      rw [HTK.out] at hr
      have hr2 : RtP w1 base R (.slice LA n lcap) (moveL k q m ms) (wf.setCell ⟨R, 0, none⟩ (.slice a' n' cap')) := RtP.trans (Kq.Keeps.of_below HWD.out (fun j h1 h2 => absurd h2 (Nat.not_lt.2 h1))) (fun j hj => Or.inl hj) hr
      exact Lib.hid (RtP.trans HKP.out.1 HKP.out.2 hr2)
    clear hS0 f1 hv2
    go_wp2
    go_ret
    exact ⟨rfl, HP.out⟩
theorem rt_move (base R : Nat) (v : Value) (ms : List MsgV) (k t : Int) (w : World) (h : RtS w base R v ms) (hm : ms.length ≤ 256) :
    Calls Try.prog 17 #[.pointer (some ⟨R, 0, none⟩), .int .i64 k, .int .i64 t] w fun e w' => e = .returned (.int .i64 (moveF k t ms).2) ∧ RtP w base R v (moveF k t ms).1 w' := by
  unfold moveF
  by_cases hb : hasF k ms.length = true ∧ hasF t ms.length = true
  · rw [if_pos hb]
    obtain ⟨k0, k1⟩ := hasF_true hb.1
    obtain ⟨t0, t1⟩ := hasF_true hb.2
    obtain ⟨k, rfl⟩ := Int.eq_ofNat_of_zero_le k0
    obtain ⟨t, rfl⟩ := Int.eq_ofNat_of_zero_le t0
    have hk : k < ms.length := by omega
    have ht : t < ms.length := by omega
    have hge : ms[(k : Int).toNat]! = ms[k] := by rw [Int.toNat_natCast]; exact getElem!_pos ms k hk
    rw [hge, Int.toNat_natCast, Int.toNat_natCast]
    exact rt_move_go base R v ms k t w h hm hk ht
  · rw [if_neg hb]
    have hs : ∀ e w', e = Ending.returned (.int .i64 3) ∧ w' = w → e = Ending.returned (.int .i64 (ms, (3 : Int)).2) ∧ RtP w base R v (ms, (3 : Int)).1 w' := fun e w' hh => ⟨hh.1, by rw [hh.2]; exact RtP.same h (Below.refl _ _)⟩
    unfold hasF at hb
    simp only [decide_eq_true_eq] at hb
    by_cases h0 : k < 0
    · exact (rt_move_a base R v ms k t w h h0).mono hs
    · by_cases h1 : (ms.length : Int) ≤ k
      · exact (rt_move_b base R v ms k t w h ⟨by omega, h1⟩).mono hs
      · by_cases h2 : t < 0
        · exact (rt_move_c base R v ms k t w h ⟨by omega, by omega, h2⟩).mono hs
        · exact (rt_move_d base R v ms k t w h ⟨by omega, by omega, by omega, by omega⟩).mono hs
end Go.Proofs.Ytahijpfmpdjceaa
