/- Contract of the reference's net: Take. Condition: sizes. -/
import Derived.WalkSpells
import Derived.Outline
import Derived.Deep.QuietTactic
import Derived.Test.YtahijpfmpdjceaaNtRefSend
namespace Go.Proofs.Ytahijpfmpdjceaa
open Go.RowKit
set_option linter.unusedVariables false
theorem rt_far {w wd cur w2 : World} {base R : Nat} {v : Value} {ms ms' : List MsgV} (h : RtS w base R v ms) (hb : Below w.heap.size w wd) (hZ : w.heap.size < wd.heap.size) (hp : RtP wd base R v ms' cur) (hk : Kq.Keeps (· = w.heap.size) cur w2) : RtP w base R v ms' w2 := by
  obtain ⟨v', r1, r2, r3⟩ := hp
  have hR := Kq.blk_lt h.blk
  refine ⟨v', r1.keeps hk (fun e => by omega) (fun j hj e => ?_), ?_, fun j hj => (r3 j hj).imp id (Nat.le_trans hb.size)⟩
  · rcases r3 j hj with h1 | h1
    · have := (h.own.lt j h1).2; omega
    · omega
  · have k1 : Kq.Keeps (· = R) w cur := (Kq.Keeps.of_below hb (fun j h1 h2 => absurd h2 (Nat.not_lt.2 h1))).trans r2
    exact ⟨hk.os.trans k1.os, hk.tape.trans k1.tape, hk.output.trans k1.output, Nat.le_trans k1.size hk.size, fun j hj hn => (hk.block j (Nat.lt_of_lt_of_le hj k1.size) (by omega)).trans (k1.block j hj hn)⟩
set_option maxRecDepth 100000 in
set_option maxHeartbeats 4000000 in
theorem rt_take_go (base R : Nat) (v : Value) (ms : List MsgV) (k : Nat) (w : World) (h : RtS w base R v ms) (hm : ms.length ≤ 256) (hk : k < ms.length) :
    Calls Try.prog 13 #[.pointer (some ⟨R, 0, none⟩), .int .i64 (k : Int)] w fun e w' => e = .returned (.tuple #[ms[k].val, .int .i64 0]) ∧ RtP w base R v (ms.take k ++ ms.drop (k + 1)) w' := by
  obtain ⟨i0, hi, hz0, hz1, hz2⟩ := info_parts infoMsg
  have H := Lib.hid h
  obtain ⟨w0, hw0⟩ : ∃ z, z = w.alloc (.cells #[.int .i64 0, .int .i64 0, .int .u64 0, .int .i64 0, .int .u64 0, .int .u64 0, .string ⟨#[]⟩, .string ⟨#[]⟩] 39) := ⟨_, rfl⟩
  have hb0 : Below w.heap.size w w0 := by rw [hw0]; exact Kq.below_alloc _ _
  obtain ⟨LA, lcap, hv', hLc, hL0, hLat⟩ := h.at
  subst hv'
  obtain ⟨g, o, rfl, hg, hc⟩ := (hLat.below hb0) k hk
  have c0 : w0.cell? ⟨R, 0, none⟩ = some (.slice (some ⟨g, o, none⟩) ms.length lcap) := (h.below hb0).c0
  unfold MsgV.val
  obtain ⟨m, hm2⟩ : ∃ m, m = ms[k] := ⟨_, rfl⟩
  rw [← hm2] at hc ⊢
  have k0 := hc 0 (by omega)
  have k1 := hc 1 (by omega)
  have k2 := hc 2 (by omega)
  have k3 := hc 3 (by omega)
  have k4 := hc 4 (by omega)
  have k5 := hc 5 (by omega)
  have k6 := hc 6 (by omega)
  have k7 := hc 7 (by omega)
  simp only [Nat.add_zero, MsgV.cells, List.getElem?_cons_zero, List.getElem?_cons_succ] at k0 k1 k2 k3 k4 k5 k6 k7
  obtain ⟨n, hn⟩ : ∃ n, n = ms.length := ⟨_, rfl⟩
  rw [← hn] at c0 hLc hm hk
  have HLEN : Hid (n ≤ 256 ∧ k < n ∧ n = ms.length ∧ n ≤ lcap) := Lib.hid ⟨hm, hk, hn, hLc⟩
  have HLA := Lib.hid hLat
  have e1 : (k : Int) < (n : Int) := by omega
  have d1 : decide ((k : Int) < 0) = false := decide_eq_false (by omega)
  have d2 : decide ((n : Int) ≤ (k : Int)) = false := decide_eq_false (by omega)
  have d3 : decide (n ≤ k) = false := decide_eq_false (by omega)
  have d4 : (k : Int) ≤ (lcap : Int) := by omega
  obtain ⟨a1, ha1⟩ : ∃ a1, a1 = k + 1 := ⟨_, rfl⟩
  have HA1 := Lib.hid ha1
  obtain ⟨m3, m4⟩ := wrap_succ k a1 ha1 (by omega)
  have sl := fun wx => netMoves.sub_run (some ⟨g, o, none⟩) n lcap a1 (by omega) wx
  obtain ⟨SA, hSA⟩ : ∃ z, z = netMoves.subA (some ⟨g, o, none⟩) lcap a1 := ⟨_, rfl⟩
  rw [← hSA] at sl
  have HSA := Lib.hid hSA
  have hz : w0.heap[w.heap.size]? = some (.cells #[.int .i64 0, .int .i64 0, .int .u64 0, .int .i64 0, .int .u64 0, .int .u64 0, .string ⟨#[]⟩, .string ⟨#[]⟩] 39 (0, 0)) := by rw [hw0]; exact Kq.blk_new _ _ _ _
  have hz9 : w0.heap.size = w.heap.size + 1 := by rw [hw0]; exact Array.size_push _
  have HZ := Lib.hid (And.intro hz (And.intro hz9 hb0))
  clear h hc hg hLat hLc hL0 hn hm hm2 ha1 hSA hz hz9 hb0 hk
  subst hw0
  go_enter Try.func13, Try.ntmps13
  go_wp2
  clear k0 k1 k2 k3 k4 k5 k6 k7
  obtain ⟨w0, hw0⟩ : ∃ z, z = w.alloc (.cells #[.int .i64 0, .int .i64 0, .int .u64 0, .int .i64 0, .int .u64 0, .int .u64 0, .string ⟨#[]⟩, .string ⟨#[]⟩] 39) := ⟨_, rfl⟩
  rw [← hw0] at HZ c0 ⊢
  clear hw0
  obtain ⟨wb, hwb⟩ : ∃ z, z = w0.alloc (.cells #[.int .i64 m.kind, .int .i64 m.to, .int .u64 m.ht, .int .i64 m.fr, .int .u64 m.sq, .int .u64 m.tm, .string m.d, .string m.p] 39) := ⟨_, rfl⟩
  rw [← hwb]
  obtain ⟨wd, hwd⟩ : ∃ z, z = wb.drew := ⟨_, rfl⟩
  have hbw : Below w0.heap.size w0 wd := by rw [hwd, hwb]; exact (Kq.below_alloc _ _).drew
  have hb1 : Below w.heap.size w wd := HZ.out.2.2.trans (hbw.mono (by rw [HZ.out.2.1]; exact Nat.le_succ _))
  have hsz : wd.heap.size = w.heap.size + 2 := by
    rw [hwd, hwb]
    show (w0.heap.push _).size = _
    rw [Array.size_push, HZ.out.2.1]
  have hbx : wd.heap[w.heap.size + 1]? = some (.cells #[.int .i64 m.kind, .int .i64 m.to, .int .u64 m.ht, .int .i64 m.fr, .int .u64 m.sq, .int .u64 m.tm, .string m.d, .string m.p] 39 (0, 0)) := by rw [hwd, hwb, ← HZ.out.2.1]; exact Kq.blk_new _ _ _ _
  have hbz : wd.heap[w.heap.size]? = some (.cells #[.int .i64 0, .int .i64 0, .int .u64 0, .int .i64 0, .int .u64 0, .int .u64 0, .string ⟨#[]⟩, .string ⟨#[]⟩] 39 (0, 0)) := Kq.below_blk hbw HZ.out.1 (by rw [HZ.out.2.1]; exact Nat.lt_succ_self _)
  have HWD := Lib.hid (And.intro hb1 (And.intro hsz (And.intro hbz hbx)))
  have HMwd : Hid (Mid wd wd) := Lib.hid (Kq.Keeps.refl _ _)
  have hR : R < w.heap.size := Kq.blk_lt H.out.blk
  have HR := Lib.hid hR
  have hc0 := (H.out.below hb1).c0
  have hnn := HLEN.out.2.2.1
  rw [← hnn] at hc0
  have SH : ∀ cur : World, Below wd.heap.size wd cur → cur.cell? ⟨R, 0, none⟩ = some (.slice (some ⟨g, o, none⟩) n lcap) := fun cur hb => (hb.cell (p := ⟨R, 0, none⟩) (Nat.lt_of_lt_of_le hR hb1.size)).trans hc0
  have LAT : ∀ cur : World, Below wd.heap.size wd cur → MsAt cur (some ⟨g, o, none⟩) ms := fun cur hb => HLA.out.below (hb1.trans (hb.mono hb1.size))
  have HLAT := Lib.hid LAT
  refine Kq.wp_region_T 19 (fun cur => cur.cell? ⟨R, 0, none⟩ = some (.slice (some ⟨g, o, none⟩) n lcap)) (by kernel_rfl) (by rw [← hwd]; exact hc0) (fun hS0 => ?_)
  rw [← hwd] at hS0 ⊢
  clear hwd hwb hbw hb1 hsz hbx hbz c0 hc0 hnn hR LAT HZ
  refine Kq.wpAnyT_take (i := 0) (v := ?_) rfl rfl (by kernel_rfl) (by kernel_rfl) (by kernel_rfl) (by kernel_rfl) (fun _ _ _ h => h) (Or.inl ⟨by kernel_rfl, ?_⟩) (by assumption) ?_
  rotate_left
  · intro w hSw; (try dsimp only at hSw); go_simp; (try with_reducible rfl)
  refine Kq.wpAnyT_take (i := 2) (v := ?_) rfl rfl (by kernel_rfl) (by kernel_rfl) (by kernel_rfl) (by kernel_rfl) (fun _ _ _ h => h) (Or.inl ⟨by kernel_rfl, ?_⟩) (by assumption) ?_
  rotate_left
  · intro w hSw; (try dsimp only at hSw); go_simp; (try with_reducible rfl)
  refine Kq.wpAnyT_take (i := 3) (v := ?_) rfl rfl (by kernel_rfl) (by kernel_rfl) (by kernel_rfl) (by kernel_rfl) (fun _ _ _ h => h) (Or.inl ⟨by kernel_rfl, ?_⟩) (by assumption) ?_
  rotate_left
  · intro w hSw; (try dsimp only at hSw); go_simp; (try with_reducible rfl)
  refine Kq.wpAnyT_take (i := 4) (v := ?_) rfl rfl (by kernel_rfl) (by kernel_rfl) (by kernel_rfl) (by kernel_rfl) (fun _ _ _ h => h) (Or.inl ⟨by kernel_rfl, ?_⟩) (by assumption) ?_
  rotate_left
  · intro w hSw; (try dsimp only at hSw); go_simp; (try with_reducible rfl)
  refine Kq.wpAnyT_take (i := 5) (v := ?_) rfl rfl (by kernel_rfl) (by kernel_rfl) (by kernel_rfl) (by kernel_rfl) (fun _ _ _ h => h) (Or.inl ⟨by kernel_rfl, ?_⟩) (by assumption) ?_
  rotate_left
  · intro w hSw; (try dsimp only at hSw); go_simp; (try with_reducible rfl)
  refine Kq.wpAnyT_take (i := 6) (v := ?_) rfl rfl (by kernel_rfl) (by kernel_rfl) (by kernel_rfl) (by kernel_rfl) (fun _ _ _ h => h) (Or.inl ⟨by kernel_rfl, ?_⟩) (by assumption) ?_
  rotate_left
  · intro w hSw; (try dsimp only at hSw); go_simp; (try with_reducible rfl)
  refine Kq.wpAnyT_take (i := 7) (v := ?_) rfl rfl (by kernel_rfl) (by kernel_rfl) (by kernel_rfl) (by kernel_rfl) (fun _ _ _ h => h) (Or.inl ⟨by kernel_rfl, ?_⟩) (by assumption) ?_
  rotate_left
  · intro w hSw; (try dsimp only at hSw); go_simp; (try with_reducible rfl)
  refine Kq.wpAnyT_take (i := 9) (v := ?_) rfl rfl (by kernel_rfl) (by kernel_rfl) (by kernel_rfl) (by kernel_rfl) (fun _ _ _ h => h) (Or.inl ⟨by kernel_rfl, ?_⟩) (by assumption) ?_
  rotate_left
  · intro w hSw; (try dsimp only at hSw); go_simp; (try with_reducible rfl)
  refine Kq.wpAnyT_take (i := 10) (v := ?_) rfl rfl (by kernel_rfl) (by kernel_rfl) (by kernel_rfl) (by kernel_rfl) (fun _ _ _ h => h) (Or.inl ⟨by kernel_rfl, ?_⟩) (by assumption) ?_
  rotate_left
  · intro w hSw; (try dsimp only at hSw); go_simp; (try with_reducible rfl)
  refine Kq.wpAnyT_take (i := 11) (v := ?_) rfl rfl (by kernel_rfl) (by kernel_rfl) (by kernel_rfl) (by kernel_rfl) (fun _ _ _ h => h) (Or.inl ⟨by kernel_rfl, ?_⟩) (by assumption) ?_
  rotate_left
  · intro w hSw; (try dsimp only at hSw); go_simp; (try with_reducible rfl)
  refine Kq.wpAnyT_take (i := 12) (v := ?_) rfl rfl (by kernel_rfl) (by kernel_rfl) (by kernel_rfl) (by kernel_rfl) (fun _ _ _ h => h) (Or.inl ⟨by kernel_rfl, ?_⟩) (by assumption) ?_
  rotate_left
  · intro w hSw; (try dsimp only at hSw); go_simp; (try with_reducible rfl)
  refine Kq.wpAnyT_take (i := 13) (v := ?_) rfl rfl (by kernel_rfl) (by kernel_rfl) (by kernel_rfl) (by kernel_rfl) (fun _ _ _ h => h) (Or.inl ⟨by kernel_rfl, ?_⟩) (by assumption) ?_
  rotate_left
  · intro w hSw; (try dsimp only at hSw); go_simp; (try with_reducible rfl)
  refine Kq.wpAnyT_take (i := 14) (v := ?_) rfl rfl (by kernel_rfl) (by kernel_rfl) (by kernel_rfl) (by kernel_rfl) (fun _ _ _ h => h) (Or.inl ⟨by kernel_rfl, ?_⟩) (by assumption) ?_
  rotate_left
  · intro w hSw; (try dsimp only at hSw); go_simp; (try with_reducible rfl)
  refine Kq.wpAnyT_take (i := 15) (v := ?_) rfl rfl (by kernel_rfl) (by kernel_rfl) (by kernel_rfl) (by kernel_rfl) (fun _ _ _ h => h) (Or.inl ⟨by kernel_rfl, ?_⟩) (by assumption) ?_
  rotate_left
  · intro w hSw; (try dsimp only at hSw); go_simp; (try with_reducible rfl)
  refine Kq.wpAnyT_one (i := 1) (by kernel_rfl) rfl (fun K hK => ?_)
  go_simp
  obtain ⟨wa, hw⟩ : ∃ z, z = wd.alloc (.cells #[] 39) := ⟨_, rfl⟩
  (try rw [← hw])
  have HMwa : Hid (Mid wd wa) := Lib.hid (by rw [hw]; exact HMwd.out.alloc _)
  obtain ⟨zb, hzb⟩ : ∃ z, z = wd.heap.size := ⟨_, rfl⟩
  have HRow : Hid (wa.ownsRow wd.heap.size 39 8 (.slice (some ⟨zb, 0, none⟩) 0 0) 0 []) := Lib.hid (by rw [hw, hzb]; exact World.ownsRow_made wd #[] 0 HMwd.out.size (Nat.zero_le _) rfl)
  have HZB : Hid (wd.heap.size ≤ zb) := Lib.hid (by rw [hzb]; exact HMwd.out.size)
  rw [← hzb]
  clear hw hzb
  refine hK.out _ _ (SH wa HMwa.out.below) (fun hS1 => ?_)
  clear hK K hS0
  have hS0 := hS1
  clear hS1
  refine Kq.wpAnyT_one (i := 8) (by kernel_rfl) rfl (fun K hK => ?_)
  rw [if_pos (by rfl)]
  refine Kq.wp_append_any _ (.tmp 27) (.tmp 33) 28 28 rfl wd.heap.size 39 i0 (.agg #[.int .i64 0, .int .i64 0, .int .u64 0, .int .i64 0, .int .u64 0, .int .u64 0, .string ⟨#[]⟩, .string ⟨#[]⟩]) 8 80 Try.underlying28 hi hz0 hz1 hz2 rfl (by decide) (.slice (some ⟨zb, 0, none⟩) 0 0) 0 [] rfl HRow.out (.slice (some ⟨g, o, none⟩) k lcap) k (mcells (ms.take k)) rfl ((HLAT.out _ HMwa.out.below).src k lcap (by have := HLEN.out; omega) (fun e => by cases e)) ?e1 ?e2 HMwa.out.size ?_
  case e1 => have := HLEN.out; unfold maxLen; omega
  case e2 => have := HLEN.out; omega
  intro v1 wc hown hgrow hfresh
  rw [Nat.zero_add, List.nil_append] at hown
  have HMwc : Hid (Mid wd wc) := Lib.hid (HMwa.out.grown hgrow (fun j hj => (HRow.out.lt j hj).1))
  have HRow := Lib.hid hown
  clear hown hgrow hfresh
  refine hK.out _ _ (SH wc HMwc.out.below) (fun hS1 => ?_)
  clear hK K hS0
  have hS0 := hS1
  clear hS1
  refine Kq.wpAnyT_one (i := 16) (by kernel_rfl) rfl (fun K hK => ?_)
  rw [if_pos (by rfl)]
  refine Kq.wp_append_any _ (.tmp 34) (.tmp 41) 28 28 rfl wd.heap.size 39 i0 (.agg #[.int .i64 0, .int .i64 0, .int .u64 0, .int .i64 0, .int .u64 0, .int .u64 0, .string ⟨#[]⟩, .string ⟨#[]⟩]) 8 80 Try.underlying28 hi hz0 hz1 hz2 rfl (by decide) v1 k (mcells (ms.take k)) rfl HRow.out (.slice SA (n - a1) (lcap - a1)) (n - a1) (mcells (ms.drop a1)) rfl (by have hd := netMoves.ms_sub (c := lcap) (HLAT.out _ HMwc.out.below) (by have := HLEN.out; omega) a1; rw [← HSA.out] at hd; have hq := hd.src (n - a1) (lcap - a1) (by rw [List.length_drop]; have := HLEN.out; omega) (fun e => by rw [HSA.out] at e; unfold netMoves.subA at e; split at e <;> cases e); rw [show (ms.drop a1).take (n - a1) = ms.drop a1 from List.take_of_length_le (by rw [List.length_drop]; have := HLEN.out; omega)] at hq; exact hq) ?e1 ?e2 HMwc.out.size ?_
  case e1 => have := HLEN.out; unfold maxLen; omega
  case e2 => have := HLEN.out; omega
  intro v2 wf hown hgrow hfresh
  rw [← mcells_append] at hown
  have HMwf : Hid (Mid wd wf) := Lib.hid (HMwc.out.grown hgrow (fun j hj => (HRow.out.lt j hj).1))
  have HRow := Lib.hid hown
  obtain ⟨a', n', cap', hv2⟩ := Kq.own_shape hown
  clear hown hgrow hfresh
  refine hK.out _ _ (SH wf HMwf.out.below) (fun hS1 => ?_)
  clear hK K hS0
  have hS0 := hS1
  clear hS1
  refine Kq.wpAnyT_one (i := 17) (by kernel_rfl) rfl (fun K hK => ?_)
  go_simp
  refine hK.out _ _ (SH wf HMwf.out.below) (fun hS1 => ?_)
  clear hK K hS0
  have hS0 := hS1
  clear hS1
  refine Kq.wpAnyT_take (i := 18) (v := ?_) rfl rfl (by kernel_rfl) (by kernel_rfl) (by kernel_rfl) (by kernel_rfl) (fun _ _ _ h => h) (Or.inl ⟨by kernel_rfl, ?_⟩) (by assumption) ?_
  rotate_left
  · intro w hSw; (try dsimp only at hSw); go_simp; (try with_reducible rfl)
  have f1 : wf.frozen? ⟨R, 0, none⟩ = false := by
    have hb := HMwf.out.below
    exact (H.out.below (HWD.out.1.trans (hb.mono HWD.out.1.size))).fz 0
  (try rw [hv2])
  refine Kq.wpAnyT_last (by kernel_rfl) rfl (fun K hK => ?_)
  go_simp
  refine hK.out _ _ ?_
  clear hK K
  refine Kq.wpAnyT_done (by kernel_rfl) ?_ _
  obtain ⟨wD, hwD⟩ : ∃ z, z = wf.setCell ⟨R, 0, none⟩ (.slice a' n' cap') := ⟨_, rfl⟩
  rw [← hwD]
  have hRl := HR.out
  have HP : Hid (RtP wd base R (.slice (some ⟨g, o, none⟩) n lcap) (ms.take k ++ ms.drop a1) wD) := by
    have hb := HMwf.out.below
    have h1 := H.out.below HWD.out.1
    have hl9 : k + (n - a1) = (ms.take k ++ ms.drop a1).length := by rw [List.length_append, List.length_take, List.length_drop]; have := HLEN.out; omega
    rw [← HLEN.out.2.2.1] at h1
    have hr := rt_close (v' := .slice a' n' cap') (ms' := ms.take k ++ ms.drop a1) (n := k + (n - a1)) h1 hb hl9 (by rw [← hv2]; exact HRow.out)
    rw [← hwD] at hr
    exact Lib.hid hr
  have kD : Kq.Keeps (· = R) wf wD := by rw [hwD]; exact Kq.Keeps.setCell _ _ _ rfl
  have hz := kD.blk (Kq.below_blk HMwf.out.below HWD.out.2.2.1 (by rw [HWD.out.2.1]; omega)) (fun e => by omega)
  have hm' := kD.blk (Kq.below_blk HMwf.out.below HWD.out.2.2.2 (by rw [HWD.out.2.1]; omega)) (fun e => by omega)
  have x0 := Kq.blk_cell hm' 0
  have x1 := Kq.blk_cell hm' 1
  have x2 := Kq.blk_cell hm' 2
  have x3 := Kq.blk_cell hm' 3
  have x4 := Kq.blk_cell hm' 4
  have x5 := Kq.blk_cell hm' 5
  have x6 := Kq.blk_cell hm' 6
  have x7 := Kq.blk_cell hm' 7
  have z0 := Kq.blk_cell hz 0
  have u0 := Kq.blk_free hz 0
  have z1 := Kq.blk_cell hz 1
  have u1 := Kq.blk_free hz 1
  have z2 := Kq.blk_cell hz 2
  have u2 := Kq.blk_free hz 2
  have z3 := Kq.blk_cell hz 3
  have u3 := Kq.blk_free hz 3
  have z4 := Kq.blk_cell hz 4
  have u4 := Kq.blk_free hz 4
  have z5 := Kq.blk_cell hz 5
  have u5 := Kq.blk_free hz 5
  have z6 := Kq.blk_cell hz 6
  have u6 := Kq.blk_free hz 6
  have z7 := Kq.blk_cell hz 7
  have u7 := Kq.blk_free hz 7
  simp only [List.getElem?_toArray, List.getElem?_cons_zero, List.getElem?_cons_succ] at x0 x1 x2 x3 x4 x5 x6 x7 z0 z1 z2 z3 z4 z5 z6 z7
  obtain ⟨cur', y1, y2, y3⟩ := setMsg_blk (w := wD) (m := m) hz (show 0 + 8 ≤ 8 by omega)
  have HY := Lib.hid (And.intro y1 y3)
  have HPZ : Hid (RtP w base R (.slice (some ⟨g, o, none⟩) ms.length lcap) (ms.take k ++ ms.drop (k + 1)) (setMsg wD w.heap.size 0 m)) := by
    have hp := HP.out
    rw [HLEN.out.2.2.1, HA1.out] at hp
    exact Lib.hid (rt_far H.out HWD.out.1 (by rw [HWD.out.2.1]; omega) hp (setMsg_keeps wD w.heap.size 0 m))
  clear hS0 f1 hv2 hwD kD hz hm' y1 y2 y3 HP
  go_wp2
  change bodyPost _ _ _ _ _ (setMsg wD w.heap.size 0 m)
  have hz' : (setMsg wD w.heap.size 0 m).heap[w.heap.size]? = some (.cells m.cells.toArray 39 (0, 0)) := by
    have e : cur' = m.cells.toArray := by
      apply Array.ext'
      rw [HY.out.2]
      simp [MsgV.cells]
    rw [HY.out.1, e]
  generalize setMsg wD w.heap.size 0 m = wz at *
  clear z0 z1 z2 z3 z4 z5 z6 z7 u0 u1 u2 u3 u4 u5 u6 u7 x0 x1 x2 x3 x4 x5 x6 x7
  have z0 := Kq.blk_cell hz' 0
  have z1 := Kq.blk_cell hz' 1
  have z2 := Kq.blk_cell hz' 2
  have z3 := Kq.blk_cell hz' 3
  have z4 := Kq.blk_cell hz' 4
  have z5 := Kq.blk_cell hz' 5
  have z6 := Kq.blk_cell hz' 6
  have z7 := Kq.blk_cell hz' 7
  simp only [MsgV.cells, List.getElem?_toArray, List.getElem?_cons_zero, List.getElem?_cons_succ] at z0 z1 z2 z3 z4 z5 z6 z7
  refine bodyPost_ret (v := .tuple #[.agg #[.int .i64 m.kind, .int .i64 m.to, .int .u64 m.ht, .int .i64 m.fr, .int .u64 m.sq, .int .u64 m.tm, .string m.d, .string m.p], .int .i64 0]) (by simp [results, Try.results13, go_sem, z0, z1, z2, z3, z4, z5, z6, z7]) rfl ?_
  exact ⟨rfl, HPZ.out⟩
end Go.Proofs.Ytahijpfmpdjceaa
