/- ScriptReads: the walk. No condition. -/
import Derived.WalkSpells
import Derived.Outline
import Derived.Test.YtjilbcefikbihaaScRccQ
import Derived.Test.YtjilbcefikbihaaScLsQ
import Derived.Test.YtjilbcefikbihaaScCeQ
import Derived.Test.YtjilbcefikbihaaScFewQ
namespace Go.Proofs.Ytjilbcefikbihaa
open Go.RowKit
set_option linter.unusedVariables false
def FmV.wsK (F : FmV) : Prop := ∀ a e b, (F.get a e b).1.ws = a.ws
theorem getL_wsK : ∀ (l : List FmV), (∀ F ∈ l, F.wsK) → ∀ a e b, (getL l a e b).1.ws = a.ws
  | [], _, _, _, _ => rfl
  | f :: l, h, a, e, b => (getL_wsK l (fun F hF => h F (List.mem_cons_of_mem _ hF)) _ _ _).trans (h f List.mem_cons_self a e b)
theorem fm_few (n : Nat) (hn : n < 9) (k : Int) (e : Int) (b : ByteArray) : ((fmOf n).get (zeroK k) e b).1.ws.length ≤ 255 := by
  have hf : ∀ F ∈ fMs, F.wsK := fun F hF => by
    simp only [fMs, List.mem_cons, List.not_mem_nil, or_false] at hF
    rcases hF with rfl | rfl | rfl | rfl | rfl | rfl | rfl | rfl <;> exact fun _ _ _ => rfl
  have hs : ∀ F ∈ [fC, fT, fD], F.wsK := fun F hF => by
    simp only [List.mem_cons, List.not_mem_nil, or_false] at hF
    rcases hF with rfl | rfl | rfl <;> exact fun _ _ _ => rfl
  have h0 : ∀ {l : List (Bool × Int)}, l = [] → l.length ≤ 255 := fun h => by rw [h]; exact Nat.zero_le _
  have : n = 0 ∨ n = 1 ∨ n = 2 ∨ n = 3 ∨ n = 4 ∨ n = 5 ∨ n = 6 ∨ n = 7 ∨ n = 8 := by omega
  rcases this with rfl | rfl | rfl | rfl | rfl | rfl | rfl | rfl | rfl
  · rw [fm0, allF_get]; exact h0 (getL_wsK _ hs _ _ _)
  · exact h0 (show (fC.get (zeroK k) e b).1.ws = [] from rfl)
  · rw [fm2, allF_get]; exact h0 (getL_wsK [] (fun F hF => by cases hF) _ _ _)
  · exact h0 (show (fN.get (zeroK k) e b).1.ws = [] from rfl)
  · exact h0 (show (fN.get (zeroK k) e b).1.ws = [] from rfl)
  · exact h0 (show (fN.get (zeroK k) e b).1.ws = [] from rfl)
  · rw [show fmOf 6 = allF fMs from rfl, allF_get]; exact h0 (getL_wsK _ hf _ _ _)
  · exact h0 (show (fN.get (zeroK k) e b).1.ws = [] from rfl)
  · show (([] : List (Bool × Int)) ++ (getW (byteF e b).1.toNat (byteF e b).2.1 (byteF e b).2.2).1).length ≤ 255
    rw [List.nil_append, getW_len]
    have := byteF_val e b
    omega
theorem ent_few : ∀ (n : Nat) (s : ByteArray), ∀ p ∈ entG n s, p.1.ws.length ≤ 1000
  | 0, _, p, hp => by cases hp
  | n + 1, s, p, hp => by
    unfold entG at hp
    split at hp
    · cases hp
    · rcases List.mem_cons.1 hp with rfl | h
      · unfold entStep
        split
        · split
          · have hv := byteF_val 0 s
            have := fm_few (byteF 0 s).1.toNat (by omega) (byteF 0 s).1 (byteF 0 s).2.1 (byteF 0 s).2.2
            exact Nat.le_trans this (by decide)
          · exact Nat.zero_le _
        · exact Nat.zero_le _
      · exact ent_few n _ p h
theorem ens_few {xs : List EnX} {s : ByteArray} (h : xs.map EnX.out = entF s) : EnsFew xs := fun x hx => by
  have h2 : x.out ∈ entF s := by rw [← h]; exact List.mem_map.2 ⟨x, hx, rfl⟩
  exact ent_few _ s x.out h2
theorem numF_u64 (e : Int) (s : ByteArray) : 0 ≤ (numF e s).1 ∧ (numF e s).1 < 18446744073709551616 := by
  have h := whole_lt e s 8
  unfold numF
  dsimp only
  omega
theorem cfg_wf (s : ByteArray) : (cfgF s).1.wf := ⟨numF_u64 _ _, numF_u64 _ _, numF_u64 _ _, numF_u64 _ _⟩
set_option maxRecDepth 100000 in
set_option maxHeartbeats 4000000 in
theorem scriptReads_walk (s : ByteArray) (_w0 : s.size ≤ maxLen) (W : World) :
    Calls Try.prog 4 #[.string s] W fun x w' => x = .returned (.bool true) ∧ Below W.heap.size W w' := by
  go_enter Try.func4, Try.ntmps4
  go_wp2_with fail
  refine (awake23 W).mono ?_
  rintro x w1 ⟨rfl, b1⟩
  have H1 := Lib.hid b1
  clear b1
  by_cases hs : 5000 < s.size
  · have t0 : decide ((5000 : Int) < (s.size : Int)) = true := decide_eq_true (by omega)
    have t1 : decide (5000 < s.size) = true := decide_eq_true hs
    have t2 : (5000 : Int) < (s.size : Int) := by omega
    go_wp2
    go_ret
    exact ⟨rfl, H1.out⟩
  have t0 : decide ((5000 : Int) < (s.size : Int)) = false := decide_eq_false (by omega)
  have t1 : decide (5000 < s.size) = false := decide_eq_false hs
  have t2 : ¬ (5000 : Int) < (s.size : Int) := by omega
  have HSZ : Hid (s.size ≤ 5000) := Lib.hid (by omega)
  obtain ⟨c, hc⟩ : ∃ z : CoV, z = if (cfgF s).2.1 = 0 then (cfgF s).1 else CoV.zero := ⟨_, rfl⟩
  obtain ⟨r, hr⟩ : ∃ z : ByteArray, z = if (cfgF s).2.1 = 0 then (cfgF s).2.2 else ⟨#[]⟩ := ⟨_, rfl⟩
  obtain ⟨e, he⟩ : ∃ z : Int, z = (cfgF s).2.1 := ⟨_, rfl⟩
  have HR : Hid (∀ x : Ending, ((cfgF s).2.1 = 0 → x = .returned (.tuple #[.agg (cfgF s).1.cells, .string (cfgF s).2.2, .int .i64 0])) ∧ ((cfgF s).2.1 ≠ 0 → x = .returned (.tuple #[.agg CoV.zero.cells, .string ⟨#[]⟩, .int .i64 (cfgF s).2.1])) → x = .returned (.tuple #[.agg #[.int .i64 c.sec, .int .i64 c.secs, .int .i64 c.tb, .int .i64 c.bt, .int .i64 c.sc, .int .u64 c.h0, .int .u64 c.h1, .int .u64 c.s0, .int .u64 c.s1], .string r, .int .i64 e])) := Lib.hid (fun x h => by
    by_cases h0 : (cfgF s).2.1 = 0
    · rw [if_pos h0] at hc hr
      rw [h.1 h0, hc, hr, he, h0]; rfl
    · rw [if_neg h0] at hc hr
      rw [h.2 h0, hc, hr, he]; rfl)
  have HWF : Hid (c.wf) := Lib.hid (by
    rw [hc]
    split
    · exact cfg_wf s
    · exact ⟨⟨by decide, by decide⟩, ⟨by decide, by decide⟩, ⟨by decide, by decide⟩, ⟨by decide, by decide⟩⟩)
  clear hc hr he hs
  go_wp2_with fail
  clear t0 t1 t2
  refine (sc_config s w1 (by have := HSZ.out; omega)).mono ?_
  rintro x w2 ⟨b2, hx⟩
  obtain rfl := HR.out x hx
  obtain ⟨D, hD⟩ : ∃ z, z = w2.heap.size := ⟨_, rfl⟩
  obtain ⟨w3, hw3⟩ : ∃ z, z = w2.alloc (.cells #[.int .i64 c.sec, .int .i64 c.secs, .int .i64 c.tb, .int .i64 c.bt, .int .i64 c.sc, .int .u64 c.h0, .int .u64 c.h1, .int .u64 c.s0, .int .u64 c.s1] 32) := ⟨_, rfl⟩
  have H3 : Hid (w3.heap[D]? = some (.cells #[.int .i64 c.sec, .int .i64 c.secs, .int .i64 c.tb, .int .i64 c.bt, .int .i64 c.sc, .int .u64 c.h0, .int .u64 c.h1, .int .u64 c.s0, .int .u64 c.s1] 32 (0, 0)) ∧ Below W.heap.size W w3) := Lib.hid (by
    have hb : Below w2.heap.size w2 w3 := by rw [hw3]; exact Kq.below_alloc _ _
    exact ⟨by rw [hw3, hD]; exact Kq.blk_new _ _ _ _, H1.out.trans ((b2.trans (hb.mono b2.size)).mono H1.out.size)⟩)
  clear b2 hx
  go_wp2_with fail
  rw [← hw3]
  try rw [← hD]
  clear hw3 hD
  refine (rc_config s w3 HSZ.out).mono ?_
  rintro x w4 ⟨b4, hx⟩
  obtain rfl := HR.out x hx
  obtain ⟨G, hG⟩ : ∃ z, z = w4.heap.size := ⟨_, rfl⟩
  obtain ⟨w5, hw5⟩ : ∃ z, z = w4.alloc (.cells #[.int .i64 c.sec, .int .i64 c.secs, .int .i64 c.tb, .int .i64 c.bt, .int .i64 c.sc, .int .u64 c.h0, .int .u64 c.h1, .int .u64 c.s0, .int .u64 c.s1] 32) := ⟨_, rfl⟩
  have H5 : Hid (w5.heap[D]? = some (.cells #[.int .i64 c.sec, .int .i64 c.secs, .int .i64 c.tb, .int .i64 c.bt, .int .i64 c.sc, .int .u64 c.h0, .int .u64 c.h1, .int .u64 c.s0, .int .u64 c.s1] 32 (0, 0)) ∧ w5.heap[G]? = some (.cells #[.int .i64 c.sec, .int .i64 c.secs, .int .i64 c.tb, .int .i64 c.bt, .int .i64 c.sc, .int .u64 c.h0, .int .u64 c.h1, .int .u64 c.s0, .int .u64 c.s1] 32 (0, 0)) ∧ Below W.heap.size W w5) := Lib.hid (by
    have hb : Below w4.heap.size w4 w5 := by rw [hw5]; exact Kq.below_alloc _ _
    have hbb := b4.trans (hb.mono b4.size)
    exact ⟨Kq.below_blk hbb H3.out.1 (Kq.blk_lt H3.out.1), by rw [hw5, hG]; exact Kq.blk_new _ _ _ _, H3.out.2.trans (hbb.mono H3.out.2.size)⟩)
  clear b4 hx
  go_wp2_with fail
  rw [← hw5]
  try rw [← hG]
  clear hw5 hG
  refine (sc_entries s w5 (by have := HSZ.out; omega)).mono ?_
  rintro x w6 ⟨A6, c6, xs, rfl, hat6, hm6, b6⟩
  have H6 := Lib.hid (And.intro hat6 (And.intro hm6 b6))
  clear hat6 hm6 b6
  go_wp2_with fail
  refine (re_entries s w6 HSZ.out).mono ?_
  rintro x w7 ⟨A7, c7, ys, rfl, hat7, hm7, b7⟩
  have H7 : Hid (EnsAt w7 A6 xs ∧ EnsAt w7 A7 ys ∧ xs.map EnX.out = ys.map EnX.out ∧ EnsFew xs ∧ EnsFew ys ∧ xs.length ≤ 100000000 ∧ w7.heap[D]? = some (.cells #[.int .i64 c.sec, .int .i64 c.secs, .int .i64 c.tb, .int .i64 c.bt, .int .i64 c.sc, .int .u64 c.h0, .int .u64 c.h1, .int .u64 c.s0, .int .u64 c.s1] 32 (0, 0)) ∧ w7.heap[G]? = some (.cells #[.int .i64 c.sec, .int .i64 c.secs, .int .i64 c.tb, .int .i64 c.bt, .int .i64 c.sc, .int .u64 c.h0, .int .u64 c.h1, .int .u64 c.s0, .int .u64 c.s1] 32 (0, 0)) ∧ Below W.heap.size W w7) := Lib.hid (by
    have hbb := H6.out.2.2.trans (b7.mono H6.out.2.2.size)
    refine ⟨H6.out.1.below b7, hat7, by rw [H6.out.2.1, hm7], ens_few H6.out.2.1, ens_few hm7, ?_, Kq.below_blk hbb H5.out.1 (Kq.blk_lt H5.out.1), Kq.below_blk hbb H5.out.2.1 (Kq.blk_lt H5.out.2.1), H5.out.2.2.trans (hbb.mono H5.out.2.2.size)⟩
    have h1 := congrArg List.length H6.out.2.1
    rw [List.length_map] at h1
    have := entF_len s
    have := HSZ.out
    omega)
  clear hat7 hm7 b7 H6
  go_wp2_with fail
  refine (lw_entries A6 A7 c6 c7 xs ys w7 H7.out.1 H7.out.2.1 H7.out.2.2.2.1 H7.out.2.2.2.2.1 H7.out.2.2.2.2.2.1).mono ?_
  rintro x w8 ⟨rfl, b8⟩
  have d0 : decide (xs.map EnX.out = ys.map EnX.out) = true := decide_eq_true H7.out.2.2.1
  rw [d0]
  have H8 : Hid (w8.heap[D]? = some (.cells #[.int .i64 c.sec, .int .i64 c.secs, .int .i64 c.tb, .int .i64 c.bt, .int .i64 c.sc, .int .u64 c.h0, .int .u64 c.h1, .int .u64 c.s0, .int .u64 c.s1] 32 (0, 0)) ∧ w8.heap[G]? = some (.cells #[.int .i64 c.sec, .int .i64 c.secs, .int .i64 c.tb, .int .i64 c.bt, .int .i64 c.sc, .int .u64 c.h0, .int .u64 c.h1, .int .u64 c.s0, .int .u64 c.s1] 32 (0, 0)) ∧ Below W.heap.size W w8) := Lib.hid ⟨Kq.below_blk b8 H7.out.2.2.2.2.2.2.1 (Kq.blk_lt H7.out.2.2.2.2.2.2.1), Kq.below_blk b8 H7.out.2.2.2.2.2.2.2.1 (Kq.blk_lt H7.out.2.2.2.2.2.2.2.1), H7.out.2.2.2.2.2.2.2.2.trans (b8.mono H7.out.2.2.2.2.2.2.2.2.size)⟩
  clear b8 d0
  have k0 : w8.cell? ⟨D, 0, none⟩ = some (.int .i64 c.sec) := Kq.blk_cell H8.out.1 0
  have k1 : w8.cell? ⟨D, 1, none⟩ = some (.int .i64 c.secs) := Kq.blk_cell H8.out.1 1
  have k2 : w8.cell? ⟨D, 2, none⟩ = some (.int .i64 c.tb) := Kq.blk_cell H8.out.1 2
  have k3 : w8.cell? ⟨D, 3, none⟩ = some (.int .i64 c.bt) := Kq.blk_cell H8.out.1 3
  have k4 : w8.cell? ⟨D, 4, none⟩ = some (.int .i64 c.sc) := Kq.blk_cell H8.out.1 4
  have k5 : w8.cell? ⟨D, 5, none⟩ = some (.int .u64 c.h0) := Kq.blk_cell H8.out.1 5
  have k6 : w8.cell? ⟨D, 6, none⟩ = some (.int .u64 c.h1) := Kq.blk_cell H8.out.1 6
  have k7 : w8.cell? ⟨D, 7, none⟩ = some (.int .u64 c.s0) := Kq.blk_cell H8.out.1 7
  have k8 : w8.cell? ⟨D, 8, none⟩ = some (.int .u64 c.s1) := Kq.blk_cell H8.out.1 8
  have d0 : w8.cell? ⟨G, 0, none⟩ = some (.int .i64 c.sec) := Kq.blk_cell H8.out.2.1 0
  have d1 : w8.cell? ⟨G, 1, none⟩ = some (.int .i64 c.secs) := Kq.blk_cell H8.out.2.1 1
  have d2 : w8.cell? ⟨G, 2, none⟩ = some (.int .i64 c.tb) := Kq.blk_cell H8.out.2.1 2
  have d3 : w8.cell? ⟨G, 3, none⟩ = some (.int .i64 c.bt) := Kq.blk_cell H8.out.2.1 3
  have d4 : w8.cell? ⟨G, 4, none⟩ = some (.int .i64 c.sc) := Kq.blk_cell H8.out.2.1 4
  have d5 : w8.cell? ⟨G, 5, none⟩ = some (.int .u64 c.h0) := Kq.blk_cell H8.out.2.1 5
  have d6 : w8.cell? ⟨G, 6, none⟩ = some (.int .u64 c.h1) := Kq.blk_cell H8.out.2.1 6
  have d7 : w8.cell? ⟨G, 7, none⟩ = some (.int .u64 c.s0) := Kq.blk_cell H8.out.2.1 7
  have d8 : w8.cell? ⟨G, 8, none⟩ = some (.int .u64 c.s1) := Kq.blk_cell H8.out.2.1 8
  have hq := cfg_eql c HWF.out
  have hqr : (r.toList == r.toList) = true := beq_self_eq_true _
  have hqe : (e == e) = true := beq_self_eq_true _
  go_wp2
  go_ret
  exact ⟨rfl, H8.out.2.2⟩
end Go.Proofs.Ytjilbcefikbihaa
