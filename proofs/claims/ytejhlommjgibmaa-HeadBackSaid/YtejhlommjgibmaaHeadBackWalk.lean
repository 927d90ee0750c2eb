/- carracklaw06.HeadBack walked. No condition. -/
import Derived.WalkSpells
import Derived.StillTailTactics
import Derived.Outline
import Derived.Test.YtejhlommjgibmaaHdAwake
import Derived.Test.YtejhlommjgibmaaCrcFlip
namespace Go.Proofs.Ytejhlommjgibmaa.headBack
open Go.RowKit
set_option linter.unusedVariables false
theorem kp {w w' : World} {k : Nat} {o : Obj} (h : w.heap[k]? = some o) (hb : Below w.heap.size w w') : w'.heap[k]? = some o := Kq.below_blk hb h (Kq.blk_lt h)
theorem boxed (W w : World) (cs : Array Value) (t : TypeId) (h : Below W.heap.size W w) : (w.alloc (.cells cs t)).heap[w.heap.size]? = some (.cells cs t (0, 0)) ∧ Below W.heap.size W (w.alloc (.cells cs t)) ∧ (∀ (k : Nat) (o : Obj), w.heap[k]? = some o → (w.alloc (.cells cs t)).heap[k]? = some o) :=
  ⟨Kq.blk_new w cs t (0, 0), h.trans ((Kq.below_alloc w _).mono h.size), fun k o hk => kp hk (Kq.below_alloc w _)⟩
theorem res_sum {a : Nat} {s : ByteArray} (ha : 64 ≤ a ∧ a ≤ 512) (hs : s.size = a) (hr : rightB s = false) : HdRes a s = .tuple #[.agg #[.int .u64 0, .int .i64 0], .int .i64 8] := by
  have h : hdGoodB a s = false := by rw [Bool.eq_false_iff]; intro h; have := (good_of h).hr; rw [hr] at this; cases this
  unfold HdRes; simp only [h, hdErr, ha, hs, hr, and_self, Bool.false_eq_true, if_false, if_true]; rfl
theorem res_put {a g sg : Nat} (h : HdOk a g sg) (hg : g < M64) : HdRes a (hdPut a g sg) = .tuple #[.agg #[.int .u64 (g : Int), .int .i64 (sg : Int)], .int .i64 0] := by
  rw [res_good (good_put a g sg h hg), gOf_put a g sg hg (by have := h.s1; omega), sOf_put a g sg (by have := h.s1; omega)]
theorem nw_back (a : Nat) (s t : ByteArray) (g h sg sh : Nat) (hs : hdGoodB a s = true) (ht : hdGoodB a t = true) (gs : gOf s = g) (gt : gOf t = h) (ss : sOf s = sg) (hlt : ¬ g < h) : nw a [s, t] 2 = (g, sg, 0) := by
  have h1 : nw a [s, t] 1 = (g, sg, 0) := by
    rw [show (1 : Nat) = 0 + 1 from rfl, nw_succ a [s, t] 0 (by simp)]
    show nwStep a (0, 0, -1) s 0 = _
    rw [nwStep, if_pos ⟨hs, Or.inl (by decide)⟩, gs, ss]; rfl
  rw [show (2 : Nat) = 1 + 1 from rfl, nw_succ a [s, t] 1 (by simp), h1]
  show nwStep a (g, sg, 0) t 1 = _
  rw [nwStep, if_neg (fun h => h.2.elim (fun x => by cases x) (fun x => by rw [gt] at x; exact hlt x))]
theorem byte_step (y k a : Nat) (L M : List Nat) (hMb : ∀ b ∈ M, b < 256) (hi : a + k < M.length) (he : CrcM.le M = CrcM.le L ^^^ (2 ^ (8 * a) * (y % 2 ^ (8 * k)))) :
    CrcM.le (M.set (a + k) (M[a + k] ^^^ (y / 2 ^ (8 * k) % 256))) = CrcM.le L ^^^ (2 ^ (8 * a) * (y % 2 ^ (8 * (k + 1)))) := by
  rw [CrcM.le_set M hMb _ hi _ (Nat.mod_lt _ (by decide)), he, Nat.xor_assoc]
  congr 1
  rw [Nat.mul_add, Nat.pow_add, Nat.mul_assoc, ← mul_xor]
  congr 1
  rw [CrcM.xor_shift (8 * k) _ _ (Nat.mod_lt _ (Nat.two_pow_pos _)), Nat.mul_add 8 k 1, Nat.pow_add, Nat.mod_mul]
theorem byte_lt (M : List Nat) (hMb : ∀ b ∈ M, b < 256) (i e : Nat) (hi : i < M.length) (he : e < 256) : ∀ b ∈ M.set i (M[i] ^^^ e), b < 256 := by
  intro b hb
  rcases List.mem_or_eq_of_mem_set hb with h | h
  · exact hMb b h
  · rw [h]; exact Nat.xor_lt_two_pow (n := 8) (hMb _ (List.getElem_mem _)) he
theorem byte_val (x y k : Nat) (hx : x < 256) : bits .xor .u8 (x : Int) ((y : Int) / 2 ^ (8 * k) % 256) = ((x ^^^ (y / 2 ^ (8 * k) % 256) : Nat) : Int) := by
  have e : ((y : Int) / 2 ^ (8 * k)) = ((y / 2 ^ (8 * k) : Nat) : Int) := by norm_cast
  rw [e]
  generalize y / 2 ^ (8 * k) = z
  have : ((z : Int) % 256) = ((z % 256 : Nat) : Int) := by omega
  rw [this, u8_xor_nat _ _ hx (Nat.mod_lt _ (by decide))]
theorem row_byte {w : World} {B : Nat} {M : List Nat} (h : Kq.Row w B M) (hb : ∀ b ∈ M, b < 256) (i y k : Nat) (hi : i < M.length) :
    Kq.Row (w.setCell ⟨B, i, none⟩ (.int .u8 (bits .xor .u8 ((M[i] : Nat) : Int) ((y : Int) / 2 ^ (8 * k) % 256)))).drew B (M.set i (M[i] ^^^ (y / 2 ^ (8 * k) % 256))) := by
  rw [byte_val _ _ _ (hb _ (List.getElem_mem _))]
  exact (h.set i _).drew
theorem nxs_flip (g sg : Nat) (hn : ¬ g + 1 = M64) (h : sg ≤ 1) : nxS g (sg : Int) = ((1 - sg : Nat) : Int) := by
  unfold nxS
  rw [if_neg hn]
  have : sg = 0 ∨ sg = 1 := by omega
  rcases this with rfl | rfl <;> rfl
set_option maxRecDepth 100000 in
set_option maxHeartbeats 2000000 in
theorem bad (a : Int) (g : Nat) (sg at_ by_ : Int) (W : World) (h : ¬ HdOk a g sg) :
    Calls Try.prog 4 #[.int .i64 a, .int .u64 (g : Int), .int .i64 sg, .int .i64 at_, .int .u32 by_] W fun x w' => x = .returned (.bool true) ∧ Below W.heap.size W w' := by
  have H := Lib.hid h
  clear h
  go_enter Try.func4, Try.ntmps4
  go_wp2_with fail
  refine (awake _).mono ?_
  rintro x w1 ⟨rfl, b1⟩
  have H1 := Lib.hid (boxed W w1 #[.int .u64 (g : Int), .int .i64 sg] 29 b1)
  clear b1
  go_wp2_with fail
  refine (hd_put_bad a g sg _ H.out).mono ?_
  rintro x w2 ⟨rfl, b2⟩
  have H2 := Lib.hid (H1.out.2.1.trans (b2.mono H1.out.2.1.size))
  clear b2
  go_wp2
  go_ret
  exact ⟨rfl, H2.out⟩
set_option maxRecDepth 100000 in
set_option maxHeartbeats 8000000 in
theorem fst (a g sg : Nat) (at_ : Int) (y : Nat) (W : World) (h : HdOk a g sg) (hg : g < M64) (hn : ¬ g + 1 = M64) (hy : y < CrcM.M) :
    Calls Try.prog 4 #[.int .i64 (a : Int), .int .u64 (g : Int), .int .i64 (sg : Int), .int .i64 at_, .int .u32 (y : Int)] W fun x w' => x = .returned (.bool true) ∧ Below W.heap.size W w' := by
  have HO := Lib.hid (And.intro h hg)
  have HSG : Hid (sg ≤ 1 ∧ 64 ≤ a ∧ a ≤ 512) := Lib.hid ⟨by have := h.s1; omega, by have := h.a0; omega, by have := h.a1; omega⟩
  have HSZ := Lib.hid (hdPut_size a g sg (by have := HSG.out; omega))
  have HR := Lib.hid (res_put h hg)
  have HBD := Lib.hid (show hdPut a g sg = sealT (txt (hdBody a g sg)) from rfl)
  have HBL : Hid ((txt (hdBody a g sg)).size + 4 = a) := Lib.hid (by rw [txt_size, hdBody_length a g sg (by have := HSG.out; omega)]; have := HSG.out; omega)
  have HGD := Lib.hid (good_put a g sg h hg)
  have HGO := Lib.hid (And.intro (gOf_put a g sg hg (by have := HSG.out; omega)) (sOf_put a g sg (by have := HSG.out; omega)))
  have HXN : Hid (nxG g = g + 1 ∧ nxS g (sg : Int) = ((1 - sg : Nat) : Int) ∧ nxE g = 0) := Lib.hid ⟨if_neg hn, nxs_flip g sg hn HSG.out.1, if_neg hn⟩
  have hno : HdOk a (g + 1) ((1 - sg : Nat) : Int) := ⟨h.a0, h.a1, by omega, by omega, by omega⟩
  have hnl : g + 1 < M64 := by omega
  have HTZ := Lib.hid (hdPut_size a (g + 1) (1 - sg) (by have := HSG.out; omega))
  have hgdt := good_put a (g + 1) (1 - sg) hno hnl
  have hgot := gOf_put a (g + 1) (1 - sg) hnl (by omega)
  have hsot := sOf_put a (g + 1) (1 - sg) (by omega)
  have HW1 := Lib.hid (nw_two a _ _ g (g + 1) sg (1 - sg) HGD.out hgdt HGO.out.1 hgot HGO.out.2 hsot (by omega))
  have HW2 := Lib.hid (nw_back a _ _ (g + 1) g (1 - sg) sg hgdt HGD.out hgot HGO.out.1 hsot (by omega))
  have hpt := Lib.hid (fun w => hd_put_ok a (g + 1) (1 - sg) w hno hnl)
  have hs1 : (sg : Int) ≤ 1 := by have := HSG.out.1; omega
  have e13 : (((1 - sg : Nat) : Int) != 1 - (sg : Int)) = false := by have := HSG.out.1; simp; omega
  clear hno hnl hgdt hgot hsot
  generalize hdPut a (g + 1) (1 - sg) = T at *
  obtain ⟨gn, hgn⟩ : ∃ n, n = g + 1 := ⟨_, rfl⟩
  obtain ⟨sn, hsn⟩ : ∃ n, n = 1 - sg := ⟨_, rfl⟩
  rw [← hgn] at HW1 HW2 hpt HXN
  rw [← hsn] at HW1 HW2 hpt HXN e13
  clear hgn hsn
  have hp := Lib.hid (fun w => hd_put_ok a g sg w h hg)
  have hng := Lib.hid (fun w => hd_next g (sg : Int) w hg)
  have HY := Lib.hid hy
  clear h hg hy hn
  have e1 : (((hdPut a g sg).size : Int) != (a : Int)) = false := by rw [HSZ.out]; simp
  have e2 : ((hdPut a g sg).size != a) = false := by rw [HSZ.out]; simp
  obtain ⟨S, hS⟩ : ∃ S, S = hdPut a g sg := ⟨_, rfl⟩
  rw [← hS] at HSZ HR HBD HGD HGO hp e1 e2 HW1 HW2
  clear hS
  go_enter Try.func4, Try.ntmps4
  go_wp2_with fail
  refine (awake _).mono ?_
  rintro x w1 ⟨rfl, b1⟩
  have H1 := Lib.hid (boxed W w1 #[.int .u64 (g : Int), .int .i64 (sg : Int)] 29 b1)
  clear b1
  go_wp2_with fail
  refine (hp.out _).mono ?_
  rintro x w2 ⟨rfl, b2⟩
  have H2 := Lib.hid (And.intro (kp H1.out.1 b2) (H1.out.2.1.trans (b2.mono H1.out.2.1.size)))
  clear b2 H1
  generalize w1.heap.size = X0 at *
  go_wp2_with fail
  refine (hd_get' a S _ (by rw [HSZ.out]; have := HSG.out; unfold maxLen; omega)).mono ?_
  rw [show ((a : Int)).toNat = a from Int.toNat_natCast a, HR.out]
  rintro x w3 ⟨rfl, b3⟩
  have Q3 := Lib.hid (boxed W w3 #[.int .u64 (g : Int), .int .i64 (sg : Int)] 29 (H2.out.2.trans (b3.mono H2.out.2.size)))
  have H3 := Lib.hid (And.intro (Q3.out.2.2 _ _ (kp H2.out.1 b3)) (And.intro Q3.out.1 Q3.out.2.1))
  clear b3 H2 Q3
  generalize hX1 : w3.heap.size = X1 at *
  have x0 := Kq.blk_cell H3.out.1 0
  have x1 := Kq.blk_cell H3.out.1 1
  have x2 := Kq.blk_cell H3.out.2.1 0
  have x3 := Kq.blk_cell H3.out.2.1 1
  clear hX1
  go_wp2_with fail
  refine (hng.out _).mono ?_
  rw [HXN.out.1, HXN.out.2.1, HXN.out.2.2]
  rintro x w4 ⟨rfl, b4⟩
  have H4 := Lib.hid (boxed W w4 #[.int .u64 (gn : Int), .int .i64 (sn : Int)] 29 (H3.out.2.2.trans (b4.mono H3.out.2.2.size)))
  clear b4 H3 HXN x0 x1 x2 x3
  go_wp2_with fail
  refine (hpt.out _).mono ?_
  rintro x w5 ⟨rfl, b5⟩
  have H5 := Lib.hid (And.intro (kp H4.out.1 b5) (H4.out.2.1.trans (b5.mono H4.out.2.1.size)))
  clear b5 H4
  generalize w4.heap.size = X3 at *
  have x0 := Kq.blk_cell H5.out.1 0
  have x1 := Kq.blk_cell H5.out.1 1
  go_wp2_with fail
  refine (hd_newest a (some ⟨w5.heap.size, 0, none⟩) 2 [S, T] _ (by simp) (by intro s hs; simp at hs; rcases hs with rfl | rfl; (rw [HSZ.out]; have := HSG.out; unfold maxLen; omega); (rw [HTZ.out]; have := HSG.out; unfold maxLen; omega)) (strs_two w5 S T _)).mono ?_
  rw [show ((a : Int)).toNat = a from Int.toNat_natCast a, show nw a [S, T] [S, T].length = _ from HW1.out]
  rintro x w6 ⟨rfl, b6⟩
  have Q6 := Lib.hid (boxed W w6 #[.int .u64 (gn : Int), .int .i64 (sn : Int)] 29 (H5.out.2.trans (((Kq.below_alloc w5 (.cells #[.string S, .string T] 9)).trans (b6.mono (Kq.below_alloc w5 _).size)).mono H5.out.2.size)))
  have H6 := Lib.hid (And.intro (Q6.out.2.2 _ _ (kp (kp H5.out.1 (Kq.below_alloc w5 (.cells #[.string S, .string T] 9))) b6)) (And.intro Q6.out.1 Q6.out.2.1))
  clear b6 H5 Q6 x0 x1
  go_wp2_with fail
  have HS2 := Lib.hid (strs_two (w6.alloc (.cells #[.int .u64 (gn : Int), .int .i64 (sn : Int)] 29)) T S 9)
  rw [World.size_alloc] at HS2
  refine (hd_newest a (some ⟨w6.heap.size + 1, 0, none⟩) 2 [T, S] _ (by simp) (by intro s hs; simp at hs; rcases hs with rfl | rfl; (rw [HTZ.out]; have := HSG.out; unfold maxLen; omega); (rw [HSZ.out]; have := HSG.out; unfold maxLen; omega)) HS2.out).mono ?_
  rw [show ((a : Int)).toNat = a from Int.toNat_natCast a, show nw a [T, S] [T, S].length = _ from HW2.out]
  rintro x w7 ⟨rfl, b7⟩
  have Q7 := Lib.hid (boxed W w7 #[.int .u64 (gn : Int), .int .i64 (sn : Int)] 29 (H6.out.2.2.trans (((Kq.below_alloc (w6.alloc (.cells #[.int .u64 (gn : Int), .int .i64 (sn : Int)] 29)) (.cells #[.string T, .string S] 9)).trans (b7.mono (Kq.below_alloc (w6.alloc (.cells #[.int .u64 (gn : Int), .int .i64 (sn : Int)] 29)) _).size)).mono H6.out.2.2.size)))
  have H7 := Lib.hid (And.intro (Q7.out.2.2 _ _ (kp (kp H6.out.1 (Kq.below_alloc (w6.alloc (.cells #[.int .u64 (gn : Int), .int .i64 (sn : Int)] 29)) (.cells #[.string T, .string S] 9))) b7)) (And.intro (Q7.out.2.2 _ _ (kp (kp H6.out.2.1 (Kq.below_alloc (w6.alloc (.cells #[.int .u64 (gn : Int), .int .i64 (sn : Int)] 29)) (.cells #[.string T, .string S] 9))) b7)) (And.intro Q7.out.1 Q7.out.2.1)))
  clear b7 H6 HS2
  generalize w6.heap.size = X6 at *
  have x0 := Kq.blk_cell H7.out.1 0
  have x1 := Kq.blk_cell H7.out.1 1
  have x2 := Kq.blk_cell H7.out.2.1 0
  have x3 := Kq.blk_cell H7.out.2.1 1
  have x4 := Kq.blk_cell H7.out.2.2.1 0
  have x5 := Kq.blk_cell H7.out.2.2.1 1
  have HBT := Lib.hid H7.out.2.2.2
  clear H7 Q7
  by_cases y0 : y = 0
  · subst y0
    go_wp2
    go_ret
    exact ⟨rfl, HBT.out⟩
  have ty : ((y : Int) == 0) = false := by simpa using y0
  have HY0 := Lib.hid y0
  clear y0
  by_cases k1 : at_ < 0
  · have t1 : decide (at_ < 0) = true := decide_eq_true k1
    clear k1
    go_wp2
    go_ret
    exact ⟨rfl, HBT.out⟩
  have t1 : decide (at_ < 0) = false := decide_eq_false k1
  have hal : 64 ≤ (a : Int) ∧ (a : Int) ≤ 512 := by have := HSG.out; omega
  have hal1 := hal.1
  have hal2 := hal.2
  clear hal
  by_cases k2 : (a : Int) - 4 < at_
  · have t2 : decide ((a : Int) - 4 < at_) = true := decide_eq_true k2
    clear k1 k2
    go_wp2
    go_ret
    exact ⟨rfl, HBT.out⟩
  obtain ⟨m, rfl⟩ := Int.eq_ofNat_of_zero_le (Int.not_lt.1 k1)
  have t2 : decide ((a : Int) - 4 < (m : Int)) = false := decide_eq_false k2
  have hma : m + 4 ≤ a := by omega
  clear k1 k2
  have hcv := run_bytes_of_string (P := Try.prog) (w7.alloc (.cells #[.int .u64 (gn : Int), .int .i64 (sn : Int)] 29)) 9 44 5 S Try.underlying9 Try.underlying44 Try.underlying5
  have hrow := Kq.row_bytes (w7.alloc (.cells #[.int .u64 (gn : Int), .int .i64 (sn : Int)] 29)).drew S (grownCap (w7.alloc (.cells #[.int .u64 (gn : Int), .int .i64 (sn : Int)] 29)) S.size 0 5) 5 (bytesRow S (grownCap (w7.alloc (.cells #[.int .u64 (gn : Int), .int .i64 (sn : Int)] 29)) S.size 0 5)).size (by simp [bytesRow])
  generalize grownCap (w7.alloc (.cells #[.int .u64 (gn : Int), .int .i64 (sn : Int)] 29)) S.size 0 5 = cap at hcv hrow
  have hrs : (w7.alloc (.cells #[.int .u64 (gn : Int), .int .i64 (sn : Int)] 29)).drew.heap.size = w7.heap.size + 1 := by show (w7.alloc _).heap.size = _; simp
  rw [hrs] at hrow
  rw [World.size_alloc] at hcv
  have HROW := Lib.hid hrow
  clear hrow hrs
  go_wp2
  clear hcv
  obtain ⟨wy, hwy⟩ : ∃ wy, wy = ((w7.alloc (.cells #[.int .u64 (gn : Int), .int .i64 (sn : Int)] 29)).alloc (Obj.cells (bytesRow S cap) 5 ((bytesRow S cap).size, (bytesRow S cap).size + 1))).drew := ⟨_, rfl⟩
  rw [← hwy]
  have R0 : Kq.Row wy (w7.heap.size + 1) (nl S) := by rw [hwy]; exact HROW.out
  have B0 : Below W.heap.size W wy := by rw [hwy]; exact (HBT.out.trans ((Kq.below_alloc _ _).mono HBT.out.size)).drew
  have HL := Lib.hid (And.intro (show (nl S).length = a by rw [nl_length, HSZ.out]) (nl_lt S))
  have HBB := Lib.hid (show W.heap.size ≤ w7.heap.size + 1 by have := HBT.out.size; rw [World.size_alloc] at this; exact this)
  have HR0 := Lib.hid (And.intro R0 B0)
  have HSZ2 := Lib.hid (show (S.size : Int) = (a : Int) by rw [HSZ.out])
  clear hwy HROW R0 B0 x0 x1 x2 x3 x4 x5
  generalize w7.heap.size + 1 = B at *
  rw [HSZ.out]
  go_loopw [25] (fun i wr => ∃ k : Nat, k ≤ 4 ∧ i = .int .i64 (k : Int) ∧ ∃ M : List Nat, M.length = a ∧ (∀ b ∈ M, b < 256) ∧ CrcM.le M = CrcM.le (nl S) ^^^ (2 ^ (8 * m) * (y % 2 ^ (8 * k))) ∧ Kq.Row wr B M ∧ Below W.heap.size W wr) (fun i _ => 4 - (intOf i).toNat)
  case atStart => exact ⟨0, by omega, rfl, nl S, HL.out.1, HL.out.2, by simp [Nat.mod_one], HR0.out.1, HR0.out.2⟩
  case round =>
    obtain ⟨k, hk, rfl, M, hMl, hMb, hMe, R1, B1⟩ := hrel
    have HM := Lib.hid (And.intro hMl (And.intro hMb (And.intro hMe (And.intro R1 B1))))
    clear hMl hMb hMe R1 B1
    by_cases hlt : k < 4
    · have hi : m + k < M.length := by rw [HM.out.1]; omega
      have hcell := HM.out.2.2.2.1.cell (m + k) hi
      have hfree := HM.out.2.2.2.1.free (m + k) hi
      have HST := Lib.hid (byte_step y k m (nl S) M HM.out.2.1 hi HM.out.2.2.1)
      have HBL2 := Lib.hid (byte_lt M HM.out.2.1 (m + k) (y / 2 ^ (8 * k) % 256) hi (Nat.mod_lt _ (by decide)))
      have hd : ((m : Int) + (k : Int)) < (a : Int) := by omega
      have w0 : IntKind.i64.wrap ((m : Int) + (k : Int)) = (m : Int) + (k : Int) := IntWalk.i64_in _ (by omega)
      have w1 : IntKind.i64.wrap (8 * (k : Int)) = 8 * (k : Int) := IntWalk.i64_in _ (by omega)
      have w2 : (0 : Int) ≤ (m : Int) + (k : Int) := by omega
      have w3 : ((m : Int) + (k : Int)).toNat = m + k := by omega
      have w4 : (8 * (k : Int)).toNat = 8 * k := by omega
      have w5 : (0 : Int) ≤ 8 * (k : Int) := by omega
      have HI := Lib.hid hi
      go_wp2
      go_still_tail 17, (by kernel_rfl)
      change wpList _ _ _ _ _ wr.drew
      clear w0 w1 w2 w3 w4 w5
      go_wp2
      go_roundw
      case rel =>
        refine ⟨k + 1, by omega, by go_num, M.set (m + k) (M[m + k] ^^^ (y / 2 ^ (8 * k) % 256)), by rw [List.length_set]; exact HM.out.1, HBL2.out, HST.out, ?_, (HM.out.2.2.2.2.setCell HBB.out _).drew⟩
        exact row_byte HM.out.2.2.2.1 HM.out.2.1 (m + k) y k hi
      case measure => simp [intOf]; omega
    · have hk4 : k = 4 := Nat.le_antisymm hk (Nat.not_lt.1 hlt)
      subst hk4
      have HWR : Hid (rightB (txt M) = false) := Lib.hid (burst_wrong (txt (hdBody a g sg)) (8 * m) y M HY0.out HY.out (by have := HBL.out; omega) (by rw [HM.out.1]; exact HBL.out.symm) HM.out.2.1 (by rw [← HBD.out]; exact HM.out.2.2.1))
      have hcv := Kq.Row.text (P := Try.prog) HM.out.2.2.2.1 HM.out.2.1 (src := 44) (dst := 9) cap Try.underlying44 Try.underlying5 Try.underlying9
      rw [HM.out.1] at hcv
      have HRM := Lib.hid (res_sum (a := a) (s := txt M) HSG.out.2 (by rw [txt_size, HM.out.1]) HWR.out)
      have HMM : Hid ((txt M).size ≤ maxLen) := Lib.hid (by rw [txt_size, HM.out.1]; have := HSG.out; unfold maxLen; omega)
      go_wp2_with fail
      refine (hd_get' a (txt M) _ HMM.out).mono ?_
      rw [show ((a : Int)).toNat = a from Int.toNat_natCast a, HRM.out]
      rintro x w9 ⟨rfl, b9⟩
      have H9 := Lib.hid (boxed W w9 #[.int .u64 0, .int .i64 0] 29 (HM.out.2.2.2.2.trans (b9.mono HM.out.2.2.2.2.size)))
      clear hcv b9
      go_wp2
      go_ret
      exact ⟨rfl, H9.out.2.1⟩
set_option maxRecDepth 100000 in
set_option maxHeartbeats 8000000 in
theorem mx (a g sg : Nat) (at_ : Int) (y : Nat) (W : World) (h : HdOk a g sg) (hg : g < M64) (hn : g + 1 = M64) (hy : y < CrcM.M) :
    Calls Try.prog 4 #[.int .i64 (a : Int), .int .u64 (g : Int), .int .i64 (sg : Int), .int .i64 at_, .int .u32 (y : Int)] W fun x w' => x = .returned (.bool true) ∧ Below W.heap.size W w' := by
  have HO := Lib.hid (And.intro h hg)
  have HSG : Hid (sg ≤ 1 ∧ 64 ≤ a ∧ a ≤ 512) := Lib.hid ⟨by have := h.s1; omega, by have := h.a0; omega, by have := h.a1; omega⟩
  have HSZ := Lib.hid (hdPut_size a g sg (by have := HSG.out; omega))
  have HR := Lib.hid (res_put h hg)
  have HBD := Lib.hid (show hdPut a g sg = sealT (txt (hdBody a g sg)) from rfl)
  have HBL : Hid ((txt (hdBody a g sg)).size + 4 = a) := Lib.hid (by rw [txt_size, hdBody_length a g sg (by have := HSG.out; omega)]; have := HSG.out; omega)
  have HGD := Lib.hid (good_put a g sg h hg)
  have HGO := Lib.hid (And.intro (gOf_put a g sg hg (by have := HSG.out; omega)) (sOf_put a g sg (by have := HSG.out; omega)))
  have HXN : Hid (nxG g = 0 ∧ nxS g (sg : Int) = 0 ∧ nxE g = 12) := Lib.hid ⟨if_pos hn, if_pos hn, if_pos hn⟩
  have tw := nx_wrap1 g hn
  have hp := Lib.hid (fun w => hd_put_ok a g sg w h hg)
  have hng := Lib.hid (fun w => hd_next g (sg : Int) w hg)
  have HY := Lib.hid hy
  clear h hg hy hn
  have e1 : (((hdPut a g sg).size : Int) != (a : Int)) = false := by rw [HSZ.out]; simp
  have e2 : ((hdPut a g sg).size != a) = false := by rw [HSZ.out]; simp
  obtain ⟨S, hS⟩ : ∃ S, S = hdPut a g sg := ⟨_, rfl⟩
  rw [← hS] at HSZ HR HBD HGD HGO hp e1 e2 
  clear hS
  go_enter Try.func4, Try.ntmps4
  go_wp2_with fail
  refine (awake _).mono ?_
  rintro x w1 ⟨rfl, b1⟩
  have H1 := Lib.hid (boxed W w1 #[.int .u64 (g : Int), .int .i64 (sg : Int)] 29 b1)
  clear b1
  go_wp2_with fail
  refine (hp.out _).mono ?_
  rintro x w2 ⟨rfl, b2⟩
  have H2 := Lib.hid (And.intro (kp H1.out.1 b2) (H1.out.2.1.trans (b2.mono H1.out.2.1.size)))
  clear b2 H1
  generalize w1.heap.size = X0 at *
  go_wp2_with fail
  refine (hd_get' a S _ (by rw [HSZ.out]; have := HSG.out; unfold maxLen; omega)).mono ?_
  rw [show ((a : Int)).toNat = a from Int.toNat_natCast a, HR.out]
  rintro x w3 ⟨rfl, b3⟩
  have Q3 := Lib.hid (boxed W w3 #[.int .u64 (g : Int), .int .i64 (sg : Int)] 29 (H2.out.2.trans (b3.mono H2.out.2.size)))
  have H3 := Lib.hid (And.intro (Q3.out.2.2 _ _ (kp H2.out.1 b3)) (And.intro Q3.out.1 Q3.out.2.1))
  clear b3 H2 Q3
  generalize hX1 : w3.heap.size = X1 at *
  have x0 := Kq.blk_cell H3.out.1 0
  have x1 := Kq.blk_cell H3.out.1 1
  have x2 := Kq.blk_cell H3.out.2.1 0
  have x3 := Kq.blk_cell H3.out.2.1 1
  clear hX1
  go_wp2_with fail
  refine (hng.out _).mono ?_
  rw [HXN.out.1, HXN.out.2.1, HXN.out.2.2]
  rintro x w7 ⟨rfl, b7⟩
  have HBT := Lib.hid (boxed W w7 #[.int .u64 0, .int .i64 0] 29 (H3.out.2.2.trans (b7.mono H3.out.2.2.size))).2.1
  clear b7 H3 HXN x0 x1 x2 x3
  by_cases y0 : y = 0
  · subst y0
    go_wp2
    go_ret
    exact ⟨rfl, HBT.out⟩
  have ty : ((y : Int) == 0) = false := by simpa using y0
  have HY0 := Lib.hid y0
  clear y0
  by_cases k1 : at_ < 0
  · have t1 : decide (at_ < 0) = true := decide_eq_true k1
    clear k1
    go_wp2
    go_ret
    exact ⟨rfl, HBT.out⟩
  have t1 : decide (at_ < 0) = false := decide_eq_false k1
  have hal : 64 ≤ (a : Int) ∧ (a : Int) ≤ 512 := by have := HSG.out; omega
  have hal1 := hal.1
  have hal2 := hal.2
  clear hal
  by_cases k2 : (a : Int) - 4 < at_
  · have t2 : decide ((a : Int) - 4 < at_) = true := decide_eq_true k2
    clear k1 k2
    go_wp2
    go_ret
    exact ⟨rfl, HBT.out⟩
  obtain ⟨m, rfl⟩ := Int.eq_ofNat_of_zero_le (Int.not_lt.1 k1)
  have t2 : decide ((a : Int) - 4 < (m : Int)) = false := decide_eq_false k2
  have hma : m + 4 ≤ a := by omega
  clear k1 k2
  have hcv := run_bytes_of_string (P := Try.prog) (w7.alloc (.cells #[.int .u64 0, .int .i64 0] 29)) 9 44 5 S Try.underlying9 Try.underlying44 Try.underlying5
  have hrow := Kq.row_bytes (w7.alloc (.cells #[.int .u64 0, .int .i64 0] 29)).drew S (grownCap (w7.alloc (.cells #[.int .u64 0, .int .i64 0] 29)) S.size 0 5) 5 (bytesRow S (grownCap (w7.alloc (.cells #[.int .u64 0, .int .i64 0] 29)) S.size 0 5)).size (by simp [bytesRow])
  generalize grownCap (w7.alloc (.cells #[.int .u64 0, .int .i64 0] 29)) S.size 0 5 = cap at hcv hrow
  have hrs : (w7.alloc (.cells #[.int .u64 0, .int .i64 0] 29)).drew.heap.size = w7.heap.size + 1 := by show (w7.alloc _).heap.size = _; simp
  rw [hrs] at hrow
  rw [World.size_alloc] at hcv
  have HROW := Lib.hid hrow
  clear hrow hrs
  go_wp2
  clear hcv
  obtain ⟨wy, hwy⟩ : ∃ wy, wy = ((w7.alloc (.cells #[.int .u64 0, .int .i64 0] 29)).alloc (Obj.cells (bytesRow S cap) 5 ((bytesRow S cap).size, (bytesRow S cap).size + 1))).drew := ⟨_, rfl⟩
  rw [← hwy]
  have R0 : Kq.Row wy (w7.heap.size + 1) (nl S) := by rw [hwy]; exact HROW.out
  have B0 : Below W.heap.size W wy := by rw [hwy]; exact (HBT.out.trans ((Kq.below_alloc _ _).mono HBT.out.size)).drew
  have HL := Lib.hid (And.intro (show (nl S).length = a by rw [nl_length, HSZ.out]) (nl_lt S))
  have HBB := Lib.hid (show W.heap.size ≤ w7.heap.size + 1 by have := HBT.out.size; rw [World.size_alloc] at this; exact this)
  have HR0 := Lib.hid (And.intro R0 B0)
  have HSZ2 := Lib.hid (show (S.size : Int) = (a : Int) by rw [HSZ.out])
  clear hwy HROW R0 B0 tw
  generalize w7.heap.size + 1 = B at *
  rw [HSZ.out]
  go_loopw [25] (fun i wr => ∃ k : Nat, k ≤ 4 ∧ i = .int .i64 (k : Int) ∧ ∃ M : List Nat, M.length = a ∧ (∀ b ∈ M, b < 256) ∧ CrcM.le M = CrcM.le (nl S) ^^^ (2 ^ (8 * m) * (y % 2 ^ (8 * k))) ∧ Kq.Row wr B M ∧ Below W.heap.size W wr) (fun i _ => 4 - (intOf i).toNat)
  case atStart => exact ⟨0, by omega, rfl, nl S, HL.out.1, HL.out.2, by simp [Nat.mod_one], HR0.out.1, HR0.out.2⟩
  case round =>
    obtain ⟨k, hk, rfl, M, hMl, hMb, hMe, R1, B1⟩ := hrel
    have HM := Lib.hid (And.intro hMl (And.intro hMb (And.intro hMe (And.intro R1 B1))))
    clear hMl hMb hMe R1 B1
    by_cases hlt : k < 4
    · have hi : m + k < M.length := by rw [HM.out.1]; omega
      have hcell := HM.out.2.2.2.1.cell (m + k) hi
      have hfree := HM.out.2.2.2.1.free (m + k) hi
      have HST := Lib.hid (byte_step y k m (nl S) M HM.out.2.1 hi HM.out.2.2.1)
      have HBL2 := Lib.hid (byte_lt M HM.out.2.1 (m + k) (y / 2 ^ (8 * k) % 256) hi (Nat.mod_lt _ (by decide)))
      have hd : ((m : Int) + (k : Int)) < (a : Int) := by omega
      have w0 : IntKind.i64.wrap ((m : Int) + (k : Int)) = (m : Int) + (k : Int) := IntWalk.i64_in _ (by omega)
      have w1 : IntKind.i64.wrap (8 * (k : Int)) = 8 * (k : Int) := IntWalk.i64_in _ (by omega)
      have w2 : (0 : Int) ≤ (m : Int) + (k : Int) := by omega
      have w3 : ((m : Int) + (k : Int)).toNat = m + k := by omega
      have w4 : (8 * (k : Int)).toNat = 8 * k := by omega
      have w5 : (0 : Int) ≤ 8 * (k : Int) := by omega
      have HI := Lib.hid hi
      go_wp2
      go_still_tail 17, (by kernel_rfl)
      change wpList _ _ _ _ _ wr.drew
      clear w0 w1 w2 w3 w4 w5
      go_wp2
      go_roundw
      case rel =>
        refine ⟨k + 1, by omega, by go_num, M.set (m + k) (M[m + k] ^^^ (y / 2 ^ (8 * k) % 256)), by rw [List.length_set]; exact HM.out.1, HBL2.out, HST.out, ?_, (HM.out.2.2.2.2.setCell HBB.out _).drew⟩
        exact row_byte HM.out.2.2.2.1 HM.out.2.1 (m + k) y k hi
      case measure => simp [intOf]; omega
    · have hk4 : k = 4 := Nat.le_antisymm hk (Nat.not_lt.1 hlt)
      subst hk4
      have HWR : Hid (rightB (txt M) = false) := Lib.hid (burst_wrong (txt (hdBody a g sg)) (8 * m) y M HY0.out HY.out (by have := HBL.out; omega) (by rw [HM.out.1]; exact HBL.out.symm) HM.out.2.1 (by rw [← HBD.out]; exact HM.out.2.2.1))
      have hcv := Kq.Row.text (P := Try.prog) HM.out.2.2.2.1 HM.out.2.1 (src := 44) (dst := 9) cap Try.underlying44 Try.underlying5 Try.underlying9
      rw [HM.out.1] at hcv
      have HRM := Lib.hid (res_sum (a := a) (s := txt M) HSG.out.2 (by rw [txt_size, HM.out.1]) HWR.out)
      have HMM : Hid ((txt M).size ≤ maxLen) := Lib.hid (by rw [txt_size, HM.out.1]; have := HSG.out; unfold maxLen; omega)
      go_wp2_with fail
      refine (hd_get' a (txt M) _ HMM.out).mono ?_
      rw [show ((a : Int)).toNat = a from Int.toNat_natCast a, HRM.out]
      rintro x w9 ⟨rfl, b9⟩
      have H9 := Lib.hid (boxed W w9 #[.int .u64 0, .int .i64 0] 29 (HM.out.2.2.2.2.trans (b9.mono HM.out.2.2.2.2.size)))
      clear hcv b9
      go_wp2
      go_ret
      exact ⟨rfl, H9.out.2.1⟩
theorem headBack_walk (a g sg at_ by_ : Int) (wa : (Lit.int .i64 a).wf = true) (wg : (Lit.int .u64 g).wf = true) (ws : (Lit.int .i64 sg).wf = true) (wt : (Lit.int .i64 at_).wf = true) (wb : (Lit.int .u32 by_).wf = true) (W : World) :
    Calls Try.prog 4 #[.int .i64 a, .int .u64 g, .int .i64 sg, .int .i64 at_, .int .u32 by_] W fun x w' => x = .returned (.bool true) ∧ Below W.heap.size W w' := by
  have hg : 0 ≤ g ∧ g < 18446744073709551616 := by
    simp [Lit.wf, IntKind.min, IntKind.max, IntKind.signed, IntKind.bits] at wg; omega
  obtain ⟨n, rfl⟩ := Int.eq_ofNat_of_zero_le hg.1
  have hn : n < M64 := by unfold M64; omega
  have hby : 0 ≤ by_ ∧ by_ < 4294967296 := by
    simp [Lit.wf, IntKind.min, IntKind.max, IntKind.signed, IntKind.bits] at wb; omega
  obtain ⟨y, rfl⟩ := Int.eq_ofNat_of_zero_le hby.1
  have hy : y < CrcM.M := by unfold CrcM.M; omega
  by_cases h : HdOk a n sg
  · obtain ⟨b, rfl⟩ := Int.eq_ofNat_of_zero_le (show 0 ≤ a by have := h.a0; omega)
    obtain ⟨s, rfl⟩ := Int.eq_ofNat_of_zero_le h.s0
    by_cases hm : n + 1 = M64
    · exact mx b n s at_ y W h hn hm hy
    · exact fst b n s at_ y W h hn hm hy
  · exact bad a n sg at_ y W h
end Go.Proofs.Ytejhlommjgibmaa.headBack
