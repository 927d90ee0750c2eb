/- Contract of frame.Read. Condition: lengths are ints. -/
import Derived.WalkSpells
import Derived.Test.YtfbjfleagilikaaFrBody
import Derived.Test.YtfbjfleagilikaaFrParse
import Derived.Test.YtfbjfleagilikaaCrcSeal
import Derived.Deep.RegionHeld
import Derived.Test.YtfbjfleagilikaaHeldMono
namespace Go.Proofs.Ytfbjfleagilikaa
open Go.RowKit
set_option linter.unusedVariables false
set_option linter.unusedSimpArgs false
def FrP.zero : FrP := ⟨0, 0, 0, 0, ⟨#[]⟩⟩
def partOf (o : Option FrP) : FrP := match o with | some p => p | none => FrP.zero
def readVal (r : Option FrP × Int) : Value := .tuple #[(partOf r.1).val, .int .i64 r.2]
theorem qOf_eq (s : ByteArray) (h : 21 + lenOf s ≤ s.size) : qOf s = pOf s := by
  unfold qOf dP pOf
  rw [if_pos h]
/-- is a sector what its fields say? as the code asks -/
def bodyB (a : Nat) (s : ByteArray) : Bool := (txt (frBody a (qOf s))).toList == (s.extract 0 (a - 4)).toList
theorem read_iff (a : Nat) (s : ByteArray) (h64 : 64 ≤ a) (h5 : a ≤ 512) (hs : s.size = a) (hr : rightB s = true) : (mayP a (qOf s) ∧ bodyB a s = true) ↔ (okSec a s ∧ qOf s = pOf s) := by
  have hrt := right_take s (by omega) hr
  rw [hs] at hrt
  have hk : mayP a (qOf s) → (bodyB a s = true ↔ frBody a (qOf s) = (nl s).take (a - 4)) := fun h => by
    obtain ⟨h1, h2⟩ := mayP_n a _ h64 h
    unfold bodyB
    rw [eq_text, decide_eq_true_eq, nl_extract, List.drop_zero, Nat.sub_zero, nl_txt _ (frBody_lt a _ (by omega) (by omega) (by have := h.2.1; omega))]
  constructor
  · rintro ⟨h1, h2⟩
    have hb := (hk h1).1 h2
    obtain ⟨g1, g2⟩ := mayP_n a _ h64 h1
    have hd : (qOf s).d.size < 65536 := by have := h1.2.1; omega
    have hsec : frSec a (qOf s) = s := by
      apply nl_inj
      rw [nl_frSec a _ (by omega) (by omega) hd, hb]
      exact hrt.symm
    have hl := nl_secs a (qOf s) (by omega) (by omega) hd
    rw [hsec] at hl
    have hlen : lenOf s = (qOf s).d.size := by
      unfold lenOf
      generalize CrcM.bytes (CrcM.upd 0 (frBody a (qOf s))) = T at hl
      rw [hl]
      rw [show (82 :: (num8 (qOf s).g ++ (num8 (qOf s).x ++ ((qOf s).i :: (qOf s).n :: ((qOf s).d.size / 256) :: ((qOf s).d.size % 256) :: (nl (qOf s).d ++ (List.replicate (a - 25 - (qOf s).d.size) 0 ++ T)))))).getD 19 0 = (qOf s).d.size / 256 from rfl, show (82 :: (num8 (qOf s).g ++ (num8 (qOf s).x ++ ((qOf s).i :: (qOf s).n :: ((qOf s).d.size / 256) :: ((qOf s).d.size % 256) :: (nl (qOf s).d ++ (List.replicate (a - 25 - (qOf s).d.size) 0 ++ T)))))).getD 20 0 = (qOf s).d.size % 256 from rfl]
      omega
    have he := qOf_eq s (by have := h1.2.1; omega)
    rw [he] at h1 hsec
    exact ⟨⟨h1, hsec⟩, he⟩
  · rintro ⟨⟨h1, h2⟩, h3⟩
    rw [h3]
    refine ⟨h1, ?_⟩
    have h4 := h1
    rw [← h3] at h4
    rw [hk h4, h3]
    obtain ⟨g1, g2⟩ := mayP_n a _ h64 h1
    have e := congrArg nl h2
    rw [nl_frSec a _ (by omega) (by omega) (by have := h1.2.1; omega)] at e
    have e3 := congrArg (List.take (a - 4)) e
    rwa [List.take_append_of_le_length (by rw [frBody_length a _ (by omega) h1.2.1]; exact Nat.le_refl _), List.take_of_length_le (by rw [frBody_length a _ (by omega) h1.2.1]; exact Nat.le_refl _)] at e3
theorem okSec_q (a : Nat) (s : ByteArray) (h64 : 64 ≤ a) (hs : s.size = a) (h : okSec a s) : qOf s = pOf s := by
  apply qOf_eq
  have h1 := h.1.2.1
  have h2 : (pOf s).d.size = min (21 + lenOf s) s.size - 21 := by
    show (s.extract 21 (21 + lenOf s)).size = _
    simp
  omega
theorem read_no (a : Nat) (s : ByteArray) (h64 : 64 ≤ a) (h5 : a ≤ 512) (hs : s.size = a) (hr : rightB s = true) (h : ¬ okSec a s) : frRead a s = (none, 5) := by
  unfold frRead
  rw [if_neg (by unfold FrSz; omega), if_neg (by rw [hs]; simp), if_neg (by rw [hr]; simp), Int.toNat_natCast, if_neg h]
theorem read_yes (a : Nat) (s : ByteArray) (h64 : 64 ≤ a) (h5 : a ≤ 512) (hs : s.size = a) (hr : rightB s = true) (h : okSec a s) : frRead a s = (some (pOf s), 0) := by
  unfold frRead
  rw [if_neg (by unfold FrSz; omega), if_neg (by rw [hs]; simp), if_neg (by rw [hr]; simp), Int.toNat_natCast, if_pos h]
theorem parts_zero (a : Int) : (frParts a 0 == 0) = !decide (FrSz a) := by
  unfold frParts
  by_cases h : FrSz a
  · rw [if_pos ⟨h, by omega, by omega⟩, decide_eq_true h]
    unfold nParts
    simp
  · rw [if_neg (fun h2 => h h2.1), decide_eq_false h]; rfl
set_option maxRecDepth 100000 in
set_option maxHeartbeats 1000000 in
theorem fr_read_1 (a : Int) (s : ByteArray) (w : World) (h : ¬ FrSz a) :
    Calls Try.prog 16 #[.int .i64 a, .string s] w fun e w' => e = .returned (readVal (none, 1)) ∧ Below w.heap.size w w' := by
  have HD : Hid ((frParts a 0 == 0) = true) := Lib.hid (by rw [parts_zero, decide_eq_false h]; rfl)
  have hz := HD.out
  clear h
  go_enter Try.func16, Try.ntmps16
  go_wp2_with fail
  refine (fr_parts a 0 _).mono ?_
  rintro e w1 ⟨rfl, rfl⟩
  go_wp2
  refine bodyPost_ret (v := readVal (none, 1)) (by simp [results, Try.results16, go_sem, readVal, partOf, FrP.zero, FrP.val]) rfl ?_
  exact ⟨rfl, Kq.below_alloc _ _⟩
set_option maxRecDepth 100000 in
set_option maxHeartbeats 1000000 in
theorem fr_read_6 (a : Int) (s : ByteArray) (w : World) (h : FrSz a) (hs : (s.size : Int) ≠ a) :
    Calls Try.prog 16 #[.int .i64 a, .string s] w fun e w' => e = .returned (readVal (none, 6)) ∧ Below w.heap.size w w' := by
  have HD : Hid ((frParts a 0 == 0) = false) := Lib.hid (by rw [parts_zero, decide_eq_true h]; rfl)
  have hz := HD.out
  have hne : ((s.size : Int) != a) = true := by simpa using hs
  clear h hs
  go_enter Try.func16, Try.ntmps16
  go_wp2_with fail
  refine (fr_parts a 0 _).mono ?_
  rintro e w1 ⟨rfl, rfl⟩
  go_wp2
  refine bodyPost_ret (v := readVal (none, 6)) (by simp [results, Try.results16, go_sem, readVal, partOf, FrP.zero, FrP.val]) rfl ?_
  exact ⟨rfl, Kq.below_alloc _ _⟩
set_option maxRecDepth 100000 in
set_option maxHeartbeats 1000000 in
theorem fr_read_8 (a : Nat) (s : ByteArray) (w : World) (h : FrSz a) (hs : s.size = a) (hr : rightB s = false) :
    Calls Try.prog 16 #[.int .i64 (a : Int), .string s] w fun e w' => e = .returned (readVal (none, 8)) ∧ Below w.heap.size w w' := by
  have HD : Hid ((frParts a 0 == 0) = false) := Lib.hid (by rw [parts_zero, decide_eq_true h]; rfl)
  have hz := HD.out
  have hne : ((s.size : Int) != (a : Int)) = false := by simp [hs]
  have hne2 : (s.size != a) = false := by simp [hs]
  have HS := Lib.hid (And.intro h hs)
  have HR := Lib.hid hr
  have HX := Lib.hid (Kq.blk_new w #[.int .u64 0, .int .u64 0, .int .i64 0, .int .i64 0, .string ⟨#[]⟩] 40 (0, 0))
  clear h hs hr
  go_enter Try.func16, Try.ntmps16
  go_wp2_with fail
  refine (fr_parts a 0 _).mono ?_
  rintro e w1 ⟨rfl, rfl⟩
  go_wp2_with fail
  refine (crc_right s _ (by have := HS.out; unfold FrSz at this; unfold maxLen; omega) (by have := HS.out; unfold FrSz at this; omega)).mono ?_
  rw [HR.out]
  rintro e w2 ⟨rfl, b2⟩
  have HB := Lib.hid ((Kq.below_alloc w _).trans (b2.mono (Kq.below_alloc w _).size))
  have hbk := Kq.below_blk b2 HX.out (Kq.blk_lt HX.out)
  have HBK := Lib.hid hbk
  have c0 := Kq.blk_cell hbk 0
  have c1 := Kq.blk_cell hbk 1
  have c2 := Kq.blk_cell hbk 2
  have c3 := Kq.blk_cell hbk 3
  have c4 := Kq.blk_cell hbk 4
  have f0 := Kq.blk_free hbk 0
  have f1 := Kq.blk_free hbk 1
  have f2 := Kq.blk_free hbk 2
  have f3 := Kq.blk_free hbk 3
  have f4 := Kq.blk_free hbk 4
  clear b2 hbk
  go_wp2
  change bodyPost _ _ _ _ _ (fill5 w2 w.heap.size 0 0 0 0 ⟨#[]⟩)
  have p1 := fill5_blk HBK.out 0 0 0 0 ⟨#[]⟩
  have p2 := fill5_keeps w2 w.heap.size 0 0 0 0 ⟨#[]⟩
  generalize fill5 w2 w.heap.size 0 0 0 0 ⟨#[]⟩ = z at *
  have z0 := Kq.blk_cell p1 0
  have z1 := Kq.blk_cell p1 1
  have z2 := Kq.blk_cell p1 2
  have z3 := Kq.blk_cell p1 3
  have z4 := Kq.blk_cell p1 4
  refine bodyPost_ret (v := readVal (none, 8)) (by simp [results, Try.results16, go_sem, z0, z1, z2, z3, z4, readVal, partOf, FrP.zero, FrP.val]) rfl ?_
  exact ⟨rfl, HB.out.trans (p2.below HB.out.size (fun k _ e => (by subst e; exact Nat.le_refl _)))⟩
/-- behind parse: the part's block, the result's block -/
structure Rz (w : World) (R H : Nat) (p : FrP) (wr : World) : Prop where
  rb : wr.heap[R]? = some (.cells #[.int .u64 0, .int .u64 0, .int .i64 0, .int .i64 0, .string ⟨#[]⟩] 40 (0, 0))
  pb : wr.heap[H]? = some (.cells #[.int .u64 (p.g : Int), .int .u64 (p.x : Int), .int .i64 (p.i : Int), .int .i64 (p.n : Int), .string p.d] 40 (0, 0))
  ne : R ≠ H
  le : w.heap.size ≤ R
  bel : Below w.heap.size w wr
theorem Rz.below {w wr w' : World} {R H : Nat} {p : FrP} (h : Rz w R H p wr) (hb : Below wr.heap.size wr w') : Rz w R H p w' :=
  ⟨Kq.below_blk hb h.rb (Kq.blk_lt h.rb), Kq.below_blk hb h.pb (Kq.blk_lt h.pb), h.ne, h.le, h.bel.trans (hb.mono h.bel.size)⟩
def PtC (wr : World) (H : Nat) (p : FrP) : Prop := wr.cell? ⟨H, 0, none⟩ = some (.int .u64 (p.g : Int)) ∧ wr.cell? ⟨H, 1, none⟩ = some (.int .u64 (p.x : Int)) ∧ wr.cell? ⟨H, 2, none⟩ = some (.int .i64 (p.i : Int)) ∧ wr.cell? ⟨H, 3, none⟩ = some (.int .i64 (p.n : Int)) ∧ wr.cell? ⟨H, 4, none⟩ = some (.string p.d)
theorem Rz.cells {w wr : World} {R H : Nat} {p : FrP} (h : Rz w R H p wr) : PtC wr H p := ⟨Kq.blk_cell h.pb 0, Kq.blk_cell h.pb 1, Kq.blk_cell h.pb 2, Kq.blk_cell h.pb 3, Kq.blk_cell h.pb 4⟩
theorem Rz.drew {w wr : World} {R H : Nat} {p : FrP} (h : Rz w R H p wr) : Rz w R H p wr.drew := ⟨h.rb, h.pb, h.ne, h.le, h.bel.drew⟩
theorem Rz.mk' {w w2 w3 : World} {p : FrP} (hb : Below (w.alloc (.cells #[.int .u64 0, .int .u64 0, .int .i64 0, .int .i64 0, .string ⟨#[]⟩] 40)).heap.size (w.alloc (.cells #[.int .u64 0, .int .u64 0, .int .i64 0, .int .i64 0, .string ⟨#[]⟩] 40)) w2) (h3 : Below w2.heap.size w2 w3) :
    Rz w w.heap.size w3.heap.size p (w3.alloc (.cells #[.int .u64 (p.g : Int), .int .u64 (p.x : Int), .int .i64 (p.i : Int), .int .i64 (p.n : Int), .string p.d] 40)) := by
  have b0 := Kq.below_alloc w (.cells #[.int .u64 0, .int .u64 0, .int .i64 0, .int .i64 0, .string ⟨#[]⟩] 40)
  have h2 := Kq.below_blk hb (Kq.blk_new w _ _ _) (by simp)
  have h4 := Kq.below_blk h3 h2 (Kq.blk_lt h2)
  have b1 := (b0.trans (hb.mono b0.size))
  have b3 := b1.trans (h3.mono b1.size)
  exact ⟨Kq.below_blk (Kq.below_alloc w3 _) h4 (Kq.blk_lt h4), Kq.blk_new _ _ _ _, Nat.ne_of_lt (Kq.blk_lt h4), Nat.le_refl _, b3.trans ((Kq.below_alloc w3 _).mono b3.size)⟩
set_option maxRecDepth 100000 in
set_option maxHeartbeats 2000000 in
theorem fr_read_in (a : Nat) (s : ByteArray) (w : World) (h : FrSz a) (hs : s.size = a) (hr : rightB s = true) :
    Calls Try.prog 16 #[.int .i64 (a : Int), .string s] w fun e w' => e = .returned (readVal (frRead a s)) ∧ Below w.heap.size w w' := by
  have HD : Hid ((frParts a 0 == 0) = false) := Lib.hid (by rw [parts_zero, decide_eq_true h]; rfl)
  have hz := HD.out
  have hne : ((s.size : Int) != (a : Int)) = false := by simp [hs]
  have hne2 : (s.size != a) = false := by simp [hs]
  have h' : 64 ≤ a ∧ a ≤ 512 := by unfold FrSz at h; omega
  have ha1 : 64 ≤ (a : Int) := h.1
  have ha2 : (a : Int) ≤ 512 := h.2
  have HI := Lib.hid (read_iff a s h'.1 h'.2 hs hr)
  have HOQ := Lib.hid (okSec_q a s h'.1 hs)
  have HNO := Lib.hid (read_no a s h'.1 h'.2 hs hr)
  have HYES := Lib.hid (read_yes a s h'.1 h'.2 hs hr)
  have HS := Lib.hid (And.intro h' hs)
  have HR := Lib.hid hr
  have HP := Lib.hid (fr_parse s · (by omega) (by omega))
  have HQL : Hid ((qOf s).g < M64 ∧ (qOf s).x < M64 ∧ (qOf s).i ≤ 255 ∧ (qOf s).n ≤ 255 ∧ (qOf s).d.size ≤ 512) := Lib.hid ⟨val8_lt s 1, val8_lt s 9, by have := getD_lt s 17; show (nl s).getD 17 0 ≤ 255; omega, by have := getD_lt s 18; show (nl s).getD 18 0 ≤ 255; omega, by
    show (dP s).size ≤ 512
    unfold dP
    split
    · simp; omega
    · decide⟩
  have hsub : (a : Int) - 4 = ((a - 4 : Nat) : Int) := by omega
  have hle : a - 4 ≤ s.size := by omega
  have HBB : Hid (bodyB a s = ((txt (frBody a (qOf s))).toList == (s.extract 0 (a - 4)).toList)) := Lib.hid rfl
  clear h hs hr h'
  go_enter Try.func16, Try.ntmps16
  go_wp2_with fail
  refine (fr_parts a 0 _).mono ?_
  rintro e w1 ⟨rfl, rfl⟩
  go_wp2_with fail
  refine (crc_right s _ (by have := HS.out; unfold maxLen; omega) (by have := HS.out; omega)).mono ?_
  rw [HR.out]
  rintro e w2 ⟨rfl, b2⟩
  have B2 := Lib.hid b2
  clear b2
  go_wp2_with fail
  refine (HP.out w2).mono ?_
  rintro e w3 ⟨rfl, b3⟩
  have R0 := Lib.hid (Rz.mk' (p := qOf s) B2.out b3)
  clear b3 B2
  obtain ⟨q, hq⟩ : ∃ q, q = qOf s := ⟨_, rfl⟩
  rw [← hq] at HQL HBB R0 ⊢
  have HQE := Lib.hid hq
  clear hq
  obtain ⟨g, x, i, n, d⟩ := q
  simp only [FrP.val]
  go_wp2_with fail
  generalize hHH : w3.heap.size = HH at *
  refine wp_region_held_drew (S := fun w' => PtC w' HH ⟨g, x, i, n, d⟩) (by kernel_rfl) R0.out.drew.cells (fun hS0 => ?_)
  have R1 := Lib.hid R0.out.drew
  clear R0
  unfold PtC at hS0
  dsimp only [PtC, FrP.val]
  refine wpAnyH_take (i := 0) (v := ?_) rfl (by kernel_rfl) (by kernel_rfl) (by kernel_rfl) (fun _ _ _ h => h) (Or.inl ⟨by kernel_rfl, ?_⟩) (by assumption) ?_
  rotate_left
  · intro w hSw; (try dsimp only at hSw); go_simp; (try with_reducible rfl)
  refine wpAnyH_take (i := 1) (v := ?_) rfl (by kernel_rfl) (by kernel_rfl) (by kernel_rfl) (fun _ _ _ h => h) (Or.inl ⟨by kernel_rfl, ?_⟩) (by assumption) ?_
  rotate_left
  · intro w hSw; (try dsimp only at hSw); go_simp; (try with_reducible rfl)
  refine wpAnyH_ready (rs := [2]) (by kernel_rfl) (by simp) ?_
  refine AllReadyH.cons rfl (fun K hK => ?_) AllReadyH.nil
  go_simp
  refine (fr_may a ⟨g, x, i, n, d⟩ _ HS.out.1.1 HS.out.1.2 HQL.out.2.2.1 HQL.out.2.2.2.1 HQL.out.2.2.2.2).mono ?_
  by_cases hm : mayP a ⟨g, x, i, n, d⟩
  · rw [decide_eq_true hm]
    have HM := Lib.hid hm
    clear hm
    rintro e w4 ⟨rfl, b4⟩
    have R4 := Lib.hid (R1.out.below b4)
    clear b4 R1 hS0
    refine hK.out _ _ R4.out.cells (fun hS0 => ?_)
    clear hK K
    unfold PtC at hS0
    (try dsimp only [PtC])
    generalize hm4 : a - 4 = m at *
    have hwm : IntKind.i64.wrap (m : Int) = (m : Int) := IntWalk.i64_in _ (by omega)
    have hle2 : (m : Int) ≤ (s.size : Int) := by omega
    refine wpAnyH_take (i := 3) (v := ?_) rfl (by kernel_rfl) (by kernel_rfl) (by kernel_rfl) (fun _ _ _ h => h) (Or.inl ⟨by kernel_rfl, ?_⟩) (by assumption) ?_
    rotate_left
    · intro w hSw; (try dsimp only at hSw); go_simp; (try with_reducible rfl)
    refine wpAnyH_take (i := 4) (v := ?_) rfl (by kernel_rfl) (by kernel_rfl) (by kernel_rfl) (fun _ _ _ h => h) (Or.inl ⟨by kernel_rfl, ?_⟩) (by assumption) ?_
    rotate_left
    · intro w hSw; (try dsimp only at hSw); go_simp; (try with_reducible rfl)
    refine wpAnyH_take (i := 5) (v := ?_) rfl (by kernel_rfl) (by kernel_rfl) (by kernel_rfl) (fun _ _ _ h => h) (Or.inl ⟨by kernel_rfl, ?_⟩) (by assumption) ?_
    rotate_left
    · intro w hSw; (try dsimp only at hSw); go_simp; (try with_reducible rfl)
    refine wpAnyH_take (i := 6) (v := ?_) rfl (by kernel_rfl) (by kernel_rfl) (by kernel_rfl) (fun _ _ _ h => h) (Or.inl ⟨by kernel_rfl, ?_⟩) (by assumption) ?_
    rotate_left
    · intro w hSw; (try dsimp only at hSw); go_simp; (try with_reducible rfl)
    refine wpAnyH_take (i := 8) (v := ?_) rfl (by kernel_rfl) (by kernel_rfl) (by kernel_rfl) (fun _ _ _ h => h) (Or.inl ⟨by kernel_rfl, ?_⟩) (by assumption) ?_
    rotate_left
    · intro w hSw; (try dsimp only at hSw); go_simp; (try with_reducible rfl)
    refine wpAnyH_take (i := 9) (v := ?_) rfl (by kernel_rfl) (by kernel_rfl) (by kernel_rfl) (fun _ _ _ h => h) (Or.inl ⟨by kernel_rfl, ?_⟩) (by assumption) ?_
    rotate_left
    · intro w hSw; (try dsimp only at hSw); go_simp; (try with_reducible rfl)
    refine wpAnyH_take (i := 10) (v := ?_) rfl (by kernel_rfl) (by kernel_rfl) (by kernel_rfl) (fun _ _ _ h => h) (Or.inl ⟨by kernel_rfl, ?_⟩) (by assumption) ?_
    rotate_left
    · intro w hSw; (try dsimp only at hSw); go_simp; (try with_reducible rfl)
    refine wpAnyH_take (i := 11) (v := ?_) rfl (by kernel_rfl) (by kernel_rfl) (by kernel_rfl) (fun _ _ _ h => h) (Or.inl ⟨by kernel_rfl, ?_⟩) (by assumption) ?_
    rotate_left
    · intro w hSw; (try dsimp only at hSw); go_simp; (try with_reducible rfl)
    refine wpAnyH_ready (rs := [7]) (by kernel_rfl) (by simp) ?_
    refine AllReadyH.cons rfl (fun K hK => ?_) AllReadyH.nil
    go_simp
    refine (fr_body a ⟨g, x, i, n, d⟩ _ HS.out.1.1 HS.out.1.2 HQL.out.1 HQL.out.2.1 HQL.out.2.2.1 HQL.out.2.2.2.1 HM.out.2.1).mono ?_
    rintro e w5 ⟨rfl, b5⟩
    have R5 := Lib.hid (R4.out.below b5)
    clear b5 R4 hS0
    refine hK.out _ _ R5.out.cells (fun hS0 => ?_)
    clear hK K
    unfold PtC at hS0
    (try dsimp only [PtC])
    generalize txt (frBody a ⟨g, x, i, n, d⟩) = tb at *
    refine wpAnyH_take (i := 12) (v := ?_) rfl (by kernel_rfl) (by kernel_rfl) (by kernel_rfl) (fun _ _ _ h => h) (Or.inl ⟨by kernel_rfl, ?_⟩) (by assumption) ?_
    rotate_left
    · intro w hSw; (try dsimp only at hSw); go_simp; (try with_reducible rfl)
    refine wpAnyH_take (i := 13) (v := ?_) rfl (by kernel_rfl) (by kernel_rfl) (by kernel_rfl) (fun _ _ _ h => h) (Or.inl ⟨by kernel_rfl, ?_⟩) (by assumption) ?_
    rotate_left
    · intro w hSw; (try dsimp only at hSw); go_simp; (try with_reducible rfl)
    refine wpAnyH_done (by kernel_rfl) ?_ _
    clear hS0
    have c0 := Kq.blk_cell R5.out.pb 0
    have c1 := Kq.blk_cell R5.out.pb 1
    have c2 := Kq.blk_cell R5.out.pb 2
    have c3 := Kq.blk_cell R5.out.pb 3
    have c4 := Kq.blk_cell R5.out.pb 4
    have r0 := Kq.blk_cell R5.out.rb 0
    have r1 := Kq.blk_cell R5.out.rb 1
    have r2 := Kq.blk_cell R5.out.rb 2
    have r3 := Kq.blk_cell R5.out.rb 3
    have r4 := Kq.blk_cell R5.out.rb 4
    have q0 := Kq.blk_free R5.out.rb 0
    have q1 := Kq.blk_free R5.out.rb 1
    have q2 := Kq.blk_free R5.out.rb 2
    have q3 := Kq.blk_free R5.out.rb 3
    have q4 := Kq.blk_free R5.out.rb 4
    by_cases hb : bodyB a s = true
    · have hbb : (!(tb.toList == (s.extract 0 m).toList)) = false := by rw [← HBB.out, hb]; rfl
      have HRD : Hid (frRead a s = (some ⟨g, x, i, n, d⟩, 0)) := Lib.hid (by
        have h1 := HI.out.1 ⟨by rw [← HQE.out]; exact HM.out, hb⟩
        rw [HYES.out h1.1, ← h1.2, ← HQE.out])
      clear hb HI HNO HYES HOQ HBB HM
      go_simp
      go_wp2
      clear c0 c1 c2 c3 c4 r0 r1 r2 r3 r4 q0 q1 q2 q3 q4
      change bodyPost _ _ _ _ _ (fill5 w5 w.heap.size (g : Int) (x : Int) (i : Int) (n : Int) d)
      have p1 := fill5_blk R5.out.rb (g : Int) (x : Int) (i : Int) (n : Int) d
      have p2 := fill5_keeps w5 w.heap.size (g : Int) (x : Int) (i : Int) (n : Int) d
      generalize fill5 w5 w.heap.size (g : Int) (x : Int) (i : Int) (n : Int) d = z at *
      have z0 := Kq.blk_cell p1 0
      have z1 := Kq.blk_cell p1 1
      have z2 := Kq.blk_cell p1 2
      have z3 := Kq.blk_cell p1 3
      have z4 := Kq.blk_cell p1 4
      refine bodyPost_ret (v := readVal (some ⟨g, x, i, n, d⟩, 0)) (by simp [results, Try.results16, go_sem, z0, z1, z2, z3, z4, readVal, partOf, FrP.zero, FrP.val]) rfl ?_
      exact ⟨by rw [HRD.out], R5.out.bel.trans (p2.below R5.out.bel.size (fun k _ e => (by subst e; exact Nat.le_refl _)))⟩
    · have hbb : (!(tb.toList == (s.extract 0 m).toList)) = true := by
        have := eq_false_of_ne_true hb
        rw [← HBB.out, this]; rfl
      have HRD : Hid (frRead a s = (none, 5)) := Lib.hid (HNO.out (fun h => hb (HI.out.2 ⟨h, HOQ.out h⟩).2))
      clear hb HI HNO HYES HOQ HBB HM
      go_simp
      go_wp2
      clear c0 c1 c2 c3 c4 r0 r1 r2 r3 r4 q0 q1 q2 q3 q4
      change bodyPost _ _ _ _ _ (fill5 w5 w.heap.size 0 0 0 0 ⟨#[]⟩)
      have p1 := fill5_blk R5.out.rb 0 0 0 0 ⟨#[]⟩
      have p2 := fill5_keeps w5 w.heap.size 0 0 0 0 ⟨#[]⟩
      generalize fill5 w5 w.heap.size 0 0 0 0 ⟨#[]⟩ = z at *
      have z0 := Kq.blk_cell p1 0
      have z1 := Kq.blk_cell p1 1
      have z2 := Kq.blk_cell p1 2
      have z3 := Kq.blk_cell p1 3
      have z4 := Kq.blk_cell p1 4
      refine bodyPost_ret (v := readVal (none, 5)) (by simp [results, Try.results16, go_sem, z0, z1, z2, z3, z4, readVal, partOf, FrP.zero, FrP.val]) rfl ?_
      exact ⟨by rw [HRD.out], R5.out.bel.trans (p2.below R5.out.bel.size (fun k _ e => (by subst e; exact Nat.le_refl _)))⟩
  · rw [decide_eq_false hm]
    have HRD : Hid (frRead a s = (none, 5)) := Lib.hid (HNO.out (fun h => hm (by rw [HQE.out]; exact (HI.out.2 ⟨h, HOQ.out h⟩).1)))
    clear hm
    rintro e w5 ⟨rfl, b5⟩
    have R5 := Lib.hid (R1.out.below b5)
    clear b5 R1 hS0
    refine hK.out _ _ R5.out.cells (fun hS0 => ?_)
    clear hK K
    unfold PtC at hS0
    (try dsimp only [PtC])
    refine wpAnyH_take (i := 3) (v := ?_) rfl (by kernel_rfl) (by kernel_rfl) (by kernel_rfl) (fun _ _ _ h => h) (Or.inl ⟨by kernel_rfl, ?_⟩) (by assumption) ?_
    rotate_left
    · intro w hSw; (try dsimp only at hSw); go_simp; (try with_reducible rfl)
    refine wpAnyH_take (i := 4) (v := ?_) rfl (by kernel_rfl) (by kernel_rfl) (by kernel_rfl) (fun _ _ _ h => h) (Or.inl ⟨by kernel_rfl, ?_⟩) (by assumption) ?_
    rotate_left
    · intro w hSw; (try dsimp only at hSw); go_simp; (try with_reducible rfl)
    refine wpAnyH_take (i := 5) (v := undef) rfl (by kernel_rfl) (by kernel_rfl) (by kernel_rfl) (fun _ _ _ h => h) (Or.inr ⟨by kernel_rfl, rfl⟩) (by assumption) ?_
    refine wpAnyH_take (i := 6) (v := undef) rfl (by kernel_rfl) (by kernel_rfl) (by kernel_rfl) (fun _ _ _ h => h) (Or.inr ⟨by kernel_rfl, rfl⟩) (by assumption) ?_
    refine wpAnyH_take (i := 7) (v := undef) rfl (by kernel_rfl) (by kernel_rfl) (by kernel_rfl) (fun _ _ _ h => h) (Or.inr ⟨by kernel_rfl, rfl⟩) (by assumption) ?_
    refine wpAnyH_take (i := 8) (v := undef) rfl (by kernel_rfl) (by kernel_rfl) (by kernel_rfl) (fun _ _ _ h => h) (Or.inr ⟨by kernel_rfl, rfl⟩) (by assumption) ?_
    refine wpAnyH_take (i := 9) (v := undef) rfl (by kernel_rfl) (by kernel_rfl) (by kernel_rfl) (fun _ _ _ h => h) (Or.inr ⟨by kernel_rfl, rfl⟩) (by assumption) ?_
    refine wpAnyH_take (i := 10) (v := undef) rfl (by kernel_rfl) (by kernel_rfl) (by kernel_rfl) (fun _ _ _ h => h) (Or.inr ⟨by kernel_rfl, rfl⟩) (by assumption) ?_
    refine wpAnyH_take (i := 11) (v := undef) rfl (by kernel_rfl) (by kernel_rfl) (by kernel_rfl) (fun _ _ _ h => h) (Or.inr ⟨by kernel_rfl, rfl⟩) (by assumption) ?_
    refine wpAnyH_take (i := 12) (v := undef) rfl (by kernel_rfl) (by kernel_rfl) (by kernel_rfl) (fun _ _ _ h => h) (Or.inr ⟨by kernel_rfl, rfl⟩) (by assumption) ?_
    refine wpAnyH_take (i := 13) (v := ?_) rfl (by kernel_rfl) (by kernel_rfl) (by kernel_rfl) (fun _ _ _ h => h) (Or.inl ⟨by kernel_rfl, ?_⟩) (by assumption) ?_
    rotate_left
    · intro w hSw; (try dsimp only at hSw); go_simp; (try with_reducible rfl)
    refine wpAnyH_done (by kernel_rfl) ?_ _
    clear hS0 HI HNO HYES HOQ HBB
    have c0 := Kq.blk_cell R5.out.pb 0
    have c1 := Kq.blk_cell R5.out.pb 1
    have c2 := Kq.blk_cell R5.out.pb 2
    have c3 := Kq.blk_cell R5.out.pb 3
    have c4 := Kq.blk_cell R5.out.pb 4
    have r0 := Kq.blk_cell R5.out.rb 0
    have r1 := Kq.blk_cell R5.out.rb 1
    have r2 := Kq.blk_cell R5.out.rb 2
    have r3 := Kq.blk_cell R5.out.rb 3
    have r4 := Kq.blk_cell R5.out.rb 4
    have q0 := Kq.blk_free R5.out.rb 0
    have q1 := Kq.blk_free R5.out.rb 1
    have q2 := Kq.blk_free R5.out.rb 2
    have q3 := Kq.blk_free R5.out.rb 3
    have q4 := Kq.blk_free R5.out.rb 4
    go_simp
    go_wp2
    clear c0 c1 c2 c3 c4 r0 r1 r2 r3 r4 q0 q1 q2 q3 q4
    change bodyPost _ _ _ _ _ (fill5 w5 w.heap.size 0 0 0 0 ⟨#[]⟩)
    have p1 := fill5_blk R5.out.rb 0 0 0 0 ⟨#[]⟩
    have p2 := fill5_keeps w5 w.heap.size 0 0 0 0 ⟨#[]⟩
    generalize fill5 w5 w.heap.size 0 0 0 0 ⟨#[]⟩ = z at *
    have z0 := Kq.blk_cell p1 0
    have z1 := Kq.blk_cell p1 1
    have z2 := Kq.blk_cell p1 2
    have z3 := Kq.blk_cell p1 3
    have z4 := Kq.blk_cell p1 4
    refine bodyPost_ret (v := readVal (none, 5)) (by simp [results, Try.results16, go_sem, z0, z1, z2, z3, z4, readVal, partOf, FrP.zero, FrP.val]) rfl ?_
    exact ⟨by rw [HRD.out], R5.out.bel.trans (p2.below R5.out.bel.size (fun k _ e => (by subst e; exact Nat.le_refl _)))⟩
theorem fr_read (a : Int) (s : ByteArray) (w : World) :
    Calls Try.prog 16 #[.int .i64 a, .string s] w fun e w' => e = .returned (readVal (frRead a s)) ∧ Below w.heap.size w w' := by
  by_cases h : FrSz a
  · by_cases hs : (s.size : Int) = a
    · subst hs
      cases hr : rightB s with
      | true => exact fr_read_in s.size s w h rfl hr
      | false =>
        have e : frRead (s.size : Int) s = (none, 8) := by unfold frRead; rw [if_neg (not_not_intro h), if_neg (by simp), if_pos hr]
        rw [e]
        exact fr_read_8 s.size s w h rfl hr
    · have e : frRead a s = (none, 6) := by unfold frRead; rw [if_neg (not_not_intro h), if_pos hs]
      rw [e]
      exact fr_read_6 a s w h hs
  · have e : frRead a s = (none, 1) := by unfold frRead; rw [if_pos h]
    rw [e]
    exact fr_read_1 a s w h
end Go.Proofs.Ytfbjfleagilikaa
