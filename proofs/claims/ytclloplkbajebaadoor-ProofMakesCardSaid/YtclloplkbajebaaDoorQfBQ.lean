/- Contracts of carrackref09.text, carrackref09.Bytes. Condition: sizes. -/
import Derived.WalkSpells
import Derived.Outline
import Derived.Deep.RegionHeld
import Derived.Test.YtclloplkbajebaaDoorPfFQ
import Derived.Test.YtclloplkbajebaaDoorShRDigQ
namespace Go.Proofs.YtclloplkbajebaaDoor
open Go.RowKit
set_option linter.unusedVariables false
theorem txt_nl9 (s : ByteArray) : txt (nl s) = s := nl_inj (nl_txt _ (nl_lt s))
set_option maxRecDepth 100000 in
set_option maxHeartbeats 1000000 in
theorem rq_text (s : ByteArray) (w : World) (hs : s.size ≤ 1000) :
    Calls Tryd.prog 34 #[.string s] w fun x w' => x = .returned (.string (txt (tx2 s))) ∧ Below w.heap.size w w' := by
  have HN := Lib.hid (ref_num s.size 2 w (by unfold M64; omega) (by decide))
  have HV : Hid (txt (be s.size 2) ++ s = txt (tx2 s)) := Lib.hid (by
    have h := txt_append (hi2 s.size) (nl s) (by rw [← be2 s.size (by omega)]; exact be_lt _ _) (nl_lt s)
    rw [txt_nl9] at h
    rw [be2 s.size (by omega), h]; rfl)
  have s1 : (txt (be s.size 2)).size = 2 := by rw [txt_size, be_len]
  have w2 : IntKind.u64.wrap (s.size : Int) = (s.size : Int) := IntWalk.u64_in _ (by omega)
  have hlen : ¬ 9223372036854775807 < 2 + s.size := by omega
  generalize txt (be s.size 2) = T1 at *
  go_enter Tryd.func34, Tryd.ntmps34
  go_wp2_with fail
  refine HN.out.mono ?_
  rintro x w2 ⟨rfl, b2⟩
  have HB := Lib.hid b2
  clear b2
  go_wp2
  go_ret
  exact ⟨by rw [← HV.out]; rfl, HB.out⟩
/-- cells of a leaf's block -/
def LCells (w' : World) (X : Nat) (i c : Int) (k v : ByteArray) (P : Value) : Prop := w'.cell? ⟨X, 0, none⟩ = some (.int .i64 i) ∧ w'.cell? ⟨X, 1, none⟩ = some (.int .i64 c) ∧ w'.cell? ⟨X, 2, none⟩ = some (.string k) ∧ w'.cell? ⟨X, 3, none⟩ = some (.string v) ∧ w'.cell? ⟨X, 4, none⟩ = some P
theorem LB.cells {w : World} {X : Nat} {i c : Int} {k v : ByteArray} {P : Value} (h : LB w X i c k v P) : LCells w X i c k v P := ⟨h.c0, h.c1, h.c2, h.c3, h.c4⟩
theorem LB.below {w w' : World} {X : Nat} {i c : Int} {k v : ByteArray} {P : Value} (h : LB w X i c k v P) (hb : Below w.heap.size w w') : LB w' X i c k v P := ⟨Kq.below_blk hb h.blk (Kq.blk_lt h.blk)⟩
theorem lf_text (O : ByteArray) (L0 : List Nat) (iN cN n : Nat) (k v : ByteArray) (hO : O = txt L0) (h0 : ∀ b ∈ L0, b < 256) (hn : n < 256) (hk : k.size ≤ 16) (hv : v.size ≤ 64) :
    ((((O ++ txt (be iN 8)) ++ txt (be cN 8)) ++ txt (tx2 k)) ++ txt (tx2 v)) ++ txt (be n 1) = txt (L0 ++ (num8 iN ++ (num8 cN ++ (tx2 k ++ (tx2 v ++ [n]))))) ∧ ∀ b ∈ L0 ++ (num8 iN ++ (num8 cN ++ (tx2 k ++ (tx2 v ++ [n])))), b < 256 := by
  have k1 := tx2_lt (s := k) (by omega)
  have k2 := tx2_lt (s := v) (by omega)
  have k3 := num8_lt iN
  have k4 := num8_lt cN
  have k5 : ∀ b ∈ [n], b < 256 := by simp; exact hn
  have app : ∀ {a b : List Nat}, (∀ x ∈ a, x < 256) → (∀ x ∈ b, x < 256) → ∀ x ∈ a ++ b, x < 256 := fun ha hb x hx => (List.mem_append.1 hx).elim (ha x) (hb x)
  rw [hO, be8, be8, be1 n hn, txt_append _ _ h0 k3, txt_append _ _ (app h0 k3) k4, txt_append _ _ (app (app h0 k3) k4) k1, txt_append _ _ (app (app (app h0 k3) k4) k1) k2, txt_append _ _ (app (app (app (app h0 k3) k4) k1) k2) k5]
  refine ⟨by simp only [List.append_assoc], ?_⟩
  have := app (app (app (app (app h0 k3) k4) k1) k2) k5
  simpa only [List.append_assoc] using this
set_option maxRecDepth 100000 in
set_option maxHeartbeats 2000000 in
theorem rq_bytes_f (S : Nat → Prop) (A : Option Addr) (cap : Nat) (ls : List LfW) (w : World) (hA : LfsN w S A ls) (hn : ls.length ≤ 2) (hp : ∀ x ∈ ls, x.l.p.length ≤ 1000) :
    Calls Tryd.prog 11 #[.agg #[.bool false, .slice A ls.length cap]] w (BsPost w (pfBytes ⟨false, vals ls⟩)) := by
  have hb0 := Kq.below_alloc w (.cells #[.bool false, .slice A ls.length cap] 24)
  have HB := Lib.hid (And.intro hb0 (And.intro (hA.below hb0) (PBk.mk (Kq.blk_new w #[.bool false, .slice A ls.length cap] 24 (0, 0)))))
  have HP := Lib.hid hp
  have HNO : Hid (∀ (x : LfW), x ∈ ls → ¬ LfMay x.l → pfBytes ⟨false, vals ls⟩ = (⟨#[]⟩, 1)) := Lib.hid (fun x hx hno => pfBytes_no (fun h => hno (h.2 _ (List.mem_map_of_mem hx))))
  have HYES : Hid ((∀ q (hq : q < ls.length), LfMay ls[q].l) → pfBytes ⟨false, vals ls⟩ = (txt ([1] ++ ([ls.length] ++ lsB (vals ls))), 0)) := Lib.hid (fun h => by
    rw [pfBytes_yes (p := ⟨false, vals ls⟩) ⟨by rw [vals_len]; exact hn, fun l hl => by
      obtain ⟨x, hx, rfl⟩ := List.mem_map.1 hl
      obtain ⟨q, hq, rfl⟩ := List.getElem_of_mem hx
      exact h q hq⟩]
    unfold pfB; simp only [if_false, Bool.false_eq_true]; rw [vals_len])
  have HN := Lib.hid (ref_num ls.length 1 (w.alloc (.cells #[.bool false, .slice A ls.length cap] 24)) (by unfold M64; omega) (by decide))
  have HNV : Hid (txt (be ls.length 1) = txt [ls.length]) := Lib.hid (by rw [be1 ls.length (by omega)])
  rw [HNV.out] at HN
  obtain ⟨RV, hRV⟩ : ∃ RV, RV = pfBytes ⟨false, vals ls⟩ := ⟨_, rfl⟩
  rw [← hRV] at HNO HYES ⊢
  have H2N := Lib.hid hn
  have w1 : IntKind.u64.wrap (ls.length : Int) = (ls.length : Int) := IntWalk.u64_in _ (by omega)
  have d1 : decide ((2 : Int) < (ls.length : Int)) = false := decide_eq_false (by omega)
  have d2 : decide (2 < ls.length) = false := decide_eq_false (by omega)
  have HPRE : Hid (txt [1] ++ txt [ls.length] = txt ([1] ++ ([ls.length] ++ lsB ((vals ls).take 0))) ∧ (txt [1]).size = 1 ∧ (txt [ls.length]).size = 1) := Lib.hid ⟨by
    rw [txt_append _ _ (by simp) (by simp; omega)]; rfl, by rw [txt_size]; rfl, by rw [txt_size]; rfl⟩
  clear hA hp hb0 hRV
  have s2 : (txt [ls.length]).size = 1 := HPRE.out.2.2
  have HTL : Hid (txt [1] = ⟨#[1]⟩) := Lib.hid rfl
  have HPR : Hid (⟨#[1]⟩ ++ txt [ls.length] = txt ([1] ++ ([ls.length] ++ lsB ((vals ls).take 0)))) := Lib.hid (by rw [← HTL.out]; exact HPRE.out.1)
  generalize txt [ls.length] = T2 at *
  go_enter Tryd.func11, Tryd.ntmps11
  go_wp2_with fail
  refine HN.out.mono ?_
  rintro x w2 ⟨rfl, b2⟩
  have H2 : Hid (Below w.heap.size w w2 ∧ LfsN w2 S A ls ∧ PBk w2 w.heap.size false (.slice A ls.length cap)) := Lib.hid ⟨HB.out.1.trans (b2.mono HB.out.1.size), HB.out.2.1.below b2, HB.out.2.2.below b2⟩
  clear b2 HB HN w1 HPRE
  have c0 := H2.out.2.2.c0
  have c1 := H2.out.2.2.c1
  go_wp2
  clear c0 c1
  go_loopw [4, 5] (fun u i wr => ∃ (j : Nat) (O : ByteArray), j ≤ ls.length ∧ u = .string O ∧ i = .int .i64 (j : Int) ∧ O = txt ([1] ++ ([ls.length] ++ lsB ((vals ls).take j))) ∧ (∀ q (hq : q < ls.length), q < j → LfMay ls[q].l) ∧ Below w2.heap.size w2 wr) (fun _ i _ => ls.length - (intOf i).toNat)
  case atStart => exact ⟨0, _, by omega, rfl, rfl, HPR.out, fun q _ hq => absurd hq (Nat.not_lt_zero _), Below.refl _ _⟩
  case round =>
    obtain ⟨j, O, hj, rfl, rfl, hO, hup, hbl⟩ := hrel
    have HUP := Lib.hid (And.intro hup (And.intro hbl hO))
    have hn2 := H2N.out
    have c1 := (H2.out.2.2.below hbl).c1
    by_cases hlt : j < ls.length
    · obtain ⟨b, off, rfl, -, hb, hc, ht, -⟩ := (H2.out.2.1.below hbl) j hlt
      have hpl := HP.out ls[j] (List.getElem_mem _)
      have HNX : Hid (¬ LfMay ls[j].l → RV = (⟨#[]⟩, 1)) := Lib.hid (fun h => HNO.out _ (List.getElem_mem _) h)
      have hv : j < (vals ls).length := by rw [vals_len]; exact hlt
      have HTK : Hid (lsB ((vals ls).take (j + 1)) = lsB ((vals ls).take j) ++ lfB ls[j].l) := Lib.hid (by rw [lsB_take _ _ hv]; simp [vals])
      have HLL : Hid (∀ b ∈ [1] ++ ([ls.length] ++ lsB ((vals ls).take j)), b < 256) := Lib.hid (fun b hb => by
        rcases List.mem_append.1 hb with h | h
        · rw [List.mem_singleton] at h; omega
        · rcases List.mem_append.1 h with h | h
          · rw [List.mem_singleton] at h; omega
          · refine lsB_lt _ (fun y hy => ?_) b h
            obtain ⟨q, hq, rfl⟩ := List.getElem_of_mem hy
            rw [List.length_take, vals_len] at hq
            rw [List.getElem_take]
            have := hup q (by omega) (by omega)
            simpa [vals] using this)
      have HLN : Hid (([1] ++ ([ls.length] ++ lsB ((vals ls).take j))).length ≤ 2000) := Lib.hid (by
        have h1 := lsB_len ((vals ls).take j) (fun y hy => by
          obtain ⟨q, hq, rfl⟩ := List.getElem_of_mem hy
          rw [List.length_take, vals_len] at hq
          rw [List.getElem_take]
          have := hup q (by omega) (by omega)
          simpa [vals] using this)
        have h2 : ((vals ls).take j).length ≤ 2 := by rw [List.length_take, vals_len]; omega
        simp only [List.length_append, List.length_cons, List.length_nil]; omega)
      obtain ⟨L0, hL0⟩ : ∃ L0, L0 = [1] ++ ([ls.length] ++ lsB ((vals ls).take j)) := ⟨_, rfl⟩
      rw [← hL0] at hO HLL HLN HUP
      have HL0 := Lib.hid hL0
      have HO := Lib.hid hO
      have hOs : O.size ≤ 2000 := by rw [hO, txt_size]; exact HLN.out
      obtain ⟨x, hx⟩ : ∃ x, x = ls[j] := ⟨_, rfl⟩
      rw [← hx] at hc ht hpl HNX HTK
      have HX := Lib.hid hx
      have HLT := Lib.hid hlt
      have hi0 : (j : Int) < (ls.length : Int) := by omega
      clear hup hb hx hv hL0 hO
      obtain ⟨⟨i, c, k, v, p⟩, a, cp⟩ := x
      obtain ⟨q0, q1, q2, q3, q4⟩ := hc
      simp only at q0 q1 q2 q3 q4 ht hpl HNX HTK
      have hba := Kq.below_alloc wr (.cells #[.int .i64 i, .int .i64 c, .string k, .string v, .slice a p.length cp] 30)
      have HBL : Hid (Below w.heap.size w (wr.alloc (.cells #[.int .i64 i, .int .i64 c, .string k, .string v, .slice a p.length cp] 30))) := Lib.hid (by
        have h1 := H2.out.1.trans (hbl.mono H2.out.1.size)
        exact h1.trans (hba.mono h1.size))
      have HLB : Hid (LB (wr.alloc (.cells #[.int .i64 i, .int .i64 c, .string k, .string v, .slice a p.length cp] 30)) wr.heap.size i c k v (.slice a p.length cp)) := Lib.hid ⟨Kq.blk_new _ _ _ _⟩
      clear hba hbl
      by_cases t0 : i < 0
      · have HE : Hid (RV = (⟨#[]⟩, 1)) := Lib.hid (HNX.out (fun h => by have := h.i0; simp only at *; omega))
        have e0_0 : decide (i < 0) = true := decide_eq_true (by omega)
        clear ht t0
        go_wp2
        go_ret2
        exact ⟨by rw [HE.out]; rfl, HBL.out⟩
      have e0_0 : decide (i < 0) = false := decide_eq_false (by omega)
      by_cases t1 : 4096 < i
      · have HE : Hid (RV = (⟨#[]⟩, 1)) := Lib.hid (HNX.out (fun h => by have := h.i1; simp only at *; omega))
        have e1_0 : decide (4096 < i) = true := decide_eq_true (by omega)
        clear ht t0 t1
        go_wp2
        go_ret2
        exact ⟨by rw [HE.out]; rfl, HBL.out⟩
      have e1_0 : decide (4096 < i) = false := decide_eq_false (by omega)
      by_cases t2 : c < 0
      · have HE : Hid (RV = (⟨#[]⟩, 1)) := Lib.hid (HNX.out (fun h => by have := h.c0; simp only at *; omega))
        have e2_0 : decide (c < 0) = true := decide_eq_true (by omega)
        clear ht t0 t1 t2
        go_wp2
        go_ret2
        exact ⟨by rw [HE.out]; rfl, HBL.out⟩
      have e2_0 : decide (c < 0) = false := decide_eq_false (by omega)
      by_cases t3 : 4096 < c
      · have HE : Hid (RV = (⟨#[]⟩, 1)) := Lib.hid (HNX.out (fun h => by have := h.c1; simp only at *; omega))
        have e3_0 : decide (4096 < c) = true := decide_eq_true (by omega)
        clear ht t0 t1 t2 t3
        go_wp2
        go_ret2
        exact ⟨by rw [HE.out]; rfl, HBL.out⟩
      have e3_0 : decide (4096 < c) = false := decide_eq_false (by omega)
      by_cases t4 : 16 < k.size
      · have HE : Hid (RV = (⟨#[]⟩, 1)) := Lib.hid (HNX.out (fun h => by have := h.k; simp only at *; omega))
        have e4_0 : decide ((16 : Int) < (k.size : Int)) = true := decide_eq_true (by omega)
        have e4_1 : decide (16 < k.size) = true := decide_eq_true (by omega)
        clear ht t0 t1 t2 t3 t4
        go_wp2
        go_ret2
        exact ⟨by rw [HE.out]; rfl, HBL.out⟩
      have e4_0 : decide ((16 : Int) < (k.size : Int)) = false := decide_eq_false (by omega)
      have e4_1 : decide (16 < k.size) = false := decide_eq_false (by omega)
      by_cases t5 : 64 < v.size
      · have HE : Hid (RV = (⟨#[]⟩, 1)) := Lib.hid (HNX.out (fun h => by have := h.v; simp only at *; omega))
        have e5_0 : decide ((64 : Int) < (v.size : Int)) = true := decide_eq_true (by omega)
        have e5_1 : decide (64 < v.size) = true := decide_eq_true (by omega)
        clear ht t0 t1 t2 t3 t4 t5
        go_wp2
        go_ret2
        exact ⟨by rw [HE.out]; rfl, HBL.out⟩
      have e5_0 : decide ((64 : Int) < (v.size : Int)) = false := decide_eq_false (by omega)
      have e5_1 : decide (64 < v.size) = false := decide_eq_false (by omega)
      by_cases t6 : 16 < p.length
      · have HE : Hid (RV = (⟨#[]⟩, 1)) := Lib.hid (HNX.out (fun h => by have := h.n; simp only at *; omega))
        have e6_0 : decide ((16 : Int) < (p.length : Int)) = true := decide_eq_true (by omega)
        have e6_1 : decide (16 < p.length) = true := decide_eq_true (by omega)
        clear ht t0 t1 t2 t3 t4 t5 t6
        go_wp2
        go_ret2
        exact ⟨by rw [HE.out]; rfl, HBL.out⟩
      have e6_0 : decide ((16 : Int) < (p.length : Int)) = false := decide_eq_false (by omega)
      have e6_1 : decide (16 < p.length) = false := decide_eq_false (by omega)
      have HTX := Lib.hid ht
      clear ht
      obtain ⟨iN, rfl⟩ := Int.eq_ofNat_of_zero_le (show 0 ≤ i by omega)
      obtain ⟨cN, rfl⟩ := Int.eq_ofNat_of_zero_le (show 0 ≤ c by omega)
      have HG : Hid (iN ≤ 4096 ∧ cN ≤ 4096 ∧ k.size ≤ 16 ∧ v.size ≤ 64 ∧ p.length ≤ 16) := Lib.hid (by omega)
      have HC1 := Lib.hid (fun w => ref_num iN 8 w (by unfold M64; omega) (by decide))
      have HC2 := Lib.hid (fun w => ref_num cN 8 w (by unfold M64; omega) (by decide))
      have HC3 := Lib.hid (fun w => rq_text k w (by omega))
      have HC4 := Lib.hid (fun w => rq_text v w (by omega))
      have HC5 := Lib.hid (fun w => ref_num p.length 1 w (by unfold M64; omega) (by decide))
      have HFT := Lib.hid (lf_text O L0 iN cN p.length k v HO.out HLL.out (by omega) (by omega) (by omega))
      have z1s : (txt (be iN 8)).size = 8 := by rw [txt_size, be_len]
      have z2s : (txt (be cN 8)).size = 8 := by rw [txt_size, be_len]
      have z3s : (txt (tx2 k)).size ≤ 18 := by rw [txt_size]; simp only [tx2, List.length_append, List.length_cons, List.length_nil, nl_length]; omega
      have z4s : (txt (tx2 v)).size ≤ 66 := by rw [txt_size]; simp only [tx2, List.length_append, List.length_cons, List.length_nil, nl_length]; omega
      have z5s : (txt (be p.length 1)).size = 1 := by rw [txt_size, be_len]
      have u1 : IntKind.u64.wrap (iN : Int) = (iN : Int) := IntWalk.u64_in _ (by omega)
      have u2 : IntKind.u64.wrap (cN : Int) = (cN : Int) := IntWalk.u64_in _ (by omega)
      have u3 : IntKind.u64.wrap (p.length : Int) = (p.length : Int) := IntWalk.u64_in _ (by omega)
      clear t0 t1 t2 t3 t4 t5 t6
      generalize txt (be iN 8) = T3 at *
      generalize txt (be cN 8) = T4 at *
      generalize txt (tx2 k) = T5 at *
      generalize txt (tx2 v) = T6 at *
      generalize txt (be p.length 1) = T7 at *
      have n1 : ¬ 9223372036854775807 < O.size + T3.size := by omega
      have n2 : ¬ 9223372036854775807 < O.size + T3.size + T4.size := by omega
      have n3 : ¬ 9223372036854775807 < O.size + T3.size + T4.size + T5.size := by omega
      have n4 : ¬ 9223372036854775807 < O.size + T3.size + T4.size + T5.size + T6.size := by omega
      have n5 : ¬ 9223372036854775807 < O.size + T3.size + T4.size + T5.size + T6.size + T7.size := by omega
      have HSZ : Hid ((((((O ++ T3) ++ T4) ++ T5) ++ T6) ++ T7).size ≤ 3000) := Lib.hid (by simp only [ByteArray.size_append]; omega)
      clear z1s z2s z3s z4s z5s hOs
      go_wp2
      have P0 : Hid (LB (wr.alloc (.cells #[.int .i64 (iN : Int), .int .i64 (cN : Int), .string k, .string v, .slice a p.length cp] 30)).drew wr.heap.size (iN : Int) (cN : Int) k v (.slice a p.length cp) ∧ Below wr.heap.size wr (wr.alloc (.cells #[.int .i64 (iN : Int), .int .i64 (cN : Int), .string k, .string v, .slice a p.length cp] 30)).drew) := Lib.hid ⟨⟨HLB.out.blk⟩, (Kq.below_alloc _ _).drew⟩
      refine wp_region_held_drew (S := fun w' => LCells w' wr.heap.size (iN : Int) (cN : Int) k v (.slice a p.length cp)) (by kernel_rfl) P0.out.1.cells (fun hS0 => ?_)
      generalize (wr.alloc (.cells #[.int .i64 (iN : Int), .int .i64 (cN : Int), .string k, .string v, .slice a p.length cp] 30)).drew = z0 at *
      unfold LCells at hS0
      dsimp only [LCells]
      refine wpAnyH_take (i := 0) (v := ?_) rfl (by kernel_rfl) (by kernel_rfl) (by kernel_rfl) (fun _ _ _ h => h) (Or.inl ⟨by kernel_rfl, ?_⟩) (by assumption) ?_
      rotate_left
      · intro w hSw; (try dsimp only at hSw); go_simp; (try with_reducible rfl)
      refine wpAnyH_take (i := 1) (v := ?_) rfl (by kernel_rfl) (by kernel_rfl) (by kernel_rfl) (fun _ _ _ h => h) (Or.inl ⟨by kernel_rfl, ?_⟩) (by assumption) ?_
      rotate_left
      · intro w hSw; (try dsimp only at hSw); go_simp; (try with_reducible rfl)
      refine wpAnyH_take (i := 2) (v := ?_) rfl (by kernel_rfl) (by kernel_rfl) (by kernel_rfl) (fun _ _ _ h => h) (Or.inl ⟨by kernel_rfl, ?_⟩) (by assumption) ?_
      rotate_left
      · intro w hSw; (try dsimp only at hSw); go_simp; (try with_reducible rfl)
      refine wpAnyH_take (i := 3) (v := ?_) rfl (by kernel_rfl) (by kernel_rfl) (by kernel_rfl) (fun _ _ _ h => h) (Or.inl ⟨by kernel_rfl, ?_⟩) (by assumption) ?_
      rotate_left
      · intro w hSw; (try dsimp only at hSw); go_simp; (try with_reducible rfl)
      refine wpAnyH_take (i := 6) (v := ?_) rfl (by kernel_rfl) (by kernel_rfl) (by kernel_rfl) (fun _ _ _ h => h) (Or.inl ⟨by kernel_rfl, ?_⟩) (by assumption) ?_
      rotate_left
      · intro w hSw; (try dsimp only at hSw); go_simp; (try with_reducible rfl)
      refine wpAnyH_take (i := 7) (v := ?_) rfl (by kernel_rfl) (by kernel_rfl) (by kernel_rfl) (fun _ _ _ h => h) (Or.inl ⟨by kernel_rfl, ?_⟩) (by assumption) ?_
      rotate_left
      · intro w hSw; (try dsimp only at hSw); go_simp; (try with_reducible rfl)
      refine wpAnyH_take (i := 8) (v := ?_) rfl (by kernel_rfl) (by kernel_rfl) (by kernel_rfl) (fun _ _ _ h => h) (Or.inl ⟨by kernel_rfl, ?_⟩) (by assumption) ?_
      rotate_left
      · intro w hSw; (try dsimp only at hSw); go_simp; (try with_reducible rfl)
      refine wpAnyH_take (i := 11) (v := ?_) rfl (by kernel_rfl) (by kernel_rfl) (by kernel_rfl) (fun _ _ _ h => h) (Or.inl ⟨by kernel_rfl, ?_⟩) (by assumption) ?_
      rotate_left
      · intro w hSw; (try dsimp only at hSw); go_simp; (try with_reducible rfl)
      refine wpAnyH_take (i := 12) (v := ?_) rfl (by kernel_rfl) (by kernel_rfl) (by kernel_rfl) (fun _ _ _ h => h) (Or.inl ⟨by kernel_rfl, ?_⟩) (by assumption) ?_
      rotate_left
      · intro w hSw; (try dsimp only at hSw); go_simp; (try with_reducible rfl)
      refine wpAnyH_take (i := 13) (v := ?_) rfl (by kernel_rfl) (by kernel_rfl) (by kernel_rfl) (fun _ _ _ h => h) (Or.inl ⟨by kernel_rfl, ?_⟩) (by assumption) ?_
      rotate_left
      · intro w hSw; (try dsimp only at hSw); go_simp; (try with_reducible rfl)
      refine wpAnyH_take (i := 16) (v := ?_) rfl (by kernel_rfl) (by kernel_rfl) (by kernel_rfl) (fun _ _ _ h => h) (Or.inl ⟨by kernel_rfl, ?_⟩) (by assumption) ?_
      rotate_left
      · intro w hSw; (try dsimp only at hSw); go_simp; (try with_reducible rfl)
      refine wpAnyH_take (i := 17) (v := ?_) rfl (by kernel_rfl) (by kernel_rfl) (by kernel_rfl) (fun _ _ _ h => h) (Or.inl ⟨by kernel_rfl, ?_⟩) (by assumption) ?_
      rotate_left
      · intro w hSw; (try dsimp only at hSw); go_simp; (try with_reducible rfl)
      refine wpAnyH_take (i := 18) (v := ?_) rfl (by kernel_rfl) (by kernel_rfl) (by kernel_rfl) (fun _ _ _ h => h) (Or.inl ⟨by kernel_rfl, ?_⟩) (by assumption) ?_
      rotate_left
      · intro w hSw; (try dsimp only at hSw); go_simp; (try with_reducible rfl)
      refine wpAnyH_take (i := 21) (v := ?_) rfl (by kernel_rfl) (by kernel_rfl) (by kernel_rfl) (fun _ _ _ h => h) (Or.inl ⟨by kernel_rfl, ?_⟩) (by assumption) ?_
      rotate_left
      · intro w hSw; (try dsimp only at hSw); go_simp; (try with_reducible rfl)
      refine wpAnyH_take (i := 22) (v := ?_) rfl (by kernel_rfl) (by kernel_rfl) (by kernel_rfl) (fun _ _ _ h => h) (Or.inl ⟨by kernel_rfl, ?_⟩) (by assumption) ?_
      rotate_left
      · intro w hSw; (try dsimp only at hSw); go_simp; (try with_reducible rfl)
      refine wpAnyH_take (i := 23) (v := ?_) rfl (by kernel_rfl) (by kernel_rfl) (by kernel_rfl) (fun _ _ _ h => h) (Or.inl ⟨by kernel_rfl, ?_⟩) (by assumption) ?_
      rotate_left
      · intro w hSw; (try dsimp only at hSw); go_simp; (try with_reducible rfl)
      refine wpAnyH_take (i := 24) (v := ?_) rfl (by kernel_rfl) (by kernel_rfl) (by kernel_rfl) (fun _ _ _ h => h) (Or.inl ⟨by kernel_rfl, ?_⟩) (by assumption) ?_
      rotate_left
      · intro w hSw; (try dsimp only at hSw); go_simp; (try with_reducible rfl)
      refine wpAnyH_ready (rs := [4]) (by kernel_rfl) (by simp) ?_
      refine AllReadyH.cons rfl (fun K hK => ?_) AllReadyH.nil
      go_simp
      refine (HC1.out _).mono ?_
      rintro x z1 ⟨rfl, b1⟩
      have P1 : Hid (LB z1 wr.heap.size (iN : Int) (cN : Int) k v (.slice a p.length cp) ∧ Below wr.heap.size wr z1) := Lib.hid ⟨P0.out.1.below b1, P0.out.2.trans (b1.mono P0.out.2.size)⟩
      clear b1 P0 hS0
      refine hK.out _ _ P1.out.1.cells (fun hS0 => ?_)
      clear hK K
      unfold LCells at hS0
      refine wpAnyH_take (i := 5) (v := ?_) rfl (by kernel_rfl) (by kernel_rfl) (by kernel_rfl) (fun _ _ _ h => h) (Or.inl ⟨by kernel_rfl, ?_⟩) (by assumption) ?_
      rotate_left
      · intro w hSw; (try dsimp only at hSw); go_simp; (try with_reducible rfl)
      refine wpAnyH_ready (rs := [9]) (by kernel_rfl) (by simp) ?_
      refine AllReadyH.cons rfl (fun K hK => ?_) AllReadyH.nil
      go_simp
      refine (HC2.out _).mono ?_
      rintro x z2 ⟨rfl, b2⟩
      have P2 : Hid (LB z2 wr.heap.size (iN : Int) (cN : Int) k v (.slice a p.length cp) ∧ Below wr.heap.size wr z2) := Lib.hid ⟨P1.out.1.below b2, P1.out.2.trans (b2.mono P1.out.2.size)⟩
      clear b2 P1 hS0
      refine hK.out _ _ P2.out.1.cells (fun hS0 => ?_)
      clear hK K
      unfold LCells at hS0
      refine wpAnyH_take (i := 10) (v := ?_) rfl (by kernel_rfl) (by kernel_rfl) (by kernel_rfl) (fun _ _ _ h => h) (Or.inl ⟨by kernel_rfl, ?_⟩) (by assumption) ?_
      rotate_left
      · intro w hSw; (try dsimp only at hSw); go_simp; (try with_reducible rfl)
      refine wpAnyH_ready (rs := [14]) (by kernel_rfl) (by simp) ?_
      refine AllReadyH.cons rfl (fun K hK => ?_) AllReadyH.nil
      go_simp
      refine (HC3.out _).mono ?_
      rintro x z3 ⟨rfl, b3⟩
      have P3 : Hid (LB z3 wr.heap.size (iN : Int) (cN : Int) k v (.slice a p.length cp) ∧ Below wr.heap.size wr z3) := Lib.hid ⟨P2.out.1.below b3, P2.out.2.trans (b3.mono P2.out.2.size)⟩
      clear b3 P2 hS0
      refine hK.out _ _ P3.out.1.cells (fun hS0 => ?_)
      clear hK K
      unfold LCells at hS0
      refine wpAnyH_take (i := 15) (v := ?_) rfl (by kernel_rfl) (by kernel_rfl) (by kernel_rfl) (fun _ _ _ h => h) (Or.inl ⟨by kernel_rfl, ?_⟩) (by assumption) ?_
      rotate_left
      · intro w hSw; (try dsimp only at hSw); go_simp; (try with_reducible rfl)
      refine wpAnyH_ready (rs := [19]) (by kernel_rfl) (by simp) ?_
      refine AllReadyH.cons rfl (fun K hK => ?_) AllReadyH.nil
      go_simp
      refine (HC4.out _).mono ?_
      rintro x z4 ⟨rfl, b4⟩
      have P4 : Hid (LB z4 wr.heap.size (iN : Int) (cN : Int) k v (.slice a p.length cp) ∧ Below wr.heap.size wr z4) := Lib.hid ⟨P3.out.1.below b4, P3.out.2.trans (b4.mono P3.out.2.size)⟩
      clear b4 P3 hS0
      refine hK.out _ _ P4.out.1.cells (fun hS0 => ?_)
      clear hK K
      unfold LCells at hS0
      refine wpAnyH_take (i := 20) (v := ?_) rfl (by kernel_rfl) (by kernel_rfl) (by kernel_rfl) (fun _ _ _ h => h) (Or.inl ⟨by kernel_rfl, ?_⟩) (by assumption) ?_
      rotate_left
      · intro w hSw; (try dsimp only at hSw); go_simp; (try with_reducible rfl)
      refine wpAnyH_ready (rs := [25]) (by kernel_rfl) (by simp) ?_
      refine AllReadyH.cons rfl (fun K hK => ?_) AllReadyH.nil
      go_simp
      refine (HC5.out _).mono ?_
      rintro x z5 ⟨rfl, b5⟩
      have P5 : Hid (LB z5 wr.heap.size (iN : Int) (cN : Int) k v (.slice a p.length cp) ∧ Below wr.heap.size wr z5) := Lib.hid ⟨P4.out.1.below b5, P4.out.2.trans (b5.mono P4.out.2.size)⟩
      clear b5 P4 hS0
      refine hK.out _ _ P5.out.1.cells (fun hS0 => ?_)
      clear hK K
      unfold LCells at hS0
      refine wpAnyH_take (i := 26) (v := ?_) rfl (by kernel_rfl) (by kernel_rfl) (by kernel_rfl) (fun _ _ _ h => h) (Or.inl ⟨by kernel_rfl, ?_⟩) (by assumption) ?_
      rotate_left
      · intro w hSw; (try dsimp only at hSw); go_simp; (try with_reducible rfl)
      refine wpAnyH_take (i := 27) (v := ?_) rfl (by kernel_rfl) (by kernel_rfl) (by kernel_rfl) (fun _ _ _ h => h) (Or.inl ⟨by kernel_rfl, ?_⟩) (by assumption) ?_
      rotate_left
      · intro w hSw; (try dsimp only at hSw); go_simp; (try with_reducible rfl)
      refine wpAnyH_done (by kernel_rfl) ?_ _
      go_simp
      clear n1 n2 n3 n4 n5 u1 u2 u3 hS0 e0_0 e1_0 e2_0 e3_0 e4_0 e4_1 e5_0 e5_1 e6_0 e6_1 HC1 HC2 HC3 HC4 HC5
      obtain ⟨O1, hO1⟩ : ∃ O1, O1 = ((((O ++ T3) ++ T4) ++ T5) ++ T6) ++ T7 := ⟨_, rfl⟩
      rw [← hO1] at HSZ HFT
      (try rw [← hO1])
      have H5 : Hid (LB z5 wr.heap.size (iN : Int) (cN : Int) k v (.slice a p.length cp) ∧ Below w.heap.size w z5 ∧ TxN z5 S a p ∧ Below w2.heap.size w2 z5) := Lib.hid ⟨P5.out.1, by
        have h1 := H2.out.1.trans (HUP.out.2.1.mono H2.out.1.size)
        exact h1.trans (P5.out.2.mono h1.size), HTX.out.below P5.out.2, HUP.out.2.1.trans (P5.out.2.mono HUP.out.2.1.size)⟩
      obtain ⟨L1, hL1⟩ : ∃ L1, L1 = L0 ++ (num8 iN ++ (num8 cN ++ (tx2 k ++ (tx2 v ++ [p.length])))) := ⟨_, rfl⟩
      rw [← hL1] at HFT
      have HL1 : Hid (L1 ++ rawL p = L0 ++ lfB ⟨(iN : Int), (cN : Int), k, v, p⟩) := Lib.hid (by rw [hL1]; unfold lfB; simp only [Int.toNat_natCast, List.append_assoc])
      obtain ⟨X, hX⟩ : ∃ X, X = wr.heap.size := ⟨_, rfl⟩
      rw [← hX] at H5
      have HXX := Lib.hid hX
      clear hL1 hO1 P5
      go_wp2
      rw [← hX]
      clear hX
      go_loop [4, 7] (fun u i => ∃ (m : Nat) (O : ByteArray), m ≤ p.length ∧ u = .string O ∧ i = .int .i64 (m : Int) ∧ O = txt (L1 ++ rawL (p.take m)) ∧ (∀ q (hq : q < p.length), q < m → p[q].size = 32)) (fun _ i => p.length - (intOf i).toNat)
      case atStart => exact ⟨0, _, by omega, rfl, rfl, by rw [List.take_zero]; show _ = txt (L1 ++ []); rw [List.append_nil]; exact HFT.out.1, fun q _ hq => absurd hq (Nat.not_lt_zero _)⟩
      case round =>
        obtain ⟨m, O2, hm, rfl, rfl, hO2, hup2⟩ := hrel
        have HUP2 := Lib.hid (And.intro hup2 hO2)
        have c4 := H5.out.1.c4
        have hp16 := HG.out.2.2.2.2
        by_cases hlt2 : m < p.length
        · obtain ⟨g, o, rfl, -, -, cm⟩ := H5.out.2.2.1 m hlt2
          have HNY : Hid (¬ p[m].size = 32 → RV = (⟨#[]⟩, 1)) := Lib.hid (fun h => HNX.out (fun hh => h (hh.d _ (List.getElem_mem _))))
          have HO2S : Hid (O2.size ≤ 4000) := Lib.hid (by
            rw [hO2, txt_size, List.length_append]
            have h1 := rawL_len (p.take m) (fun d hd => by
              obtain ⟨q, hq, rfl⟩ := List.getElem_of_mem hd
              rw [List.length_take] at hq
              rw [List.getElem_take]
              exact hup2 q (by omega) (by omega))
            rw [List.length_take] at h1
            have h2 := HSZ.out
            rw [HFT.out.1, txt_size] at h2
            omega)
          have HTT : Hid (∀ d : ByteArray, d = p[m] → O2 ++ d = txt (L1 ++ rawL (p.take (m + 1)))) := Lib.hid (fun d hd => by
            rw [rawL_take p m hlt2, ← List.append_assoc, hd, hO2]
            conv => lhs; rw [← txt_nl9 p[m]]
            exact txt_append _ _ (fun x hx => (List.mem_append.1 hx).elim (HFT.out.2 x) (rawL_lt _ x)) (nl_lt _))
          obtain ⟨d, hd⟩ : ∃ d, d = p[m] := ⟨_, rfl⟩
          rw [← hd] at cm HNY
          have HD := Lib.hid hd
          have HLT2 := Lib.hid hlt2
          have hi1 : (m : Int) < (p.length : Int) := by omega
          clear hup2 hO2 hd
          by_cases h32 : d.size = 32
          · have e8 : ((d.size : Int) != 32) = false := by rw [bne_eq_false_iff_eq]; omega
            have n8 : ¬ 9223372036854775807 < O2.size + d.size := by have := HO2S.out; omega
            have n9 : ¬ 9223372036854775807 < O2.size + 32 := by have := HO2S.out; omega
            have HS := Lib.hid h32
            clear h32
            go_wp2
            go_round
            case rel =>
              refine ⟨m + 1, _, HLT2.out, rfl, by go_num, HTT.out d HD.out, fun q hq h => ?_⟩
              rcases Nat.lt_or_ge q m with h' | h'
              · exact HUP2.out.1 q hq h'
              · obtain rfl : q = m := by omega
                rw [← HD.out]; exact HS.out
            case measure => have := HLT2.out; simp [intOf]; omega
          · have e8 : ((d.size : Int) != 32) = true := by rw [bne_iff_ne]; omega
            have HE := Lib.hid (HNY.out h32)
            clear h32
            go_wp2
            go_ret2
            exact ⟨by rw [HE.out]; rfl, H5.out.2.1⟩
        · obtain rfl : m = p.length := by omega
          have HM : Hid (LfMay ⟨(iN : Int), (cN : Int), k, v, p⟩) := Lib.hid (by
            have g := HG.out
            exact ⟨by simp only; omega, by simp only; omega, by simp only; omega, by simp only; omega, g.2.2.1, g.2.2.2.1, g.2.2.2.2, fun d hd => by
              obtain ⟨q, hq, rfl⟩ := List.getElem_of_mem hd
              exact hup2 q hq hq⟩)
          have HOE : Hid (O2 = txt ([1] ++ ([ls.length] ++ lsB ((vals ls).take (j + 1))))) := Lib.hid (by
            rw [hO2, List.take_length, HL1.out, HL0.out, HTK.out]
            congr 1
            first | done | simp only [List.append_assoc])
          clear hup2 hO2
          go_wp2
          go_roundw
          case rel =>
            refine ⟨j + 1, O2, HLT.out, rfl, by go_num, HOE.out, fun q hq h => ?_, H5.out.2.2.2⟩
            rcases Nat.lt_or_ge q j with h' | h'
            · exact HUP.out.1 q hq h'
            · obtain rfl : q = j := by omega
              rw [← HX.out]; exact HM.out
          case measure => have := HLT.out; simp [intOf]; omega
    · obtain rfl : j = ls.length := by omega
      have HE : Hid (RV = (txt ([1] ++ ([ls.length] ++ lsB (vals ls))), 0)) := Lib.hid (HYES.out (fun q hq => hup q hq hq))
      have HOE : Hid (O = txt ([1] ++ ([ls.length] ++ lsB (vals ls)))) := Lib.hid (by rw [hO, ← vals_len, List.take_length])
      have HBE : Hid (Below w.heap.size w wr) := Lib.hid (H2.out.1.trans (hbl.mono H2.out.1.size))
      clear hup hO hbl HUP
      go_wp2
      go_ret2
      exact ⟨by rw [HE.out, HOE.out]; rfl, HBE.out⟩
set_option maxRecDepth 100000 in
set_option maxHeartbeats 2000000 in
theorem rq_bytes_t (S : Nat → Prop) (A : Option Addr) (cap : Nat) (ls : List LfW) (w : World) (hA : LfsN w S A ls) (hn : ls.length ≤ 2) (hp : ∀ x ∈ ls, x.l.p.length ≤ 1000) :
    Calls Tryd.prog 11 #[.agg #[.bool true, .slice A ls.length cap]] w (BsPost w (pfBytes ⟨true, vals ls⟩)) := by
  have hb0 := Kq.below_alloc w (.cells #[.bool true, .slice A ls.length cap] 24)
  have HB := Lib.hid (And.intro hb0 (And.intro (hA.below hb0) (PBk.mk (Kq.blk_new w #[.bool true, .slice A ls.length cap] 24 (0, 0)))))
  have HP := Lib.hid hp
  have HNO : Hid (∀ (x : LfW), x ∈ ls → ¬ LfMay x.l → pfBytes ⟨true, vals ls⟩ = (⟨#[]⟩, 1)) := Lib.hid (fun x hx hno => pfBytes_no (fun h => hno (h.2 _ (List.mem_map_of_mem hx))))
  have HYES : Hid ((∀ q (hq : q < ls.length), LfMay ls[q].l) → pfBytes ⟨true, vals ls⟩ = (txt ([2] ++ ([ls.length] ++ lsB (vals ls))), 0)) := Lib.hid (fun h => by
    rw [pfBytes_yes (p := ⟨true, vals ls⟩) ⟨by rw [vals_len]; exact hn, fun l hl => by
      obtain ⟨x, hx, rfl⟩ := List.mem_map.1 hl
      obtain ⟨q, hq, rfl⟩ := List.getElem_of_mem hx
      exact h q hq⟩]
    unfold pfB; simp only [if_true]; rw [vals_len])
  have HN := Lib.hid (ref_num ls.length 1 (w.alloc (.cells #[.bool true, .slice A ls.length cap] 24)) (by unfold M64; omega) (by decide))
  have HNV : Hid (txt (be ls.length 1) = txt [ls.length]) := Lib.hid (by rw [be1 ls.length (by omega)])
  rw [HNV.out] at HN
  obtain ⟨RV, hRV⟩ : ∃ RV, RV = pfBytes ⟨true, vals ls⟩ := ⟨_, rfl⟩
  rw [← hRV] at HNO HYES ⊢
  have H2N := Lib.hid hn
  have w1 : IntKind.u64.wrap (ls.length : Int) = (ls.length : Int) := IntWalk.u64_in _ (by omega)
  have d1 : decide ((2 : Int) < (ls.length : Int)) = false := decide_eq_false (by omega)
  have d2 : decide (2 < ls.length) = false := decide_eq_false (by omega)
  have HPRE : Hid (txt [2] ++ txt [ls.length] = txt ([2] ++ ([ls.length] ++ lsB ((vals ls).take 0))) ∧ (txt [2]).size = 1 ∧ (txt [ls.length]).size = 1) := Lib.hid ⟨by
    rw [txt_append _ _ (by simp) (by simp; omega)]; rfl, by rw [txt_size]; rfl, by rw [txt_size]; rfl⟩
  clear hA hp hb0 hRV
  have s2 : (txt [ls.length]).size = 1 := HPRE.out.2.2
  have HTL : Hid (txt [2] = ⟨#[2]⟩) := Lib.hid rfl
  have HPR : Hid (⟨#[2]⟩ ++ txt [ls.length] = txt ([2] ++ ([ls.length] ++ lsB ((vals ls).take 0)))) := Lib.hid (by rw [← HTL.out]; exact HPRE.out.1)
  generalize txt [ls.length] = T2 at *
  go_enter Tryd.func11, Tryd.ntmps11
  go_wp2_with fail
  refine HN.out.mono ?_
  rintro x w2 ⟨rfl, b2⟩
  have H2 : Hid (Below w.heap.size w w2 ∧ LfsN w2 S A ls ∧ PBk w2 w.heap.size true (.slice A ls.length cap)) := Lib.hid ⟨HB.out.1.trans (b2.mono HB.out.1.size), HB.out.2.1.below b2, HB.out.2.2.below b2⟩
  clear b2 HB HN w1 HPRE
  have c0 := H2.out.2.2.c0
  have c1 := H2.out.2.2.c1
  go_wp2
  clear c0 c1
  go_loopw [4, 5] (fun u i wr => ∃ (j : Nat) (O : ByteArray), j ≤ ls.length ∧ u = .string O ∧ i = .int .i64 (j : Int) ∧ O = txt ([2] ++ ([ls.length] ++ lsB ((vals ls).take j))) ∧ (∀ q (hq : q < ls.length), q < j → LfMay ls[q].l) ∧ Below w2.heap.size w2 wr) (fun _ i _ => ls.length - (intOf i).toNat)
  case atStart => exact ⟨0, _, by omega, rfl, rfl, HPR.out, fun q _ hq => absurd hq (Nat.not_lt_zero _), Below.refl _ _⟩
  case round =>
    obtain ⟨j, O, hj, rfl, rfl, hO, hup, hbl⟩ := hrel
    have HUP := Lib.hid (And.intro hup (And.intro hbl hO))
    have hn2 := H2N.out
    have c1 := (H2.out.2.2.below hbl).c1
    by_cases hlt : j < ls.length
    · obtain ⟨b, off, rfl, -, hb, hc, ht, -⟩ := (H2.out.2.1.below hbl) j hlt
      have hpl := HP.out ls[j] (List.getElem_mem _)
      have HNX : Hid (¬ LfMay ls[j].l → RV = (⟨#[]⟩, 1)) := Lib.hid (fun h => HNO.out _ (List.getElem_mem _) h)
      have hv : j < (vals ls).length := by rw [vals_len]; exact hlt
      have HTK : Hid (lsB ((vals ls).take (j + 1)) = lsB ((vals ls).take j) ++ lfB ls[j].l) := Lib.hid (by rw [lsB_take _ _ hv]; simp [vals])
      have HLL : Hid (∀ b ∈ [2] ++ ([ls.length] ++ lsB ((vals ls).take j)), b < 256) := Lib.hid (fun b hb => by
        rcases List.mem_append.1 hb with h | h
        · rw [List.mem_singleton] at h; omega
        · rcases List.mem_append.1 h with h | h
          · rw [List.mem_singleton] at h; omega
          · refine lsB_lt _ (fun y hy => ?_) b h
            obtain ⟨q, hq, rfl⟩ := List.getElem_of_mem hy
            rw [List.length_take, vals_len] at hq
            rw [List.getElem_take]
            have := hup q (by omega) (by omega)
            simpa [vals] using this)
      have HLN : Hid (([2] ++ ([ls.length] ++ lsB ((vals ls).take j))).length ≤ 2000) := Lib.hid (by
        have h1 := lsB_len ((vals ls).take j) (fun y hy => by
          obtain ⟨q, hq, rfl⟩ := List.getElem_of_mem hy
          rw [List.length_take, vals_len] at hq
          rw [List.getElem_take]
          have := hup q (by omega) (by omega)
          simpa [vals] using this)
        have h2 : ((vals ls).take j).length ≤ 2 := by rw [List.length_take, vals_len]; omega
        simp only [List.length_append, List.length_cons, List.length_nil]; omega)
      obtain ⟨L0, hL0⟩ : ∃ L0, L0 = [2] ++ ([ls.length] ++ lsB ((vals ls).take j)) := ⟨_, rfl⟩
      rw [← hL0] at hO HLL HLN HUP
      have HL0 := Lib.hid hL0
      have HO := Lib.hid hO
      have hOs : O.size ≤ 2000 := by rw [hO, txt_size]; exact HLN.out
      obtain ⟨x, hx⟩ : ∃ x, x = ls[j] := ⟨_, rfl⟩
      rw [← hx] at hc ht hpl HNX HTK
      have HX := Lib.hid hx
      have HLT := Lib.hid hlt
      have hi0 : (j : Int) < (ls.length : Int) := by omega
      clear hup hb hx hv hL0 hO
      obtain ⟨⟨i, c, k, v, p⟩, a, cp⟩ := x
      obtain ⟨q0, q1, q2, q3, q4⟩ := hc
      simp only at q0 q1 q2 q3 q4 ht hpl HNX HTK
      have hba := Kq.below_alloc wr (.cells #[.int .i64 i, .int .i64 c, .string k, .string v, .slice a p.length cp] 30)
      have HBL : Hid (Below w.heap.size w (wr.alloc (.cells #[.int .i64 i, .int .i64 c, .string k, .string v, .slice a p.length cp] 30))) := Lib.hid (by
        have h1 := H2.out.1.trans (hbl.mono H2.out.1.size)
        exact h1.trans (hba.mono h1.size))
      have HLB : Hid (LB (wr.alloc (.cells #[.int .i64 i, .int .i64 c, .string k, .string v, .slice a p.length cp] 30)) wr.heap.size i c k v (.slice a p.length cp)) := Lib.hid ⟨Kq.blk_new _ _ _ _⟩
      clear hba hbl
      by_cases t0 : i < 0
      · have HE : Hid (RV = (⟨#[]⟩, 1)) := Lib.hid (HNX.out (fun h => by have := h.i0; simp only at *; omega))
        have e0_0 : decide (i < 0) = true := decide_eq_true (by omega)
        clear ht t0
        go_wp2
        go_ret2
        exact ⟨by rw [HE.out]; rfl, HBL.out⟩
      have e0_0 : decide (i < 0) = false := decide_eq_false (by omega)
      by_cases t1 : 4096 < i
      · have HE : Hid (RV = (⟨#[]⟩, 1)) := Lib.hid (HNX.out (fun h => by have := h.i1; simp only at *; omega))
        have e1_0 : decide (4096 < i) = true := decide_eq_true (by omega)
        clear ht t0 t1
        go_wp2
        go_ret2
        exact ⟨by rw [HE.out]; rfl, HBL.out⟩
      have e1_0 : decide (4096 < i) = false := decide_eq_false (by omega)
      by_cases t2 : c < 0
      · have HE : Hid (RV = (⟨#[]⟩, 1)) := Lib.hid (HNX.out (fun h => by have := h.c0; simp only at *; omega))
        have e2_0 : decide (c < 0) = true := decide_eq_true (by omega)
        clear ht t0 t1 t2
        go_wp2
        go_ret2
        exact ⟨by rw [HE.out]; rfl, HBL.out⟩
      have e2_0 : decide (c < 0) = false := decide_eq_false (by omega)
      by_cases t3 : 4096 < c
      · have HE : Hid (RV = (⟨#[]⟩, 1)) := Lib.hid (HNX.out (fun h => by have := h.c1; simp only at *; omega))
        have e3_0 : decide (4096 < c) = true := decide_eq_true (by omega)
        clear ht t0 t1 t2 t3
        go_wp2
        go_ret2
        exact ⟨by rw [HE.out]; rfl, HBL.out⟩
      have e3_0 : decide (4096 < c) = false := decide_eq_false (by omega)
      by_cases t4 : 16 < k.size
      · have HE : Hid (RV = (⟨#[]⟩, 1)) := Lib.hid (HNX.out (fun h => by have := h.k; simp only at *; omega))
        have e4_0 : decide ((16 : Int) < (k.size : Int)) = true := decide_eq_true (by omega)
        have e4_1 : decide (16 < k.size) = true := decide_eq_true (by omega)
        clear ht t0 t1 t2 t3 t4
        go_wp2
        go_ret2
        exact ⟨by rw [HE.out]; rfl, HBL.out⟩
      have e4_0 : decide ((16 : Int) < (k.size : Int)) = false := decide_eq_false (by omega)
      have e4_1 : decide (16 < k.size) = false := decide_eq_false (by omega)
      by_cases t5 : 64 < v.size
      · have HE : Hid (RV = (⟨#[]⟩, 1)) := Lib.hid (HNX.out (fun h => by have := h.v; simp only at *; omega))
        have e5_0 : decide ((64 : Int) < (v.size : Int)) = true := decide_eq_true (by omega)
        have e5_1 : decide (64 < v.size) = true := decide_eq_true (by omega)
        clear ht t0 t1 t2 t3 t4 t5
        go_wp2
        go_ret2
        exact ⟨by rw [HE.out]; rfl, HBL.out⟩
      have e5_0 : decide ((64 : Int) < (v.size : Int)) = false := decide_eq_false (by omega)
      have e5_1 : decide (64 < v.size) = false := decide_eq_false (by omega)
      by_cases t6 : 16 < p.length
      · have HE : Hid (RV = (⟨#[]⟩, 1)) := Lib.hid (HNX.out (fun h => by have := h.n; simp only at *; omega))
        have e6_0 : decide ((16 : Int) < (p.length : Int)) = true := decide_eq_true (by omega)
        have e6_1 : decide (16 < p.length) = true := decide_eq_true (by omega)
        clear ht t0 t1 t2 t3 t4 t5 t6
        go_wp2
        go_ret2
        exact ⟨by rw [HE.out]; rfl, HBL.out⟩
      have e6_0 : decide ((16 : Int) < (p.length : Int)) = false := decide_eq_false (by omega)
      have e6_1 : decide (16 < p.length) = false := decide_eq_false (by omega)
      have HTX := Lib.hid ht
      clear ht
      obtain ⟨iN, rfl⟩ := Int.eq_ofNat_of_zero_le (show 0 ≤ i by omega)
      obtain ⟨cN, rfl⟩ := Int.eq_ofNat_of_zero_le (show 0 ≤ c by omega)
      have HG : Hid (iN ≤ 4096 ∧ cN ≤ 4096 ∧ k.size ≤ 16 ∧ v.size ≤ 64 ∧ p.length ≤ 16) := Lib.hid (by omega)
      have HC1 := Lib.hid (fun w => ref_num iN 8 w (by unfold M64; omega) (by decide))
      have HC2 := Lib.hid (fun w => ref_num cN 8 w (by unfold M64; omega) (by decide))
      have HC3 := Lib.hid (fun w => rq_text k w (by omega))
      have HC4 := Lib.hid (fun w => rq_text v w (by omega))
      have HC5 := Lib.hid (fun w => ref_num p.length 1 w (by unfold M64; omega) (by decide))
      have HFT := Lib.hid (lf_text O L0 iN cN p.length k v HO.out HLL.out (by omega) (by omega) (by omega))
      have z1s : (txt (be iN 8)).size = 8 := by rw [txt_size, be_len]
      have z2s : (txt (be cN 8)).size = 8 := by rw [txt_size, be_len]
      have z3s : (txt (tx2 k)).size ≤ 18 := by rw [txt_size]; simp only [tx2, List.length_append, List.length_cons, List.length_nil, nl_length]; omega
      have z4s : (txt (tx2 v)).size ≤ 66 := by rw [txt_size]; simp only [tx2, List.length_append, List.length_cons, List.length_nil, nl_length]; omega
      have z5s : (txt (be p.length 1)).size = 1 := by rw [txt_size, be_len]
      have u1 : IntKind.u64.wrap (iN : Int) = (iN : Int) := IntWalk.u64_in _ (by omega)
      have u2 : IntKind.u64.wrap (cN : Int) = (cN : Int) := IntWalk.u64_in _ (by omega)
      have u3 : IntKind.u64.wrap (p.length : Int) = (p.length : Int) := IntWalk.u64_in _ (by omega)
      clear t0 t1 t2 t3 t4 t5 t6
      generalize txt (be iN 8) = T3 at *
      generalize txt (be cN 8) = T4 at *
      generalize txt (tx2 k) = T5 at *
      generalize txt (tx2 v) = T6 at *
      generalize txt (be p.length 1) = T7 at *
      have n1 : ¬ 9223372036854775807 < O.size + T3.size := by omega
      have n2 : ¬ 9223372036854775807 < O.size + T3.size + T4.size := by omega
      have n3 : ¬ 9223372036854775807 < O.size + T3.size + T4.size + T5.size := by omega
      have n4 : ¬ 9223372036854775807 < O.size + T3.size + T4.size + T5.size + T6.size := by omega
      have n5 : ¬ 9223372036854775807 < O.size + T3.size + T4.size + T5.size + T6.size + T7.size := by omega
      have HSZ : Hid ((((((O ++ T3) ++ T4) ++ T5) ++ T6) ++ T7).size ≤ 3000) := Lib.hid (by simp only [ByteArray.size_append]; omega)
      clear z1s z2s z3s z4s z5s hOs
      go_wp2
      have P0 : Hid (LB (wr.alloc (.cells #[.int .i64 (iN : Int), .int .i64 (cN : Int), .string k, .string v, .slice a p.length cp] 30)).drew wr.heap.size (iN : Int) (cN : Int) k v (.slice a p.length cp) ∧ Below wr.heap.size wr (wr.alloc (.cells #[.int .i64 (iN : Int), .int .i64 (cN : Int), .string k, .string v, .slice a p.length cp] 30)).drew) := Lib.hid ⟨⟨HLB.out.blk⟩, (Kq.below_alloc _ _).drew⟩
      refine wp_region_held_drew (S := fun w' => LCells w' wr.heap.size (iN : Int) (cN : Int) k v (.slice a p.length cp)) (by kernel_rfl) P0.out.1.cells (fun hS0 => ?_)
      generalize (wr.alloc (.cells #[.int .i64 (iN : Int), .int .i64 (cN : Int), .string k, .string v, .slice a p.length cp] 30)).drew = z0 at *
      unfold LCells at hS0
      dsimp only [LCells]
      refine wpAnyH_take (i := 0) (v := ?_) rfl (by kernel_rfl) (by kernel_rfl) (by kernel_rfl) (fun _ _ _ h => h) (Or.inl ⟨by kernel_rfl, ?_⟩) (by assumption) ?_
      rotate_left
      · intro w hSw; (try dsimp only at hSw); go_simp; (try with_reducible rfl)
      refine wpAnyH_take (i := 1) (v := ?_) rfl (by kernel_rfl) (by kernel_rfl) (by kernel_rfl) (fun _ _ _ h => h) (Or.inl ⟨by kernel_rfl, ?_⟩) (by assumption) ?_
      rotate_left
      · intro w hSw; (try dsimp only at hSw); go_simp; (try with_reducible rfl)
      refine wpAnyH_take (i := 2) (v := ?_) rfl (by kernel_rfl) (by kernel_rfl) (by kernel_rfl) (fun _ _ _ h => h) (Or.inl ⟨by kernel_rfl, ?_⟩) (by assumption) ?_
      rotate_left
      · intro w hSw; (try dsimp only at hSw); go_simp; (try with_reducible rfl)
      refine wpAnyH_take (i := 3) (v := ?_) rfl (by kernel_rfl) (by kernel_rfl) (by kernel_rfl) (fun _ _ _ h => h) (Or.inl ⟨by kernel_rfl, ?_⟩) (by assumption) ?_
      rotate_left
      · intro w hSw; (try dsimp only at hSw); go_simp; (try with_reducible rfl)
      refine wpAnyH_take (i := 6) (v := ?_) rfl (by kernel_rfl) (by kernel_rfl) (by kernel_rfl) (fun _ _ _ h => h) (Or.inl ⟨by kernel_rfl, ?_⟩) (by assumption) ?_
      rotate_left
      · intro w hSw; (try dsimp only at hSw); go_simp; (try with_reducible rfl)
      refine wpAnyH_take (i := 7) (v := ?_) rfl (by kernel_rfl) (by kernel_rfl) (by kernel_rfl) (fun _ _ _ h => h) (Or.inl ⟨by kernel_rfl, ?_⟩) (by assumption) ?_
      rotate_left
      · intro w hSw; (try dsimp only at hSw); go_simp; (try with_reducible rfl)
      refine wpAnyH_take (i := 8) (v := ?_) rfl (by kernel_rfl) (by kernel_rfl) (by kernel_rfl) (fun _ _ _ h => h) (Or.inl ⟨by kernel_rfl, ?_⟩) (by assumption) ?_
      rotate_left
      · intro w hSw; (try dsimp only at hSw); go_simp; (try with_reducible rfl)
      refine wpAnyH_take (i := 11) (v := ?_) rfl (by kernel_rfl) (by kernel_rfl) (by kernel_rfl) (fun _ _ _ h => h) (Or.inl ⟨by kernel_rfl, ?_⟩) (by assumption) ?_
      rotate_left
      · intro w hSw; (try dsimp only at hSw); go_simp; (try with_reducible rfl)
      refine wpAnyH_take (i := 12) (v := ?_) rfl (by kernel_rfl) (by kernel_rfl) (by kernel_rfl) (fun _ _ _ h => h) (Or.inl ⟨by kernel_rfl, ?_⟩) (by assumption) ?_
      rotate_left
      · intro w hSw; (try dsimp only at hSw); go_simp; (try with_reducible rfl)
      refine wpAnyH_take (i := 13) (v := ?_) rfl (by kernel_rfl) (by kernel_rfl) (by kernel_rfl) (fun _ _ _ h => h) (Or.inl ⟨by kernel_rfl, ?_⟩) (by assumption) ?_
      rotate_left
      · intro w hSw; (try dsimp only at hSw); go_simp; (try with_reducible rfl)
      refine wpAnyH_take (i := 16) (v := ?_) rfl (by kernel_rfl) (by kernel_rfl) (by kernel_rfl) (fun _ _ _ h => h) (Or.inl ⟨by kernel_rfl, ?_⟩) (by assumption) ?_
      rotate_left
      · intro w hSw; (try dsimp only at hSw); go_simp; (try with_reducible rfl)
      refine wpAnyH_take (i := 17) (v := ?_) rfl (by kernel_rfl) (by kernel_rfl) (by kernel_rfl) (fun _ _ _ h => h) (Or.inl ⟨by kernel_rfl, ?_⟩) (by assumption) ?_
      rotate_left
      · intro w hSw; (try dsimp only at hSw); go_simp; (try with_reducible rfl)
      refine wpAnyH_take (i := 18) (v := ?_) rfl (by kernel_rfl) (by kernel_rfl) (by kernel_rfl) (fun _ _ _ h => h) (Or.inl ⟨by kernel_rfl, ?_⟩) (by assumption) ?_
      rotate_left
      · intro w hSw; (try dsimp only at hSw); go_simp; (try with_reducible rfl)
      refine wpAnyH_take (i := 21) (v := ?_) rfl (by kernel_rfl) (by kernel_rfl) (by kernel_rfl) (fun _ _ _ h => h) (Or.inl ⟨by kernel_rfl, ?_⟩) (by assumption) ?_
      rotate_left
      · intro w hSw; (try dsimp only at hSw); go_simp; (try with_reducible rfl)
      refine wpAnyH_take (i := 22) (v := ?_) rfl (by kernel_rfl) (by kernel_rfl) (by kernel_rfl) (fun _ _ _ h => h) (Or.inl ⟨by kernel_rfl, ?_⟩) (by assumption) ?_
      rotate_left
      · intro w hSw; (try dsimp only at hSw); go_simp; (try with_reducible rfl)
      refine wpAnyH_take (i := 23) (v := ?_) rfl (by kernel_rfl) (by kernel_rfl) (by kernel_rfl) (fun _ _ _ h => h) (Or.inl ⟨by kernel_rfl, ?_⟩) (by assumption) ?_
      rotate_left
      · intro w hSw; (try dsimp only at hSw); go_simp; (try with_reducible rfl)
      refine wpAnyH_take (i := 24) (v := ?_) rfl (by kernel_rfl) (by kernel_rfl) (by kernel_rfl) (fun _ _ _ h => h) (Or.inl ⟨by kernel_rfl, ?_⟩) (by assumption) ?_
      rotate_left
      · intro w hSw; (try dsimp only at hSw); go_simp; (try with_reducible rfl)
      refine wpAnyH_ready (rs := [4]) (by kernel_rfl) (by simp) ?_
      refine AllReadyH.cons rfl (fun K hK => ?_) AllReadyH.nil
      go_simp
      refine (HC1.out _).mono ?_
      rintro x z1 ⟨rfl, b1⟩
      have P1 : Hid (LB z1 wr.heap.size (iN : Int) (cN : Int) k v (.slice a p.length cp) ∧ Below wr.heap.size wr z1) := Lib.hid ⟨P0.out.1.below b1, P0.out.2.trans (b1.mono P0.out.2.size)⟩
      clear b1 P0 hS0
      refine hK.out _ _ P1.out.1.cells (fun hS0 => ?_)
      clear hK K
      unfold LCells at hS0
      refine wpAnyH_take (i := 5) (v := ?_) rfl (by kernel_rfl) (by kernel_rfl) (by kernel_rfl) (fun _ _ _ h => h) (Or.inl ⟨by kernel_rfl, ?_⟩) (by assumption) ?_
      rotate_left
      · intro w hSw; (try dsimp only at hSw); go_simp; (try with_reducible rfl)
      refine wpAnyH_ready (rs := [9]) (by kernel_rfl) (by simp) ?_
      refine AllReadyH.cons rfl (fun K hK => ?_) AllReadyH.nil
      go_simp
      refine (HC2.out _).mono ?_
      rintro x z2 ⟨rfl, b2⟩
      have P2 : Hid (LB z2 wr.heap.size (iN : Int) (cN : Int) k v (.slice a p.length cp) ∧ Below wr.heap.size wr z2) := Lib.hid ⟨P1.out.1.below b2, P1.out.2.trans (b2.mono P1.out.2.size)⟩
      clear b2 P1 hS0
      refine hK.out _ _ P2.out.1.cells (fun hS0 => ?_)
      clear hK K
      unfold LCells at hS0
      refine wpAnyH_take (i := 10) (v := ?_) rfl (by kernel_rfl) (by kernel_rfl) (by kernel_rfl) (fun _ _ _ h => h) (Or.inl ⟨by kernel_rfl, ?_⟩) (by assumption) ?_
      rotate_left
      · intro w hSw; (try dsimp only at hSw); go_simp; (try with_reducible rfl)
      refine wpAnyH_ready (rs := [14]) (by kernel_rfl) (by simp) ?_
      refine AllReadyH.cons rfl (fun K hK => ?_) AllReadyH.nil
      go_simp
      refine (HC3.out _).mono ?_
      rintro x z3 ⟨rfl, b3⟩
      have P3 : Hid (LB z3 wr.heap.size (iN : Int) (cN : Int) k v (.slice a p.length cp) ∧ Below wr.heap.size wr z3) := Lib.hid ⟨P2.out.1.below b3, P2.out.2.trans (b3.mono P2.out.2.size)⟩
      clear b3 P2 hS0
      refine hK.out _ _ P3.out.1.cells (fun hS0 => ?_)
      clear hK K
      unfold LCells at hS0
      refine wpAnyH_take (i := 15) (v := ?_) rfl (by kernel_rfl) (by kernel_rfl) (by kernel_rfl) (fun _ _ _ h => h) (Or.inl ⟨by kernel_rfl, ?_⟩) (by assumption) ?_
      rotate_left
      · intro w hSw; (try dsimp only at hSw); go_simp; (try with_reducible rfl)
      refine wpAnyH_ready (rs := [19]) (by kernel_rfl) (by simp) ?_
      refine AllReadyH.cons rfl (fun K hK => ?_) AllReadyH.nil
      go_simp
      refine (HC4.out _).mono ?_
      rintro x z4 ⟨rfl, b4⟩
      have P4 : Hid (LB z4 wr.heap.size (iN : Int) (cN : Int) k v (.slice a p.length cp) ∧ Below wr.heap.size wr z4) := Lib.hid ⟨P3.out.1.below b4, P3.out.2.trans (b4.mono P3.out.2.size)⟩
      clear b4 P3 hS0
      refine hK.out _ _ P4.out.1.cells (fun hS0 => ?_)
      clear hK K
      unfold LCells at hS0
      refine wpAnyH_take (i := 20) (v := ?_) rfl (by kernel_rfl) (by kernel_rfl) (by kernel_rfl) (fun _ _ _ h => h) (Or.inl ⟨by kernel_rfl, ?_⟩) (by assumption) ?_
      rotate_left
      · intro w hSw; (try dsimp only at hSw); go_simp; (try with_reducible rfl)
      refine wpAnyH_ready (rs := [25]) (by kernel_rfl) (by simp) ?_
      refine AllReadyH.cons rfl (fun K hK => ?_) AllReadyH.nil
      go_simp
      refine (HC5.out _).mono ?_
      rintro x z5 ⟨rfl, b5⟩
      have P5 : Hid (LB z5 wr.heap.size (iN : Int) (cN : Int) k v (.slice a p.length cp) ∧ Below wr.heap.size wr z5) := Lib.hid ⟨P4.out.1.below b5, P4.out.2.trans (b5.mono P4.out.2.size)⟩
      clear b5 P4 hS0
      refine hK.out _ _ P5.out.1.cells (fun hS0 => ?_)
      clear hK K
      unfold LCells at hS0
      refine wpAnyH_take (i := 26) (v := ?_) rfl (by kernel_rfl) (by kernel_rfl) (by kernel_rfl) (fun _ _ _ h => h) (Or.inl ⟨by kernel_rfl, ?_⟩) (by assumption) ?_
      rotate_left
      · intro w hSw; (try dsimp only at hSw); go_simp; (try with_reducible rfl)
      refine wpAnyH_take (i := 27) (v := ?_) rfl (by kernel_rfl) (by kernel_rfl) (by kernel_rfl) (fun _ _ _ h => h) (Or.inl ⟨by kernel_rfl, ?_⟩) (by assumption) ?_
      rotate_left
      · intro w hSw; (try dsimp only at hSw); go_simp; (try with_reducible rfl)
      refine wpAnyH_done (by kernel_rfl) ?_ _
      go_simp
      clear n1 n2 n3 n4 n5 u1 u2 u3 hS0 e0_0 e1_0 e2_0 e3_0 e4_0 e4_1 e5_0 e5_1 e6_0 e6_1 HC1 HC2 HC3 HC4 HC5
      obtain ⟨O1, hO1⟩ : ∃ O1, O1 = ((((O ++ T3) ++ T4) ++ T5) ++ T6) ++ T7 := ⟨_, rfl⟩
      rw [← hO1] at HSZ HFT
      (try rw [← hO1])
      have H5 : Hid (LB z5 wr.heap.size (iN : Int) (cN : Int) k v (.slice a p.length cp) ∧ Below w.heap.size w z5 ∧ TxN z5 S a p ∧ Below w2.heap.size w2 z5) := Lib.hid ⟨P5.out.1, by
        have h1 := H2.out.1.trans (HUP.out.2.1.mono H2.out.1.size)
        exact h1.trans (P5.out.2.mono h1.size), HTX.out.below P5.out.2, HUP.out.2.1.trans (P5.out.2.mono HUP.out.2.1.size)⟩
      obtain ⟨L1, hL1⟩ : ∃ L1, L1 = L0 ++ (num8 iN ++ (num8 cN ++ (tx2 k ++ (tx2 v ++ [p.length])))) := ⟨_, rfl⟩
      rw [← hL1] at HFT
      have HL1 : Hid (L1 ++ rawL p = L0 ++ lfB ⟨(iN : Int), (cN : Int), k, v, p⟩) := Lib.hid (by rw [hL1]; unfold lfB; simp only [Int.toNat_natCast, List.append_assoc])
      obtain ⟨X, hX⟩ : ∃ X, X = wr.heap.size := ⟨_, rfl⟩
      rw [← hX] at H5
      have HXX := Lib.hid hX
      clear hL1 hO1 P5
      go_wp2
      rw [← hX]
      clear hX
      go_loop [4, 7] (fun u i => ∃ (m : Nat) (O : ByteArray), m ≤ p.length ∧ u = .string O ∧ i = .int .i64 (m : Int) ∧ O = txt (L1 ++ rawL (p.take m)) ∧ (∀ q (hq : q < p.length), q < m → p[q].size = 32)) (fun _ i => p.length - (intOf i).toNat)
      case atStart => exact ⟨0, _, by omega, rfl, rfl, by rw [List.take_zero]; show _ = txt (L1 ++ []); rw [List.append_nil]; exact HFT.out.1, fun q _ hq => absurd hq (Nat.not_lt_zero _)⟩
      case round =>
        obtain ⟨m, O2, hm, rfl, rfl, hO2, hup2⟩ := hrel
        have HUP2 := Lib.hid (And.intro hup2 hO2)
        have c4 := H5.out.1.c4
        have hp16 := HG.out.2.2.2.2
        by_cases hlt2 : m < p.length
        · obtain ⟨g, o, rfl, -, -, cm⟩ := H5.out.2.2.1 m hlt2
          have HNY : Hid (¬ p[m].size = 32 → RV = (⟨#[]⟩, 1)) := Lib.hid (fun h => HNX.out (fun hh => h (hh.d _ (List.getElem_mem _))))
          have HO2S : Hid (O2.size ≤ 4000) := Lib.hid (by
            rw [hO2, txt_size, List.length_append]
            have h1 := rawL_len (p.take m) (fun d hd => by
              obtain ⟨q, hq, rfl⟩ := List.getElem_of_mem hd
              rw [List.length_take] at hq
              rw [List.getElem_take]
              exact hup2 q (by omega) (by omega))
            rw [List.length_take] at h1
            have h2 := HSZ.out
            rw [HFT.out.1, txt_size] at h2
            omega)
          have HTT : Hid (∀ d : ByteArray, d = p[m] → O2 ++ d = txt (L1 ++ rawL (p.take (m + 1)))) := Lib.hid (fun d hd => by
            rw [rawL_take p m hlt2, ← List.append_assoc, hd, hO2]
            conv => lhs; rw [← txt_nl9 p[m]]
            exact txt_append _ _ (fun x hx => (List.mem_append.1 hx).elim (HFT.out.2 x) (rawL_lt _ x)) (nl_lt _))
          obtain ⟨d, hd⟩ : ∃ d, d = p[m] := ⟨_, rfl⟩
          rw [← hd] at cm HNY
          have HD := Lib.hid hd
          have HLT2 := Lib.hid hlt2
          have hi1 : (m : Int) < (p.length : Int) := by omega
          clear hup2 hO2 hd
          by_cases h32 : d.size = 32
          · have e8 : ((d.size : Int) != 32) = false := by rw [bne_eq_false_iff_eq]; omega
            have n8 : ¬ 9223372036854775807 < O2.size + d.size := by have := HO2S.out; omega
            have n9 : ¬ 9223372036854775807 < O2.size + 32 := by have := HO2S.out; omega
            have HS := Lib.hid h32
            clear h32
            go_wp2
            go_round
            case rel =>
              refine ⟨m + 1, _, HLT2.out, rfl, by go_num, HTT.out d HD.out, fun q hq h => ?_⟩
              rcases Nat.lt_or_ge q m with h' | h'
              · exact HUP2.out.1 q hq h'
              · obtain rfl : q = m := by omega
                rw [← HD.out]; exact HS.out
            case measure => have := HLT2.out; simp [intOf]; omega
          · have e8 : ((d.size : Int) != 32) = true := by rw [bne_iff_ne]; omega
            have HE := Lib.hid (HNY.out h32)
            clear h32
            go_wp2
            go_ret2
            exact ⟨by rw [HE.out]; rfl, H5.out.2.1⟩
        · obtain rfl : m = p.length := by omega
          have HM : Hid (LfMay ⟨(iN : Int), (cN : Int), k, v, p⟩) := Lib.hid (by
            have g := HG.out
            exact ⟨by simp only; omega, by simp only; omega, by simp only; omega, by simp only; omega, g.2.2.1, g.2.2.2.1, g.2.2.2.2, fun d hd => by
              obtain ⟨q, hq, rfl⟩ := List.getElem_of_mem hd
              exact hup2 q hq hq⟩)
          have HOE : Hid (O2 = txt ([2] ++ ([ls.length] ++ lsB ((vals ls).take (j + 1))))) := Lib.hid (by
            rw [hO2, List.take_length, HL1.out, HL0.out, HTK.out]
            congr 1
            first | done | simp only [List.append_assoc])
          clear hup2 hO2
          go_wp2
          go_roundw
          case rel =>
            refine ⟨j + 1, O2, HLT.out, rfl, by go_num, HOE.out, fun q hq h => ?_, H5.out.2.2.2⟩
            rcases Nat.lt_or_ge q j with h' | h'
            · exact HUP.out.1 q hq h'
            · obtain rfl : q = j := by omega
              rw [← HX.out]; exact HM.out
          case measure => have := HLT.out; simp [intOf]; omega
    · obtain rfl : j = ls.length := by omega
      have HE : Hid (RV = (txt ([2] ++ ([ls.length] ++ lsB (vals ls))), 0)) := Lib.hid (HYES.out (fun q hq => hup q hq hq))
      have HOE : Hid (O = txt ([2] ++ ([ls.length] ++ lsB (vals ls)))) := Lib.hid (by rw [hO, ← vals_len, List.take_length])
      have HBE : Hid (Below w.heap.size w wr) := Lib.hid (H2.out.1.trans (hbl.mono H2.out.1.size))
      clear hup hO hbl HUP
      go_wp2
      go_ret2
      exact ⟨by rw [HE.out, HOE.out]; rfl, HBE.out⟩
theorem rq_bytes (S : Nat → Prop) (ab : Bool) (A : Option Addr) (cap : Nat) (ls : List LfW) (w : World) (hA : LfsN w S A ls) (hn : ls.length ≤ 1000) (hp : ∀ x ∈ ls, x.l.p.length ≤ 1000) :
    Calls Tryd.prog 11 #[.agg #[.bool ab, .slice A ls.length cap]] w (BsPost w (pfBytes ⟨ab, vals ls⟩)) := by
  by_cases h2 : ls.length ≤ 2
  · cases ab
    · exact rq_bytes_f S A cap ls w hA h2 hp
    · exact rq_bytes_t S A cap ls w hA h2 hp
  · have HE : Hid (pfBytes ⟨ab, vals ls⟩ = (⟨#[]⟩, 1)) := Lib.hid (pfBytes_no (fun h => h2 (by rw [← vals_len]; exact h.1)))
    rw [HE.out]
    have HB := Lib.hid (Kq.below_alloc w (.cells #[.bool ab, .slice A ls.length cap] 24))
    have d1 : decide ((2 : Int) < (ls.length : Int)) = true := decide_eq_true (by omega)
    have d2 : decide (2 < ls.length) = true := decide_eq_true (by omega)
    clear hA hp h2 HE
    go_enter Tryd.func11, Tryd.ntmps11
    go_wp2
    go_ret2
    exact ⟨rfl, HB.out⟩
end Go.Proofs.YtclloplkbajebaaDoor
