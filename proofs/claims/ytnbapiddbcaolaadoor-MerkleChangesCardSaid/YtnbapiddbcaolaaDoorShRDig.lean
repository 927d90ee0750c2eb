/- Contract of the reference's Digest, and of New. Condition: sizes; the book holds the constants. -/
import Derived.Test.YtnbapiddbcaolaaDoorShBlk
import Derived.Test.YtnbapiddbcaolaaDoorShRPad
import Derived.Test.YtnbapiddbcaolaaDoorShDig
namespace Go.Proofs.YtnbapiddbcaolaaDoor
open Go.RowKit
set_option linter.unusedVariables false
/-- a book: the constants lie where its slices lead -/
structure BookAt (w : World) (P : Nat) : Prop where
  ex : ∃ A ca B cb, w.cell? ⟨P, 0, none⟩ = some (.slice (some ⟨A, 0, none⟩) 64 ca) ∧ w.cell? ⟨P, 1, none⟩ = some (.slice (some ⟨B, 0, none⟩) 8 cb) ∧ WordsAt w A Sh.K ∧ WordsAt w B (toL Sh.H0)
  lt : P < w.heap.size
theorem BookAt.below {w w' : World} {P : Nat} (h : BookAt w P) (hb : Below w.heap.size w w') : BookAt w' P := by
  obtain ⟨A, ca, B, cb, h1, h2, h3, h4⟩ := h.ex
  exact ⟨⟨A, ca, B, cb, (hb.cell (p := ⟨P, 0, none⟩) h.lt).trans h1, (hb.cell (p := ⟨P, 1, none⟩) h.lt).trans h2, h3.below hb, h4.below hb⟩, Nat.lt_of_lt_of_le h.lt hb.size⟩
def stK (l : List Nat) (k : Nat) : Sh.S8 := Sh.blocks k Sh.H0 l
theorem stK_succ (l : List Nat) (k : Nat) : stK l (k + 1) = Sh.mix (stK l k) ((l.drop (64 * k)).take 64) := by
  unfold stK; rw [Sh.blocks_add]; rfl
theorem H0_ok : Ok8 Sh.H0 := ⟨by decide, by decide, by decide, by decide, by decide, by decide, by decide, by decide⟩
theorem stK_ok (l : List Nat) : ∀ k, Ok8 (stK l k)
  | 0 => H0_ok
  | k + 1 => by rw [stK_succ]; exact add8_ok _ _
theorem toL_lt {s : Sh.S8} (h : Ok8 s) : ∀ x ∈ toL s, x < 4294967296 := by
  intro x hx
  simp only [toL, List.mem_cons, List.not_mem_nil, or_false] at hx
  rcases hx with rfl | rfl | rfl | rfl | rfl | rfl | rfl | rfl
  · exact h.a
  · exact h.b
  · exact h.c
  · exact h.d
  · exact h.e
  · exact h.f
  · exact h.g
  · exact h.h
set_option maxRecDepth 100000 in
set_option maxHeartbeats 4000000 in
theorem r_digest (P : Nat) (s : ByteArray) (w : World) (h : BookAt w P) (hs : s.size ≤ 900000000) :
    Calls Tryd.prog 45 #[.pointer (some ⟨P, 0, none⟩), .string s] w fun e w' => e = .returned (.string (txt (Sh.digest (nl s)))) ∧ Below w.heap.size w w' := by
  obtain ⟨i0, hi, hz0, hz1, hz2⟩ := info_partsH infoU8H
  have H := Lib.hid h
  obtain ⟨A, ca, B, cb, c0, c1, hA, hB⟩ := h.ex
  have HC := Lib.hid (And.intro c0 (And.intro c1 (And.intro hA hB)))
  clear h c0 c1 hA hB
  have HPD := Lib.hid (fun w => r_pad s w (by omega))
  obtain ⟨l, hl⟩ : ∃ l, l = nl s ++ Sh.padding s.size := ⟨_, rfl⟩
  have hsn : (nl s).length = s.size := by simp [nl]
  have hplen : l.length % 64 = 0 := by rw [hl, List.length_append, hsn]; exact padding_len s.size
  have hlen : l.length ≤ s.size + 200 := by
    rw [hl, List.length_append, hsn]
    have : (Sh.padding s.size).length = 1 + (64 + 55 - s.size % 64) % 64 + 8 := by simp [Sh.padding, Sh.be8, Sh.be4]; omega
    omega
  have hlb : ∀ b ∈ l, b < 256 := by
    intro b hb
    rw [hl] at hb
    rcases List.mem_append.1 hb with h | h
    · exact nl_lt s b h
    · exact padding_lt _ b h
  have HDG : Hid (Sh.digest (nl s) = outL (toL (stK l (l.length / 64))) 8) := Lib.hid (by
    rw [outL_all, hl]
    unfold Sh.digest stK
    rw [hsn])
  rw [← hl] at HPD
  clear hl hsn
  have hTz : (txt l).size = l.length := by rw [txt_size]
  have HTN : Hid (nl (txt l) = l) := Lib.hid (nl_txt l hlb)
  obtain ⟨T, hT⟩ : ∃ T, T = txt l := ⟨_, rfl⟩
  rw [← hT] at hTz HTN HPD
  clear hT
  obtain ⟨N, hN⟩ : ∃ N, N = l.length / 64 := ⟨_, rfl⟩
  have hTN : T.size = 64 * N := by omega
  rw [← hN] at HDG
  have HTZ := Lib.hid hTN
  have hNb : N ≤ 100000000 := by omega
  clear hN hTz hlen hplen hTN
  go_enter Tryd.func45, Tryd.ntmps45
  go_wp2_with fail
  refine (HPD.out w).mono ?_
  rintro e w1 ⟨rfl, hb1⟩
  have HB1 := Lib.hid hb1
  have c1 := (hb1.cell (p := ⟨P, 1, none⟩) H.out.lt).trans HC.out.2.1
  clear hb1 HPD
  go_wp2
  clear c1
  go_loopw [6, 7] (fun p i wr => ∃ (k G c : Nat), k ≤ N ∧ i = .int .i64 ((64 * k : Nat) : Int) ∧ p = .slice (some ⟨G, 0, none⟩) 8 c ∧ WordsAt wr G (toL (stK l k)) ∧ Below w.heap.size w wr) (fun _ i _ => 64 * N - (intOf i).toNat)
  case atStart => exact ⟨0, B, cb, Nat.zero_le _, rfl, rfl, HC.out.2.2.2.below HB1.out, HB1.out⟩
  case round =>
    obtain ⟨k, G, c, hk, rfl, rfl, hI⟩ := hrel
    have HI := Lib.hid hI
    clear hI
    obtain ⟨m, hm⟩ : ∃ m, m = 64 * k := ⟨_, rfl⟩
    rw [← hm]
    by_cases hlt : k < N
    · have hmT : m + 64 ≤ T.size := by rw [HTZ.out]; omega
      have d0 : decide ((m : Int) < (T.size : Int)) = true := decide_eq_true (by omega)
      have d1 : (m : Int) < (T.size : Int) := by omega
      obtain ⟨m2, hm2⟩ : ∃ m2, m2 = m + 64 := ⟨_, rfl⟩
      have e1 : (m : Int) + 64 = (m2 : Int) := by omega
      have e2 : IntKind.i64.wrap ((m : Int) + 64) = (m2 : Int) := by rw [e1, IntWalk.i64_in _ (by omega)]
      have e3 : IntKind.i64.wrap (m2 : Int) = (m2 : Int) := IntWalk.i64_in _ (by omega)
      have d2 : (m2 : Int) ≤ (T.size : Int) := by omega
      have d3 : (m : Int) ≤ (m2 : Int) := by omega
      have hx64 : (T.extract m m2).size = 64 := by simp; omega
      have HNX : Hid (nl (T.extract m m2) = (l.drop (64 * k)).take 64) := Lib.hid (by rw [nl_extract, HTN.out, hm2, hm, show 64 * k + 64 - 64 * k = 64 by omega])
      have HM2 := Lib.hid hm2
      have HST := Lib.hid (stK_succ l k)
      have HBLK := Lib.hid (fun w' (hb : Below wr.heap.size wr w') => r_block (T.extract m m2) A ca G c (toL (stK l k)) w' hx64 ((HC.out.2.2.1.below HI.out.2).below hb) (HI.out.1.below hb) rfl (toL_lt (stK_ok l k)))
      rw [HNX.out] at HBLK
      have c0 : wr.cell? ⟨P, 0, none⟩ = some (.slice (some ⟨A, 0, none⟩) 64 ca) := (HI.out.2.cell (p := ⟨P, 0, none⟩) H.out.lt).trans HC.out.1
      have HMK := Lib.hid hm
      clear hx64 hm hm2
      go_wp2_with fail
      refine wp_region_held_drew (S := fun w' => w'.cell? ⟨P, 0, none⟩ = some (.slice (some ⟨A, 0, none⟩) 64 ca)) (by kernel_rfl) c0 (fun hS0 => ?_)
      refine wpAnyH_take (i := 0) (v := ?_) rfl (by kernel_rfl) (by kernel_rfl) (by kernel_rfl) (fun _ _ _ h => h) (Or.inl ⟨by kernel_rfl, ?_⟩) (by assumption) ?_
      rotate_left
      · intro w hSw; (try dsimp only at hSw); go_simp; (try with_reducible rfl)
      refine wpAnyH_take (i := 1) (v := ?_) rfl (by kernel_rfl) (by kernel_rfl) (by kernel_rfl) (fun _ _ _ h => h) (Or.inl ⟨by kernel_rfl, ?_⟩) (by assumption) ?_
      rotate_left
      · intro w hSw; (try dsimp only at hSw); go_simp; (try with_reducible rfl)
      refine wpAnyH_take (i := 2) (v := ?_) rfl (by kernel_rfl) (by kernel_rfl) (by kernel_rfl) (fun _ _ _ h => h) (Or.inl ⟨by kernel_rfl, ?_⟩) (by assumption) ?_
      rotate_left
      · intro w hSw; (try dsimp only at hSw); go_simp; (try with_reducible rfl)
      refine wpAnyH_take (i := 3) (v := ?_) rfl (by kernel_rfl) (by kernel_rfl) (by kernel_rfl) (fun _ _ _ h => h) (Or.inl ⟨by kernel_rfl, ?_⟩) (by assumption) ?_
      rotate_left
      · intro w hSw; (try dsimp only at hSw); go_simp; (try with_reducible rfl)
      refine wpAnyH_take (i := 4) (v := ?_) rfl (by kernel_rfl) (by kernel_rfl) (by kernel_rfl) (fun _ _ _ h => h) (Or.inl ⟨by kernel_rfl, ?_⟩) (by assumption) ?_
      rotate_left
      · intro w hSw; (try dsimp only at hSw); go_simp; (try with_reducible rfl)
      refine wpAnyH_take (i := 5) (v := ?_) rfl (by kernel_rfl) (by kernel_rfl) (by kernel_rfl) (fun _ _ _ h => h) (Or.inl ⟨by kernel_rfl, ?_⟩) (by assumption) ?_
      rotate_left
      · intro w hSw; (try dsimp only at hSw); go_simp; (try with_reducible rfl)
      refine wpAnyH_take (i := 6) (v := ?_) rfl (by kernel_rfl) (by kernel_rfl) (by kernel_rfl) (fun _ _ _ h => h) (Or.inl ⟨by kernel_rfl, ?_⟩) (by assumption) ?_
      rotate_left
      · intro w hSw; (try dsimp only at hSw); go_simp; (try with_reducible rfl)
      refine wpAnyH_take (i := 7) (v := ?_) rfl (by kernel_rfl) (by kernel_rfl) (by kernel_rfl) (fun _ _ _ h => h) (Or.inl ⟨by kernel_rfl, ?_⟩) (by assumption) ?_
      rotate_left
      · intro w hSw; (try dsimp only at hSw); go_simp; (try with_reducible rfl)
      refine wpAnyH_take (i := 8) (v := ?_) rfl (by kernel_rfl) (by kernel_rfl) (by kernel_rfl) (fun _ _ _ h => h) (Or.inl ⟨by kernel_rfl, ?_⟩) (by assumption) ?_
      rotate_left
      · intro w hSw; (try dsimp only at hSw); go_simp; (try with_reducible rfl)
      refine wpAnyH_take (i := 9) (v := ?_) rfl (by kernel_rfl) (by kernel_rfl) (by kernel_rfl) (fun _ _ _ h => h) (Or.inl ⟨by kernel_rfl, ?_⟩) (by assumption) ?_
      rotate_left
      · intro w hSw; (try dsimp only at hSw); go_simp; (try with_reducible rfl)
      refine wpAnyH_ready (rs := [10]) (by kernel_rfl) (by simp) ?_
      refine AllReadyH.cons rfl (fun K hK => ?_) AllReadyH.nil
      go_simp
      with_reducible refine (HBLK.out _ (Below.refl _ _).drew).mono ?_
      rintro e w2 ⟨G2, c2, rfl, hw2, hb2⟩
      rw [ofL_toL, ← HST.out] at hw2
      have hb2' : Below wr.heap.size wr w2 := ⟨hb2.os, hb2.tape, hb2.output, hb2.size, hb2.block⟩
      have H2 : Hid (WordsAt w2 G2 (toL (stK l (k + 1))) ∧ Below w.heap.size w w2) := Lib.hid ⟨hw2, HI.out.2.trans (hb2'.mono HI.out.2.size)⟩
      refine hK.out _ _ ((hb2'.cell (p := ⟨P, 0, none⟩) (Nat.lt_of_lt_of_le H.out.lt HI.out.2.size)).trans c0) (fun hS1 => ?_)
      clear hK K hS0 hw2 hb2 hb2' c0
      refine wpAnyH_take (i := 11) (v := ?_) rfl (by kernel_rfl) (by kernel_rfl) (by kernel_rfl) (fun _ _ _ h => h) (Or.inl ⟨by kernel_rfl, ?_⟩) (by assumption) ?_
      rotate_left
      · intro w hSw; (try dsimp only at hSw); go_simp; (try with_reducible rfl)
      refine wpAnyH_done (by kernel_rfl) ?_ _
      clear hS1
      go_wp2
      go_roundw
      case rel => exact ⟨k + 1, G2, c2, by omega, by rw [show 64 * (k + 1) = m2 by have := HMK.out; have := HM2.out; omega], rfl, H2.out⟩
      case measure => have := HMK.out; have := HM2.out; simp [intOf]; omega
    · have hkN : k = N := by omega
      have d0 : decide ((m : Int) < (T.size : Int)) = false := decide_eq_false (by rw [HTZ.out]; omega)
      have d1 : ¬ (m : Int) < (T.size : Int) := by rw [HTZ.out]; omega
      rw [hkN] at HI
      have HWS : Hid ((toL (stK l N)).length = 8 ∧ ∀ x ∈ toL (stK l N), x < 4294967296) := Lib.hid ⟨rfl, toL_lt (stK_ok l N)⟩
      obtain ⟨ws, hws⟩ : ∃ ws, ws = toL (stK l N) := ⟨_, rfl⟩
      rw [← hws] at HWS HI HDG
      clear hws hkN hm
      go_wp2_with fail
      obtain ⟨w9, hw9⟩ : ∃ w9, w9 = wr := ⟨_, rfl⟩
      have HB9 : Hid (WordsAt w9 G ws ∧ Below w.heap.size w w9) := Lib.hid (by rw [hw9]; exact HI.out)
      rw [← hw9]
      clear hw9 HI d0 d1
      go_loopw [8, 9] (fun o i wr => ∃ (k : Nat) (v : Value), k ≤ 8 ∧ i = .int .i64 (k : Int) ∧ o = v ∧ wr.ownsRow w9.heap.size 5 1 v (4 * k) (shcells (outL ws k)) ∧ Below w9.heap.size w9 wr) (fun _ i _ => 8 - (intOf i).toNat)
      case atStart => exact ⟨0, _, by omega, rfl, rfl, World.ownsRow_nil _ _ _ _, Below.refl _ _⟩
      case round =>
        obtain ⟨k, v, hk, rfl, hov, hrow, hbel⟩ := hrel
        have hov := hov.symm
        subst hov
        have HR := Lib.hid (And.intro hrow hbel)
        clear hrow hbel
        by_cases hlt : k < 8
        · have l1 : (k : Int) < 8 := by omega
          have dk : decide ((k : Int) < 8) = true := decide_eq_true l1
          have hc : wr.cell? ⟨G, k, none⟩ = some (.int .u32 ((ws.getD k 0 : Nat) : Int)) := (HB9.out.1.below HR.out.2).2 k (by rw [HWS.out.1]; exact hlt)
          have HT := Lib.hid (outL_succ ws k (by rw [HWS.out.1]; exact hlt))
          have hx : ws.getD k 0 < 4294967296 := getD_lt ws HWS.out.2 k
          generalize ws.getD k 0 = x at *
          obtain ⟨y3, y2, y1, y0, hbe, b3, b2, b1, b0⟩ := be4_facts x
          have HBE := Lib.hid hbe
          have HG9 : Hid (G < w9.heap.size) := Lib.hid HB9.out.1.1
          clear hbe
          go_wp2_with fail
          refine wp_region_held_drew (S := fun w' => w'.cell? ⟨G, k, none⟩ = some (Value.int .u32 (x : Int))) (by kernel_rfl) hc (fun hS0 => ?_)
          refine wpAnyH_take (i := 0) (v := ?_) rfl (by kernel_rfl) (by kernel_rfl) (by kernel_rfl) (fun _ _ _ h => h) (Or.inl ⟨by kernel_rfl, ?_⟩) (by assumption) ?_
          rotate_left
          · intro w hSw; (try dsimp only at hSw); go_simp; (try with_reducible rfl)
          refine wpAnyH_take (i := 1) (v := ?_) rfl (by kernel_rfl) (by kernel_rfl) (by kernel_rfl) (fun _ _ _ h => h) (Or.inl ⟨by kernel_rfl, ?_⟩) (by assumption) ?_
          rotate_left
          · intro w hSw; (try dsimp only at hSw); go_simp; (try with_reducible rfl)
          refine wpAnyH_take (i := 2) (v := ?_) rfl (by kernel_rfl) (by kernel_rfl) (by kernel_rfl) (fun _ _ _ h => h) (Or.inl ⟨by kernel_rfl, ?_⟩) (by assumption) ?_
          rotate_left
          · intro w hSw; (try dsimp only at hSw); go_simp; (try with_reducible rfl)
          refine wpAnyH_take (i := 3) (v := ?_) rfl (by kernel_rfl) (by kernel_rfl) (by kernel_rfl) (fun _ _ _ h => h) (Or.inl ⟨by kernel_rfl, ?_⟩) (by assumption) ?_
          rotate_left
          · intro w hSw; (try dsimp only at hSw); go_simp; (try with_reducible rfl)
          refine wpAnyH_take (i := 4) (v := ?_) rfl (by kernel_rfl) (by kernel_rfl) (by kernel_rfl) (fun _ _ _ h => h) (Or.inl ⟨by kernel_rfl, ?_⟩) (by assumption) ?_
          rotate_left
          · intro w hSw; (try dsimp only at hSw); go_simp; (try with_reducible rfl)
          refine wpAnyH_take (i := 5) (v := ?_) rfl (by kernel_rfl) (by kernel_rfl) (by kernel_rfl) (fun _ _ _ h => h) (Or.inl ⟨by kernel_rfl, ?_⟩) (by assumption) ?_
          rotate_left
          · intro w hSw; (try dsimp only at hSw); go_simp; (try with_reducible rfl)
          refine wpAnyH_take (i := 6) (v := ?_) rfl (by kernel_rfl) (by kernel_rfl) (by kernel_rfl) (fun _ _ _ h => h) (Or.inl ⟨by kernel_rfl, ?_⟩) (by assumption) ?_
          rotate_left
          · intro w hSw; (try dsimp only at hSw); go_simp; (try with_reducible rfl)
          refine wpAnyH_take (i := 7) (v := ?_) rfl (by kernel_rfl) (by kernel_rfl) (by kernel_rfl) (fun _ _ _ h => h) (Or.inl ⟨by kernel_rfl, ?_⟩) (by assumption) ?_
          rotate_left
          · intro w hSw; (try dsimp only at hSw); go_simp; (try with_reducible rfl)
          refine wpAnyH_take (i := 8) (v := ?_) rfl (by kernel_rfl) (by kernel_rfl) (by kernel_rfl) (fun _ _ _ h => h) (Or.inl ⟨by kernel_rfl, ?_⟩) (by assumption) ?_
          rotate_left
          · intro w hSw; (try dsimp only at hSw); go_simp; (try with_reducible rfl)
          refine wpAnyH_take (i := 9) (v := ?_) rfl (by kernel_rfl) (by kernel_rfl) (by kernel_rfl) (fun _ _ _ h => h) (Or.inl ⟨by kernel_rfl, ?_⟩) (by assumption) ?_
          rotate_left
          · intro w hSw; (try dsimp only at hSw); go_simp; (try with_reducible rfl)
          refine wpAnyH_take (i := 10) (v := ?_) rfl (by kernel_rfl) (by kernel_rfl) (by kernel_rfl) (fun _ _ _ h => h) (Or.inl ⟨by kernel_rfl, ?_⟩) (by assumption) ?_
          rotate_left
          · intro w hSw; (try dsimp only at hSw); go_simp; (try with_reducible rfl)
          refine wpAnyH_take (i := 11) (v := ?_) rfl (by kernel_rfl) (by kernel_rfl) (by kernel_rfl) (fun _ _ _ h => h) (Or.inl ⟨by kernel_rfl, ?_⟩) (by assumption) ?_
          rotate_left
          · intro w hSw; (try dsimp only at hSw); go_simp; (try with_reducible rfl)
          refine wpAnyH_take (i := 12) (v := ?_) rfl (by kernel_rfl) (by kernel_rfl) (by kernel_rfl) (fun _ _ _ h => h) (Or.inl ⟨by kernel_rfl, ?_⟩) (by assumption) ?_
          rotate_left
          · intro w hSw; (try dsimp only at hSw); go_simp; (try with_reducible rfl)
          refine wpAnyH_take (i := 13) (v := ?_) rfl (by kernel_rfl) (by kernel_rfl) (by kernel_rfl) (fun _ _ _ h => h) (Or.inl ⟨by kernel_rfl, ?_⟩) (by assumption) ?_
          rotate_left
          · intro w hSw; (try dsimp only at hSw); go_simp; (try with_reducible rfl)
          refine wpAnyH_take (i := 14) (v := ?_) rfl (by kernel_rfl) (by kernel_rfl) (by kernel_rfl) (fun _ _ _ h => h) (Or.inl ⟨by kernel_rfl, ?_⟩) (by assumption) ?_
          rotate_left
          · intro w hSw; (try dsimp only at hSw); go_simp; (try with_reducible rfl)
          refine wpAnyH_take (i := 15) (v := ?_) rfl (by kernel_rfl) (by kernel_rfl) (by kernel_rfl) (fun _ _ _ h => h) (Or.inl ⟨by kernel_rfl, ?_⟩) (by assumption) ?_
          rotate_left
          · intro w hSw; (try dsimp only at hSw); go_simp; (try with_reducible rfl)
          refine wpAnyH_take (i := 16) (v := ?_) rfl (by kernel_rfl) (by kernel_rfl) (by kernel_rfl) (fun _ _ _ h => h) (Or.inl ⟨by kernel_rfl, ?_⟩) (by assumption) ?_
          rotate_left
          · intro w hSw; (try dsimp only at hSw); go_simp; (try with_reducible rfl)
          refine wpAnyH_take (i := 17) (v := ?_) rfl (by kernel_rfl) (by kernel_rfl) (by kernel_rfl) (fun _ _ _ h => h) (Or.inl ⟨by kernel_rfl, ?_⟩) (by assumption) ?_
          rotate_left
          · intro w hSw; (try dsimp only at hSw); go_simp; (try with_reducible rfl)
          refine wpAnyH_take (i := 18) (v := ?_) rfl (by kernel_rfl) (by kernel_rfl) (by kernel_rfl) (fun _ _ _ h => h) (Or.inl ⟨by kernel_rfl, ?_⟩) (by assumption) ?_
          rotate_left
          · intro w hSw; (try dsimp only at hSw); go_simp; (try with_reducible rfl)
          refine wpAnyH_take (i := 19) (v := ?_) rfl (by kernel_rfl) (by kernel_rfl) (by kernel_rfl) (fun _ _ _ h => h) (Or.inl ⟨by kernel_rfl, ?_⟩) (by assumption) ?_
          rotate_left
          · intro w hSw; (try dsimp only at hSw); go_simp; (try with_reducible rfl)
          refine wpAnyH_take (i := 20) (v := ?_) rfl (by kernel_rfl) (by kernel_rfl) (by kernel_rfl) (fun _ _ _ h => h) (Or.inl ⟨by kernel_rfl, ?_⟩) (by assumption) ?_
          rotate_left
          · intro w hSw; (try dsimp only at hSw); go_simp; (try with_reducible rfl)
          refine wpAnyH_take (i := 21) (v := ?_) rfl (by kernel_rfl) (by kernel_rfl) (by kernel_rfl) (fun _ _ _ h => h) (Or.inl ⟨by kernel_rfl, ?_⟩) (by assumption) ?_
          rotate_left
          · intro w hSw; (try dsimp only at hSw); go_simp; (try with_reducible rfl)
          refine wpAnyH_take (i := 22) (v := ?_) rfl (by kernel_rfl) (by kernel_rfl) (by kernel_rfl) (fun _ _ _ h => h) (Or.inl ⟨by kernel_rfl, ?_⟩) (by assumption) ?_
          rotate_left
          · intro w hSw; (try dsimp only at hSw); go_simp; (try with_reducible rfl)
          refine wpAnyH_take (i := 23) (v := ?_) rfl (by kernel_rfl) (by kernel_rfl) (by kernel_rfl) (fun _ _ _ h => h) (Or.inl ⟨by kernel_rfl, ?_⟩) (by assumption) ?_
          rotate_left
          · intro w hSw; (try dsimp only at hSw); go_simp; (try with_reducible rfl)
          refine wpAnyH_ready (rs := [24]) (by kernel_rfl) (by simp) ?_
          refine AllReadyH.cons rfl (fun K hK => ?_) AllReadyH.nil
          go_simp
          have hb1 := Kq.below_alloc wr (.cells #[.int .u8 (y3 : Int), .int .u8 (y2 : Int), .int .u8 (y1 : Int), .int .u8 (y0 : Int)] 5)
          have hlG : G < wr.heap.size := Nat.lt_of_lt_of_le HG9.out HR.out.2.size
          refine hK.out _ _ ((hb1.cell (p := ⟨G, k, none⟩) hlG).trans hc) (fun hS1 => ?_)
          clear hK K hS0
          obtain ⟨wq, hwq⟩ : ∃ z, z = (wr.alloc (Obj.cells #[Value.int IntKind.u8 (y3 : Int), Value.int IntKind.u8 (y2 : Int), Value.int IntKind.u8 (y1 : Int), Value.int IntKind.u8 (y0 : Int)] 5)).drew := ⟨_, rfl⟩
          rw [← hwq]
          have hsrc : Src Tryd.prog 1 61 (.slice (some ⟨wr.heap.size, 0, none⟩) 4 4) 4 (shcells [y3, y2, y1, y0]) wq := by
            rw [hwq]
            exact Src.ofSlice _ Tryd.underlying61 ⟨wr.heap.size, 0, none⟩ 4 4 _ rfl (fun j u hj => Kq.cell_new _ _ _ (by
              rw [← List.getElem?_toArray] at hj
              exact hj)) (fun u hu => by
              simp only [shcells, List.mem_map] at hu
              obtain ⟨y, _, rfl⟩ := hu
              rfl)
          have hbq : Below wr.heap.size wr wq := by rw [hwq]; exact hb1.drew
          have hrow : wq.ownsRow w9.heap.size 5 1 v (4 * k) (shcells (outL ws k)) := by rw [hwq]; exact HR.out.1.alloc _
          refine wpAnyH_ready (rs := [25]) (by kernel_rfl) (by simp) ?_
          refine AllReadyH.cons rfl (fun K hK => ?_) AllReadyH.nil
          rw [if_pos (by rfl)]
          refine Kq.wp_append_any _ (.tmp 37) (.tmp 61) 61 61 rfl w9.heap.size 5 i0 (.int .u8 0) 1 1 Tryd.underlying61 hi hz0 hz1 hz2 rfl (by decide) _ (4 * k) _ rfl hrow (.slice (some ⟨wr.heap.size, 0, none⟩) 4 4) 4 _ rfl hsrc ?e1 ?e2 (Nat.le_trans HR.out.2.size hbq.size) ?_
          case e1 => unfold maxLen; omega
          case e2 => omega
          intro v' w' hown hgrow hfresh
          have hgk := Kq.Keeps.grown (S := fun j => w9.heap.size ≤ j) hgrow (fun j _ hj => (own_lt hrow hj).1)
          have hc1 : w'.cell? ⟨G, k, none⟩ = some (.int .u32 (x : Int)) := by
            rw [World.cell?_of_block (hgk.block G (Nat.lt_of_lt_of_le hlG hbq.size) (Nat.not_le.2 HG9.out))]
            exact (hbq.cell (p := ⟨G, k, none⟩) hlG).trans hc
          have HO : Hid (w'.ownsRow w9.heap.size 5 1 v' (4 * (k + 1)) (shcells (outL ws (k + 1))) ∧ Below w9.heap.size w9 w') := by
            rw [HT.out, HBE.out]
            have e : shcells (outL ws k ++ [y3, y2, y1, y0]) = shcells (outL ws k) ++ shcells [y3, y2, y1, y0] := by simp [shcells]
            rw [e, show 4 * (k + 1) = 4 * k + 4 by omega]
            exact Lib.hid ⟨hown, (HR.out.2.trans (hbq.mono HR.out.2.size)).trans (hgk.below (Nat.le_trans HR.out.2.size hbq.size) (fun j _ hj => hj))⟩
          refine hK.out _ _ hc1 (fun hS2 => ?_)
          clear hK K hS1 hown hgrow hfresh hgk hc1 hrow hbq hsrc hwq hb1 hlG hc b3 b2 b1 b0
          refine wpAnyH_take (i := 26) (v := ?_) rfl (by kernel_rfl) (by kernel_rfl) (by kernel_rfl) (fun _ _ _ h => h) (Or.inl ⟨by kernel_rfl, ?_⟩) (by assumption) ?_
          rotate_left
          · intro w hSw; (try dsimp only at hSw); go_simp; (try with_reducible rfl)
          refine wpAnyH_done (by kernel_rfl) ?_ _
          clear hS2
          go_wp2
          go_roundw
          case rel => exact ⟨k + 1, _, by omega, by go_num, rfl, HO.out.1, HO.out.2⟩
          case measure => simp [intOf]; omega
        · have h8 : k = 8 := by omega
          have dk : decide ((k : Int) < 8) = false := decide_eq_false (by omega)
          have dk2 : ¬ (k : Int) < 8 := by omega
          rw [h8] at HR
          have hcv := conv_own HR.out.1 (by rw [outL_len ws 8 (by rw [HWS.out.1]; exact Nat.le_refl _)]) (outL_lt ws 8)
          rw [← HDG.out] at hcv
          clear h8
          go_wp2
          go_ret
          exact ⟨rfl, HB9.out.2.trans (HR.out.2.mono HB9.out.2.size)⟩
end Go.Proofs.YtnbapiddbcaolaaDoor
