/- The reference's client in memory; contracts of its Root, Set. Condition: it has room. -/
import Derived.WalkSpells
import Derived.Outline
import Derived.Test.YtdonoilcegaleaaClKp
namespace Go.Proofs.Ytdonoilcegaleaa
open Go.RowKit Go.Cl
set_option linter.unusedVariables false
def kcells : List (Nat × ByteArray) → List Value
  | [] => []
  | (k, s) :: l => .int .u64 (k : Int) :: .string s :: kcells l
theorem kcells_length (l : List (Nat × ByteArray)) : (kcells l).length = l.length * 2 := by
  induction l with
  | nil => rfl
  | cons p l ih => obtain ⟨k, s⟩ := p; simp [kcells, ih]; omega
theorem kcells_append (l m : List (Nat × ByteArray)) : kcells (l ++ m) = kcells l ++ kcells m := by
  induction l with
  | nil => rfl
  | cons p l ih => obtain ⟨k, s⟩ := p; simp [kcells, ih]
theorem kcells_one (l : List (Nat × ByteArray)) : ∀ u ∈ kcells l, u.oneCell' = true := by
  induction l with
  | nil => intro u hu; cases hu
  | cons p l ih =>
    obtain ⟨k, s⟩ := p
    intro u hu
    simp only [kcells, List.mem_cons] at hu
    rcases hu with rfl | rfl | hu
    · rfl
    · rfl
    · exact ih u hu
theorem kcells_at (l : List (Nat × ByteArray)) (j : Nat) (h : j < l.length) : (kcells l)[j * 2]? = some (.int .u64 (l[j].1 : Int)) ∧ (kcells l)[j * 2 + 1]? = some (.string l[j].2) := by
  induction l generalizing j with
  | nil => cases h
  | cons p l ih =>
    obtain ⟨k, s⟩ := p
    match j with
    | 0 => exact ⟨rfl, rfl⟩
    | j + 1 =>
      have := ih j (by simpa using h)
      have e : (j + 1) * 2 = j * 2 + 1 + 1 := by omega
      rw [e]
      simpa [kcells] using this
/-- the row, the heights and the roots tell the same -/
structure Lk (L : List (Nat × ByteArray)) (hs : List Nat) (f : Int → Option ByteArray) : Prop where
  fm : ∀ (k : Nat) s, f (k : Int) = some s ↔ (k, s) ∈ L
  ok : ClOk hs f
theorem Lk.mem {L : List (Nat × ByteArray)} {hs : List Nat} {f : Int → Option ByteArray} (h : Lk L hs f) (k : Nat) : k ∈ hs ↔ ∃ s, (k, s) ∈ L := by
  rw [← h.ok.mem k, Option.isSome_iff_exists]
  constructor
  · rintro ⟨s, e⟩; exact ⟨s, (h.fm k s).1 e⟩
  · rintro ⟨s, e⟩; exact ⟨s, (h.fm k s).2 e⟩
theorem Lk.at {L : List (Nat × ByteArray)} {hs : List Nat} {f : Int → Option ByteArray} (h : Lk L hs f) (j : Nat) (hj : j < L.length) : L[j].1 ∈ hs ∧ f (L[j].1 : Int) = some L[j].2 :=
  ⟨(h.mem _).2 ⟨L[j].2, List.getElem_mem _⟩, (h.fm _ _).2 (List.getElem_mem _)⟩
theorem Lk.of {L : List (Nat × ByteArray)} {hs : List Nat} {f : Int → Option ByteArray} (h : Lk L hs f) {k : Nat} (hk : k ∈ hs) : ∃ j, ∃ hj : j < L.length, L[j].1 = k := by
  obtain ⟨s, hm⟩ := (h.mem k).1 hk
  obtain ⟨j, hj, e⟩ := List.getElem_of_mem hm
  exact ⟨j, hj, by rw [e]⟩
def setL (x : Nat) (s : ByteArray) (f : Int → Option ByteArray) (L : List (Nat × ByteArray)) : List (Nat × ByteArray) :=
  if s.size = 32 then (if (f (x : Int)).isSome then L else L ++ [(x, s)]) else L
theorem Lk.step {L : List (Nat × ByteArray)} {hs : List Nat} {f : Int → Option ByteArray} (h : Lk L hs f) (x : Nat) (hx : x < 18446744073709551616) (s : ByteArray) : Lk (setL x s f L) (setF x s hs f).1 (setF x s hs f).2.1 := by
  refine ⟨fun k t => ?_, setF_ok h.ok hx⟩
  unfold setF setL
  by_cases h32 : s.size = 32
  · rw [if_pos h32, if_pos h32]
    by_cases hq : (f (x : Int)).isSome = true
    · rw [if_pos hq, if_pos hq]
      exact h.fm k t
    · rw [if_neg hq, if_neg hq]
      show updT f x s (k : Int) = some t ↔ _
      unfold updT
      rw [List.mem_append]
      by_cases hk : (k : Int) = (x : Int)
      · have hkx : k = x := by omega
        subst hkx
        rw [if_pos rfl]
        constructor
        · intro e; cases e; exact Or.inr (by simp)
        · rintro (hm | hm)
          · exact absurd (Option.isSome_iff_exists.2 ⟨t, (h.fm k t).2 hm⟩) hq
          · simp at hm; rw [hm]
      · rw [if_neg hk, h.fm k t]
        constructor
        · exact Or.inl
        · rintro (a | a)
          · exact a
          · simp at a; omega
  · rw [if_neg h32, if_neg h32]
    exact h.fm k t
structure RcS (w : World) (base R : Nat) (u : Value) (L : List (Nat × ByteArray)) : Prop where
  blk : w.heap[R]? = some (.cells #[u] 29 (0, 0))
  own : w.ownsRow base 33 2 u L.length (kcells L)
  ne : ∀ k, u.ownBlock = some k → k ≠ R
  base : base ≤ w.heap.size
section
variable {w : World} {base R : Nat} {u : Value} {L : List (Nat × ByteArray)} (h : RcS w base R u L)
include h
theorem RcS.c0 : w.cell? ⟨R, 0, none⟩ = some u := Kq.blk_cell h.blk 0
theorem RcS.fz (i : Nat) : w.frozen? ⟨R, i, none⟩ = false := Kq.blk_free h.blk i
theorem RcS.keeps {P : Nat → Prop} {w' : World} (hk : Kq.Keeps P w w') (hR : ¬ P R) (hP : ∀ k, u.ownBlock = some k → ¬ P k) : RcS w' base R u L := by
  refine ⟨hk.blk h.blk hR, ?_, h.ne, Nat.le_trans h.base hk.size⟩
  obtain ⟨h1, h2⟩ := h.own
  refine ⟨h1, h2.imp id ?_⟩
  rintro ⟨g, cap, cur, hv, h3, h4, h5⟩
  exact ⟨g, cap, cur, hv, h3, hk.blk h4 (hP g (by rw [hv]; rfl)), h5⟩
theorem RcS.below {w' : World} (hb : Below w.heap.size w w') : RcS w' base R u L :=
  h.keeps (P := fun _ => False) (Kq.Keeps.of_below hb (fun j h1 h2 => absurd h1 (Nat.not_le.2 h2))) id (fun _ _ => id)
theorem RcS.shape : ∃ A cap, u = .slice A L.length cap := by
  rcases h.own.2 with ⟨rfl, h0⟩ | ⟨g, cap, cur, rfl, _⟩
  · exact ⟨none, 0, by rw [h0]⟩
  · exact ⟨_, cap, rfl⟩
theorem RcS.at (j : Nat) (hj : j < L.length) : ∃ g cap, u = .slice (some ⟨g, 0, none⟩) L.length cap ∧ w.cell? ⟨g, j * 2, none⟩ = some (.int .u64 (L[j].1 : Int)) ∧ w.cell? ⟨g, j * 2 + 1, none⟩ = some (.string L[j].2) := by
  obtain ⟨hl, h2⟩ := h.own
  rcases h2 with ⟨_, hx⟩ | ⟨g, cap, cur, rfl, _, hb, _, _, _, ht⟩
  · omega
  · refine ⟨g, cap, rfl, ?_⟩
    have key : ∀ i, i < L.length * 2 → w.cell? ⟨g, i, none⟩ = (kcells L)[i]? := fun i hi => by
      rw [Kq.blk_cell hb i, ← ht, List.getElem?_take, if_pos hi, Array.getElem?_toList]
    obtain ⟨w1, w2⟩ := kcells_at L j hj
    exact ⟨by rw [key _ (by omega), w1], by rw [key _ (by omega), w2]⟩
theorem RcS.src {A : Option Addr} {cap : Nat} (hu : u = .slice A L.length cap) : Src Try.prog 2 22 (.slice A L.length cap) L.length (kcells L) w := by
  rcases h.own.2 with ⟨hv, h0⟩ | ⟨g, cap', cur, hv, _, hb, _, _, _, ht⟩
  · rw [hu] at hv
    injection hv with e1 e2 e3
    subst e1
    have : L = [] := List.eq_nil_of_length_eq_zero h0
    subst this
    exact Src.ofNil w Try.underlying22 cap
  · rw [hu] at hv
    injection hv with e1 e2 e3
    subst e1
    refine Src.ofSlice _ Try.underlying22 ⟨g, 0, none⟩ L.length cap (kcells L) (kcells_length L) (fun j u hj => ?_) (kcells_one L)
    have hadd : (⟨g, 0, none⟩ : Addr).add j = ⟨g, j, none⟩ := by unfold Addr.add; split <;> simp_all
    have hj' : j < L.length * 2 := by
      rcases Nat.lt_or_ge j (L.length * 2) with h' | h'
      · exact h'
      · rw [List.getElem?_eq_none (by rw [kcells_length]; exact h')] at hj; cases hj
    rw [hadd, Kq.blk_cell hb j, ← Array.getElem?_toList, ← hj, ← ht, List.getElem?_take, if_pos hj']
end
set_option maxRecDepth 100000 in
set_option maxHeartbeats 1000000 in
theorem rc_root (base R : Nat) (u : Value) (L : List (Nat × ByteArray)) (hs : List Nat) (f : Int → Option ByteArray) (x : Nat) (w : World) (h : RcS w base R u L) (hk : Lk L hs f) (hn : L.length ≤ 1000000) :
    Calls Try.prog 12 #[.pointer (some ⟨R, 0, none⟩), .int .u64 (x : Int)] w fun e w' => e = .returned (.tuple #[.string ((f (x : Int)).getD ⟨#[]⟩), .bool (f (x : Int)).isSome]) ∧ w = w' := by
  have c0 := h.c0
  obtain ⟨A, cap, rfl⟩ := h.shape
  have HK := Lib.hid (And.intro h hk)
  clear h hk
  go_enter Try.func12, Try.ntmps12
  go_wp2
  go_loop [6] (fun i => ∃ j : Nat, j ≤ L.length ∧ i = .int .i64 (j : Int) ∧ ∀ a (ha : a < j) (ha' : a < L.length), L[a].1 ≠ x) (fun i => L.length - (intOf i).toNat)
  case atStart => exact ⟨0, Nat.zero_le _, rfl, fun a ha => by omega⟩
  case round =>
    obtain ⟨j, hj, rfl, hno⟩ := hrel
    have HNO := Lib.hid hno
    clear hno
    by_cases hlj : j < L.length
    · obtain ⟨g, cap', hu, k0, k1⟩ := HK.out.1.at j hlj
      injection hu with hA _ _
      subst hA
      have HFX := Lib.hid (HK.out.2.at j hlj).2
      by_cases hx : L[j].1 = x
      · have hfx : f (x : Int) = some L[j].2 := by have := HFX.out; rw [hx] at this; exact this
        rw [hx] at k0
        generalize L[j].2 = s at *
        have HZ := Lib.hid hfx
        clear hfx hx
        go_wp2
        go_ret2
        exact ⟨by rw [HZ.out]; rfl, rfl⟩
      · have t0 : ((L[j].1 : Int) == (x : Int)) = false := beq_eq_false_iff_ne.2 (by omega)
        have t1 : (L[j].1 == x) = false := beq_eq_false_iff_ne.2 hx
        have HX := Lib.hid hx
        clear hx
        go_wp2
        go_round
        case rel =>
          refine ⟨j + 1, by omega, by go_num, fun a ha ha' => ?_⟩
          rcases Nat.lt_or_ge a j with h1 | h1
          · exact HNO.out a h1 ha'
          · have : a = j := by omega
            subst this
            exact HX.out
        case measure => simp [intOf]; omega
    · have hnone : f (x : Int) = none := by
        cases hfx : f (x : Int) with
        | none => rfl
        | some s =>
          obtain ⟨a, ha, e⟩ := List.getElem_of_mem ((HK.out.2.fm x s).1 hfx)
          exact absurd (by rw [e]) (HNO.out a (by omega) ha)
      have HZ := Lib.hid hnone
      clear hnone
      go_wp2
      go_ret2
      exact ⟨by rw [HZ.out]; rfl, rfl⟩
theorem infoK : (Try.prog.info? 33).map (fun i => (i.zero, i.size, i.bytes)) = some (some (.agg #[.int .u64 0, .string ⟨#[]⟩]), 2, 24) := by kernel_rfl
theorem src_kn (w : World) (k : Nat) (s : ByteArray) (c : Nat) (e : TypeId) : Src Try.prog 2 22 (.slice (some ⟨w.heap.size, 0, none⟩) 1 c) 1 (kcells [(k, s)]) (w.alloc (.cells #[.int .u64 (k : Int), .string s] e)) :=
  Src.ofSlice _ Try.underlying22 ⟨w.heap.size, 0, none⟩ 1 c (kcells [(k, s)]) rfl (fun j u hj => Kq.cell_new _ _ _ (by
    rw [← List.getElem?_toArray] at hj
    exact hj)) (fun u hu => by
    simp only [kcells, List.mem_cons, List.not_mem_nil, or_false] at hu
    rcases hu with rfl | rfl <;> rfl)
/-- what a call leaves of the reference's client -/
def RcP (w : World) (base R : Nat) (u : Value) (L : List (Nat × ByteArray)) (w' : World) : Prop :=
  ∃ u', RcS w' base R u' L ∧ Kq.Keeps (· = R) w w' ∧ (∀ j, u'.ownBlock = some j → u.ownBlock = some j ∨ w.heap.size ≤ j)
set_option maxRecDepth 100000 in
set_option maxHeartbeats 1000000 in
theorem rc_set_ok (base R : Nat) (u : Value) (L : List (Nat × ByteArray)) (hs : List Nat) (f : Int → Option ByteArray) (x : Nat) (s : ByteArray) (w : World) (h : RcS w base R u L) (hk : Lk L hs f) (hn : L.length ≤ 4000) (h32 : s.size = 32) (hq : (f (x : Int)).isSome = false) :
    Calls Try.prog 10 #[.pointer (some ⟨R, 0, none⟩), .int .u64 (x : Int), .string s] w fun e w' => e = .returned (.int .i64 0) ∧ RcP w base R u (L ++ [(x, s)]) w' := by
  obtain ⟨i0, hi, hz0, hz1, hz2⟩ := info_parts infoK
  have hroot := rc_root base R u L hs f x w h hk (by omega)
  rw [hq] at hroot
  generalize (f (x : Int)).getD ⟨#[]⟩ = r at *
  have d0 : ((s.size : Int) != 32) = false := by simp; omega
  have d1 : (s.size != 32) = false := by simp; omega
  have d2 : decide ((4096 : Int) ≤ (L.length : Int)) = false := decide_eq_false (by omega)
  have d3 : decide (4096 ≤ L.length) = false := decide_eq_false (by omega)
  obtain ⟨A, cap, rfl⟩ := h.shape
  have H3 := Lib.hid h
  have HR := Lib.hid hroot
  clear h hk h32 hq hroot
  go_enter Try.func10, Try.ntmps10
  go_wp2_with fail
  refine HR.out.mono ?_
  rintro e w3 ⟨rfl, rfl⟩
  have c3 := H3.out.c0
  have c3' := (H3.out.below (Kq.below_alloc w (.cells #[] 33))).c0
  go_wp2_with (at_builtin; go_loud (refine Kq.wpList_append_any _ rfl (.tmp 26) (.tmp 30) 22 22 rfl w.heap.size 33 i0 (.agg #[.int .u64 0, .string ⟨#[]⟩]) 2 24 Try.underlying22 hi hz0 hz1 hz2 rfl (by decide) (.slice (some ⟨w.heap.size, 0, none⟩) 0 0) 0 [] rfl (World.ownsRow_made w #[] 0 (Nat.le_refl _) (Nat.zero_le _) rfl) (.slice A L.length cap) L.length (kcells L) rfl ?g1 ?g2 ?g3 ?g4 ?_))
  case g1 => exact (H3.out.below (Kq.below_alloc w _)).src rfl
  case g2 => unfold maxLen; omega
  case g3 => omega
  case g4 => simp
  intro v1 w4 hown1 hgrow1 hfresh1
  have HR3 : Hid (R < w.heap.size) := Lib.hid (Kq.blk_lt H3.out.blk)
  have HK4 : Hid (Kq.Keeps (fun j => w.heap.size ≤ j) w w4) := Lib.hid ((Kq.Keeps.alloc _ w _).trans (Kq.Keeps.grown hgrow1 (fun j _ hj => by simp [Value.ownBlock] at hj; omega)))
  have HR4 := Lib.hid (H3.out.keeps HK4.out (by have := HR3.out; omega) (fun j hj hle => by have := (H3.out.own.lt j hj).2; omega))
  have HO1 : Hid (w4.ownsRow w.heap.size 33 2 v1 L.length (kcells L)) := Lib.hid (by simpa using hown1)
  have HFR : Hid (∀ j, v1.ownBlock = some j → w.heap.size ≤ j) := Lib.hid (fun j hj => by
    rcases hfresh1 j hj with h | h
    · simp [Value.ownBlock] at h; omega
    · (try simp at h); omega)
  clear hown1 hgrow1 hfresh1 c3 c3'
  go_wp2_with (at_builtin; go_loud (refine Kq.wpList_append_any _ rfl (.tmp 31) (.tmp 35) 22 22 rfl w.heap.size 33 i0 (.agg #[.int .u64 0, .string ⟨#[]⟩]) 2 24 Try.underlying22 hi hz0 hz1 hz2 rfl (by decide) v1 L.length (kcells L) rfl (HO1.out.alloc _) (.slice (some ⟨w4.heap.size, 0, none⟩) 1 1) 1 (kcells [(x, s)]) rfl ?g5 ?g6 ?g7 ?g8 ?_))
  case g5 => exact src_kn w4 x s 1 _
  case g6 => unfold maxLen; omega
  case g7 => omega
  case g8 => have := HK4.out.size; simp; omega
  intro v2 w5 hown2 hgrow2 hfresh2
  have HK5 : Hid (Kq.Keeps (fun j => w.heap.size ≤ j) w4 w5) := Lib.hid ((Kq.Keeps.alloc _ w4 _).trans (Kq.Keeps.grown hgrow2 (fun j _ hj => HFR.out j hj)))
  have HS45 := HK4.out.size
  have hfr2 : ∀ j, v2.ownBlock = some j → w.heap.size ≤ j := fun j hj => by
    rcases hfresh2 j hj with h | h
    · exact HFR.out j h.symm
    · (try simp at h); omega
  have HR5 := Lib.hid (HR4.out.keeps HK5.out (by have := HR3.out; omega) (fun j hj hle => by have := (H3.out.own.lt j hj).2; omega))
  have f3 := HR5.out.fz 0
  have c3 := HR5.out.c0
  have HP : Hid (RcP w base R (.slice A L.length cap) (L ++ [(x, s)]) (w5.setCell ⟨R, 0, none⟩ v2)) := by
    have hk3 : Kq.Keeps (· = R) w w5 := (HK4.out.trans HK5.out).mono (fun j h1 h2 => by omega)
    refine Lib.hid ⟨v2, ⟨Kq.blk_set HR5.out.blk 0 v2, ?_, fun j hj e => by have := hfr2 j hj; have := HR3.out; omega, by have := HR5.out.base; simpa [World.setCell] using this⟩, hk3.trans (Kq.Keeps.setCell _ _ _ rfl), fun j hj => Or.inr (hfr2 j hj)⟩
    have hb3 : base ≤ w.heap.size := H3.out.base
    rw [List.length_append, List.length_singleton, kcells_append]
    obtain ⟨q1, q2⟩ := hown2
    refine ⟨q1, q2.imp id ?_⟩
    rintro ⟨g, cap, cur, hv, h3, h4, h5⟩
    exact ⟨g, cap, cur, hv, Nat.le_trans hb3 h3, by rw [Below.heap_setCell _ _ _ _ (show g ≠ R by have := HR3.out; omega)]; exact h4, h5⟩
  obtain ⟨a', n', cap', hv⟩ := Kq.own_shape hown2
  clear hown2 hgrow2 hfresh2 hfr2
  rw [hv] at HP ⊢
  clear hv
  go_wp2
  go_ret
  exact ⟨rfl, HP.out⟩
set_option maxRecDepth 100000 in
set_option maxHeartbeats 1000000 in
theorem rc_set (base R : Nat) (u : Value) (L : List (Nat × ByteArray)) (hs : List Nat) (f : Int → Option ByteArray) (x : Nat) (s : ByteArray) (hsm : s.size ≤ maxLen) (w : World) (h : RcS w base R u L) (hk : Lk L hs f) (hn : L.length ≤ 4000) :
    Calls Try.prog 10 #[.pointer (some ⟨R, 0, none⟩), .int .u64 (x : Int), .string s] w fun e w' => e = .returned (.int .i64 (setF x s hs f).2.2) ∧ RcP w base R u (setL x s f L) w' := by
  unfold setF setL
  by_cases h32 : s.size = 32
  · rw [if_pos h32, if_pos h32]
    by_cases hq : (f (x : Int)).isSome = true
    · rw [if_pos hq, if_pos hq]
      have hroot := rc_root base R u L hs f x w h hk (by omega)
      rw [hq] at hroot
      generalize (f (x : Int)).getD ⟨#[]⟩ = r at *
      have d0 : ((s.size : Int) != 32) = false := by simp; omega
      have d1 : (s.size != 32) = false := by simp; omega
      have HZ := Lib.hid (And.intro h hroot)
      clear h hk h32 hq hroot
      go_enter Try.func10, Try.ntmps10
      go_wp2_with fail
      refine HZ.out.2.mono ?_
      rintro e w3 ⟨rfl, rfl⟩
      go_wp2
      go_ret
      exact ⟨rfl, u, HZ.out.1, Kq.Keeps.refl _ _, fun j hj => Or.inl hj⟩
    · rw [if_neg hq, if_neg hq]
      exact rc_set_ok base R u L hs f x s w h hk hn h32 (by simpa using hq)
  · rw [if_neg h32, if_neg h32]
    have d0 : ((s.size : Int) != 32) = true := by simp; omega
    have d1 : (s.size != 32) = true := by simp; omega
    have HZ := Lib.hid h
    clear h hk h32
    go_enter Try.func10, Try.ntmps10
    go_wp2
    go_ret
    exact ⟨rfl, u, HZ.out, Kq.Keeps.refl _ _, fun j hj => Or.inl hj⟩
end Go.Proofs.Ytdonoilcegaleaa
