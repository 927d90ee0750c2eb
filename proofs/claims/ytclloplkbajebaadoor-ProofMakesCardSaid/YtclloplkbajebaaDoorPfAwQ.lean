/- carracklaw09's few and awake. Condition: the constants lie where they lie. -/
import Derived.WalkSpells
import Derived.Outline
import Derived.Test.YtclloplkbajebaaDoorPfQ2Q
import Derived.Test.YtclloplkbajebaaDoorPfWQ
import Derived.Test.YtclloplkbajebaaDoorPfLQ
namespace Go.Proofs.YtclloplkbajebaaDoor
open Go.RowKit
set_option linter.unusedVariables false
def Few9 (l : List PairV) : Prop := l.length ≤ 40 ∧ chkE l = 0
instance (l : List PairV) : Decidable (Few9 l) := by unfold Few9; infer_instance
theorem Few9.fit {l : List PairV} (h : Few9 l) : Fit l := fun p hp => by have := pairs_small h.2 p hp; omega
set_option maxRecDepth 100000 in
set_option maxHeartbeats 1000000 in
theorem few09 (l : List PairV) (A : Option Addr) (cap : Nat) (w : World) (hA : PsAt w A l) :
    Calls Tryd.prog 15 #[.slice A l.length cap] w fun x w' => x = .returned (.bool (decide (Few9 l))) ∧ Below w.heap.size w w' := by
  by_cases h40 : l.length ≤ 40
  · have HC := Lib.hid (rk_check l A cap w hA h40)
    have d1 : decide ((l.length : Int) ≤ 40) = true := decide_eq_true (by omega)
    have d2 : decide (l.length ≤ 40) = true := decide_eq_true h40
    obtain ⟨E, hE⟩ : ∃ E, E = chkE l := ⟨_, rfl⟩
    rw [← hE] at HC
    have HD : Hid (decide (Few9 l) = decide (E = 0)) := Lib.hid (by
      rw [hE, decide_eq_decide]
      exact ⟨fun h => h.2, fun h => ⟨h40, h⟩⟩)
    have HH := Lib.hid h40
    clear hA hE
    by_cases he : E = 0
    · subst he
      clear h40
      go_enter Tryd.func15, Tryd.ntmps15
      go_wp2_with fail
      refine HC.out.mono ?_
      rintro x w2 ⟨rfl, b2⟩
      have HB := Lib.hid b2
      clear b2
      go_wp2
      go_ret
      exact ⟨by rw [HD.out]; rfl, HB.out⟩
    · have e1 : (E == 0) = false := by rw [beq_eq_false_iff_ne]; exact he
      have HE : Hid (decide (E = 0) = false) := Lib.hid (decide_eq_false he)
      clear h40 he
      go_enter Tryd.func15, Tryd.ntmps15
      go_wp2_with fail
      refine HC.out.mono ?_
      rintro x w2 ⟨rfl, b2⟩
      have HB := Lib.hid b2
      clear b2
      go_wp2
      go_ret
      exact ⟨by rw [HD.out, HE.out]; rfl, HB.out⟩
  · have d1 : decide ((l.length : Int) ≤ 40) = false := decide_eq_false (by omega)
    have d2 : decide (l.length ≤ 40) = false := decide_eq_false h40
    have HD : Hid (decide (Few9 l) = false) := Lib.hid (decide_eq_false (fun h => h40 h.1))
    clear h40 hA
    go_enter Tryd.func15, Tryd.ntmps15
    go_wp2
    go_ret
    exact ⟨by rw [HD.out]; rfl, Below.refl _ _⟩
/-- the document's example -/
def awL : List PairV := [(⟨#[97]⟩, ⟨#[]⟩), (⟨#[99]⟩, ⟨#[]⟩)]
theorem lt_data (a b : ByteArray) : ltT a b = Op.bytesLess a.data.toList b.data.toList := by unfold ltT; rw [Lib.toList_data, Lib.toList_data]
theorem aw_sort : SortL awL := by
  unfold SortL awL
  refine List.Pairwise.cons (fun p hp => ?_) (List.Pairwise.cons (fun p hp => by cases hp) List.Pairwise.nil)
  rw [List.mem_singleton] at hp
  rw [hp, lt_data]; rfl
theorem aw_fit : Fit awL := fun p hp => by
  unfold awL at hp
  simp only [List.mem_cons, List.not_mem_nil, or_false] at hp
  rcases hp with rfl | rfl <;> decide
theorem aw_plc_b : plc awL ⟨#[98]⟩ = 1 := by
  have h1 : ltT ⟨#[97]⟩ ⟨#[98]⟩ = true := by rw [lt_data]; rfl
  have h2 : ltT ⟨#[99]⟩ ⟨#[98]⟩ = false := by rw [lt_data]; rfl
  unfold plc awL
  simp [h1, h2]
theorem aw_plc_d : plc awL ⟨#[100]⟩ = 2 := by
  have h1 : ltT ⟨#[97]⟩ ⟨#[100]⟩ = true := by rw [lt_data]; rfl
  have h2 : ltT ⟨#[99]⟩ ⟨#[100]⟩ = true := by rw [lt_data]; rfl
  unfold plc awL
  simp [h1, h2]
theorem aw_b : absV awL ⟨#[98]⟩ = (⟨true, [mkLf awL 0, mkLf awL 1]⟩, 0) := by
  have hk : isKeyB ⟨#[98]⟩ = true := rfl
  have hi : isIn awL ⟨#[98]⟩ = false := by
    unfold isIn
    refine decide_eq_false ?_
    rintro ⟨h, e⟩
    have : (awL.getD (plc awL ⟨#[98]⟩) (⟨#[]⟩, ⟨#[]⟩)).1 = ⟨#[98]⟩ := by rw [getD_at h]; exact e
    rw [aw_plc_b] at this
    exact absurd this (by decide)
  rw [absV_ok hk hi]
  unfold pfNot
  rw [aw_plc_b]; rfl
theorem aw_d : absV awL ⟨#[100]⟩ = (⟨true, [mkLf awL 1]⟩, 0) := by
  have hk : isKeyB ⟨#[100]⟩ = true := rfl
  have hi : isIn awL ⟨#[100]⟩ = false := by
    unfold isIn
    refine decide_eq_false ?_
    rintro ⟨h, e⟩
    rw [aw_plc_d] at h
    exact absurd h (by decide)
  rw [absV_ok hk hi]
  unfold pfNot
  rw [aw_plc_d]; rfl
theorem aw_at (w : World) : PsAt (w.alloc (.cells #[.string ⟨#[97]⟩, .string ⟨#[]⟩, .string ⟨#[99]⟩, .string ⟨#[]⟩] 27)) (some ⟨w.heap.size, 0, none⟩) awL := fun j hj => by
  have hb := Kq.blk_new w #[.string ⟨#[97]⟩, .string ⟨#[]⟩, .string ⟨#[99]⟩, .string ⟨#[]⟩] 27 (0, 0)
  have hj' : j < 2 := hj
  refine ⟨_, 0, rfl, by simp, ?_, ?_⟩
  · rw [Kq.blk_cell hb]
    match j, hj' with
    | 0, _ => rfl
    | 1, _ => rfl
  · rw [Kq.blk_cell hb]
    match j, hj' with
    | 0, _ => rfl
    | 1, _ => rfl
set_option maxRecDepth 100000 in
set_option maxHeartbeats 1000000 in
theorem awake09 (w : World) (hL : LaidOk w) : Calls Tryd.prog 9 #[] w fun x w' => x = .returned (.bool true) ∧ Below w.heap.size w w' := by
  have b1 := Kq.below_alloc w (.cells #[.string ⟨#[97]⟩, .string ⟨#[]⟩, .string ⟨#[99]⟩, .string ⟨#[]⟩] 27)
  have H1 : Hid (PsAt (w.alloc (.cells #[.string ⟨#[97]⟩, .string ⟨#[]⟩, .string ⟨#[99]⟩, .string ⟨#[]⟩] 27)) (some ⟨w.heap.size, 0, none⟩) awL ∧ LaidOk (w.alloc (.cells #[.string ⟨#[97]⟩, .string ⟨#[]⟩, .string ⟨#[99]⟩, .string ⟨#[]⟩] 27)) ∧ Below w.heap.size w (w.alloc (.cells #[.string ⟨#[97]⟩, .string ⟨#[]⟩, .string ⟨#[99]⟩, .string ⟨#[]⟩] 27))) := Lib.hid ⟨aw_at w, hL.later b1, b1⟩
  have HX := Lib.hid (fun (key : ByteArray) (w' : World) (h1 : PsAt w' (some ⟨w.heap.size, 0, none⟩) awL) (h2 : LaidOk w') => pf_absent awL (some ⟨w.heap.size, 0, none⟩) 2 key w' (by decide) aw_sort aw_fit h1 h2 (by decide))
  have HL2 : Hid (awL.length = 2) := Lib.hid rfl
  rw [HL2.out] at HX
  clear hL b1
  go_enter Tryd.func9, Tryd.ntmps9
  go_wp2_with fail
  refine (HX.out ⟨#[98]⟩ _ H1.out.1 H1.out.2.1).mono ?_
  rintro x w2 ⟨A2, cap2, ls2, rfl, hv2, hc2, hA2, hb2⟩
  have HE2 : Hid (absV awL ⟨#[98]⟩ = (⟨true, [mkLf awL 0, mkLf awL 1]⟩, 0)) := Lib.hid aw_b
  rw [HE2.out] at hv2 ⊢
  have hl2 : ls2.length = 2 := by rw [← vals_len, hv2]; rfl
  rw [hl2]
  have b3 := Kq.below_alloc w2 (.cells #[.bool true, .slice A2 2 cap2] 24)
  have H2 : Hid (PsAt (w2.alloc (.cells #[.bool true, .slice A2 2 cap2] 24)) (some ⟨w.heap.size, 0, none⟩) awL ∧ LaidOk (w2.alloc (.cells #[.bool true, .slice A2 2 cap2] 24)) ∧ Below w.heap.size w (w2.alloc (.cells #[.bool true, .slice A2 2 cap2] 24)) ∧ PBk (w2.alloc (.cells #[.bool true, .slice A2 2 cap2] 24)) w2.heap.size true (.slice A2 2 cap2)) := Lib.hid ⟨(H1.out.1.below hb2).below b3, (H1.out.2.1.later hb2).later b3, (H1.out.2.2.trans (hb2.mono H1.out.2.2.size)).trans (b3.mono (by have := H1.out.2.2.size; have := hb2.size; omega)), ⟨Kq.blk_new _ _ _ _⟩⟩
  clear hv2 hc2 hA2 hb2 hl2 b3 H1
  go_wp2_with fail
  refine (HX.out ⟨#[100]⟩ _ H2.out.1 H2.out.2.1).mono ?_
  rintro x w4 ⟨A4, cap4, ls4, rfl, hv4, hc4, hA4, hb4⟩
  have HE4 : Hid (absV awL ⟨#[100]⟩ = (⟨true, [mkLf awL 1]⟩, 0)) := Lib.hid aw_d
  rw [HE4.out] at hv4 ⊢
  have hl4 : ls4.length = 1 := by rw [← vals_len, hv4]; rfl
  obtain ⟨x, rfl⟩ := List.length_eq_one_iff.1 hl4
  have hx : x.l = mkLf awL 1 := by
    have : [x.l] = [mkLf awL 1] := hv4
    injection this
  have hxi : x.l.i = 1 := by rw [hx]; rfl
  rw [hl4]
  have b5 := Kq.below_alloc w4 (.cells #[.bool true, .slice A4 1 cap4] 24)
  obtain ⟨b, off, rfl, -, hb, hc⟩ := (hA4.below b5).head
  have c0 := hc.c0
  rw [hxi] at c0
  have H4 : Hid (Below w.heap.size w (w4.alloc (.cells #[.bool true, .slice (some ⟨b, off, none⟩) 1 cap4] 24)) ∧ PBk (w4.alloc (.cells #[.bool true, .slice (some ⟨b, off, none⟩) 1 cap4] 24)) w2.heap.size true (.slice A2 2 cap2)) := Lib.hid ⟨(H2.out.2.2.1.trans (hb4.mono H2.out.2.2.1.size)).trans (b5.mono (by have := H2.out.2.2.1.size; have := hb4.size; omega)), (H2.out.2.2.2.below hb4).below b5⟩
  have d1 := H4.out.2.c1
  clear hv4 hc4 hA4 hb4 hl4 b5 H2 hx hxi hc hb
  go_wp2
  go_ret
  exact ⟨rfl, H4.out.1⟩
end Go.Proofs.YtclloplkbajebaaDoor
