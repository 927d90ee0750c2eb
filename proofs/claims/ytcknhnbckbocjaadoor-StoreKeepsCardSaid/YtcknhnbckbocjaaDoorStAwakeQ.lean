/- carracklaw11's awake. No condition. -/
import Derived.WalkSpells
import Derived.Outline
import Derived.Test.YtcknhnbckbocjaaDoorStAtQ
import Derived.Test.YtcknhnbckbocjaaDoorStComQ
namespace Go.Proofs.YtcknhnbckbocjaaDoor
open Go.RowKit
set_option linter.unusedVariables false
def awS : StV := ⟨[(⟨#[97]⟩, ⟨#[49]⟩)], 5, [[], [(⟨#[97]⟩, ⟨#[49]⟩)]]⟩
theorem aw_one : setV (newV 5) ⟨#[97]⟩ ⟨#[49]⟩ = (⟨[(⟨#[97]⟩, ⟨#[49]⟩)], 5, [[]]⟩, 0) := rfl
theorem aw_two : comV ⟨[(⟨#[97]⟩, ⟨#[49]⟩)], 5, [[]]⟩ = (awS, 6, 0) := rfl
theorem aw_six : atV awS 6 = ([(⟨#[97]⟩, ⟨#[49]⟩)], 0) := rfl
theorem aw_five : atV awS 5 = ([], 0) := rfl
/-- a store of the law's own: all that it holds was made since -/
def Own (w0 w : World) (B : Nat) (s : StV) : Prop := ∃ O, StP w O B s ∧ (∀ k, O k → w0.heap.size ≤ k ∧ k < w.heap.size) ∧ Below w0.heap.size w0 w
theorem Own.step {w0 w w' : World} {O : Nat → Prop} {B : Nat} {s' : StV} {r : Value} {x : Ending} (hO : ∀ k, O k → w0.heap.size ≤ k ∧ k < w.heap.size) (hb : Below w0.heap.size w0 w) (hs : StepP w O B r s' x w') : x = .returned r ∧ Own w0 w' B s' := by
  refine ⟨hs.1, _, hs.2.1, fun k hk => ?_, hb.trans (hs.2.2.below hb.size (fun k _ hk => (hO k hk).1))⟩
  have := hs.2.2.size
  have := hb.size
  rcases hk with hk | hk
  · have := hO k hk; omega
  · omega
theorem Own.below {w0 w w' : World} {B : Nat} {s : StV} (h : Own w0 w B s) (hb : Below w.heap.size w w') : Own w0 w' B s := by
  obtain ⟨O, h1, h2, h3⟩ := h
  obtain ⟨Mn, sh, A, q, cap, Ms, h⟩ := h1
  exact ⟨O, ⟨Mn, sh, A, q, cap, Ms, h.below hb⟩, fun k hk => (by have := h2 k hk; have := hb.size; omega), h3.trans (hb.mono h3.size)⟩
theorem ow_new (h : Nat) (w : World) : Calls Tryd.prog 10 #[.int .u64 (h : Int)] w fun x w' => ∃ B, x = .returned (.pointer (some ⟨B, 0, none⟩)) ∧ Own w w' B (newV h) :=
  (st_new h w).mono (fun x w' ⟨B, h1, h2, h3⟩ => ⟨B, h1, _, h2, fun k hk => hk, h3⟩)
theorem ow_set {w0 w : World} {B : Nat} {s : StV} (h : Own w0 w B s) (hs : StOk s) (k v : ByteArray) (hk : k.size ≤ 300) (hv : v.size ≤ 300) : Calls Tryd.prog 27 #[.pointer (some ⟨B, 0, none⟩), .string k, .string v] w fun x w' => x = .returned (.int .i64 (setV s k v).2) ∧ Own w0 w' B (setV s k v).1 := by
  obtain ⟨O, h1, h2, h3⟩ := h
  exact (st_set w O B s k v hk hv h1 hs).mono (fun x w' hh => Own.step h2 h3 hh)
theorem ow_com {w0 w : World} {B : Nat} {s : StV} (h : Own w0 w B s) (hs : StOk s) : Calls Tryd.prog 29 #[.pointer (some ⟨B, 0, none⟩)] w fun x w' => x = .returned (comR s) ∧ Own w0 w' B (comV s).1 := by
  obtain ⟨O, h1, h2, h3⟩ := h
  exact (st_com w O B s h1 hs).mono (fun x w' hh => Own.step h2 h3 hh)
theorem ow_at {w0 w : World} {B : Nat} {s : StV} (h : Own w0 w B s) (hs : StOk s) (H : Nat) (hH : H < 18446744073709551616) : Calls Tryd.prog 19 #[.pointer (some ⟨B, 0, none⟩), .int .u64 (H : Int)] w fun x w' => AtP w s H x w' ∧ Own w0 w' B s := by
  obtain ⟨O, h1, h2, h3⟩ := h
  exact (st_at w O B s H hH h1 hs).mono (fun x w' hh => ⟨hh, Own.below ⟨O, h1, h2, h3⟩ hh.choose_spec.2.2⟩)
set_option maxRecDepth 100000 in
set_option maxHeartbeats 1000000 in
theorem awake11 (w : World) : Calls Tryd.prog 8 #[] w fun x w' => x = .returned (.bool true) ∧ Below w.heap.size w w' := by
  have o0 := newV_ok (h := 5) (by decide)
  have o1 := setV_ok o0 ⟨#[97]⟩ ⟨#[49]⟩
  rw [aw_one] at o1
  have o2 := comV_ok o1
  rw [aw_two] at o2
  have HO := Lib.hid (And.intro o0 (And.intro o1 o2))
  clear o0 o1 o2
  go_enter Tryd.func8, Tryd.ntmps8
  go_wp2_with fail
  refine (ow_new 5 w).mono ?_
  rintro x w1 ⟨B, rfl, h1⟩
  have H1 := Lib.hid h1
  clear h1
  go_wp2_with fail
  refine (ow_set H1.out HO.out.1 ⟨#[97]⟩ ⟨#[49]⟩ (by decide) (by decide)).mono ?_
  rintro x w2 ⟨rfl, h2⟩
  rw [aw_one] at h2 ⊢
  have H2 := Lib.hid h2
  clear h2 H1
  go_wp2_with fail
  refine (ow_com H2.out HO.out.2.1).mono ?_
  rintro x w3 ⟨rfl, h3⟩
  have hc : comR ⟨[(⟨#[97]⟩, ⟨#[49]⟩)], 5, [[]]⟩ = .tuple #[.int .u64 6, .int .i64 0] := rfl
  rw [aw_two] at h3
  rw [hc]
  have H3 := Lib.hid h3
  clear h3 H2 hc
  go_wp2_with fail
  refine (ow_at H3.out HO.out.2.2 6 (by decide)).mono ?_
  rintro x w4 ⟨⟨v, rfl, ⟨A, c, rfl, -, -, -⟩, -⟩, h4⟩
  rw [aw_six]
  have H4 := Lib.hid h4
  clear h4 H3
  go_wp2_with fail
  refine (ow_at H4.out HO.out.2.2 5 (by decide)).mono ?_
  rintro x w5 ⟨⟨v, rfl, ⟨A5, c5, rfl, -, -, -⟩, -⟩, h5⟩
  rw [aw_five]
  have H5 := Lib.hid h5
  clear h5 H4
  go_wp2_with fail
  obtain ⟨O, hO, -, hb⟩ := H5.out
  have HB := Lib.hid hb
  refine (st_blocks w5 O B awS hO).mono ?_
  rintro x w6 ⟨rfl, rfl⟩
  clear hb hO
  go_wp2
  go_ret
  exact ⟨rfl, HB.out⟩
end Go.Proofs.YtcknhnbckbocjaaDoor
