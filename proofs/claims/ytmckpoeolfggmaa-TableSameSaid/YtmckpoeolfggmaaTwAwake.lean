/- The document's example of table. No condition. -/
import Derived.WalkSpells
import Derived.Outline
import Derived.Test.YtmckpoeolfggmaaTwNotes
import Derived.Test.YtmckpoeolfggmaaTwTwo
namespace Go.Proofs.Ytmckpoeolfggmaa
open Go.RowKit
set_option linter.unusedVariables false
/-- a table of the law's own -/
structure OwnT (w0 w : World) (B : Nat) (s : TbV) : Prop where
  tb : OneT (· < w0.heap.size) w B s
  bel : Below w0.heap.size w0 w
theorem fb_below {w0 a b : World} (h : Fb (· < w0.heap.size) a b) (hs : w0.heap.size ≤ a.heap.size) : Below w0.heap.size a b := Kq.Keeps.below h hs (fun k _ h => Nat.le_of_not_lt h)
theorem OwnT.frw {w0 w : World} {B : Nat} {s : TbV} (h : OwnT w0 w B s) : FrW (· < w0.heap.size) w := fun k hk => Nat.lt_of_lt_of_le hk h.bel.size
theorem OwnT.far {w0 w w' : World} {B : Nat} {s : TbV} (h : OwnT w0 w B s) (hb : Below w.heap.size w w') : OwnT w0 w' B s := ⟨h.tb.below hb, h.bel.trans (hb.mono h.bel.size)⟩
theorem OwnT.start {w0 a w : World} {B : Nat} {s : TbV} (hb0 : Below w0.heap.size w0 a) (h : TbP w (fun k => a.heap.size ≤ k ∧ k < w.heap.size) B s) (hb : Below a.heap.size a w) : OwnT w0 w B s :=
  ⟨⟨_, h, fun k hk => ⟨fun h2 => (by have := hb0.size; omega), hk.2⟩⟩, hb0.trans (hb.mono hb0.size)⟩
theorem OwnT.next {w0 w w' : World} {B : Nat} {s s' : TbV} (h : OwnT w0 w B s) (h1 : OneT (· < w0.heap.size) w' B s') (h2 : Fb (· < w0.heap.size) w w') : OwnT w0 w' B s' := ⟨h1, h.bel.trans (fb_below h2 h.bel.size)⟩
def nt1 (k q : Int) : NtV := ⟨k, 0, q, 1, ⟨#[]⟩⟩
theorem newT_ok (r : Nat) (h1 : 1 ≤ r) (h2 : r ≤ 40) : TbOk ⟨r, []⟩ := ⟨List.Pairwise.nil, fun n hn => (by cases hn), Nat.zero_le _, h1, h2⟩
theorem aw1 : (appV ⟨1, []⟩ (nt1 1 1)).2 = 0 := by kernel_rfl
theorem aw2 : (appV (appV ⟨1, []⟩ (nt1 1 1)).1 (nt1 1 2)).2 = 2 := by kernel_rfl
theorem aw3 : (appV (appV (appV ⟨1, []⟩ (nt1 1 1)).1 (nt1 1 2)).1 (nt1 3 1)).2 = 0 := by kernel_rfl
theorem aw4 : (appV (appV (appV (appV ⟨1, []⟩ (nt1 1 1)).1 (nt1 1 2)).1 (nt1 3 1)).1 (nt1 1 2)).2 = 0 := by kernel_rfl
theorem aw5 : (appV (appV (appV (appV ⟨1, []⟩ (nt1 1 1)).1 (nt1 1 2)).1 (nt1 3 1)).1 (nt1 1 2)).1.l.length = 1 := by kernel_rfl
theorem nt1_wf (k q : Int) (h : 0 ≤ q ∧ q < 10) : (nt1 k q).wf := by unfold nt1 NtV.wf; simp only; omega
set_option maxRecDepth 100000 in
set_option maxHeartbeats 1000000 in
theorem awake15 (w : World) : Calls Try.prog 8 #[] w fun x w' => x = .returned (.bool true) ∧ Below w.heap.size w w' := by
  go_enter Try.func8, Try.ntmps8
  go_wp2_with fail
  refine (tb_new 1 w (by decide) (by decide)).mono ?_
  rintro x w1 ⟨B, rfl, h1, b1⟩
  have H1 : Hid (OwnT w w1 B ⟨1, []⟩) := Lib.hid (OwnT.start (Below.refl _ _) h1 b1)
  have HK1 := newT_ok 1 (by decide) (by decide)
  have HK2 := appV_ok HK1 (nt1 1 1) (nt1_wf _ _ (by decide))
  have HK3 := appV_ok HK2 (nt1 1 2) (nt1_wf _ _ (by decide))
  have HK4 := Lib.hid (And.intro HK1 (And.intro HK2 (And.intro HK3 (appV_ok HK3 (nt1 3 1) (nt1_wf _ _ (by decide))))))
  clear h1 b1 HK1 HK2 HK3
  go_wp2_with fail
  refine (one15 1 1 w1).mono ?_
  rintro x w2 ⟨rfl, b2⟩
  have H2 := Lib.hid (H1.out.far b2)
  clear b2 H1
  go_wp2_with fail
  refine (ot_apply H2.out.tb H2.out.frw HK4.out.1 (nt1 1 1) (nt1_wf _ _ (by decide))).mono ?_
  rintro x w3 ⟨p3, rfl, b3⟩
  have H3 := Lib.hid (H2.out.next p3 b3)
  rw [aw1]
  clear p3 b3 H2
  go_wp2_with fail
  refine (one15 1 2 w3).mono ?_
  rintro x w4 ⟨rfl, b4⟩
  have H4 := Lib.hid (H3.out.far b4)
  clear b4 H3
  go_wp2_with fail
  refine (ot_apply H4.out.tb H4.out.frw HK4.out.2.1 (nt1 1 2) (nt1_wf _ _ (by decide))).mono ?_
  rintro x w5 ⟨p5, rfl, b5⟩
  have H5 := Lib.hid (H4.out.next p5 b5)
  rw [aw2]
  clear p5 b5 H4
  go_wp2_with fail
  refine (one15 3 1 w5).mono ?_
  rintro x w6 ⟨rfl, b6⟩
  have H6 := Lib.hid (H5.out.far b6)
  clear b6 H5
  go_wp2_with fail
  refine (ot_apply H6.out.tb H6.out.frw HK4.out.2.2.1 (nt1 3 1) (nt1_wf _ _ (by decide))).mono ?_
  rintro x w7 ⟨p7, rfl, b7⟩
  have H7 := Lib.hid (H6.out.next p7 b7)
  rw [aw3]
  clear p7 b7 H6
  go_wp2_with fail
  refine (one15 1 2 w7).mono ?_
  rintro x w8 ⟨rfl, b8⟩
  have H8 := Lib.hid (H7.out.far b8)
  clear b8 H7
  go_wp2_with fail
  refine (ot_apply H8.out.tb H8.out.frw HK4.out.2.2.2 (nt1 1 2) (nt1_wf _ _ (by decide))).mono ?_
  rintro x w9 ⟨p9, rfl, b9⟩
  have H9 := Lib.hid (H8.out.next p9 b9)
  rw [aw4]
  clear p9 b9 H8
  go_wp2_with fail
  refine (ot_len H9.out.tb).mono ?_
  rintro x w9 ⟨rfl, rfl⟩
  rw [aw5]
  go_wp2
  go_ret
  exact ⟨rfl, H9.out.bel⟩
end Go.Proofs.Ytmckpoeolfggmaa
