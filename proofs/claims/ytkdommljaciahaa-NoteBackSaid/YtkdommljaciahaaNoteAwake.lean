/- The document's example of note. No condition. -/
import Derived.WalkSpells
import Derived.Test.YtkdommljaciahaaNoteBy
import Derived.Test.YtkdommljaciahaaWrNew
namespace Go.Proofs.Ytkdommljaciahaa
open Go.RowKit
set_option linter.unusedVariables false
set_option maxRecDepth 100000 in
set_option maxHeartbeats 1000000 in
theorem put_nil (base B : Nat) (v c m : Value) (w : World) (h : Wr w base B 0 v []) :
    Calls Try.prog 32 #[.pointer (some ⟨B, 0, none⟩), .slice none 0 0, c, m] w (WrAny w base B v 0 [0]) := by
  go_enter Try.func32, Try.ntmps32
  go_wp2_with fail
  refine (wr_byte_ok base B 0 v [] 0 _ h (by decide) (by decide)).mono ?_
  intro x w2 hp
  have HP := Lib.hid hp.any
  obtain ⟨rfl, -⟩ := hp
  go_wp2
  go_loop [18] (fun i => i = .int .i64 0) (fun _ => 0)
  case atStart => rfl
  case round =>
    subst hrel
    go_wp2
    first | go_end0 | refine bodyPost_ret (results_none rfl _ _ _) rfl ?_
    exact HP.out
set_option maxRecDepth 100000 in
set_option maxHeartbeats 1000000 in
theorem put_notes_nil (base B : Nat) (v : Value) (w : World) (h : Wr w base B 0 v []) :
    Calls Try.prog 10 #[.pointer (some ⟨B, 0, none⟩), .slice none 0 0] w (WrAny w base B v 0 [0]) := by
  have H := Lib.hid h
  clear h
  go_enter Try.func10, Try.ntmps10
  go_wp2_with fail
  refine (put_nil base B v _ _ _ (H.out.belowW (Kq.below_alloc w _))).mono ?_
  intro x w2 hp
  have HP := Lib.hid (hp.from (Kq.below_alloc w _))
  obtain ⟨rfl, -⟩ := hp
  go_wp2
  first | go_end0 | refine bodyPost_ret (results_none rfl _ _ _) rfl ?_
  exact HP.out
set_option maxRecDepth 100000 in
set_option maxHeartbeats 1000000 in
theorem awake (w : World) : Calls Try.prog 6 #[] w fun x w' => x = .returned (.bool true) ∧ Below w.heap.size w w' := by
  go_enter Try.func6, Try.ntmps6
  go_wp2_with fail
  refine (put_notes_nil _ _ _ _ (wr_new w)).mono ?_
  rintro x w2 ⟨rfl, v2, W2, K2, -⟩
  have H2 := Lib.hid (And.intro W2 ((Kq.below_alloc w _).trans (K2.below (Kq.below_alloc w _).size (fun k _ hk => by
    rcases hk with hk | hk
    · omega
    · cases hk))))
  clear W2 K2
  go_wp2_with fail
  refine (wr_bytes_ok _ _ v2 _ _ H2.out.1 (by decide)).mono ?_
  rintro x w3 ⟨rfl, rfl⟩
  rw [show txt [0] = ⟨#[0]⟩ from rfl]
  go_wp2_with fail
  refine (nt_by_bad 0 0 0 0 ⟨#[]⟩ _ (fun h => absurd h.1 (by decide))).mono ?_
  rintro x w4 ⟨rfl, b4⟩
  have H4 := Lib.hid (H2.out.2.trans (b4.mono H2.out.2.size))
  clear b4
  go_wp2
  go_ret
  exact ⟨rfl, H4.out⟩
end Go.Proofs.Ytkdommljaciahaa
