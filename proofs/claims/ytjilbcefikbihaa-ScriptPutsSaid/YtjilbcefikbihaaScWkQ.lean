/- Package script's writes: what is kept; the form. Condition: sizes. -/
import Derived.Test.YtjilbcefikbihaaScWwQ
import Derived.Test.YtjilbcefikbihaaScWrQ
namespace Go.Proofs.Ytjilbcefikbihaa
open Go.RowKit
set_option linter.unusedVariables false
set_option maxRecDepth 100000 in
set_option maxHeartbeats 1600000 in
theorem ws_k (w1 : World) (A : Nat) (a : SaV) (sv : Value) (T : TypeId) (tl : List Value) (B : Nat) (b : SaV) (sv2 : Value) (T2 : TypeId) (tl2 : List Value) (hA : ActAt w1 A a sv T tl) (hB : ActAt w1 B b sv2 T2 tl2) (hAB : A ≠ B) (hsB : sBlk sv ≠ some B) :
    Calls Try.prog 83 #[.pointer (some ⟨A, 0, none⟩), .pointer (some ⟨B, 0, none⟩)] w1 fun x w' => x = .returned (.tuple #[]) ∧ Kq.Keeps (· = B) w1 w' ∧ ∃ sv3, ActAt w' B (wrF.keep a b) sv3 T2 tl2 ∧ (sv3 = sv ∨ sv3 = sv2) := by
  obtain ⟨A0, cap, rfl, hrow⟩ := id hA.ws
  obtain ⟨A2, cap2, rfl, hrow2⟩ := id hB.ws
  have c1 : w1.cell? ⟨A, 13, none⟩ = some (.slice A0 a.ws.length cap) := Kq.blk_cell hA.blk 13
  have c2 : w1.cell? ⟨B, 13, none⟩ = some (.slice A2 b.ws.length cap2) := Kq.blk_cell hB.blk 13
  have f2 : w1.frozen? ⟨B, 13, none⟩ = false := Kq.blk_free hB.blk 13
  have HE : Hid (Kq.Keeps (· = B) w1 (w1.setCell ⟨B, 13, none⟩ (.slice A0 a.ws.length cap)) ∧ ActAt (w1.setCell ⟨B, 13, none⟩ (.slice A0 a.ws.length cap)) B (wrF.keep a b) (.slice A0 a.ws.length cap) T2 tl2) := Lib.hid (by
    have k : Kq.Keeps (· = B) w1 (w1.setCell ⟨B, 13, none⟩ (.slice A0 a.ws.length cap)) := Kq.Keeps.setCell _ _ _ rfl
    refine ⟨k, ⟨?_, hA.ws.keeps k (fun b hb hbB => hsB (by rw [hb, hbB])), hsB, fun b hb => Nat.lt_of_lt_of_le (hA.sl b hb) k.size⟩⟩
    rw [Kq.blk_set hB.blk 13 _]
    rfl)
  clear hA hB hAB hsB hrow hrow2
  generalize a.ws.length = na at *
  generalize b.ws.length = nb at *
  go_enter Try.func83, Try.ntmps83
  go_wp2
  go_end0
  exact ⟨rfl, HE.out.1, _, HE.out.2, Or.inl rfl⟩
theorem ws_is (lo hi : Nat) (w : World) (hhi : hi ≤ w.heap.size) : FormIs lo hi w (.agg #[.func (.func 81) #[] #[], .func (.func 82) #[] #[], .func (.func 83) #[] #[]]) wrF := by
  refine ⟨hhi, _, _, _, rfl, ⟨_, _, ⟨rfl, enter_fnS Try.func81 (by kernel_rfl) rfl⟩, ?_⟩, ⟨_, _, ⟨rfl, enter_fnS Try.func82 (by kernel_rfl) rfl⟩, ?_⟩, ⟨_, _, ⟨rfl, enter_fnS Try.func83 (by kernel_rfl) rfl⟩, ?_⟩⟩
  · intro w1 hb base B e v l A a sv T tl hW _ _ hA hwf hAB hv hs hl
    exact ws_w base B e v l A a sv T tl w1 hW hA hwf hAB hv hs (by have : wrF.cap = 200000 := rfl; omega)
  · intro w1 hb base B e s A a sv T tl hR _ h2 _ _ hA hO hAB hsB hs hn
    exact ws_r w1 base B e s A a sv T tl hR h2 hA hO hAB hsB hs hn
  · intro w1 hb A a sv T tl B b sv2 T2 tl2 hA hB hwB hAB hsB
    exact ws_k w1 A a sv T tl B b sv2 T2 tl2 hA hB hAB hsB
set_option maxRecDepth 100000 in
set_option maxHeartbeats 1600000 in
theorem ws_new (w : World) : Calls Try.prog 50 #[] w fun x w' => ∃ v, x = .returned v ∧ FormIs w.heap.size w'.heap.size w' v wrF ∧ Below w.heap.size w w' := by
  obtain ⟨F1, hF1⟩ : ∃ z, z = Value.func (.func 81) #[] #[] := ⟨_, rfl⟩
  obtain ⟨F2, hF2⟩ : ∃ z, z = Value.func (.func 82) #[] #[] := ⟨_, rfl⟩
  obtain ⟨F3, hF3⟩ : ∃ z, z = Value.func (.func 83) #[] #[] := ⟨_, rfl⟩
  obtain ⟨W, hW⟩ : ∃ z, z = w.alloc (.cells #[F1, F2, F3] 69) := ⟨_, rfl⟩
  have HD : Hid (W.heap[w.heap.size]? = some (.cells #[F1, F2, F3] 69 (0, 0)) ∧ FormIs w.heap.size W.heap.size W (.agg #[F1, F2, F3]) wrF ∧ Below w.heap.size w W) := Lib.hid (by
    refine ⟨by rw [hW]; exact Kq.blk_new _ _ _ _, by rw [hF1, hF2, hF3]; exact ws_is _ _ W (Nat.le_refl _), by rw [hW]; exact Kq.below_alloc _ _⟩)
  go_enter Try.func50, Try.ntmps50
  go_wp2
  rw [← hF1, ← hF2, ← hF3, ← hW]
  clear hW hF1 hF2 hF3
  have r0 : W.cell? ⟨w.heap.size, 0, none⟩ = some F1 := Kq.blk_cell HD.out.1 0
  have r1 : W.cell? ⟨w.heap.size, 1, none⟩ = some F2 := Kq.blk_cell HD.out.1 1
  have r2 : W.cell? ⟨w.heap.size, 2, none⟩ = some F3 := Kq.blk_cell HD.out.1 2
  refine bodyPost_ret (v := .agg #[F1, F2, F3]) (by simp [results, Try.results50, go_sem, r0, r1, r2]) rfl ?_
  exact ⟨_, rfl, HD.out.2⟩
end Go.Proofs.Ytjilbcefikbihaa
