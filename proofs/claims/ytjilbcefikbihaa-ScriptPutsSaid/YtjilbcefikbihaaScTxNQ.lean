/- Merged: ScSmN, ScTxN. Package script's small: the form that it makes. Condition: the field's closure tells its cell. Package script's text: the form that it makes. Condition: the field's closure tells its cell. -/
import Derived.Test.YtjilbcefikbihaaScNuQ
import Derived.Test.YtjilbcefikbihaaScTxQ
namespace Go.Proofs.Ytjilbcefikbihaa
open Go.RowKit
set_option linter.unusedVariables false
variable {i : Nat} {g : SaV → Int} {s0 : SaV → Int → SaV}
theorem sm_is (lo hi : Nat) (hL : LensI i g s0) (X : Nat) (f : Value) (hf : FieldIs f i) (w : World) (hX : w.cell? ⟨X, 0, none⟩ = some f) (hlo : lo ≤ X) (hXl : X < hi) (hhi : hi ≤ w.heap.size) :
    FormIs lo hi w (.agg #[.func (.func 59) #[] #[.pointer (some ⟨X, 0, none⟩)], .func (.func 60) #[] #[.pointer (some ⟨X, 0, none⟩)], .func (.func 61) #[] #[.pointer (some ⟨X, 0, none⟩)]]) (smF g s0) := by
  have hx : ∀ w1, Rng lo hi w w1 → w1.cell? ⟨X, 0, none⟩ = some f := fun w1 hb => by
    rw [← hX]; unfold World.cell?; rw [hb X hlo hXl]
  refine ⟨hhi, _, _, _, rfl, ⟨_, _, ⟨rfl, enter_fnS Try.func59 (by kernel_rfl) rfl⟩, ?_⟩, ⟨_, _, ⟨rfl, enter_fnS Try.func60 (by kernel_rfl) rfl⟩, ?_⟩, ⟨_, _, ⟨rfl, enter_fnS Try.func61 (by kernel_rfl) rfl⟩, ?_⟩⟩
  · intro w1 hb base B e v l A a sv T tl hW _ _ hA hwf _ _ _ hl
    exact sm_w hL X f hf w1 (hx w1 hb) base B e v l A a sv T tl hW hA hwf hl
  · intro w1 hb base B e s A a sv T tl hR _ _ _ _ hA hO hAB hsB hs _
    exact sm_r hL X f hf w1 (hx w1 hb) base B e s A a sv T tl hR hA hO hAB hsB (fun h => hsB (own_sB h)) hs
  · intro w1 hb A a sv T tl B b sv2 T2 tl2 hA hB hwB hAB _
    exact sm_k hL X f hf w1 (hx w1 hb) A a sv T tl B b sv2 T2 tl2 hA hB hAB (fun h => by omega)
set_option maxRecDepth 100000 in
set_option maxHeartbeats 1600000 in
theorem sm_new (hL : LensI i g s0) (f : Value) (hf : FieldIs f i) (w : World) :
    Calls Try.prog 41 #[f] w fun x w' => ∃ v, x = .returned v ∧ FormIs w.heap.size w'.heap.size w' v (smF g s0) ∧ Below w.heap.size w w' := by
  obtain ⟨m, ⟨rfl, hrun⟩, hcall⟩ := id hf
  clear hrun hcall
  obtain ⟨F1, hF1⟩ : ∃ z, z = Value.func (.func 59) #[] #[.pointer (some ⟨w.heap.size, 0, none⟩)] := ⟨_, rfl⟩
  obtain ⟨F2, hF2⟩ : ∃ z, z = Value.func (.func 60) #[] #[.pointer (some ⟨w.heap.size, 0, none⟩)] := ⟨_, rfl⟩
  obtain ⟨F3, hF3⟩ : ∃ z, z = Value.func (.func 61) #[] #[.pointer (some ⟨w.heap.size, 0, none⟩)] := ⟨_, rfl⟩
  obtain ⟨W, hW⟩ : ∃ z, z = (w.alloc (.cells #[.func (.func m) #[] #[]] 110)).alloc (.cells #[F1, F2, F3] 69) := ⟨_, rfl⟩
  have HD : Hid (W.heap[w.heap.size + 1]? = some (.cells #[F1, F2, F3] 69 (0, 0)) ∧ FormIs w.heap.size W.heap.size W (.agg #[F1, F2, F3]) (smF g s0) ∧ Below w.heap.size w W) := Lib.hid (by
    have hb1 := Kq.below_alloc w (.cells #[.func (.func m) #[] #[]] 110)
    have hr1 := Kq.blk_new w #[.func (.func m) #[] #[]] 110 (0, 0)
    have hb2 := Kq.below_alloc (w.alloc (.cells #[.func (.func m) #[] #[]] 110)) (.cells #[F1, F2, F3] 69)
    have hr2 := Kq.blk_new (w.alloc (.cells #[.func (.func m) #[] #[]] 110)) #[F1, F2, F3] 69 (0, 0)
    have hr1' := Kq.below_blk hb2 hr1 (Kq.blk_lt hr1)
    have hbb := hb1.trans (hb2.mono hb1.size)
    rw [World.size_alloc] at hr2
    rw [← hW] at hr1' hr2 hbb
    refine ⟨hr2, ?_, hbb⟩
    rw [hF1, hF2, hF3]
    exact sm_is w.heap.size W.heap.size hL w.heap.size _ hf W (Kq.blk_cell hr1' 0) (Nat.le_refl _) (Kq.blk_lt hr1') (Nat.le_refl _))
  go_enter Try.func41, Try.ntmps41
  go_wp2
  rw [← hF1, ← hF2, ← hF3, ← hW]
  clear hW hF1 hF2 hF3
  have r0 : W.cell? ⟨w.heap.size + 1, 0, none⟩ = some F1 := Kq.blk_cell HD.out.1 0
  have r1 : W.cell? ⟨w.heap.size + 1, 1, none⟩ = some F2 := Kq.blk_cell HD.out.1 1
  have r2 : W.cell? ⟨w.heap.size + 1, 2, none⟩ = some F3 := Kq.blk_cell HD.out.1 2
  refine bodyPost_ret (v := .agg #[F1, F2, F3]) (by simp [results, Try.results41, go_sem, r0, r1, r2]) rfl ?_
  exact ⟨_, rfl, HD.out.2⟩
end Go.Proofs.Ytjilbcefikbihaa
namespace Go.Proofs.Ytjilbcefikbihaa
open Go.RowKit
set_option linter.unusedVariables false
variable {i : Nat} {g : SaV → ByteArray} {s0 : SaV → ByteArray → SaV}
theorem tx_is (lo hi : Nat) (hL : LensT i g s0) (X : Nat) (f : Value) (hf : FieldIs f i) (w : World) (hX : w.cell? ⟨X, 0, none⟩ = some f) (hlo : lo ≤ X) (hXl : X < hi) (hhi : hi ≤ w.heap.size) :
    FormIs lo hi w (.agg #[.func (.func 68) #[] #[.pointer (some ⟨X, 0, none⟩)], .func (.func 70) #[] #[.pointer (some ⟨X, 0, none⟩)], .func (.func 72) #[] #[.pointer (some ⟨X, 0, none⟩)]]) (txF g s0) := by
  have hx : ∀ w1, Rng lo hi w w1 → w1.cell? ⟨X, 0, none⟩ = some f := fun w1 hb => by
    rw [← hX]; unfold World.cell?; rw [hb X hlo hXl]
  refine ⟨hhi, _, _, _, rfl, ⟨_, _, ⟨rfl, enter_fnS Try.func68 (by kernel_rfl) rfl⟩, ?_⟩, ⟨_, _, ⟨rfl, enter_fnS Try.func70 (by kernel_rfl) rfl⟩, ?_⟩, ⟨_, _, ⟨rfl, enter_fnS Try.func72 (by kernel_rfl) rfl⟩, ?_⟩⟩
  · intro w1 hb base B e v l A a sv T tl hW _ _ hA hwf _ _ _ hl
    exact tx_w hL X f hf w1 (hx w1 hb) base B e v l A a sv T tl hW hA hwf hl
  · intro w1 hb base B e s A a sv T tl hR _ _ _ _ hA hO hAB hsB hs _
    exact tx_r hL X f hf w1 (hx w1 hb) base B e s A a sv T tl hR hA hO hAB hsB (fun h => hsB (own_sB h)) hs
  · intro w1 hb A a sv T tl B b sv2 T2 tl2 hA hB hwB hAB _
    exact tx_k hL X f hf w1 (hx w1 hb) A a sv T tl B b sv2 T2 tl2 hA hB hAB (fun h => by omega)
set_option maxRecDepth 100000 in
set_option maxHeartbeats 1600000 in
theorem tx_new (hL : LensT i g s0) (f : Value) (hf : FieldIs f i) (w : World) :
    Calls Try.prog 47 #[f] w fun x w' => ∃ v, x = .returned v ∧ FormIs w.heap.size w'.heap.size w' v (txF g s0) ∧ Below w.heap.size w w' := by
  obtain ⟨m, ⟨rfl, hrun⟩, hcall⟩ := id hf
  clear hrun hcall
  obtain ⟨F1, hF1⟩ : ∃ z, z = Value.func (.func 68) #[] #[.pointer (some ⟨w.heap.size, 0, none⟩)] := ⟨_, rfl⟩
  obtain ⟨F2, hF2⟩ : ∃ z, z = Value.func (.func 70) #[] #[.pointer (some ⟨w.heap.size, 0, none⟩)] := ⟨_, rfl⟩
  obtain ⟨F3, hF3⟩ : ∃ z, z = Value.func (.func 72) #[] #[.pointer (some ⟨w.heap.size, 0, none⟩)] := ⟨_, rfl⟩
  obtain ⟨W, hW⟩ : ∃ z, z = (w.alloc (.cells #[.func (.func m) #[] #[]] 117)).alloc (.cells #[F1, F2, F3] 69) := ⟨_, rfl⟩
  have HD : Hid (W.heap[w.heap.size + 1]? = some (.cells #[F1, F2, F3] 69 (0, 0)) ∧ FormIs w.heap.size W.heap.size W (.agg #[F1, F2, F3]) (txF g s0) ∧ Below w.heap.size w W) := Lib.hid (by
    have hb1 := Kq.below_alloc w (.cells #[.func (.func m) #[] #[]] 117)
    have hr1 := Kq.blk_new w #[.func (.func m) #[] #[]] 117 (0, 0)
    have hb2 := Kq.below_alloc (w.alloc (.cells #[.func (.func m) #[] #[]] 117)) (.cells #[F1, F2, F3] 69)
    have hr2 := Kq.blk_new (w.alloc (.cells #[.func (.func m) #[] #[]] 117)) #[F1, F2, F3] 69 (0, 0)
    have hr1' := Kq.below_blk hb2 hr1 (Kq.blk_lt hr1)
    have hbb := hb1.trans (hb2.mono hb1.size)
    rw [World.size_alloc] at hr2
    rw [← hW] at hr1' hr2 hbb
    refine ⟨hr2, ?_, hbb⟩
    rw [hF1, hF2, hF3]
    exact tx_is w.heap.size W.heap.size hL w.heap.size _ hf W (Kq.blk_cell hr1' 0) (Nat.le_refl _) (Kq.blk_lt hr1') (Nat.le_refl _))
  go_enter Try.func47, Try.ntmps47
  go_wp2
  rw [← hF1, ← hF2, ← hF3, ← hW]
  clear hW hF1 hF2 hF3
  have r0 : W.cell? ⟨w.heap.size + 1, 0, none⟩ = some F1 := Kq.blk_cell HD.out.1 0
  have r1 : W.cell? ⟨w.heap.size + 1, 1, none⟩ = some F2 := Kq.blk_cell HD.out.1 1
  have r2 : W.cell? ⟨w.heap.size + 1, 2, none⟩ = some F3 := Kq.blk_cell HD.out.1 2
  refine bodyPost_ret (v := .agg #[F1, F2, F3]) (by simp [results, Try.results47, go_sem, r0, r1, r2]) rfl ?_
  exact ⟨_, rfl, HD.out.2⟩
end Go.Proofs.Ytjilbcefikbihaa
