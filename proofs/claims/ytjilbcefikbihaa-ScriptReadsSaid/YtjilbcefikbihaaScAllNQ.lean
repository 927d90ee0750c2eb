/- Package script's all: the form that it makes. Condition: each part is a form; no part takes writes. -/
import Derived.Test.YtjilbcefikbihaaScAllQ
namespace Go.Proofs.Ytjilbcefikbihaa
open Go.RowKit
set_option linter.unusedVariables false
theorem all_is (lo hi : Nat) (Fs : List FmV) (hlen : Fs.length ≤ 100) (hG : ∀ F ∈ Fs, ∀ a e s, (F.get a e s).1.ws = a.ws ∧ (F.get a e s).2.2.size ≤ s.size) (X : Nat) (sl : Value) (w : World) (hF : FsIn lo hi w sl Fs) (hX : w.cell? ⟨X, 0, none⟩ = some sl) (hXlo : lo ≤ X) (hXl : X < hi) (hhi : hi ≤ w.heap.size) :
    FormIs lo hi w (.agg #[.func (.func 62) #[] #[.pointer (some ⟨X, 0, none⟩)], .func (.func 63) #[] #[.pointer (some ⟨X, 0, none⟩)], .func (.func 64) #[] #[.pointer (some ⟨X, 0, none⟩)]]) (allF Fs) := by
  refine ⟨hhi, _, _, _, rfl, ⟨_, _, ⟨rfl, enter_fnS Try.func62 (by kernel_rfl) rfl⟩, ?_⟩, ⟨_, _, ⟨rfl, enter_fnS Try.func63 (by kernel_rfl) rfl⟩, ?_⟩, ⟨_, _, ⟨rfl, enter_fnS Try.func64 (by kernel_rfl) rfl⟩, ?_⟩⟩
  · intro w1 hb base B e v l A a sv T tl hW h1 h2 hA hwf hAB hv hs hl
    exact all_w lo hi w X sl Fs hX hXlo hXl hF hlen w1 hb base B e v l A a sv T tl hW h1 h2 hA hwf hAB hv hs hl
  · intro w1 hb base B e s A a sv T tl hR h1 h2 h3 h4 hA hO hAB hsB hs hn
    exact all_r lo hi w X sl Fs hX hXlo hXl hF hlen w1 hb base B e s A a sv T tl hR h1 h2 h3 h4 hA hO hAB hsB hs hn hG
  · intro w1 hb A a sv T tl B b sv2 T2 tl2 hA hB hwB hAB hsB
    exact all_k lo hi w X sl Fs hX hXlo hXl hF hlen w1 hb A a sv T tl B b sv2 T2 tl2 hA hB hwB hAB hsB
set_option maxRecDepth 100000 in
set_option maxHeartbeats 1600000 in
theorem all_new (lo : Nat) (Fs : List FmV) (hlen : Fs.length ≤ 100) (hG : ∀ F ∈ Fs, ∀ a e s, (F.get a e s).1.ws = a.ws ∧ (F.get a e s).2.2.size ≤ s.size) (sl : Value) (w : World) (hlo : lo ≤ w.heap.size) (hF : FsIn lo w.heap.size w sl Fs) :
    Calls Try.prog 44 #[sl] w fun x w' => ∃ v, x = .returned v ∧ FormIs lo w'.heap.size w' v (allF Fs) ∧ Below w.heap.size w w' := by
  obtain ⟨AA, cap, rfl, hF'⟩ := id hF
  clear hF'
  obtain ⟨n, hn⟩ : ∃ n, n = Fs.length := ⟨_, rfl⟩
  rw [← hn] at hF ⊢
  obtain ⟨F1, hF1⟩ : ∃ z, z = Value.func (.func 62) #[] #[.pointer (some ⟨w.heap.size, 0, none⟩)] := ⟨_, rfl⟩
  obtain ⟨F2, hF2⟩ : ∃ z, z = Value.func (.func 63) #[] #[.pointer (some ⟨w.heap.size, 0, none⟩)] := ⟨_, rfl⟩
  obtain ⟨F3, hF3⟩ : ∃ z, z = Value.func (.func 64) #[] #[.pointer (some ⟨w.heap.size, 0, none⟩)] := ⟨_, rfl⟩
  obtain ⟨W, hW⟩ : ∃ z, z = (w.alloc (.cells #[.slice AA n cap] 125)).alloc (.cells #[F1, F2, F3] 69) := ⟨_, rfl⟩
  have HD : Hid (W.heap[w.heap.size + 1]? = some (.cells #[F1, F2, F3] 69 (0, 0)) ∧ FormIs lo W.heap.size W (.agg #[F1, F2, F3]) (allF Fs) ∧ Below w.heap.size w W) := Lib.hid (by
    have hb1 := Kq.below_alloc w (.cells #[.slice AA n cap] 125)
    have hr1 := Kq.blk_new w #[.slice AA n cap] 125 (0, 0)
    have hb2 := Kq.below_alloc (w.alloc (.cells #[.slice AA n cap] 125)) (.cells #[F1, F2, F3] 69)
    have hr2 := Kq.blk_new (w.alloc (.cells #[.slice AA n cap] 125)) #[F1, F2, F3] 69 (0, 0)
    have hr1' := Kq.below_blk hb2 hr1 (Kq.blk_lt hr1)
    have hbb := hb1.trans (hb2.mono hb1.size)
    rw [World.size_alloc] at hr2
    rw [← hW] at hr1' hr2 hbb
    refine ⟨hr2, ?_, hbb⟩
    rw [hF1, hF2, hF3]
    exact all_is lo W.heap.size Fs hlen hG w.heap.size _ W (hF.mono (Rng.below (Rng.refl _ _ _) hbb (Nat.le_refl _)) hbb.size (Nat.le_refl _)) (Kq.blk_cell hr1' 0) hlo (Kq.blk_lt hr1') (Nat.le_refl _))
  clear hF hn hlen hG hlo
  go_enter Try.func44, Try.ntmps44
  go_wp2
  rw [← hF1, ← hF2, ← hF3, ← hW]
  clear hW hF1 hF2 hF3
  have r0 : W.cell? ⟨w.heap.size + 1, 0, none⟩ = some F1 := Kq.blk_cell HD.out.1 0
  have r1 : W.cell? ⟨w.heap.size + 1, 1, none⟩ = some F2 := Kq.blk_cell HD.out.1 1
  have r2 : W.cell? ⟨w.heap.size + 1, 2, none⟩ = some F3 := Kq.blk_cell HD.out.1 2
  refine bodyPost_ret (v := .agg #[F1, F2, F3]) (by simp [results, Try.results44, go_sem, r0, r1, r2]) rfl ?_
  exact ⟨_, rfl, HD.out.2⟩
end Go.Proofs.Ytjilbcefikbihaa
