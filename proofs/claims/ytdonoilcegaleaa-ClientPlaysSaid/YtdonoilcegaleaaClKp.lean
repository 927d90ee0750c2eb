/- A client and a law's own map of what it was told first. No condition. -/
import Derived.WalkSpells
import Derived.Outline
import Derived.Test.YtdonoilcegaleaaClInv
namespace Go.Proofs.Ytdonoilcegaleaa
open Go.RowKit Go.Cl Go.Maps
set_option linter.unusedVariables false
theorem MapT.get {w : World} {M N sz : Nat} {f : Int → Option ByteArray} (h : MapT w M N f sz) (k : Int) (hw : (Lit.int .u64 k).wf = true) :
    (Instr.lookup 44 (.map (some M)) (.int .u64 k) false).run Try.prog w = .ok (.string ((f k).getD ⟨#[]⟩)) w := by
  obtain ⟨n, D, hn, hown, _, hD⟩ := h.ex
  obtain ⟨v, ps, hrun, hv⟩ := hown.lookup lawU Try.underlying44 (zeroStr w) (plainElem_string Try.underlying9 (s := ⟨#[]⟩) (by decide)) (keyOf_int_mk Try.underlying23 hw)
  obtain ⟨s, rfl, hz, _⟩ := plainElem_string_inv Try.underlying9 hv
  obtain ⟨h1, h2⟩ := hD k
  rw [hrun]
  have h3 : D.atKey (.int .u64 k) (.lit (.string [])) = .lit (.string s.data.toList) := (Prod.mk.inj hz).1
  rw [h2] at h3
  injection h3 with h3
  injection h3 with h3
  have : (f k).getD ⟨#[]⟩ = s := ByteArray.ext (Array.toList_inj.1 h3)
  rw [this]
theorem u64_wf (x : Nat) (hx : x < 18446744073709551616) : (Lit.int .u64 (x : Int)).wf = true := by simp [Lit.wf, IntKind.min, IntKind.max, IntKind.signed, IntKind.bits]; omega
structure Kp (W w : World) (C M F N : Nat) (v : Value) (hs : List Nat) (f : Int → Option ByteArray) (g : Int → Option ByteArray) (sz : Nat) : Prop where
  c : CliI W w M C M N v hs f
  mp : MapT w F N g sz
  sep : ¬ OwnC C M v F
  hF : W.heap.size ≤ F
section
variable {W w w' : World} {C M F N : Nat} {v : Value} {hs hs' : List Nat} {f f' g : Int → Option ByteArray} {sz : Nat}
theorem Kp.below (h : Kp W w C M F N v hs f g sz) (hb : Below w.heap.size w w') : Kp W w' C M F N v hs f g sz := ⟨h.c.below hb, h.mp.below hb, h.sep, h.hF⟩
theorem Kp.drewN (h : Kp W w C M F N v hs f g sz) (n : Nat) : Kp W (w.drewN n) C M F N v hs f g sz := h.below (below_drewN (Below.refl _ _) n)
theorem Kp.drew (h : Kp W w C M F N v hs f g sz) : Kp W w.drew C M F N v hs f g sz := h.below (Below.refl _ _).drew
theorem Kp.set (h : Kp W w C M F N v hs f g sz) (hd : SetP w M C M (N + 1) v hs' f' w') : ∃ v', Kp W w' C M F (N + 1) v' hs' f' g sz := by
  obtain ⟨v', h1, h2, h3⟩ := h.c.step hd
  refine ⟨v', h1, (h.mp.keeps h2 h.sep).up (Nat.le_succ _), fun ho => ?_, h.hF⟩
  rcases ho with e | e | e
  · exact h.sep (Or.inl e)
  · exact h.sep (Or.inr (Or.inl e))
  · rcases h3 F e with e | e
    · exact h.sep (Or.inr (Or.inr e))
    · have := h.mp.lt; omega
theorem Kp.put (h : Kp W w C M F N v hs f g sz) (hN : N < 1000000) (k : Nat) (hk : k < 18446744073709551616) (s : ByteArray) (hs' : s.size ≤ maxLen) (hg : (g (k : Int)).isSome = false) :
    ∃ w', (Instr.mapUpdate 44 (.map (some F)) (.int .u64 (k : Int)) (.string s)).run Try.prog w = .ok () w' ∧ Kp W w' C M F (N + 1) v hs f (updT g k s) (sz + 1) := by
  obtain ⟨w', hrun, hm, hk'⟩ := h.mp.put hN (k : Int) (u64_wf k hk) s hs'
  rw [hg] at hm
  refine ⟨w', hrun, ⟨⟨?_, h.c.bel.trans (hk'.below h.c.bel.size (fun j _ e => by have := h.hF; omega)), h.c.hC, h.c.hM, h.c.hbase⟩, by simpa using hm, h.sep, h.hF⟩⟩
  have := h.c.s.keeps hk' (fun e => h.sep (Or.inl e.symm)) (fun e => h.sep (Or.inr (Or.inl e.symm))) (fun j hj e => h.sep (Or.inr (Or.inr (e ▸ hj))))
  exact ⟨this.blk, this.own, this.mp.up (Nat.le_succ _), this.ne, this.cm, this.base, this.ok⟩
theorem Kp.up (h : Kp W w C M F N v hs f g sz) {N' : Nat} (hN : N ≤ N') : Kp W w C M F N' v hs f g sz :=
  ⟨⟨⟨h.c.s.blk, h.c.s.own, h.c.s.mp.up hN, h.c.s.ne, h.c.s.cm, h.c.s.base, h.c.s.ok⟩, h.c.bel, h.c.hC, h.c.hM, h.c.hbase⟩, h.mp.up hN, h.sep, h.hF⟩
end
theorem from_self {hs : List Nat} (h : hs.Pairwise (· < ·)) (k : Nat) (hk : k < hs.length) : fromF hs[k] hs = (hs[k], true) := by
  have h1 : lowC hs[k] hs = k := by
    have a1 := low_iff (x := hs[k]) h k hk
    rcases Nat.lt_or_ge (lowC hs[k] hs) k with h2 | h2
    · have a2 := low_iff (x := hs[k]) h (lowC hs[k] hs) (by omega)
      have a3 := sorted_at h h2 hk
      omega
    · omega
  unfold fromF
  rw [dif_pos (by rw [h1]; exact hk)]
  simp [h1]
end Go.Proofs.Ytdonoilcegaleaa
