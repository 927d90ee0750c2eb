/- Merged: NtStep, NtRef. Writing steps, one behind the other. No condition. Contracts of carrackref14.Right, RightItem, By, Place, Notes, Items. Condition: sizes. -/
import Derived.WalkSpells
import Derived.Test.YtkbiolhcpghmkaaNtPutQ
import Derived.Test.YtkbiolhcpghmkaaBetwQ
import Derived.Deep.RegionHeld
import Derived.Test.YtkbiolhcpghmkaaPkRBQ
import Derived.Test.YtkbiolhcpghmkaaNtRightQ
namespace Go.Proofs.Ytkbiolhcpghmkaa
open Go.RowKit
set_option linter.unusedVariables false
theorem WrStep.then {w w1 w2 : World} {base R : Nat} {v v1 : Value} {e e1 : Int} {acc l1 : List Nat} {ok1 ok2 : Prop} {a1 a2 : List Nat} {n1 n2 : Nat} {x : Ending}
    (W1 : Wr w1 base R e1 v1 l1) (K1 : Kq.Keeps (fun k => k = R ∨ some k = v.ownBlock) w w1) (F1 : ∀ k, v1.ownBlock = some k → some k = v.ownBlock ∨ w.heap.size ≤ k)
    (s1 : l1.length ≤ acc.length + n1) (g1 : ok1 → e1 = e ∧ l1 = acc ++ a1) (b1 : ¬ ok1 → e1 = keepE e 1) (h2 : WrStep w1 base R v1 e1 l1 ok2 a2 n2 x w2) : WrStep w base R v e acc (ok1 ∧ ok2) (a1 ++ a2) (n1 + n2) x w2 := by
  obtain ⟨e2, l2, ⟨rfl, v2, W2, K2, F2⟩, s2, g2, b2⟩ := h2
  have M := WrMid.stepV (w := w) ⟨W1, K1, F1⟩ W2 K2 F2
  refine ⟨e2, l2, M.post, by omega, fun h => ?_, fun h => ?_⟩
  · obtain ⟨rfl, rfl⟩ := g1 h.1
    obtain ⟨rfl, rfl⟩ := g2 h.2
    exact ⟨rfl, by rw [List.append_assoc]⟩
  · by_cases h1 : ok1
    · obtain ⟨rfl, rfl⟩ := g1 h1
      exact b2 (fun h2 => h ⟨h1, h2⟩)
    · have h1' := b1 h1
      by_cases h2 : ok2
      · rw [(g2 h2).1, h1']
      · rw [b2 h2, h1', keepE_one]
/-- below, from a writer's birth on -/
theorem wr_below {w w2 : World} {e : Int} {v : Value} {acc : List Nat} (W : Wr w2 w.heap.size w.heap.size e v acc) (K : Kq.Keeps (fun k => k = w.heap.size ∨ some k = (Value.slice none 0 0).ownBlock) (w.alloc (.cells #[.int .i64 0, .slice none 0 0] 60 (0, 0))) w2) : Below w.heap.size w w2 :=
  (Kq.below_alloc w _).trans (K.below (Kq.below_alloc w _).size (fun k _ hk => by
    rcases hk with rfl | hk
    · exact Nat.le_refl _
    · cases hk))
theorem WrStep.any {w w1 : World} {base R : Nat} {v : Value} {e : Int} {acc : List Nat} {ok : Prop} {add : List Nat} {n : Nat} {x : Ending} (h : WrStep w base R v e acc ok add n x w1) :
    x = .returned (.tuple #[]) ∧ ∃ e1 l1 v1, Wr w1 base R e1 v1 l1 ∧ Kq.Keeps (fun k => k = R ∨ some k = v.ownBlock) w w1 ∧ (∀ k, v1.ownBlock = some k → some k = v.ownBlock ∨ w.heap.size ≤ k) ∧ l1.length ≤ acc.length + n ∧ (ok → e1 = e ∧ l1 = acc ++ add) ∧ (¬ ok → e1 = keepE e 1) := by
  obtain ⟨e1, l1, ⟨rfl, v1, W1, K1, F1⟩, s1, g1, b1⟩ := h
  exact ⟨rfl, e1, l1, v1, W1, K1, F1, s1, g1, b1⟩
theorem hab {c : NtV → List Value} {w0 : World} {A : Option Addr} {l : List NtV} (hA : EnAt c w0 A l) {v : Value} (hv : ∀ k, v.ownBlock = some k → some k = (Value.slice none 0 0).ownBlock ∨ w0.heap.size ≤ k) :
    ∀ g o, 0 < l.length → A = some ⟨g, o, none⟩ → g ≠ w0.heap.size ∧ some g ≠ v.ownBlock := by
  intro g o h0 hg
  obtain ⟨b, off, he, hlt, _⟩ := hA 0 h0
  rw [hg] at he
  simp only [Option.some.injEq, Addr.mk.injEq] at he
  refine ⟨by omega, fun h => ?_⟩
  rcases hv g h.symm with h' | h'
  · cases h'
  · omega
theorem nt_place_step (base B : Nat) (e : Int) (v : Value) (l : List Nat) (a i : Int) (w : World) (h : Wr w base B e v l) (ha : 0 ≤ a ∧ a < 18446744073709551616) (hl : l.length ≤ 1000000) :
    Calls Try.prog 17 #[.pointer (some ⟨B, 0, none⟩), .agg #[.int .u64 a, .int .i64 i]] w (WrStep w base B v e l (0 ≤ i ∧ i ≤ 65535) (num8 a.toNat ++ num8 i.toNat) 16) := by
  by_cases hi : 0 ≤ i ∧ i ≤ 65535
  · obtain ⟨an, rfl⟩ := Int.eq_ofNat_of_zero_le ha.1
    obtain ⟨n, rfl⟩ := Int.eq_ofNat_of_zero_le hi.1
    refine (nt_place_ok base B e v l an n w h (by omega) (by omega) hl).mono fun x w' hp => ?_
    exact ⟨e, _, hp, by simp [num8], fun _ => ⟨rfl, rfl⟩, fun h => absurd hi h⟩
  · refine (nt_place_bad base B e v l a i w h (by omega)).mono fun x w' hp => ?_
    exact ⟨_, l, hp, by omega, fun h => absurd h hi, fun _ => rfl⟩
end Go.Proofs.Ytkbiolhcpghmkaa
namespace Go.Proofs.Ytkbiolhcpghmkaa
open Go.RowKit
set_option linter.unusedVariables false
end Go.Proofs.Ytkbiolhcpghmkaa
