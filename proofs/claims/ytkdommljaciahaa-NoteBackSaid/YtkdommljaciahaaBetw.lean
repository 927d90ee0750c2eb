/- Plain mathematics: what stands between two places is read. No condition but sizes. -/
import Derived.Test.YtkdommljaciahaaRefNum
namespace Go.Proofs.Ytkdommljaciahaa
open Go.RowKit
set_option linter.unusedVariables false
/-- r is what stands between p and cut of L -/
def Between (L : List Nat) (cut p : Nat) (r : ByteArray) : Prop := nl r = (L.take cut).drop p
theorem between_size {L : List Nat} {cut p : Nat} {r : ByteArray} (h : Between L cut p r) (hc : cut ≤ L.length) : r.size = cut - p := by
  rw [← nl_length, h, List.length_drop, List.length_take, Nat.min_eq_left hc]
/-- what is read of what was written there -/
theorem read_ok {L : List Nat} {cut p : Nat} {r : ByteArray} (h : Between L cut p r) (hc : cut ≤ L.length) (bs : List Nat) (hb : bs <+: L.drop p) (hle : p + bs.length ≤ cut) :
    nl (WireM.raw 0 r (bs.length : Nat)).1 = bs ∧ (WireM.raw 0 r (bs.length : Nat)).2.1 = 0 ∧ Between L cut (p + bs.length) (WireM.raw 0 r (bs.length : Nat)).2.2 := by
  have hs := between_size h hc
  rw [WireM.raw_ok r bs.length (by omega)]
  refine ⟨?_, rfl, ?_⟩
  · show nl (r.extract 0 bs.length) = bs
    rw [nl_extract, h, List.drop_zero, Nat.sub_zero]
    obtain ⟨t, ht⟩ := hb
    rw [List.drop_take, ← ht, List.take_take, Nat.min_eq_left (by omega), List.take_left]
  · show nl (r.extract bs.length r.size) = (L.take cut).drop (p + bs.length)
    rw [nl_extract, h, List.drop_drop, hs]
    refine List.take_of_length_le ?_
    rw [List.length_drop, List.length_take]; omega
theorem read_no {L : List Nat} {cut p : Nat} {r : ByteArray} (h : Between L cut p r) (hc : cut ≤ L.length) (n : Nat) (hle : cut < p + n) (hn : p ≤ cut) :
    WireM.raw 0 r (n : Nat) = (⟨#[]⟩, 6, r) := by
  have hs := between_size h hc
  rw [WireM.raw_bad 0 r n (Or.inr (by omega))]
  rfl
/-- how a reader stands ahead of the call number k: all is there, or something wasn't -/
def Mid (L : List Nat) (cut p : Nat) (e : Int) (r : ByteArray) : Prop := (e = 0 ∧ p ≤ cut ∧ Between L cut p r) ∨ (e = 6 ∧ cut < L.length)
theorem Mid.err {L : List Nat} {cut p : Nat} {e : Int} {r : ByteArray} (h : Mid L cut p e r) : e = 0 ∨ e = 6 := h.imp And.left And.left
/-- one read of so many bytes that were written -/
theorem Mid.read {L : List Nat} {cut p : Nat} {e : Int} {r : ByteArray} (h : Mid L cut p e r) (hc : cut ≤ L.length) (bs : List Nat) (hb : bs <+: L.drop p) :
    Mid L cut (p + bs.length) (WireM.raw e r (bs.length : Nat)).2.1 (WireM.raw e r (bs.length : Nat)).2.2 ∧ ((WireM.raw e r (bs.length : Nat)).2.1 = 0 → nl (WireM.raw e r (bs.length : Nat)).1 = bs) := by
  rcases h with ⟨rfl, hp, hB⟩ | ⟨rfl, hl⟩
  · by_cases hle : p + bs.length ≤ cut
    · obtain ⟨h1, h2, h3⟩ := read_ok hB hc bs hb hle
      exact ⟨Or.inl ⟨h2, hle, h3⟩, fun _ => h1⟩
    · rw [read_no hB hc bs.length (by omega) hp]
      refine ⟨Or.inr ⟨rfl, ?_⟩, fun h => by revert h; simp⟩
      have := hb.length_le
      rw [List.length_drop] at this
      omega
  · rw [WireM.raw_stuck 6 r _ (by decide)]
    exact ⟨Or.inr ⟨rfl, hl⟩, fun h => by revert h; simp⟩
theorem Mid.stuck {L : List Nat} {cut p q : Nat} {e : Int} {r : ByteArray} (h : Mid L cut p e r) (he : e ≠ 0) (n : Int) : WireM.raw e r n = (⟨#[]⟩, e, r) ∧ Mid L cut q e r :=
  ⟨WireM.raw_stuck e r n he, by
    rcases h with ⟨rfl, _⟩ | h
    · exact absurd rfl he
    · exact Or.inr h⟩
end Go.Proofs.Ytkdommljaciahaa
