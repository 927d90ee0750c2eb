/- Plain mathematics: what calls wrote is read by the same calls. No condition but sizes. -/
import Derived.Test.YtiokelnnimoljaaPuts
import Derived.Test.YtiokelnnimoljaaWireRd2
namespace Go.Proofs.Ytiokelnnimoljaa
open Go.RowKit
set_option linter.unusedVariables false
theorem val_num8 (n : Nat) (h : n < M64) : WireM.val (num8 n) = n := by
  unfold M64 at h
  simp only [WireM.val, num8, List.foldl_cons, List.foldl_nil]
  omega
theorem val_hi2 (n : Nat) : WireM.val (hi2 n) = n := by
  simp only [WireM.val, hi2, List.foldl_cons, List.foldl_nil]
  omega
theorem val_one (n : Nat) : WireM.val [n] = n := by simp [WireM.val]
/-- r is what stands between p and cut of L -/
def Between (L : List Nat) (cut p : Nat) (r : ByteArray) : Prop := nl r = (L.take cut).drop p
theorem between_size {L : List Nat} {cut p : Nat} {r : ByteArray} (h : Between L cut p r) (hc : cut ≤ L.length) : r.size = cut - p := by
  rw [← nl_length, h, List.length_drop, List.length_take, Nat.min_eq_left hc]
/-- what is read of what was written there -/
theorem read_ok {L : List Nat} {cut p : Nat} {r : ByteArray} (h : Between L cut p r) (hc : cut ≤ L.length) (bs : List Nat) (hb : bs <+: L.drop p) (hle : p + bs.length ≤ cut) :
    nl (WireM.raw 0 r (bs.length : Nat)).1 = bs ∧ (WireM.raw 0 r (bs.length : Nat)).2.1 = 0 ∧ Between L cut (p + bs.length) (WireM.raw 0 r (bs.length : Nat)).2.2 := by
  have hs := between_size h hc
  rw [WireM.raw_ok r bs.length (by omega)]
  refine ⟨?_, rfl, ?_⟩
  · show nl (r.extract 0 bs.length) = bs
    rw [nl_extract, h, List.drop_zero, Nat.sub_zero]
    obtain ⟨t, ht⟩ := hb
    rw [List.drop_take, ← ht, List.take_take, Nat.min_eq_left (by omega), List.take_left]
  · show nl (r.extract bs.length r.size) = (L.take cut).drop (p + bs.length)
    rw [nl_extract, h, List.drop_drop, hs]
    refine List.take_of_length_le ?_
    rw [List.length_drop, List.length_take]; omega
theorem read_no {L : List Nat} {cut p : Nat} {r : ByteArray} (h : Between L cut p r) (hc : cut ≤ L.length) (n : Nat) (hle : cut < p + n) (hn : p ≤ cut) :
    WireM.raw 0 r (n : Nat) = (⟨#[]⟩, 6, r) := by
  have hs := between_size h hc
  rw [WireM.raw_bad 0 r n (Or.inr (by omega))]
  rfl
/-- how a reader stands ahead of the call number k: all is there, or something wasn't -/
def Mid (L : List Nat) (cut p : Nat) (e : Int) (r : ByteArray) : Prop := (e = 0 ∧ p ≤ cut ∧ Between L cut p r) ∨ (e = 6 ∧ cut < L.length)
theorem Mid.err {L : List Nat} {cut p : Nat} {e : Int} {r : ByteArray} (h : Mid L cut p e r) : e = 0 ∨ e = 6 := h.imp And.left And.left
/-- one read of so many bytes that were written -/
theorem Mid.read {L : List Nat} {cut p : Nat} {e : Int} {r : ByteArray} (h : Mid L cut p e r) (hc : cut ≤ L.length) (bs : List Nat) (hb : bs <+: L.drop p) :
    Mid L cut (p + bs.length) (WireM.raw e r (bs.length : Nat)).2.1 (WireM.raw e r (bs.length : Nat)).2.2 ∧ ((WireM.raw e r (bs.length : Nat)).2.1 = 0 → nl (WireM.raw e r (bs.length : Nat)).1 = bs) := by
  rcases h with ⟨rfl, hp, hB⟩ | ⟨rfl, hl⟩
  · by_cases hle : p + bs.length ≤ cut
    · obtain ⟨h1, h2, h3⟩ := read_ok hB hc bs hb hle
      exact ⟨Or.inl ⟨h2, hle, h3⟩, fun _ => h1⟩
    · rw [read_no hB hc bs.length (by omega) hp]
      refine ⟨Or.inr ⟨rfl, ?_⟩, fun h => by revert h; simp⟩
      have := hb.length_le
      rw [List.length_drop] at this
      omega
  · rw [WireM.raw_stuck 6 r _ (by decide)]
    exact ⟨Or.inr ⟨rfl, hl⟩, fun h => by revert h; simp⟩
theorem Mid.stuck {L : List Nat} {cut p q : Nat} {e : Int} {r : ByteArray} (h : Mid L cut p e r) (he : e ≠ 0) (n : Int) : WireM.raw e r n = (⟨#[]⟩, e, r) ∧ Mid L cut q e r :=
  ⟨WireM.raw_stuck e r n he, by
    rcases h with ⟨rfl, _⟩ | h
    · exact absurd rfl he
    · exact Or.inr h⟩
/-- one call's bytes, and its error -/
def encOf (c : CallV) : List Nat := (putOne (0, []) c).2
def upTo (l : List CallV) (k : Nat) : Nat := (putAll (0, []) (l.take k)).2.length
theorem putAll_zero (l : List CallV) (k : Nat) (h : (putAll (0, []) l).1 = 0) : (putAll (0, []) (l.take k)).1 = 0 := by
  have h1 : putAll (0, []) l = putAll (putAll (0, []) (l.take k)) (l.drop k) := by
    unfold putAll; rw [← List.foldl_append, List.take_append_drop]
  rw [putAll_split (putAll (0, []) (l.take k))] at h1
  rw [h1] at h
  unfold keepE at h
  simp only at h
  by_cases hz : (putAll (0, []) (l.take k)).1 = 0
  · exact hz
  · rw [if_neg hz] at h; exact absurd h hz
theorem one_zero (l : List CallV) (k : Nat) (hk : k < l.length) (h : (putAll (0, []) l).1 = 0) : (putOne (0, []) l[k]).1 = 0 := by
  have h1 := putAll_zero l (k + 1) h
  have h0 := putAll_zero l k h
  rw [putAll_succ _ _ _ hk, putOne_split] at h1
  simp only [h0] at h1
  unfold keepE at h1
  rwa [if_pos rfl] at h1
theorem upTo_succ (l : List CallV) (k : Nat) (hk : k < l.length) : upTo l (k + 1) = upTo l k + (encOf l[k]).length := by
  unfold upTo encOf
  rw [putAll_succ _ _ _ hk, putOne_split, List.length_append]
theorem enc_prefix (l : List CallV) (k : Nat) (hk : k < l.length) : encOf l[k] <+: (putAll (0, []) l).2.drop (upTo l k) := by
  have h1 : putAll (0, []) l = putAll (putAll (0, []) (l.take k)) (l.drop k) := by
    unfold putAll; rw [← List.foldl_append, List.take_append_drop]
  rw [putAll_split (putAll (0, []) (l.take k))] at h1
  have h2 : (putAll (0, []) l).2 = (putAll (0, []) (l.take k)).2 ++ (putAll (0, []) (l.drop k)).2 := by rw [h1]
  rw [h2]
  unfold upTo
  rw [List.drop_left, List.drop_eq_getElem_cons hk]
  have h3 : putAll (0, []) (l[k] :: l.drop (k + 1)) = putAll (putOne (0, []) l[k]) (l.drop (k + 1)) := rfl
  rw [h3, putAll_split]
  exact List.prefix_append _ _
theorem upTo_zero (l : List CallV) : upTo l 0 = 0 := by unfold upTo; rw [List.take_zero]; rfl
theorem upTo_all (l : List CallV) : upTo l l.length = (putAll (0, []) l).2.length := by unfold upTo; rw [List.take_length]
theorem enc0 (c : CallV) (hk : c.kind = 0) (h : (putOne (0, []) c).1 = 0) : (0 ≤ c.k ∧ c.k ≤ 255) ∧ encOf c = [c.k.toNat] := by
  unfold encOf
  unfold putOne at *
  rw [if_pos hk] at *
  by_cases hb : c.k < 0 ∨ 255 < c.k
  · rw [if_pos hb] at h; exact absurd h (by decide)
  · rw [if_neg hb]; exact ⟨by omega, rfl⟩
theorem enc1 (c : CallV) (hk : c.kind = 1) : encOf c = num8 c.n.toNat := by
  unfold encOf putOne
  rw [if_neg (by omega), if_pos hk]; rfl
theorem enc2 (c : CallV) (hk : c.kind = 2) (h : (putOne (0, []) c).1 = 0) : c.s.size ≤ 65535 ∧ encOf c = hi2 c.s.size ++ nl c.s := by
  unfold encOf
  unfold putOne at *
  rw [if_neg (by omega), if_neg (by omega), if_pos hk] at *
  by_cases hb : 65535 < c.s.size
  · rw [if_pos hb] at h; exact absurd h (by decide)
  · rw [if_neg hb]; exact ⟨by omega, rfl⟩
theorem enc3 (c : CallV) (hk : c.kind = 3) : encOf c = nl c.s := by
  unfold encOf putOne
  rw [if_neg (by omega), if_neg (by omega), if_neg (by omega), if_pos hk]; rfl
theorem enc4 (c : CallV) (h0 : c.kind ≠ 0) (h1 : c.kind ≠ 1) (h2 : c.kind ≠ 2) (h3 : c.kind ≠ 3) : encOf c = [] := by
  unfold encOf
  rw [one_none _ _ h0 h1 h2 h3]
end Go.Proofs.Ytiokelnnimoljaa
