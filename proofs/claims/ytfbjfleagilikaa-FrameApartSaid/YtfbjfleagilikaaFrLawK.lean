/- What the walks of layer 5's laws share. No condition. -/
import Derived.WalkSpells
import Derived.Test.YtfbjfleagilikaaFrAwake
import Derived.Test.YtfbjfleagilikaaFrLaw2
import Derived.Test.YtfbjfleagilikaaFrRSplit
import Derived.Test.YtfbjfleagilikaaFrRefD
namespace Go.Proofs.Ytfbjfleagilikaa
open Go.RowKit
set_option linter.unusedVariables false
theorem u64_nat' {g : Int} (hg : (Lit.int .u64 g).wf = true) : ∃ n : Nat, g = (n : Int) ∧ n < M64 := by
  simp [Lit.wf, IntKind.min, IntKind.max, IntKind.signed, IntKind.bits] at hg
  exact ⟨g.toNat, by omega, by unfold M64; omega⟩
/-- a record's sectors, and what they tell -/
structure SecOk (a g x N : Nat) (s : ByteArray) (S : List ByteArray) : Prop where
  eq : S = secs a g x s
  len : S.length = N
  le : 1 ≤ N ∧ N ≤ 106
  num : N = nParts a s.size
  sz : ∀ t ∈ S, t.size = a
  rd : ∀ i (h : i < S.length), frRead a S[i] = (some ⟨g, x, i, N, pieceC (a - 25) s i⟩, 0)
theorem secOk (a g x : Nat) (s : ByteArray) (ha : 64 ≤ a) (h5 : a ≤ 512) (hs : s.size ≤ 4096) (hg : g < M64) (hx : x < M64) : SecOk a g x (nParts a s.size) s (secs a g x s) :=
  ⟨rfl, secs_len a g x s, nParts_le a s.size ha hs, rfl, sec_size a g x s ha hs, fun i h => by
    rw [secs_at]; exact read_sec a g x s i ha h5 hs hg hx (by rw [← secs_len a g x s]; exact h)⟩
theorem catL_take (l : List ByteArray) (k : Nat) (h : k < l.length) : catL (l.take k) ++ l[k] = catL (l.take (k + 1)) := by
  rw [List.take_succ_eq_append_getElem h, catL_append]
  congr 1
  apply nl_inj
  rw [catL, nl_append]
  simp [catL, nl]
theorem catL_take_size (a : Nat) (l : List ByteArray) (h : ∀ s ∈ l, s.size = a) (k : Nat) (hk : k ≤ l.length) : (catL (l.take k)).size = k * a := by
  rw [catL_size a _ (fun s hs => h s (List.mem_of_mem_take hs)), List.length_take]
  congr 1
  omega
theorem n_room (a b : Nat) (ha : 64 ≤ a) (h5 : a ≤ 512) (hb : b ≤ 4096) : nParts a b * a ≤ b + 3200 := by
  have h1 := nParts_le a b ha hb
  have h2 := nParts_in a b (nParts a b - 1) ha (by omega)
  have h3 : nParts a b * a = (nParts a b - 1) * (a - 25) + (a - 25) + nParts a b * 25 := by
    obtain ⟨r, hr⟩ : ∃ r, a = r + 25 := ⟨a - 25, by omega⟩
    obtain ⟨m, hm⟩ : ∃ m, nParts a b = m + 1 := ⟨nParts a b - 1, by omega⟩
    rw [hm, hr, Nat.add_sub_cancel, Nat.add_sub_cancel, Nat.mul_add, Nat.add_mul m 1 r, Nat.one_mul]
  omega
/-- a call of Split, opened -/
theorem split_open {a g x : Nat} {s : ByteArray} {w w' : World} {e : Ending} (ha : 64 ≤ a) (h5 : a ≤ 512) (hs : s.size ≤ 4096) (hg : g < M64) (hx : x < M64) (h : SplitPost a g x s w e w') :
    ∃ A cap, e = .returned (.tuple #[.slice A (nParts a s.size) cap, .int .i64 0]) ∧ StrsAt w' A (secs a g x s) ∧ Below w.heap.size w w' := by
  unfold SplitPost at h
  rw [frSplit_eq a g x s ha h5 hs] at h
  obtain ⟨v, rfl, hrow, hb⟩ := h
  obtain ⟨A, ca, rfl, hA⟩ := row_strs hrow
  exact ⟨A, ca, by rw [secs_len], hA, hb⟩
theorem scan_open {a : Int} {g : Nat} {s : ByteArray} {w w' : World} {e : Ending} {l : List ByteArray} {u : Nat} (hq : scanAll a g s = (l, u)) (h : ScanPost a g s w e w') :
    ∃ A cap, e = .returned (.tuple #[.slice A l.length cap, .int .i64 (u : Int)]) ∧ StrsAt w' A l ∧ Below w.heap.size w w' := by
  unfold ScanPost at h
  rw [hq] at h
  obtain ⟨v, rfl, hrow, hb⟩ := h
  obtain ⟨A, ca, rfl, hA⟩ := row_strs hrow
  exact ⟨A, ca, rfl, hA, hb⟩
end Go.Proofs.Ytfbjfleagilikaa
