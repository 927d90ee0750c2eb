/- Contract of carracklaw01.join. Condition: sizes. -/
import Derived.WalkSpells
import Derived.Outline
import Derived.Test.YtkidmdifmkgofaaDoorChecked
import Derived.Test.YtkidmdifmkgofaaDoorTxt
import Derived.Test.YtkidmdifmkgofaaDoorShTurn
namespace Go.Proofs.YtkidmdifmkgofaaDoor
open Go.RowKit
set_option linter.unusedVariables false
/-- texts, one behind the other -/
def cat (l : List ByteArray) : ByteArray := l.foldl (· ++ ·) ⟨#[]⟩
theorem cat_snoc (l : List ByteArray) (s : ByteArray) : cat (l ++ [s]) = cat l ++ s := by simp [cat]
/-- texts at an address -/
def PartsAt (w : World) (A : Option Addr) (l : List ByteArray) : Prop := ∀ i (h : i < l.length), ∃ g o, A = some ⟨g, o, none⟩ ∧ g < w.heap.size ∧ w.cell? ⟨g, o + i, none⟩ = some (.string l[i])
theorem PartsAt.below {w w' : World} {A : Option Addr} {l : List ByteArray} (h : PartsAt w A l) (hb : Below w.heap.size w w') : PartsAt w' A l := fun i hi => by
  obtain ⟨g, o, e, hg, hc⟩ := h i hi
  exact ⟨g, o, e, Nat.lt_of_lt_of_le hg hb.size, (hb.cell (p := ⟨g, o + i, none⟩) hg).trans hc⟩
set_option maxRecDepth 100000 in
set_option maxHeartbeats 1000000 in
theorem sh_join (A : Option Addr) (c : Nat) (l : List ByteArray) (w : World) (ha : PartsAt w A l) (hn : l.length ≤ 1000000) (hsz : ∀ k, k ≤ l.length → (cat (l.take k)).size ≤ 1000000) :
    Calls Tryd.prog 12 #[.slice A l.length c] w fun e w' => e = .returned (.string (cat l)) ∧ w' = w := by
  have HA := Lib.hid (And.intro ha hsz)
  clear ha hsz
  go_enter Tryd.func12, Tryd.ntmps12
  go_wp2
  go_loopw [3, 4] (fun o i wr => ∃ k : Nat, k ≤ l.length ∧ i = .int .i64 (k : Int) ∧ o = .string (cat (l.take k)) ∧ wr = w) (fun o i _ => l.length - (intOf i).toNat)
  case atStart => exact ⟨0, Nat.zero_le _, rfl, rfl, rfl⟩
  case round =>
    obtain ⟨k, hk, rfl, rfl, rfl⟩ := hrel
    by_cases hlt : k < l.length
    · have l1 : (k : Int) < (l.length : Int) := by omega
      obtain ⟨g, o, rfl, hg, hc⟩ := HA.out.1 k hlt
      have h1 := HA.out.2 (k + 1) (by omega)
      have ht : l.take (k + 1) = l.take k ++ [l[k]] := List.take_succ_eq_append_getElem hlt
      rw [ht, cat_snoc, ByteArray.size_append] at h1
      have HT : Hid (cat (l.take (k + 1)) = cat (l.take k) ++ l[k]) := Lib.hid (by rw [ht, cat_snoc])
      generalize cat (l.take k) = T at *
      generalize l[k] = s at *
      have l2 : ¬ 9223372036854775807 < T.size + s.size := by omega
      clear ht hg h1
      go_wp2
      go_roundw
      case rel => exact ⟨k + 1, by omega, by go_num, by rw [HT.out], trivial⟩
      case measure => simp [intOf]; omega
    · obtain rfl : k = l.length := by omega
      have ht : l.take l.length = l := List.take_length
      go_wp2
      go_ret
      exact ⟨by rw [ht]; rfl, rfl⟩
end Go.Proofs.YtkidmdifmkgofaaDoor
