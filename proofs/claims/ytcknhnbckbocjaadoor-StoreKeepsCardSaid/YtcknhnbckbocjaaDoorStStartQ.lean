/- Both stores made; what the acts make of them. No condition. -/
import Derived.WalkSpells
import Derived.Outline
import Derived.Test.YtcknhnbckbocjaaDoorStDoAllQ
import Derived.Test.YtcknhnbckbocjaaDoorStActsQ
import Derived.Test.YtcknhnbckbocjaaDoorStAwakeQ
namespace Go.Proofs.YtcknhnbckbocjaaDoor
open Go.RowKit
set_option linter.unusedVariables false
/-- the document's store, made beside the program's -/
theorem Duo.start {W : Nat → Prop} {w w' : World} {O1 : Nat → Prop} {B1 B2 : Nat} {s1 s2 : StV} (h1 : StP w O1 B1 s1) (hO : ∀ k, O1 k → ¬ W k ∧ k < w.heap.size) (hW : FrW W w) (h2 : RefP w' (fun k => w.heap.size ≤ k ∧ k < w'.heap.size) B2 s2) (hb : Below w.heap.size w w') : Duo W w' B1 B2 s1 s2 :=
  ⟨O1, _, h1.keeps (keepsF (O := O1) hb) (fun _ _ h => h), h2, ⟨fun k hk => ⟨(hO k hk).1, Nat.lt_of_lt_of_le (hO k hk).2 hb.size⟩, fun k hk => ⟨fun hw => (by have := hW k hw; omega), hk.2⟩, fun k hk h => (by have := hO k hk; omega)⟩⟩
/-- the acts, one by one -/
def actsV : StV → List ActV → StV
  | s, [] => s
  | s, a :: l => actsV (actV s a.kd a.k a.v) l
theorem actsV_ok : ∀ (l : List ActV) (s : StV), StOk s → StOk (actsV s l)
  | [], s, h => h
  | a :: l, s, h => actsV_ok l _ (actV_ok h a.kd a.k a.v)
theorem actsV_snoc : ∀ (l : List ActV) (a : ActV) (s : StV), actsV s (l ++ [a]) = actV (actsV s l) a.kd a.k a.v
  | [], a, s => rfl
  | b :: l, a, s => actsV_snoc l a _
theorem actV_first (s : StV) (kd : Int) (k v : ByteArray) : (actV s kd k v).first = s.first := by
  unfold actV setV delV comV
  split <;> (try split) <;> (try split) <;> (try split) <;> (try split) <;> rfl
/-- how many keys, how many blocks: at most one more by an act -/
theorem actV_grow {s : StV} (hs : StOk s) (kd : Int) (k v : ByteArray) : (actV s kd k v).now.length ≤ s.now.length + 1 ∧ (actV s kd k v).blks.length ≤ s.blks.length + 1 ∧ s.blks.length ≤ (actV s kd k v).blks.length := by
  have h1 := len_ins s.now k v hs.now.2.1
  have h2 := len_del s.now k
  have h3 : (insP s.now k v).length ≤ s.now.length + 1 := by rw [h1]; split <;> omega
  have h4 : (delP s.now k).length ≤ s.now.length + 1 := by rw [h2]; split <;> omega
  unfold actV setV delV comV
  split
  · split
    · exact ⟨Nat.le_succ _, Nat.le_succ _, Nat.le_refl _⟩
    · split
      · exact ⟨Nat.le_succ _, Nat.le_succ _, Nat.le_refl _⟩
      · exact ⟨h3, by simp, by simp⟩
  · split
    · split
      · exact ⟨Nat.le_succ _, Nat.le_succ _, Nat.le_refl _⟩
      · exact ⟨h4, by simp, by simp⟩
    · split
      · split
        · exact ⟨Nat.le_succ _, Nat.le_succ _, Nat.le_refl _⟩
        · split
          · exact ⟨Nat.le_succ _, Nat.le_succ _, Nat.le_refl _⟩
          · exact ⟨by simp, by simp, by simp⟩
      · exact ⟨Nat.le_succ _, Nat.le_succ _, Nat.le_refl _⟩
end Go.Proofs.YtcknhnbckbocjaaDoor
