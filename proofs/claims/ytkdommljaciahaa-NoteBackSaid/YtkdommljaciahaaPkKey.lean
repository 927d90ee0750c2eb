/- Contracts of packet's keys. No condition. -/
import Derived.WalkSpells
import Derived.Outline
import Derived.Test.YtkdommljaciahaaWrNew
import Derived.Test.YtkdommljaciahaaRefNum
namespace Go.Proofs.Ytkdommljaciahaa
open Go.RowKit
set_option linter.unusedVariables false
/-- a key: a letter, a number -/
def keyT (c n : Nat) : ByteArray := txt (c :: num8 n)
theorem keyT_size (c n : Nat) : (keyT c n).size = 9 := by unfold keyT; rw [txt_size]; rfl
theorem num8_lt (n : Nat) : ∀ b ∈ num8 n, b < 256 := by rw [← be8]; exact be_lt n 8
theorem keyT_nl (c n : Nat) (hc : c < 256) : nl (keyT c n) = c :: num8 n :=
  nl_txt _ (by intro b hb; rcases List.mem_cons.1 hb with rfl | h; exact hc; exact num8_lt n b h)
theorem WrMid.fresh_own {w wr : World} {base B : Nat} {v : Value} {e : Int} {l : List Nat} (h : WrMid w base B (.slice none 0 0) e v l wr) : True := trivial
/-- packet.Sent, Received, Answered -/
theorem one_num (w : World) (n : Nat) : (w.alloc (.cells #[.int .u64 (n : Int)] 24)).cell? ⟨w.heap.size, 0, none⟩ = some (.int .u64 (n : Int)) := by simp
end Go.Proofs.Ytkdommljaciahaa
