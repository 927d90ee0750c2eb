/- The program's head, as a list of signs: three closed facts that every row asks. No condition. -/
import Derived.Test.YtjilbcefikbihaaRows
import Derived.JoinedOf
import Derived.KernelRfl
namespace Go.Proofs.Ytjilbcefikbihaa
theorem head_strip (X : List (List Char)) : stripLifts liftWords ("cut".toList :: X) = ([], "cut".toList :: X) := by kernel_rfl
theorem head_liftsIs {P : Program} {X : List (List Char)} (h : behindMainWord (wordsSigns P.initOrder.toList) = "cut".toList :: X) : P.headLifts = [] := by
  unfold Program.headLifts
  rw [h, head_strip]
  kernel_rfl
theorem head_lifts_of {P : Program} {X : List (List Char)} (h : behindMainWord (wordsSigns P.initOrder.toList) = "cut".toList :: X) : P.liftsFinal = false := by
  unfold Program.liftsFinal
  rw [head_liftsIs h, h]
  kernel_rfl
theorem head_make_of {P : Program} {X : List (List Char)} (h : behindMainWord (wordsSigns P.initOrder.toList) = "cut".toList :: X) : P.make = some .cut := by
  unfold Program.make
  rw [h]
  kernel_rfl
theorem head_mayEnter_of {P : Program} {X : List (List Char)} (h : behindMainWord (wordsSigns P.initOrder.toList) = "cut".toList :: X) (h1 : P.laysLater = false) (h2 : P.bearsReflect = false) (h3 : P.doorFits [] = true) : P.mayEnter = true := by
  unfold Program.mayEnter
  rw [h]
  simp only [head_strip, h1, h2, h3]
  kernel_rfl
def headSigns : List Char := [Char.ofNat 104, Char.ofNat 97, Char.ofNat 114, Char.ofNat 110, Char.ofNat 101, Char.ofNat 115, Char.ofNat 115, Char.ofNat 32, Char.ofNat 102, Char.ofNat 100, Char.ofNat 102, Char.ofNat 100, Char.ofNat 102, Char.ofNat 52, Char.ofNat 48, Char.ofNat 55, Char.ofNat 50, Char.ofNat 55, Char.ofNat 98, Char.ofNat 100, Char.ofNat 54, Char.ofNat 57, Char.ofNat 101, Char.ofNat 53, Char.ofNat 51, Char.ofNat 57, Char.ofNat 97, Char.ofNat 56, Char.ofNat 99, Char.ofNat 53, Char.ofNat 100, Char.ofNat 56, Char.ofNat 101, Char.ofNat 48, Char.ofNat 99, Char.ofNat 101, Char.ofNat 50, Char.ofNat 99, Char.ofNat 100, Char.ofNat 97, Char.ofNat 101, Char.ofNat 49, Char.ofNat 102, Char.ofNat 57, Char.ofNat 98, Char.ofNat 98, Char.ofNat 99, Char.ofNat 49, Char.ofNat 53, Char.ofNat 54, Char.ofNat 101, Char.ofNat 51, Char.ofNat 99, Char.ofNat 52, Char.ofNat 97, Char.ofNat 53, Char.ofNat 98, Char.ofNat 49, Char.ofNat 97, Char.ofNat 52, Char.ofNat 52, Char.ofNat 56, Char.ofNat 53, Char.ofNat 99, Char.ofNat 97, Char.ofNat 101, Char.ofNat 48, Char.ofNat 57, Char.ofNat 102, Char.ofNat 97, Char.ofNat 99, Char.ofNat 56, Char.ofNat 32, Char.ofNat 99, Char.ofNat 117, Char.ofNat 116, Char.ofNat 32, Char.ofNat 97, Char.ofNat 116, Char.ofNat 32, Char.ofNat 99, Char.ofNat 97, Char.ofNat 114, Char.ofNat 114, Char.ofNat 97, Char.ofNat 99, Char.ofNat 107, Char.ofNat 47, Char.ofNat 99, Char.ofNat 97, Char.ofNat 114, Char.ofNat 114, Char.ofNat 97, Char.ofNat 99, Char.ofNat 107, Char.ofNat 108, Char.ofNat 97, Char.ofNat 119, Char.ofNat 50, Char.ofNat 51, Char.ofNat 46, Char.ofNat 83, Char.ofNat 99, Char.ofNat 114, Char.ofNat 105, Char.ofNat 112, Char.ofNat 116, Char.ofNat 80, Char.ofNat 117, Char.ofNat 116, Char.ofNat 115, Char.ofNat 32, Char.ofNat 99, Char.ofNat 97, Char.ofNat 114, Char.ofNat 114, Char.ofNat 97, Char.ofNat 99, Char.ofNat 107, Char.ofNat 47, Char.ofNat 99, Char.ofNat 97, Char.ofNat 114, Char.ofNat 114, Char.ofNat 97, Char.ofNat 99, Char.ofNat 107, Char.ofNat 108, Char.ofNat 97, Char.ofNat 119, Char.ofNat 50, Char.ofNat 51, Char.ofNat 46, Char.ofNat 83, Char.ofNat 99, Char.ofNat 114, Char.ofNat 105, Char.ofNat 112, Char.ofNat 116, Char.ofNat 82, Char.ofNat 101, Char.ofNat 97, Char.ofNat 100, Char.ofNat 115, Char.ofNat 32, Char.ofNat 99, Char.ofNat 97, Char.ofNat 114, Char.ofNat 114, Char.ofNat 97, Char.ofNat 99, Char.ofNat 107, Char.ofNat 47, Char.ofNat 99, Char.ofNat 97, Char.ofNat 114, Char.ofNat 114, Char.ofNat 97, Char.ofNat 99, Char.ofNat 107, Char.ofNat 108, Char.ofNat 97, Char.ofNat 119, Char.ofNat 50, Char.ofNat 51, Char.ofNat 46, Char.ofNat 83, Char.ofNat 99, Char.ofNat 114, Char.ofNat 105, Char.ofNat 112, Char.ofNat 116, Char.ofNat 66, Char.ofNat 97, Char.ofNat 99, Char.ofNat 107]
theorem head_eq : Try.pinned.checked.prog.initOrder = String.ofList headSigns := by kernel_rfl
theorem head_list : Try.pinned.checked.prog.initOrder.toList = headSigns := by rw [head_eq, String.toList_ofList]
theorem head_words0 : behindMainWord (wordsSigns headSigns) = "cut".toList :: (behindMainWord (wordsSigns headSigns)).tail := by kernel_rfl
theorem head_words : ∃ X, behindMainWord (wordsSigns Try.pinned.checked.prog.initOrder.toList) = "cut".toList :: X := ⟨_, by rw [head_list]; exact head_words0⟩
theorem head_later : Try.pinned.checked.prog.laysLater = false := by kernel_rfl
theorem head_reflect : Try.pinned.checked.prog.bearsReflect = false := by kernel_rfl
theorem head_door : Try.pinned.checked.prog.doorFits [] = true := by kernel_rfl
theorem head_lifts : Try.pinned.checked.prog.liftsFinal = false := head_words.elim fun _ h => head_lifts_of h
theorem head_make : Try.pinned.checked.prog.make = some .cut := head_words.elim fun _ h => head_make_of h
theorem head_mayEnter : Try.pinned.checked.prog.mayEnter = true := head_words.elim fun _ h => head_mayEnter_of h head_later head_reflect head_door
end Go.Proofs.Ytjilbcefikbihaa
