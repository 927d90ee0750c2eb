/- The fields' closures. No condition. -/
import Derived.Test.YtjilbcefikbihaaScFQ
namespace Go.Proofs.Ytjilbcefikbihaa
open Go.RowKit
set_option linter.unusedVariables false
theorem fiC : FieldIs (.func (.func 42) #[] #[]) 1 := ⟨_, ⟨rfl, enter_fnS Try.func42 (by kernel_rfl) rfl⟩, fun A w => by
  go_enter Try.func42, Try.ntmps42
  go_wp2
  go_ret
  exact ⟨rfl, rfl⟩⟩
theorem leC : LensI 1 SaV.c (fun a x => { a with c := x }) := ⟨fun _ _ _ => rfl, fun _ _ _ _ => rfl, fun _ _ => rfl⟩
theorem fiN : FieldIs (.func (.func 43) #[] #[]) 4 := ⟨_, ⟨rfl, enter_fnS Try.func43 (by kernel_rfl) rfl⟩, fun A w => by
  go_enter Try.func43, Try.ntmps43
  go_wp2
  go_ret
  exact ⟨rfl, rfl⟩⟩
theorem leN : LensI 4 SaV.n (fun a x => { a with n := x }) := ⟨fun _ _ _ => rfl, fun _ _ _ _ => rfl, fun _ _ => rfl⟩
theorem fiT : FieldIs (.func (.func 46) #[] #[]) 2 := ⟨_, ⟨rfl, enter_fnS Try.func46 (by kernel_rfl) rfl⟩, fun A w => by
  go_enter Try.func46, Try.ntmps46
  go_wp2
  go_ret
  exact ⟨rfl, rfl⟩⟩
theorem leT : LensU 2 SaV.t (fun a x => { a with t := x }) := ⟨fun _ _ _ => rfl, fun _ _ _ _ => rfl, fun _ _ => rfl⟩
theorem fiD : FieldIs (.func (.func 48) #[] #[]) 3 := ⟨_, ⟨rfl, enter_fnS Try.func48 (by kernel_rfl) rfl⟩, fun A w => by
  go_enter Try.func48, Try.ntmps48
  go_wp2
  go_ret
  exact ⟨rfl, rfl⟩⟩
theorem leD : LensT 3 SaV.d (fun a x => { a with d := x }) := ⟨fun _ _ _ => rfl, fun _ _ _ _ => rfl, fun _ _ => rfl⟩
theorem fiMk : FieldIs (.func (.func 73) #[] #[]) 5 := ⟨_, ⟨rfl, enter_fnS Try.func73 (by kernel_rfl) rfl⟩, fun A w => by
  go_enter Try.func73, Try.ntmps73
  go_wp2
  go_ret
  exact ⟨rfl, rfl⟩⟩
theorem leMk : LensI 5 SaV.mk (fun a x => { a with mk := x }) := ⟨fun _ _ _ => rfl, fun _ _ _ _ => rfl, fun _ _ => rfl⟩
theorem fiMt : FieldIs (.func (.func 74) #[] #[]) 6 := ⟨_, ⟨rfl, enter_fnS Try.func74 (by kernel_rfl) rfl⟩, fun A w => by
  go_enter Try.func74, Try.ntmps74
  go_wp2
  go_ret
  exact ⟨rfl, rfl⟩⟩
theorem leMt : LensI 6 SaV.mt (fun a x => { a with mt := x }) := ⟨fun _ _ _ => rfl, fun _ _ _ _ => rfl, fun _ _ => rfl⟩
theorem fiMh : FieldIs (.func (.func 75) #[] #[]) 7 := ⟨_, ⟨rfl, enter_fnS Try.func75 (by kernel_rfl) rfl⟩, fun A w => by
  go_enter Try.func75, Try.ntmps75
  go_wp2
  go_ret
  exact ⟨rfl, rfl⟩⟩
theorem leMh : LensU 7 SaV.mh (fun a x => { a with mh := x }) := ⟨fun _ _ _ => rfl, fun _ _ _ _ => rfl, fun _ _ => rfl⟩
theorem fiPf : FieldIs (.func (.func 76) #[] #[]) 8 := ⟨_, ⟨rfl, enter_fnS Try.func76 (by kernel_rfl) rfl⟩, fun A w => by
  go_enter Try.func76, Try.ntmps76
  go_wp2
  go_ret
  exact ⟨rfl, rfl⟩⟩
theorem lePf : LensI 8 SaV.pf (fun a x => { a with pf := x }) := ⟨fun _ _ _ => rfl, fun _ _ _ _ => rfl, fun _ _ => rfl⟩
theorem fiPq : FieldIs (.func (.func 77) #[] #[]) 9 := ⟨_, ⟨rfl, enter_fnS Try.func77 (by kernel_rfl) rfl⟩, fun A w => by
  go_enter Try.func77, Try.ntmps77
  go_wp2
  go_ret
  exact ⟨rfl, rfl⟩⟩
theorem lePq : LensU 9 SaV.pq (fun a x => { a with pq := x }) := ⟨fun _ _ _ => rfl, fun _ _ _ _ => rfl, fun _ _ => rfl⟩
theorem fiPt : FieldIs (.func (.func 78) #[] #[]) 10 := ⟨_, ⟨rfl, enter_fnS Try.func78 (by kernel_rfl) rfl⟩, fun A w => by
  go_enter Try.func78, Try.ntmps78
  go_wp2
  go_ret
  exact ⟨rfl, rfl⟩⟩
theorem lePt : LensU 10 SaV.pt (fun a x => { a with pt := x }) := ⟨fun _ _ _ => rfl, fun _ _ _ _ => rfl, fun _ _ => rfl⟩
theorem fiPd : FieldIs (.func (.func 79) #[] #[]) 11 := ⟨_, ⟨rfl, enter_fnS Try.func79 (by kernel_rfl) rfl⟩, fun A w => by
  go_enter Try.func79, Try.ntmps79
  go_wp2
  go_ret
  exact ⟨rfl, rfl⟩⟩
theorem lePd : LensT 11 SaV.pd (fun a x => { a with pd := x }) := ⟨fun _ _ _ => rfl, fun _ _ _ _ => rfl, fun _ _ => rfl⟩
theorem fiMp : FieldIs (.func (.func 80) #[] #[]) 12 := ⟨_, ⟨rfl, enter_fnS Try.func80 (by kernel_rfl) rfl⟩, fun A w => by
  go_enter Try.func80, Try.ntmps80
  go_wp2
  go_ret
  exact ⟨rfl, rfl⟩⟩
theorem leMp : LensT 12 SaV.mp (fun a x => { a with mp := x }) := ⟨fun _ _ _ => rfl, fun _ _ _ _ => rfl, fun _ _ => rfl⟩
end Go.Proofs.Ytjilbcefikbihaa
