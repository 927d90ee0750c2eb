/- Merged: StDuo, StDuoX, StDo, StDo2, StDoAll. Both stores side by side, at one value. No condition. Both stores side by side, and a block beside them. No condition. carracklaw11's do: both stores take an act. Condition: sizes. carracklaw11's do at Set and Delete. Condition: sizes. carracklaw11's do, whatever the act. Condition: sizes. -/
import Derived.WalkSpells
import Derived.Outline
import Derived.Test.YtcknhnbckbocjaaDoorStComQ
import Derived.Test.YtcknhnbckbocjaaDoorStAtQ
import Derived.Test.YtcknhnbckbocjaaDoorStRDelQ
import Derived.Test.YtcknhnbckbocjaaDoorStRNewQ
import Derived.Test.YtcknhnbckbocjaaDoorStRRootQ
import Derived.Deep.RegionHeld
import Derived.Deep.QuietTactic
import Derived.BigQuiet
import Derived.Test.YtcknhnbckbocjaaDoorHeldLastQ
namespace Go.Proofs.YtcknhnbckbocjaaDoor
open Go.RowKit
set_option linter.unusedVariables false
/-- the blocks W are there -/
def FrW (W : Nat → Prop) (w : World) : Prop := ∀ k, W k → k < w.heap.size
theorem FrW.later {W : Nat → Prop} {w w' : World} (h : FrW W w) (hs : w.heap.size ≤ w'.heap.size) : FrW W w' := fun k hk => Nat.lt_of_lt_of_le (h k hk) hs
/-- the blocks W stay as they are -/
def Fb (W : Nat → Prop) (w w' : World) : Prop := Kq.Keeps (fun k => ¬ W k) w w'
theorem Fb.of {W : Nat → Prop} {w w' : World} (hb : Below w.heap.size w w') (h : FrW W w) : Fb W w w' := Kq.Keeps.of_below hb (fun k h1 h2 => absurd h2 (Nat.not_lt.2 h1))
theorem Fb.tr {W : Nat → Prop} {a b c : World} (h : Fb W a b) (g : Fb W b c) : Fb W a c := Kq.Keeps.trans h g
theorem Fb.sz {W : Nat → Prop} {w w' : World} (h : Fb W w w') : w.heap.size ≤ w'.heap.size := Kq.Keeps.size h
/-- two footprints, apart, beside the blocks W -/
structure Two (W : Nat → Prop) (w : World) (O1 O2 : Nat → Prop) : Prop where
  a : ∀ k, O1 k → ¬ W k ∧ k < w.heap.size
  b : ∀ k, O2 k → ¬ W k ∧ k < w.heap.size
  ne : ∀ k, O1 k → ¬ O2 k
/-- the program's store at s1, the document's at s2 -/
def Duo (W : Nat → Prop) (w : World) (B1 B2 : Nat) (s1 s2 : StV) : Prop := ∃ O1 O2, StP w O1 B1 s1 ∧ RefP w O2 B2 s2 ∧ Two W w O1 O2
section
variable {W : Nat → Prop} {w w' : World} {O1 O2 : Nat → Prop} {B1 B2 : Nat} {s1 s2 s' : StV}
theorem StP.keeps {S : Nat → Prop} (h : StP w O1 B1 s1) (hk : Kq.Keeps S w w') (hS : ∀ k, O1 k → ¬ S k) : StP w' O1 B1 s1 := by
  obtain ⟨Mn, sh, A, q, cap, Ms, h⟩ := h
  exact ⟨Mn, sh, A, q, cap, Ms, h.keeps hk hS⟩
theorem Two.stepA (h : Two W w O1 O2) (hW : FrW W w) (hs : w.heap.size ≤ w'.heap.size) : Two W w' (Ext O1 w w') O2 := by
  refine ⟨fun k hk => ?_, fun k hk => ?_, fun k hk h2 => ?_⟩
  · rcases hk with hk | hk
    · have := h.a k hk; exact ⟨this.1, by omega⟩
    · exact ⟨fun hw => (by have := hW k hw; omega), hk.2⟩
  · have := h.b k hk; exact ⟨this.1, by omega⟩
  · rcases hk with hk | hk
    · exact h.ne k hk h2
    · have := h.b k h2; omega
theorem Two.stepB (h : Two W w O1 O2) (hW : FrW W w) (hs : w.heap.size ≤ w'.heap.size) : Two W w' O1 (Ext O2 w w') := by
  refine ⟨fun k hk => ?_, fun k hk => ?_, fun k hk h2 => ?_⟩
  · have := h.a k hk; exact ⟨this.1, by omega⟩
  · rcases hk with hk | hk
    · have := h.b k hk; exact ⟨this.1, by omega⟩
    · exact ⟨fun hw => (by have := hW k hw; omega), hk.2⟩
  · rcases h2 with h2 | h2
    · exact h.ne k hk h2
    · have := h.a k hk; omega
/-- a call of the program's store -/
theorem Duo.stepA {r : Value} {x : Ending} (h1 : RefP w O2 B2 s2) (ht : Two W w O1 O2) (hW : FrW W w) (hs : StepP w O1 B1 r s' x w') : Duo W w' B1 B2 s' s2 ∧ x = .returned r ∧ Fb W w w' :=
  ⟨⟨_, _, hs.2.1, h1.keeps hs.2.2 (fun k h2 h3 => ht.ne k h3 h2), ht.stepA hW hs.2.2.size⟩, hs.1, hs.2.2.mono (fun k _ hk => (ht.a k hk).1)⟩
/-- a call of the document's store -/
theorem Duo.stepB {r : Value} {x : Ending} (h1 : StP w O1 B1 s1) (ht : Two W w O1 O2) (hW : FrW W w) (hs : RefStep w O2 B2 r s' x w') : Duo W w' B1 B2 s1 s' ∧ x = .returned r ∧ Fb W w w' :=
  ⟨⟨_, _, h1.keeps hs.2.2 (fun k h2 h3 => ht.ne k h2 h3), hs.2.1, ht.stepB hW hs.2.2.size⟩, hs.1, hs.2.2.mono (fun k _ hk => (ht.b k hk).1)⟩
theorem Duo.below (h : Duo W w B1 B2 s1 s2) (hb : Below w.heap.size w w') : Duo W w' B1 B2 s1 s2 := by
  obtain ⟨O1, O2, h1, h2, ht⟩ := h
  exact ⟨O1, O2, h1.keeps (keepsF (O := O1) hb) (fun _ _ h => h), h2.below hb, ⟨fun k hk => ⟨(ht.a k hk).1, Nat.lt_of_lt_of_le (ht.a k hk).2 hb.size⟩, fun k hk => ⟨(ht.b k hk).1, Nat.lt_of_lt_of_le (ht.b k hk).2 hb.size⟩, ht.ne⟩⟩
end
section
variable {W : Nat → Prop} {w : World} {B1 B2 : Nat} {s1 s2 : StV}
theorem du_set (h : Duo W w B1 B2 s1 s2) (hW : FrW W w) (h1 : StOk s1) (k v : ByteArray) (hk : k.size ≤ 300) (hv : v.size ≤ 300) : Calls Tryd.prog 27 #[.pointer (some ⟨B1, 0, none⟩), .string k, .string v] w fun x w' => Duo W w' B1 B2 (setV s1 k v).1 s2 ∧ x = .returned (.int .i64 (setV s1 k v).2) ∧ Fb W w w' := by
  obtain ⟨O1, O2, ha, hb, ht⟩ := h
  exact (st_set w O1 B1 s1 k v hk hv ha h1).mono (fun x w' hs => Duo.stepA hb ht hW hs)
theorem du_del (h : Duo W w B1 B2 s1 s2) (hW : FrW W w) (h1 : StOk s1) (k : ByteArray) (hk : k.size ≤ 300) : Calls Tryd.prog 28 #[.pointer (some ⟨B1, 0, none⟩), .string k] w fun x w' => Duo W w' B1 B2 (delV s1 k).1 s2 ∧ x = .returned (.int .i64 (delV s1 k).2) ∧ Fb W w w' := by
  obtain ⟨O1, O2, ha, hb, ht⟩ := h
  exact (st_del w O1 B1 s1 k hk ha h1).mono (fun x w' hs => Duo.stepA hb ht hW hs)
theorem du_com (h : Duo W w B1 B2 s1 s2) (hW : FrW W w) (h1 : StOk s1) : Calls Tryd.prog 29 #[.pointer (some ⟨B1, 0, none⟩)] w fun x w' => Duo W w' B1 B2 (comV s1).1 s2 ∧ x = .returned (comR s1) ∧ Fb W w w' := by
  obtain ⟨O1, O2, ha, hb, ht⟩ := h
  exact (st_com w O1 B1 s1 ha h1).mono (fun x w' hs => Duo.stepA hb ht hW hs)
theorem dr_set (h : Duo W w B1 B2 s1 s2) (hW : FrW W w) (h2 : StOk s2) (k v : ByteArray) : Calls Tryd.prog 30 #[.pointer (some ⟨B2, 0, none⟩), .string k, .string v] w fun x w' => Duo W w' B1 B2 s1 (setV s2 k v).1 ∧ x = .returned (.int .i64 (setV s2 k v).2) ∧ Fb W w w' := by
  obtain ⟨O1, O2, ha, hb, ht⟩ := h
  exact (sr_set w O2 B2 s2 k v hb h2 (fun k hk => (ht.b k hk).2)).mono (fun x w' hs => Duo.stepB ha ht hW hs)
theorem dr_del (h : Duo W w B1 B2 s1 s2) (hW : FrW W w) (h2 : StOk s2) (k : ByteArray) : Calls Tryd.prog 31 #[.pointer (some ⟨B2, 0, none⟩), .string k] w fun x w' => Duo W w' B1 B2 s1 (delV s2 k).1 ∧ x = .returned (.int .i64 (delV s2 k).2) ∧ Fb W w w' := by
  obtain ⟨O1, O2, ha, hb, ht⟩ := h
  exact (sr_del w O2 B2 s2 k hb h2 (fun k hk => (ht.b k hk).2)).mono (fun x w' hs => Duo.stepB ha ht hW hs)
theorem dr_com (h : Duo W w B1 B2 s1 s2) (hW : FrW W w) (h2 : StOk s2) : Calls Tryd.prog 32 #[.pointer (some ⟨B2, 0, none⟩)] w fun x w' => Duo W w' B1 B2 s1 (comV s2).1 ∧ x = .returned (comR s2) ∧ Fb W w w' := by
  obtain ⟨O1, O2, ha, hb, ht⟩ := h
  exact (sr_com w O2 B2 s2 hb h2 (fun k hk => (ht.b k hk).2)).mono (fun x w' hs => Duo.stepB ha ht hW hs)
end
end Go.Proofs.YtcknhnbckbocjaaDoor
namespace Go.Proofs.YtcknhnbckbocjaaDoor
open Go.RowKit
set_option linter.unusedVariables false
def DuoX (W : Nat → Prop) (w : World) (B1 B2 : Nat) (s1 s2 : StV) (X : Nat) (ob : Obj) : Prop := ∃ O1 O2, StP w O1 B1 s1 ∧ RefP w O2 B2 s2 ∧ Two W w O1 O2 ∧ X < w.heap.size ∧ ¬ O1 X ∧ ¬ O2 X ∧ w.heap[X]? = some ob
section
variable {W : Nat → Prop} {w w' : World} {O1 O2 : Nat → Prop} {B1 B2 : Nat} {s1 s2 s' : StV} {X : Nat} {ob : Obj}
theorem Duo.box (h : Duo W w B1 B2 s1 s2) (cs : Array Value) (t : TypeId) : DuoX W (w.alloc (.cells cs t)) B1 B2 s1 s2 w.heap.size (.cells cs t (0, 0)) := by
  obtain ⟨O1, O2, h1, h2, ht⟩ := h
  have hb := Kq.below_alloc w (.cells cs t)
  have hsz : (w.alloc (.cells cs t)).heap.size = w.heap.size + 1 := by simp
  exact ⟨O1, O2, h1.keeps (keepsF (O := O1) hb) (fun _ _ h => h), h2.below hb, ⟨fun k hk => ⟨(ht.a k hk).1, by have := ht.a k hk; omega⟩, fun k hk => ⟨(ht.b k hk).1, by have := ht.b k hk; omega⟩, ht.ne⟩, by omega, fun h => (by have := ht.a _ h; omega), fun h => (by have := ht.b _ h; omega), Kq.blk_new w cs t (0, 0)⟩
theorem DuoX.duo (h : DuoX W w B1 B2 s1 s2 X ob) : Duo W w B1 B2 s1 s2 := by
  obtain ⟨O1, O2, h1, h2, ht, _⟩ := h
  exact ⟨O1, O2, h1, h2, ht⟩
theorem DuoX.obj (h : DuoX W w B1 B2 s1 s2 X ob) : w.heap[X]? = some ob := by
  obtain ⟨O1, O2, h1, h2, ht, _, _, _, h3⟩ := h
  exact h3
theorem DuoX.below (h : DuoX W w B1 B2 s1 s2 X ob) (hb : Below w.heap.size w w') : DuoX W w' B1 B2 s1 s2 X ob := by
  obtain ⟨O1, O2, h1, h2, ht, hx, n1, n2, ho⟩ := h
  have hk : Kq.Keeps (fun _ => False) w w' := keepsF (O := O1) hb
  have hs := hb.size
  exact ⟨O1, O2, h1.keeps hk (fun _ _ h => h), h2.below hb, ⟨fun k hk => ⟨(ht.a k hk).1, by have := ht.a k hk; omega⟩, fun k hk => ⟨(ht.b k hk).1, by have := ht.b k hk; omega⟩, ht.ne⟩, by omega, n1, n2, hk.blk ho id⟩
theorem DuoX.stepA (hx : X < w.heap.size) (n1 : ¬ O1 X) (n2 : ¬ O2 X) (ho : w.heap[X]? = some ob) {r : Value} {x : Ending} (h1 : RefP w O2 B2 s2) (ht : Two W w O1 O2) (hW : FrW W w) (hs : StepP w O1 B1 r s' x w') : DuoX W w' B1 B2 s' s2 X ob ∧ x = .returned r ∧ Fb W w w' :=
  ⟨⟨_, _, hs.2.1, h1.keeps hs.2.2 (fun k h2 h3 => ht.ne k h3 h2), ht.stepA hW hs.2.2.size, Nat.lt_of_lt_of_le hx hs.2.2.size, fun h => h.elim n1 (fun h => absurd hx (Nat.not_lt.2 h.1)), n2, hs.2.2.blk ho n1⟩, hs.1, hs.2.2.mono (fun k _ hk => (ht.a k hk).1)⟩
theorem DuoX.stepB (hx : X < w.heap.size) (n1 : ¬ O1 X) (n2 : ¬ O2 X) (ho : w.heap[X]? = some ob) {r : Value} {x : Ending} (h1 : StP w O1 B1 s1) (ht : Two W w O1 O2) (hW : FrW W w) (hs : RefStep w O2 B2 r s' x w') : DuoX W w' B1 B2 s1 s' X ob ∧ x = .returned r ∧ Fb W w w' :=
  ⟨⟨_, _, h1.keeps hs.2.2 (fun k h2 h3 => ht.ne k h2 h3), hs.2.1, ht.stepB hW hs.2.2.size, Nat.lt_of_lt_of_le hx hs.2.2.size, n1, fun h => h.elim n2 (fun h => absurd hx (Nat.not_lt.2 h.1)), hs.2.2.blk ho n2⟩, hs.1, hs.2.2.mono (fun k _ hk => (ht.b k hk).1)⟩
theorem dx_set (h : DuoX W w B1 B2 s1 s2 X ob) (hW : FrW W w) (h1 : StOk s1) (k v : ByteArray) (hk : k.size ≤ 300) (hv : v.size ≤ 300) : Calls Tryd.prog 27 #[.pointer (some ⟨B1, 0, none⟩), .string k, .string v] w fun x w' => DuoX W w' B1 B2 (setV s1 k v).1 s2 X ob ∧ x = .returned (.int .i64 (setV s1 k v).2) ∧ Fb W w w' := by
  obtain ⟨O1, O2, ha, hb, ht, hx, n1, n2, ho⟩ := h
  exact (st_set w O1 B1 s1 k v hk hv ha h1).mono (fun x w' hs => DuoX.stepA hx n1 n2 ho hb ht hW hs)
theorem dx_del (h : DuoX W w B1 B2 s1 s2 X ob) (hW : FrW W w) (h1 : StOk s1) (k : ByteArray) (hk : k.size ≤ 300) : Calls Tryd.prog 28 #[.pointer (some ⟨B1, 0, none⟩), .string k] w fun x w' => DuoX W w' B1 B2 (delV s1 k).1 s2 X ob ∧ x = .returned (.int .i64 (delV s1 k).2) ∧ Fb W w w' := by
  obtain ⟨O1, O2, ha, hb, ht, hx, n1, n2, ho⟩ := h
  exact (st_del w O1 B1 s1 k hk ha h1).mono (fun x w' hs => DuoX.stepA hx n1 n2 ho hb ht hW hs)
theorem dy_set (h : DuoX W w B1 B2 s1 s2 X ob) (hW : FrW W w) (h2 : StOk s2) (k v : ByteArray) : Calls Tryd.prog 30 #[.pointer (some ⟨B2, 0, none⟩), .string k, .string v] w fun x w' => DuoX W w' B1 B2 s1 (setV s2 k v).1 X ob ∧ x = .returned (.int .i64 (setV s2 k v).2) ∧ Fb W w w' := by
  obtain ⟨O1, O2, ha, hb, ht, hx, n1, n2, ho⟩ := h
  exact (sr_set w O2 B2 s2 k v hb h2 (fun k hk => (ht.b k hk).2)).mono (fun x w' hs => DuoX.stepB hx n1 n2 ho ha ht hW hs)
theorem dy_del (h : DuoX W w B1 B2 s1 s2 X ob) (hW : FrW W w) (h2 : StOk s2) (k : ByteArray) : Calls Tryd.prog 31 #[.pointer (some ⟨B2, 0, none⟩), .string k] w fun x w' => DuoX W w' B1 B2 s1 (delV s2 k).1 X ob ∧ x = .returned (.int .i64 (delV s2 k).2) ∧ Fb W w w' := by
  obtain ⟨O1, O2, ha, hb, ht, hx, n1, n2, ho⟩ := h
  exact (sr_del w O2 B2 s2 k hb h2 (fun k hk => (ht.b k hk).2)).mono (fun x w' hs => DuoX.stepB hx n1 n2 ho ha ht hW hs)
end
/-- what an act makes of a store -/
def actV (s : StV) (kd : Int) (k v : ByteArray) : StV := if kd = 0 then (setV s k v).1 else if kd = 1 then (delV s k).1 else if kd = 2 then (comV s).1 else s
theorem actV_ok {s : StV} (h : StOk s) (kd : Int) (k v : ByteArray) : StOk (actV s kd k v) := by
  unfold actV
  by_cases h0 : kd = 0
  · rw [if_pos h0]; exact setV_ok h k v
  · rw [if_neg h0]
    by_cases h1 : kd = 1
    · rw [if_pos h1]; exact delV_ok h k
    · rw [if_neg h1]
      by_cases h2 : kd = 2
      · rw [if_pos h2]; exact comV_ok h
      · rw [if_neg h2]; exact h
end Go.Proofs.YtcknhnbckbocjaaDoor
namespace Go.Proofs.YtcknhnbckbocjaaDoor
open Go.RowKit
set_option linter.unusedVariables false
def AcB (w : World) (X : Nat) (k v : ByteArray) : Prop := w.cell? ⟨X, 1, none⟩ = some (.string k) ∧ w.cell? ⟨X, 2, none⟩ = some (.string v)
set_option maxRecDepth 100000 in
set_option maxHeartbeats 2000000 in
theorem st_do2 (W : Nat → Prop) (w : World) (B1 B2 : Nat) (s : StV) (h : Duo W w B1 B2 s s) (hW : FrW W w) (hs : StOk s) (k v : ByteArray) :
    Calls Tryd.prog 12 #[.pointer (some ⟨B1, 0, none⟩), .pointer (some ⟨B2, 0, none⟩), .agg #[.int .i64 2, .string k, .string v]] w fun x w' => x = .returned (.bool true) ∧ Duo W w' B1 B2 (actV s 2 k v) (actV s 2 k v) ∧ Fb W w w' := by
  have HX := Lib.hid (h.box #[.int .i64 2, .string k, .string v] 32)
  have hb := Kq.below_alloc w (.cells #[.int .i64 2, .string k, .string v] 32)
  have HB := Lib.hid (Fb.of hb hW)
  have hWX : FrW W (w.alloc (.cells #[.int .i64 2, .string k, .string v] 32)) := hW.later hb.size
  have c0 := Kq.blk_cell HX.out.obj 0
  have HA1 := Lib.hid (du_com HX.out.duo hWX hs)
  have HB1 := Lib.hid (fun w' (hx : Duo W w' B1 B2 (comV s).1 s) (hw : FrW W w') => dr_com hx hw hs)
  have HV : Hid (actV s 2 k v = (comV s).1) := Lib.hid rfl
  obtain ⟨⟨s', n, e⟩, hr⟩ : ∃ r, r = comV s := ⟨_, rfl⟩
  have hcr : comR s = .tuple #[.int .u64 (n : Int), .int .i64 e] := by unfold comR; rw [← hr]
  rw [hcr] at HA1 HB1
  rw [← hr] at HA1 HB1 HV
  have e8 : ((n : Int) == (n : Int)) = true := by simp
  have e9 : (e == e) = true := by simp
  have HWW := Lib.hid hWX
  clear hr hs hW hWX hb hcr h
  go_enter Tryd.func12, Tryd.ntmps12
  go_wp2_with fail
  refine HA1.out.mono ?_
  rintro x w1 ⟨hd, rfl, hb1⟩
  have H1 := Lib.hid (And.intro hd hb1)
  clear hd hb1 HA1 c0
  go_wp2_with fail
  refine (HB1.out w1 H1.out.1 (HWW.out.later H1.out.2.sz)).mono ?_
  rintro x w2 ⟨hd, rfl, hb2⟩
  have H2 := Lib.hid (And.intro hd ((HB.out.tr H1.out.2).tr hb2))
  clear hd hb2 HB1 H1
  go_wp2
  go_ret
  exact ⟨rfl, by rw [HV.out]; exact H2.out.1, H2.out.2⟩
set_option maxRecDepth 100000 in
set_option maxHeartbeats 2000000 in
theorem st_do9 (W : Nat → Prop) (w : World) (B1 B2 : Nat) (s : StV) (h : Duo W w B1 B2 s s) (hW : FrW W w) (kd : Int) (k v : ByteArray) (h0 : kd ≠ 0) (h1 : kd ≠ 1) (h2 : kd ≠ 2) :
    Calls Tryd.prog 12 #[.pointer (some ⟨B1, 0, none⟩), .pointer (some ⟨B2, 0, none⟩), .agg #[.int .i64 kd, .string k, .string v]] w fun x w' => x = .returned (.bool true) ∧ Duo W w' B1 B2 (actV s kd k v) (actV s kd k v) ∧ Fb W w w' := by
  have hb := Kq.below_alloc w (.cells #[.int .i64 kd, .string k, .string v] 32)
  have H1 := Lib.hid (And.intro (h.below hb) (Fb.of hb hW))
  have HV : Hid (actV s kd k v = s) := Lib.hid (by unfold actV; rw [if_neg h0, if_neg h1, if_neg h2])
  have e0 : (kd == 0) = false := by rw [beq_eq_false_iff_ne]; exact h0
  have e1 : (kd == 1) = false := by rw [beq_eq_false_iff_ne]; exact h1
  have e2 : (kd == 2) = false := by rw [beq_eq_false_iff_ne]; exact h2
  clear h hW hb h0 h1 h2
  go_enter Tryd.func12, Tryd.ntmps12
  go_wp2
  go_ret
  exact ⟨rfl, by rw [HV.out]; exact H1.out.1, H1.out.2⟩
end Go.Proofs.YtcknhnbckbocjaaDoor
namespace Go.Proofs.YtcknhnbckbocjaaDoor
open Go.RowKit
set_option linter.unusedVariables false
set_option maxRecDepth 100000 in
set_option maxHeartbeats 2000000 in
theorem st_do0 (W : Nat → Prop) (w : World) (B1 B2 : Nat) (s : StV) (h : Duo W w B1 B2 s s) (hW : FrW W w) (hs : StOk s) (k v : ByteArray) (hk : k.size ≤ 300) (hv : v.size ≤ 300) :
    Calls Tryd.prog 12 #[.pointer (some ⟨B1, 0, none⟩), .pointer (some ⟨B2, 0, none⟩), .agg #[.int .i64 0, .string k, .string v]] w fun x w' => x = .returned (.bool true) ∧ Duo W w' B1 B2 (actV s 0 k v) (actV s 0 k v) ∧ Fb W w w' := by
  have hb := Kq.below_alloc w (.cells #[.int .i64 0, .string k, .string v] 32)
  have HX := Lib.hid ((h.box #[.int .i64 0, .string k, .string v] 32).below (Below.refl _ _).drew)
  have HB := Lib.hid (Fb.of hb.drew hW)
  have hWX : FrW W (w.alloc (.cells #[.int .i64 0, .string k, .string v] 32)).drew := hW.later hb.drew.size
  have c0 : (w.alloc (.cells #[.int .i64 0, .string k, .string v] 32)).cell? ⟨w.heap.size, 0, none⟩ = some (.int .i64 0) := Kq.blk_cell (Kq.blk_new w #[.int .i64 0, .string k, .string v] 32 (0, 0)) 0
  have HA1 := Lib.hid (dx_set HX.out hWX hs k v hk hv)
  have HB1 := Lib.hid (fun w' (hx : DuoX W w' B1 B2 (setV s k v).1 s w.heap.size (.cells #[.int .i64 0, .string k, .string v] 32 (0, 0))) (hw : FrW W w') => dy_set hx hw hs k v)
  have HV : Hid (actV s 0 k v = (setV s k v).1) := Lib.hid rfl
  have HCL : Hid (∀ w' s1 s2, DuoX W w' B1 B2 s1 s2 w.heap.size (.cells #[.int .i64 0, .string k, .string v] 32 (0, 0)) → AcB w' w.heap.size k v) := Lib.hid (fun w' s1 s2 hd => ⟨Kq.blk_cell hd.obj 1, Kq.blk_cell hd.obj 2⟩)
  obtain ⟨⟨s', e⟩, hr⟩ : ∃ r, r = setV s k v := ⟨_, rfl⟩
  rw [← hr] at HA1 HB1 HV
  have e9 : (e == e) = true := by simp
  have HWW := Lib.hid hWX
  clear hr hs hW hWX hb h hk hv
  go_enter Tryd.func12, Tryd.ntmps12
  go_wp2
  refine wp_region_held_drew (S := fun w' => AcB w' w.heap.size k v) (by kernel_rfl) (HCL.out _ _ _ HX.out) (fun hS0 => ?_)
  obtain ⟨wd, hwd⟩ : ∃ z, z = (w.alloc (.cells #[.int .i64 0, .string k, .string v] 32)).drew := ⟨_, rfl⟩
  rw [← hwd] at HA1 HB HWW hS0 ⊢
  clear hwd HX c0
  unfold AcB at hS0
  dsimp only [AcB]
  refine wpAnyH_take (i := 0) (v := ?_) rfl (by kernel_rfl) (by kernel_rfl) (by kernel_rfl) (fun _ _ _ h => h) (Or.inl ⟨by kernel_rfl, ?_⟩) (by assumption) ?_
  rotate_left
  · intro w hSw; (try dsimp only at hSw); go_simp; (try with_reducible rfl)
  refine wpAnyH_take (i := 1) (v := ?_) rfl (by kernel_rfl) (by kernel_rfl) (by kernel_rfl) (fun _ _ _ h => h) (Or.inl ⟨by kernel_rfl, ?_⟩) (by assumption) ?_
  rotate_left
  · intro w hSw; (try dsimp only at hSw); go_simp; (try with_reducible rfl)
  refine wpAnyH_take (i := 2) (v := ?_) rfl (by kernel_rfl) (by kernel_rfl) (by kernel_rfl) (fun _ _ _ h => h) (Or.inl ⟨by kernel_rfl, ?_⟩) (by assumption) ?_
  rotate_left
  · intro w hSw; (try dsimp only at hSw); go_simp; (try with_reducible rfl)
  refine wpAnyH_take (i := 3) (v := ?_) rfl (by kernel_rfl) (by kernel_rfl) (by kernel_rfl) (fun _ _ _ h => h) (Or.inl ⟨by kernel_rfl, ?_⟩) (by assumption) ?_
  rotate_left
  · intro w hSw; (try dsimp only at hSw); go_simp; (try with_reducible rfl)
  refine wpAnyH_take (i := 4) (v := ?_) rfl (by kernel_rfl) (by kernel_rfl) (by kernel_rfl) (fun _ _ _ h => h) (Or.inl ⟨by kernel_rfl, ?_⟩) (by assumption) ?_
  rotate_left
  · intro w hSw; (try dsimp only at hSw); go_simp; (try with_reducible rfl)
  refine wpAnyH_take (i := 6) (v := ?_) rfl (by kernel_rfl) (by kernel_rfl) (by kernel_rfl) (fun _ _ _ h => h) (Or.inl ⟨by kernel_rfl, ?_⟩) (by assumption) ?_
  rotate_left
  · intro w hSw; (try dsimp only at hSw); go_simp; (try with_reducible rfl)
  refine wpAnyH_take (i := 7) (v := ?_) rfl (by kernel_rfl) (by kernel_rfl) (by kernel_rfl) (fun _ _ _ h => h) (Or.inl ⟨by kernel_rfl, ?_⟩) (by assumption) ?_
  rotate_left
  · intro w hSw; (try dsimp only at hSw); go_simp; (try with_reducible rfl)
  refine wpAnyH_take (i := 8) (v := ?_) rfl (by kernel_rfl) (by kernel_rfl) (by kernel_rfl) (fun _ _ _ h => h) (Or.inl ⟨by kernel_rfl, ?_⟩) (by assumption) ?_
  rotate_left
  · intro w hSw; (try dsimp only at hSw); go_simp; (try with_reducible rfl)
  refine wpAnyH_take (i := 9) (v := ?_) rfl (by kernel_rfl) (by kernel_rfl) (by kernel_rfl) (fun _ _ _ h => h) (Or.inl ⟨by kernel_rfl, ?_⟩) (by assumption) ?_
  rotate_left
  · intro w hSw; (try dsimp only at hSw); go_simp; (try with_reducible rfl)
  refine wpAnyH_take (i := 10) (v := ?_) rfl (by kernel_rfl) (by kernel_rfl) (by kernel_rfl) (fun _ _ _ h => h) (Or.inl ⟨by kernel_rfl, ?_⟩) (by assumption) ?_
  rotate_left
  · intro w hSw; (try dsimp only at hSw); go_simp; (try with_reducible rfl)
  refine wpAnyH_ready (rs := [5]) (by kernel_rfl) (by simp) ?_
  refine AllReadyH.cons rfl (fun K hK => ?_) AllReadyH.nil
  go_simp
  refine HA1.out.mono ?_
  rintro x w1 ⟨hd, rfl, hb1⟩
  have H1 := Lib.hid (And.intro hd hb1)
  clear hd hb1 HA1 hS0
  refine hK.out _ _ (HCL.out _ _ _ H1.out.1) (fun hS0 => ?_)
  clear hK K
  refine wpAnyH_ready (rs := [11]) (by kernel_rfl) (by simp) ?_
  refine AllReadyH.cons rfl (fun K hK => ?_) AllReadyH.nil
  go_simp
  refine (HB1.out w1 H1.out.1 (HWW.out.later H1.out.2.sz)).mono ?_
  rintro x w2 ⟨hd, rfl, hb2⟩
  have H2 := Lib.hid (And.intro hd ((HB.out.tr H1.out.2).tr hb2))
  clear hd hb2 HB1 H1 hS0
  refine hK.out _ _ (HCL.out _ _ _ H2.out.1) (fun hS0 => ?_)
  clear hK K
  refine wpAnyH_take (i := 12) (v := ?_) rfl (by kernel_rfl) (by kernel_rfl) (by kernel_rfl) (fun _ _ _ h => h) (Or.inl ⟨by kernel_rfl, ?_⟩) (by assumption) ?_
  rotate_left
  · intro w hSw; (try dsimp only at hSw); go_simp; (try with_reducible rfl)
  refine wpAnyH_take (i := 13) (v := ?_) rfl (by kernel_rfl) (by kernel_rfl) (by kernel_rfl) (fun _ _ _ h => h) (Or.inl ⟨by kernel_rfl, ?_⟩) (by assumption) ?_
  rotate_left
  · intro w hSw; (try dsimp only at hSw); go_simp; (try with_reducible rfl)
  refine wpAnyH_done (by kernel_rfl) ?_ _
  go_wp2
  go_ret
  exact ⟨rfl, by rw [HV.out]; exact H2.out.1.duo, H2.out.2⟩
set_option maxRecDepth 100000 in
set_option maxHeartbeats 2000000 in
theorem st_do1 (W : Nat → Prop) (w : World) (B1 B2 : Nat) (s : StV) (h : Duo W w B1 B2 s s) (hW : FrW W w) (hs : StOk s) (k v : ByteArray) (hk : k.size ≤ 300) (hv : v.size ≤ 300) :
    Calls Tryd.prog 12 #[.pointer (some ⟨B1, 0, none⟩), .pointer (some ⟨B2, 0, none⟩), .agg #[.int .i64 1, .string k, .string v]] w fun x w' => x = .returned (.bool true) ∧ Duo W w' B1 B2 (actV s 1 k v) (actV s 1 k v) ∧ Fb W w w' := by
  have hb := Kq.below_alloc w (.cells #[.int .i64 1, .string k, .string v] 32)
  have HX := Lib.hid ((h.box #[.int .i64 1, .string k, .string v] 32).below (Below.refl _ _).drew)
  have HB := Lib.hid (Fb.of hb.drew hW)
  have hWX : FrW W (w.alloc (.cells #[.int .i64 1, .string k, .string v] 32)).drew := hW.later hb.drew.size
  have c0 : (w.alloc (.cells #[.int .i64 1, .string k, .string v] 32)).cell? ⟨w.heap.size, 0, none⟩ = some (.int .i64 1) := Kq.blk_cell (Kq.blk_new w #[.int .i64 1, .string k, .string v] 32 (0, 0)) 0
  have HA1 := Lib.hid (dx_del HX.out hWX hs k hk)
  have HB1 := Lib.hid (fun w' (hx : DuoX W w' B1 B2 (delV s k).1 s w.heap.size (.cells #[.int .i64 1, .string k, .string v] 32 (0, 0))) (hw : FrW W w') => dy_del hx hw hs k)
  have HV : Hid (actV s 1 k v = (delV s k).1) := Lib.hid rfl
  have HCL : Hid (∀ w' s1 s2, DuoX W w' B1 B2 s1 s2 w.heap.size (.cells #[.int .i64 1, .string k, .string v] 32 (0, 0)) → AcB w' w.heap.size k v) := Lib.hid (fun w' s1 s2 hd => ⟨Kq.blk_cell hd.obj 1, Kq.blk_cell hd.obj 2⟩)
  obtain ⟨⟨s', e⟩, hr⟩ : ∃ r, r = delV s k := ⟨_, rfl⟩
  rw [← hr] at HA1 HB1 HV
  have e9 : (e == e) = true := by simp
  have HWW := Lib.hid hWX
  clear hr hs hW hWX hb h hk hv
  go_enter Tryd.func12, Tryd.ntmps12
  go_wp2
  refine wp_region_held_drew (S := fun w' => AcB w' w.heap.size k v) (by kernel_rfl) (HCL.out _ _ _ HX.out) (fun hS0 => ?_)
  obtain ⟨wd, hwd⟩ : ∃ z, z = (w.alloc (.cells #[.int .i64 1, .string k, .string v] 32)).drew := ⟨_, rfl⟩
  rw [← hwd] at HA1 HB HWW hS0 ⊢
  clear hwd HX c0
  unfold AcB at hS0
  dsimp only [AcB]
  refine wpAnyH_take (i := 0) (v := ?_) rfl (by kernel_rfl) (by kernel_rfl) (by kernel_rfl) (fun _ _ _ h => h) (Or.inl ⟨by kernel_rfl, ?_⟩) (by assumption) ?_
  rotate_left
  · intro w hSw; (try dsimp only at hSw); go_simp; (try with_reducible rfl)
  refine wpAnyH_take (i := 1) (v := ?_) rfl (by kernel_rfl) (by kernel_rfl) (by kernel_rfl) (fun _ _ _ h => h) (Or.inl ⟨by kernel_rfl, ?_⟩) (by assumption) ?_
  rotate_left
  · intro w hSw; (try dsimp only at hSw); go_simp; (try with_reducible rfl)
  refine wpAnyH_take (i := 2) (v := ?_) rfl (by kernel_rfl) (by kernel_rfl) (by kernel_rfl) (fun _ _ _ h => h) (Or.inl ⟨by kernel_rfl, ?_⟩) (by assumption) ?_
  rotate_left
  · intro w hSw; (try dsimp only at hSw); go_simp; (try with_reducible rfl)
  refine wpAnyH_take (i := 4) (v := ?_) rfl (by kernel_rfl) (by kernel_rfl) (by kernel_rfl) (fun _ _ _ h => h) (Or.inl ⟨by kernel_rfl, ?_⟩) (by assumption) ?_
  rotate_left
  · intro w hSw; (try dsimp only at hSw); go_simp; (try with_reducible rfl)
  refine wpAnyH_take (i := 5) (v := ?_) rfl (by kernel_rfl) (by kernel_rfl) (by kernel_rfl) (fun _ _ _ h => h) (Or.inl ⟨by kernel_rfl, ?_⟩) (by assumption) ?_
  rotate_left
  · intro w hSw; (try dsimp only at hSw); go_simp; (try with_reducible rfl)
  refine wpAnyH_take (i := 6) (v := ?_) rfl (by kernel_rfl) (by kernel_rfl) (by kernel_rfl) (fun _ _ _ h => h) (Or.inl ⟨by kernel_rfl, ?_⟩) (by assumption) ?_
  rotate_left
  · intro w hSw; (try dsimp only at hSw); go_simp; (try with_reducible rfl)
  refine wpAnyH_ready (rs := [3]) (by kernel_rfl) (by simp) ?_
  refine AllReadyH.cons rfl (fun K hK => ?_) AllReadyH.nil
  go_simp
  refine HA1.out.mono ?_
  rintro x w1 ⟨hd, rfl, hb1⟩
  have H1 := Lib.hid (And.intro hd hb1)
  clear hd hb1 HA1 hS0
  refine hK.out _ _ (HCL.out _ _ _ H1.out.1) (fun hS0 => ?_)
  clear hK K
  refine wpAnyH_ready (rs := [7]) (by kernel_rfl) (by simp) ?_
  refine AllReadyH.cons rfl (fun K hK => ?_) AllReadyH.nil
  go_simp
  refine (HB1.out w1 H1.out.1 (HWW.out.later H1.out.2.sz)).mono ?_
  rintro x w2 ⟨hd, rfl, hb2⟩
  have H2 := Lib.hid (And.intro hd ((HB.out.tr H1.out.2).tr hb2))
  clear hd hb2 HB1 H1 hS0
  refine hK.out _ _ (HCL.out _ _ _ H2.out.1) (fun hS0 => ?_)
  clear hK K
  refine wpAnyH_take (i := 8) (v := ?_) rfl (by kernel_rfl) (by kernel_rfl) (by kernel_rfl) (fun _ _ _ h => h) (Or.inl ⟨by kernel_rfl, ?_⟩) (by assumption) ?_
  rotate_left
  · intro w hSw; (try dsimp only at hSw); go_simp; (try with_reducible rfl)
  refine wpAnyH_take (i := 9) (v := ?_) rfl (by kernel_rfl) (by kernel_rfl) (by kernel_rfl) (fun _ _ _ h => h) (Or.inl ⟨by kernel_rfl, ?_⟩) (by assumption) ?_
  rotate_left
  · intro w hSw; (try dsimp only at hSw); go_simp; (try with_reducible rfl)
  refine wpAnyH_done (by kernel_rfl) ?_ _
  go_wp2
  go_ret
  exact ⟨rfl, by rw [HV.out]; exact H2.out.1.duo, H2.out.2⟩
end Go.Proofs.YtcknhnbckbocjaaDoor
namespace Go.Proofs.YtcknhnbckbocjaaDoor
open Go.RowKit
set_option linter.unusedVariables false
theorem st_do (W : Nat → Prop) (w : World) (B1 B2 : Nat) (s : StV) (h : Duo W w B1 B2 s s) (hW : FrW W w) (hs : StOk s) (kd : Int) (k v : ByteArray) (hk : k.size ≤ 300) (hv : v.size ≤ 300) :
    Calls Tryd.prog 12 #[.pointer (some ⟨B1, 0, none⟩), .pointer (some ⟨B2, 0, none⟩), .agg #[.int .i64 kd, .string k, .string v]] w fun x w' => x = .returned (.bool true) ∧ Duo W w' B1 B2 (actV s kd k v) (actV s kd k v) ∧ Fb W w w' := by
  by_cases h0 : kd = 0
  · subst h0; exact st_do0 W w B1 B2 s h hW hs k v hk hv
  by_cases h1 : kd = 1
  · subst h1; exact st_do1 W w B1 B2 s h hW hs k v hk hv
  by_cases h2 : kd = 2
  · subst h2; exact st_do2 W w B1 B2 s h hW hs k v
  exact st_do9 W w B1 B2 s h hW kd k v h0 h1 h2
end Go.Proofs.YtcknhnbckbocjaaDoor
