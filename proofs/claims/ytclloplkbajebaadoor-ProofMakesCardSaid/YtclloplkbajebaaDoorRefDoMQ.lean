/- Merged: RefVal, RefRead, Call4, RefDoM. Contract of carrackref03.Value: a number of bytes. Condition: eight bytes at most. Contracts of carrackref03's reader: take, Value, Left, End. Condition: a text of at most 100000 bytes. A slice of carrackref03.Call among the arguments, opened: what a walk is told of it. No condition. Contracts of carrackref03's reader: Do (RefDo without Left and End; never import both). Condition: a text of at most 100000 bytes. -/
import Derived.WalkSpells
import Derived.Test.YtclloplkbajebaaDoorWireRd2Q
import Derived.Deep.QuietTactic
import Derived.BigQuiet
import Derived.Test.YtclloplkbajebaaDoorChecked
import Derived.Lib.SmallJoins
import Derived.Deep.Slices
import Derived.SizedLaws
import Derived.Test.YtclloplkbajebaaDoorCommonQ
namespace Go.Proofs.YtclloplkbajebaaDoor
open Go.RowKit
set_option linter.unusedVariables false
theorem val_step (v : Nat) (b : UInt8) (hv : v < 256 ^ 7) : IntKind.u64.wrap ((v : Int) * 256 + ((b.toNat : Nat) : Int)) = ((v * 256 + b.toNat : Nat) : Int) := by
  have hb := b.toNat_lt
  rw [IntWalk.u64_in _ (by omega)]; omega
theorem val_one_byte (b : UInt8) : IntKind.u64.wrap ((b.toNat : Nat) : Int) = ((b.toNat : Nat) : Int) := by
  have hb := b.toNat_lt
  exact IntWalk.u64_in _ (by omega)
theorem val_mul (v : Nat) (hv : v < 256 ^ 7) : IntKind.u64.wrap ((v : Int) * 256) = ((v : Int) * 256) := IntWalk.u64_in _ (by omega)
set_option maxRecDepth 100000 in
set_option maxHeartbeats 800000 in
theorem ref_value (t : ByteArray) (w : World) (hsz : t.size ≤ 8) :
    Calls Tryd.prog 66 #[.string t] w fun x w' => x = .returned (.int .u64 ((WireM.val (nl t) : Nat) : Int)) ∧ w = w' := by
  go_enter Tryd.func66, Tryd.ntmps66
  go_wp2
  go_loop [3, 4] (fun y j => ∃ m : Nat, m ≤ t.size ∧ j = .int .i64 m ∧ y = .int .u64 (WireM.val ((nl t).take m) : Nat)) (fun _ j => t.size - (intOf j).toNat)
  case atStart => exact ⟨0, by omega, rfl, rfl⟩
  case round =>
    obtain ⟨m, hm, rfl, rfl⟩ := hrel
    by_cases hlt : m < t.size
    · have hS := Lib.hid (val_succ t m hlt)
      have hv := val_take_lt t m hlt hsz
      generalize WireM.val ((nl t).take m) = v at *
      have ho := val_step v t[m] hv
      have ho2 := val_mul v hv
      have ho3 := val_one_byte t[m]
      clear hv
      go_wp2
      go_round
      case rel => exact ⟨m + 1, by omega, by go_num, by rw [hS.out, Int.natCast_add, Int.natCast_mul]; rfl⟩
      case measure => simp [intOf]; omega
    · have hm' : m = t.size := Nat.le_antisymm hm (Nat.not_lt.1 hlt)
      subst hm'
      have hT : (nl t).take t.size = nl t := List.take_of_length_le (by rw [nl_length]; exact Nat.le_refl _)
      rw [hT]
      go_wp2
      go_ret
      exact ⟨rfl, rfl⟩
end Go.Proofs.YtclloplkbajebaaDoor
namespace Go.Proofs.YtclloplkbajebaaDoor
open Go.RowKit
set_option linter.unusedVariables false
/-- the document's reader: a text, how far it is read, an error -/
structure RfAt (w : World) (B : Nat) (e : Int) (S : ByteArray) (k : Nat) : Prop where
  blk : w.heap[B]? = some (.cells #[.string S, .int .i64 ((k : Nat) : Int), .int .i64 e] 83 (0, 0))
  le : k ≤ S.size
  sz : S.size ≤ 100000
section
variable {w : World} {B : Nat} {e : Int} {S : ByteArray} {k : Nat} (h : RfAt w B e S k)
include h
theorem RfAt.c0 : w.cell? ⟨B, 0, none⟩ = some (.string S) := Kq.blk_cell h.blk 0
theorem RfAt.c1 : w.cell? ⟨B, 1, none⟩ = some (.int .i64 ((k : Nat) : Int)) := Kq.blk_cell h.blk 1
theorem RfAt.c2 : w.cell? ⟨B, 2, none⟩ = some (.int .i64 e) := Kq.blk_cell h.blk 2
theorem RfAt.f1 : w.frozen? ⟨B, 1, none⟩ = false := Kq.blk_free h.blk 1
theorem RfAt.f2 : w.frozen? ⟨B, 2, none⟩ = false := Kq.blk_free h.blk 2
theorem RfAt.set2 (f : Int) : RfAt (w.setCell ⟨B, 2, none⟩ (.int .i64 f)) B f S k := ⟨Kq.blk_set h.blk 2 _, h.le, h.sz⟩
theorem RfAt.set1 (m : Nat) (hm : m ≤ S.size) : RfAt (w.setCell ⟨B, 1, none⟩ (.int .i64 ((m : Nat) : Int))) B e S m := ⟨Kq.blk_set h.blk 1 _, hm, h.sz⟩
theorem RfAt.drewN (n : Nat) : RfAt (w.drewN n) B e S k := ⟨h.blk, h.le, h.sz⟩
theorem RfAt.lt : B < w.heap.size := Kq.blk_lt h.blk
end
theorem keeps_drewN (P : Nat → Prop) (w : World) (n : Nat) : Kq.Keeps P w (w.drewN n) := ⟨rfl, rfl, rfl, Nat.le_refl _, fun _ _ _ => rfl⟩
/-- .. and what is left of it -/
def Rf (w : World) (B : Nat) (e : Int) (s : ByteArray) : Prop := ∃ S k, RfAt w B e S k ∧ s = S.extract k S.size
theorem Rf.later {P : Nat → Prop} {w w' : World} {B : Nat} {e : Int} {s : ByteArray} (h : Rf w B e s) (hk : Kq.Keeps P w w') (hB : ¬ P B) : Rf w' B e s := by
  obtain ⟨S, k, hA, hs⟩ := h
  exact ⟨S, k, ⟨hk.blk hA.blk hB, hA.le, hA.sz⟩, hs⟩
theorem Rf.size {w : World} {B : Nat} {e : Int} {s : ByteArray} (h : Rf w B e s) : s.size ≤ 100000 := by
  obtain ⟨S, k, hA, rfl⟩ := h
  have := hA.sz
  simp; omega
theorem Rf.lt {w : World} {B : Nat} {e : Int} {s : ByteArray} (h : Rf w B e s) : B < w.heap.size := by
  obtain ⟨S, k, hA, _⟩ := h
  exact hA.lt
theorem ext_size (S : ByteArray) (k : Nat) (h : k ≤ S.size) : (S.extract k S.size).size = S.size - k := by simp
theorem ext_mid (S : ByteArray) (k m : Nat) (h : k + m ≤ S.size) : (S.extract k S.size).extract 0 m = S.extract k (k + m) := by
  apply nl_inj
  simp only [nl_extract, List.drop_zero, Nat.sub_zero]
  rw [List.take_take, show k + m - k = m by omega, show min m (S.size - k) = m by omega]
theorem ext_rest (S : ByteArray) (k m : Nat) (h : k + m ≤ S.size) : (S.extract k S.size).extract m (S.extract k S.size).size = S.extract (k + m) S.size := by
  apply nl_inj
  rw [ext_size S k (by omega)]
  simp only [nl_extract]
  rw [List.drop_take, List.drop_drop, List.take_take, show S.size - k - m = S.size - (k + m) by omega, Nat.min_self]
set_option maxRecDepth 100000 in
set_option maxHeartbeats 400000 in
theorem rf_take_err (B : Nat) (e : Int) (S : ByteArray) (k : Nat) (n : Int) (w : World) (h : RfAt w B e S k) (he : e ≠ 0) :
    Calls Tryd.prog 65 #[.pointer (some ⟨B, 0, none⟩), .int .i64 n] w fun x w' => x = .returned (.tuple #[.string ⟨#[]⟩, .bool false]) ∧ w = w' := by
  have c2 := h.c2
  have he' : (e != 0) = true := by simpa using he
  clear h he
  go_enter Tryd.func65, Tryd.ntmps65
  go_wp2
  go_ret2
  exact ⟨rfl, rfl⟩
set_option maxRecDepth 100000 in
set_option maxHeartbeats 800000 in
theorem rf_take_short (B : Nat) (S : ByteArray) (k : Nat) (n : Int) (w : World) (h : RfAt w B 0 S k) (hn : n < 0 ∨ (S.size : Int) - k < n) :
    Calls Tryd.prog 65 #[.pointer (some ⟨B, 0, none⟩), .int .i64 n] w fun x w' => x = .returned (.tuple #[.string ⟨#[]⟩, .bool false]) ∧ RfAt w' B 6 S k ∧ Kq.Keeps (· = B) w w' := by
  have c0 := h.c0
  have c1 := h.c1
  have c2 := h.c2
  have f2 := h.f2
  have hk := h.le
  have hS := h.sz
  have H := Lib.hid h
  clear h
  by_cases h0 : n < 0
  · clear hn
    have hd0 : decide (n < 0) = true := decide_eq_true h0
    go_enter Tryd.func65, Tryd.ntmps65
    go_wp2
    go_quiet (fail)
    go_wp2
    go_ret2
    exact ⟨rfl, (H.out.drewN _).set2 6, (keeps_drewN _ _ _).trans (Kq.Keeps.setCell _ _ _ rfl)⟩
  · have h1 : (S.size : Int) - k < n := hn.resolve_left h0
    have hd0 : decide (n < 0) = false := decide_eq_false h0
    have hd1 : decide ((S.size : Int) - k < n) = true := decide_eq_true h1
    have hw : IntKind.i64.wrap ((S.size : Int) - k) = (S.size : Int) - k := IntWalk.i64_in _ (by omega)
    clear hn
    go_enter Tryd.func65, Tryd.ntmps65
    go_wp2
    go_quiet (fail)
    go_wp2
    go_ret2
    exact ⟨rfl, (H.out.drewN _).set2 6, (keeps_drewN _ _ _).trans (Kq.Keeps.setCell _ _ _ rfl)⟩
set_option maxRecDepth 100000 in
set_option maxHeartbeats 800000 in
theorem rf_take_ok (B : Nat) (S : ByteArray) (k m : Nat) (w : World) (h : RfAt w B 0 S k) (hm : k + m ≤ S.size) :
    Calls Tryd.prog 65 #[.pointer (some ⟨B, 0, none⟩), .int .i64 (m : Int)] w fun x w' => x = .returned (.tuple #[.string (S.extract k (k + m)), .bool true]) ∧ RfAt w' B 0 S (k + m) ∧ Kq.Keeps (· = B) w w' := by
  have c0 := h.c0
  have c1 := h.c1
  have c2 := h.c2
  have f1 := h.f1
  have hk := h.le
  have hS := h.sz
  have H := Lib.hid h
  clear h
  have hd : decide ((S.size : Int) - (k : Int) < (m : Int)) = false := by simp; omega
  have h0 : decide ((m : Int) < 0) = false := by simp
  have hw : IntKind.i64.wrap ((S.size : Int) - k) = (S.size : Int) - k := IntWalk.i64_in _ (by omega)
  go_enter Tryd.func65, Tryd.ntmps65
  go_wp2
  go_quiet (fail)
  clear hw
  go_wp2
  have hw2 : IntKind.i64.wrap ((k : Int) + m - m) = (k : Int) := by rw [show (k : Int) + m - m = k by omega]; exact IntWalk.i64_in _ (by omega)
  go_quiet (fail)
  go_wp2
  go_ret2
  rename_i nqa
  refine ⟨rfl, ((H.out.drewN _).set1 (k + m) hm).drewN _, ?_⟩
  have k1 : Kq.Keeps (· = B) w ((w.drewN nqa).setCell ⟨B, 1, none⟩ (.int .i64 ((k : Int) + m))) := Kq.Keeps.trans (keeps_drewN _ _ nqa) (Kq.Keeps.setCell _ _ _ rfl)
  exact Kq.Keeps.trans k1 (keeps_drewN _ _ _)
/-- the whole of it, as a reader's Raw -/
def tookB (e : Int) (s : ByteArray) (n : Int) : Bool := decide (e = 0 ∧ 0 ≤ n ∧ n ≤ (s.size : Int))
def TakePost (w : World) (B : Nat) (e : Int) (s : ByteArray) (n : Int) (b : Bool) (x : Ending) (w' : World) : Prop :=
  x = .returned (.tuple #[.string (WireM.raw e s n).1, .bool b]) ∧ Rf w' B (WireM.raw e s n).2.1 (WireM.raw e s n).2.2 ∧ Kq.Keeps (· = B) w w'
theorem rf_take (B : Nat) (e : Int) (s : ByteArray) (n : Int) (w : World) (h : Rf w B e s) :
    Calls Tryd.prog 65 #[.pointer (some ⟨B, 0, none⟩), .int .i64 n] w (TakePost w B e s n (tookB e s n)) := by
  obtain ⟨S, k, hA, rfl⟩ := h
  have hz := ext_size S k hA.le
  have hle := hA.le
  by_cases he : e = 0
  · subst he
    by_cases hb : n < 0 ∨ (S.size : Int) - k < n
    · refine (rf_take_short B S k n w hA hb).mono ?_
      rintro x w' ⟨rfl, h1, h2⟩
      have hr := WireM.raw_bad 0 (S.extract k S.size) n (by rw [hz]; omega)
      have ht : tookB 0 (S.extract k S.size) n = false := by unfold tookB; rw [hz]; simp; omega
      unfold TakePost
      rw [hr, ht]
      exact ⟨rfl, ⟨S, k, h1, rfl⟩, h2⟩
    · obtain ⟨m, rfl⟩ := Int.eq_ofNat_of_zero_le (show 0 ≤ n by omega)
      refine (rf_take_ok B S k m w hA (by omega)).mono ?_
      rintro x w' ⟨rfl, h1, h2⟩
      have hr := WireM.raw_ok (S.extract k S.size) m (by rw [hz]; omega)
      have ht : tookB 0 (S.extract k S.size) m = true := by unfold tookB; rw [hz]; simp; omega
      unfold TakePost
      rw [hr, ht, ext_mid S k m (by omega), ext_rest S k m (by omega)]
      exact ⟨rfl, ⟨S, k + m, h1, rfl⟩, h2⟩
  · refine (rf_take_err B e S k n w hA he).mono ?_
    rintro x w' ⟨rfl, rfl⟩
    have ht : tookB e (S.extract k S.size) n = false := by unfold tookB; simp [he]
    unfold TakePost
    rw [WireM.raw_stuck e _ n he, ht]
    exact ⟨rfl, ⟨S, k, hA, rfl⟩, Kq.Keeps.refl _ _⟩
end Go.Proofs.YtclloplkbajebaaDoor
namespace Go.Proofs.YtclloplkbajebaaDoor
open Go.RowKit Go.ChangeShapes Go.WideShapes Go.Deep Go.Joins
set_option linter.unusedVariables false
structure CallV where
  kind : Int
  k : Int
  n : Int
  s : ByteArray
instance : Inhabited CallV := ⟨⟨0, 0, 0, ⟨#[]⟩⟩⟩
/-- four cells that hold a call -/
structure IsCall (w : World) (b o : Nat) (c : CallV) : Prop where
  c0 : w.cell? ⟨b, o, none⟩ = some (.int .i64 c.kind)
  c1 : w.cell? ⟨b, o + 1, none⟩ = some (.int .i64 c.k)
  c2 : w.cell? ⟨b, o + 2, none⟩ = some (.int .u64 c.n)
  c3 : w.cell? ⟨b, o + 3, none⟩ = some (.string c.s)
  w1 : (Lit.int .i64 c.k).wf = true
  w2 : (Lit.int .u64 c.n).wf = true
  w3 : c.s.size ≤ reachBytes
def CallsAt (w : World) (a : Option Addr) (l : List CallV) : Prop := ∀ i (h : i < l.length), ∃ b off, a = some ⟨b, off, none⟩ ∧ b < w.heap.size ∧ IsCall w b (off + i * 4) l[i]
theorem IsCall.later {w w' : World} {b o : Nat} {c : CallV} (h : IsCall w b o c) {B : Nat} (hb : Below B w w') (hlt : b < B) : IsCall w' b o c :=
  ⟨(hb.cell (p := ⟨b, o, none⟩) hlt).trans h.c0, (hb.cell (p := ⟨b, o + 1, none⟩) hlt).trans h.c1, (hb.cell (p := ⟨b, o + 2, none⟩) hlt).trans h.c2, (hb.cell (p := ⟨b, o + 3, none⟩) hlt).trans h.c3, h.w1, h.w2, h.w3⟩
theorem CallsAt.later {w w' : World} {a : Option Addr} {l : List CallV} (h : CallsAt w a l) (hb : Below w.heap.size w w') : CallsAt w' a l := fun i hi => by
  obtain ⟨b, off, ha, hlt, hc⟩ := h i hi
  exact ⟨b, off, ha, Nat.lt_of_lt_of_le hlt hb.size, hc.later hb hlt⟩
theorem add_flat (b off i : Nat) : (⟨b, off, none⟩ : Addr).add i = ⟨b, off + i, none⟩ := by unfold Addr.add; split <;> simp_all
theorem cell_lt {w : World} {b o : Nat} {v : Value} (h : w.cell? ⟨b, o, none⟩ = some v) : b < w.heap.size := by
  rcases Nat.lt_or_ge b w.heap.size with h' | h'
  · exact h'
  · simp [World.cell?, Array.getElem?_eq_none h'] at h
/-- where a slice of cells begins, as soon as one cell of its first element is there -/
theorem head_flat {w : World} {base n : Nat} {x : Addr} {cs : List Value} (hn : 0 < n) (h : w.cells? base (x.add 0) n = some cs) : ∃ b off, x = ⟨b, off, none⟩ := by
  obtain ⟨_, hl, hc⟩ := World.cells?_some h
  have h0 := hc 0 hn
  have e : (x.add 0).add 0 = x := by unfold Addr.add; simp
  rw [e, List.getElem?_eq_getElem (by omega)] at h0
  obtain ⟨b, off, spot⟩ := x
  have := World.cell?_spot h0
  simp only at this
  subst this
  exact ⟨b, off, rfl⟩
theorem weightsAll_mem {H : Type} {P : Program} {e : TypeId} {l : List (DataW H)} {x : DataW H} {n : Nat} (hx : x ∈ l) (hn : n ∈ x.weights P e) : n ∈ DataW.weightsAll P e l := by
  induction l with
  | nil => cases hx
  | cons y l ih =>
    simp only [DataW.weightsAll]
    rcases List.mem_cons.1 hx with rfl | h
    · exact List.mem_append_left _ hn
    · exact List.mem_append_right _ (ih h)
end Go.Proofs.YtclloplkbajebaaDoor
namespace Go.Proofs.YtclloplkbajebaaDoor
open Go.RowKit
set_option linter.unusedVariables false
/-- what one call of a reader tells and leaves -/
def doOne (e : Int) (s : ByteArray) (c : CallV) : Nat × ByteArray × Int × ByteArray :=
  if c.kind = 0 then (WireM.val (nl (WireM.raw e s (1 : Nat)).1), ⟨#[]⟩, (WireM.raw e s (1 : Nat)).2)
  else if c.kind = 1 then (WireM.val (nl (WireM.raw e s (8 : Nat)).1), ⟨#[]⟩, (WireM.raw e s (8 : Nat)).2)
  else if c.kind = 2 then (0, WireM.raw (WireM.raw e s (2 : Nat)).2.1 (WireM.raw e s (2 : Nat)).2.2 ((WireM.val (nl (WireM.raw e s (2 : Nat)).1) : Nat) : Int))
  else if c.kind = 3 then (0, WireM.raw e s c.k)
  else (0, ⟨#[]⟩, (if e = 0 then c.k else e), s)
def DoPost (w : World) (B : Nat) (y : Nat × ByteArray × Int × ByteArray) (x : Ending) (w' : World) : Prop :=
  x = .returned (.tuple #[.int .u64 ((y.1 : Nat) : Int), .string y.2.1]) ∧ Rf w' B y.2.2.1 y.2.2.2 ∧ Kq.Keeps (· = B) w w'
theorem took_not (e : Int) (s : ByteArray) (n : Nat) (h : tookB e s n = false) : (WireM.raw e s n).1 = ⟨#[]⟩ ∧ (WireM.raw e s n).2.1 ≠ 0 := by
  unfold tookB at h
  have h1 : ¬ (e = 0 ∧ 0 ≤ (n : Int) ∧ (n : Int) ≤ (s.size : Int)) := of_decide_eq_false h
  by_cases he : e = 0
  · subst he
    rw [WireM.raw_bad 0 s n (Or.inr (by omega))]
    exact ⟨rfl, by simp⟩
  · rw [WireM.raw_stuck e s n he]
    exact ⟨rfl, he⟩
section
variable (B : Nat) (e : Int) (s : ByteArray) (c : CallV) (w : World) (h : Rf w B e s)
include h
set_option maxRecDepth 100000 in
set_option maxHeartbeats 800000 in
theorem do_byte (hk : c.kind = 0) : Calls Tryd.prog 42 #[.pointer (some ⟨B, 0, none⟩), .agg #[.int .i64 c.kind, .int .i64 c.k, .int .u64 c.n, .string c.s]] w (DoPost w B (doOne e s c)) := by
  unfold doOne
  rw [if_pos hk, hk]
  have H := Lib.hid (h.later (Kq.Keeps.alloc (fun _ => False) w (Obj.cells #[Value.int IntKind.i64 0, Value.int IntKind.i64 c.k, Value.int IntKind.u64 c.n, Value.string c.s] 89)) id)
  clear h hk
  go_enter Tryd.func42, Tryd.ntmps42
  go_wp2_with fail
  refine (rf_take B e s ((1 : Nat) : Int) _ H.out).mono ?_
  rintro x w2 ⟨rfl, R2, K2⟩
  have hsz : (WireM.raw e s ((1 : Nat) : Int)).1.size ≤ 8 := Nat.le_trans (raw_size e s 1) (by decide)
  have HP := Lib.hid (And.intro R2 ((Kq.Keeps.alloc (· = B) w _).trans K2))
  clear R2 K2
  generalize tookB e s ((1 : Nat) : Int) = b at *
  generalize WireM.raw e s ((1 : Nat) : Int) = q at *
  go_wp2_with fail
  refine (ref_value q.1 _ hsz).mono ?_
  rintro x w3 ⟨rfl, rfl⟩
  go_wp2
  go_ret2
  exact ⟨rfl, HP.out⟩
set_option maxRecDepth 100000 in
set_option maxHeartbeats 800000 in
theorem do_number (hk : c.kind = 1) : Calls Tryd.prog 42 #[.pointer (some ⟨B, 0, none⟩), .agg #[.int .i64 c.kind, .int .i64 c.k, .int .u64 c.n, .string c.s]] w (DoPost w B (doOne e s c)) := by
  unfold doOne
  rw [if_neg (by omega), if_pos hk, hk]
  have H := Lib.hid (h.later (Kq.Keeps.alloc (fun _ => False) w (Obj.cells #[Value.int IntKind.i64 1, Value.int IntKind.i64 c.k, Value.int IntKind.u64 c.n, Value.string c.s] 89)) id)
  clear h hk
  go_enter Tryd.func42, Tryd.ntmps42
  go_wp2_with fail
  refine (rf_take B e s ((8 : Nat) : Int) _ H.out).mono ?_
  rintro x w2 ⟨rfl, R2, K2⟩
  have hsz : (WireM.raw e s ((8 : Nat) : Int)).1.size ≤ 8 := raw_size e s 8
  have HP := Lib.hid (And.intro R2 ((Kq.Keeps.alloc (· = B) w _).trans K2))
  clear R2 K2
  generalize tookB e s ((8 : Nat) : Int) = b at *
  generalize WireM.raw e s ((8 : Nat) : Int) = q at *
  go_wp2_with fail
  refine (ref_value q.1 _ hsz).mono ?_
  rintro x w3 ⟨rfl, rfl⟩
  go_wp2
  go_ret2
  exact ⟨rfl, HP.out⟩
set_option maxRecDepth 100000 in
set_option maxHeartbeats 800000 in
theorem do_text (hk : c.kind = 2) : Calls Tryd.prog 42 #[.pointer (some ⟨B, 0, none⟩), .agg #[.int .i64 c.kind, .int .i64 c.k, .int .u64 c.n, .string c.s]] w (DoPost w B (doOne e s c)) := by
  unfold doOne
  rw [if_neg (by omega), if_neg (by omega), if_pos hk, hk]
  have H := Lib.hid (h.later (Kq.Keeps.alloc (fun _ => False) w (Obj.cells #[Value.int IntKind.i64 2, Value.int IntKind.i64 c.k, Value.int IntKind.u64 c.n, Value.string c.s] 89)) id)
  clear h hk
  have ht := took_not e s 2
  have hsz : (WireM.raw e s ((2 : Nat) : Int)).1.size ≤ 8 := Nat.le_trans (raw_size e s 2) (by decide)
  have hv := u64_int _ (Nat.lt_of_lt_of_le (whole_lt e s 2) (by decide))
  have HT := Lib.hid ht
  clear ht
  obtain ⟨tb, hb⟩ : ∃ tb, tookB e s ((2 : Nat) : Int) = tb := ⟨_, rfl⟩
  have htk := rf_take B e s ((2 : Nat) : Int) _ H.out
  rw [hb] at htk
  have HK := Lib.hid htk
  rw [hb] at HT
  clear htk hb H
  rcases tb with _ | _
  · obtain ⟨h1, h2⟩ := HT.out rfl
    rw [WireM.raw_stuck _ _ _ h2]
    go_enter Tryd.func42, Tryd.ntmps42
    go_wp2_with fail
    refine HK.out.mono ?_
    rintro x w2 ⟨rfl, R2, K2⟩
    have HP := Lib.hid (And.intro R2 ((Kq.Keeps.alloc (· = B) w _).trans K2))
    clear R2 K2 HK h1 h2 hv hsz HT
    generalize WireM.raw e s ((2 : Nat) : Int) = q at *
    go_wp2
    go_ret2
    exact ⟨rfl, HP.out⟩
  · go_enter Tryd.func42, Tryd.ntmps42
    go_wp2_with fail
    refine HK.out.mono ?_
    rintro x w2 ⟨rfl, R2, K2⟩
    have HP := Lib.hid (And.intro R2 ((Kq.Keeps.alloc (· = B) w _).trans K2))
    clear R2 K2 HK HT
    generalize WireM.raw e s ((2 : Nat) : Int) = q at *
    have HV := Lib.hid hv
    clear hv
    go_wp2_with fail
    refine (ref_value q.1 _ hsz).mono ?_
    rintro x w3 ⟨rfl, rfl⟩
    have hv := HV.out
    obtain ⟨v, hvv⟩ : ∃ v, v = WireM.val (nl q.1) := ⟨_, rfl⟩
    rw [← hvv] at hv ⊢
    have HVV := Lib.hid hvv
    clear hvv HV
    go_wp2_with fail
    refine (rf_take B q.2.1 q.2.2 (v : Int) _ HP.out.1).mono ?_
    rintro x w4 ⟨rfl, R4, K4⟩
    have H4 := Lib.hid (And.intro R4 (HP.out.2.trans K4))
    clear R4 K4 HP hv
    generalize tookB q.2.1 q.2.2 (v : Int) = bb at *
    go_wp2
    go_ret2
    rw [← HVV.out]
    exact ⟨rfl, H4.out⟩
set_option maxRecDepth 100000 in
set_option maxHeartbeats 800000 in
theorem do_raw (hk : c.kind = 3) : Calls Tryd.prog 42 #[.pointer (some ⟨B, 0, none⟩), .agg #[.int .i64 c.kind, .int .i64 c.k, .int .u64 c.n, .string c.s]] w (DoPost w B (doOne e s c)) := by
  unfold doOne
  rw [if_neg (by omega), if_neg (by omega), if_neg (by omega), if_pos hk, hk]
  have H := Lib.hid (h.later (Kq.Keeps.alloc (fun _ => False) w (Obj.cells #[Value.int IntKind.i64 3, Value.int IntKind.i64 c.k, Value.int IntKind.u64 c.n, Value.string c.s] 89)) id)
  clear h hk
  go_enter Tryd.func42, Tryd.ntmps42
  go_wp2_with fail
  refine (rf_take B e s c.k _ H.out).mono ?_
  rintro x w2 ⟨rfl, R2, K2⟩
  have HP := Lib.hid (And.intro R2 ((Kq.Keeps.alloc (· = B) w _).trans K2))
  clear R2 K2
  generalize tookB e s c.k = b at *
  generalize WireM.raw e s c.k = q at *
  go_wp2
  go_ret2
  exact ⟨rfl, HP.out⟩
set_option maxRecDepth 100000 in
set_option maxHeartbeats 800000 in
theorem do_fail (h0 : c.kind ≠ 0) (h1 : c.kind ≠ 1) (h2 : c.kind ≠ 2) (h3 : c.kind ≠ 3) : Calls Tryd.prog 42 #[.pointer (some ⟨B, 0, none⟩), .agg #[.int .i64 c.kind, .int .i64 c.k, .int .u64 c.n, .string c.s]] w (DoPost w B (doOne e s c)) := by
  unfold doOne
  rw [if_neg h0, if_neg h1, if_neg h2, if_neg h3]
  have H := Lib.hid (h.later (Kq.Keeps.alloc (fun _ => False) w (Obj.cells #[Value.int IntKind.i64 c.kind, Value.int IntKind.i64 c.k, Value.int IntKind.u64 c.n, Value.string c.s] 89)) id)
  clear h
  have r0 : (c.kind == 0) = false := by simpa using h0
  have r1 : (c.kind == 1) = false := by simpa using h1
  have r2 : (c.kind == 2) = false := by simpa using h2
  have r3 : (c.kind == 3) = false := by simpa using h3
  clear h0 h1 h2 h3
  obtain ⟨S, k, hA, hs⟩ := H.out
  have HA := Lib.hid hA
  have HS := Lib.hid hs
  have c2 := hA.c2
  have f2 := hA.f2
  clear hs hA
  by_cases he : e = 0
  · subst he
    rw [if_pos rfl]
    go_enter Tryd.func42, Tryd.ntmps42
    go_wp2
    go_ret2
    exact ⟨rfl, ⟨S, k, HA.out.set2 _, HS.out⟩, (Kq.Keeps.alloc (· = B) w _).trans (Kq.Keeps.setCell _ _ _ rfl)⟩
  · rw [if_neg he]
    have he' : (e == 0) = false := by simpa using he
    clear he
    go_enter Tryd.func42, Tryd.ntmps42
    go_wp2
    go_ret2
    exact ⟨rfl, H.out, Kq.Keeps.alloc (· = B) w _⟩
theorem ref_do : Calls Tryd.prog 42 #[.pointer (some ⟨B, 0, none⟩), .agg #[.int .i64 c.kind, .int .i64 c.k, .int .u64 c.n, .string c.s]] w (DoPost w B (doOne e s c)) := by
  by_cases h0 : c.kind = 0
  · exact do_byte B e s c w h h0
  by_cases h1 : c.kind = 1
  · exact do_number B e s c w h h1
  by_cases h2 : c.kind = 2
  · exact do_text B e s c w h h2
  by_cases h3 : c.kind = 3
  · exact do_raw B e s c w h h3
  exact do_fail B e s c w h h0 h1 h2 h3
end
end Go.Proofs.YtclloplkbajebaaDoor
