/- Set and Delete of any key; two stores beside blocks that stay; slices of pairs. Condition: sizes. -/
import Derived.WalkSpells
import Derived.Outline
import Derived.Test.YtcknhnbckbocjaaDoorStTwoQ
namespace Go.Proofs.YtcknhnbckbocjaaDoor
open Go.RowKit
set_option linter.unusedVariables false
section
variable (w : World) (O : Nat → Prop) (B : Nat) (s : StV)
set_option maxRecDepth 100000 in
set_option maxHeartbeats 1000000 in
theorem st_setA (k v : ByteArray) (hv : v.size ≤ 300) (h : StP w O B s) (hs : StOk s) : Calls Tryd.prog 27 #[.pointer (some ⟨B, 0, none⟩), .string k, .string v] w (StepP w O B (.int .i64 (setV s k v).2) (setV s k v).1) := by
  by_cases hk : k.size ≤ 300
  · exact st_set w O B s k v hk hv h hs
  have H := Lib.hid (And.intro h hs)
  have e0 := nonempty_of (k := k) (by omega)
  have e1 : decide ((16 : Int) < (k.size : Int)) = true := decide_eq_true (by omega)
  have e1' : decide (16 < k.size) = true := decide_eq_true (by omega)
  have HE : Hid (setV s k v = (s, 1)) := Lib.hid (by unfold setV badKV; rw [e1']; simp)
  clear h hs hk hv
  go_enter Tryd.func27, Tryd.ntmps27
  go_wp2
  go_ret
  rw [HE.out]
  exact StepP.same H.out.1 rfl
theorem small_key {l : List PairV} (h : smallP l) {k v : ByteArray} (hk : lk l k = some v) : k.size ≤ 16 := (h.2.2 _ (lk_mem _ _ _ hk)).2.1
set_option maxRecDepth 100000 in
set_option maxHeartbeats 1000000 in
theorem st_delA (k : ByteArray) (hk : k.size ≤ maxLen) (h : StP w O B s) (hs : StOk s) : Calls Tryd.prog 28 #[.pointer (some ⟨B, 0, none⟩), .string k] w (StepP w O B (.int .i64 (delV s k).2) (delV s k).1) := by
  by_cases hk3 : k.size ≤ 300
  · exact st_del w O B s k hk3 h hs
  have hno : lk s.now k = none := by
    cases e : lk s.now k with
    | none => rfl
    | some v => have := small_key hs.now e; omega
  have H := Lib.hid h
  have HG := st_get w O B s k hk h
  have HE : Hid (delV s k = (s, 3)) := Lib.hid (by unfold delV; rw [if_pos hno])
  rw [hno] at HG
  replace HG := Lib.hid HG
  clear h hs hk hk3 hno
  go_enter Tryd.func28, Tryd.ntmps28
  go_wp2_with fail
  refine HG.out.mono ?_
  rintro x w ⟨rfl, rfl⟩
  go_wp2
  go_ret
  rw [HE.out]
  exact StepP.same H.out rfl
end
/-- two stores of the program's, beside the blocks F -/
def St2F (F : Nat → Prop) (w : World) (B1 B2 : Nat) (s t : StV) : Prop := ∃ O1 O2, StP w O1 B1 s ∧ StP w O2 B2 t ∧ (∀ k, O1 k → ¬ F k ∧ k < w.heap.size) ∧ (∀ k, O2 k → ¬ F k ∧ k < w.heap.size) ∧ ∀ k, O1 k → ¬ O2 k
section
variable {F F' : Nat → Prop} {w w' : World} {B1 B2 : Nat} {s t s' : StV}
theorem St2F.swap (h : St2F F w B1 B2 s t) : St2F F w B2 B1 t s := by
  obtain ⟨O1, O2, h1, h2, a, b, n⟩ := h
  exact ⟨O2, O1, h2, h1, b, a, fun k hk h => n k h hk⟩
theorem St2F.wide (h : St2F F w B1 B2 s t) (hb : Below w.heap.size w w') (hF : ∀ k, F' k → F k ∨ w.heap.size ≤ k) : St2F F' w' B1 B2 s t := by
  obtain ⟨O1, O2, h1, h2, a, b, n⟩ := h
  refine ⟨O1, O2, h1.keeps (keepsF (O := O1) hb) (fun _ _ h => h), h2.keeps (keepsF (O := O2) hb) (fun _ _ h => h), fun k hk => ⟨fun hf => ?_, Nat.lt_of_lt_of_le (a k hk).2 hb.size⟩, fun k hk => ⟨fun hf => ?_, Nat.lt_of_lt_of_le (b k hk).2 hb.size⟩, n⟩
  · rcases hF k hf with h | h
    · exact (a k hk).1 h
    · have := (a k hk).2; omega
  · rcases hF k hf with h | h
    · exact (b k hk).1 h
    · have := (b k hk).2; omega
theorem St2F.below (h : St2F F w B1 B2 s t) (hb : Below w.heap.size w w') : St2F F w' B1 B2 s t := h.wide hb (fun _ h => Or.inl h)
theorem St2.toF {M : Nat} (h : St2 M w B1 B2 s t) : St2F (· < M) w B1 B2 s t := by
  obtain ⟨O1, O2, h1, h2, a, b, n⟩ := h
  exact ⟨O1, O2, h1, h2, fun k hk => ⟨Nat.not_lt.2 (a k hk).1, (a k hk).2⟩, fun k hk => ⟨Nat.not_lt.2 (b k hk).1, (b k hk).2⟩, n⟩
theorem sf_step {O1 O2 : Nat → Prop} (h2 : StP w O2 B2 t) (a : ∀ k, O1 k → ¬ F k ∧ k < w.heap.size) (b : ∀ k, O2 k → ¬ F k ∧ k < w.heap.size) (n : ∀ k, O1 k → ¬ O2 k) (hF : FrW F w) {r : Value} {x : Ending} (hs : StepP w O1 B1 r s' x w') : x = .returned r ∧ St2F F w' B1 B2 s' t ∧ Fb F w w' := by
  have hz := hs.2.2.size
  refine ⟨hs.1, ⟨_, O2, hs.2.1, h2.keeps hs.2.2 (fun k h2 h1 => n k h1 h2), fun k hk => ?_, fun k hk => ⟨(b k hk).1, Nat.lt_of_lt_of_le (b k hk).2 hz⟩, fun k hk h2 => ?_⟩, hs.2.2.mono (fun k _ hk => (a k hk).1)⟩
  · rcases hk with hk | hk
    · exact ⟨(a k hk).1, Nat.lt_of_lt_of_le (a k hk).2 hz⟩
    · exact ⟨fun hf => (by have := hF k hf; omega), hk.2⟩
  · rcases hk with hk | hk
    · exact n k hk h2
    · have := b k h2; omega
theorem sf_set (h : St2F F w B1 B2 s t) (hF : FrW F w) (hs : StOk s) (k v : ByteArray) (hv : v.size ≤ 300) : Calls Tryd.prog 27 #[.pointer (some ⟨B1, 0, none⟩), .string k, .string v] w fun x w' => x = .returned (.int .i64 (setV s k v).2) ∧ St2F F w' B1 B2 (setV s k v).1 t ∧ Fb F w w' := by
  obtain ⟨O1, O2, h1, h2, a, b, n⟩ := h
  exact (st_setA w O1 B1 s k v hv h1 hs).mono (fun x w' hx => sf_step h2 a b n hF hx)
theorem sf_del (h : St2F F w B1 B2 s t) (hF : FrW F w) (hs : StOk s) (k : ByteArray) (hk : k.size ≤ maxLen) : Calls Tryd.prog 28 #[.pointer (some ⟨B1, 0, none⟩), .string k] w fun x w' => x = .returned (.int .i64 (delV s k).2) ∧ St2F F w' B1 B2 (delV s k).1 t ∧ Fb F w w' := by
  obtain ⟨O1, O2, h1, h2, a, b, n⟩ := h
  exact (st_delA w O1 B1 s k hk h1 hs).mono (fun x w' hx => sf_step h2 a b n hF hx)
theorem sf_com (h : St2F F w B1 B2 s t) (hF : FrW F w) (hs : StOk s) : Calls Tryd.prog 29 #[.pointer (some ⟨B1, 0, none⟩)] w fun x w' => x = .returned (comR s) ∧ St2F F w' B1 B2 (comV s).1 t ∧ Fb F w w' := by
  obtain ⟨O1, O2, h1, h2, a, b, n⟩ := h
  exact (st_com w O1 B1 s h1 hs).mono (fun x w' hx => sf_step h2 a b n hF hx)
theorem sf_root (h : St2F F w B1 B2 s t) (hs : StOk s) (H : Nat) (hH : H < 18446744073709551616) (hL : LaidOk w) : Calls Tryd.prog 22 #[.pointer (some ⟨B1, 0, none⟩), .int .u64 (H : Int)] w fun x w' => x = .returned (.tuple #[.string (rootV s H).1, .int .i64 (rootV s H).2]) ∧ St2F F w' B1 B2 s t ∧ Below w.heap.size w w' := by
  have h0 := h
  obtain ⟨O1, O2, h1, _⟩ := h
  exact (st_root w O1 B1 s H hH h1 hs hL).mono (fun x w' hx => ⟨hx.1, h0.below hx.2, hx.2⟩)
theorem sf_at (h : St2F F w B1 B2 s t) (hs : StOk s) (H : Nat) (hH : H < 18446744073709551616) : Calls Tryd.prog 19 #[.pointer (some ⟨B1, 0, none⟩), .int .u64 (H : Int)] w fun x w' => AtP w s H x w' ∧ St2F F w' B1 B2 s t ∧ Below w.heap.size w w' := by
  have h0 := h
  obtain ⟨O1, O2, h1, _⟩ := h
  exact (st_at w O1 B1 s H hH h1 hs).mono (fun x w' hx => ⟨hx, h0.below hx.choose_spec.2.2, hx.choose_spec.2.2⟩)
end
/-- pairs that lie in blocks that stay -/
def PsF (F : Nat → Prop) (w : World) (A : Option Addr) (l : List PairV) : Prop := PsAt w A l ∧ ∀ b off, A = some ⟨b, off, none⟩ → l ≠ [] → F b
theorem PsF.fb {F : Nat → Prop} {w w' : World} {A : Option Addr} {l : List PairV} (h : PsF F w A l) (hk : Fb F w w') : PsF F w' A l :=
  ⟨fun j hj => by
    obtain ⟨b, off, e, h1, h2, h3⟩ := h.1 j hj
    have hb := hk.block b h1 (fun hn => hn (h.2 b off e (fun e0 => by rw [e0] at hj; cases hj)))
    exact ⟨b, off, e, Nat.lt_of_lt_of_le h1 hk.size, by rw [World.cell?_of_block hb]; exact h2, by rw [World.cell?_of_block hb]; exact h3⟩, h.2⟩
theorem PsF.of_lo {F : Nat → Prop} {w : World} {lo : Nat} {A : Option Addr} {l : List PairV} (h : PsLo w lo A l) (hF : ∀ k, k < lo → F k) : PsF F w A l :=
  ⟨h.at, fun b off e hne => by
    cases l with
    | nil => exact absurd rfl hne
    | cons p l =>
      obtain ⟨b', off', e', h1, _⟩ := h 0 (by simp)
      rw [e] at e'
      injection e' with e'
      injection e' with e1 e2
      rw [e1]; exact hF _ h1⟩
/-- the address of x[n:] -/
def subS (A : Option Addr) (c n : Nat) : Option Addr := if c = n then A else A.map (·.add (n * 2))
set_option maxRecDepth 100000 in
theorem subS_run (A : Option Addr) (n c a : Nat) (h1 : a ≤ n) (w : World) : (Instr.slice 35 (.slice A n c) (some (.int .i64 (a : Int))) none none).run Tryd.prog w = .ok (.slice (subS A c a) (n - a) (c - a)) w := by
  rw [run_slice_l w 35 A n c Tryd.underlying35 .i64 (a : Int) (by omega) (by omega)]
  rfl
set_option maxRecDepth 100000 in
theorem preS_run (A : Option Addr) (n c m : Nat) (h2 : m ≤ c) (w : World) : (Instr.slice 35 (.slice A n c) none (some (.int .i64 (m : Int))) none).run Tryd.prog w = .ok (.slice A m c) w := by
  rw [run_slice_h w 35 A n c Tryd.underlying35 .i64 (m : Int) (by omega) (by omega)]
  have hs : (sizeOf (Tryd.prog.elem 35)).run Tryd.prog w = .ok 2 w := by kernel_rfl
  rw [hs]
  cases A <;> simp [sliced, Result.andThen, Addr.add_zero']
theorem sub_at {w : World} {A : Option Addr} {l : List PairV} {c : Nat} (h : PsAt w A l) (hc : l.length ≤ c) (n : Nat) : PrE.At w (subS A c n) (l.drop n) := by
  intro i hi
  have hl := List.length_drop (i := n) (l := l)
  obtain ⟨b, off, e, h1, h2⟩ := psAt_E.1 h (n + i) (by omega)
  subst e
  unfold subS
  rw [if_neg (by omega), Option.map_some]
  refine ⟨b, off + n * 2, by rw [Kq.Elt.add_flat], h1, fun j hj => ?_⟩
  rw [List.getElem_drop, ← h2 j hj]
  congr 2
  show off + n * 2 + i * 2 + j = off + (n + i) * 2 + j
  omega
end Go.Proofs.YtcknhnbckbocjaaDoor
