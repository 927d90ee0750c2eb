/- Merged: PkChk, NtVal, NoteBy, TbM, RefRight, RefVal. A packet, and the contract of packet.Check. No condition. A note, or an item, as a value; in memory. No condition. Contracts of note.Check, note.By. No condition. Mathematics of a table: items in order, what notes make of them. No condition. Contract of carrackref10.Right. Condition: sequence and timeout are not negative. Contract of carrackref03.Value: a number of bytes. Condition: eight bytes at most. -/
import Derived.WalkSpells
import Derived.Test.YtkbiolhcpghmkaaGreatWireMQ
import Derived.Test.YtkbiolhcpghmkaaGreatObjQ
import Derived.Test.YtkbiolhcpghmkaaGreatOrdLQ
import Derived.Test.YtkbiolhcpghmkaaGreatWireRd2Q
namespace Go.Proofs.YtkbiolhcpghmkaaGreat
open Go.RowKit
set_option linter.unusedVariables false
/-- a packet -/
structure PkV where
  f : Int
  q : Int
  t : Int
  d : ByteArray
def PkV.val (p : PkV) : Value := .agg #[.int .i64 p.f, .int .u64 p.q, .int .u64 p.t, .string p.d]
def PkOk (p : PkV) : Prop := 0 ≤ p.f ∧ p.f ≤ 1 ∧ p.q ≠ 0 ∧ p.t ≠ 0 ∧ p.d.size ≤ 64
instance (p : PkV) : Decidable (PkOk p) := by unfold PkOk; infer_instance
set_option maxRecDepth 100000 in
set_option maxHeartbeats 1000000 in
theorem pk_check_ok (f q t : Int) (d : ByteArray) (w : World) (h : PkOk ⟨f, q, t, d⟩) :
    Calls Tryz.prog 62 #[.agg #[.int .i64 f, .int .u64 q, .int .u64 t, .string d]] w fun x w' => x = .returned (.int .i64 0) ∧ Below w.heap.size w w' := by
  obtain ⟨h1, h2, h3, h4, h5⟩ := h
  simp only at h1 h2 h3 h4 h5
  have e1 : decide (f < 0) = false := decide_eq_false (by omega)
  have e2 : decide (1 < f) = false := decide_eq_false (by omega)
  have e3 : (q == 0) = false := by simpa using h3
  have e4 : (t == 0) = false := by simpa using h4
  have e5 : decide (64 < (d.size : Int)) = false := decide_eq_false (by omega)
  clear h3 h4
  go_enter Tryz.func62, Tryz.ntmps62
  go_wp2
  go_ret
  exact ⟨rfl, Kq.below_alloc _ _⟩
set_option maxRecDepth 100000 in
set_option maxHeartbeats 1000000 in
theorem pk_check_bad (f q t : Int) (d : ByteArray) (w : World) (h : ¬ PkOk ⟨f, q, t, d⟩) :
    Calls Tryz.prog 62 #[.agg #[.int .i64 f, .int .u64 q, .int .u64 t, .string d]] w fun x w' => x = .returned (.int .i64 1) ∧ Below w.heap.size w w' := by
  have H := Lib.hid h
  clear h
  by_cases h1 : f < 0
  · have e1 : decide (f < 0) = true := decide_eq_true h1
    go_enter Tryz.func62, Tryz.ntmps62
    go_wp2
    go_ret
    exact ⟨rfl, Kq.below_alloc _ _⟩
  have e1 : decide (f < 0) = false := decide_eq_false h1
  by_cases h2 : 1 < f
  · have e2 : decide (1 < f) = true := decide_eq_true h2
    go_enter Tryz.func62, Tryz.ntmps62
    go_wp2
    go_ret
    exact ⟨rfl, Kq.below_alloc _ _⟩
  have e2 : decide (1 < f) = false := decide_eq_false h2
  by_cases h3 : q = 0
  · subst h3
    go_enter Tryz.func62, Tryz.ntmps62
    go_wp2
    go_ret
    exact ⟨rfl, Kq.below_alloc _ _⟩
  have e3 : (q == 0) = false := by simpa using h3
  by_cases h4 : t = 0
  · subst h4
    clear h3
    go_enter Tryz.func62, Tryz.ntmps62
    go_wp2
    go_ret
    exact ⟨rfl, Kq.below_alloc _ _⟩
  have e4 : (t == 0) = false := by simpa using h4
  have h5 : 64 < d.size := by
    refine Nat.lt_of_not_le fun h5 => H.out ⟨by show 0 ≤ f; omega, by show f ≤ 1; omega, h3, h4, h5⟩
  have e5 : decide (64 < (d.size : Int)) = true := decide_eq_true (by omega)
  clear h3 h4
  go_enter Tryz.func62, Tryz.ntmps62
  go_wp2
  go_ret
  exact ⟨rfl, Kq.below_alloc _ _⟩
end Go.Proofs.YtkbiolhcpghmkaaGreat
namespace Go.Proofs.YtkbiolhcpghmkaaGreat
open Go.RowKit
set_option linter.unusedVariables false
/-- a note, or an item: a mark and a packet -/
structure NtV where
  k : Int
  f : Int
  q : Int
  t : Int
  d : ByteArray
def NtV.p (n : NtV) : PkV := ⟨n.f, n.q, n.t, n.d⟩
def NtV.nc (n : NtV) : List Value := [.int .i64 n.k, .int .i64 n.f, .int .u64 n.q, .int .u64 n.t, .string n.d]
def NtV.ic (n : NtV) : List Value := [.int .i64 n.f, .int .u64 n.q, .int .u64 n.t, .string n.d, .int .i64 n.k]
/-- its numbers are a uint64's -/
def NtV.wf (n : NtV) : Prop := (0 ≤ n.q ∧ n.q < 18446744073709551616) ∧ (0 ≤ n.t ∧ n.t < 18446744073709551616)
/-- notes (or items) in memory -/
def EnAt (c : NtV → List Value) (w : World) (A : Option Addr) (l : List NtV) : Prop := ∀ j (h : j < l.length), ∃ b off, A = some ⟨b, off, none⟩ ∧ b < w.heap.size ∧ ∀ i, i < 5 → w.cell? ⟨b, off + j * 5 + i, none⟩ = (c l[j])[i]?
theorem EnAt.keeps {c : NtV → List Value} {w w' : World} {A : Option Addr} {l : List NtV} {S : Nat → Prop} (h : EnAt c w A l) (hk : Kq.Keeps S w w') (hS : ∀ g o, A = some ⟨g, o, none⟩ → ¬ S g) : EnAt c w' A l := fun j hj => by
  obtain ⟨b, off, rfl, hb, hc⟩ := h j hj
  refine ⟨b, off, rfl, Nat.lt_of_lt_of_le hb hk.size, fun i hi => ?_⟩
  rw [← hc i hi]
  unfold World.cell?
  rw [hk.block b hb (hS b off rfl)]
theorem EnAt.below {c : NtV → List Value} {w w' : World} {A : Option Addr} {l : List NtV} (h : EnAt c w A l) (hb : Below w.heap.size w w') : EnAt c w' A l :=
  h.keeps (Kq.Keeps.of_below (S := fun _ => False) hb (fun k h1 h2 => absurd h1 (Nat.not_le.2 h2))) (fun _ _ _ => id)
/-- may it stand in a list? -/
def EnOk (marks : List Int) (n : NtV) : Prop := n.k ∈ marks ∧ PkOk n.p
end Go.Proofs.YtkbiolhcpghmkaaGreat
namespace Go.Proofs.YtkbiolhcpghmkaaGreat
open Go.RowKit
set_option linter.unusedVariables false
def ntArg (k f q t : Int) (d : ByteArray) : Value := .agg #[.int .i64 k, .int .i64 f, .int .u64 q, .int .u64 t, .string d]
def NtOk (k f q t : Int) (d : ByteArray) : Prop := 1 ≤ k ∧ k ≤ 4 ∧ PkOk ⟨f, q, t, d⟩
section
variable (k f q t : Int) (d : ByteArray) (w : World)
set_option maxRecDepth 100000 in
set_option maxHeartbeats 1000000 in
theorem nt_check_ok (h : NtOk k f q t d) :
    Calls Tryz.prog 63 #[.agg #[.int .i64 k, .int .i64 f, .int .u64 q, .int .u64 t, .string d]] w fun x w' => x = .returned (.int .i64 0) ∧ Below w.heap.size w w' := by
  have d1 : decide (k < 1) = false := decide_eq_false (by have := h.1; omega)
  have d2 : decide (4 < k) = false := decide_eq_false (by have := h.2.1; omega)
  have H := Lib.hid h.2.2
  clear h
  go_enter Tryz.func63, Tryz.ntmps63
  go_wp2_with fail
  refine (pk_check_ok f q t d _ H.out).mono ?_
  rintro x w2 ⟨rfl, b2⟩
  have HB := Lib.hid ((Kq.below_alloc w _).trans (b2.mono (Kq.below_alloc w _).size))
  clear b2
  go_wp2
  go_ret
  exact ⟨rfl, HB.out⟩
set_option maxRecDepth 100000 in
set_option maxHeartbeats 1000000 in
theorem nt_check_bad (h : ¬ NtOk k f q t d) :
    Calls Tryz.prog 63 #[.agg #[.int .i64 k, .int .i64 f, .int .u64 q, .int .u64 t, .string d]] w fun x w' => x = .returned (.int .i64 1) ∧ Below w.heap.size w w' := by
  have H := Lib.hid h
  clear h
  by_cases h1 : k < 1
  · have d1 : decide (k < 1) = true := decide_eq_true h1
    go_enter Tryz.func63, Tryz.ntmps63
    go_wp2
    go_ret
    exact ⟨rfl, Kq.below_alloc _ _⟩
  have d1 : decide (k < 1) = false := decide_eq_false h1
  by_cases h2 : 4 < k
  · have d2 : decide (4 < k) = true := decide_eq_true h2
    go_enter Tryz.func63, Tryz.ntmps63
    go_wp2
    go_ret
    exact ⟨rfl, Kq.below_alloc _ _⟩
  have d2 : decide (4 < k) = false := decide_eq_false h2
  have HP : Hid (¬ PkOk ⟨f, q, t, d⟩) := Lib.hid (fun hp => H.out ⟨by omega, by omega, hp⟩)
  clear h1 h2
  go_enter Tryz.func63, Tryz.ntmps63
  go_wp2_with fail
  refine (pk_check_bad f q t d _ HP.out).mono ?_
  rintro x w2 ⟨rfl, b2⟩
  have HB := Lib.hid ((Kq.below_alloc w _).trans (b2.mono (Kq.below_alloc w _).size))
  clear b2
  go_wp2
  go_ret
  exact ⟨rfl, HB.out⟩
/-- which chain notes it -/
def byOf (k f : Int) : Int := if k = 2 then 1 - f else f
end
end Go.Proofs.YtkbiolhcpghmkaaGreat
namespace Go.Proofs.YtkbiolhcpghmkaaGreat
open Go.RowKit Go.Kq
set_option linter.unusedVariables false
/-- by what an item is known -/
abbrev NmV := Int × Int
def NtV.nm (n : NtV) : NmV := (n.f, n.q)
def ltN (a b : NmV) : Bool := decide (a.1 < b.1 ∨ (a.1 = b.1 ∧ a.2 < b.2))
def tbR : Ord NtV NmV where
  key := NtV.nm
  lt := ltN
  irr a := decide_eq_false (by omega)
  trans {a b c} h1 h2 := by
    have h1 := of_decide_eq_true h1
    have h2 := of_decide_eq_true h2
    exact decide_eq_true (by omega)
  tri {a b} h1 h2 := by
    have h1 := of_decide_eq_false h1
    refine decide_eq_true ?_
    have h3 : ¬ (a.1 = b.1 ∧ a.2 = b.2) := fun h => h2 (Prod.ext h.1 h.2)
    omega
def NtV.as (n : NtV) (k : Int) : NtV := { n with k := k }
theorem NtV.as_nm (n : NtV) (k : Int) : (n.as k).nm = n.nm := rfl
/-- an item that may be -/
def ItOk (n : NtV) : Prop := (n.k = 1 ∨ n.k = 2) ∧ PkOk n.p
instance (n : NtV) : Decidable (ItOk n) := by unfold ItOk; infer_instance
instance (n : NtV) : Decidable (EnOk [1, 2, 3, 4] n) := by unfold EnOk; infer_instance
/-- a table: its room, its items -/
structure TbV where
  room : Nat
  l : List NtV
structure TbOk (s : TbV) : Prop where
  sort : tbR.Sort s.l
  ok : ∀ n ∈ s.l, ItOk n ∧ n.wf
  len : s.l.length ≤ s.room
  r1 : 1 ≤ s.room
  r40 : s.room ≤ 40
/-- an item more, if there is room -/
def addV (s : TbV) (n : NtV) : TbV × Int := if s.room ≤ s.l.length then (s, 2) else (⟨s.room, tbR.ins s.l n⟩, 0)
/-- a packet was sent, received; is over -/
def sentV (s : TbV) (n : NtV) : TbV × Int := (tbR.look s.l n.nm).elim (addV s (n.as 1)) (fun _ => (s, 0))
def recvV (s : TbV) (n : NtV) : TbV × Int := (tbR.look s.l n.nm).elim (addV s (n.as 2)) (fun i => (⟨s.room, tbR.ins s.l (i.as 2)⟩, 0))
def overV (s : TbV) (n : NtV) : TbV × Int := (⟨s.room, tbR.del s.l n.nm⟩, 0)
/-- a note -/
def appV (s : TbV) (n : NtV) : TbV × Int :=
  if ¬ EnOk [1, 2, 3, 4] n then (s, 1) else if n.k = 1 then sentV s n else if n.k = 2 then recvV s n else overV s n
def drpV (s : TbV) (f q : Int) : TbV × Int := if tbR.look s.l (f, q) = none then (s, 3) else (⟨s.room, tbR.del s.l (f, q)⟩, 0)
/-- how many notes from the front -/
def fitV : TbV → List NtV → Nat
  | _, [] => 0
  | s, n :: l => if (appV s n).2 = 0 then fitV (appV s n).1 l + 1 else 0
theorem PkOk.range {p : PkV} (h : PkOk p) : 0 ≤ p.f ∧ p.f ≤ 1 := ⟨h.1, h.2.1⟩
theorem tb_ins {s : TbV} (h : TbOk s) {n : NtV} (hn : ItOk n) (hw : n.wf) (hr : s.l.length < s.room ∨ (tbR.look s.l n.nm).isSome = true) : TbOk ⟨s.room, tbR.ins s.l n⟩ := by
  refine ⟨Ord.sort_ins _ _ h.sort, fun x hx => ?_, ?_, h.r1, h.r40⟩
  · rcases Ord.mem_ins _ _ _ hx with rfl | hx
    · exact ⟨hn, hw⟩
    · exact h.ok x hx
  · show (tbR.ins s.l n).length ≤ s.room
    rw [Ord.len_ins s.l n h.sort]
    have := h.len
    show (if (tbR.look s.l n.nm).isSome then _ else _) ≤ _
    rcases hr with hr | hr
    · split <;> omega
    · rw [if_pos hr]; exact this
theorem tb_del {s : TbV} (h : TbOk s) (k : NmV) : TbOk ⟨s.room, tbR.del s.l k⟩ := by
  refine ⟨Ord.sort_del _ _ h.sort, fun x hx => h.ok x (Ord.mem_del _ _ _ hx), ?_, h.r1, h.r40⟩
  show (tbR.del s.l k).length ≤ s.room
  rw [Ord.len_del]
  have := h.len
  split <;> omega
theorem addV_ok {s : TbV} (h : TbOk s) {n : NtV} (hn : ItOk n) (hw : n.wf) : TbOk (addV s n).1 := by
  unfold addV
  by_cases hr : s.room ≤ s.l.length
  · rw [if_pos hr]; exact h
  · rw [if_neg hr]; exact tb_ins h hn hw (Or.inl (by omega))
theorem appV_ok {s : TbV} (h : TbOk s) (n : NtV) (hw : n.wf) : TbOk (appV s n).1 := by
  unfold appV
  by_cases h0 : EnOk [1, 2, 3, 4] n
  · rw [if_neg (not_not_intro h0)]
    by_cases h1 : n.k = 1
    · rw [if_pos h1]
      unfold sentV
      cases e : tbR.look s.l n.nm with
      | none => exact addV_ok h ⟨Or.inl rfl, h0.2⟩ hw
      | some i => exact h
    · rw [if_neg h1]
      by_cases h2 : n.k = 2
      · rw [if_pos h2]
        unfold recvV
        cases e : tbR.look s.l n.nm with
        | none => exact addV_ok h ⟨Or.inr rfl, h0.2⟩ hw
        | some i =>
          have hm := Ord.look_mem _ _ _ e
          have hi := h.ok i hm.1
          refine tb_ins h (n := i.as 2) ⟨Or.inr rfl, hi.1.2⟩ hi.2 (Or.inr ?_)
          show (tbR.look s.l i.nm).isSome = true
          rw [show i.nm = n.nm from hm.2, e]; rfl
      · rw [if_neg h2]; exact tb_del h _
  · rw [if_pos h0]; exact h
theorem drpV_ok {s : TbV} (h : TbOk s) (f q : Int) : TbOk (drpV s f q).1 := by
  unfold drpV
  split
  · exact h
  · exact tb_del h _
theorem addV_room (s : TbV) (n : NtV) : (addV s n).1.room = s.room := by unfold addV; split <;> rfl
theorem appV_room (s : TbV) (n : NtV) : (appV s n).1.room = s.room := by
  unfold appV
  split
  · rfl
  · split
    · unfold sentV
      cases tbR.look s.l n.nm with
      | none => exact addV_room _ _
      | some i => rfl
    · split
      · unfold recvV
        cases tbR.look s.l n.nm with
        | none => exact addV_room _ _
        | some i => rfl
      · rfl
theorem drpV_room (s : TbV) (f q : Int) : (drpV s f q).1.room = s.room := by unfold drpV; split <;> rfl
theorem fitV_le : ∀ (l : List NtV) (s : TbV), fitV s l ≤ l.length
  | [], s => Nat.le_refl _
  | n :: l, s => by
    unfold fitV
    split
    · have := fitV_le l (appV s n).1; simp; omega
    · simp
/-- behind the first j notes -/
def appsV : TbV → List NtV → TbV
  | s, [] => s
  | s, n :: l => appsV (appV s n).1 l
theorem appsV_snoc : ∀ (l : List NtV) (n : NtV) (s : TbV), appsV s (l ++ [n]) = (appV (appsV s l) n).1
  | [], n, s => rfl
  | m :: l, n, s => appsV_snoc l n _
theorem appsV_ok : ∀ (l : List NtV) (s : TbV), TbOk s → (∀ n ∈ l, n.wf) → TbOk (appsV s l)
  | [], s, h, _ => h
  | n :: l, s, h, hw => appsV_ok l _ (appV_ok h n (hw n List.mem_cons_self)) (fun m hm => hw m (List.mem_cons_of_mem _ hm))
/-- the first j notes fit, one by one: then that many do at least -/
theorem fitV_stop : ∀ (l : List NtV) (s : TbV) (j : Nat) (h : j < l.length), (∀ i (hi : i < l.length), i < j → (appV (appsV s (l.take i)) l[i]).2 = 0) → (appV (appsV s (l.take j)) l[j]).2 ≠ 0 → fitV s l = j
  | n :: l, s, j, h, hall, hno => by
    unfold fitV
    cases j with
    | zero => exact if_neg hno
    | succ j =>
      have h0 := hall 0 (by simp) (by omega)
      have h1 : (appV s n).2 = 0 := h0
      rw [if_pos h1]
      congr 1
      exact fitV_stop l (appV s n).1 j (by simpa using h) (fun i hi hij => hall (i + 1) (by simpa using hi) (by omega)) hno
theorem fitV_all : ∀ (l : List NtV) (s : TbV), (∀ i (hi : i < l.length), (appV (appsV s (l.take i)) l[i]).2 = 0) → fitV s l = l.length
  | [], s, _ => rfl
  | n :: l, s, h => by
    unfold fitV
    have h1 : (appV s n).2 = 0 := h 0 (by simp)
    rw [if_pos h1, fitV_all l (appV s n).1 (fun i hi => h (i + 1) (by simpa using hi))]
    rfl
end Go.Proofs.YtkbiolhcpghmkaaGreat
namespace Go.Proofs.YtkbiolhcpghmkaaGreat
open Go.RowKit
set_option linter.unusedVariables false
set_option maxRecDepth 100000 in
set_option maxHeartbeats 1000000 in
theorem ref_right_ok (f q t : Int) (d : ByteArray) (w : World) (h : PkOk ⟨f, q, t, d⟩) (hq : 0 ≤ q) (ht : 0 ≤ t) :
    Calls Tryz.prog 71 #[.agg #[.int .i64 f, .int .u64 q, .int .u64 t, .string d]] w fun x w' => x = .returned (.bool true) ∧ Below w.heap.size w w' := by
  obtain ⟨h1, h2, h3, h4, h5⟩ := h
  simp only at h1 h2 h3 h4 h5
  have e3 : decide (0 < q) = true := decide_eq_true (by omega)
  have e4 : decide (0 < t) = true := decide_eq_true (by omega)
  have e5 : decide ((d.size : Int) ≤ 64) = true := decide_eq_true (by omega)
  have e6 : ¬ 64 < d.size := by omega
  clear h3 h4
  have h01 : f = 0 ∨ f = 1 := by omega
  clear h1 h2
  rcases h01 with rfl | rfl
  · go_enter Tryz.func71, Tryz.ntmps71
    go_wp2
    go_ret
    exact ⟨rfl, Kq.below_alloc _ _⟩
  · go_enter Tryz.func71, Tryz.ntmps71
    go_wp2
    go_ret
    exact ⟨rfl, Kq.below_alloc _ _⟩
set_option maxRecDepth 100000 in
set_option maxHeartbeats 2000000 in
theorem ref_right_bad (f q t : Int) (d : ByteArray) (w : World) (h : ¬ PkOk ⟨f, q, t, d⟩) (hq : 0 ≤ q) (ht : 0 ≤ t) :
    Calls Tryz.prog 71 #[.agg #[.int .i64 f, .int .u64 q, .int .u64 t, .string d]] w fun x w' => x = .returned (.bool false) ∧ Below w.heap.size w w' := by
  have H := Lib.hid h
  clear h
  by_cases h0 : f = 0 ∨ f = 1
  · have H0 := Lib.hid h0
    by_cases h3 : 0 < q
    · by_cases h4 : 0 < t
      · have h5 : 64 < d.size := by
          refine Nat.lt_of_not_le fun h5 => H.out ⟨?_, ?_, ?_, ?_, h5⟩
          · show 0 ≤ f; omega
          · show f ≤ 1; omega
          · show q ≠ 0; omega
          · show t ≠ 0; omega
        have e3 : decide (0 < q) = true := decide_eq_true h3
        have e4 : decide (0 < t) = true := decide_eq_true h4
        have e5 : decide ((d.size : Int) ≤ 64) = false := decide_eq_false (by omega)
        rcases h0 with rfl | rfl
        · go_enter Tryz.func71, Tryz.ntmps71
          go_wp2
          go_ret
          exact ⟨rfl, Kq.below_alloc _ _⟩
        · go_enter Tryz.func71, Tryz.ntmps71
          go_wp2
          go_ret
          exact ⟨rfl, Kq.below_alloc _ _⟩
      · have e3 : decide (0 < q) = true := decide_eq_true h3
        have e4 : decide (0 < t) = false := decide_eq_false h4
        rcases h0 with rfl | rfl
        · go_enter Tryz.func71, Tryz.ntmps71
          go_wp2
          go_ret
          exact ⟨rfl, Kq.below_alloc _ _⟩
        · go_enter Tryz.func71, Tryz.ntmps71
          go_wp2
          go_ret
          exact ⟨rfl, Kq.below_alloc _ _⟩
    · have e3 : decide (0 < q) = false := decide_eq_false h3
      rcases h0 with rfl | rfl
      · go_enter Tryz.func71, Tryz.ntmps71
        go_wp2
        go_ret
        exact ⟨rfl, Kq.below_alloc _ _⟩
      · go_enter Tryz.func71, Tryz.ntmps71
        go_wp2
        go_ret
        exact ⟨rfl, Kq.below_alloc _ _⟩
  · have n0 : (f == 0) = false := by simp; omega
    have n1 : (f == 1) = false := by simp; omega
    clear h0
    go_enter Tryz.func71, Tryz.ntmps71
    go_wp2
    go_ret
    exact ⟨rfl, Kq.below_alloc _ _⟩
end Go.Proofs.YtkbiolhcpghmkaaGreat
namespace Go.Proofs.YtkbiolhcpghmkaaGreat
open Go.RowKit
set_option linter.unusedVariables false
theorem val_step (v : Nat) (b : UInt8) (hv : v < 256 ^ 7) : IntKind.u64.wrap ((v : Int) * 256 + ((b.toNat : Nat) : Int)) = ((v * 256 + b.toNat : Nat) : Int) := by
  have hb := b.toNat_lt
  rw [IntWalk.u64_in _ (by omega)]; omega
theorem val_one_byte (b : UInt8) : IntKind.u64.wrap ((b.toNat : Nat) : Int) = ((b.toNat : Nat) : Int) := by
  have hb := b.toNat_lt
  exact IntWalk.u64_in _ (by omega)
theorem val_mul (v : Nat) (hv : v < 256 ^ 7) : IntKind.u64.wrap ((v : Int) * 256) = ((v : Int) * 256) := IntWalk.u64_in _ (by omega)
end Go.Proofs.YtkbiolhcpghmkaaGreat
