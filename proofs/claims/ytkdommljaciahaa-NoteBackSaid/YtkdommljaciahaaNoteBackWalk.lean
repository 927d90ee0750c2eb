/- carracklaw14.NoteBack walked. No condition. -/
import Derived.WalkSpells
import Derived.Deep.RegionHeld
import Derived.Test.YtkdommljaciahaaNoteAwake
import Derived.Test.YtkdommljaciahaaNtBytes
import Derived.Test.YtkdommljaciahaaNtFew
import Derived.Test.YtkdommljaciahaaNtOpen
import Derived.Test.YtkdommljaciahaaNtSame
namespace Go.Proofs.Ytkdommljaciahaa.noteBack
open Go.RowKit
set_option linter.unusedVariables false
/-- the law's boxes -/
structure LB (W w : World) (A B : Option Addr) (ca cb : Nat) (l m : List NtV) (a i : Int) : Prop where
  b0 : w.heap[W.heap.size]? = some (.cells #[.slice A l.length ca] 22 (0, 0))
  b1 : w.heap[W.heap.size + 1]? = some (.cells #[.slice B m.length cb] 23 (0, 0))
  b2 : QB w (W.heap.size + 2) a i
  bel : Below W.heap.size W w
variable {W w w' : World} {A B : Option Addr} {ca cb : Nat} {l m : List NtV} {a i : Int}
theorem LB.keep {R : Nat} (h : LB W w A B ca cb l m a i) (hk : Kq.Keeps (· = R) w w') (hR : W.heap.size + 3 ≤ R) : LB W w' A B ca cb l m a i :=
  ⟨hk.blk h.b0 (by omega), hk.blk h.b1 (by omega), h.b2.later hk (by omega), by
    have hb := h.bel
    exact ⟨hk.os.trans hb.os, hk.tape.trans hb.tape, hk.output.trans hb.output, Nat.le_trans hb.size hk.size, fun k hk' => by rw [hk.block k (Nat.lt_of_lt_of_le hk' hb.size) (by omega), hb.block k hk']⟩⟩
theorem LB.below (h : LB W w A B ca cb l m a i) (hb : Below w.heap.size w w') : LB W w' A B ca cb l m a i :=
  ⟨Kq.below_blk hb h.b0 (Kq.blk_lt h.b0), Kq.below_blk hb h.b1 (Kq.blk_lt h.b1), ⟨Kq.below_blk hb h.b2.blk (Kq.blk_lt h.b2.blk)⟩, h.bel.trans (hb.mono h.bel.size)⟩
theorem LB.drew (h : LB W w A B ca cb l m a i) : LB W w.drew A B ca cb l m a i := ⟨h.b0, h.b1, ⟨h.b2.blk⟩, h.bel.drew⟩
theorem LB.lt (h : LB W w A B ca cb l m a i) : W.heap.size + 3 ≤ w.heap.size := Kq.blk_lt h.b2.blk
theorem LB.start : LB W (((W.alloc (.cells #[.slice A l.length ca] 22)).alloc (.cells #[.slice B m.length cb] 23)).alloc (.cells #[.int .u64 a, .int .i64 i] 26)) A B ca cb l m a i := by
  have x1 := Kq.below_alloc W (.cells #[.slice A l.length ca] 22)
  have n1 := Kq.blk_new W #[.slice A l.length ca] 22 (0, 0)
  have z1 : (W.alloc (.cells #[.slice A l.length ca] 22)).heap.size = W.heap.size + 1 := by simp
  generalize W.alloc (.cells #[.slice A l.length ca] 22) = w1 at *
  have x2 := Kq.below_alloc w1 (.cells #[.slice B m.length cb] 23)
  have n2 := Kq.blk_new w1 #[.slice B m.length cb] 23 (0, 0)
  have z2 : (w1.alloc (.cells #[.slice B m.length cb] 23)).heap.size = W.heap.size + 2 := by simp [z1]
  generalize w1.alloc (.cells #[.slice B m.length cb] 23) = w2 at *
  have x3 := Kq.below_alloc w2 (.cells #[.int .u64 a, .int .i64 i] 26)
  have n3 := Kq.blk_new w2 #[.int .u64 a, .int .i64 i] 26 (0, 0)
  generalize w2.alloc (.cells #[.int .u64 a, .int .i64 i] 26) = w3 at *
  rw [z1] at n2
  rw [z2] at n3
  refine ⟨?_, ?_, ⟨n3⟩, ?_⟩
  · exact Kq.below_blk x3 (Kq.below_blk x2 n1 (by omega)) (by omega)
  · exact Kq.below_blk x3 n2 (by omega)
  · exact (x1.trans (x2.mono (by omega))).trans (x3.mono (by omega))
theorem EnAt.bel {c : NtV → List Value} {w w' : World} {A : Option Addr} {l : List NtV} (h : EnAt c w A l) (hb : Below w.heap.size w w') : EnAt c w' A l := EnAt.below h hb
/-- may all be put? -/
def AllOk (l m : List NtV) (i : Int) : Prop := ((0 ≤ i ∧ i ≤ 65535) ∧ (m.length ≤ 255 ∧ ∀ n ∈ m, EnOk [1, 2] n)) ∧ (l.length ≤ 255 ∧ ∀ n ∈ l, EnOk [1, 2, 3, 4] n)
def allL (l m : List NtV) (a i : Int) : List Nat := ((num8 a.toNat ++ num8 i.toNat) ++ ([m.length] ++ encL m)) ++ ([l.length] ++ encL l)
theorem allL_lt (h : AllOk l m i) : ∀ b ∈ allL l m a i, b < 256 := by
  intro b hb
  rcases List.mem_append.1 hb with hb | hb
  · rcases List.mem_append.1 hb with hb | hb
    · rcases List.mem_append.1 hb with hb | hb
      · exact num8_lt _ b hb
      · exact num8_lt _ b hb
    · rcases List.mem_append.1 hb with hb | hb
      · have := h.1.2.1; simp only [List.mem_singleton] at hb; omega
      · exact encL_lt [1, 2] (by decide) m h.1.2.2 b hb
  · rcases List.mem_append.1 hb with hb | hb
    · have := h.2.1; simp only [List.mem_singleton] at hb; omega
    · exact encL_lt [1, 2, 3, 4] (by decide) l h.2.2 b hb
theorem allL_len (h : AllOk l m i) : (allL l m a i).length ≤ 1000000 := by
  have h1 := encL_len [1, 2] m h.1.2.2
  have h2 := encL_len [1, 2, 3, 4] l h.2.2
  have h3 := h.1.2.1
  have h4 := h.2.1
  simp only [allL, List.length_append, num8_len, List.length_cons, List.length_nil]
  omega
theorem WrStep.then {w w1 w2 : World} {base R : Nat} {v v1 : Value} {e e1 : Int} {acc l1 : List Nat} {ok1 ok2 : Prop} {a1 a2 : List Nat} {n1 n2 : Nat} {x : Ending}
    (W1 : Wr w1 base R e1 v1 l1) (K1 : Kq.Keeps (fun k => k = R ∨ some k = v.ownBlock) w w1) (F1 : ∀ k, v1.ownBlock = some k → some k = v.ownBlock ∨ w.heap.size ≤ k)
    (s1 : l1.length ≤ acc.length + n1) (g1 : ok1 → e1 = e ∧ l1 = acc ++ a1) (b1 : ¬ ok1 → e1 = keepE e 1) (h2 : WrStep w1 base R v1 e1 l1 ok2 a2 n2 x w2) : WrStep w base R v e acc (ok1 ∧ ok2) (a1 ++ a2) (n1 + n2) x w2 := by
  obtain ⟨e2, l2, ⟨rfl, v2, W2, K2, F2⟩, s2, g2, b2⟩ := h2
  have M := WrMid.stepV (w := w) ⟨W1, K1, F1⟩ W2 K2 F2
  refine ⟨e2, l2, M.post, by omega, fun h => ?_, fun h => ?_⟩
  · obtain ⟨rfl, rfl⟩ := g1 h.1
    obtain ⟨rfl, rfl⟩ := g2 h.2
    exact ⟨rfl, by rw [List.append_assoc]⟩
  · by_cases h1 : ok1
    · obtain ⟨rfl, rfl⟩ := g1 h1
      exact b2 (fun h2 => h ⟨h1, h2⟩)
    · have h1' := b1 h1
      by_cases h2 : ok2
      · rw [(g2 h2).1, h1']
      · rw [b2 h2, h1', keepE_one]
/-- below, from a writer's birth on -/
theorem wr_below {w w2 : World} {e : Int} {v : Value} {acc : List Nat} (W : Wr w2 w.heap.size w.heap.size e v acc) (K : Kq.Keeps (fun k => k = w.heap.size ∨ some k = (Value.slice none 0 0).ownBlock) (w.alloc (.cells #[.int .i64 0, .slice none 0 0] 62 (0, 0))) w2) : Below w.heap.size w w2 :=
  (Kq.below_alloc w _).trans (K.below (Kq.below_alloc w _).size (fun k _ hk => by
    rcases hk with rfl | hk
    · exact Nat.le_refl _
    · cases hk))
theorem WrStep.any {w w1 : World} {base R : Nat} {v : Value} {e : Int} {acc : List Nat} {ok : Prop} {add : List Nat} {n : Nat} {x : Ending} (h : WrStep w base R v e acc ok add n x w1) :
    x = .returned (.tuple #[]) ∧ ∃ e1 l1 v1, Wr w1 base R e1 v1 l1 ∧ Kq.Keeps (fun k => k = R ∨ some k = v.ownBlock) w w1 ∧ (∀ k, v1.ownBlock = some k → some k = v.ownBlock ∨ w.heap.size ≤ k) ∧ l1.length ≤ acc.length + n ∧ (ok → e1 = e ∧ l1 = acc ++ add) ∧ (¬ ok → e1 = keepE e 1) := by
  obtain ⟨e1, l1, ⟨rfl, v1, W1, K1, F1⟩, s1, g1, b1⟩ := h
  exact ⟨rfl, e1, l1, v1, W1, K1, F1, s1, g1, b1⟩
theorem hab {c : NtV → List Value} {w0 : World} {A : Option Addr} {l : List NtV} (hA : EnAt c w0 A l) {v : Value} (hv : ∀ k, v.ownBlock = some k → some k = (Value.slice none 0 0).ownBlock ∨ w0.heap.size ≤ k) :
    ∀ g o, 0 < l.length → A = some ⟨g, o, none⟩ → g ≠ w0.heap.size ∧ some g ≠ v.ownBlock := by
  intro g o h0 hg
  obtain ⟨b, off, he, hlt, _⟩ := hA 0 h0
  rw [hg] at he
  simp only [Option.some.injEq, Addr.mk.injEq] at he
  refine ⟨by omega, fun h => ?_⟩
  rcases hv g h.symm with h' | h'
  · cases h'
  · omega
set_option maxRecDepth 100000 in
set_option maxHeartbeats 4000000 in
theorem cl_back (A B : Option Addr) (ca cb : Nat) (l m : List NtV) (a i : Int) (W w : World) (h : LB W w A B ca cb l m a i) (hA : EnAt NtV.nc W A l) (hB : EnAt NtV.ic W B m) (hl : ∀ n ∈ l, n.wf) (hm : ∀ n ∈ m, n.wf) (hln : l.length ≤ 300) (hmn : m.length ≤ 300) (ha : 0 ≤ a ∧ a < 18446744073709551616) :
    Calls Try.prog 22 #[.pointer (some ⟨w.heap.size, 0, none⟩), .pointer (some ⟨W.heap.size + 2, 0, none⟩), .pointer (some ⟨W.heap.size + 1, 0, none⟩), .pointer (some ⟨W.heap.size, 0, none⟩)] (w.alloc (.cells #[.int .i64 0, .slice none 0 0] 62 (0, 0)))
      (WrStep (w.alloc (.cells #[.int .i64 0, .slice none 0 0] 62 (0, 0))) w.heap.size w.heap.size (.slice none 0 0) 0 [] (AllOk l m i) (allL l m a i) ((16 + (1 + 84 * m.length)) + (1 + 84 * l.length))) := by
  have H := Lib.hid (And.intro h (And.intro hA (And.intro hB (And.intro hl (And.intro hm (And.intro hln (And.intro hmn ha)))))))
  have HW := Lib.hid (wr_new w)
  have H0 := Lib.hid (h.below (Kq.below_alloc w (.cells #[.int .i64 0, .slice none 0 0] 62 (0, 0))))
  have HZ : Hid ((w.alloc (.cells #[.int .i64 0, .slice none 0 0] 62 (0, 0))).heap.size = w.heap.size + 1) := Lib.hid (by simp)
  clear h hA hB hl hm hln hmn ha
  have c0 := H0.out.b2.c0
  have c1 := H0.out.b2.c1
  obtain ⟨w0, hw0⟩ : ∃ z, z = w.alloc (.cells #[.int .i64 0, .slice none 0 0] 62 (0, 0)) := ⟨_, rfl⟩
  rw [← hw0] at HW H0 HZ c0 c1 ⊢
  have HW0 := Lib.hid hw0
  clear hw0
  go_enter Try.func22, Try.ntmps22
  go_wp2_with fail
  refine (nt_place_step w.heap.size w.heap.size 0 (.slice none 0 0) [] a i w0 HW.out H.out.2.2.2.2.2.2.2 (by simp)).mono ?_
  intro x w1 hp
  obtain ⟨rfl, e1, l1, v1, W1, K1, F1, s1, g1, b1⟩ := WrStep.any hp
  have H1 : Hid (LB W w1 A B ca cb l m a i ∧ Wr w1 w.heap.size w.heap.size e1 v1 l1 ∧ Kq.Keeps (fun k => k = w.heap.size ∨ some k = (Value.slice none 0 0).ownBlock) w0 w1 ∧ (∀ k, v1.ownBlock = some k → some k = (Value.slice none 0 0).ownBlock ∨ w0.heap.size ≤ k)) := Lib.hid ⟨H.out.1.below (wr_below W1 (by rw [← HW0.out]; exact K1)), W1, K1, F1⟩
  have G1 := Lib.hid (And.intro s1 (And.intro g1 b1))
  clear hp W1 K1 F1 s1 g1 b1 c0 c1
  have c1 := Kq.blk_cell H1.out.1.b1 0
  simp only [List.getElem?_toArray, List.getElem?_cons_zero] at c1
  have hs1 : l1.length ≤ 16 := by have := G1.out.1; simpa using this
  go_wp2_with fail
  refine (nt_putitems w.heap.size w.heap.size e1 v1 l1 B cb m w1 H1.out.2.1 (H.out.2.2.1.below H1.out.1.bel) ?hab1 H.out.2.2.2.2.1 H.out.2.2.2.2.2.2.1 (by omega)).mono ?_
  case hab1 => exact hab (H.out.2.2.1.below H.out.1.bel) (fun k hk => (H1.out.2.2.2 k hk).imp id (fun h => by have := HZ.out; omega))
  intro x w2 hp
  obtain ⟨rfl, e2, l2, v2, W2, K2, F2, s2, g2, b2⟩ := WrStep.any (WrStep.then H1.out.2.1 H1.out.2.2.1 H1.out.2.2.2 G1.out.1 G1.out.2.1 G1.out.2.2 hp)
  have H2 : Hid (LB W w2 A B ca cb l m a i ∧ Wr w2 w.heap.size w.heap.size e2 v2 l2 ∧ Kq.Keeps (fun k => k = w.heap.size ∨ some k = (Value.slice none 0 0).ownBlock) w0 w2 ∧ (∀ k, v2.ownBlock = some k → some k = (Value.slice none 0 0).ownBlock ∨ w0.heap.size ≤ k)) := Lib.hid ⟨H.out.1.below (wr_below W2 (by rw [← HW0.out]; exact K2)), W2, K2, F2⟩
  have G2 := Lib.hid (And.intro s2 (And.intro g2 b2))
  clear hp W2 K2 F2 s2 g2 b2 c1 H1 G1 hs1
  have c0 := Kq.blk_cell H2.out.1.b0 0
  simp only [List.getElem?_toArray, List.getElem?_cons_zero] at c0
  have hs2 : l2.length ≤ 30000 := by have h1 := G2.out.1; have h2 := H.out.2.2.2.2.2.2.1; simp only [List.length_nil] at h1; omega
  go_wp2_with fail
  refine (nt_putnotes w.heap.size w.heap.size e2 v2 l2 A ca l w2 H2.out.2.1 (H.out.2.1.below H2.out.1.bel) ?hab2 H.out.2.2.2.1 H.out.2.2.2.2.2.1 (by omega)).mono ?_
  case hab2 => exact hab (H.out.2.1.below H.out.1.bel) (fun k hk => (H2.out.2.2.2 k hk).imp id (fun h => by have := HZ.out; omega))
  intro x w3 hp
  have HP := Lib.hid (WrStep.then H2.out.2.1 H2.out.2.2.1 H2.out.2.2.2 G2.out.1 G2.out.2.1 G2.out.2.2 hp)
  obtain ⟨rfl, -⟩ := WrStep.any hp
  clear hp H2 G2 c0 hs2
  go_wp2
  first | go_end0 | refine bodyPost_ret (results_none rfl _ _ _) rfl ?_
  exact HP.out
instance : Decidable (AllOk l m i) := by unfold AllOk; infer_instance
def backT (l m : List NtV) (a i : Int) : ByteArray := if AllOk l m i then txt (allL l m a i) else ⟨#[]⟩
def backE (l m : List NtV) (i : Int) : Int := if AllOk l m i then 0 else 1
set_option maxRecDepth 100000 in
set_option maxHeartbeats 2000000 in
theorem bt_back (A B : Option Addr) (ca cb : Nat) (l m : List NtV) (a i : Int) (W w : World) (h : LB W w A B ca cb l m a i) (hA : EnAt NtV.nc W A l) (hB : EnAt NtV.ic W B m) (hl : ∀ n ∈ l, n.wf) (hm : ∀ n ∈ m, n.wf) (hln : l.length ≤ 300) (hmn : m.length ≤ 300) (ha : 0 ≤ a ∧ a < 18446744073709551616) :
    Calls Try.prog 8 #[.func (.func 22) #[] #[.pointer (some ⟨W.heap.size + 2, 0, none⟩), .pointer (some ⟨W.heap.size + 1, 0, none⟩), .pointer (some ⟨W.heap.size, 0, none⟩)]] w fun x w' => x = .returned (.tuple #[.string (backT l m a i), .int .i64 (backE l m i)]) ∧ Below w.heap.size w w' := by
  have H := Lib.hid (And.intro h (And.intro hA (And.intro hB (And.intro hl (And.intro hm (And.intro hln (And.intro hmn ha)))))))
  have HTX : Hid (AllOk l m i → backT l m a i = txt (allL l m a i) ∧ backE l m i = 0) := Lib.hid (fun h => ⟨if_pos h, if_pos h⟩)
  have HTN : Hid (¬ AllOk l m i → backT l m a i = ⟨#[]⟩ ∧ backE l m i = 1) := Lib.hid (fun h => ⟨if_neg h, if_neg h⟩)
  clear h hA hB hl hm hln hmn ha
  go_enter Try.func8, Try.ntmps8
  go_wp2_with fail
  refine (cl_back A B ca cb l m a i W w H.out.1 H.out.2.1 H.out.2.2.1 H.out.2.2.2.1 H.out.2.2.2.2.1 H.out.2.2.2.2.2.1 H.out.2.2.2.2.2.2.1 H.out.2.2.2.2.2.2.2).mono ?_
  intro x w2 hp
  obtain ⟨rfl, hbl, e, v', acc, Wx, hyes, hno⟩ := bytes_end hp (fun h => allL_lt h)
  by_cases hok : AllOk l m i
  · obtain ⟨rfl, rfl⟩ := hyes hok
    have HE := Lib.hid (HTX.out hok)
    have HL : Hid (∀ b ∈ allL l m a i, b < 256) := Lib.hid (allL_lt hok)
    have H2 := Lib.hid (And.intro Wx hbl)
    clear hok hyes hno hp Wx hbl HTX HTN H
    go_wp2_with fail
    refine (wr_bytes_ok _ _ v' _ _ H2.out.1 HL.out).mono ?_
    rintro x w3 ⟨rfl, rfl⟩
    go_wp2
    go_ret2
    exact ⟨by rw [HE.out.1, HE.out.2]; rfl, H2.out.2⟩
  · have he := hno hok
    subst he
    have HE := Lib.hid (HTN.out hok)
    have H2 := Lib.hid (And.intro Wx hbl)
    clear hok hyes hno hp Wx hbl HTX HTN H
    go_wp2_with fail
    refine (wr_bytes_bad _ _ 1 v' acc _ H2.out.1 (by decide)).mono ?_
    rintro x w3 ⟨rfl, rfl⟩
    go_wp2
    go_ret2
    exact ⟨by rw [HE.out.1, HE.out.2]; rfl, H2.out.2⟩
def BBox (w' : World) (X : Nat) (A B : Option Addr) (ca cb ln mn : Nat) (a i : Int) : Prop := w'.cell? ⟨X, 0, none⟩ = some (.slice A ln ca) ∧ w'.cell? ⟨X + 1, 0, none⟩ = some (.slice B mn cb) ∧ w'.cell? ⟨X + 2, 0, none⟩ = some (.int .u64 a) ∧ w'.cell? ⟨X + 2, 1, none⟩ = some (.int .i64 i)
theorem LB.box (h : LB W w A B ca cb l m a i) : BBox w W.heap.size A B ca cb l.length m.length a i := ⟨Kq.blk_cell h.b0 0, Kq.blk_cell h.b1 0, h.b2.c0, h.b2.c1⟩
set_option maxRecDepth 100000 in
set_option maxHeartbeats 4000000 in
theorem early (A B : Option Addr) (ca cb : Nat) (l m : List NtV) (a i : Int) (W : World) (hA : EnAt NtV.nc W A l) (hB : EnAt NtV.ic W B m) (h : ¬ Few l m) :
    Calls Try.prog 4 #[.slice A l.length ca, .slice B m.length cb, .agg #[.int .u64 a, .int .i64 i]] W fun x w' => x = .returned (.bool true) ∧ Below W.heap.size W w' := by
  have H1 := Lib.hid (LB.start (W := W) (A := A) (B := B) (l := l) (m := m) (a := a) (i := i) (ca := ca) (cb := cb))
  have HA := Lib.hid (And.intro hA hB)
  have d0 : Hid (decide (Few l m) = false) := Lib.hid (decide_eq_false h)
  clear hA hB h
  go_enter Try.func4, Try.ntmps4
  go_wp2_with fail
  refine (awake _).mono ?_
  rintro x w1 ⟨rfl, b1⟩
  have H2 := Lib.hid (H1.out.below b1)
  clear b1 H1
  have c0 := H2.out.box.1
  have c1 := H2.out.box.2.1
  go_wp2_with fail
  refine (few14 A B ca cb l m _ (HA.out.1.below H2.out.bel) (HA.out.2.below H2.out.bel)).mono ?_
  rintro x w2 ⟨rfl, rfl⟩
  rw [d0.out]
  go_wp2
  go_ret
  exact ⟨rfl, H2.out.bel⟩
set_option maxRecDepth 100000 in
set_option maxHeartbeats 4000000 in
theorem bad (A B : Option Addr) (ca cb : Nat) (l m : List NtV) (a i : Int) (W : World) (hA : EnAt NtV.nc W A l) (hB : EnAt NtV.ic W B m) (h : Few l m) (hl : ∀ n ∈ l, n.wf) (hm : ∀ n ∈ m, n.wf) (ha : 0 ≤ a ∧ a < 18446744073709551616) (hno : ¬ AllOk l m i) :
    Calls Try.prog 4 #[.slice A l.length ca, .slice B m.length cb, .agg #[.int .u64 a, .int .i64 i]] W fun x w' => x = .returned (.bool true) ∧ Below W.heap.size W w' := by
  have H1 := Lib.hid (LB.start (W := W) (A := A) (B := B) (l := l) (m := m) (a := a) (i := i) (ca := ca) (cb := cb))
  have HA := Lib.hid (And.intro hA (And.intro hB (And.intro h (And.intro hl (And.intro hm ha)))))
  have d0 : Hid (decide (Few l m) = true) := Lib.hid (decide_eq_true h)
  have HE : Hid (backT l m a i = ⟨#[]⟩ ∧ backE l m i = 1) := Lib.hid ⟨if_neg hno, if_neg hno⟩
  clear hA hB h hl hm ha hno
  go_enter Try.func4, Try.ntmps4
  go_wp2_with fail
  refine (awake _).mono ?_
  rintro x w1 ⟨rfl, b1⟩
  have H2 := Lib.hid (H1.out.below b1)
  clear b1 H1
  have c0 := H2.out.box.1
  have c1 := H2.out.box.2.1
  go_wp2_with fail
  refine (few14 A B ca cb l m _ (HA.out.1.below H2.out.bel) (HA.out.2.1.below H2.out.bel)).mono ?_
  rintro x w2 ⟨rfl, rfl⟩
  rw [d0.out]
  go_wp2_with fail
  refine (bt_back A B ca cb l m a i W w1 H2.out HA.out.1 HA.out.2.1 HA.out.2.2.2.1 HA.out.2.2.2.2.1 HA.out.2.2.1.1 HA.out.2.2.1.2.1 HA.out.2.2.2.2.2).mono ?_
  rintro x w3 ⟨rfl, b3⟩
  rw [HE.out.1, HE.out.2]
  have H3 := Lib.hid (H2.out.below b3)
  clear b3 H2 c0 c1
  go_wp2
  go_ret
  exact ⟨rfl, H3.out.bel⟩
set_option maxRecDepth 100000 in
set_option maxHeartbeats 8000000 in
theorem good (A B : Option Addr) (ca cb : Nat) (l m : List NtV) (a i : Int) (W : World) (hA : EnAt NtV.nc W A l) (hB : EnAt NtV.ic W B m) (h : Few l m) (hl : ∀ n ∈ l, n.wf) (hm : ∀ n ∈ m, n.wf) (ha : 0 ≤ a ∧ a < 18446744073709551616) (hyes : AllOk l m i) :
    Calls Try.prog 4 #[.slice A l.length ca, .slice B m.length cb, .agg #[.int .u64 a, .int .i64 i]] W fun x w' => x = .returned (.bool true) ∧ Below W.heap.size W w' := by
  have H1 := Lib.hid (LB.start (W := W) (A := A) (B := B) (l := l) (m := m) (a := a) (i := i) (ca := ca) (cb := cb))
  have HA := Lib.hid (And.intro hA (And.intro hB (And.intro h (And.intro hl (And.intro hm ha)))))
  have HY := Lib.hid hyes
  have d0 : Hid (decide (Few l m) = true) := Lib.hid (decide_eq_true h)
  have HE : Hid (backT l m a i = txt (allL l m a i) ∧ backE l m i = 0) := Lib.hid ⟨if_pos hyes, if_pos hyes⟩
  have HL : Hid ((∀ b ∈ allL l m a i, b < 256) ∧ (allL l m a i).length ≤ 1000000) := Lib.hid ⟨allL_lt hyes, allL_len hyes⟩
  have hln : l.length ≤ 255 := hyes.2.1
  have hmn : m.length ≤ 255 := hyes.1.2.1
  clear hA hB h hl hm hyes
  obtain ⟨an, rfl⟩ := Int.eq_ofNat_of_zero_le ha.1
  obtain ⟨k, rfl⟩ := Int.eq_ofNat_of_zero_le HY.out.1.1.1
  have HX : Hid (allL l m an k = num8 an ++ (num8 k ++ ([m.length] ++ (encL m ++ ([l.length] ++ (encL l ++ [])))))) := Lib.hid (by simp [allL])
  clear ha
  go_enter Try.func4, Try.ntmps4
  go_wp2_with fail
  refine (awake _).mono ?_
  rintro x w1 ⟨rfl, b1⟩
  have H2 := Lib.hid (H1.out.below b1)
  clear b1 H1
  have c0 := H2.out.box.1
  have c1 := H2.out.box.2.1
  go_wp2_with fail
  refine (few14 A B ca cb l m _ (HA.out.1.below H2.out.bel) (HA.out.2.1.below H2.out.bel)).mono ?_
  rintro x w2 ⟨rfl, rfl⟩
  rw [d0.out]
  go_wp2_with fail
  refine (bt_back A B ca cb l m an k W w1 H2.out HA.out.1 HA.out.2.1 HA.out.2.2.2.1 HA.out.2.2.2.2.1 HA.out.2.2.1.1 HA.out.2.2.1.2.1 HA.out.2.2.2.2.2).mono ?_
  rintro x w3 ⟨rfl, b3⟩
  rw [HE.out.1, HE.out.2]
  have H3 := Lib.hid (H2.out.below b3)
  clear b3 H2 c0 c1
  go_wp2_with fail
  refine (rl_new (allL l m an k) w3 HL.out.1 HL.out.2).mono ?_
  rintro x w4 ⟨rfl, R4, b4⟩
  rw [HX.out] at R4
  obtain ⟨R, hR⟩ : ∃ R, R = w3.heap.size := ⟨_, rfl⟩
  have H4 : Hid (LB W w4 A B ca cb l m an k ∧ RdL w4 R (num8 an ++ (num8 k ++ ([m.length] ++ (encL m ++ ([l.length] ++ (encL l ++ [])))))) ∧ W.heap.size + 3 ≤ R) := Lib.hid ⟨H3.out.below b4, by rw [hR]; exact R4, by rw [hR]; exact H3.out.lt⟩
  rw [← hR]
  clear b4 R4 H3 hR HE HX d0
  generalize allL l m an k = AL at *
  go_wp2
  have HD := Lib.hid (And.intro H4.out.1.drew (And.intro (H4.out.2.1.below (Below.refl _ _).drew) H4.out.2.2))
  clear H4
  refine wp_region_held_drew (S := fun w' => BBox w' W.heap.size A B ca cb l.length m.length an k) (by kernel_rfl) HD.out.1.box (fun hS0 => ?_)
  generalize w4.drew = z0 at *
  unfold BBox at hS0
  dsimp only [BBox]
  have ea : ((an : Int) == (an : Int)) = true := by simp
  have ek : ((k : Int) == (k : Int)) = true := by simp
  refine wpAnyH_take (i := 0) (v := ?_) rfl (by kernel_rfl) (by kernel_rfl) (by kernel_rfl) (fun _ _ _ h => h) (Or.inl ⟨by kernel_rfl, ?_⟩) (by assumption) ?_
  rotate_left
  · intro w hSw; (try dsimp only at hSw); go_simp; (try with_reducible rfl)
  refine wpAnyH_take (i := 1) (v := ?_) rfl (by kernel_rfl) (by kernel_rfl) (by kernel_rfl) (fun _ _ _ h => h) (Or.inl ⟨by kernel_rfl, ?_⟩) (by assumption) ?_
  rotate_left
  · intro w hSw; (try dsimp only at hSw); go_simp; (try with_reducible rfl)
  refine wpAnyH_take (i := 2) (v := ?_) rfl (by kernel_rfl) (by kernel_rfl) (by kernel_rfl) (fun _ _ _ h => h) (Or.inl ⟨by kernel_rfl, ?_⟩) (by assumption) ?_
  rotate_left
  · intro w hSw; (try dsimp only at hSw); go_simp; (try with_reducible rfl)
  refine wpAnyH_take (i := 3) (v := ?_) rfl (by kernel_rfl) (by kernel_rfl) (by kernel_rfl) (fun _ _ _ h => h) (Or.inl ⟨by kernel_rfl, ?_⟩) (by assumption) ?_
  rotate_left
  · intro w hSw; (try dsimp only at hSw); go_simp; (try with_reducible rfl)
  refine wpAnyH_take (i := 5) (v := ?_) rfl (by kernel_rfl) (by kernel_rfl) (by kernel_rfl) (fun _ _ _ h => h) (Or.inl ⟨by kernel_rfl, ?_⟩) (by assumption) ?_
  rotate_left
  · intro w hSw; (try dsimp only at hSw); go_simp; (try with_reducible rfl)
  refine wpAnyH_ready (rs := [4]) (by kernel_rfl) (by simp) ?_
  refine AllReadyH.cons rfl (fun K hK => ?_) AllReadyH.nil
  go_simp
  refine (nt_place_read R an k _ z0 HD.out.2.1 (by have := HA.out.2.2.2.2.2.2; omega) (by have := HY.out.1.1.2; omega)).mono ?_
  rintro x z1 ⟨rfl, R1, K1⟩
  have HD1 := Lib.hid (And.intro (HD.out.1.keep K1 HD.out.2.2) (And.intro R1 HD.out.2.2))
  clear R1 K1 HD hS0
  refine hK.out _ _ HD1.out.1.box (fun hS0 => ?_)
  clear hK K
  unfold BBox at hS0
  refine wpAnyH_take (i := 6) (v := ?_) rfl (by kernel_rfl) (by kernel_rfl) (by kernel_rfl) (fun _ _ _ h => h) (Or.inl ⟨by kernel_rfl, ?_⟩) (by assumption) ?_
  rotate_left
  · intro w hSw; (try dsimp only at hSw); go_simp; (try with_reducible rfl)
  refine wpAnyH_take (i := 7) (v := ?_) rfl (by kernel_rfl) (by kernel_rfl) (by kernel_rfl) (fun _ _ _ h => h) (Or.inl ⟨by kernel_rfl, ?_⟩) (by assumption) ?_
  rotate_left
  · intro w hSw; (try dsimp only at hSw); go_simp; (try with_reducible rfl)
  refine wpAnyH_take (i := 8) (v := ?_) rfl (by kernel_rfl) (by kernel_rfl) (by kernel_rfl) (fun _ _ _ h => h) (Or.inl ⟨by kernel_rfl, ?_⟩) (by assumption) ?_
  rotate_left
  · intro w hSw; (try dsimp only at hSw); go_simp; (try with_reducible rfl)
  refine wpAnyH_take (i := 9) (v := ?_) rfl (by kernel_rfl) (by kernel_rfl) (by kernel_rfl) (fun _ _ _ h => h) (Or.inl ⟨by kernel_rfl, ?_⟩) (by assumption) ?_
  rotate_left
  · intro w hSw; (try dsimp only at hSw); go_simp; (try with_reducible rfl)
  refine wpAnyH_take (i := 11) (v := ?_) rfl (by kernel_rfl) (by kernel_rfl) (by kernel_rfl) (fun _ _ _ h => h) (Or.inl ⟨by kernel_rfl, ?_⟩) (by assumption) ?_
  rotate_left
  · intro w hSw; (try dsimp only at hSw); go_simp; (try with_reducible rfl)
  refine wpAnyH_ready (rs := [10]) (by kernel_rfl) (by simp) ?_
  refine AllReadyH.cons rfl (fun K hK => ?_) AllReadyH.nil
  go_simp
  refine (it_items R m _ z1 HD1.out.2.1 HA.out.2.2.2.2.1 hmn HY.out.1.2.2).mono ?_
  rintro x z2 ⟨A2, c2, rfl, E2, R2, K2⟩
  have HD2 := Lib.hid (And.intro (HD1.out.1.keep K2 HD1.out.2.2) (And.intro R2 (And.intro HD1.out.2.2 E2)))
  clear R2 K2 E2 HD1 hS0
  refine hK.out _ _ HD2.out.1.box (fun hS0 => ?_)
  clear hK K
  unfold BBox at hS0
  refine wpAnyH_ready (rs := [12]) (by kernel_rfl) (by simp) ?_
  refine AllReadyH.cons rfl (fun K hK => ?_) AllReadyH.nil
  go_simp
  refine (same_items A2 B c2 cb m z2 HD2.out.2.2.2 (HA.out.2.1.below HD2.out.1.bel) (by omega)).mono ?_
  rintro x z3 ⟨rfl, b3⟩
  have HD3 := Lib.hid (And.intro (HD2.out.1.below b3) (And.intro (HD2.out.2.1.below b3) HD2.out.2.2.1))
  clear b3 HD2 hS0
  refine hK.out _ _ HD3.out.1.box (fun hS0 => ?_)
  clear hK K
  unfold BBox at hS0
  refine wpAnyH_take (i := 13) (v := ?_) rfl (by kernel_rfl) (by kernel_rfl) (by kernel_rfl) (fun _ _ _ h => h) (Or.inl ⟨by kernel_rfl, ?_⟩) (by assumption) ?_
  rotate_left
  · intro w hSw; (try dsimp only at hSw); go_simp; (try with_reducible rfl)
  refine wpAnyH_take (i := 14) (v := ?_) rfl (by kernel_rfl) (by kernel_rfl) (by kernel_rfl) (fun _ _ _ h => h) (Or.inl ⟨by kernel_rfl, ?_⟩) (by assumption) ?_
  rotate_left
  · intro w hSw; (try dsimp only at hSw); go_simp; (try with_reducible rfl)
  refine wpAnyH_take (i := 15) (v := ?_) rfl (by kernel_rfl) (by kernel_rfl) (by kernel_rfl) (fun _ _ _ h => h) (Or.inl ⟨by kernel_rfl, ?_⟩) (by assumption) ?_
  rotate_left
  · intro w hSw; (try dsimp only at hSw); go_simp; (try with_reducible rfl)
  refine wpAnyH_take (i := 17) (v := ?_) rfl (by kernel_rfl) (by kernel_rfl) (by kernel_rfl) (fun _ _ _ h => h) (Or.inl ⟨by kernel_rfl, ?_⟩) (by assumption) ?_
  rotate_left
  · intro w hSw; (try dsimp only at hSw); go_simp; (try with_reducible rfl)
  refine wpAnyH_ready (rs := [16]) (by kernel_rfl) (by simp) ?_
  refine AllReadyH.cons rfl (fun K hK => ?_) AllReadyH.nil
  go_simp
  refine (nt_notes R l _ z3 HD3.out.2.1 HA.out.2.2.2.1 hln HY.out.2.2).mono ?_
  rintro x z4 ⟨A4, c4, rfl, E4, R4, K4⟩
  have HD4 := Lib.hid (And.intro (HD3.out.1.keep K4 HD3.out.2.2) (And.intro R4 (And.intro HD3.out.2.2 E4)))
  clear R4 K4 E4 HD3 hS0
  refine hK.out _ _ HD4.out.1.box (fun hS0 => ?_)
  clear hK K
  unfold BBox at hS0
  refine wpAnyH_ready (rs := [18]) (by kernel_rfl) (by simp) ?_
  refine AllReadyH.cons rfl (fun K hK => ?_) AllReadyH.nil
  go_simp
  refine (same_notes A4 A c4 ca l z4 HD4.out.2.2.2 (HA.out.1.below HD4.out.1.bel) (by omega)).mono ?_
  rintro x z5 ⟨rfl, b5⟩
  have HD5 := Lib.hid (And.intro (HD4.out.1.below b5) (HD4.out.2.1.below b5))
  clear b5 HD4 hS0
  refine hK.out _ _ HD5.out.1.box (fun hS0 => ?_)
  clear hK K
  unfold BBox at hS0
  refine wpAnyH_take (i := 19) (v := ?_) rfl (by kernel_rfl) (by kernel_rfl) (by kernel_rfl) (fun _ _ _ h => h) (Or.inl ⟨by kernel_rfl, ?_⟩) (by assumption) ?_
  rotate_left
  · intro w hSw; (try dsimp only at hSw); go_simp; (try with_reducible rfl)
  refine wpAnyH_take (i := 20) (v := ?_) rfl (by kernel_rfl) (by kernel_rfl) (by kernel_rfl) (fun _ _ _ h => h) (Or.inl ⟨by kernel_rfl, ?_⟩) (by assumption) ?_
  rotate_left
  · intro w hSw; (try dsimp only at hSw); go_simp; (try with_reducible rfl)
  refine wpAnyH_take (i := 21) (v := ?_) rfl (by kernel_rfl) (by kernel_rfl) (by kernel_rfl) (fun _ _ _ h => h) (Or.inl ⟨by kernel_rfl, ?_⟩) (by assumption) ?_
  rotate_left
  · intro w hSw; (try dsimp only at hSw); go_simp; (try with_reducible rfl)
  refine wpAnyH_ready (rs := [22]) (by kernel_rfl) (by simp) ?_
  refine AllReadyH.cons rfl (fun K hK => ?_) AllReadyH.nil
  go_simp
  refine (rl_end R z5 HD5.out.2).mono ?_
  rintro x z6 ⟨rfl, rfl⟩
  refine hK.out _ _ HD5.out.1.box (fun hS0 => ?_)
  clear hK K
  refine wpAnyH_take (i := 23) (v := ?_) rfl (by kernel_rfl) (by kernel_rfl) (by kernel_rfl) (fun _ _ _ h => h) (Or.inl ⟨by kernel_rfl, ?_⟩) (by assumption) ?_
  rotate_left
  · intro w hSw; (try dsimp only at hSw); go_simp; (try with_reducible rfl)
  refine wpAnyH_take (i := 24) (v := ?_) rfl (by kernel_rfl) (by kernel_rfl) (by kernel_rfl) (fun _ _ _ h => h) (Or.inl ⟨by kernel_rfl, ?_⟩) (by assumption) ?_
  rotate_left
  · intro w hSw; (try dsimp only at hSw); go_simp; (try with_reducible rfl)
  refine wpAnyH_take (i := 25) (v := ?_) rfl (by kernel_rfl) (by kernel_rfl) (by kernel_rfl) (fun _ _ _ h => h) (Or.inl ⟨by kernel_rfl, ?_⟩) (by assumption) ?_
  rotate_left
  · intro w hSw; (try dsimp only at hSw); go_simp; (try with_reducible rfl)
  refine wpAnyH_done (by kernel_rfl) ?_ _
  go_wp2
  go_ret
  exact ⟨rfl, HD5.out.1.bel⟩
theorem noteBack_walk (v0 v1 v2 : Value) {W : World} (h0 : ∃ A cap l, v0 = .slice A l.length cap ∧ l.length ≤ cap ∧ (A = none → l.length = 0) ∧ EnAt NtV.nc W A l ∧ ∀ n ∈ l, n.wf) (h1 : ∃ A cap l, v1 = .slice A l.length cap ∧ l.length ≤ cap ∧ (A = none → l.length = 0) ∧ EnAt NtV.ic W A l ∧ ∀ n ∈ l, n.wf)
    (h2 : ∃ a i : Int, v2 = .agg #[.int .u64 a, .int .i64 i] ∧ 0 ≤ a ∧ a < 18446744073709551616) :
    Calls Try.prog 4 #[v0, v1, v2] W fun x w' => x = .returned (.bool true) ∧ Below W.heap.size W w' := by
  obtain ⟨A, ca, l, rfl, -, -, hA, hl⟩ := h0
  obtain ⟨B, cb, m, rfl, -, -, hB, hm⟩ := h1
  obtain ⟨a, i, rfl, ha⟩ := h2
  by_cases h : Few l m
  · by_cases hok : AllOk l m i
    · exact good A B ca cb l m a i W hA hB h hl hm ha hok
    · exact bad A B ca cb l m a i W hA hB h hl hm ha hok
  · exact early A B ca cb l m a i W hA hB h
end Go.Proofs.Ytkdommljaciahaa.noteBack
