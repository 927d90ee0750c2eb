/- Merged: RcEq, RsSame, RsOne. Contracts of slices.Equal, slices.Clone, scan.Apply. Condition: short lists. Contract of carrackref14.SameItems of any lists. Condition: lengths. The document's table beside other blocks; scan's Apply of the document. Condition: a table, notes of the arguments. -/
import Derived.WalkSpells
import Derived.Outline
import Derived.Deep.QuietTactic
import Derived.BigQuiet
import Derived.Laws.StructEq
import Derived.ProofKit
import Derived.Test.YtkbiolhcpghmkaaGreatChecked
import Derived.Test.YtkbiolhcpghmkaaGreatTwOneQ
import Derived.Test.YtkbiolhcpghmkaaGreatTrOfQ
import Derived.Test.YtkbiolhcpghmkaaGreatTwoFQ
namespace Go.Proofs.YtkbiolhcpghmkaaGreat
open Go.RowKit
set_option linter.unusedVariables false
set_option linter.unusedSimpArgs false
theorem NtV.ext' {a b : NtV} (h1 : a.k = b.k) (h2 : a.f = b.f) (h3 : a.q = b.q) (h4 : a.t = b.t) (h5 : a.d = b.d) : a = b := by
  cases a; cases b; simp only at h1 h2 h3 h4 h5; rw [h1, h2, h3, h4, h5]
instance instDecNt : DecidableEq NtV := fun a b => decidable_of_iff (a.k = b.k ∧ a.f = b.f ∧ a.q = b.q ∧ a.t = b.t ∧ a.d = b.d) ⟨fun h => NtV.ext' h.1 h.2.1 h.2.2.1 h.2.2.2.1 h.2.2.2.2, fun h => by rw [h]; exact ⟨rfl, rfl, rfl, rfl, rfl⟩⟩
theorem ba_beqR {s t : ByteArray} : (s.toList == t.toList) = decide (s = t) := by
  by_cases h : s = t
  · subst h; simp
  · rw [decide_eq_false h, beq_eq_false_iff_ne]
    intro e
    rw [ByteArray.toList_eq, ByteArray.toList_eq] at e
    exact h (ByteArray.ext (Array.toList_inj.1 e))
set_option maxRecDepth 100000 in
set_option maxHeartbeats 1000000 in
theorem itm_eql (a b : NtV) (w : World) : (binOp .eql 51 (.agg #[.int .i64 a.f, .int .u64 a.q, .int .u64 a.t, .string a.d, .int .i64 a.k]) (.agg #[.int .i64 b.f, .int .u64 b.q, .int .u64 b.t, .string b.d, .int .i64 b.k])).run Tryz.prog w = .ok (.bool (decide (a = b))) w := by
  have e : decide (a = b) = (decide (a.f = b.f) && (decide (a.q = b.q) && (decide (a.t = b.t) && (decide (a.d = b.d) && decide (a.k = b.k))))) := by
    rw [← Bool.decide_and, ← Bool.decide_and, ← Bool.decide_and, ← Bool.decide_and, decide_eq_decide]
    constructor
    · rintro rfl; exact ⟨rfl, rfl, rfl, rfl, rfl⟩
    · rintro ⟨h1, h2, h3, h4, h5⟩; exact NtV.ext' h5 h1 h2 h3 h4
  rw [e]
  have hs : Tryz.prog.stoodInHeld 44 = false := by kernel_rfl
  have hs2 : Tryz.prog.stoodInHeld 51 = false := by kernel_rfl
  by_cases h1 : a.f = b.f
  · by_cases h2 : a.q = b.q
    · by_cases h3 : a.t = b.t
      · by_cases h4 : a.d = b.d
        · by_cases h5 : a.k = b.k <;> simp [go_sem, h1, h2, h3, h4, h5, hs, hs2, Tryz.underlying51, Tryz.underlying44, Tryz.underlying3, Tryz.underlying22, Tryz.underlying9, ba_beqR]
        · simp [go_sem, h1, h2, h3, h4, hs, hs2, Tryz.underlying51, Tryz.underlying44, Tryz.underlying3, Tryz.underlying22, Tryz.underlying9, ba_beqR]
      · simp [go_sem, h1, h2, h3, hs, hs2, Tryz.underlying51, Tryz.underlying44, Tryz.underlying3, Tryz.underlying22, Tryz.underlying9]
    · simp [go_sem, h1, h2, hs, hs2, Tryz.underlying51, Tryz.underlying44, Tryz.underlying3, Tryz.underlying22, Tryz.underlying9]
  · simp [go_sem, h1, hs, hs2, Tryz.underlying51, Tryz.underlying44, Tryz.underlying3, Tryz.underlying22, Tryz.underlying9]
theorem itm_neq (a b : NtV) (w : World) : (binOp .neq 51 (.agg #[.int .i64 a.f, .int .u64 a.q, .int .u64 a.t, .string a.d, .int .i64 a.k]) (.agg #[.int .i64 b.f, .int .u64 b.q, .int .u64 b.t, .string b.d, .int .i64 b.k])).run Tryz.prog w = .ok (.bool (!decide (a = b))) w := by
  have h := itm_eql a b w
  rw [run_eql_struct] at h
  rw [run_neq_struct]
  revert h
  generalize (Op.equalIn 10000 51 (.agg #[.int .i64 a.f, .int .u64 a.q, .int .u64 a.t, .string a.d, .int .i64 a.k]) (.agg #[.int .i64 b.f, .int .u64 b.q, .int .u64 b.t, .string b.d, .int .i64 b.k])).run Tryz.prog w = r
  intro h
  cases r with
  | ok b w1 =>
    simp only [Result.andThen_ok, Result.ok.injEq, Value.bool.injEq] at h ⊢
    rw [h.1, h.2]
    exact ⟨rfl, rfl⟩
  | halt x w1 => cases h
set_option maxRecDepth 100000 in
set_option maxHeartbeats 2000000 in
theorem items_equal (A C : Option Addr) (ca cc : Nat) (a b : List NtV) (w : World) (hA : EnAt NtV.ic w A a) (hC : EnAt NtV.ic w C b) (hl : a.length ≤ 1000) :
    Calls Tryz.prog 23 #[.slice A a.length ca, .slice C b.length cc] w fun x w' => x = .returned (.bool (decide (a = b))) ∧ Below w.heap.size w w' := by
  by_cases hlen : a.length = b.length
  case neg =>
    have HE : Hid (decide (a = b) = false) := Lib.hid (decide_eq_false (fun h => hlen (by rw [h])))
    have e1 : ((a.length : Int) != (b.length : Int)) = true := by rw [bne_iff_ne]; omega
    have e1' : (a.length != b.length) = true := by rw [bne_iff_ne]; exact hlen
    clear hlen hA hC hl
    go_enter Tryz.func23, Tryz.ntmps23
    go_wp2
    go_ret
    exact ⟨by rw [HE.out]; rfl, Below.refl _ _⟩
  obtain ⟨n, hn⟩ : ∃ n, n = b.length := ⟨_, rfl⟩
  have HN : Hid (a.length = n ∧ b.length = n ∧ n ≤ 1000) := Lib.hid (by omega)
  have HA := Lib.hid (And.intro hA hC)
  rw [show a.length = n from HN.out.1, show b.length = n from HN.out.2.1]
  have e1 : ((n : Int) != (n : Int)) = false := by simp
  have e1' : (n != n) = false := by simp
  clear hlen hA hC hl hn
  go_enter Tryz.func23, Tryz.ntmps23
  go_wp2
  clear e1 e1'
  go_loopw [13] (fun u wr => ∃ j : Nat, j ≤ n ∧ u = .int .i64 (j : Int) ∧ (∀ i (h1 : i < a.length) (h2 : i < b.length), i < j → a[i] = b[i]) ∧ Below w.heap.size w wr) (fun u _ => n - (intOf u).toNat)
  case atStart => exact ⟨0, Nat.zero_le _, rfl, fun i _ _ h => absurd h (Nat.not_lt_zero _), Below.refl _ _⟩
  case round =>
    obtain ⟨j, hj, rfl, hall, hbl⟩ := hrel
    have HALL := Lib.hid (And.intro hall hbl)
    have h1000 := HN.out.2.2
    clear hall
    by_cases hlt : j < n
    · have h1 : j < a.length := by rw [HN.out.1]; exact hlt
      have h2 : j < b.length := by rw [HN.out.2.1]; exact hlt
      obtain ⟨b1, o1, rfl, _, hc1⟩ := (HA.out.1.below hbl) j h1
      obtain ⟨b2, o2, rfl, _, hc2⟩ := (HA.out.2.below hbl) j h2
      obtain ⟨x, hx⟩ : ∃ x, x = a[j] := ⟨_, rfl⟩
      obtain ⟨y, hy⟩ : ∃ y, y = b[j] := ⟨_, rfl⟩
      rw [← hx] at hc1
      rw [← hy] at hc2
      have HXY : Hid (∀ (h1 : j < a.length) (h2 : j < b.length), x = a[j] ∧ y = b[j]) := Lib.hid (fun _ _ => ⟨hx, hy⟩)
      have HLT := Lib.hid (And.intro hlt (And.intro h1 h2))
      have x0 := hc1 0 (by omega)
      have x1 := hc1 1 (by omega)
      have x2 := hc1 2 (by omega)
      have x3 := hc1 3 (by omega)
      have x4 := hc1 4 (by omega)
      have y0 := hc2 0 (by omega)
      have y1 := hc2 1 (by omega)
      have y2 := hc2 2 (by omega)
      have y3 := hc2 3 (by omega)
      have y4 := hc2 4 (by omega)
      simp only [NtV.ic, List.getElem?_cons_zero, List.getElem?_cons_succ, Nat.add_zero] at x0 x1 x2 x3 x4 y0 y1 y2 y3 y4
      have hneq := fun w => itm_neq x y w
      have hi0 : (j : Int) < (n : Int) := by omega
      have hj6 : j ≤ 1000 := by omega
      clear hc1 hc2 hx hy hlt h1 h2 hj h1000 hbl
      by_cases hxy : x = y
      · have HEQ := Lib.hid hxy
        rw [decide_eq_true hxy] at hneq
        clear hxy
        go_wp2
        go_quiet (fail)
        generalize hwq : wr.drewN nq = wq
        have H2 : Hid (Below w.heap.size w wq) := Lib.hid (by rw [← hwq]; exact below_drewN HALL.out.2 _)
        clear hwq nq x0 x1 x2 x3 x4 y0 y1 y2 y3 y4 hneq
        go_wp2
        go_roundw
        case rel =>
          refine ⟨j + 1, HLT.out.1, by go_num, fun i h1 h2 hij => ?_, H2.out⟩
          rcases Nat.lt_or_ge i j with h' | h'
          · exact HALL.out.1 i h1 h2 h'
          · obtain rfl : i = j := by omega
            obtain ⟨e1, e2⟩ := HXY.out h1 h2
            rw [← e1, ← e2]; exact HEQ.out
        case measure => have := HLT.out; simp [intOf]; omega
      · have HE : Hid (decide (a = b) = false) := Lib.hid (decide_eq_false (fun h => hxy (by
          obtain ⟨e1, e2⟩ := HXY.out HLT.out.2.1 HLT.out.2.2
          subst h
          rw [e1, e2])))
        rw [decide_eq_false hxy] at hneq
        clear hxy
        go_wp2
        go_quiet (fail)
        generalize hwq : wr.drewN nq = wq
        have H2 : Hid (Below w.heap.size w wq) := Lib.hid (by rw [← hwq]; exact below_drewN HALL.out.2 _)
        clear hwq nq x0 x1 x2 x3 x4 y0 y1 y2 y3 y4 hneq
        go_wp2
        go_ret
        exact ⟨by rw [HE.out]; rfl, H2.out⟩
    · obtain rfl : j = n := by omega
      have HE : Hid (decide (a = b) = true) := Lib.hid (decide_eq_true (List.ext_getElem (by rw [HN.out.1, HN.out.2.1]) (fun i h1 h2 => HALL.out.1 i h1 h2 (by rw [← HN.out.1]; exact h1))))
      clear hlt hj h1000 hbl
      go_wp2
      go_ret
      exact ⟨by rw [HE.out]; rfl, HALL.out.2⟩
/-- notes one by one, up to the first that is refused -/
def scV : TbV → List NtV → TbV × Int
  | s, [] => (s, 0)
  | s, n :: l => if (appV s n).2 = 0 then scV (appV s n).1 l else appV s n
theorem scV_ok : ∀ (l : List NtV) (s : TbV), TbOk s → (∀ n ∈ l, n.wf) → TbOk (scV s l).1
  | [], s, h, _ => h
  | n :: l, s, h, hw => by
    unfold scV
    by_cases e : (appV s n).2 = 0
    · rw [if_pos e]; exact scV_ok l _ (appV_ok h n (hw n List.mem_cons_self)) (fun m hm => hw m (List.mem_cons_of_mem _ hm))
    · rw [if_neg e]; exact appV_ok h n (hw n List.mem_cons_self)
theorem scV_room : ∀ (l : List NtV) (s : TbV), (scV s l).1.room = s.room
  | [], s => rfl
  | n :: l, s => by
    unfold scV
    by_cases e : (appV s n).2 = 0
    · rw [if_pos e, scV_room l]; exact appV_room s n
    · rw [if_neg e]; exact appV_room s n
set_option maxRecDepth 100000 in
set_option maxHeartbeats 2000000 in
theorem sc_apply {V : Nat → Prop} (w : World) (B : Nat) (s : TbV) (C : Option Addr) (cc : Nat) (l : List NtV) (h : OneT V w B s) (hV : FrW V w) (hs : TbOk s) (hA : EnAt NtV.nc w C l) (hAV : ∀ g o, 0 < l.length → C = some ⟨g, o, none⟩ → V g) (hw : ∀ n ∈ l, n.wf) (hl : l.length ≤ 1000) :
    Calls Tryz.prog 15 #[.pointer (some ⟨B, 0, none⟩), .slice C l.length cc] w fun x w' => (∃ i : Int, x = .returned (.tuple #[.int .i64 i, .int .i64 (scV s l).2])) ∧ OneT V w' B (scV s l).1 ∧ Fb V w w' := by
  have HG := Lib.hid (And.intro hA (And.intro hAV (And.intro hw hl)))
  have H0 : Hid (OneT V w B s ∧ FrW V w ∧ TbOk s) := Lib.hid ⟨h, hV, hs⟩
  obtain ⟨R, hR⟩ : ∃ R, R = scV s l := ⟨_, rfl⟩
  have HR := Lib.hid hR
  rw [← hR]
  clear h hV hs hA hAV hw hl hR
  go_enter Tryz.func15, Tryz.ntmps15
  go_wp2
  go_loopw [11] (fun u wr => ∃ (j : Nat) (s' : TbV), j ≤ l.length ∧ u = .int .i64 (j : Int) ∧ scV s' (l.drop j) = R ∧ OneT V wr B s' ∧ TbOk s' ∧ FrW V wr ∧ Fb V w wr) (fun u _ => l.length - (intOf u).toNat)
  case atStart => exact ⟨0, s, Nat.zero_le _, rfl, HR.out.symm, H0.out.1, H0.out.2.2, H0.out.2.1, Kq.Keeps.refl _ _⟩
  case round =>
    obtain ⟨j, s', hj, rfl, hsc, hone, hok, hfr, hfb⟩ := hrel
    have HRR := Lib.hid (And.intro hsc (And.intro hone (And.intro hok (And.intro hfr hfb))))
    have h1000 := HG.out.2.2.2
    clear hsc hone hok hfr H0
    by_cases hlt : j < l.length
    · obtain ⟨b, off, rfl, _, hc⟩ := (HG.out.1.keeps hfb (fun g o e h => h (HG.out.2.1 g o (by omega) e))) j hlt
      obtain ⟨n, hn⟩ : ∃ n, n = l[j] := ⟨_, rfl⟩
      rw [← hn] at hc
      have HWF : Hid n.wf := Lib.hid (by rw [hn]; exact HG.out.2.2.1 _ (List.getElem_mem hlt))
      have HSC : Hid ((if (appV s' n).2 = 0 then scV (appV s' n).1 (l.drop (j + 1)) else appV s' n) = R) := Lib.hid (by
        have := HRR.out.1
        rw [List.drop_eq_getElem_cons hlt, ← hn] at this
        exact this)
      have HLT := Lib.hid hlt
      have c0 := hc 0 (by omega)
      have c1 := hc 1 (by omega)
      have c2 := hc 2 (by omega)
      have c3 := hc 3 (by omega)
      have c4 := hc 4 (by omega)
      simp only [NtV.nc, List.getElem?_cons_zero, List.getElem?_cons_succ, Nat.add_zero] at c0 c1 c2 c3 c4
      have hi0 : (j : Int) < (l.length : Int) := by omega
      have hj6 : j ≤ 1000 := by omega
      clear hc hn hlt hj h1000 hfb
      obtain ⟨k, f, q, t, d⟩ := n
      simp only at c0 c1 c2 c3 c4
      have hb := Kq.below_alloc wr (.cells #[.int .i64 k, .int .i64 f, .int .u64 q, .int .u64 t, .string d] 46)
      have H2 : Hid (OneT V (wr.alloc (.cells #[.int .i64 k, .int .i64 f, .int .u64 q, .int .u64 t, .string d] 46)) B s' ∧ FrW V (wr.alloc (.cells #[.int .i64 k, .int .i64 f, .int .u64 q, .int .u64 t, .string d] 46)) ∧ Fb V w (wr.alloc (.cells #[.int .i64 k, .int .i64 f, .int .u64 q, .int .u64 t, .string d] 46))) := Lib.hid ⟨HRR.out.2.1.below hb, HRR.out.2.2.2.1.later hb.size, HRR.out.2.2.2.2.tr (Fb.of hb HRR.out.2.2.2.1)⟩
      clear hb
      obtain ⟨w2, hw2⟩ : ∃ z, z = wr.alloc (.cells #[.int .i64 k, .int .i64 f, .int .u64 q, .int .u64 t, .string d] 46) := ⟨_, rfl⟩
      rw [← hw2] at H2
      go_wp2_with fail
      rw [← hw2]
      clear hw2 c0 c1 c2 c3 c4
      refine (ot_apply H2.out.1 H2.out.2.1 HRR.out.2.2.1 ⟨k, f, q, t, d⟩ HWF.out).mono ?_
      rintro x w3 ⟨p3, rfl, b3⟩
      have H3 : Hid (OneT V w3 B (appV s' ⟨k, f, q, t, d⟩).1 ∧ FrW V w3 ∧ Fb V w w3) := Lib.hid ⟨p3, H2.out.2.1.later b3.sz, H2.out.2.2.tr b3⟩
      clear p3 b3 H2
      obtain ⟨e, he⟩ : ∃ e, e = (appV s' ⟨k, f, q, t, d⟩).2 := ⟨_, rfl⟩
      rw [← he]
      have HE := Lib.hid he
      clear he
      by_cases e0 : e = 0
      · have e1 : (e != 0) = false := by rw [e0]; rfl
        have HN : Hid (scV (appV s' ⟨k, f, q, t, d⟩).1 (l.drop (j + 1)) = R ∧ TbOk (appV s' ⟨k, f, q, t, d⟩).1) := Lib.hid ⟨by have := HSC.out; rw [if_pos (by rw [← HE.out]; exact e0)] at this; exact this, appV_ok HRR.out.2.2.1 _ HWF.out⟩
        clear e0
        go_wp2
        go_roundw
        case rel => exact ⟨j + 1, _, HLT.out, by go_num, HN.out.1, H3.out.1, HN.out.2, H3.out.2.1, H3.out.2.2⟩
        case measure => have := HLT.out; simp [intOf]; omega
      · have e1 : (e != 0) = true := by rw [bne_iff_ne]; exact e0
        have HN : Hid (appV s' ⟨k, f, q, t, d⟩ = R) := Lib.hid (by have := HSC.out; rw [if_neg (by rw [← HE.out]; exact e0)] at this; exact this)
        clear e0
        go_wp2
        go_ret2
        exact ⟨⟨_, by rw [← HN.out, ← HE.out]; rfl⟩, by rw [← HN.out]; exact H3.out.1, H3.out.2.2⟩
    · obtain rfl : j = l.length := by omega
      have HN : Hid ((s', (0 : Int)) = R) := Lib.hid (by have := HRR.out.1; rw [List.drop_length] at this; exact this)
      clear hlt hj h1000 hfb
      go_wp2
      go_ret2
      exact ⟨⟨_, by rw [← HN.out]; rfl⟩, by rw [← HN.out]; exact HRR.out.2.1, HRR.out.2.2.2.2⟩
end Go.Proofs.YtkbiolhcpghmkaaGreat
namespace Go.Proofs.YtkbiolhcpghmkaaGreat
open Go.RowKit
set_option linter.unusedVariables false
set_option maxRecDepth 100000 in
set_option maxHeartbeats 4000000 in
theorem any_items (A B : Option Addr) (ca cb : Nat) (l m : List NtV) (w : World) (hA : EnAt NtV.ic w A l) (hB : EnAt NtV.ic w B m) (hl : l.length ≤ 300) :
    Calls Tryz.prog 20 #[.slice A l.length ca, .slice B m.length cb] w fun x w' => x = .returned (.bool (decide (l = m))) ∧ Below w.heap.size w w' := by
  have HA := Lib.hid hA
  have HB := Lib.hid hB
  obtain ⟨E, hE⟩ : ∃ E, E = decide (l = m) := ⟨_, rfl⟩
  rw [← hE]
  have HE := Lib.hid hE
  clear hA hB hE
  by_cases hlen : l.length = m.length
  case neg =>
    have d0 : ((l.length : Int) != (m.length : Int)) = true := by rw [bne_iff_ne]; omega
    have d1 : (l.length != m.length) = true := by rw [bne_iff_ne]; exact hlen
    have HF : Hid (E = false) := Lib.hid (by rw [HE.out]; exact decide_eq_false (fun h => hlen (by rw [h])))
    clear hlen
    go_enter Tryz.func20, Tryz.ntmps20
    go_wp2
    go_ret
    exact ⟨by rw [HF.out]; rfl, Below.refl _ _⟩
  have HN := Lib.hid hlen
  have d0 : ((l.length : Int) != (m.length : Int)) = false := by simp [hlen]
  have d1 : (l.length != m.length) = false := by simp [hlen]
  clear hlen
  go_enter Tryz.func20, Tryz.ntmps20
  go_wp2
  clear d0 d1
  go_loopw [5] (fun i wr => ∃ j : Nat, j ≤ l.length ∧ i = .int .i64 (j : Int) ∧ (∀ i (h1 : i < l.length) (h2 : i < m.length), i < j → l[i] = m[i]) ∧ Below w.heap.size w wr) (fun i _ => l.length - (intOf i).toNat)
  case atStart => exact ⟨0, by omega, rfl, fun i _ _ h => absurd h (Nat.not_lt_zero _), Below.refl _ _⟩
  case round =>
    obtain ⟨j, hj, rfl, hall, hbl⟩ := hrel
    have HALL := Lib.hid hall
    clear hall
    by_cases hlt : j < l.length
    · have hlt2 : j < m.length := by have := HN.out; omega
      obtain ⟨b, off, rfl, hb, hc⟩ := (HA.out.below hbl) j hlt
      obtain ⟨b2, off2, rfl, hb2, hc2⟩ := (HB.out.below hbl) j hlt2
      obtain ⟨n, hn⟩ : ∃ n, n = l[j] := ⟨_, rfl⟩
      obtain ⟨k, hk⟩ : ∃ k, k = m[j] := ⟨_, rfl⟩
      rw [← hn] at hc
      rw [← hk] at hc2
      have c0 := hc 0 (by omega)
      have c1 := hc 1 (by omega)
      have c2 := hc 2 (by omega)
      have c3 := hc 3 (by omega)
      have c4 := hc 4 (by omega)
      have e0 := hc2 0 (by omega)
      have e1 := hc2 1 (by omega)
      have e2 := hc2 2 (by omega)
      have e3 := hc2 3 (by omega)
      have e4 := hc2 4 (by omega)
      simp only [NtV.ic, List.getElem?_cons_zero, List.getElem?_cons_succ, Nat.add_zero] at c0 c1 c2 c3 c4 e0 e1 e2 e3 e4
      have hq := fun wx => itm_neq n k wx
      have HNK : Hid (∀ (h1 : j < l.length) (h2 : j < m.length), l[j] = n ∧ m[j] = k) := Lib.hid (fun _ _ => ⟨hn.symm, hk.symm⟩)
      have HB' := Lib.hid hbl
      have HLT := Lib.hid (And.intro hlt hlt2)
      have t1 : decide ((j : Int) < (l.length : Int)) = true := decide_eq_true (by omega)
      have t2 : decide (j < l.length) = true := decide_eq_true hlt
      have hi0 : (j : Int) < (l.length : Int) := by omega
      have hi1 : (j : Int) < (m.length : Int) := by omega
      have h300 := hl
      clear hc hc2 hb hb2 hn hk hbl hlt hlt2
      by_cases he : n = k
      · rw [decide_eq_true he] at hq
        have HEQ := Lib.hid he
        clear he
        go_wp2
        go_quiet (fail)
        generalize hwq : wr.drewN nq = wq
        have HQ : Hid (Below w.heap.size w wq) := Lib.hid (by rw [← hwq]; exact below_drewN HB'.out nq)
        clear hwq HB' c0 c1 c2 c3 c4 e0 e1 e2 e3 e4 hq
        go_wp2
        go_roundw
        case rel =>
          refine ⟨j + 1, HLT.out.1, by go_num, fun i h1 h2 hi => ?_, HQ.out⟩
          rcases Nat.lt_or_ge i j with h' | h'
          · exact HALL.out i h1 h2 h'
          · obtain rfl : i = j := by omega
            rw [(HNK.out h1 h2).1, (HNK.out h1 h2).2]
            exact HEQ.out
        case measure => have := HLT.out; simp [intOf]; omega
      · rw [decide_eq_false he] at hq
        have HF : Hid (E = false) := Lib.hid (by
          rw [HE.out]
          refine decide_eq_false (fun h => he ?_)
          have h1 := HNK.out HLT.out.1 HLT.out.2
          rw [← h1.1, ← h1.2]
          simp only [h])
        clear he
        go_wp2
        go_quiet (fail)
        generalize hwq : wr.drewN nq = wq
        have HQ : Hid (Below w.heap.size w wq) := Lib.hid (by rw [← hwq]; exact below_drewN HB'.out nq)
        clear hwq HB' c0 c1 c2 c3 c4 e0 e1 e2 e3 e4 hq
        go_wp2
        go_ret
        exact ⟨by rw [HF.out]; rfl, HQ.out⟩
    · obtain rfl : j = l.length := by omega
      have t1 : decide ((l.length : Int) < (l.length : Int)) = false := decide_eq_false (by omega)
      have t2 : decide (l.length < l.length) = false := decide_eq_false hlt
      have HB' := Lib.hid hbl
      have HT : Hid (E = true) := Lib.hid (by
        rw [HE.out]
        exact decide_eq_true (List.ext_getElem HN.out (fun i h1 h2 => HALL.out i h1 h2 h1)))
      clear hbl
      go_wp2
      go_ret
      exact ⟨by rw [HT.out]; rfl, HB'.out⟩
end Go.Proofs.YtkbiolhcpghmkaaGreat
namespace Go.Proofs.YtkbiolhcpghmkaaGreat
open Go.RowKit
set_option linter.unusedVariables false
def OneR (W : Nat → Prop) (w : World) (B : Nat) (s : TbV) : Prop := ∃ O, RtP w O B s ∧ ∀ k, O k → ¬ W k ∧ k < w.heap.size
section
variable {W : Nat → Prop} {w w' : World} {B : Nat} {s s' : TbV}
theorem OneR.below (h : OneR W w B s) (hb : Below w.heap.size w w') : OneR W w' B s := by
  obtain ⟨O, h1, h2⟩ := h
  exact ⟨O, h1.below hb, fun k hk => ⟨(h2 k hk).1, Nat.lt_of_lt_of_le (h2 k hk).2 hb.size⟩⟩
theorem OneR.step {r : Value} {x : Ending} {O : Nat → Prop} (h2 : ∀ k, O k → ¬ W k ∧ k < w.heap.size) (hW : FrW W w) (hs : StepR w O B r s' x w') : OneR W w' B s' ∧ x = .returned r ∧ Fb W w w' := by
  refine ⟨⟨_, hs.2.1, fun k hk => ?_⟩, hs.1, hs.2.2.mono (fun k _ hk => (h2 k hk).1)⟩
  have hz := hs.2.2.size
  rcases hk with hk | hk
  · have := h2 k hk; exact ⟨this.1, by omega⟩
  · exact ⟨fun hw => (by have := hW k hw; omega), hk.2⟩
theorem or_apply (h : OneR W w B s) (hW : FrW W w) (hs : TbOk s) (n : NtV) (hw : n.wf) : Calls Tryz.prog 49 #[.pointer (some ⟨B, 0, none⟩), .agg #[.int .i64 n.k, .int .i64 n.f, .int .u64 n.q, .int .u64 n.t, .string n.d]] w fun x w' => OneR W w' B (appV s n).1 ∧ x = .returned (.int .i64 (appV s n).2) ∧ Fb W w w' := by
  obtain ⟨O, h1, h2⟩ := h
  exact (rt_apply w O B s n hw h1 hs.sort (Nat.le_trans hs.len (Nat.le_trans hs.r40 (by decide))) (fun k hk => (h2 k hk).2)).mono (fun x w' hx => OneR.step h2 hW hx)
end
set_option maxRecDepth 100000 in
set_option maxHeartbeats 2000000 in
theorem rs_apply {V : Nat → Prop} (w : World) (B : Nat) (s : TbV) (C : Option Addr) (cc : Nat) (l : List NtV) (h : OneR V w B s) (hV : FrW V w) (hs : TbOk s) (hA : EnAt NtV.nc w C l) (hAV : ∀ g o, 0 < l.length → C = some ⟨g, o, none⟩ → V g) (hw : ∀ n ∈ l, n.wf) (hl : l.length ≤ 1000) :
    Calls Tryz.prog 19 #[.pointer (some ⟨B, 0, none⟩), .slice C l.length cc] w fun x w' => (∃ i : Int, x = .returned (.tuple #[.int .i64 i, .int .i64 (scV s l).2])) ∧ OneR V w' B (scV s l).1 ∧ Fb V w w' := by
  have HG := Lib.hid (And.intro hA (And.intro hAV (And.intro hw hl)))
  have H0 : Hid (OneR V w B s ∧ FrW V w ∧ TbOk s) := Lib.hid ⟨h, hV, hs⟩
  obtain ⟨R, hR⟩ : ∃ R, R = scV s l := ⟨_, rfl⟩
  have HR := Lib.hid hR
  rw [← hR]
  clear h hV hs hA hAV hw hl hR
  go_enter Tryz.func19, Tryz.ntmps19
  go_wp2
  go_loopw [6] (fun u wr => ∃ (j : Nat) (s' : TbV), j ≤ l.length ∧ u = .int .i64 (j : Int) ∧ scV s' (l.drop j) = R ∧ OneR V wr B s' ∧ TbOk s' ∧ FrW V wr ∧ Fb V w wr) (fun u _ => l.length - (intOf u).toNat)
  case atStart => exact ⟨0, s, Nat.zero_le _, rfl, HR.out.symm, H0.out.1, H0.out.2.2, H0.out.2.1, Kq.Keeps.refl _ _⟩
  case round =>
    obtain ⟨j, s', hj, rfl, hsc, hone, hok, hfr, hfb⟩ := hrel
    have HRR := Lib.hid (And.intro hsc (And.intro hone (And.intro hok (And.intro hfr hfb))))
    have h1000 := HG.out.2.2.2
    clear hsc hone hok hfr H0
    by_cases hlt : j < l.length
    · obtain ⟨b, off, rfl, _, hc⟩ := (HG.out.1.keeps hfb (fun g o e h => h (HG.out.2.1 g o (by omega) e))) j hlt
      obtain ⟨n, hn⟩ : ∃ n, n = l[j] := ⟨_, rfl⟩
      rw [← hn] at hc
      have HWF : Hid n.wf := Lib.hid (by rw [hn]; exact HG.out.2.2.1 _ (List.getElem_mem hlt))
      have HSC : Hid ((if (appV s' n).2 = 0 then scV (appV s' n).1 (l.drop (j + 1)) else appV s' n) = R) := Lib.hid (by
        have := HRR.out.1
        rw [List.drop_eq_getElem_cons hlt, ← hn] at this
        exact this)
      have HLT := Lib.hid hlt
      have c0 := hc 0 (by omega)
      have c1 := hc 1 (by omega)
      have c2 := hc 2 (by omega)
      have c3 := hc 3 (by omega)
      have c4 := hc 4 (by omega)
      simp only [NtV.nc, List.getElem?_cons_zero, List.getElem?_cons_succ, Nat.add_zero] at c0 c1 c2 c3 c4
      have hi0 : (j : Int) < (l.length : Int) := by omega
      have hj6 : j ≤ 1000 := by omega
      clear hc hn hlt hj h1000 hfb
      obtain ⟨k, f, q, t, d⟩ := n
      simp only at c0 c1 c2 c3 c4
      have H2 : Hid (OneR V wr B s' ∧ FrW V wr ∧ Fb V w wr) := Lib.hid ⟨HRR.out.2.1, HRR.out.2.2.2.1, HRR.out.2.2.2.2⟩
      go_wp2_with fail
      clear c0 c1 c2 c3 c4
      refine (or_apply H2.out.1 H2.out.2.1 HRR.out.2.2.1 ⟨k, f, q, t, d⟩ HWF.out).mono ?_
      rintro x w3 ⟨p3, rfl, b3⟩
      have H3 : Hid (OneR V w3 B (appV s' ⟨k, f, q, t, d⟩).1 ∧ FrW V w3 ∧ Fb V w w3) := Lib.hid ⟨p3, H2.out.2.1.later b3.sz, H2.out.2.2.tr b3⟩
      clear p3 b3 H2
      obtain ⟨e, he⟩ : ∃ e, e = (appV s' ⟨k, f, q, t, d⟩).2 := ⟨_, rfl⟩
      rw [← he]
      have HE := Lib.hid he
      clear he
      by_cases e0 : e = 0
      · have e1 : (e != 0) = false := by rw [e0]; rfl
        have HN : Hid (scV (appV s' ⟨k, f, q, t, d⟩).1 (l.drop (j + 1)) = R ∧ TbOk (appV s' ⟨k, f, q, t, d⟩).1) := Lib.hid ⟨by have := HSC.out; rw [if_pos (by rw [← HE.out]; exact e0)] at this; exact this, appV_ok HRR.out.2.2.1 _ HWF.out⟩
        clear e0
        go_wp2
        go_roundw
        case rel => exact ⟨j + 1, _, HLT.out, by go_num, HN.out.1, H3.out.1, HN.out.2, H3.out.2.1, H3.out.2.2⟩
        case measure => have := HLT.out; simp [intOf]; omega
      · have e1 : (e != 0) = true := by rw [bne_iff_ne]; exact e0
        have HN : Hid (appV s' ⟨k, f, q, t, d⟩ = R) := Lib.hid (by have := HSC.out; rw [if_neg (by rw [← HE.out]; exact e0)] at this; exact this)
        clear e0
        go_wp2
        go_ret2
        exact ⟨⟨_, by rw [← HN.out, ← HE.out]; rfl⟩, by rw [← HN.out]; exact H3.out.1, H3.out.2.2⟩
    · obtain rfl : j = l.length := by omega
      have HN : Hid ((s', (0 : Int)) = R) := Lib.hid (by have := HRR.out.1; rw [List.drop_length] at this; exact this)
      clear hlt hj h1000 hfb
      go_wp2
      go_ret2
      exact ⟨⟨_, by rw [← HN.out]; rfl⟩, by rw [← HN.out]; exact HRR.out.2.1, HRR.out.2.2.2.2⟩
end Go.Proofs.YtkbiolhcpghmkaaGreat
