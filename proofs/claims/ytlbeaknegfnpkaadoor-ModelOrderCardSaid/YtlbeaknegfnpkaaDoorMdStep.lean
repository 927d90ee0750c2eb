/- Contract of model.Step. Condition: few entries; the table of states lies where it lies. -/
import Derived.WalkSpells
import Derived.Outline
import Derived.Deep.QuietTactic
import Derived.DeepKeys4
import Derived.Test.YtlbeaknegfnpkaaDoorMapG
import Derived.Test.YtlbeaknegfnpkaaDoorMdTurn
import Derived.Test.YtlbeaknegfnpkaaDoorMdBase
namespace Go.Proofs.YtlbeaknegfnpkaaDoor
open Go.RowKit Go.Maps
set_option linter.unusedVariables false
theorem lawPkt : Keyed Tryd.prog 32 := Keyed.of_law (deep_law_laid (m := 9) (by kernel_rfl) (by decide) (of_decide_eq_true (by kernel_rfl)) (by kernel_rfl) (by kernel_rfl))
def PtV.lits (p : PtV) : List Lit := [.int .i64 p.f, .int .u64 p.q, .int .u64 p.t, .string p.d.data.toList]
set_option maxRecDepth 100000 in
theorem lits_pt (p : PtV) (h : p.wf) (d : Nat) : Tryd.prog.keyLits (d + 2) 32 p.cells = some p.lits := by
  have k1 : Tryd.prog.cellsOf 3 = 1 := by kernel_rfl
  have k2 : Tryd.prog.cellsOf 9 = 1 := by kernel_rfl
  have k3 : Tryd.prog.cellsOf 30 = 1 := by kernel_rfl
  have k4 : Tryd.prog.cellsOf 32 = 4 := by kernel_rfl
  unfold Program.keyLits
  rw [Tryd.underlying32]
  simp [k4, k1, k2, k3, Program.keyLits, Tryd.underlying3, Tryd.underlying30, Tryd.underlying9, h.f, h.q, h.t, h.d, PtV.cells, PtV.lits]
theorem key_pt (p : PtV) (h : p.wf) : keyOf Tryd.prog 32 p.val = some (.string (keyBytes p.lits)) := by
  obtain ⟨d, hd⟩ : ∃ d, Tryd.prog.types.size + 1 = d + 2 := ⟨Tryd.prog.types.size - 1, by kernel_rfl⟩
  have hl := lits_pt p h d
  have hk : Tryd.prog.keyType 32 = true := by kernel_rfl
  have k4 : Tryd.prog.cellsOf 32 = 4 := by kernel_rfl
  unfold keyOf
  rw [Tryd.underlying32, hd]
  have hf : p.val.formed Tryd.prog 32 = true := by
    unfold PtV.val Value.formed
    rw [Tryd.underlying32]
    simp [k4]
  simp only [hk, hf, Bool.and_self, if_true]
  rw [show p.val.cells.toList = p.cells from rfl, hl]
  rfl
noncomputable def kPt : Kq.KeyK Tryd.prog 32 PtV := ⟨lawPkt, PtV.val, fun p => .string (keyBytes p.lits), PtV.wf, key_pt, fun a b h => by
  obtain ⟨a1, a2, a3, a4⟩ := a
  obtain ⟨b1, b2, b3, b4⟩ := b
  simp only [PtV.val, Value.agg.injEq, Array.mk.injEq, List.cons.injEq, Value.int.injEq, Value.string.injEq, true_and, and_true] at h
  obtain ⟨h1, h2, h3, h4⟩ := h
  rw [h1, h2, h3, h4]⟩
noncomputable def eInt : Kq.ElK Tryd.prog 3 Int := ⟨plainElem Tryd.prog 3, fun z => .int .i64 z, fun z => .lit (.int .i64 z), fun z => (Lit.int .i64 z).wf = true, 0, by decide, fun w => by kernel_rfl, fun b h => plainElem_int Tryd.underlying3 h, fun v z h => by obtain ⟨x, h1, h2, _⟩ := plainElem_int_inv Tryd.underlying3 h; exact ⟨x, h1, by rw [h2]⟩, fun a b h => by injection h with h; injection h⟩
/-- the states that are told of the first j entries -/
structure StP (w : World) (M : Nat) (l : List EnV) (j : Nat) : Prop where
  ex : ∃ f sz, Kq.MapG kPt eInt w M j f sz ∧ ∀ p, f p = findE (l.take j) p
theorem StP.look {w : World} {M j : Nat} {l : List EnV} (h : StP w M l j) (p : PtV) (hp : p.wf) : (Instr.lookup 47 (.map (some M)) (.agg #[.int .i64 p.f, .int .u64 p.q, .int .u64 p.t, .string p.d]) true).run Tryd.prog w = .ok (.tuple #[.int .i64 ((findE (l.take j) p).getD 0), .bool (findE (l.take j) p).isSome]) w := by
  obtain ⟨f, sz, hm, hf⟩ := h.ex
  have := hm.look Tryd.underlying47 p hp
  rw [hf] at this
  exact this
theorem StP.lt {w : World} {M j : Nat} {l : List EnV} (h : StP w M l j) : M < w.heap.size := by
  obtain ⟨f, sz, hm, hf⟩ := h.ex
  exact hm.lt
theorem StP.below {w w' : World} {M j : Nat} {l : List EnV} (h : StP w M l j) (hb : Below w.heap.size w w') : StP w' M l j := by
  obtain ⟨f, sz, hm, hf⟩ := h.ex
  exact ⟨f, sz, hm.below hb, hf⟩
theorem StP.made (w : World) (l : List EnV) : StP (w.alloc (.map #[] 0)) w.heap.size l 0 := ⟨_, _, Kq.MapG.made kPt eInt w, fun p => rfl⟩
theorem StP.same {w : World} {M j : Nat} {l : List EnV} (h : StP w M l j) (hj : j < l.length) (hs : (findE (l.take j) l[j].p).isSome = true) : StP w M l (j + 1) := by
  obtain ⟨f, sz, hm, hf⟩ := h.ex
  refine ⟨f, sz, hm.up (by omega), fun p => ?_⟩
  rw [hf, take_succ_snoc l j hj, findE_snoc]
  by_cases h1 : (findE (l.take j) p).isSome = true
  · rw [if_pos h1]
  · rw [if_neg h1, if_neg (fun e => h1 (by rw [e]; exact hs))]
    simpa using h1
theorem StP.put {w : World} {M j : Nat} {l : List EnV} (h : StP w M l j) (hj : j < l.length) (hl : l.length ≤ 60) (hs : (findE (l.take j) l[j].p).isSome = false) (e : EnV) (he : e = l[j]) (hw : e.wf) :
    ∃ w', (Instr.mapUpdate 47 (.map (some M)) (.agg #[.int .i64 e.p.f, .int .u64 e.p.q, .int .u64 e.p.t, .string e.p.d]) (.int .i64 e.s)).run Tryd.prog w = .ok () w' ∧ StP w' M l (j + 1) ∧ Kq.Keeps (· = M) w w' := by
  obtain ⟨f, sz, hm, hf⟩ := h.ex
  obtain ⟨w', hrun, hm', hk⟩ := hm.put (by omega) Tryd.underlying47 e.p hw.p e.s hw.s
  refine ⟨w', hrun, ⟨_, _, hm', fun p => ?_⟩, hk⟩
  rw [take_succ_snoc l j hj, findE_snoc, ← he]
  unfold Kq.updG
  by_cases h1 : p = e.p
  · rw [if_pos h1, h1, he, if_neg (by rw [hs]; decide), if_pos rfl]
  · rw [if_neg h1, hf]
    by_cases h2 : (findE (l.take j) p).isSome = true
    · rw [if_pos h2]
    · rw [if_neg h2, if_neg h1]
      simpa using h2
theorem stepB_no {l m : List EnV} {j : Nat} (hj : j < l.length) (h : okE l[j] (findE m l[j].p) = false) : stepB l m = false := by
  unfold stepB
  rw [List.all_eq_false]
  exact ⟨l[j], List.getElem_mem _, by rw [h]; decide⟩
theorem stepB_yes {l m : List EnV} (h : ∀ i (hi : i < l.length), okE l[i] (findE m l[i].p) = true) : stepB l m = true := by
  unfold stepB
  rw [List.all_eq_true]
  intro e he
  obtain ⟨i, hi, rfl⟩ := List.getElem_of_mem he
  exact h i hi
set_option maxRecDepth 100000 in
set_option maxHeartbeats 4000000 in
theorem md_step (A B : Option Addr) (ca cb : Nat) (l m : List EnV) (w : World) (hl : l.length ≤ 60) (hm : m.length ≤ 60) (hA : enE.At w A l) (hB : enE.At w B m) (hlw : ∀ e ∈ l, e.wf) (hmw : ∀ e ∈ m, e.wf) (hL : LaidOk w) :
    Calls Tryd.prog 12 #[.slice A l.length ca, .slice B m.length cb] w fun x w' => x = .returned (.bool (stepB l m)) ∧ Below w.heap.size w w' := by
  have hmm := @run_makeMap Tryd.prog
  have HA := Lib.hid (And.intro hA (And.intro hl hlw))
  have HB := Lib.hid (And.intro hB (And.intro hm hmw))
  have HL := Lib.hid hL
  clear hA hB hl hm hlw hmw hL
  go_enter Tryd.func12, Tryd.ntmps12
  go_wp2
  obtain ⟨M, hM⟩ : ∃ M, M = w.heap.size := ⟨_, rfl⟩
  have HM := Lib.hid hM
  have HS0 : Hid (StP (w.alloc (.map #[] 0)) M m 0) := Lib.hid (by rw [hM]; exact StP.made w m)
  rw [← hM]
  clear hM hmm
  go_loopw [17] (fun i wr => ∃ j : Nat, j ≤ m.length ∧ i = .int .i64 (j : Int) ∧ StP wr M m j ∧ Below w.heap.size w wr) (fun i _ => m.length - (intOf i).toNat)
  case atStart => exact ⟨0, Nat.zero_le _, rfl, HS0.out, Kq.below_alloc _ _⟩
  case round =>
    obtain ⟨j, hj, rfl, hst, hbl⟩ := hrel
    by_cases hlt : j < m.length
    · have hi0' : (j : Int) < (m.length : Int) := by omega
      have hj60 : j ≤ 60 := by have := HB.out.2.1; omega
      obtain ⟨b, off, rfl, hb, hc⟩ := en_at (HB.out.1.below hbl) hlt
      obtain ⟨e, he⟩ : ∃ e, e = m[j] := ⟨_, rfl⟩
      rw [← he] at hc
      have hew : e.wf := by rw [he]; exact HB.out.2.2 _ (List.getElem_mem _)
      have HLT := Lib.hid hlt
      unfold EnC at hc
      obtain ⟨c0, c1, c2, c3, c4⟩ := hc
      have hb1 := Kq.below_alloc wr (.cells #[.int .i64 e.p.f, .int .u64 e.p.q, .int .u64 e.p.t, .string e.p.d, .int .i64 e.s] 40)
      have hlk := (hst.below hb1).look e.p hew.p
      cases hs : (findE (m.take j) e.p).isSome with
      | true =>
        rw [hs] at hlk
        have HD : Hid (StP (wr.alloc (.cells #[.int .i64 e.p.f, .int .u64 e.p.q, .int .u64 e.p.t, .string e.p.d, .int .i64 e.s] 40)) M m (j + 1) ∧ Below w.heap.size w (wr.alloc (.cells #[.int .i64 e.p.f, .int .u64 e.p.q, .int .u64 e.p.t, .string e.p.d, .int .i64 e.s] 40))) := Lib.hid ⟨(hst.below hb1).same hlt (by rw [← he]; exact hs), hbl.trans (hb1.mono hbl.size)⟩
        generalize (findE (m.take j) e.p).getD 0 = r at *
        clear hs hst hbl hb hew he hb1
        go_wp2
        go_roundw
        case rel => exact ⟨j + 1, HLT.out, by go_num, HD.out⟩
        case measure => have := HLT.out; simp [intOf]; omega
      | false =>
        rw [hs] at hlk
        obtain ⟨wn, hrun, hst', hk⟩ := (hst.below hb1).put hlt HB.out.2.1 (by rw [← he]; exact hs) e he hew
        have HD : Hid (StP wn M m (j + 1) ∧ Below w.heap.size w wn) := Lib.hid ⟨hst', (hbl.trans (hb1.mono hbl.size)).trans (hk.below (by have := hbl.size; rw [World.size_alloc]; omega) (fun k _ e => by have := HM.out; omega))⟩
        generalize (findE (m.take j) e.p).getD 0 = r at *
        clear hs hst hbl hb hew he hb1 hst' hk
        go_wp2
        go_roundw
        case rel => exact ⟨j + 1, HLT.out, by go_num, HD.out⟩
        case measure => have := HLT.out; simp [intOf]; omega
    · obtain rfl : j = m.length := by omega
      have HS := Lib.hid (And.intro hst hbl)
      clear hst hbl hlt HS0
      go_wp2
      go_loopw [38] (fun i wr => ∃ j : Nat, j ≤ l.length ∧ i = .int .i64 (j : Int) ∧ StP wr M m m.length ∧ Below w.heap.size w wr ∧ ∀ i (hi : i < l.length), i < j → okE l[i] (findE m l[i].p) = true) (fun i _ => l.length - (intOf i).toNat)
      case atStart => exact ⟨0, Nat.zero_le _, rfl, HS.out.1, HS.out.2, fun i _ hi => absurd hi (Nat.not_lt_zero _)⟩
      case round =>
        obtain ⟨j, hj, rfl, hst, hbl, hup⟩ := hrel
        by_cases hlt : j < l.length
        · have hi0' : (j : Int) < (l.length : Int) := by omega
          have hj60 : j ≤ 60 := by have := HA.out.2.1; omega
          obtain ⟨b, off, rfl, hb, hc⟩ := en_at (HA.out.1.below hbl) hlt
          obtain ⟨e, he⟩ : ∃ e, e = l[j] := ⟨_, rfl⟩
          rw [← he] at hc
          have hew : e.wf := by rw [he]; exact HA.out.2.2 _ (List.getElem_mem _)
          have HLT := Lib.hid hlt
          have HE := Lib.hid (And.intro he hup)
          unfold EnC at hc
          obtain ⟨c0, c1, c2, c3, c4⟩ := hc
          have hb1 := Kq.below_alloc wr (.cells #[.int .i64 e.p.f, .int .u64 e.p.q, .int .u64 e.p.t, .string e.p.d, .int .i64 e.s] 40)
          have hlk := (hst.below hb1).look e.p hew.p
          rw [List.take_length] at hlk
          have HD : Hid (StP (wr.alloc (.cells #[.int .i64 e.p.f, .int .u64 e.p.q, .int .u64 e.p.t, .string e.p.d, .int .i64 e.s] 40)) M m m.length ∧ Below w.heap.size w (wr.alloc (.cells #[.int .i64 e.p.f, .int .u64 e.p.q, .int .u64 e.p.t, .string e.p.d, .int .i64 e.s] 40))) := Lib.hid ⟨hst.below hb1, hbl.trans (hb1.mono hbl.size)⟩
          cases hf : findE m e.p with
          | none =>
            rw [hf] at hlk
            have HN : Hid (stepB l m = false) := Lib.hid (stepB_no HLT.out (by rw [← HE.out.1, hf]; rfl))
            clear hf hst hbl hb hew he hb1 hup
            simp only [Option.getD_none, Option.isSome_none] at hlk
            go_wp2
            go_ret
            exact ⟨by rw [HN.out]; rfl, HD.out.2⟩
          | some s =>
            rw [hf] at hlk
            simp only [Option.getD_some, Option.isSome_some] at hlk
            have HF := Lib.hid hf
            clear hf hst hbl hb hew he hb1 hup
            go_wp2_with fail
            refine (md_reached e.s s _ (HL.out.below HD.out.2)).mono ?_
            rintro x w3 ⟨rfl, rfl⟩
            cases hr : rchB e.s s with
            | true =>
              have HR := Lib.hid hr
              clear hr
              go_wp2
              go_roundw
              case rel =>
                refine ⟨j + 1, HLT.out, by go_num, HD.out.1, HD.out.2, fun i hi h => ?_⟩
                rcases Nat.lt_or_ge i j with h' | h'
                · exact HE.out.2 i hi h'
                · have : i = j := by omega
                  subst this
                  rw [← HE.out.1, HF.out]
                  exact HR.out
              case measure => have := HLT.out; simp [intOf]; omega
            | false =>
              have HN : Hid (stepB l m = false) := Lib.hid (stepB_no HLT.out (by rw [← HE.out.1, HF.out]; exact hr))
              clear hr
              go_wp2
              go_ret
              exact ⟨by rw [HN.out]; rfl, HD.out.2⟩
        · obtain rfl : j = l.length := by omega
          have HN : Hid (stepB l m = true) := Lib.hid (stepB_yes (fun i hi => hup i hi hi))
          have HBL := Lib.hid hbl
          clear hst hbl hup hlt
          go_wp2
          go_ret
          exact ⟨by rw [HN.out]; rfl, HBL.out⟩
end Go.Proofs.YtlbeaknegfnpkaaDoor
