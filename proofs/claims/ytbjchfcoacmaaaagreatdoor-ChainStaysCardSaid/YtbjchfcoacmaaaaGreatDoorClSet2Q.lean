/- Merged: ClKeep, ClLooks, ClSet, ClSet2. A client in memory; contracts of its looks: find, From, Latest, Heights, Root; New. No condition. Contracts of a client's New, From, Latest, Heights, Root. No condition. Contract of a client's Set. Condition: it has room. Contract of a client's Set in every case. Condition: it has room. -/
import Derived.WalkSpells
import Derived.Outline
import Derived.Test.YtbjchfcoacmaaaaGreatDoorCommonQ
import Derived.Test.YtbjchfcoacmaaaaGreatDoorCaMQ
import Derived.Test.YtbjchfcoacmaaaaGreatDoorClMapQ
import Derived.Test.YtbjchfcoacmaaaaGreatDoorPfSeQ
import Derived.Deep.QuietTactic
import Derived.BigQuiet
import Derived.Test.YtbjchfcoacmaaaaGreatDoorAppViewQ
namespace Go.Proofs.YtbjchfcoacmaaaaGreatDoor
open Go.RowKit Go.Cl
set_option linter.unusedVariables false
def hcells (hs : List Nat) : List Value := hs.map fun (n : Nat) => Value.int .u64 (n : Int)
/-- heights and roots that fit -/
structure ClOk (hs : List Nat) (f : Int → Option ByteArray) : Prop where
  srt : hs.Pairwise (· < ·)
  mem : ∀ k : Nat, (f (k : Int)).isSome = true ↔ k ∈ hs
  lt : ∀ k ∈ hs, k < 18446744073709551616
  r32 : ∀ (k : Int) s, f k = some s → s.size = 32
theorem ClOk.nil : ClOk [] (fun _ => none) := ⟨List.Pairwise.nil, (fun k => by simp), (fun k h => by cases h), (fun k s h => by cases h)⟩
structure CliS (w : World) (base C M N : Nat) (v : Value) (hs : List Nat) (f : Int → Option ByteArray) : Prop where
  blk : w.heap[C]? = some (.cells #[.map (some M), v] 131 (0, 0))
  own : w.ownsRow base 22 1 v hs.length (hcells hs)
  mp : MapT w M N f hs.length
  ne : ∀ k, v.ownBlock = some k → k ≠ C ∧ k ≠ M
  cm : M ≠ C
  base : base ≤ w.heap.size
  ok : ClOk hs f
section
variable {w : World} {base C M N : Nat} {v : Value} {hs : List Nat} {f : Int → Option ByteArray} (h : CliS w base C M N v hs f)
include h
theorem CliS.c0 : w.cell? ⟨C, 0, none⟩ = some (.map (some M)) := Kq.blk_cell h.blk 0
theorem CliS.c1 : w.cell? ⟨C, 1, none⟩ = some v := Kq.blk_cell h.blk 1
theorem CliS.fz (i : Nat) : w.frozen? ⟨C, i, none⟩ = false := Kq.blk_free h.blk i
theorem CliS.keeps {P : Nat → Prop} {w' : World} (hk : Kq.Keeps P w w') (hC : ¬ P C) (hM : ¬ P M) (hP : ∀ k, v.ownBlock = some k → ¬ P k) : CliS w' base C M N v hs f := by
  refine ⟨hk.blk h.blk hC, ?_, h.mp.keeps hk hM, h.ne, h.cm, Nat.le_trans h.base hk.size, h.ok⟩
  obtain ⟨h1, h2⟩ := h.own
  refine ⟨h1, h2.imp id ?_⟩
  rintro ⟨g, cap, cur, hv, h3, h4, h5⟩
  exact ⟨g, cap, cur, hv, h3, hk.blk h4 (hP g (by rw [hv]; rfl)), h5⟩
theorem CliS.below {w' : World} (hb : Below w.heap.size w w') : CliS w' base C M N v hs f :=
  h.keeps (P := fun _ => False) (Kq.Keeps.of_below hb (fun j h1 h2 => absurd h1 (Nat.not_le.2 h2))) id id (fun _ _ => id)
theorem CliS.shape : ∃ A cap, v = .slice A hs.length cap ∧ hs.length ≤ cap := by
  rcases h.own.2 with ⟨rfl, h0⟩ | ⟨g, cap, cur, rfl, _, _, hc, _⟩
  · exact ⟨none, 0, by rw [h0], by omega⟩
  · exact ⟨_, cap, rfl, hc⟩
theorem CliS.at (h0 : 0 < hs.length) : ∃ g cap, v = .slice (some ⟨g, 0, none⟩) hs.length cap ∧ g < w.heap.size ∧ hs.length ≤ cap ∧ ∀ j (hj : j < hs.length), w.cell? ⟨g, j, none⟩ = some (.int .u64 (hs[j] : Int)) := by
  obtain ⟨hl, h2⟩ := h.own
  rcases h2 with ⟨_, hx⟩ | ⟨g, cap, cur, rfl, _, hb, hcap, _, _, ht⟩
  · omega
  · refine ⟨g, cap, rfl, Kq.blk_lt hb, hcap, fun j hj => ?_⟩
    rw [Kq.blk_cell hb j, ← Array.getElem?_toList]
    have : (cur.toList.take (hs.length * 1))[j]? = some (.int .u64 (hs[j] : Int)) := by rw [ht]; simp [hcells, hj]
    rw [List.getElem?_take, if_pos (by omega)] at this
    exact this
end
theorem drewN_two (w : World) (a b : Nat) : (w.drewN a).drewN b = w.drewN (a + b) := by simp [World.drewN, Nat.add_assoc]
set_option maxRecDepth 100000 in
set_option maxHeartbeats 1000000 in
theorem cl_test (x : Nat) (C b1 b2 g len cap i : Nat) (y : Nat) (w : World) (q1 : w.cell? ⟨b1, 0, none⟩ = some (.pointer (some ⟨C, 0, none⟩))) (q2 : w.cell? ⟨b2, 0, none⟩ = some (.int .u64 (x : Int)))
    (c1 : w.cell? ⟨C, 1, none⟩ = some (.slice (some ⟨g, 0, none⟩) len cap)) (hi : i < len) (ci : w.cell? ⟨g, i, none⟩ = some (.int .u64 (y : Int))) :
    Calls Tryz.prog 162 #[.int .i64 (i : Int), .pointer (some ⟨b1, 0, none⟩), .pointer (some ⟨b2, 0, none⟩)] w fun e w' => e = .returned (.bool (decide (x ≤ y))) ∧ ∃ r, w' = w.drewN r := by
  have e1 : (i : Int) < (len : Int) := by omega
  have e2 : (0 : Int) ≤ (i : Int) := by omega
  go_enter Tryz.func162, Tryz.ntmps162
  go_wp2
  go_quiet (fail)
  go_wp2
  go_ret
  exact ⟨by simp, _, rfl⟩
set_option maxRecDepth 100000 in
set_option maxHeartbeats 1000000 in
theorem cl_find (base C M N : Nat) (v : Value) (hs : List Nat) (f : Int → Option ByteArray) (x : Nat) (w : World) (h : CliS w base C M N v hs f) (hn : hs.length ≤ 1000000) :
    Calls Tryz.prog 129 #[.pointer (some ⟨C, 0, none⟩), .int .u64 (x : Int)] w fun e w' => e = .returned (.int .i64 (lowC x hs : Int)) ∧ Below w.heap.size w w' := by
  have hmf : ∀ (fn : Fn) (first cap : Array Value) (w : World), (Instr.makeFunc fn first cap).run Tryz.prog w = .ok (.func fn first cap) w := fun _ _ _ _ => rfl
  obtain ⟨A, cap, rfl, -⟩ := h.shape
  have hb1 : Below w.heap.size w (w.alloc (.cells #[.pointer (some ⟨C, 0, none⟩)] 78)) := Kq.below_alloc _ _
  have hb2 : Below w.heap.size w ((w.alloc (.cells #[.pointer (some ⟨C, 0, none⟩)] 78)).alloc (.cells #[.int .u64 (x : Int)] 22)) := hb1.trans ((Kq.below_alloc _ _).mono hb1.size)
  have KF : Hid (∀ q i, i < hs.length → Calls Tryz.prog 162 #[.int .i64 (i : Int), .pointer (some ⟨w.heap.size, 0, none⟩), .pointer (some ⟨w.heap.size + 1, 0, none⟩)] (((w.alloc (.cells #[.pointer (some ⟨C, 0, none⟩)] 78)).alloc (.cells #[.int .u64 (x : Int)] 22)).drewN q) fun e w' => e = .returned (.bool (decide (lowC x hs ≤ i))) ∧ ∃ r, w' = ((w.alloc (.cells #[.pointer (some ⟨C, 0, none⟩)] 78)).alloc (.cells #[.int .u64 (x : Int)] 22)).drewN r) := Lib.hid (fun q i hi => by
    have hd := h.below (below_drewN hb2 q)
    obtain ⟨g, cap', hv, hg, _, hat⟩ := hd.at (by omega)
    injection hv with hA _ _
    subst hA
    have e : decide (lowC x hs ≤ i) = decide (x ≤ hs[i]) := by
      have := low_iff (x := x) h.ok.srt i hi
      rw [decide_eq_decide]; omega
    rw [e]
    refine (cl_test x C w.heap.size (w.heap.size + 1) g hs.length cap i hs[i] _ ?_ ?_ hd.c1 hi (hat i hi)).mono ?_
    · show World.cell? _ _ = _
      rw [show (((w.alloc (.cells #[.pointer (some ⟨C, 0, none⟩)] 78)).alloc (.cells #[.int .u64 (x : Int)] 22)).drewN q).cell? ⟨w.heap.size, 0, none⟩ = ((w.alloc (.cells #[.pointer (some ⟨C, 0, none⟩)] 78)).alloc (.cells #[.int .u64 (x : Int)] 22)).cell? ⟨w.heap.size, 0, none⟩ from rfl]
      simp
    · have := Kq.blk_new (w.alloc (.cells #[.pointer (some ⟨C, 0, none⟩)] 78)) #[.int .u64 (x : Int)] 22 (0, 0)
      rw [World.size_alloc] at this
      exact Kq.blk_cell (w := ((w.alloc (.cells #[.pointer (some ⟨C, 0, none⟩)] 78)).alloc (.cells #[.int .u64 (x : Int)] 22)).drewN q) this 0
    · rintro e w' ⟨rfl, r, rfl⟩
      exact ⟨rfl, q + r, drewN_two _ q r⟩)
  have c1 := (h.below hb2).c1
  have HB := Lib.hid hb2
  have HP := Lib.hid (And.intro (low_le x hs) hn)
  clear h hb1 hb2
  go_enter Tryz.func129, Tryz.ntmps129
  go_wp2_with fail
  refine (search_ok hs.length (lowC x hs) HP.out.1 HP.out.2 _ _ _ KF.out).mono ?_
  rintro e w' ⟨rfl, r, rfl⟩
  go_wp2
  go_ret
  exact ⟨rfl, below_drewN HB.out r⟩
end Go.Proofs.YtbjchfcoacmaaaaGreatDoor
namespace Go.Proofs.YtbjchfcoacmaaaaGreatDoor
open Go.RowKit Go.Cl
set_option linter.unusedVariables false
theorem info_parts {t : TypeId} {z : Value} {s b : Nat} (h : (Tryz.prog.info? t).map (fun i => (i.zero, i.size, i.bytes)) = some (some z, s, b)) : ∃ i, Tryz.prog.info? t = some i ∧ i.zero = some z ∧ i.size = s ∧ i.bytes = b := by
  cases hi : Tryz.prog.info? t with
  | none => rw [hi] at h; cases h
  | some i =>
    rw [hi] at h
    simp only [Option.map_some, Option.some.injEq, Prod.mk.injEq] at h
    exact ⟨i, rfl, h.1, h.2.1, h.2.2⟩
theorem infoU : (Tryz.prog.info? 22).map (fun i => (i.zero, i.size, i.bytes)) = some (some (.int .u64 0), 1, 8) := by kernel_rfl
theorem hcells_length (hs : List Nat) : (hcells hs).length = hs.length * 1 := by simp [hcells]
theorem hcells_one (hs : List Nat) : ∀ u ∈ hcells hs, u.oneCell' = true := by
  intro u hu
  obtain ⟨n, _, rfl⟩ := List.mem_map.1 hu
  rfl
theorem src_hs {w : World} {base C M N : Nat} {A : Option Addr} {cap : Nat} {hs : List Nat} {f : Int → Option ByteArray} (h : CliS w base C M N (.slice A hs.length cap) hs f) : Src Tryz.prog 1 37 (.slice A hs.length cap) hs.length (hcells hs) w := by
  rcases h.own.2 with ⟨hv, h0⟩ | ⟨g, cap', cur, hv, _, hb, _, _, _, ht⟩
  · injection hv with e1 e2 e3
    subst e1
    have : hs = [] := List.eq_nil_of_length_eq_zero h0
    subst this
    exact Src.ofNil w Tryz.underlying37 cap
  · injection hv with e1 e2 e3
    subst e1
    refine Src.ofSlice _ Tryz.underlying37 ⟨g, 0, none⟩ hs.length cap (hcells hs) (hcells_length hs) (fun j u hj => ?_) (hcells_one hs)
    have hadd : (⟨g, 0, none⟩ : Addr).add j = ⟨g, j, none⟩ := by unfold Addr.add; split <;> simp_all
    have hj' : j < hs.length * 1 := by
      rcases Nat.lt_or_ge j (hs.length * 1) with h' | h'
      · exact h'
      · rw [List.getElem?_eq_none (by rw [hcells_length]; exact h')] at hj; cases hj
    rw [hadd, Kq.blk_cell hb j, ← Array.getElem?_toList, ← hj, ← ht, List.getElem?_take, if_pos hj']
set_option maxRecDepth 100000 in
theorem cl_new (w : World) : Calls Tryz.prog 30 #[] w fun e w' => e = .returned (.pointer (some ⟨w.heap.size + 1, 0, none⟩)) ∧ CliS w' w.heap.size (w.heap.size + 1) w.heap.size 0 (.slice none 0 0) [] (fun _ => none) ∧ Below w.heap.size w w' := by
  have hm := MapT.made w
  have hb := Kq.below_alloc w (.map #[] 0)
  have hc := Kq.blk_new (w.alloc (.map #[] 0)) #[.map (some w.heap.size), .slice none 0 0] 131 (0, 0)
  rw [World.size_alloc] at hc
  have HP : Hid (CliS ((w.alloc (.map #[] 0)).alloc (.cells #[.map (some w.heap.size), .slice none 0 0] 131)) w.heap.size (w.heap.size + 1) w.heap.size 0 (.slice none 0 0) [] (fun _ => none) ∧ Below w.heap.size w ((w.alloc (.map #[] 0)).alloc (.cells #[.map (some w.heap.size), .slice none 0 0] 131))) :=
    Lib.hid ⟨⟨hc, World.ownsRow_nil _ _ _ _, hm.below (Kq.below_alloc _ _), (fun k hk => by cases hk), by omega, by simp; omega, ClOk.nil⟩, hb.trans ((Kq.below_alloc _ _).mono hb.size)⟩
  clear hm hb hc
  have hmm := @run_makeMap Tryz.prog
  go_enter Tryz.func30, Tryz.ntmps30
  go_wp2
  go_ret
  exact ⟨rfl, HP.out⟩
def latF (hs : List Nat) : Nat := if h : 0 < hs.length then hs[hs.length - 1] else 0
set_option maxRecDepth 100000 in
set_option maxHeartbeats 1000000 in
theorem cl_latest_q (base C M N : Nat) (v : Value) (hs : List Nat) (f : Int → Option ByteArray) (w : World) (h : CliS w base C M N v hs f) (hn : hs.length ≤ 1000000) :
    Calls Tryz.prog 65 #[.pointer (some ⟨C, 0, none⟩)] w fun e w' => e = .returned (.int .u64 (latF hs : Int)) ∧ ∃ r, w' = w.drewN r := by
  obtain ⟨A, cap, rfl, -⟩ := h.shape
  have c1 := h.c1
  unfold latF
  by_cases hp : 0 < hs.length
  · rw [dif_pos hp]
    obtain ⟨g, cap', hv, hg, -, hat⟩ := h.at hp
    injection hv with hA _ _
    subst hA
    have ci := hat (hs.length - 1) (by omega)
    obtain ⟨m, hm⟩ : ∃ m, hs.length = m + 1 := ⟨hs.length - 1, by omega⟩
    have hm2 : hs.length - 1 = m := by omega
    have hne : ((hs.length : Int) == 0) = false := beq_eq_false_iff_ne.2 (by omega)
    have hne2 : (hs.length == 0) = false := beq_eq_false_iff_ne.2 (by omega)
    have e1 : wrap64 ((hs.length : Int) - 1) = (m : Int) := by rw [IntWalk.wrap64_in _ (by omega)]; omega
    have e2 : IntKind.i64.wrap ((hs.length : Int) - 1) = (m : Int) := by rw [IntWalk.i64_in _ (by omega)]; omega
    have e3 : (m : Int) < (hs.length : Int) := by omega
    have e4 : m < hs.length := by omega
    have e5 : (0 : Int) ≤ (m : Int) := by omega
    generalize hs[hs.length - 1] = y at *
    rw [hm2] at ci
    have hnz : ¬ hs.length = 0 := by omega
    clear h hat hm hm2 hg
    go_enter Tryz.func65, Tryz.ntmps65
    go_wp2
    go_quiet (fail)
    go_wp2
    go_ret
    exact ⟨rfl, _, rfl⟩
  · rw [dif_neg hp]
    have hz : hs.length = 0 := by omega
    rw [hz] at c1
    clear h
    go_enter Tryz.func65, Tryz.ntmps65
    go_wp2
    go_ret
    exact ⟨rfl, 0, rfl⟩
set_option maxRecDepth 100000 in
set_option maxHeartbeats 1000000 in
theorem cl_heights (base C M N : Nat) (v : Value) (hs : List Nat) (f : Int → Option ByteArray) (w : World) (h : CliS w base C M N v hs f) (hn : hs.length ≤ 1000000) :
    Calls Tryz.prog 40 #[.pointer (some ⟨C, 0, none⟩)] w fun e w' => ∃ v', e = .returned v' ∧ w'.ownsRow w.heap.size 22 1 v' hs.length (hcells hs) ∧ Below w.heap.size w w' := by
  obtain ⟨i0, hi, hz0, hz1, hz2⟩ := info_parts infoU
  obtain ⟨A, cap, rfl, -⟩ := h.shape
  have c1 := h.c1
  have HS := Lib.hid (src_hs h)
  clear h
  go_enter Tryz.func40, Tryz.ntmps40
  go_wp2_with (at_builtin; go_loud (refine Kq.wpList_append_any _ rfl (.const (.slice none 0 0)) (.tmp 6) 37 37 rfl w.heap.size 22 i0 (.int .u64 0) 1 8 Tryz.underlying37 hi hz0 hz1 hz2 rfl (by decide) (.slice none 0 0) 0 [] rfl (World.ownsRow_nil _ _ _ _) (.slice A hs.length cap) hs.length (hcells hs) rfl ?hs ?h1 ?h2 ?h3 ?_))
  case hs => exact HS.out
  case h1 => unfold maxLen; omega
  case h2 => omega
  case h3 => exact Nat.le_refl _
  intro v' w1 hown1 hgrow hfresh
  have HB : Hid (Below w.heap.size w w1) := Lib.hid ⟨hgrow.os, hgrow.tape, hgrow.output, hgrow.size, fun k hk => hgrow.block k hk (fun e => by cases e)⟩
  have HO : Hid (w1.ownsRow w.heap.size 22 1 v' hs.length (hcells hs)) := Lib.hid (by simpa using hown1)
  obtain ⟨a', n', cap', hv⟩ := Kq.own_shape hown1
  clear hown1 hgrow hfresh
  rw [hv] at HO ⊢
  clear hv
  go_wp2
  go_ret
  exact ⟨_, rfl, HO.out, HB.out⟩
set_option maxRecDepth 100000 in
set_option maxHeartbeats 1000000 in
theorem cl_root (base C M N : Nat) (v : Value) (hs : List Nat) (f : Int → Option ByteArray) (x : Nat) (hx : x < 18446744073709551616) (w : World) (h : CliS w base C M N v hs f) :
    Calls Tryz.prog 131 #[.pointer (some ⟨C, 0, none⟩), .int .u64 (x : Int)] w fun e w' => e = .returned (.tuple #[.string ((f (x : Int)).getD ⟨#[]⟩), .bool (f (x : Int)).isSome]) ∧ w = w' := by
  have c0 := h.c0
  have hl := h.mp.look (x : Int) (by simp [Lit.wf, IntKind.min, IntKind.max, IntKind.signed, IntKind.bits]; omega)
  clear h
  generalize (f (x : Int)).getD ⟨#[]⟩ = r at *
  generalize (f (x : Int)).isSome = q at *
  go_enter Tryz.func131, Tryz.ntmps131
  go_wp2
  go_ret2
  exact ⟨rfl, rfl⟩
end Go.Proofs.YtbjchfcoacmaaaaGreatDoor
namespace Go.Proofs.YtbjchfcoacmaaaaGreatDoor
open Go.RowKit Go.Cl
set_option linter.unusedVariables false
theorem hcells_ins (x : Nat) (hs : List Nat) : hcells (ins x hs) = hcells (hs.take (lowC x hs)) ++ [Value.int .u64 (x : Int)] ++ hcells (hs.drop (lowC x hs)) := by
  unfold hcells
  rw [ins_eq]
  simp
/-- what a Set makes of a client; its code -/
def setF (x : Nat) (s : ByteArray) (hs : List Nat) (f : Int → Option ByteArray) : List Nat × (Int → Option ByteArray) × Int :=
  if s.size = 32 then (if (f (x : Int)).isSome then (hs, f, 4) else (ins x hs, updT f x s, 0)) else (hs, f, 1)
theorem ins_ok {x : Nat} {s : ByteArray} {hs : List Nat} {f : Int → Option ByteArray} (h : ClOk hs f) (hx : x < 18446744073709551616) (h32 : s.size = 32) (hn : ¬ (f (x : Int)).isSome = true) : ClOk (ins x hs) (updT f x s) := by
  have hnm : x ∉ hs := fun hm => hn ((h.mem x).2 hm)
  refine ⟨ins_sorted h.srt hnm, fun k => ?_, fun k hk => ?_, fun k t hk => ?_⟩
  · rw [mem_ins]
    unfold updT
    by_cases e : (k : Int) = (x : Int)
    · rw [if_pos e]; simp; omega
    · rw [if_neg e, h.mem k]
      constructor
      · exact Or.inr
      · rintro (e2 | e2)
        · omega
        · exact e2
  · rcases (mem_ins x k hs).1 hk with rfl | hk
    · exact hx
    · exact h.lt k hk
  · unfold updT at hk
    by_cases e : k = (x : Int)
    · rw [if_pos e] at hk; cases hk; exact h32
    · rw [if_neg e] at hk; exact h.r32 k t hk
def OwnC (C M : Nat) (v : Value) (j : Nat) : Prop := j = C ∨ j = M ∨ v.ownBlock = some j
/-- what a call leaves of a client -/
def SetP (w : World) (base C M N : Nat) (v : Value) (hs : List Nat) (f : Int → Option ByteArray) (w' : World) : Prop :=
  ∃ v', CliS w' base C M N v' hs f ∧ Kq.Keeps (OwnC C M v) w w' ∧ (∀ j, v'.ownBlock = some j → v.ownBlock = some j ∨ w.heap.size ≤ j)
theorem src_drop {w : World} {base C M N : Nat} {g cap p c o : Nat} {hs : List Nat} {f : Int → Option ByteArray} (h : CliS w base C M N (.slice (some ⟨g, 0, none⟩) hs.length cap) hs f) (hp : p ≤ hs.length) (ho : p < hs.length → o = p) :
    Src Tryz.prog 1 37 (.slice (some ⟨g, o, none⟩) (hs.length - p) c) (hs.length - p) (hcells (hs.drop p)) w := by
  refine Src.ofSlice _ Tryz.underlying37 ⟨g, o, none⟩ (hs.length - p) c (hcells (hs.drop p)) (by simp [hcells]) (fun j u hj => ?_) (hcells_one _)
  have hj' : j < hs.length - p := by
    rcases Nat.lt_or_ge j (hs.length - p) with h' | h'
    · exact h'
    · rw [List.getElem?_eq_none (by simp [hcells]; omega)] at hj; cases hj
  have hop := ho (by omega)
  subst hop
  have hadd : (⟨g, o, none⟩ : Addr).add j = ⟨g, o + j, none⟩ := by unfold Addr.add; split <;> simp_all
  obtain ⟨g', cap', hv, _, _, hat⟩ := h.at (by omega)
  injection hv with hA _ _
  injection hA with hA
  injection hA with hA
  subst hA
  rw [hadd, hat (o + j) (by omega), ← hj]
  simp [hcells, List.getElem?_map, List.getElem?_drop, List.getElem?_eq_getElem (show o + j < hs.length by omega)]
theorem first_take {w : World} {base C M N : Nat} {g cap p c : Nat} {hs : List Nat} {f : Int → Option ByteArray} (h : CliS w base C M N (.slice (some ⟨g, 0, none⟩) hs.length cap) hs f) (hp : p ≤ hs.length) :
    (Builtin.firstCells 1 p (.slice (some ⟨g, 0, none⟩) p c)).run Tryz.prog w.drew = .ok (hcells (hs.take p)).toArray w.drew := by
  refine run_firstCells_some w.drew 1 p ⟨g, 0, none⟩ p c _ (by simp [hcells]; omega) (fun j u hj => ?_)
  have hj' : j < p := by
    rcases Nat.lt_or_ge j p with h' | h'
    · exact h'
    · rw [List.getElem?_eq_none (by simp [hcells]; omega)] at hj; cases hj
  have hadd : (⟨g, 0, none⟩ : Addr).add j = ⟨g, j, none⟩ := by unfold Addr.add; split <;> simp_all
  obtain ⟨g', cap', hv, _, _, hat⟩ := h.at (by omega)
  injection hv with hA _ _
  injection hA with hA
  injection hA with hA
  subst hA
  rw [hadd]
  show w.cell? _ = _
  rw [hat j (by omega), ← hj]
  simp [hcells, List.getElem?_map, hj', List.getElem?_eq_getElem (show j < hs.length by omega)]
theorem src_one (w : World) (x : Nat) (c : Nat) (e : TypeId) : Src Tryz.prog 1 37 (.slice (some ⟨w.heap.size, 0, none⟩) 1 c) 1 [Value.int .u64 (x : Int)] (w.alloc (.cells #[.int .u64 (x : Int)] e)) :=
  Src.ofSlice _ Tryz.underlying37 ⟨w.heap.size, 0, none⟩ 1 c [Value.int .u64 (x : Int)] rfl (fun j u hj => Kq.cell_new _ _ _ (by
    rw [← List.getElem?_toArray] at hj
    exact hj)) (fun u hu => by
    simp only [List.mem_cons, List.not_mem_nil, or_false] at hu
    subst hu
    rfl)
set_option maxRecDepth 100000 in
set_option maxHeartbeats 1000000 in
theorem cl_set_bad (base C M N : Nat) (v : Value) (hs : List Nat) (f : Int → Option ByteArray) (x : Nat) (hx : x < 18446744073709551616) (s : ByteArray) (w : World) (h : CliS w base C M N v hs f) (hn : hs.length ≤ 4000) (hs32 : s.size ≠ 32) (hsm : s.size ≤ maxLen) :
    Calls Tryz.prog 77 #[.pointer (some ⟨C, 0, none⟩), .int .u64 (x : Int), .string s] w fun e w' => e = .returned (.int .i64 1) ∧ w = w' := by
  have d0 : ((s.size : Int) != 32) = true := by simp; omega
  have d1 : (s.size != 32) = true := by simp; omega
  clear h hs32
  go_enter Tryz.func77, Tryz.ntmps77
  go_wp2
  go_ret
  exact ⟨rfl, rfl⟩
set_option maxRecDepth 100000 in
set_option maxHeartbeats 1000000 in
theorem cl_set_twice (base C M N : Nat) (v : Value) (hs : List Nat) (f : Int → Option ByteArray) (x : Nat) (hx : x < 18446744073709551616) (s : ByteArray) (w : World) (h : CliS w base C M N v hs f) (hn : hs.length ≤ 4000) (hs32 : s.size = 32) (hk : (f (x : Int)).isSome = true) :
    Calls Tryz.prog 77 #[.pointer (some ⟨C, 0, none⟩), .int .u64 (x : Int), .string s] w fun e w' => e = .returned (.int .i64 4) ∧ w = w' := by
  have d0 : ((s.size : Int) != 32) = false := by simp; omega
  have d1 : (s.size != 32) = false := by simp; omega
  have c0 := h.c0
  have hl := h.mp.look (x : Int) (by simp [Lit.wf, IntKind.min, IntKind.max, IntKind.signed, IntKind.bits]; omega)
  rw [hk] at hl
  clear h hs32 hk
  generalize (f (x : Int)).getD ⟨#[]⟩ = r at *
  go_enter Tryz.func77, Tryz.ntmps77
  go_wp2
  go_ret
  exact ⟨rfl, rfl⟩
theorem set_close {wq w5 w6 : World} {base C M N x : Nat} {v v2 : Value} {s : ByteArray} {hs : List Nat} {f : Int → Option ByteArray} (h : CliS wq base C M N v hs f) (hk5 : Kq.Keeps (fun j => wq.heap.size ≤ j) wq w5)
    (hown : w5.ownsRow wq.heap.size 22 1 v2 (ins x hs).length (hcells (ins x hs))) (hf : ∀ j, v2.ownBlock = some j → wq.heap.size ≤ j) (hm : MapT w6 M (N + 1) (updT f x s) (hs.length + 1)) (hk6 : Kq.Keeps (· = M) (w5.setCell ⟨C, 1, none⟩ v2) w6) (hok : ClOk (ins x hs) (updT f x s)) :
    CliS w6 base C M (N + 1) v2 (ins x hs) (updT f x s) ∧ Kq.Keeps (OwnC C M v) wq w6 ∧ (∀ j, v2.ownBlock = some j → wq.heap.size ≤ j) := by
  have hC := Kq.blk_lt h.blk
  have hM := h.mp.lt
  have hb5 := hk5.blk h.blk (by omega)
  have hs5 := hk5.size
  have hs6 : w5.heap.size ≤ w6.heap.size := by have := hk6.size; simpa [World.setCell] using this
  have hne : ∀ j, v2.ownBlock = some j → j ≠ C ∧ j ≠ M := fun j hj => by have := hf j hj; omega
  refine ⟨⟨?_, ?_, by rw [ins_length]; exact hm, hne, h.cm, by have := h.base; omega, hok⟩, ?_, hf⟩
  · exact hk6.blk (Kq.blk_set hb5 1 v2) (fun e => h.cm e.symm)
  · obtain ⟨q1, q2⟩ := hown
    refine ⟨q1, q2.imp id ?_⟩
    rintro ⟨g, cap, cur, hv, h3, h4, h5⟩
    refine ⟨g, cap, cur, hv, Nat.le_trans h.base h3, ?_, h5⟩
    refine hk6.blk (by rw [Below.heap_setCell _ _ _ _ (show g ≠ C by omega)]; exact h4) (show ¬ g = M by omega)
  · have k1 : Kq.Keeps (OwnC C M v) wq w5 := hk5.mono (fun j h1 h2 => by omega)
    exact (k1.trans (Kq.Keeps.setCell w5 ⟨C, 1, none⟩ v2 (Or.inl rfl))).trans (hk6.mono (fun j _ e => Or.inr (Or.inl e)))
set_option maxRecDepth 100000 in
set_option maxHeartbeats 2000000 in
theorem cl_set_ok (base C M N : Nat) (g cap : Nat) (hs : List Nat) (f : Int → Option ByteArray) (x : Nat) (hx : x < 18446744073709551616) (s : ByteArray) (w : World) (h : CliS w base C M N (.slice (some ⟨g, 0, none⟩) hs.length cap) hs f) (hn : hs.length ≤ 4000) (hN : N < 1000000) (hs32 : s.size = 32) (hk : ¬ (f (x : Int)).isSome = true) :
    Calls Tryz.prog 77 #[.pointer (some ⟨C, 0, none⟩), .int .u64 (x : Int), .string s] w fun e w' => e = .returned (.int .i64 0) ∧ SetP w base C M (N + 1) (.slice (some ⟨g, 0, none⟩) hs.length cap) (ins x hs) (updT f x s) w' := by
  obtain ⟨i0, hi, hz0, hz1, hz2⟩ := info_parts infoU
  have H := Lib.hid h
  have hwf : (Lit.int .u64 (x : Int)).wf = true := by simp [Lit.wf, IntKind.min, IntKind.max, IntKind.signed, IntKind.bits]; omega
  have d0 : ((s.size : Int) != 32) = false := by simp; omega
  have d1 : (s.size != 32) = false := by simp; omega
  have d2 : decide ((4096 : Int) ≤ (hs.length : Int)) = false := decide_eq_false (by omega)
  have d3 : decide (4096 ≤ hs.length) = false := decide_eq_false (by omega)
  have c0 := h.c0
  have c1 := h.c1
  have hl := h.mp.look (x : Int) hwf
  rw [Bool.not_eq_true] at hk
  rw [hk] at hl
  have HX := Lib.hid (And.intro hx (And.intro hwf (And.intro hN (And.intro hs32 hk))))
  have hcap : hs.length ≤ cap := by obtain ⟨A, c, hv, hc⟩ := h.shape; injection hv with _ _ e; omega
  have hp := low_le x hs
  clear h hs32 hk hx hwf hN
  generalize (f (x : Int)).getD ⟨#[]⟩ = r at *
  go_enter Tryz.func77, Tryz.ntmps77
  go_wp2_with fail
  refine (cl_find base C M N _ hs f x _ H.out (by omega)).mono ?_
  rintro e w2 ⟨rfl, b2⟩
  have H2 := Lib.hid (And.intro (H.out.below b2) b2)
  clear b2 c0 c1 hl
  obtain ⟨p, hpp⟩ : ∃ p, lowC x hs = p := ⟨_, rfl⟩
  rw [hpp] at hp ⊢
  have HP := Lib.hid hpp
  clear hpp
  have c1 := H2.out.1.c1
  have e1 : (p : Int) ≤ (hs.length : Int) := by omega
  have e2 : (p : Int) ≤ (cap : Int) := by omega
  have e3 : p ≤ cap := by omega
  have e4 : (hs.length : Int) ≤ (cap : Int) := by omega
  by_cases hc : cap = p
  · have hc' : p = cap := hc.symm
    subst hc'
    go_wp2
    go_quiet (fail)
    generalize hwq : w2.drewN nq = wq
    have H3 : Hid (CliS wq base C M N (.slice (some ⟨g, 0, none⟩) hs.length p) hs f ∧ Below w.heap.size w wq) := Lib.hid (by rw [← hwq]; exact ⟨H2.out.1.below (below_drewN (Below.refl _ _) _), below_drewN H2.out.2 _⟩)
    clear hwq nq c1 H2
    go_wp2_with (at_builtin; go_loud (refine Kq.wpList_append_view _ rfl (.tmp 48) (.tmp 50) 37 37 rfl wq.heap.size 22 i0 (.int .u64 0) 1 8 Tryz.underlying37 hi hz0 hz1 hz2 rfl (some ⟨g, 0, none⟩) p p rfl (hcells (hs.take p)) ?hx ?hold (.slice (some ⟨wq.heap.size, 0, none⟩) 1 1) 1 [Value.int .u64 (x : Int)] rfl ?hs ?hm ?h63 ?hb ?hbase ?_))
    case hx => simp [hcells]; omega
    case hold => exact first_take (H3.out.1.below (Kq.below_alloc _ _)) hp
    case hs => exact src_one wq x 1 _
    case hm => omega
    case h63 => unfold maxLen; omega
    case hb => omega
    case hbase => simp
    intro v1 w4 hown1 hgrow1 hfresh1
    have HO1 := Lib.hid hown1
    have HB4 : Hid (Below wq.heap.size wq w4) := Lib.hid ((Kq.below_alloc wq (.cells #[.int .u64 (x : Int)] 22)).trans ⟨hgrow1.os, hgrow1.tape, hgrow1.output, hgrow1.size, fun k hk => hgrow1.block k (by simp; omega) (fun e => by cases e)⟩)
    have HF1 : Hid (∀ j, v1.ownBlock = some j → wq.heap.size ≤ j) := Lib.hid (fun j hj => by have := hfresh1 j hj; (try simp at this); omega)
    clear hown1 hgrow1 hfresh1
    go_wp2_with (at_builtin; go_loud (refine Kq.wpList_append_any _ rfl (.tmp 51) (.tmp 52) 37 37 rfl wq.heap.size 22 i0 (.int .u64 0) 1 8 Tryz.underlying37 hi hz0 hz1 hz2 rfl (by decide) v1 (p + 1) (hcells (hs.take p) ++ [Value.int .u64 (x : Int)]) rfl HO1.out (.slice (some ⟨g, 0, none⟩) 0 0) 0 [] rfl ?hsq ?h1q ?h2q ?h3q ?_))
    case hsq => exact Src.ofSlice _ Tryz.underlying37 ⟨g, 0, none⟩ 0 0 [] rfl (fun j u hj => by cases hj) (fun u hu => by cases hu)
    case h1q => unfold maxLen; omega
    case h2q => omega
    case h3q => exact HB4.out.size
    intro v2 w5 hown2 hgrow2 hfresh2
    have hk5 : Kq.Keeps (fun j => wq.heap.size ≤ j) wq w5 := (Kq.Keeps.of_below HB4.out (fun j h1 h2 => h1)).trans (Kq.Keeps.grown hgrow2 (fun j _ hj => HF1.out j hj))
    have hlen : p + 1 + (hs.length - p) = (ins x hs).length := by rw [ins_length]; omega
    have hcs : hcells (hs.take p) ++ [Value.int .u64 (x : Int)] ++ hcells (hs.drop p) = hcells (ins x hs) := by rw [hcells_ins, HP.out]
    have hown2 : w5.ownsRow wq.heap.size 22 1 v2 (ins x hs).length (hcells (ins x hs)) := by rw [← hcs, ← hlen, List.drop_of_length_le hcap, Nat.sub_eq_zero_of_le hcap]; simpa [hcells] using hown2
    have hf2 : ∀ j, v2.ownBlock = some j → wq.heap.size ≤ j := fun j hj => by
      rcases hfresh2 j hj with h | h
      · exact HF1.out j h.symm
      · exact Nat.le_trans HB4.out.size h
    have hb5 := hk5.blk H3.out.1.blk (by have := Kq.blk_lt H3.out.1.blk; omega)
    have f1 : w5.frozen? ⟨C, 1, none⟩ = false := Kq.blk_free hb5 1
    have q1 : w5.cell? ⟨C, 1, none⟩ = some (.slice (some ⟨g, 0, none⟩) hs.length p) := Kq.blk_cell hb5 1
    have hmt : MapT (w5.setCell ⟨C, 1, none⟩ v2) M N f hs.length := (H3.out.1.mp.keeps hk5 (by have := H3.out.1.mp.lt; omega)).keeps (Kq.Keeps.setCell (S := (· = C)) _ _ _ rfl) (fun e => H3.out.1.cm e)
    obtain ⟨w6, hrun, hm6, hk6⟩ := hmt.put HX.out.2.2.1 (x : Int) HX.out.2.1 s (by rw [HX.out.2.2.2.1]; decide)
    rw [HX.out.2.2.2.2] at hm6
    have hq : (w5.setCell ⟨C, 1, none⟩ v2).cell? ⟨C, 0, none⟩ = some (.map (some M)) := Kq.blk_cell (Kq.blk_set hb5 1 v2) 0
    obtain ⟨r1, r2, r3⟩ := set_close H3.out.1 hk5 hown2 hf2 (by simpa using hm6) hk6 (ins_ok H3.out.1.ok HX.out.1 HX.out.2.2.2.1 (by rw [HX.out.2.2.2.2]; decide))
    have HZ : Hid (SetP w base C M (N + 1) (.slice (some ⟨g, 0, none⟩) hs.length p) (ins x hs) (updT f x s) w6) := Lib.hid ⟨v2, r1, (Kq.Keeps.of_below H3.out.2 (fun j h1 h2 => absurd h1 (Nat.not_le.2 h2))).trans r2, fun j hj => Or.inr (Nat.le_trans H3.out.2.size (r3 j hj))⟩
    obtain ⟨a', n', cap', hv⟩ := Kq.own_shape hown2
    clear hown2 hgrow2 hfresh2 hf2 hk5 hb5 hmt hm6 hk6 r1 r2 r3
    rw [hv] at hrun hq ⊢
    clear hv
    go_wp2
    go_ret
    exact ⟨rfl, HZ.out⟩
  · skip
    go_wp2
    go_quiet (fail)
    generalize hwq : w2.drewN nq = wq
    have H3 : Hid (CliS wq base C M N (.slice (some ⟨g, 0, none⟩) hs.length cap) hs f ∧ Below w.heap.size w wq) := Lib.hid (by rw [← hwq]; exact ⟨H2.out.1.below (below_drewN (Below.refl _ _) _), below_drewN H2.out.2 _⟩)
    clear hwq nq c1 H2
    go_wp2_with (at_builtin; go_loud (refine Kq.wpList_append_view _ rfl (.tmp 48) (.tmp 50) 37 37 rfl wq.heap.size 22 i0 (.int .u64 0) 1 8 Tryz.underlying37 hi hz0 hz1 hz2 rfl (some ⟨g, 0, none⟩) p p rfl (hcells (hs.take p)) ?hxb ?holdb (.slice (some ⟨wq.heap.size, 0, none⟩) 1 1) 1 [Value.int .u64 (x : Int)] rfl ?hsb ?hmb ?h63b ?hbb ?hbaseb ?_))
    case hxb => simp [hcells]; omega
    case holdb => exact first_take (H3.out.1.below (Kq.below_alloc _ _)) hp
    case hsb => exact src_one wq x 1 _
    case hmb => omega
    case h63b => unfold maxLen; omega
    case hbb => omega
    case hbaseb => simp
    intro v1 w4 hown1 hgrow1 hfresh1
    have HO1 := Lib.hid hown1
    have HB4 : Hid (Below wq.heap.size wq w4) := Lib.hid ((Kq.below_alloc wq (.cells #[.int .u64 (x : Int)] 22)).trans ⟨hgrow1.os, hgrow1.tape, hgrow1.output, hgrow1.size, fun k hk => hgrow1.block k (by simp; omega) (fun e => by cases e)⟩)
    have HF1 : Hid (∀ j, v1.ownBlock = some j → wq.heap.size ≤ j) := Lib.hid (fun j hj => by have := hfresh1 j hj; (try simp at this); omega)
    clear hown1 hgrow1 hfresh1
    go_wp2_with (at_builtin; go_loud (refine Kq.wpList_append_any _ rfl (.tmp 51) (.tmp 52) 37 37 rfl wq.heap.size 22 i0 (.int .u64 0) 1 8 Tryz.underlying37 hi hz0 hz1 hz2 rfl (by decide) v1 (p + 1) (hcells (hs.take p) ++ [Value.int .u64 (x : Int)]) rfl HO1.out (.slice (some ⟨g, p, none⟩) (hs.length - p) (cap - p)) (hs.length - p) (hcells (hs.drop p)) rfl ?hsbq ?h1bq ?h2bq ?h3bq ?_))
    case hsbq => exact src_drop (H3.out.1.below HB4.out) hp (fun h => by omega)
    case h1bq => unfold maxLen; omega
    case h2bq => omega
    case h3bq => exact HB4.out.size
    intro v2 w5 hown2 hgrow2 hfresh2
    have hk5 : Kq.Keeps (fun j => wq.heap.size ≤ j) wq w5 := (Kq.Keeps.of_below HB4.out (fun j h1 h2 => h1)).trans (Kq.Keeps.grown hgrow2 (fun j _ hj => HF1.out j hj))
    have hlen : p + 1 + (hs.length - p) = (ins x hs).length := by rw [ins_length]; omega
    have hcs : hcells (hs.take p) ++ [Value.int .u64 (x : Int)] ++ hcells (hs.drop p) = hcells (ins x hs) := by rw [hcells_ins, HP.out]
    have hown2 : w5.ownsRow wq.heap.size 22 1 v2 (ins x hs).length (hcells (ins x hs)) := by rw [← hcs, ← hlen]; simpa using hown2
    have hf2 : ∀ j, v2.ownBlock = some j → wq.heap.size ≤ j := fun j hj => by
      rcases hfresh2 j hj with h | h
      · exact HF1.out j h.symm
      · exact Nat.le_trans HB4.out.size h
    have hb5 := hk5.blk H3.out.1.blk (by have := Kq.blk_lt H3.out.1.blk; omega)
    have f1 : w5.frozen? ⟨C, 1, none⟩ = false := Kq.blk_free hb5 1
    have q1 : w5.cell? ⟨C, 1, none⟩ = some (.slice (some ⟨g, 0, none⟩) hs.length cap) := Kq.blk_cell hb5 1
    have hmt : MapT (w5.setCell ⟨C, 1, none⟩ v2) M N f hs.length := (H3.out.1.mp.keeps hk5 (by have := H3.out.1.mp.lt; omega)).keeps (Kq.Keeps.setCell (S := (· = C)) _ _ _ rfl) (fun e => H3.out.1.cm e)
    obtain ⟨w6, hrun, hm6, hk6⟩ := hmt.put HX.out.2.2.1 (x : Int) HX.out.2.1 s (by rw [HX.out.2.2.2.1]; decide)
    rw [HX.out.2.2.2.2] at hm6
    have hq : (w5.setCell ⟨C, 1, none⟩ v2).cell? ⟨C, 0, none⟩ = some (.map (some M)) := Kq.blk_cell (Kq.blk_set hb5 1 v2) 0
    obtain ⟨r1, r2, r3⟩ := set_close H3.out.1 hk5 hown2 hf2 (by simpa using hm6) hk6 (ins_ok H3.out.1.ok HX.out.1 HX.out.2.2.2.1 (by rw [HX.out.2.2.2.2]; decide))
    have HZ : Hid (SetP w base C M (N + 1) (.slice (some ⟨g, 0, none⟩) hs.length cap) (ins x hs) (updT f x s) w6) := Lib.hid ⟨v2, r1, (Kq.Keeps.of_below H3.out.2 (fun j h1 h2 => absurd h1 (Nat.not_le.2 h2))).trans r2, fun j hj => Or.inr (Nat.le_trans H3.out.2.size (r3 j hj))⟩
    obtain ⟨a', n', cap', hv⟩ := Kq.own_shape hown2
    clear hown2 hgrow2 hfresh2 hf2 hk5 hb5 hmt hm6 hk6 r1 r2 r3
    rw [hv] at hrun hq ⊢
    clear hv
    go_wp2
    go_ret
    exact ⟨rfl, HZ.out⟩
end Go.Proofs.YtbjchfcoacmaaaaGreatDoor
namespace Go.Proofs.YtbjchfcoacmaaaaGreatDoor
open Go.RowKit Go.Cl
set_option linter.unusedVariables false
set_option maxRecDepth 100000 in
set_option maxHeartbeats 2000000 in
theorem cl_set_nil (base C M N : Nat) (f : Int → Option ByteArray) (x : Nat) (hx : x < 18446744073709551616) (s : ByteArray) (w : World) (h : CliS w base C M N (.slice none 0 0) [] f) (hN : N < 1000000) (hs32 : s.size = 32) (hk : ¬ (f (x : Int)).isSome = true) :
    Calls Tryz.prog 77 #[.pointer (some ⟨C, 0, none⟩), .int .u64 (x : Int), .string s] w fun e w' => e = .returned (.int .i64 0) ∧ SetP w base C M (N + 1) (.slice none 0 0) [x] (updT f x s) w' := by
  obtain ⟨i0, hi, hz0, hz1, hz2⟩ := info_parts infoU
  have H := Lib.hid h
  have hwf : (Lit.int .u64 (x : Int)).wf = true := by simp [Lit.wf, IntKind.min, IntKind.max, IntKind.signed, IntKind.bits]; omega
  have d0 : ((s.size : Int) != 32) = false := by simp; omega
  have d1 : (s.size != 32) = false := by simp; omega
  have c0 := h.c0
  have c1 := h.c1
  have hl := h.mp.look (x : Int) hwf
  rw [Bool.not_eq_true] at hk
  rw [hk] at hl
  have HX := Lib.hid (And.intro hx (And.intro hwf (And.intro hN (And.intro hs32 hk))))
  clear h hs32 hk hx hwf hN
  generalize (f (x : Int)).getD ⟨#[]⟩ = r at *
  go_enter Tryz.func77, Tryz.ntmps77
  go_wp2_with fail
  refine (cl_find base C M N _ [] f x _ H.out (by simp)).mono ?_
  rw [show lowC x [] = 0 from rfl]
  rintro e w2 ⟨rfl, b2⟩
  have H2 := Lib.hid (And.intro (H.out.below b2) b2)
  clear b2 c0 c1 hl
  have c1 := H2.out.1.c1
  go_wp2
  go_quiet (fail)
  generalize hwq : w2.drewN nq = wq
  have H3 : Hid (CliS wq base C M N (.slice none 0 0) [] f ∧ Below w.heap.size w wq) := Lib.hid (by rw [← hwq]; exact ⟨H2.out.1.below (below_drewN (Below.refl _ _) _), below_drewN H2.out.2 _⟩)
  clear hwq nq c1 H2
  go_wp2_with (at_builtin; go_loud (refine Kq.wpList_append_any _ rfl (.tmp 48) (.tmp 50) 37 37 rfl wq.heap.size 22 i0 (.int .u64 0) 1 8 Tryz.underlying37 hi hz0 hz1 hz2 rfl (by decide) (.slice none 0 0) 0 [] rfl (World.ownsRow_nil _ _ _ _) (.slice (some ⟨wq.heap.size, 0, none⟩) 1 1) 1 [Value.int .u64 (x : Int)] rfl ?hs ?h1 ?h2 ?h3 ?_))
  case hs => exact src_one wq x 1 _
  case h1 => unfold maxLen; omega
  case h2 => omega
  case h3 => simp
  intro v1 w4 hown1 hgrow1 hfresh1
  have HO1 : Hid (w4.ownsRow wq.heap.size 22 1 v1 1 [Value.int .u64 (x : Int)]) := Lib.hid (by simpa using hown1)
  have HB4 : Hid (Below wq.heap.size wq w4) := Lib.hid ((Kq.below_alloc wq (.cells #[.int .u64 (x : Int)] 22)).trans ⟨hgrow1.os, hgrow1.tape, hgrow1.output, hgrow1.size, fun k hk => hgrow1.block k (by simp; omega) (fun e => by cases e)⟩)
  have HF1 : Hid (∀ j, v1.ownBlock = some j → wq.heap.size ≤ j) := Lib.hid (fun j hj => by rcases hfresh1 j hj with h | h; cases h; (try simp at h); omega)
  clear hown1 hgrow1 hfresh1
  go_wp2_with (at_builtin; go_loud (refine Kq.wpList_append_any _ rfl (.tmp 51) (.tmp 52) 37 37 rfl wq.heap.size 22 i0 (.int .u64 0) 1 8 Tryz.underlying37 hi hz0 hz1 hz2 rfl (by decide) v1 1 [Value.int .u64 (x : Int)] rfl HO1.out (.slice none 0 0) 0 [] rfl ?hsq ?h1q ?h2q ?h3q ?_))
  case hsq => exact Src.ofNil _ Tryz.underlying37 0
  case h1q => unfold maxLen; omega
  case h2q => omega
  case h3q => exact HB4.out.size
  intro v2 w5 hown2 hgrow2 hfresh2
  have hk5 : Kq.Keeps (fun j => wq.heap.size ≤ j) wq w5 := (Kq.Keeps.of_below HB4.out (fun j h1 h2 => h1)).trans (Kq.Keeps.grown hgrow2 (fun j _ hj => HF1.out j hj))
  have hown2 : w5.ownsRow wq.heap.size 22 1 v2 (ins x []).length (hcells (ins x [])) := by simpa [ins, hcells] using hown2
  have hf2 : ∀ j, v2.ownBlock = some j → wq.heap.size ≤ j := fun j hj => by
    rcases hfresh2 j hj with h | h
    · exact HF1.out j h.symm
    · exact Nat.le_trans HB4.out.size h
  have hb5 := hk5.blk H3.out.1.blk (by have := Kq.blk_lt H3.out.1.blk; omega)
  have f1 : w5.frozen? ⟨C, 1, none⟩ = false := Kq.blk_free hb5 1
  have q1 : w5.cell? ⟨C, 1, none⟩ = some (.slice none 0 0) := Kq.blk_cell hb5 1
  have hmt : MapT (w5.setCell ⟨C, 1, none⟩ v2) M N f 0 := (H3.out.1.mp.keeps hk5 (by have := H3.out.1.mp.lt; omega)).keeps (Kq.Keeps.setCell (S := (· = C)) _ _ _ rfl) (fun e => H3.out.1.cm e)
  obtain ⟨w6, hrun, hm6, hk6⟩ := hmt.put HX.out.2.2.1 (x : Int) HX.out.2.1 s (by rw [HX.out.2.2.2.1]; decide)
  rw [HX.out.2.2.2.2] at hm6
  have hq : (w5.setCell ⟨C, 1, none⟩ v2).cell? ⟨C, 0, none⟩ = some (.map (some M)) := Kq.blk_cell (Kq.blk_set hb5 1 v2) 0
  obtain ⟨r1, r2, r3⟩ := set_close H3.out.1 hk5 hown2 hf2 (by simpa using hm6) hk6 (ins_ok H3.out.1.ok HX.out.1 HX.out.2.2.2.1 (by rw [HX.out.2.2.2.2]; decide))
  have HZ : Hid (SetP w base C M (N + 1) (.slice none 0 0) [x] (updT f x s) w6) := Lib.hid ⟨v2, r1, (Kq.Keeps.of_below H3.out.2 (fun j h1 h2 => absurd h1 (Nat.not_le.2 h2))).trans r2, fun j hj => Or.inr (Nat.le_trans H3.out.2.size (r3 j hj))⟩
  obtain ⟨a', n', cap', hv⟩ := Kq.own_shape hown2
  clear hown2 hgrow2 hfresh2 hf2 hk5 hb5 hmt hm6 hk6 r1 r2 r3
  rw [hv] at hrun hq ⊢
  clear hv
  go_wp2
  go_ret
  exact ⟨rfl, HZ.out⟩
theorem cl_set (base C M N : Nat) (v : Value) (hs : List Nat) (f : Int → Option ByteArray) (x : Nat) (hx : x < 18446744073709551616) (s : ByteArray) (hsm : s.size ≤ maxLen) (w : World) (h : CliS w base C M N v hs f) (hn : hs.length ≤ 4000) (hN : N < 1000000) :
    Calls Tryz.prog 77 #[.pointer (some ⟨C, 0, none⟩), .int .u64 (x : Int), .string s] w fun e w' => e = .returned (.int .i64 (setF x s hs f).2.2) ∧ SetP w base C M (N + 1) v (setF x s hs f).1 (setF x s hs f).2.1 w' := by
  have hup : CliS w base C M (N + 1) v hs f := ⟨h.blk, h.own, h.mp.up (Nat.le_succ _), h.ne, h.cm, h.base, h.ok⟩
  unfold setF
  by_cases h32 : s.size = 32
  · rw [if_pos h32]
    by_cases hk : (f (x : Int)).isSome = true
    · rw [if_pos hk]
      refine (cl_set_twice base C M N v hs f x hx s w h hn h32 hk).mono ?_
      rintro e w' ⟨rfl, rfl⟩
      exact ⟨rfl, v, hup, Kq.Keeps.refl _ _, fun j hj => Or.inl hj⟩
    · rw [if_neg hk]
      rcases h.own.2 with ⟨hv, h0⟩ | ⟨g, cap, cur, hv, _⟩
      · have : hs = [] := List.eq_nil_of_length_eq_zero h0
        subst this
        subst hv
        exact cl_set_nil base C M N f x hx s w h hN h32 hk
      · subst hv
        exact cl_set_ok base C M N g cap hs f x hx s w h hn hN h32 hk
  · rw [if_neg h32]
    refine (cl_set_bad base C M N v hs f x hx s w h hn h32 hsm).mono ?_
    rintro e w' ⟨rfl, rfl⟩
    exact ⟨rfl, v, hup, Kq.Keeps.refl _ _, fun j hj => Or.inl hj⟩
end Go.Proofs.YtbjchfcoacmaaaaGreatDoor
