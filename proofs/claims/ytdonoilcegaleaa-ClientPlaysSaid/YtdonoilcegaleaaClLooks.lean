/- Contracts of a client's New, From, Latest, Heights, Root. No condition. -/
import Derived.WalkSpells
import Derived.Outline
import Derived.Test.YtdonoilcegaleaaClKeep
namespace Go.Proofs.Ytdonoilcegaleaa
open Go.RowKit Go.Cl
set_option linter.unusedVariables false
theorem info_parts {t : TypeId} {z : Value} {s b : Nat} (h : (Try.prog.info? t).map (fun i => (i.zero, i.size, i.bytes)) = some (some z, s, b)) : ∃ i, Try.prog.info? t = some i ∧ i.zero = some z ∧ i.size = s ∧ i.bytes = b := by
  cases hi : Try.prog.info? t with
  | none => rw [hi] at h; cases h
  | some i =>
    rw [hi] at h
    simp only [Option.map_some, Option.some.injEq, Prod.mk.injEq] at h
    exact ⟨i, rfl, h.1, h.2.1, h.2.2⟩
theorem infoU : (Try.prog.info? 23).map (fun i => (i.zero, i.size, i.bytes)) = some (some (.int .u64 0), 1, 8) := by kernel_rfl
theorem hcells_length (hs : List Nat) : (hcells hs).length = hs.length * 1 := by simp [hcells]
theorem hcells_one (hs : List Nat) : ∀ u ∈ hcells hs, u.oneCell' = true := by
  intro u hu
  obtain ⟨n, _, rfl⟩ := List.mem_map.1 hu
  rfl
theorem src_hs {w : World} {base C M N : Nat} {A : Option Addr} {cap : Nat} {hs : List Nat} {f : Int → Option ByteArray} (h : CliS w base C M N (.slice A hs.length cap) hs f) : Src Try.prog 1 41 (.slice A hs.length cap) hs.length (hcells hs) w := by
  rcases h.own.2 with ⟨hv, h0⟩ | ⟨g, cap', cur, hv, _, hb, _, _, _, ht⟩
  · injection hv with e1 e2 e3
    subst e1
    have : hs = [] := List.eq_nil_of_length_eq_zero h0
    subst this
    exact Src.ofNil w Try.underlying41 cap
  · injection hv with e1 e2 e3
    subst e1
    refine Src.ofSlice _ Try.underlying41 ⟨g, 0, none⟩ hs.length cap (hcells hs) (hcells_length hs) (fun j u hj => ?_) (hcells_one hs)
    have hadd : (⟨g, 0, none⟩ : Addr).add j = ⟨g, j, none⟩ := by unfold Addr.add; split <;> simp_all
    have hj' : j < hs.length * 1 := by
      rcases Nat.lt_or_ge j (hs.length * 1) with h' | h'
      · exact h'
      · rw [List.getElem?_eq_none (by rw [hcells_length]; exact h')] at hj; cases hj
    rw [hadd, Kq.blk_cell hb j, ← Array.getElem?_toList, ← hj, ← ht, List.getElem?_take, if_pos hj']
set_option maxRecDepth 100000 in
theorem cl_new (w : World) : Calls Try.prog 8 #[] w fun e w' => e = .returned (.pointer (some ⟨w.heap.size + 1, 0, none⟩)) ∧ CliS w' w.heap.size (w.heap.size + 1) w.heap.size 0 (.slice none 0 0) [] (fun _ => none) ∧ Below w.heap.size w w' := by
  have hm := MapT.made w
  have hb := Kq.below_alloc w (.map #[] 0)
  have hc := Kq.blk_new (w.alloc (.map #[] 0)) #[.map (some w.heap.size), .slice none 0 0] 50 (0, 0)
  rw [World.size_alloc] at hc
  have HP : Hid (CliS ((w.alloc (.map #[] 0)).alloc (.cells #[.map (some w.heap.size), .slice none 0 0] 50)) w.heap.size (w.heap.size + 1) w.heap.size 0 (.slice none 0 0) [] (fun _ => none) ∧ Below w.heap.size w ((w.alloc (.map #[] 0)).alloc (.cells #[.map (some w.heap.size), .slice none 0 0] 50))) :=
    Lib.hid ⟨⟨hc, World.ownsRow_nil _ _ _ _, hm.below (Kq.below_alloc _ _), (fun k hk => by cases hk), by omega, by simp; omega, ClOk.nil⟩, hb.trans ((Kq.below_alloc _ _).mono hb.size)⟩
  clear hm hb hc
  have hmm := @run_makeMap Try.prog
  go_enter Try.func8, Try.ntmps8
  go_wp2
  go_ret
  exact ⟨rfl, HP.out⟩
def fromF (x : Nat) (hs : List Nat) : Nat × Bool := if h : lowC x hs < hs.length then (hs[lowC x hs], true) else (0, false)
set_option maxRecDepth 100000 in
set_option maxHeartbeats 1000000 in
theorem cl_from (base C M N : Nat) (v : Value) (hs : List Nat) (f : Int → Option ByteArray) (x : Nat) (w : World) (h : CliS w base C M N v hs f) (hn : hs.length ≤ 1000000) :
    Calls Try.prog 13 #[.pointer (some ⟨C, 0, none⟩), .int .u64 (x : Int)] w fun e w' => e = .returned (.tuple #[.int .u64 ((fromF x hs).1 : Int), .bool (fromF x hs).2]) ∧ Below w.heap.size w w' := by
  have H := Lib.hid h
  obtain ⟨A, cap, rfl, -⟩ := h.shape
  have hle := low_le x hs
  clear h
  unfold fromF
  by_cases hp : lowC x hs < hs.length
  · obtain ⟨y, hy⟩ : ∃ y, hs[lowC x hs] = y := ⟨_, rfl⟩
    rw [dif_pos hp, hy]
    have HY := Lib.hid hy
    clear hy
    go_enter Try.func13, Try.ntmps13
    go_wp2_with fail
    refine (cl_find base C M N _ hs f x _ H.out hn).mono ?_
    rintro e w2 ⟨rfl, b2⟩
    have H2 := Lib.hid (And.intro (H.out.below b2) b2)
    clear b2
    have c1 := H2.out.1.c1
    obtain ⟨g, cap', hv, hg, -, hat⟩ := H2.out.1.at (by omega)
    injection hv with hA _ _
    subst hA
    have ci := hat _ hp
    have hne : ((lowC x hs : Int) == (hs.length : Int)) = false := by simp; omega
    have hne2 : (lowC x hs == hs.length) = false := by simp; omega
    rw [HY.out] at ci
    clear hat hg HY
    generalize lowC x hs = p at *
    go_wp2
    go_ret2
    exact ⟨rfl, H2.out.2⟩
  · rw [dif_neg hp]
    have he : lowC x hs = hs.length := by omega
    go_enter Try.func13, Try.ntmps13
    go_wp2_with fail
    refine (cl_find base C M N _ hs f x _ H.out hn).mono ?_
    rw [he]
    rintro e w2 ⟨rfl, b2⟩
    have H2 := Lib.hid (And.intro (H.out.below b2) b2)
    clear b2
    have c1 := H2.out.1.c1
    go_wp2
    go_ret2
    exact ⟨rfl, H2.out.2⟩
def latF (hs : List Nat) : Nat := if h : 0 < hs.length then hs[hs.length - 1] else 0
set_option maxRecDepth 100000 in
set_option maxHeartbeats 1000000 in
theorem cl_latest_q (base C M N : Nat) (v : Value) (hs : List Nat) (f : Int → Option ByteArray) (w : World) (h : CliS w base C M N v hs f) (hn : hs.length ≤ 1000000) :
    Calls Try.prog 15 #[.pointer (some ⟨C, 0, none⟩)] w fun e w' => e = .returned (.int .u64 (latF hs : Int)) ∧ ∃ r, w' = w.drewN r := by
  obtain ⟨A, cap, rfl, -⟩ := h.shape
  have c1 := h.c1
  unfold latF
  by_cases hp : 0 < hs.length
  · rw [dif_pos hp]
    obtain ⟨g, cap', hv, hg, -, hat⟩ := h.at hp
    injection hv with hA _ _
    subst hA
    have ci := hat (hs.length - 1) (by omega)
    obtain ⟨m, hm⟩ : ∃ m, hs.length = m + 1 := ⟨hs.length - 1, by omega⟩
    have hm2 : hs.length - 1 = m := by omega
    have hne : ((hs.length : Int) == 0) = false := beq_eq_false_iff_ne.2 (by omega)
    have hne2 : (hs.length == 0) = false := beq_eq_false_iff_ne.2 (by omega)
    have e1 : wrap64 ((hs.length : Int) - 1) = (m : Int) := by rw [IntWalk.wrap64_in _ (by omega)]; omega
    have e2 : IntKind.i64.wrap ((hs.length : Int) - 1) = (m : Int) := by rw [IntWalk.i64_in _ (by omega)]; omega
    have e3 : (m : Int) < (hs.length : Int) := by omega
    have e4 : m < hs.length := by omega
    have e5 : (0 : Int) ≤ (m : Int) := by omega
    generalize hs[hs.length - 1] = y at *
    rw [hm2] at ci
    have hnz : ¬ hs.length = 0 := by omega
    clear h hat hm hm2 hg
    go_enter Try.func15, Try.ntmps15
    go_wp2
    go_quiet (fail)
    go_wp2
    go_ret
    exact ⟨rfl, _, rfl⟩
  · rw [dif_neg hp]
    have hz : hs.length = 0 := by omega
    rw [hz] at c1
    clear h
    go_enter Try.func15, Try.ntmps15
    go_wp2
    go_ret
    exact ⟨rfl, 0, rfl⟩
theorem cl_latest (base C M N : Nat) (v : Value) (hs : List Nat) (f : Int → Option ByteArray) (w : World) (h : CliS w base C M N v hs f) (hn : hs.length ≤ 1000000) :
    Calls Try.prog 15 #[.pointer (some ⟨C, 0, none⟩)] w fun e w' => e = .returned (.int .u64 (latF hs : Int)) ∧ Below w.heap.size w w' := by
  refine (cl_latest_q base C M N v hs f w h hn).mono ?_
  rintro e w' ⟨rfl, r, rfl⟩
  exact ⟨rfl, ⟨rfl, rfl, rfl, Nat.le_refl _, fun _ _ => rfl⟩⟩
set_option maxRecDepth 100000 in
set_option maxHeartbeats 1000000 in
theorem cl_heights (base C M N : Nat) (v : Value) (hs : List Nat) (f : Int → Option ByteArray) (w : World) (h : CliS w base C M N v hs f) (hn : hs.length ≤ 1000000) :
    Calls Try.prog 18 #[.pointer (some ⟨C, 0, none⟩)] w fun e w' => ∃ v', e = .returned v' ∧ w'.ownsRow w.heap.size 23 1 v' hs.length (hcells hs) ∧ Below w.heap.size w w' := by
  obtain ⟨i0, hi, hz0, hz1, hz2⟩ := info_parts infoU
  obtain ⟨A, cap, rfl, -⟩ := h.shape
  have c1 := h.c1
  have HS := Lib.hid (src_hs h)
  clear h
  go_enter Try.func18, Try.ntmps18
  go_wp2_with (at_builtin; go_loud (refine Kq.wpList_append_any _ rfl (.const (.slice none 0 0)) (.tmp 6) 41 41 rfl w.heap.size 23 i0 (.int .u64 0) 1 8 Try.underlying41 hi hz0 hz1 hz2 rfl (by decide) (.slice none 0 0) 0 [] rfl (World.ownsRow_nil _ _ _ _) (.slice A hs.length cap) hs.length (hcells hs) rfl ?hs ?h1 ?h2 ?h3 ?_))
  case hs => exact HS.out
  case h1 => unfold maxLen; omega
  case h2 => omega
  case h3 => exact Nat.le_refl _
  intro v' w1 hown1 hgrow hfresh
  have HB : Hid (Below w.heap.size w w1) := Lib.hid ⟨hgrow.os, hgrow.tape, hgrow.output, hgrow.size, fun k hk => hgrow.block k hk (fun e => by cases e)⟩
  have HO : Hid (w1.ownsRow w.heap.size 23 1 v' hs.length (hcells hs)) := Lib.hid (by simpa using hown1)
  obtain ⟨a', n', cap', hv⟩ := Kq.own_shape hown1
  clear hown1 hgrow hfresh
  rw [hv] at HO ⊢
  clear hv
  go_wp2
  go_ret
  exact ⟨_, rfl, HO.out, HB.out⟩
set_option maxRecDepth 100000 in
set_option maxHeartbeats 1000000 in
theorem cl_root (base C M N : Nat) (v : Value) (hs : List Nat) (f : Int → Option ByteArray) (x : Nat) (hx : x < 18446744073709551616) (w : World) (h : CliS w base C M N v hs f) :
    Calls Try.prog 11 #[.pointer (some ⟨C, 0, none⟩), .int .u64 (x : Int)] w fun e w' => e = .returned (.tuple #[.string ((f (x : Int)).getD ⟨#[]⟩), .bool (f (x : Int)).isSome]) ∧ w = w' := by
  have c0 := h.c0
  have hl := h.mp.look (x : Int) (by simp [Lit.wf, IntKind.min, IntKind.max, IntKind.signed, IntKind.bits]; omega)
  clear h
  generalize (f (x : Int)).getD ⟨#[]⟩ = r at *
  generalize (f (x : Int)).isSome = q at *
  go_enter Try.func11, Try.ntmps11
  go_wp2
  go_ret2
  exact ⟨rfl, rfl⟩
end Go.Proofs.Ytdonoilcegaleaa
