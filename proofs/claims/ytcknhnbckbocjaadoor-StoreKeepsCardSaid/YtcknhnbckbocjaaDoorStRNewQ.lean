/- Merged: StRBl, StRCom, StRNew. The document's store: its blocks as a row of slices; a block more. No condition. Contract of the document's Commit. Condition: sizes. Contract of the document's New. No condition. -/
import Derived.WalkSpells
import Derived.Outline
import Derived.Test.YtcknhnbckbocjaaDoorStRNowQ
import Derived.Deep.QuietTactic
import Derived.BigQuiet
import Derived.Test.YtcknhnbckbocjaaDoorStComQ
import Derived.Test.YtcknhnbckbocjaaDoorHeldLastQ
namespace Go.Proofs.YtcknhnbckbocjaaDoor
open Go.RowKit
set_option linter.unusedVariables false
theorem infoPs : (Tryd.prog.info? 35).map (fun i => (i.zero, i.size, i.bytes)) = some (some (.slice none 0 0), 1, 24) := by kernel_rfl
section
variable {w w1 w' : World} {O : Nat → Prop} {B : Nat} {s : StV} {An : Option Addr} {cn : Nat} {Ab : Option Addr} {cb : Nat}
/-- the row's cells as they are -/
theorem RP.vals (h : RP w O B s An cn Ab cb) (h1 : 1 ≤ s.blks.length) : ∃ g o vs, Ab = some ⟨g, o, none⟩ ∧ g < w.heap.size ∧ List.length vs = s.blks.length ∧ (∀ i (hi : i < vs.length), w.cell? ⟨g, o + i, none⟩ = some vs[i]) ∧ ∀ i (hi : i < s.blks.length) (h2 : i < vs.length), ∃ A c, vs[i] = .slice A s.blks[i].length c ∧ s.blks[i].length ≤ c ∧ PsO w O A s.blks[i] ∧ ∀ b off, A = some ⟨b, off, none⟩ → b ≠ B := by
  obtain ⟨g, o, A0, c0, e0, hg, -⟩ := h.row 0 (by omega)
  have hc : ∀ i, i < s.blks.length → ∃ v, w.cell? ⟨g, o + i, none⟩ = some v ∧ ∃ (hi : i < s.blks.length) (A : Option Addr) (c : Nat), v = .slice A s.blks[i].length c ∧ s.blks[i].length ≤ c ∧ PsO w O A s.blks[i] ∧ ∀ b off, A = some ⟨b, off, none⟩ → b ≠ B := fun i hi => by
    obtain ⟨g', o', A, c, e, h1, h2, h3, h4⟩ := h.row i hi
    have he := e
    rw [e0] at e
    injection e with e
    injection e with e1 e2
    subst e1 e2
    exact ⟨_, h2, hi, A, c, rfl, h3, h4, h.ne.2.2 i hi g o A c he h2⟩
  refine ⟨g, o, (List.range s.blks.length).map (fun i => (w.cell? ⟨g, o + i, none⟩).getD (.bool false)), e0, hg, by simp, fun i hi => ?_, fun i hi h2 => ?_⟩
  · have hi' : i < s.blks.length := by simpa using hi
    obtain ⟨v, hv, _⟩ := hc i hi'
    simp [hv]
  · obtain ⟨v, hv, _, A, c, e, q1, q2, q3⟩ := hc i hi
    refine ⟨A, c, ?_, q1, q2, q3⟩
    rw [← e]
    simp [hv]
/-- the row was made anew, with the list that is set at its end -/
theorem RP.com_new (h : RP w O B s An cn Ab cb) (hO : ∀ k, O k → k < w.heap.size) (hk : Kq.Keeps (fun k => w.heap.size ≤ k) w w1) {vs : List Value} {b c : Nat} (hvl : vs.length = s.blks.length)
    (hvs : ∀ i (hi : i < s.blks.length) (h2 : i < vs.length), ∃ A c, vs[i] = .slice A s.blks[i].length c ∧ s.blks[i].length ≤ c ∧ PsO w O A s.blks[i] ∧ ∀ b off, A = some ⟨b, off, none⟩ → b ≠ B)
    (hp : ∀ i (hi : i < (vs ++ [Value.slice An s.now.length cn]).length), w1.cell? ⟨b, 0 + i, none⟩ = some (vs ++ [Value.slice An s.now.length cn])[i]) (hb : w.heap.size ≤ b ∧ b < w1.heap.size) (hc : s.blks.length + 1 ≤ c) (hw : w' = w1.setCell ⟨B, 2, none⟩ (.slice (some ⟨b, 0, none⟩) (s.blks.length + 1) c)) :
    RefP w' (Ext O w w') B { s with blks := s.blks ++ [s.now] } ∧ Kq.Keeps O w w' := by
  have h1 := h.keeps hk (fun k ho hh => by have := hO k ho; omega)
  have hBlt := hO B h.oB
  have hk2 : Kq.Keeps (· = B) w1 w' := by rw [hw]; exact Kq.Keeps.setCell _ _ _ rfl
  have hall : Kq.Keeps (fun k => k = B ∨ w.heap.size ≤ k) w w' := (hk.mono (fun k _ e => Or.inr e)).trans (hk2.mono (fun k _ e => Or.inl e))
  have hsz := hk2.size
  have hb' : w'.heap[B]? = some (.cells #[.slice An s.now.length cn, .int .u64 (s.first : Int), .slice (some ⟨b, 0, none⟩) (s.blks.length + 1) c] 38 (0, 0)) := by rw [hw]; exact Kq.blk_set h1.blk 2 _
  have hps : ∀ {A : Option Addr} {l : List PairV}, PsO w O A l → (∀ b off, A = some ⟨b, off, none⟩ → b ≠ B) → PsO w' (Ext O w w') A l := fun {A} {l} hq hne =>
    (hq.keeps hall (fun b' hb2 hlt hA => by
      obtain ⟨off, hA⟩ := hA
      intro e
      rcases e with e | e
      · exact hne b' off hA e
      · omega)).mono (fun k hk => Or.inl hk)
  have hcell : ∀ i (hi : i < (vs ++ [Value.slice An s.now.length cn]).length), w'.cell? ⟨b, 0 + i, none⟩ = some (vs ++ [Value.slice An s.now.length cn])[i] := fun i hi => by
    rw [World.cell?_of_block (hk2.block b hb.2 (by omega))]
    exact hp i hi
  have hrow : ∀ i (hi : i < (s.blks ++ [s.now]).length), ∃ A c', w'.cell? ⟨b, 0 + i, none⟩ = some (.slice A ((s.blks ++ [s.now])[i]).length c') ∧ ((s.blks ++ [s.now])[i]).length ≤ c' ∧ PsO w' (Ext O w w') A (s.blks ++ [s.now])[i] ∧ ∀ b off, A = some ⟨b, off, none⟩ → b ≠ B := fun i hi => by
    have hi2 : i < (vs ++ [Value.slice An s.now.length cn]).length := by simp at hi ⊢; omega
    have hcl := hcell i hi2
    by_cases hlt : i < s.blks.length
    · have h2 : i < vs.length := by omega
      obtain ⟨A, c', e, q1, q2, q3⟩ := hvs i hlt h2
      refine ⟨A, c', ?_, ?_, ?_, q3⟩
      · rw [hcl, List.getElem_append_left h2, e]
        simp only [List.getElem_append_left hlt]
      · simp only [List.getElem_append_left hlt]; exact q1
      · simp only [List.getElem_append_left hlt]; exact hps q2 q3
    · have hie : i = s.blks.length := by simp at hi; omega
      have hiv : i = vs.length := by omega
      have g2 : (s.blks ++ [s.now])[i] = s.now := by subst hie; simp
      have g1 : (vs ++ [Value.slice An s.now.length cn])[i] = Value.slice An s.now.length cn := by subst hiv; simp
      refine ⟨An, cn, by rw [hcl, g1, g2], by rw [g2]; exact h.cap, by rw [g2]; exact hps h.now h.ne.1, h.ne.1⟩
  refine ⟨⟨An, cn, some ⟨b, 0, none⟩, c, ?_, hps h.now h.ne.1, h.sh, h.cap, ?_, fun i hi => ?_, Or.inl h.oB, fun g o e => ?_, ⟨h.ne.1, fun b' off e => ?_, fun i hi g o A c' e hcc => ?_⟩⟩, ?_⟩
  · rw [hb']; simp
  · simpa using hc
  · obtain ⟨A, c', q1, q2, q3, _⟩ := hrow i hi
    exact ⟨b, 0, A, c', rfl, by omega, q1, q2, q3⟩
  · injection e with e
    injection e with e
    subst e
    exact Or.inr ⟨hb.1, by omega⟩
  · injection e with e
    injection e with e
    omega
  · obtain ⟨A2, c2, q1, q2, q3, q4⟩ := hrow i hi
    injection e with e
    injection e with e e3
    subst e e3
    rw [q1] at hcc
    injection hcc with hcc
    injection hcc with hcc
    rw [← hcc]; exact q4
  · exact keeps_pastO (⟨hk.os, hk.tape, hk.output, hk.size, fun k hk1 hn => hk.block k hk1 (fun hh => by omega)⟩ : Kq.Keeps O w w1) hk2 (fun k e => Or.inl (by rw [show k = B from e]; exact h.oB))
end
end Go.Proofs.YtcknhnbckbocjaaDoor
namespace Go.Proofs.YtcknhnbckbocjaaDoor
open Go.RowKit
set_option linter.unusedVariables false
def CmR (w : World) (B : Nat) (v u : Value) : Prop := w.cell? ⟨B, 2, none⟩ = some v ∧ w.cell? ⟨B, 0, none⟩ = some u
section
variable (w : World) (O : Nat → Prop) (B : Nat) (s : StV)
set_option maxRecDepth 100000 in
set_option maxHeartbeats 2000000 in
theorem sr_com (h : RefP w O B s) (hs : StOk s) (hO : ∀ k, O k → k < w.heap.size) : Calls Tryd.prog 32 #[.pointer (some ⟨B, 0, none⟩)] w (RefStep w O B (comR s) (comV s).1) := by
  obtain ⟨i0, hi0, hz0, hz1, hz2⟩ := info_partsB infoPs
  have HH := Lib.hid (sr_height w O B s h hs)
  have H := Lib.hid h
  have HO := Lib.hid hO
  have hfew := hs.few
  have htop := hs.top
  have hone := hs.one
  obtain ⟨t, ht⟩ : ∃ t, t = s.height := ⟨_, rfl⟩
  rw [← ht] at HH
  have htt : t + 1 ≤ 18446744073709551616 := by rw [ht]; unfold StV.height; omega
  obtain ⟨An, cn, Ab, cb0, hr⟩ := h
  have HR := Lib.hid hr
  by_cases t0 : t = 18446744073709551615
  · have HE : Hid (comR s = .tuple #[.int .u64 0, .int .i64 12] ∧ (comV s).1 = s) := Lib.hid (by unfold comR comV; rw [if_pos (by rw [← ht]; exact t0)]; exact ⟨rfl, rfl⟩)
    subst t0
    clear hs hO hfew htop hone htt ht hr
    go_enter Tryd.func32, Tryd.ntmps32
    go_wp2_with fail
    refine HH.out.mono ?_
    rintro x w1 ⟨rfl, n1, hw1⟩
    have HS1 : Hid (RefStep w O B (.tuple #[.int .u64 0, .int .i64 12]) s (.returned (.tuple #[.int .u64 0, .int .i64 12])) w1) := Lib.hid (by rw [hw1]; exact RefStep.same H.out n1 rfl)
    clear hw1
    go_wp2
    go_ret2
    rw [HE.out.1, HE.out.2]
    exact HS1.out
  have hw1 : IntKind.u64.wrap ((t : Int) + 1) = (t : Int) + 1 := by rw [IntWalk.u64_in _ (by omega)]
  have e0 : ((t : Int) + 1 == 0) = false := by rw [beq_eq_false_iff_ne]; omega
  obtain ⟨q, hq⟩ : ∃ q, q = s.blks.length := ⟨_, rfl⟩
  have c2 := hr.c2
  rw [← hq] at c2
  by_cases q0 : 4096 ≤ q
  · have HE : Hid (comR s = .tuple #[.int .u64 0, .int .i64 2] ∧ (comV s).1 = s) := Lib.hid (by unfold comR comV; rw [if_neg (by rw [← ht]; exact t0), if_pos (by omega)]; exact ⟨rfl, rfl⟩)
    have e1 : decide ((4096 : Int) ≤ (q : Int)) = true := decide_eq_true (by omega)
    have e1' : decide (4096 ≤ q) = true := decide_eq_true q0
    clear hs hO hfew htop hone htt ht hr t0 q0 hq
    go_enter Tryd.func32, Tryd.ntmps32
    go_wp2_with fail
    refine HH.out.mono ?_
    rintro x w1 ⟨rfl, n1, hw2⟩
    have HS1 : Hid (RefStep w O B (.tuple #[.int .u64 0, .int .i64 2]) s (.returned (.tuple #[.int .u64 0, .int .i64 2])) w1) := Lib.hid (by rw [hw2]; exact RefStep.same H.out n1 rfl)
    have d2 : w1.cell? ⟨B, 2, none⟩ = some (.slice Ab q cb0) := by rw [hw2]; exact c2
    clear hw2 c2
    go_wp2
    go_ret2
    rw [HE.out.1, HE.out.2]
    exact HS1.out
  have e1 : decide ((4096 : Int) ≤ (q : Int)) = false := decide_eq_false (by omega)
  have e1' : decide (4096 ≤ q) = false := decide_eq_false q0
  have HE : Hid (comR s = .tuple #[.int .u64 ((t : Int) + 1), .int .i64 0] ∧ (comV s).1 = { s with blks := s.blks ++ [s.now] }) := Lib.hid (by unfold comR comV; rw [if_neg (by rw [← ht]; exact t0), if_neg (by omega), ← ht]; exact ⟨by simp, rfl⟩)
  have HSO : Hid (StOk { s with blks := s.blks ++ [s.now] }) := Lib.hid (by have := comV_ok hs; rwa [HE.out.2] at this)
  have HHT : Hid (((StV.height { s with blks := s.blks ++ [s.now] } : Nat) : Int) = (t : Int) + 1) := Lib.hid (by
    have h1 := ht
    unfold StV.height at h1 ⊢
    simp only [List.length_append, List.length_cons, List.length_nil]
    omega)
  obtain ⟨g, o, vs, rfl, hg, hvl, hvc, hvs⟩ := hr.vals hone
  have HVL := Lib.hid hvl
  have HVS := Lib.hid hvs
  obtain ⟨n, hn⟩ : ∃ n, n = s.now.length := ⟨_, rfl⟩
  have HN := Lib.hid hn
  have HQ := Lib.hid hq
  have c0 := hr.c0
  rw [← hn] at c0
  have HC : Hid (∀ x, Kq.Keeps (fun k => w.heap.size ≤ k) w x → CmR x B (.slice (some ⟨g, o, none⟩) q cb0) (.slice An n cn)) := Lib.hid (fun x hk => by
    have hB := hO B hr.oB
    have hb := hk.block B hB (by omega)
    exact ⟨by rw [World.cell?_of_block hb]; exact c2, by rw [World.cell?_of_block hb]; exact c0⟩)
  have HF : Hid (∀ x, Kq.Keeps (fun k => w.heap.size ≤ k) w x → x.frozen? ⟨B, 2, none⟩ = false ∧ x.cell? ⟨B, 2, none⟩ = some (.slice (some ⟨g, o, none⟩) q cb0)) := Lib.hid (fun x hk => by
    have h1 := hr.keeps hk (fun k ho hh => by have := hO k ho; omega)
    exact ⟨h1.fz 2, by have := h1.c2; rwa [← hq] at this⟩)
  have HS1 : Hid (∀ x, Kq.Keeps (fun k => w.heap.size ≤ k) w x → Src Tryd.prog 1 36 (.slice (some ⟨g, o, none⟩) q cb0) q vs x) := Lib.hid (fun x hk => by
    have hgO := hO g (hr.oA g o rfl)
    refine Src.ofSlice _ Tryd.underlying36 ⟨g, o, none⟩ q cb0 vs (by omega) (fun j u hj => ?_) (fun u hu => ?_)
    · have hlt : j < vs.length := (List.getElem?_eq_some_iff.1 hj).1
      rw [Kq.Elt.add_flat, World.cell?_of_block (hk.block g hgO (by omega)), hvc j hlt, ← hj, List.getElem?_eq_getElem hlt]
    · obtain ⟨j, hj, rfl⟩ := List.getElem_of_mem hu
      obtain ⟨A, c, e, _⟩ := hvs j (by omega) hj
      rw [e]; rfl)
  have HS2 : Hid (∀ (x : World) (cb : Nat), x.heap[cb]? = some (.cells #[.slice An n cn] 35 (0, 0)) → Src Tryd.prog 1 36 (.slice (some ⟨cb, 0, none⟩) 1 1) 1 [.slice An n cn] x) := Lib.hid (fun x cb hb => Src.ofSlice _ Tryd.underlying36 ⟨cb, 0, none⟩ 1 1 [.slice An n cn] rfl (fun j u hj => by
    have : j = 0 := by
      have := (List.getElem?_eq_some_iff.1 hj).1
      simpa using this
    subst this
    rw [Kq.Elt.add_flat]
    have h1 := Kq.blk_cell hb 0
    simp only [Nat.add_zero] at h1 ⊢
    rw [h1]
    exact hj) (fun u hu => by rw [List.mem_singleton.1 hu]; rfl))
  have hq4 : q ≤ 4096 := by omega
  clear hs hO hfew htop hone htt ht hr t0 q0 hq hg hvl hvc hvs hn
  go_enter Tryd.func32, Tryd.ntmps32
  go_wp2_with fail
  refine HH.out.mono ?_
  rintro x w1 ⟨rfl, n1, hw2⟩
  have d2 : w1.cell? ⟨B, 2, none⟩ = some (.slice (some ⟨g, o, none⟩) q cb0) := by rw [hw2]; exact c2
  have HK1 : Hid (Kq.Keeps (fun k => w.heap.size ≤ k) w w1) := Lib.hid (by rw [hw2]; exact Kq.Keeps.of_below (below_drewN (Below.refl _ _) n1) (fun k h1 _ => h1))
  clear hw2 c2 c0
  go_wp2
  obtain ⟨wd, hwd⟩ : ∃ z, z = w1.drew := ⟨_, rfl⟩
  have HKwd : Hid (Kq.Keeps (fun k => w.heap.size ≤ k) w wd) := Lib.hid (by rw [hwd]; exact HK1.out.drew)
  refine Kq.wp_region_T 15 (fun cur => CmR cur B (.slice (some ⟨g, o, none⟩) q cb0) (.slice An n cn)) (by kernel_rfl) (by rw [← hwd]; exact HC.out wd HKwd.out) (fun hS0 => ?_)
  rw [← hwd] at hS0 ⊢
  clear hwd d2 e0 e1 e1' hw1
  unfold CmR at hS0 HC
  dsimp only [CmR]
  refine Kq.wpAnyT_take (i := 0) (v := ?_) rfl rfl (by kernel_rfl) (by kernel_rfl) (by kernel_rfl) (by kernel_rfl) (fun _ _ _ h => h) (Or.inl ⟨by kernel_rfl, ?_⟩) (by assumption) ?_
  rotate_left
  · intro w hSw; (try dsimp only at hSw); go_simp; (try with_reducible rfl)
  refine Kq.wpAnyT_take (i := 2) (v := ?_) rfl rfl (by kernel_rfl) (by kernel_rfl) (by kernel_rfl) (by kernel_rfl) (fun _ _ _ h => h) (Or.inl ⟨by kernel_rfl, ?_⟩) (by assumption) ?_
  rotate_left
  · intro w hSw; (try dsimp only at hSw); go_simp; (try with_reducible rfl)
  refine Kq.wpAnyT_take (i := 3) (v := ?_) rfl rfl (by kernel_rfl) (by kernel_rfl) (by kernel_rfl) (by kernel_rfl) (fun _ _ _ h => h) (Or.inl ⟨by kernel_rfl, ?_⟩) (by assumption) ?_
  rotate_left
  · intro w hSw; (try dsimp only at hSw); go_simp; (try with_reducible rfl)
  refine Kq.wpAnyT_take (i := 4) (v := ?_) rfl rfl (by kernel_rfl) (by kernel_rfl) (by kernel_rfl) (by kernel_rfl) (fun _ _ _ h => h) (Or.inl ⟨by kernel_rfl, ?_⟩) (by assumption) ?_
  rotate_left
  · intro w hSw; (try dsimp only at hSw); go_simp; (try with_reducible rfl)
  refine Kq.wpAnyT_take (i := 5) (v := ?_) rfl rfl (by kernel_rfl) (by kernel_rfl) (by kernel_rfl) (by kernel_rfl) (fun _ _ _ h => h) (Or.inl ⟨by kernel_rfl, ?_⟩) (by assumption) ?_
  rotate_left
  · intro w hSw; (try dsimp only at hSw); go_simp; (try with_reducible rfl)
  refine Kq.wpAnyT_take (i := 7) (v := ?_) rfl rfl (by kernel_rfl) (by kernel_rfl) (by kernel_rfl) (by kernel_rfl) (fun _ _ _ h => h) (Or.inl ⟨by kernel_rfl, ?_⟩) (by assumption) ?_
  rotate_left
  · intro w hSw; (try dsimp only at hSw); go_simp; (try with_reducible rfl)
  refine Kq.wpAnyT_take (i := 8) (v := ?_) rfl rfl (by kernel_rfl) (by kernel_rfl) (by kernel_rfl) (by kernel_rfl) (fun _ _ _ h => h) (Or.inl ⟨by kernel_rfl, ?_⟩) (by assumption) ?_
  rotate_left
  · intro w hSw; (try dsimp only at hSw); go_simp; (try with_reducible rfl)
  refine Kq.wpAnyT_take (i := 9) (v := ?_) rfl rfl (by kernel_rfl) (by kernel_rfl) (by kernel_rfl) (by kernel_rfl) (fun _ _ _ h => h) (Or.inl ⟨by kernel_rfl, ?_⟩) (by assumption) ?_
  rotate_left
  · intro w hSw; (try dsimp only at hSw); go_simp; (try with_reducible rfl)
  refine Kq.wpAnyT_take (i := 10) (v := ?_) rfl rfl (by kernel_rfl) (by kernel_rfl) (by kernel_rfl) (by kernel_rfl) (fun _ _ _ h => h) (Or.inl ⟨by kernel_rfl, ?_⟩) (by assumption) ?_
  rotate_left
  · intro w hSw; (try dsimp only at hSw); go_simp; (try with_reducible rfl)
  refine Kq.wpAnyT_two (i := 1) (j := 11) (by kernel_rfl) rfl rfl (fun K hK => ?g1x0) (fun K hK => ?g11x0)
  case g1x0 =>
    go_simp
    obtain ⟨xA, hw⟩ : ∃ z, z = wd.alloc (.cells #[] 35) := ⟨_, rfl⟩
    (try rw [← hw])
    obtain ⟨zb, hzb⟩ : ∃ z, z = wd.heap.size := ⟨_, rfl⟩
    have ba := Kq.below_alloc wd (.cells #[] 35)
    have HKxA : Hid (Kq.Keeps (fun k => w.heap.size ≤ k) w  xA) := Lib.hid (by rw [hw]; exact keeps_past HKwd.out (Kq.Keeps.of_below (S := fun _ => False) ba (fun k h1 h2 => absurd h1 (Nat.not_le.2 h2))) (fun k h => h.elim))
    have HRow : Hid (xA.ownsRow 0 35 1 (.slice (some ⟨zb, 0, none⟩) 0 0) 0 [] ∧ w.heap.size ≤ zb ∧ zb < xA.heap.size) := Lib.hid (by
      rw [hw, hzb]
      exact ⟨⟨rfl, Or.inr ⟨_, 0, #[], rfl, Nat.zero_le _, Kq.blk_new wd #[] 35 (0, 0), Nat.le_refl _, by decide, rfl, rfl⟩⟩, HKwd.out.size, by simp⟩)
    rw [← hzb]
    clear hw hzb ba
    refine hK.out _ _ (HC.out xA HKxA.out) (fun hS1 => ?_)
    clear hK K hS0
    have hS0 := hS1
    clear hS1
    refine Kq.wpAnyT_two (i := 6) (j := 11) (by kernel_rfl) rfl rfl (fun K hK => ?g6x1) (fun K hK => ?g11x1)
    case g6x1 =>
      rw [if_pos (by kernel_rfl)]
      refine Kq.wp_append_any _ (.tmp 15) (.tmp 19) 36 36 rfl 0 35 i0 (.slice none 0 0) 1 24 Tryd.underlying36 hi0 hz0 hz1 hz2 rfl (by decide) (.slice (some ⟨zb, 0, none⟩) 0 0) 0 [] (by kernel_rfl) HRow.out.1 (.slice (some ⟨g, o, none⟩) q cb0) q vs (by kernel_rfl) (HS1.out xA HKxA.out) ?e1 ?e2 (Nat.zero_le _) ?_
      case e1 => unfold maxLen; omega
      case e2 => omega
      intro v1 xB hown hgrow hfresh
      rw [Nat.zero_add, List.nil_append] at hown
      have hkb := Kq.Keeps.grown (S := (· = zb)) hgrow (fun k _ h => (Option.some.inj h).symm)
      have HKxB : Hid (Kq.Keeps (fun k => w.heap.size ≤ k) w  xB) := Lib.hid (keeps_past HKxA.out hkb (fun k e => by have e3 : k = zb := e; have := HRow.out.2.1; omega))
      have HR1 : Hid (xB.ownsRow 0 35 1 v1 q vs ∧ (∀ g, v1.ownBlock = some g → w.heap.size ≤ g)) := Lib.hid ⟨hown, fun g hg => by
        rcases hfresh g hg with e | e
        · have : g = zb := Option.some.inj e
          have := HRow.out.2.1
          omega
        · have := HKxA.out.size
          omega⟩
      clear hown hgrow hfresh hkb HRow
      refine hK.out _ _ (HC.out xB HKxB.out) (fun hS1 => ?_)
      clear hK K hS0
      have hS0 := hS1
      clear hS1
      refine Kq.wpAnyT_one (i := 11) (by kernel_rfl) rfl (fun K hK => ?_)
      go_simp
      obtain ⟨xC, hw⟩ : ∃ z, z = xB.alloc (.cells #[.slice An n cn] 35) := ⟨_, rfl⟩
      (try rw [← hw])
      obtain ⟨cb, hcb⟩ : ∃ z, z = xB.heap.size := ⟨_, rfl⟩
      have ba := Kq.below_alloc xB (.cells #[.slice An n cn] 35)
      have HKxC : Hid (Kq.Keeps (fun k => w.heap.size ≤ k) w  xC) := Lib.hid (by rw [hw]; exact keeps_past HKxB.out (Kq.Keeps.of_below (S := fun _ => False) ba (fun k h1 h2 => absurd h1 (Nat.not_le.2 h2))) (fun k h => h.elim))
      have HOne : Hid (xC.heap[cb]? = some (.cells #[.slice An n cn] 35 (0, 0))) := Lib.hid (by
        rw [hw, hcb]
        exact Kq.blk_new xB #[.slice An n cn] 35 (0, 0))
      have HR2 : Hid (xC.ownsRow 0 35 1 v1 q vs ∧ (∀ g, v1.ownBlock = some g → w.heap.size ≤ g)) := Lib.hid (by
        rw [hw]
        exact ⟨own_belowB HR1.out.1 ba, HR1.out.2⟩)
      clear HR1
      rw [← hcb]
      clear hw hcb ba
      refine hK.out _ _ (HC.out xC HKxC.out) (fun hS1 => ?_)
      clear hK K hS0
      have hS0 := hS1
      clear hS1
      refine Kq.wpAnyT_one (i := 12) (by kernel_rfl) rfl (fun K hK => ?_)
      rw [if_pos (by kernel_rfl)]
      refine Kq.wp_append_any _ (.tmp 20) (.tmp 25) 36 36 rfl 0 35 i0 (.slice none 0 0) 1 24 Tryd.underlying36 hi0 hz0 hz1 hz2 rfl (by decide) v1 q vs (by kernel_rfl) HR2.out.1 (.slice (some ⟨cb, 0, none⟩) 1 1) 1 [.slice An n cn] (by kernel_rfl) (HS2.out xC cb HOne.out) ?e3 ?e4 (Nat.zero_le _) ?_
      case e3 => unfold maxLen; omega
      case e4 => omega
      intro v2 xD hown hgrow hfresh
      have hkb := Kq.Keeps.grown (S := fun k => v1.ownBlock = some k) hgrow (fun k _ h => h)
      have HKxD : Hid (Kq.Keeps (fun k => w.heap.size ≤ k) w  xD) := Lib.hid (keeps_past HKxC.out hkb (fun k e => HR2.out.2 k e))
      have H5 : Hid (∃ b c, v2 = .slice (some ⟨b, 0, none⟩) (q + 1) c ∧ q + 1 ≤ c ∧ (w.heap.size ≤ b ∧ b < xD.heap.size) ∧ ∀ i (hi : i < (vs ++ [Value.slice An n cn]).length), xD.cell? ⟨b, 0 + i, none⟩ = some (vs ++ [Value.slice An n cn])[i]) := Lib.hid (by
        rcases hown.2 with ⟨e2, h0⟩ | ⟨b, c, cur, e2, h1, h2, h3, h4, h5, h6⟩
        · omega
        · refine ⟨b, c, e2, h3, ⟨?_, Kq.blk_lt h2⟩, fun i hi => ?_⟩
          · rcases hfresh b (by rw [e2]; rfl) with e | e
            · exact HR2.out.2 b e.symm
            · have := HKxC.out.size; omega
          · have h7 : (cur.toList.take ((q + 1) * 1))[i]? = (vs ++ [Value.slice An n cn])[i]? := by rw [h6]
            have hi2 : i < (q + 1) * 1 := by
              have := HVL.out
              have := HQ.out
              simp only [List.length_append, List.length_cons, List.length_nil] at hi
              omega
            rw [List.getElem?_take, if_pos hi2, Array.getElem?_toList, List.getElem?_eq_getElem hi] at h7
            rw [Nat.zero_add, Kq.blk_cell h2, h7])
      clear hown hgrow hfresh hkb HR2 HOne
      obtain ⟨b, c, rfl, hc5, hb5, hp5⟩ := H5.out
      refine hK.out _ _ (HC.out xD HKxD.out) (fun hS1 => ?_)
      clear hK K hS0
      have hS0 := hS1
      clear hS1
      refine Kq.wpAnyT_one (i := 13) (by kernel_rfl) rfl (fun K hK => ?_)
      go_simp
      refine hK.out _ _ (HC.out xD HKxD.out) (fun hS1 => ?_)
      clear hK K hS0
      have hS0 := hS1
      clear hS1
      have f2 := (HF.out xD HKxD.out).1
      have c2 := (HF.out xD HKxD.out).2
      refine Kq.wpAnyT_take (i := 14) (v := ?_) rfl rfl (by kernel_rfl) (by kernel_rfl) (by kernel_rfl) (by kernel_rfl) (fun _ _ _ h => h) (Or.inl ⟨by kernel_rfl, ?_⟩) (by assumption) ?_
      rotate_left
      · intro w hSw; (try dsimp only at hSw); go_simp; (try with_reducible rfl)
      refine Kq.wpAnyT_last (by kernel_rfl) rfl (fun K hK => ?_)
      go_simp
      refine hK.out _ _ ?_
      clear hK K
      refine Kq.wpAnyT_done (by kernel_rfl) ?_ _
      have HN5 := Lib.hid (HR.out.com_new HO.out HKxD.out HVL.out HVS.out (by rw [← HN.out]; exact hp5) hb5 (by rw [← HQ.out]; exact hc5) (w' := xD.setCell ⟨B, 2, none⟩ (.slice (some ⟨b, 0, none⟩) (q + 1) c)) (by rw [← HQ.out]))
      have HH5 := Lib.hid (sr_height (xD.setCell ⟨B, 2, none⟩ (.slice (some ⟨b, 0, none⟩) (q + 1) c)) _ B _ HN5.out.1 HSO.out)
      rw [HHT.out] at HH5
      obtain ⟨w9, hw9⟩ : ∃ z, z = xD.setCell ⟨B, 2, none⟩ (.slice (some ⟨b, 0, none⟩) (q + 1) c) := ⟨_, rfl⟩
      rw [← hw9] at HN5 HH5
      (try rw [← hw9])
      clear hw9 hS0 f2 c2 H5 hc5 hb5 hp5
      go_wp2_with fail
      refine HH5.out.mono ?_
      rintro x w10 ⟨rfl, n2, hw10⟩
      have HEND : Hid (RefStep w O B (comR s) (comV s).1 (.returned (.tuple #[.int .u64 ((t : Int) + 1), .int .i64 0])) w10) := Lib.hid (by
        rw [hw10, HE.out.1, HE.out.2]
        have hbl : Below w9.heap.size w9 (w9.drewN n2) := below_drewN (Below.refl _ _) n2
        exact ⟨rfl, HN5.out.1.below hbl, HN5.out.2.trans (Kq.Keeps.of_below hbl (fun k h1 h2 => absurd h2 (Nat.not_lt.2 h1)))⟩)
      clear hw10 HN5 HH5
      go_wp2
      go_ret2
      exact HEND.out
    case g11x1 =>
      go_simp
      obtain ⟨xC, hw⟩ : ∃ z, z = xA.alloc (.cells #[.slice An n cn] 35) := ⟨_, rfl⟩
      (try rw [← hw])
      obtain ⟨cb, hcb⟩ : ∃ z, z = xA.heap.size := ⟨_, rfl⟩
      have ba := Kq.below_alloc xA (.cells #[.slice An n cn] 35)
      have HKxC : Hid (Kq.Keeps (fun k => w.heap.size ≤ k) w  xC) := Lib.hid (by rw [hw]; exact keeps_past HKxA.out (Kq.Keeps.of_below (S := fun _ => False) ba (fun k h1 h2 => absurd h1 (Nat.not_le.2 h2))) (fun k h => h.elim))
      have HOne : Hid (xC.heap[cb]? = some (.cells #[.slice An n cn] 35 (0, 0))) := Lib.hid (by
        rw [hw, hcb]
        exact Kq.blk_new xA #[.slice An n cn] 35 (0, 0))
      have HRow2 : Hid (xC.ownsRow 0 35 1 (.slice (some ⟨zb, 0, none⟩) 0 0) 0 [] ∧ w.heap.size ≤ zb ∧ zb < xC.heap.size) := Lib.hid (by
        rw [hw]
        exact ⟨own_belowB HRow.out.1 ba, HRow.out.2.1, Nat.lt_of_lt_of_le HRow.out.2.2 ba.size⟩)
      have HOne2 : Hid (xC.heap[cb]? = some (.cells #[.slice An n cn] 35 (0, 0)) ∧ zb ≠ cb) := Lib.hid ⟨HOne.out, by have := HRow.out.2.2; omega⟩
      clear HRow
      have HRow := HRow2
      clear HRow2
      rw [← hcb]
      clear hw hcb ba
      refine hK.out _ _ (HC.out xC HKxC.out) (fun hS1 => ?_)
      clear hK K hS0
      have hS0 := hS1
      clear hS1
      refine Kq.wpAnyT_one (i := 6) (by kernel_rfl) rfl (fun K hK => ?_)
      rw [if_pos (by kernel_rfl)]
      refine Kq.wp_append_any _ (.tmp 15) (.tmp 19) 36 36 rfl 0 35 i0 (.slice none 0 0) 1 24 Tryd.underlying36 hi0 hz0 hz1 hz2 rfl (by decide) (.slice (some ⟨zb, 0, none⟩) 0 0) 0 [] (by kernel_rfl) HRow.out.1 (.slice (some ⟨g, o, none⟩) q cb0) q vs (by kernel_rfl) (HS1.out xC HKxC.out) ?e1 ?e2 (Nat.zero_le _) ?_
      case e1 => unfold maxLen; omega
      case e2 => omega
      intro v1 xB hown hgrow hfresh
      rw [Nat.zero_add, List.nil_append] at hown
      have hkb := Kq.Keeps.grown (S := (· = zb)) hgrow (fun k _ h => (Option.some.inj h).symm)
      have HKxB : Hid (Kq.Keeps (fun k => w.heap.size ≤ k) w  xB) := Lib.hid (keeps_past HKxC.out hkb (fun k e => by have e3 : k = zb := e; have := HRow.out.2.1; omega))
      have HR2 : Hid (xB.ownsRow 0 35 1 v1 q vs ∧ (∀ g, v1.ownBlock = some g → w.heap.size ≤ g)) := Lib.hid ⟨hown, fun g hg => by
        rcases hfresh g hg with e | e
        · have : g = zb := Option.some.inj e
          have := HRow.out.2.1
          omega
        · have := HKxC.out.size
          omega⟩
      have HOne3 : Hid (xB.heap[cb]? = some (.cells #[.slice An n cn] 35 (0, 0))) := Lib.hid (hkb.blk HOne2.out.1 (fun e => HOne2.out.2 (show zb = cb from (show cb = zb from e).symm)))
      clear HOne HOne2
      have HOne := HOne3
      clear HOne3
      clear hown hgrow hfresh hkb HRow
      refine hK.out _ _ (HC.out xB HKxB.out) (fun hS1 => ?_)
      clear hK K hS0
      have hS0 := hS1
      clear hS1
      refine Kq.wpAnyT_one (i := 12) (by kernel_rfl) rfl (fun K hK => ?_)
      rw [if_pos (by kernel_rfl)]
      refine Kq.wp_append_any _ (.tmp 20) (.tmp 25) 36 36 rfl 0 35 i0 (.slice none 0 0) 1 24 Tryd.underlying36 hi0 hz0 hz1 hz2 rfl (by decide) v1 q vs (by kernel_rfl) HR2.out.1 (.slice (some ⟨cb, 0, none⟩) 1 1) 1 [.slice An n cn] (by kernel_rfl) (HS2.out xB cb HOne.out) ?e3 ?e4 (Nat.zero_le _) ?_
      case e3 => unfold maxLen; omega
      case e4 => omega
      intro v2 xD hown hgrow hfresh
      have hkb := Kq.Keeps.grown (S := fun k => v1.ownBlock = some k) hgrow (fun k _ h => h)
      have HKxD : Hid (Kq.Keeps (fun k => w.heap.size ≤ k) w  xD) := Lib.hid (keeps_past HKxB.out hkb (fun k e => HR2.out.2 k e))
      have H5 : Hid (∃ b c, v2 = .slice (some ⟨b, 0, none⟩) (q + 1) c ∧ q + 1 ≤ c ∧ (w.heap.size ≤ b ∧ b < xD.heap.size) ∧ ∀ i (hi : i < (vs ++ [Value.slice An n cn]).length), xD.cell? ⟨b, 0 + i, none⟩ = some (vs ++ [Value.slice An n cn])[i]) := Lib.hid (by
        rcases hown.2 with ⟨e2, h0⟩ | ⟨b, c, cur, e2, h1, h2, h3, h4, h5, h6⟩
        · omega
        · refine ⟨b, c, e2, h3, ⟨?_, Kq.blk_lt h2⟩, fun i hi => ?_⟩
          · rcases hfresh b (by rw [e2]; rfl) with e | e
            · exact HR2.out.2 b e.symm
            · have := HKxB.out.size; omega
          · have h7 : (cur.toList.take ((q + 1) * 1))[i]? = (vs ++ [Value.slice An n cn])[i]? := by rw [h6]
            have hi2 : i < (q + 1) * 1 := by
              have := HVL.out
              have := HQ.out
              simp only [List.length_append, List.length_cons, List.length_nil] at hi
              omega
            rw [List.getElem?_take, if_pos hi2, Array.getElem?_toList, List.getElem?_eq_getElem hi] at h7
            rw [Nat.zero_add, Kq.blk_cell h2, h7])
      clear hown hgrow hfresh hkb HR2 HOne
      obtain ⟨b, c, rfl, hc5, hb5, hp5⟩ := H5.out
      refine hK.out _ _ (HC.out xD HKxD.out) (fun hS1 => ?_)
      clear hK K hS0
      have hS0 := hS1
      clear hS1
      refine Kq.wpAnyT_one (i := 13) (by kernel_rfl) rfl (fun K hK => ?_)
      go_simp
      refine hK.out _ _ (HC.out xD HKxD.out) (fun hS1 => ?_)
      clear hK K hS0
      have hS0 := hS1
      clear hS1
      have f2 := (HF.out xD HKxD.out).1
      have c2 := (HF.out xD HKxD.out).2
      refine Kq.wpAnyT_take (i := 14) (v := ?_) rfl rfl (by kernel_rfl) (by kernel_rfl) (by kernel_rfl) (by kernel_rfl) (fun _ _ _ h => h) (Or.inl ⟨by kernel_rfl, ?_⟩) (by assumption) ?_
      rotate_left
      · intro w hSw; (try dsimp only at hSw); go_simp; (try with_reducible rfl)
      refine Kq.wpAnyT_last (by kernel_rfl) rfl (fun K hK => ?_)
      go_simp
      refine hK.out _ _ ?_
      clear hK K
      refine Kq.wpAnyT_done (by kernel_rfl) ?_ _
      have HN5 := Lib.hid (HR.out.com_new HO.out HKxD.out HVL.out HVS.out (by rw [← HN.out]; exact hp5) hb5 (by rw [← HQ.out]; exact hc5) (w' := xD.setCell ⟨B, 2, none⟩ (.slice (some ⟨b, 0, none⟩) (q + 1) c)) (by rw [← HQ.out]))
      have HH5 := Lib.hid (sr_height (xD.setCell ⟨B, 2, none⟩ (.slice (some ⟨b, 0, none⟩) (q + 1) c)) _ B _ HN5.out.1 HSO.out)
      rw [HHT.out] at HH5
      obtain ⟨w9, hw9⟩ : ∃ z, z = xD.setCell ⟨B, 2, none⟩ (.slice (some ⟨b, 0, none⟩) (q + 1) c) := ⟨_, rfl⟩
      rw [← hw9] at HN5 HH5
      (try rw [← hw9])
      clear hw9 hS0 f2 c2 H5 hc5 hb5 hp5
      go_wp2_with fail
      refine HH5.out.mono ?_
      rintro x w10 ⟨rfl, n2, hw10⟩
      have HEND : Hid (RefStep w O B (comR s) (comV s).1 (.returned (.tuple #[.int .u64 ((t : Int) + 1), .int .i64 0])) w10) := Lib.hid (by
        rw [hw10, HE.out.1, HE.out.2]
        have hbl : Below w9.heap.size w9 (w9.drewN n2) := below_drewN (Below.refl _ _) n2
        exact ⟨rfl, HN5.out.1.below hbl, HN5.out.2.trans (Kq.Keeps.of_below hbl (fun k h1 h2 => absurd h2 (Nat.not_lt.2 h1)))⟩)
      clear hw10 HN5 HH5
      go_wp2
      go_ret2
      exact HEND.out
  case g11x0 =>
    go_simp
    obtain ⟨xC, hw⟩ : ∃ z, z = wd.alloc (.cells #[.slice An n cn] 35) := ⟨_, rfl⟩
    (try rw [← hw])
    obtain ⟨cb, hcb⟩ : ∃ z, z = wd.heap.size := ⟨_, rfl⟩
    have ba := Kq.below_alloc wd (.cells #[.slice An n cn] 35)
    have HKxC : Hid (Kq.Keeps (fun k => w.heap.size ≤ k) w  xC) := Lib.hid (by rw [hw]; exact keeps_past HKwd.out (Kq.Keeps.of_below (S := fun _ => False) ba (fun k h1 h2 => absurd h1 (Nat.not_le.2 h2))) (fun k h => h.elim))
    have HOne : Hid (xC.heap[cb]? = some (.cells #[.slice An n cn] 35 (0, 0))) := Lib.hid (by
      rw [hw, hcb]
      exact Kq.blk_new wd #[.slice An n cn] 35 (0, 0))
    rw [← hcb]
    clear hw hcb ba
    refine hK.out _ _ (HC.out xC HKxC.out) (fun hS1 => ?_)
    clear hK K hS0
    have hS0 := hS1
    clear hS1
    refine Kq.wpAnyT_one (i := 1) (by kernel_rfl) rfl (fun K hK => ?_)
    go_simp
    obtain ⟨xA, hw⟩ : ∃ z, z = xC.alloc (.cells #[] 35) := ⟨_, rfl⟩
    (try rw [← hw])
    obtain ⟨zb, hzb⟩ : ∃ z, z = xC.heap.size := ⟨_, rfl⟩
    have ba := Kq.below_alloc xC (.cells #[] 35)
    have HKxA : Hid (Kq.Keeps (fun k => w.heap.size ≤ k) w  xA) := Lib.hid (by rw [hw]; exact keeps_past HKxC.out (Kq.Keeps.of_below (S := fun _ => False) ba (fun k h1 h2 => absurd h1 (Nat.not_le.2 h2))) (fun k h => h.elim))
    have HRow : Hid (xA.ownsRow 0 35 1 (.slice (some ⟨zb, 0, none⟩) 0 0) 0 [] ∧ w.heap.size ≤ zb ∧ zb < xA.heap.size) := Lib.hid (by
      rw [hw, hzb]
      exact ⟨⟨rfl, Or.inr ⟨_, 0, #[], rfl, Nat.zero_le _, Kq.blk_new xC #[] 35 (0, 0), Nat.le_refl _, by decide, rfl, rfl⟩⟩, HKxC.out.size, by simp⟩)
    have HOne2 : Hid (xA.heap[cb]? = some (.cells #[.slice An n cn] 35 (0, 0)) ∧ zb ≠ cb) := Lib.hid (by
      rw [hw]
      exact ⟨Kq.below_blk ba HOne.out (Kq.blk_lt HOne.out), by have := Kq.blk_lt HOne.out; omega⟩)
    rw [← hzb]
    clear hw hzb ba
    refine hK.out _ _ (HC.out xA HKxA.out) (fun hS1 => ?_)
    clear hK K hS0
    have hS0 := hS1
    clear hS1
    refine Kq.wpAnyT_one (i := 6) (by kernel_rfl) rfl (fun K hK => ?_)
    rw [if_pos (by kernel_rfl)]
    refine Kq.wp_append_any _ (.tmp 15) (.tmp 19) 36 36 rfl 0 35 i0 (.slice none 0 0) 1 24 Tryd.underlying36 hi0 hz0 hz1 hz2 rfl (by decide) (.slice (some ⟨zb, 0, none⟩) 0 0) 0 [] (by kernel_rfl) HRow.out.1 (.slice (some ⟨g, o, none⟩) q cb0) q vs (by kernel_rfl) (HS1.out xA HKxA.out) ?e1 ?e2 (Nat.zero_le _) ?_
    case e1 => unfold maxLen; omega
    case e2 => omega
    intro v1 xB hown hgrow hfresh
    rw [Nat.zero_add, List.nil_append] at hown
    have hkb := Kq.Keeps.grown (S := (· = zb)) hgrow (fun k _ h => (Option.some.inj h).symm)
    have HKxB : Hid (Kq.Keeps (fun k => w.heap.size ≤ k) w  xB) := Lib.hid (keeps_past HKxA.out hkb (fun k e => by have e3 : k = zb := e; have := HRow.out.2.1; omega))
    have HR2 : Hid (xB.ownsRow 0 35 1 v1 q vs ∧ (∀ g, v1.ownBlock = some g → w.heap.size ≤ g)) := Lib.hid ⟨hown, fun g hg => by
      rcases hfresh g hg with e | e
      · have : g = zb := Option.some.inj e
        have := HRow.out.2.1
        omega
      · have := HKxA.out.size
        omega⟩
    have HOne3 : Hid (xB.heap[cb]? = some (.cells #[.slice An n cn] 35 (0, 0))) := Lib.hid (hkb.blk HOne2.out.1 (fun e => HOne2.out.2 (show zb = cb from (show cb = zb from e).symm)))
    clear HOne HOne2
    have HOne := HOne3
    clear HOne3
    clear hown hgrow hfresh hkb HRow
    refine hK.out _ _ (HC.out xB HKxB.out) (fun hS1 => ?_)
    clear hK K hS0
    have hS0 := hS1
    clear hS1
    refine Kq.wpAnyT_one (i := 12) (by kernel_rfl) rfl (fun K hK => ?_)
    rw [if_pos (by kernel_rfl)]
    refine Kq.wp_append_any _ (.tmp 20) (.tmp 25) 36 36 rfl 0 35 i0 (.slice none 0 0) 1 24 Tryd.underlying36 hi0 hz0 hz1 hz2 rfl (by decide) v1 q vs (by kernel_rfl) HR2.out.1 (.slice (some ⟨cb, 0, none⟩) 1 1) 1 [.slice An n cn] (by kernel_rfl) (HS2.out xB cb HOne.out) ?e3 ?e4 (Nat.zero_le _) ?_
    case e3 => unfold maxLen; omega
    case e4 => omega
    intro v2 xD hown hgrow hfresh
    have hkb := Kq.Keeps.grown (S := fun k => v1.ownBlock = some k) hgrow (fun k _ h => h)
    have HKxD : Hid (Kq.Keeps (fun k => w.heap.size ≤ k) w  xD) := Lib.hid (keeps_past HKxB.out hkb (fun k e => HR2.out.2 k e))
    have H5 : Hid (∃ b c, v2 = .slice (some ⟨b, 0, none⟩) (q + 1) c ∧ q + 1 ≤ c ∧ (w.heap.size ≤ b ∧ b < xD.heap.size) ∧ ∀ i (hi : i < (vs ++ [Value.slice An n cn]).length), xD.cell? ⟨b, 0 + i, none⟩ = some (vs ++ [Value.slice An n cn])[i]) := Lib.hid (by
      rcases hown.2 with ⟨e2, h0⟩ | ⟨b, c, cur, e2, h1, h2, h3, h4, h5, h6⟩
      · omega
      · refine ⟨b, c, e2, h3, ⟨?_, Kq.blk_lt h2⟩, fun i hi => ?_⟩
        · rcases hfresh b (by rw [e2]; rfl) with e | e
          · exact HR2.out.2 b e.symm
          · have := HKxB.out.size; omega
        · have h7 : (cur.toList.take ((q + 1) * 1))[i]? = (vs ++ [Value.slice An n cn])[i]? := by rw [h6]
          have hi2 : i < (q + 1) * 1 := by
            have := HVL.out
            have := HQ.out
            simp only [List.length_append, List.length_cons, List.length_nil] at hi
            omega
          rw [List.getElem?_take, if_pos hi2, Array.getElem?_toList, List.getElem?_eq_getElem hi] at h7
          rw [Nat.zero_add, Kq.blk_cell h2, h7])
    clear hown hgrow hfresh hkb HR2 HOne
    obtain ⟨b, c, rfl, hc5, hb5, hp5⟩ := H5.out
    refine hK.out _ _ (HC.out xD HKxD.out) (fun hS1 => ?_)
    clear hK K hS0
    have hS0 := hS1
    clear hS1
    refine Kq.wpAnyT_one (i := 13) (by kernel_rfl) rfl (fun K hK => ?_)
    go_simp
    refine hK.out _ _ (HC.out xD HKxD.out) (fun hS1 => ?_)
    clear hK K hS0
    have hS0 := hS1
    clear hS1
    have f2 := (HF.out xD HKxD.out).1
    have c2 := (HF.out xD HKxD.out).2
    refine Kq.wpAnyT_take (i := 14) (v := ?_) rfl rfl (by kernel_rfl) (by kernel_rfl) (by kernel_rfl) (by kernel_rfl) (fun _ _ _ h => h) (Or.inl ⟨by kernel_rfl, ?_⟩) (by assumption) ?_
    rotate_left
    · intro w hSw; (try dsimp only at hSw); go_simp; (try with_reducible rfl)
    refine Kq.wpAnyT_last (by kernel_rfl) rfl (fun K hK => ?_)
    go_simp
    refine hK.out _ _ ?_
    clear hK K
    refine Kq.wpAnyT_done (by kernel_rfl) ?_ _
    have HN5 := Lib.hid (HR.out.com_new HO.out HKxD.out HVL.out HVS.out (by rw [← HN.out]; exact hp5) hb5 (by rw [← HQ.out]; exact hc5) (w' := xD.setCell ⟨B, 2, none⟩ (.slice (some ⟨b, 0, none⟩) (q + 1) c)) (by rw [← HQ.out]))
    have HH5 := Lib.hid (sr_height (xD.setCell ⟨B, 2, none⟩ (.slice (some ⟨b, 0, none⟩) (q + 1) c)) _ B _ HN5.out.1 HSO.out)
    rw [HHT.out] at HH5
    obtain ⟨w9, hw9⟩ : ∃ z, z = xD.setCell ⟨B, 2, none⟩ (.slice (some ⟨b, 0, none⟩) (q + 1) c) := ⟨_, rfl⟩
    rw [← hw9] at HN5 HH5
    (try rw [← hw9])
    clear hw9 hS0 f2 c2 H5 hc5 hb5 hp5
    go_wp2_with fail
    refine HH5.out.mono ?_
    rintro x w10 ⟨rfl, n2, hw10⟩
    have HEND : Hid (RefStep w O B (comR s) (comV s).1 (.returned (.tuple #[.int .u64 ((t : Int) + 1), .int .i64 0])) w10) := Lib.hid (by
      rw [hw10, HE.out.1, HE.out.2]
      have hbl : Below w9.heap.size w9 (w9.drewN n2) := below_drewN (Below.refl _ _) n2
      exact ⟨rfl, HN5.out.1.below hbl, HN5.out.2.trans (Kq.Keeps.of_below hbl (fun k h1 h2 => absurd h2 (Nat.not_lt.2 h1)))⟩)
    clear hw10 HN5 HH5
    go_wp2
    go_ret2
    exact HEND.out
end
end Go.Proofs.YtcknhnbckbocjaaDoor
namespace Go.Proofs.YtcknhnbckbocjaaDoor
open Go.RowKit
set_option linter.unusedVariables false
set_option maxRecDepth 100000 in
theorem new_sr (h : Nat) (w : World) : RefP ((w.alloc (.cells #[.slice none 0 0] 35)).alloc (.cells #[.slice none 0 0, .int .u64 (h : Int), .slice (some ⟨w.heap.size, 0, none⟩) 1 1] 38)) (fun k => w.heap.size ≤ k ∧ k < ((w.alloc (.cells #[.slice none 0 0] 35)).alloc (.cells #[.slice none 0 0, .int .u64 (h : Int), .slice (some ⟨w.heap.size, 0, none⟩) 1 1] 38)).heap.size) (w.heap.size + 1) (newV h) ∧ Below w.heap.size w ((w.alloc (.cells #[.slice none 0 0] 35)).alloc (.cells #[.slice none 0 0, .int .u64 (h : Int), .slice (some ⟨w.heap.size, 0, none⟩) 1 1] 38)) := by
  have b1 := Kq.below_alloc w (.cells #[.slice none 0 0] 35)
  have r1 := Kq.blk_new w #[.slice none 0 0] 35 (0, 0)
  have z1 : (w.alloc (.cells #[.slice none 0 0] 35)).heap.size = w.heap.size + 1 := by simp
  generalize w.alloc (.cells #[.slice none 0 0] 35) = w1 at *
  have b2 := Kq.below_alloc w1 (.cells #[.slice none 0 0, .int .u64 (h : Int), .slice (some ⟨w.heap.size, 0, none⟩) 1 1] 38)
  have r2 := Kq.blk_new w1 #[.slice none 0 0, .int .u64 (h : Int), .slice (some ⟨w.heap.size, 0, none⟩) 1 1] 38 (0, 0)
  have z2 : (w1.alloc (.cells #[.slice none 0 0, .int .u64 (h : Int), .slice (some ⟨w.heap.size, 0, none⟩) 1 1] 38)).heap.size = w.heap.size + 1 + 1 := by simp [z1]
  generalize w1.alloc (.cells #[.slice none 0 0, .int .u64 (h : Int), .slice (some ⟨w.heap.size, 0, none⟩) 1 1] 38) = w2 at *
  rw [z1] at r2
  have r1b := Kq.below_blk b2 r1 (by omega)
  refine ⟨⟨none, 0, some ⟨w.heap.size, 0, none⟩, 1, r2, PsO.nil, Or.inl ⟨rfl, rfl⟩, Nat.le_refl _, Nat.le_refl _, fun i hi => ?_, by omega, fun b off e => ?_, fun b off e => (by cases e), fun b off e => ?_, fun i hi g o A c e hc b off e2 => ?_⟩, b1.trans (b2.mono (by omega))⟩
  · have : i = 0 := by simpa [newV] using hi
    subst this
    exact ⟨w.heap.size, 0, none, 0, rfl, by omega, Kq.blk_cell r1b 0, Nat.le_refl _, PsO.nil⟩
  · injection e with e
    injection e with e
    omega
  · injection e with e
    injection e with e
    omega
  · have : i = 0 := by simpa [newV] using hi
    subst this
    injection e with e
    injection e with e e3
    subst e e3
    have h1 := Kq.blk_cell r1b 0
    rw [show w2.cell? ⟨w.heap.size, 0 + 0, none⟩ = w2.cell? ⟨w.heap.size, 0, none⟩ from rfl, h1] at hc
    injection hc with hc
    injection hc with hc
    rw [← hc] at e2
    cases e2
set_option maxRecDepth 100000 in
set_option maxHeartbeats 1000000 in
theorem sr_new (h : Nat) (w : World) : Calls Tryd.prog 11 #[.int .u64 (h : Int)] w fun x w' => ∃ B, x = .returned (.pointer (some ⟨B, 0, none⟩)) ∧ RefP w' (fun k => w.heap.size ≤ k ∧ k < w'.heap.size) B (newV h) ∧ Below w.heap.size w w' := by
  go_enter Tryd.func11, Tryd.ntmps11
  go_wp2
  go_ret
  exact ⟨w.heap.size + 1, rfl, new_sr h w⟩
end Go.Proofs.YtcknhnbckbocjaaDoor
