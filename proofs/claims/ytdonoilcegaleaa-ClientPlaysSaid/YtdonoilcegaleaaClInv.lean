/- A client that a law made; the document's example; a slice of carrackref12.Known opened. No condition. -/
import Derived.WalkSpells
import Derived.Outline
import Derived.Lib.SmallJoins
import Derived.Deep.Slices
import Derived.SizedLaws
import Derived.Test.YtdonoilcegaleaaClSet2
import Derived.Test.YtdonoilcegaleaaClZeros
namespace Go.Proofs.Ytdonoilcegaleaa
open Go.RowKit Go.Cl Go.ChangeShapes Go.WideShapes Go.Deep Go.Joins
set_option linter.unusedVariables false
structure CliI (W w : World) (base C M N : Nat) (v : Value) (hs : List Nat) (f : Int → Option ByteArray) : Prop where
  s : CliS w base C M N v hs f
  bel : Below W.heap.size W w
  hC : W.heap.size ≤ C
  hM : W.heap.size ≤ M
  hbase : W.heap.size ≤ base
section
variable {W w w' : World} {base C M N N' : Nat} {v v' : Value} {hs hs' : List Nat} {f f' : Int → Option ByteArray}
theorem CliI.below (h : CliI W w base C M N v hs f) (hb : Below w.heap.size w w') : CliI W w' base C M N v hs f := ⟨h.s.below hb, h.bel.trans (hb.mono h.bel.size), h.hC, h.hM, h.hbase⟩
theorem CliI.ownge (h : CliI W w base C M N v hs f) {j : Nat} (hj : OwnC C M v j) : W.heap.size ≤ j := by
  rcases hj with rfl | rfl | e
  · exact h.hC
  · exact h.hM
  · exact Nat.le_trans h.hbase (h.s.own.lt j e).1
theorem CliS.ownlt (h : CliS w base C M N v hs f) {j : Nat} (hj : OwnC C M v j) : j < w.heap.size := by
  rcases hj with rfl | rfl | e
  · exact Kq.blk_lt h.blk
  · exact h.mp.lt
  · exact (h.own.lt j e).2
theorem CliI.step (h : CliI W w base C M N v hs f) (hd : SetP w base C M N' v hs' f' w') : ∃ v', CliI W w' base C M N' v' hs' f' ∧ Kq.Keeps (OwnC C M v) w w' ∧ (∀ j, v'.ownBlock = some j → v.ownBlock = some j ∨ w.heap.size ≤ j) := by
  obtain ⟨v', h1, h2, h3⟩ := hd
  exact ⟨v', ⟨h1, h.bel.trans (h2.below h.bel.size (fun j _ hj => h.ownge hj)), h.hC, h.hM, h.hbase⟩, h2, h3⟩
theorem CliI.made (hW : Below W.heap.size W w) (h : CliS w' w.heap.size (w.heap.size + 1) w.heap.size 0 (.slice none 0 0) [] (fun _ => none)) (hb : Below w.heap.size w w') : CliI W w' w.heap.size (w.heap.size + 1) w.heap.size 0 (.slice none 0 0) [] (fun _ => none) :=
  ⟨h, hW.trans (hb.mono hW.size), Nat.le_succ_of_le hW.size, hW.size, hW.size⟩
end
/-- heights and roots in memory -/
def KnAt (w : World) (A : Option Addr) (l : List (Nat × ByteArray)) : Prop := ∀ i (h : i < l.length), ∃ b off, A = some ⟨b, off, none⟩ ∧ b < w.heap.size ∧ w.cell? ⟨b, off + i * 2, none⟩ = some (.int .u64 (l[i].1 : Int)) ∧ w.cell? ⟨b, off + i * 2 + 1, none⟩ = some (.string l[i].2) ∧ l[i].1 < 18446744073709551616 ∧ l[i].2.size ≤ maxLen
theorem KnAt.later {w w' : World} {A : Option Addr} {l : List (Nat × ByteArray)} (h : KnAt w A l) (hb : Below w.heap.size w w') : KnAt w' A l := fun i hi => by
  obtain ⟨b, off, hA, hlt, h0, h1, h2, h3⟩ := h i hi
  exact ⟨b, off, hA, Nat.lt_of_lt_of_le hlt hb.size, (hb.cell (p := ⟨b, off + i * 2, none⟩) hlt).trans h0, (hb.cell (p := ⟨b, off + i * 2 + 1, none⟩) hlt).trans h1, h2, h3⟩
theorem add_flat (b off i : Nat) : (⟨b, off, none⟩ : Addr).add i = ⟨b, off + i, none⟩ := by unfold Addr.add; split <;> simp_all
theorem cell_lt {w : World} {b o : Nat} {v : Value} (h : w.cell? ⟨b, o, none⟩ = some v) : b < w.heap.size := by
  rcases Nat.lt_or_ge b w.heap.size with h' | h'
  · exact h'
  · simp [World.cell?, Array.getElem?_eq_none h'] at h
theorem head_flat {w : World} {base n : Nat} {x : Addr} {cs : List Value} (hn : 0 < n) (h : w.cells? base (x.add 0) n = some cs) : ∃ b off, x = ⟨b, off, none⟩ := by
  obtain ⟨_, hl, hc⟩ := World.cells?_some h
  have h0 := hc 0 hn
  have e : (x.add 0).add 0 = x := by unfold Addr.add; simp
  rw [e, List.getElem?_eq_getElem (by omega)] at h0
  obtain ⟨b, off, spot⟩ := x
  have := World.cell?_spot h0
  simp only at this
  subst this
  exact ⟨b, off, rfl⟩
set_option maxRecDepth 100000 in
theorem knowns_open {H : Type} {enc : TypeId × Value → H} {W : World} {base : Nat} {v : Value} {d : DataW H} {p : List MemPlace}
    (hval : Value.okWide Try.prog W .any base 22 v) (h : DataW.Trod enc Try.prog W 0 (fun _ => true) true 22 v d p) (_hz : ∀ n ∈ d.weights Try.prog 22, n ≤ reachBytes) :
    ∃ A cap l, v = .slice A l.length cap ∧ l.length ≤ maxLen ∧ KnAt W A l := by
  obtain ⟨a, len, cap, rfl⟩ := okWide_slice Try.underlying22 hval
  obtain ⟨fuel, hf⟩ := h
  have hc2 : Try.prog.cellsOf 33 = 2 := by kernel_rfl
  have k1 : Try.prog.cellsOf 23 = 1 := by kernel_rfl
  have k2 : Try.prog.cellsOf 9 = 1 := by kernel_rfl
  rcases open_slice Try.underlying22 hf with ⟨hcs, _⟩ | ⟨x, len', cap', m, n, D, Pl, hcs, _, hl, hm, hmm, hx, hel⟩
  · simp [Value.cells] at hcs
    obtain ⟨rfl, rfl, rfl⟩ := hcs
    exact ⟨none, 0, [], rfl, Nat.zero_le _, fun i hi => absurd hi (Nat.not_lt_zero _)⟩
  · simp [Value.cells] at hcs
    obtain ⟨rfl, rfl, rfl⟩ := hcs
    simp only [if_true] at hmm
    subst hmm
    by_cases h0 : len = 0
    · subst h0
      exact ⟨some x, _, [], rfl, Nat.zero_le _, fun i hi => absurd hi (Nat.not_lt_zero _)⟩
    obtain ⟨b, off, rfl⟩ : ∃ b off, x = ⟨b, off, none⟩ := by
      obtain ⟨cs, h1, _⟩ := hel 0 (by omega)
      rw [hc2, Nat.zero_mul] at h1
      exact head_flat (by decide) h1
    have key : ∀ i, i < len → ∃ c : Nat × ByteArray, b < W.heap.size ∧ W.cell? ⟨b, off + i * 2, none⟩ = some (.int .u64 (c.1 : Int)) ∧ W.cell? ⟨b, off + i * 2 + 1, none⟩ = some (.string c.2) ∧ c.1 < 18446744073709551616 ∧ c.2.size ≤ maxLen := by
      intro i hi
      obtain ⟨cs, h1, h2⟩ := hel i (Nat.lt_of_lt_of_le hi hl)
      rw [hc2, add_flat] at h1
      obtain ⟨_, hlen, hcell⟩ := World.cells?_some h1
      obtain ⟨y0, y1, n', hx', hl2, t0, t1⟩ := trod_struct2 Try.underlying33 h2
      match cs, hlen with
      | [c0, c1], _ =>
        simp only [k1, k2, List.drop_zero, List.drop_succ_cons, List.take_succ_cons, List.take_zero] at t0 t1
        obtain ⟨z0, e0, _, w0⟩ := DataW.trod_int Try.underlying23 t0
        obtain ⟨z1, e1, _, w1⟩ := DataW.trod_string Try.underlying9 t1
        simp only [List.cons.injEq, and_true] at e0 e1
        subst e0 e1
        have q0 := hcell 0 (by omega)
        have q1 := hcell 1 (by omega)
        simp only [add_flat, Nat.add_zero, List.getElem?_cons_zero, List.getElem?_cons_succ] at q0 q1
        have w0' : 0 ≤ z0 ∧ z0 < 18446744073709551616 := by simp [Lit.wf, IntKind.min, IntKind.max, IntKind.signed, IntKind.bits] at w0; omega
        obtain ⟨m, rfl⟩ := Int.eq_ofNat_of_zero_le w0'.1
        exact ⟨(m, z1), cell_lt q0, q0, q1, by simp only; omega, w1⟩
    obtain ⟨g, hf'⟩ := choose_lt key
    refine ⟨some ⟨b, off, none⟩, m, (List.range len).map g, by simp, by simp; omega, fun i hi => ?_⟩
    have hi' : i < len := by simpa using hi
    obtain ⟨hlt, q0, q1, q2, q3⟩ := hf' i hi'
    exact ⟨b, off, rfl, hlt, by simpa using q0, by simpa using q1, by simpa using q2, by simpa using q3⟩
/-- heights that were handed out -/
theorem row_at {w : World} {base : Nat} {v : Value} {hs : List Nat} (h : w.ownsRow base 23 1 v hs.length (hcells hs)) : ∃ A cap, v = .slice A hs.length cap ∧ (∀ k, v.ownBlock = some k → base ≤ k) ∧ ∀ j (hj : j < hs.length), ∃ g, A = some ⟨g, 0, none⟩ ∧ g < w.heap.size ∧ w.cell? ⟨g, j, none⟩ = some (.int .u64 (hs[j] : Int)) := by
  obtain ⟨hl, h2⟩ := h
  rcases h2 with ⟨rfl, hx⟩ | ⟨g, cap, cur, rfl, hbg, hb, _, _, _, ht⟩
  · exact ⟨none, 0, by rw [hx], (fun k hk => by cases hk), fun j hj => by omega⟩
  · refine ⟨_, cap, rfl, (fun k hk => by simp [Value.ownBlock] at hk; omega), fun j hj => ⟨g, rfl, Kq.blk_lt hb, ?_⟩⟩
    rw [Kq.blk_cell hb j, ← Array.getElem?_toList]
    have : (cur.toList.take (hs.length * 1))[j]? = some (.int .u64 (hs[j] : Int)) := by rw [ht]; simp [hcells, hj]
    rw [List.getElem?_take, if_pos (by omega)] at this
    exact this
/-- what From tells -/
theorem from_facts {x y : Nat} {ok : Bool} {hs : List Nat} (hsr : hs.Pairwise (· < ·)) (h : fromF x hs = (y, ok)) : (∀ k (hk : k < hs.length), x ≤ hs[k] → ok = true ∧ y ≤ hs[k]) ∧ (ok = true → y ∈ hs ∧ x ≤ y) ∧ (ok = false → y = 0) := by
  unfold fromF at h
  by_cases hp : lowC x hs < hs.length
  · rw [dif_pos hp] at h
    cases h
    refine ⟨fun k hk hxk => ⟨rfl, ?_⟩, fun _ => ⟨List.getElem_mem _, ?_⟩, fun e => by cases e⟩
    · have h1 := low_iff (x := x) hsr k hk
      have hpk : lowC x hs ≤ k := by omega
      rcases Nat.lt_or_eq_of_le hpk with h2 | h2
      · exact Nat.le_of_lt (sorted_at hsr h2 hk)
      · simp [h2]
    · have h1 := low_iff (x := x) hsr _ hp
      omega
  · rw [dif_neg hp] at h
    cases h
    refine ⟨fun k hk hxk => ?_, (fun e => by cases e), fun _ => rfl⟩
    have h1 := low_iff (x := x) hsr k hk
    omega
set_option maxRecDepth 100000 in
set_option maxHeartbeats 1000000 in
theorem awake (w : World) : Calls Try.prog 7 #[] w fun x w' => x = .returned (.bool true) ∧ Below w.heap.size w w' := by
  have hmk := fun w => mk_bytes w 32 32 rfl (by decide)
  have hcv := fun w => cv_zeros 32 w
  have hz : (txt (List.replicate 32 0)).size = 32 := by rw [txt_size]; rfl
  generalize txt (List.replicate 32 0) = R at *
  have HZ := Lib.hid hz
  clear hz
  go_enter Try.func7, Try.ntmps7
  go_wp2_with fail
  refine (cl_new _).mono ?_
  rintro x w1 ⟨rfl, hc, hb⟩
  have H1 := Lib.hid (CliI.made (W := w) (Below.refl _ _) hc hb)
  clear hc hb
  have e1 : setF 9 R [] (fun _ => none) = ([9], updT (fun _ => none) (9 : Nat) R, 0) := by simp [setF, HZ.out, ins]
  have e2 : setF 5 R [9] (updT (fun _ => none) (9 : Nat) R) = ([5, 9], updT (updT (fun _ => none) (9 : Nat) R) (5 : Nat) R, 0) := by simp [setF, HZ.out, ins, updT]
  generalize w.heap.size + 1 = C at *
  obtain ⟨M, hM⟩ : ∃ M, M = w.heap.size := ⟨_, rfl⟩
  rw [← hM] at H1
  go_wp2_with fail
  have hset := cl_set M C M 0 _ [] _ 9 (by decide) R (by rw [HZ.out]; decide) _ (H1.out.below (Kq.below_alloc w1 (.cells (zrow 32) 5))).s (by decide) (by decide)
  rw [e1] at hset
  refine hset.mono ?_
  clear hset
  rintro x w2 ⟨rfl, hd⟩
  obtain ⟨v2, hi2, -⟩ := (H1.out.below (Kq.below_alloc w1 (.cells (zrow 32) 5))).step hd
  have H2 := Lib.hid hi2
  clear hd hi2 H1
  go_wp2_with fail
  have hset := cl_set M C M 1 _ [9] _ 5 (by decide) R (by rw [HZ.out]; decide) _ H2.out.s (by decide) (by decide)
  rw [e2] at hset
  refine hset.mono ?_
  clear hset e1 e2
  rintro x w3 ⟨rfl, hd⟩
  obtain ⟨v3, hi3, -⟩ := H2.out.step hd
  have H3 := Lib.hid hi3
  clear hd hi3 H2
  go_wp2_with fail
  refine (cl_from M C M _ v3 [5, 9] _ 6 _ H3.out.s (by decide)).mono ?_
  rw [show fromF 6 [5, 9] = (9, true) from rfl]
  rintro x w4 ⟨rfl, b4⟩
  have H4 := Lib.hid (H3.out.below b4)
  clear b4 H3
  go_wp2_with fail
  refine (cl_latest M C M _ v3 [5, 9] _ _ H4.out.s (by decide)).mono ?_
  rw [show latF [5, 9] = 9 from rfl]
  rintro x w5 ⟨rfl, b5⟩
  have H5 := Lib.hid (H4.out.below b5)
  clear b5 H4
  go_wp2
  go_ret
  exact ⟨rfl, H5.out.bel⟩
end Go.Proofs.Ytdonoilcegaleaa
