/- What the acts make of a store, one by one; the laws' common ground. No condition. -/
import Derived.Test.YtcknhnbckbocjaaDoorStStartQ
import Derived.Test.YtcknhnbckbocjaaDoorStActsQ
namespace Go.Proofs.YtcknhnbckbocjaaDoor
open Go.RowKit
set_option linter.unusedVariables false
theorem u64_natS {g : Int} (hg : (Lit.int .u64 g).wf = true) : ∃ n : Nat, g = (n : Int) ∧ n < 18446744073709551616 := by
  simp [Lit.wf, IntKind.min, IntKind.max, IntKind.signed, IntKind.bits] at hg
  exact ⟨g.toNat, by omega, by omega⟩
/-- a new store behind the first j acts -/
def runV (f : Nat) (l : List ActV) (j : Nat) : StV := actsV (newV f) (l.take j)
theorem runV_zero (f : Nat) (l : List ActV) : runV f l 0 = newV f := rfl
theorem runV_succ (f : Nat) (l : List ActV) (j : Nat) (h : j < l.length) : runV f l (j + 1) = actV (runV f l j) l[j].kd l[j].k l[j].v := by
  unfold runV
  rw [List.take_succ_eq_append_getElem h, actsV_snoc]
theorem runV_ok {f : Nat} (hf : f < 18446744073709551616) (l : List ActV) (j : Nat) : StOk (runV f l j) := actsV_ok _ _ (newV_ok hf)
theorem actsV_first : ∀ (l : List ActV) (s : StV), (actsV s l).first = s.first
  | [], s => rfl
  | a :: l, s => (actsV_first l _).trans (actV_first s _ _ _)
theorem runV_first (f : Nat) (l : List ActV) (j : Nat) : (runV f l j).first = f := actsV_first _ _
theorem actsV_grow : ∀ (l : List ActV) (s : StV), StOk s → (actsV s l).now.length ≤ s.now.length + l.length ∧ (actsV s l).blks.length ≤ s.blks.length + l.length ∧ s.blks.length ≤ (actsV s l).blks.length
  | [], s, h => ⟨Nat.le_refl _, Nat.le_refl _, Nat.le_refl _⟩
  | a :: l, s, h => by
    have h1 := actsV_grow l _ (actV_ok h a.kd a.k a.v)
    have h2 := actV_grow h a.kd a.k a.v
    show (actsV (actV s a.kd a.k a.v) l).now.length ≤ _ ∧ (actsV (actV s a.kd a.k a.v) l).blks.length ≤ _ ∧ _ ≤ (actsV (actV s a.kd a.k a.v) l).blks.length
    rw [List.length_cons]
    omega
theorem runV_grow {f : Nat} (hf : f < 18446744073709551616) (l : List ActV) (j : Nat) : (runV f l j).now.length ≤ j ∧ (runV f l j).blks.length ≤ j + 1 ∧ 1 ≤ (runV f l j).blks.length := by
  have h := actsV_grow (l.take j) _ (newV_ok hf)
  have h1 : (newV f).now.length = 0 := rfl
  have h2 : (newV f).blks.length = 1 := rfl
  have h3 : (l.take j).length ≤ j := List.length_take_le ..
  unfold runV
  omega
theorem StV.height_of {s : StV} {f b : Nat} (h1 : s.first = f) (h2 : s.blks.length = b + 1) : s.height = f + b := by
  unfold StV.height
  rw [h1, h2]; rfl
/-- the law's ground: the constants lie where they lie, the acts are there, nothing older changed -/
structure Gr (W w : World) (A : Option Addr) (l : List ActV) : Prop where
  laid : LaidOk W
  acts : AcE.Lo W W.heap.size A l
  bel : Below W.heap.size W w
section
variable {W w w' : World} {A : Option Addr} {l : List ActV}
theorem Gr.step {M : Nat} (h : Gr W w A l) (hb : Below M w w') (hM : W.heap.size ≤ M) : Gr W w' A l := ⟨h.laid, h.acts, h.bel.trans (hb.mono hM)⟩
theorem Gr.far (h : Gr W w A l) (hb : Below w.heap.size w w') : Gr W w' A l := h.step hb h.bel.size
theorem Gr.near (h : Gr W w A l) (hb : Below W.heap.size w w') : Gr W w' A l := h.step hb (Nat.le_refl _)
theorem Gr.at (h : Gr W w A l) : AcE.At w A l := (h.acts.below h.bel).at
theorem Gr.ok (h : Gr W w A l) : LaidOk w := h.laid.later h.bel
theorem Gr.size (h : Gr W w A l) : W.heap.size ≤ w.heap.size := h.bel.size
theorem Gr.act (h : Gr W w A l) (j : Nat) (hj : j < l.length) : ∃ b off, A = some ⟨b, off, none⟩ ∧ b < W.heap.size ∧ w.cell? ⟨b, off + j * 3, none⟩ = some (.int .i64 l[j].kd) ∧ w.cell? ⟨b, off + j * 3 + 1, none⟩ = some (.string l[j].k) ∧ w.cell? ⟨b, off + j * 3 + 2, none⟩ = some (.string l[j].v) := by
  obtain ⟨b, off, e, h1, h2, h3⟩ := h.acts.below h.bel j hj
  exact ⟨b, off, e, h1, h3 0 (by decide), h3 1 (by decide), h3 2 (by decide)⟩
end
/-- the program's store beside the document's, both at one value -/
def Both (W w : World) (B1 B2 : Nat) (s : StV) : Prop := Duo (· < W.heap.size) w B1 B2 s s
section
variable {W w w' : World} {A : Option Addr} {l : List ActV} {B1 B2 : Nat} {s : StV}
theorem Both.below (h : Both W w B1 B2 s) (hb : Below w.heap.size w w') : Both W w' B1 B2 s := Duo.below h hb
theorem Both.one (h : Both W w B1 B2 s) : ∃ O, StP w O B1 s ∧ ∀ k, O k → W.heap.size ≤ k ∧ k < w.heap.size := by
  obtain ⟨O1, O2, h1, h2, ht⟩ := h
  exact ⟨O1, h1, fun k hk => ⟨Nat.le_of_not_lt (ht.a k hk).1, (ht.a k hk).2⟩⟩
theorem Both.two (h : Both W w B1 B2 s) : ∃ O, RefP w O B2 s ∧ ∀ k, O k → W.heap.size ≤ k ∧ k < w.heap.size := by
  obtain ⟨O1, O2, h1, h2, ht⟩ := h
  exact ⟨O2, h2, fun k hk => ⟨Nat.le_of_not_lt (ht.b k hk).1, (ht.b k hk).2⟩⟩
theorem bo_height (h : Both W w B1 B2 s) : Calls Tryd.prog 13 #[.pointer (some ⟨B1, 0, none⟩)] w fun x w' => x = .returned (.int .u64 (s.height : Int)) ∧ w' = w := by
  obtain ⟨O, h1, _⟩ := h.one
  exact st_height w O B1 s h1
theorem bo_blocks (h : Both W w B1 B2 s) : Calls Tryd.prog 16 #[.pointer (some ⟨B1, 0, none⟩)] w fun x w' => x = .returned (.int .i64 (s.blks.length : Int)) ∧ w' = w := by
  obtain ⟨O, h1, _⟩ := h.one
  exact st_blocks w O B1 s h1
theorem bo_len (h : Both W w B1 B2 s) : Calls Tryd.prog 15 #[.pointer (some ⟨B1, 0, none⟩)] w fun x w' => x = .returned (.int .i64 (s.now.length : Int)) ∧ w' = w := by
  obtain ⟨O, h1, _⟩ := h.one
  exact st_len w O B1 s h1
theorem bo_get (h : Both W w B1 B2 s) (k : ByteArray) (hk : k.size ≤ maxLen) : Calls Tryd.prog 17 #[.pointer (some ⟨B1, 0, none⟩), .string k] w fun x w' => x = .returned (.tuple #[.string ((lk s.now k).getD ⟨#[]⟩), .bool (lk s.now k).isSome]) ∧ w' = w := by
  obtain ⟨O, h1, _⟩ := h.one
  exact st_get w O B1 s k hk h1
theorem bo_at (h : Both W w B1 B2 s) (hs : StOk s) (H : Nat) (hH : H < 18446744073709551616) : Calls Tryd.prog 19 #[.pointer (some ⟨B1, 0, none⟩), .int .u64 (H : Int)] w (AtP w s H) := by
  obtain ⟨O, h1, _⟩ := h.one
  exact st_at w O B1 s H hH h1 hs
theorem bo_root (h : Both W w B1 B2 s) (hs : StOk s) (H : Nat) (hH : H < 18446744073709551616) (hL : LaidOk w) : Calls Tryd.prog 22 #[.pointer (some ⟨B1, 0, none⟩), .int .u64 (H : Int)] w fun x w' => x = .returned (.tuple #[.string (rootV s H).1, .int .i64 (rootV s H).2]) ∧ Below w.heap.size w w' := by
  obtain ⟨O, h1, _⟩ := h.one
  exact st_root w O B1 s H hH h1 hs hL
/-- an act, on both -/
theorem bo_do (h : Both W w B1 B2 s) (hW : W.heap.size ≤ w.heap.size) (hs : StOk s) (a : ActV) (hk : a.k.size ≤ 300) (hv : a.v.size ≤ 300) :
    Calls Tryd.prog 12 #[.pointer (some ⟨B1, 0, none⟩), .pointer (some ⟨B2, 0, none⟩), .agg #[.int .i64 a.kd, .string a.k, .string a.v]] w fun x w' => x = .returned (.bool true) ∧ Both W w' B1 B2 (actV s a.kd a.k a.v) ∧ Below W.heap.size w w' :=
  (st_do _ w B1 B2 s h (fun k h => Nat.lt_of_lt_of_le h hW) hs a.kd a.k a.v hk hv).mono (fun x w' hx => ⟨hx.1, hx.2.1, Kq.Keeps.below hx.2.2 hW (fun k _ h => Nat.le_of_not_lt h)⟩)
end
theorem Both.drewN {W w : World} {B1 B2 : Nat} {s : StV} (h : Both W w B1 B2 s) (n : Nat) : Both W (w.drewN n) B1 B2 s := h.below (below_drewN (Below.refl _ _) _)
theorem Gr.drewN {W w : World} {A : Option Addr} {l : List ActV} (h : Gr W w A l) (n : Nat) : Gr W (w.drewN n) A l := h.far (below_drewN (Below.refl _ _) _)
theorem bo_height_q {W w : World} {B1 B2 : Nat} {s : StV} (h : Both W w B1 B2 s) (n : Nat) : Calls Tryd.prog 13 #[.pointer (some ⟨B1, 0, none⟩)] (w.drewN n) fun x w' => x = .returned (.int .u64 (s.height : Int)) ∧ ∃ m, w' = w.drewN m := Calls.quiet_of ((bo_height (h.drewN n)).mono fun _ _ hp => ⟨hp.1, 0, hp.2⟩)
theorem bo_blocks_q {W w : World} {B1 B2 : Nat} {s : StV} (h : Both W w B1 B2 s) (n : Nat) : Calls Tryd.prog 16 #[.pointer (some ⟨B1, 0, none⟩)] (w.drewN n) fun x w' => x = .returned (.int .i64 (s.blks.length : Int)) ∧ ∃ m, w' = w.drewN m := Calls.quiet_of ((bo_blocks (h.drewN n)).mono fun _ _ hp => ⟨hp.1, 0, hp.2⟩)
theorem bo_len_q {W w : World} {B1 B2 : Nat} {s : StV} (h : Both W w B1 B2 s) (n : Nat) : Calls Tryd.prog 15 #[.pointer (some ⟨B1, 0, none⟩)] (w.drewN n) fun x w' => x = .returned (.int .i64 (s.now.length : Int)) ∧ ∃ m, w' = w.drewN m := Calls.quiet_of ((bo_len (h.drewN n)).mono fun _ _ hp => ⟨hp.1, 0, hp.2⟩)
theorem rootP_size (l : List PairV) : (rootP l).size = 32 := dgT_size _
end Go.Proofs.YtcknhnbckbocjaaDoor
