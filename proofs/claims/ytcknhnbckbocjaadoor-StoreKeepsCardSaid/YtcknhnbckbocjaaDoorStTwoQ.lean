/- Two stores of the program's, and two pairs of stores, side by side. No condition. -/
import Derived.WalkSpells
import Derived.Outline
import Derived.Test.YtcknhnbckbocjaaDoorStLawQ
namespace Go.Proofs.YtcknhnbckbocjaaDoor
open Go.RowKit
set_option linter.unusedVariables false
/-- two lists in order with like look-ups are one -/
theorem ext_lk {a b : List PairV} (ha : SortL a) (hb : SortL b) (h : ∀ j, lk a j = lk b j) : a = b :=
  sort_ext a b ha hb (fun x => ⟨fun hx => lk_mem b x.1 x.2 ((h x.1).symm.trans (mem_lk a x.1 x.2 ha hx)), fun hx => lk_mem a x.1 x.2 ((h x.1).trans (mem_lk b x.1 x.2 hb hx))⟩)
theorem ins_back {l : List PairV} (hs : SortL l) {k u : ByteArray} (v : ByteArray) (h : lk l k = some u) : insP (insP l k v) k u = l :=
  ext_lk (sort_ins _ _ _ (sort_ins _ _ _ hs)) hs (fun j => by
    rw [lk_ins, lk_ins]
    by_cases e : j = k
    · rw [if_pos e, e, h]
    · rw [if_neg e, if_neg e])
theorem del_back {l : List PairV} (hs : SortL l) {k : ByteArray} (v : ByteArray) (h : lk l k = none) : delP (insP l k v) k = l :=
  ext_lk (sort_del _ _ (sort_ins _ _ _ hs)) hs (fun j => by
    rw [lk_del _ _ _ (sort_ins _ _ _ hs), lk_ins]
    by_cases e : j = k
    · rw [if_pos e, e, h]
    · rw [if_neg e, if_neg e])
theorem Gr.acts_ {W w : World} {A : Option Addr} {l : List ActV} (h : Gr W w A l) (j : Nat) (hj : j < l.length) : ∃ b off, A = some ⟨b, off, none⟩ ∧ ∀ w', Gr W w' A l → w'.cell? ⟨b, off + j * 3, none⟩ = some (.int .i64 l[j].kd) ∧ w'.cell? ⟨b, off + j * 3 + 1, none⟩ = some (.string l[j].k) ∧ w'.cell? ⟨b, off + j * 3 + 2, none⟩ = some (.string l[j].v) := by
  obtain ⟨b, off, e, h1, _⟩ := h.act j hj
  refine ⟨b, off, e, fun w' h' => ?_⟩
  obtain ⟨b', off', e', h1', h2'⟩ := h'.act j hj
  rw [e] at e'
  injection e' with e'
  injection e' with e1 e2
  subst e1 e2
  exact h2'
theorem setV_zero {s : StV} {k v : ByteArray} (h : (setV s k v).2 = 0) : badKV k v = false ∧ (setV s k v).1 = { s with now := insP s.now k v } := by
  unfold setV at h ⊢
  by_cases h1 : badKV k v = true
  · rw [if_pos h1] at h; exact absurd (show (1 : Int) = 0 from h) (by decide)
  · rw [if_neg h1] at h ⊢
    by_cases h2 : lk s.now k = none ∧ 4096 ≤ s.now.length
    · rw [if_pos h2] at h; exact absurd (show (2 : Int) = 0 from h) (by decide)
    · rw [if_neg h2]; exact ⟨by simpa using h1, rfl⟩
theorem setV_there {s : StV} {k v : ByteArray} (hb : badKV k v = false) (h : lk s.now k ≠ none) : setV s k v = ({ s with now := insP s.now k v }, 0) := by
  unfold setV
  rw [if_neg (by simp [hb]), if_neg (fun h2 => h h2.1)]
theorem delV_there {s : StV} {k : ByteArray} (h : lk s.now k ≠ none) : delV s k = ({ s with now := delP s.now k }, 0) := by
  unfold delV
  rw [if_neg h]
theorem badKV_of {k v u : ByteArray} (h : badKV k v = false) (hu : u.size ≤ 64) : badKV k u = false := by
  have := badKV_no h
  unfold badKV
  simp only [Bool.or_eq_false_iff, decide_eq_false_iff_not]
  omega
/-- all maps of a store have at most N keys -/
def FewN (s : StV) (N : Nat) : Prop := s.now.length ≤ N ∧ ∀ b ∈ s.blks, b.length ≤ N
theorem actV_few {s : StV} (hs : StOk s) {N : Nat} (h : FewN s N) (kd : Int) (k v : ByteArray) : FewN (actV s kd k v) (N + 1) := by
  have h0 := h.1
  have h1 := len_ins s.now k v hs.now.2.1
  have h2 := len_del s.now k
  have h3 : (insP s.now k v).length ≤ N + 1 := by rw [h1]; split <;> omega
  have h4 : (delP s.now k).length ≤ N + 1 := by rw [h2]; split <;> omega
  have h5 : ∀ b ∈ s.blks, b.length ≤ N + 1 := fun b hb => Nat.le_succ_of_le (h.2 b hb)
  have h6 : FewN s (N + 1) := ⟨by omega, h5⟩
  unfold actV setV delV comV
  split
  · split
    · exact h6
    · split
      · exact h6
      · exact ⟨h3, h5⟩
  · split
    · split
      · exact h6
      · exact ⟨h4, h5⟩
    · split
      · split
        · exact h6
        · split
          · exact h6
          · refine ⟨by show s.now.length ≤ N + 1; omega, fun b hb => ?_⟩
            rcases List.mem_append.1 hb with hb | hb
            · exact h5 b hb
            · rw [List.mem_singleton.1 hb]; omega
      · exact h6
theorem actsV_few : ∀ (l : List ActV) (s : StV) (N : Nat), StOk s → FewN s N → FewN (actsV s l) (N + l.length)
  | [], s, N, _, h => h
  | a :: l, s, N, hs, h => by
    have := actsV_few l _ _ (actV_ok hs a.kd a.k a.v) (actV_few hs h a.kd a.k a.v)
    show FewN (actsV (actV s a.kd a.k a.v) l) _
    rw [List.length_cons, show N + (l.length + 1) = N + 1 + l.length by omega]
    exact this
theorem runV_few {f : Nat} (hf : f < 18446744073709551616) (l : List ActV) (j : Nat) : FewN (runV f l j) j := by
  have h := actsV_few (l.take j) _ 0 (newV_ok hf) ⟨Nat.le_refl _, fun b hb => by rw [List.mem_singleton.1 hb]; exact Nat.le_refl _⟩
  have h3 : (l.take j).length ≤ j := List.length_take_le ..
  exact ⟨by have := h.1; unfold runV; omega, fun b hb => by have := h.2 b hb; omega⟩
theorem atV_few {s : StV} {N : Nat} (h : FewN s N) (H : Nat) : (atV s H).1.length ≤ N := by
  rcases atV_cases s H with ⟨_, l, hl, e⟩ | e
  · rw [e]
    rcases List.mem_append.1 hl with hl | hl
    · exact h.2 l hl
    · rw [List.mem_singleton.1 hl]; exact Nat.zero_le _
  · rw [e]; exact Nat.zero_le _
theorem comV_lt {s : StV} (h : StOk s) : (comV s).2.1 < 18446744073709551616 := by
  have h1 := h.top
  have h2 := h.one
  unfold comV
  split
  · exact (by decide : 0 < 18446744073709551616)
  · rename_i h3
    split
    · exact (by decide : 0 < 18446744073709551616)
    · show s.height + 1 < _
      unfold StV.height at h3 ⊢
      omega
/-- two stores of the program's, above a mark -/
def St2 (M : Nat) (w : World) (B1 B2 : Nat) (s t : StV) : Prop := ∃ O1 O2, StP w O1 B1 s ∧ StP w O2 B2 t ∧ (∀ k, O1 k → M ≤ k ∧ k < w.heap.size) ∧ (∀ k, O2 k → M ≤ k ∧ k < w.heap.size) ∧ ∀ k, O1 k → ¬ O2 k
section
variable {M : Nat} {w w' : World} {B1 B2 : Nat} {s t s' : StV}
theorem St2.swap (h : St2 M w B1 B2 s t) : St2 M w B2 B1 t s := by
  obtain ⟨O1, O2, h1, h2, a, b, n⟩ := h
  exact ⟨O2, O1, h2, h1, b, a, fun k hk h => n k h hk⟩
theorem St2.below (h : St2 M w B1 B2 s t) (hb : Below w.heap.size w w') : St2 M w' B1 B2 s t := by
  obtain ⟨O1, O2, h1, h2, a, b, n⟩ := h
  exact ⟨O1, O2, h1.keeps (keepsF (O := O1) hb) (fun _ _ h => h), h2.keeps (keepsF (O := O2) hb) (fun _ _ h => h), fun k hk => ⟨(a k hk).1, Nat.lt_of_lt_of_le (a k hk).2 hb.size⟩, fun k hk => ⟨(b k hk).1, Nat.lt_of_lt_of_le (b k hk).2 hb.size⟩, n⟩
theorem St2.one (h : St2 M w B1 B2 s t) : ∃ O, StP w O B1 s := by
  obtain ⟨O1, O2, h1, _⟩ := h
  exact ⟨O1, h1⟩
theorem s2_step {O1 O2 : Nat → Prop} (h2 : StP w O2 B2 t) (a : ∀ k, O1 k → M ≤ k ∧ k < w.heap.size) (b : ∀ k, O2 k → M ≤ k ∧ k < w.heap.size) (n : ∀ k, O1 k → ¬ O2 k) (hM : M ≤ w.heap.size) {r : Value} {x : Ending} (hs : StepP w O1 B1 r s' x w') : x = .returned r ∧ St2 M w' B1 B2 s' t ∧ Below M w w' := by
  have hz := hs.2.2.size
  refine ⟨hs.1, ⟨_, O2, hs.2.1, h2.keeps hs.2.2 (fun k h2 h1 => n k h1 h2), fun k hk => ?_, fun k hk => ⟨(b k hk).1, Nat.lt_of_lt_of_le (b k hk).2 hz⟩, fun k hk h2 => ?_⟩, hs.2.2.below hM (fun k _ hk => (a k hk).1)⟩
  · rcases hk with hk | hk
    · exact ⟨(a k hk).1, Nat.lt_of_lt_of_le (a k hk).2 hz⟩
    · exact ⟨Nat.le_trans hM hk.1, hk.2⟩
  · rcases hk with hk | hk
    · exact n k hk h2
    · have := b k h2; omega
theorem s2_set (h : St2 M w B1 B2 s t) (hM : M ≤ w.heap.size) (hs : StOk s) (k v : ByteArray) (hk : k.size ≤ 300) (hv : v.size ≤ 300) : Calls Tryd.prog 27 #[.pointer (some ⟨B1, 0, none⟩), .string k, .string v] w fun x w' => x = .returned (.int .i64 (setV s k v).2) ∧ St2 M w' B1 B2 (setV s k v).1 t ∧ Below M w w' := by
  obtain ⟨O1, O2, h1, h2, a, b, n⟩ := h
  exact (st_set w O1 B1 s k v hk hv h1 hs).mono (fun x w' hx => s2_step h2 a b n hM hx)
theorem s2_del (h : St2 M w B1 B2 s t) (hM : M ≤ w.heap.size) (hs : StOk s) (k : ByteArray) (hk : k.size ≤ 300) : Calls Tryd.prog 28 #[.pointer (some ⟨B1, 0, none⟩), .string k] w fun x w' => x = .returned (.int .i64 (delV s k).2) ∧ St2 M w' B1 B2 (delV s k).1 t ∧ Below M w w' := by
  obtain ⟨O1, O2, h1, h2, a, b, n⟩ := h
  exact (st_del w O1 B1 s k hk h1 hs).mono (fun x w' hx => s2_step h2 a b n hM hx)
theorem s2_com (h : St2 M w B1 B2 s t) (hM : M ≤ w.heap.size) (hs : StOk s) : Calls Tryd.prog 29 #[.pointer (some ⟨B1, 0, none⟩)] w fun x w' => x = .returned (comR s) ∧ St2 M w' B1 B2 (comV s).1 t ∧ Below M w w' := by
  obtain ⟨O1, O2, h1, h2, a, b, n⟩ := h
  exact (st_com w O1 B1 s h1 hs).mono (fun x w' hx => s2_step h2 a b n hM hx)
theorem s2_get (h : St2 M w B1 B2 s t) (k : ByteArray) (hk : k.size ≤ maxLen) : Calls Tryd.prog 17 #[.pointer (some ⟨B1, 0, none⟩), .string k] w fun x w' => x = .returned (.tuple #[.string ((lk s.now k).getD ⟨#[]⟩), .bool (lk s.now k).isSome]) ∧ w' = w := by
  obtain ⟨O, h1⟩ := h.one
  exact st_get w O B1 s k hk h1
theorem s2_len (h : St2 M w B1 B2 s t) : Calls Tryd.prog 15 #[.pointer (some ⟨B1, 0, none⟩)] w fun x w' => x = .returned (.int .i64 (s.now.length : Int)) ∧ w' = w := by
  obtain ⟨O, h1⟩ := h.one
  exact st_len w O B1 s h1
theorem s2_root (h : St2 M w B1 B2 s t) (hs : StOk s) (H : Nat) (hH : H < 18446744073709551616) (hL : LaidOk w) : Calls Tryd.prog 22 #[.pointer (some ⟨B1, 0, none⟩), .int .u64 (H : Int)] w fun x w' => x = .returned (.tuple #[.string (rootV s H).1, .int .i64 (rootV s H).2]) ∧ St2 M w' B1 B2 s t ∧ Below w.heap.size w w' := by
  have h0 := h
  obtain ⟨O, h1⟩ := h.one
  exact (st_root w O B1 s H hH h1 hs hL).mono (fun x w' hx => ⟨hx.1, h0.below hx.2, hx.2⟩)
theorem s2_at (h : St2 M w B1 B2 s t) (hs : StOk s) (H : Nat) (hH : H < 18446744073709551616) : Calls Tryd.prog 19 #[.pointer (some ⟨B1, 0, none⟩), .int .u64 (H : Int)] w fun x w' => AtP w s H x w' ∧ St2 M w' B1 B2 s t ∧ Below w.heap.size w w' := by
  have h0 := h
  obtain ⟨O, h1⟩ := h.one
  exact (st_at w O B1 s H hH h1 hs).mono (fun x w' hx => ⟨hx, h0.below hx.choose_spec.2.2, hx.choose_spec.2.2⟩)
/-- a store made beside another one -/
theorem St2.made {w1 w2 : World} {O : Nat → Prop} (h1 : StP w1 O B1 s) (a : ∀ k, O k → M ≤ k ∧ k < w1.heap.size) (hM : M ≤ w1.heap.size) (hb : Below w1.heap.size w1 w2) (h2 : StP w2 (fun k => w1.heap.size ≤ k ∧ k < w2.heap.size) B2 t) : St2 M w2 B1 B2 s t :=
  ⟨O, _, h1.keeps (keepsF (O := O) hb) (fun _ _ h => h), h2, fun k hk => ⟨(a k hk).1, Nat.lt_of_lt_of_le (a k hk).2 hb.size⟩, fun k hk => ⟨Nat.le_trans hM hk.1, hk.2⟩, fun k hk h => (by have := a k hk; omega)⟩
end
/-- two pairs, each at one value -/
def Quad (M : Nat) (w : World) (B1 B2 C1 C2 : Nat) (s t : StV) : Prop := ∃ O1 O2 P1 P2, StP w O1 B1 s ∧ RefP w O2 B2 s ∧ StP w P1 C1 t ∧ RefP w P2 C2 t ∧
  Two (fun k => k < M ∨ P1 k ∨ P2 k) w O1 O2 ∧ Two (fun k => k < M ∨ O1 k ∨ O2 k) w P1 P2
section
variable {M : Nat} {w w' : World} {B1 B2 C1 C2 : Nat} {s t s' : StV}
theorem Quad.swap (h : Quad M w B1 B2 C1 C2 s t) : Quad M w C1 C2 B1 B2 t s := by
  obtain ⟨O1, O2, P1, P2, h1, h2, h3, h4, a, b⟩ := h
  exact ⟨P1, P2, O1, O2, h3, h4, h1, h2, b, a⟩
theorem Quad.below (h : Quad M w B1 B2 C1 C2 s t) (hb : Below w.heap.size w w') : Quad M w' B1 B2 C1 C2 s t := by
  obtain ⟨O1, O2, P1, P2, h1, h2, h3, h4, a, b⟩ := h
  have hz := hb.size
  exact ⟨O1, O2, P1, P2, h1.keeps (keepsF (O := O1) hb) (fun _ _ h => h), h2.below hb, h3.keeps (keepsF (O := P1) hb) (fun _ _ h => h), h4.below hb,
    ⟨fun k hk => ⟨(a.a k hk).1, Nat.lt_of_lt_of_le (a.a k hk).2 hz⟩, fun k hk => ⟨(a.b k hk).1, Nat.lt_of_lt_of_le (a.b k hk).2 hz⟩, a.ne⟩,
    ⟨fun k hk => ⟨(b.a k hk).1, Nat.lt_of_lt_of_le (b.a k hk).2 hz⟩, fun k hk => ⟨(b.b k hk).1, Nat.lt_of_lt_of_le (b.b k hk).2 hz⟩, b.ne⟩⟩
theorem Quad.st2 (h : Quad M w B1 B2 C1 C2 s t) : St2 M w B1 C1 s t := by
  obtain ⟨O1, O2, P1, P2, h1, h2, h3, h4, a, b⟩ := h
  exact ⟨O1, P1, h1, h3, fun k hk => ⟨Nat.le_of_not_lt (fun h => (a.a k hk).1 (Or.inl h)), (a.a k hk).2⟩, fun k hk => ⟨Nat.le_of_not_lt (fun h => (b.a k hk).1 (Or.inl h)), (b.a k hk).2⟩, fun k hk h => (a.a k hk).1 (Or.inr (Or.inl h))⟩
/-- an act, on the first pair -/
theorem qd_do (h : Quad M w B1 B2 C1 C2 s t) (hM : M ≤ w.heap.size) (hs : StOk s) (a : ActV) (hk : a.k.size ≤ 300) (hv : a.v.size ≤ 300) :
    Calls Tryd.prog 12 #[.pointer (some ⟨B1, 0, none⟩), .pointer (some ⟨B2, 0, none⟩), .agg #[.int .i64 a.kd, .string a.k, .string a.v]] w fun x w' => x = .returned (.bool true) ∧ Quad M w' B1 B2 C1 C2 (actV s a.kd a.k a.v) t ∧ Below M w w' := by
  obtain ⟨O1, O2, P1, P2, h1, h2, h3, h4, g1, g2⟩ := h
  have hF : FrW (fun k => k < M ∨ P1 k ∨ P2 k) w := fun k hk => by
    rcases hk with hk | hk | hk
    · omega
    · exact (g2.a k hk).2
    · exact (g2.b k hk).2
  refine (st_do _ w B1 B2 s ⟨O1, O2, h1, h2, g1⟩ hF hs a.kd a.k a.v hk hv).mono ?_
  rintro x w' ⟨rfl, ⟨Q1, Q2, q1, q2, q3⟩, hfb⟩
  have hz := hfb.sz
  refine ⟨rfl, ⟨Q1, Q2, P1, P2, q1, q2, h3.keeps hfb (fun k hp hn => hn (Or.inr (Or.inl hp))), h4.keeps hfb (fun k hp hn => hn (Or.inr (Or.inr hp))), q3, ⟨fun k hk => ⟨fun h => ?_, Nat.lt_of_lt_of_le (g2.a k hk).2 hz⟩, fun k hk => ⟨fun h => ?_, Nat.lt_of_lt_of_le (g2.b k hk).2 hz⟩, g2.ne⟩⟩, Kq.Keeps.below hfb hM (fun k _ h => Nat.le_of_not_lt (fun hl => h (Or.inl hl)))⟩
  · rcases h with h | h | h
    · exact (g2.a k hk).1 (Or.inl h)
    · exact (q3.a k h).1 (Or.inr (Or.inl hk))
    · exact (q3.b k h).1 (Or.inr (Or.inl hk))
  · rcases h with h | h | h
    · exact (g2.b k hk).1 (Or.inl h)
    · exact (q3.a k h).1 (Or.inr (Or.inr hk))
    · exact (q3.b k h).1 (Or.inr (Or.inr hk))
/-- the documents' stores made beside both of the program's -/
theorem Quad.made {w1 w2 w3 : World} (h : St2 M w1 B1 C1 s t) (hM : M ≤ w1.heap.size) (h2 : RefP w2 (fun k => w1.heap.size ≤ k ∧ k < w2.heap.size) B2 s) (b2 : Below w1.heap.size w1 w2) (h3 : RefP w3 (fun k => w2.heap.size ≤ k ∧ k < w3.heap.size) C2 t) (b3 : Below w2.heap.size w2 w3) : Quad M w3 B1 B2 C1 C2 s t := by
  obtain ⟨O1, P1, a1, a2, a, b, n⟩ := h
  have z2 := b2.size
  have z3 := b3.size
  refine ⟨O1, _, P1, _, (a1.keeps (keepsF (O := O1) b2) (fun _ _ h => h)).keeps (keepsF (O := O1) b3) (fun _ _ h => h), h2.below b3, (a2.keeps (keepsF (O := P1) b2) (fun _ _ h => h)).keeps (keepsF (O := P1) b3) (fun _ _ h => h), h3, ⟨fun k hk => ⟨fun h => ?_, ?_⟩, fun k hk => ⟨fun h => ?_, ?_⟩, fun k hk h => ?_⟩, ⟨fun k hk => ⟨fun h => ?_, ?_⟩, fun k hk => ⟨fun h => ?_, ?_⟩, fun k hk h => ?_⟩⟩
  · have := a k hk
    rcases h with h | h | h
    · omega
    · exact n k hk h
    · omega
  · have := a k hk; omega
  · rcases h with h | h | h
    · omega
    · have := b k h; omega
    · omega
  · omega
  · have := a k hk; omega
  · have := b k hk
    rcases h with h | h | h
    · omega
    · exact n k h hk
    · omega
  · have := b k hk; omega
  · rcases h with h | h | h
    · omega
    · have := a k h; omega
    · omega
  · omega
  · have := b k hk; omega
end
end Go.Proofs.YtcknhnbckbocjaaDoor
