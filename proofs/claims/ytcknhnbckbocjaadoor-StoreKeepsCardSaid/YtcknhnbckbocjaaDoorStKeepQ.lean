/- Maps and roots that were told, kept in slices of the law's own. No condition. -/
import Derived.WalkSpells
import Derived.Outline
import Derived.Test.YtcknhnbckbocjaaDoorStBigQ
namespace Go.Proofs.YtcknhnbckbocjaaDoor
open Go.RowKit
set_option linter.unusedVariables false
theorem smallP_chk {l : List PairV} (h : smallP l) : chkE l = 0 := by
  obtain ⟨_, h2, h3⟩ := h
  refine chk_ok (fun i hi => ?_) (fun i hi => List.pairwise_iff_getElem.1 h2 i (i + 1) (by omega) hi (by omega))
  have := h3 _ (List.getElem_mem hi)
  unfold badB
  exact decide_eq_false (by omega)
theorem actV_pre (s : StV) (kd : Int) (k v : ByteArray) : ∃ t, (actV s kd k v).blks = s.blks ++ t := by
  unfold actV setV delV comV
  split
  · split
    · exact ⟨[], by simp⟩
    · split
      · exact ⟨[], by simp⟩
      · exact ⟨[], by simp⟩
  · split
    · split
      · exact ⟨[], by simp⟩
      · exact ⟨[], by simp⟩
    · split
      · split
        · exact ⟨[], by simp⟩
        · split
          · exact ⟨[], by simp⟩
          · exact ⟨_, rfl⟩
      · exact ⟨[], by simp⟩
theorem actsV_pre : ∀ (l : List ActV) (s : StV), ∃ t, (actsV s l).blks = s.blks ++ t
  | [], s => ⟨[], by simp [actsV]⟩
  | a :: l, s => by
    obtain ⟨t1, h1⟩ := actV_pre s a.kd a.k a.v
    obtain ⟨t2, h2⟩ := actsV_pre l (actV s a.kd a.k a.v)
    exact ⟨t1 ++ t2, by show (actsV (actV s a.kd a.k a.v) l).blks = _; rw [h2, h1, List.append_assoc]⟩
/-- what a block told it tells for ever -/
theorem acts_at (l : List ActV) {s : StV} (hs : StOk s) {H : Nat} (h1 : s.first ≤ H) (h2 : H ≤ s.height) : atV (actsV s l) H = atV s H := by
  obtain ⟨t, ht⟩ := actsV_pre l s
  have hf := actsV_first l s
  have h3 := hs.one
  have hh : s.height ≤ (actsV s l).height := by
    unfold StV.height; rw [hf, ht, List.length_append]; omega
  unfold atV
  rw [if_pos ⟨by rw [hf]; exact h1, Nat.le_trans h2 hh⟩, if_pos ⟨h1, h2⟩, hf, ht]
  congr 1
  rw [List.getD_eq_getElem?_getD, List.getD_eq_getElem?_getD, List.getElem?_append_left (by unfold StV.height at h2; omega)]
theorem acts_root (l : List ActV) {s : StV} (hs : StOk s) {H : Nat} (h1 : s.first ≤ H) (h2 : H ≤ s.height) : rootV (actsV s l) H = rootV s H := by
  unfold rootV
  rw [acts_at l hs h1 h2]
theorem at_good {s : StV} {H : Nat} (h1 : s.first ≤ H) (h2 : H ≤ s.height) : (atV s H).2 = 0 := by unfold atV; rw [if_pos ⟨h1, h2⟩]
theorem root_good {s : StV} {H : Nat} (h1 : s.first ≤ H) (h2 : H ≤ s.height) : rootV s H = (rootP (atV s H).1, 0) := by unfold rootV; rw [if_pos (at_good h1 h2)]
section
variable {F : Nat → Prop} {w w' : World} {B1 B2 : Nat} {s : StV}
theorem df_height (h : Duo F w B1 B2 s s) : Calls Tryd.prog 13 #[.pointer (some ⟨B1, 0, none⟩)] w fun x w' => x = .returned (.int .u64 (s.height : Int)) ∧ w' = w := by
  obtain ⟨O1, O2, h1, _⟩ := h
  exact st_height w O1 B1 s h1
theorem df_blocks (h : Duo F w B1 B2 s s) : Calls Tryd.prog 16 #[.pointer (some ⟨B1, 0, none⟩)] w fun x w' => x = .returned (.int .i64 (s.blks.length : Int)) ∧ w' = w := by
  obtain ⟨O1, O2, h1, _⟩ := h
  exact st_blocks w O1 B1 s h1
theorem df_at (h : Duo F w B1 B2 s s) (hs : StOk s) (H : Nat) (hH : H < 18446744073709551616) : Calls Tryd.prog 19 #[.pointer (some ⟨B1, 0, none⟩), .int .u64 (H : Int)] w (AtP w s H) := by
  obtain ⟨O1, O2, h1, _⟩ := h
  exact st_at w O1 B1 s H hH h1 hs
theorem df_root (h : Duo F w B1 B2 s s) (hs : StOk s) (H : Nat) (hH : H < 18446744073709551616) (hL : LaidOk w) : Calls Tryd.prog 22 #[.pointer (some ⟨B1, 0, none⟩), .int .u64 (H : Int)] w fun x w' => x = .returned (.tuple #[.string (rootV s H).1, .int .i64 (rootV s H).2]) ∧ Below w.heap.size w w' := by
  obtain ⟨O1, O2, h1, _⟩ := h
  exact st_root w O1 B1 s H hH h1 hs hL
theorem Duo.wide {F' : Nat → Prop} (h : Duo F w B1 B2 s s) (hb : Below w.heap.size w w') (hF : ∀ k, F' k → F k ∨ w.heap.size ≤ k) : Duo F' w' B1 B2 s s := by
  obtain ⟨O1, O2, h1, h2, a⟩ := h
  refine ⟨O1, O2, h1.keeps (keepsF (O := O1) hb) (fun _ _ h => h), h2.below hb, ⟨fun k hk => ⟨fun hf => ?_, Nat.lt_of_lt_of_le (a.a k hk).2 hb.size⟩, fun k hk => ⟨fun hf => ?_, Nat.lt_of_lt_of_le (a.b k hk).2 hb.size⟩, a.ne⟩⟩
  · rcases hF k hf with h | h
    · exact (a.a k hk).1 h
    · have := (a.a k hk).2; omega
  · rcases hF k hf with h | h
    · exact (a.b k hk).1 h
    · have := (a.b k hk).2; omega
end
/-- slices as elements; texts as elements -/
def SlE : Kq.Elt (Option Addr × Nat × Nat) := ⟨1, fun x => [.slice x.1 x.2.1 x.2.2], fun _ => rfl, fun x u hu => by rw [List.mem_singleton.1 hu]; rfl, by decide⟩
def SrE : Kq.Elt ByteArray := ⟨1, fun x => [.string x], fun _ => rfl, fun x u hu => by rw [List.mem_singleton.1 hu]; rfl, by decide⟩
/-- a list that was told, beside both slices -/
structure EnX (S1 : Nat) (w : World) (L : List PairV) (x : Option Addr × Nat × Nat) (vw vr : Value) : Prop where
  len : x.2.1 = L.length
  cap : L.length ≤ x.2.2
  at_ : PsAt w x.1 L
  blk : ∀ b off, x.1 = some ⟨b, off, none⟩ → S1 ≤ b ∧ b < w.heap.size ∧ vw.ownBlock ≠ some b ∧ vr.ownBlock ≠ some b
section
variable {S1 : Nat} {w w' : World} {L : List PairV} {x : Option Addr × Nat × Nat} {vw vr vw' vr' : Value}
theorem EnX.below (h : EnX S1 w L x vw vr) (hb : Below w.heap.size w w') : EnX S1 w' L x vw vr :=
  ⟨h.len, h.cap, h.at_.below hb, fun b off e => ⟨(h.blk b off e).1, Nat.lt_of_lt_of_le (h.blk b off e).2.1 hb.size, (h.blk b off e).2.2⟩⟩
theorem EnX.growW (h : EnX S1 w L x vw vr) (hg : w.grownBy w' vw.ownBlock) (hf : ∀ k, vw'.ownBlock = some k → some k = vw.ownBlock ∨ w.heap.size ≤ k) : EnX S1 w' L x vw' vr :=
  ⟨h.len, h.cap, psAt_keeps h.at_ (Kq.Keeps.grown (S := fun k => vw.ownBlock = some k) hg (fun k _ h => h)) (fun b off e => (h.blk b off e).2.2.1), fun b off e => ⟨(h.blk b off e).1, Nat.lt_of_lt_of_le (h.blk b off e).2.1 hg.size, fun e2 => by
    rcases hf b e2 with h1 | h1
    · exact (h.blk b off e).2.2.1 h1.symm
    · have := (h.blk b off e).2.1; omega, (h.blk b off e).2.2.2⟩⟩
theorem EnX.growR (h : EnX S1 w L x vw vr) (hg : w.grownBy w' vr.ownBlock) (hf : ∀ k, vr'.ownBlock = some k → some k = vr.ownBlock ∨ w.heap.size ≤ k) : EnX S1 w' L x vw vr' :=
  ⟨h.len, h.cap, psAt_keeps h.at_ (Kq.Keeps.grown (S := fun k => vr.ownBlock = some k) hg (fun k _ h => h)) (fun b off e => (h.blk b off e).2.2.2), fun b off e => ⟨(h.blk b off e).1, Nat.lt_of_lt_of_le (h.blk b off e).2.1 hg.size, (h.blk b off e).2.2.1, fun e2 => by
    rcases hf b e2 with h1 | h1
    · exact (h.blk b off e).2.2.2 h1.symm
    · have := (h.blk b off e).2.1; omega⟩⟩
end
/-- rows of unlike elements lie in unlike blocks -/
theorem own_ne {w : World} {b1 b2 s1 s2 n1 n2 : Nat} {e1 e2 : TypeId} {v1 v2 : Value} {xs1 xs2 : List Value} (h1 : w.ownsRow b1 e1 s1 v1 n1 xs1) (h2 : w.ownsRow b2 e2 s2 v2 n2 xs2) (hne : e1 ≠ e2) (k : Nat) (hk : v1.ownBlock = some k) : v2.ownBlock ≠ some k := fun hk2 => by
  rcases h1.2 with ⟨e, _⟩ | ⟨g, c, cur, e, _, hb, _⟩
  · rw [e] at hk; cases hk
  · rcases h2.2 with ⟨e', _⟩ | ⟨g', c', cur', e', _, hb', _⟩
    · rw [e'] at hk2; cases hk2
    · rw [e] at hk
      rw [e'] at hk2
      have q1 : g = k := Option.some.inj hk
      have q2 : g' = k := Option.some.inj hk2
      rw [q1] at hb
      rw [q2, hb] at hb'
      injection hb' with hb'
      injection hb' with h3 h4
      exact hne h4
theorem own_ltK {w : World} {b1 s1 n1 : Nat} {e1 : TypeId} {v1 : Value} {xs1 : List Value} (h1 : w.ownsRow b1 e1 s1 v1 n1 xs1) {k : Nat} (hk : v1.ownBlock = some k) : k < w.heap.size := by
  rcases h1.2 with ⟨e, _⟩ | ⟨g, c, cur, e, _, hb, _⟩
  · rw [e] at hk; cases hk
  · rw [e] at hk
    have q1 : g = k := Option.some.inj hk
    rw [← q1]; exact Kq.blk_lt hb
structure KI (S1 : Nat) (w : World) (L : Nat → List PairV) (R : Nat → ByteArray) (es : List (Option Addr × Nat × Nat)) (rs : List ByteArray) (vw vr : Value) : Prop where
  rw_ : w.ownsRow S1 35 1 vw es.length (SlE.flat es)
  rr : w.ownsRow S1 9 1 vr rs.length (SrE.flat rs)
  en : ∀ i (h : i < es.length), EnX S1 w (L i) es[i] vw vr
  rs_ : ∀ i (h : i < rs.length), rs[i] = R i
section
variable {S1 : Nat} {w w' : World} {L : Nat → List PairV} {R : Nat → ByteArray} {es : List (Option Addr × Nat × Nat)} {rs : List ByteArray} {vw vr vw' vr' : Value} {x : Option Addr × Nat × Nat} {r : ByteArray}
theorem KI.nil (S1 : Nat) (w : World) (L : Nat → List PairV) (R : Nat → ByteArray) : KI S1 w L R [] [] (.slice none 0 0) (.slice none 0 0) := ⟨World.ownsRow_nil _ _ _ _, World.ownsRow_nil _ _ _ _, fun i h => absurd h (Nat.not_lt_zero _), fun i h => absurd h (Nat.not_lt_zero _)⟩
theorem KI.below (h : KI S1 w L R es rs vw vr) (hb : Below w.heap.size w w') : KI S1 w' L R es rs vw vr := ⟨own_belowB h.rw_ hb, own_belowB h.rr hb, fun i hi => (h.en i hi).below hb, h.rs_⟩
theorem KI.addW (h : KI S1 w L R es rs vw vr) (hx : EnX S1 w (L es.length) x vw vr) (hown : w'.ownsRow S1 35 1 vw' (es.length + 1) (SlE.flat es ++ SlE.flat [x])) (hg : w.grownBy w' vw.ownBlock) (hf : ∀ k, vw'.ownBlock = some k → some k = vw.ownBlock ∨ w.heap.size ≤ k) : KI S1 w' L R (es ++ [x]) rs vw' vr := by
  refine ⟨by rw [SlE.flat_append, List.length_append]; exact hown, own_keepsS h.rr (Kq.Keeps.grown (S := fun k => vw.ownBlock = some k) hg (fun k _ h => h)) (fun k e hh => own_ne h.rw_ h.rr (by decide) k e hh), fun i hi => ?_, h.rs_⟩
  by_cases hi' : i < es.length
  · rw [List.getElem_append_left hi']; exact (h.en i hi').growW hg hf
  · have : i = es.length := by simp at hi; omega
    subst this
    have e1 : (es ++ [x])[es.length] = x := by simp
    rw [e1]; exact hx.growW hg hf
theorem KI.addR (h : KI S1 w L R es rs vw vr) (hr : r = R rs.length) (hown : w'.ownsRow S1 9 1 vr' (rs.length + 1) (SrE.flat rs ++ SrE.flat [r])) (hg : w.grownBy w' vr.ownBlock) (hf : ∀ k, vr'.ownBlock = some k → some k = vr.ownBlock ∨ w.heap.size ≤ k) : KI S1 w' L R es (rs ++ [r]) vw vr' := by
  refine ⟨own_keepsS h.rw_ (Kq.Keeps.grown (S := fun k => vr.ownBlock = some k) hg (fun k _ h => h)) (fun k e hh => own_ne h.rr h.rw_ (by decide) k e hh), by rw [SrE.flat_append, List.length_append]; exact hown, fun i hi => (h.en i hi).growR hg hf, fun i hi => ?_⟩
  by_cases hi' : i < rs.length
  · rw [List.getElem_append_left hi']; exact h.rs_ i hi'
  · have : i = rs.length := by simp at hi; omega
    subst this
    have e1 : (rs ++ [r])[rs.length] = r := by simp
    rw [e1, hr]
end
end Go.Proofs.YtcknhnbckbocjaaDoor
