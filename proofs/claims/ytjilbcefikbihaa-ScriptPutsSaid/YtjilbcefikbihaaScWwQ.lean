/- Package script's writes: what is written. Condition: at most 600 writes. -/
import Derived.Test.YtjilbcefikbihaaScPairQ
import Derived.Test.YtjilbcefikbihaaScFiQ
namespace Go.Proofs.Ytjilbcefikbihaa
open Go.RowKit
set_option linter.unusedVariables false
theorem okW_snoc (l : List (Bool × Int)) (x : Bool × Int) : okW (l ++ [x]) ↔ okW l ∧ (0 ≤ x.2 ∧ x.2 ≤ 65535) := by
  unfold okW
  constructor
  · intro h
    exact ⟨fun y hy => h y (List.mem_append.2 (Or.inl hy)), h x (List.mem_append.2 (Or.inr (List.mem_singleton.2 rfl)))⟩
  · rintro ⟨h1, h2⟩ y hy
    rcases List.mem_append.1 hy with h | h
    · exact h1 y h
    · rw [List.mem_singleton.1 h]; exact h2
theorem encW_snoc (l : List (Bool × Int)) (x : Bool × Int) : encW (l ++ [x]) = encW l ++ ([if x.1 then 1 else 0] ++ hi2 x.2.toNat) := by
  induction l with
  | nil => simp [encW]
  | cons y l ih => simp only [List.cons_append, encW, ih, List.append_assoc]
def bI (b : Bool) : Int := if b then 1 else 0
def WW (w1 : World) (base B : Nat) (v : Value) (e : Int) (l : List Nat) (ws : List (Bool × Int)) (j : Nat) (wr : World) : Prop :=
  ∃ e' v' l', WrMid w1 base B v e' v' l' wr ∧ l'.length ≤ l.length + (1 + 3 * j) ∧ ((ws.length ≤ 255 ∧ okW (ws.take j)) → e' = e ∧ l' = l ++ ([ws.length] ++ encW (ws.take j))) ∧ (¬ (ws.length ≤ 255 ∧ okW (ws.take j)) → e' = keepE e 1)
theorem WrStep.from {w wA w' : World} {base B : Nat} {v : Value} {e : Int} {l add : List Nat} {ok : Prop} {n : Nat} {x : Ending} (hb : Below w.heap.size w wA) (h : WrStep wA base B v e l ok add n x w') : WrStep w base B v e l ok add n x w' := by
  obtain ⟨e1, l1, g1, g2⟩ := h
  exact ⟨e1, l1, g1.from hb, g2⟩
set_option maxRecDepth 100000 in
set_option maxHeartbeats 4000000 in
theorem ws_w (base B : Nat) (e : Int) (v : Value) (l : List Nat) (A : Nat) (a : SaV) (sv : Value) (T : TypeId) (tl : List Value) (w1 : World) (hW : Wr w1 base B e v l) (hA : ActAt w1 A a sv T tl) (hwf : a.wf) (hAB : A ≠ B) (hvA : ∀ k, v.ownBlock = some k → k ≠ A ∧ sBlk sv ≠ some k) (hsB : sBlk sv ≠ some B) (hl : l.length ≤ 800000) :
    Calls Try.prog 81 #[.pointer (some ⟨B, 0, none⟩), .pointer (some ⟨A, 0, none⟩)] w1 (WrStep w1 base B v e l (wrF.ok a) (wrF.enc a) wrF.cap) := by
  obtain ⟨AA, cap, rfl, hrow⟩ := hA.ws
  have hws := hwf.ws
  have ca : w1.cell? ⟨A, 13, none⟩ = some (.slice AA a.ws.length cap) := Kq.blk_cell hA.blk 13
  have HNS : Hid (¬ (A = B ∨ some A = v.ownBlock) ∧ ∀ b, sBlk (.slice AA a.ws.length cap) = some b → ¬ (b = B ∨ some b = v.ownBlock)) := Lib.hid ⟨fun h => h.elim hAB (fun h => (hvA A h.symm).1 rfl), fun b hb h => h.elim (fun h => hsB (h ▸ hb)) (fun h => (hvA b h.symm).2 hb)⟩
  have HW := Lib.hid (wr_byte_step base B e v l (a.ws.length : Int) w1 hW (by omega))
  have HH := Lib.hid (And.intro hW (And.intro hA hl))
  have HR := Lib.hid hrow
  have HO : Hid (wrF.ok a = (a.ws.length ≤ 255 ∧ okW a.ws) ∧ wrF.enc a = [a.ws.length] ++ encW a.ws ∧ wrF.cap = 200000) := Lib.hid ⟨rfl, rfl, rfl⟩
  clear hW hA hwf hAB hvA hsB hl hrow
  generalize a.ws = ws at *
  go_enter Try.func81, Try.ntmps81
  go_wp2_with fail
  refine HW.out.mono ?_
  intro x w2 hp
  have hx := hp.choose_spec.choose_spec.1.1
  subst hx
  have HS : Hid (WW w1 base B v e l ws 0 w2) := Lib.hid (by
    obtain ⟨e2, l2, ⟨_, v2, g1, g2, g3⟩, g4, g5, g6⟩ := hp
    refine ⟨e2, v2, l2, ⟨g1, g2, g3⟩, g4, fun h => g5 (by omega), fun h => g6 (fun h2 => h ⟨by omega, fun y hy => by cases hy⟩)⟩)
  have hk2 : Kq.Keeps (fun k => k = B ∨ some k = v.ownBlock) w1 w2 := by obtain ⟨_, _, _, h, _⟩ := HS.out; exact h.keeps
  have ca2 : w2.cell? ⟨A, 13, none⟩ = some (.slice AA ws.length cap) := Kq.blk_cell (hk2.blk HH.out.2.1.blk HNS.out.1) 13
  clear hp hk2 ca
  go_wp2
  go_loopw [19] (fun u wr => ∃ j : Nat, j ≤ ws.length ∧ u = .int .i64 (j : Int) ∧ WW w1 base B v e l ws j wr) (fun u _ => ws.length - (intOf u).toNat)
  case atStart => exact ⟨0, Nat.zero_le _, rfl, HS.out⟩
  case round =>
    obtain ⟨j, hj, rfl, hst⟩ := hrel
    by_cases hlt : j < ws.length
    · obtain ⟨b, o, rfl, hb, c0, c1⟩ := HR.out j hlt
      obtain ⟨q, hq⟩ : ∃ z, z = ws[j]'hlt := ⟨_, rfl⟩
      obtain ⟨ql, qt⟩ := q
      rw [← hq] at c0 c1
      have HQ : Hid (∀ h : j < ws.length, ws[j]'h = (ql, qt)) := Lib.hid (fun _ => hq.symm)
      clear hq
      obtain ⟨e', v', l', hM, hlen, hm1, hm2⟩ := hst
      have hc : ∀ i, wr.cell? ⟨b, i, none⟩ = w1.cell? ⟨b, i, none⟩ := fun i => by unfold World.cell?; rw [hM.keeps.block b hb (HNS.out.2 b (sBlk_pos (by omega)))]
      have e0 := (hc _).trans c0
      have e1 := (hc _).trans c1
      clear hc c0 c1 hb
      have HM := Lib.hid (And.intro hM (And.intro hlen (And.intro hm1 hm2)))
      clear hM hlen hm1 hm2
      obtain ⟨wA, hwA⟩ : ∃ z, z = wr.alloc (.cells #[.bool ql, .int .i64 qt] 87) := ⟨_, rfl⟩
      obtain ⟨X, hX⟩ : ∃ X, X = wr.heap.size := ⟨_, rfl⟩
      have HbA : Hid (Below wr.heap.size wr wA ∧ wA.heap[X]? = some (.cells #[.bool ql, .int .i64 qt] 87 (0, 0))) := Lib.hid ⟨by rw [hwA]; exact Kq.below_alloc _ _, by rw [hwA, hX]; exact Kq.blk_new _ _ _ _⟩
      have HNX : Hid (¬ (X = B ∨ some X = v'.ownBlock)) := Lib.hid (by
        rintro (h | h)
        · have := Kq.blk_lt HM.out.1.it.blk; omega
        · have := (HM.out.1.it.own.lt X h.symm).2; omega)
      have k0 : wA.cell? ⟨X, 0, none⟩ = some (.bool ql) := Kq.blk_cell HbA.out.2 0
      have k1 : wA.cell? ⟨X, 1, none⟩ = some (.int .i64 qt) := Kq.blk_cell HbA.out.2 1
      have HBY : Hid (Calls Try.prog 21 #[.pointer (some ⟨B, 0, none⟩), .int .i64 (bI ql)] wA (WrStep wA base B v' e' l' (0 ≤ bI ql ∧ bI ql ≤ 255) [(bI ql).toNat] 1)) := Lib.hid (wr_byte_step base B e' v' l' (bI ql) wA (HM.out.1.belowM HbA.out.1).it (by have := HM.out.2.1; have := HH.out.2.2; omega))
      have HLT := Lib.hid hlt
      have t1 : decide ((j : Int) < (ws.length : Int)) = true := decide_eq_true (by omega)
      have t2 : decide (j < ws.length) = true := decide_eq_true hlt
      have hi0 : (j : Int) < (ws.length : Int) := by omega
      have tail : Hid (∀ w3, WrStep wA base B v' e' l' (0 ≤ bI ql ∧ bI ql ≤ 255) [(bI ql).toNat] 1 (.returned (.tuple #[])) w3 → (w3.cell? ⟨X, 1, none⟩ = some (.int .i64 qt)) ∧ ∃ e2 v2 l2, Wr w3 base B e2 v2 l2 ∧ l2.length ≤ 900000 ∧ ∀ w4, WrStep w3 base B v2 e2 l2 (0 ≤ qt ∧ qt ≤ 65535) (hi2 qt.toNat) 2 (.returned (.tuple #[])) w4 → WW w1 base B v e l ws (j + 1) w4) := Lib.hid (fun w3 hp => by
        obtain ⟨e2, l2, ⟨hx, v2, g1, g2, g3⟩, g4, g5, g6⟩ := id hp
        refine ⟨Kq.blk_cell (g2.blk HbA.out.2 HNX.out) 1, e2, v2, l2, g1, by have := HM.out.2.1; have := HH.out.2.2; omega, fun w4 hp4 => ?_⟩
        have h5 : WrStep wA base B v' e' l' _ _ _ _ w4 := WrStep.mid ⟨g1, g2, g3⟩ g4 g5 g6 hp4
        have h6 : WrStep wr base B v' e' l' _ _ _ _ w4 := WrStep.from HbA.out.1 h5
        have h7 : WrStep w1 base B v e l _ _ _ _ w4 := WrStep.mid HM.out.1 HM.out.2.1 HM.out.2.2.1 HM.out.2.2.2 h6
        obtain ⟨e5, l5, ⟨_, v5, m1, m2, m3⟩, m4, m5, m6⟩ := h7
        have hbi : 0 ≤ bI ql ∧ bI ql ≤ 255 := by unfold bI; split <;> omega
        have htk : ws.take (j + 1) = ws.take j ++ [(ql, qt)] := by rw [List.take_succ_eq_append_getElem HLT.out, HQ.out HLT.out]
        refine ⟨e5, v5, l5, ⟨m1, m2, m3⟩, by omega, fun hok => ?_, fun hok => m6 (fun h9 => hok ?_)⟩
        · rw [htk, okW_snoc] at hok
          obtain ⟨h10, h11⟩ := m5 ⟨⟨hok.1, hok.2.1⟩, hbi, hok.2.2⟩
          refine ⟨h10, ?_⟩
          rw [h11, htk, encW_snoc]
          have : [(bI ql).toNat] = [if ql = true then 1 else 0] := by cases ql <;> rfl
          rw [this]
          simp only [List.append_assoc]
        · rw [htk, okW_snoc]
          exact ⟨h9.1.1, h9.1.2, h9.2.2⟩)
      have HX := Lib.hid hX
      clear hlt hj hX k0 k1
      cases ql with
      | true =>
        go_wp2_with fail
        rw [← hwA]
        refine HBY.out.mono ?_
        intro x w3 hp
        have hx := hp.choose_spec.choose_spec.1.1
        subst hx
        obtain ⟨k3, e2, v2, l2, g1, g2, g3⟩ := tail.out w3 hp
        have HT := Lib.hid (And.intro (sc_putPair base B e2 v2 l2 qt w3 g1 g2) g3)
        clear hp g1 g2 g3 e0 e1 hwA
        rw [HX.out] at k3
        go_wp2_with fail
        refine HT.out.1.mono ?_
        intro x w4 hp
        have hx := hp.choose_spec.choose_spec.1.1
        subst hx
        have H4 := Lib.hid (HT.out.2 w4 hp)
        clear hp k3
        go_wp2
        go_roundw
        case rel => exact ⟨j + 1, HLT.out, by go_num, H4.out⟩
        case measure => have := HLT.out; simp [intOf]; omega
      | false =>
        go_wp2_with fail
        rw [← hwA]
        refine HBY.out.mono ?_
        intro x w3 hp
        have hx := hp.choose_spec.choose_spec.1.1
        subst hx
        obtain ⟨k3, e2, v2, l2, g1, g2, g3⟩ := tail.out w3 hp
        have HT := Lib.hid (And.intro (sc_putPair base B e2 v2 l2 qt w3 g1 g2) g3)
        clear hp g1 g2 g3 e0 e1 hwA
        rw [HX.out] at k3
        go_wp2_with fail
        refine HT.out.1.mono ?_
        intro x w4 hp
        have hx := hp.choose_spec.choose_spec.1.1
        subst hx
        have H4 := Lib.hid (HT.out.2 w4 hp)
        clear hp k3
        go_wp2
        go_roundw
        case rel => exact ⟨j + 1, HLT.out, by go_num, H4.out⟩
        case measure => have := HLT.out; simp [intOf]; omega
    · obtain rfl : j = ws.length := by omega
      have HST := Lib.hid hst
      have t1 : decide ((ws.length : Int) < (ws.length : Int)) = false := decide_eq_false (by omega)
      have t2 : decide (ws.length < ws.length) = false := decide_eq_false hlt
      clear hst hlt hj
      go_wp2
      go_end0
      obtain ⟨e', v', l', hM, hlen, hm1, hm2⟩ := HST.out
      rw [List.take_length] at hm1 hm2
      rw [HO.out.1, HO.out.2.1, HO.out.2.2]
      exact ⟨e', l', hM.post, by omega, hm1, hm2⟩
end Go.Proofs.Ytjilbcefikbihaa
