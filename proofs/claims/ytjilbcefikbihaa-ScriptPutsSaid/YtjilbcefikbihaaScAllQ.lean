/- Package script's all: forms, one behind the other. Condition: each form is one; no part but the writes' takes writes. -/
import Derived.Test.YtjilbcefikbihaaScFiQ
namespace Go.Proofs.Ytjilbcefikbihaa
open Go.RowKit
set_option linter.unusedVariables false
/-- forms in a row -/
def FsIn (lo hi : Nat) (w : World) (sl : Value) (Fs : List FmV) : Prop := ∃ A cap, sl = .slice A Fs.length cap ∧ ∀ j (h : j < Fs.length), ∃ b o f1 f2 f3, A = some ⟨b, o, none⟩ ∧ lo ≤ b ∧ b < hi ∧ w.cell? ⟨b, o + j * 3, none⟩ = some f1 ∧ w.cell? ⟨b, o + j * 3 + 1, none⟩ = some f2 ∧ w.cell? ⟨b, o + j * 3 + 2, none⟩ = some f3 ∧ FormIs lo hi w (.agg #[f1, f2, f3]) Fs[j]
theorem FsIn.mono {lo hi hi' : Nat} {w w' : World} {sl : Value} {Fs : List FmV} (h : FsIn lo hi w sl Fs) (hr : Rng lo hi w w') (h2 : hi ≤ hi') (h3 : hi' ≤ w'.heap.size) : FsIn lo hi' w' sl Fs := by
  obtain ⟨A, cap, rfl, h⟩ := h
  refine ⟨A, cap, rfl, fun j hj => ?_⟩
  obtain ⟨b, o, f1, f2, f3, h1, hl, hh, g3, g4, g5, h6⟩ := h j hj
  have hc : ∀ i, w'.cell? ⟨b, i, none⟩ = w.cell? ⟨b, i, none⟩ := fun i => by unfold World.cell?; rw [hr b hl hh]
  exact ⟨b, o, f1, f2, f3, h1, hl, Nat.lt_of_lt_of_le hh h2, (hc _).trans g3, (hc _).trans g4, (hc _).trans g5, h6.mono hr (Nat.le_refl _) h2 h3⟩
def AW (w1 : World) (base B : Nat) (v : Value) (e : Int) (l : List Nat) (Fs : List FmV) (a : SaV) (j : Nat) (wr : World) : Prop :=
  ∃ e' v' l', WrMid w1 base B v e' v' l' wr ∧ l'.length ≤ l.length + capL (Fs.take j) ∧ (okL (Fs.take j) a → e' = e ∧ l' = l ++ encFL (Fs.take j) a) ∧ (¬ okL (Fs.take j) a → e' = keepE e 1)
theorem take_next {α : Type} (l : List α) (j : Nat) (h : j < l.length) : l.take (j + 1) = l.take j ++ [l[j]] := List.take_succ_eq_append_getElem h
theorem capL_take (l : List FmV) (j : Nat) (h : j < l.length) : capL (l.take j) + l[j].cap ≤ capL l := by
  induction l generalizing j with
  | nil => cases h
  | cons f l ih =>
    cases j with
    | zero => simp [capL]
    | succ j =>
      have := ih j (by simpa using h)
      simp only [List.take_succ_cons, capL, List.getElem_cons_succ]
      omega
theorem AW.next {w1 wr wA w' : World} {base B : Nat} {v v' : Value} {e e' : Int} {l l' : List Nat} {Fs : List FmV} {a : SaV} {j : Nat} {x : Ending} (hj : j < Fs.length)
    (hM : WrMid w1 base B v e' v' l' wr) (hlen : l'.length ≤ l.length + capL (Fs.take j)) (h1 : okL (Fs.take j) a → e' = e ∧ l' = l ++ encFL (Fs.take j) a) (h2 : ¬ okL (Fs.take j) a → e' = keepE e 1)
    (hb : Below wr.heap.size wr wA) (hp : WrStep wA base B v' e' l' (Fs[j].ok a) (Fs[j].enc a) Fs[j].cap x w') : AW w1 base B v e l Fs a (j + 1) w' := by
  obtain ⟨e2, l2, g1, g2, g3, g4⟩ := hp
  obtain ⟨v2, hM2⟩ := (hM.belowM hb).step g1
  refine ⟨e2, v2, l2, hM2, ?_, fun hok => ?_, fun hok => ?_⟩
  · rw [take_next _ _ hj, capL_snoc]; omega
  · rw [take_next _ _ hj, okL_snoc] at hok
    obtain ⟨rfl, rfl⟩ := h1 hok.1
    obtain ⟨rfl, rfl⟩ := g3 hok.2
    exact ⟨rfl, by rw [take_next _ _ hj, encFL_snoc, List.append_assoc]⟩
  · rw [take_next _ _ hj, okL_snoc] at hok
    by_cases c1 : okL (Fs.take j) a
    · rw [g4 (fun c2 => hok ⟨c1, c2⟩), (h1 c1).1]
    · have k := h2 c1
      by_cases c2 : Fs[j].ok a
      · rw [(g3 c2).1, k]
      · rw [g4 c2, k, keepE_one]
def AR (w1 : World) (base B A : Nat) (sv : Value) (T : TypeId) (tl : List Value) (y : SaV × Int × ByteArray) (wr : World) : Prop := ReadPost w1 base B A sv T tl y (.returned (.tuple #[])) wr
theorem AR.start {w : World} {base B A : Nat} {sv : Value} {T : TypeId} {tl : List Value} {a : SaV} {e : Int} {s : ByteArray} (hR : Rd w B e s) (hA : ActAt w A a sv T tl) (hO : w.ownsRow base 87 2 sv a.ws.length (wcells a.ws)) : AR w base B A sv T tl (a, e, s) w :=
  ⟨rfl, hR, sv, hA, hO, Kq.Keeps.refl _ _, fun k hk => Or.inl hk.symm⟩
theorem keeps_any {w w' : World} {S : Nat → Prop} (hb : Below w.heap.size w w') : Kq.Keeps S w w' := Kq.Keeps.of_below hb (fun k h1 h2 => absurd h1 (Nat.not_le.2 h2))
theorem AR.next {w1 wr wA w' : World} {base B A : Nat} {sv sv' : Value} {T : TypeId} {tl : List Value} {y : SaV × Int × ByteArray} {x : Ending}
    (hK : Kq.Keeps (fun k => k = B ∨ k = A ∨ some k = sv.ownBlock) w1 wr) (hf : ∀ k, sv'.ownBlock = some k → some k = sv.ownBlock ∨ w1.heap.size ≤ k)
    (hb : Below wr.heap.size wr wA) (hp : ReadPost wA base B A sv' T tl y x w') : AR w1 base B A sv T tl y w' := by
  obtain ⟨rfl, g1, sv2, g2, g3, g4, g5⟩ := hp
  have hK2 := hK.trans (keeps_any hb)
  refine ⟨rfl, g1, sv2, g2, g3, ?_, fun k hk => ?_⟩
  · refine ⟨g4.os.trans hK2.os, g4.tape.trans hK2.tape, g4.output.trans hK2.output, Nat.le_trans hK2.size g4.size, fun k hk hn => ?_⟩
    rw [g4.block k (Nat.lt_of_lt_of_le hk hK2.size) ?_, hK2.block k hk hn]
    rintro (h4 | h4 | h4)
    · exact hn (Or.inl h4)
    · exact hn (Or.inr (Or.inl h4))
    · rcases hf k h4.symm with h5 | h5
      · exact hn (Or.inr (Or.inr h5))
      · omega
  · rcases g5 k hk with h4 | h4
    · exact hf k h4.symm
    · exact Or.inr (Nat.le_trans hK2.size h4)
def AK (w1 : World) (B : Nat) (sv sv2 : Value) (T2 : TypeId) (tl2 : List Value) (c : SaV) (wr : World) : Prop := Kq.Keeps (· = B) w1 wr ∧ ∃ sv3, ActAt wr B c sv3 T2 tl2 ∧ (sv3 = sv ∨ sv3 = sv2)
set_option maxRecDepth 100000 in
set_option maxHeartbeats 2000000 in
theorem all_w (lo hi : Nat) (w : World) (X : Nat) (sl : Value) (Fs : List FmV) (hX : w.cell? ⟨X, 0, none⟩ = some sl) (hXlo : lo ≤ X) (hXl : X < hi) (hF : FsIn lo hi w sl Fs) (hlen : Fs.length ≤ 100) (w1 : World) (hbw : Rng lo hi w w1) (base B : Nat) (e : Int) (v : Value) (l : List Nat) (A : Nat) (a : SaV) (sv : Value) (T : TypeId) (tl : List Value) (hW : Wr w1 base B e v l) (hb0 : hi ≤ base) (hB0 : hi ≤ B) (hA : ActAt w1 A a sv T tl) (hwf : a.wf) (hAB : A ≠ B) (hvA : ∀ k, v.ownBlock = some k → k ≠ A ∧ sBlk sv ≠ some k) (hsB : sBlk sv ≠ some B) (hl : l.length + capL Fs ≤ 1000000) :
    Calls Try.prog 62 #[.pointer (some ⟨B, 0, none⟩), .pointer (some ⟨A, 0, none⟩), .pointer (some ⟨X, 0, none⟩)] w1 (WrStep w1 base B v e l (okL Fs a) (encFL Fs a) (capL Fs)) := by
  have HF := Lib.hid (And.intro hF (And.intro hlen hbw))
  have HH := Lib.hid (And.intro hW (And.intro hb0 (And.intro hB0 (And.intro hA (And.intro hwf (And.intro hAB (And.intro hvA (And.intro hsB (hl)))))))))
  obtain ⟨AA, cap, rfl, hF⟩ := hF
  have hX1 : w1.cell? ⟨X, 0, none⟩ = some (.slice AA Fs.length cap) := by
    rw [← hX]; unfold World.cell?; rw [hbw X hXlo hXl]
  have HFs := Lib.hid hF
  clear hX hXlo hXl hF hlen hbw hW hb0 hB0 hA hwf hAB hvA hsB hl
  go_enter Try.func62, Try.ntmps62
  go_wp2
  go_loopw [9] (fun u wr => ∃ j : Nat, j ≤ Fs.length ∧ u = .int .i64 (j : Int) ∧ AW w1 base B v e l Fs a j wr) (fun u _ => Fs.length - (intOf u).toNat)
  case atStart => exact ⟨0, Nat.zero_le _, rfl, ⟨e, v, l, WrMid.start HH.out.1, Nat.le_add_right _ _, fun _ => ⟨rfl, (List.append_nil _).symm⟩, fun h => absurd trivial h⟩⟩
  case round =>
    obtain ⟨j, hj, rfl, hst⟩ := hrel
    have hj6 : j ≤ 100 := by have := HF.out.2.1; omega
    have hl6 : Fs.length ≤ 100 := HF.out.2.1
    by_cases hlt : j < Fs.length
    · obtain ⟨b, o, f1, f2, f3, rfl, hlb, hb, c0, c1, c2, hform⟩ := HFs.out j hlt
      obtain ⟨Fj, hFj⟩ : ∃ z, z = Fs[j]'hlt := ⟨_, rfl⟩
      rw [← hFj] at hform
      have HFJ : Hid (∀ h : j < Fs.length, Fs[j]'h = Fj) := Lib.hid (fun _ => hFj.symm)
      have hcp : Fj.cap = (Fs[j]'hlt).cap := by rw [hFj]
      clear hFj
      obtain ⟨e', v', l', hM, hlen, hm1, hm2⟩ := hst
      have hK := hM.keeps
      have HIS : Hid (hi ≤ w1.heap.size) := Lib.hid (Nat.le_trans HH.out.2.1 HH.out.1.base)
      have HBR : Hid (Rng lo hi w wr ∧ hi ≤ wr.heap.size) := Lib.hid (And.intro (HF.out.2.2.keeps hK (fun k hk => by
        rcases hk with rfl | hk
        · exact HH.out.2.2.1
        · exact Nat.le_trans HH.out.2.1 (HH.out.1.own.lt k hk.symm).1) HIS.out) (Nat.le_trans HIS.out hK.size))
      have HM := Lib.hid (And.intro hM (And.intro hK (And.intro hlen (And.intro hm1 hm2))))
      have HNS : Hid (¬ (A = B ∨ some A = v.ownBlock) ∧ ∀ b, sBlk sv = some b → ¬ (b = B ∨ some b = v.ownBlock)) := Lib.hid ⟨fun h => h.elim HH.out.2.2.2.2.2.1 (fun h => (HH.out.2.2.2.2.2.2.1 A h.symm).1 rfl), fun b hb h => h.elim (fun h => HH.out.2.2.2.2.2.2.2.1 (h ▸ hb)) (fun h => (HH.out.2.2.2.2.2.2.1 b h.symm).2 hb)⟩
      have HNV : Hid (∀ k, v'.ownBlock = some k → k ≠ A ∧ sBlk sv ≠ some k) := Lib.hid (fun k hk => by
        rcases hM.fresh k hk with h5 | h5
        · exact HH.out.2.2.2.2.2.2.1 k h5.symm
        · have h6 := HH.out.2.2.2.1.lt
          exact ⟨by omega, fun h7 => by have := HH.out.2.2.2.1.sl k h7; omega⟩)
      have HNL : Hid (l'.length + Fj.cap ≤ 1000000) := Lib.hid (by rw [hcp]; have h5 := capL_take Fs j hlt; have h6 := HH.out.2.2.2.2.2.2.2.2; omega)
      clear hM hK hlen hm1 hm2
      have hc : ∀ i, wr.cell? ⟨b, i, none⟩ = w.cell? ⟨b, i, none⟩ := fun i => by unfold World.cell?; rw [HBR.out.1 b hlb hb]
      have e0 := (hc _).trans c0
      have e1 := (hc _).trans c1
      have e2 := (hc _).trans c2
      clear hc c0 c1 c2 hb hlb
      obtain ⟨_, g1, g2, g3, hg, hform⟩ := hform
      injection hg with hg
      simp only [Array.mk.injEq, List.cons.injEq, and_true] at hg
      obtain ⟨rfl, rfl, rfl⟩ := hg
      obtain ⟨⟨n, c1, ⟨rfl, hrun⟩, hcall⟩, ⟨n2, d2, ⟨rfl, -⟩, -⟩, ⟨n3, d3, ⟨rfl, -⟩, -⟩⟩ := hform
      obtain ⟨wA, hwA⟩ : ∃ z, z = wr.alloc (.cells #[.func (.func n) #[] c1, .func (.func n2) #[] d2, .func (.func n3) #[] d3] 69) := ⟨_, rfl⟩
      have HbA : Hid (Below wr.heap.size wr wA) := Lib.hid (by rw [hwA]; exact Kq.below_alloc _ _)
      have HBA : Hid (Rng lo hi w wA) := Lib.hid (HBR.out.1.below HbA.out HBR.out.2)
      have HC := Lib.hid hcall
      have HLT := Lib.hid hlt
      have t1 : decide ((j : Int) < (Fs.length : Int)) = true := decide_eq_true (by omega)
      have t2 : decide (j < Fs.length) = true := decide_eq_true hlt
      have hi0 : (j : Int) < (Fs.length : Int) := by omega
      clear hcall hlt hj hcp
      go_wp2_with fail
      rw [← hwA]
      refine (HC.out wA HBA.out base B e' v' l' A a sv T tl ((HM.out.1.belowM HbA.out).it) HH.out.2.1 HH.out.2.2.1 (HH.out.2.2.2.1.keeps (HM.out.2.1.trans (keeps_any HbA.out)) HNS.out.1 HNS.out.2) HH.out.2.2.2.2.1 HH.out.2.2.2.2.2.1 HNV.out HH.out.2.2.2.2.2.2.2.1 HNL.out).mono ?_
      intro x w3 hp
      have hx := hp.choose_spec.choose_spec.1.1
      subst hx
      have HQ := Lib.hid hp
      clear hp hrun e0 e1 e2 hwA
      go_wp2
      go_roundw
      case rel => exact ⟨j + 1, HLT.out, by go_num, by
          have hq := HQ.out
          rw [← HFJ.out HLT.out] at hq
          exact AW.next HLT.out HM.out.1 HM.out.2.2.1 HM.out.2.2.2.1 HM.out.2.2.2.2 HbA.out hq⟩
      case measure => have := HLT.out; simp [intOf]; omega
    · obtain rfl : j = Fs.length := by omega
      have HST := Lib.hid hst
      have t1 : decide ((Fs.length : Int) < (Fs.length : Int)) = false := decide_eq_false (by omega)
      have t2 : decide (Fs.length < Fs.length) = false := decide_eq_false hlt
      clear hst hlt hj
      go_wp2
      go_end0
      obtain ⟨e', v', l', hM, hlen, hm1, hm2⟩ := HST.out
      rw [List.take_length] at hlen hm1 hm2
      exact ⟨e', l', hM.post, hlen, hm1, hm2⟩
set_option maxRecDepth 100000 in
set_option maxHeartbeats 2000000 in
theorem all_r (lo hi : Nat) (w : World) (X : Nat) (sl : Value) (Fs : List FmV) (hX : w.cell? ⟨X, 0, none⟩ = some sl) (hXlo : lo ≤ X) (hXl : X < hi) (hF : FsIn lo hi w sl Fs) (hlen : Fs.length ≤ 100) (w1 : World) (hbw : Rng lo hi w w1) (base B : Nat) (e : Int) (s : ByteArray) (A : Nat) (a : SaV) (sv : Value) (T : TypeId) (tl : List Value) (hR : Rd w1 B e s) (hb0 : hi ≤ base) (hb1 : base ≤ w1.heap.size) (hB0 : hi ≤ B) (hA0 : hi ≤ A) (hA : ActAt w1 A a sv T tl) (hO : w1.ownsRow base 87 2 sv a.ws.length (wcells a.ws)) (hAB : A ≠ B) (hsB : sv.ownBlock ≠ some B) (hs : s.size ≤ 100000000) (hn : a.ws.length ≤ 1000) (hG : ∀ F ∈ Fs, ∀ a e s, (F.get a e s).1.ws = a.ws ∧ (F.get a e s).2.2.size ≤ s.size) :
    Calls Try.prog 63 #[.pointer (some ⟨B, 0, none⟩), .pointer (some ⟨A, 0, none⟩), .pointer (some ⟨X, 0, none⟩)] w1 (ReadPost w1 base B A sv T tl (getL Fs a e s)) := by
  have HF := Lib.hid (And.intro hF (And.intro hlen hbw))
  have HH := Lib.hid (And.intro hR (And.intro hb0 (And.intro hb1 (And.intro hB0 (And.intro hA0 (And.intro hA (And.intro hO (And.intro hAB (And.intro hsB (And.intro hs (And.intro hn (hG))))))))))))
  obtain ⟨AA, cap, rfl, hF⟩ := hF
  have hX1 : w1.cell? ⟨X, 0, none⟩ = some (.slice AA Fs.length cap) := by
    rw [← hX]; unfold World.cell?; rw [hbw X hXlo hXl]
  have HFs := Lib.hid hF
  clear hX hXlo hXl hF hlen hbw hR hb0 hb1 hB0 hA0 hA hO hAB hsB hs hn hG
  go_enter Try.func63, Try.ntmps63
  go_wp2
  go_loopw [9] (fun u wr => ∃ j : Nat, j ≤ Fs.length ∧ u = .int .i64 (j : Int) ∧ AR w1 base B A sv T tl (getL (Fs.take j) a e s) wr ∧ (getL (Fs.take j) a e s).1.ws = a.ws ∧ (getL (Fs.take j) a e s).2.2.size ≤ s.size) (fun u _ => Fs.length - (intOf u).toNat)
  case atStart => exact ⟨0, Nat.zero_le _, rfl, ⟨AR.start HH.out.1 HH.out.2.2.2.2.2.1 HH.out.2.2.2.2.2.2.1, rfl, Nat.le_refl _⟩⟩
  case round =>
    obtain ⟨j, hj, rfl, hst⟩ := hrel
    have hj6 : j ≤ 100 := by have := HF.out.2.1; omega
    have hl6 : Fs.length ≤ 100 := HF.out.2.1
    by_cases hlt : j < Fs.length
    · obtain ⟨b, o, f1, f2, f3, rfl, hlb, hb, c0, c1, c2, hform⟩ := HFs.out j hlt
      obtain ⟨Fj, hFj⟩ : ∃ z, z = Fs[j]'hlt := ⟨_, rfl⟩
      rw [← hFj] at hform
      have HFJ : Hid (∀ h : j < Fs.length, Fs[j]'h = Fj) := Lib.hid (fun _ => hFj.symm)
      have hcp : Fj.cap = (Fs[j]'hlt).cap := by rw [hFj]
      clear hFj
      obtain ⟨⟨_, hr, sv', hact, hown, hK, hfr⟩, hws, hsz⟩ := hst
      have HIS : Hid (hi ≤ w1.heap.size) := Lib.hid (Nat.le_trans HH.out.2.2.2.1 (Nat.le_of_lt (Kq.blk_lt HH.out.1)))
      have HBR : Hid (Rng lo hi w wr ∧ hi ≤ wr.heap.size) := Lib.hid (And.intro (HF.out.2.2.keeps hK (fun k hk => by
        rcases hk with rfl | rfl | hk
        · exact HH.out.2.2.2.1
        · exact HH.out.2.2.2.2.1
        · exact Nat.le_trans HH.out.2.1 (HH.out.2.2.2.2.2.2.1.lt k hk.symm).1) HIS.out) (Nat.le_trans HIS.out hK.size))
      obtain ⟨y, hy⟩ : ∃ y, y = getL (Fs.take j) a e s := ⟨_, rfl⟩
      rw [← hy] at hr hact hown hws hsz
      have HY := Lib.hid hy
      have HM := Lib.hid (And.intro hr (And.intro hact (And.intro hown (And.intro hK (And.intro hfr (And.intro hws hsz))))))
      have HNB : Hid (sv'.ownBlock ≠ some B) := Lib.hid (fun h5 => by
        rcases hfr B h5 with h6 | h6
        · exact HH.out.2.2.2.2.2.2.2.2.1 h6.symm
        · have := Kq.blk_lt HH.out.1; omega)
      clear hr hact hown hK hfr hws hsz hy
      have hc : ∀ i, wr.cell? ⟨b, i, none⟩ = w.cell? ⟨b, i, none⟩ := fun i => by unfold World.cell?; rw [HBR.out.1 b hlb hb]
      have e0 := (hc _).trans c0
      have e1 := (hc _).trans c1
      have e2 := (hc _).trans c2
      clear hc c0 c1 c2 hb hlb
      obtain ⟨_, g1, g2, g3, hg, hform⟩ := hform
      injection hg with hg
      simp only [Array.mk.injEq, List.cons.injEq, and_true] at hg
      obtain ⟨rfl, rfl, rfl⟩ := hg
      obtain ⟨⟨n2, d2, ⟨rfl, -⟩, -⟩, ⟨n, c1, ⟨rfl, hrun⟩, hcall⟩, ⟨n3, d3, ⟨rfl, -⟩, -⟩⟩ := hform
      obtain ⟨wA, hwA⟩ : ∃ z, z = wr.alloc (.cells #[.func (.func n2) #[] d2, .func (.func n) #[] c1, .func (.func n3) #[] d3] 69) := ⟨_, rfl⟩
      have HbA : Hid (Below wr.heap.size wr wA) := Lib.hid (by rw [hwA]; exact Kq.below_alloc _ _)
      have HBA : Hid (Rng lo hi w wA) := Lib.hid (HBR.out.1.below HbA.out HBR.out.2)
      have HC := Lib.hid hcall
      have HLT := Lib.hid hlt
      have t1 : decide ((j : Int) < (Fs.length : Int)) = true := decide_eq_true (by omega)
      have t2 : decide (j < Fs.length) = true := decide_eq_true hlt
      have hi0 : (j : Int) < (Fs.length : Int) := by omega
      clear hcall hlt hj hcp
      go_wp2_with fail
      rw [← hwA]
      refine (HC.out wA HBA.out base B y.2.1 y.2.2 A y.1 sv' T tl ((keeps_any (S := fun _ => False) HbA.out).blk HM.out.1 id) HH.out.2.1 (Nat.le_trans HH.out.2.2.1 (Nat.le_trans HM.out.2.2.2.1.size HbA.out.size)) HH.out.2.2.2.1 HH.out.2.2.2.2.1 (HM.out.2.1.keeps (keeps_any (S := fun _ => False) HbA.out) id (fun _ _ => id)) (own_later HM.out.2.2.1 (fun k hk => (keeps_any (S := fun _ => False) HbA.out).block k (HM.out.2.2.1.lt k hk).2 id)) HH.out.2.2.2.2.2.2.2.1 HNB.out (Nat.le_trans HM.out.2.2.2.2.2.2 HH.out.2.2.2.2.2.2.2.2.2.1) (by rw [HM.out.2.2.2.2.2.1]; exact HH.out.2.2.2.2.2.2.2.2.2.2.1)).mono ?_
      intro x w3 hp
      have hx := hp.1
      subst hx
      have HQ := Lib.hid hp
      clear hp hrun e0 e1 e2 hwA
      go_wp2
      go_roundw
      case rel => exact ⟨j + 1, HLT.out, by go_num, by
          have hgj := HH.out.2.2.2.2.2.2.2.2.2.2.2 (Fs[j]'HLT.out) (List.getElem_mem _) y.1 y.2.1 y.2.2
          have hq := AR.next HM.out.2.2.2.1 HM.out.2.2.2.2.1 HbA.out HQ.out
          rw [← HFJ.out HLT.out] at hq
          rw [take_next _ _ HLT.out, getL_snoc, ← HY.out]
          exact ⟨hq, hgj.1.trans HM.out.2.2.2.2.2.1, Nat.le_trans hgj.2 HM.out.2.2.2.2.2.2⟩⟩
      case measure => have := HLT.out; simp [intOf]; omega
    · obtain rfl : j = Fs.length := by omega
      have HST := Lib.hid hst
      have t1 : decide ((Fs.length : Int) < (Fs.length : Int)) = false := decide_eq_false (by omega)
      have t2 : decide (Fs.length < Fs.length) = false := decide_eq_false hlt
      clear hst hlt hj
      go_wp2
      go_end0
      have h9 := HST.out.1
      rw [List.take_length] at h9
      exact h9
set_option maxRecDepth 100000 in
set_option maxHeartbeats 2000000 in
theorem all_k (lo hi : Nat) (w : World) (X : Nat) (sl : Value) (Fs : List FmV) (hX : w.cell? ⟨X, 0, none⟩ = some sl) (hXlo : lo ≤ X) (hXl : X < hi) (hF : FsIn lo hi w sl Fs) (hlen : Fs.length ≤ 100) (w1 : World) (hbw : Rng lo hi w w1) (A : Nat) (a : SaV) (sv : Value) (T : TypeId) (tl : List Value) (B : Nat) (b0 : SaV) (sv2 : Value) (T2 : TypeId) (tl2 : List Value) (hA : ActAt w1 A a sv T tl) (hB : ActAt w1 B b0 sv2 T2 tl2) (hB0 : hi ≤ B) (hAB : A ≠ B) (hsB : sBlk sv ≠ some B) :
    Calls Try.prog 64 #[.pointer (some ⟨A, 0, none⟩), .pointer (some ⟨B, 0, none⟩), .pointer (some ⟨X, 0, none⟩)] w1 (fun x w' => x = .returned (.tuple #[]) ∧ Kq.Keeps (· = B) w1 w' ∧ ∃ sv3, ActAt w' B (keepL Fs a b0) sv3 T2 tl2 ∧ (sv3 = sv ∨ sv3 = sv2)) := by
  have HF := Lib.hid (And.intro hF (And.intro hlen hbw))
  have HH := Lib.hid (And.intro hA (And.intro hB (And.intro hB0 (And.intro hAB (hsB)))))
  obtain ⟨AA, cap, rfl, hF⟩ := hF
  have hX1 : w1.cell? ⟨X, 0, none⟩ = some (.slice AA Fs.length cap) := by
    rw [← hX]; unfold World.cell?; rw [hbw X hXlo hXl]
  have HFs := Lib.hid hF
  clear hX hXlo hXl hF hlen hbw hA hB hB0 hAB hsB
  go_enter Try.func64, Try.ntmps64
  go_wp2
  go_loopw [9] (fun u wr => ∃ j : Nat, j ≤ Fs.length ∧ u = .int .i64 (j : Int) ∧ AK w1 B sv sv2 T2 tl2 (keepL (Fs.take j) a b0) wr) (fun u _ => Fs.length - (intOf u).toNat)
  case atStart => exact ⟨0, Nat.zero_le _, rfl, ⟨Kq.Keeps.refl _ _, sv2, HH.out.2.1, Or.inr rfl⟩⟩
  case round =>
    obtain ⟨j, hj, rfl, hst⟩ := hrel
    have hj6 : j ≤ 100 := by have := HF.out.2.1; omega
    have hl6 : Fs.length ≤ 100 := HF.out.2.1
    by_cases hlt : j < Fs.length
    · obtain ⟨b, o, f1, f2, f3, rfl, hlb, hb, c0, c1, c2, hform⟩ := HFs.out j hlt
      obtain ⟨Fj, hFj⟩ : ∃ z, z = Fs[j]'hlt := ⟨_, rfl⟩
      rw [← hFj] at hform
      have HFJ : Hid (∀ h : j < Fs.length, Fs[j]'h = Fj) := Lib.hid (fun _ => hFj.symm)
      have hcp : Fj.cap = (Fs[j]'hlt).cap := by rw [hFj]
      clear hFj
      obtain ⟨hK, sv3, hact, hor⟩ := hst
      have HIS : Hid (hi ≤ w1.heap.size) := Lib.hid (Nat.le_trans HH.out.2.2.1 (Nat.le_of_lt HH.out.2.1.lt))
      have HBR : Hid (Rng lo hi w wr ∧ hi ≤ wr.heap.size) := Lib.hid (And.intro (HF.out.2.2.keeps hK (fun k hk => by
        obtain rfl := hk
        exact HH.out.2.2.1) HIS.out) (Nat.le_trans HIS.out hK.size))
      obtain ⟨y, hy⟩ : ∃ y, y = keepL (Fs.take j) a b0 := ⟨_, rfl⟩
      rw [← hy] at hact
      have HY := Lib.hid hy
      have HM := Lib.hid (And.intro hK (And.intro hact hor))
      clear hK hact hor hy
      have hc : ∀ i, wr.cell? ⟨b, i, none⟩ = w.cell? ⟨b, i, none⟩ := fun i => by unfold World.cell?; rw [HBR.out.1 b hlb hb]
      have e0 := (hc _).trans c0
      have e1 := (hc _).trans c1
      have e2 := (hc _).trans c2
      clear hc c0 c1 c2 hb hlb
      obtain ⟨_, g1, g2, g3, hg, hform⟩ := hform
      injection hg with hg
      simp only [Array.mk.injEq, List.cons.injEq, and_true] at hg
      obtain ⟨rfl, rfl, rfl⟩ := hg
      obtain ⟨⟨n2, d2, ⟨rfl, -⟩, -⟩, ⟨n3, d3, ⟨rfl, -⟩, -⟩, ⟨n, c1, ⟨rfl, hrun⟩, hcall⟩⟩ := hform
      obtain ⟨wA, hwA⟩ : ∃ z, z = wr.alloc (.cells #[.func (.func n2) #[] d2, .func (.func n3) #[] d3, .func (.func n) #[] c1] 69) := ⟨_, rfl⟩
      have HbA : Hid (Below wr.heap.size wr wA) := Lib.hid (by rw [hwA]; exact Kq.below_alloc _ _)
      have HBA : Hid (Rng lo hi w wA) := Lib.hid (HBR.out.1.below HbA.out HBR.out.2)
      have HC := Lib.hid hcall
      have HLT := Lib.hid hlt
      have t1 : decide ((j : Int) < (Fs.length : Int)) = true := decide_eq_true (by omega)
      have t2 : decide (j < Fs.length) = true := decide_eq_true hlt
      have hi0 : (j : Int) < (Fs.length : Int) := by omega
      clear hcall hlt hj hcp
      go_wp2_with fail
      rw [← hwA]
      refine (HC.out wA HBA.out A a sv T tl B y sv3 T2 tl2 (HH.out.1.keeps (HM.out.1.trans (keeps_any HbA.out)) HH.out.2.2.2.1 (fun b hb hbB => HH.out.2.2.2.2 (hbB ▸ hb))) (HM.out.2.1.keeps (keeps_any (S := fun _ => False) HbA.out) id (fun _ _ => id)) HH.out.2.2.1 HH.out.2.2.2.1 HH.out.2.2.2.2).mono ?_
      intro x w3 hp
      have hx := hp.1
      subst hx
      have HQ := Lib.hid hp
      clear hp hrun e0 e1 e2 hwA
      go_wp2
      go_roundw
      case rel => exact ⟨j + 1, HLT.out, by go_num, by
          obtain ⟨_, q1, sv4, q2, q3⟩ := HQ.out
          rw [← HFJ.out HLT.out] at q2
          rw [take_next _ _ HLT.out, keepL_snoc, ← HY.out]
          exact ⟨(HM.out.1.trans (keeps_any HbA.out)).trans q1, sv4, q2, q3.elim Or.inl (fun h => h ▸ HM.out.2.2)⟩⟩
      case measure => have := HLT.out; simp [intOf]; omega
    · obtain rfl : j = Fs.length := by omega
      have HST := Lib.hid hst
      have t1 : decide ((Fs.length : Int) < (Fs.length : Int)) = false := decide_eq_false (by omega)
      have t2 : decide (Fs.length < Fs.length) = false := decide_eq_false hlt
      clear hst hlt hj
      go_wp2
      go_end0
      obtain ⟨q1, sv4, q2, q3⟩ := HST.out
      rw [List.take_length] at q2
      exact ⟨rfl, q1, sv4, q2, q3⟩
end Go.Proofs.Ytjilbcefikbihaa
