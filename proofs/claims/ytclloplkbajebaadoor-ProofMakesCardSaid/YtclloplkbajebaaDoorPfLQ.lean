/- Merged: PfH, PfL. Contracts of proof.Has, proof.Lacks. Condition: lengths; the constants lie where they lie. Contract of proof.Lacks. Condition: lengths; the constants lie where they lie. -/
import Derived.WalkSpells
import Derived.Outline
import Derived.Deep.RegionHeld
import Derived.Test.YtclloplkbajebaaDoorPfPwQ
import Derived.Test.YtclloplkbajebaaDoorPfCQ
namespace Go.Proofs.YtclloplkbajebaaDoor
open Go.RowKit
set_option linter.unusedVariables false
theorem pfParse_cases (s : ByteArray) : ((pfParse s).2 = 5 ∧ (pfParse s).1 = ⟨false, []⟩) ∨ ((pfParse s).2 = 0 ∧ PfMay (pfParse s).1) := by
  by_cases h : IsPf s
  · obtain ⟨p, hp, e⟩ := h
    rw [pfParse_some hp e]
    exact Or.inr ⟨rfl, hp⟩
  · rw [isPf_no h]
    exact Or.inl ⟨rfl, rfl⟩
/-- what Parse tells, opened: a refusal, or a proof of 0, 1 or 2 leaves -/
structure PfOk (w w' : World) (r : PfV × Int) (A : Option Addr) (cap : Nat) (ls : List LfW) : Prop where
  e0 : r.2 = 0
  v : vals ls = r.1.ls
  n : ls.length ≤ 2
  may : ∀ x ∈ ls, LfMay x.l
  at_ : LfsN w' (fun k => k < w.heap.size) A ls
  bel : Below w.heap.size w w'
theorem PfPost.open_ {w w' : World} {s : ByteArray} {x : Ending} (h : PfPost w (pfParse s) x w') :
    ((pfParse s).1 = ⟨false, []⟩ ∧ ∃ A cap, x = .returned (.tuple #[.agg #[.bool false, .slice A 0 cap], .int .i64 5]) ∧ Below w.heap.size w w') ∨
    ∃ A cap ls, x = .returned (.tuple #[.agg #[.bool (pfParse s).1.ab, .slice A (List.length ls) cap], .int .i64 0]) ∧ PfOk w w' (pfParse s) A cap ls := by
  obtain ⟨A, cap, ls, rfl, h1, h2, h3, h4⟩ := h
  rcases pfParse_cases s with ⟨e1, e2⟩ | ⟨e1, e2⟩
  · left
    rw [e2] at h1
    obtain rfl : ls = [] := by
      apply List.eq_nil_of_length_eq_zero
      rw [← vals_len, h1]; rfl
    exact ⟨e2, A, cap, by rw [e1, e2]; rfl, h4⟩
  · right
    refine ⟨A, cap, ls, by rw [e1], e1, h1, ?_, ?_, h3, h4⟩
    · rw [← vals_len, h1]; exact e2.1
    · exact fun x hx => e2.2 x.l (by rw [← h1]; exact List.mem_map_of_mem hx)
section
variable {w w' : World} {S : Nat → Prop} {A : Option Addr} {x y : LfW}
theorem LfsN.head {ls : List LfW} (h : LfsN w S A (x :: ls)) : ∃ b off, A = some ⟨b, off, none⟩ ∧ ¬ S b ∧ b < w.heap.size ∧ IsLf w b off x := by
  obtain ⟨b, off, e, h0, h1, h2, _⟩ := h 0 (by simp)
  rw [Nat.zero_mul, Nat.add_zero] at h2
  exact ⟨b, off, e, h0, h1, h2⟩
theorem LfsN.two {ls : List LfW} (h : LfsN w S A (x :: y :: ls)) : ∃ b off, A = some ⟨b, off, none⟩ ∧ ¬ S b ∧ b < w.heap.size ∧ IsLf w b off x ∧ IsLf w b (off + 5) y := by
  obtain ⟨b, off, e, h0, h1, h2, _⟩ := h 0 (by simp)
  obtain ⟨b', off', e', _, _, h2', _⟩ := h 1 (by simp)
  rw [Nat.zero_mul, Nat.add_zero] at h2
  rw [e] at e'
  simp only [Option.some.injEq, Addr.mk.injEq] at e'
  obtain ⟨rfl, rfl, -⟩ := e'
  rw [Nat.one_mul] at h2'
  exact ⟨b, off, e, h0, h1, h2, h2'⟩
end
theorem hasP_no (root key value : ByteArray) (p : PfV) (h : p.ab = true ∨ p.ls.length ≠ 1) : hasP root key value p = false := by
  obtain ⟨ab, ls⟩ := p
  unfold hasP
  rcases h with h | h
  · simp only at h; subst h; simp
  · simp only at h
    match ls with
    | [] => cases ab <;> rfl
    | [L] => exact absurd rfl h
    | _ :: _ :: _ => cases ab <;> rfl
set_option maxRecDepth 100000 in
set_option maxHeartbeats 4000000 in
theorem pf_has (root s key value : ByteArray) (w : World) (hs : s.size ≤ 100000) (hL : LaidOk w) :
    Calls Tryd.prog 21 #[.string root, .string s, .string key, .string value] w fun x w' => x = .returned (.bool (hasP root key value (pfParse s).1)) ∧ Below w.heap.size w w' := by
  have HP := Lib.hid (pf_parse s w hs)
  have HL := Lib.hid hL
  obtain ⟨H, hH⟩ : ∃ H, H = hasP root key value (pfParse s).1 := ⟨_, rfl⟩
  have HH := Lib.hid hH
  rw [← hH]
  clear hL hs hH
  go_enter Tryd.func21, Tryd.ntmps21
  go_wp2_with fail
  refine HP.out.mono ?_
  intro x w2 hpost
  rcases hpost.open_ with ⟨e1, A, cap, rfl, hb⟩ | ⟨A, cap, ls, rfl, hok⟩
  · have HE : Hid (H = false) := Lib.hid (by rw [HH.out, e1]; rfl)
    have HB : Hid (Below w.heap.size w (w2.alloc (.cells #[.bool false, .slice A 0 cap] 24))) := Lib.hid (hb.trans ((Kq.below_alloc _ _).mono hb.size))
    clear hpost e1 hb HH HP
    go_wp2
    go_ret
    exact ⟨by rw [HE.out]; rfl, HB.out⟩
  · have HOK := Lib.hid hok
    obtain ⟨ab, hab⟩ : ∃ ab, ab = (pfParse s).1.ab := ⟨_, rfl⟩
    have HAB := Lib.hid hab
    have hn := hok.n
    rw [← hab]
    have hbl := Kq.below_alloc w2 (.cells #[.bool ab, .slice A ls.length cap] 24)
    have HB : Hid (Below w.heap.size w (w2.alloc (.cells #[.bool ab, .slice A ls.length cap] 24)) ∧ LfsN (w2.alloc (.cells #[.bool ab, .slice A ls.length cap] 24)) (fun k => k < w.heap.size) A ls) := Lib.hid ⟨hok.bel.trans (hbl.mono hok.bel.size), hok.at_.below hbl⟩
    clear hpost hab hok HP hbl
    cases ab with
    | true =>
      have HE : Hid (H = false) := Lib.hid (by rw [HH.out]; exact hasP_no _ _ _ _ (Or.inl HAB.out.symm))
      clear hn
      go_wp2
      go_ret
      exact ⟨by rw [HE.out]; rfl, HB.out.1⟩
    | false =>
      rcases ls with _ | ⟨x, _ | ⟨y, _ | ⟨z, ls⟩⟩⟩
      · have HE : Hid (H = false) := Lib.hid (by rw [HH.out]; exact hasP_no _ _ _ _ (Or.inr (by rw [← HOK.out.v]; simp [vals])))
        simp only [List.length_nil] at HB ⊢
        clear hn
        go_wp2
        go_ret
        exact ⟨by rw [HE.out]; rfl, HB.out.1⟩
      · have hv : (pfParse s).1.ls = [x.l] := HOK.out.v.symm
        have HMX := Lib.hid (HOK.out.may x (by simp))
        have HV : Hid (H = (decide (x.l.k = key ∧ x.l.v = value) && clB root [x.l])) := Lib.hid (by
          rw [HH.out]
          have hp : (pfParse s).1 = ⟨false, [x.l]⟩ := by
            rw [← hv, HAB.out]
          rw [hp]; rfl)
        have HCL := Lib.hid (pf_climb root _ A cap [x] _ HB.out.2 (HL.out.later HB.out.1) (by simp) (fun z hz => by rw [List.mem_singleton] at hz; rw [hz]; exact HMX.out))
        simp only [List.length_cons, List.length_nil, Nat.zero_add] at HB HCL ⊢
        have HVX : Hid (vals [x] = [x.l]) := Lib.hid rfl
        rw [HVX.out] at HCL
        obtain ⟨b, off, rfl, -, hb, hc⟩ := HB.out.2.head
        obtain ⟨c0, c1, c2, c3, c4⟩ := hc
        obtain ⟨⟨i, c, k, v, p⟩, a, cp⟩ := x
        simp only at c0 c1 c2 c3 c4 HV HCL
        clear hn hv hb HMX HVX c0 c1 c4
        by_cases h1 : k = key
        · subst h1
          have e1 : (k.toList == k.toList) = true := by simp
          by_cases h2 : v = value
          · subst h2
            have e2 : (v.toList == v.toList) = true := by simp
            obtain ⟨CB, hCB⟩ : ∃ CB, CB = clB root [⟨i, c, k, v, p⟩] := ⟨_, rfl⟩
            rw [← hCB] at HCL
            have HE : Hid (H = CB) := Lib.hid (by rw [HV.out, hCB]; simp)
            clear hCB
            go_wp2_with fail
            refine HCL.out.mono ?_
            rintro x w5 ⟨rfl, b5⟩
            have H5 : Hid (Below w.heap.size w w5) := Lib.hid (HB.out.1.trans (b5.mono HB.out.1.size))
            clear b5 HCL
            go_wp2
            go_ret
            exact ⟨by rw [HE.out]; rfl, H5.out⟩
          · have e2 : (v.toList == value.toList) = false := by rw [beq_eq_false_iff_ne]; exact fun h => h2 (toList_inj h)
            have HE : Hid (H = false) := Lib.hid (by rw [HV.out]; simp [h2])
            clear h2
            go_wp2
            go_ret
            exact ⟨by rw [HE.out]; rfl, HB.out.1⟩
        · have e2 : (k.toList == key.toList) = false := by rw [beq_eq_false_iff_ne]; exact fun h => h1 (toList_inj h)
          have HE : Hid (H = false) := Lib.hid (by rw [HV.out]; simp [h1])
          clear h1
          go_wp2
          all_goals
            go_ret
            exact ⟨by rw [HE.out]; rfl, HB.out.1⟩
      · have HE : Hid (H = false) := Lib.hid (by rw [HH.out]; exact hasP_no _ _ _ _ (Or.inr (by rw [← HOK.out.v]; simp [vals])))
        simp only [List.length_cons, List.length_nil, Nat.zero_add, Nat.reduceAdd] at HB ⊢
        clear hn
        go_wp2
        go_ret
        exact ⟨by rw [HE.out]; rfl, HB.out.1⟩
      · exact absurd hn (by simp)
end Go.Proofs.YtclloplkbajebaaDoor
namespace Go.Proofs.YtclloplkbajebaaDoor
open Go.RowKit
set_option linter.unusedVariables false
theorem lacksP_ab (root key : ByteArray) (p : PfV) (h : p.ab = false) : lacksP root key p = false := by
  obtain ⟨ab, ls⟩ := p
  simp only at h; subst h
  unfold lacksP
  simp
theorem lacksP_key (root key : ByteArray) (p : PfV) (h : isKeyB key = false) : lacksP root key p = false := by
  obtain ⟨ab, ls⟩ := p
  unfold lacksP
  split
  all_goals simp [h]
def TwoB (w' : World) (X b off : Nat) (n cap : Nat) (x y : LfW) : Prop :=
  w'.cell? ⟨X, 1, none⟩ = some (.slice (some ⟨b, off, none⟩) n cap) ∧ w'.cell? ⟨b, off, none⟩ = some (.int .i64 x.l.i) ∧ w'.cell? ⟨b, off + 1, none⟩ = some (.int .i64 x.l.c) ∧ w'.cell? ⟨b, off + 2, none⟩ = some (.string x.l.k) ∧ w'.cell? ⟨b, off + 3, none⟩ = some (.string x.l.v) ∧ w'.cell? ⟨b, off + 4, none⟩ = some (.slice x.a x.l.p.length x.cap) ∧
  w'.cell? ⟨b, off + 5, none⟩ = some (.int .i64 y.l.i) ∧ w'.cell? ⟨b, off + 6, none⟩ = some (.int .i64 y.l.c) ∧ w'.cell? ⟨b, off + 7, none⟩ = some (.string y.l.k) ∧ w'.cell? ⟨b, off + 8, none⟩ = some (.string y.l.v) ∧ w'.cell? ⟨b, off + 9, none⟩ = some (.slice y.a y.l.p.length y.cap)
theorem TwoB.of {w' : World} {X b off n cap : Nat} {x y : LfW} (h : w'.cell? ⟨X, 1, none⟩ = some (.slice (some ⟨b, off, none⟩) n cap)) (hx : IsLf w' b off x) (hy : IsLf w' b (off + 5) y) : TwoB w' X b off n cap x y :=
  ⟨h, hx.c0, hx.c1, hx.c2, hx.c3, hx.c4, hy.c0, hy.c1, hy.c2, hy.c3, hy.c4⟩
theorem TwoB.below {w w' : World} {X b off n cap : Nat} {x y : LfW} (h : TwoB w X b off n cap x y) (hX : X < w.heap.size) (hb : b < w.heap.size) (hbl : Below w.heap.size w w') : TwoB w' X b off n cap x y := by
  obtain ⟨h0, h1, h2, h3, h4, h5, h6, h7, h8, h9, h10⟩ := h
  have q := fun i => hbl.cell (p := ⟨b, i, none⟩) hb
  exact ⟨(hbl.cell (p := ⟨X, 1, none⟩) hX).trans h0, (q _).trans h1, (q _).trans h2, (q _).trans h3, (q _).trans h4, (q _).trans h5, (q _).trans h6, (q _).trans h7, (q _).trans h8, (q _).trans h9, (q _).trans h10⟩
set_option maxRecDepth 100000 in
set_option maxHeartbeats 4000000 in
theorem pf_lacks (root s key : ByteArray) (w : World) (hs : s.size ≤ 100000) (hL : LaidOk w) :
    Calls Tryd.prog 23 #[.string root, .string s, .string key] w fun x w' => x = .returned (.bool (lacksP root key (pfParse s).1)) ∧ Below w.heap.size w w' := by
  have HP := Lib.hid (pf_parse s w hs)
  have HL := Lib.hid hL
  have HK := Lib.hid (fun w => pf_isKey key w)
  obtain ⟨H, hH⟩ : ∃ H, H = lacksP root key (pfParse s).1 := ⟨_, rfl⟩
  have HH := Lib.hid hH
  rw [← hH]
  obtain ⟨KB, hKB⟩ : ∃ KB, KB = isKeyB key := ⟨_, rfl⟩
  have HKB := Lib.hid hKB
  rw [← hKB] at HK
  clear hL hs hH hKB
  go_enter Tryd.func23, Tryd.ntmps23
  go_wp2_with fail
  refine HP.out.mono ?_
  intro x w2 hpost
  rcases hpost.open_ with ⟨e1, A, cap, rfl, hb⟩ | ⟨A, cap, ls, rfl, hok⟩
  · have HE : Hid (H = false) := Lib.hid (by rw [HH.out, e1]; rfl)
    have HB : Hid (Below w.heap.size w (w2.alloc (.cells #[.bool false, .slice A 0 cap] 24))) := Lib.hid (hb.trans ((Kq.below_alloc _ _).mono hb.size))
    clear hpost e1 hb HH HP
    go_wp2
    go_ret
    exact ⟨by rw [HE.out]; rfl, HB.out⟩
  · have HOK := Lib.hid hok
    obtain ⟨ab, hab⟩ : ∃ ab, ab = (pfParse s).1.ab := ⟨_, rfl⟩
    have HAB := Lib.hid hab
    have hn := hok.n
    rw [← hab]
    have hbl := Kq.below_alloc w2 (.cells #[.bool ab, .slice A ls.length cap] 24)
    have HB : Hid (Below w.heap.size w (w2.alloc (.cells #[.bool ab, .slice A ls.length cap] 24)) ∧ LfsN (w2.alloc (.cells #[.bool ab, .slice A ls.length cap] 24)) (fun k => k < w.heap.size) A ls ∧ PBk (w2.alloc (.cells #[.bool ab, .slice A ls.length cap] 24)) w2.heap.size ab (.slice A ls.length cap)) := Lib.hid ⟨hok.bel.trans (hbl.mono hok.bel.size), hok.at_.below hbl, ⟨Kq.blk_new _ _ _ _⟩⟩
    clear hpost hab hok HP hbl
    cases ab with
    | false =>
      have HE : Hid (H = false) := Lib.hid (by rw [HH.out]; exact lacksP_ab _ _ _ HAB.out.symm)
      clear hn
      go_wp2
      go_ret
      exact ⟨by rw [HE.out]; rfl, HB.out.1⟩
    | true =>
      go_wp2_with fail
      refine (HK.out _).mono ?_
      rintro x w3 ⟨rfl, rfl⟩
      cases KB with
      | false =>
        have HE : Hid (H = false) := Lib.hid (by rw [HH.out]; exact lacksP_key _ _ _ HKB.out.symm)
        clear hn
        go_wp2
        go_ret
        exact ⟨by rw [HE.out]; rfl, HB.out.1⟩
      | true =>
        have hp : (pfParse s).1 = ⟨true, vals ls⟩ := by rw [HOK.out.v, HAB.out]
        rcases ls with _ | ⟨x, _ | ⟨y, _ | ⟨z, ls⟩⟩⟩
        · have HV : Hid (H = decide (root = rootL [])) := Lib.hid (by
            rw [HH.out, hp]
            show (isKeyB key && _) = _
            rw [← HKB.out, Bool.true_and])
          have HR := Lib.hid (mk_root [] none 0 (w2.alloc (.cells #[.bool true, .slice A 0 cap] 24)) (by simp) (fun p hp => by cases hp) (fun j hj => absurd hj (by simp)) (HL.out.later HB.out.1) (by simp))
          have HRL : Hid (dgT (topT ([] : List PairV).length (digL [])) = rootL []) := Lib.hid rfl
          rw [HRL.out] at HR
          obtain ⟨RN, hRN⟩ : ∃ RN, RN = rootL [] := ⟨_, rfl⟩
          rw [← hRN] at HR HV
          simp only [List.length_nil] at HB HR ⊢
          clear hn hp HRL hRN
          go_wp2_with fail
          refine HR.out.mono ?_
          rintro x w5 ⟨rfl, b5⟩
          have H5 : Hid (Below w.heap.size w w5) := Lib.hid (HB.out.1.trans (b5.mono HB.out.1.size))
          clear b5 HR
          have HEQ : Hid ((root.toList == RN.toList) = decide (root = RN)) := Lib.hid (by
            by_cases h : root = RN
            · subst h; simp
            · rw [decide_eq_false h, beq_eq_false_iff_ne]; exact fun e => h (toList_inj e))
          go_wp2
          go_ret
          exact ⟨by rw [HV.out, ← HEQ.out]; rfl, H5.out⟩
        · have hmx := HOK.out.may x (by simp)
          have HMX := Lib.hid hmx
          have HV : Hid (H = (outB key x.l && clB root [x.l])) := Lib.hid (by
            rw [HH.out, hp]
            show ((isKeyB key && _) && _) = _
            rw [← HKB.out, Bool.true_and])
          have HCL := Lib.hid (fun (w' : World) (h1 : LfsN w' (fun k => k < w.heap.size) A [x]) (h2 : LaidOk w') => pf_climb root _ A cap [x] w' h1 h2 (by simp) (fun z hz => by rw [List.mem_singleton] at hz; rw [hz]; exact hmx))
          have HVX : Hid (vals [x] = [x.l]) := Lib.hid rfl
          rw [HVX.out] at HCL
          simp only [List.length_cons, List.length_nil, Nat.zero_add] at HB HCL ⊢
          obtain ⟨b, off, rfl, -, hb, hc⟩ := HB.out.2.1.head
          have HOU := Lib.hid (pf_outside key x (w2.alloc (.cells #[.bool true, .slice (some ⟨b, off, none⟩) 1 cap] 24)) hmx.int)
          have hX := HB.out.2.2.lt
          have HBX := Lib.hid (And.intro hb hX)
          obtain ⟨OB, hOB⟩ : ∃ OB, OB = outB key x.l := ⟨_, rfl⟩
          obtain ⟨CB, hCB⟩ : ∃ CB, CB = clB root [x.l] := ⟨_, rfl⟩
          rw [← hOB] at HOU HV
          rw [← hCB] at HCL HV
          obtain ⟨c0, c1, c2, c3, c4⟩ := hc
          obtain ⟨⟨i, c, k, v, p⟩, a, cp⟩ := x
          simp only at c0 c1 c2 c3 c4
          simp only [LfW.val] at HOU
          clear hn hp hmx hb hX HMX HVX hOB hCB
          go_wp2_with fail
          refine HOU.out.mono ?_
          rintro x w5 ⟨rfl, b5⟩
          have H5 : Hid (Below w.heap.size w w5 ∧ LfsN w5 (fun k => k < w.heap.size) (some ⟨b, off, none⟩) [⟨⟨i, c, k, v, p⟩, a, cp⟩] ∧ PBk w5 w2.heap.size true (.slice (some ⟨b, off, none⟩) 1 cap)) := Lib.hid ⟨HB.out.1.trans (b5.mono HB.out.1.size), HB.out.2.1.below b5, HB.out.2.2.below b5⟩
          have d1 := H5.out.2.2.c1
          clear b5 HOU c0 c1 c2 c3 c4 HB
          cases OB with
          | false =>
            have HE : Hid (H = false) := Lib.hid (by rw [HV.out]; rfl)
            go_wp2
            go_ret
            exact ⟨by rw [HE.out]; rfl, H5.out.1⟩
          | true =>
            have HE : Hid (H = CB) := Lib.hid (by rw [HV.out]; rfl)
            go_wp2_with fail
            refine (HCL.out w5 H5.out.2.1 (HL.out.later H5.out.1)).mono ?_
            rintro x w6 ⟨rfl, b6⟩
            have H6 : Hid (Below w.heap.size w w6) := Lib.hid (H5.out.1.trans (b6.mono H5.out.1.size))
            clear b6 HCL d1
            go_wp2
            go_ret
            exact ⟨by rw [HE.out]; rfl, H6.out⟩
        · have hmx := HOK.out.may x (by simp)
          have hmy := HOK.out.may y (by simp)
          have HV : Hid (H = (betB key x.l y.l && clB root [x.l, y.l])) := Lib.hid (by
            rw [HH.out, hp]
            show ((isKeyB key && _) && _) = _
            rw [← HKB.out, Bool.true_and])
          have HCL := Lib.hid (fun (w' : World) (h1 : LfsN w' (fun k => k < w.heap.size) A [x, y]) (h2 : LaidOk w') => pf_climb root _ A cap [x, y] w' h1 h2 (by simp) (fun z hz => by
            simp only [List.mem_cons, List.not_mem_nil, or_false] at hz
            rcases hz with rfl | rfl
            · exact hmx
            · exact hmy))
          have HVX : Hid (vals [x, y] = [x.l, y.l]) := Lib.hid rfl
          rw [HVX.out] at HCL
          simp only [List.length_cons, List.length_nil, Nat.zero_add, Nat.reduceAdd] at HB HCL ⊢
          obtain ⟨b, off, rfl, -, hb, hc, hc'⟩ := HB.out.2.1.two
          have HTW := Lib.hid (TwoB.of HB.out.2.2.c1 hc hc')
          have HBE := Lib.hid (fun w' => pf_between key x y w' hmx.int hmy.int)
          have hX := HB.out.2.2.lt
          have HBX := Lib.hid (And.intro hb hX)
          obtain ⟨OB, hOB⟩ : ∃ OB, OB = betB key x.l y.l := ⟨_, rfl⟩
          obtain ⟨CB, hCB⟩ : ∃ CB, CB = clB root [x.l, y.l] := ⟨_, rfl⟩
          rw [← hOB] at HBE HV
          rw [← hCB] at HCL HV
          clear hn hp hmx hmy hb hX HVX hOB hCB hc hc'
          obtain ⟨⟨i, c, k, v, p⟩, a, cp⟩ := x
          obtain ⟨⟨i', c', k', v', p'⟩, a', cp'⟩ := y
          simp only [LfW.val] at HBE
          unfold TwoB at HTW
          simp only at HTW
          obtain ⟨w4, hw4⟩ : ∃ z, z = w2.alloc (.cells #[.bool true, .slice (some ⟨b, off, none⟩) 2 cap] 24) := ⟨_, rfl⟩
          obtain ⟨X, hX⟩ : ∃ X, X = w2.heap.size := ⟨_, rfl⟩
          rw [← hw4] at HB HTW HBX
          rw [← hX] at HB HTW HBX
          have HT := Lib.hid (fun w' (hb : Below w4.heap.size w4 w') => TwoB.below (x := ⟨⟨i, c, k, v, p⟩, a, cp⟩) (y := ⟨⟨i', c', k', v', p'⟩, a', cp'⟩) HTW.out HBX.out.2 HBX.out.1 hb)
          go_wp2
          rw [← hw4, ← hX]
          clear hw4 hX
          have b0 : Below w4.heap.size w4 w4.drew := (Below.refl _ _).drew
          have HZ0 : Hid (Below w.heap.size w w4.drew ∧ LfsN w4.drew (fun k => k < w.heap.size) (some ⟨b, off, none⟩) [⟨⟨i, c, k, v, p⟩, a, cp⟩, ⟨⟨i', c', k', v', p'⟩, a', cp'⟩] ∧ Below w4.heap.size w4 w4.drew) := Lib.hid ⟨HB.out.1.drew, HB.out.2.1.below b0, b0⟩
          clear b0 HB
          refine wp_region_held_drew (S := fun w' => TwoB w' X b off 2 cap ⟨⟨i, c, k, v, p⟩, a, cp⟩ ⟨⟨i', c', k', v', p'⟩, a', cp'⟩) (by kernel_rfl) (HT.out _ HZ0.out.2.2) (fun hS0 => ?_)
          generalize w4.drew = z0 at *
          unfold TwoB at hS0
          dsimp only [TwoB]
          dsimp only at hS0
          refine wpAnyH_take (i := 0) (v := ?_) rfl (by kernel_rfl) (by kernel_rfl) (by kernel_rfl) (fun _ _ _ h => h) (Or.inl ⟨by kernel_rfl, ?_⟩) (by assumption) ?_
          rotate_left
          · intro w hSw; (try dsimp only at hSw); go_simp; (try with_reducible rfl)
          refine wpAnyH_take (i := 1) (v := ?_) rfl (by kernel_rfl) (by kernel_rfl) (by kernel_rfl) (fun _ _ _ h => h) (Or.inl ⟨by kernel_rfl, ?_⟩) (by assumption) ?_
          rotate_left
          · intro w hSw; (try dsimp only at hSw); go_simp; (try with_reducible rfl)
          refine wpAnyH_take (i := 2) (v := ?_) rfl (by kernel_rfl) (by kernel_rfl) (by kernel_rfl) (fun _ _ _ h => h) (Or.inl ⟨by kernel_rfl, ?_⟩) (by assumption) ?_
          rotate_left
          · intro w hSw; (try dsimp only at hSw); go_simp; (try with_reducible rfl)
          refine wpAnyH_take (i := 3) (v := ?_) rfl (by kernel_rfl) (by kernel_rfl) (by kernel_rfl) (fun _ _ _ h => h) (Or.inl ⟨by kernel_rfl, ?_⟩) (by assumption) ?_
          rotate_left
          · intro w hSw; (try dsimp only at hSw); go_simp; (try with_reducible rfl)
          refine wpAnyH_take (i := 4) (v := ?_) rfl (by kernel_rfl) (by kernel_rfl) (by kernel_rfl) (fun _ _ _ h => h) (Or.inl ⟨by kernel_rfl, ?_⟩) (by assumption) ?_
          rotate_left
          · intro w hSw; (try dsimp only at hSw); go_simp; (try with_reducible rfl)
          refine wpAnyH_take (i := 5) (v := ?_) rfl (by kernel_rfl) (by kernel_rfl) (by kernel_rfl) (fun _ _ _ h => h) (Or.inl ⟨by kernel_rfl, ?_⟩) (by assumption) ?_
          rotate_left
          · intro w hSw; (try dsimp only at hSw); go_simp; (try with_reducible rfl)
          refine wpAnyH_take (i := 6) (v := ?_) rfl (by kernel_rfl) (by kernel_rfl) (by kernel_rfl) (fun _ _ _ h => h) (Or.inl ⟨by kernel_rfl, ?_⟩) (by assumption) ?_
          rotate_left
          · intro w hSw; (try dsimp only at hSw); go_simp; (try with_reducible rfl)
          refine wpAnyH_take (i := 7) (v := ?_) rfl (by kernel_rfl) (by kernel_rfl) (by kernel_rfl) (fun _ _ _ h => h) (Or.inl ⟨by kernel_rfl, ?_⟩) (by assumption) ?_
          rotate_left
          · intro w hSw; (try dsimp only at hSw); go_simp; (try with_reducible rfl)
          refine wpAnyH_take (i := 8) (v := ?_) rfl (by kernel_rfl) (by kernel_rfl) (by kernel_rfl) (fun _ _ _ h => h) (Or.inl ⟨by kernel_rfl, ?_⟩) (by assumption) ?_
          rotate_left
          · intro w hSw; (try dsimp only at hSw); go_simp; (try with_reducible rfl)
          refine wpAnyH_ready (rs := [9]) (by kernel_rfl) (by simp) ?_
          refine AllReadyH.cons rfl (fun K hK => ?_) AllReadyH.nil
          go_simp
          refine (HBE.out z0).mono ?_
          rintro x z1 ⟨rfl, b1⟩
          have HZ1 : Hid (Below w.heap.size w z1 ∧ LfsN z1 (fun k => k < w.heap.size) (some ⟨b, off, none⟩) [⟨⟨i, c, k, v, p⟩, a, cp⟩, ⟨⟨i', c', k', v', p'⟩, a', cp'⟩] ∧ Below w4.heap.size w4 z1) := Lib.hid ⟨HZ0.out.1.trans (b1.mono HZ0.out.1.size), HZ0.out.2.1.below b1, HZ0.out.2.2.trans (b1.mono HZ0.out.2.2.size)⟩
          clear b1 HZ0 HBE hS0
          refine hK.out _ _ (HT.out _ HZ1.out.2.2) (fun hS0 => ?_)
          clear hK K
          cases OB with
          | false =>
            have HE : Hid (H = false) := Lib.hid (by rw [HV.out]; rfl)
            refine wpAnyH_take (i := 10) (v := ?_) rfl (by kernel_rfl) (by kernel_rfl) (by kernel_rfl) (fun _ _ _ h => h) (Or.inl ⟨by kernel_rfl, ?_⟩) (by assumption) ?_
            rotate_left
            · intro w hSw; (try dsimp only at hSw); go_simp; (try with_reducible rfl)
            refine wpAnyH_take (i := 11) (v := undef) rfl (by kernel_rfl) (by kernel_rfl) (by kernel_rfl) (fun _ _ _ h => h) (Or.inr ⟨by kernel_rfl, rfl⟩) (by assumption) ?_
            refine wpAnyH_take (i := 12) (v := undef) rfl (by kernel_rfl) (by kernel_rfl) (by kernel_rfl) (fun _ _ _ h => h) (Or.inr ⟨by kernel_rfl, rfl⟩) (by assumption) ?_
            refine wpAnyH_take (i := 13) (v := undef) rfl (by kernel_rfl) (by kernel_rfl) (by kernel_rfl) (fun _ _ _ h => h) (Or.inr ⟨by kernel_rfl, rfl⟩) (by assumption) ?_
            refine wpAnyH_take (i := 14) (v := undef) rfl (by kernel_rfl) (by kernel_rfl) (by kernel_rfl) (fun _ _ _ h => h) (Or.inr ⟨by kernel_rfl, rfl⟩) (by assumption) ?_
            refine wpAnyH_take (i := 15) (v := ?_) rfl (by kernel_rfl) (by kernel_rfl) (by kernel_rfl) (fun _ _ _ h => h) (Or.inl ⟨by kernel_rfl, ?_⟩) (by assumption) ?_
            rotate_left
            · intro w hSw; (try dsimp only at hSw); go_simp; (try with_reducible rfl)
            refine wpAnyH_take (i := 16) (v := ?_) rfl (by kernel_rfl) (by kernel_rfl) (by kernel_rfl) (fun _ _ _ h => h) (Or.inl ⟨by kernel_rfl, ?_⟩) (by assumption) ?_
            rotate_left
            · intro w hSw; (try dsimp only at hSw); go_simp; (try with_reducible rfl)
            refine wpAnyH_done (by kernel_rfl) ?_ _
            go_simp
            go_wp2
            go_ret
            exact ⟨by rw [HE.out]; rfl, HZ1.out.1⟩
          | true =>
            have HE : Hid (H = CB) := Lib.hid (by rw [HV.out]; rfl)
            refine wpAnyH_take (i := 10) (v := ?_) rfl (by kernel_rfl) (by kernel_rfl) (by kernel_rfl) (fun _ _ _ h => h) (Or.inl ⟨by kernel_rfl, ?_⟩) (by assumption) ?_
            rotate_left
            · intro w hSw; (try dsimp only at hSw); go_simp; (try with_reducible rfl)
            refine wpAnyH_take (i := 11) (v := ?_) rfl (by kernel_rfl) (by kernel_rfl) (by kernel_rfl) (fun _ _ _ h => h) (Or.inl ⟨by kernel_rfl, ?_⟩) (by assumption) ?_
            rotate_left
            · intro w hSw; (try dsimp only at hSw); go_simp; (try with_reducible rfl)
            refine wpAnyH_take (i := 12) (v := ?_) rfl (by kernel_rfl) (by kernel_rfl) (by kernel_rfl) (fun _ _ _ h => h) (Or.inl ⟨by kernel_rfl, ?_⟩) (by assumption) ?_
            rotate_left
            · intro w hSw; (try dsimp only at hSw); go_simp; (try with_reducible rfl)
            refine wpAnyH_take (i := 13) (v := ?_) rfl (by kernel_rfl) (by kernel_rfl) (by kernel_rfl) (fun _ _ _ h => h) (Or.inl ⟨by kernel_rfl, ?_⟩) (by assumption) ?_
            rotate_left
            · intro w hSw; (try dsimp only at hSw); go_simp; (try with_reducible rfl)
            refine wpAnyH_ready (rs := [14]) (by kernel_rfl) (by simp) ?_
            refine AllReadyH.cons rfl (fun K hK => ?_) AllReadyH.nil
            go_simp
            refine (HCL.out z1 HZ1.out.2.1 (HL.out.later HZ1.out.1)).mono ?_
            rintro x z2 ⟨rfl, b2⟩
            have HZ2 : Hid (Below w.heap.size w z2 ∧ Below w4.heap.size w4 z2) := Lib.hid ⟨HZ1.out.1.trans (b2.mono HZ1.out.1.size), HZ1.out.2.2.trans (b2.mono HZ1.out.2.2.size)⟩
            clear b2 HCL HZ1 hS0
            refine hK.out _ _ (HT.out _ HZ2.out.2) (fun hS0 => ?_)
            clear hK K
            refine wpAnyH_take (i := 15) (v := ?_) rfl (by kernel_rfl) (by kernel_rfl) (by kernel_rfl) (fun _ _ _ h => h) (Or.inl ⟨by kernel_rfl, ?_⟩) (by assumption) ?_
            rotate_left
            · intro w hSw; (try dsimp only at hSw); go_simp; (try with_reducible rfl)
            refine wpAnyH_take (i := 16) (v := ?_) rfl (by kernel_rfl) (by kernel_rfl) (by kernel_rfl) (fun _ _ _ h => h) (Or.inl ⟨by kernel_rfl, ?_⟩) (by assumption) ?_
            rotate_left
            · intro w hSw; (try dsimp only at hSw); go_simp; (try with_reducible rfl)
            refine wpAnyH_done (by kernel_rfl) ?_ _
            go_simp
            go_wp2
            go_ret
            exact ⟨by rw [HE.out]; rfl, HZ2.out.1⟩
        · exact absurd hn (by simp)
end Go.Proofs.YtclloplkbajebaaDoor
