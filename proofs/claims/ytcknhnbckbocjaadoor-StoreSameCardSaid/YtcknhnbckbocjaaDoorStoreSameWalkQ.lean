/- carracklaw11.StoreSame walked. Condition: the constants lie where they lie. -/
import Derived.WalkSpells
import Derived.Outline
import Derived.Deep.RegionHeld
import Derived.Deep.QuietTactic
import Derived.BigQuiet
import Derived.Test.YtcknhnbckbocjaaDoorStBigQ
import Derived.Test.YtcknhnbckbocjaaDoorStRPairsQ
import Derived.Test.YtcknhnbckbocjaaDoorMkOpenQ
import Derived.Test.YtcknhnbckbocjaaDoorHeldLastQ
namespace Go.Proofs.YtcknhnbckbocjaaDoor
open Go.RowKit
set_option linter.unusedVariables false
namespace storeSame
/-- the texts of the law -/
abbrev gone : ByteArray := ⟨#[103, 111, 110, 101]⟩
abbrev old : ByteArray := ⟨#[111, 108, 100]⟩
/-- keys pairwise unlike -/
def DK (l : List PairV) : Prop := l.Pairwise (fun a b => a.1 ≠ b.1)
theorem dk_of {l : List PairV} (h : SortL l) : DK l := h.imp (fun h => lt_ne h)
theorem lk_app : ∀ (a b : List PairV) (k : ByteArray), lk (a ++ b) k = (lk a k).or (lk b k)
  | [], b, k => rfl
  | p :: a, b, k => by
    rw [List.cons_append]
    show (if p.1 = k then some p.2 else lk (a ++ b) k) = (if p.1 = k then some p.2 else lk a k).or (lk b k)
    by_cases e : p.1 = k
    · rw [if_pos e, if_pos e]; rfl
    · rw [if_neg e, if_neg e]; exact lk_app a b k
theorem lk_none : ∀ (l : List PairV) (k : ByteArray), (∀ q ∈ l, q.1 ≠ k) → lk l k = none
  | [], _, _ => rfl
  | p :: l, k, h => by
    unfold lk
    rw [if_neg (h p List.mem_cons_self)]
    exact lk_none l k (fun q hq => h q (List.mem_cons_of_mem _ hq))
theorem dk_mem : ∀ (l : List PairV) (k v : ByteArray), DK l → (k, v) ∈ l → lk l k = some v
  | p :: l, k, v, hs, h => by
    unfold lk
    obtain ⟨h1, h2⟩ := List.pairwise_cons.1 hs
    rcases List.mem_cons.1 h with h | h
    · subst h; exact if_pos rfl
    · rw [if_neg (h1 _ h)]; exact dk_mem l k v h2 h
theorem lk_take {l : List PairV} (h : DK l) (i : Nat) (hi : i < l.length) (k : ByteArray) : lk (l.take (i + 1)) k = if k = l[i].1 then some l[i].2 else lk (l.take i) k := by
  rw [List.take_succ_eq_append_getElem hi, lk_app]
  have hone : lk [l[i]] k = if l[i].1 = k then some l[i].2 else none := rfl
  rw [hone]
  by_cases e : k = l[i].1
  · rw [if_pos e, if_pos e.symm]
    rw [lk_none (l.take i) k (fun q hq => ?_)]
    · rfl
    · obtain ⟨j, hj, rfl⟩ := List.getElem_of_mem hq
      rw [List.length_take] at hj
      rw [List.getElem_take, e]
      exact List.pairwise_iff_getElem.1 h j i (by omega) hi (by omega)
  · rw [if_neg e, if_neg (fun e' => e e'.symm), Option.or_none]
/-- a rotation -/
def rot (l : List PairV) (t : Nat) : List PairV := l.drop t ++ l.take t
theorem rot_perm (l : List PairV) (t : Nat) : (rot l t).Perm l := by
  unfold rot
  exact (List.perm_append_comm).trans (by rw [List.take_append_drop])
theorem rot_dk {l : List PairV} (h : DK l) (t : Nat) : DK (rot l t) := ((rot_perm l t).pairwise_iff (fun {a b} h e => h e.symm)).2 h
theorem rot_lk {l : List PairV} (h : DK l) (t : Nat) (k : ByteArray) : lk (rot l t) k = lk l k := by
  cases e : lk l k with
  | some v => exact dk_mem _ _ _ (rot_dk h t) ((rot_perm l t).mem_iff.2 (lk_mem _ _ _ e))
  | none =>
    cases e2 : lk (rot l t) k with
    | none => rfl
    | some v =>
      have := dk_mem _ _ _ h ((rot_perm l t).mem_iff.1 (lk_mem _ _ _ e2))
      rw [e] at this; cases this
theorem rot_len (l : List PairV) (t : Nat) : (rot l t).length = l.length := (rot_perm l t).length_eq
/-- a store whose blocks are as at first -/
def stA (m : List PairV) (f : Nat) : StV := ⟨m, f, [[]]⟩
theorem set_put {m : List PairV} {f : Nat} {k v : ByteArray} (hb : badKV k v = false) (hm : m.length < 4096) : setV (stA m f) k v = (stA (insP m k v) f, 0) := by
  unfold setV
  rw [if_neg (by simp [hb]), if_neg (fun h => (by have h2 : 4096 ≤ m.length := h.2; omega))]
  rfl
theorem ins_len {m : List PairV} (h : SortL m) (k v : ByteArray) : (insP m k v).length ≤ m.length + 1 := by rw [len_ins m k v h]; split <;> omega
/-- what 'gone' left -/
def g0 (x k : ByteArray) : Option ByteArray := if badKV x gone = true then none else if k = x then some gone else none
theorem set_gone (x : ByteArray) : ∃ m, (setV (newV 9) x gone).1 = stA m 9 ∧ m.length ≤ 1 ∧ ∀ k, lk m k = g0 x k := by
  unfold g0
  by_cases h : badKV x gone = true
  · refine ⟨[], ?_, Nat.zero_le _, fun k => by rw [if_pos h]; rfl⟩
    unfold setV
    rw [if_pos h]; rfl
  · have h2 : badKV x gone = false := by simpa using h
    refine ⟨insP [] x gone, ?_, Nat.le_refl _, fun k => by rw [if_neg h, lk_ins]; rfl⟩
    have := set_put (m := []) (f := 9) h2 (by decide)
    rw [show newV 9 = stA [] 9 from rfl, this]
theorem del_gone {m : List PairV} {x : ByteArray} {l : List PairV} (hm : SortL m) (hlk : ∀ k, lk m k = (lk l k).or (g0 x k)) (hx : lk l x = none) : ∃ m', (delV (stA m 9) x).1 = stA m' 9 ∧ ∀ k, lk m' k = lk l k := by
  have hg : ∀ k, k ≠ x → g0 x k = none := fun k hk => by unfold g0; rw [if_neg hk]; split <;> rfl
  unfold delV
  by_cases h : lk m x = none
  · refine ⟨m, by rw [if_pos (show lk (stA m 9).now x = none from h)], fun k => ?_⟩
    by_cases e : k = x
    · rw [e, h, hx]
    · rw [hlk, hg k e, Option.or_none]
  · refine ⟨delP m x, by rw [if_neg (show ¬ lk (stA m 9).now x = none from h)]; rfl, fun k => ?_⟩
    rw [lk_del _ _ _ hm]
    by_cases e : k = x
    · rw [if_pos e, e, hx]
    · rw [if_neg e, hlk, hg k e, Option.or_none]
theorem keep_gone {m l : List PairV} {x : ByteArray} (hlk : ∀ k, lk m k = (lk l k).or (g0 x k)) (hx : lk l x ≠ none) (k : ByteArray) : lk m k = lk l k := by
  rw [hlk]
  by_cases e : k = x
  · subst e
    cases h : lk l k with
    | none => exact absurd h hx
    | some v => rfl
  · have : g0 x k = none := by unfold g0; rw [if_neg e]; split <;> rfl
    rw [this, Option.or_none]
theorem com_stA (l : List PairV) : comV (stA l 1) = (⟨l, 1, [[], l]⟩, 2, 0) := rfl
theorem com_stB (l : List PairV) : comV (stA l 9) = (⟨l, 9, [[], l]⟩, 10, 0) := rfl
theorem comR_A (l : List PairV) : comR (stA l 1) = .tuple #[.int .u64 2, .int .i64 0] := rfl
theorem comR_B (l : List PairV) : comR (stA l 9) = .tuple #[.int .u64 10, .int .i64 0] := rfl
theorem root_A (l : List PairV) : rootV ⟨l, 1, [[], l]⟩ 2 = (rootP l, 0) := rfl
theorem root_B (l : List PairV) : rootV ⟨l, 9, [[], l]⟩ 10 = (rootP l, 0) := rfl
theorem at_B (l : List PairV) : atV ⟨l, 9, [[], l]⟩ 10 = (l, 0) := rfl
def Yes (l : List PairV) (t : Int) : Prop := l.length ≤ 40 ∧ chkE l = 0 ∧ 0 ≤ t ∧ t ≤ (l.length : Int)
/-- the law's ground -/
structure Gp (W w : World) (A : Option Addr) (l : List PairV) : Prop where
  laid : LaidOk W
  at_ : PsLo W W.heap.size A l
  bel : Below W.heap.size W w
section
variable {W w w' : World} {A : Option Addr} {l : List PairV}
theorem Gp.far (h : Gp W w A l) (hb : Below w.heap.size w w') : Gp W w' A l := ⟨h.laid, h.at_, h.bel.trans (hb.mono h.bel.size)⟩
theorem Gp.fb {F : Nat → Prop} (h : Gp W w A l) (hb : Fb F w w') (hF : ∀ k, k < W.heap.size → F k) : Gp W w' A l := ⟨h.laid, h.at_, h.bel.trans (Kq.Keeps.below hb h.bel.size (fun k _ hn => Nat.le_of_not_lt (fun hl => hn (hF k hl))))⟩
theorem Gp.ok (h : Gp W w A l) : LaidOk w := h.laid.later h.bel
theorem Gp.pa (h : Gp W w A l) : PsAt w A l := (h.at_.below h.bel).at
theorem Gp.size (h : Gp W w A l) : W.heap.size ≤ w.heap.size := h.bel.size
end
set_option maxRecDepth 100000 in
set_option maxHeartbeats 1000000 in
theorem early (x : ByteArray) (t : Int) (A : Option Addr) (ca : Nat) (l : List PairV) (W : World) (h : Gp W W A l) (hno : ¬ Yes l t) :
    Calls Tryd.prog 5 #[.slice A l.length ca, .int .i64 t, .string x] W fun x w' => x = .returned (.bool true) ∧ Below W.heap.size W w' := by
  have HG := Lib.hid (And.intro h hno)
  clear h hno
  go_enter Tryd.func5, Tryd.ntmps5
  go_wp2_with fail
  refine (awake11 W).mono ?_
  rintro x w1 ⟨rfl, b1⟩
  have H1 := Lib.hid (HG.out.1.far b1)
  clear b1
  by_cases l1 : 40 < l.length
  · have d1 : decide ((40 : Int) < (l.length : Int)) = true := decide_eq_true (by omega)
    have d1' : decide (40 < l.length) = true := decide_eq_true l1
    clear l1
    go_wp2
    go_ret
    exact ⟨rfl, H1.out.bel⟩
  have d1 : decide ((40 : Int) < (l.length : Int)) = false := decide_eq_false (by omega)
  have d1' : decide (40 < l.length) = false := decide_eq_false l1
  have HL : Hid (l.length ≤ 40) := Lib.hid (by omega)
  clear l1
  go_wp2_with fail
  refine (mk_check l A ca w1 H1.out.pa HL.out).mono ?_
  rintro x w2 ⟨rfl, b2⟩
  have H2 := Lib.hid (H1.out.far b2)
  clear b2 H1
  by_cases c1 : chkE l = 0
  · rw [c1]
    have hl := HL.out
    by_cases t0 : t < 0
    · have d2 : decide (t < 0) = true := decide_eq_true t0
      clear c1 t0 hl
      go_wp2
      go_ret
      exact ⟨rfl, H2.out.bel⟩
    have d2 : decide (t < 0) = false := decide_eq_false t0
    have d3 : decide ((l.length : Int) < t) = true := decide_eq_true (by
      refine Int.lt_of_not_ge (fun h => HG.out.2 ⟨hl, c1, by omega, h⟩))
    clear c1 t0 hl
    go_wp2
    go_ret
    exact ⟨rfl, H2.out.bel⟩
  · have c1' : (chkE l != 0) = true := by rw [bne_iff_ne]; exact c1
    generalize chkE l = cl at *
    clear c1
    go_wp2
    go_ret
    exact ⟨rfl, H2.out.bel⟩
def PrB (w : World) (b o : Nat) (p : PairV) : Prop := w.cell? ⟨b, o, none⟩ = some (.string p.1) ∧ w.cell? ⟨b, o + 1, none⟩ = some (.string p.2)
/-- behind i pairs of the first loop -/
def RA (W w : World) (A : Option Addr) (l : List PairV) (Ba Bb i : Nat) : Prop := ∃ m, St2F (· < W.heap.size) w Ba Bb (stA m 1) (newV 9) ∧ StOk (stA m 1) ∧ m.length ≤ i ∧ (∀ k, lk m k = lk (l.take i) k) ∧ Gp W w A l
/-- behind i pairs of the second loop -/
def RB (W w : World) (F : Nat → Prop) (A Ax : Option Addr) (l q : List PairV) (x : ByteArray) (Ba Bb i : Nat) : Prop := ∃ m, St2F F w Bb Ba (stA m 9) (stA l 1) ∧ StOk (stA m 9) ∧ m.length ≤ i + 1 ∧ (∀ k, lk m k = (lk (q.take i) k).or (g0 x k)) ∧ Gp W w A l ∧ PsF F w Ax q ∧ FrW F w ∧ ∀ k, k < W.heap.size → F k
theorem key_ok {l : List PairV} (hc : chkE l = 0) {p : PairV} (hp : p ∈ l) {v : ByteArray} (hv : v.size ≤ 64) : badKV p.1 v = false := by
  have := chk_small hc p hp
  unfold badKV
  simp only [Bool.or_eq_false_iff, decide_eq_false_iff_not]
  omega
set_option maxRecDepth 100000 in
set_option maxHeartbeats 2000000 in
theorem main (x : ByteArray) (t : Nat) (A : Option Addr) (ca : Nat) (l : List PairV) (W : World) (h : Gp W W A l) (hyes : Yes l (t : Int)) (hca : l.length ≤ ca) (hx : x.size ≤ maxLen) :
    Calls Tryd.prog 5 #[.slice A l.length ca, .int .i64 (t : Int), .string x] W fun x w' => x = .returned (.bool true) ∧ Below W.heap.size W w' := by
  have HG := Lib.hid (And.intro h hca)
  have HL : Hid (l.length ≤ 40) := Lib.hid hyes.1
  have HC : Hid (chkE l = 0) := Lib.hid hyes.2.1
  have HT : Hid (t ≤ l.length) := Lib.hid (by have := hyes.2.2.2; omega)
  have HX := Lib.hid hx
  have HSO : Hid (SortL l ∧ DK l) := Lib.hid ⟨chk_sorted hyes.2.1, dk_of (chk_sorted hyes.2.1)⟩
  have HFIT : Hid (Fit l) := Lib.hid (fun p hp => by have := chk_small hyes.2.1 p hp; omega)
  have h1 := hyes.1
  have h2 := hyes.2.2.2
  have d1 : decide ((40 : Int) < (l.length : Int)) = false := decide_eq_false (by omega)
  have d1' : decide (40 < l.length) = false := decide_eq_false (by omega)
  have d2 : decide ((t : Int) < 0) = false := decide_eq_false (by omega)
  have d3 : decide ((l.length : Int) < (t : Int)) = false := decide_eq_false (by omega)
  have d3' : decide (l.length < t) = false := decide_eq_false (by omega)
  clear h hyes hca h1 h2 hx
  go_enter Tryd.func5, Tryd.ntmps5
  go_wp2_with fail
  refine (awake11 W).mono ?_
  rintro xx w1 ⟨rfl, b1⟩
  have H1 := Lib.hid (HG.out.1.far b1)
  clear b1
  go_wp2_with fail
  refine (mk_check l A ca w1 H1.out.pa HL.out).mono ?_
  rintro xx w2 ⟨rfl, b2⟩
  rw [HC.out]
  have H2 := Lib.hid (H1.out.far b2)
  clear b2 H1
  go_wp2_with fail
  refine (st_new 1 w2).mono ?_
  rintro xx w3 ⟨Ba, rfl, p3, b3⟩
  have H3 := Lib.hid (And.intro p3 (H2.out.far b3))
  clear p3 b3 d1 d1' d2 d3 d3'
  go_wp2_with fail
  refine (st_new 9 w3).mono ?_
  rintro xx w4 ⟨Bb, rfl, p4, b4⟩
  have H4 : Hid (RA W w4 A l Ba Bb 0) := Lib.hid ⟨[], (St2.made H3.out.1 (fun k hk => ⟨Nat.le_trans H2.out.size hk.1, hk.2⟩) H3.out.2.size b4 p4).toF, newV_ok (by decide), Nat.le_refl _, fun k => rfl, H3.out.2.far b4⟩
  clear p4 b4 H3 H2
  go_wp2
  go_loopw [9, 10] (fun th i wr => ∃ j : Nat, j ≤ l.length ∧ i = .int .i64 (j : Int) ∧ th = .bool (lk (l.take j) x).isSome ∧ RA W wr A l Ba Bb j) (fun _ i _ => l.length - (intOf i).toNat)
  case atStart => exact ⟨0, by omega, rfl, rfl, H4.out⟩
  case round =>
    obtain ⟨j, hj, rfl, rfl, hr⟩ := hrel
    have h40 := HL.out
    clear H4
    by_cases hlt : j < l.length
    · obtain ⟨m, hs, hso, hml, hlk, hgp⟩ := hr
      have HR := Lib.hid (And.intro hs (And.intro hso (And.intro hml (And.intro hlk hgp))))
      obtain ⟨b, off, rfl, hlo, hcc⟩ : ∃ b off, A = some ⟨b, off, none⟩ ∧ b < W.heap.size ∧ ∀ w', Gp W w' A l → PrB w' b (off + j * 2) l[j] := by
        obtain ⟨b, off, e, h1, h2, h3, h4⟩ := hgp.at_ j hlt
        refine ⟨b, off, e, h1, fun w' hg => ?_⟩
        exact ⟨(hg.bel.cell (p := ⟨b, off + j * 2, none⟩) h1).trans h3, (hg.bel.cell (p := ⟨b, off + j * 2 + 1, none⟩) h1).trans h4⟩
      have HTK := Lib.hid (lk_take HSO.out.2 j hlt)
      obtain ⟨p, hp⟩ : ∃ p, p = l[j] := ⟨_, rfl⟩
      rw [← hp] at hcc HTK
      have HPM : Hid (p ∈ l) := Lib.hid (by rw [hp]; exact List.getElem_mem hlt)
      have HCC := Lib.hid hcc
      have HLT := Lib.hid hlt
      have hi0 : (j : Int) < (l.length : Int) := by omega
      have hj4 : j ≤ 40 := by omega
      obtain ⟨th, hth⟩ : ∃ th, th = (lk (l.take j) x).isSome := ⟨_, rfl⟩
      rw [← hth]
      have HTH := Lib.hid hth
      clear hlt hp hs hso hml hlk hgp hcc hlo hth hj h40
      obtain ⟨c0, c1⟩ := HCC.out _ HR.out.2.2.2.2
      obtain ⟨e, he⟩ : ∃ e, e = (p.1.toList == x.toList) := ⟨_, rfl⟩
      have HEQ : Hid ((lk (l.take (j + 1)) x).isSome = (th || e)) := Lib.hid (by
        rw [HTK.out, HTH.out, he]
        by_cases ex : x = p.1
        · rw [if_pos ex, ex]; simp
        · have : (p.1.toList == x.toList) = false := by
            rw [beq_eq_false_iff_ne]
            exact fun h => ex (toList_inj h).symm
          rw [if_neg ex, this, Bool.or_false])
      have HS : Hid (setV (stA m 1) p.1 p.2 = (stA (insP m p.1 p.2) 1, 0)) := Lib.hid (set_put (key_ok HC.out HPM.out (chk_small HC.out p HPM.out).2.2) (by have := HR.out.2.2.1; omega))
      have HN : Hid (∀ w', St2F (· < W.heap.size) w' Ba Bb (stA (insP m p.1 p.2) 1) (newV 9) → Gp W w' (some ⟨b, off, none⟩) l → RA W w' (some ⟨b, off, none⟩) l Ba Bb (j + 1)) := Lib.hid (fun w' hs hg => by
        refine ⟨insP m p.1 p.2, hs, ?_, ?_, fun k => ?_, hg⟩
        · have := setV_ok HR.out.2.1 p.1 p.2
          rw [HS.out] at this
          exact this
        · have := ins_len HR.out.2.1.now.2.1 p.1 p.2
          have h2 := HR.out.2.2.1
          exact Nat.le_trans this (by show m.length + 1 ≤ _; omega)
        · rw [lk_ins, HTK.out, HR.out.2.2.2.1])
      have HP64 : Hid (p.2.size ≤ 300) := Lib.hid (by have := chk_small HC.out p HPM.out; omega)
      obtain ⟨kk, vv⟩ := p
      have HRG : Hid (Gp W wr.drew (some ⟨b, off, none⟩) l ∧ St2F (· < W.heap.size) wr.drew Ba Bb (stA m 1) (newV 9)) := Lib.hid ⟨HR.out.2.2.2.2.far (Below.refl _ _).drew, HR.out.1.below (Below.refl _ _).drew⟩
      have HS0 : Hid (PrB wr.drew b (off + j * 2) (kk, vv)) := Lib.hid (HCC.out _ HRG.out.1)
      cases th with
      | true =>
        rw [Bool.true_or] at HEQ
        clear he
        go_wp2
        refine wp_region_held_drew (S := fun w' => PrB w' b (off + j * 2) (kk, vv)) (by kernel_rfl) HS0.out (fun hS0 => ?_)
        obtain ⟨wd, hwd⟩ : ∃ z, z = wr.drew := ⟨_, rfl⟩
        rw [← hwd] at hS0 HRG ⊢
        clear hwd c0 c1
        unfold PrB at hS0
        dsimp only [PrB] at hS0 ⊢
        refine wpAnyH_take (i := 0) (v := ?_) rfl (by kernel_rfl) (by kernel_rfl) (by kernel_rfl) (fun _ _ _ h => h) (Or.inl ⟨by kernel_rfl, ?_⟩) (by assumption) ?_
        rotate_left
        · intro w hSw; (try dsimp only at hSw); go_simp; (try with_reducible rfl)
        refine wpAnyH_take (i := 1) (v := ?_) rfl (by kernel_rfl) (by kernel_rfl) (by kernel_rfl) (fun _ _ _ h => h) (Or.inl ⟨by kernel_rfl, ?_⟩) (by assumption) ?_
        rotate_left
        · intro w hSw; (try dsimp only at hSw); go_simp; (try with_reducible rfl)
        refine wpAnyH_take (i := 2) (v := ?_) rfl (by kernel_rfl) (by kernel_rfl) (by kernel_rfl) (fun _ _ _ h => h) (Or.inl ⟨by kernel_rfl, ?_⟩) (by assumption) ?_
        rotate_left
        · intro w hSw; (try dsimp only at hSw); go_simp; (try with_reducible rfl)
        refine wpAnyH_take (i := 3) (v := ?_) rfl (by kernel_rfl) (by kernel_rfl) (by kernel_rfl) (fun _ _ _ h => h) (Or.inl ⟨by kernel_rfl, ?_⟩) (by assumption) ?_
        rotate_left
        · intro w hSw; (try dsimp only at hSw); go_simp; (try with_reducible rfl)
        refine wpAnyH_take (i := 4) (v := ?_) rfl (by kernel_rfl) (by kernel_rfl) (by kernel_rfl) (fun _ _ _ h => h) (Or.inl ⟨by kernel_rfl, ?_⟩) (by assumption) ?_
        rotate_left
        · intro w hSw; (try dsimp only at hSw); go_simp; (try with_reducible rfl)
        refine wpAnyH_take (i := 5) (v := ?_) rfl (by kernel_rfl) (by kernel_rfl) (by kernel_rfl) (fun _ _ _ h => h) (Or.inl ⟨by kernel_rfl, ?_⟩) (by assumption) ?_
        rotate_left
        · intro w hSw; (try dsimp only at hSw); go_simp; (try with_reducible rfl)
        refine wpAnyH_take (i := 6) (v := ?_) rfl (by kernel_rfl) (by kernel_rfl) (by kernel_rfl) (fun _ _ _ h => h) (Or.inl ⟨by kernel_rfl, ?_⟩) (by assumption) ?_
        rotate_left
        · intro w hSw; (try dsimp only at hSw); go_simp; (try with_reducible rfl)
        refine wpAnyH_take (i := 7) (v := ?_) rfl (by kernel_rfl) (by kernel_rfl) (by kernel_rfl) (fun _ _ _ h => h) (Or.inl ⟨by kernel_rfl, ?_⟩) (by assumption) ?_
        rotate_left
        · intro w hSw; (try dsimp only at hSw); go_simp; (try with_reducible rfl)
        refine wpAnyH_take (i := 8) (v := ?_) rfl (by kernel_rfl) (by kernel_rfl) (by kernel_rfl) (fun _ _ _ h => h) (Or.inl ⟨by kernel_rfl, ?_⟩) (by assumption) ?_
        rotate_left
        · intro w hSw; (try dsimp only at hSw); go_simp; (try with_reducible rfl)
        refine wpAnyH_take (i := 9) (v := ?_) rfl (by kernel_rfl) (by kernel_rfl) (by kernel_rfl) (fun _ _ _ h => h) (Or.inl ⟨by kernel_rfl, ?_⟩) (by assumption) ?_
        rotate_left
        · intro w hSw; (try dsimp only at hSw); go_simp; (try with_reducible rfl)
        refine wpAnyH_take (i := 10) (v := ?_) rfl (by kernel_rfl) (by kernel_rfl) (by kernel_rfl) (fun _ _ _ h => h) (Or.inl ⟨by kernel_rfl, ?_⟩) (by assumption) ?_
        rotate_left
        · intro w hSw; (try dsimp only at hSw); go_simp; (try with_reducible rfl)
        refine wpAnyH_ready (rs := [11]) (by kernel_rfl) (by simp) ?_
        refine AllReadyH.cons rfl (fun K hK => ?_) AllReadyH.nil
        go_simp
        refine (sf_set HRG.out.2 (fun k hk => Nat.lt_of_lt_of_le hk HRG.out.1.size) HR.out.2.1 kk vv HP64.out).mono ?_
        rintro xx w5 ⟨rfl, p5, b5⟩
        rw [HS.out] at p5
        have H5 := Lib.hid (HN.out w5 p5 (HRG.out.1.fb b5 (fun _ h => h)))
        have hc5 := HCC.out w5 (HRG.out.1.fb b5 (fun _ h => h))
        clear p5 b5
        refine hK.out _ _ hc5 (fun hS0 => ?_)
        clear hK K hc5
        refine wpAnyH_done (by kernel_rfl) ?_ _
        clear hS0
        go_simp
        go_wp2
        go_roundw
        case rel => exact ⟨j + 1, HLT.out, by go_num, by rw [HEQ.out], H5.out⟩
        case measure => have := HLT.out; simp [intOf]; omega
      | false =>
        rw [Bool.false_or] at HEQ
        rw [he] at HEQ
        clear he
        go_wp2
        refine wp_region_held_drew (S := fun w' => PrB w' b (off + j * 2) (kk, vv)) (by kernel_rfl) HS0.out (fun hS0 => ?_)
        obtain ⟨wd, hwd⟩ : ∃ z, z = wr.drew := ⟨_, rfl⟩
        rw [← hwd] at hS0 HRG ⊢
        clear hwd c0 c1
        unfold PrB at hS0
        dsimp only [PrB] at hS0 ⊢
        refine wpAnyH_take (i := 0) (v := ?_) rfl (by kernel_rfl) (by kernel_rfl) (by kernel_rfl) (fun _ _ _ h => h) (Or.inl ⟨by kernel_rfl, ?_⟩) (by assumption) ?_
        rotate_left
        · intro w hSw; (try dsimp only at hSw); go_simp; (try with_reducible rfl)
        refine wpAnyH_take (i := 1) (v := ?_) rfl (by kernel_rfl) (by kernel_rfl) (by kernel_rfl) (fun _ _ _ h => h) (Or.inl ⟨by kernel_rfl, ?_⟩) (by assumption) ?_
        rotate_left
        · intro w hSw; (try dsimp only at hSw); go_simp; (try with_reducible rfl)
        refine wpAnyH_take (i := 2) (v := ?_) rfl (by kernel_rfl) (by kernel_rfl) (by kernel_rfl) (fun _ _ _ h => h) (Or.inl ⟨by kernel_rfl, ?_⟩) (by assumption) ?_
        rotate_left
        · intro w hSw; (try dsimp only at hSw); go_simp; (try with_reducible rfl)
        refine wpAnyH_take (i := 3) (v := ?_) rfl (by kernel_rfl) (by kernel_rfl) (by kernel_rfl) (fun _ _ _ h => h) (Or.inl ⟨by kernel_rfl, ?_⟩) (by assumption) ?_
        rotate_left
        · intro w hSw; (try dsimp only at hSw); go_simp; (try with_reducible rfl)
        refine wpAnyH_take (i := 4) (v := ?_) rfl (by kernel_rfl) (by kernel_rfl) (by kernel_rfl) (fun _ _ _ h => h) (Or.inl ⟨by kernel_rfl, ?_⟩) (by assumption) ?_
        rotate_left
        · intro w hSw; (try dsimp only at hSw); go_simp; (try with_reducible rfl)
        refine wpAnyH_take (i := 5) (v := ?_) rfl (by kernel_rfl) (by kernel_rfl) (by kernel_rfl) (fun _ _ _ h => h) (Or.inl ⟨by kernel_rfl, ?_⟩) (by assumption) ?_
        rotate_left
        · intro w hSw; (try dsimp only at hSw); go_simp; (try with_reducible rfl)
        refine wpAnyH_take (i := 6) (v := ?_) rfl (by kernel_rfl) (by kernel_rfl) (by kernel_rfl) (fun _ _ _ h => h) (Or.inl ⟨by kernel_rfl, ?_⟩) (by assumption) ?_
        rotate_left
        · intro w hSw; (try dsimp only at hSw); go_simp; (try with_reducible rfl)
        refine wpAnyH_take (i := 7) (v := ?_) rfl (by kernel_rfl) (by kernel_rfl) (by kernel_rfl) (fun _ _ _ h => h) (Or.inl ⟨by kernel_rfl, ?_⟩) (by assumption) ?_
        rotate_left
        · intro w hSw; (try dsimp only at hSw); go_simp; (try with_reducible rfl)
        refine wpAnyH_take (i := 8) (v := ?_) rfl (by kernel_rfl) (by kernel_rfl) (by kernel_rfl) (fun _ _ _ h => h) (Or.inl ⟨by kernel_rfl, ?_⟩) (by assumption) ?_
        rotate_left
        · intro w hSw; (try dsimp only at hSw); go_simp; (try with_reducible rfl)
        refine wpAnyH_take (i := 9) (v := ?_) rfl (by kernel_rfl) (by kernel_rfl) (by kernel_rfl) (fun _ _ _ h => h) (Or.inl ⟨by kernel_rfl, ?_⟩) (by assumption) ?_
        rotate_left
        · intro w hSw; (try dsimp only at hSw); go_simp; (try with_reducible rfl)
        refine wpAnyH_take (i := 10) (v := ?_) rfl (by kernel_rfl) (by kernel_rfl) (by kernel_rfl) (fun _ _ _ h => h) (Or.inl ⟨by kernel_rfl, ?_⟩) (by assumption) ?_
        rotate_left
        · intro w hSw; (try dsimp only at hSw); go_simp; (try with_reducible rfl)
        refine wpAnyH_ready (rs := [11]) (by kernel_rfl) (by simp) ?_
        refine AllReadyH.cons rfl (fun K hK => ?_) AllReadyH.nil
        go_simp
        refine (sf_set HRG.out.2 (fun k hk => Nat.lt_of_lt_of_le hk HRG.out.1.size) HR.out.2.1 kk vv HP64.out).mono ?_
        rintro xx w5 ⟨rfl, p5, b5⟩
        rw [HS.out] at p5
        have H5 := Lib.hid (HN.out w5 p5 (HRG.out.1.fb b5 (fun _ h => h)))
        have hc5 := HCC.out w5 (HRG.out.1.fb b5 (fun _ h => h))
        clear p5 b5
        refine hK.out _ _ hc5 (fun hS0 => ?_)
        clear hK K hc5
        refine wpAnyH_done (by kernel_rfl) ?_ _
        clear hS0
        go_simp
        go_wp2
        go_roundw
        case rel => exact ⟨j + 1, HLT.out, by go_num, by rw [HEQ.out], H5.out⟩
        case measure => have := HLT.out; simp [intOf]; omega
    · obtain rfl : j = l.length := by omega
      have d0 : decide ((l.length : Int) < (l.length : Int)) = false := decide_eq_false (by omega)
      obtain ⟨m, hs, hso, hml, hlk, hgp⟩ := hr
      have hm : m = l := ext_lk hso.now.2.1 HSO.out.1 (fun k => by rw [hlk, List.take_length])
      rw [hm] at hs hso
      have HR := Lib.hid (And.intro hs (And.intro hso hgp))
      obtain ⟨th, hth⟩ : ∃ th, th = (lk (l.take l.length) x).isSome := ⟨_, rfl⟩
      rw [← hth]
      have HTH : Hid (th = (lk l x).isSome) := Lib.hid (by rw [hth, List.take_length])
      clear hs hso hml hlk hgp hm hth hlt hj h40
      obtain ⟨i0, hi0, hz0, hz1, hz2⟩ := info_partsB infoPr
      have htl := HT.out
      have hca := HG.out.2
      have hl40 := HL.out
      have sl := fun wx => subS_run A l.length ca t htl wx
      have pl := fun wx => preS_run A l.length ca t (Nat.le_trans htl hca) wx
      have HA2 : Hid (∀ w', PsAt w' A l → PrE.At w' (subS A ca t) (l.drop t)) := Lib.hid (fun w' h => sub_at h HG.out.2 t)
      obtain ⟨A2, hA2⟩ : ∃ A2, A2 = subS A ca t := ⟨_, rfl⟩
      rw [← hA2] at sl HA2
      obtain ⟨ln, hln⟩ : ∃ ln, ln = l.length := ⟨_, rfl⟩
      have HLN := Lib.hid hln
      obtain ⟨r, hr⟩ : ∃ r, r = l.length - t := ⟨_, rfl⟩
      have HRR := Lib.hid hr
      rw [← hr] at sl
      have HRL : Hid (r ≤ 40 ∧ t ≤ 40 ∧ (l.drop t).length = r ∧ (l.take t).length = t) := Lib.hid ⟨by omega, by omega, by rw [List.length_drop, hr], by rw [List.length_take]; omega⟩
      clear hA2 hr hln htl hca hl40
      have hti : (0 : Int) ≤ (t : Int) := by omega
      go_wp2
      refine wp_region_held_drew (S := fun _ => True) (by kernel_rfl) trivial (fun hS0 => ?_)
      obtain ⟨wd, hwd⟩ : ∃ z, z = wr.drew := ⟨_, rfl⟩
      rw [← hwd]
      have HD : Hid (Gp W wd A l ∧ Below wr.heap.size wr wd ∧ wr.heap.size = wd.heap.size) := Lib.hid (by rw [hwd]; exact ⟨HR.out.2.2.far (Below.refl _ _).drew, (Below.refl _ _).drew, rfl⟩)
      clear hwd
      refine wpAnyH_take (i := 1) (v := ?_) rfl (by kernel_rfl) (by kernel_rfl) (by kernel_rfl) (fun _ _ _ h => h) (Or.inl ⟨by kernel_rfl, ?_⟩) (by assumption) ?_
      rotate_left
      · intro w hSw; (try dsimp only at hSw); go_simp; (try with_reducible rfl)
      refine wpAnyH_take (i := 2) (v := ?_) rfl (by kernel_rfl) (by kernel_rfl) (by kernel_rfl) (fun _ _ _ h => h) (Or.inl ⟨by kernel_rfl, ?_⟩) (by assumption) ?_
      rotate_left
      · intro w hSw; (try dsimp only at hSw); go_simp; (try with_reducible rfl)
      refine wpAnyH_take (i := 3) (v := ?_) rfl (by kernel_rfl) (by kernel_rfl) (by kernel_rfl) (fun _ _ _ h => h) (Or.inl ⟨by kernel_rfl, ?_⟩) (by assumption) ?_
      rotate_left
      · intro w hSw; (try dsimp only at hSw); go_simp; (try with_reducible rfl)
      refine wpAnyH_take (i := 5) (v := ?_) rfl (by kernel_rfl) (by kernel_rfl) (by kernel_rfl) (fun _ _ _ h => h) (Or.inl ⟨by kernel_rfl, ?_⟩) (by assumption) ?_
      rotate_left
      · intro w hSw; (try dsimp only at hSw); go_simp; (try with_reducible rfl)
      refine wpAnyH_take (i := 6) (v := ?_) rfl (by kernel_rfl) (by kernel_rfl) (by kernel_rfl) (fun _ _ _ h => h) (Or.inl ⟨by kernel_rfl, ?_⟩) (by assumption) ?_
      rotate_left
      · intro w hSw; (try dsimp only at hSw); go_simp; (try with_reducible rfl)
      refine wpAnyH_take (i := 7) (v := ?_) rfl (by kernel_rfl) (by kernel_rfl) (by kernel_rfl) (fun _ _ _ h => h) (Or.inl ⟨by kernel_rfl, ?_⟩) (by assumption) ?_
      rotate_left
      · intro w hSw; (try dsimp only at hSw); go_simp; (try with_reducible rfl)
      refine wpAnyH_ready (rs := [0]) (by kernel_rfl) (by simp) ?_
      refine AllReadyH.cons rfl (fun K hK => ?_) AllReadyH.nil
      go_simp
      have b2 := Kq.below_alloc wd (.cells #[] 59)
      have HX : Hid ((wd.alloc (.cells #[] 59)).ownsRow wd.heap.size 59 2 (.slice (some ⟨wd.heap.size, 0, none⟩) 0 0) 0 (PrE.flat []) ∧ Gp W (wd.alloc (.cells #[] 59)) A l ∧ Below wr.heap.size wr (wd.alloc (.cells #[] 59)) ∧ wd.heap.size ≤ (wd.alloc (.cells #[] 59)).heap.size) := Lib.hid
        ⟨⟨rfl, Or.inr ⟨wd.heap.size, 0, #[], rfl, Nat.le_refl _, Kq.blk_new wd #[] 59 (0, 0), Nat.le_refl _, by decide, rfl, rfl⟩⟩, HD.out.1.far b2, HD.out.2.1.trans (b2.mono (by rw [HD.out.2.2]; exact Nat.le_refl _)), b2.size⟩
      have HS1 : Hid (Src Tryd.prog 2 35 (.slice A2 r (ca - t)) r (PrE.flat (l.drop t)) (wd.alloc (.cells #[] 59))) := Lib.hid (by
        have := (HA2.out _ HX.out.2.1.pa).srcA Tryd.underlying35 (ca - t)
        rw [HRL.out.2.2.1] at this
        exact this)
      clear b2
      refine hK.out _ _ trivial (fun hS0 => ?_)
      clear hK K
      refine wpAnyH_ready (rs := [4]) (by kernel_rfl) (by simp) ?_
      refine AllReadyH.cons rfl (fun K hK => ?_) AllReadyH.nil
      rw [if_pos (by kernel_rfl)]
      refine Kq.wp_append_any _ (.tmp 79) (.tmp 82) 35 35 rfl wd.heap.size 59 i0 (.agg #[.string ⟨#[]⟩, .string ⟨#[]⟩]) 2 32 Tryd.underlying35 hi0 hz0 hz1 hz2 rfl (by decide) (.slice (some ⟨wd.heap.size, 0, none⟩) 0 0) 0 (PrE.flat []) (by kernel_rfl) HX.out.1 (.slice A2 r (ca - t)) r (PrE.flat (l.drop t)) (by kernel_rfl) HS1.out ?h1 ?h2 HX.out.2.2.2 ?_
      case h1 => have := HRL.out; unfold maxLen; omega
      case h2 => have := HRL.out; omega
      intro v3 w3 hown3 hgrow hfresh
      have H3 : Hid (w3.ownsRow wd.heap.size 59 2 v3 (0 + r) (PrE.flat [] ++ PrE.flat (l.drop t)) ∧ Below wr.heap.size wr w3 ∧ Gp W w3 A l ∧ wd.heap.size ≤ w3.heap.size) := Lib.hid (by
        have hk3 := Kq.Keeps.grown (S := fun k => wr.heap.size ≤ k) hgrow (fun k _ h => by
          have h1 : wd.heap.size = k := Option.some.inj h
          have := HD.out.2.2; omega)
        have hb3 := below_past HX.out.2.2.1 hk3 (Nat.le_refl _) (fun k _ h => h)
        exact ⟨hown3, hb3, HR.out.2.2.far hb3, by have := hgrow.size; have := HX.out.2.2.2; omega⟩)
      have HS3 : Hid (Src Tryd.prog 2 35 (.slice A t ca) t (PrE.flat (l.take t)) w3) := Lib.hid (by
        have := ((psAt_E.1 H3.out.2.2.1.pa).take t).srcA Tryd.underlying35 ca
        rw [HRL.out.2.2.2] at this
        exact this)
      clear hown3 hgrow hfresh HX HS1
      refine hK.out _ _ trivial (fun hS0 => ?_)
      clear hK K
      refine wpAnyH_ready (rs := [8]) (by kernel_rfl) (by simp) ?_
      refine AllReadyH.cons rfl (fun K hK => ?_) AllReadyH.nil
      rw [if_pos (by kernel_rfl)]
      refine Kq.wp_append_any _ (.tmp 83) (.tmp 86) 35 35 rfl wd.heap.size 59 i0 (.agg #[.string ⟨#[]⟩, .string ⟨#[]⟩]) 2 32 Tryd.underlying35 hi0 hz0 hz1 hz2 rfl (by decide) v3 (0 + r) (PrE.flat [] ++ PrE.flat (l.drop t)) (by kernel_rfl) H3.out.1 (.slice A t ca) t (PrE.flat (l.take t)) (by kernel_rfl) HS3.out ?h4 ?h5 H3.out.2.2.2 ?_
      case h4 => have := HRL.out; unfold maxLen; omega
      case h5 => have := HRL.out; omega
      intro v5 w5 hown5 hgrow hfresh
      obtain ⟨q, hq⟩ : ∃ q, q = rot l t := ⟨_, rfl⟩
      have HQ : Hid (q.length = l.length ∧ DK q ∧ (∀ p ∈ q, p ∈ l) ∧ ∀ k, lk q k = lk l k) := Lib.hid (by
        rw [hq]; exact ⟨rot_len l t, rot_dk HSO.out.2 t, fun p hp => (rot_perm l t).mem_iff.1 hp, rot_lk HSO.out.2 t⟩)
      have hrow : w5.ownsRow wd.heap.size 59 2 v5 q.length (PrE.flat q) := by
        have h1 : 0 + r + t = q.length := by rw [HQ.out.1]; have := HRR.out; have := HT.out; omega
        have h2 : (PrE.flat [] ++ PrE.flat (l.drop t)) ++ PrE.flat (l.take t) = PrE.flat q := by
          rw [hq]; unfold rot; rw [PrE.flat_append]; rfl
        rw [← h1, ← h2]
        exact hown5
      obtain ⟨Ax, cx, hv5, -, hax, hge, -⟩ := Kq.Elt.own_at hrow
      have hb5 : Below wr.heap.size wr w5 := below_past H3.out.2.1 (Kq.Keeps.grown (S := fun k => wr.heap.size ≤ k) hgrow (fun k _ h => by
        have h1 := own_geB H3.out.1 h
        have := HD.out.2.2; omega)) (Nat.le_refl _) (fun k _ h => h)
      obtain ⟨S1, hS1⟩ : ∃ S1, S1 = wd.heap.size := ⟨_, rfl⟩
      obtain ⟨S2, hS2⟩ : ∃ S2, S2 = w5.heap.size := ⟨_, rfl⟩
      obtain ⟨F, hF⟩ : ∃ F : Nat → Prop, F = fun k => k < W.heap.size ∨ (S1 ≤ k ∧ k < S2) := ⟨_, rfl⟩
      have H5 : Hid (St2F F w5 Bb Ba (newV 9) (stA l 1) ∧ Gp W w5 A l ∧ PsF F w5 Ax q ∧ FrW F w5 ∧ ∀ k, k < W.heap.size → F k) := Lib.hid (by
        have hW : W.heap.size ≤ w5.heap.size := Nat.le_trans HR.out.2.2.size hb5.size
        refine ⟨(HR.out.1.wide hb5 (fun k hk => ?_)).swap, HR.out.2.2.far hb5, ⟨psAt_E.2 hax, fun b off e hne => ?_⟩, fun k hk => ?_, fun k hk => by rw [hF]; exact Or.inl hk⟩
        · rw [hF] at hk
          rcases hk with hk | hk
          · exact Or.inl hk
          · exact Or.inr (by have := HD.out.2.2; omega)
        · rw [hF]
          refine Or.inr ⟨by rw [hS1]; exact hge b off e, ?_⟩
          cases q with
          | nil => exact absurd rfl hne
          | cons p0 q0 =>
            obtain ⟨b', off', e', h1, _⟩ := hax 0 (by simp)
            rw [e] at e'
            injection e' with e'
            injection e' with e1 e2
            rw [hS2, e1]; exact h1
        · rw [hF] at hk
          rcases hk with hk | hk
          · omega
          · omega)
      subst hv5
      clear hown5 hgrow hfresh hrow hax hge hb5 hq hF hS1 hS2 H3 HS3 HD HR HA2 sl pl
      refine hK.out _ _ trivial (fun hS0 => ?_)
      clear hK K
      refine wpAnyH_take (i := 9) (v := ?_) rfl (by kernel_rfl) (by kernel_rfl) (by kernel_rfl) (fun _ _ _ h => h) (Or.inl ⟨by kernel_rfl, ?_⟩) (by assumption) ?_
      rotate_left
      · intro w hSw; (try dsimp only at hSw); go_simp; (try with_reducible rfl)
      refine wpAnyH_done (by kernel_rfl) ?_ _
      go_simp
      obtain ⟨m0, hm0, hl0, hk0⟩ := set_gone x
      have HM0 := Lib.hid (And.intro hm0 (And.intro hl0 hk0))
      clear hm0 hl0 hk0
      go_wp2_with fail
      refine (sf_set H5.out.1 H5.out.2.2.2.1 (newV_ok (by decide)) x gone (by decide)).mono ?_
      rintro xx w6 ⟨rfl, p6, b6⟩
      have H6 : Hid (RB W w6 F A Ax l q x Ba Bb 0) := Lib.hid (by
        have ho := setV_ok (newV_ok (h := 9) (by decide)) x gone
        rw [HM0.out.1] at p6 ho
        exact ⟨m0, p6, ho, HM0.out.2.1, fun k => by rw [HM0.out.2.2 k]; rfl, H5.out.2.1.fb b6 H5.out.2.2.2.2, H5.out.2.2.1.fb b6, H5.out.2.2.2.1.later b6.sz, H5.out.2.2.2.2⟩)
      clear p6 b6 H5 HM0
      obtain ⟨nq, hnq⟩ : ∃ nq, nq = q.length := ⟨_, rfl⟩
      have HNQ : Hid (nq = q.length ∧ nq ≤ 40) := Lib.hid ⟨hnq, by rw [hnq, HQ.out.1]; exact HL.out⟩
      rw [← hnq]
      clear hnq hi0 hz0 hz1 hz2 hti
      go_wp2
      go_loopw [12] (fun i wr => ∃ j : Nat, j ≤ nq ∧ i = .int .i64 (j : Int) ∧ RB W wr F A Ax l q x Ba Bb j) (fun i _ => nq - (intOf i).toNat)
      case atStart => exact ⟨0, by omega, rfl, H6.out⟩
      case round =>
        obtain ⟨j, hj, rfl, hr⟩ := hrel
        have hn40 := HNQ.out.2
        clear H6 d0
        by_cases hlt : j < nq
        · obtain ⟨m, hs, hso, hml, hlk, hgp, hps, hfr, hfw⟩ := hr
          have HR := Lib.hid (And.intro hs (And.intro hso (And.intro hml (And.intro hlk (And.intro hgp (And.intro hps (And.intro hfr hfw)))))))
          have hltq : j < q.length := by rw [← HNQ.out.1]; exact hlt
          obtain ⟨b, off, rfl, hcc⟩ : ∃ b off, Ax = some ⟨b, off, none⟩ ∧ ∀ w', PsF F w' Ax q → PrB w' b (off + j * 2) q[j] := by
            obtain ⟨b, off, e, h1, h3, h4⟩ := hps.1 j hltq
            refine ⟨b, off, e, fun w' hg => ?_⟩
            obtain ⟨b', off', e', h1', h3', h4'⟩ := hg.1 j hltq
            rw [e] at e'
            injection e' with e'
            injection e' with e1 e2
            subst e1 e2
            exact ⟨h3', h4'⟩
          have HTK := Lib.hid (lk_take HQ.out.2.1 j hltq)
          obtain ⟨p, hp⟩ : ∃ p, p = q[j] := ⟨_, rfl⟩
          rw [← hp] at hcc HTK
          have HPM : Hid (p ∈ l) := Lib.hid (by rw [hp]; exact HQ.out.2.2.1 _ (List.getElem_mem hltq))
          have HCC := Lib.hid hcc
          have HLT := Lib.hid hlt
          have hi0 : (j : Int) < (nq : Int) := by omega
          have hj4 : j ≤ 40 := by omega
          clear hlt hltq hp hs hso hml hlk hgp hps hfr hfw hcc hj
          obtain ⟨c0, c1⟩ := HCC.out _ HR.out.2.2.2.2.2.1
          have HSZ : Hid (p.2.size ≤ 300 ∧ badKV p.1 old = false ∧ badKV p.1 p.2 = false) := Lib.hid (by
            have h1 := chk_small HC.out p HPM.out
            exact ⟨by omega, key_ok HC.out HPM.out (by decide), key_ok HC.out HPM.out h1.2.2⟩)
          have HO1 : Hid (StOk (stA (insP m p.1 old) 9) ∧ setV (stA m 9) p.1 old = (stA (insP m p.1 old) 9, 0) ∧ (insP m p.1 old).length ≤ j + 2) := Lib.hid (by
            have h1 := set_put (m := m) (f := 9) HSZ.out.2.1 (by have := HR.out.2.2.1; omega)
            have h2 := setV_ok HR.out.2.1 p.1 old
            rw [h1] at h2
            have h3 := ins_len HR.out.2.1.now.2.1 p.1 old
            have h4 : (stA m 9).now = m := rfl
            rw [h4] at h3
            have h5 := HR.out.2.2.1
            exact ⟨h2, h1, by omega⟩)
          have HO2 : Hid (StOk (stA (insP (insP m p.1 old) p.1 p.2) 9) ∧ setV (stA (insP m p.1 old) 9) p.1 p.2 = (stA (insP (insP m p.1 old) p.1 p.2) 9, 0) ∧ (insP (insP m p.1 old) p.1 p.2).length ≤ j + 1 + 1) := Lib.hid (by
            have h1 := set_put (m := insP m p.1 old) (f := 9) HSZ.out.2.2 (by have := HO1.out.2.2; omega)
            have h2 := setV_ok HO1.out.1 p.1 p.2
            rw [h1] at h2
            refine ⟨h2, h1, ?_⟩
            have hl : lk (insP m p.1 old) p.1 = some old := by rw [lk_ins, if_pos rfl]
            rw [len_ins _ _ _ (show SortL (insP m p.1 old) from HO1.out.1.now.2.1)]
            have h9 : (stA (insP m p.1 old) 9).now = insP m p.1 old := rfl
            rw [show lk (insP m p.1 old) p.1 = some old from hl]
            simp only [Option.isSome_some, if_true]
            exact HO1.out.2.2)
          have HLK : Hid (∀ k, lk (insP (insP m p.1 old) p.1 p.2) k = (lk (q.take (j + 1)) k).or (g0 x k)) := Lib.hid (fun k => by
            rw [lk_ins, lk_ins, HTK.out, HR.out.2.2.2.1]
            by_cases e : k = p.1
            · rw [if_pos e, if_pos e]; rfl
            · rw [if_neg e, if_neg e, if_neg e])
          obtain ⟨kk, vv⟩ := p
          go_wp2_with fail
          refine (sf_set HR.out.1 HR.out.2.2.2.2.2.2.1 HR.out.2.1 kk old (by decide)).mono ?_
          rintro xx w5 ⟨rfl, p5, b5⟩
          have H5 : Hid (St2F F w5 Bb Ba (stA (insP m kk old) 9) (stA l 1) ∧ Gp W w5 A l ∧ PsF F w5 (some ⟨b, off, none⟩) q ∧ FrW F w5) := Lib.hid (by
            rw [HO1.out.2.1] at p5
            exact ⟨p5, HR.out.2.2.2.2.1.fb b5 HR.out.2.2.2.2.2.2.2, HR.out.2.2.2.2.2.1.fb b5, HR.out.2.2.2.2.2.2.1.later b5.sz⟩)
          clear p5 b5 c0 c1
          obtain ⟨c0, c1⟩ := HCC.out _ H5.out.2.2.1
          have HRG : Hid (Gp W w5.drew A l ∧ St2F F w5.drew Bb Ba (stA (insP m kk old) 9) (stA l 1) ∧ PsF F w5.drew (some ⟨b, off, none⟩) q ∧ FrW F w5.drew) := Lib.hid ⟨H5.out.2.1.far (Below.refl _ _).drew, H5.out.1.below (Below.refl _ _).drew, H5.out.2.2.1.fb (Fb.of (Below.refl _ _).drew H5.out.2.2.2), H5.out.2.2.2⟩
          have HS0 : Hid (PrB w5.drew b (off + j * 2) (kk, vv)) := Lib.hid (HCC.out _ HRG.out.2.2.1)
          go_wp2
          refine wp_region_held_drew (S := fun w' => PrB w' b (off + j * 2) (kk, vv)) (by kernel_rfl) HS0.out (fun hS0 => ?_)
          obtain ⟨wd, hwd⟩ : ∃ z, z = w5.drew := ⟨_, rfl⟩
          rw [← hwd] at hS0 HRG ⊢
          clear hwd c0 c1 HS0
          unfold PrB at hS0
          dsimp only [PrB] at hS0 ⊢
          refine wpAnyH_take (i := 0) (v := ?_) rfl (by kernel_rfl) (by kernel_rfl) (by kernel_rfl) (fun _ _ _ h => h) (Or.inl ⟨by kernel_rfl, ?_⟩) (by assumption) ?_
          rotate_left
          · intro w hSw; (try dsimp only at hSw); go_simp; (try with_reducible rfl)
          refine wpAnyH_take (i := 1) (v := ?_) rfl (by kernel_rfl) (by kernel_rfl) (by kernel_rfl) (fun _ _ _ h => h) (Or.inl ⟨by kernel_rfl, ?_⟩) (by assumption) ?_
          rotate_left
          · intro w hSw; (try dsimp only at hSw); go_simp; (try with_reducible rfl)
          refine wpAnyH_take (i := 2) (v := ?_) rfl (by kernel_rfl) (by kernel_rfl) (by kernel_rfl) (fun _ _ _ h => h) (Or.inl ⟨by kernel_rfl, ?_⟩) (by assumption) ?_
          rotate_left
          · intro w hSw; (try dsimp only at hSw); go_simp; (try with_reducible rfl)
          refine wpAnyH_take (i := 3) (v := ?_) rfl (by kernel_rfl) (by kernel_rfl) (by kernel_rfl) (fun _ _ _ h => h) (Or.inl ⟨by kernel_rfl, ?_⟩) (by assumption) ?_
          rotate_left
          · intro w hSw; (try dsimp only at hSw); go_simp; (try with_reducible rfl)
          refine wpAnyH_take (i := 4) (v := ?_) rfl (by kernel_rfl) (by kernel_rfl) (by kernel_rfl) (fun _ _ _ h => h) (Or.inl ⟨by kernel_rfl, ?_⟩) (by assumption) ?_
          rotate_left
          · intro w hSw; (try dsimp only at hSw); go_simp; (try with_reducible rfl)
          refine wpAnyH_take (i := 5) (v := ?_) rfl (by kernel_rfl) (by kernel_rfl) (by kernel_rfl) (fun _ _ _ h => h) (Or.inl ⟨by kernel_rfl, ?_⟩) (by assumption) ?_
          rotate_left
          · intro w hSw; (try dsimp only at hSw); go_simp; (try with_reducible rfl)
          refine wpAnyH_take (i := 6) (v := ?_) rfl (by kernel_rfl) (by kernel_rfl) (by kernel_rfl) (fun _ _ _ h => h) (Or.inl ⟨by kernel_rfl, ?_⟩) (by assumption) ?_
          rotate_left
          · intro w hSw; (try dsimp only at hSw); go_simp; (try with_reducible rfl)
          refine wpAnyH_take (i := 7) (v := ?_) rfl (by kernel_rfl) (by kernel_rfl) (by kernel_rfl) (fun _ _ _ h => h) (Or.inl ⟨by kernel_rfl, ?_⟩) (by assumption) ?_
          rotate_left
          · intro w hSw; (try dsimp only at hSw); go_simp; (try with_reducible rfl)
          refine wpAnyH_take (i := 8) (v := ?_) rfl (by kernel_rfl) (by kernel_rfl) (by kernel_rfl) (fun _ _ _ h => h) (Or.inl ⟨by kernel_rfl, ?_⟩) (by assumption) ?_
          rotate_left
          · intro w hSw; (try dsimp only at hSw); go_simp; (try with_reducible rfl)
          refine wpAnyH_take (i := 9) (v := ?_) rfl (by kernel_rfl) (by kernel_rfl) (by kernel_rfl) (fun _ _ _ h => h) (Or.inl ⟨by kernel_rfl, ?_⟩) (by assumption) ?_
          rotate_left
          · intro w hSw; (try dsimp only at hSw); go_simp; (try with_reducible rfl)
          refine wpAnyH_take (i := 10) (v := ?_) rfl (by kernel_rfl) (by kernel_rfl) (by kernel_rfl) (fun _ _ _ h => h) (Or.inl ⟨by kernel_rfl, ?_⟩) (by assumption) ?_
          rotate_left
          · intro w hSw; (try dsimp only at hSw); go_simp; (try with_reducible rfl)
          refine wpAnyH_ready (rs := [11]) (by kernel_rfl) (by simp) ?_
          refine AllReadyH.cons rfl (fun K hK => ?_) AllReadyH.nil
          go_simp
          refine (sf_set HRG.out.2.1 HRG.out.2.2.2 HO1.out.1 kk vv HSZ.out.1).mono ?_
          rintro xx w6 ⟨rfl, p6, b6⟩
          have H6 : Hid (RB W w6 F A (some ⟨b, off, none⟩) l q x Ba Bb (j + 1) ∧ PrB w6 b (off + j * 2) (kk, vv)) := Lib.hid (by
            rw [HO2.out.2.1] at p6
            exact ⟨⟨_, p6, HO2.out.1, HO2.out.2.2, HLK.out, HRG.out.1.fb b6 HR.out.2.2.2.2.2.2.2, HRG.out.2.2.1.fb b6, HRG.out.2.2.2.later b6.sz, HR.out.2.2.2.2.2.2.2⟩, HCC.out _ (HRG.out.2.2.1.fb b6)⟩)
          clear p6 b6
          refine hK.out _ _ H6.out.2 (fun hS0 => ?_)
          clear hK K
          refine wpAnyH_done (by kernel_rfl) ?_ _
          clear hS0
          go_simp
          go_wp2
          go_roundw
          case rel => exact ⟨j + 1, HLT.out, by go_num, H6.out.1⟩
          case measure => have := HLT.out; simp [intOf]; omega
        · obtain rfl : j = nq := by omega
          have d0 : decide ((j : Int) < (j : Int)) = false := decide_eq_false (by omega)
          obtain ⟨m, hs, hso, hml, hlk, hgp, hps, hfr, hfw⟩ := hr
          have HLK : Hid (∀ k, lk m k = (lk l k).or (g0 x k)) := Lib.hid (fun k => by
            rw [hlk k, HNQ.out.1, List.take_length, HQ.out.2.2.2])
          have HR := Lib.hid (And.intro hs (And.intro hso (And.intro hgp (And.intro hfr hfw))))
          clear hs hso hml hlk hgp hps hfr hfw hlt hj
          cases th with
          | true =>
            have hm : m = l := ext_lk HR.out.2.1.now.2.1 HSO.out.1 (keep_gone HLK.out (fun e => by have := HTH.out; rw [e] at this; cases this))
            have H7 : Hid (St2F F wr Bb Ba (stA l 9) (stA l 1) ∧ StOk (stA l 9) ∧ Gp W wr A l ∧ FrW F wr) := Lib.hid (by
              have h1 := HR.out.1
              have h2 := HR.out.2.1
              rw [hm] at h1 h2
              exact ⟨h1, h2, HR.out.2.2.1, HR.out.2.2.2.1⟩)
            clear hm
            obtain ⟨w7, hw7⟩ : ∃ w7, w7 = wr := ⟨_, rfl⟩
            have HFW := Lib.hid HR.out.2.2.2.2
            rw [← hw7] at H7 ⊢
            clear hw7 HR
            have HOA : Hid (StOk (stA l 1) ∧ StOk ⟨l, 1, [[], l]⟩ ∧ StOk ⟨l, 9, [[], l]⟩) := Lib.hid (by
              have h0 : StOk (stA l 1) := ⟨H7.out.2.1.now, H7.out.2.1.blks, H7.out.2.1.one, H7.out.2.1.few, (show 1 + 1 ≤ 18446744073709551616 by decide)⟩
              have h1 := comV_ok h0
              have h2 := comV_ok H7.out.2.1
              rw [com_stA] at h1
              rw [com_stB] at h2
              exact ⟨h0, h1, h2⟩)
            go_wp2_with fail
            refine (sf_com H7.out.1.swap H7.out.2.2.2 HOA.out.1).mono ?_
            rintro xx w8 ⟨rfl, p8, b8⟩
            rw [comR_A]
            have H8 : Hid (St2F F w8 Ba Bb ⟨l, 1, [[], l]⟩ (stA l 9) ∧ Gp W w8 A l ∧ FrW F w8) := Lib.hid (by
              rw [com_stA] at p8
              exact ⟨p8, H7.out.2.2.1.fb b8 HFW.out, H7.out.2.2.2.later b8.sz⟩)
            clear p8 b8
            go_wp2_with fail
            refine (sf_com H8.out.1.swap H8.out.2.2 H7.out.2.1).mono ?_
            rintro xx w9 ⟨rfl, p9, b9⟩
            rw [comR_B]
            have H9 : Hid (St2F F w9 Ba Bb ⟨l, 1, [[], l]⟩ ⟨l, 9, [[], l]⟩ ∧ Gp W w9 A l) := Lib.hid (by
              rw [com_stB] at p9
              exact ⟨p9.swap, H8.out.2.1.fb b9 HFW.out⟩)
            clear p9 b9 H8 H7
            go_wp2_with fail
            refine (sf_root H9.out.1 HOA.out.2.1 2 (by decide) H9.out.2.ok).mono ?_
            rintro xx w10 ⟨rfl, p10, b10⟩
            rw [root_A]
            have H10 := Lib.hid (And.intro p10 (H9.out.2.far b10))
            clear p10 b10 H9
            go_wp2_with fail
            refine (sf_root H10.out.1.swap HOA.out.2.2 10 (by decide) H10.out.2.ok).mono ?_
            rintro xx w11 ⟨rfl, p11, b11⟩
            rw [root_B]
            have H11 := Lib.hid (And.intro p11 (H10.out.2.far b11))
            clear p11 b11 H10
            go_wp2_with fail
            refine (sf_at H11.out.1 HOA.out.2.2 10 (by decide)).mono ?_
            rintro xx w12 ⟨⟨v, rfl, ⟨Ay, cy, rfl, hcy, psy, -⟩, -⟩, p12, b12⟩
            rw [at_B] at psy hcy
            rw [at_B]
            have H12 := Lib.hid (And.intro psy (H11.out.2.far b12))
            clear p12 b12 psy hcy H11
            obtain ⟨R, hR⟩ : ∃ R, R = rootP l := ⟨_, rfl⟩
            rw [← hR]
            have HRP := Lib.hid hR
            clear hR
            have t1 : (R.toList == R.toList) = true := by simp
            go_wp2_with fail
            refine (mk_root l A ca w12 (by have := HL.out; omega) HFIT.out H12.out.2.pa H12.out.2.ok HG.out.2).mono ?_
            rintro xx w13 ⟨rfl, b13⟩
            rw [show dgT (topT l.length (digL l)) = R from HRP.out.symm]
            have H13 := Lib.hid (And.intro (H12.out.1.below b13) (H12.out.2.far b13))
            clear b13 H12
            go_wp2_with fail
            refine (sr_pairs l Ay A cy ca w13 (by have := HL.out; omega) H13.out.1 H13.out.2.pa).mono ?_
            rintro xx w14 ⟨rfl, n14, hw14⟩
            have H14 : Hid (Below W.heap.size W w14) := Lib.hid (by rw [hw14]; exact below_drewN H13.out.2.bel _)
            clear hw14 H13
            go_wp2
            go_ret
            exact ⟨by simp, H14.out⟩
          | false =>
            obtain ⟨m', hd, hk'⟩ := del_gone (show SortL m from HR.out.2.1.now.2.1) HLK.out (by
              have := HTH.out
              cases e : lk l x with
              | none => rfl
              | some v => rw [e] at this; cases this)
            go_wp2_with fail
            refine (sf_del HR.out.1 HR.out.2.2.2.1 HR.out.2.1 x HX.out).mono ?_
            rintro xx w7 ⟨rfl, p7, b7⟩
            have H7 : Hid (St2F F w7 Bb Ba (stA l 9) (stA l 1) ∧ StOk (stA l 9) ∧ Gp W w7 A l ∧ FrW F w7) := Lib.hid (by
              have ho := delV_ok HR.out.2.1 x
              rw [hd] at p7 ho
              have hm : m' = l := ext_lk ho.now.2.1 HSO.out.1 hk'
              rw [hm] at p7 ho
              exact ⟨p7, ho, HR.out.2.2.1.fb b7 HR.out.2.2.2.2, HR.out.2.2.2.1.later b7.sz⟩)
            have HFW := Lib.hid HR.out.2.2.2.2
            clear p7 b7 hd hk' HR
            have HOA : Hid (StOk (stA l 1) ∧ StOk ⟨l, 1, [[], l]⟩ ∧ StOk ⟨l, 9, [[], l]⟩) := Lib.hid (by
              have h0 : StOk (stA l 1) := ⟨H7.out.2.1.now, H7.out.2.1.blks, H7.out.2.1.one, H7.out.2.1.few, (show 1 + 1 ≤ 18446744073709551616 by decide)⟩
              have h1 := comV_ok h0
              have h2 := comV_ok H7.out.2.1
              rw [com_stA] at h1
              rw [com_stB] at h2
              exact ⟨h0, h1, h2⟩)
            go_wp2_with fail
            refine (sf_com H7.out.1.swap H7.out.2.2.2 HOA.out.1).mono ?_
            rintro xx w8 ⟨rfl, p8, b8⟩
            rw [comR_A]
            have H8 : Hid (St2F F w8 Ba Bb ⟨l, 1, [[], l]⟩ (stA l 9) ∧ Gp W w8 A l ∧ FrW F w8) := Lib.hid (by
              rw [com_stA] at p8
              exact ⟨p8, H7.out.2.2.1.fb b8 HFW.out, H7.out.2.2.2.later b8.sz⟩)
            clear p8 b8
            go_wp2_with fail
            refine (sf_com H8.out.1.swap H8.out.2.2 H7.out.2.1).mono ?_
            rintro xx w9 ⟨rfl, p9, b9⟩
            rw [comR_B]
            have H9 : Hid (St2F F w9 Ba Bb ⟨l, 1, [[], l]⟩ ⟨l, 9, [[], l]⟩ ∧ Gp W w9 A l) := Lib.hid (by
              rw [com_stB] at p9
              exact ⟨p9.swap, H8.out.2.1.fb b9 HFW.out⟩)
            clear p9 b9 H8 H7
            go_wp2_with fail
            refine (sf_root H9.out.1 HOA.out.2.1 2 (by decide) H9.out.2.ok).mono ?_
            rintro xx w10 ⟨rfl, p10, b10⟩
            rw [root_A]
            have H10 := Lib.hid (And.intro p10 (H9.out.2.far b10))
            clear p10 b10 H9
            go_wp2_with fail
            refine (sf_root H10.out.1.swap HOA.out.2.2 10 (by decide) H10.out.2.ok).mono ?_
            rintro xx w11 ⟨rfl, p11, b11⟩
            rw [root_B]
            have H11 := Lib.hid (And.intro p11 (H10.out.2.far b11))
            clear p11 b11 H10
            go_wp2_with fail
            refine (sf_at H11.out.1 HOA.out.2.2 10 (by decide)).mono ?_
            rintro xx w12 ⟨⟨v, rfl, ⟨Ay, cy, rfl, hcy, psy, -⟩, -⟩, p12, b12⟩
            rw [at_B] at psy hcy
            rw [at_B]
            have H12 := Lib.hid (And.intro psy (H11.out.2.far b12))
            clear p12 b12 psy hcy H11
            obtain ⟨R, hR⟩ : ∃ R, R = rootP l := ⟨_, rfl⟩
            rw [← hR]
            have HRP := Lib.hid hR
            clear hR
            have t1 : (R.toList == R.toList) = true := by simp
            go_wp2_with fail
            refine (mk_root l A ca w12 (by have := HL.out; omega) HFIT.out H12.out.2.pa H12.out.2.ok HG.out.2).mono ?_
            rintro xx w13 ⟨rfl, b13⟩
            rw [show dgT (topT l.length (digL l)) = R from HRP.out.symm]
            have H13 := Lib.hid (And.intro (H12.out.1.below b13) (H12.out.2.far b13))
            clear b13 H12
            go_wp2_with fail
            refine (sr_pairs l Ay A cy ca w13 (by have := HL.out; omega) H13.out.1 H13.out.2.pa).mono ?_
            rintro xx w14 ⟨rfl, n14, hw14⟩
            have H14 : Hid (Below W.heap.size W w14) := Lib.hid (by rw [hw14]; exact below_drewN H13.out.2.bel _)
            clear hw14 H13
            go_wp2
            go_ret
            exact ⟨by simp, H14.out⟩
theorem _root_.Go.Proofs.YtcknhnbckbocjaaDoor.storeSame_walk (v0 : Value) (t : Int) (x : ByteArray) {W : World} (h0 : ∃ A ca l, v0 = .slice A (List.length l) ca ∧ List.length l ≤ ca ∧ PsLo W W.heap.size A l) (_ : (Lit.int .i64 t).wf = true) (hx : x.size ≤ maxLen) (w : World) (e : W = w) (hL : LaidOk w) :
    Calls Tryd.prog 5 #[v0, .int .i64 t, .string x] w fun x w' => x = .returned (.bool true) ∧ Below w.heap.size w w' := by
  subst e
  obtain ⟨A, ca, l, rfl, hca, hA⟩ := h0
  by_cases hg : Yes l t
  · obtain ⟨n, rfl⟩ := Int.eq_ofNat_of_zero_le hg.2.2.1
    exact main x n A ca l W ⟨hL, hA, Below.refl _ _⟩ hg hca hx
  · exact early x t A ca l W ⟨hL, hA, Below.refl _ _⟩ hg
end storeSame
end Go.Proofs.YtcknhnbckbocjaaDoor
