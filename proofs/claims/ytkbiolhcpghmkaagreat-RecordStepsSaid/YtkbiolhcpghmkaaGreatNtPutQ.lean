/- Contracts of note.put, PutNotes, PutItems. Condition: lengths. -/
import Derived.WalkSpells
import Derived.Test.YtkbiolhcpghmkaaGreatNtPartsQ
import Derived.Test.YtkbiolhcpghmkaaGreatPkRBQ
import Derived.Test.YtkbiolhcpghmkaaGreatRefValQ
namespace Go.Proofs.YtkbiolhcpghmkaaGreat
open Go.RowKit
set_option linter.unusedVariables false
/-- a writing call that puts 'add' if all is well, and else remembers ErrRange -/
def WrStep (w : World) (base B : Nat) (v : Value) (e : Int) (l : List Nat) (ok : Prop) (add : List Nat) (n : Nat) (x : Ending) (w' : World) : Prop :=
  ∃ e' l', WrAny w base B v e' l' x w' ∧ l'.length ≤ l.length + n ∧ (ok → e' = e ∧ l' = l ++ add) ∧ (¬ ok → e' = keepE e 1)
theorem keepE_one (e : Int) : keepE (keepE e 1) 1 = keepE e 1 := by
  unfold keepE
  by_cases h : e = 0
  · subst h; rfl
  · rw [if_neg h, if_neg h]
theorem wr_byte_step (base B : Nat) (e : Int) (v : Value) (l : List Nat) (n : Int) (w : World) (h : Wr w base B e v l) (hl : l.length ≤ 1000000) :
    Calls Tryz.prog 25 #[.pointer (some ⟨B, 0, none⟩), .int .i64 n] w (WrStep w base B v e l (0 ≤ n ∧ n ≤ 255) [n.toNat] 1) := by
  by_cases hn : 0 ≤ n ∧ n ≤ 255
  · obtain ⟨m, rfl⟩ := Int.eq_ofNat_of_zero_le hn.1
    refine (wr_byte_ok base B e v l m w h (by omega) (by omega)).mono fun x w' hp => ?_
    exact ⟨e, l ++ [m], hp.any, by simp, fun _ => ⟨rfl, rfl⟩, fun h => absurd hn h⟩
  · refine (wr_byte_bad base B e v l n w h (by omega)).mono fun x w' hp => ?_
    exact ⟨_, l, hp, by omega, fun h => absurd h hn, fun _ => rfl⟩
theorem encP_len' (p : PkV) : (encP p).length = 19 + p.d.size := by
  simp [encP, num8, hi2, nl_length]; omega
theorem pk_put_step (base B : Nat) (e : Int) (v : Value) (l : List Nat) (n : NtV) (w : World) (h : Wr w base B e v l) (hwf : n.wf) (hl : l.length ≤ 1000000) :
    Calls Tryz.prog 73 #[.pointer (some ⟨B, 0, none⟩), .agg #[.int .i64 n.f, .int .u64 n.q, .int .u64 n.t, .string n.d]] w (WrStep w base B v e l (PkOk n.p) (encP n.p) 83) := by
  by_cases hok : PkOk n.p
  · refine (pk_put_ok_e base B e v l n.f n.q n.t n.d w h hok hwf.1 hwf.2 hl).mono fun x w' hp => ?_
    refine ⟨e, _, hp, ?_, fun _ => ⟨rfl, rfl⟩, fun h => absurd hok h⟩
    have h5 : n.d.size ≤ 64 := hok.2.2.2.2
    have := encP_len' ⟨n.f, n.q, n.t, n.d⟩
    simp only at this
    rw [List.length_append]; omega
  · refine (pk_put_bad_e base B e v l n.f n.q n.t n.d w h hok).mono fun x w' hp => ?_
    exact ⟨_, l, hp, by omega, fun h => absurd h hok, fun _ => rfl⟩
def encE (n : NtV) : List Nat := [n.k.toNat] ++ encP n.p
def encL : List NtV → List Nat
  | [] => []
  | n :: l => encE n ++ encL l
theorem encL_snoc (l : List NtV) (n : NtV) : encL (l ++ [n]) = encL l ++ encE n := by
  induction l with
  | nil => simp [encL]
  | cons a l ih => simp [encL, ih, List.append_assoc]
/-- what the rounds up to j leave -/
structure PutAt (w : World) (base B : Nat) (v : Value) (e : Int) (l : List Nat) (marks : List Int) (ns : List NtV) (j : Nat) (wr : World) : Prop where
  hj : j ≤ ns.length
  it : ∃ e' v' l', WrMid w base B v e' v' l' wr ∧ l'.length ≤ l.length + 1 + 84 * j ∧
    ((ns.length ≤ 255 ∧ ∀ i (h : i < ns.length), i < j → EnOk marks ns[i]) → e' = e ∧ l' = l ++ ([ns.length] ++ encL (ns.take j))) ∧
    (¬ (ns.length ≤ 255 ∧ ∀ i (h : i < ns.length), i < j → EnOk marks ns[i]) → e' = keepE e 1)
theorem PutAt.next {w wr : World} {base B : Nat} {v : Value} {e : Int} {l : List Nat} {marks : List Int} {ns : List NtV} {j : Nat} {e' e1 e2 e3 : Int} {l' l1 l2 l3 : List Nat} {v3 : Value}
    (hj : j < ns.length) (hm : ∀ m ∈ marks, 0 ≤ m ∧ m ≤ 255) (hlen : l'.length ≤ l.length + 1 + 84 * j)
    (ha : (ns.length ≤ 255 ∧ ∀ i (h : i < ns.length), i < j → EnOk marks ns[i]) → e' = e ∧ l' = l ++ ([ns.length] ++ encL (ns.take j)))
    (hb : ¬ (ns.length ≤ 255 ∧ ∀ i (h : i < ns.length), i < j → EnOk marks ns[i]) → e' = keepE e 1)
    (h1 : ns[j].k ∈ marks → e1 = e' ∧ l1 = l') (h1' : ¬ ns[j].k ∈ marks → e1 = keepE e' 1 ∧ l1 = l')
    (s2 : l2.length ≤ l1.length + 1) (h2 : 0 ≤ ns[j].k ∧ ns[j].k ≤ 255 → e2 = e1 ∧ l2 = l1 ++ [ns[j].k.toNat]) (h2' : ¬ (0 ≤ ns[j].k ∧ ns[j].k ≤ 255) → e2 = keepE e1 1)
    (s3 : l3.length ≤ l2.length + 83) (h3 : PkOk ns[j].p → e3 = e2 ∧ l3 = l2 ++ encP ns[j].p) (h3' : ¬ PkOk ns[j].p → e3 = keepE e2 1)
    (hm3 : WrMid w base B v e3 v3 l3 wr) : PutAt w base B v e l marks ns (j + 1) wr := by
  have hl1 : l1 = l' := by
    by_cases h : ns[j].k ∈ marks
    · exact (h1 h).2
    · exact (h1' h).2
  refine ⟨hj, e3, v3, l3, hm3, by rw [hl1] at s2; omega, fun hall => ?_, fun hall => ?_⟩
  · have hpre : ns.length ≤ 255 ∧ ∀ i (h : i < ns.length), i < j → EnOk marks ns[i] := ⟨hall.1, fun i h hi => hall.2 i h (by omega)⟩
    have hnow := hall.2 j hj (by omega)
    obtain ⟨rfl, rfl⟩ := ha hpre
    obtain ⟨rfl, rfl⟩ := h1 hnow.1
    obtain ⟨rfl, rfl⟩ := h2 (hm _ hnow.1)
    obtain ⟨rfl, rfl⟩ := h3 hnow.2
    refine ⟨rfl, ?_⟩
    rw [List.take_succ_eq_append_getElem hj, encL_snoc]
    simp [encE, List.append_assoc]
  · have k1 : e' = e ∨ e' = keepE e 1 := by
      by_cases h : ns.length ≤ 255 ∧ ∀ i (h : i < ns.length), i < j → EnOk marks ns[i]
      · exact Or.inl (ha h).1
      · exact Or.inr (hb h)
    have st : ∀ a b : Int, (a = e ∨ a = keepE e 1) → (b = a ∨ b = keepE a 1) → (b = e ∨ b = keepE e 1) := by
      intro a b hx hy
      rcases hx with hx | hx
      · rw [hx] at hy; exact hy
      · rcases hy with hy | hy
        · exact Or.inr (hy.trans hx)
        · exact Or.inr (by rw [hy, hx, keepE_one])
    have st2 : ∀ a b : Int, a = keepE e 1 → (b = a ∨ b = keepE a 1) → b = keepE e 1 := by
      intro a b hx hy
      rcases hy with hy | hy
      · rw [hy, hx]
      · rw [hy, hx, keepE_one]
    have c1 : e1 = e' ∨ e1 = keepE e' 1 := by
      by_cases h : ns[j].k ∈ marks
      · exact Or.inl (h1 h).1
      · exact Or.inr (h1' h).1
    have c2 : e2 = e1 ∨ e2 = keepE e1 1 := by
      by_cases h : 0 ≤ ns[j].k ∧ ns[j].k ≤ 255
      · exact Or.inl (h2 h).1
      · exact Or.inr (h2' h)
    have c3 : e3 = e2 ∨ e3 = keepE e2 1 := by
      by_cases h : PkOk ns[j].p
      · exact Or.inl (h3 h).1
      · exact Or.inr (h3' h)
    have up1 : ∀ a b : Int, (a = e ∨ a = keepE e 1) → b = keepE a 1 → b = keepE e 1 := by
      intro a b hx hy
      rcases hx with hx | hx
      · rw [hy, hx]
      · rw [hy, hx, keepE_one]
    by_cases hpre : ns.length ≤ 255 ∧ ∀ i (h : i < ns.length), i < j → EnOk marks ns[i]
    · have hbad : ¬ EnOk marks ns[j] := fun hx => hall ⟨hpre.1, fun i h hi => by
        rcases Nat.lt_or_ge i j with h' | h'
        · exact hpre.2 i h h'
        · have : i = j := by omega
          subst this; exact hx⟩
      by_cases hk : ns[j].k ∈ marks
      · have hp : ¬ PkOk ns[j].p := fun hx => hbad ⟨hk, hx⟩
        exact up1 e2 e3 (st _ _ (st _ _ k1 c1) c2) (h3' hp)
      · exact st2 _ _ (st2 _ _ (up1 _ _ k1 (h1' hk).1) c2) c3
    · exact st2 _ _ (st2 _ _ (st2 _ _ (hb hpre) c1) c2) c3
theorem PutAt.mid {w wr : World} {base B : Nat} {v : Value} {e : Int} {l : List Nat} {marks : List Int} {ns : List NtV} {j : Nat} (h : PutAt w base B v e l marks ns j wr) :
    ∃ e' v' l', WrMid w base B v e' v' l' wr ∧ l'.length ≤ l.length + 1 + 84 * j ∧
    ((ns.length ≤ 255 ∧ ∀ i (h : i < ns.length), i < j → EnOk marks ns[i]) → e' = e ∧ l' = l ++ ([ns.length] ++ encL (ns.take j))) ∧
    (¬ (ns.length ≤ 255 ∧ ∀ i (h : i < ns.length), i < j → EnOk marks ns[i]) → e' = keepE e 1) := h.it
theorem WrMid.belowM {w wr w' : World} {base B : Nat} {v0 v : Value} {e : Int} {l : List Nat} (h : WrMid w base B v0 e v l wr) (hb : Below wr.heap.size wr w') : WrMid w base B v0 e v l w' := by
  have hk : Kq.Keeps (fun _ => False) wr w' := Kq.Keeps.of_below (S := fun _ => False) hb (fun k h1 h2 => absurd h1 (Nat.not_le.2 h2))
  exact ⟨h.it.belowW hb, h.keeps.trans (hk.mono (fun _ _ hf => hf.elim)), h.fresh⟩
theorem WrMid.stepV {w wr w' : World} {base B : Nat} {v0 v v' : Value} {e e' : Int} {l l' : List Nat} (h : WrMid w base B v0 e v l wr) (h1 : Wr w' base B e' v' l') (h2 : Kq.Keeps (fun k => k = B ∨ some k = v.ownBlock) wr w') (h3 : ∀ k, v'.ownBlock = some k → some k = v.ownBlock ∨ wr.heap.size ≤ k) : WrMid w base B v0 e' v' l' w' := by
  refine ⟨h1, ?_, fun k hk => ?_⟩
  · refine ⟨h2.os.trans h.keeps.os, h2.tape.trans h.keeps.tape, h2.output.trans h.keeps.output, Nat.le_trans h.keeps.size h2.size, fun k hk hn => ?_⟩
    rw [h2.block k (Nat.lt_of_lt_of_le hk h.keeps.size) ?_, h.keeps.block k hk hn]
    rintro (h4 | h4)
    · exact hn (Or.inl h4)
    · rcases h.fresh k h4.symm with h5 | h5
      · exact hn (Or.inr h5)
      · omega
  · rcases h3 k hk with h4 | h4
    · exact h.fresh k h4.symm
    · exact Or.inr (Nat.le_trans h.keeps.size h4)
/-- what a list's putting leaves -/
def PutPost (w : World) (base B : Nat) (v : Value) (e : Int) (l : List Nat) (marks : List Int) (ns : List NtV) : Ending → World → Prop :=
  WrStep w base B v e l (ns.length ≤ 255 ∧ ∀ n ∈ ns, EnOk marks n) ([ns.length] ++ encL ns) (1 + 84 * ns.length)
theorem PutAt.done {w wr : World} {base B : Nat} {v : Value} {e : Int} {l : List Nat} {marks : List Int} {ns : List NtV} (h : PutAt w base B v e l marks ns ns.length wr) : PutPost w base B v e l marks ns (.returned (.tuple #[])) wr := by
  obtain ⟨e', v', l', hm, hlen, ha, hb⟩ := h.it
  have hiff : (ns.length ≤ 255 ∧ ∀ n ∈ ns, EnOk marks n) ↔ (ns.length ≤ 255 ∧ ∀ i (h : i < ns.length), i < ns.length → EnOk marks ns[i]) := by
    refine and_congr Iff.rfl ⟨fun h i hi _ => h _ (List.getElem_mem _), fun h n hn => ?_⟩
    obtain ⟨i, hi, rfl⟩ := List.getElem_of_mem hn
    exact h i hi hi
  refine ⟨e', l', hm.post, by omega, fun h => ?_, fun h => hb (fun h' => h (hiff.2 h'))⟩
  have := ha (hiff.1 h)
  rwa [List.take_length] at this
/-- ints in memory -/
def IntsAt (w : World) (b : Nat) (zs : List Int) : Prop := b < w.heap.size ∧ ∀ j (h : j < zs.length), w.cell? ⟨b, j, none⟩ = some (.int .i64 zs[j])
theorem IntsAt.keeps {w w' : World} {b : Nat} {zs : List Int} {S : Nat → Prop} (h : IntsAt w b zs) (hk : Kq.Keeps S w w') (hS : ¬ S b) : IntsAt w' b zs :=
  ⟨Nat.lt_of_lt_of_le h.1 hk.size, fun j hj => by
    rw [← h.2 j hj]
    unfold World.cell?
    rw [hk.block b h.1 hS]⟩
theorem IntsAt.below {w w' : World} {b : Nat} {zs : List Int} (h : IntsAt w b zs) (hb : Below w.heap.size w w') : IntsAt w' b zs :=
  h.keeps (Kq.Keeps.of_below (S := fun _ => False) hb (fun k h1 h2 => absurd h1 (Nat.not_le.2 h2))) id
set_option maxRecDepth 100000 in
set_option maxHeartbeats 4000000 in
theorem nt_put (base B mb mc : Nat) (e : Int) (v : Value) (l : List Nat) (A : Option Addr) (cap : Nat) (marks : List Int) (ns : List NtV) (w : World) (h : Wr w base B e v l) (hA : EnAt NtV.nc w A ns) (hM : IntsAt w mb marks)
    (hAB : ∀ g o, 0 < ns.length → A = some ⟨g, o, none⟩ → g ≠ B ∧ some g ≠ v.ownBlock) (hMB : mb ≠ B ∧ some mb ≠ v.ownBlock) (hm : ∀ m ∈ marks, 0 ≤ m ∧ m ≤ 255) (hms : marks.length ≤ 10) (hwf : ∀ n ∈ ns, n.wf) (hns : ns.length ≤ 300) (hl : l.length ≤ 900000) :
    Calls Tryz.prog 58 #[.pointer (some ⟨B, 0, none⟩), .slice A ns.length cap, .func (.func 57) #[] #[], .slice (some ⟨mb, 0, none⟩) marks.length mc] w (PutPost w base B v e l marks ns) := by
  have H := Lib.hid (And.intro h (And.intro hA (And.intro hM (And.intro hAB (And.intro hMB (And.intro hm (And.intro hwf hl)))))))
  have HNS := Lib.hid hns
  have HMS := Lib.hid hms
  have hns' : ns.length ≤ 9223372036854775807 := by omega
  clear h hA hM hAB hMB hm hwf hl hns hms
  go_enter Tryz.func58, Tryz.ntmps58
  go_wp2_with fail
  refine (wr_byte_step base B e v l ns.length w H.out.1 (by have := H.out.2.2.2.2.2.2.2; omega)).mono ?_
  rintro x w2 ⟨e1, l1, hp, hs1, hok1, hbad1⟩
  have HP1 : Hid (PutAt w base B v e l marks ns 0 w2) := Lib.hid (by
    obtain ⟨v1, hm1⟩ := (WrMid.start H.out.1).step hp
    refine ⟨by omega, e1, v1, l1, hm1, by omega, fun h => ?_, fun h => ?_⟩
    · have := hok1 (by omega)
      rw [Int.toNat_natCast] at this
      simpa [encL] using this
    · exact hbad1 (fun hx => h ⟨by omega, fun i _ hi => absurd hi (Nat.not_lt_zero _)⟩))
  obtain ⟨rfl, -⟩ := hp
  clear hs1 hok1 hbad1
  go_wp2
  go_loopw [18] (fun i wr => ∃ j : Nat, i = .int .i64 (j : Int) ∧ PutAt w base B v e l marks ns j wr) (fun i _ => ns.length - (intOf i).toNat)
  case atStart => exact ⟨0, rfl, HP1.out⟩
  case round =>
    obtain ⟨j, rfl, hput⟩ := hrel
    have hj := hput.hj
    have HPUT := Lib.hid hput
    clear hput
    by_cases hlt : j < ns.length
    · obtain ⟨ef, vf, lf, hmid, hlen, hgood, hnot⟩ := HPUT.out.mid
      obtain ⟨b, off, hAe, hb, hc⟩ := (H.out.2.1.keeps hmid.keeps (fun g o hg => by
        rintro (h | h)
        · exact (H.out.2.2.2.1 g o (by omega) hg).1 h
        · exact (H.out.2.2.2.1 g o (by omega) hg).2 h)) j hlt
      have hmarks : IntsAt wr mb marks := H.out.2.2.1.keeps hmid.keeps (by
        rintro (h | h)
        · exact H.out.2.2.2.2.1.1 h
        · exact H.out.2.2.2.2.1.2 h)
      subst hAe
      obtain ⟨n, hn⟩ : ∃ n, n = ns[j] := ⟨_, rfl⟩
      rw [← hn] at hc
      have c0 := hc 0 (by omega)
      have c1 := hc 1 (by omega)
      have c2 := hc 2 (by omega)
      have c3 := hc 3 (by omega)
      have c4 := hc 4 (by omega)
      simp only [NtV.nc, List.getElem?_cons_zero, List.getElem?_cons_succ, Nat.add_zero] at c0 c1 c2 c3 c4
      have HI := Lib.hid (And.intro hlen (And.intro hgood hnot))
      have HN := Lib.hid hn
      have HLT := Lib.hid hlt
      have hsz : lf.length ≤ 1000000 := by have := H.out.2.2.2.2.2.2.2; have := HNS.out; omega
      have HSZ := Lib.hid hsz
      have h84 : lf.length ≤ 930000 := by have := H.out.2.2.2.2.2.2.2; have := HNS.out; omega
      have H84 := Lib.hid h84
      have HQ := Lib.hid (And.intro hmid hmarks)
      clear hlen hgood hnot hmid hmarks hc hb hn hsz h84 HPUT
      go_wp2_with fail
      refine (nt_parts n.k n.f n.q n.t n.d _).mono ?_
      rintro x w3 ⟨rfl, b3⟩
      have H3 : Hid (WrMid w base B v ef vf lf w3 ∧ IntsAt w3 mb marks) := Lib.hid ⟨(HQ.out.1.belowM (Kq.below_alloc _ _)).belowM b3, (HQ.out.2.below (Kq.below_alloc _ _)).below b3⟩
      clear b3 HQ c0 c1 c2 c3 c4
      have H4 : Hid (WrMid w base B v ef vf lf (w3.alloc (Obj.cells #[Value.int IntKind.i64 n.f, Value.int IntKind.u64 n.q, Value.int IntKind.u64 n.t, Value.string n.d] 44)) ∧ IntsAt (w3.alloc (Obj.cells #[Value.int IntKind.i64 n.f, Value.int IntKind.u64 n.q, Value.int IntKind.u64 n.t, Value.string n.d] 44)) mb marks ∧ PB (w3.alloc (Obj.cells #[Value.int IntKind.i64 n.f, Value.int IntKind.u64 n.q, Value.int IntKind.u64 n.t, Value.string n.d] 44)) w3.heap.size n.f n.q n.t n.d) :=
        Lib.hid ⟨H3.out.1.belowM (Kq.below_alloc _ _), H3.out.2.below (Kq.below_alloc _ _), ⟨Kq.blk_new _ _ _ _⟩⟩
      have HB : Hid (w3.heap.size ≠ B ∧ some w3.heap.size ≠ vf.ownBlock) := Lib.hid ⟨Ne.symm (Nat.ne_of_lt (Kq.blk_lt H3.out.1.it.blk)), fun hh => Nat.lt_irrefl _ (H3.out.1.it.own.lt _ hh.symm).2⟩
      clear H3
      by_cases hmem : n.k ∈ marks
      · have dm : decide (n.k ∈ marks) = true := decide_eq_true hmem
        have HMEM := Lib.hid hmem
        have hmsl := HMS.out
        go_wp2_with fail
        refine (nt_contains mb mc marks n.k _ H4.out.2.1.1 (by unfold maxLen; omega) H4.out.2.1.2).mono ?_
        rintro x w5 ⟨rfl, b5⟩
        rw [dm]
        have H5 : Hid (WrMid w base B v ef vf lf w5 ∧ PB w5 w3.heap.size n.f n.q n.t n.d) := Lib.hid ⟨H4.out.1.belowM b5, ⟨Kq.below_blk b5 H4.out.2.2.blk (Kq.blk_lt H4.out.2.2.blk)⟩⟩
        clear b5 H4 dm hmem hmsl
        go_wp2_with fail
        refine (wr_byte_step base B ef vf lf n.k _ H5.out.1.it HSZ.out).mono ?_
        rintro x w6 ⟨e2, l2, hp2, s2, g2, b2⟩
        obtain ⟨v6, M6⟩ := H5.out.1.step hp2
        have K6 : Hid (l2.length ≤ lf.length + 1 ∧ (0 ≤ n.k ∧ n.k ≤ 255 → e2 = ef ∧ l2 = lf ++ [n.k.toNat]) ∧ (¬ (0 ≤ n.k ∧ n.k ≤ 255) → e2 = keepE ef 1)) := Lib.hid ⟨s2, g2, b2⟩
        have H6 : Hid (WrMid w base B v e2 v6 l2 w6 ∧ PB w6 w3.heap.size n.f n.q n.t n.d) := Lib.hid ⟨M6, hp2.2.choose_spec.2.1.blk H5.out.2.blk (fun h => by
          rcases h with h | h
          · exact HB.out.1 h
          · exact HB.out.2 h) |> PB.mk⟩
        obtain ⟨rfl, -⟩ := hp2
        clear M6 s2 g2 b2 H5
        have c0 := H6.out.2.c0
        have c1 := H6.out.2.c1
        have c2 := H6.out.2.c2
        have c3 := H6.out.2.c3
        go_wp2_with fail
        refine (pk_put_step base B e2 v6 l2 n _ H6.out.1.it (H.out.2.2.2.2.2.2.1 n (by rw [HN.out]; exact List.getElem_mem _)) (by have := K6.out.1; have := H84.out; omega)).mono ?_
        rintro x w7 ⟨e3, l3, hp3, s3, g3, b3⟩
        obtain ⟨v7, M7⟩ := H6.out.1.step hp3
        have HE : Hid (PutAt w base B v e l marks ns (j + 1) w7) := Lib.hid (PutAt.next HLT.out H.out.2.2.2.2.2.1 HI.out.1 HI.out.2.1 HI.out.2.2 (fun _ => ⟨rfl, rfl⟩) (fun hx => absurd (by rw [← HN.out]; exact HMEM.out) hx) K6.out.1 (by rw [← HN.out]; exact K6.out.2.1) (by rw [← HN.out]; exact K6.out.2.2) s3 (by rw [← HN.out]; exact g3) (by rw [← HN.out]; exact b3) M7)
        obtain ⟨rfl, -⟩ := hp3
        clear M7 s3 g3 b3 H6 K6 c0 c1 c2 c3
        go_wp2
        go_roundw
        case rel => exact ⟨j + 1, by go_num, HE.out⟩
        case measure => have := HLT.out; simp [intOf]; omega
      · have dm : decide (n.k ∈ marks) = false := decide_eq_false hmem
        have HMEM := Lib.hid hmem
        have hmsl := HMS.out
        go_wp2_with fail
        refine (nt_contains mb mc marks n.k _ H4.out.2.1.1 (by unfold maxLen; omega) H4.out.2.1.2).mono ?_
        rintro x w4 ⟨rfl, b5⟩
        rw [dm]
        have H5 : Hid (WrMid w base B v ef vf lf w4 ∧ PB w4 w3.heap.size n.f n.q n.t n.d) := Lib.hid ⟨H4.out.1.belowM b5, ⟨Kq.below_blk b5 H4.out.2.2.blk (Kq.blk_lt H4.out.2.2.blk)⟩⟩
        clear b5 H4 dm hmem hmsl
        go_wp2_with fail
        refine (nt_refuse base B ef vf lf _ H5.out.1.it).mono ?_
        rintro x w5 ⟨rfl, v5, W5, K5, F5⟩
        have H6 : Hid (WrMid w base B v (keepE ef 1) v5 lf w5 ∧ PB w5 w3.heap.size n.f n.q n.t n.d ∧ some w3.heap.size ≠ v5.ownBlock) := Lib.hid ⟨H5.out.1.stepV W5 K5 F5, ⟨K5.blk H5.out.2.blk (fun h => by
          rcases h with h | h
          · exact HB.out.1 h
          · exact HB.out.2 h)⟩, fun hh => by
            rcases F5 _ hh.symm with h | h
            · exact HB.out.2 h
            · exact Nat.lt_irrefl _ (Nat.lt_of_lt_of_le (Kq.blk_lt H5.out.2.blk) h)⟩
        clear W5 K5 F5 H5
        go_wp2_with fail
        refine (wr_byte_step base B (keepE ef 1) v5 lf n.k _ H6.out.1.it HSZ.out).mono ?_
        rintro x w6 ⟨e2, l2, hp2, s2, g2, b2⟩
        have K6 : Hid (l2.length ≤ lf.length + 1 ∧ (0 ≤ n.k ∧ n.k ≤ 255 → e2 = keepE ef 1 ∧ l2 = lf ++ [n.k.toNat]) ∧ (¬ (0 ≤ n.k ∧ n.k ≤ 255) → e2 = keepE (keepE ef 1) 1)) := Lib.hid ⟨s2, g2, b2⟩
        obtain ⟨rfl, v6, W6, K6', F6⟩ := hp2
        have H7 : Hid (WrMid w base B v e2 v6 l2 w6 ∧ PB w6 w3.heap.size n.f n.q n.t n.d) := Lib.hid ⟨H6.out.1.stepV W6 K6' F6, ⟨K6'.blk H6.out.2.1.blk (fun h => by
          rcases h with h | h
          · exact HB.out.1 h
          · exact H6.out.2.2 h)⟩⟩
        clear W6 K6' F6 s2 g2 b2 H6
        have c0 := H7.out.2.c0
        have c1 := H7.out.2.c1
        have c2 := H7.out.2.c2
        have c3 := H7.out.2.c3
        go_wp2_with fail
        refine (pk_put_step base B e2 v6 l2 n _ H7.out.1.it (H.out.2.2.2.2.2.2.1 n (by rw [HN.out]; exact List.getElem_mem _)) (by have := K6.out.1; have := H84.out; omega)).mono ?_
        rintro x w7 ⟨e3, l3, hp3, s3, g3, b3⟩
        obtain ⟨v7, M7⟩ := H7.out.1.step hp3
        have HE : Hid (PutAt w base B v e l marks ns (j + 1) w7) := Lib.hid (PutAt.next HLT.out H.out.2.2.2.2.2.1 HI.out.1 HI.out.2.1 HI.out.2.2 (fun hx => absurd (by rw [HN.out]; exact hx) HMEM.out) (fun _ => ⟨rfl, rfl⟩) K6.out.1 (by rw [← HN.out]; exact K6.out.2.1) (by rw [← HN.out]; exact K6.out.2.2) s3 (by rw [← HN.out]; exact g3) (by rw [← HN.out]; exact b3) M7)
        obtain ⟨rfl, -⟩ := hp3
        clear M7 s3 g3 b3 H7 K6 c0 c1 c2 c3
        go_wp2
        go_roundw
        case rel => exact ⟨j + 1, by go_num, HE.out⟩
        case measure => have := HLT.out; simp [intOf]; omega
    · obtain rfl : j = ns.length := by omega
      go_wp2
      first | go_end0 | refine bodyPost_ret (results_none rfl _ _ _) rfl ?_
      exact HPUT.out.done
set_option maxRecDepth 100000 in
set_option maxHeartbeats 2000000 in
theorem nt_putnotes (base B : Nat) (e : Int) (v : Value) (l : List Nat) (A : Option Addr) (cap : Nat) (ns : List NtV) (w : World) (h : Wr w base B e v l) (hA : EnAt NtV.nc w A ns)
    (hAB : ∀ g o, 0 < ns.length → A = some ⟨g, o, none⟩ → g ≠ B ∧ some g ≠ v.ownBlock) (hwf : ∀ n ∈ ns, n.wf) (hns : ns.length ≤ 300) (hl : l.length ≤ 900000) :
    Calls Tryz.prog 27 #[.pointer (some ⟨B, 0, none⟩), .slice A ns.length cap] w (PutPost w base B v e l [1, 2, 3, 4] ns) := by
  have hb := Kq.below_alloc w (.cells #[.int .i64 1, .int .i64 2, .int .i64 3, .int .i64 4] 3)
  have hM : IntsAt (w.alloc (.cells #[.int .i64 1, .int .i64 2, .int .i64 3, .int .i64 4] 3)) w.heap.size [1, 2, 3, 4] := by
    refine ⟨by simp, fun j hj => ?_⟩
    have hj' : j < 4 := hj
    rw [Kq.blk_cell (Kq.blk_new w _ _ _) j]
    match j, hj' with
    | 0, _ => rfl
    | 1, _ => rfl
    | 2, _ => rfl
    | 3, _ => rfl
  have H := Lib.hid (And.intro (h.belowW hb) (And.intro (hA.below hb) (And.intro hM (And.intro hAB (And.intro hwf (And.intro hns (And.intro hl hb)))))))
  have HB : Hid (w.heap.size ≠ B ∧ some w.heap.size ≠ v.ownBlock) := Lib.hid ⟨Ne.symm (Nat.ne_of_lt (Kq.blk_lt h.blk)), fun hh => Nat.lt_irrefl _ (h.own.lt _ hh.symm).2⟩
  clear h hA hM hAB hwf hns hl hb
  go_enter Tryz.func27, Tryz.ntmps27
  go_wp2_with fail
  refine (nt_put base B w.heap.size 4 e v l A cap [1, 2, 3, 4] ns _ H.out.1 H.out.2.1 H.out.2.2.1 H.out.2.2.2.1 HB.out (by decide) (by decide) H.out.2.2.2.2.1 H.out.2.2.2.2.2.1 H.out.2.2.2.2.2.2.1).mono ?_
  rintro x w2 ⟨e2, l2, hp, hr⟩
  have HP : Hid (PutPost w base B v e l [1, 2, 3, 4] ns (.returned (.tuple #[])) w2) := Lib.hid ⟨e2, l2, by obtain ⟨rfl, hp⟩ := hp; exact WrAny.from H.out.2.2.2.2.2.2.2 ⟨rfl, hp⟩, hr⟩
  obtain ⟨rfl, -⟩ := hp
  clear hr
  go_wp2
  first | go_end0 | refine bodyPost_ret (results_none rfl _ _ _) rfl ?_
  exact HP.out
set_option maxRecDepth 100000 in
set_option maxHeartbeats 4000000 in
theorem it_put (base B mb mc : Nat) (e : Int) (v : Value) (l : List Nat) (A : Option Addr) (cap : Nat) (marks : List Int) (ns : List NtV) (w : World) (h : Wr w base B e v l) (hA : EnAt NtV.ic w A ns) (hM : IntsAt w mb marks)
    (hAB : ∀ g o, 0 < ns.length → A = some ⟨g, o, none⟩ → g ≠ B ∧ some g ≠ v.ownBlock) (hMB : mb ≠ B ∧ some mb ≠ v.ownBlock) (hm : ∀ m ∈ marks, 0 ≤ m ∧ m ≤ 255) (hms : marks.length ≤ 10) (hwf : ∀ n ∈ ns, n.wf) (hns : ns.length ≤ 300) (hl : l.length ≤ 900000) :
    Calls Tryz.prog 56 #[.pointer (some ⟨B, 0, none⟩), .slice A ns.length cap, .func (.func 55) #[] #[], .slice (some ⟨mb, 0, none⟩) marks.length mc] w (PutPost w base B v e l marks ns) := by
  have H := Lib.hid (And.intro h (And.intro hA (And.intro hM (And.intro hAB (And.intro hMB (And.intro hm (And.intro hwf hl)))))))
  have HNS := Lib.hid hns
  have HMS := Lib.hid hms
  have hns' : ns.length ≤ 9223372036854775807 := by omega
  clear h hA hM hAB hMB hm hwf hl hns hms
  go_enter Tryz.func56, Tryz.ntmps56
  go_wp2_with fail
  refine (wr_byte_step base B e v l ns.length w H.out.1 (by have := H.out.2.2.2.2.2.2.2; omega)).mono ?_
  rintro x w2 ⟨e1, l1, hp, hs1, hok1, hbad1⟩
  have HP1 : Hid (PutAt w base B v e l marks ns 0 w2) := Lib.hid (by
    obtain ⟨v1, hm1⟩ := (WrMid.start H.out.1).step hp
    refine ⟨by omega, e1, v1, l1, hm1, by omega, fun h => ?_, fun h => ?_⟩
    · have := hok1 (by omega)
      rw [Int.toNat_natCast] at this
      simpa [encL] using this
    · exact hbad1 (fun hx => h ⟨by omega, fun i _ hi => absurd hi (Nat.not_lt_zero _)⟩))
  obtain ⟨rfl, -⟩ := hp
  clear hs1 hok1 hbad1
  go_wp2
  go_loopw [18] (fun i wr => ∃ j : Nat, i = .int .i64 (j : Int) ∧ PutAt w base B v e l marks ns j wr) (fun i _ => ns.length - (intOf i).toNat)
  case atStart => exact ⟨0, rfl, HP1.out⟩
  case round =>
    obtain ⟨j, rfl, hput⟩ := hrel
    have hj := hput.hj
    have HPUT := Lib.hid hput
    clear hput
    by_cases hlt : j < ns.length
    · obtain ⟨ef, vf, lf, hmid, hlen, hgood, hnot⟩ := HPUT.out.mid
      obtain ⟨b, off, hAe, hb, hc⟩ := (H.out.2.1.keeps hmid.keeps (fun g o hg => by
        rintro (h | h)
        · exact (H.out.2.2.2.1 g o (by omega) hg).1 h
        · exact (H.out.2.2.2.1 g o (by omega) hg).2 h)) j hlt
      have hmarks : IntsAt wr mb marks := H.out.2.2.1.keeps hmid.keeps (by
        rintro (h | h)
        · exact H.out.2.2.2.2.1.1 h
        · exact H.out.2.2.2.2.1.2 h)
      subst hAe
      obtain ⟨n, hn⟩ : ∃ n, n = ns[j] := ⟨_, rfl⟩
      rw [← hn] at hc
      have c0 := hc 0 (by omega)
      have c1 := hc 1 (by omega)
      have c2 := hc 2 (by omega)
      have c3 := hc 3 (by omega)
      have c4 := hc 4 (by omega)
      simp only [NtV.ic, List.getElem?_cons_zero, List.getElem?_cons_succ, Nat.add_zero] at c0 c1 c2 c3 c4
      have HI := Lib.hid (And.intro hlen (And.intro hgood hnot))
      have HN := Lib.hid hn
      have HLT := Lib.hid hlt
      have hsz : lf.length ≤ 1000000 := by have := H.out.2.2.2.2.2.2.2; have := HNS.out; omega
      have HSZ := Lib.hid hsz
      have h84 : lf.length ≤ 930000 := by have := H.out.2.2.2.2.2.2.2; have := HNS.out; omega
      have H84 := Lib.hid h84
      have HQ := Lib.hid (And.intro hmid hmarks)
      clear hlen hgood hnot hmid hmarks hc hb hn hsz h84 HPUT
      go_wp2_with fail
      refine (it_parts n.k n.f n.q n.t n.d _).mono ?_
      rintro x w3 ⟨rfl, b3⟩
      have H3 : Hid (WrMid w base B v ef vf lf w3 ∧ IntsAt w3 mb marks) := Lib.hid ⟨(HQ.out.1.belowM (Kq.below_alloc _ _)).belowM b3, (HQ.out.2.below (Kq.below_alloc _ _)).below b3⟩
      clear b3 HQ c0 c1 c2 c3 c4
      have H4 : Hid (WrMid w base B v ef vf lf (w3.alloc (Obj.cells #[Value.int IntKind.i64 n.f, Value.int IntKind.u64 n.q, Value.int IntKind.u64 n.t, Value.string n.d] 44)) ∧ IntsAt (w3.alloc (Obj.cells #[Value.int IntKind.i64 n.f, Value.int IntKind.u64 n.q, Value.int IntKind.u64 n.t, Value.string n.d] 44)) mb marks ∧ PB (w3.alloc (Obj.cells #[Value.int IntKind.i64 n.f, Value.int IntKind.u64 n.q, Value.int IntKind.u64 n.t, Value.string n.d] 44)) w3.heap.size n.f n.q n.t n.d) :=
        Lib.hid ⟨H3.out.1.belowM (Kq.below_alloc _ _), H3.out.2.below (Kq.below_alloc _ _), ⟨Kq.blk_new _ _ _ _⟩⟩
      have HB : Hid (w3.heap.size ≠ B ∧ some w3.heap.size ≠ vf.ownBlock) := Lib.hid ⟨Ne.symm (Nat.ne_of_lt (Kq.blk_lt H3.out.1.it.blk)), fun hh => Nat.lt_irrefl _ (H3.out.1.it.own.lt _ hh.symm).2⟩
      clear H3
      by_cases hmem : n.k ∈ marks
      · have dm : decide (n.k ∈ marks) = true := decide_eq_true hmem
        have HMEM := Lib.hid hmem
        have hmsl := HMS.out
        go_wp2_with fail
        refine (nt_contains mb mc marks n.k _ H4.out.2.1.1 (by unfold maxLen; omega) H4.out.2.1.2).mono ?_
        rintro x w5 ⟨rfl, b5⟩
        rw [dm]
        have H5 : Hid (WrMid w base B v ef vf lf w5 ∧ PB w5 w3.heap.size n.f n.q n.t n.d) := Lib.hid ⟨H4.out.1.belowM b5, ⟨Kq.below_blk b5 H4.out.2.2.blk (Kq.blk_lt H4.out.2.2.blk)⟩⟩
        clear b5 H4 dm hmem hmsl
        go_wp2_with fail
        refine (wr_byte_step base B ef vf lf n.k _ H5.out.1.it HSZ.out).mono ?_
        rintro x w6 ⟨e2, l2, hp2, s2, g2, b2⟩
        obtain ⟨v6, M6⟩ := H5.out.1.step hp2
        have K6 : Hid (l2.length ≤ lf.length + 1 ∧ (0 ≤ n.k ∧ n.k ≤ 255 → e2 = ef ∧ l2 = lf ++ [n.k.toNat]) ∧ (¬ (0 ≤ n.k ∧ n.k ≤ 255) → e2 = keepE ef 1)) := Lib.hid ⟨s2, g2, b2⟩
        have H6 : Hid (WrMid w base B v e2 v6 l2 w6 ∧ PB w6 w3.heap.size n.f n.q n.t n.d) := Lib.hid ⟨M6, hp2.2.choose_spec.2.1.blk H5.out.2.blk (fun h => by
          rcases h with h | h
          · exact HB.out.1 h
          · exact HB.out.2 h) |> PB.mk⟩
        obtain ⟨rfl, -⟩ := hp2
        clear M6 s2 g2 b2 H5
        have c0 := H6.out.2.c0
        have c1 := H6.out.2.c1
        have c2 := H6.out.2.c2
        have c3 := H6.out.2.c3
        go_wp2_with fail
        refine (pk_put_step base B e2 v6 l2 n _ H6.out.1.it (H.out.2.2.2.2.2.2.1 n (by rw [HN.out]; exact List.getElem_mem _)) (by have := K6.out.1; have := H84.out; omega)).mono ?_
        rintro x w7 ⟨e3, l3, hp3, s3, g3, b3⟩
        obtain ⟨v7, M7⟩ := H6.out.1.step hp3
        have HE : Hid (PutAt w base B v e l marks ns (j + 1) w7) := Lib.hid (PutAt.next HLT.out H.out.2.2.2.2.2.1 HI.out.1 HI.out.2.1 HI.out.2.2 (fun _ => ⟨rfl, rfl⟩) (fun hx => absurd (by rw [← HN.out]; exact HMEM.out) hx) K6.out.1 (by rw [← HN.out]; exact K6.out.2.1) (by rw [← HN.out]; exact K6.out.2.2) s3 (by rw [← HN.out]; exact g3) (by rw [← HN.out]; exact b3) M7)
        obtain ⟨rfl, -⟩ := hp3
        clear M7 s3 g3 b3 H6 K6 c0 c1 c2 c3
        go_wp2
        go_roundw
        case rel => exact ⟨j + 1, by go_num, HE.out⟩
        case measure => have := HLT.out; simp [intOf]; omega
      · have dm : decide (n.k ∈ marks) = false := decide_eq_false hmem
        have HMEM := Lib.hid hmem
        have hmsl := HMS.out
        go_wp2_with fail
        refine (nt_contains mb mc marks n.k _ H4.out.2.1.1 (by unfold maxLen; omega) H4.out.2.1.2).mono ?_
        rintro x w4 ⟨rfl, b5⟩
        rw [dm]
        have H5 : Hid (WrMid w base B v ef vf lf w4 ∧ PB w4 w3.heap.size n.f n.q n.t n.d) := Lib.hid ⟨H4.out.1.belowM b5, ⟨Kq.below_blk b5 H4.out.2.2.blk (Kq.blk_lt H4.out.2.2.blk)⟩⟩
        clear b5 H4 dm hmem hmsl
        go_wp2_with fail
        refine (nt_refuse base B ef vf lf _ H5.out.1.it).mono ?_
        rintro x w5 ⟨rfl, v5, W5, K5, F5⟩
        have H6 : Hid (WrMid w base B v (keepE ef 1) v5 lf w5 ∧ PB w5 w3.heap.size n.f n.q n.t n.d ∧ some w3.heap.size ≠ v5.ownBlock) := Lib.hid ⟨H5.out.1.stepV W5 K5 F5, ⟨K5.blk H5.out.2.blk (fun h => by
          rcases h with h | h
          · exact HB.out.1 h
          · exact HB.out.2 h)⟩, fun hh => by
            rcases F5 _ hh.symm with h | h
            · exact HB.out.2 h
            · exact Nat.lt_irrefl _ (Nat.lt_of_lt_of_le (Kq.blk_lt H5.out.2.blk) h)⟩
        clear W5 K5 F5 H5
        go_wp2_with fail
        refine (wr_byte_step base B (keepE ef 1) v5 lf n.k _ H6.out.1.it HSZ.out).mono ?_
        rintro x w6 ⟨e2, l2, hp2, s2, g2, b2⟩
        have K6 : Hid (l2.length ≤ lf.length + 1 ∧ (0 ≤ n.k ∧ n.k ≤ 255 → e2 = keepE ef 1 ∧ l2 = lf ++ [n.k.toNat]) ∧ (¬ (0 ≤ n.k ∧ n.k ≤ 255) → e2 = keepE (keepE ef 1) 1)) := Lib.hid ⟨s2, g2, b2⟩
        obtain ⟨rfl, v6, W6, K6', F6⟩ := hp2
        have H7 : Hid (WrMid w base B v e2 v6 l2 w6 ∧ PB w6 w3.heap.size n.f n.q n.t n.d) := Lib.hid ⟨H6.out.1.stepV W6 K6' F6, ⟨K6'.blk H6.out.2.1.blk (fun h => by
          rcases h with h | h
          · exact HB.out.1 h
          · exact H6.out.2.2 h)⟩⟩
        clear W6 K6' F6 s2 g2 b2 H6
        have c0 := H7.out.2.c0
        have c1 := H7.out.2.c1
        have c2 := H7.out.2.c2
        have c3 := H7.out.2.c3
        go_wp2_with fail
        refine (pk_put_step base B e2 v6 l2 n _ H7.out.1.it (H.out.2.2.2.2.2.2.1 n (by rw [HN.out]; exact List.getElem_mem _)) (by have := K6.out.1; have := H84.out; omega)).mono ?_
        rintro x w7 ⟨e3, l3, hp3, s3, g3, b3⟩
        obtain ⟨v7, M7⟩ := H7.out.1.step hp3
        have HE : Hid (PutAt w base B v e l marks ns (j + 1) w7) := Lib.hid (PutAt.next HLT.out H.out.2.2.2.2.2.1 HI.out.1 HI.out.2.1 HI.out.2.2 (fun hx => absurd (by rw [HN.out]; exact hx) HMEM.out) (fun _ => ⟨rfl, rfl⟩) K6.out.1 (by rw [← HN.out]; exact K6.out.2.1) (by rw [← HN.out]; exact K6.out.2.2) s3 (by rw [← HN.out]; exact g3) (by rw [← HN.out]; exact b3) M7)
        obtain ⟨rfl, -⟩ := hp3
        clear M7 s3 g3 b3 H7 K6 c0 c1 c2 c3
        go_wp2
        go_roundw
        case rel => exact ⟨j + 1, by go_num, HE.out⟩
        case measure => have := HLT.out; simp [intOf]; omega
    · obtain rfl : j = ns.length := by omega
      go_wp2
      first | go_end0 | refine bodyPost_ret (results_none rfl _ _ _) rfl ?_
      exact HPUT.out.done
set_option maxRecDepth 100000 in
set_option maxHeartbeats 2000000 in
theorem nt_putitems (base B : Nat) (e : Int) (v : Value) (l : List Nat) (A : Option Addr) (cap : Nat) (ns : List NtV) (w : World) (h : Wr w base B e v l) (hA : EnAt NtV.ic w A ns)
    (hAB : ∀ g o, 0 < ns.length → A = some ⟨g, o, none⟩ → g ≠ B ∧ some g ≠ v.ownBlock) (hwf : ∀ n ∈ ns, n.wf) (hns : ns.length ≤ 300) (hl : l.length ≤ 900000) :
    Calls Tryz.prog 26 #[.pointer (some ⟨B, 0, none⟩), .slice A ns.length cap] w (PutPost w base B v e l [1, 2] ns) := by
  have hb := Kq.below_alloc w (.cells #[.int .i64 1, .int .i64 2] 3)
  have hM : IntsAt (w.alloc (.cells #[.int .i64 1, .int .i64 2] 3)) w.heap.size [1, 2] := by
    refine ⟨by simp, fun j hj => ?_⟩
    have hj' : j < 2 := hj
    rw [Kq.blk_cell (Kq.blk_new w _ _ _) j]
    match j, hj' with
    | 0, _ => rfl
    | 1, _ => rfl
  have H := Lib.hid (And.intro (h.belowW hb) (And.intro (hA.below hb) (And.intro hM (And.intro hAB (And.intro hwf (And.intro hns (And.intro hl hb)))))))
  have HB : Hid (w.heap.size ≠ B ∧ some w.heap.size ≠ v.ownBlock) := Lib.hid ⟨Ne.symm (Nat.ne_of_lt (Kq.blk_lt h.blk)), fun hh => Nat.lt_irrefl _ (h.own.lt _ hh.symm).2⟩
  clear h hA hM hAB hwf hns hl hb
  go_enter Tryz.func26, Tryz.ntmps26
  go_wp2_with fail
  refine (it_put base B w.heap.size 2 e v l A cap [1, 2] ns _ H.out.1 H.out.2.1 H.out.2.2.1 H.out.2.2.2.1 HB.out (by decide) (by decide) H.out.2.2.2.2.1 H.out.2.2.2.2.2.1 H.out.2.2.2.2.2.2.1).mono ?_
  rintro x w2 ⟨e2, l2, hp, hr⟩
  have HP : Hid (PutPost w base B v e l [1, 2] ns (.returned (.tuple #[])) w2) := Lib.hid ⟨e2, l2, by obtain ⟨rfl, hp⟩ := hp; exact WrAny.from H.out.2.2.2.2.2.2.2 ⟨rfl, hp⟩, hr⟩
  obtain ⟨rfl, -⟩ := hp
  clear hr
  go_wp2
  first | go_end0 | refine bodyPost_ret (results_none rfl _ _ _) rfl ?_
  exact HP.out
end Go.Proofs.YtkbiolhcpghmkaaGreat
