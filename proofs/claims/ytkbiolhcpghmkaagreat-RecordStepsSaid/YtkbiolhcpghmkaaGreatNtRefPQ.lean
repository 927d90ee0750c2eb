/- Merged: NtStep, NtRef, NtRefL, NtRefP. Writing steps, one behind the other. No condition. Contracts of carrackref14.Right, RightItem, By, Place, Notes, Items. Condition: sizes. Contracts of carrackref14.Notes, Items. Condition: sizes. Contract of carrackref14.Place. Condition: sizes. -/
import Derived.WalkSpells
import Derived.Test.YtkbiolhcpghmkaaGreatNtPutQ
import Derived.Test.YtkbiolhcpghmkaaGreatBetwQ
import Derived.Deep.RegionHeld
import Derived.Test.YtkbiolhcpghmkaaGreatPkRBQ
import Derived.Test.YtkbiolhcpghmkaaGreatNtRightQ
namespace Go.Proofs.YtkbiolhcpghmkaaGreat
open Go.RowKit
set_option linter.unusedVariables false
theorem WrStep.then {w w1 w2 : World} {base R : Nat} {v v1 : Value} {e e1 : Int} {acc l1 : List Nat} {ok1 ok2 : Prop} {a1 a2 : List Nat} {n1 n2 : Nat} {x : Ending}
    (W1 : Wr w1 base R e1 v1 l1) (K1 : Kq.Keeps (fun k => k = R ∨ some k = v.ownBlock) w w1) (F1 : ∀ k, v1.ownBlock = some k → some k = v.ownBlock ∨ w.heap.size ≤ k)
    (s1 : l1.length ≤ acc.length + n1) (g1 : ok1 → e1 = e ∧ l1 = acc ++ a1) (b1 : ¬ ok1 → e1 = keepE e 1) (h2 : WrStep w1 base R v1 e1 l1 ok2 a2 n2 x w2) : WrStep w base R v e acc (ok1 ∧ ok2) (a1 ++ a2) (n1 + n2) x w2 := by
  obtain ⟨e2, l2, ⟨rfl, v2, W2, K2, F2⟩, s2, g2, b2⟩ := h2
  have M := WrMid.stepV (w := w) ⟨W1, K1, F1⟩ W2 K2 F2
  refine ⟨e2, l2, M.post, by omega, fun h => ?_, fun h => ?_⟩
  · obtain ⟨rfl, rfl⟩ := g1 h.1
    obtain ⟨rfl, rfl⟩ := g2 h.2
    exact ⟨rfl, by rw [List.append_assoc]⟩
  · by_cases h1 : ok1
    · obtain ⟨rfl, rfl⟩ := g1 h1
      exact b2 (fun h2 => h ⟨h1, h2⟩)
    · have h1' := b1 h1
      by_cases h2 : ok2
      · rw [(g2 h2).1, h1']
      · rw [b2 h2, h1', keepE_one]
/-- below, from a writer's birth on -/
theorem wr_below {w w2 : World} {e : Int} {v : Value} {acc : List Nat} (W : Wr w2 w.heap.size w.heap.size e v acc) (K : Kq.Keeps (fun k => k = w.heap.size ∨ some k = (Value.slice none 0 0).ownBlock) (w.alloc (.cells #[.int .i64 0, .slice none 0 0] 73 (0, 0))) w2) : Below w.heap.size w w2 :=
  (Kq.below_alloc w _).trans (K.below (Kq.below_alloc w _).size (fun k _ hk => by
    rcases hk with rfl | hk
    · exact Nat.le_refl _
    · cases hk))
theorem WrStep.any {w w1 : World} {base R : Nat} {v : Value} {e : Int} {acc : List Nat} {ok : Prop} {add : List Nat} {n : Nat} {x : Ending} (h : WrStep w base R v e acc ok add n x w1) :
    x = .returned (.tuple #[]) ∧ ∃ e1 l1 v1, Wr w1 base R e1 v1 l1 ∧ Kq.Keeps (fun k => k = R ∨ some k = v.ownBlock) w w1 ∧ (∀ k, v1.ownBlock = some k → some k = v.ownBlock ∨ w.heap.size ≤ k) ∧ l1.length ≤ acc.length + n ∧ (ok → e1 = e ∧ l1 = acc ++ add) ∧ (¬ ok → e1 = keepE e 1) := by
  obtain ⟨e1, l1, ⟨rfl, v1, W1, K1, F1⟩, s1, g1, b1⟩ := h
  exact ⟨rfl, e1, l1, v1, W1, K1, F1, s1, g1, b1⟩
theorem hab {c : NtV → List Value} {w0 : World} {A : Option Addr} {l : List NtV} (hA : EnAt c w0 A l) {v : Value} (hv : ∀ k, v.ownBlock = some k → some k = (Value.slice none 0 0).ownBlock ∨ w0.heap.size ≤ k) :
    ∀ g o, 0 < l.length → A = some ⟨g, o, none⟩ → g ≠ w0.heap.size ∧ some g ≠ v.ownBlock := by
  intro g o h0 hg
  obtain ⟨b, off, he, hlt, _⟩ := hA 0 h0
  rw [hg] at he
  simp only [Option.some.injEq, Addr.mk.injEq] at he
  refine ⟨by omega, fun h => ?_⟩
  rcases hv g h.symm with h' | h'
  · cases h'
  · omega
theorem nt_place_step (base B : Nat) (e : Int) (v : Value) (l : List Nat) (a i : Int) (w : World) (h : Wr w base B e v l) (ha : 0 ≤ a ∧ a < 18446744073709551616) (hl : l.length ≤ 1000000) :
    Calls Tryz.prog 21 #[.pointer (some ⟨B, 0, none⟩), .agg #[.int .u64 a, .int .i64 i]] w (WrStep w base B v e l (0 ≤ i ∧ i ≤ 65535) (num8 a.toNat ++ num8 i.toNat) 16) := by
  by_cases hi : 0 ≤ i ∧ i ≤ 65535
  · obtain ⟨an, rfl⟩ := Int.eq_ofNat_of_zero_le ha.1
    obtain ⟨n, rfl⟩ := Int.eq_ofNat_of_zero_le hi.1
    refine (nt_place_ok base B e v l an n w h (by omega) (by omega) hl).mono fun x w' hp => ?_
    exact ⟨e, _, hp, by simp [num8], fun _ => ⟨rfl, rfl⟩, fun h => absurd hi h⟩
  · refine (nt_place_bad base B e v l a i w h (by omega)).mono fun x w' hp => ?_
    exact ⟨_, l, hp, by omega, fun h => absurd h hi, fun _ => rfl⟩
end Go.Proofs.YtkbiolhcpghmkaaGreat
namespace Go.Proofs.YtkbiolhcpghmkaaGreat
open Go.RowKit
set_option linter.unusedVariables false
end Go.Proofs.YtkbiolhcpghmkaaGreat
namespace Go.Proofs.YtkbiolhcpghmkaaGreat
open Go.RowKit
set_option linter.unusedVariables false
theorem be1' (n : Nat) (h : n < 256) : txt (be n 1) = txt [n] := by rw [be1 n h]
theorem txt_app (a b : List Nat) (ha : ∀ x ∈ a, x < 256) (hb : ∀ x ∈ b, x < 256) : txt a ++ txt b = txt (a ++ b) := by
  apply nl_inj
  rw [nl_append, nl_txt _ ha, nl_txt _ hb, nl_txt]
  intro x hx
  rcases List.mem_append.1 hx with h | h
  · exact ha x h
  · exact hb x h
theorem encE_lt (marks : List Int) (hm : ∀ m ∈ marks, 0 ≤ m ∧ m ≤ 255) (n : NtV) (h : EnOk marks n) : ∀ b ∈ encE n, b < 256 := by
  intro b hb
  unfold encE at hb
  rcases List.mem_append.1 hb with h1 | h1
  · have := hm _ h.1
    simp only [List.mem_singleton] at h1
    omega
  · exact encP_lt _ h.2 b h1
theorem encE_len (n : NtV) : (encE n).length = 20 + n.d.size := by
  unfold encE; rw [List.length_append, encP_len']; simp [NtV.p]; omega
theorem encL_lt (marks : List Int) (hm : ∀ m ∈ marks, 0 ≤ m ∧ m ≤ 255) (l : List NtV) (h : ∀ n ∈ l, EnOk marks n) : ∀ b ∈ encL l, b < 256 := by
  induction l with
  | nil => intro b hb; cases hb
  | cons n l ih =>
    intro b hb
    rcases List.mem_append.1 hb with h1 | h1
    · exact encE_lt marks hm n (h n (List.mem_cons_self ..)) b h1
    · exact ih (fun m hm' => h m (List.mem_cons_of_mem _ hm')) b h1
theorem encL_len (marks : List Int) (l : List NtV) (h : ∀ n ∈ l, EnOk marks n) : (encL l).length ≤ 84 * l.length := by
  induction l with
  | nil => simp [encL]
  | cons n l ih =>
    have h1 : n.d.size ≤ 64 := (h n (List.mem_cons_self ..)).2.2.2.2.2
    have := ih (fun m hm' => h m (List.mem_cons_of_mem _ hm'))
    have h3 := encE_len n
    simp only [encL, List.length_append, List.length_cons]
    omega
/-- the text of the first j -/
def preT (ns : List NtV) (j : Nat) : ByteArray := txt ([ns.length] ++ encL (ns.take j))
theorem preT_zero (ns : List NtV) : preT ns 0 = txt [ns.length] := by simp [preT, encL]
theorem preT_size (marks : List Int) (ns : List NtV) (j : Nat) (h : ∀ i (hi : i < ns.length), i < j → EnOk marks ns[i]) : (preT ns j).size ≤ 1 + 84 * ns.length := by
  unfold preT
  rw [txt_size, List.length_append]
  have := encL_len marks (ns.take j) (fun n hn => by
    obtain ⟨i, hi, rfl⟩ := List.getElem_of_mem hn
    rw [List.getElem_take]
    exact h i (by rw [List.length_take] at hi; omega) (by rw [List.length_take] at hi; omega))
  have h2 : (ns.take j).length ≤ ns.length := by rw [List.length_take]; omega
  simp only [List.length_cons, List.length_nil]
  omega
theorem preT_succ (marks : List Int) (hm : ∀ m ∈ marks, 0 ≤ m ∧ m ≤ 255) (ns : List NtV) (j : Nat) (hj : j < ns.length) (h255 : ns.length ≤ 255) (h : ∀ i (hi : i < ns.length), i < j → EnOk marks ns[i]) (hn : EnOk marks ns[j]) (k : Nat) (hk : ns[j].k = k) :
    (preT ns j ++ txt (be k 1)) ++ txt (encP ns[j].p) = preT ns (j + 1) := by
  have hk2 : k ≤ 255 := by have := hm _ hn.1; omega
  have ha : ∀ b ∈ [ns.length] ++ encL (ns.take j), b < 256 := by
    intro b hb
    rcases List.mem_append.1 hb with h1 | h1
    · simp only [List.mem_singleton] at h1; omega
    · refine encL_lt marks hm (ns.take j) (fun n hn => ?_) b h1
      obtain ⟨i, hi, rfl⟩ := List.getElem_of_mem hn
      rw [List.getElem_take]
      exact h i (by rw [List.length_take] at hi; omega) (by rw [List.length_take] at hi; omega)
  unfold preT
  rw [be1 k (by omega), txt_app _ _ ha (by simp; omega), txt_app _ _ (by intro b hb; rcases List.mem_append.1 hb with h1 | h1; exact ha b h1; simp at h1; omega) (encP_lt _ hn.2), List.take_succ_eq_append_getElem hj, encL_snoc]
  congr 1
  simp [encE, hk, List.append_assoc]
/-- five cells of an entry -/
def EBox (w' : World) (b o : Nat) (c : List Value) : Prop := w'.cell? ⟨b, o, none⟩ = c[0]? ∧ w'.cell? ⟨b, o + 1, none⟩ = c[1]? ∧ w'.cell? ⟨b, o + 2, none⟩ = c[2]? ∧ w'.cell? ⟨b, o + 3, none⟩ = c[3]? ∧ w'.cell? ⟨b, o + 4, none⟩ = c[4]?
theorem EBox.of {c : NtV → List Value} {w : World} {ns : List NtV} {b off j : Nat} {n : NtV} (hc : ∀ i, i < 5 → w.cell? ⟨b, off + j * 5 + i, none⟩ = (c n)[i]?) : EBox w b (off + j * 5) (c n) := ⟨hc 0 (by omega), hc 1 (by omega), hc 2 (by omega), hc 3 (by omega), hc 4 (by omega)⟩
theorem EBox.below {w w' : World} {b o : Nat} {c : List Value} (h : EBox w b o c) (hlt : b < w.heap.size) (hb : Below w.heap.size w w') : EBox w' b o c :=
  ⟨(hb.cell (p := ⟨b, o, none⟩) hlt).trans h.1, (hb.cell (p := ⟨b, o + 1, none⟩) hlt).trans h.2.1, (hb.cell (p := ⟨b, o + 2, none⟩) hlt).trans h.2.2.1, (hb.cell (p := ⟨b, o + 3, none⟩) hlt).trans h.2.2.2.1, (hb.cell (p := ⟨b, o + 4, none⟩) hlt).trans h.2.2.2.2⟩
/-- what is told of a list -/
def listT (marks : List Int) (ns : List NtV) : ByteArray := if ns.length ≤ 255 ∧ ∀ n ∈ ns, EnOk marks n then preT ns ns.length else ⟨#[]⟩
def listE (marks : List Int) (ns : List NtV) : Int := if ns.length ≤ 255 ∧ ∀ n ∈ ns, EnOk marks n then 0 else 1
set_option maxRecDepth 100000 in
set_option maxHeartbeats 1000000 in
theorem r14_notes_long (A : Option Addr) (cap : Nat) (ns : List NtV) (w : World) (h : 255 < ns.length) :
    Calls Tryz.prog 44 #[.slice A ns.length cap] w fun x w' => x = .returned (.tuple #[.string ⟨#[]⟩, .int .i64 1]) ∧ Below w.heap.size w w' := by
  have d1 : decide ((255 : Int) < (ns.length : Int)) = true := decide_eq_true (by omega)
  have d2 : decide (255 < ns.length) = true := decide_eq_true h
  go_enter Tryz.func44, Tryz.ntmps44
  go_wp2
  go_ret2
  exact ⟨rfl, Below.refl _ _⟩
set_option maxRecDepth 100000 in
set_option maxHeartbeats 4000000 in
theorem r14_notes_short (A : Option Addr) (cap : Nat) (ns : List NtV) (w : World) (hA : EnAt NtV.nc w A ns) (h : ns.length ≤ 255) (hwf : ∀ n ∈ ns, n.wf) :
    Calls Tryz.prog 44 #[.slice A ns.length cap] w fun x w' => x = .returned (.tuple #[.string (listT [1, 2, 3, 4] ns), .int .i64 (listE [1, 2, 3, 4] ns)]) ∧ Below w.heap.size w w' := by
  have d1 : decide ((255 : Int) < (ns.length : Int)) = false := decide_eq_false (by omega)
  have d2 : decide (255 < ns.length) = false := decide_eq_false (by omega)
  have hw1 : IntKind.u64.wrap (ns.length : Int) = (ns.length : Int) := IntWalk.u64_in _ (by omega)
  have H := Lib.hid (And.intro hA (And.intro h hwf))
  have hlen := h
  have HT0 : Hid (txt (be ns.length 1) = preT ns 0) := Lib.hid (by rw [preT_zero, be1 _ (by omega)])
  have HL := Lib.hid h
  clear hA h hwf hlen
  go_enter Tryz.func44, Tryz.ntmps44
  go_wp2_with fail
  refine (ref_num ns.length 1 w (by have := HL.out; unfold M64; omega) (by decide)).mono ?_
  rintro x w1 ⟨rfl, b1⟩
  rw [HT0.out]
  have HB1 := Lib.hid b1
  clear b1
  go_wp2
  go_loopw [4, 5] (fun s i wr => ∃ j : Nat, j ≤ ns.length ∧ i = .int .i64 (j : Int) ∧ s = .string (preT ns j) ∧ (∀ i (hi : i < ns.length), i < j → EnOk [1, 2, 3, 4] ns[i]) ∧ Below w.heap.size w wr) (fun _ i _ => ns.length - (intOf i).toNat)
  case atStart => exact ⟨0, by omega, rfl, rfl, fun i _ hi => absurd hi (Nat.not_lt_zero _), HB1.out⟩
  case round =>
    obtain ⟨j, hj, rfl, rfl, hgood, hbl⟩ := hrel
    have hsz := preT_size [1, 2, 3, 4] ns j hgood
    have hsz2 : (preT ns j).size ≤ 30000 := by have := HL.out; omega
    have hns : ns.length ≤ 255 := HL.out
    have HG := Lib.hid (And.intro hgood hbl)
    clear hgood hbl hsz
    by_cases hlt : j < ns.length
    · obtain ⟨b, off, hAe, hb, hc⟩ := (H.out.1.below HG.out.2) j hlt
      subst hAe
      obtain ⟨n, hn⟩ : ∃ n, n = ns[j] := ⟨_, rfl⟩
      rw [← hn] at hc
      have HBX : Hid (EBox wr b (off + j * 5) n.nc ∧ b < wr.heap.size) := Lib.hid ⟨EBox.of (c := NtV.nc) (ns := ns) hc, hb⟩
      have c0 := hc 0 (by omega)
      have c1 := hc 1 (by omega)
      have c2 := hc 2 (by omega)
      have c3 := hc 3 (by omega)
      have c4 := hc 4 (by omega)
      simp only [NtV.nc, List.getElem?_cons_zero, List.getElem?_cons_succ, Nat.add_zero] at c0 c1 c2 c3 c4
      have HWF : Hid n.wf := Lib.hid (H.out.2.2 n (by rw [hn]; exact List.getElem_mem _))
      have HN := Lib.hid hn
      have HLT := Lib.hid hlt
      clear hc hb hn
      by_cases hok : 1 ≤ n.k ∧ n.k ≤ 4 ∧ PkOk n.p
      · have HOK := Lib.hid hok
        have HE : Hid (EnOk [1, 2, 3, 4] n) := Lib.hid (by
          exact ⟨by have h1 := hok.1; have h2 := hok.2.1; simp only [List.mem_cons, List.not_mem_nil, or_false]; omega, hok.2.2⟩)
        clear hok
        obtain ⟨k, f, q, t, d⟩ := n
        obtain ⟨kn, hkn⟩ := Int.eq_ofNat_of_zero_le (show 0 ≤ k by have := HOK.out.1; simp only at this; omega)
        subst hkn
        have hk4 : kn ≤ 4 := by have := HOK.out.2.1; simp only at this; omega
        have hd : d.size ≤ 64 := HOK.out.2.2.2.2.2.2
        have HS : Hid ((preT ns j ++ txt (be kn 1)) ++ txt (encP ⟨f, q, t, d⟩) = preT ns (j + 1)) := Lib.hid (by
          have := preT_succ [1, 2, 3, 4] (by decide) ns j HLT.out HL.out HG.out.1 (by rw [← HN.out]; exact HE.out) kn (by rw [← HN.out])
          rw [← HN.out] at this
          exact this)
        go_wp2_with fail
        refine (r14_right_ok ⟨kn, f, q, t, d⟩ _ HOK.out HWF.out).mono ?_
        rintro x w2 ⟨rfl, b2⟩
        have HD : Hid (EBox w2.drew b (off + j * 5) (NtV.nc ⟨kn, f, q, t, d⟩) ∧ b < w2.drew.heap.size ∧ Below w.heap.size w w2.drew) := Lib.hid ⟨HBX.out.1.below HBX.out.2 b2.drew, Nat.lt_of_lt_of_le HBX.out.2 b2.size, (HG.out.2.trans (b2.mono HG.out.2.size)).drew⟩
        clear b2 HBX c0 c1 c2 c3 c4
        go_wp2
        refine wp_region_held_drew (S := fun w' => EBox w' b (off + j * 5) (NtV.nc ⟨kn, f, q, t, d⟩)) (by kernel_rfl) HD.out.1 (fun hS0 => ?_)
        generalize w2.drew = z0 at *
        unfold EBox at hS0
        simp only [NtV.nc, List.getElem?_cons_zero, List.getElem?_cons_succ] at hS0
        dsimp only [EBox, NtV.nc, List.getElem?_cons_zero, List.getElem?_cons_succ]
        have hkw : IntKind.u64.wrap (kn : Int) = (kn : Int) := IntWalk.u64_in _ (by omega)
        have hi0 : (j : Int) < (ns.length : Int) := by omega
        have s1 : (txt (be kn 1)).size = 1 := by rw [txt_size, be_len]
        have s2 : (txt (encP ⟨f, q, t, d⟩)).size ≤ 83 := by rw [txt_size, encP_len']; simp only; omega
        have HN1 := Lib.hid (fun w => ref_num kn 1 w (by unfold M64; omega) (by decide))
        have HN2 : Hid (∀ w, Calls Tryz.prog 69 #[.agg #[.int .i64 f, .int .u64 q, .int .u64 t, .string d]] w fun x w' => x = .returned (.string (txt (encP ⟨f, q, t, d⟩))) ∧ Below w.heap.size w w') := Lib.hid (fun w => by
          obtain ⟨fn, rfl⟩ := Int.eq_ofNat_of_zero_le (show 0 ≤ f from HOK.out.2.2.1)
          obtain ⟨qn, rfl⟩ := Int.eq_ofNat_of_zero_le (show 0 ≤ q from HWF.out.1.1)
          obtain ⟨tn, rfl⟩ := Int.eq_ofNat_of_zero_le (show 0 ≤ t from HWF.out.2.1)
          exact rb_bytes fn qn tn d w HOK.out.2.2 (by have := HWF.out.1.2; unfold M64; simp only at this; omega) (by have := HWF.out.2.2; unfold M64; simp only at this; omega))
        have hL1 : ¬ 9223372036854775807 < (preT ns j).size + 1 := by omega
        have hL2 : ¬ 9223372036854775807 < (preT ns j).size + 1 + (txt (encP ⟨f, q, t, d⟩)).size := by omega
        generalize txt (be kn 1) = T1 at *
        generalize txt (encP ⟨f, q, t, d⟩) = T2 at *
        generalize preT ns j = T0 at *
        refine wpAnyH_take (i := 0) (v := ?_) rfl (by kernel_rfl) (by kernel_rfl) (by kernel_rfl) (fun _ _ _ h => h) (Or.inl ⟨by kernel_rfl, ?_⟩) (by assumption) ?_
        rotate_left
        · intro w hSw; (try dsimp only at hSw); go_simp; (try with_reducible rfl)
        refine wpAnyH_take (i := 1) (v := ?_) rfl (by kernel_rfl) (by kernel_rfl) (by kernel_rfl) (fun _ _ _ h => h) (Or.inl ⟨by kernel_rfl, ?_⟩) (by assumption) ?_
        rotate_left
        · intro w hSw; (try dsimp only at hSw); go_simp; (try with_reducible rfl)
        refine wpAnyH_take (i := 2) (v := ?_) rfl (by kernel_rfl) (by kernel_rfl) (by kernel_rfl) (fun _ _ _ h => h) (Or.inl ⟨by kernel_rfl, ?_⟩) (by assumption) ?_
        rotate_left
        · intro w hSw; (try dsimp only at hSw); go_simp; (try with_reducible rfl)
        refine wpAnyH_take (i := 3) (v := ?_) rfl (by kernel_rfl) (by kernel_rfl) (by kernel_rfl) (fun _ _ _ h => h) (Or.inl ⟨by kernel_rfl, ?_⟩) (by assumption) ?_
        rotate_left
        · intro w hSw; (try dsimp only at hSw); go_simp; (try with_reducible rfl)
        refine wpAnyH_take (i := 4) (v := ?_) rfl (by kernel_rfl) (by kernel_rfl) (by kernel_rfl) (fun _ _ _ h => h) (Or.inl ⟨by kernel_rfl, ?_⟩) (by assumption) ?_
        rotate_left
        · intro w hSw; (try dsimp only at hSw); go_simp; (try with_reducible rfl)
        refine wpAnyH_take (i := 5) (v := ?_) rfl (by kernel_rfl) (by kernel_rfl) (by kernel_rfl) (fun _ _ _ h => h) (Or.inl ⟨by kernel_rfl, ?_⟩) (by assumption) ?_
        rotate_left
        · intro w hSw; (try dsimp only at hSw); go_simp; (try with_reducible rfl)
        refine wpAnyH_take (i := 6) (v := ?_) rfl (by kernel_rfl) (by kernel_rfl) (by kernel_rfl) (fun _ _ _ h => h) (Or.inl ⟨by kernel_rfl, ?_⟩) (by assumption) ?_
        rotate_left
        · intro w hSw; (try dsimp only at hSw); go_simp; (try with_reducible rfl)
        refine wpAnyH_take (i := 9) (v := ?_) rfl (by kernel_rfl) (by kernel_rfl) (by kernel_rfl) (fun _ _ _ h => h) (Or.inl ⟨by kernel_rfl, ?_⟩) (by assumption) ?_
        rotate_left
        · intro w hSw; (try dsimp only at hSw); go_simp; (try with_reducible rfl)
        refine wpAnyH_take (i := 10) (v := ?_) rfl (by kernel_rfl) (by kernel_rfl) (by kernel_rfl) (fun _ _ _ h => h) (Or.inl ⟨by kernel_rfl, ?_⟩) (by assumption) ?_
        rotate_left
        · intro w hSw; (try dsimp only at hSw); go_simp; (try with_reducible rfl)
        refine wpAnyH_take (i := 11) (v := ?_) rfl (by kernel_rfl) (by kernel_rfl) (by kernel_rfl) (fun _ _ _ h => h) (Or.inl ⟨by kernel_rfl, ?_⟩) (by assumption) ?_
        rotate_left
        · intro w hSw; (try dsimp only at hSw); go_simp; (try with_reducible rfl)
        refine wpAnyH_take (i := 12) (v := ?_) rfl (by kernel_rfl) (by kernel_rfl) (by kernel_rfl) (fun _ _ _ h => h) (Or.inl ⟨by kernel_rfl, ?_⟩) (by assumption) ?_
        rotate_left
        · intro w hSw; (try dsimp only at hSw); go_simp; (try with_reducible rfl)
        refine wpAnyH_take (i := 13) (v := ?_) rfl (by kernel_rfl) (by kernel_rfl) (by kernel_rfl) (fun _ _ _ h => h) (Or.inl ⟨by kernel_rfl, ?_⟩) (by assumption) ?_
        rotate_left
        · intro w hSw; (try dsimp only at hSw); go_simp; (try with_reducible rfl)
        refine wpAnyH_ready (rs := [7]) (by kernel_rfl) (by simp) ?_
        refine AllReadyH.cons rfl (fun K hK => ?_) AllReadyH.nil
        go_simp
        refine (HN1.out _).mono ?_
        rintro x z1 ⟨rfl, hb1⟩
        have HD1 : Hid (EBox z1 b (off + j * 5) (NtV.nc ⟨kn, f, q, t, d⟩) ∧ b < z1.heap.size ∧ Below w.heap.size w z1) := Lib.hid ⟨HD.out.1.below HD.out.2.1 hb1, Nat.lt_of_lt_of_le HD.out.2.1 hb1.size, HD.out.2.2.trans (hb1.mono HD.out.2.2.size)⟩
        clear hb1 HD hS0
        refine hK.out _ _ HD1.out.1 (fun hS0 => ?_)
        clear hK K
        refine wpAnyH_take (i := 8) (v := ?_) rfl (by kernel_rfl) (by kernel_rfl) (by kernel_rfl) (fun _ _ _ h => h) (Or.inl ⟨by kernel_rfl, ?_⟩) (by assumption) ?_
        rotate_left
        · intro w hSw; (try dsimp only at hSw); go_simp; (try with_reducible rfl)
        refine wpAnyH_ready (rs := [14]) (by kernel_rfl) (by simp) ?_
        refine AllReadyH.cons rfl (fun K hK => ?_) AllReadyH.nil
        go_simp
        refine (HN2.out _).mono ?_
        rintro x z2 ⟨rfl, hb2⟩
        have HD2 : Hid (EBox z2 b (off + j * 5) (NtV.nc ⟨kn, f, q, t, d⟩) ∧ b < z2.heap.size ∧ Below w.heap.size w z2) := Lib.hid ⟨HD1.out.1.below HD1.out.2.1 hb2, Nat.lt_of_lt_of_le HD1.out.2.1 hb2.size, HD1.out.2.2.trans (hb2.mono HD1.out.2.2.size)⟩
        clear hb2 HD1 hS0
        refine hK.out _ _ HD2.out.1 (fun hS0 => ?_)
        clear hK K
        refine wpAnyH_take (i := 15) (v := ?_) rfl (by kernel_rfl) (by kernel_rfl) (by kernel_rfl) (fun _ _ _ h => h) (Or.inl ⟨by kernel_rfl, ?_⟩) (by assumption) ?_
        rotate_left
        · intro w hSw; (try dsimp only at hSw); go_simp; (try with_reducible rfl)
        refine wpAnyH_take (i := 16) (v := ?_) rfl (by kernel_rfl) (by kernel_rfl) (by kernel_rfl) (fun _ _ _ h => h) (Or.inl ⟨by kernel_rfl, ?_⟩) (by assumption) ?_
        rotate_left
        · intro w hSw; (try dsimp only at hSw); go_simp; (try with_reducible rfl)
        refine wpAnyH_done (by kernel_rfl) ?_ _
        go_wp2
        go_roundw
        case rel =>
          refine ⟨j + 1, HLT.out, by go_num, by rw [HS.out], fun i hi h => ?_, HD2.out.2.2⟩
          rcases Nat.lt_or_ge i j with h' | h'
          · exact HG.out.1 i hi h'
          · have : i = j := by omega
            subst this
            rw [← HN.out]
            exact HE.out
        case measure => have := HLT.out; simp [intOf]; omega
      · have HNO : Hid (¬ ∀ n ∈ ns, EnOk [1, 2, 3, 4] n) := Lib.hid (fun hall => hok (by
          have := hall n (by rw [HN.out]; exact List.getElem_mem _)
          have h1 := this.1
          simp only [List.mem_cons, List.not_mem_nil, or_false] at h1
          exact ⟨by omega, by omega, this.2⟩))
        have HOK := Lib.hid hok
        clear hok
        go_wp2_with fail
        refine (r14_right_bad n _ HOK.out HWF.out).mono ?_
        rintro x w2 ⟨rfl, b2⟩
        have HD := Lib.hid (HG.out.2.trans (b2.mono HG.out.2.size))
        clear b2
        have HR1 : Hid (listT [1, 2, 3, 4] ns = ⟨#[]⟩) := Lib.hid (if_neg (fun h => HNO.out h.2))
        have HR2 : Hid (listE [1, 2, 3, 4] ns = 1) := Lib.hid (if_neg (fun h => HNO.out h.2))
        go_wp2
        go_ret2
        exact ⟨by rw [HR1.out, HR2.out]; rfl, HD.out⟩
    · obtain rfl : j = ns.length := by omega
      have HALL : Hid (∀ n ∈ ns, EnOk [1, 2, 3, 4] n) := Lib.hid (fun n hn => by
        obtain ⟨i, hi, rfl⟩ := List.getElem_of_mem hn
        exact HG.out.1 i hi hi)
      have HR1 : Hid (listT [1, 2, 3, 4] ns = preT ns ns.length) := Lib.hid (if_pos ⟨HL.out, HALL.out⟩)
      have HR2 : Hid (listE [1, 2, 3, 4] ns = 0) := Lib.hid (if_pos ⟨HL.out, HALL.out⟩)
      go_wp2
      go_ret2
      exact ⟨by rw [HR1.out, HR2.out]; rfl, HG.out.2⟩
set_option maxRecDepth 100000 in
set_option maxHeartbeats 1000000 in
theorem r14_items_long (A : Option Addr) (cap : Nat) (ns : List NtV) (w : World) (h : 255 < ns.length) :
    Calls Tryz.prog 43 #[.slice A ns.length cap] w fun x w' => x = .returned (.tuple #[.string ⟨#[]⟩, .int .i64 1]) ∧ Below w.heap.size w w' := by
  have d1 : decide ((255 : Int) < (ns.length : Int)) = true := decide_eq_true (by omega)
  have d2 : decide (255 < ns.length) = true := decide_eq_true h
  go_enter Tryz.func43, Tryz.ntmps43
  go_wp2
  go_ret2
  exact ⟨rfl, Below.refl _ _⟩
set_option maxRecDepth 100000 in
set_option maxHeartbeats 4000000 in
theorem r14_items_short (A : Option Addr) (cap : Nat) (ns : List NtV) (w : World) (hA : EnAt NtV.ic w A ns) (h : ns.length ≤ 255) (hwf : ∀ n ∈ ns, n.wf) :
    Calls Tryz.prog 43 #[.slice A ns.length cap] w fun x w' => x = .returned (.tuple #[.string (listT [1, 2] ns), .int .i64 (listE [1, 2] ns)]) ∧ Below w.heap.size w w' := by
  have d1 : decide ((255 : Int) < (ns.length : Int)) = false := decide_eq_false (by omega)
  have d2 : decide (255 < ns.length) = false := decide_eq_false (by omega)
  have hw1 : IntKind.u64.wrap (ns.length : Int) = (ns.length : Int) := IntWalk.u64_in _ (by omega)
  have H := Lib.hid (And.intro hA (And.intro h hwf))
  have hlen := h
  have HT0 : Hid (txt (be ns.length 1) = preT ns 0) := Lib.hid (by rw [preT_zero, be1 _ (by omega)])
  have HL := Lib.hid h
  clear hA h hwf hlen
  go_enter Tryz.func43, Tryz.ntmps43
  go_wp2_with fail
  refine (ref_num ns.length 1 w (by have := HL.out; unfold M64; omega) (by decide)).mono ?_
  rintro x w1 ⟨rfl, b1⟩
  rw [HT0.out]
  have HB1 := Lib.hid b1
  clear b1
  go_wp2
  go_loopw [4, 5] (fun s i wr => ∃ j : Nat, j ≤ ns.length ∧ i = .int .i64 (j : Int) ∧ s = .string (preT ns j) ∧ (∀ i (hi : i < ns.length), i < j → EnOk [1, 2] ns[i]) ∧ Below w.heap.size w wr) (fun _ i _ => ns.length - (intOf i).toNat)
  case atStart => exact ⟨0, by omega, rfl, rfl, fun i _ hi => absurd hi (Nat.not_lt_zero _), HB1.out⟩
  case round =>
    obtain ⟨j, hj, rfl, rfl, hgood, hbl⟩ := hrel
    have hsz := preT_size [1, 2] ns j hgood
    have hsz2 : (preT ns j).size ≤ 30000 := by have := HL.out; omega
    have hns : ns.length ≤ 255 := HL.out
    have HG := Lib.hid (And.intro hgood hbl)
    clear hgood hbl hsz
    by_cases hlt : j < ns.length
    · obtain ⟨b, off, hAe, hb, hc⟩ := (H.out.1.below HG.out.2) j hlt
      subst hAe
      obtain ⟨n, hn⟩ : ∃ n, n = ns[j] := ⟨_, rfl⟩
      rw [← hn] at hc
      have HBX : Hid (EBox wr b (off + j * 5) n.ic ∧ b < wr.heap.size) := Lib.hid ⟨EBox.of (c := NtV.ic) (ns := ns) hc, hb⟩
      have c0 := hc 0 (by omega)
      have c1 := hc 1 (by omega)
      have c2 := hc 2 (by omega)
      have c3 := hc 3 (by omega)
      have c4 := hc 4 (by omega)
      simp only [NtV.ic, List.getElem?_cons_zero, List.getElem?_cons_succ, Nat.add_zero] at c0 c1 c2 c3 c4
      have HWF : Hid n.wf := Lib.hid (H.out.2.2 n (by rw [hn]; exact List.getElem_mem _))
      have HN := Lib.hid hn
      have HLT := Lib.hid hlt
      clear hc hb hn
      by_cases hok : (n.k = 1 ∨ n.k = 2) ∧ PkOk n.p
      · have HOK := Lib.hid hok
        have HE : Hid (EnOk [1, 2] n) := Lib.hid (by
          exact ⟨by have h1 := hok.1; simp only [List.mem_cons, List.not_mem_nil, or_false]; omega, hok.2⟩)
        clear hok
        obtain ⟨k, f, q, t, d⟩ := n
        obtain ⟨kn, hkn⟩ := Int.eq_ofNat_of_zero_le (show 0 ≤ k by have := HOK.out.1; simp only at this; omega)
        subst hkn
        have hk4 : kn ≤ 4 := by have := HOK.out.1; simp only at this; omega
        have hd : d.size ≤ 64 := HOK.out.2.2.2.2.2
        have HS : Hid ((preT ns j ++ txt (be kn 1)) ++ txt (encP ⟨f, q, t, d⟩) = preT ns (j + 1)) := Lib.hid (by
          have := preT_succ [1, 2] (by decide) ns j HLT.out HL.out HG.out.1 (by rw [← HN.out]; exact HE.out) kn (by rw [← HN.out])
          rw [← HN.out] at this
          exact this)
        go_wp2_with fail
        refine (r14_item_ok ⟨kn, f, q, t, d⟩ _ HOK.out HWF.out).mono ?_
        rintro x w2 ⟨rfl, b2⟩
        have HD : Hid (EBox w2.drew b (off + j * 5) (NtV.ic ⟨kn, f, q, t, d⟩) ∧ b < w2.drew.heap.size ∧ Below w.heap.size w w2.drew) := Lib.hid ⟨HBX.out.1.below HBX.out.2 b2.drew, Nat.lt_of_lt_of_le HBX.out.2 b2.size, (HG.out.2.trans (b2.mono HG.out.2.size)).drew⟩
        clear b2 HBX c0 c1 c2 c3 c4
        go_wp2
        refine wp_region_held_drew (S := fun w' => EBox w' b (off + j * 5) (NtV.ic ⟨kn, f, q, t, d⟩)) (by kernel_rfl) HD.out.1 (fun hS0 => ?_)
        generalize w2.drew = z0 at *
        unfold EBox at hS0
        simp only [NtV.ic, List.getElem?_cons_zero, List.getElem?_cons_succ] at hS0
        dsimp only [EBox, NtV.ic, List.getElem?_cons_zero, List.getElem?_cons_succ]
        have hkw : IntKind.u64.wrap (kn : Int) = (kn : Int) := IntWalk.u64_in _ (by omega)
        have hi0 : (j : Int) < (ns.length : Int) := by omega
        have s1 : (txt (be kn 1)).size = 1 := by rw [txt_size, be_len]
        have s2 : (txt (encP ⟨f, q, t, d⟩)).size ≤ 83 := by rw [txt_size, encP_len']; simp only; omega
        have HN1 := Lib.hid (fun w => ref_num kn 1 w (by unfold M64; omega) (by decide))
        have HN2 : Hid (∀ w, Calls Tryz.prog 69 #[.agg #[.int .i64 f, .int .u64 q, .int .u64 t, .string d]] w fun x w' => x = .returned (.string (txt (encP ⟨f, q, t, d⟩))) ∧ Below w.heap.size w w') := Lib.hid (fun w => by
          obtain ⟨fn, rfl⟩ := Int.eq_ofNat_of_zero_le (show 0 ≤ f from HOK.out.2.1)
          obtain ⟨qn, rfl⟩ := Int.eq_ofNat_of_zero_le (show 0 ≤ q from HWF.out.1.1)
          obtain ⟨tn, rfl⟩ := Int.eq_ofNat_of_zero_le (show 0 ≤ t from HWF.out.2.1)
          exact rb_bytes fn qn tn d w HOK.out.2 (by have := HWF.out.1.2; unfold M64; simp only at this; omega) (by have := HWF.out.2.2; unfold M64; simp only at this; omega))
        have hL1 : ¬ 9223372036854775807 < (preT ns j).size + 1 := by omega
        have hL2 : ¬ 9223372036854775807 < (preT ns j).size + 1 + (txt (encP ⟨f, q, t, d⟩)).size := by omega
        generalize txt (be kn 1) = T1 at *
        generalize txt (encP ⟨f, q, t, d⟩) = T2 at *
        generalize preT ns j = T0 at *
        refine wpAnyH_take (i := 0) (v := ?_) rfl (by kernel_rfl) (by kernel_rfl) (by kernel_rfl) (fun _ _ _ h => h) (Or.inl ⟨by kernel_rfl, ?_⟩) (by assumption) ?_
        rotate_left
        · intro w hSw; (try dsimp only at hSw); go_simp; (try with_reducible rfl)
        refine wpAnyH_take (i := 1) (v := ?_) rfl (by kernel_rfl) (by kernel_rfl) (by kernel_rfl) (fun _ _ _ h => h) (Or.inl ⟨by kernel_rfl, ?_⟩) (by assumption) ?_
        rotate_left
        · intro w hSw; (try dsimp only at hSw); go_simp; (try with_reducible rfl)
        refine wpAnyH_take (i := 2) (v := ?_) rfl (by kernel_rfl) (by kernel_rfl) (by kernel_rfl) (fun _ _ _ h => h) (Or.inl ⟨by kernel_rfl, ?_⟩) (by assumption) ?_
        rotate_left
        · intro w hSw; (try dsimp only at hSw); go_simp; (try with_reducible rfl)
        refine wpAnyH_take (i := 3) (v := ?_) rfl (by kernel_rfl) (by kernel_rfl) (by kernel_rfl) (fun _ _ _ h => h) (Or.inl ⟨by kernel_rfl, ?_⟩) (by assumption) ?_
        rotate_left
        · intro w hSw; (try dsimp only at hSw); go_simp; (try with_reducible rfl)
        refine wpAnyH_take (i := 4) (v := ?_) rfl (by kernel_rfl) (by kernel_rfl) (by kernel_rfl) (fun _ _ _ h => h) (Or.inl ⟨by kernel_rfl, ?_⟩) (by assumption) ?_
        rotate_left
        · intro w hSw; (try dsimp only at hSw); go_simp; (try with_reducible rfl)
        refine wpAnyH_take (i := 5) (v := ?_) rfl (by kernel_rfl) (by kernel_rfl) (by kernel_rfl) (fun _ _ _ h => h) (Or.inl ⟨by kernel_rfl, ?_⟩) (by assumption) ?_
        rotate_left
        · intro w hSw; (try dsimp only at hSw); go_simp; (try with_reducible rfl)
        refine wpAnyH_take (i := 6) (v := ?_) rfl (by kernel_rfl) (by kernel_rfl) (by kernel_rfl) (fun _ _ _ h => h) (Or.inl ⟨by kernel_rfl, ?_⟩) (by assumption) ?_
        rotate_left
        · intro w hSw; (try dsimp only at hSw); go_simp; (try with_reducible rfl)
        refine wpAnyH_take (i := 9) (v := ?_) rfl (by kernel_rfl) (by kernel_rfl) (by kernel_rfl) (fun _ _ _ h => h) (Or.inl ⟨by kernel_rfl, ?_⟩) (by assumption) ?_
        rotate_left
        · intro w hSw; (try dsimp only at hSw); go_simp; (try with_reducible rfl)
        refine wpAnyH_take (i := 10) (v := ?_) rfl (by kernel_rfl) (by kernel_rfl) (by kernel_rfl) (fun _ _ _ h => h) (Or.inl ⟨by kernel_rfl, ?_⟩) (by assumption) ?_
        rotate_left
        · intro w hSw; (try dsimp only at hSw); go_simp; (try with_reducible rfl)
        refine wpAnyH_take (i := 11) (v := ?_) rfl (by kernel_rfl) (by kernel_rfl) (by kernel_rfl) (fun _ _ _ h => h) (Or.inl ⟨by kernel_rfl, ?_⟩) (by assumption) ?_
        rotate_left
        · intro w hSw; (try dsimp only at hSw); go_simp; (try with_reducible rfl)
        refine wpAnyH_take (i := 12) (v := ?_) rfl (by kernel_rfl) (by kernel_rfl) (by kernel_rfl) (fun _ _ _ h => h) (Or.inl ⟨by kernel_rfl, ?_⟩) (by assumption) ?_
        rotate_left
        · intro w hSw; (try dsimp only at hSw); go_simp; (try with_reducible rfl)
        refine wpAnyH_take (i := 13) (v := ?_) rfl (by kernel_rfl) (by kernel_rfl) (by kernel_rfl) (fun _ _ _ h => h) (Or.inl ⟨by kernel_rfl, ?_⟩) (by assumption) ?_
        rotate_left
        · intro w hSw; (try dsimp only at hSw); go_simp; (try with_reducible rfl)
        refine wpAnyH_ready (rs := [7]) (by kernel_rfl) (by simp) ?_
        refine AllReadyH.cons rfl (fun K hK => ?_) AllReadyH.nil
        go_simp
        refine (HN1.out _).mono ?_
        rintro x z1 ⟨rfl, hb1⟩
        have HD1 : Hid (EBox z1 b (off + j * 5) (NtV.ic ⟨kn, f, q, t, d⟩) ∧ b < z1.heap.size ∧ Below w.heap.size w z1) := Lib.hid ⟨HD.out.1.below HD.out.2.1 hb1, Nat.lt_of_lt_of_le HD.out.2.1 hb1.size, HD.out.2.2.trans (hb1.mono HD.out.2.2.size)⟩
        clear hb1 HD hS0
        refine hK.out _ _ HD1.out.1 (fun hS0 => ?_)
        clear hK K
        refine wpAnyH_take (i := 8) (v := ?_) rfl (by kernel_rfl) (by kernel_rfl) (by kernel_rfl) (fun _ _ _ h => h) (Or.inl ⟨by kernel_rfl, ?_⟩) (by assumption) ?_
        rotate_left
        · intro w hSw; (try dsimp only at hSw); go_simp; (try with_reducible rfl)
        refine wpAnyH_ready (rs := [14]) (by kernel_rfl) (by simp) ?_
        refine AllReadyH.cons rfl (fun K hK => ?_) AllReadyH.nil
        go_simp
        refine (HN2.out _).mono ?_
        rintro x z2 ⟨rfl, hb2⟩
        have HD2 : Hid (EBox z2 b (off + j * 5) (NtV.ic ⟨kn, f, q, t, d⟩) ∧ b < z2.heap.size ∧ Below w.heap.size w z2) := Lib.hid ⟨HD1.out.1.below HD1.out.2.1 hb2, Nat.lt_of_lt_of_le HD1.out.2.1 hb2.size, HD1.out.2.2.trans (hb2.mono HD1.out.2.2.size)⟩
        clear hb2 HD1 hS0
        refine hK.out _ _ HD2.out.1 (fun hS0 => ?_)
        clear hK K
        refine wpAnyH_take (i := 15) (v := ?_) rfl (by kernel_rfl) (by kernel_rfl) (by kernel_rfl) (fun _ _ _ h => h) (Or.inl ⟨by kernel_rfl, ?_⟩) (by assumption) ?_
        rotate_left
        · intro w hSw; (try dsimp only at hSw); go_simp; (try with_reducible rfl)
        refine wpAnyH_take (i := 16) (v := ?_) rfl (by kernel_rfl) (by kernel_rfl) (by kernel_rfl) (fun _ _ _ h => h) (Or.inl ⟨by kernel_rfl, ?_⟩) (by assumption) ?_
        rotate_left
        · intro w hSw; (try dsimp only at hSw); go_simp; (try with_reducible rfl)
        refine wpAnyH_done (by kernel_rfl) ?_ _
        go_wp2
        go_roundw
        case rel =>
          refine ⟨j + 1, HLT.out, by go_num, by rw [HS.out], fun i hi h => ?_, HD2.out.2.2⟩
          rcases Nat.lt_or_ge i j with h' | h'
          · exact HG.out.1 i hi h'
          · have : i = j := by omega
            subst this
            rw [← HN.out]
            exact HE.out
        case measure => have := HLT.out; simp [intOf]; omega
      · have HNO : Hid (¬ ∀ n ∈ ns, EnOk [1, 2] n) := Lib.hid (fun hall => hok (by
          have := hall n (by rw [HN.out]; exact List.getElem_mem _)
          have h1 := this.1
          simp only [List.mem_cons, List.not_mem_nil, or_false] at h1
          exact ⟨by omega, this.2⟩))
        have HOK := Lib.hid hok
        clear hok
        go_wp2_with fail
        refine (r14_item_bad n _ HOK.out HWF.out).mono ?_
        rintro x w2 ⟨rfl, b2⟩
        have HD := Lib.hid (HG.out.2.trans (b2.mono HG.out.2.size))
        clear b2
        have HR1 : Hid (listT [1, 2] ns = ⟨#[]⟩) := Lib.hid (if_neg (fun h => HNO.out h.2))
        have HR2 : Hid (listE [1, 2] ns = 1) := Lib.hid (if_neg (fun h => HNO.out h.2))
        go_wp2
        go_ret2
        exact ⟨by rw [HR1.out, HR2.out]; rfl, HD.out⟩
    · obtain rfl : j = ns.length := by omega
      have HALL : Hid (∀ n ∈ ns, EnOk [1, 2] n) := Lib.hid (fun n hn => by
        obtain ⟨i, hi, rfl⟩ := List.getElem_of_mem hn
        exact HG.out.1 i hi hi)
      have HR1 : Hid (listT [1, 2] ns = preT ns ns.length) := Lib.hid (if_pos ⟨HL.out, HALL.out⟩)
      have HR2 : Hid (listE [1, 2] ns = 0) := Lib.hid (if_pos ⟨HL.out, HALL.out⟩)
      go_wp2
      go_ret2
      exact ⟨by rw [HR1.out, HR2.out]; rfl, HG.out.2⟩
end Go.Proofs.YtkbiolhcpghmkaaGreat
namespace Go.Proofs.YtkbiolhcpghmkaaGreat
open Go.RowKit
set_option linter.unusedVariables false
set_option maxRecDepth 100000 in
set_option maxHeartbeats 1000000 in
theorem r14_place_bad (a i : Int) (w : World) (h : i < 0 ∨ 65535 < i) :
    Calls Tryz.prog 42 #[.agg #[.int .u64 a, .int .i64 i]] w fun x w' => x = .returned (.tuple #[.string ⟨#[]⟩, .int .i64 1]) ∧ Below w.heap.size w w' := by
  have HB := Lib.hid (Kq.below_alloc w (.cells #[.int .u64 a, .int .i64 i] 24))
  by_cases h0 : i < 0
  · have d0 : decide (i < 0) = true := decide_eq_true h0
    go_enter Tryz.func42, Tryz.ntmps42
    go_wp2
    go_ret2
    exact ⟨rfl, HB.out⟩
  · have d0 : decide (i < 0) = false := decide_eq_false h0
    have d1 : decide (65535 < i) = true := decide_eq_true (h.resolve_left h0)
    clear h
    go_enter Tryz.func42, Tryz.ntmps42
    go_wp2
    go_ret2
    exact ⟨rfl, HB.out⟩
def PlBox (w' : World) (X : Nat) (a i : Int) : Prop := w'.cell? ⟨X, 0, none⟩ = some (.int .u64 a) ∧ w'.cell? ⟨X, 1, none⟩ = some (.int .i64 i)
set_option maxRecDepth 100000 in
set_option maxHeartbeats 2000000 in
theorem r14_place_ok (an i : Nat) (w : World) (hi : i ≤ 65535) (ha : an < 18446744073709551616) :
    Calls Tryz.prog 42 #[.agg #[.int .u64 (an : Int), .int .i64 (i : Int)]] w fun x w' => x = .returned (.tuple #[.string (txt (num8 an ++ num8 i)), .int .i64 0]) ∧ Below w.heap.size w w' := by
  have d0 : decide ((i : Int) < 0) = false := decide_eq_false (by omega)
  have d1 : decide ((65535 : Int) < (i : Int)) = false := decide_eq_false (by omega)
  have hw1 : IntKind.u64.wrap (i : Int) = (i : Int) := IntWalk.u64_in _ (by omega)
  have HN1 := Lib.hid (fun w => ref_num an 8 w (by unfold M64; omega) (by decide))
  have HN2 := Lib.hid (fun w => ref_num i 8 w (by unfold M64; omega) (by decide))
  have HS : Hid (txt (be an 8) ++ txt (be i 8) = txt (num8 an ++ num8 i)) := Lib.hid (by rw [be8, be8, txt_app _ _ (num8_lt _) (num8_lt _)])
  have s1 : (txt (be an 8)).size = 8 := by rw [txt_size, be_len]
  have s2 : (txt (be i 8)).size = 8 := by rw [txt_size, be_len]
  have P0 : Hid (QB (w.alloc (.cells #[.int .u64 (an : Int), .int .i64 (i : Int)] 24)).drew w.heap.size an i ∧ Below w.heap.size w (w.alloc (.cells #[.int .u64 (an : Int), .int .i64 (i : Int)] 24)).drew) := Lib.hid ⟨⟨Kq.blk_new w _ _ _⟩, (Kq.below_alloc _ _).drew⟩
  clear hi ha
  generalize txt (be an 8) = T1 at *
  generalize txt (be i 8) = T2 at *
  go_enter Tryz.func42, Tryz.ntmps42
  go_wp2
  refine wp_region_held_drew (S := fun w' => PlBox w' w.heap.size an i) (by kernel_rfl) ⟨P0.out.1.c0, P0.out.1.c1⟩ (fun hS0 => ?_)
  generalize (w.alloc (.cells #[.int .u64 (an : Int), .int .i64 (i : Int)] 24)).drew = z0 at *
  unfold PlBox at hS0
  dsimp only [PlBox]
  refine wpAnyH_take (i := 0) (v := ?_) rfl (by kernel_rfl) (by kernel_rfl) (by kernel_rfl) (fun _ _ _ h => h) (Or.inl ⟨by kernel_rfl, ?_⟩) (by assumption) ?_
  rotate_left
  · intro w hSw; (try dsimp only at hSw); go_simp; (try with_reducible rfl)
  refine wpAnyH_take (i := 1) (v := ?_) rfl (by kernel_rfl) (by kernel_rfl) (by kernel_rfl) (fun _ _ _ h => h) (Or.inl ⟨by kernel_rfl, ?_⟩) (by assumption) ?_
  rotate_left
  · intro w hSw; (try dsimp only at hSw); go_simp; (try with_reducible rfl)
  refine wpAnyH_take (i := 3) (v := ?_) rfl (by kernel_rfl) (by kernel_rfl) (by kernel_rfl) (fun _ _ _ h => h) (Or.inl ⟨by kernel_rfl, ?_⟩) (by assumption) ?_
  rotate_left
  · intro w hSw; (try dsimp only at hSw); go_simp; (try with_reducible rfl)
  refine wpAnyH_take (i := 4) (v := ?_) rfl (by kernel_rfl) (by kernel_rfl) (by kernel_rfl) (fun _ _ _ h => h) (Or.inl ⟨by kernel_rfl, ?_⟩) (by assumption) ?_
  rotate_left
  · intro w hSw; (try dsimp only at hSw); go_simp; (try with_reducible rfl)
  refine wpAnyH_take (i := 5) (v := ?_) rfl (by kernel_rfl) (by kernel_rfl) (by kernel_rfl) (fun _ _ _ h => h) (Or.inl ⟨by kernel_rfl, ?_⟩) (by assumption) ?_
  rotate_left
  · intro w hSw; (try dsimp only at hSw); go_simp; (try with_reducible rfl)
  refine wpAnyH_ready (rs := [2]) (by kernel_rfl) (by simp) ?_
  refine AllReadyH.cons rfl (fun K hK => ?_) AllReadyH.nil
  go_simp
  refine (HN1.out _).mono ?_
  rintro x z1 ⟨rfl, hb1⟩
  have P1 : Hid (QB z1 w.heap.size an i ∧ Below w.heap.size w z1) := Lib.hid ⟨⟨Kq.below_blk hb1 P0.out.1.blk (Kq.blk_lt P0.out.1.blk)⟩, P0.out.2.trans (hb1.mono P0.out.2.size)⟩
  clear hb1 P0 hS0
  refine hK.out _ _ ⟨P1.out.1.c0, P1.out.1.c1⟩ (fun hS0 => ?_)
  clear hK K
  refine wpAnyH_ready (rs := [6]) (by kernel_rfl) (by simp) ?_
  refine AllReadyH.cons rfl (fun K hK => ?_) AllReadyH.nil
  go_simp
  refine (HN2.out _).mono ?_
  rintro x z2 ⟨rfl, hb2⟩
  have P2 : Hid (QB z2 w.heap.size an i ∧ Below w.heap.size w z2) := Lib.hid ⟨⟨Kq.below_blk hb2 P1.out.1.blk (Kq.blk_lt P1.out.1.blk)⟩, P1.out.2.trans (hb2.mono P1.out.2.size)⟩
  clear hb2 P1 hS0
  refine hK.out _ _ ⟨P2.out.1.c0, P2.out.1.c1⟩ (fun hS0 => ?_)
  clear hK K
  refine wpAnyH_take (i := 7) (v := ?_) rfl (by kernel_rfl) (by kernel_rfl) (by kernel_rfl) (fun _ _ _ h => h) (Or.inl ⟨by kernel_rfl, ?_⟩) (by assumption) ?_
  rotate_left
  · intro w hSw; (try dsimp only at hSw); go_simp; (try with_reducible rfl)
  refine wpAnyH_take (i := 8) (v := ?_) rfl (by kernel_rfl) (by kernel_rfl) (by kernel_rfl) (fun _ _ _ h => h) (Or.inl ⟨by kernel_rfl, ?_⟩) (by assumption) ?_
  rotate_left
  · intro w hSw; (try dsimp only at hSw); go_simp; (try with_reducible rfl)
  refine wpAnyH_take (i := 9) (v := ?_) rfl (by kernel_rfl) (by kernel_rfl) (by kernel_rfl) (fun _ _ _ h => h) (Or.inl ⟨by kernel_rfl, ?_⟩) (by assumption) ?_
  rotate_left
  · intro w hSw; (try dsimp only at hSw); go_simp; (try with_reducible rfl)
  refine wpAnyH_done (by kernel_rfl) ?_ _
  go_wp2
  go_ret2
  exact ⟨by rw [← HS.out]; rfl, P2.out.2⟩
end Go.Proofs.YtkbiolhcpghmkaaGreat
