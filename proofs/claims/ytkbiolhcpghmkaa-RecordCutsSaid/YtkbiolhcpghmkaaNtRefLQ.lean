/- Merged: NtStep, NtRef, NtRefL. Writing steps, one behind the other. No condition. Contracts of carrackref14.Right, RightItem, By, Place, Notes, Items. Condition: sizes. Contracts of carrackref14.Notes, Items. Condition: sizes. -/
import Derived.WalkSpells
import Derived.Test.YtkbiolhcpghmkaaNtPutQ
import Derived.Test.YtkbiolhcpghmkaaBetwQ
import Derived.Deep.RegionHeld
import Derived.Test.YtkbiolhcpghmkaaPkRBQ
import Derived.Test.YtkbiolhcpghmkaaNtRightQ
namespace Go.Proofs.Ytkbiolhcpghmkaa
open Go.RowKit
set_option linter.unusedVariables false
theorem WrStep.then {w w1 w2 : World} {base R : Nat} {v v1 : Value} {e e1 : Int} {acc l1 : List Nat} {ok1 ok2 : Prop} {a1 a2 : List Nat} {n1 n2 : Nat} {x : Ending}
    (W1 : Wr w1 base R e1 v1 l1) (K1 : Kq.Keeps (fun k => k = R ∨ some k = v.ownBlock) w w1) (F1 : ∀ k, v1.ownBlock = some k → some k = v.ownBlock ∨ w.heap.size ≤ k)
    (s1 : l1.length ≤ acc.length + n1) (g1 : ok1 → e1 = e ∧ l1 = acc ++ a1) (b1 : ¬ ok1 → e1 = keepE e 1) (h2 : WrStep w1 base R v1 e1 l1 ok2 a2 n2 x w2) : WrStep w base R v e acc (ok1 ∧ ok2) (a1 ++ a2) (n1 + n2) x w2 := by
  obtain ⟨e2, l2, ⟨rfl, v2, W2, K2, F2⟩, s2, g2, b2⟩ := h2
  have M := WrMid.stepV (w := w) ⟨W1, K1, F1⟩ W2 K2 F2
  refine ⟨e2, l2, M.post, by omega, fun h => ?_, fun h => ?_⟩
  · obtain ⟨rfl, rfl⟩ := g1 h.1
    obtain ⟨rfl, rfl⟩ := g2 h.2
    exact ⟨rfl, by rw [List.append_assoc]⟩
  · by_cases h1 : ok1
    · obtain ⟨rfl, rfl⟩ := g1 h1
      exact b2 (fun h2 => h ⟨h1, h2⟩)
    · have h1' := b1 h1
      by_cases h2 : ok2
      · rw [(g2 h2).1, h1']
      · rw [b2 h2, h1', keepE_one]
/-- below, from a writer's birth on -/
theorem wr_below {w w2 : World} {e : Int} {v : Value} {acc : List Nat} (W : Wr w2 w.heap.size w.heap.size e v acc) (K : Kq.Keeps (fun k => k = w.heap.size ∨ some k = (Value.slice none 0 0).ownBlock) (w.alloc (.cells #[.int .i64 0, .slice none 0 0] 60 (0, 0))) w2) : Below w.heap.size w w2 :=
  (Kq.below_alloc w _).trans (K.below (Kq.below_alloc w _).size (fun k _ hk => by
    rcases hk with rfl | hk
    · exact Nat.le_refl _
    · cases hk))
theorem WrStep.any {w w1 : World} {base R : Nat} {v : Value} {e : Int} {acc : List Nat} {ok : Prop} {add : List Nat} {n : Nat} {x : Ending} (h : WrStep w base R v e acc ok add n x w1) :
    x = .returned (.tuple #[]) ∧ ∃ e1 l1 v1, Wr w1 base R e1 v1 l1 ∧ Kq.Keeps (fun k => k = R ∨ some k = v.ownBlock) w w1 ∧ (∀ k, v1.ownBlock = some k → some k = v.ownBlock ∨ w.heap.size ≤ k) ∧ l1.length ≤ acc.length + n ∧ (ok → e1 = e ∧ l1 = acc ++ add) ∧ (¬ ok → e1 = keepE e 1) := by
  obtain ⟨e1, l1, ⟨rfl, v1, W1, K1, F1⟩, s1, g1, b1⟩ := h
  exact ⟨rfl, e1, l1, v1, W1, K1, F1, s1, g1, b1⟩
theorem hab {c : NtV → List Value} {w0 : World} {A : Option Addr} {l : List NtV} (hA : EnAt c w0 A l) {v : Value} (hv : ∀ k, v.ownBlock = some k → some k = (Value.slice none 0 0).ownBlock ∨ w0.heap.size ≤ k) :
    ∀ g o, 0 < l.length → A = some ⟨g, o, none⟩ → g ≠ w0.heap.size ∧ some g ≠ v.ownBlock := by
  intro g o h0 hg
  obtain ⟨b, off, he, hlt, _⟩ := hA 0 h0
  rw [hg] at he
  simp only [Option.some.injEq, Addr.mk.injEq] at he
  refine ⟨by omega, fun h => ?_⟩
  rcases hv g h.symm with h' | h'
  · cases h'
  · omega
theorem nt_place_step (base B : Nat) (e : Int) (v : Value) (l : List Nat) (a i : Int) (w : World) (h : Wr w base B e v l) (ha : 0 ≤ a ∧ a < 18446744073709551616) (hl : l.length ≤ 1000000) :
    Calls Try.prog 17 #[.pointer (some ⟨B, 0, none⟩), .agg #[.int .u64 a, .int .i64 i]] w (WrStep w base B v e l (0 ≤ i ∧ i ≤ 65535) (num8 a.toNat ++ num8 i.toNat) 16) := by
  by_cases hi : 0 ≤ i ∧ i ≤ 65535
  · obtain ⟨an, rfl⟩ := Int.eq_ofNat_of_zero_le ha.1
    obtain ⟨n, rfl⟩ := Int.eq_ofNat_of_zero_le hi.1
    refine (nt_place_ok base B e v l an n w h (by omega) (by omega) hl).mono fun x w' hp => ?_
    exact ⟨e, _, hp, by simp [num8], fun _ => ⟨rfl, rfl⟩, fun h => absurd hi h⟩
  · refine (nt_place_bad base B e v l a i w h (by omega)).mono fun x w' hp => ?_
    exact ⟨_, l, hp, by omega, fun h => absurd h hi, fun _ => rfl⟩
end Go.Proofs.Ytkbiolhcpghmkaa
namespace Go.Proofs.Ytkbiolhcpghmkaa
open Go.RowKit
set_option linter.unusedVariables false
end Go.Proofs.Ytkbiolhcpghmkaa
namespace Go.Proofs.Ytkbiolhcpghmkaa
open Go.RowKit
set_option linter.unusedVariables false
theorem be1' (n : Nat) (h : n < 256) : txt (be n 1) = txt [n] := by rw [be1 n h]
theorem txt_app (a b : List Nat) (ha : ∀ x ∈ a, x < 256) (hb : ∀ x ∈ b, x < 256) : txt a ++ txt b = txt (a ++ b) := by
  apply nl_inj
  rw [nl_append, nl_txt _ ha, nl_txt _ hb, nl_txt]
  intro x hx
  rcases List.mem_append.1 hx with h | h
  · exact ha x h
  · exact hb x h
theorem encE_lt (marks : List Int) (hm : ∀ m ∈ marks, 0 ≤ m ∧ m ≤ 255) (n : NtV) (h : EnOk marks n) : ∀ b ∈ encE n, b < 256 := by
  intro b hb
  unfold encE at hb
  rcases List.mem_append.1 hb with h1 | h1
  · have := hm _ h.1
    simp only [List.mem_singleton] at h1
    omega
  · exact encP_lt _ h.2 b h1
theorem encE_len (n : NtV) : (encE n).length = 20 + n.d.size := by
  unfold encE; rw [List.length_append, encP_len']; simp [NtV.p]; omega
theorem encL_lt (marks : List Int) (hm : ∀ m ∈ marks, 0 ≤ m ∧ m ≤ 255) (l : List NtV) (h : ∀ n ∈ l, EnOk marks n) : ∀ b ∈ encL l, b < 256 := by
  induction l with
  | nil => intro b hb; cases hb
  | cons n l ih =>
    intro b hb
    rcases List.mem_append.1 hb with h1 | h1
    · exact encE_lt marks hm n (h n (List.mem_cons_self ..)) b h1
    · exact ih (fun m hm' => h m (List.mem_cons_of_mem _ hm')) b h1
theorem encL_len (marks : List Int) (l : List NtV) (h : ∀ n ∈ l, EnOk marks n) : (encL l).length ≤ 84 * l.length := by
  induction l with
  | nil => simp [encL]
  | cons n l ih =>
    have h1 : n.d.size ≤ 64 := (h n (List.mem_cons_self ..)).2.2.2.2.2
    have := ih (fun m hm' => h m (List.mem_cons_of_mem _ hm'))
    have h3 := encE_len n
    simp only [encL, List.length_append, List.length_cons]
    omega
/-- the text of the first j -/
def preT (ns : List NtV) (j : Nat) : ByteArray := txt ([ns.length] ++ encL (ns.take j))
theorem preT_zero (ns : List NtV) : preT ns 0 = txt [ns.length] := by simp [preT, encL]
theorem preT_size (marks : List Int) (ns : List NtV) (j : Nat) (h : ∀ i (hi : i < ns.length), i < j → EnOk marks ns[i]) : (preT ns j).size ≤ 1 + 84 * ns.length := by
  unfold preT
  rw [txt_size, List.length_append]
  have := encL_len marks (ns.take j) (fun n hn => by
    obtain ⟨i, hi, rfl⟩ := List.getElem_of_mem hn
    rw [List.getElem_take]
    exact h i (by rw [List.length_take] at hi; omega) (by rw [List.length_take] at hi; omega))
  have h2 : (ns.take j).length ≤ ns.length := by rw [List.length_take]; omega
  simp only [List.length_cons, List.length_nil]
  omega
theorem preT_succ (marks : List Int) (hm : ∀ m ∈ marks, 0 ≤ m ∧ m ≤ 255) (ns : List NtV) (j : Nat) (hj : j < ns.length) (h255 : ns.length ≤ 255) (h : ∀ i (hi : i < ns.length), i < j → EnOk marks ns[i]) (hn : EnOk marks ns[j]) (k : Nat) (hk : ns[j].k = k) :
    (preT ns j ++ txt (be k 1)) ++ txt (encP ns[j].p) = preT ns (j + 1) := by
  have hk2 : k ≤ 255 := by have := hm _ hn.1; omega
  have ha : ∀ b ∈ [ns.length] ++ encL (ns.take j), b < 256 := by
    intro b hb
    rcases List.mem_append.1 hb with h1 | h1
    · simp only [List.mem_singleton] at h1; omega
    · refine encL_lt marks hm (ns.take j) (fun n hn => ?_) b h1
      obtain ⟨i, hi, rfl⟩ := List.getElem_of_mem hn
      rw [List.getElem_take]
      exact h i (by rw [List.length_take] at hi; omega) (by rw [List.length_take] at hi; omega)
  unfold preT
  rw [be1 k (by omega), txt_app _ _ ha (by simp; omega), txt_app _ _ (by intro b hb; rcases List.mem_append.1 hb with h1 | h1; exact ha b h1; simp at h1; omega) (encP_lt _ hn.2), List.take_succ_eq_append_getElem hj, encL_snoc]
  congr 1
  simp [encE, hk, List.append_assoc]
/-- five cells of an entry -/
def EBox (w' : World) (b o : Nat) (c : List Value) : Prop := w'.cell? ⟨b, o, none⟩ = c[0]? ∧ w'.cell? ⟨b, o + 1, none⟩ = c[1]? ∧ w'.cell? ⟨b, o + 2, none⟩ = c[2]? ∧ w'.cell? ⟨b, o + 3, none⟩ = c[3]? ∧ w'.cell? ⟨b, o + 4, none⟩ = c[4]?
theorem EBox.of {c : NtV → List Value} {w : World} {ns : List NtV} {b off j : Nat} {n : NtV} (hc : ∀ i, i < 5 → w.cell? ⟨b, off + j * 5 + i, none⟩ = (c n)[i]?) : EBox w b (off + j * 5) (c n) := ⟨hc 0 (by omega), hc 1 (by omega), hc 2 (by omega), hc 3 (by omega), hc 4 (by omega)⟩
theorem EBox.below {w w' : World} {b o : Nat} {c : List Value} (h : EBox w b o c) (hlt : b < w.heap.size) (hb : Below w.heap.size w w') : EBox w' b o c :=
  ⟨(hb.cell (p := ⟨b, o, none⟩) hlt).trans h.1, (hb.cell (p := ⟨b, o + 1, none⟩) hlt).trans h.2.1, (hb.cell (p := ⟨b, o + 2, none⟩) hlt).trans h.2.2.1, (hb.cell (p := ⟨b, o + 3, none⟩) hlt).trans h.2.2.2.1, (hb.cell (p := ⟨b, o + 4, none⟩) hlt).trans h.2.2.2.2⟩
/-- what is told of a list -/
def listT (marks : List Int) (ns : List NtV) : ByteArray := if ns.length ≤ 255 ∧ ∀ n ∈ ns, EnOk marks n then preT ns ns.length else ⟨#[]⟩
def listE (marks : List Int) (ns : List NtV) : Int := if ns.length ≤ 255 ∧ ∀ n ∈ ns, EnOk marks n then 0 else 1
end Go.Proofs.Ytkbiolhcpghmkaa
