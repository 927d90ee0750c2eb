/- The made proofs prove what they are made for: mathematics. No condition but few pairs. -/
import Derived.Test.YtclloplkbajebaaDoorPfQ2Q
namespace Go.Proofs.YtclloplkbajebaaDoor
open Go.RowKit
set_option linter.unusedVariables false
theorem isIn_of {l : List PairV} {key : ByteArray} (h : isIn l key = true) : ∃ h : plc l key < l.length, l[plc l key].1 = key := of_decide_eq_true h
theorem not_in {l : List PairV} {key : ByteArray} (h : isIn l key = false) : ¬ ∃ h : plc l key < l.length, l[plc l key].1 = key := of_decide_eq_false h
theorem pairs_small {l : List PairV} (h : chkE l = 0) : ∀ p ∈ l, p.1.size ≤ 16 ∧ p.2.size ≤ 64 := fun p hp => by have := chk_small h p hp; omega
theorem pfHas_may {l : List PairV} {key : ByteArray} (hc : chkE l = 0) (h40 : l.length ≤ 40) (h : isIn l key = true) : PfMay (pfHas l key) := by
  obtain ⟨hp, -⟩ := isIn_of h
  refine ⟨by unfold pfHas; simp, fun L hL => ?_⟩
  unfold pfHas at hL
  simp only [List.mem_singleton] at hL
  rw [hL]
  exact mkLf_may l _ hp h40 (pairs_small hc) (by have := pathL_few l (plc l key) h40; omega)
theorem pfNot_may {l : List PairV} {key : ByteArray} (hc : chkE l = 0) (h40 : l.length ≤ 40) : PfMay (pfNot l key) := by
  have hm : ∀ i, i < l.length → LfMay (mkLf l i) := fun i hi => mkLf_may l i hi h40 (pairs_small hc) (by have := pathL_few l i h40; omega)
  have hpl := plc_le l key
  refine ⟨?_, fun L hL => ?_⟩
  · unfold pfNot
    simp only [List.length_append]
    have h1 : (if plc l key = 0 then [] else [mkLf l (plc l key - 1)]).length ≤ 1 := by split <;> simp
    have h2 : (if plc l key < l.length then [mkLf l (plc l key)] else []).length ≤ 1 := by split <;> simp
    omega
  · unfold pfNot at hL
    rcases List.mem_append.1 hL with h | h
    · by_cases h0 : plc l key = 0
      · rw [if_pos h0] at h; cases h
      · rw [if_neg h0, List.mem_singleton] at h
        rw [h]; exact hm _ (by omega)
    · by_cases h0 : plc l key < l.length
      · rw [if_pos h0, List.mem_singleton] at h
        rw [h]; exact hm _ h0
      · rw [if_neg h0] at h; cases h
/-- bytes of what may be, parsed -/
theorem parse_bytes {p : PfV} (hm : PfMay p) : pfBytes p = (txt (pfB p), 0) ∧ pfParse (txt (pfB p)) = (p, 0) := ⟨if_pos hm, pfParse_some hm (nl_txt _ (pfB_lt hm)).symm⟩
theorem mk_k {l : List PairV} {i : Nat} (h : i < l.length) : (mkLf l i).k = l[i].1 ∧ (mkLf l i).v = l[i].2 ∧ (mkLf l i).i = (i : Int) ∧ (mkLf l i).c = (l.length : Int) := by unfold mkLf; rw [getD_at h]; exact ⟨rfl, rfl, rfl, rfl⟩
theorem has_made {l : List PairV} {key : ByteArray} (h40 : l.length ≤ 40) (h : isIn l key = true) (other : ByteArray) : hasP (rootL l) key other (pfHas l key) = decide (other = (mkLf l (plc l key)).v) := by
  obtain ⟨hp, he⟩ := isIn_of h
  have hk := mk_k hp
  have hcl := mkLf_climb l _ hp (by omega)
  unfold pfHas hasP
  simp only
  rw [hk.1, he]
  have : clB (rootL l) [mkLf l (plc l key)] = true := by unfold clB; simp [hcl]
  rw [this, Bool.and_true]
  by_cases hv : other = (mkLf l (plc l key)).v
  · rw [decide_eq_true ⟨rfl, hv.symm⟩, decide_eq_true hv]
  · rw [decide_eq_false (fun hh => hv hh.2.symm), decide_eq_false hv]
theorem lacks_made {l : List PairV} {key : ByteArray} (hc : chkE l = 0) (h40 : l.length ≤ 40) (hk : isKeyB key = true) (h : isIn l key = false) : lacksP (rootL l) key (pfNot l key) = true := by
  have hs := chk_sorted hc
  have hpl := plc_le l key
  have hno := not_in h
  have hhi : ∀ hp : plc l key < l.length, ltT key l[plc l key].1 = true := fun hp => by
    refine lt_tri ?_ (fun e => hno ⟨hp, e⟩)
    rw [plc_at l key hs _ hp, decide_eq_false (Nat.lt_irrefl _)]
  have hlo : ∀ q, ∀ hq : q < l.length, q < plc l key → ltT l[q].1 key = true := fun q hq hlt => by
    rw [plc_at l key hs q hq, decide_eq_true hlt]
  unfold pfNot
  by_cases h0 : plc l key = 0
  · by_cases hn : plc l key < l.length
    · rw [if_pos h0, if_pos hn, List.nil_append]
      have hcl := mkLf_climb l _ hn (by omega)
      have hm := mk_k hn
      have h1 := hhi hn
      unfold lacksP
      simp only
      have ho : outB key (mkLf l (plc l key)) = true := by unfold outB; rw [hm.1, hm.2.2.1, h1, decide_eq_true (show ((plc l key : Nat) : Int) = 0 by omega)]; simp
      have hb : clB (rootL l) [mkLf l (plc l key)] = true := by unfold clB; simp [hcl]
      rw [hk, ho, hb]; rfl
    · rw [if_pos h0, if_neg hn]
      have hl : l = [] := List.eq_nil_of_length_eq_zero (by omega)
      subst hl
      unfold lacksP
      simp [hk]
  · obtain ⟨q, hq⟩ : ∃ q, q = plc l key - 1 := ⟨_, rfl⟩
    have hql : q < l.length := by omega
    have hclq := mkLf_climb l q hql (by omega)
    have hmq := mk_k hql
    have hlq := hlo q hql (by omega)
    rw [if_neg h0, ← hq]
    by_cases hn : plc l key < l.length
    · rw [if_pos hn]
      have hcl := mkLf_climb l _ hn (by omega)
      have hm := mk_k hn
      have h1 := hhi hn
      unfold lacksP
      simp only [List.cons_append, List.nil_append]
      have ho : betB key (mkLf l q) (mkLf l (plc l key)) = true := by
        unfold betB
        rw [hmq.1, hm.1, hlq, h1, hm.2.2.2, hmq.2.2.2, hmq.2.2.1, hm.2.2.1, decide_eq_true rfl, decide_eq_true (by omega)]; rfl
      have hb : clB (rootL l) [mkLf l q, mkLf l (plc l key)] = true := by unfold clB; simp [hcl, hclq]
      rw [hk, ho, hb]; rfl
    · rw [if_neg hn, List.append_nil]
      unfold lacksP
      simp only
      have ho : outB key (mkLf l q) = true := by
        unfold outB
        rw [hmq.1, hmq.2.2.1, hmq.2.2.2, hlq, decide_eq_true (show (q : Int) = (l.length : Int) - 1 by omega)]; simp
      have hb : clB (rootL l) [mkLf l q] = true := by unfold clB; simp [hclq]
      rw [hk, ho, hb]; rfl
theorem hasP_ab (root key value : ByteArray) (p : PfV) (h : p.ab = true) : hasP root key value p = false := by
  obtain ⟨ab, ls⟩ := p
  simp only at h; subst h
  unfold hasP
  simp
end Go.Proofs.YtclloplkbajebaaDoor
