import Derived.WalkSpells
import Derived.Outline
import Derived.Test.YtbpgfhcecanikaaGreatLwGQ
import Derived.Test.YtbpgfhcecanikaaGreatWrGQ
import Derived.Test.YtbpgfhcecanikaaGreatWlIQ
namespace Go.Proofs.YtbpgfhcecanikaaGreat
open Go.RowKit
set_option linter.unusedVariables false
def pairsW : Nat → List ByteArray → List (Int × ByteArray)
  | _, [] => []
  | k, s :: l => ((k : Int), s) :: pairsW (k + 1) l
theorem lay_go (a b : Nat) : ∀ (l : List ByteArray) (k : Nat) (ws : List (Int × ByteArray)) (st : List Nat), (∀ t ∈ l, t.size = a) → k + l.length ≤ b → layF a b k l ws 0 st = ([], 0, flushB a (ws ++ pairsW k l) st, 0)
  | [], k, ws, st, _, _ => by
    unfold layF flF pairsW
    rw [if_neg (by decide), List.append_nil]
  | s :: l, k, ws, st, hs, hk => by
    have h1 : wrF a b (k : Int) s ws 0 = (ws ++ [((k : Int), s)], 0, 0) := by
      unfold wrF
      rw [if_pos ⟨by omega, by simp at hk; omega, hs s List.mem_cons_self⟩, if_neg (by decide)]
    unfold layF
    rw [h1, if_pos rfl, lay_go a b l (k + 1) _ st (fun t ht => hs t (List.mem_cons_of_mem _ ht)) (by simp at hk; omega)]
    simp [pairsW]
theorem lastW_pairs : ∀ (l : List ByteArray) (k i : Nat), lastW (i : Int) (pairsW k l) = if k ≤ i then l[i - k]? else none
  | [], k, i => by simp [pairsW, lastW]
  | s :: l, k, i => by
    unfold pairsW lastW
    rw [lastW_pairs l (k + 1) i]
    by_cases h1 : k + 1 ≤ i
    · obtain ⟨m, rfl⟩ : ∃ m, i = k + 1 + m := ⟨i - (k + 1), by omega⟩
      rw [if_pos h1, if_neg (show ¬ ((k : Int) = ((k + 1 + m : Nat) : Int)) by omega), if_pos (show k ≤ k + 1 + m by omega), show k + 1 + m - (k + 1) = m by omega, show k + 1 + m - k = m + 1 by omega, List.getElem?_cons_succ]
      cases h2 : l[m]? with
      | some t => rfl
      | none => rfl
    · rw [if_neg h1]
      by_cases h2 : k = i
      · subst h2
        simp
      · rw [if_neg (show ¬ ((k : Int) = (i : Int)) by omega), if_neg (show ¬ k ≤ i by omega)]
def Cs (a : Nat) (st : List Nat) (i : Nat) : ByteArray := txt (sec a i st)
theorem rdF_cs {a b : Nat} {st : List Nat} {i : Nat} (hi : i < b) : (rdF a b [] st (i : Int)).1 = Cs a st i := by
  unfold rdF
  rw [if_pos ⟨by omega, by omega⟩]
  show txt (sec a (i : Int).toNat st) = _
  rw [Int.toNat_natCast]
  rfl
theorem cs_flush {a b : Nat} {W : List (Int × ByteArray)} {st : List Nat} (h : WsOk a b W) (hl : st.length = a * b) (hs : ∀ x ∈ st, x < 256) {i : Nat} (hi : i < b) : Cs a (flushB a W st) i = (lastW (i : Int) W).getD (Cs a st i) := by
  have h1 := read_flush a b W st h hl hs i hi
  have e1 : readB a [] (flushB a W st) (i : Int) = Cs a (flushB a W st) i := by
    show txt (sec a (i : Int).toNat _) = _
    rw [Int.toNat_natCast]; rfl
  rw [e1] at h1
  rw [h1]
  unfold readB
  cases lastW (i : Int) W with
  | some s => rfl
  | none =>
    show txt (sec a (i : Int).toNat st) = _
    rw [Int.toNat_natCast]; rfl
theorem wsok_one {a b k : Nat} {s : ByteArray} (hk : k < b) (hs : s.size = a) : 0 ≤ ((k : Int), s).1 ∧ ((k : Int), s).1 < (b : Int) ∧ ((k : Int), s).2.size = a := ⟨by show (0 : Int) ≤ (k : Int); omega, by show (k : Int) < (b : Int); omega, hs⟩
theorem pairs_ok (a b : Nat) : ∀ (l : List ByteArray) (k : Nat), (∀ t ∈ l, t.size = a) → k + l.length ≤ b → WsOk a b (pairsW k l)
  | [], k, _, _ => WsOk.nil a b
  | s :: l, k, hs, hk => by
    have hk3 : k < b := by rw [List.length_cons] at hk; omega
    have ih := pairs_ok a b l (k + 1) (fun t ht => hs t (List.mem_cons_of_mem _ ht)) (by simp at hk; omega)
    intro p hp
    unfold pairsW at hp
    rcases List.mem_cons.1 hp with rfl | hp
    · exact wsok_one hk3 (hs s List.mem_cons_self)
    · exact ih p hp
theorem cs_lay {a b k : Nat} {l : List ByteArray} {st : List Nat} (hl : st.length = a * b) (hs : ∀ x ∈ st, x < 256) (hz : ∀ t ∈ l, t.size = a) (hk : k + l.length ≤ b) {i : Nat} (hi : i < b) : Cs a (flushB a (pairsW k l) st) i = if k ≤ i then (l[i - k]?).getD (Cs a st i) else Cs a st i := by
  rw [cs_flush (pairs_ok a b l k hz hk) hl hs hi, lastW_pairs]
  split <;> rfl
structure Cln (a b : Nat) (st : List Nat) : Prop where
  len : st.length = a * b
  lt : ∀ x ∈ st, x < 256
theorem Cln.ok {a b : Nat} {st : List Nat} (h : Cln a b st) : StOk a b 0 [] 0 st := ⟨WsOk.nil a b, h.len, h.lt, Nat.le_refl _, Nat.zero_le _⟩
theorem Cln.lay {a b k : Nat} {l : List ByteArray} {st : List Nat} (h : Cln a b st) (hz : ∀ t ∈ l, t.size = a) (hk : k + l.length ≤ b) : Cln a b (flushB a (pairsW k l) st) := by
  obtain ⟨q1, q2⟩ := flushB_ok a b (pairsW k l) st (pairs_ok a b l k hz hk) h.len h.lt
  exact ⟨q1, q2⟩
theorem split_size {a g x : Nat} {s : ByteArray} (ha : 64 ≤ a) : ∀ t ∈ (frSplit (a : Int) g x s).1, t.size = a := fun t ht => by
  unfold frSplit at ht
  split at ht
  · obtain ⟨i, _, rfl⟩ := List.mem_map.1 ht
    rw [Int.toNat_natCast]
    exact frSec_size a ⟨g, x, i, _, pieceC (a - 25) s i⟩ (by omega) (piece_size (a - 25) s i)
  · cases ht
theorem ap_clean {a b : Nat} {st : List Nat} {v : WalV} {s : ByteArray} (hz : Siz a b) (hb : 4 ≤ b) (hv : WvOk b v) (hbr : v.broken = false) (hrd : v.ready = true) (hs : s.size ≤ 4096) (hroom : v.used + nParts a s.size ≤ segN b) :
    apAll a b s [] 0 st v = (([], 0, flushB a (pairsW (2 + v.sg * segN b + v.used) (frSplit (a : Int) v.g v.cnt s).1) st, 0), { v with used := v.used + nParts a s.size, cnt := v.cnt + 1 }) := by
  have hl := split_len a v.g v.cnt s hz.a0 hz.a1 hs
  have hsg : 2 + v.sg * segN b + v.used + (frSplit (a : Int) v.g v.cnt s).1.length ≤ b := by
    have h1 := hv.sg
    have h2 : 2 * segN b + 2 ≤ b := by unfold segN; omega
    have h01 : v.sg = 0 ∨ v.sg = 1 := by omega
    rcases h01 with e | e <;> rw [e] <;> omega
  have e : apF a b v.g v.sg v.used v.cnt s [] 0 st = ([], 0, flushB a (pairsW (2 + v.sg * segN b + v.used) (frSplit (a : Int) v.g v.cnt s).1) st, 0) := by
    have := lay_go a b (frSplit (a : Int) v.g v.cnt s).1 (2 + v.sg * segN b + v.used) [] st (split_size hz.a0) hsg
    rw [List.nil_append] at this
    exact this
  unfold apAll
  rw [if_neg (by rw [hbr]; decide), if_neg (by rw [hrd]; decide), if_neg (by omega), if_neg (by omega), e, hl]
  obtain ⟨g, sg, sl, us, cn, rd, br⟩ := v
  simp only at hbr
  subst hbr
  rfl
theorem ap_full {a b : Nat} {st : List Nat} {v : WalV} {s : ByteArray} (hz : Siz a b) (hbr : v.broken = false) (hrd : v.ready = true) (hs : s.size ≤ 4096) (hroom : ¬ v.used + nParts a s.size ≤ segN b) : apAll a b s [] 0 st v = (([], 0, st, 2), v) := by
  have hl := split_len a v.g v.cnt s hz.a0 hz.a1 hs
  unfold apAll
  rw [if_neg (by rw [hbr]; decide), if_neg (by rw [hrd]; decide), if_neg (by omega), if_pos (by omega)]
def ckS (a b : Nat) (s : ByteArray) (st : List Nat) (v : WalV) : List Nat := flushB a (pairsW (1 - v.slot) [hdPut a (v.g + 1) (1 - v.sg)]) (flushB a (pairsW (2 + (1 - v.sg) * segN b) (frSplit (a : Int) (v.g + 1) 0 s).1) st)
theorem ck_fit {a b : Nat} {v : WalV} {s : ByteArray} (hz : Siz a b) (hb : 4 ≤ b) (hs : s.size ≤ 4096) (hroom : nParts a s.size ≤ segN b) : 2 + (1 - v.sg) * segN b + (frSplit (a : Int) (v.g + 1) 0 s).1.length ≤ b := by
  have hl := split_len a (v.g + 1) 0 s hz.a0 hz.a1 hs
  have h2 : 2 * segN b + 2 ≤ b := by unfold segN; omega
  have h01 : 1 - v.sg = 0 ∨ 1 - v.sg = 1 := by omega
  rcases h01 with e | e <;> rw [e] <;> omega
theorem ck_clean {a b : Nat} {st : List Nat} {v : WalV} {s : ByteArray} (hz : Siz a b) (hb : 4 ≤ b) (hv : WvOk b v) (hbr : v.broken = false) (hs : s.size ≤ 4096) (hroom : nParts a s.size ≤ segN b) (hg : v.g + 1 ≠ M64) :
    ckAll a b s [] 0 st v = (([], 0, ckS a b s st v, 0), { v with g := v.g + 1, sg := 1 - v.sg, slot := 1 - v.slot, used := nParts a s.size, cnt := 1, ready := true }) := by
  have e1 : beF a b (v.g + 1) (1 - v.sg) s [] 0 st = ([], 0, flushB a (pairsW (2 + (1 - v.sg) * segN b) (frSplit (a : Int) (v.g + 1) 0 s).1) st, 0) := by
    have := lay_go a b (frSplit (a : Int) (v.g + 1) 0 s).1 (2 + (1 - v.sg) * segN b) [] st (split_size hz.a0) (ck_fit hz hb hs hroom)
    rw [List.nil_append] at this
    exact this
  have e2 : ∀ st', phF a b (v.g + 1) (1 - v.sg) (1 - v.slot) [] 0 st' = ([], 0, flushB a (pairsW (1 - v.slot) [hdPut a (v.g + 1) (1 - v.sg)]) st', 0) := fun st' => by
    have := lay_go a b [hdPut a (v.g + 1) (1 - v.sg)] (1 - v.slot) [] st' (fun t ht => by
      rw [List.mem_singleton] at ht; rw [ht]; exact hdPut_size a _ _ (by have := hz.a0; omega)) (by simp; omega)
    rw [List.nil_append] at this
    exact this
  have e : ckF a b (v.g + 1) (1 - v.sg) v.slot s [] 0 st = ([], 0, ckS a b s st v, 0) := by
    unfold ckF
    rw [e1]
    simp only [if_true]
    exact e2 _
  unfold ckAll
  rw [if_neg (by rw [hbr]; decide), if_neg (by omega), if_neg (by omega), if_neg hg, e]
  obtain ⟨g, sg, sl, us, cn, rd, br⟩ := v
  simp only at hbr
  subst hbr
  rfl
theorem ckS_cln {a b : Nat} {st : List Nat} {v : WalV} {s : ByteArray} (h : Cln a b st) (hz : Siz a b) (hb : 4 ≤ b) (hs : s.size ≤ 4096) (hroom : nParts a s.size ≤ segN b) : Cln a b (ckS a b s st v) :=
  (h.lay (split_size hz.a0) (ck_fit hz hb hs hroom)).lay (fun t ht => by
    rw [List.mem_singleton] at ht; rw [ht]; exact hdPut_size a _ _ (by have := hz.a0; omega)) (by simp; omega)
def opS (a b : Nat) (st : List Nat) : List Nat := if (nwF a b [] st).2.2 < 0 then flushB a (pairsW 1 [hdPut a 1 0]) st else st
theorem op_clean {a b : Nat} {st : List Nat} (hz : Siz a b) (hb : 4 ≤ b) : opD a b [] 0 st = ([], 0, opS a b st, 0) ∧ opO a b [] 0 st = some (opV a b [] 0 st) ∧ opL a b [] 0 st = (opR a b [] 0 st).1 := by
  have e0 : flF a [] 0 st = ([], 0, st, 0) := by unfold flF; rw [if_neg (by decide)]; rfl
  have e : opD a b [] 0 st = ([], 0, opS a b st, 0) := by
    unfold opD opF
    rw [if_neg (by omega), e0]
    simp only [if_true]
    unfold fdF opS
    split
    · have := lay_go a b [hdPut a 1 0] 1 [] st (fun t ht => by
        rw [List.mem_singleton] at ht; rw [ht]; exact hdPut_size a _ _ (by have := hz.a0; omega)) (by simp; omega)
      rw [List.nil_append] at this
      exact this
    · rfl
  have hc : (opD a b [] 0 st).2.2.2 = 0 := by rw [e]
  exact ⟨e, if_pos hc, if_pos hc⟩
theorem opS_cln {a b : Nat} {st : List Nat} (h : Cln a b st) (hz : Siz a b) (hb : 4 ≤ b) : Cln a b (opS a b st) := by
  unfold opS
  split
  · exact h.lay (fun t ht => by rw [List.mem_singleton] at ht; rw [ht]; exact hdPut_size a _ _ (by have := hz.a0; omega)) (by simp; omega)
  · exact h
theorem opV_clean {a b : Nat} {st : List Nat} (hz : Siz a b) (hb : 4 ≤ b) : opV a b [] 0 st = { wal0 with g := if (nwF a b [] st).2.2 < 0 then 1 else (nwF a b [] st).1, sg := if (nwF a b [] st).2.2 < 0 then 0 else (nwF a b [] st).2.1, slot := if (nwF a b [] st).2.2 < 0 then 1 else (nwF a b [] st).2.2.toNat, used := (opR a b [] 0 st).2, cnt := (opR a b [] 0 st).1.length } := by
  have e0 : flF a [] 0 st = ([], 0, st, 0) := by unfold flF; rw [if_neg (by decide)]; rfl
  have e2 : (phF a b 1 0 1 [] 0 st).2.2.2 = 0 := by
    have := lay_go a b [hdPut a 1 0] 1 [] st (fun t ht => by
      rw [List.mem_singleton] at ht; rw [ht]; exact hdPut_size a _ _ (by have := hz.a0; omega)) (by simp; omega)
    unfold phF
    rw [this]
  unfold opV opV0
  rw [e0]
  unfold fdV
  split
  · unfold headV
    rw [e2, if_pos rfl]
  · rfl
theorem zero_no {a b : Nat} (hz : Siz a b) (hb : 4 ≤ b) : (nwF a b [] (List.replicate (a * b) 0)).2.2 < 0 := by
  have hsec : ∀ k, k < b → txt (textF a b [] (List.replicate (a * b) 0) k 1) = txt (List.replicate a 0) := fun k hk => by
    rw [textF_one, rdF_cs hk]
    unfold Cs sec
    congr 1
    rw [List.drop_replicate, List.take_replicate]
    congr 1
    have h1 : (k + 1) * a ≤ a * b := by rw [Nat.mul_comm a b]; exact Nat.mul_le_mul_right a hk
    have h2 : (k + 1) * a = k * a + a := by rw [Nat.add_mul, Nat.one_mul]
    omega
  have hno : hdGoodB a (txt (List.replicate a 0)) = false := by
    have hg0 : gOf (txt (List.replicate a 0)) = 0 := by
      unfold gOf
      rw [nl_txt _ (fun x hx => by rw [List.eq_of_mem_replicate hx]; decide)]
      obtain ⟨m, rfl⟩ : ∃ m, a = m + 9 := ⟨a - 9, by have := hz.a0; omega⟩
      rw [show m + 9 = 9 + m by omega, ← List.replicate_append_replicate]
      rfl
    unfold hdGoodB
    rw [hg0]
    simp
  unfold nwF
  rw [hsec 0 (by omega), hsec 1 (by omega)]
  simp [nw, nwStep, hno]
end Go.Proofs.YtbpgfhcecanikaaGreat
namespace Go.Proofs.YtbpgfhcecanikaaGreat
open Go.RowKit
set_option linter.unusedVariables false
theorem good_putW (a g sg : Nat) (h : HdOk a g sg) (hg : g < M64) : hdGoodB a (hdPut a g sg) = true := by
  have hs := h.s1
  have ha := h.a0
  refine of_good ⟨⟨by omega, by have := h.a1; omega⟩, hdPut_size a g sg (by omega), ?_, ?_, ?_⟩
  · unfold hdPut; exact right_seal _
  · rw [gOf_put a g sg hg (by omega), sOf_put a g sg (by omega)]; exact ⟨h.g0, by omega⟩
  · rw [gOf_put a g sg hg (by omega), sOf_put a g sg (by omega)]
structure HdI (a : Nat) (st : List Nat) (v : WalV) : Prop where
  good : hdGoodB a (Cs a st v.slot) = true
  g : gOf (Cs a st v.slot) = v.g
  sg : sOf (Cs a st v.slot) = v.sg
  other : hdGoodB a (Cs a st (1 - v.slot)) = false ∨ gOf (Cs a st (1 - v.slot)) < v.g
theorem nwF_cs {a b : Nat} {st : List Nat} (hb : 4 ≤ b) : nwF a b [] st = nw a [Cs a st 0, Cs a st 1] 2 := by
  unfold nwF
  rw [textF_one, textF_one, rdF_cs (by omega), rdF_cs (by omega)]
theorem nw_two' (a : Nat) (s t : ByteArray) : nw a [s, t] 2 = nwStep a (nwStep a (0, 0, -1) s 0) t 1 := rfl
theorem HdI.nw {a b : Nat} {st : List Nat} {v : WalV} (h : HdI a st v) (hb : 4 ≤ b) (hv : v.slot ≤ 1) : nwF a b [] st = (v.g, v.sg, (v.slot : Int)) := by
  rw [nwF_cs hb, nw_two']
  have h01 : v.slot = 0 ∨ v.slot = 1 := by omega
  have hg := h.good
  have h1 := h.g
  have h2 := h.sg
  have h3 := h.other
  rcases h01 with e | e <;> rw [e] at hg h1 h2 h3
  · have e1 : nwStep a (0, 0, -1) (Cs a st 0) 0 = (v.g, v.sg, 0) := by
      unfold nwStep
      rw [if_pos ⟨hg, Or.inl (by decide)⟩, h1, h2]; rfl
    rw [e1, e]
    unfold nwStep
    rw [if_neg]
    · rfl
    · rintro ⟨q1, q2⟩
      rcases h3 with h3 | h3
      · rw [show 1 - 0 = 1 from rfl, q1] at h3; cases h3
      · rw [show 1 - 0 = 1 from rfl] at h3
        rcases q2 with q2 | q2
        · exact absurd q2 (show ¬ ((0 : Int) < 0) by decide)
        · have q2' : v.g < gOf (Cs a st 1) := q2
          omega
  · rw [e]
    rw [show 1 - 1 = 0 from rfl] at h3
    have hstep : ∀ st0 : Nat × Nat × Int, (st0.2.2 < 0 ∨ st0.1 < v.g) → nwStep a st0 (Cs a st 1) 1 = (v.g, v.sg, 1) := fun st0 hs => by
      unfold nwStep
      rw [if_pos ⟨hg, by rw [h1]; exact hs⟩, h1, h2]; rfl
    refine hstep _ ?_
    unfold nwStep
    split
    · rename_i hq
      refine Or.inr ?_
      rcases h3 with h3 | h3
      · rw [hq.1] at h3; cases h3
      · exact h3
    · exact Or.inl (by decide)
theorem nw_none {a b : Nat} {st : List Nat} (hb : 4 ≤ b) (h : (nwF a b [] st).2.2 < 0) : hdGoodB a (Cs a st 0) = false ∧ hdGoodB a (Cs a st 1) = false := by
  rw [nwF_cs hb, nw_two'] at h
  cases hg0 : hdGoodB a (Cs a st 0) with
  | true =>
    exfalso
    have e1 : nwStep a (0, 0, -1) (Cs a st 0) 0 = (gOf (Cs a st 0), sOf (Cs a st 0), ((0 : Nat) : Int)) := by unfold nwStep; rw [if_pos ⟨hg0, Or.inl (by decide)⟩]
    rw [e1] at h
    unfold nwStep at h
    split at h
    · exact absurd h (show ¬ (((1 : Nat) : Int) < 0) by decide)
    · exact absurd h (show ¬ (((0 : Nat) : Int) < 0) by decide)
  | false =>
    refine ⟨rfl, ?_⟩
    have e1 : nwStep a (0, 0, -1) (Cs a st 0) 0 = (0, 0, -1) := by unfold nwStep; rw [if_neg (fun q => by rw [hg0] at q; cases q.1)]
    rw [e1] at h
    cases hg1 : hdGoodB a (Cs a st 1) with
    | true =>
      exfalso
      unfold nwStep at h
      rw [if_pos ⟨hg1, Or.inl (by decide)⟩] at h
      exact absurd h (show ¬ (((1 : Nat) : Int) < 0) by decide)
    | false => rfl
theorem opS_head {a b : Nat} {st : List Nat} (hc : Cln a b st) (hz : Siz a b) (hb : 4 ≤ b) (h : (nwF a b [] st).2.2 < 0) : HdI a (opS a b st) { wal0 with g := 1, sg := 0, slot := 1 } := by
  obtain ⟨h0, h1⟩ := nw_none hb h
  have hsz := hdPut_size a 1 0 (by have := hz.a0; omega)
  have hk : ∀ i, i < b → Cs a (opS a b st) i = if i = 1 then hdPut a 1 0 else Cs a st i := fun i hi => by
    unfold opS
    rw [if_pos h, cs_lay hc.len hc.lt (fun t ht => by rw [List.mem_singleton] at ht; rw [ht]; exact hsz) (by simp; omega) hi]
    by_cases e : i = 1
    · subst e; simp
    · rw [if_neg e]
      split
      · rw [List.getElem?_eq_none (by simp; omega)]; rfl
      · rfl
  have hok : HdOk (a : Int) 1 ((0 : Nat) : Int) := ⟨by have := hz.a0; omega, by have := hz.a1; omega, by decide, by decide, by decide⟩
  have k1 := hk 1 (by omega)
  have k0 := hk 0 (by omega)
  rw [if_pos rfl] at k1
  rw [if_neg (by decide)] at k0
  refine ⟨?_, ?_, ?_, Or.inl ?_⟩
  · show hdGoodB a (Cs a (opS a b st) 1) = true
    rw [k1]; exact good_putW a 1 0 hok (by decide)
  · show gOf (Cs a (opS a b st) 1) = 1
    rw [k1]; exact gOf_put a 1 0 (by decide) (by decide)
  · show sOf (Cs a (opS a b st) 1) = 0
    rw [k1]; exact sOf_put a 1 0 (by decide)
  · show hdGoodB a (Cs a (opS a b st) 0) = false
    rw [k0]; exact h0
theorem opR_clean {a b : Nat} {st : List Nat} (hz : Siz a b) (hb : 4 ≤ b) : opR a b [] 0 st = scanAll (a : Int) (opV a b [] 0 st).g (segT a b [] (opS a b st) (opV a b [] 0 st).sg) := by
  have e0 : flF a [] 0 st = ([], 0, st, 0) := by unfold flF; rw [if_neg (by decide)]; rfl
  obtain ⟨e1, -, -⟩ := op_clean hz hb (st := st)
  have e2 : opF a b [] 0 st = ([], 0, opS a b st, 0) := by
    rw [← e1]; unfold opD; rw [if_neg (by omega)]
  show scanAll (a : Int) (opV0 a b [] 0 st).g (segT a b (opF a b [] 0 st).1 (opF a b [] 0 st).2.2.1 (opV0 a b [] 0 st).sg) = _
  rw [e2]
  rfl
theorem op_again {a b : Nat} {st : List Nat} (hc : Cln a b st) (hz : Siz a b) (hb : 4 ≤ b) : opS a b (opS a b st) = opS a b st ∧ opR a b [] 0 (opS a b st) = opR a b [] 0 st := by
  by_cases h : (nwF a b [] st).2.2 < 0
  · have hh := opS_head hc hz hb h
    have hn := hh.nw hb (by decide)
    have e1 : opS a b (opS a b st) = opS a b st := if_neg (by rw [hn]; decide)
    refine ⟨e1, ?_⟩
    rw [opR_clean hz hb, opR_clean hz hb, e1, opV_clean hz hb, opV_clean hz hb, hn]
    simp only
    rw [if_neg (by decide), if_neg (by decide), if_pos h, if_pos h]
  · have e : opS a b st = st := by unfold opS; rw [if_neg h]
    exact ⟨by rw [e, e], by rw [e]⟩
end Go.Proofs.YtbpgfhcecanikaaGreat
namespace Go.Proofs.YtbpgfhcecanikaaGreat
open Go.RowKit
set_option linter.unusedVariables false
def FiI (W w : World) (A : PairA) (a b L : Nat) (st : List Nat) (v : WalV) : Prop :=
  ∃ bufD bufR ws2 ar2 st2 vq e rs pv LA rl N, PrS W w A a b N bufD [] 0 st (some (L, v)) bufR ws2 ar2 st2 vq (pcells A (.pointer (some ⟨L, 0, none⟩)) e rs pv) LA rl
section
variable {W w w' : World} {A : PairA} {a b L : Nat} {st : List Nat} {v : WalV}
theorem FiI.below (h : FiI W w A a b L st v) (hb : Below w.heap.size w w') : FiI W w' A a b L st v := by
  obtain ⟨bufD, bufR, ws2, ar2, st2, vq, e, rs, pv, LA, rl, N, hp⟩ := h
  exact ⟨bufD, bufR, ws2, ar2, st2, vq, e, rs, pv, LA, rl, N, hp.below hb⟩
theorem FiI.c1 (h : FiI W w A a b L st v) : w.cell? ⟨A.P, 1, none⟩ = some (.pointer (some ⟨L, 0, none⟩)) := by
  obtain ⟨bufD, bufR, ws2, ar2, st2, vq, e, rs, pv, LA, rl, N, hp⟩ := h
  exact hp.c1
theorem FiI.c0 (h : FiI W w A a b L st v) : w.cell? ⟨A.P, 0, none⟩ = some (.pointer (some ⟨A.D, 0, none⟩)) := by
  obtain ⟨bufD, bufR, ws2, ar2, st2, vq, e, rs, pv, LA, rl, N, hp⟩ := h
  exact hp.c0
theorem FiI.bel (h : FiI W w A a b L st v) : Below W.heap.size W w := by
  obtain ⟨bufD, bufR, ws2, ar2, st2, vq, e, rs, pv, LA, rl, N, hp⟩ := h
  exact hp.bel
theorem FiI.wl (h : FiI W w A a b L st v) : ∃ buf, WlS w A.bD A.D A.S a b L buf [] 0 st v := by
  obtain ⟨bufD, bufR, ws2, ar2, st2, vq, e, rs, pv, LA, rl, N, hp⟩ := h
  exact ⟨bufD, hp.wl⟩
theorem fi_ckpt (h : FiI W w A a b L st v) (hc : Cln a b st) (hz : Siz a b) (hb : 4 ≤ b) (hv : WvOk b v) (s : ByteArray) (hsz : s.size ≤ 1000000) :
    Calls Tryz.prog 25 #[.pointer (some ⟨L, 0, none⟩), .string s] w fun x w' => x = .returned (.int .i64 (ckAll a b s [] 0 st v).1.2.2.2) ∧ ((ckAll a b s [] 0 st v).1.1 = [] → (ckAll a b s [] 0 st v).1.2.1 = 0 → FiI W w' A a b L (ckAll a b s [] 0 st v).1.2.2.1 (ckAll a b s [] 0 st v).2) := by
  obtain ⟨bufD, bufR, ws2, ar2, st2, vq, e, rs, pv, LA, rl, N, hp⟩ := h
  refine (wl_ckpt hp.wl hc.ok (by decide) hz hb hv s hsz).mono ?_
  rintro x w' ⟨rfl, hw⟩
  refine ⟨rfl, fun e1 e2 => ?_⟩
  rw [e1, e2] at hw
  obtain ⟨bufD', hp'⟩ := hp.stepA hw
  exact ⟨bufD', bufR, ws2, ar2, st2, vq, e, rs, pv, LA, rl, N, hp'⟩
theorem fi_append (h : FiI W w A a b L st v) (hc : Cln a b st) (hz : Siz a b) (hb : 4 ≤ b) (hv : WvOk b v) (s : ByteArray) :
    Calls Tryz.prog 26 #[.pointer (some ⟨L, 0, none⟩), .string s] w fun x w' => x = .returned (.int .i64 (apAll a b s [] 0 st v).1.2.2.2) ∧ ((apAll a b s [] 0 st v).1.1 = [] → (apAll a b s [] 0 st v).1.2.1 = 0 → FiI W w' A a b L (apAll a b s [] 0 st v).1.2.2.1 (apAll a b s [] 0 st v).2) := by
  obtain ⟨bufD, bufR, ws2, ar2, st2, vq, e, rs, pv, LA, rl, N, hp⟩ := h
  refine (wl_append hp.wl hc.ok (by decide) hz hb hv s).mono ?_
  rintro x w' ⟨rfl, hw⟩
  refine ⟨rfl, fun e1 e2 => ?_⟩
  rw [e1, e2] at hw
  obtain ⟨bufD', hp'⟩ := hp.stepA hw
  exact ⟨bufD', bufR, ws2, ar2, st2, vq, e, rs, pv, LA, rl, N, hp'⟩
end
theorem made_fi {W w : World} {A : PairA} {a b N : Nat} {st : List Nat} (hz : Siz a b) (hb : 4 ≤ b) (h : PrI W w A a b N (opD a b [] 0 st).1 (opD a b [] 0 st).2.1 (opD a b [] 0 st).2.2.1 (opO a b [] 0 st) (opD a b [] 0 st).2.2.2 (opL a b [] 0 st)) : ∃ L, FiI W w A a b L (opS a b st) (opV a b [] 0 st) := by
  obtain ⟨e1, e2, e3⟩ := op_clean hz hb (st := st)
  rw [e1, e2, e3] at h
  obtain ⟨bufD, bufR, vl, vq, LA, cap, hp, h1, h2⟩ := h
  obtain ⟨⟨L, v1⟩, rfl, he1⟩ : ∃ x, vl = some x ∧ x.2 = opV a b [] 0 st := by
    cases vl with
    | none => cases h1
    | some x => exact ⟨x, rfl, by simpa using h1⟩
  simp only at he1
  subst he1
  exact ⟨L, bufD, bufR, _, _, _, vq, _, _, _, LA, _, N, hp⟩
end Go.Proofs.YtbpgfhcecanikaaGreat
namespace Go.Proofs.YtbpgfhcecanikaaGreat
open Go.RowKit
set_option linter.unusedVariables false
section
variable {W w w' : World} {A : PairA} {a b N : Nat} {bufD bufR : Value} {ws1 ws2 ws' : List (Int × ByteArray)} {ar1 ar2 ar' : Nat} {st1 st2 st' : List Nat} {vl vq : Option (Nat × WalV)} {cs : Array Value} {LA : Option Addr} {rl : List ByteArray}
theorem PrS.stepDkeep {buf' : Value} (h : PrS W w A a b N bufD ws1 ar1 st1 vl bufR ws2 ar2 st2 vq cs LA rl) (h1 : DkS w' A.bD A.D A.S a b buf' ws' (ar' : Int) st') (h2 : Kq.Keeps (Own A.D A.S bufD) w w') (h3 : ∀ j, buf'.ownBlock = some j → bufD.ownBlock = some j ∨ w.heap.size ≤ j) : PrS W w' A a b N buf' ws' ar' st' vl bufR ws2 ar2 st2 vq cs LA rl := by
  cases vl with
  | none => exact h.stepDk h1 h2 h3
  | some x =>
    obtain ⟨L, v⟩ := x
    have hL := h.wl
    have hno : ¬ Own A.D A.S buf' L := fun e => by
      rcases e with e | e | e
      · exact hL.sep (Or.inl e)
      · exact hL.sep (Or.inr (Or.inl e))
      · rcases h3 L e with e | e
        · exact hL.sep (Or.inr (Or.inr e))
        · have := hL.lt; omega
    have hW : WlS w' A.bD A.D A.S a b L buf' ws' ar' st' v := ⟨h1, h2.blk hL.blk hL.sep, hno⟩
    have h0 := h.forgetL.stepDk h1 h2 h3
    refine h0.logNew hW (h.ow.ge 0 L (ownP.l rfl)) (fun i hi => ?_)
    by_cases e : i = 0
    · subst e
      rcases hi.i0 with e | ⟨u, e⟩
      · exact hno e
      · cases e
    · exact e (h.ow.ap i 0 L (hi.not (fun e' => absurd e' e) (fun _ => ⟨rfl, rfl⟩) (fun _ => ⟨rfl, rfl⟩)) (ownP.l rfl))
theorem pr_crash {K : Nat} (h : PrS W w A a b N bufD ws1 ar1 st1 vl bufR ws2 ar2 st2 vq cs LA rl) (ho : StOk a b K ws1 ar1 st1) (hz : Siz a b) (hK : K ≤ 1000000) (CA : Option Addr) (ccap : Nat) (l : List (Bool × Int)) (hcw : CwAt w CA l) (hne : ∀ g o, CA = some ⟨g, o, none⟩ → g ≠ A.S) (hl : l.length ≤ 1000) :
    Calls Tryz.prog 21 #[.pointer (some ⟨A.D, 0, none⟩), .slice CA l.length ccap] w fun x w' => x = .returned (.tuple #[]) ∧ PrS W w' A a b N (.slice none 0 0) [] 0 (crashB a ws1 l false st1) vl bufR ws2 ar2 st2 vq cs LA rl := by
  refine (dk_crash A.bD A.D A.S a b bufD ws1 (ar1 : Int) st1 CA ccap l w h.d ho.w ho.len hz.n (by have := hz.a0; omega) (by have := hz.a1; omega) (Nat.le_trans ho.nw hK) ho.lt hcw (fun _ => hne) (by omega)).mono ?_
  rintro x w' ⟨rfl, hd, hk⟩
  exact ⟨rfl, h.stepDkeep hd (hk.mono (fun j _ e => e.elim Or.inl (fun e => Or.inr (Or.inl e)))) (fun j hj => by cases hj)⟩
theorem pr_openK (h : PrS W w A a b N bufD [] 0 st1 vl bufR ws2 ar2 st2 vq cs LA rl) (hc : Cln a b st1) (hz : Siz a b) (hb : 4 ≤ b) :
    Calls Tryz.prog 22 #[.pointer (some ⟨A.D, 0, none⟩)] w fun x w' => ∃ bufD' L LB cap, x = .returned (.tuple #[.pointer (some ⟨L, 0, none⟩), .slice LB (opR a b [] 0 st1).1.length cap, .int .i64 0]) ∧ PrS W w' A a b N bufD' [] 0 (opS a b st1) vl bufR ws2 ar2 st2 vq cs LA rl ∧ WlS w' A.bD A.D A.S a b L bufD' [] 0 (opS a b st1) (opV a b [] 0 st1) ∧ StrsAt w' LB (opR a b [] 0 st1).1 ∧ (∀ g o, LB = some ⟨g, o, none⟩ → w.heap.size ≤ g ∧ ¬ Own A.D A.S bufD' g) := by
  obtain ⟨e1, -, -⟩ := op_clean hz hb (st := st1)
  have e2 : opF a b [] 0 st1 = ([], 0, opS a b st1, 0) := by
    rw [← e1]; unfold opD; rw [if_neg (by omega)]
  refine (wl_open_all A.bD A.D A.S a b 0 bufD [] 0 st1 w h.d hc.ok (by decide) hz).mono ?_
  rintro x w' (⟨hcc, _, _⟩ | ⟨_, _, ho⟩)
  · rw [e1] at hcc; exact absurd rfl hcc
  · obtain ⟨L, LB, cap, rfl, hL, hs, hg, hd, buf', hW, hf, hn⟩ := ho
    rw [e2] at hd hW
    obtain ⟨_, _, hk, _⟩ := hd
    exact ⟨buf', L, LB, cap, rfl, h.stepDkeep hW.d hk hf, hW, hs, fun g o e => ⟨(hg g o e).1, hn g o e⟩⟩
end
end Go.Proofs.YtbpgfhcecanikaaGreat
