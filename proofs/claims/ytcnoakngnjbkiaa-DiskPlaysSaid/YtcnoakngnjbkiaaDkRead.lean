/- Contract of a disk's Read. Condition: a sector that is there. -/
import Derived.WalkSpells
import Derived.Test.YtcnoakngnjbkiaaDkWrite
namespace Go.Proofs.Ytcnoakngnjbkiaa
open Go.RowKit
set_option linter.unusedVariables false
theorem wcells_at (l : List (Int × ByteArray)) (j : Nat) (h : j < l.length) : (wcells l)[j * 2]? = some (.int .i64 l[j].1) ∧ (wcells l)[j * 2 + 1]? = some (.string l[j].2) := by
  induction l generalizing j with
  | nil => cases h
  | cons p l ih =>
    obtain ⟨k, s⟩ := p
    match j with
    | 0 => exact ⟨rfl, rfl⟩
    | j + 1 =>
      have := ih j (by simpa using h)
      have e : (j + 1) * 2 = j * 2 + 1 + 1 := by omega
      rw [e]
      simpa [wcells] using this
theorem DkB.at {w : World} {base B S : Nat} {a b : Int} {n : Nat} {buf : Value} {ws : List (Int × ByteArray)} {armed : Int} (h : DkB w base B S a b n buf ws armed) (h0 : 0 < ws.length) :
    ∃ g cap, buf = .slice (some ⟨g, 0, none⟩) ws.length cap ∧ ∀ j (hj : j < ws.length), w.cell? ⟨g, j * 2, none⟩ = some (.int .i64 ws[j].1) ∧ w.cell? ⟨g, j * 2 + 1, none⟩ = some (.string ws[j].2) := by
  obtain ⟨hl, h2⟩ := h.own
  rcases h2 with ⟨_, hx⟩ | ⟨g, cap, cur, rfl, _, hb, _, _, _, ht⟩
  · omega
  · refine ⟨g, cap, rfl, fun j hj => ?_⟩
    have key : ∀ i, i < ws.length * 2 → w.cell? ⟨g, i, none⟩ = (wcells ws)[i]? := fun i hi => by
      rw [Kq.blk_cell hb i, ← ht, List.getElem?_take, if_pos hi, Array.getElem?_toList]
    obtain ⟨w1, w2⟩ := wcells_at ws j hj
    exact ⟨by rw [key _ (by omega), w1], by rw [key _ (by omega), w2]⟩
/-- what was written last to a sector -/
def lastW (k : Int) : List (Int × ByteArray) → Option ByteArray
  | [] => none
  | (j, s) :: l => match lastW k l with
    | some t => some t
    | none => if j = k then some s else none
theorem lastW_snoc (k : Int) (l : List (Int × ByteArray)) (j : Int) (s : ByteArray) : lastW k (l ++ [(j, s)]) = if j = k then some s else lastW k l := by
  induction l with
  | nil => simp [lastW]
  | cons p l ih =>
    obtain ⟨i, t⟩ := p
    rw [List.cons_append, lastW, ih]
    by_cases h : j = k
    · simp [h]
    · simp [h, lastW]
theorem last_take (k : Int) (ws : List (Int × ByteArray)) (i : Nat) (h : i < ws.length) : lastW k (ws.take (i + 1)) = if ws[i].1 = k then some ws[i].2 else lastW k (ws.take i) := by
  rw [List.take_succ_eq_append_getElem h]
  exact lastW_snoc k (ws.take i) ws[i].1 ws[i].2
/-- bytes of the disk's block -/
def scells (st : List Nat) : Array Value := (st.map fun (b : Nat) => Value.int .u8 (b : Int)).toArray
set_option maxRecDepth 100000 in
set_option maxHeartbeats 1000000 in
theorem dk_read_hit (base B S : Nat) (a b : Int) (n : Nat) (buf : Value) (ws : List (Int × ByteArray)) (armed k : Int) (s : ByteArray) (w : World) (h : DkB w base B S a b n buf ws armed)
    (h0 : 0 ≤ k) (h1 : k < b) (hw : ws.length ≤ 1000000) (hl : lastW k ws = some s) :
    Calls Try.prog 20 #[.pointer (some ⟨B, 0, none⟩), .int .i64 k] w fun x w' => x = .returned (.tuple #[.string s, .int .i64 0]) ∧ Below w.heap.size w w' := by
  have H := Lib.hid h
  have HK := Lib.hid (And.intro h0 h1)
  have c0 := h.c0
  have c1 := h.c1
  have HL := Lib.hid hl
  clear h h0 h1 hl
  go_enter Try.func20, Try.ntmps20
  go_wp2_with fail
  refine (dk_has_yes a b k _ HK.out.1 HK.out.2).mono ?_
  rintro x w2 ⟨rfl, b2⟩
  have H2 := Lib.hid (H.out.belowD b2)
  have HB2 := Lib.hid b2
  clear b2 c0 c1 H
  have c3 := H2.out.c3
  have h0 : 0 < ws.length := by
    rcases ws with _ | ⟨p, ws⟩
    · have := HL.out; cases this
    · simp
  obtain ⟨g, cap, rfl, hat⟩ := H2.out.at h0
  have HAT := Lib.hid hat
  clear hat
  go_wp2
  go_loop [6] (fun i => (∃ j : Nat, j < ws.length ∧ i = .int .i64 (j : Int) ∧ lastW k ws = lastW k (ws.take (j + 1))) ∨ (i = .int .i64 (-1) ∧ lastW k ws = none)) (fun i => (intOf i + 1).toNat)
  case atStart => exact Or.inl ⟨ws.length - 1, by omega, by congr 1; omega, by rw [show ws.length - 1 + 1 = ws.length by omega, List.take_length]⟩
  case round =>
    rcases hrel with ⟨j, hj, rfl, hlj⟩ | ⟨rfl, hln⟩
    · obtain ⟨w0, w1⟩ := HAT.out j hj
      have HT := Lib.hid (hlj.trans (last_take k ws j hj))
      clear hlj
      by_cases hk : ws[j].1 = k
      · have HS : Hid (ws[j].2 = s) := Lib.hid (by have := HT.out; rw [if_pos hk] at this; have h2 := HL.out; rw [this] at h2; exact Option.some.inj h2)
        rw [hk] at w0
        clear hk
        go_wp2
        go_ret2
        exact ⟨by rw [← HS.out]; rfl, HB2.out⟩
      · have hkb : (ws[j].1 == k) = false := by simpa using hk
        have HN : Hid (lastW k ws = lastW k (ws.take j)) := Lib.hid (by have := HT.out; rwa [if_neg hk] at this)
        clear hk
        rcases j with _ | j
        · go_wp2
          go_round
          case rel => exact Or.inr ⟨rfl, by rw [HN.out]; rfl⟩
          case measure => simp [intOf]
        · go_wp2
          go_round
          case rel => exact Or.inl ⟨j, by omega, by go_num, HN.out⟩
          case measure => simp [intOf]; omega
    · have := HL.out
      rw [hln] at this
      cases this
end Go.Proofs.Ytcnoakngnjbkiaa
