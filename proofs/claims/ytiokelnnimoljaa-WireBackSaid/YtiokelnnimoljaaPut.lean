/- Contract of carracklaw03.put: the calls, of a writer. Condition: not too many calls (few). -/
import Derived.WalkSpells
import Derived.Test.YtiokelnnimoljaaWireFew
import Derived.Test.YtiokelnnimoljaaWireText
namespace Go.Proofs.Ytiokelnnimoljaa
open Go.RowKit
set_option linter.unusedVariables false
/-- what one call does with what is written and what is remembered -/
def putOne (x : Int × List Nat) (c : CallV) : Int × List Nat :=
  if c.kind = 0 then (if c.k < 0 ∨ 255 < c.k then (keepE x.1 1, x.2) else (x.1, x.2 ++ [c.k.toNat]))
  else if c.kind = 1 then (x.1, x.2 ++ num8 c.n.toNat)
  else if c.kind = 2 then (if 65535 < c.s.size then (keepE x.1 1, x.2) else (x.1, x.2 ++ hi2 c.s.size ++ nl c.s))
  else if c.kind = 3 then (x.1, x.2 ++ nl c.s) else x
def putAll (x : Int × List Nat) (l : List CallV) : Int × List Nat := l.foldl putOne x
theorem putAll_succ (x : Int × List Nat) (l : List CallV) (k : Nat) (h : k < l.length) : putAll x (l.take (k + 1)) = putOne (putAll x (l.take k)) l[k] := by
  unfold putAll; rw [List.take_succ_eq_append_getElem h, List.foldl_append]; rfl
theorem putOne_len (x : Int × List Nat) (c : CallV) : (putOne x c).2.length ≤ x.2.length + c.s.size + 8 := by
  unfold putOne
  have h8 : (num8 c.n.toNat).length = 8 := rfl
  have h2 : (hi2 c.s.size).length = 2 := rfl
  repeat' split
  all_goals first | omega | (simp only [List.length_append, List.length_singleton, h8, h2, nl_length]; omega)
theorem putAll_len (x : Int × List Nat) (l : List CallV) : (putAll x l).2.length ≤ x.2.length + total l + 8 * l.length := by
  induction l generalizing x with
  | nil => simp [putAll, total]
  | cons c l ih =>
    have h1 := ih (putOne x c)
    have h2 := putOne_len x c
    have h3 : total (c :: l) = c.s.size + total l := by simp [total]
    have h4 : putAll x (c :: l) = putAll (putOne x c) l := rfl
    rw [h4, h3, List.length_cons]
    omega
theorem putOne_lt (x : Int × List Nat) (c : CallV) (hx : ∀ b ∈ x.2, b < 256) : ∀ b ∈ (putOne x c).2, b < 256 := by
  have h8 : ∀ b ∈ num8 c.n.toNat, b < 256 := by
    intro b hb; simp only [num8, List.mem_cons, List.not_mem_nil, or_false] at hb; omega
  have hn : ∀ b ∈ nl c.s, b < 256 := nl_lt c.s
  unfold putOne
  repeat' split
  · exact hx
  · intro b hb
    rcases List.mem_append.1 hb with h | h
    · exact hx b h
    · rw [List.mem_singleton] at h; omega
  · intro b hb
    rcases List.mem_append.1 hb with h | h
    · exact hx b h
    · exact h8 b h
  · exact hx
  · intro b hb
    rcases List.mem_append.1 hb with h | h
    · rcases List.mem_append.1 h with h | h
      · exact hx b h
      · simp only [hi2, List.mem_cons, List.not_mem_nil, or_false] at h; omega
    · exact hn b h
  · intro b hb
    rcases List.mem_append.1 hb with h | h
    · exact hx b h
    · exact hn b h
  · exact hx
theorem putAll_lt (x : Int × List Nat) (l : List CallV) (hx : ∀ b ∈ x.2, b < 256) : ∀ b ∈ (putAll x l).2, b < 256 := by
  induction l generalizing x with
  | nil => exact hx
  | cons c l ih => exact ih (putOne x c) (putOne_lt x c hx)
theorem IsCall.same {w w' : World} {b o : Nat} {c : CallV} (h : IsCall w b o c) (hb : w'.heap[b]? = w.heap[b]?) : IsCall w' b o c :=
  ⟨(World.cell?_of_block hb).trans h.c0, (World.cell?_of_block hb).trans h.c1, (World.cell?_of_block hb).trans h.c2, (World.cell?_of_block hb).trans h.c3, h.w1, h.w2, h.w3⟩
/-- one call's writer, in one law for each kind -/
theorem one_byte (base B : Nat) (x : Int × List Nat) (v : Value) (c : CallV) (w : World) (h : Wr w base B x.1 v x.2) (hl : x.2.length ≤ 140737488200000) (hk : c.kind = 0) :
    Calls Try.prog 25 #[.pointer (some ⟨B, 0, none⟩), .int .i64 c.k] w (WrAny w base B v (putOne x c).1 (putOne x c).2) := by
  unfold putOne
  rw [if_pos hk]
  by_cases hb : c.k < 0 ∨ 255 < c.k
  · rw [if_pos hb]
    exact wr_byte_bad base B x.1 v x.2 c.k w h hb
  · rw [if_neg hb]
    have e : c.k = ((c.k.toNat : Nat) : Int) := by omega
    rw [e]
    refine (wr_byte_ok base B x.1 v x.2 c.k.toNat w h (by omega) (by omega)).mono fun y w' hp => ?_
    exact hp.any
theorem one_number (base B : Nat) (x : Int × List Nat) (v : Value) (c : CallV) (w : World) (h : Wr w base B x.1 v x.2) (hl : x.2.length ≤ 140737488200000) (hk : c.kind = 1) (hw : (Lit.int .u64 c.n).wf = true) :
    Calls Try.prog 27 #[.pointer (some ⟨B, 0, none⟩), .int .u64 c.n] w (WrAny w base B v (putOne x c).1 (putOne x c).2) := by
  unfold putOne
  rw [if_neg (by omega), if_pos hk]
  have hr : 0 ≤ c.n ∧ c.n < 18446744073709551616 := by
    simp [Lit.wf, IntKind.min, IntKind.max, IntKind.signed, IntKind.bits] at hw
    omega
  have e : c.n = ((c.n.toNat : Nat) : Int) := by omega
  have := wr_number base B x.1 v x.2 c.n.toNat w h (by unfold M64; omega) (by omega)
  rw [← e] at this
  exact this
theorem one_text (base B : Nat) (x : Int × List Nat) (v : Value) (c : CallV) (w : World) (h : Wr w base B x.1 v x.2) (hl : x.2.length ≤ 140737488200000) (hk : c.kind = 2) :
    Calls Try.prog 26 #[.pointer (some ⟨B, 0, none⟩), .string c.s] w (WrAny w base B v (putOne x c).1 (putOne x c).2) := by
  unfold putOne
  rw [if_neg (by omega), if_neg (by omega), if_pos hk]
  by_cases hb : 65535 < c.s.size
  · rw [if_pos hb]
    exact wr_text_bad base B x.1 v x.2 c.s w h hb
  · rw [if_neg hb]
    exact wr_text_ok base B x.1 v x.2 c.s w h (by omega) (by omega)
theorem one_raw (base B : Nat) (x : Int × List Nat) (v : Value) (c : CallV) (w : World) (h : Wr w base B x.1 v x.2) (hl : x.2.length + c.s.size ≤ 140737488350000) (hk : c.kind = 3) :
    Calls Try.prog 28 #[.pointer (some ⟨B, 0, none⟩), .string c.s] w (WrAny w base B v (putOne x c).1 (putOne x c).2) := by
  unfold putOne
  rw [if_neg (by omega), if_neg (by omega), if_neg (by omega), if_pos hk]
  exact (wr_raw base B x.1 v x.2 c.s w h hl).mono fun y w' hp => hp.any
theorem one_none (x : Int × List Nat) (c : CallV) (h0 : c.kind ≠ 0) (h1 : c.kind ≠ 1) (h2 : c.kind ≠ 2) (h3 : c.kind ≠ 3) : putOne x c = x := by
  unfold putOne; rw [if_neg h0, if_neg h1, if_neg h2, if_neg h3]
set_option maxRecDepth 100000 in
set_option maxHeartbeats 4000000 in
theorem put_calls (base B : Nat) (x0 : Int × List Nat) (v0 : Value) (a : Option Addr) (cap : Nat) (l : List CallV) (W w : World) (hl : l.length ≤ maxLen) (hc : CallsAt W a l) (hbel : Below W.heap.size W w)
    (hB : W.heap.size ≤ B) (hown : ∀ k, v0.ownBlock = some k → W.heap.size ≤ k) (hf : fewOk l) (h0 : x0.2.length ≤ 1000000) (h : Wr w base B x0.1 v0 x0.2) :
    Calls Try.prog 10 #[.pointer (some ⟨B, 0, none⟩), .slice a l.length cap] w (WrAny w base B v0 (putAll x0 l).1 (putAll x0 l).2) := by
  have HL := Lib.hid hl
  unfold maxLen at hl
  have HC := Lib.hid hc
  have HS := Lib.hid hbel
  have HB := Lib.hid hB
  have HO := Lib.hid hown
  have HF := Lib.hid hf
  have H0 := Lib.hid h0
  have H := Lib.hid h
  clear hc hbel hB hown hf h0 h
  go_enter Try.func10, Try.ntmps10
  go_wp2
  go_loopw [4] (fun i wr => ∃ k : Nat, k ≤ l.length ∧ i = .int .i64 k ∧ ∃ v, WrMid w base B v0 (putAll x0 (l.take k)).1 v (putAll x0 (l.take k)).2 wr) (fun i _ => l.length - (intOf i).toNat)
  case atStart => exact ⟨0, by omega, rfl, v0, by rw [List.take_zero]; exact WrMid.start H.out⟩
  case round =>
    obtain ⟨k, hk, rfl, v, HM⟩ := hrel
    by_cases hlt : k < l.length
    · obtain ⟨b, off, rfl, hb, hcell0⟩ := HC.out k hlt
      have hkeep : wr.heap[b]? = w.heap[b]? := HM.keeps.block b (Nat.lt_of_lt_of_le hb HS.out.size) (fun h => by
        have := HB.out
        rcases h with h | h
        · omega
        · have := HO.out b h.symm
          omega)
      have hcell1 : IsCall wr b (off + k * 4) l[k] := (hcell0.later HS.out hb).same hkeep
      have hG := Lib.hid (putAll_succ x0 l k hlt)
      have hT := putAll_len x0 (l.take k)
      have hT2 := total_succ l k hlt
      have hT3 := total_le l (k + 1)
      have hT4 := HF.out.1
      have hT5 : (putAll x0 (l.take k)).2.length + l[k].s.size ≤ 140737488200000 := by
        have := H0.out
        have := HF.out.2
        rw [List.length_take] at hT
        omega
      clear hT hT2 hT3 hT4 hcell0 hkeep
      have HLT := Lib.hid hlt
      obtain ⟨c, hcell1, hG, hT5⟩ : ∃ c : CallV, IsCall wr b (off + k * 4) c ∧ Hid (putAll x0 (l.take (k + 1)) = putOne (putAll x0 (l.take k)) c) ∧ (putAll x0 (l.take k)).2.length + c.s.size ≤ 140737488200000 := ⟨l[k], hcell1, hG, hT5⟩
      have HT5 := Lib.hid hT5
      have HMM := Lib.hid HM
      clear hT5 HM
      have c0 := hcell1.c0
      have c1 := hcell1.c1
      have c2 := hcell1.c2
      have c3 := hcell1.c3
      have W2 := Lib.hid hcell1.w2
      clear hcell1
      generalize putAll x0 (l.take k) = x at *
      by_cases q0 : c.kind = 0
      · have HQ := Lib.hid q0
        rw [q0] at c0
        clear q0
        go_wp2_with fail
        refine (one_byte base B x v c _ HMM.out.it (by have := HT5.out; omega) HQ.out).mono ?_
        rintro y w6 hp
        obtain ⟨v6, M6⟩ := HMM.out.step hp
        obtain ⟨rfl, -⟩ := hp
        have H6 := Lib.hid M6
        clear M6 HMM c0 c1 c2 c3
        go_wp2
        go_round
        case rel => exact ⟨k + 1, by have := HLT.out; omega, by go_num, v6, by rw [hG.out]; exact H6.out⟩
        case measure => have := HLT.out; simp [intOf]; omega
      by_cases q1 : c.kind = 1
      · have HQ := Lib.hid q1
        rw [q1] at c0
        clear q0 q1
        go_wp2_with fail
        refine (one_number base B x v c _ HMM.out.it (by have := HT5.out; omega) HQ.out W2.out).mono ?_
        rintro y w6 hp
        obtain ⟨v6, M6⟩ := HMM.out.step hp
        obtain ⟨rfl, -⟩ := hp
        have H6 := Lib.hid M6
        clear M6 HMM c0 c1 c2 c3
        go_wp2
        go_round
        case rel => exact ⟨k + 1, by have := HLT.out; omega, by go_num, v6, by rw [hG.out]; exact H6.out⟩
        case measure => have := HLT.out; simp [intOf]; omega
      by_cases q2 : c.kind = 2
      · have HQ := Lib.hid q2
        rw [q2] at c0
        clear q0 q1 q2
        go_wp2_with fail
        refine (one_text base B x v c _ HMM.out.it (by have := HT5.out; omega) HQ.out).mono ?_
        rintro y w6 hp
        obtain ⟨v6, M6⟩ := HMM.out.step hp
        obtain ⟨rfl, -⟩ := hp
        have H6 := Lib.hid M6
        clear M6 HMM c0 c1 c2 c3
        go_wp2
        go_round
        case rel => exact ⟨k + 1, by have := HLT.out; omega, by go_num, v6, by rw [hG.out]; exact H6.out⟩
        case measure => have := HLT.out; simp [intOf]; omega
      by_cases q3 : c.kind = 3
      · have HQ := Lib.hid q3
        rw [q3] at c0
        clear q0 q1 q2 q3
        go_wp2_with fail
        refine (one_raw base B x v c _ HMM.out.it (by have := HT5.out; omega) HQ.out).mono ?_
        rintro y w6 hp
        obtain ⟨v6, M6⟩ := HMM.out.step hp
        obtain ⟨rfl, -⟩ := hp
        have H6 := Lib.hid M6
        clear M6 HMM c0 c1 c2 c3
        go_wp2
        go_round
        case rel => exact ⟨k + 1, by have := HLT.out; omega, by go_num, v6, by rw [hG.out]; exact H6.out⟩
        case measure => have := HLT.out; simp [intOf]; omega
      have r0 : (c.kind == 0) = false := by simpa using q0
      have r1 : (c.kind == 1) = false := by simpa using q1
      have r2 : (c.kind == 2) = false := by simpa using q2
      have r3 : (c.kind == 3) = false := by simpa using q3
      have HN := Lib.hid (one_none x c q0 q1 q2 q3)
      go_wp2
      go_round
      case rel => exact ⟨k + 1, by have := HLT.out; omega, by go_num, v, by rw [hG.out, HN.out]; exact HMM.out⟩
      case measure => have := HLT.out; simp [intOf]; omega
    · have hk' : k = l.length := Nat.le_antisymm hk (Nat.not_lt.1 hlt)
      subst hk'
      rw [List.take_length] at HM
      have HMM := Lib.hid HM
      clear HM
      go_wp2
      first | go_end0 | refine bodyPost_ret (results_none rfl _ _ _) rfl ?_
      exact HMM.out.post
end Go.Proofs.Ytiokelnnimoljaa
