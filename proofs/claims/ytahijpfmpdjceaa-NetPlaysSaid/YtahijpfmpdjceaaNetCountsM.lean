/- carracklaw20.NetCounts and NetPlays: what their walks share: few, a net and a map side by side. No condition. -/
import Derived.WalkSpells
import Derived.Outline
import Derived.Test.YtahijpfmpdjceaaNtTake
import Derived.Test.YtahijpfmpdjceaaNtAwake
import Derived.Test.YtahijpfmpdjceaaNetMovesGoM
import Derived.Test.YtahijpfmpdjceaaMsgMap
namespace Go.Proofs.Ytahijpfmpdjceaa
open Go.RowKit
set_option linter.unusedVariables false
def fewN (l : List NAct) : Prop := l.length ≤ 60 ∧ ∀ (j : Nat) (h : j < l.length), l[j].l.length ≤ 300
def FewP (l : List NAct) (w : World) (e : Ending) (w' : World) : Prop := ∃ r : Bool, e = .returned (.bool r) ∧ (r = true → fewN l) ∧ w' = w
set_option maxRecDepth 100000 in
set_option maxHeartbeats 1000000 in
theorem nt_few (A : Option Addr) (cap : Nat) (l : List NAct) (w : World) (hl : l.length ≤ maxLen) (ha : NActsAt w A l) :
    Calls Try.prog 8 #[.slice A l.length cap] w (FewP l w) := by
  have HA := Lib.hid (And.intro ha hl)
  clear ha hl
  by_cases h60 : 60 < l.length
  · have d0 : decide ((60 : Int) < (l.length : Int)) = true := decide_eq_true (by omega)
    have d1 : decide (60 < l.length) = true := decide_eq_true h60
    clear h60
    go_enter Try.func8, Try.ntmps8
    go_wp2
    go_ret
    exact ⟨false, rfl, (fun h => by cases h), rfl⟩
  · have d0 : decide ((60 : Int) < (l.length : Int)) = false := decide_eq_false (by omega)
    have d1 : decide (60 < l.length) = false := decide_eq_false h60
    have h60' : l.length ≤ 60 := Nat.not_lt.1 h60
    clear h60
    go_enter Try.func8, Try.ntmps8
    go_wp2
    go_loopw [3] (fun i wr => ∃ k : Nat, k ≤ l.length ∧ i = .int .i64 (k : Int) ∧ wr = w ∧ ∀ (j : Nat) (h : j < l.length), j < k → l[j].l.length ≤ 300) (fun i _ => l.length - (intOf i).toNat)
    case atStart => exact ⟨0, Nat.zero_le _, rfl, rfl, fun j _ h => absurd h (Nat.not_lt_zero _)⟩
    case round =>
      obtain ⟨k, hk, rfl, rfl, hall⟩ := hrel
      have HK := Lib.hid (And.intro hk hall)
      clear hk hall
      by_cases hlk : k < l.length
      · have l1 : (k : Int) < (l.length : Int) := by omega
        obtain ⟨g, o, rfl, hg, hc⟩ := HA.out.1 k hlk
        have c3 := hc.c3
        have HLT := Lib.hid hlk
        by_cases h3 : 300 < l[k].l.length
        · generalize l[k] = c at *
          have d2 : decide ((300 : Int) < (c.l.length : Int)) = true := decide_eq_true (by omega)
          have d3 : decide (300 < c.l.length) = true := decide_eq_true h3
          clear h3 hc hg
          go_wp2
          go_ret
          exact ⟨false, rfl, (fun h => by cases h), rfl⟩
        · have H3 := Lib.hid h3
          have HALL : Hid (∀ (j : Nat) (h : j < l.length), j < k + 1 → l[j].l.length ≤ 300) := Lib.hid (fun j h hj => by
            by_cases hjk : j < k
            · exact HK.out.2 j h hjk
            · obtain rfl : j = k := by omega
              exact Nat.not_lt.1 h3)
          generalize l[k] = c at *
          have d2 : decide ((300 : Int) < (c.l.length : Int)) = false := decide_eq_false (by omega)
          have d3 : decide (300 < c.l.length) = false := decide_eq_false h3
          clear h3 hc hg
          go_wp2
          go_roundw
          case rel => exact ⟨k + 1, by have := HLT.out; omega, by go_num, trivial, HALL.out⟩
          case measure => simp [intOf]; have := HLT.out; omega
      · have l1 : ¬ (k : Int) < (l.length : Int) := by omega
        have HF : Hid (fewN l) := Lib.hid ⟨h60', fun j h => HK.out.2 j h (by omega)⟩
        go_wp2
        go_ret
        exact ⟨true, rfl, fun _ => HF.out, rfl⟩
/-- a net and a map of a law's own, side by side -/
structure Cn (W w : World) (N M : Nat) (v : Value) (ms K : List MsgV) (c : Nat) : Prop where
  net : NtI W w N N v ms
  map : MapM w M c K
  ne : M ≠ N
  own : v.ownBlock ≠ some M
  hM : W.heap.size ≤ M
  len : ms.length ≤ 256
  wf : ∀ m ∈ K, m.wf
theorem Cn.below {W w w' : World} {N M : Nat} {v : Value} {ms K : List MsgV} {c : Nat} (h : Cn W w N M v ms K c) (hb : Below w.heap.size w w') : Cn W w' N M v ms K c :=
  ⟨h.net.below hb, h.map.below hb, h.ne, h.own, h.hM, h.len, h.wf⟩
theorem Cn.step {W w w' : World} {N M : Nat} {v : Value} {ms ms' K : List MsgV} {c : Nat} (h : Cn W w N M v ms K c) (hd : NtP w N N v ms' w') (hl : ms'.length ≤ 256) : ∃ v', Cn W w' N M v' ms' K c := by
  have hMlt := h.map.lt
  obtain ⟨v', h1, h2, h3⟩ := hd
  have hM : ¬ OwnN N v M := fun e => by
    rcases e with e | e
    · exact h.ne e
    · exact h.own e
  refine ⟨v', ⟨h1, h.net.bel.trans (h2.below h.net.bel.size (fun j _ hj => ?_)), h.net.hN, h.net.hbase⟩, h.map.keeps h2 hM, h.ne, fun e => ?_, h.hM, hl, h.wf⟩
  · rcases hj with rfl | e
    · exact h.net.hN
    · exact Nat.le_trans h.net.hbase (h.net.s.own.lt j e).1
  · rcases h3 M e with h4 | h4
    · exact h.own h4
    · omega
theorem Cn.put {W w : World} {N M : Nat} {v : Value} {ms K : List MsgV} {c : Nat} (h : Cn W w N M v ms K c) (hc : c < 1000000) (m : MsgV) (hw : m.wf) :
    ∃ w', (Instr.mapUpdate 53 (.map (some M)) m.val (.bool true)).run Try.prog w = .ok () w' ∧ Cn W w' N M v ms (K ++ [m]) (c + 1) ∧ Kq.Keeps (· = M) w w' := by
  obtain ⟨w', h1, h2, h3⟩ := h.map.put hc m hw
  refine ⟨w', h1, ⟨⟨h.net.s.keeps h3 (fun e => h.ne e.symm) (fun j hj e => h.own (by rw [hj, e])), h.net.bel.trans (h3.below h.net.bel.size (fun j _ e => by rw [e]; exact h.hM)), h.net.hN, h.net.hbase⟩, h2, h.ne, h.own, h.hM, h.len, fun x hx => ?_⟩, h3⟩
  rcases List.mem_append.1 hx with hx | hx
  · exact h.wf x hx
  · simp only [List.mem_cons, List.not_mem_nil, or_false] at hx
    rw [hx]; exact hw
theorem Cn.made {W w : World} {N : Nat} {v : Value} (h : NtI W w N N v []) : Cn W (w.alloc (.map #[] 0)) N w.heap.size v [] [] 0 := by
  have hb := Kq.below_alloc w (.map #[] 0)
  refine ⟨h.below hb, MapM.made w, fun e => ?_, fun e => ?_, h.bel.size, by simp, fun m hm => by cases hm⟩
  · have := Kq.blk_lt h.s.blk; omega
  · have := (h.s.own.lt _ e).2; omega
end Go.Proofs.Ytahijpfmpdjceaa
