/- Contract of carracklaw01.few, and how a slice of texts among the arguments is opened. Condition: sizes. -/
import Derived.Lib.SmallJoins
import Derived.SliceStrings
import Derived.SizedLaws
import Derived.Test.YtkidmdifmkgofaaDoorShAwake
namespace Go.Proofs.YtkidmdifmkgofaaDoor
open Go.RowKit Go.ChangeShapes Go.WideShapes Go.Joins
set_option linter.unusedVariables false
theorem add_flat1 (b off i : Nat) : (⟨b, off, none⟩ : Addr).add i = ⟨b, off + i, none⟩ := by unfold Addr.add; split <;> simp_all
theorem weightsAll_mem1 {H : Type} {P : Program} {e : TypeId} {l : List (DataW H)} {x : DataW H} {n : Nat} (hx : x ∈ l) (hn : n ∈ x.weights P e) : n ∈ DataW.weightsAll P e l := by
  induction l with
  | nil => cases hx
  | cons y l ih =>
    simp only [DataW.weightsAll]
    rcases List.mem_cons.1 hx with rfl | h
    · exact List.mem_append_left _ hn
    · exact List.mem_append_right _ (ih h)
theorem parts_open {H : Type} {enc : TypeId × Value → H} {W : World} {base : Nat} {v : Value} {d : DataW H} {p : List MemPlace}
    (hval : Value.okWide Tryd.prog W .any base 22 v) (h : DataW.Trod enc Tryd.prog W 0 (fun _ => true) true 22 v d p) (hz : ∀ n ∈ d.weights Tryd.prog 22, n ≤ reachBytes) :
    ∃ A cap l, v = .slice A l.length cap ∧ l.length ≤ maxLen ∧ (∀ s ∈ l, s.size ≤ reachBytes) ∧ PartsAt W A l := by
  obtain ⟨A, len, cap, rfl⟩ := okWide_slice Tryd.underlying22 hval
  obtain ⟨fuel, hf⟩ := h
  rcases open_strings Tryd.underlying22 Tryd.underlying9 (by kernel_rfl) hf with ⟨hcs, _⟩ | ⟨a, len', cap', ss, hcs, _, hl, hm, hss, hx, hcell, hsz⟩
  · simp [Value.cells] at hcs
    obtain ⟨rfl, rfl, rfl⟩ := hcs
    exact ⟨none, 0, [], rfl, Nat.zero_le _, (by simp), PartsAt.none W⟩
  · simp [Value.cells] at hcs
    obtain ⟨rfl, rfl, rfl⟩ := hcs
    simp only [if_true] at hss
    have hlen : (ss.take len).length = len := by rw [List.length_take]; omega
    have hw : ∀ s ∈ ss.take len, s.size ≤ reachBytes := fun s hs => by
      have hd : d = .slice (strs (ss.take len)) (strs (ss.drop len)) := congrArg Prod.fst hx
      refine hz _ ?_
      have e1 := Tryd.underlying22
      rw [hd]
      simp only [DataW.weights, e1]
      refine List.mem_cons_of_mem _ (List.mem_append_left _ ?_)
      exact weightsAll_mem1 (x := .lit (.string s.data.toList)) (List.mem_map_of_mem hs) (by simp [DataW.weights])
    refine ⟨some a, cap, ss.take len, by rw [hlen], by rw [hlen]; omega, hw, fun j hj => ?_⟩
    rw [hlen] at hj
    have hc := hcell j (by omega)
    obtain ⟨b, off, spot⟩ := a
    have hsp : spot = none := by
      have := World.cell?_spot (hcell 0 (by omega))
      simpa [Addr.add] using this
    subst hsp
    rw [add_flat1] at hc
    refine ⟨b, off, rfl, ?_, ?_⟩
    · rcases Nat.lt_or_ge b W.heap.size with h' | h'
      · exact h'
      · simp [World.cell?, Array.getElem?_eq_none h'] at hc
    · rw [hc, List.getD_eq_getElem?_getD, List.getElem?_eq_getElem (by omega)]
      simp
/-- parts that are not too long -/
def FewOk (l : List ByteArray) : Prop := l.length ≤ 201 ∧ ∀ k, k ≤ l.length → (nls (l.take k)).length ≤ 2000
def FewPost (l : List ByteArray) (w : World) (e : Ending) (w' : World) : Prop := ∃ r : Bool, e = .returned (.bool r) ∧ (r = true → FewOk l) ∧ w' = w
set_option maxRecDepth 100000 in
set_option maxHeartbeats 1000000 in
theorem sh_few (A : Option Addr) (c : Nat) (l : List ByteArray) (w : World) (ha : PartsAt w A l) (hn : l.length ≤ maxLen) (hs : ∀ s ∈ l, s.size ≤ reachBytes) :
    Calls Tryd.prog 8 #[.slice A l.length c] w (FewPost l w) := by
  have HA := Lib.hid (And.intro ha hs)
  unfold maxLen at hn
  clear ha hs
  go_enter Tryd.func8, Tryd.ntmps8
  go_wp2
  go_loopw [3, 4] (fun o i wr => ∃ k n : Nat, k ≤ l.length ∧ k ≤ 201 ∧ i = .int .i64 (k : Int) ∧ o = .int .i64 (n : Int) ∧ n = (nls (l.take k)).length ∧ n ≤ 2000 ∧ (∀ j, j ≤ k → (nls (l.take j)).length ≤ 2000) ∧ wr = w) (fun o i _ => l.length - (intOf i).toNat)
  case atStart => exact ⟨0, 0, Nat.zero_le _, by omega, rfl, rfl, rfl, by omega, (fun j hj => by rw [show j = 0 from Nat.le_zero.1 hj]; simp [nls]), rfl⟩
  case round =>
    obtain ⟨k, n, hk, hk2, rfl, rfl, hnn, hn2, hall, rfl⟩ := hrel
    have HALL := Lib.hid (And.intro hnn hall)
    clear hnn hall
    by_cases hlt : k < l.length
    · have l1 : (k : Int) < (l.length : Int) := by omega
      obtain ⟨g, o, rfl, hg, hc⟩ := HA.out.1 k hlt
      have h1 := HA.out.2 l[k] (List.getElem_mem hlt)
      unfold reachBytes at h1
      have ht : l.take (k + 1) = l.take k ++ [l[k]] := List.take_succ_eq_append_getElem hlt
      have HT : Hid ((nls (l.take (k + 1))).length = n + l[k].size) := Lib.hid (by rw [ht, nls_snoc, List.length_append, ← HALL.out.1]; simp [nl])
      generalize l[k] = s at *
      have hw : IntKind.i64.wrap ((n : Int) + (s.size : Int)) = ((n + s.size : Nat) : Int) := by rw [IntWalk.i64_in _ (by omega)]; omega
      have hw2 : (n : Int) + (s.size : Int) = ((n + s.size : Nat) : Int) := by omega
      obtain ⟨m, hm⟩ : ∃ m, m = n + s.size := ⟨_, rfl⟩
      rw [← hm] at hw hw2 HT
      have hwm : wrap64 (m : Int) = (m : Int) := IntWalk.wrap64_in _ (by omega)
      clear ht hg h1 hm
      by_cases hbig : m ≤ 2000 ∧ k ≤ 200
      · have d1 : decide ((2000 : Int) < (m : Int)) = false := decide_eq_false (by omega)
        have d2 : decide ((200 : Int) < (k : Int)) = false := decide_eq_false (by omega)
        have HBG := Lib.hid hbig
        clear hbig
        go_wp2
        go_roundw
        case rel => exact ⟨k + 1, m, by omega, by have := HBG.out; omega, by go_num, by rw [hwm], HT.out.symm, HBG.out.1, (fun j hj => by
          rcases Nat.lt_or_ge j (k + 1) with h | h
          · exact HALL.out.2 j (by omega)
          · obtain rfl : j = k + 1 := by omega
            rw [HT.out]; exact HBG.out.1), trivial⟩
        case measure => simp [intOf]; omega
      · by_cases hb1 : m ≤ 2000
        · have d1 : decide ((2000 : Int) < (m : Int)) = false := decide_eq_false (by omega)
          have d2 : decide ((200 : Int) < (k : Int)) = true := decide_eq_true (by omega)
          clear hbig
          go_wp2
          go_ret
          exact ⟨false, rfl, (by intro h; cases h), rfl⟩
        · have d1 : decide ((2000 : Int) < (m : Int)) = true := decide_eq_true (by omega)
          clear hbig
          go_wp2
          go_ret
          exact ⟨false, rfl, (by intro h; cases h), rfl⟩
    · have hkl : k = l.length := by omega
      have HF : Hid (FewOk l) := Lib.hid ⟨by omega, by rw [← hkl]; exact HALL.out.2⟩
      go_wp2
      go_ret
      exact ⟨true, rfl, fun _ => HF.out, rfl⟩
end Go.Proofs.YtkidmdifmkgofaaDoor
