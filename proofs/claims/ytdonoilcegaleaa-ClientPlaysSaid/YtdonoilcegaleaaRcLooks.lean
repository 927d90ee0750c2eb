/- Contracts of the reference's client: From, Latest, Heights. Condition: what is known fits. -/
import Derived.WalkSpells
import Derived.Outline
import Derived.Test.YtdonoilcegaleaaRcKeep
namespace Go.Proofs.Ytdonoilcegaleaa
open Go.RowKit Go.Cl
set_option linter.unusedVariables false
theorem latF_is {hs : List Nat} (h : hs.Pairwise (· < ·)) {b : Nat} (h1 : ∀ k ∈ hs, k ≤ b) (h2 : b = 0 ∨ b ∈ hs) : latF hs = b := by
  unfold latF
  by_cases hp : 0 < hs.length
  · rw [dif_pos hp]
    have a1 := h1 _ (List.getElem_mem (h := show hs.length - 1 < hs.length by omega))
    have a2 : b ≤ hs[hs.length - 1] := by
      rcases h2 with e | e
      · omega
      · obtain ⟨i, hi, rfl⟩ := List.getElem_of_mem e
        rcases Nat.lt_or_ge i (hs.length - 1) with h3 | h3
        · exact Nat.le_of_lt (sorted_at h h3 (by omega))
        · have : i = hs.length - 1 := by omega
          subst this
          exact Nat.le_refl _
    omega
  · rw [dif_neg hp]
    rcases h2 with e | e
    · exact e.symm
    · have : hs = [] := List.eq_nil_of_length_eq_zero (by omega)
      rw [this] at e
      cases e
theorem fromF_is {hs : List Nat} (h : hs.Pairwise (· < ·)) {x b : Nat} {q : Bool} (h1 : q = false → b = 0 ∧ ∀ k ∈ hs, ¬ x ≤ k) (h2 : q = true → b ∈ hs ∧ x ≤ b ∧ ∀ k ∈ hs, x ≤ k → b ≤ k) : fromF x hs = (b, q) := by
  obtain ⟨y, ok, hF⟩ : ∃ y ok, fromF x hs = (y, ok) := ⟨_, _, rfl⟩
  obtain ⟨f1, f2, f3⟩ := from_facts h hF
  rw [hF]
  cases q with
  | false =>
    obtain ⟨e1, e2⟩ := h1 rfl
    cases ok with
    | false => rw [e1, f3 rfl]
    | true => exact absurd (f2 rfl).2 (e2 y (f2 rfl).1)
  | true =>
    obtain ⟨e1, e2, e3⟩ := h2 rfl
    obtain ⟨i, hi, hb⟩ := List.getElem_of_mem e1
    obtain ⟨g1, g2⟩ := f1 i hi (by rw [hb]; exact e2)
    subst g1
    have := e3 y (f2 rfl).1 (f2 rfl).2
    rw [hb] at g2
    have : y = b := by omega
    rw [this]
set_option maxRecDepth 100000 in
set_option maxHeartbeats 1000000 in
theorem rc_latest (base R : Nat) (u : Value) (L : List (Nat × ByteArray)) (hs : List Nat) (f : Int → Option ByteArray) (w : World) (h : RcS w base R u L) (hk : Lk L hs f) (hn : L.length ≤ 1000000) :
    Calls Try.prog 16 #[.pointer (some ⟨R, 0, none⟩)] w fun e w' => e = .returned (.int .u64 (latF hs : Int)) ∧ w = w' := by
  have c0 := h.c0
  obtain ⟨A, cap, rfl⟩ := h.shape
  have HK := Lib.hid (And.intro h hk)
  clear h hk
  go_enter Try.func16, Try.ntmps16
  go_wp2
  go_loop [3, 4] (fun b i => ∃ j m : Nat, j ≤ L.length ∧ b = .int .u64 (m : Int) ∧ i = .int .i64 (j : Int) ∧ (∀ a (ha : a < j) (ha' : a < L.length), L[a].1 ≤ m) ∧ (m = 0 ∨ m ∈ hs)) (fun _ i => L.length - (intOf i).toNat)
  case atStart => exact ⟨0, 0, Nat.zero_le _, rfl, rfl, (fun a ha => by omega), Or.inl rfl⟩
  case round =>
    obtain ⟨j, m, hj, rfl, rfl, hle, hm⟩ := hrel
    have HM := Lib.hid (And.intro hle hm)
    clear hle hm
    by_cases hlj : j < L.length
    · obtain ⟨g, cap', hu, k0, k1⟩ := HK.out.1.at j hlj
      injection hu with hA _ _
      subst hA
      have HIN := Lib.hid (HK.out.2.at j hlj).1
      by_cases hx : m < L[j].1
      · have t0 : decide ((m : Int) < (L[j].1 : Int)) = true := decide_eq_true (by omega)
        have t1 : decide (m < L[j].1) = true := decide_eq_true hx
        have HX := Lib.hid hx
        clear hx k1
        go_wp2
        go_round
        case rel =>
          refine ⟨j + 1, L[j].1, by omega, rfl, by go_num, fun a ha ha' => ?_, Or.inr HIN.out⟩
          rcases Nat.lt_or_ge a j with h1 | h1
          · have := HM.out.1 a h1 ha'; have := HX.out; omega
          · have : a = j := by omega
            subst this
            exact Nat.le_refl _
        case measure => simp [intOf]; omega
      · have t0 : decide ((m : Int) < (L[j].1 : Int)) = false := decide_eq_false (by omega)
        have t1 : decide (m < L[j].1) = false := decide_eq_false hx
        have HX := Lib.hid hx
        clear hx k1
        go_wp2
        go_round
        case rel =>
          refine ⟨j + 1, m, by omega, rfl, by go_num, fun a ha ha' => ?_, HM.out.2⟩
          rcases Nat.lt_or_ge a j with h1 | h1
          · exact HM.out.1 a h1 ha'
          · have : a = j := by omega
            subst this
            have := HX.out; omega
        case measure => simp [intOf]; omega
    · have HE : Hid (latF hs = m) := Lib.hid (latF_is HK.out.2.ok.srt (fun k hk => by
        obtain ⟨a, ha, e⟩ := HK.out.2.of hk
        have := HM.out.1 a (by omega) ha
        omega) HM.out.2)
      go_wp2
      go_ret
      exact ⟨by rw [HE.out]; rfl, rfl⟩
set_option maxRecDepth 100000 in
set_option maxHeartbeats 1000000 in
theorem rc_from (base R : Nat) (u : Value) (L : List (Nat × ByteArray)) (hs : List Nat) (f : Int → Option ByteArray) (x : Nat) (w : World) (h : RcS w base R u L) (hk : Lk L hs f) (hn : L.length ≤ 1000000) :
    Calls Try.prog 14 #[.pointer (some ⟨R, 0, none⟩), .int .u64 (x : Int)] w fun e w' => e = .returned (.tuple #[.int .u64 ((fromF x hs).1 : Int), .bool (fromF x hs).2]) ∧ w = w' := by
  have c0 := h.c0
  obtain ⟨A, cap, rfl⟩ := h.shape
  have HK := Lib.hid (And.intro h hk)
  clear h hk
  go_enter Try.func14, Try.ntmps14
  go_wp2
  go_loop [6, 7, 8] (fun b o i => ∃ j m : Nat, ∃ q : Bool, j ≤ L.length ∧ b = .int .u64 (m : Int) ∧ o = .bool q ∧ i = .int .i64 (j : Int) ∧ (q = false → m = 0 ∧ ∀ a (ha : a < j) (ha' : a < L.length), ¬ x ≤ L[a].1) ∧ (q = true → m ∈ hs ∧ x ≤ m ∧ ∀ a (ha : a < j) (ha' : a < L.length), x ≤ L[a].1 → m ≤ L[a].1)) (fun _ _ i => L.length - (intOf i).toNat)
  case atStart => exact ⟨0, 0, false, Nat.zero_le _, rfl, rfl, rfl, (fun _ => ⟨rfl, fun a ha => by omega⟩), (fun e => by cases e)⟩
  case round =>
    obtain ⟨j, m, q, hj, rfl, rfl, rfl, hf, ht⟩ := hrel
    have HM := Lib.hid (And.intro hf ht)
    clear hf ht
    by_cases hlj : j < L.length
    · obtain ⟨g, cap', hu, k0, k1⟩ := HK.out.1.at j hlj
      injection hu with hA _ _
      subst hA
      have HIN := Lib.hid (HK.out.2.at j hlj).1
      clear k1
      by_cases hx : x ≤ L[j].1
      · have t0 : decide ((x : Int) ≤ (L[j].1 : Int)) = true := decide_eq_true (by omega)
        have t1 : decide (x ≤ L[j].1) = true := decide_eq_true hx
        have HX := Lib.hid hx
        clear hx
        cases q with
        | false =>
          go_wp2
          go_round
          case rel =>
            refine ⟨j + 1, L[j].1, true, by omega, rfl, rfl, by go_num, (fun e => by cases e), fun _ => ⟨HIN.out, HX.out, fun a ha ha' hxa => ?_⟩⟩
            rcases Nat.lt_or_ge a j with h1 | h1
            · exact absurd hxa ((HM.out.1 rfl).2 a h1 ha')
            · have : a = j := by omega
              subst this
              exact Nat.le_refl _
          case measure => simp [intOf]; omega
        | true =>
          by_cases hy : L[j].1 < m
          · have t2 : decide ((L[j].1 : Int) < (m : Int)) = true := decide_eq_true (by omega)
            have t3 : decide (L[j].1 < m) = true := decide_eq_true hy
            have HY := Lib.hid hy
            clear hy
            go_wp2
            go_round
            case rel =>
              refine ⟨j + 1, L[j].1, true, by omega, rfl, rfl, by go_num, (fun e => by cases e), fun _ => ⟨HIN.out, HX.out, fun a ha ha' hxa => ?_⟩⟩
              rcases Nat.lt_or_ge a j with h1 | h1
              · have := (HM.out.2 rfl).2.2 a h1 ha' hxa; have := HY.out; omega
              · have : a = j := by omega
                subst this
                exact Nat.le_refl _
            case measure => simp [intOf]; omega
          · have t2 : decide ((L[j].1 : Int) < (m : Int)) = false := decide_eq_false (by omega)
            have t3 : decide (L[j].1 < m) = false := decide_eq_false hy
            have HY := Lib.hid hy
            clear hy
            go_wp2
            go_round
            case rel =>
              refine ⟨j + 1, m, true, by omega, rfl, rfl, by go_num, (fun e => by cases e), fun _ => ⟨(HM.out.2 rfl).1, (HM.out.2 rfl).2.1, fun a ha ha' hxa => ?_⟩⟩
              rcases Nat.lt_or_ge a j with h1 | h1
              · exact (HM.out.2 rfl).2.2 a h1 ha' hxa
              · have : a = j := by omega
                subst this
                have := HY.out; omega
            case measure => simp [intOf]; omega
      · have t0 : decide ((x : Int) ≤ (L[j].1 : Int)) = false := decide_eq_false (by omega)
        have t1 : decide (x ≤ L[j].1) = false := decide_eq_false hx
        have HX := Lib.hid hx
        clear hx
        go_wp2
        go_round
        case rel =>
          refine ⟨j + 1, m, q, by omega, rfl, rfl, by go_num, fun e => ⟨(HM.out.1 e).1, fun a ha ha' => ?_⟩, fun e => ⟨(HM.out.2 e).1, (HM.out.2 e).2.1, fun a ha ha' hxa => ?_⟩⟩
          · rcases Nat.lt_or_ge a j with h1 | h1
            · exact (HM.out.1 e).2 a h1 ha'
            · have : a = j := by omega
              subst this
              exact HX.out
          · rcases Nat.lt_or_ge a j with h1 | h1
            · exact (HM.out.2 e).2.2 a h1 ha' hxa
            · have : a = j := by omega
              subst this
              exact absurd hxa HX.out
        case measure => simp [intOf]; omega
    · have HE : Hid (fromF x hs = (m, q)) := Lib.hid (fromF_is HK.out.2.ok.srt (fun e => ⟨(HM.out.1 e).1, fun k hk => by
        obtain ⟨a, ha, e2⟩ := HK.out.2.of hk
        rw [← e2]
        exact (HM.out.1 e).2 a (by omega) ha⟩) (fun e => ⟨(HM.out.2 e).1, (HM.out.2 e).2.1, fun k hk hxk => by
        obtain ⟨a, ha, e2⟩ := HK.out.2.of hk
        rw [← e2]
        exact (HM.out.2 e).2.2 a (by omega) ha (by omega)⟩))
      go_wp2
      go_ret2
      exact ⟨by rw [HE.out]; rfl, rfl⟩
end Go.Proofs.Ytdonoilcegaleaa
