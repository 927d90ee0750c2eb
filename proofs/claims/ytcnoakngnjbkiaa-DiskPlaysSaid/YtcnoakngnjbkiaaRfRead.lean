/- Contract of the reference's disk: Read. Condition: sizes. -/
import Derived.WalkSpells
import Derived.Outline
import Derived.Deep.QuietTactic
import Derived.BigQuiet
import Derived.Test.YtcnoakngnjbkiaaRfFlush
namespace Go.Proofs.Ytcnoakngnjbkiaa
open Go.RowKit
set_option linter.unusedVariables false
set_option maxRecDepth 100000 in
set_option maxHeartbeats 1000000 in
theorem rf_read_hit (base R a b : Nat) (buf : Value) (ws : List (Int × ByteArray)) (armed k : Int) (st : List Nat) (s : ByteArray) (w : World) (h : RfS w base R a b buf ws armed st)
    (h0 : 0 ≤ k) (h1 : k < (b : Int)) (hw : ws.length ≤ 1000000) (hl : lastW k ws = some s) :
    Calls Try.prog 21 #[.pointer (some ⟨R, 0, none⟩), .int .i64 k] w fun x w' => x = .returned (.tuple #[.string s, .int .i64 0]) ∧ Below w.heap.size w w' := by
  have H := Lib.hid h
  have c1 := h.c1
  have c3 := h.c3
  have d1 : decide (k < 0) = false := decide_eq_false (by omega)
  have d2 : decide ((b : Int) ≤ k) = false := decide_eq_false (by omega)
  have HL := Lib.hid hl
  have hl0 : 0 < ws.length := by
    rcases ws with _ | ⟨p, ws⟩
    · cases hl
    · simp
  obtain ⟨g, cap, rfl, hat⟩ := h.at hl0
  have HAT := Lib.hid hat
  clear hat h h0 h1 hl
  go_enter Try.func21, Try.ntmps21
  go_wp2
  go_loop [6] (fun i => (∃ j : Nat, j < ws.length ∧ i = .int .i64 (j : Int) ∧ lastW k ws = lastW k (ws.take (j + 1))) ∨ (i = .int .i64 (-1) ∧ lastW k ws = none)) (fun i => (intOf i + 1).toNat)
  case atStart => exact Or.inl ⟨ws.length - 1, by omega, by congr 1; omega, by rw [show ws.length - 1 + 1 = ws.length by omega, List.take_length]⟩
  case round =>
    rcases hrel with ⟨j, hj, rfl, hlj⟩ | ⟨rfl, hln⟩
    · obtain ⟨w0, w1⟩ := HAT.out j hj
      have HT := Lib.hid (hlj.trans (last_take k ws j hj))
      clear hlj
      by_cases hk : ws[j].1 = k
      · have HS : Hid (ws[j].2 = s) := Lib.hid (by have := HT.out; rw [if_pos hk] at this; have h2 := HL.out; rw [this] at h2; exact Option.some.inj h2)
        rw [hk] at w0
        clear hk
        go_wp2
        go_ret2
        exact ⟨by rw [← HS.out]; rfl, Below.refl _ _⟩
      · have hkb : (ws[j].1 == k) = false := by simpa using hk
        have HN : Hid (lastW k ws = lastW k (ws.take j)) := Lib.hid (by have := HT.out; rwa [if_neg hk] at this)
        clear hk
        rcases j with _ | j
        · go_wp2
          go_round
          case rel => exact Or.inr ⟨rfl, by rw [HN.out]; rfl⟩
          case measure => simp [intOf]
        · go_wp2
          go_round
          case rel => exact Or.inl ⟨j, by omega, by go_num, HN.out⟩
          case measure => simp [intOf]; omega
    · have := HL.out
      rw [hln] at this
      cases this
set_option maxRecDepth 100000 in
set_option maxHeartbeats 1000000 in
theorem rf_read_miss (base R a b k p k1 q : Nat) (buf : Value) (ws : List (Int × ByteArray)) (armed : Int) (st : List Nat) (w : World) (h : RfS w base R a b buf ws armed st) (hlt : ∀ x ∈ st, x < 256)
    (hk : k < b) (hk1 : k1 = k + 1) (hp : k * a = p) (hq : k1 * a = q) (hqa : q = p + a) (hpa : p + a ≤ st.length) (hs : st.length ≤ 3000000) (hb : b ≤ 3000000) (hws : ws.length ≤ 1000000) (hn : lastW (k : Int) ws = none) :
    Calls Try.prog 21 #[.pointer (some ⟨R, 0, none⟩), .int .i64 (k : Int)] w fun x w' => x = .returned (.tuple #[.string (txt ((st.drop p).take a)), .int .i64 0]) ∧ Below w.heap.size w w' := by
  have H := Lib.hid h
  have c0 := h.c0
  have c1 := h.c1
  have c2 := h.c2
  have c3 := h.c3
  have HN := Lib.hid (lastW_none _ _ hn)
  obtain ⟨A, cap, rfl⟩ := h.shape
  have hat : 0 < ws.length → ∃ g, A = some ⟨g, 0, none⟩ ∧ ∀ j (hj : j < ws.length), w.cell? ⟨g, j * 2, none⟩ = some (.int .i64 ws[j].1) ∧ w.cell? ⟨g, j * 2 + 1, none⟩ = some (.string ws[j].2) := fun h0 => by
    obtain ⟨g, cap', hb, hat⟩ := h.at h0
    injection hb with hA
    exact ⟨g, hA, hat⟩
  have HAT := Lib.hid hat
  have d1 : decide ((k : Int) < 0) = false := decide_eq_false (by omega)
  have d2 : decide ((b : Int) ≤ (k : Int)) = false := decide_eq_false (by omega)
  have d3 : decide (b ≤ k) = false := decide_eq_false (by omega)
  have hX : (txt st).extract p q = txt ((st.drop p).take a) := by
    apply nl_inj
    rw [nl_extract, nl_txt _ hlt, nl_txt _ (fun x hx => hlt x (List.mem_of_mem_drop (List.mem_of_mem_take hx)))]
    congr 1
    omega
  have l1 : (p : Int) ≤ (q : Int) := by omega
  have l2 : (q : Int) ≤ ((txt st).size : Int) := by rw [txt_size]; omega
  have l3 : p ≤ q := by omega
  have l4 : q ≤ (txt st).size := by rw [txt_size]; omega
  have m1 : IntKind.i64.wrap ((k : Int) * (a : Int)) = (p : Int) := by rw [← Int.natCast_mul, hp]; exact IntWalk.i64_in _ (by omega)
  have m2 : IntKind.i64.wrap ((k : Int) + 1) = (k1 : Int) := by rw [IntWalk.i64_in _ (by omega)]; omega
  have m3 : IntKind.i64.wrap ((k1 : Int) * (a : Int)) = (q : Int) := by rw [← Int.natCast_mul, hq]; exact IntWalk.i64_in _ (by omega)
  have n1 : wrap64 ((k : Int) * (a : Int)) = (p : Int) := by rw [← Int.natCast_mul, hp]; exact IntWalk.wrap64_in _ (by omega)
  have n2 : wrap64 ((k : Int) + 1) = (k1 : Int) := by rw [IntWalk.wrap64_in _ (by omega)]; omega
  have n3 : wrap64 ((k1 : Int) * (a : Int)) = (q : Int) := by rw [← Int.natCast_mul, hq]; exact IntWalk.wrap64_in _ (by omega)
  clear h hat hlt hk hk1 hp hq hqa hpa hs hb hn
  generalize txt st = T at *
  generalize txt ((st.drop p).take a) = X at *
  go_enter Try.func21, Try.ntmps21
  go_wp2
  go_loop [6] (fun i => ∃ j : Nat, j ≤ ws.length ∧ i = .int .i64 ((j : Int) - 1)) (fun i => (intOf i + 1).toNat)
  case atStart => exact ⟨ws.length, by omega, by go_num⟩
  case round =>
    obtain ⟨j, hj, rfl⟩ := hrel
    rcases j with _ | j
    · rw [show (((0 : Nat) : Int) - 1) = -1 from rfl]
      go_wp2
      go_quiet (fail)
      go_wp2
      go_ret2
      exact ⟨rfl, ⟨rfl, rfl, rfl, Nat.le_refl _, fun _ _ => rfl⟩⟩
    · obtain ⟨g, rfl, hat⟩ := HAT.out (by omega)
      obtain ⟨w0, w1⟩ := hat j (by omega)
      clear hat
      have hkb : (ws[j].1 == (k : Int)) = false := by simpa using HN.out j (by omega)
      rw [show (((j + 1 : Nat) : Int) - 1) = (j : Int) by omega]
      go_wp2
      go_round
      case rel => exact ⟨j, by omega, by go_num⟩
      case measure => simp [intOf]
theorem rf_read (base R a b k : Nat) (buf : Value) (ws : List (Int × ByteArray)) (armed : Int) (st : List Nat) (w : World) (h : RfS w base R a b buf ws armed st) (hlt : ∀ x ∈ st, x < 256)
    (hk : k < b) (hl : st.length = a * b) (hn : a * b ≤ 3000000) (hb : b ≤ 3000000) (hws : ws.length ≤ 1000000) :
    Calls Try.prog 21 #[.pointer (some ⟨R, 0, none⟩), .int .i64 (k : Int)] w fun x w' => x = .returned (.tuple #[.string (readB a ws st k), .int .i64 0]) ∧ Below w.heap.size w w' := by
  have hf := fit_mul (a := a) hk
  unfold readB
  cases hw : lastW (k : Int) ws with
  | some s => exact rf_read_hit base R a b buf ws armed k st s w h (by omega) (by omega) hws hw
  | none => exact rf_read_miss base R a b k (k * a) (k + 1) ((k + 1) * a) buf ws armed st w h hlt hk rfl rfl rfl (by rw [Nat.succ_mul]) (by omega) (by omega) hb hws hw
end Go.Proofs.Ytcnoakngnjbkiaa
