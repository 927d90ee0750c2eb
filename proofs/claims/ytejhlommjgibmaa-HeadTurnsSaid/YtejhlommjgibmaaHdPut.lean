/- Contracts of head.Put, carrackref06.Put. No condition but that numbers fit. -/
import Derived.WalkSpells
import Derived.Deep.QuietTactic
import Derived.BigQuiet
import Derived.Laws.MakeOwn
import Derived.Test.YtejhlommjgibmaaHdM
import Derived.Test.YtejhlommjgibmaaWrNew
import Derived.Test.YtejhlommjgibmaaShelfH
namespace Go.Proofs.Ytejhlommjgibmaa
open Go.RowKit
set_option linter.unusedVariables false
set_option maxRecDepth 100000 in
theorem hd_fits (a : Int) (w : World) : Calls Try.prog 15 #[.int .i64 a] w fun x w' => x = .returned (.bool (decide (64 ≤ a ∧ a ≤ 512))) ∧ w = w' := by
  by_cases h0 : 64 ≤ a
  · by_cases h1 : a ≤ 512
    · have d0 : decide (64 ≤ a) = true := decide_eq_true h0
      have d1 : decide (a ≤ 512) = true := decide_eq_true h1
      have HD : Hid (decide (64 ≤ a ∧ a ≤ 512) = true) := Lib.hid (decide_eq_true ⟨h0, h1⟩)
      rw [HD.out]
      clear h0 h1
      go_enter Try.func15, Try.ntmps15
      go_wp2
      go_ret
      exact ⟨rfl, rfl⟩
    · have d0 : decide (64 ≤ a) = true := decide_eq_true h0
      have d1 : decide (a ≤ 512) = false := decide_eq_false h1
      have HD : Hid (decide (64 ≤ a ∧ a ≤ 512) = false) := Lib.hid (decide_eq_false (fun h => h1 h.2))
      rw [HD.out]
      clear h0 h1
      go_enter Try.func15, Try.ntmps15
      go_wp2
      go_ret
      exact ⟨rfl, rfl⟩
  · have d0 : decide (64 ≤ a) = false := decide_eq_false h0
    have HD : Hid (decide (64 ≤ a ∧ a ≤ 512) = false) := Lib.hid (decide_eq_false (fun h => h0 h.1))
    rw [HD.out]
    clear h0
    go_enter Try.func15, Try.ntmps15
    go_wp2
    go_ret
    exact ⟨rfl, rfl⟩
set_option maxRecDepth 100000 in
theorem rf_fits (a : Int) (w : World) : Calls Try.prog 22 #[.int .i64 a] w fun x w' => x = .returned (.bool (decide (64 ≤ a ∧ a ≤ 512))) ∧ w = w' := by
  by_cases h0 : 64 ≤ a
  · by_cases h1 : a ≤ 512
    · have d0 : decide (64 ≤ a) = true := decide_eq_true h0
      have d1 : decide (a ≤ 512) = true := decide_eq_true h1
      have HD : Hid (decide (64 ≤ a ∧ a ≤ 512) = true) := Lib.hid (decide_eq_true ⟨h0, h1⟩)
      rw [HD.out]
      clear h0 h1
      go_enter Try.func22, Try.ntmps22
      go_wp2
      go_ret
      exact ⟨rfl, rfl⟩
    · have d0 : decide (64 ≤ a) = true := decide_eq_true h0
      have d1 : decide (a ≤ 512) = false := decide_eq_false h1
      have HD : Hid (decide (64 ≤ a ∧ a ≤ 512) = false) := Lib.hid (decide_eq_false (fun h => h1 h.2))
      rw [HD.out]
      clear h0 h1
      go_enter Try.func22, Try.ntmps22
      go_wp2
      go_ret
      exact ⟨rfl, rfl⟩
  · have d0 : decide (64 ≤ a) = false := decide_eq_false h0
    have HD : Hid (decide (64 ≤ a ∧ a ≤ 512) = false) := Lib.hid (decide_eq_false (fun h => h0 h.1))
    rw [HD.out]
    clear h0
    go_enter Try.func22, Try.ntmps22
    go_wp2
    go_ret
    exact ⟨rfl, rfl⟩
theorem repeat_ok (c : Nat) (w : World) (hc : c ≤ 1000) : Calls Try.prog 19 #[.string ⟨#[0]⟩, .int .i64 (c : Int)] w fun x w' => x = .returned (.string (txt (List.replicate c 0))) ∧ Below w.heap.size w w' := by
  refine (Try.strings_Repeat ⟨#[0]⟩ c w (by omega) (by show 1 * c ≤ _; omega)).mono ?_
  rintro x w' ⟨rfl, hb⟩
  exact ⟨by rw [repeat_zero], hb⟩
theorem own_ge {w : World} {base size : Nat} {e : TypeId} {v : Value} {n : Nat} {xs : List Value} (h : w.ownsRow base e size v n xs) {k : Nat} (hk : v.ownBlock = some k) : base ≤ k := by
  rcases h.2 with ⟨rfl, _⟩ | ⟨g, cap, cur, rfl, h3, _⟩
  · cases hk
  · have : g = k := by simpa [Value.ownBlock] using hk
    omega
/-- a writer of the call's own, and a box that stays -/
structure PH (w wr : World) (B X : Nat) (o : Obj) (v : Value) (l : List Nat) : Prop where
  it : Wr wr B B 0 v l
  bel : Below w.heap.size w wr
  hB : w.heap.size ≤ B
  box : wr.heap[X]? = some o
  hX : X < B
theorem PH.below {w wr w' : World} {B X : Nat} {o : Obj} {v : Value} {l : List Nat} (h : PH w wr B X o v l) (hb : Below wr.heap.size wr w') : PH w w' B X o v l :=
  ⟨h.it.belowW hb, h.bel.trans (hb.mono h.bel.size), h.hB, Kq.below_blk hb h.box (Kq.blk_lt h.box), h.hX⟩
theorem PH.step {w wr w' : World} {B X : Nat} {o : Obj} {v : Value} {l l' : List Nat} {x : Ending} (h : PH w wr B X o v l) (hp : WrAny wr B B v 0 l' x w') : ∃ v', PH w w' B X o v' l' := by
  obtain ⟨_, v', h1, h2, h3⟩ := hp
  have hge : ∀ k, (k = B ∨ some k = v.ownBlock) → B ≤ k := fun k hk => by
    rcases hk with rfl | hk
    · exact Nat.le_refl _
    · exact own_ge h.it.own hk.symm
  refine ⟨v', h1, h.bel.trans (h2.below h.bel.size (fun k _ hk => Nat.le_trans h.hB (hge k hk))), h.hB, h2.blk h.box (fun hk => ?_), h.hX⟩
  have := hge X hk
  have := h.hX
  omega
theorem PH.start (w : World) (cs : Array Value) (t : TypeId) : PH w ((w.alloc (.cells cs t)).alloc (.cells #[.int .i64 0, .slice none 0 0] 53)) (w.heap.size + 1) w.heap.size (.cells cs t (0, 0)) (.slice none 0 0) [] := by
  have h := wr_new (w.alloc (.cells cs t))
  rw [World.size_alloc] at h
  refine ⟨h, (Kq.below_alloc w _).trans ((Kq.below_alloc _ _).mono (Kq.below_alloc w _).size), Nat.le_succ _, ?_, Nat.lt_succ_self _⟩
  rw [Below.heap_alloc _ _ _ (by simp)]
  exact Kq.blk_new _ _ _ _
set_option maxRecDepth 100000 in
set_option maxHeartbeats 1000000 in
theorem hd_put_ok (a g sg : Nat) (w : World) (h : HdOk a g sg) (hg : g < M64) :
    Calls Try.prog 7 #[.int .i64 (a : Int), .agg #[.int .u64 (g : Int), .int .i64 (sg : Int)]] w fun x w' => x = .returned (.tuple #[.string (hdPut a g sg), .int .i64 0]) ∧ Below w.heap.size w w' := by
  have HD : Hid (decide (64 ≤ (a : Int) ∧ (a : Int) ≤ 512) = true) := Lib.hid (decide_eq_true ⟨h.a0, h.a1⟩)
  have g0 : ((g : Int) == 0) = false := by have := h.g0; simp; omega
  have g1 : (g == 0) = false := by have := h.g0; simp; omega
  have s0 : decide ((sg : Int) < 0) = false := decide_eq_false (by omega)
  have s1 : decide ((1 : Int) < (sg : Int)) = false := decide_eq_false (by have := h.s1; omega)
  have s2 : decide (1 < sg) = false := decide_eq_false (by have := h.s1; omega)
  have a14 : (14 : Int) ≤ (a : Int) := by have := h.a0; omega
  have a512 : (a : Int) ≤ 512 := h.a1
  have hsub : ((a : Int) - 14) = ((a - 14 : Nat) : Int) := by omega
  have H := Lib.hid (And.intro h hg)
  clear h hg
  go_enter Try.func7, Try.ntmps7
  go_wp2_with fail
  refine (hd_fits a _).mono ?_
  rw [HD.out]
  rintro x w1 ⟨rfl, rfl⟩
  have P0 := Lib.hid (PH.start w #[.int .u64 (g : Int), .int .i64 (sg : Int)] 29)
  go_wp2_with fail
  clear g0 g1 s0 s1 s2
  refine (wr_raw _ _ 0 _ [] ⟨#[72]⟩ _ P0.out.it (by decide)).mono ?_
  intro x w2 hp
  obtain ⟨v2, P2⟩ := P0.out.step hp.any
  rw [show [] ++ nl ⟨#[72]⟩ = [72] from rfl] at P2
  have P2 := Lib.hid P2
  obtain ⟨rfl, -⟩ := hp
  clear P0
  have b0 := Kq.blk_cell P2.out.box 0
  go_wp2_with fail
  refine (wr_number _ _ 0 _ _ g _ P2.out.it H.out.2 (by decide)).mono ?_
  intro x w3 hp
  obtain ⟨v3, P3⟩ := P2.out.step hp
  have P3 := Lib.hid P3
  obtain ⟨rfl, -⟩ := hp
  clear P2 b0
  have b1 := Kq.blk_cell P3.out.box 1
  go_wp2_with fail
  refine (wr_byte_ok _ _ 0 _ _ sg _ P3.out.it (by have := H.out.1.s1; omega) (by simp [num8_length])).mono ?_
  intro x w4 hp
  obtain ⟨v4, P4⟩ := P3.out.step hp.any
  have P4 := Lib.hid P4
  obtain ⟨rfl, -⟩ := hp
  clear P3 b1
  go_wp2_with fail
  refine (repeat_ok (a - 14) _ (by omega)).mono ?_
  rintro x w5 ⟨rfl, b5⟩
  have P5 := Lib.hid (P4.out.below b5)
  have HZ : Hid (nl (txt (List.replicate (a - 14) 0)) = List.replicate (a - 14) 0 ∧ (txt (List.replicate (a - 14) 0)).size ≤ 1000) := Lib.hid ⟨nl_txt _ (by intro b hb; rw [List.eq_of_mem_replicate hb]; decide), by rw [txt_size, List.length_replicate]; omega⟩
  clear b5 P4 hsub
  go_wp2_with fail
  refine (wr_raw _ _ 0 _ _ _ _ P5.out.it (by have := HZ.out.2; simp [num8_length]; omega)).mono ?_
  intro x w6 hp
  obtain ⟨v6, P6⟩ := P5.out.step hp.any
  have P6 := Lib.hid P6
  obtain ⟨rfl, -⟩ := hp
  rw [HZ.out.1] at P6
  have HBY : Hid ((([72] ++ num8 g) ++ [sg]) ++ List.replicate (a - 14) 0 = hdBody a g sg) := Lib.hid rfl
  rw [HBY.out] at P6
  have HLT := Lib.hid (hdBody_lt a g sg (by have := H.out.1.s1; omega))
  have HLN := Lib.hid (hdBody_length a g sg (by omega))
  have HPU : Hid (sealT (txt (hdBody a g sg)) = hdPut a g sg) := Lib.hid rfl
  clear P5 HZ HBY
  go_wp2_with fail
  refine (wr_bytes_ok _ _ v6 _ _ P6.out.it HLT.out).mono ?_
  rintro x w7 ⟨rfl, rfl⟩
  go_wp2_with fail
  refine (crc_seal (txt (hdBody a g sg)) _ (by rw [txt_size, HLN.out]; unfold maxLen; omega)).mono ?_
  rintro x w8 ⟨rfl, b8⟩
  have P8 := Lib.hid (P6.out.below b8)
  rw [HPU.out]
  clear b8
  go_wp2
  go_ret2
  exact ⟨rfl, P8.out.bel⟩
set_option maxRecDepth 100000 in
set_option maxHeartbeats 1000000 in
theorem hd_put_bad (a : Int) (g : Nat) (sg : Int) (w : World) (h : ¬ HdOk a g sg) :
    Calls Try.prog 7 #[.int .i64 a, .agg #[.int .u64 (g : Int), .int .i64 sg]] w fun x w' => x = .returned (.tuple #[.string ⟨#[]⟩, .int .i64 1]) ∧ Below w.heap.size w w' := by
  have H := Lib.hid h
  clear h
  by_cases h0 : 64 ≤ a ∧ a ≤ 512
  · have HD : Hid (decide (64 ≤ a ∧ a ≤ 512) = true) := Lib.hid (decide_eq_true h0)
    by_cases h1 : g = 0
    · subst h1
      clear h0
      go_enter Try.func7, Try.ntmps7
      go_wp2_with fail
      refine (hd_fits a _).mono ?_
      rw [HD.out]
      rintro x w1 ⟨rfl, rfl⟩
      go_wp2
      go_ret2
      exact ⟨rfl, Kq.below_alloc _ _⟩
    · have g0 : ((g : Int) == 0) = false := by simp; omega
      have g1 : (g == 0) = false := by simp; omega
      by_cases h2 : sg < 0
      · have s0 : decide (sg < 0) = true := decide_eq_true h2
        clear h0 h1 h2
        go_enter Try.func7, Try.ntmps7
        go_wp2_with fail
        refine (hd_fits a _).mono ?_
        rw [HD.out]
        rintro x w1 ⟨rfl, rfl⟩
        go_wp2
        go_ret2
        exact ⟨rfl, Kq.below_alloc _ _⟩
      · have s0 : decide (sg < 0) = false := decide_eq_false h2
        have s1 : decide (1 < sg) = true := decide_eq_true (by
          refine Int.lt_of_not_ge (fun h3 => H.out ⟨h0.1, h0.2, by omega, by omega, by omega⟩))
        clear h0 h1 h2
        go_enter Try.func7, Try.ntmps7
        go_wp2_with fail
        refine (hd_fits a _).mono ?_
        rw [HD.out]
        rintro x w1 ⟨rfl, rfl⟩
        go_wp2
        go_ret2
        exact ⟨rfl, Kq.below_alloc _ _⟩
  · have HD : Hid (decide (64 ≤ a ∧ a ≤ 512) = false) := Lib.hid (decide_eq_false h0)
    clear h0
    go_enter Try.func7, Try.ntmps7
    go_wp2_with fail
    refine (hd_fits a _).mono ?_
    rw [HD.out]
    rintro x w1 ⟨rfl, rfl⟩
    go_wp2
    go_ret2
    exact ⟨rfl, Kq.below_alloc _ _⟩
end Go.Proofs.Ytejhlommjgibmaa
