/- Contract of frame.body. No condition but that numbers fit. -/
import Derived.WalkSpells
import Derived.Test.YtfbjfleagilikaaHdPut
import Derived.Test.YtfbjfleagilikaaFrMay
namespace Go.Proofs.Ytfbjfleagilikaa
open Go.RowKit
set_option linter.unusedVariables false
set_option maxRecDepth 100000 in
set_option maxHeartbeats 1000000 in
theorem fr_body (a : Nat) (p : FrP) (w : World) (ha : 64 ≤ a) (h5 : a ≤ 512) (hg : p.g < M64) (hx : p.x < M64) (hi : p.i ≤ 255) (hn : p.n ≤ 255) (hd : p.d.size ≤ a - 25) :
    Calls Try.prog 19 #[.int .i64 (a : Int), p.val] w fun e w' => e = .returned (.string (txt (frBody a p))) ∧ Below w.heap.size w w' := by
  have HLT := Lib.hid (frBody_lt a p (by omega) (by omega) (by omega))
  have HFB : Hid (((((((([] ++ [82]) ++ num8 p.g) ++ num8 p.x) ++ [p.i]) ++ [p.n]) ++ hi2 p.d.size ++ nl p.d) ++ List.replicate (a - 25 - p.d.size) 0) = frBody a p) := Lib.hid rfl
  generalize frBody a p = FB at *
  obtain ⟨g, x, i, n, d⟩ := p
  unfold FrP.val
  simp only at hi hn hd hg hx HFB ⊢
  have hr1 : (d.size : Int) ≤ (a : Int) - 25 := by omega
  have hr2 : (a : Int) ≤ 512 := by omega
  have hr3 : 64 ≤ (a : Int) := by omega
  have hsub : ((a : Int) - 25 - (d.size : Int)) = ((a - 25 - d.size : Nat) : Int) := by omega
  have H := Lib.hid (And.intro hg (And.intro hx (And.intro hi (And.intro hn (And.intro hd (And.intro ha h5))))))
  clear hg hx hi hn hd ha h5
  have P0 := Lib.hid (PH.start w #[.int .u64 (g : Int), .int .u64 (x : Int), .int .i64 (i : Int), .int .i64 (n : Int), .string d] 40)
  go_enter Try.func19, Try.ntmps19
  go_wp2_with fail
  refine (wr_raw _ _ 0 _ [] ⟨#[82]⟩ _ P0.out.it (by decide)).mono ?_
  intro x1 w2 hp
  obtain ⟨v2, P2⟩ := P0.out.step hp.any
  rw [show [] ++ nl ⟨#[82]⟩ = [] ++ [82] from rfl] at P2
  have P2 := Lib.hid P2
  obtain ⟨rfl, -⟩ := hp
  clear P0
  have b0 := Kq.blk_cell P2.out.box 0
  go_wp2_with fail
  refine (wr_number _ _ 0 _ _ g _ P2.out.it H.out.1 (by decide)).mono ?_
  intro x1 w3 hp
  obtain ⟨v3, P3⟩ := P2.out.step hp
  have P3 := Lib.hid P3
  obtain ⟨rfl, -⟩ := hp
  clear P2 b0
  have b1 := Kq.blk_cell P3.out.box 1
  go_wp2_with fail
  refine (wr_number _ _ 0 _ _ x _ P3.out.it H.out.2.1 (by simp [num8_length])).mono ?_
  intro x1 w4 hp
  obtain ⟨v4, P4⟩ := P3.out.step hp
  have P4 := Lib.hid P4
  obtain ⟨rfl, -⟩ := hp
  clear P3 b1
  have b2 := Kq.blk_cell P4.out.box 2
  go_wp2_with fail
  refine (wr_byte_ok _ _ 0 _ _ i _ P4.out.it H.out.2.2.1 (by simp [num8_length])).mono ?_
  intro x1 w5 hp
  obtain ⟨v5, P5⟩ := P4.out.step hp.any
  have P5 := Lib.hid P5
  obtain ⟨rfl, -⟩ := hp
  clear P4 b2
  have b3 := Kq.blk_cell P5.out.box 3
  go_wp2_with fail
  refine (wr_byte_ok _ _ 0 _ _ n _ P5.out.it H.out.2.2.2.1 (by simp [num8_length])).mono ?_
  intro x1 w6 hp
  obtain ⟨v6, P6⟩ := P5.out.step hp.any
  have P6 := Lib.hid P6
  obtain ⟨rfl, -⟩ := hp
  clear P5 b3
  have b4 := Kq.blk_cell P6.out.box 4
  go_wp2_with fail
  refine (wr_text_ok _ _ 0 _ _ d _ P6.out.it (by have := H.out.2.2.2.2; omega) (by simp [num8_length])).mono ?_
  intro x1 w7 hp
  obtain ⟨v7, P7⟩ := P6.out.step hp
  have P7 := Lib.hid P7
  obtain ⟨rfl, -⟩ := hp
  clear P6 b4
  have b4 := Kq.blk_cell P7.out.box 4
  go_wp2_with fail
  refine (repeat_ok (a - 25 - d.size) _ (by have := H.out.2.2.2.2; omega)).mono ?_
  rintro x1 w8 ⟨rfl, b8⟩
  have P8 := Lib.hid (P7.out.below b8)
  have HZ : Hid (nl (txt (List.replicate (a - 25 - d.size) 0)) = List.replicate (a - 25 - d.size) 0 ∧ (txt (List.replicate (a - 25 - d.size) 0)).size ≤ 1000) := Lib.hid ⟨nl_txt _ (by intro b hb; rw [List.eq_of_mem_replicate hb]; decide), by rw [txt_size, List.length_replicate]; have := H.out.2.2.2.2; omega⟩
  clear b8 P7 b4
  go_wp2_with fail
  refine (wr_raw _ _ 0 _ _ _ _ P8.out.it (by have := HZ.out.2; have h2 := H.out.2.2.2.2; have h3 : (hi2 d.size).length = 2 := rfl; simp [num8_length, nl_length, h3]; omega)).mono ?_
  intro x1 w9 hp
  obtain ⟨v9, P9⟩ := P8.out.step hp.any
  have P9 := Lib.hid P9
  obtain ⟨rfl, -⟩ := hp
  rw [HZ.out.1, HFB.out] at P9
  clear P8 HZ
  go_wp2_with fail
  refine (wr_bytes_ok _ _ v9 _ _ P9.out.it HLT.out).mono ?_
  rintro x1 w10 ⟨rfl, rfl⟩
  go_wp2
  go_ret
  exact ⟨rfl, P9.out.bel⟩
end Go.Proofs.Ytfbjfleagilikaa
