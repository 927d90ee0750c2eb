/- Contract of sha.Hex. Condition: sizes. -/
import Derived.WalkSpells
import Derived.Outline
import Derived.Test.YtkidmdifmkgofaaDoorChecked
import Derived.Test.YtkidmdifmkgofaaDoorTxt
import Derived.Test.YtkidmdifmkgofaaDoorShHex
namespace Go.Proofs.YtkidmdifmkgofaaDoor
open Go.RowKit
set_option linter.unusedVariables false
def bcells (l : List Nat) : List Value := l.map fun (b : Nat) => Value.int .u8 (b : Int)
theorem nl_at (s : ByteArray) (k : Nat) (h : k < s.size) : (nl s).take (k + 1) = (nl s).take k ++ [s[k].toNat] := by
  have hl : k < (nl s).length := by simpa [nl] using h
  rw [List.take_succ_eq_append_getElem hl]
  congr 2
  simp [nl]
  rfl
theorem hexd_lt (q : Nat) (h : q < 16) : hexd q < 256 := by unfold hexd; split <;> omega
theorem hexl_lt (l : List Nat) (h : ∀ b ∈ l, b < 256) : ∀ x ∈ hexl l, x < 256 := by
  induction l with
  | nil => intro x hx; cases hx
  | cons b r ih =>
    intro x hx
    have hb := h b (by simp)
    simp only [hexl, List.mem_cons] at hx
    rcases hx with rfl | rfl | hx
    · exact hexd_lt _ (by omega)
    · exact hexd_lt _ (by omega)
    · exact ih (fun c hc => h c (by simp [hc])) x hx
/-- a row of one's own as a text -/
theorem conv_own {w : World} {base n : Nat} {v : Value} {l : List Nat} (h : w.ownsRow base 5 1 v n (bcells l)) (hn : n = l.length) (hl : ∀ b ∈ l, b < 256) :
    (convert 43 9 v).run Tryd.prog w = .ok (.string (txt l)) w := by
  subst hn
  rcases h.2 with ⟨rfl, h0⟩ | ⟨g, cap, cur, rfl, _, hb, _, _, _, ht⟩
  · have : l = [] := List.eq_nil_of_length_eq_zero h0
    subst this
    exact Kq.conv_bytes_none w 0 Tryd.underlying43 Tryd.underlying5 Tryd.underlying9
  · have hr : Kq.Row w g l := by
      refine ⟨fun j hj => ?_, fun j hj => Kq.blk_free hb j⟩
      have e : (bcells l)[j]? = some (.int .u8 ((l[j] : Nat) : Int)) := by simp [bcells, List.getElem?_eq_getElem hj]
      rw [Kq.blk_cell hb j, ← Array.getElem?_toList, ← e, ← ht, List.getElem?_take, if_pos (by omega)]
    exact hr.text hl cap Tryd.underlying43 Tryd.underlying5 Tryd.underlying9
set_option maxRecDepth 100000 in
set_option maxHeartbeats 1000000 in
theorem sh_hex (s : ByteArray) (w : World) (hs : s.size ≤ 100000) :
    Calls Tryd.prog 13 #[.string s] w fun e w' => e = .returned (.string (txt (hexl (nl s)))) ∧ Below w.heap.size w w' := by
  obtain ⟨i0, hi, hz0, hz1, hz2⟩ := info_partsH infoU8H
  obtain ⟨n, hn⟩ : ∃ n, n = 2 * s.size := ⟨_, rfl⟩
  have m1 : wrap64 (2 * (s.size : Int)) = (n : Int) := by rw [IntWalk.wrap64_in _ (by omega)]; omega
  have m2 : IntKind.i64.wrap (2 * (s.size : Int)) = (n : Int) := by rw [IntWalk.i64_in _ (by omega)]; omega
  have hmk := fun w => mk_cap w (n : Int) n rfl (by omega)
  have HROW := Lib.hid (made_row w n (by omega))
  have hnl : (nl s).length = s.size := by simp [nl]
  have HNL := Lib.hid hnl
  clear hn hnl
  go_enter Tryd.func13, Tryd.ntmps13
  go_wp2
  obtain ⟨w1, hw1⟩ : ∃ z, z = w.alloc (.cells (madeCells (Value.int IntKind.u8 0).cells n) 5) := ⟨_, rfl⟩
  have hw1' : w.alloc (.cells (madeCells #[Value.int IntKind.u8 0] n) 5) = w1 := hw1.symm
  rw [hw1']
  rw [← hw1] at HROW
  have HB1 : Hid (Below w.heap.size w w1) := Lib.hid (by rw [hw1]; exact Kq.below_alloc _ _)
  clear hmk m1 m2 hw1 hw1'
  go_loopw [3, 11] (fun o i wr => ∃ k : Nat, ∃ v : Value, k ≤ s.size ∧ i = .int .i64 (k : Int) ∧ o = v ∧ wr.ownsRow w.heap.size 5 1 v (2 * k) (bcells (hexl ((nl s).take k))) ∧ Below w.heap.size w wr) (fun o i _ => s.size - (intOf i).toNat)
  case atStart => exact ⟨0, _, Nat.zero_le _, rfl, rfl, HROW.out, HB1.out⟩
  case round =>
    obtain ⟨k, v, hk, rfl, hov, hrow, hbel⟩ := hrel
    have hov := hov.symm
    subst hov
    have HR := Lib.hid (And.intro hrow hbel)
    clear hrow hbel
    by_cases hlt : k < s.size
    · have l1 : (k : Int) < (s.size : Int) := by omega
      have HT := Lib.hid (nl_at s k hlt)
      go_wp2
      refine wp_region_any (by kernel_rfl) ?_
      (try (change wpAny _ _ _ _ _ _ _ (World.drew _)))
      have hx : s[k].toNat < 256 := s[k].toNat_lt
      have l2 : (0 : Int) ≤ (s[k].toNat : Int) / 16 := by omega
      have l3 : (s[k].toNat : Int) / 16 < 16 := by omega
      have l6 : (0 : Int) ≤ (s[k].toNat : Int) % 16 := by omega
      have l7 : (s[k].toNat : Int) % 16 < 16 := by omega
      have hand := and15 s[k].toNat hx
      refine wpAny_take (i := 0) (v := ?_) rfl (by kernel_rfl) (by kernel_rfl) (by kernel_rfl) (fun _ _ _ h => h) (Or.inl ⟨by kernel_rfl, ?_⟩) ?_
      rotate_left
      · intro w; go_simp; with_reducible rfl
      refine wpAny_take (i := 1) (v := ?_) rfl (by kernel_rfl) (by kernel_rfl) (by kernel_rfl) (fun _ _ _ h => h) (Or.inl ⟨by kernel_rfl, ?_⟩) ?_
      rotate_left
      · intro w; go_simp; with_reducible rfl
      refine wpAny_take (i := 2) (v := ?_) rfl (by kernel_rfl) (by kernel_rfl) (by kernel_rfl) (fun _ _ _ h => h) (Or.inl ⟨by kernel_rfl, ?_⟩) ?_
      rotate_left
      · intro w; go_simp; with_reducible rfl
      refine wpAny_take (i := 3) (v := ?_) rfl (by kernel_rfl) (by kernel_rfl) (by kernel_rfl) (fun _ _ _ h => h) (Or.inl ⟨by kernel_rfl, ?_⟩) ?_
      rotate_left
      · intro w; go_simp; with_reducible rfl
      refine wpAny_take (i := 4) (v := ?_) rfl (by kernel_rfl) (by kernel_rfl) (by kernel_rfl) (fun _ _ _ h => h) (Or.inl ⟨by kernel_rfl, ?_⟩) ?_
      rotate_left
      · intro w; go_simp; with_reducible rfl
      refine wpAny_take (i := 5) (v := ?_) rfl (by kernel_rfl) (by kernel_rfl) (by kernel_rfl) (fun _ _ _ h => h) (Or.inl ⟨by kernel_rfl, ?_⟩) ?_
      rotate_left
      · intro w; go_simp; with_reducible rfl
      refine wpAny_take (i := 6) (v := ?_) rfl (by kernel_rfl) (by kernel_rfl) (by kernel_rfl) (fun _ _ _ h => h) (Or.inl ⟨by kernel_rfl, ?_⟩) ?_
      rotate_left
      · intro w; go_simp; with_reducible rfl
      refine wpAny_take (i := 7) (v := ?_) rfl (by kernel_rfl) (by kernel_rfl) (by kernel_rfl) (fun _ _ _ h => h) (Or.inl ⟨by kernel_rfl, ?_⟩) ?_
      rotate_left
      · intro w; go_simp; with_reducible rfl
      refine wpAny_take (i := 8) (v := ?_) rfl (by kernel_rfl) (by kernel_rfl) (by kernel_rfl) (fun _ _ _ h => h) (Or.inl ⟨by kernel_rfl, ?_⟩) ?_
      rotate_left
      · intro w; go_simp; with_reducible rfl
      refine wpAny_take (i := 9) (v := ?_) rfl (by kernel_rfl) (by kernel_rfl) (by kernel_rfl) (fun _ _ _ h => h) (Or.inl ⟨by kernel_rfl, ?_⟩) ?_
      rotate_left
      · intro w; go_simp; with_reducible rfl
      refine wpAny_take (i := 10) (v := ?_) rfl (by kernel_rfl) (by kernel_rfl) (by kernel_rfl) (fun _ _ _ h => h) (Or.inl ⟨by kernel_rfl, ?_⟩) ?_
      rotate_left
      · intro w; go_simp; with_reducible rfl
      rw [dig ((s[k].toNat : Int) / 16) (s[k].toNat / 16) (by omega) (by omega), dig ((s[k].toNat : Int) % 16) (s[k].toNat % 16) (by omega) (by omega)]
      generalize s[k].toNat = x at *
      clear l2 l3 l6 l7 hand
      refine wpAny_ready (rs := [11]) (by kernel_rfl) (by simp) ?_
      refine AllReady.cons rfl (fun K hK => ?_) AllReady.nil
      go_simp
      refine hK _ _ ?_
      clear hK K
      obtain ⟨wq, hwq⟩ : ∃ z, z = (wr.alloc (Obj.cells #[Value.int IntKind.u8 (hexd (x / 16) : Int), Value.int IntKind.u8 (hexd (x % 16) : Int)] 5)).drew := ⟨_, rfl⟩
      rw [← hwq]
      have hsrc : Src Tryd.prog 1 43 (.slice (some ⟨wr.heap.size, 0, none⟩) 2 2) 2 (bcells [hexd (x / 16), hexd (x % 16)]) wq := by
        rw [hwq]
        exact Src.ofSlice _ Tryd.underlying43 ⟨wr.heap.size, 0, none⟩ 2 2 _ rfl (fun j u hj => Kq.cell_new _ _ _ (by
          rw [← List.getElem?_toArray] at hj
          exact hj)) (fun u hu => by
          simp only [bcells, List.map_cons, List.map_nil, List.mem_cons, List.not_mem_nil, or_false] at hu
          rcases hu with rfl | rfl <;> rfl)
      have hrow : wq.ownsRow w.heap.size 5 1 v (2 * k) (bcells (hexl ((nl s).take k))) := by rw [hwq]; exact HR.out.1.alloc _
      have hbq : Below w.heap.size w wq := by rw [hwq]; exact (HR.out.2.trans ((Kq.below_alloc _ _).mono HR.out.2.size)).drew
      refine wpAny_ready (rs := [12]) (by kernel_rfl) (by simp) ?_
      refine AllReady.cons rfl (fun K hK => ?_) AllReady.nil
      rw [if_pos (by rfl)]
      refine Kq.wp_append_any _ (.tmp 14) (.tmp 25) 43 43 rfl w.heap.size 5 i0 (.int .u8 0) 1 1 Tryd.underlying43 hi hz0 hz1 hz2 rfl (by decide) _ (2 * k) _ rfl hrow (.slice (some ⟨wr.heap.size, 0, none⟩) 2 2) 2 _ rfl hsrc ?e1 ?e2 hbq.size ?_
      case e1 => unfold maxLen; omega
      case e2 => omega
      intro v' w' hown hgrow hfresh
      refine hK _ _ ?_
      clear hK K
      have HO : Hid (w'.ownsRow w.heap.size 5 1 v' (2 * (k + 1)) (bcells (hexl ((nl s).take (k + 1)))) ∧ Below w.heap.size w w') := by
        rw [HT.out, hexl_append]
        have e : bcells (hexl ((nl s).take k) ++ hexl [x]) = bcells (hexl ((nl s).take k)) ++ bcells [hexd (x / 16), hexd (x % 16)] := by simp [bcells, hexl]
        rw [e, show 2 * (k + 1) = 2 * k + 2 by omega]
        have k1 : Kq.Keeps (fun j => w.heap.size ≤ j) w wq := Kq.Keeps.of_below hbq (fun j h1 h2 => h1)
        have k2 : Kq.Keeps (fun j => w.heap.size ≤ j) wq w' := Kq.Keeps.grown hgrow (fun j _ hj => (hrow.lt j hj).1)
        exact Lib.hid ⟨hown, (k1.trans k2).below (Nat.le_refl _) (fun j _ hj => hj)⟩
      clear hown hgrow hfresh hrow hbq hsrc hwq hx
      refine wpAny_take (i := 13) (v := ?_) rfl (by kernel_rfl) (by kernel_rfl) (by kernel_rfl) (fun _ _ _ h => h) (Or.inl ⟨by kernel_rfl, ?_⟩) ?_
      rotate_left
      · intro w; go_simp; with_reducible rfl
      refine wpAny_done (by kernel_rfl) ?_ _
      go_wp2
      go_roundw
      case rel => exact ⟨k + 1, _, by omega, by go_num, rfl, HO.out.1, HO.out.2⟩
      case measure => simp [intOf]; omega
    · obtain rfl : k = s.size := by omega
      have hcv := conv_own HR.out.1 (by rw [hexl_length, List.length_take, HNL.out]; omega) (hexl_lt _ (fun b hb => nl_lt s b (List.mem_of_mem_take hb)))
      rw [List.take_of_length_le (by rw [HNL.out]; exact Nat.le_refl _)] at hcv
      go_wp2
      go_ret
      exact ⟨rfl, HR.out.2⟩
end Go.Proofs.YtkidmdifmkgofaaDoor
