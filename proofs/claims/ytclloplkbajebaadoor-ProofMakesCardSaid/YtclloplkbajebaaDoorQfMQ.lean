/- Contracts of carrackref09.place, leaf, Present. Condition: sizes. -/
import Derived.WalkSpells
import Derived.Outline
import Derived.Test.YtclloplkbajebaaDoorQfPwQ
import Derived.Test.YtclloplkbajebaaDoorPfQ2Q
import Derived.Test.YtclloplkbajebaaDoorRkPQ
namespace Go.Proofs.YtclloplkbajebaaDoor
open Go.RowKit
set_option linter.unusedVariables false
set_option maxRecDepth 100000 in
set_option maxHeartbeats 1000000 in
theorem rq_place (l : List PairV) (A : Option Addr) (cap : Nat) (key : ByteArray) (w : World) (hn : l.length ≤ 1000) (hA : PsAt w A l) :
    Calls Tryd.prog 49 #[.slice A l.length cap, .string key] w fun e w' => e = .returned (.int .i64 (plc l key : Nat)) ∧ w' = w := by
  have HA := Lib.hid hA
  have HN := Lib.hid hn
  clear hA
  go_enter Tryd.func49, Tryd.ntmps49
  go_wp2
  go_loopw [5, 6] (fun u i wr => ∃ j m : Nat, j ≤ l.length ∧ m ≤ j ∧ u = .int .i64 (m : Int) ∧ i = .int .i64 (j : Int) ∧ m = plc (l.take j) key ∧ wr = w) (fun _ i _ => l.length - (intOf i).toNat)
  case atStart => exact ⟨0, 0, by omega, by omega, rfl, rfl, rfl, rfl⟩
  case round =>
    obtain ⟨j, m, hj, hmj, rfl, rfl, hm, rfl⟩ := hrel
    have hn2 := HN.out
    by_cases hlt : j < l.length
    · have hsn := plc_snoc l key j hlt
      rw [← hm] at hsn
      obtain ⟨b, off, rfl, hb, c0, c1⟩ := HA.out j hlt
      obtain ⟨k, hk⟩ : ∃ k, k = l[j].1 := ⟨_, rfl⟩
      rw [← hk] at hsn c0
      have HLT := Lib.hid hlt
      have HSN := Lib.hid hsn
      have hi0 : (j : Int) < (l.length : Int) := by omega
      obtain ⟨B, hB⟩ : ∃ B, B = ltT k key := ⟨_, rfl⟩
      have hB' : Op.bytesLess k.toList key.toList = B := hB.symm
      rw [← hB] at HSN
      have HMJ := Lib.hid hmj
      clear hk hB hsn hm c1 hlt
      cases B with
      | true =>
        go_wp2
        go_roundw
        case rel => exact ⟨j + 1, m + 1, HLT.out, by have := HMJ.out; omega, by go_num, by go_num, by rw [HSN.out]; rfl, by first | trivial | rfl⟩
        case measure => have := HLT.out; simp [intOf]; omega
      | false =>
        go_wp2
        go_roundw
        case rel => exact ⟨j + 1, m, HLT.out, by have := HMJ.out; omega, rfl, by go_num, by rw [HSN.out]; rfl, by first | trivial | rfl⟩
        case measure => have := HLT.out; simp [intOf]; omega
    · obtain rfl : j = l.length := by omega
      have HE : Hid (plc l key = m) := Lib.hid (by rw [hm, List.take_length])
      clear hm hlt
      go_wp2
      go_ret
      exact ⟨by rw [HE.out]; rfl, rfl⟩
theorem BookW.one {w w' : World} {lo hi P R : Nat} {T : List ByteArray} (h : BookW w lo hi P T) (hk : Kq.Keeps (· = R) w w') (hR : hi ≤ R) : BookW w' lo hi P T :=
  h.far (B := R) (hk.mono (fun k _ e => by omega)) hR
/-- what a call tells that tells a leaf of a map, and asks the book -/
def QmLf (w : World) (lo hi P : Nat) (T : List ByteArray) (l : List PairV) (i : Nat) (x : Ending) (w' : World) : Prop :=
  ∃ z : LfW, z.l = mkLf l i ∧ x = .returned z.val ∧ TxN w' (fun k => k < w.heap.size) z.a z.l.p ∧ z.l.p.length ≤ z.cap ∧ (∃ T' : List ByteArray, T'.length ≤ T.length + 2 * l.length ∧ BookW w' lo hi P T') ∧ Kq.Keeps (fun k => lo ≤ k ∧ k < hi) w w'
set_option maxRecDepth 100000 in
set_option maxHeartbeats 2000000 in
theorem rq_leaf (l : List PairV) (A : Option Addr) (cap lo hi P i : Nat) (T : List ByteArray) (w : World) (hf : Fit l) (hA : PsLo w lo A l) (hB : BookW w lo hi P T) (hhi : hi ≤ w.heap.size) (hlo : lo ≤ w.heap.size) (hcap : l.length ≤ cap) (hil : i < l.length) (hT : T.length + 2 * l.length ≤ 1000) :
    Calls Tryd.prog 50 #[.pointer (some ⟨P, 0, none⟩), .slice A l.length cap, .int .i64 (i : Int)] w (QmLf w lo hi P T l i) := by
  obtain ⟨b, off, rfl, hbl, hb, c0, c1⟩ := hA i hil
  obtain ⟨k, hk⟩ : ∃ k, k = l[i].1 := ⟨_, rfl⟩
  obtain ⟨v, hv⟩ : ∃ v, v = l[i].2 := ⟨_, rfl⟩
  rw [← hk] at c0
  rw [← hv] at c1
  have HMK : Hid (mkLf l i = ⟨(i : Int), (l.length : Int), k, v, pathL l i⟩) := Lib.hid (by unfold mkLf; rw [getD_at hil, hk, hv])
  have hi0 : (i : Int) < (l.length : Int) := by omega
  have ba := Kq.below_alloc w (Obj.cells #[Value.int IntKind.i64 0, Value.int IntKind.i64 0, Value.string ⟨#[]⟩, Value.string ⟨#[]⟩, Value.slice none 0 0] 30)
  have HW : Hid (Below w.heap.size w (w.alloc (Obj.cells #[Value.int IntKind.i64 0, Value.int IntKind.i64 0, Value.string ⟨#[]⟩, Value.string ⟨#[]⟩, Value.slice none 0 0] 30)).drew ∧ LB (w.alloc (Obj.cells #[Value.int IntKind.i64 0, Value.int IntKind.i64 0, Value.string ⟨#[]⟩, Value.string ⟨#[]⟩, Value.slice none 0 0] 30)).drew w.heap.size 0 0 ⟨#[]⟩ ⟨#[]⟩ (.slice none 0 0) ∧ PrB (w.alloc (Obj.cells #[Value.int IntKind.i64 0, Value.int IntKind.i64 0, Value.string ⟨#[]⟩, Value.string ⟨#[]⟩, Value.slice none 0 0] 30)).drew b (off + i * 2) k v) :=
    Lib.hid ⟨ba.drew, ⟨Kq.blk_new w #[Value.int IntKind.i64 0, Value.int IntKind.i64 0, Value.string ⟨#[]⟩, Value.string ⟨#[]⟩, Value.slice none 0 0] 30 (0, 0)⟩, (ba.cell (p := ⟨b, off + i * 2, none⟩) hb).trans c0, (ba.cell (p := ⟨b, off + i * 2 + 1, none⟩) hb).trans c1⟩
  have HPA := Lib.hid (rk_path l.length l i (some ⟨b, off, none⟩) cap lo hi P T _ (Nat.le_refl _) (by omega) hf (hA.below ba.drew) (hB.below ba.drew) (Nat.le_trans hhi ba.drew.size) (Nat.le_trans hlo ba.drew.size) hcap hil hT)
  have HAL := Lib.hid (askP_len l.length l i (Nat.le_refl _) (by omega))
  obtain ⟨ps, hps⟩ : ∃ ps, ps = pathL l i := ⟨_, rfl⟩
  rw [← hps] at HPA HMK
  have HB := Lib.hid (And.intro hbl (And.intro hb hhi))
  clear hA hf hB hcap hil hk hv c0 c1 ba hps hb hT hlo hbl
  go_enter Tryd.func50, Tryd.ntmps50
  go_wp2
  refine Kq.wp_region_T 12 (fun cur => PrB cur b (off + i * 2) k v) (by kernel_rfl) HW.out.2.2 (fun hS0 => ?_)
  obtain ⟨z0, hz0⟩ : ∃ z, z = (w.alloc (Obj.cells #[Value.int IntKind.i64 0, Value.int IntKind.i64 0, Value.string ⟨#[]⟩, Value.string ⟨#[]⟩, Value.slice none 0 0] 30)).drew := ⟨_, rfl⟩
  rw [← hz0] at HW HPA hS0 ⊢
  clear hz0
  unfold PrB at hS0
  dsimp only [PrB]
  refine Kq.wpAnyT_take (i := 0) (v := ?_) rfl rfl (by kernel_rfl) (by kernel_rfl) (by kernel_rfl) (by kernel_rfl) (fun _ _ _ h => h) (Or.inl ⟨by kernel_rfl, ?_⟩) (by assumption) ?_
  rotate_left
  · intro w hSw; (try dsimp only at hSw); go_simp; (try with_reducible rfl)
  refine Kq.wpAnyT_take (i := 1) (v := ?_) rfl rfl (by kernel_rfl) (by kernel_rfl) (by kernel_rfl) (by kernel_rfl) (fun _ _ _ h => h) (Or.inl ⟨by kernel_rfl, ?_⟩) (by assumption) ?_
  rotate_left
  · intro w hSw; (try dsimp only at hSw); go_simp; (try with_reducible rfl)
  refine Kq.wpAnyT_take (i := 2) (v := ?_) rfl rfl (by kernel_rfl) (by kernel_rfl) (by kernel_rfl) (by kernel_rfl) (fun _ _ _ h => h) (Or.inl ⟨by kernel_rfl, ?_⟩) (by assumption) ?_
  rotate_left
  · intro w hSw; (try dsimp only at hSw); go_simp; (try with_reducible rfl)
  refine Kq.wpAnyT_take (i := 3) (v := ?_) rfl rfl (by kernel_rfl) (by kernel_rfl) (by kernel_rfl) (by kernel_rfl) (fun _ _ _ h => h) (Or.inl ⟨by kernel_rfl, ?_⟩) (by assumption) ?_
  rotate_left
  · intro w hSw; (try dsimp only at hSw); go_simp; (try with_reducible rfl)
  refine Kq.wpAnyT_take (i := 4) (v := ?_) rfl rfl (by kernel_rfl) (by kernel_rfl) (by kernel_rfl) (by kernel_rfl) (fun _ _ _ h => h) (Or.inl ⟨by kernel_rfl, ?_⟩) (by assumption) ?_
  rotate_left
  · intro w hSw; (try dsimp only at hSw); go_simp; (try with_reducible rfl)
  refine Kq.wpAnyT_take (i := 5) (v := ?_) rfl rfl (by kernel_rfl) (by kernel_rfl) (by kernel_rfl) (by kernel_rfl) (fun _ _ _ h => h) (Or.inl ⟨by kernel_rfl, ?_⟩) (by assumption) ?_
  rotate_left
  · intro w hSw; (try dsimp only at hSw); go_simp; (try with_reducible rfl)
  refine Kq.wpAnyT_take (i := 6) (v := ?_) rfl rfl (by kernel_rfl) (by kernel_rfl) (by kernel_rfl) (by kernel_rfl) (fun _ _ _ h => h) (Or.inl ⟨by kernel_rfl, ?_⟩) (by assumption) ?_
  rotate_left
  · intro w hSw; (try dsimp only at hSw); go_simp; (try with_reducible rfl)
  refine Kq.wpAnyT_take (i := 7) (v := ?_) rfl rfl (by kernel_rfl) (by kernel_rfl) (by kernel_rfl) (by kernel_rfl) (fun _ _ _ h => h) (Or.inl ⟨by kernel_rfl, ?_⟩) (by assumption) ?_
  rotate_left
  · intro w hSw; (try dsimp only at hSw); go_simp; (try with_reducible rfl)
  refine Kq.wpAnyT_take (i := 8) (v := ?_) rfl rfl (by kernel_rfl) (by kernel_rfl) (by kernel_rfl) (by kernel_rfl) (fun _ _ _ h => h) (Or.inl ⟨by kernel_rfl, ?_⟩) (by assumption) ?_
  rotate_left
  · intro w hSw; (try dsimp only at hSw); go_simp; (try with_reducible rfl)
  refine Kq.wpAnyT_take (i := 9) (v := ?_) rfl rfl (by kernel_rfl) (by kernel_rfl) (by kernel_rfl) (by kernel_rfl) (fun _ _ _ h => h) (Or.inl ⟨by kernel_rfl, ?_⟩) (by assumption) ?_
  rotate_left
  · intro w hSw; (try dsimp only at hSw); go_simp; (try with_reducible rfl)
  refine Kq.wpAnyT_one (i := 10) (by kernel_rfl) rfl (fun K hK => ?_)
  go_simp
  refine HPA.out.mono ?_
  rintro x z1 ⟨pv, rfl, hown, bk1, k1⟩
  have HZ : Hid (w.heap.size < z0.heap.size) := Lib.hid HW.out.2.1.lt
  obtain ⟨A', cap', rfl, hc', htx⟩ := row_txn (S := fun k => k < w.heap.size + 1) hown (fun k hk => by have := HZ.out; omega)
  have H1 : Hid (Kq.Keeps (fun k => lo ≤ k ∧ k < hi) w z1 ∧ LB z1 w.heap.size 0 0 ⟨#[]⟩ ⟨#[]⟩ (.slice none 0 0) ∧ PrB z1 b (off + i * 2) k v ∧ TxN z1 (fun k => k < w.heap.size + 1) A' ps ∧ ps.length ≤ cap' ∧ BookW z1 lo hi P (askP l i ++ T)) := Lib.hid (by
    have hb0 : b < z0.heap.size := by have := HB.out.2.1; have := HZ.out; omega
    have hbS : ¬ (lo ≤ b ∧ b < hi) := by have := HB.out.1; omega
    exact ⟨(keeps_below HW.out.1).trans k1, HW.out.2.1.later k1 (by have := HB.out.2.2; omega), ⟨by rw [World.cell?_of_block (k1.block b hb0 hbS)]; exact HW.out.2.2.1, by rw [World.cell?_of_block (k1.block b hb0 hbS)]; exact HW.out.2.2.2⟩, htx, hc', bk1⟩)
  clear hown bk1 k1 hc' htx HPA HW hS0
  refine hK.out _ _ H1.out.2.2.1 (fun hS0 => ?_)
  clear hK K
  have r0 := H1.out.2.1.c0
  have r1 := H1.out.2.1.c1
  have r2 := H1.out.2.1.c2
  have r3 := H1.out.2.1.c3
  have r4 := H1.out.2.1.c4
  have g0 := H1.out.2.1.fz 0
  have g1 := H1.out.2.1.fz 1
  have g2 := H1.out.2.1.fz 2
  have g3 := H1.out.2.1.fz 3
  have g4 := H1.out.2.1.fz 4
  refine Kq.wpAnyT_take (i := 11) (v := ?_) rfl rfl (by kernel_rfl) (by kernel_rfl) (by kernel_rfl) (by kernel_rfl) (fun _ _ _ h => h) (Or.inl ⟨by kernel_rfl, ?_⟩) (by assumption) ?_
  rotate_left
  · intro w hSw; (try dsimp only at hSw); go_simp; (try with_reducible rfl)
  refine Kq.wpAnyT_last (by kernel_rfl) rfl (fun K hK => ?_)
  go_simp
  refine hK.out _ _ ?_
  clear hK K
  refine Kq.wpAnyT_done (by kernel_rfl) ?_ _
  go_simp
  go_wp2
  have p1 := H1.out.2.1.fill (i : Int) (l.length : Int) k v (.slice A' ps.length cap')
  have p2 := filled5_keeps z1 w.heap.size (i : Int) (l.length : Int) k v (.slice A' ps.length cap')
  obtain ⟨Wf, hWf⟩ : ∃ Wf, Wf = filled5 z1 w.heap.size (i : Int) (l.length : Int) k v (.slice A' ps.length cap') := ⟨_, rfl⟩
  change bodyPost _ _ _ _ _ (filled5 z1 w.heap.size (i : Int) (l.length : Int) k v (.slice A' ps.length cap'))
  rw [← hWf] at p1 p2 ⊢
  have z0 := p1.c0
  have z1 := p1.c1
  have z2 := p1.c2
  have z3 := p1.c3
  have z4 := p1.c4
  refine bodyPost_ret (v := .agg #[.int .i64 (i : Int), .int .i64 (l.length : Int), .string k, .string v, .slice A' ps.length cap']) (by simp [results, Tryd.results50, go_sem, z0, z1, z2, z3, z4]) rfl ?_
  exact ⟨⟨⟨(i : Int), (l.length : Int), k, v, ps⟩, A', cap'⟩, HMK.out.symm, rfl, (H1.out.2.2.2.1.keeps p2 (fun k _ hk => by omega)).mono (fun k _ hk => by omega), H1.out.2.2.2.2.1, ⟨_, by have := HAL.out; rw [List.length_append]; omega, H1.out.2.2.2.2.2.one p2 HB.out.2.2⟩, keeps_far H1.out.1 p2 (fun k hk => by omega)⟩
end Go.Proofs.YtclloplkbajebaaDoor
