/- Contract of table's Fit. Condition: notes of the arguments. -/
import Derived.WalkSpells
import Derived.Outline
import Derived.Test.YtmckpoeolfggmaaTbWays
import Derived.Test.YtmckpoeolfggmaaTbDrop
namespace Go.Proofs.Ytmckpoeolfggmaa
open Go.RowKit Go.Maps Go.Kq
set_option linter.unusedVariables false
theorem apps_take (s : TbV) (l : List NtV) (j : Nat) (h : j < l.length) : appsV s (l.take (j + 1)) = (appV (appsV s (l.take j)) l[j]).1 := by
  rw [List.take_succ_eq_append_getElem h, appsV_snoc]
/-- behind j notes that fit -/
structure FitI (w wr : World) (B' : Nat) (s : TbV) (l : List NtV) (j : Nat) : Prop where
  le : j ≤ l.length
  tb : ∃ O, TbP wr O B' (appsV s (l.take j)) ∧ ∀ k, O k → w.heap.size ≤ k ∧ k < wr.heap.size
  fits : ∀ i (hi : i < l.length), i < j → (appV (appsV s (l.take i)) l[i]).2 = 0
  bel : Below w.heap.size w wr
set_option maxRecDepth 100000 in
set_option maxHeartbeats 2000000 in
theorem tb_fit (w : World) (O : Nat → Prop) (B : Nat) (s : TbV) (l : List NtV) (A : Option Addr) (ca : Nat) (h : TbP w O B s) (hs : TbOk s) (hA : EnAt NtV.nc w A l) (hw : ∀ n ∈ l, n.wf) (hl : l.length ≤ 1000000) :
    Calls Try.prog 20 #[.pointer (some ⟨B, 0, none⟩), .slice A l.length ca] w fun x w' => x = .returned (.int .i64 (fitV s l : Int)) ∧ Below w.heap.size w w' := by
  have H := Lib.hid (And.intro h (And.intro hs (And.intro hA hw)))
  have HL := Lib.hid hl
  obtain ⟨N, hN⟩ : ∃ N, N = fitV s l := ⟨_, rfl⟩
  rw [← hN]
  have HN := Lib.hid hN
  clear h hs hA hw hl hN
  go_enter Try.func20, Try.ntmps20
  go_wp2_with fail
  refine (tb_copy w O B s H.out.1).mono ?_
  rintro x w1 ⟨B', rfl, ht, hb⟩
  have H1 : Hid (FitI w w1 B' s l 0) := Lib.hid ⟨Nat.zero_le _, ⟨_, ht, fun k hk => hk⟩, fun i _ h => absurd h (Nat.not_lt_zero _), hb⟩
  clear ht hb
  go_wp2
  go_loopw [12] (fun i wr => ∃ j : Nat, i = .int .i64 (j : Int) ∧ FitI w wr B' s l j) (fun i _ => l.length - (intOf i).toNat)
  case atStart => exact ⟨0, rfl, H1.out⟩
  case round =>
    obtain ⟨j, rfl, hr⟩ := hrel
    have HR := Lib.hid hr
    have hj := hr.le
    have h6 := HL.out
    clear hr H1
    by_cases hlt : j < l.length
    · obtain ⟨b, off, rfl, hb, hc⟩ := (H.out.2.2.1.below HR.out.bel) j hlt
      obtain ⟨n, hn⟩ : ∃ n, n = l[j] := ⟨_, rfl⟩
      have HS := Lib.hid (apps_take s l j hlt)
      rw [← hn] at hc HS
      have HWF : Hid (n.wf) := Lib.hid (by rw [hn]; exact H.out.2.2.2 _ (List.getElem_mem hlt))
      have c0 := hc 0 (by omega)
      have c1 := hc 1 (by omega)
      have c2 := hc 2 (by omega)
      have c3 := hc 3 (by omega)
      have c4 := hc 4 (by omega)
      simp only [NtV.nc, List.getElem?_cons_zero, List.getElem?_cons_succ, Nat.add_zero] at c0 c1 c2 c3 c4
      have HLT := Lib.hid hlt
      have HNN : Hid (∀ h : j < l.length, n = l[j]'h) := Lib.hid (fun _ => hn)
      have hi0 : (j : Int) < (l.length : Int) := by omega
      have hj6 : j ≤ 1000000 := by omega
      clear hc hb hn hlt hj h6
      obtain ⟨k, f, q, t, d⟩ := n
      simp only at c0 c1 c2 c3 c4
      obtain ⟨w2, hw2⟩ : ∃ z, z = wr.alloc (.cells #[.int .i64 k, .int .i64 f, .int .u64 q, .int .u64 t, .string d] 40) := ⟨_, rfl⟩
      obtain ⟨O2, ht2, hO2⟩ := HR.out.tb
      have hb2 := Kq.below_alloc wr (.cells #[.int .i64 k, .int .i64 f, .int .u64 q, .int .u64 t, .string d] 40)
      have hr2 := Kq.blk_new wr #[.int .i64 k, .int .i64 f, .int .u64 q, .int .u64 t, .string d] 40 (0, 0)
      rw [← hw2] at hb2 hr2
      have H2 : Hid (TbP w2 O2 B' (appsV s (l.take j)) ∧ (∀ k, O2 k → w.heap.size ≤ k ∧ k < w2.heap.size) ∧ Below w.heap.size w w2 ∧ TbOk (appsV s (l.take j))) := Lib.hid ⟨ht2.below hb2, fun k hk => ⟨(hO2 k hk).1, Nat.lt_of_lt_of_le (hO2 k hk).2 hb2.size⟩, HR.out.bel.trans (hb2.mono HR.out.bel.size), appsV_ok _ _ H.out.2.1 (fun n hn => H.out.2.2.2 n (List.mem_of_mem_take hn))⟩
      obtain ⟨e, he⟩ : ∃ e, e = (appV (appsV s (l.take j)) ⟨k, f, q, t, d⟩).2 := ⟨_, rfl⟩
      have HE := Lib.hid he
      clear ht2 hO2 he hr2 hb2
      go_wp2_with fail
      rw [← hw2]
      clear hw2 c0 c1 c2 c3 c4
      refine (tb_apply w2 O2 B' (appsV s (l.take j)) ⟨k, f, q, t, d⟩ HWF.out H2.out.1 H2.out.2.2.2 (fun k hk => (H2.out.2.1 k hk).2)).mono ?_
      rintro x w3 ⟨rfl, ht3, hk3⟩
      rw [← HE.out]
      have H3 : Hid (TbP w3 (Ext O2 w2 w3) B' (appV (appsV s (l.take j)) ⟨k, f, q, t, d⟩).1 ∧ (∀ k, Ext O2 w2 w3 k → w.heap.size ≤ k ∧ k < w3.heap.size) ∧ Below w.heap.size w w3) := Lib.hid (by
        have hz := hk3.size
        have hz2 := H2.out.2.2.1.size
        refine ⟨ht3, fun k hk => ?_, H2.out.2.2.1.trans (hk3.below hz2 (fun k _ hk => (H2.out.2.1 k hk).1))⟩
        rcases hk with hk | hk
        · have := H2.out.2.1 k hk; omega
        · omega)
      clear ht3 hk3
      by_cases e0 : e = 0
      · subst e0
        go_wp2
        go_roundw
        case rel =>
          refine ⟨j + 1, by go_num, HLT.out, ⟨_, by rw [HS.out]; exact H3.out.1, H3.out.2.1⟩, fun i hi hij => ?_, H3.out.2.2⟩
          rcases Nat.lt_or_ge i j with h' | h'
          · exact HR.out.fits i hi h'
          · obtain rfl : i = j := by omega
            rw [← HNN.out hi]; exact HE.out.symm
        case measure => have := HLT.out; simp [intOf]; omega
      · have e1 : (e != 0) = true := by rw [bne_iff_ne]; exact e0
        have HNJ : Hid (N = j) := Lib.hid (by rw [HN.out]; exact fitV_stop l s j HLT.out HR.out.fits (by rw [← HNN.out HLT.out, ← HE.out]; exact e0))
        clear e0
        go_wp2
        go_ret
        exact ⟨by rw [HNJ.out]; rfl, H3.out.2.2⟩
    · obtain rfl : j = l.length := by omega
      have HNJ : Hid (N = l.length) := Lib.hid (by rw [HN.out]; exact fitV_all l s (fun i hi => HR.out.fits i hi hi))
      clear hlt hj h6
      go_wp2
      go_ret
      exact ⟨by rw [HNJ.out]; rfl, HR.out.bel⟩
end Go.Proofs.Ytmckpoeolfggmaa
