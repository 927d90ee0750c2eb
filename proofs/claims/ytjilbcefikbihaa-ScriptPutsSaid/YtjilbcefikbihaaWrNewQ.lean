/- Merged: WireText, RefNum, WrNew. Contracts of wire's Writer.Text, Writer.Bytes. Condition: lengths within the reach of memory. Contract of carrackref03.Bytes: a number by so many bytes. Condition: eight bytes at most. A writer that was just declared; writers side by side; Bytes in one contract. No condition. -/
import Derived.Test.YtjilbcefikbihaaWireNumQ
import Derived.WalkSpells
namespace Go.Proofs.Ytjilbcefikbihaa
open Go.RowKit
set_option linter.unusedVariables false
set_option maxRecDepth 100000 in
set_option maxHeartbeats 1600000 in
theorem wr_text_ok (base B : Nat) (e : Int) (v : Value) (l : List Nat) (s : ByteArray) (w : World) (h : Wr w base B e v l) (hs : s.size ≤ 65535) (hl : l.length ≤ 140737488200000) :
    Calls Try.prog 69 #[.pointer (some ⟨B, 0, none⟩), .string s] w (WrAny w base B v e (l ++ hi2 s.size ++ nl s)) := by
  obtain ⟨i0, hi, hz0, hz1, hz2⟩ := info_parts info8
  have c1 : w.cell? ⟨B, 1, none⟩ = some v := h.c1
  have hB := Kq.blk_lt h.blk
  have H := Lib.hid h
  clear h
  go_enter Try.func69, Try.ntmps69
  go_wp2_with (at_builtin; refine Kq.wpList_append_any _ rfl (.tmp 15) (.tmp 23) 76 76 rfl base 5 i0 (.int .u8 0) 1 1 Try.underlying76 hi hz0 hz1 hz2 rfl (by decide) v l.length (bcells l) rfl (H.out.own.alloc _) (.slice (some ⟨w.heap.size, 0, none⟩) 2 2) 2 (bcells (hi2 s.size)) rfl ?hs ?h1 ?h2 ?h3 ?_)
  case hs => exact src_row w Try.underlying76 (hi2 s.size) 2
  case h1 => unfold maxLen; omega
  case h2 => omega
  case h3 => have := H.out.base; simp; omega
  intro v' w1 hown1 hgrow hfresh
  have hm := H.out.mid (Kq.below_alloc w _) hgrow
  have c1' : w1.cell? ⟨B, 1, none⟩ = some v := Kq.blk_cell hm 1
  have f1' : w1.frozen? ⟨B, 1, none⟩ = false := Kq.blk_free hm 1
  have HP := Lib.hid (H.out.close (ns := hi2 s.size) (Kq.below_alloc w _) hown1 hgrow (by simpa using hfresh))
  obtain ⟨a', n', cap', hv⟩ := Kq.own_shape hown1
  clear hm hown1 hgrow hfresh c1 hB
  rw [hv] at HP ⊢
  clear hv
  obtain ⟨v2, HM⟩ := (WrMid.start H.out).step HP.out.any
  have HM := Lib.hid HM
  have hlen : (l ++ hi2 s.size).length + s.size ≤ 140737488350000 := by rw [List.length_append]; have : (hi2 s.size).length = 2 := rfl; omega
  have hlen := Lib.hid hlen
  go_wp2_with fail
  refine (wr_raw base B e v2 (l ++ hi2 s.size) s _ HM.out.it hlen.out).mono ?_
  rintro x w3 ⟨rfl, H3⟩
  obtain ⟨v3, HM3⟩ := HM.out.step (WrPost.any (x := .returned (.tuple #[])) ⟨rfl, H3⟩)
  have HM3 := Lib.hid HM3.post
  clear H3 c1' f1'
  go_wp2
  go_end0
  exact HM3.out
set_option maxRecDepth 100000 in
set_option maxHeartbeats 800000 in
theorem wr_text_bad (base B : Nat) (e : Int) (v : Value) (l : List Nat) (s : ByteArray) (w : World) (h : Wr w base B e v l) (hs : 65535 < s.size) :
    Calls Try.prog 69 #[.pointer (some ⟨B, 0, none⟩), .string s] w (WrAny w base B v (keepE e 1) l) := by
  have hd : (65535 : Int) < (s.size : Int) := by omega
  go_enter Try.func69, Try.ntmps69
  go_wp2_with fail
  refine (wr_fail base B e 1 v l _ h).mono ?_
  rintro x w2 ⟨rfl, H2⟩
  have HP : WrAny w base B v (keepE e 1) l (.returned (.tuple #[])) w2 := ⟨rfl, H2⟩
  have HP := Lib.hid HP
  clear H2
  go_wp2
  first | go_end0 | refine bodyPost_ret (results_none rfl _ _ _) rfl ?_
  exact HP.out
theorem add_flat' (b off i : Nat) : (⟨b, off, none⟩ : Addr).add i = ⟨b, off + i, none⟩ := by unfold Addr.add; split <;> simp_all
/-- what was written, as a text -/
theorem own_conv {w : World} {base : Nat} {v : Value} {l : List Nat} (h : w.ownsRow base 5 1 v l.length (bcells l)) (hl : ∀ b ∈ l, b < 256) :
    (convert 76 9 v).run Try.prog w = .ok (.string (txt l)) w := by
  have hc := fun g hg => h.cells (g := g) hg
  rcases h.2 with ⟨rfl, h0⟩ | ⟨g, cap, cur, rfl, _⟩
  · have : l = [] := List.eq_nil_of_length_eq_zero h0
    subst this
    exact Kq.conv_bytes_none w 0 Try.underlying76 Try.underlying5 Try.underlying9
  · have hc := hc g rfl
    have hcell : ∀ j (hj : j < l.length), w.cell? ⟨g, j, none⟩ = some (.int .u8 ((l[j] : Nat) : Int)) := fun j hj => by
      have := hc j (.int .u8 ((l[j] : Nat) : Int)) (by simp [bcells, hj])
      rwa [add_flat', Nat.zero_add] at this
    have := Kq.conv_bytes (P := Try.prog) w (src := 76) (dst := 9) (e := 5) ⟨g, 0, none⟩ (l.map UInt8.ofNat) cap Try.underlying76 Try.underlying5 Try.underlying9 (fun j u hj => by
      have hj' : j < l.length := by
        rcases Nat.lt_or_ge j l.length with h' | h'
        · exact h'
        · rw [List.getElem?_eq_none (by simpa using h')] at hj; cases hj
      rw [add_flat', Nat.zero_add, hcell j hj', ← hj]
      have := hl l[j] (List.getElem_mem _)
      simp [hj', Nat.mod_eq_of_lt this])
    rwa [List.length_map] at this
set_option maxRecDepth 100000 in
set_option maxHeartbeats 800000 in
theorem wr_bytes_ok (base B : Nat) (v : Value) (l : List Nat) (w : World) (h : Wr w base B 0 v l) (hl : ∀ b ∈ l, b < 256) :
    Calls Try.prog 22 #[.pointer (some ⟨B, 0, none⟩)] w fun x w' => x = .returned (.tuple #[.string (txt l), .int .i64 0]) ∧ w = w' := by
  have c1 : w.cell? ⟨B, 1, none⟩ = some v := h.c1
  have hcv := own_conv h.own hl
  obtain ⟨a', n', cap', hv⟩ := Kq.own_shape h.own
  subst hv
  go_enter Try.func22, Try.ntmps22
  go_wp2_with fail
  refine (mem_err B 0 _ h.c0).mono ?_
  rintro x w3 ⟨rfl, rfl⟩
  go_wp2
  go_ret2
  exact ⟨rfl, rfl⟩
set_option maxRecDepth 100000 in
set_option maxHeartbeats 800000 in
theorem wr_bytes_bad (base B : Nat) (e : Int) (v : Value) (l : List Nat) (w : World) (h : Wr w base B e v l) (he : e ≠ 0) :
    Calls Try.prog 22 #[.pointer (some ⟨B, 0, none⟩)] w fun x w' => x = .returned (.tuple #[.string ⟨#[]⟩, .int .i64 e]) ∧ w = w' := by
  have hne' : (e != 0) = true := by simpa using he
  clear he
  go_enter Try.func22, Try.ntmps22
  go_wp2_with fail
  refine (mem_err B e _ h.c0).mono ?_
  rintro x w3 ⟨rfl, rfl⟩
  go_wp2_with fail
  refine (mem_err B e _ h.c0).mono ?_
  rintro x w3 ⟨rfl, rfl⟩
  go_wp2
  go_ret2
  exact ⟨rfl, rfl⟩
end Go.Proofs.Ytjilbcefikbihaa
namespace Go.Proofs.Ytjilbcefikbihaa
open Go.RowKit
set_option linter.unusedVariables false
theorem val_num8 (n : Nat) (h : n < M64) : WireM.val (num8 n) = n := by
  unfold M64 at h
  simp only [WireM.val, num8, List.foldl_cons, List.foldl_nil]
  omega
theorem val_hi2 (n : Nat) : WireM.val (hi2 n) = n := by
  simp only [WireM.val, hi2, List.foldl_cons, List.foldl_nil]
  omega
theorem val_one (n : Nat) : WireM.val [n] = n := by simp [WireM.val]
end Go.Proofs.Ytjilbcefikbihaa
namespace Go.Proofs.Ytjilbcefikbihaa
open Go.RowKit
set_option linter.unusedVariables false
/-- a writer that was just declared -/
theorem wr_new (w : World) : Wr (w.alloc (.cells #[.int .i64 0, .slice none 0 0] 78 (0, 0))) w.heap.size w.heap.size 0 (.slice none 0 0) [] := by
  refine ⟨Kq.blk_new _ _ _ _, ?_, (fun k hk => by cases hk), ?_⟩
  · exact ⟨rfl, Or.inl ⟨rfl, rfl⟩⟩
  · exact (Kq.below_alloc w _).size
/-- what a fresh writer's calls leave below is as it was -/
theorem WrMid.below {w wr : World} {v : Value} {e : Int} {l : List Nat} {o : Obj} {base : Nat} (h : WrMid (w.alloc o) base w.heap.size (.slice none 0 0) e v l wr) : Below w.heap.size w wr :=
  (Kq.below_alloc w o).trans (h.keeps.below (Kq.below_alloc w o).size (fun k _ hk => by
    rcases hk with rfl | hk
    · exact Nat.le_refl _
    · cases hk))
theorem own_later {w w' : World} {base size : Nat} {e : TypeId} {v : Value} {n : Nat} {xs : List Value} (h : w.ownsRow base e size v n xs) (hb : ∀ k, v.ownBlock = some k → w'.heap[k]? = w.heap[k]?) : w'.ownsRow base e size v n xs := by
  refine ⟨h.1, ?_⟩
  rcases h.2 with h0 | ⟨g, cap, cur, rfl, h1, h2, h3⟩
  · exact Or.inl h0
  · exact Or.inr ⟨g, cap, cur, rfl, h1, (hb g rfl).trans h2, h3⟩
theorem Wr.later {S : Nat → Prop} {w w' : World} {base B : Nat} {e : Int} {v : Value} {l : List Nat} (h : Wr w base B e v l) (hk : Kq.Keeps S w w') (hB : ¬ S B) (ho : ∀ k, v.ownBlock = some k → ¬ S k) : Wr w' base B e v l :=
  ⟨hk.blk h.blk hB, own_later h.own (fun k hk' => hk.block k (h.own.lt k hk').2 (ho k hk')), h.ne, Nat.le_trans h.base hk.size⟩
def bytesOf (e : Int) (l : List Nat) : ByteArray := if e = 0 then txt l else ⟨#[]⟩
theorem wr_bytes (base B : Nat) (e : Int) (v : Value) (l : List Nat) (w : World) (h : Wr w base B e v l) (hl : ∀ b ∈ l, b < 256) :
    Calls Try.prog 22 #[.pointer (some ⟨B, 0, none⟩)] w fun x w' => x = .returned (.tuple #[.string (bytesOf e l), .int .i64 e]) ∧ w = w' := by
  unfold bytesOf
  by_cases he : e = 0
  · subst he
    exact wr_bytes_ok base B v l w h hl
  · rw [if_neg he]
    exact wr_bytes_bad base B e v l w h he
theorem Wr.belowW {w w' : World} {base B : Nat} {e : Int} {v : Value} {l : List Nat} (h : Wr w base B e v l) (hb : Below w.heap.size w w') : Wr w' base B e v l :=
  h.later (Kq.Keeps.of_below (S := fun _ => False) hb (fun k h1 h2 => absurd h1 (Nat.not_le.2 h2))) id (fun k _ => id)
theorem WrAny.from {w w0 w' : World} {base B : Nat} {v : Value} {e : Int} {l : List Nat} {x : Ending} (hb : Below w.heap.size w w0) (h : WrAny w0 base B v e l x w') : WrAny w base B v e l x w' := by
  obtain ⟨hx, v', h1, h2, h3⟩ := h
  exact ⟨hx, v', h1, (Kq.Keeps.of_below hb (fun k h1 h2 => absurd h1 (Nat.not_le.2 h2))).trans h2, fun k hk => (h3 k hk).imp id (Nat.le_trans hb.size)⟩
end Go.Proofs.Ytjilbcefikbihaa
