/- The book of texts that were digested, with the blocks that it lies in held between two bounds: New, Sum. Condition: sizes. -/
import Derived.Test.YtnbapiddbcaolaaDoorShBook
namespace Go.Proofs.YtnbapiddbcaolaaDoor
open Go.RowKit
set_option linter.unusedVariables false
structure BookW (w : World) (lo hi P : Nat) (T : List ByteArray) : Prop where
  ex : ∃ A ca B cb M f c, w.heap[P]? = some (.cells #[.slice (some ⟨A, 0, none⟩) 64 ca, .slice (some ⟨B, 0, none⟩) 8 cb, .map (some M), .bool c] 52 (0, 0)) ∧ WordsAt w A Sh.K ∧ WordsAt w B (toL Sh.H0) ∧ MapS w M T.length f ∧ InvB T f c ∧ (M ≠ P ∧ A ≠ P ∧ B ≠ P ∧ A ≠ M ∧ B ≠ M ∧ lo ≤ M ∧ lo ≤ P ∧ M < hi ∧ P < hi ∧ A < hi ∧ B < hi)
  len : T.length ≤ 1000
theorem BookW.at {w : World} {lo hi P : Nat} {T : List ByteArray} (h : BookW w lo hi P T) : BookAt w P := by
  obtain ⟨A, ca, B, cb, M, f, c, hb, hA, hB, _⟩ := h.ex
  exact ⟨⟨A, ca, B, cb, Kq.blk_cell hb 0, Kq.blk_cell hb 1, hA, hB⟩, Kq.blk_lt hb⟩
theorem BookW.below {w w' : World} {lo hi P : Nat} {T : List ByteArray} (h : BookW w lo hi P T) (hb : Below w.heap.size w w') : BookW w' lo hi P T := by
  obtain ⟨A, ca, B, cb, M, f, c, h1, hA, hB, hM, r⟩ := h.ex
  exact ⟨⟨A, ca, B, cb, M, f, c, Kq.below_blk hb h1 (Kq.blk_lt h1), hA.below hb, hB.below hb, hM.below hb, r⟩, h.len⟩
/-- the book stays where only blocks above it change -/
theorem BookW.far {w w' : World} {lo hi P B : Nat} {T : List ByteArray} (h : BookW w lo hi P T) (hk : Kq.Keeps (fun g => B ≤ g) w w') (hhi : hi ≤ B) : BookW w' lo hi P T := by
  obtain ⟨A, ca, X, cb, M, f, c, h1, hA, hX, hM, hv, r⟩ := h.ex
  obtain ⟨r1, r2, r3, r4, r5, r6, r7, r8, r9, r10, r11⟩ := r
  exact ⟨⟨A, ca, X, cb, M, f, c, hk.blk h1 (by omega), hA.keeps hk (by omega), hX.keeps hk (by omega), hM.keeps hk (by omega), hv, r1, r2, r3, r4, r5, r6, r7, r8, r9, r10, r11⟩, h.len⟩
theorem BookW.lt {w : World} {lo hi P : Nat} {T : List ByteArray} (h : BookW w lo hi P T) : P < w.heap.size := h.at.lt
/-- the mark and the entry are written -/
theorem book_closeW {w : World} {lo hi P A ca B cb M : Nat} {f : ByteArray → Option ByteArray} {c : Bool} {T : List ByteArray} (hlo : lo ≤ w.heap.size)
    (hb : w.heap[P]? = some (.cells #[.slice (some ⟨A, 0, none⟩) 64 ca, .slice (some ⟨B, 0, none⟩) 8 cb, .map (some M), .bool c] 52 (0, 0))) (hA : WordsAt w A Sh.K) (hB : WordsAt w B (toL Sh.H0)) (hM : MapS w M T.length f)
    (hne : M ≠ P ∧ A ≠ P ∧ B ≠ P ∧ A ≠ M ∧ B ≠ M ∧ lo ≤ M ∧ lo ≤ P ∧ M < hi ∧ P < hi ∧ A < hi ∧ B < hi) (hT : T.length < 1000) (D s : ByteArray) (hD : D.size ≤ maxLen) (hs : s.size ≤ maxLen) (X : Bool) :
    ∃ w', (Instr.mapUpdate 50 (.map (some M)) (.string D) (.string s)).run Tryd.prog (w.setCell ⟨P, 3, none⟩ (.bool X)) = .ok () w' ∧ Kq.Keeps (fun k => lo ≤ k ∧ k < hi) w w' ∧ (InvB (s :: T) (updS f D s) X → BookW w' lo hi P (s :: T)) := by
  have hk : Kq.Keeps (· = P) w (w.setCell ⟨P, 3, none⟩ (.bool X)) := Kq.Keeps.setCell _ _ _ rfl
  obtain ⟨w', hrun, hM', hk'⟩ := (hM.keeps hk hne.1).put (by omega) D s hD hs
  refine ⟨w', hrun, ((hk.mono (T := fun j => j = P ∨ j = M) (fun j _ e => Or.inl e)).trans (hk'.mono (fun j _ e => Or.inr e))).mono (fun j _ hj => ?_), fun hi => ⟨⟨A, ca, B, cb, M, _, X, ?_, ?_, ?_, hM', hi, hne⟩, by simp; omega⟩⟩
  · rcases hj with rfl | rfl
    · exact ⟨hne.2.2.2.2.2.2.1, hne.2.2.2.2.2.2.2.2.1⟩
    · exact ⟨hne.2.2.2.2.2.1, hne.2.2.2.2.2.2.2.1⟩
  · have h1 : (w.setCell ⟨P, 3, none⟩ (.bool X)).heap[P]? = some (.cells #[.slice (some ⟨A, 0, none⟩) 64 ca, .slice (some ⟨B, 0, none⟩) 8 cb, .map (some M), .bool X] 52 (0, 0)) := Kq.blk_set hb 3 _
    exact hk'.blk h1 (fun e => hne.1 e.symm)
  · exact (hA.keeps hk hne.2.1).keeps hk' hne.2.2.2.1
  · exact (hB.keeps hk hne.2.2.1).keeps hk' hne.2.2.2.2.1
def BookWPost (w : World) (lo hi P : Nat) (T : List ByteArray) (s : ByteArray) (e : Ending) (w' : World) : Prop := e = .returned (.string (dgT s)) ∧ BookW w' lo hi P (s :: T) ∧ Kq.Keeps (fun k => lo ≤ k ∧ k < hi) w w'
set_option maxRecDepth 100000 in
set_option maxHeartbeats 1000000 in
theorem r_sumW (lo hi P : Nat) (T : List ByteArray) (s : ByteArray) (w : World) (h : BookW w lo hi P T) (hlo : lo ≤ w.heap.size) (hs : s.size ≤ 900000000) (hT : T.length < 1000) :
    Calls Tryd.prog 30 #[.pointer (some ⟨P, 0, none⟩), .string s] w (BookWPost w lo hi P T s) := by
  have H := Lib.hid h
  clear h
  have HD : Hid ((dgT s).size = 32) := Lib.hid (dgT_size s)
  go_enter Tryd.func30, Tryd.ntmps30
  go_wp2_with fail
  refine (r_digest P s w H.out.at hs).mono ?_
  rintro x w1 ⟨rfl, hb1⟩
  have H1 := Lib.hid (H.out.below hb1)
  have HB1 := Lib.hid hb1
  clear hb1 H
  obtain ⟨A, ca, B, cb, M, f, c, hb, hA, hB, hM, hinv, hne⟩ := H1.out.ex
  have c2 := Kq.blk_cell hb 2
  have c3 := Kq.blk_cell hb 3
  have f3 := Kq.blk_free hb 3
  have hl := hM.look (dgT s) (by rw [HD.out]; decide)
  have HC := Lib.hid (fun X => book_closeW (Nat.le_trans hlo HB1.out.size) hb hA hB hM hne hT (dgT s) s (by rw [HD.out]; decide) (by unfold maxLen; omega) X)
  have HI := Lib.hid (hinv.step s)
  have e1 := same_dec ((f (dgT s)).getD ⟨#[]⟩) s
  have hx : txt (Sh.digest (nl s)) = dgT s := rfl
  rw [hx]
  have HX : Hid (∀ w', BookW w' lo hi P (s :: T) → Kq.Keeps (fun k => lo ≤ k ∧ k < hi) w1 w' → BookWPost w lo hi P T s (.returned (.string (dgT s))) w') := Lib.hid (fun w' a b => ⟨rfl, a, (Kq.Keeps.of_below (S := fun k => lo ≤ k ∧ k < hi) HB1.out (fun k h1 h2 => absurd h2 (Nat.not_lt.2 h1))).trans b⟩)
  clear hb hA hB hM hinv hx hlo hs hT
  generalize dgT s = D at *
  generalize (f D).getD ⟨#[]⟩ = was at *
  generalize (f D).isSome = ok at *
  clear HB1
  have fin : ∀ X, X = (c || ok && !decide (was = s)) → ∃ w', (Instr.mapUpdate 50 (.map (some M)) (.string D) (.string s)).run Tryd.prog (w1.setCell ⟨P, 3, none⟩ (.bool X)) = .ok () w' ∧ BookWPost w lo hi P T s (.returned (.string D)) w' := by
    rintro X rfl
    obtain ⟨w', hrun, hb', hbk⟩ := HC.out (c || ok && !decide (was = s))
    exact ⟨w', hrun, HX.out w' (hbk HI.out) hb'⟩
  have c2' : ∀ X, (w1.setCell ⟨P, 3, none⟩ (.bool X)).cell? ⟨P, 2, none⟩ = some (.map (some M)) := fun X => (World.cell?_setCell_other _ _ _ _ (by simp)).trans c2
  clear HC HI HX
  cases c with
  | true =>
    obtain ⟨w2, hrun, hp⟩ := fin true rfl
    have HP := Lib.hid hp
    clear fin hp
    have c2'' := c2' true
    clear c2'
    go_wp2
    go_ret
    exact HP.out
  | false =>
    cases ok with
    | false =>
      obtain ⟨w2, hrun, hp⟩ := fin false rfl
      have HP := Lib.hid hp
      clear fin hp
      have c2'' := c2' false
      clear c2'
      go_wp2
      go_ret
      exact HP.out
    | true =>
      by_cases hw : was = s
      · rw [decide_eq_true hw] at e1
        obtain ⟨w2, hrun, hp⟩ := fin false (by rw [decide_eq_true hw]; rfl)
        have HP := Lib.hid hp
        clear fin hp hw
        have c2'' := c2' false
        clear c2'
        go_wp2
        go_ret
        exact HP.out
      · rw [decide_eq_false hw] at e1
        obtain ⟨w2, hrun, hp⟩ := fin true (by rw [decide_eq_false hw]; rfl)
        have HP := Lib.hid hp
        clear fin hp hw
        have c2'' := c2' true
        clear c2'
        go_wp2
        go_ret
        exact HP.out
def BNewWPost (w : World) (e : Ending) (w' : World) : Prop := ∃ P, e = .returned (.pointer (some ⟨P, 0, none⟩)) ∧ BookW w' w.heap.size w'.heap.size P [] ∧ Below w.heap.size w w'
set_option maxRecDepth 100000 in
set_option maxHeartbeats 1000000 in
theorem r_booknewW (w : World) : Calls Tryd.prog 11 #[] w (BNewWPost w) := by
  go_enter Tryd.func11, Tryd.ntmps11
  go_wp2_with fail
  refine (r_constants w).mono ?_
  rintro e w1 ⟨A, ca, B, cb, rfl, hA, hA1, hB, hB1, hK, hH, hb1⟩
  have H1 := Lib.hid (show WordsAt w1 A Sh.K ∧ WordsAt w1 B (toL Sh.H0) ∧ Below w.heap.size w w1 from ⟨⟨hA1, hK⟩, ⟨hB1, hH⟩, hb1⟩)
  clear hA hA1 hB hB1 hK hH hb1
  have hmm := @run_makeMap Tryd.prog
  go_wp2
  have hb2 := (Kq.below_alloc w1 (.map #[] 0))
  have hb3 := hb2.trans ((Kq.below_alloc (w1.alloc (.map #[] 0)) (.cells #[.slice (some ⟨A, 0, none⟩) 64 ca, .slice (some ⟨B, 0, none⟩) 8 cb, .map (some w1.heap.size), .bool false] 52)).mono hb2.size)
  have HBK : Hid (BookW ((w1.alloc (.map #[] 0)).alloc (.cells #[.slice (some ⟨A, 0, none⟩) 64 ca, .slice (some ⟨B, 0, none⟩) 8 cb, .map (some w1.heap.size), .bool false] 52)) w.heap.size (w1.heap.size + 2) (w1.heap.size + 1) [] ∧ Below w.heap.size w ((w1.alloc (.map #[] 0)).alloc (.cells #[.slice (some ⟨A, 0, none⟩) 64 ca, .slice (some ⟨B, 0, none⟩) 8 cb, .map (some w1.heap.size), .bool false] 52))) := Lib.hid (by
    have hn := Kq.blk_new (w1.alloc (.map #[] 0)) #[.slice (some ⟨A, 0, none⟩) 64 ca, .slice (some ⟨B, 0, none⟩) 8 cb, .map (some w1.heap.size), .bool false] 52 (0, 0)
    rw [show (w1.alloc (.map #[] 0)).heap.size = w1.heap.size + 1 by simp] at hn
    have lA := H1.out.1.1
    have lB := H1.out.2.1.1
    have lw := H1.out.2.2.size
    exact ⟨⟨⟨A, ca, B, cb, w1.heap.size, _, false, hn, H1.out.1.below hb3, H1.out.2.1.below hb3, (MapS.made w1).below (Kq.below_alloc _ _), (fun _ t ht => absurd ht (by simp)), by omega, by omega, by omega, by omega, by omega, by omega, by omega, by omega, by omega, by omega, by omega⟩, by simp⟩, H1.out.2.2.trans (hb3.mono H1.out.2.2.size)⟩)
  clear hb2 hb3 hmm
  go_ret
  exact ⟨_, rfl, by have h := HBK.out.1; rw [show ((w1.alloc (.map #[] 0)).alloc (.cells #[.slice (some ⟨A, 0, none⟩) 64 ca, .slice (some ⟨B, 0, none⟩) 8 cb, .map (some w1.heap.size), .bool false] 52)).heap.size = w1.heap.size + 2 by simp]; exact h, HBK.out.2⟩
theorem BookWPost.belowLo {w w' : World} {lo hi : Nat} (h : Kq.Keeps (fun k => lo ≤ k ∧ k < hi) w w') (hlo : lo ≤ w.heap.size) : Below lo w w' := h.below hlo (fun k _ hk => hk.1)
theorem book_markedW {w : World} {lo hi P : Nat} {T : List ByteArray} (h : BookW w lo hi P T) {t u : ByteArray} (ht : t ∈ T) (hu : u ∈ T) (hd : dgT t = dgT u) (hne : t ≠ u) : w.cell? ⟨P, 3, none⟩ = some (.bool true) := by
  obtain ⟨A, ca, B, cb, M, f, c, hb, hA, hB, hM, hinv, hn⟩ := h.ex
  have := hinv.clash ht hu hd hne
  subst this
  exact Kq.blk_cell hb 3
theorem book_mark {w : World} {lo hi P : Nat} {T : List ByteArray} (h : BookW w lo hi P T) : ∃ c, w.cell? ⟨P, 3, none⟩ = some (.bool c) := by
  obtain ⟨A, ca, B, cb, M, f, c, hb, _⟩ := h.ex
  exact ⟨c, Kq.blk_cell hb 3⟩
end Go.Proofs.YtnbapiddbcaolaaDoor
