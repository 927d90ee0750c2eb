/- Merged: ShRNew, ShBook, ShBookW. Contract of carrackref01.New. No condition. A book of texts that were digested: contracts of carrackref01.New and of the book's Sum, with its map and its mark. Condition: sizes. The book of texts that were digested, with the blocks that it lies in held between two bounds: New, Sum. Condition: sizes. -/
import Derived.Test.YtcknhnbckbocjaaDoorShRDigQ
import Derived.Maps.OwnSet
import Derived.Maps.StringElems
import Derived.StringKeys
import Derived.Test.YtcknhnbckbocjaaDoorShOneQ
namespace Go.Proofs.YtcknhnbckbocjaaDoor
open Go.RowKit
set_option linter.unusedVariables false
def NewPost (w : World) (e : Ending) (w' : World) : Prop := ∃ P, e = .returned (.pointer (some ⟨P, 0, none⟩)) ∧ BookAt w' P ∧ Below w.heap.size w w'
set_option maxRecDepth 100000 in
set_option maxHeartbeats 1000000 in
theorem r_new (w : World) : Calls Tryd.prog 24 #[] w (NewPost w) := by
  go_enter Tryd.func24, Tryd.ntmps24
  go_wp2_with fail
  refine (r_constants w).mono ?_
  rintro e w1 ⟨A, ca, B, cb, rfl, hA, hA1, hB, hB1, hK, hH, hb1⟩
  have H1 := Lib.hid (show WordsAt w1 A Sh.K ∧ WordsAt w1 B (toL Sh.H0) ∧ Below w.heap.size w w1 from ⟨⟨hA1, hK⟩, ⟨hB1, hH⟩, hb1⟩)
  clear hA hA1 hB hB1 hK hH hb1
  have hmm := @run_makeMap Tryd.prog
  go_wp2
  have hb2 := (Kq.below_alloc w1 (.map #[] 0))
  have hb3 := hb2.trans ((Kq.below_alloc (w1.alloc (.map #[] 0)) (.cells #[.slice (some ⟨A, 0, none⟩) 64 ca, .slice (some ⟨B, 0, none⟩) 8 cb, .map (some w1.heap.size), .bool false] 86)).mono hb2.size)
  have HBK : Hid (BookAt ((w1.alloc (.map #[] 0)).alloc (.cells #[.slice (some ⟨A, 0, none⟩) 64 ca, .slice (some ⟨B, 0, none⟩) 8 cb, .map (some w1.heap.size), .bool false] 86)) (w1.heap.size + 1) ∧ Below w.heap.size w ((w1.alloc (.map #[] 0)).alloc (.cells #[.slice (some ⟨A, 0, none⟩) 64 ca, .slice (some ⟨B, 0, none⟩) 8 cb, .map (some w1.heap.size), .bool false] 86))) := Lib.hid (by
    have hn := Kq.blk_new (w1.alloc (.map #[] 0)) #[.slice (some ⟨A, 0, none⟩) 64 ca, .slice (some ⟨B, 0, none⟩) 8 cb, .map (some w1.heap.size), .bool false] 86 (0, 0)
    rw [show (w1.alloc (.map #[] 0)).heap.size = w1.heap.size + 1 by simp] at hn
    exact ⟨⟨⟨A, ca, B, cb, Kq.blk_cell hn 0, Kq.blk_cell hn 1, H1.out.1.below hb3, H1.out.2.1.below hb3⟩, Kq.blk_lt hn⟩, H1.out.2.2.trans (hb3.mono H1.out.2.2.size)⟩)
  clear hb2 hb3 hmm
  go_ret
  exact ⟨_, rfl, HBK.out.1, HBK.out.2⟩
end Go.Proofs.YtcknhnbckbocjaaDoor
namespace Go.Proofs.YtcknhnbckbocjaaDoor
open Go.RowKit Go.Maps
set_option linter.unusedVariables false
theorem lawS : Keyed Tryd.prog 9 := string_keyed Tryd.underlying9
theorem zeroStrB (w : World) : (zeroValue 9).run Tryd.prog w = .ok (.string ⟨#[]⟩) w := by kernel_rfl
/-- map[string]string of the program's own -/
structure MapS (w : World) (M N : Nat) (f : ByteArray → Option ByteArray) : Prop where
  ex : ∃ n, ∃ D : DataW Unit, n ≤ N ∧ w.ownsMap Tryd.prog 9 (plainElem Tryd.prog 9) M n D ∧ ∀ k : ByteArray, Maps.has D (.string k.data.toList) = (f k).isSome ∧ D.atKey (.string k.data.toList) (.lit (.string [])) = .lit (.string ((f k).getD ⟨#[]⟩).data.toList)
theorem MapS.made (w : World) : MapS (w.alloc (.map #[] 0)) w.heap.size 0 (fun _ => none) := ⟨0, .map [], Nat.le_refl _, World.ownsMap_made _ _ _ _, fun k => ⟨rfl, rfl⟩⟩
theorem MapS.lt {w : World} {M N : Nat} {f : ByteArray → Option ByteArray} (h : MapS w M N f) : M < w.heap.size := by
  obtain ⟨n, D, _, h, _⟩ := h.ex
  exact h.lt
theorem MapS.keeps {P : Nat → Prop} {w w' : World} {M N : Nat} {f : ByteArray → Option ByteArray} (h : MapS w M N f) (hk : Kq.Keeps P w w') (hP : ¬ P M) : MapS w' M N f := by
  obtain ⟨n, D, hn, ⟨es, clock, hb, r⟩, hD⟩ := h.ex
  exact ⟨n, D, hn, ⟨es, clock, hk.blk hb hP, r⟩, hD⟩
theorem MapS.below {w w' : World} {M N : Nat} {f : ByteArray → Option ByteArray} (h : MapS w M N f) (hb : Below w.heap.size w w') : MapS w' M N f :=
  h.keeps (P := fun _ => False) (Kq.Keeps.of_below hb (fun j h1 h2 => absurd h1 (Nat.not_le.2 h2))) id
set_option maxRecDepth 100000 in
theorem MapS.look {w : World} {M N : Nat} {f : ByteArray → Option ByteArray} (h : MapS w M N f) (k : ByteArray) (hk : k.size ≤ maxLen) :
    (Instr.lookup 67 (.map (some M)) (.string k) true).run Tryd.prog w = .ok (.tuple #[.string ((f k).getD ⟨#[]⟩), .bool (f k).isSome]) w := by
  obtain ⟨n, D, hn, hown, hD⟩ := h.ex
  obtain ⟨v, ps, hrun, hv⟩ := hown.look_ok lawS Tryd.underlying67 (zeroStrB w) (plainElem_string Tryd.underlying9 (s := ⟨#[]⟩) (by decide)) (WideMaps.keyOf_string_mk Tryd.underlying9 hk)
  obtain ⟨s, rfl, hz, _⟩ := plainElem_string_inv Tryd.underlying9 hv
  obtain ⟨h1, h2⟩ := hD k
  rw [hrun, h1]
  have h3 : D.atKey (.string k.data.toList) (.lit (.string [])) = .lit (.string s.data.toList) := (Prod.mk.inj hz).1
  rw [h2] at h3
  injection h3 with h3
  injection h3 with h3
  have : (f k).getD ⟨#[]⟩ = s := ByteArray.ext (Array.toList_inj.1 h3)
  rw [this]
def updS (f : ByteArray → Option ByteArray) (k s : ByteArray) : ByteArray → Option ByteArray := fun j => if j = k then some s else f j
set_option maxRecDepth 100000 in
theorem MapS.put {w : World} {M N : Nat} {f : ByteArray → Option ByteArray} (h : MapS w M N f) (hN : N < 1000000) (k s : ByteArray) (hk : k.size ≤ maxLen) (hs : s.size ≤ maxLen) :
    ∃ w', (Instr.mapUpdate 67 (.map (some M)) (.string k) (.string s)).run Tryd.prog w = .ok () w' ∧ MapS w' M (N + 1) (updS f k s) ∧ Kq.Keeps (· = M) w w' := by
  obtain ⟨n, D, hn, hown, hD⟩ := h.ex
  obtain ⟨w', hrun, hown', hgr⟩ := hown.update lawS Tryd.underlying67 (by unfold maxLen; omega) (WideMaps.keyOf_string_mk Tryd.underlying9 hk) (plainElem_string Tryd.underlying9 hs)
  refine ⟨w', hrun, ⟨n + 1, _, Nat.succ_le_succ hn, hown', fun j => ?_⟩, Kq.Keeps.grown hgr (fun j _ hj => by cases hj; rfl)⟩
  unfold updS
  by_cases hj : j = k
  · subst hj
    rw [if_pos rfl, has_put_same hown.isMap (k := .string j.data.toList) trivial, atKey_put_same hown.isMap (k := .string j.data.toList) trivial]
    exact ⟨rfl, rfl⟩
  · have hne : (Lit.string j.data.toList) ≠ (Lit.string k.data.toList) := fun e => hj (by injection e with e; exact ByteArray.ext (Array.toList_inj.1 e))
    rw [if_neg hj, has_put_other hne, atKey_put_other hne]
    exact hD j
/-- what a book tells of the texts that were digested -/
def InvB (T : List ByteArray) (f : ByteArray → Option ByteArray) (c : Bool) : Prop := c = false → ∀ t ∈ T, f (dgT t) = some t
theorem InvB.clash {T : List ByteArray} {f : ByteArray → Option ByteArray} {c : Bool} (h : InvB T f c) {t u : ByteArray} (ht : t ∈ T) (hu : u ∈ T) (hd : dgT t = dgT u) (hne : t ≠ u) : c = true := by
  cases c with
  | true => rfl
  | false =>
    exfalso
    have h1 := h rfl t ht
    rw [hd, h rfl u hu] at h1
    exact hne (Option.some.inj h1).symm
theorem InvB.step {T : List ByteArray} {f : ByteArray → Option ByteArray} {c : Bool} (h : InvB T f c) (s : ByteArray) : InvB (s :: T) (updS f (dgT s) s) (c || ((f (dgT s)).isSome && !decide ((f (dgT s)).getD ⟨#[]⟩ = s))) := by
  intro hc t ht
  rw [Bool.or_eq_false_iff] at hc
  unfold updS
  by_cases hd : dgT t = dgT s
  · rw [if_pos hd]
    rcases List.mem_cons.1 ht with rfl | ht
    · rfl
    · have h1 := h hc.1 t ht
      rw [hd] at h1
      have h2 := hc.2
      rw [h1] at h2
      simp at h2
      rw [h2]
  · rw [if_neg hd]
    rcases List.mem_cons.1 ht with rfl | ht
    · exact absurd rfl hd
    · exact h hc.1 t ht
theorem WordsAt.keeps {S : Nat → Prop} {w w' : World} {G : Nat} {l : List Nat} (h : WordsAt w G l) (hk : Kq.Keeps S w w') (hs : ¬ S G) : WordsAt w' G l :=
  ⟨Nat.lt_of_lt_of_le h.1 hk.size, fun i hi => by rw [World.cell?_of_block (hk.block G h.1 hs)]; exact h.2 i hi⟩
structure BookS (w : World) (lo P : Nat) (T : List ByteArray) : Prop where
  ex : ∃ A ca B cb M f c, w.heap[P]? = some (.cells #[.slice (some ⟨A, 0, none⟩) 64 ca, .slice (some ⟨B, 0, none⟩) 8 cb, .map (some M), .bool c] 86 (0, 0)) ∧ WordsAt w A Sh.K ∧ WordsAt w B (toL Sh.H0) ∧ MapS w M T.length f ∧ InvB T f c ∧ (M ≠ P ∧ A ≠ P ∧ B ≠ P ∧ A ≠ M ∧ B ≠ M ∧ lo ≤ M ∧ lo ≤ P)
  len : T.length ≤ 1000
theorem BookS.at {w : World} {lo P : Nat} {T : List ByteArray} (h : BookS w lo P T) : BookAt w P := by
  obtain ⟨A, ca, B, cb, M, f, c, hb, hA, hB, _⟩ := h.ex
  exact ⟨⟨A, ca, B, cb, Kq.blk_cell hb 0, Kq.blk_cell hb 1, hA, hB⟩, Kq.blk_lt hb⟩
theorem BookS.below {w w' : World} {lo P : Nat} {T : List ByteArray} (h : BookS w lo P T) (hb : Below w.heap.size w w') : BookS w' lo P T := by
  obtain ⟨A, ca, B, cb, M, f, c, h1, hA, hB, hM, r⟩ := h.ex
  exact ⟨⟨A, ca, B, cb, M, f, c, Kq.below_blk hb h1 (Kq.blk_lt h1), hA.below hb, hB.below hb, hM.below hb, r⟩, h.len⟩
theorem BookS.lt {w : World} {lo P : Nat} {T : List ByteArray} (h : BookS w lo P T) : P < w.heap.size := h.at.lt
/-- the mark and the entry are written -/
theorem book_close {w : World} {lo P A ca B cb M : Nat} {f : ByteArray → Option ByteArray} {c : Bool} {T : List ByteArray} (hlo : lo ≤ w.heap.size)
    (hb : w.heap[P]? = some (.cells #[.slice (some ⟨A, 0, none⟩) 64 ca, .slice (some ⟨B, 0, none⟩) 8 cb, .map (some M), .bool c] 86 (0, 0))) (hA : WordsAt w A Sh.K) (hB : WordsAt w B (toL Sh.H0)) (hM : MapS w M T.length f)
    (hne : M ≠ P ∧ A ≠ P ∧ B ≠ P ∧ A ≠ M ∧ B ≠ M ∧ lo ≤ M ∧ lo ≤ P) (hT : T.length < 1000) (D s : ByteArray) (hD : D.size ≤ maxLen) (hs : s.size ≤ maxLen) (X : Bool) :
    ∃ w', (Instr.mapUpdate 67 (.map (some M)) (.string D) (.string s)).run Tryd.prog (w.setCell ⟨P, 3, none⟩ (.bool X)) = .ok () w' ∧ Below lo w w' ∧ (InvB (s :: T) (updS f D s) X → BookS w' lo P (s :: T)) := by
  have hk : Kq.Keeps (· = P) w (w.setCell ⟨P, 3, none⟩ (.bool X)) := Kq.Keeps.setCell _ _ _ rfl
  obtain ⟨w', hrun, hM', hk'⟩ := (hM.keeps hk hne.1).put (by omega) D s hD hs
  refine ⟨w', hrun, ((hk.mono (T := fun j => j = P ∨ j = M) (fun j _ e => Or.inl e)).trans (hk'.mono (fun j _ e => Or.inr e))).below hlo (fun j _ hj => ?_), fun hi => ⟨⟨A, ca, B, cb, M, _, X, ?_, ?_, ?_, hM', hi, hne⟩, by simp; omega⟩⟩
  · rcases hj with rfl | rfl
    · exact hne.2.2.2.2.2.2
    · exact hne.2.2.2.2.2.1
  · have h1 : (w.setCell ⟨P, 3, none⟩ (.bool X)).heap[P]? = some (.cells #[.slice (some ⟨A, 0, none⟩) 64 ca, .slice (some ⟨B, 0, none⟩) 8 cb, .map (some M), .bool X] 86 (0, 0)) := Kq.blk_set hb 3 _
    exact hk'.blk h1 (fun e => hne.1 e.symm)
  · exact (hA.keeps hk hne.2.1).keeps hk' hne.2.2.2.1
  · exact (hB.keeps hk hne.2.2.1).keeps hk' hne.2.2.2.2.1
theorem same_dec (a b : ByteArray) : (a.toList == b.toList) = decide (a = b) := by
  by_cases h : a = b
  · subst h; simp
  · rw [decide_eq_false h]
    have : a.toList ≠ b.toList := fun e => h (by rw [Lib.toList_data, Lib.toList_data] at e; exact ByteArray.ext (Array.toList_inj.1 e))
    simpa using this
def BookPost (w : World) (lo P : Nat) (T : List ByteArray) (s : ByteArray) (e : Ending) (w' : World) : Prop := e = .returned (.string (dgT s)) ∧ BookS w' lo P (s :: T) ∧ Below lo w w'
set_option maxRecDepth 100000 in
set_option maxHeartbeats 1000000 in
theorem r_sum (lo P : Nat) (T : List ByteArray) (s : ByteArray) (w : World) (h : BookS w lo P T) (hlo : lo ≤ w.heap.size) (hs : s.size ≤ 900000000) (hT : T.length < 1000) :
    Calls Tryd.prog 55 #[.pointer (some ⟨P, 0, none⟩), .string s] w (BookPost w lo P T s) := by
  have H := Lib.hid h
  clear h
  have HD : Hid ((dgT s).size = 32) := Lib.hid (dgT_size s)
  go_enter Tryd.func55, Tryd.ntmps55
  go_wp2_with fail
  refine (r_digest P s w H.out.at hs).mono ?_
  rintro x w1 ⟨rfl, hb1⟩
  have H1 := Lib.hid (H.out.below hb1)
  have HB1 := Lib.hid hb1
  clear hb1 H
  obtain ⟨A, ca, B, cb, M, f, c, hb, hA, hB, hM, hi, hne⟩ := H1.out.ex
  have c2 := Kq.blk_cell hb 2
  have c3 := Kq.blk_cell hb 3
  have f3 := Kq.blk_free hb 3
  have hl := hM.look (dgT s) (by rw [HD.out]; decide)
  have HC := Lib.hid (fun X => book_close (Nat.le_trans hlo HB1.out.size) hb hA hB hM hne hT (dgT s) s (by rw [HD.out]; decide) (by unfold maxLen; omega) X)
  have HI := Lib.hid (hi.step s)
  have e1 := same_dec ((f (dgT s)).getD ⟨#[]⟩) s
  have hx : txt (Sh.digest (nl s)) = dgT s := rfl
  rw [hx]
  have HX : Hid (∀ w', BookS w' lo P (s :: T) → Below lo w1 w' → BookPost w lo P T s (.returned (.string (dgT s))) w') := Lib.hid (fun w' a b => ⟨rfl, a, (HB1.out.mono hlo).trans b⟩)
  clear hb hA hB hM hi hx hlo hs hT
  generalize dgT s = D at *
  generalize (f D).getD ⟨#[]⟩ = was at *
  generalize (f D).isSome = ok at *
  clear HB1
  have fin : ∀ X, X = (c || ok && !decide (was = s)) → ∃ w', (Instr.mapUpdate 67 (.map (some M)) (.string D) (.string s)).run Tryd.prog (w1.setCell ⟨P, 3, none⟩ (.bool X)) = .ok () w' ∧ BookPost w lo P T s (.returned (.string D)) w' := by
    rintro X rfl
    obtain ⟨w', hrun, hb', hbk⟩ := HC.out (c || ok && !decide (was = s))
    exact ⟨w', hrun, HX.out w' (hbk HI.out) hb'⟩
  have c2' : ∀ X, (w1.setCell ⟨P, 3, none⟩ (.bool X)).cell? ⟨P, 2, none⟩ = some (.map (some M)) := fun X => (World.cell?_setCell_other _ _ _ _ (by simp)).trans c2
  clear HC HI HX
  cases c with
  | true =>
    obtain ⟨w2, hrun, hp⟩ := fin true rfl
    have HP := Lib.hid hp
    clear fin hp
    have c2'' := c2' true
    clear c2'
    go_wp2
    go_ret
    exact HP.out
  | false =>
    cases ok with
    | false =>
      obtain ⟨w2, hrun, hp⟩ := fin false rfl
      have HP := Lib.hid hp
      clear fin hp
      have c2'' := c2' false
      clear c2'
      go_wp2
      go_ret
      exact HP.out
    | true =>
      by_cases hw : was = s
      · rw [decide_eq_true hw] at e1
        obtain ⟨w2, hrun, hp⟩ := fin false (by rw [decide_eq_true hw]; rfl)
        have HP := Lib.hid hp
        clear fin hp hw
        have c2'' := c2' false
        clear c2'
        go_wp2
        go_ret
        exact HP.out
      · rw [decide_eq_false hw] at e1
        obtain ⟨w2, hrun, hp⟩ := fin true (by rw [decide_eq_false hw]; rfl)
        have HP := Lib.hid hp
        clear fin hp hw
        have c2'' := c2' true
        clear c2'
        go_wp2
        go_ret
        exact HP.out
def BNewPost (w : World) (e : Ending) (w' : World) : Prop := ∃ P, e = .returned (.pointer (some ⟨P, 0, none⟩)) ∧ BookS w' w.heap.size P [] ∧ Below w.heap.size w w'
set_option maxRecDepth 100000 in
set_option maxHeartbeats 1000000 in
theorem r_booknew (w : World) : Calls Tryd.prog 24 #[] w (BNewPost w) := by
  go_enter Tryd.func24, Tryd.ntmps24
  go_wp2_with fail
  refine (r_constants w).mono ?_
  rintro e w1 ⟨A, ca, B, cb, rfl, hA, hA1, hB, hB1, hK, hH, hb1⟩
  have H1 := Lib.hid (show WordsAt w1 A Sh.K ∧ WordsAt w1 B (toL Sh.H0) ∧ Below w.heap.size w w1 from ⟨⟨hA1, hK⟩, ⟨hB1, hH⟩, hb1⟩)
  clear hA hA1 hB hB1 hK hH hb1
  have hmm := @run_makeMap Tryd.prog
  go_wp2
  have hb2 := (Kq.below_alloc w1 (.map #[] 0))
  have hb3 := hb2.trans ((Kq.below_alloc (w1.alloc (.map #[] 0)) (.cells #[.slice (some ⟨A, 0, none⟩) 64 ca, .slice (some ⟨B, 0, none⟩) 8 cb, .map (some w1.heap.size), .bool false] 86)).mono hb2.size)
  have HBK : Hid (BookS ((w1.alloc (.map #[] 0)).alloc (.cells #[.slice (some ⟨A, 0, none⟩) 64 ca, .slice (some ⟨B, 0, none⟩) 8 cb, .map (some w1.heap.size), .bool false] 86)) w.heap.size (w1.heap.size + 1) [] ∧ Below w.heap.size w ((w1.alloc (.map #[] 0)).alloc (.cells #[.slice (some ⟨A, 0, none⟩) 64 ca, .slice (some ⟨B, 0, none⟩) 8 cb, .map (some w1.heap.size), .bool false] 86))) := Lib.hid (by
    have hn := Kq.blk_new (w1.alloc (.map #[] 0)) #[.slice (some ⟨A, 0, none⟩) 64 ca, .slice (some ⟨B, 0, none⟩) 8 cb, .map (some w1.heap.size), .bool false] 86 (0, 0)
    rw [show (w1.alloc (.map #[] 0)).heap.size = w1.heap.size + 1 by simp] at hn
    have lA := H1.out.1.1
    have lB := H1.out.2.1.1
    have lw := H1.out.2.2.size
    exact ⟨⟨⟨A, ca, B, cb, w1.heap.size, _, false, hn, H1.out.1.below hb3, H1.out.2.1.below hb3, (MapS.made w1).below (Kq.below_alloc _ _), (fun _ t ht => absurd ht (by simp)), by omega, by omega, by omega, by omega, by omega, by omega, by omega⟩, by simp⟩, H1.out.2.2.trans (hb3.mono H1.out.2.2.size)⟩)
  clear hb2 hb3 hmm
  go_ret
  exact ⟨_, rfl, HBK.out.1, HBK.out.2⟩
end Go.Proofs.YtcknhnbckbocjaaDoor
namespace Go.Proofs.YtcknhnbckbocjaaDoor
open Go.RowKit
set_option linter.unusedVariables false
structure BookW (w : World) (lo hi P : Nat) (T : List ByteArray) : Prop where
  ex : ∃ A ca B cb M f c, w.heap[P]? = some (.cells #[.slice (some ⟨A, 0, none⟩) 64 ca, .slice (some ⟨B, 0, none⟩) 8 cb, .map (some M), .bool c] 86 (0, 0)) ∧ WordsAt w A Sh.K ∧ WordsAt w B (toL Sh.H0) ∧ MapS w M T.length f ∧ InvB T f c ∧ (M ≠ P ∧ A ≠ P ∧ B ≠ P ∧ A ≠ M ∧ B ≠ M ∧ lo ≤ M ∧ lo ≤ P ∧ M < hi ∧ P < hi ∧ A < hi ∧ B < hi)
  len : T.length ≤ 1000
theorem BookW.at {w : World} {lo hi P : Nat} {T : List ByteArray} (h : BookW w lo hi P T) : BookAt w P := by
  obtain ⟨A, ca, B, cb, M, f, c, hb, hA, hB, _⟩ := h.ex
  exact ⟨⟨A, ca, B, cb, Kq.blk_cell hb 0, Kq.blk_cell hb 1, hA, hB⟩, Kq.blk_lt hb⟩
theorem BookW.below {w w' : World} {lo hi P : Nat} {T : List ByteArray} (h : BookW w lo hi P T) (hb : Below w.heap.size w w') : BookW w' lo hi P T := by
  obtain ⟨A, ca, B, cb, M, f, c, h1, hA, hB, hM, r⟩ := h.ex
  exact ⟨⟨A, ca, B, cb, M, f, c, Kq.below_blk hb h1 (Kq.blk_lt h1), hA.below hb, hB.below hb, hM.below hb, r⟩, h.len⟩
/-- the book stays where only blocks above it change -/
theorem BookW.far {w w' : World} {lo hi P B : Nat} {T : List ByteArray} (h : BookW w lo hi P T) (hk : Kq.Keeps (fun g => B ≤ g) w w') (hhi : hi ≤ B) : BookW w' lo hi P T := by
  obtain ⟨A, ca, X, cb, M, f, c, h1, hA, hX, hM, hv, r⟩ := h.ex
  obtain ⟨r1, r2, r3, r4, r5, r6, r7, r8, r9, r10, r11⟩ := r
  exact ⟨⟨A, ca, X, cb, M, f, c, hk.blk h1 (by omega), hA.keeps hk (by omega), hX.keeps hk (by omega), hM.keeps hk (by omega), hv, r1, r2, r3, r4, r5, r6, r7, r8, r9, r10, r11⟩, h.len⟩
theorem BookW.lt {w : World} {lo hi P : Nat} {T : List ByteArray} (h : BookW w lo hi P T) : P < w.heap.size := h.at.lt
/-- the mark and the entry are written -/
theorem book_closeW {w : World} {lo hi P A ca B cb M : Nat} {f : ByteArray → Option ByteArray} {c : Bool} {T : List ByteArray} (hlo : lo ≤ w.heap.size)
    (hb : w.heap[P]? = some (.cells #[.slice (some ⟨A, 0, none⟩) 64 ca, .slice (some ⟨B, 0, none⟩) 8 cb, .map (some M), .bool c] 86 (0, 0))) (hA : WordsAt w A Sh.K) (hB : WordsAt w B (toL Sh.H0)) (hM : MapS w M T.length f)
    (hne : M ≠ P ∧ A ≠ P ∧ B ≠ P ∧ A ≠ M ∧ B ≠ M ∧ lo ≤ M ∧ lo ≤ P ∧ M < hi ∧ P < hi ∧ A < hi ∧ B < hi) (hT : T.length < 1000) (D s : ByteArray) (hD : D.size ≤ maxLen) (hs : s.size ≤ maxLen) (X : Bool) :
    ∃ w', (Instr.mapUpdate 67 (.map (some M)) (.string D) (.string s)).run Tryd.prog (w.setCell ⟨P, 3, none⟩ (.bool X)) = .ok () w' ∧ Kq.Keeps (fun k => lo ≤ k ∧ k < hi) w w' ∧ (InvB (s :: T) (updS f D s) X → BookW w' lo hi P (s :: T)) := by
  have hk : Kq.Keeps (· = P) w (w.setCell ⟨P, 3, none⟩ (.bool X)) := Kq.Keeps.setCell _ _ _ rfl
  obtain ⟨w', hrun, hM', hk'⟩ := (hM.keeps hk hne.1).put (by omega) D s hD hs
  refine ⟨w', hrun, ((hk.mono (T := fun j => j = P ∨ j = M) (fun j _ e => Or.inl e)).trans (hk'.mono (fun j _ e => Or.inr e))).mono (fun j _ hj => ?_), fun hi => ⟨⟨A, ca, B, cb, M, _, X, ?_, ?_, ?_, hM', hi, hne⟩, by simp; omega⟩⟩
  · rcases hj with rfl | rfl
    · exact ⟨hne.2.2.2.2.2.2.1, hne.2.2.2.2.2.2.2.2.1⟩
    · exact ⟨hne.2.2.2.2.2.1, hne.2.2.2.2.2.2.2.1⟩
  · have h1 : (w.setCell ⟨P, 3, none⟩ (.bool X)).heap[P]? = some (.cells #[.slice (some ⟨A, 0, none⟩) 64 ca, .slice (some ⟨B, 0, none⟩) 8 cb, .map (some M), .bool X] 86 (0, 0)) := Kq.blk_set hb 3 _
    exact hk'.blk h1 (fun e => hne.1 e.symm)
  · exact (hA.keeps hk hne.2.1).keeps hk' hne.2.2.2.1
  · exact (hB.keeps hk hne.2.2.1).keeps hk' hne.2.2.2.2.1
def BookWPost (w : World) (lo hi P : Nat) (T : List ByteArray) (s : ByteArray) (e : Ending) (w' : World) : Prop := e = .returned (.string (dgT s)) ∧ BookW w' lo hi P (s :: T) ∧ Kq.Keeps (fun k => lo ≤ k ∧ k < hi) w w'
set_option maxRecDepth 100000 in
set_option maxHeartbeats 1000000 in
theorem r_sumW (lo hi P : Nat) (T : List ByteArray) (s : ByteArray) (w : World) (h : BookW w lo hi P T) (hlo : lo ≤ w.heap.size) (hs : s.size ≤ 900000000) (hT : T.length < 1000) :
    Calls Tryd.prog 55 #[.pointer (some ⟨P, 0, none⟩), .string s] w (BookWPost w lo hi P T s) := by
  have H := Lib.hid h
  clear h
  have HD : Hid ((dgT s).size = 32) := Lib.hid (dgT_size s)
  go_enter Tryd.func55, Tryd.ntmps55
  go_wp2_with fail
  refine (r_digest P s w H.out.at hs).mono ?_
  rintro x w1 ⟨rfl, hb1⟩
  have H1 := Lib.hid (H.out.below hb1)
  have HB1 := Lib.hid hb1
  clear hb1 H
  obtain ⟨A, ca, B, cb, M, f, c, hb, hA, hB, hM, hinv, hne⟩ := H1.out.ex
  have c2 := Kq.blk_cell hb 2
  have c3 := Kq.blk_cell hb 3
  have f3 := Kq.blk_free hb 3
  have hl := hM.look (dgT s) (by rw [HD.out]; decide)
  have HC := Lib.hid (fun X => book_closeW (Nat.le_trans hlo HB1.out.size) hb hA hB hM hne hT (dgT s) s (by rw [HD.out]; decide) (by unfold maxLen; omega) X)
  have HI := Lib.hid (hinv.step s)
  have e1 := same_dec ((f (dgT s)).getD ⟨#[]⟩) s
  have hx : txt (Sh.digest (nl s)) = dgT s := rfl
  rw [hx]
  have HX : Hid (∀ w', BookW w' lo hi P (s :: T) → Kq.Keeps (fun k => lo ≤ k ∧ k < hi) w1 w' → BookWPost w lo hi P T s (.returned (.string (dgT s))) w') := Lib.hid (fun w' a b => ⟨rfl, a, (Kq.Keeps.of_below (S := fun k => lo ≤ k ∧ k < hi) HB1.out (fun k h1 h2 => absurd h2 (Nat.not_lt.2 h1))).trans b⟩)
  clear hb hA hB hM hinv hx hlo hs hT
  generalize dgT s = D at *
  generalize (f D).getD ⟨#[]⟩ = was at *
  generalize (f D).isSome = ok at *
  clear HB1
  have fin : ∀ X, X = (c || ok && !decide (was = s)) → ∃ w', (Instr.mapUpdate 67 (.map (some M)) (.string D) (.string s)).run Tryd.prog (w1.setCell ⟨P, 3, none⟩ (.bool X)) = .ok () w' ∧ BookWPost w lo hi P T s (.returned (.string D)) w' := by
    rintro X rfl
    obtain ⟨w', hrun, hb', hbk⟩ := HC.out (c || ok && !decide (was = s))
    exact ⟨w', hrun, HX.out w' (hbk HI.out) hb'⟩
  have c2' : ∀ X, (w1.setCell ⟨P, 3, none⟩ (.bool X)).cell? ⟨P, 2, none⟩ = some (.map (some M)) := fun X => (World.cell?_setCell_other _ _ _ _ (by simp)).trans c2
  clear HC HI HX
  cases c with
  | true =>
    obtain ⟨w2, hrun, hp⟩ := fin true rfl
    have HP := Lib.hid hp
    clear fin hp
    have c2'' := c2' true
    clear c2'
    go_wp2
    go_ret
    exact HP.out
  | false =>
    cases ok with
    | false =>
      obtain ⟨w2, hrun, hp⟩ := fin false rfl
      have HP := Lib.hid hp
      clear fin hp
      have c2'' := c2' false
      clear c2'
      go_wp2
      go_ret
      exact HP.out
    | true =>
      by_cases hw : was = s
      · rw [decide_eq_true hw] at e1
        obtain ⟨w2, hrun, hp⟩ := fin false (by rw [decide_eq_true hw]; rfl)
        have HP := Lib.hid hp
        clear fin hp hw
        have c2'' := c2' false
        clear c2'
        go_wp2
        go_ret
        exact HP.out
      · rw [decide_eq_false hw] at e1
        obtain ⟨w2, hrun, hp⟩ := fin true (by rw [decide_eq_false hw]; rfl)
        have HP := Lib.hid hp
        clear fin hp hw
        have c2'' := c2' true
        clear c2'
        go_wp2
        go_ret
        exact HP.out
def BNewWPost (w : World) (e : Ending) (w' : World) : Prop := ∃ P, e = .returned (.pointer (some ⟨P, 0, none⟩)) ∧ BookW w' w.heap.size w'.heap.size P [] ∧ Below w.heap.size w w'
set_option maxRecDepth 100000 in
set_option maxHeartbeats 1000000 in
theorem r_booknewW (w : World) : Calls Tryd.prog 24 #[] w (BNewWPost w) := by
  go_enter Tryd.func24, Tryd.ntmps24
  go_wp2_with fail
  refine (r_constants w).mono ?_
  rintro e w1 ⟨A, ca, B, cb, rfl, hA, hA1, hB, hB1, hK, hH, hb1⟩
  have H1 := Lib.hid (show WordsAt w1 A Sh.K ∧ WordsAt w1 B (toL Sh.H0) ∧ Below w.heap.size w w1 from ⟨⟨hA1, hK⟩, ⟨hB1, hH⟩, hb1⟩)
  clear hA hA1 hB hB1 hK hH hb1
  have hmm := @run_makeMap Tryd.prog
  go_wp2
  have hb2 := (Kq.below_alloc w1 (.map #[] 0))
  have hb3 := hb2.trans ((Kq.below_alloc (w1.alloc (.map #[] 0)) (.cells #[.slice (some ⟨A, 0, none⟩) 64 ca, .slice (some ⟨B, 0, none⟩) 8 cb, .map (some w1.heap.size), .bool false] 86)).mono hb2.size)
  have HBK : Hid (BookW ((w1.alloc (.map #[] 0)).alloc (.cells #[.slice (some ⟨A, 0, none⟩) 64 ca, .slice (some ⟨B, 0, none⟩) 8 cb, .map (some w1.heap.size), .bool false] 86)) w.heap.size (w1.heap.size + 2) (w1.heap.size + 1) [] ∧ Below w.heap.size w ((w1.alloc (.map #[] 0)).alloc (.cells #[.slice (some ⟨A, 0, none⟩) 64 ca, .slice (some ⟨B, 0, none⟩) 8 cb, .map (some w1.heap.size), .bool false] 86))) := Lib.hid (by
    have hn := Kq.blk_new (w1.alloc (.map #[] 0)) #[.slice (some ⟨A, 0, none⟩) 64 ca, .slice (some ⟨B, 0, none⟩) 8 cb, .map (some w1.heap.size), .bool false] 86 (0, 0)
    rw [show (w1.alloc (.map #[] 0)).heap.size = w1.heap.size + 1 by simp] at hn
    have lA := H1.out.1.1
    have lB := H1.out.2.1.1
    have lw := H1.out.2.2.size
    exact ⟨⟨⟨A, ca, B, cb, w1.heap.size, _, false, hn, H1.out.1.below hb3, H1.out.2.1.below hb3, (MapS.made w1).below (Kq.below_alloc _ _), (fun _ t ht => absurd ht (by simp)), by omega, by omega, by omega, by omega, by omega, by omega, by omega, by omega, by omega, by omega, by omega⟩, by simp⟩, H1.out.2.2.trans (hb3.mono H1.out.2.2.size)⟩)
  clear hb2 hb3 hmm
  go_ret
  exact ⟨_, rfl, by have h := HBK.out.1; rw [show ((w1.alloc (.map #[] 0)).alloc (.cells #[.slice (some ⟨A, 0, none⟩) 64 ca, .slice (some ⟨B, 0, none⟩) 8 cb, .map (some w1.heap.size), .bool false] 86)).heap.size = w1.heap.size + 2 by simp]; exact h, HBK.out.2⟩
theorem BookWPost.belowLo {w w' : World} {lo hi : Nat} (h : Kq.Keeps (fun k => lo ≤ k ∧ k < hi) w w') (hlo : lo ≤ w.heap.size) : Below lo w w' := h.below hlo (fun k _ hk => hk.1)
theorem book_markedW {w : World} {lo hi P : Nat} {T : List ByteArray} (h : BookW w lo hi P T) {t u : ByteArray} (ht : t ∈ T) (hu : u ∈ T) (hd : dgT t = dgT u) (hne : t ≠ u) : w.cell? ⟨P, 3, none⟩ = some (.bool true) := by
  obtain ⟨A, ca, B, cb, M, f, c, hb, hA, hB, hM, hinv, hn⟩ := h.ex
  have := hinv.clash ht hu hd hne
  subst this
  exact Kq.blk_cell hb 3
theorem book_mark {w : World} {lo hi P : Nat} {T : List ByteArray} (h : BookW w lo hi P T) : ∃ c, w.cell? ⟨P, 3, none⟩ = some (.bool c) := by
  obtain ⟨A, ca, B, cb, M, f, c, hb, _⟩ := h.ex
  exact ⟨c, Kq.blk_cell hb 3⟩
end Go.Proofs.YtcknhnbckbocjaaDoor
