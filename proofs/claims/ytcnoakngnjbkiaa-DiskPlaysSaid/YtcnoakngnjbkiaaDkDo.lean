/- Contract of carracklaw04.do. Condition: sizes. -/
import Derived.WalkSpells
import Derived.Outline
import Derived.Test.YtcnoakngnjbkiaaDkText
namespace Go.Proofs.Ytcnoakngnjbkiaa
open Go.RowKit
set_option linter.unusedVariables false
/-- what a Write makes of what is buffered, and armed; its code -/
def wrF (a b : Nat) (k : Int) (s : ByteArray) (ws : List (Int × ByteArray)) (armed : Nat) : List (Int × ByteArray) × Nat × Int :=
  if 0 ≤ k ∧ k < (b : Int) ∧ s.size = a then (if armed = 1 then (ws, 0, 13) else (ws ++ [(k, s)], armed - 1, 0)) else (ws, armed, 1)
/-- what an act makes of a disk; its code -/
def doF (a b : Nat) (c : ActV) (ws : List (Int × ByteArray)) (armed : Nat) (st : List Nat) : List (Int × ByteArray) × Nat × List Nat × Int :=
  if c.kind = 0 then ((wrF a b c.n (actText c.s c.long) ws armed).1, (wrF a b c.n (actText c.s c.long) ws armed).2.1, st, (wrF a b c.n (actText c.s c.long) ws armed).2.2)
  else if c.kind = 1 then (if armed = 1 then (ws, 0, st, 13) else ([], armed - 1, flushB a ws st, 0))
  else if c.kind = 2 then (ws, c.n.toNat, st, 0)
  else ([], 0, crashB a ws c.l false st, 0)
structure StOk (a b N : Nat) (ws : List (Int × ByteArray)) (armed : Nat) (st : List Nat) : Prop where
  w : WsOk a b ws
  len : st.length = a * b
  lt : ∀ x ∈ st, x < 256
  nw : ws.length ≤ N
  ar : armed ≤ 9223372036854775807
theorem wrF_ok {a b N : Nat} {ws : List (Int × ByteArray)} {armed : Nat} {st : List Nat} (h : StOk a b N ws armed st) (k : Int) (s : ByteArray) : StOk a b (N + 1) (wrF a b k s ws armed).1 (wrF a b k s ws armed).2.1 st := by
  have hn := h.nw
  have ha := h.ar
  unfold wrF
  split
  · rename_i hk
    split
    · exact ⟨h.w, h.len, h.lt, Nat.le_succ_of_le hn, by simp⟩
    · exact ⟨h.w.snoc hk.1 hk.2.1 hk.2.2, h.len, h.lt, by rw [List.length_append, List.length_singleton]; omega, by show armed - 1 ≤ _; omega⟩
  · exact ⟨h.w, h.len, h.lt, by show ws.length ≤ _; omega, h.ar⟩
theorem doF_ok {a b N : Nat} {ws : List (Int × ByteArray)} {armed : Nat} {st : List Nat} (h : StOk a b N ws armed st) (c : ActV) (hw : (Lit.int .i64 c.n).wf = true) : StOk a b (N + 1) (doF a b c ws armed st).1 (doF a b c ws armed st).2.1 (doF a b c ws armed st).2.2.1 := by
  have hn := h.nw
  have ha := h.ar
  unfold doF
  split
  · exact wrF_ok h _ _
  · split
    · split
      · exact ⟨h.w, h.len, h.lt, Nat.le_succ_of_le hn, Nat.zero_le _⟩
      · obtain ⟨q1, q2⟩ := flushB_ok a b ws st h.w h.len h.lt
        exact ⟨WsOk.nil a b, q1, q2, Nat.zero_le _, by show armed - 1 ≤ _; omega⟩
    · split
      · have : c.n ≤ 9223372036854775807 := by
          simp [Lit.wf, IntKind.min, IntKind.max, IntKind.signed, IntKind.bits] at hw; omega
        exact ⟨h.w, h.len, h.lt, by show ws.length ≤ _; omega, by show c.n.toNat ≤ _; omega⟩
      · obtain ⟨q1, q2⟩ := crashB_ok a b ws c.l false st h.w h.len h.lt
        exact ⟨WsOk.nil a b, q1, q2, Nat.zero_le _, Nat.zero_le _⟩
/-- what a call leaves of a disk -/
def DoP (w : World) (base B S a b : Nat) (buf : Value) (ws : List (Int × ByteArray)) (armed : Nat) (st : List Nat) (w' : World) : Prop :=
  ∃ buf', DkS w' base B S a b buf' ws (armed : Int) st ∧ Kq.Keeps (Own B S buf) w w' ∧ (∀ j, buf'.ownBlock = some j → buf.ownBlock = some j ∨ w.heap.size ≤ j)
theorem DoP.from {w w0 w' : World} {base B S a b : Nat} {buf : Value} {ws : List (Int × ByteArray)} {armed : Nat} {st : List Nat} (hb : Below w.heap.size w w0) (h : DoP w0 base B S a b buf ws armed st w') : DoP w base B S a b buf ws armed st w' := by
  obtain ⟨buf', h1, h2, h3⟩ := h
  exact ⟨buf', h1, (Kq.Keeps.of_below hb (fun k h1 h2 => absurd h1 (Nat.not_le.2 h2))).trans h2, fun j hj => (h3 j hj).imp id (Nat.le_trans hb.size)⟩
theorem dk_write_all (base B S a b : Nat) (buf : Value) (ws : List (Int × ByteArray)) (armed : Nat) (st : List Nat) (k : Int) (s : ByteArray) (w : World) (h : DkS w base B S a b buf ws (armed : Int) st)
    (hs : s.size ≤ maxLen) (hw : ws.length ≤ 1000000) (har2 : armed ≤ 9223372036854775807) :
    Calls Try.prog 25 #[.pointer (some ⟨B, 0, none⟩), .int .i64 k, .string s] w fun x w' => x = .returned (.int .i64 (wrF a b k s ws armed).2.2) ∧ DoP w base B S a b buf (wrF a b k s ws armed).1 (wrF a b k s ws armed).2.1 st w' := by
  unfold wrF
  by_cases hk : 0 ≤ k ∧ k < (b : Int) ∧ s.size = a
  · rw [if_pos hk]
    by_cases ha : armed = 1
    · rw [if_pos ha]
      subst ha
      refine (dk_write_io base B S a b buf ws st k s w h hk.1 hk.2.1 hk.2.2).mono ?_
      rintro x w' ⟨rfl, D, K⟩
      exact ⟨rfl, buf, D, K.mono (fun _ _ e => Or.inl e), fun j hj => Or.inl hj⟩
    · rw [if_neg ha]
      exact dk_write base B S a b buf ws armed st k s w h hk.1 hk.2.1 hk.2.2 hw ha har2
  · rw [if_neg hk]
    refine (dk_write_range base B S a b buf ws _ st k s w h hk hs).mono ?_
    rintro x w' ⟨rfl, hb⟩
    exact ⟨rfl, buf, h.below hb, Kq.Keeps.of_below hb (fun k h1 h2 => absurd h1 (Nat.not_le.2 h2)), fun j hj => Or.inl hj⟩
theorem dk_flush_all (base B S a b : Nat) (buf : Value) (ws : List (Int × ByteArray)) (armed : Nat) (st : List Nat) (w : World) (h : DkS w base B S a b buf ws (armed : Int) st) (ho : StOk a b 1000000 ws armed st) (hn : a * b ≤ 3000000) (ha : 0 < a) (ha2 : a ≤ 1000000) :
    Calls Try.prog 23 #[.pointer (some ⟨B, 0, none⟩)] w fun x w' => x = .returned (.int .i64 (if armed = 1 then (ws, 0, st, (13 : Int)) else ([], armed - 1, flushB a ws st, 0)).2.2.2) ∧
      DoP w base B S a b buf (if armed = 1 then (ws, 0, st, (13 : Int)) else ([], armed - 1, flushB a ws st, 0)).1 (if armed = 1 then (ws, 0, st, (13 : Int)) else ([], armed - 1, flushB a ws st, 0)).2.1 (if armed = 1 then (ws, 0, st, (13 : Int)) else ([], armed - 1, flushB a ws st, 0)).2.2.1 w' := by
  by_cases h1 : armed = 1
  · rw [if_pos h1]
    subst h1
    refine (dk_flush_bad base B S a b buf ws st w h).mono ?_
    rintro x w' ⟨rfl, D, K⟩
    exact ⟨rfl, buf, D, K.mono (fun _ _ e => Or.inl e), fun j hj => Or.inl hj⟩
  · rw [if_neg h1]
    refine (dk_flush_ok base B S a b buf ws armed st w h ho.w ho.len hn ha ha2 ho.nw h1 ho.ar ho.lt).mono ?_
    rintro x w' ⟨rfl, D, K⟩
    exact ⟨rfl, _, D, K.mono (fun _ _ e => e.elim Or.inl (fun e => Or.inr (Or.inl e))), fun j hj => by cases hj⟩
set_option maxRecDepth 100000 in
set_option maxHeartbeats 2000000 in
theorem do_write (base B S a b : Nat) (buf : Value) (ws : List (Int × ByteArray)) (armed : Nat) (st : List Nat) (c : ActV) (w : World) (h : DkS w base B S a b buf ws (armed : Int) st) (ho : StOk a b 1000000 ws armed st) (hn : a * b ≤ 3000000) (ha : 0 < a) (ha2 : a ≤ 1000000)
    (hs : c.s.size ≤ 1000) (hl : c.l.length ≤ 100) (hcw : CwAt w c.la c.l) (hcs : 0 < c.l.length → ∀ g o, c.la = some ⟨g, o, none⟩ → g ≠ S) (hk : c.kind = 0) :
    Calls Try.prog 18 #[.pointer (some ⟨B, 0, none⟩), .agg #[.int .i64 c.kind, .int .i64 c.n, .int .i64 c.long, .string c.s, .slice c.la c.l.length c.lcap]] w fun x w' => x = .returned (.int .i64 (doF a b c ws armed st).2.2.2) ∧ DoP w base B S a b buf (doF a b c ws armed st).1 (doF a b c ws armed st).2.1 (doF a b c ws armed st).2.2.1 w' := by
  have HX := Lib.hid (Kq.blk_new w #[.int .i64 c.kind, .int .i64 c.n, .int .i64 c.long, .string c.s, .slice c.la c.l.length c.lcap] 43 (0, 0))
  have HH := Lib.hid (And.intro h (And.intro ho (And.intro hn (And.intro ha ha2))))
  have HC := Lib.hid (And.intro hcw (And.intro hcs (And.intro hs hl)))
  have HF : Hid (doF a b c ws armed st = ((wrF a b c.n (actText c.s c.long) ws armed).1, (wrF a b c.n (actText c.s c.long) ws armed).2.1, st, (wrF a b c.n (actText c.s c.long) ws armed).2.2)) := Lib.hid (by unfold doF; rw [if_pos hk])
  clear h ho hn ha ha2 hcw hcs hs hl
  rw [hk] at HX ⊢
  clear hk
  go_enter Try.func18, Try.ntmps18
  go_wp2
  refine wp_region_any (by kernel_rfl) ?_
  (try (change wpAny _ _ _ _ _ _ _ (World.drew _)))
  obtain ⟨zd, hzd⟩ : ∃ z, z = World.drew (w.alloc (.cells #[.int .i64 0, .int .i64 c.n, .int .i64 c.long, .string c.s, .slice c.la c.l.length c.lcap] 43)) := ⟨_, rfl⟩
  rw [← hzd]
  have HB : Hid (Below w.heap.size w zd) := Lib.hid (by rw [hzd]; exact (Kq.below_alloc _ _).drew)
  have HXD : Hid (zd.heap[w.heap.size]? = some (.cells #[.int .i64 0, .int .i64 c.n, .int .i64 c.long, .string c.s, .slice c.la c.l.length c.lcap] 43 (0, 0))) := Lib.hid (by rw [hzd]; exact HX.out)
  clear hzd
  have c0 := Kq.blk_cell HXD.out 0
  have c1 := Kq.blk_cell HXD.out 1
  have c2 := Kq.blk_cell HXD.out 2
  have c3 := Kq.blk_cell HXD.out 3
  have c4 := Kq.blk_cell HXD.out 4
  refine wpAny_take (i := 0) (v := ?_) rfl (by kernel_rfl) (by kernel_rfl) (by kernel_rfl) (fun _ _ _ h => h) (Or.inl ⟨by kernel_rfl, ?_⟩) ?_
  rotate_left
  · intro w; go_simp; with_reducible rfl
  refine wpAny_take (i := 1) (v := ?_) rfl (by kernel_rfl) (by kernel_rfl) (by kernel_rfl) (fun _ _ _ h => h) (Or.inl ⟨by kernel_rfl, ?_⟩) ?_
  rotate_left
  · intro w; go_simp; with_reducible rfl
  refine wpAny_ready (rs := [2, 3]) (by kernel_rfl) (by simp) ?_
  refine (AllReady.cons rfl (fun K hK => ?_) (AllReady.cons rfl (fun K hK => ?_) AllReady.nil))
  · skip
    go_simp
    (first | (refine hK _ _ ?_; clear hK K) | skip)
    refine wpAny_ready (rs := [3]) (by kernel_rfl) (by simp) ?_
    refine AllReady.cons rfl (fun K hK => ?_) AllReady.nil
    go_simp
    (first | (refine hK _ _ ?_; clear hK K) | skip)
    refine wpAny_ready (rs := [4]) (by kernel_rfl) (by simp) ?_
    refine AllReady.cons rfl (fun K hK => ?_) AllReady.nil
    go_simp
    refine (act_text 0 c.n c.long c.s _ _ HC.out.2.2.1).mono ?_
    rintro e z1 ⟨rfl, hb1⟩
    (first | (refine hK _ _ ?_; clear hK K) | skip)
    have HB1 := Lib.hid (HB.out.trans (hb1.mono HB.out.size))
    have HX1 := Lib.hid (Kq.below_blk hb1 HXD.out (Kq.blk_lt HXD.out))
    clear hb1 c0 c1 c2 c3 c4
    have c1 := Kq.blk_cell HX1.out 1
    refine wpAny_ready (rs := [5]) (by kernel_rfl) (by simp) ?_
    refine AllReady.cons rfl (fun K hK => ?_) AllReady.nil
    go_simp
    refine (dk_write_all base B S a b buf ws armed st c.n (actText c.s c.long) _ (HH.out.1.below HB1.out) (by rw [actText_size]; have := actLen_le c.long; unfold maxLen; omega) HH.out.2.1.nw HH.out.2.1.ar).mono ?_
    rintro e z2 ⟨rfl, hd⟩
    (first | (refine hK _ _ ?_; clear hK K) | skip)
    have HD := Lib.hid (hd.from HB1.out)
    clear hd
    refine wpAny_take (i := 6) (v := ?_) rfl (by kernel_rfl) (by kernel_rfl) (by kernel_rfl) (fun _ _ _ h => h) (Or.inl ⟨by kernel_rfl, ?_⟩) ?_
    rotate_left
    · intro w; go_simp; with_reducible rfl
    refine wpAny_done (by kernel_rfl) ?_ _
    go_wp2
    go_ret
    exact ⟨by rw [HF.out]; try rfl, by rw [HF.out]; exact HD.out⟩
  · skip
    go_simp
    (first | (refine hK _ _ ?_; clear hK K) | skip)
    refine wpAny_ready (rs := [2, 4]) (by kernel_rfl) (by simp) ?_
    refine (AllReady.cons rfl (fun K hK => ?_) (AllReady.cons rfl (fun K hK => ?_) AllReady.nil))
    · skip
      go_simp
      (first | (refine hK _ _ ?_; clear hK K) | skip)
      refine wpAny_ready (rs := [4]) (by kernel_rfl) (by simp) ?_
      refine AllReady.cons rfl (fun K hK => ?_) AllReady.nil
      go_simp
      refine (act_text 0 c.n c.long c.s _ _ HC.out.2.2.1).mono ?_
      rintro e z1 ⟨rfl, hb1⟩
      (first | (refine hK _ _ ?_; clear hK K) | skip)
      have HB1 := Lib.hid (HB.out.trans (hb1.mono HB.out.size))
      have HX1 := Lib.hid (Kq.below_blk hb1 HXD.out (Kq.blk_lt HXD.out))
      clear hb1 c0 c1 c2 c3 c4
      have c1 := Kq.blk_cell HX1.out 1
      refine wpAny_ready (rs := [5]) (by kernel_rfl) (by simp) ?_
      refine AllReady.cons rfl (fun K hK => ?_) AllReady.nil
      go_simp
      refine (dk_write_all base B S a b buf ws armed st c.n (actText c.s c.long) _ (HH.out.1.below HB1.out) (by rw [actText_size]; have := actLen_le c.long; unfold maxLen; omega) HH.out.2.1.nw HH.out.2.1.ar).mono ?_
      rintro e z2 ⟨rfl, hd⟩
      (first | (refine hK _ _ ?_; clear hK K) | skip)
      have HD := Lib.hid (hd.from HB1.out)
      clear hd
      refine wpAny_take (i := 6) (v := ?_) rfl (by kernel_rfl) (by kernel_rfl) (by kernel_rfl) (fun _ _ _ h => h) (Or.inl ⟨by kernel_rfl, ?_⟩) ?_
      rotate_left
      · intro w; go_simp; with_reducible rfl
      refine wpAny_done (by kernel_rfl) ?_ _
      go_wp2
      go_ret
      exact ⟨by rw [HF.out]; try rfl, by rw [HF.out]; exact HD.out⟩
    · skip
      go_simp
      refine (act_text 0 c.n c.long c.s _ _ HC.out.2.2.1).mono ?_
      rintro e z1 ⟨rfl, hb1⟩
      (first | (refine hK _ _ ?_; clear hK K) | skip)
      have HB1 := Lib.hid (HB.out.trans (hb1.mono HB.out.size))
      have HX1 := Lib.hid (Kq.below_blk hb1 HXD.out (Kq.blk_lt HXD.out))
      clear hb1 c0 c1 c2 c3 c4
      have c1 := Kq.blk_cell HX1.out 1
      refine wpAny_ready (rs := [2]) (by kernel_rfl) (by simp) ?_
      refine AllReady.cons rfl (fun K hK => ?_) AllReady.nil
      go_simp
      (first | (refine hK _ _ ?_; clear hK K) | skip)
      refine wpAny_ready (rs := [5]) (by kernel_rfl) (by simp) ?_
      refine AllReady.cons rfl (fun K hK => ?_) AllReady.nil
      go_simp
      refine (dk_write_all base B S a b buf ws armed st c.n (actText c.s c.long) _ (HH.out.1.below HB1.out) (by rw [actText_size]; have := actLen_le c.long; unfold maxLen; omega) HH.out.2.1.nw HH.out.2.1.ar).mono ?_
      rintro e z2 ⟨rfl, hd⟩
      (first | (refine hK _ _ ?_; clear hK K) | skip)
      have HD := Lib.hid (hd.from HB1.out)
      clear hd
      refine wpAny_take (i := 6) (v := ?_) rfl (by kernel_rfl) (by kernel_rfl) (by kernel_rfl) (fun _ _ _ h => h) (Or.inl ⟨by kernel_rfl, ?_⟩) ?_
      rotate_left
      · intro w; go_simp; with_reducible rfl
      refine wpAny_done (by kernel_rfl) ?_ _
      go_wp2
      go_ret
      exact ⟨by rw [HF.out]; try rfl, by rw [HF.out]; exact HD.out⟩
set_option maxRecDepth 100000 in
set_option maxHeartbeats 2000000 in
theorem do_flush (base B S a b : Nat) (buf : Value) (ws : List (Int × ByteArray)) (armed : Nat) (st : List Nat) (c : ActV) (w : World) (h : DkS w base B S a b buf ws (armed : Int) st) (ho : StOk a b 1000000 ws armed st) (hn : a * b ≤ 3000000) (ha : 0 < a) (ha2 : a ≤ 1000000)
    (hs : c.s.size ≤ 1000) (hl : c.l.length ≤ 100) (hcw : CwAt w c.la c.l) (hcs : 0 < c.l.length → ∀ g o, c.la = some ⟨g, o, none⟩ → g ≠ S) (hk : c.kind = 1) :
    Calls Try.prog 18 #[.pointer (some ⟨B, 0, none⟩), .agg #[.int .i64 c.kind, .int .i64 c.n, .int .i64 c.long, .string c.s, .slice c.la c.l.length c.lcap]] w fun x w' => x = .returned (.int .i64 (doF a b c ws armed st).2.2.2) ∧ DoP w base B S a b buf (doF a b c ws armed st).1 (doF a b c ws armed st).2.1 (doF a b c ws armed st).2.2.1 w' := by
  have HX := Lib.hid (Kq.blk_new w #[.int .i64 c.kind, .int .i64 c.n, .int .i64 c.long, .string c.s, .slice c.la c.l.length c.lcap] 43 (0, 0))
  have HH := Lib.hid (And.intro h (And.intro ho (And.intro hn (And.intro ha ha2))))
  have HC := Lib.hid (And.intro hcw (And.intro hcs (And.intro hs hl)))
  have HF : Hid (doF a b c ws armed st = (if armed = 1 then (ws, 0, st, (13 : Int)) else ([], armed - 1, flushB a ws st, 0))) := Lib.hid (by unfold doF; rw [if_neg (by omega), if_pos hk])
  clear h ho hn ha ha2 hcw hcs hs hl
  rw [hk] at HX ⊢
  clear hk
  go_enter Try.func18, Try.ntmps18
  go_wp2_with fail
  refine (dk_flush_all base B S a b buf ws armed st _ (HH.out.1.below (Kq.below_alloc w _)) HH.out.2.1 HH.out.2.2.1 HH.out.2.2.2.1 HH.out.2.2.2.2).mono ?_
  rw [← HF.out]
  rintro x w2 ⟨rfl, hd⟩
  have HD := Lib.hid (hd.from (Kq.below_alloc w _))
  clear hd
  go_wp2
  go_ret
  exact ⟨rfl, HD.out⟩
set_option maxRecDepth 100000 in
set_option maxHeartbeats 2000000 in
theorem do_arm (base B S a b : Nat) (buf : Value) (ws : List (Int × ByteArray)) (armed : Nat) (st : List Nat) (c : ActV) (w : World) (h : DkS w base B S a b buf ws (armed : Int) st) (ho : StOk a b 1000000 ws armed st) (hn : a * b ≤ 3000000) (ha : 0 < a) (ha2 : a ≤ 1000000)
    (hs : c.s.size ≤ 1000) (hl : c.l.length ≤ 100) (hcw : CwAt w c.la c.l) (hcs : 0 < c.l.length → ∀ g o, c.la = some ⟨g, o, none⟩ → g ≠ S) (hk : c.kind = 2) :
    Calls Try.prog 18 #[.pointer (some ⟨B, 0, none⟩), .agg #[.int .i64 c.kind, .int .i64 c.n, .int .i64 c.long, .string c.s, .slice c.la c.l.length c.lcap]] w fun x w' => x = .returned (.int .i64 (doF a b c ws armed st).2.2.2) ∧ DoP w base B S a b buf (doF a b c ws armed st).1 (doF a b c ws armed st).2.1 (doF a b c ws armed st).2.2.1 w' := by
  have HX := Lib.hid (Kq.blk_new w #[.int .i64 c.kind, .int .i64 c.n, .int .i64 c.long, .string c.s, .slice c.la c.l.length c.lcap] 43 (0, 0))
  have HH := Lib.hid (And.intro h (And.intro ho (And.intro hn (And.intro ha ha2))))
  have HC := Lib.hid (And.intro hcw (And.intro hcs (And.intro hs hl)))
  have HF : Hid (doF a b c ws armed st = (ws, c.n.toNat, st, 0)) := Lib.hid (by unfold doF; rw [if_neg (by omega), if_neg (by omega), if_pos hk])
  clear h ho hn ha ha2 hcw hcs hs hl
  rw [hk] at HX ⊢
  clear hk
  go_enter Try.func18, Try.ntmps18
  go_wp2_with fail
  refine (dk_arm base B S a b buf ws _ c.n st _ (HH.out.1.below (Kq.below_alloc w _))).mono ?_
  rintro x w2 ⟨rfl, D, K⟩
  have HD : Hid (DoP w base B S a b buf ws c.n.toNat st w2) := Lib.hid (DoP.from (Kq.below_alloc w _) ⟨buf, D, K.mono (fun _ _ e => Or.inl e), fun j hj => Or.inl hj⟩)
  clear D K
  go_wp2
  go_ret
  exact ⟨by rw [HF.out]; rfl, by rw [HF.out]; exact HD.out⟩
set_option maxRecDepth 100000 in
set_option maxHeartbeats 2000000 in
theorem do_crash (base B S a b : Nat) (buf : Value) (ws : List (Int × ByteArray)) (armed : Nat) (st : List Nat) (c : ActV) (w : World) (h : DkS w base B S a b buf ws (armed : Int) st) (ho : StOk a b 1000000 ws armed st) (hn : a * b ≤ 3000000) (ha : 0 < a) (ha2 : a ≤ 1000000)
    (hs : c.s.size ≤ 1000) (hl : c.l.length ≤ 100) (hcw : CwAt w c.la c.l) (hcs : 0 < c.l.length → ∀ g o, c.la = some ⟨g, o, none⟩ → g ≠ S) (hk : c.kind ≠ 0 ∧ c.kind ≠ 1 ∧ c.kind ≠ 2) :
    Calls Try.prog 18 #[.pointer (some ⟨B, 0, none⟩), .agg #[.int .i64 c.kind, .int .i64 c.n, .int .i64 c.long, .string c.s, .slice c.la c.l.length c.lcap]] w fun x w' => x = .returned (.int .i64 (doF a b c ws armed st).2.2.2) ∧ DoP w base B S a b buf (doF a b c ws armed st).1 (doF a b c ws armed st).2.1 (doF a b c ws armed st).2.2.1 w' := by
  have HX := Lib.hid (Kq.blk_new w #[.int .i64 c.kind, .int .i64 c.n, .int .i64 c.long, .string c.s, .slice c.la c.l.length c.lcap] 43 (0, 0))
  have HH := Lib.hid (And.intro h (And.intro ho (And.intro hn (And.intro ha ha2))))
  have HC := Lib.hid (And.intro hcw (And.intro hcs (And.intro hs hl)))
  have HF : Hid (doF a b c ws armed st = ([], 0, crashB a ws c.l false st, 0)) := Lib.hid (by unfold doF; rw [if_neg (by omega), if_neg (by omega), if_neg (by omega)])
  have t0 : (c.kind == 0) = false := by simpa using hk.1
  have t1 : (c.kind == 1) = false := by simpa using hk.2.1
  have t2 : (c.kind == 2) = false := by simpa using hk.2.2
  clear h ho hn ha ha2 hcw hcs hs hl hk
  go_enter Try.func18, Try.ntmps18
  go_wp2_with fail
  refine (dk_crash base B S a b buf ws _ st c.la c.lcap c.l _ (HH.out.1.below (Kq.below_alloc w _)) HH.out.2.1.w HH.out.2.1.len HH.out.2.2.1 HH.out.2.2.2.1 HH.out.2.2.2.2 HH.out.2.1.nw HH.out.2.1.lt (HC.out.1.below (Kq.below_alloc w _)) HC.out.2.1 (by have := HC.out.2.2.2; omega)).mono ?_
  rintro x w2 ⟨rfl, D, K⟩
  have HD : Hid (DoP w base B S a b buf [] 0 (crashB a ws c.l false st) w2) := Lib.hid (DoP.from (Kq.below_alloc w _) ⟨_, D, K.mono (fun _ _ e => e.elim Or.inl (fun e => Or.inr (Or.inl e))), fun j hj => by cases hj⟩)
  clear D K
  go_wp2
  go_ret
  exact ⟨by rw [HF.out]; rfl, by rw [HF.out]; exact HD.out⟩
theorem dk_do (base B S a b : Nat) (buf : Value) (ws : List (Int × ByteArray)) (armed : Nat) (st : List Nat) (c : ActV) (w : World) (h : DkS w base B S a b buf ws (armed : Int) st) (ho : StOk a b 1000000 ws armed st) (hn : a * b ≤ 3000000) (ha : 0 < a) (ha2 : a ≤ 1000000)
    (hs : c.s.size ≤ 1000) (hl : c.l.length ≤ 100) (hcw : CwAt w c.la c.l) (hcs : 0 < c.l.length → ∀ g o, c.la = some ⟨g, o, none⟩ → g ≠ S) :
    Calls Try.prog 18 #[.pointer (some ⟨B, 0, none⟩), .agg #[.int .i64 c.kind, .int .i64 c.n, .int .i64 c.long, .string c.s, .slice c.la c.l.length c.lcap]] w fun x w' => x = .returned (.int .i64 (doF a b c ws armed st).2.2.2) ∧ DoP w base B S a b buf (doF a b c ws armed st).1 (doF a b c ws armed st).2.1 (doF a b c ws armed st).2.2.1 w' := by
  by_cases k0 : c.kind = 0
  · exact do_write base B S a b buf ws armed st c w h ho hn ha ha2 hs hl hcw hcs k0
  by_cases k1 : c.kind = 1
  · exact do_flush base B S a b buf ws armed st c w h ho hn ha ha2 hs hl hcw hcs k1
  by_cases k2 : c.kind = 2
  · exact do_arm base B S a b buf ws armed st c w h ho hn ha ha2 hs hl hcw hcs k2
  exact do_crash base B S a b buf ws armed st c w h ho hn ha ha2 hs hl hcw hcs ⟨k0, k1, k2⟩
end Go.Proofs.Ytcnoakngnjbkiaa
