/- Contract of the reference's disk: Do. Condition: sizes. -/
import Derived.WalkSpells
import Derived.Outline
import Derived.Test.YtcnoakngnjbkiaaRfCrash
import Derived.Test.YtcnoakngnjbkiaaRfWrite
import Derived.Test.YtcnoakngnjbkiaaRfRead
namespace Go.Proofs.Ytcnoakngnjbkiaa
open Go.RowKit
set_option linter.unusedVariables false
/-- what a call leaves of the reference's disk -/
def RoP (w : World) (base R a b : Nat) (buf : Value) (ws : List (Int × ByteArray)) (armed : Nat) (st : List Nat) (w' : World) : Prop :=
  ∃ buf', RfS w' base R a b buf' ws (armed : Int) st ∧ Kq.Keeps (· = R) w w' ∧ (∀ j, buf'.ownBlock = some j → buf.ownBlock = some j ∨ w.heap.size ≤ j)
theorem RoP.from {w w0 w' : World} {base R a b : Nat} {buf : Value} {ws : List (Int × ByteArray)} {armed : Nat} {st : List Nat} (hb : Below w.heap.size w w0) (h : RoP w0 base R a b buf ws armed st w') : RoP w base R a b buf ws armed st w' := by
  obtain ⟨buf', h1, h2, h3⟩ := h
  exact ⟨buf', h1, (Kq.Keeps.of_below hb (fun k h1 h2 => absurd h1 (Nat.not_le.2 h2))).trans h2, fun j hj => (h3 j hj).imp id (Nat.le_trans hb.size)⟩
theorem rf_write_all (base R a b : Nat) (buf : Value) (ws : List (Int × ByteArray)) (armed : Nat) (st : List Nat) (k : Int) (s : ByteArray) (w : World) (h : RfS w base R a b buf ws (armed : Int) st)
    (hw : ws.length ≤ 1000000) (har2 : armed ≤ 9223372036854775807) :
    Calls Try.prog 27 #[.pointer (some ⟨R, 0, none⟩), .int .i64 k, .string s] w fun x w' => x = .returned (.int .i64 (wrF a b k s ws armed).2.2) ∧ RoP w base R a b buf (wrF a b k s ws armed).1 (wrF a b k s ws armed).2.1 st w' := by
  unfold wrF
  by_cases hk : 0 ≤ k ∧ k < (b : Int) ∧ s.size = a
  · rw [if_pos hk]
    by_cases ha : armed = 1
    · rw [if_pos ha]
      subst ha
      refine (rf_write_io base R a b buf ws st k s w h hk.1 hk.2.1 hk.2.2).mono ?_
      rintro x w' ⟨rfl, D, K⟩
      exact ⟨rfl, buf, D, K, fun j hj => Or.inl hj⟩
    · rw [if_neg ha]
      refine (rf_write_ok base R a b buf ws armed st k s w h hk.1 hk.2.1 hk.2.2 hw ha har2).mono ?_
      rintro x w' ⟨rfl, buf', D, K, F⟩
      exact ⟨rfl, buf', D, K, fun j hj => Or.inr (F j hj)⟩
  · rw [if_neg hk]
    refine (rf_write_range base R a b buf ws _ st k s w h hk).mono ?_
    rintro x w' ⟨rfl, rfl⟩
    exact ⟨rfl, buf, h, Kq.Keeps.refl _ _, fun j hj => Or.inl hj⟩
theorem rf_flush_all (base R a b : Nat) (buf : Value) (ws : List (Int × ByteArray)) (armed : Nat) (st : List Nat) (w : World) (h : RfS w base R a b buf ws (armed : Int) st) (ho : StOk a b 1000000 ws armed st) (hn : a * b ≤ 3000000) :
    Calls Try.prog 28 #[.pointer (some ⟨R, 0, none⟩)] w fun x w' => x = .returned (.int .i64 (if armed = 1 then (ws, 0, st, (13 : Int)) else ([], armed - 1, flushB a ws st, 0)).2.2.2) ∧
      RoP w base R a b buf (if armed = 1 then (ws, 0, st, (13 : Int)) else ([], armed - 1, flushB a ws st, 0)).1 (if armed = 1 then (ws, 0, st, (13 : Int)) else ([], armed - 1, flushB a ws st, 0)).2.1 (if armed = 1 then (ws, 0, st, (13 : Int)) else ([], armed - 1, flushB a ws st, 0)).2.2.1 w' := by
  by_cases h1 : armed = 1
  · rw [if_pos h1]
    subst h1
    refine (rf_flush_bad base R a b buf ws st w h).mono ?_
    rintro x w' ⟨rfl, D, K⟩
    exact ⟨rfl, buf, D, K, fun j hj => Or.inl hj⟩
  · rw [if_neg h1]
    refine (rf_flush_ok base R a b buf ws armed st w h ho.w ho.len hn ho.nw h1 ho.ar ho.lt).mono ?_
    rintro x w' ⟨rfl, D, K⟩
    exact ⟨rfl, _, D, K, fun j hj => by cases hj⟩
set_option maxRecDepth 100000 in
set_option maxHeartbeats 2000000 in
theorem rdo_write (base R a b : Nat) (buf : Value) (ws : List (Int × ByteArray)) (armed : Nat) (st : List Nat) (c : ActV) (w : World) (h : RfS w base R a b buf ws (armed : Int) st) (ho : StOk a b 1000000 ws armed st) (hn : a * b ≤ 3000000) (ha : 0 < a) (ha2 : a ≤ 1000000)
    (hs : c.s.size ≤ 1000) (hl : c.l.length ≤ 100) (hcw : CwAt w c.la c.l) (hcs : 0 < c.l.length → ∀ g o, c.la = some ⟨g, o, none⟩ → g ≠ R) (hk : c.kind = 0) :
    Calls Try.prog 19 #[.pointer (some ⟨R, 0, none⟩), .agg #[.int .i64 c.kind, .int .i64 c.n, .int .i64 c.long, .string c.s, .slice c.la c.l.length c.lcap]] w fun x w' => x = .returned (.int .i64 (doF a b c ws armed st).2.2.2) ∧ RoP w base R a b buf (doF a b c ws armed st).1 (doF a b c ws armed st).2.1 (doF a b c ws armed st).2.2.1 w' := by
  have HX := Lib.hid (Kq.blk_new w #[.int .i64 c.kind, .int .i64 c.n, .int .i64 c.long, .string c.s, .slice c.la c.l.length c.lcap] 43 (0, 0))
  have HH := Lib.hid (And.intro h (And.intro ho (And.intro hn (And.intro ha ha2))))
  have HC := Lib.hid (And.intro hcw (And.intro hcs (And.intro hs hl)))
  have HF : Hid (doF a b c ws armed st = ((wrF a b c.n (actText c.s c.long) ws armed).1, (wrF a b c.n (actText c.s c.long) ws armed).2.1, st, (wrF a b c.n (actText c.s c.long) ws armed).2.2)) := Lib.hid (by unfold doF; rw [if_pos hk])
  clear h ho hn ha ha2 hcw hcs hs hl
  rw [hk] at HX ⊢
  clear hk
  go_enter Try.func19, Try.ntmps19
  go_wp2
  refine wp_region_any (by kernel_rfl) ?_
  (try (change wpAny _ _ _ _ _ _ _ (World.drew _)))
  obtain ⟨zd, hzd⟩ : ∃ z, z = World.drew (w.alloc (.cells #[.int .i64 0, .int .i64 c.n, .int .i64 c.long, .string c.s, .slice c.la c.l.length c.lcap] 43)) := ⟨_, rfl⟩
  rw [← hzd]
  have HB : Hid (Below w.heap.size w zd) := Lib.hid (by rw [hzd]; exact (Kq.below_alloc _ _).drew)
  have HXD : Hid (zd.heap[w.heap.size]? = some (.cells #[.int .i64 0, .int .i64 c.n, .int .i64 c.long, .string c.s, .slice c.la c.l.length c.lcap] 43 (0, 0))) := Lib.hid (by rw [hzd]; exact HX.out)
  clear hzd
  have c0 := Kq.blk_cell HXD.out 0
  have c1 := Kq.blk_cell HXD.out 1
  have c2 := Kq.blk_cell HXD.out 2
  have c3 := Kq.blk_cell HXD.out 3
  have c4 := Kq.blk_cell HXD.out 4
  refine wpAny_take (i := 0) (v := ?_) rfl (by kernel_rfl) (by kernel_rfl) (by kernel_rfl) (fun _ _ _ h => h) (Or.inl ⟨by kernel_rfl, ?_⟩) ?_
  rotate_left
  · intro w; go_simp; with_reducible rfl
  refine wpAny_take (i := 1) (v := ?_) rfl (by kernel_rfl) (by kernel_rfl) (by kernel_rfl) (fun _ _ _ h => h) (Or.inl ⟨by kernel_rfl, ?_⟩) ?_
  rotate_left
  · intro w; go_simp; with_reducible rfl
  refine wpAny_ready (rs := [2, 3]) (by kernel_rfl) (by simp) ?_
  refine (AllReady.cons rfl (fun K hK => ?_) (AllReady.cons rfl (fun K hK => ?_) AllReady.nil))
  · skip
    go_simp
    (first | (refine hK _ _ ?_; clear hK K) | skip)
    refine wpAny_ready (rs := [3]) (by kernel_rfl) (by simp) ?_
    refine AllReady.cons rfl (fun K hK => ?_) AllReady.nil
    go_simp
    (first | (refine hK _ _ ?_; clear hK K) | skip)
    refine wpAny_ready (rs := [4]) (by kernel_rfl) (by simp) ?_
    refine AllReady.cons rfl (fun K hK => ?_) AllReady.nil
    go_simp
    refine (act_text 0 c.n c.long c.s _ _ HC.out.2.2.1).mono ?_
    rintro e z1 ⟨rfl, hb1⟩
    (first | (refine hK _ _ ?_; clear hK K) | skip)
    have HB1 := Lib.hid (HB.out.trans (hb1.mono HB.out.size))
    have HX1 := Lib.hid (Kq.below_blk hb1 HXD.out (Kq.blk_lt HXD.out))
    clear hb1 c0 c1 c2 c3 c4
    have c1 := Kq.blk_cell HX1.out 1
    refine wpAny_ready (rs := [5]) (by kernel_rfl) (by simp) ?_
    refine AllReady.cons rfl (fun K hK => ?_) AllReady.nil
    go_simp
    refine (rf_write_all base R a b buf ws armed st c.n (actText c.s c.long) _ (HH.out.1.below HB1.out) HH.out.2.1.nw HH.out.2.1.ar).mono ?_
    rintro e z2 ⟨rfl, hd⟩
    (first | (refine hK _ _ ?_; clear hK K) | skip)
    have HD := Lib.hid (hd.from HB1.out)
    clear hd
    refine wpAny_take (i := 6) (v := ?_) rfl (by kernel_rfl) (by kernel_rfl) (by kernel_rfl) (fun _ _ _ h => h) (Or.inl ⟨by kernel_rfl, ?_⟩) ?_
    rotate_left
    · intro w; go_simp; with_reducible rfl
    refine wpAny_done (by kernel_rfl) ?_ _
    go_wp2
    go_ret
    exact ⟨by rw [HF.out]; try rfl, by rw [HF.out]; exact HD.out⟩
  · skip
    go_simp
    (first | (refine hK _ _ ?_; clear hK K) | skip)
    refine wpAny_ready (rs := [2, 4]) (by kernel_rfl) (by simp) ?_
    refine (AllReady.cons rfl (fun K hK => ?_) (AllReady.cons rfl (fun K hK => ?_) AllReady.nil))
    · skip
      go_simp
      (first | (refine hK _ _ ?_; clear hK K) | skip)
      refine wpAny_ready (rs := [4]) (by kernel_rfl) (by simp) ?_
      refine AllReady.cons rfl (fun K hK => ?_) AllReady.nil
      go_simp
      refine (act_text 0 c.n c.long c.s _ _ HC.out.2.2.1).mono ?_
      rintro e z1 ⟨rfl, hb1⟩
      (first | (refine hK _ _ ?_; clear hK K) | skip)
      have HB1 := Lib.hid (HB.out.trans (hb1.mono HB.out.size))
      have HX1 := Lib.hid (Kq.below_blk hb1 HXD.out (Kq.blk_lt HXD.out))
      clear hb1 c0 c1 c2 c3 c4
      have c1 := Kq.blk_cell HX1.out 1
      refine wpAny_ready (rs := [5]) (by kernel_rfl) (by simp) ?_
      refine AllReady.cons rfl (fun K hK => ?_) AllReady.nil
      go_simp
      refine (rf_write_all base R a b buf ws armed st c.n (actText c.s c.long) _ (HH.out.1.below HB1.out) HH.out.2.1.nw HH.out.2.1.ar).mono ?_
      rintro e z2 ⟨rfl, hd⟩
      (first | (refine hK _ _ ?_; clear hK K) | skip)
      have HD := Lib.hid (hd.from HB1.out)
      clear hd
      refine wpAny_take (i := 6) (v := ?_) rfl (by kernel_rfl) (by kernel_rfl) (by kernel_rfl) (fun _ _ _ h => h) (Or.inl ⟨by kernel_rfl, ?_⟩) ?_
      rotate_left
      · intro w; go_simp; with_reducible rfl
      refine wpAny_done (by kernel_rfl) ?_ _
      go_wp2
      go_ret
      exact ⟨by rw [HF.out]; try rfl, by rw [HF.out]; exact HD.out⟩
    · skip
      go_simp
      refine (act_text 0 c.n c.long c.s _ _ HC.out.2.2.1).mono ?_
      rintro e z1 ⟨rfl, hb1⟩
      (first | (refine hK _ _ ?_; clear hK K) | skip)
      have HB1 := Lib.hid (HB.out.trans (hb1.mono HB.out.size))
      have HX1 := Lib.hid (Kq.below_blk hb1 HXD.out (Kq.blk_lt HXD.out))
      clear hb1 c0 c1 c2 c3 c4
      have c1 := Kq.blk_cell HX1.out 1
      refine wpAny_ready (rs := [2]) (by kernel_rfl) (by simp) ?_
      refine AllReady.cons rfl (fun K hK => ?_) AllReady.nil
      go_simp
      (first | (refine hK _ _ ?_; clear hK K) | skip)
      refine wpAny_ready (rs := [5]) (by kernel_rfl) (by simp) ?_
      refine AllReady.cons rfl (fun K hK => ?_) AllReady.nil
      go_simp
      refine (rf_write_all base R a b buf ws armed st c.n (actText c.s c.long) _ (HH.out.1.below HB1.out) HH.out.2.1.nw HH.out.2.1.ar).mono ?_
      rintro e z2 ⟨rfl, hd⟩
      (first | (refine hK _ _ ?_; clear hK K) | skip)
      have HD := Lib.hid (hd.from HB1.out)
      clear hd
      refine wpAny_take (i := 6) (v := ?_) rfl (by kernel_rfl) (by kernel_rfl) (by kernel_rfl) (fun _ _ _ h => h) (Or.inl ⟨by kernel_rfl, ?_⟩) ?_
      rotate_left
      · intro w; go_simp; with_reducible rfl
      refine wpAny_done (by kernel_rfl) ?_ _
      go_wp2
      go_ret
      exact ⟨by rw [HF.out]; try rfl, by rw [HF.out]; exact HD.out⟩
set_option maxRecDepth 100000 in
set_option maxHeartbeats 2000000 in
theorem rdo_flush (base R a b : Nat) (buf : Value) (ws : List (Int × ByteArray)) (armed : Nat) (st : List Nat) (c : ActV) (w : World) (h : RfS w base R a b buf ws (armed : Int) st) (ho : StOk a b 1000000 ws armed st) (hn : a * b ≤ 3000000) (ha : 0 < a) (ha2 : a ≤ 1000000)
    (hs : c.s.size ≤ 1000) (hl : c.l.length ≤ 100) (hcw : CwAt w c.la c.l) (hcs : 0 < c.l.length → ∀ g o, c.la = some ⟨g, o, none⟩ → g ≠ R) (hk : c.kind = 1) :
    Calls Try.prog 19 #[.pointer (some ⟨R, 0, none⟩), .agg #[.int .i64 c.kind, .int .i64 c.n, .int .i64 c.long, .string c.s, .slice c.la c.l.length c.lcap]] w fun x w' => x = .returned (.int .i64 (doF a b c ws armed st).2.2.2) ∧ RoP w base R a b buf (doF a b c ws armed st).1 (doF a b c ws armed st).2.1 (doF a b c ws armed st).2.2.1 w' := by
  have HX := Lib.hid (Kq.blk_new w #[.int .i64 c.kind, .int .i64 c.n, .int .i64 c.long, .string c.s, .slice c.la c.l.length c.lcap] 43 (0, 0))
  have HH := Lib.hid (And.intro h (And.intro ho (And.intro hn (And.intro ha ha2))))
  have HC := Lib.hid (And.intro hcw (And.intro hcs (And.intro hs hl)))
  have HF : Hid (doF a b c ws armed st = (if armed = 1 then (ws, 0, st, (13 : Int)) else ([], armed - 1, flushB a ws st, 0))) := Lib.hid (by unfold doF; rw [if_neg (by omega), if_pos hk])
  clear h ho hn ha ha2 hcw hcs hs hl
  rw [hk] at HX ⊢
  clear hk
  go_enter Try.func19, Try.ntmps19
  go_wp2_with fail
  refine (rf_flush_all base R a b buf ws armed st _ (HH.out.1.below (Kq.below_alloc w _)) HH.out.2.1 HH.out.2.2.1).mono ?_
  rw [← HF.out]
  rintro x w2 ⟨rfl, hd⟩
  have HD := Lib.hid (hd.from (Kq.below_alloc w _))
  clear hd
  go_wp2
  go_ret
  exact ⟨rfl, HD.out⟩
set_option maxRecDepth 100000 in
set_option maxHeartbeats 2000000 in
theorem rdo_arm (base R a b : Nat) (buf : Value) (ws : List (Int × ByteArray)) (armed : Nat) (st : List Nat) (c : ActV) (w : World) (h : RfS w base R a b buf ws (armed : Int) st) (ho : StOk a b 1000000 ws armed st) (hn : a * b ≤ 3000000) (ha : 0 < a) (ha2 : a ≤ 1000000)
    (hs : c.s.size ≤ 1000) (hl : c.l.length ≤ 100) (hcw : CwAt w c.la c.l) (hcs : 0 < c.l.length → ∀ g o, c.la = some ⟨g, o, none⟩ → g ≠ R) (hk : c.kind = 2) :
    Calls Try.prog 19 #[.pointer (some ⟨R, 0, none⟩), .agg #[.int .i64 c.kind, .int .i64 c.n, .int .i64 c.long, .string c.s, .slice c.la c.l.length c.lcap]] w fun x w' => x = .returned (.int .i64 (doF a b c ws armed st).2.2.2) ∧ RoP w base R a b buf (doF a b c ws armed st).1 (doF a b c ws armed st).2.1 (doF a b c ws armed st).2.2.1 w' := by
  have HX := Lib.hid (Kq.blk_new w #[.int .i64 c.kind, .int .i64 c.n, .int .i64 c.long, .string c.s, .slice c.la c.l.length c.lcap] 43 (0, 0))
  have HH := Lib.hid (And.intro h (And.intro ho (And.intro hn (And.intro ha ha2))))
  have HC := Lib.hid (And.intro hcw (And.intro hcs (And.intro hs hl)))
  have HF : Hid (doF a b c ws armed st = (ws, c.n.toNat, st, 0)) := Lib.hid (by unfold doF; rw [if_neg (by omega), if_neg (by omega), if_pos hk])
  clear h ho hn ha ha2 hcw hcs hs hl
  rw [hk] at HX ⊢
  clear hk
  go_enter Try.func19, Try.ntmps19
  go_wp2_with fail
  refine (rf_arm base R a b buf ws _ c.n st _ (HH.out.1.below (Kq.below_alloc w _))).mono ?_
  rintro x w2 ⟨rfl, D, K⟩
  have HD : Hid (RoP w base R a b buf ws c.n.toNat st w2) := Lib.hid (RoP.from (Kq.below_alloc w _) ⟨buf, D, K, fun j hj => Or.inl hj⟩)
  clear D K
  go_wp2
  go_ret
  exact ⟨by rw [HF.out]; rfl, by rw [HF.out]; exact HD.out⟩
set_option maxRecDepth 100000 in
set_option maxHeartbeats 2000000 in
theorem rdo_crash (base R a b : Nat) (buf : Value) (ws : List (Int × ByteArray)) (armed : Nat) (st : List Nat) (c : ActV) (w : World) (h : RfS w base R a b buf ws (armed : Int) st) (ho : StOk a b 1000000 ws armed st) (hn : a * b ≤ 3000000) (ha : 0 < a) (ha2 : a ≤ 1000000)
    (hs : c.s.size ≤ 1000) (hl : c.l.length ≤ 100) (hcw : CwAt w c.la c.l) (hcs : 0 < c.l.length → ∀ g o, c.la = some ⟨g, o, none⟩ → g ≠ R) (hk : c.kind ≠ 0 ∧ c.kind ≠ 1 ∧ c.kind ≠ 2) :
    Calls Try.prog 19 #[.pointer (some ⟨R, 0, none⟩), .agg #[.int .i64 c.kind, .int .i64 c.n, .int .i64 c.long, .string c.s, .slice c.la c.l.length c.lcap]] w fun x w' => x = .returned (.int .i64 (doF a b c ws armed st).2.2.2) ∧ RoP w base R a b buf (doF a b c ws armed st).1 (doF a b c ws armed st).2.1 (doF a b c ws armed st).2.2.1 w' := by
  have HX := Lib.hid (Kq.blk_new w #[.int .i64 c.kind, .int .i64 c.n, .int .i64 c.long, .string c.s, .slice c.la c.l.length c.lcap] 43 (0, 0))
  have HH := Lib.hid (And.intro h (And.intro ho (And.intro hn (And.intro ha ha2))))
  have HC := Lib.hid (And.intro hcw (And.intro hcs (And.intro hs hl)))
  have HF : Hid (doF a b c ws armed st = ([], 0, crashB a ws c.l false st, 0)) := Lib.hid (by unfold doF; rw [if_neg (by omega), if_neg (by omega), if_neg (by omega)])
  have t0 : (c.kind == 0) = false := by simpa using hk.1
  have t1 : (c.kind == 1) = false := by simpa using hk.2.1
  have t2 : (c.kind == 2) = false := by simpa using hk.2.2
  clear h ho hn ha ha2 hcw hcs hs hl hk
  go_enter Try.func19, Try.ntmps19
  go_wp2_with fail
  refine (rf_crash base R a b buf ws _ st c.la c.lcap c.l _ (HH.out.1.below (Kq.below_alloc w _)) HH.out.2.1.w HH.out.2.1.len HH.out.2.2.1 HH.out.2.2.2.1 HH.out.2.2.2.2 HH.out.2.1.nw HH.out.2.1.lt (HC.out.1.below (Kq.below_alloc w _)) HC.out.2.1 (by have := HC.out.2.2.2; omega)).mono ?_
  rintro x w2 ⟨rfl, D, K⟩
  have HD : Hid (RoP w base R a b buf [] 0 (crashB a ws c.l false st) w2) := Lib.hid (RoP.from (Kq.below_alloc w _) ⟨_, D, K, fun j hj => by cases hj⟩)
  clear D K
  go_wp2
  go_ret
  exact ⟨by rw [HF.out]; rfl, by rw [HF.out]; exact HD.out⟩
theorem rf_doo (base R a b : Nat) (buf : Value) (ws : List (Int × ByteArray)) (armed : Nat) (st : List Nat) (c : ActV) (w : World) (h : RfS w base R a b buf ws (armed : Int) st) (ho : StOk a b 1000000 ws armed st) (hn : a * b ≤ 3000000) (ha : 0 < a) (ha2 : a ≤ 1000000)
    (hs : c.s.size ≤ 1000) (hl : c.l.length ≤ 100) (hcw : CwAt w c.la c.l) (hcs : 0 < c.l.length → ∀ g o, c.la = some ⟨g, o, none⟩ → g ≠ R) :
    Calls Try.prog 19 #[.pointer (some ⟨R, 0, none⟩), .agg #[.int .i64 c.kind, .int .i64 c.n, .int .i64 c.long, .string c.s, .slice c.la c.l.length c.lcap]] w fun x w' => x = .returned (.int .i64 (doF a b c ws armed st).2.2.2) ∧ RoP w base R a b buf (doF a b c ws armed st).1 (doF a b c ws armed st).2.1 (doF a b c ws armed st).2.2.1 w' := by
  by_cases k0 : c.kind = 0
  · exact rdo_write base R a b buf ws armed st c w h ho hn ha ha2 hs hl hcw hcs k0
  by_cases k1 : c.kind = 1
  · exact rdo_flush base R a b buf ws armed st c w h ho hn ha ha2 hs hl hcw hcs k1
  by_cases k2 : c.kind = 2
  · exact rdo_arm base R a b buf ws armed st c w h ho hn ha ha2 hs hl hcw hcs k2
  exact rdo_crash base R a b buf ws armed st c w h ho hn ha ha2 hs hl hcw hcs ⟨k0, k1, k2⟩
end Go.Proofs.Ytcnoakngnjbkiaa
